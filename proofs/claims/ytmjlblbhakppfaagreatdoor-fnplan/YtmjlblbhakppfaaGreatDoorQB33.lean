/- readRow of the program: from state to state. -/
import Derived.Test.YtmjlblbhakppfaaGreatDoorQB29
import Derived.Test.YtmjlblbhakppfaaGreatDoorQB24
import Derived.Test.YtmjlblbhakppfaaGreatDoorQB00
import Derived.Maps.AppendAt
import Derived.WalkMore
namespace Go.Proofs.YtmjlblbhakppfaaGreatDoor
open Go.RowKit
set_option linter.unusedVariables false
set_option linter.unusedSimpArgs false

theorem start_talk {ms : List ByteArray} {l : List Nd} {op : List Nat} (h1 : ((hdM ms).toList == [101, 110, 100]) = false) (h2 : (if (hdM ms).toList == [114, 101, 99] then skM [32] ms.tail else none) = none) : startS ms l op = if (talkW (hdM ms) ms.tail).1.op = 1 then .inr ⟨2, (talkW (hdM ms) ms.tail).2, l ++ [(talkW (hdM ms) ms.tail).1], op⟩ else talkTo (talkW (hdM ms) ms.tail).2 l op (talkW (hdM ms) ms.tail).1 := by
  unfold startS talkW
  rw [if_neg (by rw [h1]; simp), h2]
  dsimp only
  cases skM [62] ms.tail with
  | some m2 => rfl
  | none =>
    cases skM [33] ms.tail with
    | some m2 => rfl
    | none =>
      cases skM [63] ms.tail with
      | some m2 => rfl
      | none => rfl
theorem wp_of_find {P : Program} {c rest X : Code} {l : Nat} {Q : Exit → Act → World → Prop} {a : Act} {W : World} (h : findLabel c l = some rest) (h2 : findLabel c l = some X) (hw : rest.wp P Q a W) : X.wp P Q a W := by
  rw [h] at h2
  injection h2 with h2
  subst h2
  exact hw
def lenM (W : World) (mb : Nat) : Nat := match W.cell? ⟨mb, 0, none⟩ with
  | some (.slice _ n _) => n
  | _ => 0
theorem len_is {W : World} {mb tb : Nat} {ms : List ByteArray} (h : MsAt W mb tb ms) : lenM W mb = ms.length := by
  obtain ⟨ao, cap, hb, -⟩ := h.at_
  unfold lenM
  rw [hb.cell 0 _ rfl]
def rdM (mb : Nat) (l : Nat) (a : Act) (W : World) : Nat := if l = 2 then 0 else 3 * lenM W mb + (if l = 1 then 1 else 2)
def lpos (l : Nat) (s : Rs) : Prop := (l = 0 ∧ s.pos = 0) ∨ (l = 3 ∧ s.pos = 1) ∨ (l = 1 ∧ s.pos = 2)
theorem rdM_is {mb tb l : Nat} {a : Act} {W : World} {s : Rs} (hp : lpos l s) (h : MsAt W mb tb s.ms) : rdM mb l a W = measR s + 1 := by
  unfold rdM measR
  rw [len_is h]
  rcases hp with ⟨rfl, h⟩ | ⟨rfl, h⟩ | ⟨rfl, h⟩ <;> (rw [h]; simp)
def RdJ (w0 : World) (mv : Value) (mb tb : Nat) (R : Option (List Nd)) (l : Nat) (a : Act) (W : World) : Prop :=
  ∃ (lp : Option Addr) (ln lc : Nat) (ov : Value) (wd : ByteArray) (so : Int) (u9 u10 u11 u12 u13 u14 u15 u16 u17 u18 u19 u20 u21 u22 u23 u24 u25 u26 u27 u28 u29 u30 u31 u32 u33 u34 u35 u36 u37 u38 u39 u40 u41 u42 u43 u44 u45 u46 u47 u48 u49 u50 u51 u52 u53 u54 u55 u56 u57 u58 u59 u60 u61 u62 u63 u64 u65 u66 u67 u68 u69 u70 u71 u72 u73 u74 u75 u76 u77 u78 u79 u80 u81 u82 u83 u84 u85 u86 : Value), a = { tmps := (Value.agg #[mv] :: Value.pointer (some ⟨mb, 0, none⟩) :: Value.slice none 0 0 :: Value.bool false :: (.slice lp ln lc) :: ov :: Value.string wd :: Value.pointer (some ⟨mb + 1, 0, none⟩) :: Value.int .i64 so :: u9 :: u10 :: u11 :: u12 :: u13 :: u14 :: u15 :: u16 :: u17 :: u18 :: u19 :: u20 :: u21 :: u22 :: u23 :: u24 :: u25 :: u26 :: u27 :: u28 :: u29 :: u30 :: u31 :: u32 :: u33 :: u34 :: u35 :: u36 :: u37 :: u38 :: u39 :: u40 :: u41 :: u42 :: u43 :: u44 :: u45 :: u46 :: u47 :: u48 :: u49 :: u50 :: u51 :: u52 :: u53 :: u54 :: u55 :: u56 :: u57 :: u58 :: u59 :: u60 :: u61 :: u62 :: u63 :: u64 :: u65 :: u66 :: u67 :: u68 :: u69 :: u70 :: u71 :: u72 :: u73 :: u74 :: u75 :: u76 :: u77 :: u78 :: u79 :: u80 :: u81 :: u82 :: u83 :: u84 :: u85 :: u86 :: []).toArray, defers := [] } ∧ ((l = 2 ∧ R = none ∧ Below w0.heap.size w0 W) ∨ ∃ s : Rs, lpos l s ∧ readR s = R ∧ RwP s ∧ RwM w0 mb tb s.ms s.l s.op (.slice lp ln lc) ov W)
theorem rdJ_to {w0 : World} {mv : Value} {mb tb : Nat} {R : Option (List Nd)} {l : Nat} {W : World} {lp : Option Addr} {ln lc : Nat} {ov : Value} {wd : ByteArray} {so : Int} {u9 u10 u11 u12 u13 u14 u15 u16 u17 u18 u19 u20 u21 u22 u23 u24 u25 u26 u27 u28 u29 u30 u31 u32 u33 u34 u35 u36 u37 u38 u39 u40 u41 u42 u43 u44 u45 u46 u47 u48 u49 u50 u51 u52 u53 u54 u55 u56 u57 u58 u59 u60 u61 u62 u63 u64 u65 u66 u67 u68 u69 u70 u71 u72 u73 u74 u75 u76 u77 u78 u79 u80 u81 u82 u83 u84 u85 u86 : Value} (s : Rs) (hp : lpos l s) (hr : readR s = R) (h1 : RwP s) (h2 : RwM w0 mb tb s.ms s.l s.op (.slice lp ln lc) ov W) : RdJ w0 mv mb tb R l { tmps := (Value.agg #[mv] :: Value.pointer (some ⟨mb, 0, none⟩) :: Value.slice none 0 0 :: Value.bool false :: (.slice lp ln lc) :: ov :: Value.string wd :: Value.pointer (some ⟨mb + 1, 0, none⟩) :: Value.int .i64 so :: u9 :: u10 :: u11 :: u12 :: u13 :: u14 :: u15 :: u16 :: u17 :: u18 :: u19 :: u20 :: u21 :: u22 :: u23 :: u24 :: u25 :: u26 :: u27 :: u28 :: u29 :: u30 :: u31 :: u32 :: u33 :: u34 :: u35 :: u36 :: u37 :: u38 :: u39 :: u40 :: u41 :: u42 :: u43 :: u44 :: u45 :: u46 :: u47 :: u48 :: u49 :: u50 :: u51 :: u52 :: u53 :: u54 :: u55 :: u56 :: u57 :: u58 :: u59 :: u60 :: u61 :: u62 :: u63 :: u64 :: u65 :: u66 :: u67 :: u68 :: u69 :: u70 :: u71 :: u72 :: u73 :: u74 :: u75 :: u76 :: u77 :: u78 :: u79 :: u80 :: u81 :: u82 :: u83 :: u84 :: u85 :: u86 :: []).toArray, defers := [] } W :=
  ⟨lp, ln, lc, ov, wd, so, u9, u10, u11, u12, u13, u14, u15, u16, u17, u18, u19, u20, u21, u22, u23, u24, u25, u26, u27, u28, u29, u30, u31, u32, u33, u34, u35, u36, u37, u38, u39, u40, u41, u42, u43, u44, u45, u46, u47, u48, u49, u50, u51, u52, u53, u54, u55, u56, u57, u58, u59, u60, u61, u62, u63, u64, u65, u66, u67, u68, u69, u70, u71, u72, u73, u74, u75, u76, u77, u78, u79, u80, u81, u82, u83, u84, u85, u86, rfl, .inr ⟨s, hp, hr, h1, h2⟩⟩
theorem rdJ_no {w0 : World} {mv : Value} {mb tb : Nat} {R : Option (List Nd)} {W : World} {lp : Option Addr} {ln lc : Nat} {ov : Value} {wd : ByteArray} {so : Int} {u9 u10 u11 u12 u13 u14 u15 u16 u17 u18 u19 u20 u21 u22 u23 u24 u25 u26 u27 u28 u29 u30 u31 u32 u33 u34 u35 u36 u37 u38 u39 u40 u41 u42 u43 u44 u45 u46 u47 u48 u49 u50 u51 u52 u53 u54 u55 u56 u57 u58 u59 u60 u61 u62 u63 u64 u65 u66 u67 u68 u69 u70 u71 u72 u73 u74 u75 u76 u77 u78 u79 u80 u81 u82 u83 u84 u85 u86 : Value} (hr : R = none) (h2 : Below w0.heap.size w0 W) : RdJ w0 mv mb tb R 2 { tmps := (Value.agg #[mv] :: Value.pointer (some ⟨mb, 0, none⟩) :: Value.slice none 0 0 :: Value.bool false :: (.slice lp ln lc) :: ov :: Value.string wd :: Value.pointer (some ⟨mb + 1, 0, none⟩) :: Value.int .i64 so :: u9 :: u10 :: u11 :: u12 :: u13 :: u14 :: u15 :: u16 :: u17 :: u18 :: u19 :: u20 :: u21 :: u22 :: u23 :: u24 :: u25 :: u26 :: u27 :: u28 :: u29 :: u30 :: u31 :: u32 :: u33 :: u34 :: u35 :: u36 :: u37 :: u38 :: u39 :: u40 :: u41 :: u42 :: u43 :: u44 :: u45 :: u46 :: u47 :: u48 :: u49 :: u50 :: u51 :: u52 :: u53 :: u54 :: u55 :: u56 :: u57 :: u58 :: u59 :: u60 :: u61 :: u62 :: u63 :: u64 :: u65 :: u66 :: u67 :: u68 :: u69 :: u70 :: u71 :: u72 :: u73 :: u74 :: u75 :: u76 :: u77 :: u78 :: u79 :: u80 :: u81 :: u82 :: u83 :: u84 :: u85 :: u86 :: []).toArray, defers := [] } W :=
  ⟨lp, ln, lc, ov, wd, so, u9, u10, u11, u12, u13, u14, u15, u16, u17, u18, u19, u20, u21, u22, u23, u24, u25, u26, u27, u28, u29, u30, u31, u32, u33, u34, u35, u36, u37, u38, u39, u40, u41, u42, u43, u44, u45, u46, u47, u48, u49, u50, u51, u52, u53, u54, u55, u56, u57, u58, u59, u60, u61, u62, u63, u64, u65, u66, u67, u68, u69, u70, u71, u72, u73, u74, u75, u76, u77, u78, u79, u80, u81, u82, u83, u84, u85, u86, rfl, .inl ⟨rfl, hr, h2⟩⟩
theorem new_box1 (w : World) (cs : List Value) (T : TypeId) : ∀ j u, cs[j]? = some u → (w.alloc (.cells cs.toArray T)).cell? ((⟨w.heap.size, 0, none⟩ : Addr).add j) = some u := fun j u hj => by
  have h := (BoxL.new w cs T).cell j u hj
  have e : (⟨w.heap.size, 0, none⟩ : Addr).add j = ⟨w.heap.size, j, none⟩ := by unfold Addr.add; simp; omega
  rw [e]
  exact h
set_option maxRecDepth 100000 in
set_option maxHeartbeats 4000000 in
theorem rd_label (r0 c0 : Code) (hc0 : Tryz.f42.body = some (.seq r0 (.scope c0))) (w0 : World) (mv : Value) (mb tb : Nat) (R : Option (List Nd)) (s : Rs) (hpos : s.pos = 1) (hr : readR s = R) (hP : RwP s) (lp : Option Addr) (ln lc : Nat) (ov : Value) (wd : ByteArray) (so : Int) (u9 u10 u11 u12 u13 u14 u15 u16 u17 u18 u19 u20 u21 u22 u23 u24 u25 u26 u27 u28 u29 u30 u31 u32 u33 u34 u35 u36 u37 u38 u39 u40 u41 u42 u43 u44 u45 u46 u47 u48 u49 u50 u51 u52 u53 u54 u55 u56 u57 u58 u59 u60 u61 u62 u63 u64 u65 u66 u67 u68 u69 u70 u71 u72 u73 u74 u75 u76 u77 u78 u79 u80 u81 u82 u83 u84 u85 u86 : Value) (W : World) (hM : RwM w0 mb tb s.ms s.l s.op (.slice lp ln lc) ov W) (hsw : SortW w0) (J : Nat → Act → World → Prop) (Q : Exit → Act → World → Prop) (hJ : ∀ l a w, RdJ w0 mv mb tb R l a w → rdM mb l a w < measR s + 1 → J l a w) :
    ∃ rest, findLabel c0 3 = some (.seq .skip rest) ∧ rest.wp Tryz.prog (jumpAll J Q) { tmps := (Value.agg #[mv] :: Value.pointer (some ⟨mb, 0, none⟩) :: Value.slice none 0 0 :: Value.bool false :: (.slice lp ln lc) :: ov :: Value.string wd :: Value.pointer (some ⟨mb + 1, 0, none⟩) :: Value.int .i64 so :: u9 :: u10 :: u11 :: u12 :: u13 :: u14 :: u15 :: u16 :: u17 :: u18 :: u19 :: u20 :: u21 :: u22 :: u23 :: u24 :: u25 :: u26 :: u27 :: u28 :: u29 :: u30 :: u31 :: u32 :: u33 :: u34 :: u35 :: u36 :: u37 :: u38 :: u39 :: u40 :: u41 :: u42 :: u43 :: u44 :: u45 :: u46 :: u47 :: u48 :: u49 :: u50 :: u51 :: u52 :: u53 :: u54 :: u55 :: u56 :: u57 :: u58 :: u59 :: u60 :: u61 :: u62 :: u63 :: u64 :: u65 :: u66 :: u67 :: u68 :: u69 :: u70 :: u71 :: u72 :: u73 :: u74 :: u75 :: u76 :: u77 :: u78 :: u79 :: u80 :: u81 :: u82 :: u83 :: u84 :: u85 :: u86 :: []).toArray, defers := [] } W := by
  obtain ⟨pos, ms, l, op⟩ := s
  simp only at hpos hr hP hM hJ
  subst hpos
  obtain ⟨i, op, rfl⟩ : ∃ i op', op = i :: op' := by
    cases op with
    | nil => exact absurd rfl (hP.ok.ne rfl)
    | cons i op => exact ⟨i, op, rfl⟩
  have hil : i < l.length := hP.ok.lt i List.mem_cons_self
  obtain ⟨g, c, hlv, hgb, hgl⟩ := hM.row.at_ (by omega)
  injection hlv with e1 e2 e3
  subst e1 e2 e3
  obtain ⟨oa, oc, rfl⟩ := owns_shape hM.opn
  obtain ⟨og, hoa, -, -⟩ : ∃ og, oa = some ⟨og, 0, none⟩ ∧ mb + 2 ≤ og ∧ og < W.heap.size := by
    rcases hM.opn.2 with ⟨e, _⟩ | ⟨g', cap, cur, e, hg, hb, _⟩
    · simp at e
    · injection e with e1 e2 e3
      exact ⟨g', e1, hg, (Array.getElem?_eq_some_iff.1 hb).1⟩
  subst hoa
  have o0 : W.cell? ⟨og, op.length, none⟩ = some (.int .i64 (i : Int)) := owns_cell hM.opn rfl op.length _ (by rw [List.reverse_cons, List.map_append, List.getElem?_append_right (by simp)]; simp)
  have r3 : W.cell? ⟨g, i * 5 + 3, none⟩ = some (.int .i64 l[i].many) := owns_cell hM.row rfl (i * 5 + 3) _ (by rw [cells_get hil 3 (by omega)]; rfl)
  have rf : W.frozen? ⟨g, i * 5 + 3, none⟩ = false := by
    rcases hM.row.2 with ⟨e, _⟩ | ⟨g', cap, cur, e, hg, hb, _⟩
    · simp at e
    · injection e with e1 e2 e3
      injection e1 with e1
      injection e1 with e1
      subst e1
      simp [World.frozen?, hb]
  have hmn := hP.mn l[i] (List.getElem_mem hil)
  have hl1 := hP.l1
  have hl2 := hP.l2
  simp only at hl1 hl2
  have H1 := hide (hM.more hil)
  rw [List.length_cons] at H1 ⊢
  obtain ⟨z, hz⟩ : ∃ z, z = l[i].many := ⟨_, rfl⟩
  rw [← hz] at r3 hmn H1
  have hz0 := hmn.1
  have hz1 : z ≤ 30000 := by have := hmn.2; omega
  have HSW : Hid (∀ W, Below w0.heap.size w0 W → SortW W) := hide (fun W hb => hsw.carry hb)
  have HS : Hid (∀ (t : List UInt8) (s : ByteArray) (ms : List ByteArray) (W : World), s = ba t → MsAt W mb tb ms → Calls Tryz.prog 70 #[.pointer (some ⟨mb, 0, none⟩), .string s] W fun e w' => e = .returned (.bool (skM t ms).isSome) ∧ MsAt w' mb tb ((skM t ms).getD ms) ∧ Apart W w' [mb]) := hide (fun t s ms W hs hm => by rw [hs]; exact m_skip t ms W mb tb hm)
  obtain ⟨i0, hi, hiz0, hiz1, hiz2⟩ := info_parts Tryz.infoNd
  have HI := hide (And.intro hi (And.intro hiz0 (And.intro hiz1 hiz2)))
  have HP := hide hP
  have HR := hide hr
  have HJ := hide hJ
  have hll : l.length ≤ 30000 := by omega
  have hol : op.length ≤ 30000 := by simp at hl2; omega
  have HBL : Hid ((bump l i).length = l.length) := hide (bump_len _ _)
  have HMZ := hide hM.mb
  have HZ2 : Hid (mb + 2 ≤ W.heap.size) := hide (by obtain ⟨n, hn⟩ := hM.nod; have := hn.lt; omega)
  unfold Tryz.f42 at hc0
  dsimp only at hc0
  have hc1 := Code.scope.inj (Code.seq.inj (Option.some.inj hc0)).2
  subst hc1
  clear hi hiz0 hiz1 hiz2 hP hr hJ hM hmn hsw hl1 hl2 hz hgl hc0
  refine ⟨_, rfl, ?_⟩
  cases h1 : skM [40] ms.tail with
  | none =>
    have HN : Hid (R = none) := hide (by rw [← HR.out]; exact read_halt (by rw [step_label rfl]; unfold labelS; dsimp only; rw [h1]))
    have H1' := hide h1
    clear h1
    go_wp2_with (first
      | (go_at_call 70; (fail_if_success (have := HR3)); refine (HS.out [40] _ _ _ rfl HR2.out.ms).mono ?_; rw [H1'.out]; rintro e w3 ⟨rfl, hm3, ha3⟩; have HR3 : Hid (RwM w0 mb tb ms.tail (bump l i) (i :: op) (.slice (some ⟨g, 0, none⟩) l.length lc) (.slice (some ⟨og, 0, none⟩) (op.length + 1) oc) w3) := hide (HR2.out.taken hm3 ha3); clear hm3 ha3)
      | (go_at_call 69; (fail_if_success (have := HR2)); refine (m_take ms _ mb tb H1.out.ms).mono ?_; rintro e w2 ⟨rfl, hm2, ha2⟩; have HR2 := hide (H1.out.taken hm2 ha2); clear hm2 ha2))
    go_step3
    exact HJ.out 2 _ _ (rdJ_no HN.out HR3.out.low) (by simp [rdM])
  | some ms2 =>
    have H1' := hide h1
    cases h2 : skM [41] ms2.tail with
    | none =>
      have HN : Hid (R = none) := hide (by rw [← HR.out]; exact read_halt (by rw [step_label rfl]; unfold labelS; dsimp only; rw [h1]; dsimp only; rw [h2]))
      have H2' := hide h2
      clear h1 h2
      go_wp2_with (first
        | (go_at_call 70; (fail_if_success (have := HR8)); refine (HS.out [41] _ _ _ rfl HR7.out.ms).mono ?_; rw [H2'.out]; rintro e w8 ⟨rfl, hm8, ha8⟩; have HR8 : Hid (RwM w0 mb tb ms2.tail (bump l i ++ [⟨4, hdM ms, noT, 0, sortI (hdM ms2)⟩]) (i :: op) (.slice p7 (l.length + 1) c7) (.slice (some ⟨og, 0, none⟩) (op.length + 1) oc) w8) := hide (HR7.out.taken hm8 ha8); clear hm8 ha8)
        | (at_builtin; refine wpList_append_own_at _ rfl (.tmp 62) (.tmp 66) 23 rfl (mb + 2) 45 i0 (.agg #[.int .i64 0, .string ByteArray.empty, .string ByteArray.empty, .int .i64 0, .int .i64 0]) 5 56 Tryz.underlying23 HI.out.1 HI.out.2.1 HI.out.2.2.1 HI.out.2.2.2 rfl (by decide) (.slice (some ⟨g, 0, none⟩) l.length lc) l.length ((bump l i).flatMap Nd.cells) rfl (by have := owns_below HR4.out.row (malloc1 w4 (.cells #[.int .i64 4, .string (hdM ms), .string ⟨#[]⟩, .int .i64 0, .int .i64 (sortI (hdM ms2))] 45)); unfold NdOwn at this; rw [HBL.out] at this; exact this) ⟨w4.heap.size, 0, none⟩ 1 1 (Nd.cells ⟨4, hdM ms, noT, 0, sortI (hdM ms2)⟩) rfl rfl (fun j u hj => new_box1 _ _ _ j u hj) (Nd.cells_one _) (by unfold maxLen; omega) (by omega) (by obtain ⟨n4, hn4⟩ := HR4.out.nod; have := hn4.lt; simp; omega) ?_; intro v7 w7 hown7 hgr7 _ hat7; have HR7 := hide (HR4.out.push (n := ⟨4, hdM ms, noT, 0, sortI (hdM ms2)⟩) _ (by rw [HBL.out]; exact hown7) hgr7 hat7); obtain ⟨p7, c7, rfl⟩ := owns_shape hown7; clear hown7 hgr7 hat7)
        | (go_at_call 72; refine (m_sort _ _ (HSW.out _ HR4.out.low)).mono ?_; rintro e w5 ⟨rfl, hw5⟩; replace hw5 := hw5.symm; subst hw5)
        | (go_at_call 69; (fail_if_success (have := HR4)); refine (m_take ms2 _ mb tb HR3.out.ms).mono ?_; rintro e w4 ⟨rfl, hm4, ha4⟩; have HR4 := hide (HR3.out.taken hm4 ha4); clear hm4 ha4)
        | (go_at_call 70; (fail_if_success (have := HR3)); refine (HS.out [40] _ _ _ rfl HR2.out.ms).mono ?_; rw [H1'.out]; rintro e w3 ⟨rfl, hm3, ha3⟩; have HR3 : Hid (RwM w0 mb tb ms2 (bump l i) (i :: op) (.slice (some ⟨g, 0, none⟩) l.length lc) (.slice (some ⟨og, 0, none⟩) (op.length + 1) oc) w3) := hide (HR2.out.taken hm3 ha3); clear hm3 ha3)
        | (go_at_call 69; (fail_if_success (have := HR2)); refine (m_take ms _ mb tb H1.out.ms).mono ?_; rintro e w2 ⟨rfl, hm2, ha2⟩; have HR2 := hide (H1.out.taken hm2 ha2); clear hm2 ha2))
      go_step3
      exact HJ.out 2 _ _ (rdJ_no HN.out HR8.out.low) (by simp [rdM])
    | some ms3 =>
      have H2' := hide h2
      cases h3 : skM [46] ms3 with
      | none =>
        have HN : Hid (R = none) := hide (by rw [← HR.out]; exact read_halt (by rw [step_label rfl]; unfold labelS; dsimp only; rw [h1]; dsimp only; rw [h2]; dsimp only; rw [h3]))
        have H3' := hide h3
        clear h1 h2 h3
        go_wp2_with (first
          | (go_at_call 70; (fail_if_success (have := HR9)); refine (HS.out [46] _ _ _ rfl HR8.out.ms).mono ?_; rw [H3'.out]; rintro e w9 ⟨rfl, hm9, ha9⟩; have HR9 : Hid (RwM w0 mb tb ms3 (bump l i ++ [⟨4, hdM ms, noT, 0, sortI (hdM ms2)⟩]) (i :: op) (.slice p7 (l.length + 1) c7) (.slice (some ⟨og, 0, none⟩) (op.length + 1) oc) w9) := hide (HR8.out.taken hm9 ha9); clear hm9 ha9)
          | (go_at_call 70; (fail_if_success (have := HR8)); refine (HS.out [41] _ _ _ rfl HR7.out.ms).mono ?_; rw [H2'.out]; rintro e w8 ⟨rfl, hm8, ha8⟩; have HR8 : Hid (RwM w0 mb tb ms3 (bump l i ++ [⟨4, hdM ms, noT, 0, sortI (hdM ms2)⟩]) (i :: op) (.slice p7 (l.length + 1) c7) (.slice (some ⟨og, 0, none⟩) (op.length + 1) oc) w8) := hide (HR7.out.taken hm8 ha8); clear hm8 ha8)
          | (at_builtin; refine wpList_append_own_at _ rfl (.tmp 62) (.tmp 66) 23 rfl (mb + 2) 45 i0 (.agg #[.int .i64 0, .string ByteArray.empty, .string ByteArray.empty, .int .i64 0, .int .i64 0]) 5 56 Tryz.underlying23 HI.out.1 HI.out.2.1 HI.out.2.2.1 HI.out.2.2.2 rfl (by decide) (.slice (some ⟨g, 0, none⟩) l.length lc) l.length ((bump l i).flatMap Nd.cells) rfl (by have := owns_below HR4.out.row (malloc1 w4 (.cells #[.int .i64 4, .string (hdM ms), .string ⟨#[]⟩, .int .i64 0, .int .i64 (sortI (hdM ms2))] 45)); unfold NdOwn at this; rw [HBL.out] at this; exact this) ⟨w4.heap.size, 0, none⟩ 1 1 (Nd.cells ⟨4, hdM ms, noT, 0, sortI (hdM ms2)⟩) rfl rfl (fun j u hj => new_box1 _ _ _ j u hj) (Nd.cells_one _) (by unfold maxLen; omega) (by omega) (by obtain ⟨n4, hn4⟩ := HR4.out.nod; have := hn4.lt; simp; omega) ?_; intro v7 w7 hown7 hgr7 _ hat7; have HR7 := hide (HR4.out.push (n := ⟨4, hdM ms, noT, 0, sortI (hdM ms2)⟩) _ (by rw [HBL.out]; exact hown7) hgr7 hat7); obtain ⟨p7, c7, rfl⟩ := owns_shape hown7; clear hown7 hgr7 hat7)
          | (go_at_call 72; refine (m_sort _ _ (HSW.out _ HR4.out.low)).mono ?_; rintro e w5 ⟨rfl, hw5⟩; replace hw5 := hw5.symm; subst hw5)
          | (go_at_call 69; (fail_if_success (have := HR4)); refine (m_take ms2 _ mb tb HR3.out.ms).mono ?_; rintro e w4 ⟨rfl, hm4, ha4⟩; have HR4 := hide (HR3.out.taken hm4 ha4); clear hm4 ha4)
          | (go_at_call 70; (fail_if_success (have := HR3)); refine (HS.out [40] _ _ _ rfl HR2.out.ms).mono ?_; rw [H1'.out]; rintro e w3 ⟨rfl, hm3, ha3⟩; have HR3 : Hid (RwM w0 mb tb ms2 (bump l i) (i :: op) (.slice (some ⟨g, 0, none⟩) l.length lc) (.slice (some ⟨og, 0, none⟩) (op.length + 1) oc) w3) := hide (HR2.out.taken hm3 ha3); clear hm3 ha3)
          | (go_at_call 69; (fail_if_success (have := HR2)); refine (m_take ms _ mb tb H1.out.ms).mono ?_; rintro e w2 ⟨rfl, hm2, ha2⟩; have HR2 := hide (H1.out.taken hm2 ha2); clear hm2 ha2))
        go_step3
        exact HJ.out 2 _ _ (rdJ_no HN.out HR9.out.low) (by simp [rdM])
      | some ms4 =>
        have HST : Hid (stepR ⟨1, ms, l, i :: op⟩ = .inr ⟨0, ms4, bump l i ++ [⟨4, hdM ms, noT, 0, sortI (hdM ms2)⟩], i :: op⟩) := hide (by rw [step_label rfl]; unfold labelS; dsimp only; rw [h1]; dsimp only; rw [h2]; dsimp only; rw [h3]; rfl)
        have H3' := hide h3
        clear h1 h2 h3
        go_wp2_with (first
          | (go_at_call 70; (fail_if_success (have := HR9)); refine (HS.out [46] _ _ _ rfl HR8.out.ms).mono ?_; rw [H3'.out]; rintro e w9 ⟨rfl, hm9, ha9⟩; have HR9 : Hid (RwM w0 mb tb ms4 (bump l i ++ [⟨4, hdM ms, noT, 0, sortI (hdM ms2)⟩]) (i :: op) (.slice p7 (l.length + 1) c7) (.slice (some ⟨og, 0, none⟩) (op.length + 1) oc) w9) := hide (HR8.out.taken hm9 ha9); clear hm9 ha9)
          | (go_at_call 70; (fail_if_success (have := HR8)); refine (HS.out [41] _ _ _ rfl HR7.out.ms).mono ?_; rw [H2'.out]; rintro e w8 ⟨rfl, hm8, ha8⟩; have HR8 : Hid (RwM w0 mb tb ms3 (bump l i ++ [⟨4, hdM ms, noT, 0, sortI (hdM ms2)⟩]) (i :: op) (.slice p7 (l.length + 1) c7) (.slice (some ⟨og, 0, none⟩) (op.length + 1) oc) w8) := hide (HR7.out.taken hm8 ha8); clear hm8 ha8)
          | (at_builtin; refine wpList_append_own_at _ rfl (.tmp 62) (.tmp 66) 23 rfl (mb + 2) 45 i0 (.agg #[.int .i64 0, .string ByteArray.empty, .string ByteArray.empty, .int .i64 0, .int .i64 0]) 5 56 Tryz.underlying23 HI.out.1 HI.out.2.1 HI.out.2.2.1 HI.out.2.2.2 rfl (by decide) (.slice (some ⟨g, 0, none⟩) l.length lc) l.length ((bump l i).flatMap Nd.cells) rfl (by have := owns_below HR4.out.row (malloc1 w4 (.cells #[.int .i64 4, .string (hdM ms), .string ⟨#[]⟩, .int .i64 0, .int .i64 (sortI (hdM ms2))] 45)); unfold NdOwn at this; rw [HBL.out] at this; exact this) ⟨w4.heap.size, 0, none⟩ 1 1 (Nd.cells ⟨4, hdM ms, noT, 0, sortI (hdM ms2)⟩) rfl rfl (fun j u hj => new_box1 _ _ _ j u hj) (Nd.cells_one _) (by unfold maxLen; omega) (by omega) (by obtain ⟨n4, hn4⟩ := HR4.out.nod; have := hn4.lt; simp; omega) ?_; intro v7 w7 hown7 hgr7 _ hat7; have HR7 := hide (HR4.out.push (n := ⟨4, hdM ms, noT, 0, sortI (hdM ms2)⟩) _ (by rw [HBL.out]; exact hown7) hgr7 hat7); obtain ⟨p7, c7, rfl⟩ := owns_shape hown7; clear hown7 hgr7 hat7)
          | (go_at_call 72; refine (m_sort _ _ (HSW.out _ HR4.out.low)).mono ?_; rintro e w5 ⟨rfl, hw5⟩; replace hw5 := hw5.symm; subst hw5)
          | (go_at_call 69; (fail_if_success (have := HR4)); refine (m_take ms2 _ mb tb HR3.out.ms).mono ?_; rintro e w4 ⟨rfl, hm4, ha4⟩; have HR4 := hide (HR3.out.taken hm4 ha4); clear hm4 ha4)
          | (go_at_call 70; (fail_if_success (have := HR3)); refine (HS.out [40] _ _ _ rfl HR2.out.ms).mono ?_; rw [H1'.out]; rintro e w3 ⟨rfl, hm3, ha3⟩; have HR3 : Hid (RwM w0 mb tb ms2 (bump l i) (i :: op) (.slice (some ⟨g, 0, none⟩) l.length lc) (.slice (some ⟨og, 0, none⟩) (op.length + 1) oc) w3) := hide (HR2.out.taken hm3 ha3); clear hm3 ha3)
          | (go_at_call 69; (fail_if_success (have := HR2)); refine (m_take ms _ mb tb H1.out.ms).mono ?_; rintro e w2 ⟨rfl, hm2, ha2⟩; have HR2 := hide (H1.out.taken hm2 ha2); clear hm2 ha2))
        go_step3
        refine HJ.out 0 _ _ (rdJ_to ⟨0, ms4, bump l i ++ [⟨4, hdM ms, noT, 0, sortI (hdM ms2)⟩], i :: op⟩ (.inl ⟨rfl, rfl⟩) (by rw [← read_step HST.out]; exact HR.out) (rwp_step HP.out HST.out) HR9.out) ?_
        rw [rdM_is (s := ⟨0, ms4, bump l i ++ [⟨4, hdM ms, noT, 0, sortI (hdM ms2)⟩], i :: op⟩) (.inl ⟨rfl, rfl⟩) HR9.out.ms]
        have := step_meas HST.out
        omega
end Go.Proofs.YtmjlblbhakppfaaGreatDoor
