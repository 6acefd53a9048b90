import Derived.Test.YtmjlblbhakppfaaGreatDoorQP23
import Derived.Maps.AppendAt
import Derived.Test.YtmjlblbhakppfaaGreatDoorQP18
import Derived.Test.YtmjlblbhakppfaaGreatDoorQP00
import Derived.WalkMore
import Derived.Test.YtmjlblbhakppfaaGreatDoorQP19
import Derived.Deep.QuietTactic
import Derived.BigQuiet
import Derived.Deep.LoopGhost
import Derived.Test.YtmjlblbhakppfaaGreatDoorQP25
namespace Go.Proofs.YtmjlblbhakppfaaGreatDoor
open Go.RowKit
set_option linter.unusedSimpArgs false

def inR (r : Int) : Bool := decide (r < 128) && (letB r || digB r || r == 95)
theorem in_word (r : Int) (w : World) (h0 : 0 ≤ r) (h1 : r ≤ 1114111) :
    Calls Tryz.prog 73 #[.int .i32 r] w fun e w' => e = .returned (.bool (inR r)) ∧ w' = w := by
  by_cases hr : r < 128
  · have hw : IntKind.u8.wrap r = r := by simp [IntKind.wrap, IntKind.bits, IntKind.signed]; omega
    have hng : ¬ 128 ≤ r := by omega
    obtain ⟨q1, hq1⟩ : ∃ q, letB r = q := ⟨_, rfl⟩
    obtain ⟨q2, hq2⟩ : ∃ q, digB r = q := ⟨_, rfl⟩
    have HL : Hid (∀ W, Calls Tryz.prog 86 #[.int .u8 r] W fun e w' => e = .returned (.bool q1) ∧ w' = W) := hide (fun W => by rw [← hq1]; exact is_letter r W)
    have HD : Hid (∀ W, Calls Tryz.prog 87 #[.int .u8 r] W fun e w' => e = .returned (.bool q2) ∧ w' = W) := hide (fun W => by rw [← hq2]; exact is_digit r W)
    have HQ : Hid (inR r = (q1 || q2 || r == 95)) := hide (by unfold inR; rw [hq1, hq2, decide_eq_true hr, Bool.true_and])
    clear hq1 hq2
    cases q1
    · cases q2
      · go_enter Tryz.func73, Tryz.ntmps73
        go_wp2_with (first
          | (go_at_call 87; refine (HD.out _).mono ?_; rintro e w2 ⟨rfl, rfl⟩)
          | (go_at_call 86; refine (HL.out _).mono ?_; rintro e w1 ⟨rfl, rfl⟩))
        go_ret
        exact ⟨ret_bool (by rw [HQ.out]; rfl), rfl⟩
      · go_enter Tryz.func73, Tryz.ntmps73
        go_wp2_with (first
          | (go_at_call 87; refine (HD.out _).mono ?_; rintro e w2 ⟨rfl, rfl⟩)
          | (go_at_call 86; refine (HL.out _).mono ?_; rintro e w1 ⟨rfl, rfl⟩))
        go_ret
        exact ⟨ret_bool (by rw [HQ.out]; rfl), rfl⟩
    · go_enter Tryz.func73, Tryz.ntmps73
      go_wp2_with (first
        | (go_at_call 86; refine (HL.out _).mono ?_; rintro e w1 ⟨rfl, rfl⟩))
      go_ret
      exact ⟨ret_bool (by rw [HQ.out]; rfl), rfl⟩
  · have HQ : Hid (inR r = false) := hide (by unfold inR; rw [decide_eq_false hr]; rfl)
    go_enter Tryz.func73, Tryz.ntmps73
    go_wp2_with fail
    go_ret
    exact ⟨ret_bool HQ.out, rfl⟩
def SwOwn (w : World) (base : Nat) (v : Value) (l : List ByteArray) : Prop := w.ownsRow base 9 1 v l.length (l.map Value.string)
def ByOwn (w : World) (base : Nat) (v : Value) (l : List UInt8) : Prop := w.ownsRow base 5 1 v l.length (l.map fun c => .int .u8 (c.toNat : Int))
theorem Tryz.infoStr : (Tryz.prog.info? 9).map (fun i => (i.zero, i.size, i.bytes)) = some (some (.string ⟨#[]⟩), 1, 16) := by kernel_rfl
set_option maxRecDepth 100000 in
theorem add_word (all : List ByteArray) (wd : List UInt8) (av wv : Value) (w : World) (base : Nat) (hl : all.length ≤ 30000) (hl2 : wd.length ≤ 30000) (hb : base ≤ w.heap.size) (ha : SwOwn w base av all) (hw : ByOwn w base wv wd) :
    Calls Tryz.prog 74 #[av, wv] w fun e w' => ∃ v', e = .returned v' ∧ SwOwn w' base v' (addW all wd) ∧ Apart w w' (vblocks av) ∧ ∀ b ∈ vblocks v', b ∈ vblocks av ∨ w.heap.size ≤ b := by
  have HA := hide ha
  have HW := hide hw
  obtain ⟨ap, ac, rfl⟩ := owns_shape ha
  obtain ⟨wp, wc, rfl⟩ := owns_shape hw
  by_cases hne : wd = []
  · subst hne
    clear ha hw
    go_enter Tryz.func74, Tryz.ntmps74
    go_wp2_with fail
    go_ret
    exact ⟨_, rfl, HA.out, (Apart.refl _).sub (by simp), fun b hb => .inl hb⟩
  · have hpos : 0 < wd.length := by cases wd with | nil => exact absurd rfl hne | cons a b => simp
    obtain ⟨g, hg⟩ : ∃ g, wp = some ⟨g, 0, none⟩ := by
      rcases hw.2 with ⟨e, h0⟩ | ⟨g, cap, cur, e, _⟩
      · omega
      · injection e with e1 e2 e3
        exact ⟨g, e1⟩
    subst hg
    have hcv : (convert 22 9 (.slice (some ⟨g, 0, none⟩) wd.length wc)).run Tryz.prog w = .ok (.string (ba wd)) w := by
      refine run_convert_bytes_back (P := Tryz.prog) w 22 9 5 ⟨g, 0, none⟩ wc wd Tryz.underlying22 Tryz.underlying5 Tryz.underlying9 (fun j hj => ?_)
      have := owns_cell hw rfl j (.int .u8 (wd[j].toNat : Int)) (by rw [List.getElem?_map, List.getElem?_eq_getElem hj]; rfl)
      have e : (⟨g, 0, none⟩ : Addr).add j = ⟨g, j, none⟩ := by unfold Addr.add; simp; omega
      rw [e]
      exact this
    obtain ⟨s, hs⟩ : ∃ s, ba wd = s := ⟨_, rfl⟩
    rw [hs] at hcv
    have HS := hide hs
    have HNE := hide hne
    have hnz : ¬ (wd.length : Int) = 0 := by omega
    obtain ⟨i0, hi, hz0, hz1, hz2⟩ := info_parts Tryz.infoStr
    have HI := hide (And.intro hi (And.intro hz0 (And.intro hz1 hz2)))
    clear hi hz0 hz1 hz2 ha hw hs hne
    go_enter Tryz.func74, Tryz.ntmps74
    go_wp2_with (at_builtin; refine wpList_append_own_at _ rfl (.tmp 9) (.tmp 12) 30 rfl base 9 i0 (.string ⟨#[]⟩) 1 16 Tryz.underlying30 HI.out.1 HI.out.2.1 HI.out.2.2.1 HI.out.2.2.2 rfl (by decide) (.slice ap all.length ac) all.length (all.map Value.string) rfl (owns_below HA.out (malloc1 _ _)) ⟨w.heap.size, 0, none⟩ 1 1 [.string s] rfl rfl (cell_one_new _ _ _) (by simp [Value.oneCell']) (by unfold maxLen; omega) (by omega) (by simp; omega) ?_; intro v7 w7 hown7 hgr7 _ hat7; have HR7 := hide (row_sub HA.out _ hown7 hgr7 hat7); have HO7 := hide hown7; obtain ⟨p7, c7, rfl⟩ := owns_shape hown7; clear hown7 hgr7 hat7)
    go_ret
    refine ⟨_, rfl, ?_, HR7.out.1, HR7.out.2⟩
    rw [add_some HNE.out, HS.out]
    unfold SwOwn
    rw [List.length_append, List.map_append]
    exact HO7.out
end Go.Proofs.YtmjlblbhakppfaaGreatDoor
namespace Go.Proofs.YtmjlblbhakppfaaGreatDoor
open Go.RowKit
set_option linter.unusedVariables false
set_option linter.unusedSimpArgs false

theorem start_talk {ms : List ByteArray} {l : List Nd} {op : List Nat} (h1 : ((hdM ms).toList == [101, 110, 100]) = false) (h2 : (if (hdM ms).toList == [114, 101, 99] then skM [32] ms.tail else none) = none) : startS ms l op = if (talkW (hdM ms) ms.tail).1.op = 1 then .inr ⟨2, (talkW (hdM ms) ms.tail).2, l ++ [(talkW (hdM ms) ms.tail).1], op⟩ else talkTo (talkW (hdM ms) ms.tail).2 l op (talkW (hdM ms) ms.tail).1 := by
  unfold startS talkW
  rw [if_neg (by rw [h1]; simp), h2]
  dsimp only
  cases skM [62] ms.tail with
  | some m2 => rfl
  | none =>
    cases skM [33] ms.tail with
    | some m2 => rfl
    | none =>
      cases skM [63] ms.tail with
      | some m2 => rfl
      | none => rfl
def lenM (W : World) (mb : Nat) : Nat := match W.cell? ⟨mb, 0, none⟩ with
  | some (.slice _ n _) => n
  | _ => 0
theorem len_is {W : World} {mb tb : Nat} {ms : List ByteArray} (h : MsAt W mb tb ms) : lenM W mb = ms.length := by
  obtain ⟨ao, cap, hb, -⟩ := h.at_
  unfold lenM
  rw [hb.cell 0 _ rfl]
def rdM (mb : Nat) (l : Nat) (a : Act) (W : World) : Nat := if l = 2 then 0 else 3 * lenM W mb + (if l = 1 then 1 else 2)
def lpos (l : Nat) (s : Rs) : Prop := (l = 0 ∧ s.pos = 0) ∨ (l = 3 ∧ s.pos = 1) ∨ (l = 1 ∧ s.pos = 2)
theorem rdM_is {mb tb l : Nat} {a : Act} {W : World} {s : Rs} (hp : lpos l s) (h : MsAt W mb tb s.ms) : rdM mb l a W = measR s + 1 := by
  unfold rdM measR
  rw [len_is h]
  rcases hp with ⟨rfl, h⟩ | ⟨rfl, h⟩ | ⟨rfl, h⟩ <;> (rw [h]; simp)
def RdJ (w0 : World) (mv : Value) (mb tb : Nat) (R : Option (List Nd)) (l : Nat) (a : Act) (W : World) : Prop :=
  ∃ (lp : Option Addr) (ln lc : Nat) (ov : Value) (wd : ByteArray) (so : Int) (u9 u10 u11 u12 u13 u14 u15 u16 u17 u18 u19 u20 u21 u22 u23 u24 u25 u26 u27 u28 u29 u30 u31 u32 u33 u34 u35 u36 u37 u38 u39 u40 u41 u42 u43 u44 u45 u46 u47 u48 u49 u50 u51 u52 u53 u54 u55 u56 u57 u58 u59 u60 u61 u62 u63 u64 u65 u66 u67 u68 u69 u70 u71 u72 u73 u74 u75 u76 u77 u78 u79 u80 u81 u82 u83 u84 u85 u86 : Value), a = { tmps := (Value.agg #[mv] :: Value.pointer (some ⟨mb, 0, none⟩) :: Value.slice none 0 0 :: Value.bool false :: (.slice lp ln lc) :: ov :: Value.string wd :: Value.pointer (some ⟨mb + 1, 0, none⟩) :: Value.int .i64 so :: u9 :: u10 :: u11 :: u12 :: u13 :: u14 :: u15 :: u16 :: u17 :: u18 :: u19 :: u20 :: u21 :: u22 :: u23 :: u24 :: u25 :: u26 :: u27 :: u28 :: u29 :: u30 :: u31 :: u32 :: u33 :: u34 :: u35 :: u36 :: u37 :: u38 :: u39 :: u40 :: u41 :: u42 :: u43 :: u44 :: u45 :: u46 :: u47 :: u48 :: u49 :: u50 :: u51 :: u52 :: u53 :: u54 :: u55 :: u56 :: u57 :: u58 :: u59 :: u60 :: u61 :: u62 :: u63 :: u64 :: u65 :: u66 :: u67 :: u68 :: u69 :: u70 :: u71 :: u72 :: u73 :: u74 :: u75 :: u76 :: u77 :: u78 :: u79 :: u80 :: u81 :: u82 :: u83 :: u84 :: u85 :: u86 :: []).toArray, defers := [] } ∧ ((l = 2 ∧ R = none ∧ Below w0.heap.size w0 W) ∨ ∃ s : Rs, lpos l s ∧ readR s = R ∧ RwP s ∧ RwM w0 mb tb s.ms s.l s.op (.slice lp ln lc) ov W)
theorem rdJ_to {w0 : World} {mv : Value} {mb tb : Nat} {R : Option (List Nd)} {l : Nat} {W : World} {lp : Option Addr} {ln lc : Nat} {ov : Value} {wd : ByteArray} {so : Int} {u9 u10 u11 u12 u13 u14 u15 u16 u17 u18 u19 u20 u21 u22 u23 u24 u25 u26 u27 u28 u29 u30 u31 u32 u33 u34 u35 u36 u37 u38 u39 u40 u41 u42 u43 u44 u45 u46 u47 u48 u49 u50 u51 u52 u53 u54 u55 u56 u57 u58 u59 u60 u61 u62 u63 u64 u65 u66 u67 u68 u69 u70 u71 u72 u73 u74 u75 u76 u77 u78 u79 u80 u81 u82 u83 u84 u85 u86 : Value} (s : Rs) (hp : lpos l s) (hr : readR s = R) (h1 : RwP s) (h2 : RwM w0 mb tb s.ms s.l s.op (.slice lp ln lc) ov W) : RdJ w0 mv mb tb R l { tmps := (Value.agg #[mv] :: Value.pointer (some ⟨mb, 0, none⟩) :: Value.slice none 0 0 :: Value.bool false :: (.slice lp ln lc) :: ov :: Value.string wd :: Value.pointer (some ⟨mb + 1, 0, none⟩) :: Value.int .i64 so :: u9 :: u10 :: u11 :: u12 :: u13 :: u14 :: u15 :: u16 :: u17 :: u18 :: u19 :: u20 :: u21 :: u22 :: u23 :: u24 :: u25 :: u26 :: u27 :: u28 :: u29 :: u30 :: u31 :: u32 :: u33 :: u34 :: u35 :: u36 :: u37 :: u38 :: u39 :: u40 :: u41 :: u42 :: u43 :: u44 :: u45 :: u46 :: u47 :: u48 :: u49 :: u50 :: u51 :: u52 :: u53 :: u54 :: u55 :: u56 :: u57 :: u58 :: u59 :: u60 :: u61 :: u62 :: u63 :: u64 :: u65 :: u66 :: u67 :: u68 :: u69 :: u70 :: u71 :: u72 :: u73 :: u74 :: u75 :: u76 :: u77 :: u78 :: u79 :: u80 :: u81 :: u82 :: u83 :: u84 :: u85 :: u86 :: []).toArray, defers := [] } W :=
  ⟨lp, ln, lc, ov, wd, so, u9, u10, u11, u12, u13, u14, u15, u16, u17, u18, u19, u20, u21, u22, u23, u24, u25, u26, u27, u28, u29, u30, u31, u32, u33, u34, u35, u36, u37, u38, u39, u40, u41, u42, u43, u44, u45, u46, u47, u48, u49, u50, u51, u52, u53, u54, u55, u56, u57, u58, u59, u60, u61, u62, u63, u64, u65, u66, u67, u68, u69, u70, u71, u72, u73, u74, u75, u76, u77, u78, u79, u80, u81, u82, u83, u84, u85, u86, rfl, .inr ⟨s, hp, hr, h1, h2⟩⟩
theorem rdJ_no {w0 : World} {mv : Value} {mb tb : Nat} {R : Option (List Nd)} {W : World} {lp : Option Addr} {ln lc : Nat} {ov : Value} {wd : ByteArray} {so : Int} {u9 u10 u11 u12 u13 u14 u15 u16 u17 u18 u19 u20 u21 u22 u23 u24 u25 u26 u27 u28 u29 u30 u31 u32 u33 u34 u35 u36 u37 u38 u39 u40 u41 u42 u43 u44 u45 u46 u47 u48 u49 u50 u51 u52 u53 u54 u55 u56 u57 u58 u59 u60 u61 u62 u63 u64 u65 u66 u67 u68 u69 u70 u71 u72 u73 u74 u75 u76 u77 u78 u79 u80 u81 u82 u83 u84 u85 u86 : Value} (hr : R = none) (h2 : Below w0.heap.size w0 W) : RdJ w0 mv mb tb R 2 { tmps := (Value.agg #[mv] :: Value.pointer (some ⟨mb, 0, none⟩) :: Value.slice none 0 0 :: Value.bool false :: (.slice lp ln lc) :: ov :: Value.string wd :: Value.pointer (some ⟨mb + 1, 0, none⟩) :: Value.int .i64 so :: u9 :: u10 :: u11 :: u12 :: u13 :: u14 :: u15 :: u16 :: u17 :: u18 :: u19 :: u20 :: u21 :: u22 :: u23 :: u24 :: u25 :: u26 :: u27 :: u28 :: u29 :: u30 :: u31 :: u32 :: u33 :: u34 :: u35 :: u36 :: u37 :: u38 :: u39 :: u40 :: u41 :: u42 :: u43 :: u44 :: u45 :: u46 :: u47 :: u48 :: u49 :: u50 :: u51 :: u52 :: u53 :: u54 :: u55 :: u56 :: u57 :: u58 :: u59 :: u60 :: u61 :: u62 :: u63 :: u64 :: u65 :: u66 :: u67 :: u68 :: u69 :: u70 :: u71 :: u72 :: u73 :: u74 :: u75 :: u76 :: u77 :: u78 :: u79 :: u80 :: u81 :: u82 :: u83 :: u84 :: u85 :: u86 :: []).toArray, defers := [] } W :=
  ⟨lp, ln, lc, ov, wd, so, u9, u10, u11, u12, u13, u14, u15, u16, u17, u18, u19, u20, u21, u22, u23, u24, u25, u26, u27, u28, u29, u30, u31, u32, u33, u34, u35, u36, u37, u38, u39, u40, u41, u42, u43, u44, u45, u46, u47, u48, u49, u50, u51, u52, u53, u54, u55, u56, u57, u58, u59, u60, u61, u62, u63, u64, u65, u66, u67, u68, u69, u70, u71, u72, u73, u74, u75, u76, u77, u78, u79, u80, u81, u82, u83, u84, u85, u86, rfl, .inl ⟨rfl, hr, h2⟩⟩
theorem new_box1 (w : World) (cs : List Value) (T : TypeId) : ∀ j u, cs[j]? = some u → (w.alloc (.cells cs.toArray T)).cell? ((⟨w.heap.size, 0, none⟩ : Addr).add j) = some u := fun j u hj => by
  have h := (BoxL.new w cs T).cell j u hj
  have e : (⟨w.heap.size, 0, none⟩ : Addr).add j = ⟨w.heap.size, j, none⟩ := by unfold Addr.add; simp; omega
  rw [e]
  exact h
set_option maxRecDepth 100000 in
set_option maxHeartbeats 4000000 in
theorem rd_label (r0 c0 : Code) (hc0 : Tryz.f42.body = some (.seq r0 (.scope c0))) (w0 : World) (mv : Value) (mb tb : Nat) (R : Option (List Nd)) (s : Rs) (hpos : s.pos = 1) (hr : readR s = R) (hP : RwP s) (lp : Option Addr) (ln lc : Nat) (ov : Value) (wd : ByteArray) (so : Int) (u9 u10 u11 u12 u13 u14 u15 u16 u17 u18 u19 u20 u21 u22 u23 u24 u25 u26 u27 u28 u29 u30 u31 u32 u33 u34 u35 u36 u37 u38 u39 u40 u41 u42 u43 u44 u45 u46 u47 u48 u49 u50 u51 u52 u53 u54 u55 u56 u57 u58 u59 u60 u61 u62 u63 u64 u65 u66 u67 u68 u69 u70 u71 u72 u73 u74 u75 u76 u77 u78 u79 u80 u81 u82 u83 u84 u85 u86 : Value) (W : World) (hM : RwM w0 mb tb s.ms s.l s.op (.slice lp ln lc) ov W) (hsw : SortW w0) (J : Nat → Act → World → Prop) (Q : Exit → Act → World → Prop) (hJ : ∀ l a w, RdJ w0 mv mb tb R l a w → rdM mb l a w < measR s + 1 → J l a w) :
    ∃ rest, findLabel c0 3 = some (.seq .skip rest) ∧ rest.wp Tryz.prog (jumpAll J Q) { tmps := (Value.agg #[mv] :: Value.pointer (some ⟨mb, 0, none⟩) :: Value.slice none 0 0 :: Value.bool false :: (.slice lp ln lc) :: ov :: Value.string wd :: Value.pointer (some ⟨mb + 1, 0, none⟩) :: Value.int .i64 so :: u9 :: u10 :: u11 :: u12 :: u13 :: u14 :: u15 :: u16 :: u17 :: u18 :: u19 :: u20 :: u21 :: u22 :: u23 :: u24 :: u25 :: u26 :: u27 :: u28 :: u29 :: u30 :: u31 :: u32 :: u33 :: u34 :: u35 :: u36 :: u37 :: u38 :: u39 :: u40 :: u41 :: u42 :: u43 :: u44 :: u45 :: u46 :: u47 :: u48 :: u49 :: u50 :: u51 :: u52 :: u53 :: u54 :: u55 :: u56 :: u57 :: u58 :: u59 :: u60 :: u61 :: u62 :: u63 :: u64 :: u65 :: u66 :: u67 :: u68 :: u69 :: u70 :: u71 :: u72 :: u73 :: u74 :: u75 :: u76 :: u77 :: u78 :: u79 :: u80 :: u81 :: u82 :: u83 :: u84 :: u85 :: u86 :: []).toArray, defers := [] } W := by
  obtain ⟨pos, ms, l, op⟩ := s
  simp only at hpos hr hP hM hJ
  subst hpos
  obtain ⟨i, op, rfl⟩ : ∃ i op', op = i :: op' := by
    cases op with
    | nil => exact absurd rfl (hP.ok.ne rfl)
    | cons i op => exact ⟨i, op, rfl⟩
  have hil : i < l.length := hP.ok.lt i List.mem_cons_self
  obtain ⟨g, c, hlv, hgb, hgl⟩ := hM.row.at_ (by omega)
  injection hlv with e1 e2 e3
  subst e1 e2 e3
  obtain ⟨oa, oc, rfl⟩ := owns_shape hM.opn
  obtain ⟨og, hoa, -, -⟩ : ∃ og, oa = some ⟨og, 0, none⟩ ∧ mb + 2 ≤ og ∧ og < W.heap.size := by
    rcases hM.opn.2 with ⟨e, _⟩ | ⟨g', cap, cur, e, hg, hb, _⟩
    · simp at e
    · injection e with e1 e2 e3
      exact ⟨g', e1, hg, (Array.getElem?_eq_some_iff.1 hb).1⟩
  subst hoa
  have o0 : W.cell? ⟨og, op.length, none⟩ = some (.int .i64 (i : Int)) := owns_cell hM.opn rfl op.length _ (by rw [List.reverse_cons, List.map_append, List.getElem?_append_right (by simp)]; simp)
  have r3 : W.cell? ⟨g, i * 5 + 3, none⟩ = some (.int .i64 l[i].many) := owns_cell hM.row rfl (i * 5 + 3) _ (by rw [cells_get hil 3 (by omega)]; rfl)
  have rf : W.frozen? ⟨g, i * 5 + 3, none⟩ = false := by
    rcases hM.row.2 with ⟨e, _⟩ | ⟨g', cap, cur, e, hg, hb, _⟩
    · simp at e
    · injection e with e1 e2 e3
      injection e1 with e1
      injection e1 with e1
      subst e1
      simp [World.frozen?, hb]
  have hmn := hP.mn l[i] (List.getElem_mem hil)
  have hl1 := hP.l1
  have hl2 := hP.l2
  simp only at hl1 hl2
  have H1 := hide (hM.more hil)
  rw [List.length_cons] at H1 ⊢
  obtain ⟨z, hz⟩ : ∃ z, z = l[i].many := ⟨_, rfl⟩
  rw [← hz] at r3 hmn H1
  have hz0 := hmn.1
  have hz1 : z ≤ 30000 := by have := hmn.2; omega
  have HSW : Hid (∀ W, Below w0.heap.size w0 W → SortW W) := hide (fun W hb => hsw.carry hb)
  have HS : Hid (∀ (t : List UInt8) (s : ByteArray) (ms : List ByteArray) (W : World), s = ba t → MsAt W mb tb ms → Calls Tryz.prog 70 #[.pointer (some ⟨mb, 0, none⟩), .string s] W fun e w' => e = .returned (.bool (skM t ms).isSome) ∧ MsAt w' mb tb ((skM t ms).getD ms) ∧ Apart W w' [mb]) := hide (fun t s ms W hs hm => by rw [hs]; exact m_skip t ms W mb tb hm)
  obtain ⟨i0, hi, hiz0, hiz1, hiz2⟩ := info_parts Tryz.infoNd
  have HI := hide (And.intro hi (And.intro hiz0 (And.intro hiz1 hiz2)))
  have HP := hide hP
  have HR := hide hr
  have HJ := hide hJ
  have hll : l.length ≤ 30000 := by omega
  have hol : op.length ≤ 30000 := by simp at hl2; omega
  have HBL : Hid ((bump l i).length = l.length) := hide (bump_len _ _)
  have HMZ := hide hM.mb
  have HZ2 : Hid (mb + 2 ≤ W.heap.size) := hide (by obtain ⟨n, hn⟩ := hM.nod; have := hn.lt; omega)
  unfold Tryz.f42 at hc0
  dsimp only at hc0
  have hc1 := Code.scope.inj (Code.seq.inj (Option.some.inj hc0)).2
  subst hc1
  clear hi hiz0 hiz1 hiz2 hP hr hJ hM hmn hsw hl1 hl2 hz hgl hc0
  refine ⟨_, rfl, ?_⟩
  cases h1 : skM [40] ms.tail with
  | none =>
    have HN : Hid (R = none) := hide (by rw [← HR.out]; exact read_halt (by rw [step_label rfl]; unfold labelS; dsimp only; rw [h1]))
    have H1' := hide h1
    clear h1
    go_wp2_with (first
      | (go_at_call 70; (fail_if_success (have := HR3)); refine (HS.out [40] _ _ _ rfl HR2.out.ms).mono ?_; rw [H1'.out]; rintro e w3 ⟨rfl, hm3, ha3⟩; have HR3 : Hid (RwM w0 mb tb ms.tail (bump l i) (i :: op) (.slice (some ⟨g, 0, none⟩) l.length lc) (.slice (some ⟨og, 0, none⟩) (op.length + 1) oc) w3) := hide (HR2.out.taken hm3 ha3); clear hm3 ha3)
      | (go_at_call 69; (fail_if_success (have := HR2)); refine (m_take ms _ mb tb H1.out.ms).mono ?_; rintro e w2 ⟨rfl, hm2, ha2⟩; have HR2 := hide (H1.out.taken hm2 ha2); clear hm2 ha2))
    go_step3
    exact HJ.out 2 _ _ (rdJ_no HN.out HR3.out.low) (by simp [rdM])
  | some ms2 =>
    have H1' := hide h1
    cases h2 : skM [41] ms2.tail with
    | none =>
      have HN : Hid (R = none) := hide (by rw [← HR.out]; exact read_halt (by rw [step_label rfl]; unfold labelS; dsimp only; rw [h1]; dsimp only; rw [h2]))
      have H2' := hide h2
      clear h1 h2
      go_wp2_with (first
        | (go_at_call 70; (fail_if_success (have := HR8)); refine (HS.out [41] _ _ _ rfl HR7.out.ms).mono ?_; rw [H2'.out]; rintro e w8 ⟨rfl, hm8, ha8⟩; have HR8 : Hid (RwM w0 mb tb ms2.tail (bump l i ++ [⟨4, hdM ms, noT, 0, sortI (hdM ms2)⟩]) (i :: op) (.slice p7 (l.length + 1) c7) (.slice (some ⟨og, 0, none⟩) (op.length + 1) oc) w8) := hide (HR7.out.taken hm8 ha8); clear hm8 ha8)
        | (at_builtin; refine wpList_append_own_at _ rfl (.tmp 62) (.tmp 66) 23 rfl (mb + 2) 45 i0 (.agg #[.int .i64 0, .string ByteArray.empty, .string ByteArray.empty, .int .i64 0, .int .i64 0]) 5 56 Tryz.underlying23 HI.out.1 HI.out.2.1 HI.out.2.2.1 HI.out.2.2.2 rfl (by decide) (.slice (some ⟨g, 0, none⟩) l.length lc) l.length ((bump l i).flatMap Nd.cells) rfl (by have := owns_below HR4.out.row (malloc1 w4 (.cells #[.int .i64 4, .string (hdM ms), .string ⟨#[]⟩, .int .i64 0, .int .i64 (sortI (hdM ms2))] 45)); unfold NdOwn at this; rw [HBL.out] at this; exact this) ⟨w4.heap.size, 0, none⟩ 1 1 (Nd.cells ⟨4, hdM ms, noT, 0, sortI (hdM ms2)⟩) rfl rfl (fun j u hj => new_box1 _ _ _ j u hj) (Nd.cells_one _) (by unfold maxLen; omega) (by omega) (by obtain ⟨n4, hn4⟩ := HR4.out.nod; have := hn4.lt; simp; omega) ?_; intro v7 w7 hown7 hgr7 _ hat7; have HR7 := hide (HR4.out.push (n := ⟨4, hdM ms, noT, 0, sortI (hdM ms2)⟩) _ (by rw [HBL.out]; exact hown7) hgr7 hat7); obtain ⟨p7, c7, rfl⟩ := owns_shape hown7; clear hown7 hgr7 hat7)
        | (go_at_call 72; refine (m_sort _ _ (HSW.out _ HR4.out.low)).mono ?_; rintro e w5 ⟨rfl, hw5⟩; replace hw5 := hw5.symm; subst hw5)
        | (go_at_call 69; (fail_if_success (have := HR4)); refine (m_take ms2 _ mb tb HR3.out.ms).mono ?_; rintro e w4 ⟨rfl, hm4, ha4⟩; have HR4 := hide (HR3.out.taken hm4 ha4); clear hm4 ha4)
        | (go_at_call 70; (fail_if_success (have := HR3)); refine (HS.out [40] _ _ _ rfl HR2.out.ms).mono ?_; rw [H1'.out]; rintro e w3 ⟨rfl, hm3, ha3⟩; have HR3 : Hid (RwM w0 mb tb ms2 (bump l i) (i :: op) (.slice (some ⟨g, 0, none⟩) l.length lc) (.slice (some ⟨og, 0, none⟩) (op.length + 1) oc) w3) := hide (HR2.out.taken hm3 ha3); clear hm3 ha3)
        | (go_at_call 69; (fail_if_success (have := HR2)); refine (m_take ms _ mb tb H1.out.ms).mono ?_; rintro e w2 ⟨rfl, hm2, ha2⟩; have HR2 := hide (H1.out.taken hm2 ha2); clear hm2 ha2))
      go_step3
      exact HJ.out 2 _ _ (rdJ_no HN.out HR8.out.low) (by simp [rdM])
    | some ms3 =>
      have H2' := hide h2
      cases h3 : skM [46] ms3 with
      | none =>
        have HN : Hid (R = none) := hide (by rw [← HR.out]; exact read_halt (by rw [step_label rfl]; unfold labelS; dsimp only; rw [h1]; dsimp only; rw [h2]; dsimp only; rw [h3]))
        have H3' := hide h3
        clear h1 h2 h3
        go_wp2_with (first
          | (go_at_call 70; (fail_if_success (have := HR9)); refine (HS.out [46] _ _ _ rfl HR8.out.ms).mono ?_; rw [H3'.out]; rintro e w9 ⟨rfl, hm9, ha9⟩; have HR9 : Hid (RwM w0 mb tb ms3 (bump l i ++ [⟨4, hdM ms, noT, 0, sortI (hdM ms2)⟩]) (i :: op) (.slice p7 (l.length + 1) c7) (.slice (some ⟨og, 0, none⟩) (op.length + 1) oc) w9) := hide (HR8.out.taken hm9 ha9); clear hm9 ha9)
          | (go_at_call 70; (fail_if_success (have := HR8)); refine (HS.out [41] _ _ _ rfl HR7.out.ms).mono ?_; rw [H2'.out]; rintro e w8 ⟨rfl, hm8, ha8⟩; have HR8 : Hid (RwM w0 mb tb ms3 (bump l i ++ [⟨4, hdM ms, noT, 0, sortI (hdM ms2)⟩]) (i :: op) (.slice p7 (l.length + 1) c7) (.slice (some ⟨og, 0, none⟩) (op.length + 1) oc) w8) := hide (HR7.out.taken hm8 ha8); clear hm8 ha8)
          | (at_builtin; refine wpList_append_own_at _ rfl (.tmp 62) (.tmp 66) 23 rfl (mb + 2) 45 i0 (.agg #[.int .i64 0, .string ByteArray.empty, .string ByteArray.empty, .int .i64 0, .int .i64 0]) 5 56 Tryz.underlying23 HI.out.1 HI.out.2.1 HI.out.2.2.1 HI.out.2.2.2 rfl (by decide) (.slice (some ⟨g, 0, none⟩) l.length lc) l.length ((bump l i).flatMap Nd.cells) rfl (by have := owns_below HR4.out.row (malloc1 w4 (.cells #[.int .i64 4, .string (hdM ms), .string ⟨#[]⟩, .int .i64 0, .int .i64 (sortI (hdM ms2))] 45)); unfold NdOwn at this; rw [HBL.out] at this; exact this) ⟨w4.heap.size, 0, none⟩ 1 1 (Nd.cells ⟨4, hdM ms, noT, 0, sortI (hdM ms2)⟩) rfl rfl (fun j u hj => new_box1 _ _ _ j u hj) (Nd.cells_one _) (by unfold maxLen; omega) (by omega) (by obtain ⟨n4, hn4⟩ := HR4.out.nod; have := hn4.lt; simp; omega) ?_; intro v7 w7 hown7 hgr7 _ hat7; have HR7 := hide (HR4.out.push (n := ⟨4, hdM ms, noT, 0, sortI (hdM ms2)⟩) _ (by rw [HBL.out]; exact hown7) hgr7 hat7); obtain ⟨p7, c7, rfl⟩ := owns_shape hown7; clear hown7 hgr7 hat7)
          | (go_at_call 72; refine (m_sort _ _ (HSW.out _ HR4.out.low)).mono ?_; rintro e w5 ⟨rfl, hw5⟩; replace hw5 := hw5.symm; subst hw5)
          | (go_at_call 69; (fail_if_success (have := HR4)); refine (m_take ms2 _ mb tb HR3.out.ms).mono ?_; rintro e w4 ⟨rfl, hm4, ha4⟩; have HR4 := hide (HR3.out.taken hm4 ha4); clear hm4 ha4)
          | (go_at_call 70; (fail_if_success (have := HR3)); refine (HS.out [40] _ _ _ rfl HR2.out.ms).mono ?_; rw [H1'.out]; rintro e w3 ⟨rfl, hm3, ha3⟩; have HR3 : Hid (RwM w0 mb tb ms2 (bump l i) (i :: op) (.slice (some ⟨g, 0, none⟩) l.length lc) (.slice (some ⟨og, 0, none⟩) (op.length + 1) oc) w3) := hide (HR2.out.taken hm3 ha3); clear hm3 ha3)
          | (go_at_call 69; (fail_if_success (have := HR2)); refine (m_take ms _ mb tb H1.out.ms).mono ?_; rintro e w2 ⟨rfl, hm2, ha2⟩; have HR2 := hide (H1.out.taken hm2 ha2); clear hm2 ha2))
        go_step3
        exact HJ.out 2 _ _ (rdJ_no HN.out HR9.out.low) (by simp [rdM])
      | some ms4 =>
        have HST : Hid (stepR ⟨1, ms, l, i :: op⟩ = .inr ⟨0, ms4, bump l i ++ [⟨4, hdM ms, noT, 0, sortI (hdM ms2)⟩], i :: op⟩) := hide (by rw [step_label rfl]; unfold labelS; dsimp only; rw [h1]; dsimp only; rw [h2]; dsimp only; rw [h3]; rfl)
        have H3' := hide h3
        clear h1 h2 h3
        go_wp2_with (first
          | (go_at_call 70; (fail_if_success (have := HR9)); refine (HS.out [46] _ _ _ rfl HR8.out.ms).mono ?_; rw [H3'.out]; rintro e w9 ⟨rfl, hm9, ha9⟩; have HR9 : Hid (RwM w0 mb tb ms4 (bump l i ++ [⟨4, hdM ms, noT, 0, sortI (hdM ms2)⟩]) (i :: op) (.slice p7 (l.length + 1) c7) (.slice (some ⟨og, 0, none⟩) (op.length + 1) oc) w9) := hide (HR8.out.taken hm9 ha9); clear hm9 ha9)
          | (go_at_call 70; (fail_if_success (have := HR8)); refine (HS.out [41] _ _ _ rfl HR7.out.ms).mono ?_; rw [H2'.out]; rintro e w8 ⟨rfl, hm8, ha8⟩; have HR8 : Hid (RwM w0 mb tb ms3 (bump l i ++ [⟨4, hdM ms, noT, 0, sortI (hdM ms2)⟩]) (i :: op) (.slice p7 (l.length + 1) c7) (.slice (some ⟨og, 0, none⟩) (op.length + 1) oc) w8) := hide (HR7.out.taken hm8 ha8); clear hm8 ha8)
          | (at_builtin; refine wpList_append_own_at _ rfl (.tmp 62) (.tmp 66) 23 rfl (mb + 2) 45 i0 (.agg #[.int .i64 0, .string ByteArray.empty, .string ByteArray.empty, .int .i64 0, .int .i64 0]) 5 56 Tryz.underlying23 HI.out.1 HI.out.2.1 HI.out.2.2.1 HI.out.2.2.2 rfl (by decide) (.slice (some ⟨g, 0, none⟩) l.length lc) l.length ((bump l i).flatMap Nd.cells) rfl (by have := owns_below HR4.out.row (malloc1 w4 (.cells #[.int .i64 4, .string (hdM ms), .string ⟨#[]⟩, .int .i64 0, .int .i64 (sortI (hdM ms2))] 45)); unfold NdOwn at this; rw [HBL.out] at this; exact this) ⟨w4.heap.size, 0, none⟩ 1 1 (Nd.cells ⟨4, hdM ms, noT, 0, sortI (hdM ms2)⟩) rfl rfl (fun j u hj => new_box1 _ _ _ j u hj) (Nd.cells_one _) (by unfold maxLen; omega) (by omega) (by obtain ⟨n4, hn4⟩ := HR4.out.nod; have := hn4.lt; simp; omega) ?_; intro v7 w7 hown7 hgr7 _ hat7; have HR7 := hide (HR4.out.push (n := ⟨4, hdM ms, noT, 0, sortI (hdM ms2)⟩) _ (by rw [HBL.out]; exact hown7) hgr7 hat7); obtain ⟨p7, c7, rfl⟩ := owns_shape hown7; clear hown7 hgr7 hat7)
          | (go_at_call 72; refine (m_sort _ _ (HSW.out _ HR4.out.low)).mono ?_; rintro e w5 ⟨rfl, hw5⟩; replace hw5 := hw5.symm; subst hw5)
          | (go_at_call 69; (fail_if_success (have := HR4)); refine (m_take ms2 _ mb tb HR3.out.ms).mono ?_; rintro e w4 ⟨rfl, hm4, ha4⟩; have HR4 := hide (HR3.out.taken hm4 ha4); clear hm4 ha4)
          | (go_at_call 70; (fail_if_success (have := HR3)); refine (HS.out [40] _ _ _ rfl HR2.out.ms).mono ?_; rw [H1'.out]; rintro e w3 ⟨rfl, hm3, ha3⟩; have HR3 : Hid (RwM w0 mb tb ms2 (bump l i) (i :: op) (.slice (some ⟨g, 0, none⟩) l.length lc) (.slice (some ⟨og, 0, none⟩) (op.length + 1) oc) w3) := hide (HR2.out.taken hm3 ha3); clear hm3 ha3)
          | (go_at_call 69; (fail_if_success (have := HR2)); refine (m_take ms _ mb tb H1.out.ms).mono ?_; rintro e w2 ⟨rfl, hm2, ha2⟩; have HR2 := hide (H1.out.taken hm2 ha2); clear hm2 ha2))
        go_step3
        refine HJ.out 0 _ _ (rdJ_to ⟨0, ms4, bump l i ++ [⟨4, hdM ms, noT, 0, sortI (hdM ms2)⟩], i :: op⟩ (.inl ⟨rfl, rfl⟩) (by rw [← read_step HST.out]; exact HR.out) (rwp_step HP.out HST.out) HR9.out) ?_
        rw [rdM_is (s := ⟨0, ms4, bump l i ++ [⟨4, hdM ms, noT, 0, sortI (hdM ms2)⟩], i :: op⟩) (.inl ⟨rfl, rfl⟩) HR9.out.ms]
        have := step_meas HST.out
        omega
end Go.Proofs.YtmjlblbhakppfaaGreatDoor
namespace Go.Proofs.YtmjlblbhakppfaaGreatDoor
open Go.RowKit
set_option linter.unusedSimpArgs false
set_option linter.unusedVariables false

theorem ext_list (t : ByteArray) (a b : Nat) : (t.extract a b).toList = (t.toList.drop a).take (b - a) := by
  simp only [Go.ByteArray.toList_eq, ByteArray.data_extract, Array.toList_extract]
theorem pre_eq (x r : List UInt8) (h : x.length ≤ r.length) : x.isPrefixOf r = decide (r.take x.length = x) := by
  rw [Bool.eq_iff_iff, decide_eq_true_eq, List.isPrefixOf_iff_prefix, List.prefix_iff_eq_take]
  exact eq_comm
theorem apart_drewN (w : World) (n : Nat) : Apart w (w.drewN n) [] := ⟨rfl, rfl, rfl, Nat.le_refl _, fun _ _ _ => rfl⟩
def isQ (x : List UInt8) (t : ByteArray) (at_ : Nat) (bad : Bool) : Bool := !bad && x.isPrefixOf (t.toList.drop at_)
def isA (x : List UInt8) (t : ByteArray) (at_ : Nat) (bad : Bool) : Nat := if isQ x t at_ bad then at_ + x.length else at_
theorem pre_ext {x : List UInt8} {t : ByteArray} {at_ : Nat} (hl : at_ + x.length ≤ t.size) : x.isPrefixOf (t.toList.drop at_) = true ↔ t.extract at_ (at_ + x.length) = ba x := by
  have e : t.toList.length = t.size := by rw [Go.ByteArray.toList_eq]; rfl
  rw [pre_eq _ _ (by rw [List.length_drop]; omega), decide_eq_true_eq]
  have h1 : (t.toList.drop at_).take x.length = (t.extract at_ (at_ + x.length)).toList := by rw [ext_list]; congr 1; omega
  rw [h1]
  constructor
  · intro h
    apply tl_inj
    rw [h, ba_list]
  · intro h
    rw [h, ba_list]
set_option maxRecDepth 100000 in
set_option maxHeartbeats 1000000 in
theorem sr_is (x : List UInt8) (t : ByteArray) (at_ rb : Nat) (lv : Value) (part bad : Bool) (w : World) (hx : x.length ≤ 8000) (ht : t.size ≤ 8000) (hat : at_ ≤ t.size) (hb : BoxL w rb [.string t, .int .i64 (at_ : Int), lv, .bool part, .bool bad]) :
    Calls Tryz.prog 123 #[.pointer (some ⟨rb, 0, none⟩), .string (ba x)] w fun e w' => e = .returned (.bool (isQ x t at_ bad)) ∧ Apart w w' [rb] ∧ BoxL w' rb [.string t, .int .i64 (isA x t at_ bad : Int), lv, .bool part, .bool bad] := by
  have b0 := hb.cell 0 _ rfl
  have b1 := hb.cell 1 _ rfl
  have b4 := hb.cell 4 _ rfl
  have bz := hb.fz
  have hsz : (ba x).size = x.length := sz_ba x
  obtain ⟨X, hX⟩ : ∃ X, ba x = X := ⟨_, rfl⟩
  have HX := hide hX
  rw [hX] at hsz ⊢
  clear hX
  have HSZ := hide hsz
  have hsx : X.size ≤ 8000 := by omega
  have HA : Hid (isA x t at_ bad = if isQ x t at_ bad then at_ + X.size else at_) := hide (by rw [hsz]; rfl)
  obtain ⟨A, hA⟩ : ∃ A, isA x t at_ bad = A := ⟨_, rfl⟩
  rw [hA] at HA ⊢
  clear hA
  obtain ⟨q, hq⟩ : ∃ q, isQ x t at_ bad = q := ⟨_, rfl⟩
  have HQ := hide hq
  rw [hq] at HA ⊢
  cases bad
  · by_cases hl : at_ + x.length ≤ t.size
    · have hd : decide ((at_ : Int) + (X.size : Int) ≤ (t.size : Int)) = true := by rw [decide_eq_true_eq]; omega
      have hi : (at_ : Int) + (X.size : Int) ≤ (t.size : Int) := by omega
      have hpe := pre_ext hl
      rw [HX.out, ← hsz] at hpe
      by_cases he : t.extract at_ (at_ + X.size) = X
      · have hqt : q = true := by rw [← hq]; unfold isQ; rw [hpe.2 he]; rfl
        subst hqt
        clear hsz hx hl hq hpe
        go_enter Tryz.func123, Tryz.ntmps123
        go_wp2_with fail
        go_quiet (fail)
        go_wp2_with fail
        go_ret
        refine ⟨rfl, ((apart_drewN _ _).weak.setCell _ _), ?_⟩
        rw [HA.out]
        exact (hb.keep (apart_drewN w _) (by simp)).set 1 (by simp) _
      · have hqt : q = false := by rw [← hq]; unfold isQ; rw [Bool.eq_false_iff]; intro h; exact he (hpe.1 (by simpa using h))
        subst hqt
        have hdf : decide (t.extract at_ (at_ + X.size) = X) = false := by rw [decide_eq_false_iff_not]; exact he
        clear hsz hx hl hq hpe
        have HE := hide he
        go_enter Tryz.func123, Tryz.ntmps123
        go_wp2_with fail
        go_quiet (fail)
        go_wp2_with fail
        all_goals first
          | exact absurd (tl_inj (eq_of_beq ‹((t.extract at_ (at_ + X.size)).toList == X.toList) = true›)) HE.out
          | (go_ret
             refine ⟨rfl, (apart_drewN _ _).weak, ?_⟩
             rw [HA.out]
             exact hb.keep (apart_drewN w _) (by simp))

    · have hd : decide ((at_ : Int) + (X.size : Int) ≤ (t.size : Int)) = false := by rw [decide_eq_false_iff_not]; omega
      have hqt : q = false := by
        rw [← hq]; unfold isQ; rw [Bool.eq_false_iff]; intro h
        simp only [Bool.not_false, Bool.true_and] at h
        have := (List.isPrefixOf_iff_prefix.1 h).length_le
        have e : t.toList.length = t.size := by rw [Go.ByteArray.toList_eq]; rfl
        rw [List.length_drop] at this
        omega
      subst hqt
      clear hsz hx hl hq
      go_enter Tryz.func123, Tryz.ntmps123
      go_wp2_with fail
      go_quiet (fail)
      go_wp2_with fail
      go_ret
      refine ⟨rfl, (apart_drewN _ _).weak, ?_⟩
      rw [HA.out]
      exact hb.keep (apart_drewN w _) (by simp)
  · have hqt : q = false := by rw [← hq]; rfl
    subst hqt
    clear hq
    go_enter Tryz.func123, Tryz.ntmps123
    go_wp2_with fail
    go_region
    go_wp2_with fail
    go_ret
    refine ⟨rfl, ((Apart.refl _).sub (by simp)).drew, ?_⟩
    rw [HA.out]
    exact hb.keep (Apart.refl w).drew (by simp)
end Go.Proofs.YtmjlblbhakppfaaGreatDoor
namespace Go.Proofs.YtmjlblbhakppfaaGreatDoor
open Go.RowKit
set_option linter.unusedSimpArgs false
set_option linter.unusedVariables false

theorem sr_must (x : List UInt8) (t : ByteArray) (at_ rb : Nat) (lv : Value) (part bad : Bool) (w : World) (hx : x.length ≤ 8000) (ht : t.size ≤ 8000) (hat : at_ ≤ t.size) (hb : BoxL w rb [.string t, .int .i64 (at_ : Int), lv, .bool part, .bool bad]) :
    Calls Tryz.prog 122 #[.pointer (some ⟨rb, 0, none⟩), .string (ba x)] w fun e w' => e = .returned (.tuple #[]) ∧ Apart w w' [rb] ∧ BoxL w' rb [.string t, .int .i64 (isA x t at_ bad : Int), lv, .bool part, .bool (!isQ x t at_ bad)] := by
  have CI := hide (sr_is x t at_ rb lv part bad w hx ht hat hb)
  obtain ⟨X, hX⟩ : ∃ X, ba x = X := ⟨_, rfl⟩
  rw [hX] at CI ⊢
  clear hX
  obtain ⟨A, hA⟩ : ∃ A, isA x t at_ bad = A := ⟨_, rfl⟩
  rw [hA] at CI ⊢
  clear hA
  obtain ⟨q, hq⟩ : ∃ q, isQ x t at_ bad = q := ⟨_, rfl⟩
  have HQ := hide hq
  rw [hq] at CI ⊢
  clear hq hb
  cases q
  · go_enter Tryz.func122, Tryz.ntmps122
    go_wp2_with (go_at_call 123; refine CI.out.mono ?_; rintro e w1 ⟨rfl, ha1, hb1⟩; have HA1 := hide ha1; have HB1 := hide hb1; have b4 := hb1.cell 4 _ rfl; have bz := hb1.fz; clear ha1 hb1)
    go_end0
    exact ⟨rfl, (HA1.out.setCell _ _), HB1.out.set 4 (by simp) _⟩
  · have hbf : bad = false := by
      have := HQ.out
      unfold isQ at this
      cases bad
      · rfl
      · cases this
    subst hbf
    go_enter Tryz.func122, Tryz.ntmps122
    go_wp2_with (go_at_call 123; refine CI.out.mono ?_; rintro e w1 ⟨rfl, ha1, hb1⟩; have HA1 := hide ha1; have HB1 := hide hb1; have b4 := hb1.cell 4 _ rfl; have bz := hb1.fz; clear ha1 hb1)
    go_end0
    exact ⟨rfl, HA1.out, HB1.out⟩
theorem inW_dec (c : UInt8) : (decide (97 ≤ (c.toNat : Int)) && decide ((c.toNat : Int) ≤ 122) || decide (48 ≤ (c.toNat : Int)) && decide ((c.toNat : Int) ≤ 57) || decide ((c.toNat : Int) = 95)) = inW c := by
  unfold inW
  rw [Bool.eq_iff_iff]
  simp only [Bool.or_eq_true, Bool.and_eq_true, decide_eq_true_eq, beq_iff_eq]
  omega
theorem tk_end {r : List UInt8} {k : Nat} (h : ∀ c ∈ r.take k, inW c = true) (he : k = r.length ∨ ∃ c, r[k]? = some c ∧ inW c = false) : r.takeWhile inW = r.take k ∧ (r.takeWhile inW).length = min k r.length := by
  have e : r.takeWhile inW = r.take k := by
    induction r generalizing k with
    | nil => simp
    | cons a r ih =>
      cases k with
      | zero =>
        rcases he with h0 | ⟨c, hc, hw⟩
        · cases h0
        · simp at hc
          subst hc
          rw [List.takeWhile_cons, hw]
          rfl
      | succ k =>
        have h1 := h a (by simp)
        rw [List.takeWhile_cons, h1, List.take_succ_cons]
        simp only [if_true]
        rw [ih (k := k) (fun c hc => h c (by rw [List.take_succ_cons]; exact List.mem_cons_of_mem _ hc)) (by
          rcases he with h0 | ⟨c, hc, hw⟩
          · left; simpa using h0
          · right; exact ⟨c, by simpa using hc, hw⟩)]
  exact ⟨e, by rw [e, List.length_take]⟩
theorem tk_more {r : List UInt8} {k : Nat} {c : UInt8} (h : ∀ c ∈ r.take k, inW c = true) (hc : r[k]? = some c) (hw : inW c = true) : ∀ c ∈ r.take (k + 1), inW c = true := fun d hd => by
  obtain ⟨hk, e⟩ := List.getElem?_eq_some_iff.1 hc
  rw [List.take_succ_eq_append_getElem hk] at hd
  rcases List.mem_append.1 hd with hd | hd
  · exact h d hd
  · simp at hd
    rw [hd, e]
    exact hw
theorem drop_get {t : ByteArray} {at_ k P : Nat} (hP : at_ + k = P) (hlt : P < t.size) {c : UInt8} (h : t[P] = c) : (t.toList.drop at_)[k]? = some c := by
  rw [List.getElem?_drop, hP]
  have e : t.toList.length = t.size := by rw [Go.ByteArray.toList_eq]; rfl
  rw [List.getElem?_eq_getElem (by omega), ← h]
  simp only [Go.ByteArray.toList_eq]
  rfl
theorem wd_out {t : ByteArray} {at_ k P : Nat} (hP : at_ + k = P) (hle : P ≤ t.size) (h : ∀ c ∈ (t.toList.drop at_).take k, inW c = true) (he : P = t.size ∨ ∃ c, (t.toList.drop at_)[k]? = some c ∧ inW c = false) : t.extract at_ P = ba ((t.toList.drop at_).takeWhile inW) ∧ at_ + ((t.toList.drop at_).takeWhile inW).length = P := by
  have e : t.toList.length = t.size := by rw [Go.ByteArray.toList_eq]; rfl
  obtain ⟨h1, h2⟩ := tk_end h (by
    rcases he with he | he
    · left; rw [List.length_drop]; omega
    · exact .inr he)
  refine ⟨?_, by rw [h2, List.length_drop]; omega⟩
  apply tl_inj
  rw [ext_list, ba_list, h1]
  congr 1
  omega
theorem ap_step {w wr : World} {rb : Nat} (h : Apart w wr [rb]) (n : Nat) (y : Value) : Apart w ((wr.drewN n).setCell ⟨rb, 1, none⟩ y) [rb] := Apart.setCell (w' := wr.drewN n) ⟨h.os, h.tape, h.output, h.size, h.block⟩ 1 y
theorem bx_step {wr : World} {rb : Nat} {a b c d e : Value} (h : BoxL wr rb [a, b, c, d, e]) (n : Nat) (y : Value) : BoxL ((wr.drewN n).setCell ⟨rb, 1, none⟩ y) rb [a, y, c, d, e] := BoxL.set (w := wr.drewN n) (vs := [a, b, c, d, e]) ⟨h.cell, h.fz, h.lt⟩ 1 (by simp) y
def wdA (t : ByteArray) (at_ : Nat) : Nat := at_ + ((t.toList.drop at_).takeWhile inW).length
set_option maxRecDepth 100000 in
set_option maxHeartbeats 1000000 in
theorem sr_word (t : ByteArray) (at_ rb : Nat) (lv : Value) (part bad : Bool) (w : World) (ht : t.size ≤ 8000) (hat : at_ ≤ t.size) (hb : BoxL w rb [.string t, .int .i64 (at_ : Int), lv, .bool part, .bool bad]) :
    Calls Tryz.prog 121 #[.pointer (some ⟨rb, 0, none⟩)] w fun e w' => e = .returned (.string (ba ((t.toList.drop at_).takeWhile inW))) ∧ Apart w w' [rb] ∧ BoxL w' rb [.string t, .int .i64 (wdA t at_ : Int), lv, .bool part, .bool bad] := by
  have b1 := hb.cell 1 _ rfl
  have HB := hide hb
  clear hb
  go_enter Tryz.func121, Tryz.ntmps121
  go_wp2_with fail
  go_loopg [] t.size (fun gf wx => ∃ k, Apart w wx [rb] ∧ BoxL wx rb [.string t, .int .i64 ((at_ + k : Nat) : Int), lv, .bool part, .bool bad] ∧ at_ + k ≤ t.size ∧ (∀ c ∈ (t.toList.drop at_).take k, inW c = true) ∧ t.size ≤ at_ + k + gf)
  case atStart => exact ⟨0, (Apart.refl _).weak, HB.out, hat, by simp, by omega⟩
  case round =>
    obtain ⟨k, hA, hB, hk, hal, hfu⟩ := hrel
    obtain ⟨P, hP⟩ : ∃ P, at_ + k = P := ⟨_, rfl⟩
    have HP := hide hP
    rw [hP] at hB hk hfu
    have HAL := hide hal
    have HA := hide hA
    have HB := hide hB
    have c0 := hB.cell 0 _ rfl
    have c1 := hB.cell 1 _ rfl
    have bz := hB.fz
    clear hP hal hA hB
    by_cases hlt : P < t.size
    · obtain ⟨g', rfl⟩ : ∃ g', gk = g' + 1 := ⟨gk - 1, by omega⟩
      go_wp2_with fail
      go_quiet (fail)
      go_wp2_with fail
      go_quiet (fail)
      obtain ⟨cc, hcc⟩ : ∃ cc, t[P] = cc := ⟨_, rfl⟩
      rw [hcc]
      have HCC := hide hcc
      clear hcc
      have hc8 := cc.toNat_lt
      go_wp2_with fail
      all_goals first
        | (have hw : inW cc = true := by
             clear HA HB HAL HP HCC c0 c1 bz
             cases hv : inW cc
             · exfalso
               rw [← inW_dec] at hv
               simp only [Bool.or_eq_false_iff, Bool.and_eq_false_iff, decide_eq_false_iff_not, Bool.not_eq_true', Bool.not_eq_false', decide_eq_true_eq, beq_iff_eq, beq_eq_false_iff_ne, ne_eq] at *
               omega
             · rfl
           go_roundg g'
           case measure => omega
           case rel =>
             have hP := HP.out
             refine ⟨k + 1, ap_step HA.out _ _, ?_, by omega, tk_more HAL.out (drop_get hP hlt HCC.out) hw, by omega⟩
             rw [show ((at_ + (k + 1) : Nat) : Int) = (P : Int) + 1 by omega]
             exact bx_step HB.out _ _)
        | (have hw : inW cc = false := by
             clear HA HB HAL HP HCC c0 c1 bz
             cases hv : inW cc
             · rfl
             · exfalso
               rw [← inW_dec] at hv
               simp only [Bool.or_eq_true, Bool.and_eq_true, decide_eq_false_iff_not, Bool.not_eq_true', Bool.not_eq_false', decide_eq_true_eq, beq_iff_eq, beq_eq_false_iff_ne, ne_eq] at *
               omega
           obtain ⟨w1, w2⟩ := wd_out HP.out hk HAL.out (.inr ⟨cc, drop_get HP.out hlt HCC.out, hw⟩)
           have hP : at_ ≤ P := by have := HP.out; omega
           have HW1 := hide w1
           have HW2 := hide w2
           clear w1 w2
           go_quiet (fail)
           go_wp2_with fail
           go_ret
           refine ⟨ret_str HW1.out.symm, ⟨HA.out.os, HA.out.tape, HA.out.output, HA.out.size, HA.out.block⟩, ?_⟩
           unfold wdA
           rw [HW2.out]
           exact ⟨HB.out.cell, HB.out.fz, HB.out.lt⟩)
    · go_wp2_with fail
      go_quiet (fail)
      go_wp2_with fail
      go_quiet (fail)
      go_wp2_with fail
      obtain ⟨w1, w2⟩ := wd_out HP.out hk HAL.out (.inl (by omega))
      go_ret
      refine ⟨ret_str w1.symm, ⟨HA.out.os, HA.out.tape, HA.out.output, HA.out.size, HA.out.block⟩, ?_⟩
      unfold wdA
      rw [w2]
      exact ⟨HB.out.cell, HB.out.fz, HB.out.lt⟩
end Go.Proofs.YtmjlblbhakppfaaGreatDoor
namespace Go.Proofs.YtmjlblbhakppfaaGreatDoor
open Go.RowKit
attribute [local go_sem ↓] Go.wp_at_zero Go.wp_at_succ

structure RoundC (w wr : World) (row : List Nd) (nv : Value) (k : Nat) (ns : List ByteArray) : Prop where
  same : closedL ns (row.drop k) = closedL [] row
  own : wr.ownsRow w.heap.size 9 1 nv ns.length (ns.map Value.string)
  len : ns.length ≤ k
  bel : Below w.heap.size w wr
set_option maxRecDepth 100000 in
set_option maxHeartbeats 2000000 in
theorem closed_calls (row : List Nd) (v : Value) (w : World) (hv : NdRd w v row) :
    Calls Tryz.prog 143 #[v] w fun e w' => e = .returned (.bool (closedL [] row)) ∧ Below w.heap.size w w' := by
  obtain ⟨i0, hi, hz0, hz1, hz2⟩ := info_parts Tryz.infoStrR
  have HI := hide (And.intro hi (And.intro hz0 (And.intro hz1 hz2)))
  obtain ⟨ao, cap, rfl, hl, hr⟩ := hv
  have HR := hide hr
  obtain ⟨L, hL⟩ : ∃ L, row.length = L := ⟨_, rfl⟩
  rw [hL] at hl ⊢
  have HL := hide hL
  clear hr hL hi hz0 hz1 hz2
  go_enter Tryz.func143, Tryz.ntmps143
  go_wp2_with fail
  go_loopw [3, 8] (fun nv i wr => ∃ (k : Nat) (ns : List ByteArray), k ≤ L ∧ i = .int .i64 k ∧ RoundC w wr row nv k ns) (fun _ i _ => L - (intOf i).toNat)
  case atStart => exact ⟨0, [], Nat.zero_le _, rfl, ⟨rfl, owns_nil _ _ _ _, Nat.le_refl _, Below.refl _ _⟩⟩
  case round =>
    obtain ⟨k, ns, hk, rfl, hR⟩ := hrel
    have HRR := hide hR
    have hzw := hR.bel.size
    have hnl := hR.len
    obtain ⟨np, nc, hnv⟩ := owns_shape hR.own
    obtain ⟨M, hM⟩ : ∃ M, ns.length = M := ⟨_, rfl⟩
    rw [hM] at hnv hnl
    have HM := hide hM
    subst hnv
    by_cases hlt : k < L
    · have hkr : k < row.length := by rw [HL.out]; exact hlt
      obtain ⟨b, o, rfl, hbB, hrow⟩ := HR.out (by intro h; rw [h] at hkr; simp at hkr)
      have hn1 := (hrow.get k hkr).carry hbB hR.bel
      have HST : Hid (∀ x, row[k] = x → closedL [] row = if x.op == 2 then closedL (ns ++ [x.name]) (row.drop (k + 1)) else if x.op == 1 && !hasB ns x.name then false else closedL ns (row.drop (k + 1))) := hide (fun x hx => by
        rw [← hR.same, List.drop_eq_getElem_cons hkr, hx, closedL])
      obtain ⟨x1, hx1⟩ : ∃ x1, row[k] = x1 := ⟨_, rfl⟩
      rw [hx1] at hn1
      have HS1 := hide (HST.out x1 hx1)
      obtain ⟨op, name, peer, many, sort⟩ := x1
      obtain ⟨c0, c1, c2, c3, c4⟩ := hn1
      dsimp only at c0 c1 c2 c3 c4
      have HOWN : Hid (wr.ownsRow w.heap.size 9 1 (.slice np M nc) M (ns.map Value.string)) := hide (by have := hR.own; rw [HM.out] at this; exact this)
      have hbw : b < wr.heap.size := Nat.lt_of_lt_of_le hbB hzw
      clear hrow hx1 hR hM HST
      by_cases h2 : op = 2
      · subst h2
        go_wp2_with (at_builtin; refine wpList_append_own _ rfl (.tmp 15) (.tmp 18) 30 rfl w.heap.size 9 i0 (.string ByteArray.empty) 1 16 Tryz.underlying30 HI.out.1 HI.out.2.1 HI.out.2.2.1 HI.out.2.2.2 rfl (by decide) (.slice np M nc) M (ns.map Value.string) rfl (owns_below HOWN.out ((malloc1 wr _).trans ((malloc1 _ _).mono (by simp)))) ⟨wr.heap.size + 1, 0, none⟩ 1 1 [.string name] rfl rfl (fun j u hj => new_rowq _ _ _ _ (by simp) j u hj) (by intro u hu; simp at hu; subst hu; rfl) (by unfold maxLen; omega) (by omega) (by simp; omega) ?_; intro v4 w4 hown4 hgr4 _; have HO4 := hide hown4; have HA4 : Hid (Apart (wr.alloc (.cells #[.int .i64 2, .string name, .string peer, .int .i64 many, .int .i64 sort] 45)) w4 (vblocks (.slice np M nc))) := hide (by have := (below_apart (malloc1 _ _)).trans (grownBy_apart hgr4); rwa [List.nil_append] at this); have x0 : w4.cell? ⟨wr.heap.size, 0, none⟩ = some (.int .i64 2) := HA4.out.cell' (by simp) (fun hm => absurd ((owns_fresh HOWN.out).hi _ hm) (by omega)); obtain ⟨p4, c4', rfl⟩ := owns_shape hown4; clear hown4 hgr4)
        go_roundw
        case rel =>
          refine ⟨k + 1, ns ++ [name], hlt, by go_num, ⟨?_, ?_, by rw [List.length_append, HM.out]; simp; omega, (HRR.out.bel.trans ((malloc1 wr _).mono hzw)).trans (HA4.out.below (by simp; omega) (owns_fresh HOWN.out).lo)⟩⟩
          · rw [HS1.out]; rfl
          · rw [List.length_append, List.length_singleton, HM.out, List.map_append]
            exact HO4.out
        case measure => simp [intOf]; omega
      · have e2 : (op == 2) = false := by simpa using h2
        by_cases h1 : op = 1
        · subst h1
          obtain ⟨q, hq⟩ : ∃ q, hasB ns name = q := ⟨_, rfl⟩
          have HQ := hide hq
          have HCO : Hid (∀ W, Below wr.heap.size wr W → Calls Tryz.prog 52 #[.slice np M nc, .string name] W fun e w' => e = .returned (.bool q) ∧ w' = W) := hide (fun W hW => by
            have := s_contains ns name (.slice np M nc) W (texts_own (base := w.heap.size) (e := 9) (by rw [HM.out]; exact owns_below HOWN.out hW) (by rw [HM.out]; omega))
            rw [hq] at this
            exact this)
          clear hq
          cases q
          · go_wp2_with (go_at_call 52; refine (HCO.out _ (malloc1 _ _)).mono ?_; rintro e w' ⟨rfl, rfl⟩)
            go_ret
            refine ⟨ret_bool ?_, HRR.out.bel.trans ((malloc1 wr _).mono hzw)⟩
            rw [HS1.out]
            simp [HQ.out]
          · go_wp2_with (go_at_call 52; refine (HCO.out _ (malloc1 _ _)).mono ?_; rintro e w' ⟨rfl, rfl⟩)
            go_roundw
            case rel =>
              refine ⟨k + 1, ns, hlt, by go_num, ⟨?_, by rw [HM.out]; exact owns_below HOWN.out (malloc1 _ _), by rw [HM.out]; omega, HRR.out.bel.trans ((malloc1 wr _).mono hzw)⟩⟩
              rw [HS1.out]
              simp [HQ.out]
            case measure => simp [intOf]; omega
        · have e1 : (op == 1) = false := by simpa using h1
          go_wp2_with fail
          go_roundw
          case rel =>
            refine ⟨k + 1, ns, hlt, by go_num, ⟨?_, by rw [HM.out]; exact owns_below HOWN.out (malloc1 _ _), by rw [HM.out]; omega, HRR.out.bel.trans ((malloc1 wr _).mono hzw)⟩⟩
            rw [HS1.out]
            simp [e1, e2]
          case measure => simp [intOf]; omega
    · have HT : Hid (closedL [] row = true) := hide (by rw [← HRR.out.same, List.drop_of_length_le (by rw [HL.out]; omega), closedL])
      go_wp2_with fail
      go_ret
      exact ⟨ret_bool HT.out, HRR.out.bel⟩
end Go.Proofs.YtmjlblbhakppfaaGreatDoor
