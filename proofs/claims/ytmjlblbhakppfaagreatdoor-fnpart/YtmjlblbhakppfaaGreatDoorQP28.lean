import Derived.Test.YtmjlblbhakppfaaGreatDoorQP26
import Derived.Deep.RegionHeld3
namespace Go.Proofs.YtmjlblbhakppfaaGreatDoor
open Go.RowKit
set_option linter.unusedVariables false
set_option linter.unusedSimpArgs false

theorem Tryz.infoInt : (Tryz.prog.info? 3).map (fun i => (i.zero, i.size, i.bytes)) = some (some (.int .i64 0), 1, 8) := by kernel_rfl
theorem rd_fall {X : Code} {w0 : World} {mv : Value} {mb tb : Nat} {R : Option (List Nd)} {lp : Option Addr} {ln lc : Nat} {ov : Value} {wd : ByteArray} {so : Int} {u9 u10 u11 u12 u13 u14 u15 u16 u17 u18 u19 u20 u21 u22 u23 u24 u25 u26 u27 u28 u29 u30 u31 u32 u33 u34 u35 u36 u37 u38 u39 u40 u41 u42 u43 u44 u45 u46 u47 u48 u49 u50 u51 u52 u53 u54 u55 u56 u57 u58 u59 u60 u61 u62 u63 u64 u65 u66 u67 u68 u69 u70 u71 u72 u73 u74 u75 u76 u77 u78 u79 u80 u81 u82 u83 u84 u85 u86 : Value} {W : World} {J : Nat → Act → World → Prop} {Q : Exit → Act → World → Prop} (r0 c0 : Code) (hc0 : Tryz.f42.body = some (.seq r0 (.scope c0))) (s : Rs) (hX : findLabel c0 3 = some (.seq .skip X)) (hpos : s.pos = 1) (hr : readR s = R) (hP : RwP s) (hM : RwM w0 mb tb s.ms s.l s.op (.slice lp ln lc) ov W) (hsw : SortW w0) (hJ : ∀ l a w, RdJ w0 mv mb tb R l a w → rdM mb l a w < measR s + 1 → J l a w) : X.wp Tryz.prog (jumpAll J Q) { tmps := (Value.agg #[mv] :: Value.pointer (some ⟨mb, 0, none⟩) :: Value.slice none 0 0 :: Value.bool false :: (Value.slice lp ln lc) :: ov :: Value.string wd :: Value.pointer (some ⟨mb + 1, 0, none⟩) :: Value.int .i64 so :: u9 :: u10 :: u11 :: u12 :: u13 :: u14 :: u15 :: u16 :: u17 :: u18 :: u19 :: u20 :: u21 :: u22 :: u23 :: u24 :: u25 :: u26 :: u27 :: u28 :: u29 :: u30 :: u31 :: u32 :: u33 :: u34 :: u35 :: u36 :: u37 :: u38 :: u39 :: u40 :: u41 :: u42 :: u43 :: u44 :: u45 :: u46 :: u47 :: u48 :: u49 :: u50 :: u51 :: u52 :: u53 :: u54 :: u55 :: u56 :: u57 :: u58 :: u59 :: u60 :: u61 :: u62 :: u63 :: u64 :: u65 :: u66 :: u67 :: u68 :: u69 :: u70 :: u71 :: u72 :: u73 :: u74 :: u75 :: u76 :: u77 :: u78 :: u79 :: u80 :: u81 :: u82 :: u83 :: u84 :: u85 :: u86 :: []).toArray, defers := [] } W := by
  obtain ⟨rest, h, hw⟩ := rd_label r0 c0 hc0 w0 mv mb tb R s hpos hr hP lp ln lc ov wd so u9 u10 u11 u12 u13 u14 u15 u16 u17 u18 u19 u20 u21 u22 u23 u24 u25 u26 u27 u28 u29 u30 u31 u32 u33 u34 u35 u36 u37 u38 u39 u40 u41 u42 u43 u44 u45 u46 u47 u48 u49 u50 u51 u52 u53 u54 u55 u56 u57 u58 u59 u60 u61 u62 u63 u64 u65 u66 u67 u68 u69 u70 u71 u72 u73 u74 u75 u76 u77 u78 u79 u80 u81 u82 u83 u84 u85 u86 W hM hsw J Q hJ
  rw [h] at hX
  have e := (Code.seq.inj (Option.some.inj hX)).2
  subst e
  exact hw
theorem new_box5 (w : World) (b : Nat) (y0 y1 y2 y3 y4 : Value) (cs : List Value) (T : TypeId) : ∀ j u, cs[j]? = some u → ((((((w.setCell ⟨b, 0, none⟩ y0).setCell ⟨b, 1, none⟩ y1).setCell ⟨b, 2, none⟩ y2).setCell ⟨b, 3, none⟩ y3).setCell ⟨b, 4, none⟩ y4).alloc (.cells cs.toArray T)).cell? ((⟨w.heap.size, 0, none⟩ : Addr).add j) = some u := fun j u hj => by
  have := new_box1 (((((w.setCell ⟨b, 0, none⟩ y0).setCell ⟨b, 1, none⟩ y1).setCell ⟨b, 2, none⟩ y2).setCell ⟨b, 3, none⟩ y3).setCell ⟨b, 4, none⟩ y4) cs T j u hj
  simpa only [World.size_setCell] using this
theorem talkW_zero (x : ByteArray) (ms : List ByteArray) : (talkW x ms).1.many = 0 ∧ (talkW x ms).1.sort = 0 := by
  unfold talkW
  split
  · exact ⟨rfl, rfl⟩
  · split
    · exact ⟨rfl, rfl⟩
    · split <;> exact ⟨rfl, rfl⟩
set_option maxRecDepth 100000 in
set_option maxHeartbeats 8000000 in
theorem rd_start (r0 c0 : Code) (hc0 : Tryz.f42.body = some (.seq r0 (.scope c0))) (w0 : World) (mv : Value) (mb tb : Nat) (R : Option (List Nd)) (s : Rs) (hpos : s.pos = 0) (hr : readR s = R) (hP : RwP s) (lp : Option Addr) (ln lc : Nat) (ov : Value) (wd : ByteArray) (so : Int) (u9 u10 u11 u12 u13 u14 u15 u16 u17 u18 u19 u20 u21 u22 u23 u24 u25 u26 u27 u28 u29 u30 u31 u32 u33 u34 u35 u36 u37 u38 u39 u40 u41 u42 u43 u44 u45 u46 u47 u48 u49 u50 u51 u52 u53 u54 u55 u56 u57 u58 u59 u60 u61 u62 u63 u64 u65 u66 u67 u68 u69 u70 u71 u72 u73 u74 u75 u76 u77 u78 u79 u80 u81 u82 u83 u84 u85 u86 : Value) (W : World) (hM : RwM w0 mb tb s.ms s.l s.op (.slice lp ln lc) ov W) (hsw : SortW w0) (J : Nat → Act → World → Prop) (Q : Exit → Act → World → Prop) (hJ : ∀ l a w, RdJ w0 mv mb tb R l a w → rdM mb l a w < measR s + 1 → J l a w) :
    ∃ rest, findLabel c0 0 = some (.seq .skip rest) ∧ rest.wp Tryz.prog (jumpAll J Q) { tmps := (Value.agg #[mv] :: Value.pointer (some ⟨mb, 0, none⟩) :: Value.slice none 0 0 :: Value.bool false :: (Value.slice lp ln lc) :: ov :: Value.string wd :: Value.pointer (some ⟨mb + 1, 0, none⟩) :: Value.int .i64 so :: u9 :: u10 :: u11 :: u12 :: u13 :: u14 :: u15 :: u16 :: u17 :: u18 :: u19 :: u20 :: u21 :: u22 :: u23 :: u24 :: u25 :: u26 :: u27 :: u28 :: u29 :: u30 :: u31 :: u32 :: u33 :: u34 :: u35 :: u36 :: u37 :: u38 :: u39 :: u40 :: u41 :: u42 :: u43 :: u44 :: u45 :: u46 :: u47 :: u48 :: u49 :: u50 :: u51 :: u52 :: u53 :: u54 :: u55 :: u56 :: u57 :: u58 :: u59 :: u60 :: u61 :: u62 :: u63 :: u64 :: u65 :: u66 :: u67 :: u68 :: u69 :: u70 :: u71 :: u72 :: u73 :: u74 :: u75 :: u76 :: u77 :: u78 :: u79 :: u80 :: u81 :: u82 :: u83 :: u84 :: u85 :: u86 :: []).toArray, defers := [] } W := by
  obtain ⟨pos, ms, l, op⟩ := s
  simp only at hpos hr hP hM hJ
  subst hpos
  obtain ⟨lp', lc', hlv⟩ := owns_shape hM.row
  injection hlv with e1 e2 e3
  subst e1 e2 e3
  obtain ⟨oa, oc, rfl⟩ := owns_shape hM.opn
  have hl1 := hP.l1
  have hl2 := hP.l2
  simp only at hl1 hl2
  have hll : l.length ≤ 30000 := by omega
  have hol : op.length ≤ 30000 := by omega
  have H0 := hide hM
  have HS : Hid (∀ (t : List UInt8) (s : ByteArray) (ms : List ByteArray) (W : World), s = ba t → MsAt W mb tb ms → Calls Tryz.prog 70 #[.pointer (some ⟨mb, 0, none⟩), .string s] W fun e w' => e = .returned (.bool (skM t ms).isSome) ∧ MsAt w' mb tb ((skM t ms).getD ms) ∧ Apart W w' [mb]) := hide (fun t s ms W hs hm => by rw [hs]; exact m_skip t ms W mb tb hm)
  obtain ⟨i0, hi, hiz0, hiz1, hiz2⟩ := info_parts Tryz.infoNd
  have HI := hide (And.intro hi (And.intro hiz0 (And.intro hiz1 hiz2)))
  obtain ⟨i1, hi', hiz0', hiz1', hiz2'⟩ := info_parts Tryz.infoInt
  have HI1 := hide (And.intro hi' (And.intro hiz0' (And.intro hiz1' hiz2')))
  have HP := hide hP
  have HR := hide hr
  have HJ := hide hJ
  have HSW := hide hsw
  have HTB := hide hM.tb
  have HC0 := hide hc0
  unfold Tryz.f42 at hc0
  dsimp only at hc0
  have hc1 := Code.scope.inj (Code.seq.inj (Option.some.inj hc0)).2
  subst hc1
  clear hi hiz0 hiz1 hiz2 hi' hiz0' hiz1' hiz2' hP hr hJ hM hsw hl1 hl2 hc0
  obtain ⟨x, hx⟩ : ∃ x, hdM ms = x := ⟨_, rfl⟩
  have HXX := hide hx
  obtain ⟨q1, hq1⟩ : ∃ q, (x.toList == [101, 110, 100]) = q := ⟨_, rfl⟩
  obtain ⟨q2, hq2⟩ : ∃ q, (x.toList == [114, 101, 99]) = q := ⟨_, rfl⟩
  refine ⟨_, rfl, ?_⟩
  cases q1
  · have HRE : Hid (∀ ms2, q2 = true → skM [32] ms.tail = some ms2 → startS ms l op = match skM [46] ms2.tail with | some ms3 => .inr ⟨0, ms3, l ++ [⟨2, hdM ms2, noT, 0, 0⟩], op⟩ | none => .inl none) := hide (fun ms2 h2 h3 => by
      unfold startS
      rw [hx, if_neg (by rw [hq1]; simp), hq2, h2, if_pos rfl, h3]
      rfl)
    have HTK : Hid ((q2 = true → skM [32] ms.tail = none) → startS ms l op = if (talkW x ms.tail).1.op = 1 then .inr ⟨2, (talkW x ms.tail).2, l ++ [(talkW x ms.tail).1], op⟩ else talkTo (talkW x ms.tail).2 l op (talkW x ms.tail).1) := hide (fun h => by
      have := start_talk (ms := ms) (l := l) (op := op) (by rw [hx]; exact hq1) (by
        rw [hx, hq2]
        cases q2
        · rfl
        · exact h rfl)
      rw [hx] at this
      exact this)
    clear hx
    cases q2
    · obtain ⟨n, m3, hT⟩ : ∃ n m3, talkW x ms.tail = (n, m3) := ⟨_, _, rfl⟩
      have hz := talkW_zero x ms.tail
      have hS := HTK.out (fun h => by cases h)
      rw [hT] at hz hS
      have HT := hide hT
      obtain ⟨o, nm, pr, mn, sr⟩ := n
      simp only at hz hS
      clear hT
      by_cases hop : o = 1
      · have HST : Hid (stepR ⟨0, ms, l, op⟩ = .inr ⟨2, m3, l ++ [⟨o, nm, pr, mn, sr⟩], op⟩) := hide (by rw [step_start rfl]; show startS ms l op = _; rw [hS, if_pos hop])
        subst hop
        clear hS hz
        go_wp2_with (first
          | (at_builtin; (fail_if_success (have := HR7)); refine wpList_append_own_at _ rfl (.tmp 29) (.tmp 31) 23 rfl (mb + 2) 45 i0 (.agg #[.int .i64 0, .string ByteArray.empty, .string ByteArray.empty, .int .i64 0, .int .i64 0]) 5 56 Tryz.underlying23 HI.out.1 HI.out.2.1 HI.out.2.2.1 HI.out.2.2.2 rfl (by decide) (.slice lp l.length lc) l.length (l.flatMap Nd.cells) rfl (owns_below HR6.out.1.row (malloc1 _ _)) ⟨w5.heap.size, 0, none⟩ 1 1 (Nd.cells ⟨1, nm, pr, mn, sr⟩) rfl rfl (new_box5 _ _ _ _ _ _ _ _ _) (Nd.cells_one _) (by unfold maxLen; omega) (by omega) (by obtain ⟨n4, hn4⟩ := HR5.out.nod; have := hn4.lt; simp; omega) ?_; intro v7 w7 hown7 hgr7 _ hat7; have HR7 := hide (HR6.out.1.push (n := ⟨1, nm, pr, mn, sr⟩) _ hown7 hgr7 hat7); have X7 := HR6.out.2.keep (row_sub HR6.out.1.row _ hown7 hgr7 hat7).1 (fun hm => by have := (owns_fresh HR6.out.1.row).lo _ hm; omega); have x0 := X7.cell 0 _ rfl; obtain ⟨p7, c7, rfl⟩ := owns_shape hown7; clear hown7 hgr7 hat7 X7)
          | (go_at_call 71; refine (m_talk x ms.tail _ mb tb (Nat.lt_of_lt_of_le HTB.out HR2.out.low.size) HR2.out.ms).mono ?_; rw [HT.out]; rintro e w5 ⟨rfl, hm5, ha5⟩; have HR5 : Hid (RwM w0 mb tb m3 l op (.slice lp l.length lc) (.slice oa op.length oc) w5) := hide (HR2.out.taken hm5 ha5); have HR6 := hide (HR5.out.noted ⟨1, nm, pr, mn, sr⟩); obtain ⟨n5, hn5⟩ := HR5.out.nod; have y0 := hn5.cell 0 _ rfl; have y1 := hn5.cell 1 _ rfl; have y2 := hn5.cell 2 _ rfl; have y3 := hn5.cell 3 _ rfl; have y4 := hn5.cell 4 _ rfl; have fy := hn5.fz; unfold Nd.val; clear hm5 ha5 hn5)
          | (go_at_call 69; (fail_if_success (have := HR2)); refine (m_take ms _ mb tb H0.out.ms).mono ?_; rw [HXX.out]; rintro e w2 ⟨rfl, hm2, ha2⟩; have HR2 := hide (H0.out.taken hm2 ha2); clear hm2 ha2))
        go_step3
        refine HJ.out 1 _ _ (rdJ_to ⟨2, m3, l ++ [⟨1, nm, pr, mn, sr⟩], op⟩ (.inr (.inr ⟨rfl, rfl⟩)) (by rw [← read_step HST.out]; exact HR.out) (rwp_step HP.out HST.out) HR7.out) ?_
        rw [rdM_is (s := ⟨2, m3, l ++ [⟨1, nm, pr, mn, sr⟩], op⟩) (.inr (.inr ⟨rfl, rfl⟩)) HR7.out.ms]
        have := step_meas HST.out
        omega
      · cases h123 : skM [123] m3 with
        | none =>
          have HN : Hid (R = none) := hide (by rw [← HR.out]; exact read_halt (by rw [step_start rfl]; show startS ms l op = _; rw [hS, if_neg hop, talkTo, h123]))
          have H123 := hide h123
          clear h123 hS hz
          go_wp2_with (first
            | (go_at_call 70; (fail_if_success (have := HR8)); refine (HS.out [123] _ _ _ rfl HR7.out.ms).mono ?_; rw [H123.out]; rintro e w8 ⟨rfl, hm8, ha8⟩; have HR8 := hide (HR7.out.taken (ms' := m3) hm8 ha8); clear hm8 ha8)
            | (at_builtin; (fail_if_success (have := HR7)); refine wpList_append_own_at _ rfl (.tmp 29) (.tmp 31) 23 rfl (mb + 2) 45 i0 (.agg #[.int .i64 0, .string ByteArray.empty, .string ByteArray.empty, .int .i64 0, .int .i64 0]) 5 56 Tryz.underlying23 HI.out.1 HI.out.2.1 HI.out.2.2.1 HI.out.2.2.2 rfl (by decide) (.slice lp l.length lc) l.length (l.flatMap Nd.cells) rfl (owns_below HR6.out.1.row (malloc1 _ _)) ⟨w5.heap.size, 0, none⟩ 1 1 (Nd.cells ⟨o, nm, pr, mn, sr⟩) rfl rfl (new_box5 _ _ _ _ _ _ _ _ _) (Nd.cells_one _) (by unfold maxLen; omega) (by omega) (by obtain ⟨n4, hn4⟩ := HR5.out.nod; have := hn4.lt; simp; omega) ?_; intro v7 w7 hown7 hgr7 _ hat7; have HR7 := hide (HR6.out.1.push (n := ⟨o, nm, pr, mn, sr⟩) _ hown7 hgr7 hat7); have X7 := HR6.out.2.keep (row_sub HR6.out.1.row _ hown7 hgr7 hat7).1 (fun hm => by have := (owns_fresh HR6.out.1.row).lo _ hm; omega); have x0 := X7.cell 0 _ rfl; obtain ⟨p7, c7, rfl⟩ := owns_shape hown7; clear hown7 hgr7 hat7 X7)
            | (go_at_call 71; refine (m_talk x ms.tail _ mb tb (Nat.lt_of_lt_of_le HTB.out HR2.out.low.size) HR2.out.ms).mono ?_; rw [HT.out]; rintro e w5 ⟨rfl, hm5, ha5⟩; have HR5 : Hid (RwM w0 mb tb m3 l op (.slice lp l.length lc) (.slice oa op.length oc) w5) := hide (HR2.out.taken hm5 ha5); have HR6 := hide (HR5.out.noted ⟨o, nm, pr, mn, sr⟩); obtain ⟨n5, hn5⟩ := HR5.out.nod; have y0 := hn5.cell 0 _ rfl; have y1 := hn5.cell 1 _ rfl; have y2 := hn5.cell 2 _ rfl; have y3 := hn5.cell 3 _ rfl; have y4 := hn5.cell 4 _ rfl; have fy := hn5.fz; unfold Nd.val; clear hm5 ha5 hn5)
            | (go_at_call 69; (fail_if_success (have := HR2)); refine (m_take ms _ mb tb H0.out.ms).mono ?_; rw [HXX.out]; rintro e w2 ⟨rfl, hm2, ha2⟩; have HR2 := hide (H0.out.taken hm2 ha2); clear hm2 ha2))
          go_step3
          exact HJ.out 2 _ _ (rdJ_no HN.out HR8.out.low) (by simp [rdM])
        | some ms3 =>
          have HST : Hid (stepR ⟨0, ms, l, op⟩ = .inr ⟨1, ms3, l ++ [⟨o, nm, pr, mn, sr⟩], l.length :: op⟩) := hide (by rw [step_start rfl]; show startS ms l op = _; rw [hS, if_neg hop, talkTo, h123])
          have H123 := hide h123
          clear h123 hS hz
          go_wp2_with (first
            | (at_builtin; refine wpList_append_own_at _ rfl (.tmp 38) (.tmp 42) 84 rfl (mb + 2) 3 i1 (.int .i64 0) 1 8 Tryz.underlying84 HI1.out.1 HI1.out.2.1 HI1.out.2.2.1 HI1.out.2.2.2 rfl (by decide) (.slice oa op.length oc) op.length (op.reverse.map fun (k : Nat) => .int .i64 (k : Int)) rfl (owns_below HR8.out.opn (malloc1 _ _)) ⟨w8.heap.size, 0, none⟩ 1 1 [.int .i64 (l.length : Int)] rfl rfl (cell_one_new _ _ _) (by simp [Value.oneCell']) (by unfold maxLen; omega) (by omega) (by obtain ⟨n4, hn4⟩ := HR8.out.nod; have := hn4.lt; simp; omega) ?_; intro v9 w9 hown9 hgr9 _ hat9; have HR9 := hide (HR8.out.opened (k := l.length) _ hown9 hgr9 hat9); obtain ⟨p9, c9, rfl⟩ := owns_shape hown9; clear hown9 hgr9 hat9)
            | (go_at_call 70; (fail_if_success (have := HR8)); refine (HS.out [123] _ _ _ rfl HR7.out.ms).mono ?_; rw [H123.out]; rintro e w8 ⟨rfl, hm8, ha8⟩; have HR8 := hide (HR7.out.taken (ms' := ms3) hm8 ha8); clear hm8 ha8)
            | (at_builtin; (fail_if_success (have := HR7)); refine wpList_append_own_at _ rfl (.tmp 29) (.tmp 31) 23 rfl (mb + 2) 45 i0 (.agg #[.int .i64 0, .string ByteArray.empty, .string ByteArray.empty, .int .i64 0, .int .i64 0]) 5 56 Tryz.underlying23 HI.out.1 HI.out.2.1 HI.out.2.2.1 HI.out.2.2.2 rfl (by decide) (.slice lp l.length lc) l.length (l.flatMap Nd.cells) rfl (owns_below HR6.out.1.row (malloc1 _ _)) ⟨w5.heap.size, 0, none⟩ 1 1 (Nd.cells ⟨o, nm, pr, mn, sr⟩) rfl rfl (new_box5 _ _ _ _ _ _ _ _ _) (Nd.cells_one _) (by unfold maxLen; omega) (by omega) (by obtain ⟨n4, hn4⟩ := HR5.out.nod; have := hn4.lt; simp; omega) ?_; intro v7 w7 hown7 hgr7 _ hat7; have HR7 := hide (HR6.out.1.push (n := ⟨o, nm, pr, mn, sr⟩) _ hown7 hgr7 hat7); have X7 := HR6.out.2.keep (row_sub HR6.out.1.row _ hown7 hgr7 hat7).1 (fun hm => by have := (owns_fresh HR6.out.1.row).lo _ hm; omega); have x0 := X7.cell 0 _ rfl; obtain ⟨p7, c7, rfl⟩ := owns_shape hown7; clear hown7 hgr7 hat7 X7)
            | (go_at_call 71; refine (m_talk x ms.tail _ mb tb (Nat.lt_of_lt_of_le HTB.out HR2.out.low.size) HR2.out.ms).mono ?_; rw [HT.out]; rintro e w5 ⟨rfl, hm5, ha5⟩; have HR5 : Hid (RwM w0 mb tb m3 l op (.slice lp l.length lc) (.slice oa op.length oc) w5) := hide (HR2.out.taken hm5 ha5); have HR6 := hide (HR5.out.noted ⟨o, nm, pr, mn, sr⟩); obtain ⟨n5, hn5⟩ := HR5.out.nod; have y0 := hn5.cell 0 _ rfl; have y1 := hn5.cell 1 _ rfl; have y2 := hn5.cell 2 _ rfl; have y3 := hn5.cell 3 _ rfl; have y4 := hn5.cell 4 _ rfl; have fy := hn5.fz; unfold Nd.val; clear hm5 ha5 hn5)
            | (go_at_call 69; (fail_if_success (have := HR2)); refine (m_take ms _ mb tb H0.out.ms).mono ?_; rw [HXX.out]; rintro e w2 ⟨rfl, hm2, ha2⟩; have HR2 := hide (H0.out.taken hm2 ha2); clear hm2 ha2))
          go_step3
          rename_i K' hK'
          refine hK' _ _ (rd_fall r0 _ HC0.out ⟨1, ms3, l ++ [⟨o, nm, pr, mn, sr⟩], l.length :: op⟩ rfl rfl (by rw [← read_step HST.out]; exact HR.out) (rwp_step HP.out HST.out) HR9.out HSW.out (fun l' a' w' h' hlt => HJ.out l' a' w' h' ?_))
          have := step_meas HST.out
          omega
    · cases h32 : skM [32] ms.tail with
      | none =>
        obtain ⟨n, m3, hT⟩ : ∃ n m3, talkW x ms.tail = (n, m3) := ⟨_, _, rfl⟩
        have hz := talkW_zero x ms.tail
        have hS := HTK.out (fun _ => h32)
        rw [hT] at hz hS
        have HT := hide hT
        obtain ⟨o, nm, pr, mn, sr⟩ := n
        simp only at hz hS
        have H32 := hide h32
        clear h32
        clear hT
        by_cases hop : o = 1
        · have HST : Hid (stepR ⟨0, ms, l, op⟩ = .inr ⟨2, m3, l ++ [⟨o, nm, pr, mn, sr⟩], op⟩) := hide (by rw [step_start rfl]; show startS ms l op = _; rw [hS, if_pos hop])
          subst hop
          clear hS hz
          go_wp2_with (first
            | (at_builtin; (fail_if_success (have := HR7)); refine wpList_append_own_at _ rfl (.tmp 29) (.tmp 31) 23 rfl (mb + 2) 45 i0 (.agg #[.int .i64 0, .string ByteArray.empty, .string ByteArray.empty, .int .i64 0, .int .i64 0]) 5 56 Tryz.underlying23 HI.out.1 HI.out.2.1 HI.out.2.2.1 HI.out.2.2.2 rfl (by decide) (.slice lp l.length lc) l.length (l.flatMap Nd.cells) rfl (owns_below HR6.out.1.row (malloc1 _ _)) ⟨w5.heap.size, 0, none⟩ 1 1 (Nd.cells ⟨1, nm, pr, mn, sr⟩) rfl rfl (new_box5 _ _ _ _ _ _ _ _ _) (Nd.cells_one _) (by unfold maxLen; omega) (by omega) (by obtain ⟨n4, hn4⟩ := HR5.out.nod; have := hn4.lt; simp; omega) ?_; intro v7 w7 hown7 hgr7 _ hat7; have HR7 := hide (HR6.out.1.push (n := ⟨1, nm, pr, mn, sr⟩) _ hown7 hgr7 hat7); have X7 := HR6.out.2.keep (row_sub HR6.out.1.row _ hown7 hgr7 hat7).1 (fun hm => by have := (owns_fresh HR6.out.1.row).lo _ hm; omega); have x0 := X7.cell 0 _ rfl; obtain ⟨p7, c7, rfl⟩ := owns_shape hown7; clear hown7 hgr7 hat7 X7)
            | (go_at_call 71; refine (m_talk x ms.tail _ mb tb (Nat.lt_of_lt_of_le HTB.out HR3.out.low.size) HR3.out.ms).mono ?_; rw [HT.out]; rintro e w5 ⟨rfl, hm5, ha5⟩; have HR5 : Hid (RwM w0 mb tb m3 l op (.slice lp l.length lc) (.slice oa op.length oc) w5) := hide (HR3.out.taken hm5 ha5); have HR6 := hide (HR5.out.noted ⟨1, nm, pr, mn, sr⟩); obtain ⟨n5, hn5⟩ := HR5.out.nod; have y0 := hn5.cell 0 _ rfl; have y1 := hn5.cell 1 _ rfl; have y2 := hn5.cell 2 _ rfl; have y3 := hn5.cell 3 _ rfl; have y4 := hn5.cell 4 _ rfl; have fy := hn5.fz; unfold Nd.val; clear hm5 ha5 hn5)
            | (go_at_call 70; (fail_if_success (have := HR3)); refine (HS.out [32] _ _ _ rfl HR2.out.ms).mono ?_; rw [H32.out]; rintro e w3 ⟨rfl, hm3, ha3⟩; have HR3 := hide (HR2.out.taken (ms' := ms.tail) hm3 ha3);  clear hm3 ha3)
            | (go_at_call 69; (fail_if_success (have := HR2)); refine (m_take ms _ mb tb H0.out.ms).mono ?_; rw [HXX.out]; rintro e w2 ⟨rfl, hm2, ha2⟩; have HR2 := hide (H0.out.taken hm2 ha2); clear hm2 ha2))
          go_step3
          refine HJ.out 1 _ _ (rdJ_to ⟨2, m3, l ++ [⟨1, nm, pr, mn, sr⟩], op⟩ (.inr (.inr ⟨rfl, rfl⟩)) (by rw [← read_step HST.out]; exact HR.out) (rwp_step HP.out HST.out) HR7.out) ?_
          rw [rdM_is (s := ⟨2, m3, l ++ [⟨1, nm, pr, mn, sr⟩], op⟩) (.inr (.inr ⟨rfl, rfl⟩)) HR7.out.ms]
          have := step_meas HST.out
          omega
        · cases h123 : skM [123] m3 with
          | none =>
            have HN : Hid (R = none) := hide (by rw [← HR.out]; exact read_halt (by rw [step_start rfl]; show startS ms l op = _; rw [hS, if_neg hop, talkTo, h123]))
            have H123 := hide h123
            clear h123 hS hz
            go_wp2_with (first
              | (go_at_call 70; (fail_if_success (have := HR8)); refine (HS.out [123] _ _ _ rfl HR7.out.ms).mono ?_; rw [H123.out]; rintro e w8 ⟨rfl, hm8, ha8⟩; have HR8 := hide (HR7.out.taken (ms' := m3) hm8 ha8); clear hm8 ha8)
              | (at_builtin; (fail_if_success (have := HR7)); refine wpList_append_own_at _ rfl (.tmp 29) (.tmp 31) 23 rfl (mb + 2) 45 i0 (.agg #[.int .i64 0, .string ByteArray.empty, .string ByteArray.empty, .int .i64 0, .int .i64 0]) 5 56 Tryz.underlying23 HI.out.1 HI.out.2.1 HI.out.2.2.1 HI.out.2.2.2 rfl (by decide) (.slice lp l.length lc) l.length (l.flatMap Nd.cells) rfl (owns_below HR6.out.1.row (malloc1 _ _)) ⟨w5.heap.size, 0, none⟩ 1 1 (Nd.cells ⟨o, nm, pr, mn, sr⟩) rfl rfl (new_box5 _ _ _ _ _ _ _ _ _) (Nd.cells_one _) (by unfold maxLen; omega) (by omega) (by obtain ⟨n4, hn4⟩ := HR5.out.nod; have := hn4.lt; simp; omega) ?_; intro v7 w7 hown7 hgr7 _ hat7; have HR7 := hide (HR6.out.1.push (n := ⟨o, nm, pr, mn, sr⟩) _ hown7 hgr7 hat7); have X7 := HR6.out.2.keep (row_sub HR6.out.1.row _ hown7 hgr7 hat7).1 (fun hm => by have := (owns_fresh HR6.out.1.row).lo _ hm; omega); have x0 := X7.cell 0 _ rfl; obtain ⟨p7, c7, rfl⟩ := owns_shape hown7; clear hown7 hgr7 hat7 X7)
              | (go_at_call 71; refine (m_talk x ms.tail _ mb tb (Nat.lt_of_lt_of_le HTB.out HR3.out.low.size) HR3.out.ms).mono ?_; rw [HT.out]; rintro e w5 ⟨rfl, hm5, ha5⟩; have HR5 : Hid (RwM w0 mb tb m3 l op (.slice lp l.length lc) (.slice oa op.length oc) w5) := hide (HR3.out.taken hm5 ha5); have HR6 := hide (HR5.out.noted ⟨o, nm, pr, mn, sr⟩); obtain ⟨n5, hn5⟩ := HR5.out.nod; have y0 := hn5.cell 0 _ rfl; have y1 := hn5.cell 1 _ rfl; have y2 := hn5.cell 2 _ rfl; have y3 := hn5.cell 3 _ rfl; have y4 := hn5.cell 4 _ rfl; have fy := hn5.fz; unfold Nd.val; clear hm5 ha5 hn5)
              | (go_at_call 70; (fail_if_success (have := HR3)); refine (HS.out [32] _ _ _ rfl HR2.out.ms).mono ?_; rw [H32.out]; rintro e w3 ⟨rfl, hm3, ha3⟩; have HR3 := hide (HR2.out.taken (ms' := ms.tail) hm3 ha3);  clear hm3 ha3)
              | (go_at_call 69; (fail_if_success (have := HR2)); refine (m_take ms _ mb tb H0.out.ms).mono ?_; rw [HXX.out]; rintro e w2 ⟨rfl, hm2, ha2⟩; have HR2 := hide (H0.out.taken hm2 ha2); clear hm2 ha2))
            go_step3
            exact HJ.out 2 _ _ (rdJ_no HN.out HR8.out.low) (by simp [rdM])
          | some ms3 =>
            have HST : Hid (stepR ⟨0, ms, l, op⟩ = .inr ⟨1, ms3, l ++ [⟨o, nm, pr, mn, sr⟩], l.length :: op⟩) := hide (by rw [step_start rfl]; show startS ms l op = _; rw [hS, if_neg hop, talkTo, h123])
            have H123 := hide h123
            clear h123 hS hz
            go_wp2_with (first
              | (at_builtin; refine wpList_append_own_at _ rfl (.tmp 38) (.tmp 42) 84 rfl (mb + 2) 3 i1 (.int .i64 0) 1 8 Tryz.underlying84 HI1.out.1 HI1.out.2.1 HI1.out.2.2.1 HI1.out.2.2.2 rfl (by decide) (.slice oa op.length oc) op.length (op.reverse.map fun (k : Nat) => .int .i64 (k : Int)) rfl (owns_below HR8.out.opn (malloc1 _ _)) ⟨w8.heap.size, 0, none⟩ 1 1 [.int .i64 (l.length : Int)] rfl rfl (cell_one_new _ _ _) (by simp [Value.oneCell']) (by unfold maxLen; omega) (by omega) (by obtain ⟨n4, hn4⟩ := HR8.out.nod; have := hn4.lt; simp; omega) ?_; intro v9 w9 hown9 hgr9 _ hat9; have HR9 := hide (HR8.out.opened (k := l.length) _ hown9 hgr9 hat9); obtain ⟨p9, c9, rfl⟩ := owns_shape hown9; clear hown9 hgr9 hat9)
              | (go_at_call 70; (fail_if_success (have := HR8)); refine (HS.out [123] _ _ _ rfl HR7.out.ms).mono ?_; rw [H123.out]; rintro e w8 ⟨rfl, hm8, ha8⟩; have HR8 := hide (HR7.out.taken (ms' := ms3) hm8 ha8); clear hm8 ha8)
              | (at_builtin; (fail_if_success (have := HR7)); refine wpList_append_own_at _ rfl (.tmp 29) (.tmp 31) 23 rfl (mb + 2) 45 i0 (.agg #[.int .i64 0, .string ByteArray.empty, .string ByteArray.empty, .int .i64 0, .int .i64 0]) 5 56 Tryz.underlying23 HI.out.1 HI.out.2.1 HI.out.2.2.1 HI.out.2.2.2 rfl (by decide) (.slice lp l.length lc) l.length (l.flatMap Nd.cells) rfl (owns_below HR6.out.1.row (malloc1 _ _)) ⟨w5.heap.size, 0, none⟩ 1 1 (Nd.cells ⟨o, nm, pr, mn, sr⟩) rfl rfl (new_box5 _ _ _ _ _ _ _ _ _) (Nd.cells_one _) (by unfold maxLen; omega) (by omega) (by obtain ⟨n4, hn4⟩ := HR5.out.nod; have := hn4.lt; simp; omega) ?_; intro v7 w7 hown7 hgr7 _ hat7; have HR7 := hide (HR6.out.1.push (n := ⟨o, nm, pr, mn, sr⟩) _ hown7 hgr7 hat7); have X7 := HR6.out.2.keep (row_sub HR6.out.1.row _ hown7 hgr7 hat7).1 (fun hm => by have := (owns_fresh HR6.out.1.row).lo _ hm; omega); have x0 := X7.cell 0 _ rfl; obtain ⟨p7, c7, rfl⟩ := owns_shape hown7; clear hown7 hgr7 hat7 X7)
              | (go_at_call 71; refine (m_talk x ms.tail _ mb tb (Nat.lt_of_lt_of_le HTB.out HR3.out.low.size) HR3.out.ms).mono ?_; rw [HT.out]; rintro e w5 ⟨rfl, hm5, ha5⟩; have HR5 : Hid (RwM w0 mb tb m3 l op (.slice lp l.length lc) (.slice oa op.length oc) w5) := hide (HR3.out.taken hm5 ha5); have HR6 := hide (HR5.out.noted ⟨o, nm, pr, mn, sr⟩); obtain ⟨n5, hn5⟩ := HR5.out.nod; have y0 := hn5.cell 0 _ rfl; have y1 := hn5.cell 1 _ rfl; have y2 := hn5.cell 2 _ rfl; have y3 := hn5.cell 3 _ rfl; have y4 := hn5.cell 4 _ rfl; have fy := hn5.fz; unfold Nd.val; clear hm5 ha5 hn5)
              | (go_at_call 70; (fail_if_success (have := HR3)); refine (HS.out [32] _ _ _ rfl HR2.out.ms).mono ?_; rw [H32.out]; rintro e w3 ⟨rfl, hm3, ha3⟩; have HR3 := hide (HR2.out.taken (ms' := ms.tail) hm3 ha3);  clear hm3 ha3)
              | (go_at_call 69; (fail_if_success (have := HR2)); refine (m_take ms _ mb tb H0.out.ms).mono ?_; rw [HXX.out]; rintro e w2 ⟨rfl, hm2, ha2⟩; have HR2 := hide (H0.out.taken hm2 ha2); clear hm2 ha2))
            go_step3
            rename_i K' hK'
            refine hK' _ _ (rd_fall r0 _ HC0.out ⟨1, ms3, l ++ [⟨o, nm, pr, mn, sr⟩], l.length :: op⟩ rfl rfl (by rw [← read_step HST.out]; exact HR.out) (rwp_step HP.out HST.out) HR9.out HSW.out (fun l' a' w' h' hlt => HJ.out l' a' w' h' ?_))
            have := step_meas HST.out
            omega
      | some ms2 =>
        have H32 := hide h32
        have HB := hide (HRE.out ms2 rfl h32)
        clear h32
        cases h46 : skM [46] ms2.tail with
        | none =>
          have HN : Hid (R = none) := hide (by rw [← HR.out]; exact read_halt (by rw [step_start rfl]; show startS ms l op = _; rw [HB.out, h46]))
          have H46 := hide h46
          clear h46
          go_wp2_with (first
            | (go_at_call 70; (fail_if_success (have := HR8)); refine (HS.out [46] _ _ _ rfl HR7.out.ms).mono ?_; rw [H46.out]; rintro e w8 ⟨rfl, hm8, ha8⟩; have HR8 := hide (HR7.out.taken (ms' := ms2.tail) hm8 ha8);  clear hm8 ha8)
            | (at_builtin; refine wpList_append_own_at _ rfl (.tmp 21) (.tmp 24) 23 rfl (mb + 2) 45 i0 (.agg #[.int .i64 0, .string ByteArray.empty, .string ByteArray.empty, .int .i64 0, .int .i64 0]) 5 56 Tryz.underlying23 HI.out.1 HI.out.2.1 HI.out.2.2.1 HI.out.2.2.2 rfl (by decide) (.slice lp l.length lc) l.length (l.flatMap Nd.cells) rfl (owns_below HR4.out.row (malloc1 _ _)) ⟨w4.heap.size, 0, none⟩ 1 1 (Nd.cells ⟨2, hdM ms2, noT, 0, 0⟩) rfl rfl (fun j u hj => new_box1 _ _ _ j u hj) (Nd.cells_one _) (by unfold maxLen; omega) (by omega) (by obtain ⟨n4, hn4⟩ := HR4.out.nod; have := hn4.lt; simp; omega) ?_; intro v7 w7 hown7 hgr7 _ hat7; have HR7 := hide (HR4.out.push (n := ⟨2, hdM ms2, noT, 0, 0⟩) _ hown7 hgr7 hat7); obtain ⟨p7, c7, rfl⟩ := owns_shape hown7; clear hown7 hgr7 hat7)
            | (go_at_call 69; (fail_if_success (have := HR4)); refine (m_take ms2 _ mb tb HR3.out.ms).mono ?_; rintro e w4 ⟨rfl, hm4, ha4⟩; have HR4 := hide (HR3.out.taken hm4 ha4); clear hm4 ha4)
            | (go_at_call 70; (fail_if_success (have := HR3)); refine (HS.out [32] _ _ _ rfl HR2.out.ms).mono ?_; rw [H32.out]; rintro e w3 ⟨rfl, hm3, ha3⟩; have HR3 := hide (HR2.out.taken (ms' := ms2) hm3 ha3);  clear hm3 ha3)
            | (go_at_call 69; (fail_if_success (have := HR2)); refine (m_take ms _ mb tb H0.out.ms).mono ?_; rw [HXX.out]; rintro e w2 ⟨rfl, hm2, ha2⟩; have HR2 := hide (H0.out.taken hm2 ha2); clear hm2 ha2))
          go_step3
          exact HJ.out 2 _ _ (rdJ_no HN.out HR8.out.low) (by simp [rdM])
        | some ms3 =>
          have HST : Hid (stepR ⟨0, ms, l, op⟩ = .inr ⟨0, ms3, l ++ [⟨2, hdM ms2, noT, 0, 0⟩], op⟩) := hide (by rw [step_start rfl]; show startS ms l op = _; rw [HB.out, h46])
          have H46 := hide h46
          clear h46
          go_wp2_with (first
            | (go_at_call 70; (fail_if_success (have := HR8)); refine (HS.out [46] _ _ _ rfl HR7.out.ms).mono ?_; rw [H46.out]; rintro e w8 ⟨rfl, hm8, ha8⟩; have HR8 := hide (HR7.out.taken (ms' := ms3) hm8 ha8);  clear hm8 ha8)
            | (at_builtin; refine wpList_append_own_at _ rfl (.tmp 21) (.tmp 24) 23 rfl (mb + 2) 45 i0 (.agg #[.int .i64 0, .string ByteArray.empty, .string ByteArray.empty, .int .i64 0, .int .i64 0]) 5 56 Tryz.underlying23 HI.out.1 HI.out.2.1 HI.out.2.2.1 HI.out.2.2.2 rfl (by decide) (.slice lp l.length lc) l.length (l.flatMap Nd.cells) rfl (owns_below HR4.out.row (malloc1 _ _)) ⟨w4.heap.size, 0, none⟩ 1 1 (Nd.cells ⟨2, hdM ms2, noT, 0, 0⟩) rfl rfl (fun j u hj => new_box1 _ _ _ j u hj) (Nd.cells_one _) (by unfold maxLen; omega) (by omega) (by obtain ⟨n4, hn4⟩ := HR4.out.nod; have := hn4.lt; simp; omega) ?_; intro v7 w7 hown7 hgr7 _ hat7; have HR7 := hide (HR4.out.push (n := ⟨2, hdM ms2, noT, 0, 0⟩) _ hown7 hgr7 hat7); obtain ⟨p7, c7, rfl⟩ := owns_shape hown7; clear hown7 hgr7 hat7)
            | (go_at_call 69; (fail_if_success (have := HR4)); refine (m_take ms2 _ mb tb HR3.out.ms).mono ?_; rintro e w4 ⟨rfl, hm4, ha4⟩; have HR4 := hide (HR3.out.taken hm4 ha4); clear hm4 ha4)
            | (go_at_call 70; (fail_if_success (have := HR3)); refine (HS.out [32] _ _ _ rfl HR2.out.ms).mono ?_; rw [H32.out]; rintro e w3 ⟨rfl, hm3, ha3⟩; have HR3 := hide (HR2.out.taken (ms' := ms2) hm3 ha3);  clear hm3 ha3)
            | (go_at_call 69; (fail_if_success (have := HR2)); refine (m_take ms _ mb tb H0.out.ms).mono ?_; rw [HXX.out]; rintro e w2 ⟨rfl, hm2, ha2⟩; have HR2 := hide (H0.out.taken hm2 ha2); clear hm2 ha2))
          go_step3
          refine HJ.out 0 _ _ (rdJ_to ⟨0, ms3, l ++ [⟨2, hdM ms2, noT, 0, 0⟩], op⟩ (.inl ⟨rfl, rfl⟩) (by rw [← read_step HST.out]; exact HR.out) (rwp_step HP.out HST.out) HR8.out) ?_
          rw [rdM_is (s := ⟨0, ms3, l ++ [⟨2, hdM ms2, noT, 0, 0⟩], op⟩) (.inl ⟨rfl, rfl⟩) HR8.out.ms]
          have := step_meas HST.out
          omega
  · have HST : Hid (stepR ⟨0, ms, l, op⟩ = .inr ⟨2, ms.tail, l ++ [⟨0, noT, noT, 0, 0⟩], op⟩) := hide (by
      rw [step_start rfl]
      unfold startS
      dsimp only
      rw [hx, if_pos hq1])
    clear hx
    go_wp2_with (first
      | (at_builtin; refine wpList_append_own_at _ rfl (.tmp 12) (.tmp 14) 23 rfl (mb + 2) 45 i0 (.agg #[.int .i64 0, .string ByteArray.empty, .string ByteArray.empty, .int .i64 0, .int .i64 0]) 5 56 Tryz.underlying23 HI.out.1 HI.out.2.1 HI.out.2.2.1 HI.out.2.2.2 rfl (by decide) (.slice lp l.length lc) l.length (l.flatMap Nd.cells) rfl (owns_below HR2.out.row (malloc1 _ _)) ⟨w2.heap.size, 0, none⟩ 1 1 (Nd.cells ⟨0, noT, noT, 0, 0⟩) rfl rfl (fun j u hj => new_box1 _ _ _ j u hj) (Nd.cells_one _) (by unfold maxLen; omega) (by omega) (by obtain ⟨n4, hn4⟩ := HR2.out.nod; have := hn4.lt; simp; omega) ?_; intro v7 w7 hown7 hgr7 _ hat7; have HR7 := hide (HR2.out.push (n := ⟨0, noT, noT, 0, 0⟩) _ hown7 hgr7 hat7); obtain ⟨p7, c7, rfl⟩ := owns_shape hown7; clear hown7 hgr7 hat7)
      | (go_at_call 69; (fail_if_success (have := HR2)); refine (m_take ms _ mb tb H0.out.ms).mono ?_; rw [HXX.out]; rintro e w2 ⟨rfl, hm2, ha2⟩; have HR2 := hide (H0.out.taken hm2 ha2); clear hm2 ha2))
    go_step3
    refine HJ.out 1 _ _ (rdJ_to ⟨2, ms.tail, l ++ [⟨0, noT, noT, 0, 0⟩], op⟩ (.inr (.inr ⟨rfl, rfl⟩)) (by rw [← read_step HST.out]; exact HR.out) (rwp_step HP.out HST.out) HR7.out) ?_
    rw [rdM_is (s := ⟨2, ms.tail, l ++ [⟨0, noT, noT, 0, 0⟩], op⟩) (.inr (.inr ⟨rfl, rfl⟩)) HR7.out.ms]
    have := step_meas HST.out
    omega
end Go.Proofs.YtmjlblbhakppfaaGreatDoor
namespace Go.Proofs.YtmjlblbhakppfaaGreatDoor
open Go.RowKit
set_option linter.unusedVariables false
set_option linter.unusedSimpArgs false

structure RdEnd (w0 : World) (mb : Nat) (R : Option (List Nd)) (v : Value) (b : Bool) (W : World) : Prop where
  sl : ∃ a n c, v = .slice a n c
  is : b = R.isSome
  row : ∀ L, R = some L → NdOwn W (mb + 2) v L ∧ lzB L
  low : Below w0.heap.size w0 W
def RdQ (w0 : World) (mv : Value) (mb : Nat) (R : Option (List Nd)) (Q : Exit → Act → World → Prop) : Prop :=
  ∀ (v : Value) (b : Bool) (lv ov : Value) (wd : ByteArray) (so : Int) (u9 u10 u11 u12 u13 u14 u15 u16 u17 u18 u19 u20 u21 u22 u23 u24 u25 u26 u27 u28 u29 u30 u31 u32 u33 u34 u35 u36 u37 u38 u39 u40 u41 u42 u43 u44 u45 u46 u47 u48 u49 u50 u51 u52 u53 u54 u55 u56 u57 u58 u59 u60 u61 u62 u63 u64 u65 u66 u67 u68 u69 u70 u71 u72 u73 u74 u75 u76 u77 u78 u79 u80 u81 u82 u83 u84 u85 u86 : Value) (W : World), RdEnd w0 mb R v b W → Q .ret { tmps := (Value.agg #[mv] :: Value.pointer (some ⟨mb, 0, none⟩) :: v :: Value.bool b :: lv :: ov :: Value.string wd :: Value.pointer (some ⟨mb + 1, 0, none⟩) :: Value.int .i64 so :: u9 :: u10 :: u11 :: u12 :: u13 :: u14 :: u15 :: u16 :: u17 :: u18 :: u19 :: u20 :: u21 :: u22 :: u23 :: u24 :: u25 :: u26 :: u27 :: u28 :: u29 :: u30 :: u31 :: u32 :: u33 :: u34 :: u35 :: u36 :: u37 :: u38 :: u39 :: u40 :: u41 :: u42 :: u43 :: u44 :: u45 :: u46 :: u47 :: u48 :: u49 :: u50 :: u51 :: u52 :: u53 :: u54 :: u55 :: u56 :: u57 :: u58 :: u59 :: u60 :: u61 :: u62 :: u63 :: u64 :: u65 :: u66 :: u67 :: u68 :: u69 :: u70 :: u71 :: u72 :: u73 :: u74 :: u75 :: u76 :: u77 :: u78 :: u79 :: u80 :: u81 :: u82 :: u83 :: u84 :: u85 :: u86 :: []).toArray, defers := [] } W
set_option maxRecDepth 100000 in
set_option maxHeartbeats 8000000 in
theorem rd_behind (r0 c0 : Code) (hc0 : Tryz.f42.body = some (.seq r0 (.scope c0))) (w0 : World) (mv : Value) (mb tb : Nat) (R : Option (List Nd)) (s : Rs) (hpos : s.pos = 2) (hr : readR s = R) (hP : RwP s) (lp : Option Addr) (ln lc : Nat) (ov : Value) (wd : ByteArray) (so : Int) (u9 u10 u11 u12 u13 u14 u15 u16 u17 u18 u19 u20 u21 u22 u23 u24 u25 u26 u27 u28 u29 u30 u31 u32 u33 u34 u35 u36 u37 u38 u39 u40 u41 u42 u43 u44 u45 u46 u47 u48 u49 u50 u51 u52 u53 u54 u55 u56 u57 u58 u59 u60 u61 u62 u63 u64 u65 u66 u67 u68 u69 u70 u71 u72 u73 u74 u75 u76 u77 u78 u79 u80 u81 u82 u83 u84 u85 u86 : Value) (W : World) (hM : RwM w0 mb tb s.ms s.l s.op (.slice lp ln lc) ov W) (J : Nat → Act → World → Prop) (Q : Exit → Act → World → Prop) (hQ : RdQ w0 mv mb R Q) (hJ : ∀ l a w, RdJ w0 mv mb tb R l a w → rdM mb l a w < measR s + 1 → J l a w) :
    ∃ rest, findLabel c0 1 = some (.seq .skip rest) ∧ rest.wp Tryz.prog (jumpAll J Q) { tmps := (Value.agg #[mv] :: Value.pointer (some ⟨mb, 0, none⟩) :: Value.slice none 0 0 :: Value.bool false :: (Value.slice lp ln lc) :: ov :: Value.string wd :: Value.pointer (some ⟨mb + 1, 0, none⟩) :: Value.int .i64 so :: u9 :: u10 :: u11 :: u12 :: u13 :: u14 :: u15 :: u16 :: u17 :: u18 :: u19 :: u20 :: u21 :: u22 :: u23 :: u24 :: u25 :: u26 :: u27 :: u28 :: u29 :: u30 :: u31 :: u32 :: u33 :: u34 :: u35 :: u36 :: u37 :: u38 :: u39 :: u40 :: u41 :: u42 :: u43 :: u44 :: u45 :: u46 :: u47 :: u48 :: u49 :: u50 :: u51 :: u52 :: u53 :: u54 :: u55 :: u56 :: u57 :: u58 :: u59 :: u60 :: u61 :: u62 :: u63 :: u64 :: u65 :: u66 :: u67 :: u68 :: u69 :: u70 :: u71 :: u72 :: u73 :: u74 :: u75 :: u76 :: u77 :: u78 :: u79 :: u80 :: u81 :: u82 :: u83 :: u84 :: u85 :: u86 :: []).toArray, defers := [] } W := by
  obtain ⟨pos, ms, l, op⟩ := s
  simp only at hpos hr hP hM hJ
  subst hpos
  obtain ⟨lp', lc', hlv⟩ := owns_shape hM.row
  injection hlv with e1 e2 e3
  subst e1 e2 e3
  obtain ⟨oa, oc, rfl⟩ := owns_shape hM.opn
  have hl1 := hP.l1
  have hl2 := hP.l2
  simp only at hl1 hl2
  have hll : l.length ≤ 30000 := by omega
  have hol : op.length ≤ 30000 := by omega
  have H0 := hide hM
  have HS : Hid (∀ (t : List UInt8) (s : ByteArray) (ms : List ByteArray) (W : World), s = ba t → MsAt W mb tb ms → Calls Tryz.prog 70 #[.pointer (some ⟨mb, 0, none⟩), .string s] W fun e w' => e = .returned (.bool (skM t ms).isSome) ∧ MsAt w' mb tb ((skM t ms).getD ms) ∧ Apart W w' [mb]) := hide (fun t s ms W hs hm => by rw [hs]; exact m_skip t ms W mb tb hm)
  have HP := hide hP
  have HR := hide hr
  have HJ := hide hJ
  have HQ := hide hQ
  unfold Tryz.f42 at hc0
  dsimp only at hc0
  have hc1 := Code.scope.inj (Code.seq.inj (Option.some.inj hc0)).2
  subst hc1
  clear hP hr hJ hM hl1 hl2 hc0 hQ
  refine ⟨_, rfl, ?_⟩
  cases op with
  | nil =>
    obtain ⟨ao, cap, hbx, -⟩ := H0.out.ms.at_
    have m0 := hbx.cell 0 _ rfl
    have HRR : Hid (R = if ms.isEmpty then some l else none) := hide (by rw [← HR.out]; exact read_halt rfl)
    have hml : ms.length ≤ 9223372036854775807 := by obtain ⟨_, _, _, h1, h2, _⟩ := H0.out.ms.at_; omega
    clear hbx
    by_cases hme : ms = []
    · subst hme
      go_wp2_with fail
      first
        | go_region_held3 (fun w' => w'.cell? ⟨mb, 0, none⟩ = some (.slice ao 0 cap)) (go_keep) (first | fail)
        | fail
      all_goals
        go_wp2_with fail
        refine HQ.out _ true _ _ _ _ _ _ _ _ _ _ _ _ _ _ _ _ _ _ _ _ _ _ _ _ _ _ _ _ _ _ _ _ _ _ _ _ _ _ _ _ _ _ _ _ _ _ _ _ _ _ _ _ _ _ _ _ _ _ _ _ _ _ _ _ _ _ _ _ _ _ _ _ _ _ _ _ _ _ _ _ _ _ _ ⟨⟨_, _, _, rfl⟩, by rw [HRR.out]; rfl, fun L hL => ?_, H0.out.low.drew⟩
        rw [HRR.out] at hL
        injection hL with hL
        subst hL
        exact ⟨owns_below H0.out.row (Below.refl _ _).drew, HP.out.lz⟩
    · have hne : ¬ (ms.length : Int) = 0 := by
        intro h
        exact hme (List.length_eq_zero_iff.1 (by omega))
      have HN : Hid (R = none) := hide (by rw [HRR.out, if_neg (by simpa using hme)])
      go_wp2_with fail
      first
        | go_region_held3 (fun w' => w'.cell? ⟨mb, 0, none⟩ = some (.slice ao ms.length cap)) (go_keep) (first | fail)
        | fail
      all_goals
        go_wp2_with fail
        refine HQ.out _ _ _ _ _ _ _ _ _ _ _ _ _ _ _ _ _ _ _ _ _ _ _ _ _ _ _ _ _ _ _ _ _ _ _ _ _ _ _ _ _ _ _ _ _ _ _ _ _ _ _ _ _ _ _ _ _ _ _ _ _ _ _ _ _ _ _ _ _ _ _ _ _ _ _ _ _ _ _ _ _ _ _ _ _ ⟨⟨_, _, _, rfl⟩, by rw [HN.out]; simpa using hne, fun L hL => (by rw [HN.out] at hL; cases hL), H0.out.low.drew⟩
  | cons i op =>
    rw [List.length_cons] at hol ⊢
    have HCL : Hid (∀ (ms : List ByteArray) (W : World), RwM w0 mb tb ms l (i :: op) (.slice lp l.length lc) (.slice oa (op.length + 1) oc) W → RwM w0 mb tb ms l op (.slice lp l.length lc) (.slice oa op.length oc) W) := hide (fun ms W h => h.closed)
    have hoc : op.length + 1 ≤ oc := by
      rcases H0.out.opn.2 with ⟨e, _⟩ | ⟨g', cap, cur, e, hg, hb, hc, _⟩
      · simp at e
      · injection e with e1 e2 e3
        subst e3
        simpa using hc
    have hoc2 : oc ≤ 9223372036854775807 := by
      rcases H0.out.opn.2 with ⟨e, _⟩ | ⟨g', cap, cur, e, hg, hb, hc, hm, _⟩
      · simp at e
      · injection e with e1 e2 e3
        subst e3
        unfold maxLen at hm
        omega
    cases h44 : skM [44] ms with
    | some ms2 =>
      have HST : Hid (stepR ⟨2, ms, l, i :: op⟩ = .inr ⟨1, ms2, l, i :: op⟩) := hide (by rw [step_behind (by simp) (by simp)]; show behindS ms l (i :: op) = _; rw [behindS, h44])
      have H44 := hide h44
      clear h44
      go_wp2_with (first
        | (go_at_call 70; (fail_if_success (have := HR2)); refine (HS.out [44] _ _ _ rfl H0.out.ms).mono ?_; rw [H44.out]; rintro e w2 ⟨rfl, hm2, ha2⟩; have HR2 := hide (H0.out.taken (ms' := ms2) hm2 ha2); clear hm2 ha2))
      go_step3
      refine HJ.out 3 _ _ (rdJ_to ⟨1, ms2, l, i :: op⟩ (.inr (.inl ⟨rfl, rfl⟩)) (by rw [← read_step HST.out]; exact HR.out) (rwp_step HP.out HST.out) HR2.out) ?_
      rw [rdM_is (s := ⟨1, ms2, l, i :: op⟩) (.inr (.inl ⟨rfl, rfl⟩)) HR2.out.ms]
      have := step_meas HST.out
      omega
    | none =>
      cases h125 : skM [125] ms with
      | some ms2 =>
        have HST : Hid (stepR ⟨2, ms, l, i :: op⟩ = .inr ⟨2, ms2, l, op⟩) := hide (by rw [step_behind (by simp) (by simp)]; show behindS ms l (i :: op) = _; rw [behindS, h44]; dsimp only; rw [h125])
        have H44 := hide h44
        have H125 := hide h125
        clear h44 h125
        go_wp2_with (first
          | (go_at_call 70; (fail_if_success (have := HR3)); refine (HS.out [125] _ _ _ rfl HR2.out.ms).mono ?_; rw [H125.out]; rintro e w3 ⟨rfl, hm3, ha3⟩; have HR3 := hide (HR2.out.taken (ms' := ms2) hm3 ha3); clear hm3 ha3)
          | (go_at_call 70; (fail_if_success (have := HR2)); refine (HS.out [44] _ _ _ rfl H0.out.ms).mono ?_; rw [H44.out]; rintro e w2 ⟨rfl, hm2, ha2⟩; have HR2 := hide (H0.out.taken (ms' := ms) hm2 ha2); clear hm2 ha2))
        go_step3
        refine HJ.out 1 _ _ (rdJ_to ⟨2, ms2, l, op⟩ (.inr (.inr ⟨rfl, rfl⟩)) (by rw [← read_step HST.out]; exact HR.out) (rwp_step HP.out HST.out) (HCL.out _ _ HR3.out)) ?_
        rw [rdM_is (s := ⟨2, ms2, l, op⟩) (.inr (.inr ⟨rfl, rfl⟩)) HR3.out.ms]
        have := step_meas HST.out
        omega
      | none =>
        have HN : Hid (R = none) := hide (by rw [← HR.out]; exact read_halt (by rw [step_behind (by simp) (by simp)]; show behindS ms l (i :: op) = _; rw [behindS, h44]; dsimp only; rw [h125]))
        have H44 := hide h44
        have H125 := hide h125
        clear h44 h125
        go_wp2_with (first
          | (go_at_call 70; (fail_if_success (have := HR3)); refine (HS.out [125] _ _ _ rfl HR2.out.ms).mono ?_; rw [H125.out]; rintro e w3 ⟨rfl, hm3, ha3⟩; have HR3 := hide (HR2.out.taken (ms' := ms) hm3 ha3); clear hm3 ha3)
          | (go_at_call 70; (fail_if_success (have := HR2)); refine (HS.out [44] _ _ _ rfl H0.out.ms).mono ?_; rw [H44.out]; rintro e w2 ⟨rfl, hm2, ha2⟩; have HR2 := hide (H0.out.taken (ms' := ms) hm2 ha2); clear hm2 ha2))
        go_step3
        rename_i K' hK'
        refine hK' _ _ ?_
        go_wp2_with fail
        refine HQ.out _ _ _ _ _ _ _ _ _ _ _ _ _ _ _ _ _ _ _ _ _ _ _ _ _ _ _ _ _ _ _ _ _ _ _ _ _ _ _ _ _ _ _ _ _ _ _ _ _ _ _ _ _ _ _ _ _ _ _ _ _ _ _ _ _ _ _ _ _ _ _ _ _ _ _ _ _ _ _ _ _ _ _ _ _ ⟨⟨_, _, _, rfl⟩, by rw [HN.out]; rfl, fun L hL => (by rw [HN.out] at hL; cases hL), HR3.out.low⟩
set_option maxRecDepth 100000 in
theorem rd_wrong (r0 c0 : Code) (hc0 : Tryz.f42.body = some (.seq r0 (.scope c0))) (w0 : World) (mv : Value) (mb : Nat) (R : Option (List Nd)) (hR : R = none) (lp : Option Addr) (ln lc : Nat) (ov : Value) (wd : ByteArray) (so : Int) (u9 u10 u11 u12 u13 u14 u15 u16 u17 u18 u19 u20 u21 u22 u23 u24 u25 u26 u27 u28 u29 u30 u31 u32 u33 u34 u35 u36 u37 u38 u39 u40 u41 u42 u43 u44 u45 u46 u47 u48 u49 u50 u51 u52 u53 u54 u55 u56 u57 u58 u59 u60 u61 u62 u63 u64 u65 u66 u67 u68 u69 u70 u71 u72 u73 u74 u75 u76 u77 u78 u79 u80 u81 u82 u83 u84 u85 u86 : Value) (W : World) (hW : Below w0.heap.size w0 W) (J : Nat → Act → World → Prop) (Q : Exit → Act → World → Prop) (hQ : RdQ w0 mv mb R Q) :
    ∃ rest, findLabel c0 2 = some (.seq .skip rest) ∧ rest.wp Tryz.prog (jumpAll J Q) { tmps := (Value.agg #[mv] :: Value.pointer (some ⟨mb, 0, none⟩) :: Value.slice none 0 0 :: Value.bool false :: (Value.slice lp ln lc) :: ov :: Value.string wd :: Value.pointer (some ⟨mb + 1, 0, none⟩) :: Value.int .i64 so :: u9 :: u10 :: u11 :: u12 :: u13 :: u14 :: u15 :: u16 :: u17 :: u18 :: u19 :: u20 :: u21 :: u22 :: u23 :: u24 :: u25 :: u26 :: u27 :: u28 :: u29 :: u30 :: u31 :: u32 :: u33 :: u34 :: u35 :: u36 :: u37 :: u38 :: u39 :: u40 :: u41 :: u42 :: u43 :: u44 :: u45 :: u46 :: u47 :: u48 :: u49 :: u50 :: u51 :: u52 :: u53 :: u54 :: u55 :: u56 :: u57 :: u58 :: u59 :: u60 :: u61 :: u62 :: u63 :: u64 :: u65 :: u66 :: u67 :: u68 :: u69 :: u70 :: u71 :: u72 :: u73 :: u74 :: u75 :: u76 :: u77 :: u78 :: u79 :: u80 :: u81 :: u82 :: u83 :: u84 :: u85 :: u86 :: []).toArray, defers := [] } W := by
  have HQ := hide hQ
  have HW := hide hW
  have HN := hide hR
  unfold Tryz.f42 at hc0
  dsimp only at hc0
  have hc1 := Code.scope.inj (Code.seq.inj (Option.some.inj hc0)).2
  subst hc1
  clear hc0 hQ hW hR
  refine ⟨_, rfl, ?_⟩
  go_wp2_with fail
  refine HQ.out _ _ _ _ _ _ _ _ _ _ _ _ _ _ _ _ _ _ _ _ _ _ _ _ _ _ _ _ _ _ _ _ _ _ _ _ _ _ _ _ _ _ _ _ _ _ _ _ _ _ _ _ _ _ _ _ _ _ _ _ _ _ _ _ _ _ _ _ _ _ _ _ _ _ _ _ _ _ _ _ _ _ _ _ _ ⟨⟨_, _, _, rfl⟩, by rw [HN.out]; rfl, fun L hL => (by rw [HN.out] at hL; cases hL), HW.out⟩
theorem rd_fall0 {X : Code} {w0 : World} {mv : Value} {mb tb : Nat} {R : Option (List Nd)} {lp : Option Addr} {ln lc : Nat} {ov : Value} {wd : ByteArray} {so : Int} {u9 u10 u11 u12 u13 u14 u15 u16 u17 u18 u19 u20 u21 u22 u23 u24 u25 u26 u27 u28 u29 u30 u31 u32 u33 u34 u35 u36 u37 u38 u39 u40 u41 u42 u43 u44 u45 u46 u47 u48 u49 u50 u51 u52 u53 u54 u55 u56 u57 u58 u59 u60 u61 u62 u63 u64 u65 u66 u67 u68 u69 u70 u71 u72 u73 u74 u75 u76 u77 u78 u79 u80 u81 u82 u83 u84 u85 u86 : Value} {W : World} {J : Nat → Act → World → Prop} {Q : Exit → Act → World → Prop} (r0 c0 : Code) (hc0 : Tryz.f42.body = some (.seq r0 (.scope c0))) (s : Rs) (hX : findLabel c0 0 = some (.seq .skip X)) (hpos : s.pos = 0) (hr : readR s = R) (hP : RwP s) (hM : RwM w0 mb tb s.ms s.l s.op (.slice lp ln lc) ov W) (hsw : SortW w0) (hJ : ∀ l a w, RdJ w0 mv mb tb R l a w → rdM mb l a w < measR s + 1 → J l a w) : X.wp Tryz.prog (jumpAll J Q) { tmps := (Value.agg #[mv] :: Value.pointer (some ⟨mb, 0, none⟩) :: Value.slice none 0 0 :: Value.bool false :: (Value.slice lp ln lc) :: ov :: Value.string wd :: Value.pointer (some ⟨mb + 1, 0, none⟩) :: Value.int .i64 so :: u9 :: u10 :: u11 :: u12 :: u13 :: u14 :: u15 :: u16 :: u17 :: u18 :: u19 :: u20 :: u21 :: u22 :: u23 :: u24 :: u25 :: u26 :: u27 :: u28 :: u29 :: u30 :: u31 :: u32 :: u33 :: u34 :: u35 :: u36 :: u37 :: u38 :: u39 :: u40 :: u41 :: u42 :: u43 :: u44 :: u45 :: u46 :: u47 :: u48 :: u49 :: u50 :: u51 :: u52 :: u53 :: u54 :: u55 :: u56 :: u57 :: u58 :: u59 :: u60 :: u61 :: u62 :: u63 :: u64 :: u65 :: u66 :: u67 :: u68 :: u69 :: u70 :: u71 :: u72 :: u73 :: u74 :: u75 :: u76 :: u77 :: u78 :: u79 :: u80 :: u81 :: u82 :: u83 :: u84 :: u85 :: u86 :: []).toArray, defers := [] } W := by
  obtain ⟨rest, h, hw⟩ := rd_start r0 c0 hc0 w0 mv mb tb R s hpos hr hP lp ln lc ov wd so u9 u10 u11 u12 u13 u14 u15 u16 u17 u18 u19 u20 u21 u22 u23 u24 u25 u26 u27 u28 u29 u30 u31 u32 u33 u34 u35 u36 u37 u38 u39 u40 u41 u42 u43 u44 u45 u46 u47 u48 u49 u50 u51 u52 u53 u54 u55 u56 u57 u58 u59 u60 u61 u62 u63 u64 u65 u66 u67 u68 u69 u70 u71 u72 u73 u74 u75 u76 u77 u78 u79 u80 u81 u82 u83 u84 u85 u86 W hM hsw J Q hJ
  rw [h] at hX
  have e := (Code.seq.inj (Option.some.inj hX)).2
  subst e
  exact hw
theorem wp_skipped {P : Program} {Y : Code} {Q : Exit → Act → World → Prop} {a : Act} {W : World} (h : Y.wp P Q a W) : (Code.seq .skip Y).wp P Q a W := wp_seq (wp_skip h)
theorem rd_pass (r0 c0 : Code) (hc0 : Tryz.f42.body = some (.seq r0 (.scope c0))) (w0 : World) (mv : Value) (mb tb : Nat) (R : Option (List Nd)) (hsw : SortW w0) (Q : Exit → Act → World → Prop) (hQ : RdQ w0 mv mb R Q) (l : Nat) (a : Act) (w : World) (h : RdJ w0 mv mb tb R l a w) :
    ∃ rest, findLabel c0 l = some rest ∧ rest.wp Tryz.prog (jumpAll (fun l' a' w' => RdJ w0 mv mb tb R l' a' w' ∧ rdM mb l' a' w' < rdM mb l a w) Q) a w := by
  obtain ⟨lp, ln, lc, ov, wd, so, u9, u10, u11, u12, u13, u14, u15, u16, u17, u18, u19, u20, u21, u22, u23, u24, u25, u26, u27, u28, u29, u30, u31, u32, u33, u34, u35, u36, u37, u38, u39, u40, u41, u42, u43, u44, u45, u46, u47, u48, u49, u50, u51, u52, u53, u54, u55, u56, u57, u58, u59, u60, u61, u62, u63, u64, u65, u66, u67, u68, u69, u70, u71, u72, u73, u74, u75, u76, u77, u78, u79, u80, u81, u82, u83, u84, u85, u86, rfl, h⟩ := h
  rcases h with ⟨rfl, hR, hb⟩ | ⟨s, hp, hr, hP, hM⟩
  · obtain ⟨rest, h1, h2⟩ := rd_wrong r0 c0 hc0 w0 mv mb R hR lp ln lc ov wd so u9 u10 u11 u12 u13 u14 u15 u16 u17 u18 u19 u20 u21 u22 u23 u24 u25 u26 u27 u28 u29 u30 u31 u32 u33 u34 u35 u36 u37 u38 u39 u40 u41 u42 u43 u44 u45 u46 u47 u48 u49 u50 u51 u52 u53 u54 u55 u56 u57 u58 u59 u60 u61 u62 u63 u64 u65 u66 u67 u68 u69 u70 u71 u72 u73 u74 u75 u76 u77 u78 u79 u80 u81 u82 u83 u84 u85 u86 w hb _ Q hQ
    exact ⟨_, h1, wp_skipped h2⟩
  · have hm := rdM_is (a := { tmps := (Value.agg #[mv] :: Value.pointer (some ⟨mb, 0, none⟩) :: Value.slice none 0 0 :: Value.bool false :: (Value.slice lp ln lc) :: ov :: Value.string wd :: Value.pointer (some ⟨mb + 1, 0, none⟩) :: Value.int .i64 so :: u9 :: u10 :: u11 :: u12 :: u13 :: u14 :: u15 :: u16 :: u17 :: u18 :: u19 :: u20 :: u21 :: u22 :: u23 :: u24 :: u25 :: u26 :: u27 :: u28 :: u29 :: u30 :: u31 :: u32 :: u33 :: u34 :: u35 :: u36 :: u37 :: u38 :: u39 :: u40 :: u41 :: u42 :: u43 :: u44 :: u45 :: u46 :: u47 :: u48 :: u49 :: u50 :: u51 :: u52 :: u53 :: u54 :: u55 :: u56 :: u57 :: u58 :: u59 :: u60 :: u61 :: u62 :: u63 :: u64 :: u65 :: u66 :: u67 :: u68 :: u69 :: u70 :: u71 :: u72 :: u73 :: u74 :: u75 :: u76 :: u77 :: u78 :: u79 :: u80 :: u81 :: u82 :: u83 :: u84 :: u85 :: u86 :: []).toArray, defers := [] }) hp hM.ms
    rw [hm]
    have hJ : ∀ l' a' w', RdJ w0 mv mb tb R l' a' w' → rdM mb l' a' w' < measR s + 1 → (RdJ w0 mv mb tb R l' a' w' ∧ rdM mb l' a' w' < measR s + 1) := fun _ _ _ h1 h2 => ⟨h1, h2⟩
    rcases hp with ⟨rfl, hpos⟩ | ⟨rfl, hpos⟩ | ⟨rfl, hpos⟩
    · obtain ⟨rest, h1, h2⟩ := rd_start r0 c0 hc0 w0 mv mb tb R s hpos hr hP lp ln lc ov wd so u9 u10 u11 u12 u13 u14 u15 u16 u17 u18 u19 u20 u21 u22 u23 u24 u25 u26 u27 u28 u29 u30 u31 u32 u33 u34 u35 u36 u37 u38 u39 u40 u41 u42 u43 u44 u45 u46 u47 u48 u49 u50 u51 u52 u53 u54 u55 u56 u57 u58 u59 u60 u61 u62 u63 u64 u65 u66 u67 u68 u69 u70 u71 u72 u73 u74 u75 u76 u77 u78 u79 u80 u81 u82 u83 u84 u85 u86 w hM hsw _ Q hJ
      exact ⟨_, h1, wp_skipped h2⟩
    · obtain ⟨rest, h1, h2⟩ := rd_label r0 c0 hc0 w0 mv mb tb R s hpos hr hP lp ln lc ov wd so u9 u10 u11 u12 u13 u14 u15 u16 u17 u18 u19 u20 u21 u22 u23 u24 u25 u26 u27 u28 u29 u30 u31 u32 u33 u34 u35 u36 u37 u38 u39 u40 u41 u42 u43 u44 u45 u46 u47 u48 u49 u50 u51 u52 u53 u54 u55 u56 u57 u58 u59 u60 u61 u62 u63 u64 u65 u66 u67 u68 u69 u70 u71 u72 u73 u74 u75 u76 u77 u78 u79 u80 u81 u82 u83 u84 u85 u86 w hM hsw _ Q hJ
      exact ⟨_, h1, wp_skipped h2⟩
    · obtain ⟨rest, h1, h2⟩ := rd_behind r0 c0 hc0 w0 mv mb tb R s hpos hr hP lp ln lc ov wd so u9 u10 u11 u12 u13 u14 u15 u16 u17 u18 u19 u20 u21 u22 u23 u24 u25 u26 u27 u28 u29 u30 u31 u32 u33 u34 u35 u36 u37 u38 u39 u40 u41 u42 u43 u44 u45 u46 u47 u48 u49 u50 u51 u52 u53 u54 u55 u56 u57 u58 u59 u60 u61 u62 u63 u64 u65 u66 u67 u68 u69 u70 u71 u72 u73 u74 u75 u76 u77 u78 u79 u80 u81 u82 u83 u84 u85 u86 w hM _ Q hQ hJ
      exact ⟨_, h1, wp_skipped h2⟩
set_option maxRecDepth 100000 in
set_option maxHeartbeats 4000000 in
theorem i_readRow (ms : List ByteArray) (ao : Option Addr) (cap tb : Nat) (w : World) (hlen : ms.length ≤ 8000) (hz : mzB ms) (hc : ms.length ≤ cap) (hcm : cap ≤ 9223372036854775807) (htb : tb < w.heap.size) (hcs : ms ≠ [] → ∃ o, ao = some ⟨tb, o, none⟩ ∧ ∀ i (h : i < ms.length), w.cell? ⟨tb, o + i, none⟩ = some (.string ms[i])) (hsw : SortW w) :
    Calls Tryz.prog 42 #[.agg #[.slice ao ms.length cap]] w fun e w' => ∃ v b, e = .returned (.tuple #[v, .bool b]) ∧ RdEnd w w.heap.size (readR ⟨0, ms, [], []⟩) v b w' := by
  have HSW := hide hsw
  have HP : Hid (RwP ⟨0, ms, [], []⟩) := hide ⟨⟨fun i hi => (by cases hi), List.Pairwise.nil, fun h => (by cases h)⟩, by simp [measR]; omega, by simp [measR]; omega, hz, fun n hn => (by cases hn), fun n hn => (by cases hn)⟩
  have HM : Hid (∀ W, Below (w.heap.size + 1) (w.alloc (.cells #[.slice ao ms.length cap] 58)) W → (∃ n : Nd, BoxL W (w.heap.size + 1) n.cells) → RwM w w.heap.size tb ms [] [] (.slice none 0 0) (.slice none 0 0) W) := hide (fun W hb hn => by
    have hb' : Below (w.alloc (.cells #[.slice ao ms.length cap] 58)).heap.size (w.alloc (.cells #[.slice ao ms.length cap] 58)) W := by simpa using hb
    have hb2 : Below w.heap.size w W := (malloc1 _ _).trans (hb'.mono (by simp))
    refine ⟨⟨⟨ao, cap, (BoxL.new w [.slice ao ms.length cap] _).keep (below_apart hb') (by simp), hc, hcm, fun hne => ?_⟩, by omega⟩, owns_nil _ _ _ _, owns_nil _ _ _ _, fun b hb => by simp [vblocks, cellBlocks] at hb, hn, hb2, htb, rfl⟩
    obtain ⟨o, e, h⟩ := hcs hne
    exact ⟨o, e, Nat.lt_of_lt_of_le htb hb2.size, fun i hi => (hb2.cell (p := ⟨tb, _, none⟩) htb).trans (h i hi)⟩)
  clear hsw hz hcs
  go_enter Tryz.func42, Tryz.ntmps42
  go_wp2_with fail
  refine wp_scope_labels (RdJ w (.slice ao ms.length cap) w.heap.size tb (readR ⟨0, ms, [], []⟩)) (rdM w.heap.size) ?_ (fun l a' w' h => rd_pass _ _ (by unfold Tryz.f42; rfl) w (.slice ao ms.length cap) w.heap.size tb (readR ⟨0, ms, [], []⟩) HSW.out _ ?hQ l a' w' h)
  case hQ =>
    intro v b lv ov wd so u9 u10 u11 u12 u13 u14 u15 u16 u17 u18 u19 u20 u21 u22 u23 u24 u25 u26 u27 u28 u29 u30 u31 u32 u33 u34 u35 u36 u37 u38 u39 u40 u41 u42 u43 u44 u45 u46 u47 u48 u49 u50 u51 u52 u53 u54 u55 u56 u57 u58 u59 u60 u61 u62 u63 u64 u65 u66 u67 u68 u69 u70 u71 u72 u73 u74 u75 u76 u77 u78 u79 u80 u81 u82 u83 u84 u85 u86 W hE
    obtain ⟨a1, n1, c1, rfl⟩ := hE.sl
    go_ret2
    exact ⟨_, _, rfl, hE⟩
  go_wp2_with fail
  go_step3
  rename_i K' hK'
  refine hK' _ _ (rd_fall0 _ _ (by unfold Tryz.f42; rfl) ⟨0, ms, [], []⟩ rfl rfl rfl HP.out (HM.out _ ?_ ⟨⟨0, noT, noT, 0, 0⟩, ?_⟩) HSW.out (fun l a' w' h _ => h))
  · exact (malloc1 _ _).mono (by simp)
  · have := BoxL.new (w.alloc (.cells #[.slice ao ms.length cap] 58)) (Nd.cells ⟨0, noT, noT, 0, 0⟩) 45
    rw [World.size_alloc] at this
    exact this
end Go.Proofs.YtmjlblbhakppfaaGreatDoor
