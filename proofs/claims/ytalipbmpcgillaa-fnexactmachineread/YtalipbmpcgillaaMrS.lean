/- MachineRead: the program's and the specification's. -/
import Derived.Test.YtalipbmpcgillaaMrM
import Derived.Test.YtalipbmpcgillaaSdMJ
import Derived.Test.YtalipbmpcgillaaMachP
namespace Go.Proofs.Ytalipbmpcgillaa
open Go.RowKit
attribute [local go_sem ↓] Go.wp_at_zero Go.wp_at_succ

theorem machine_right_q {q : Bool} {m : Mach} (hq : machB m = q) (v : Value) (w : World) (hf : m.fit) (hv : MachAt w v m) :
    Calls Try.prog 25 #[v] w fun e w' => e = .returned (.bool q) ∧ Below w.heap.size w w' := by subst hq; exact machine_right m v w hf hv
def moV (sv ev : Value) (m : Mach) (c : Int) : Value := .agg #[sv, ev, .int .i64 m.start, .int .i64 c]
def outM : Obj := .cells #[.slice none 0 0, .slice none 0 0, .int .i64 0, .int .i64 0] 50
structure MrAns (w w' : World) (e : Ending) (m : Mach) (c : Int) : Prop where
  ans : ∃ sv ev, e = .returned (moV sv ev m c) ∧ RStateOwn w' w.heap.size sv m.states ∧ REdgeOwn w' w.heap.size ev m.edges ∧ (∀ b ∈ vblocks sv, b ∉ vblocks ev)
  bel : Below w.heap.size w w'
theorem mr_err {w w' : World} {t : ByteArray} {C : Int} (hT : machT t = noMach ∧ machC t = C) (hb : Below w.heap.size w w') : MrAns w w' (.returned (.agg #[.slice none 0 0, .slice none 0 0, .int .i64 0, .int .i64 C])) (machT t) (machC t) := by
  rw [hT.1, hT.2]
  exact ⟨⟨_, _, rfl, RStateOwn.nil _ _, REdgeOwn.nil _ _, by simp [vblocks, cellBlocks]⟩, hb⟩
theorem mr_good {w w3 w' : World} {t : ByteArray} {m : Mach} {ps pe : Option Addr} {cs ce : Nat} (hT : machT t = m ∧ machC t = 0) (hs : RStateOwn w3 (w.heap.size + 2) (.slice ps m.states.length cs) m.states) (he : REdgeOwn w3 (w.heap.size + 2) (.slice pe m.edges.length ce) m.edges) (hd : ∀ b ∈ vblocks (.slice ps m.states.length cs), b ∉ vblocks (.slice pe m.edges.length ce)) (hb : Below w.heap.size w w') (ha : Apart w3 w' [w.heap.size]) :
    MrAns w w' (.returned (.agg #[.slice ps m.states.length cs, .slice pe m.edges.length ce, .int .i64 m.start, .int .i64 0])) (machT t) (machC t) := by
  rw [hT.1, hT.2]
  exact ⟨⟨_, _, rfl, owns_down (hs.keep ha (fun b hb hm => by have := hs.fresh.lo b hb; simp at hm; omega)) (by omega), owns_down (he.keep ha (fun b hb hm => by have := he.fresh.lo b hb; simp at hm; omega)) (by omega), hd⟩, hb⟩
theorem set4 {B : Nat} {a w : World} (h : Below B a w) (y0 y1 y2 y3 : Value) : Below B a ((((w.setCell ⟨B, 0, none⟩ y0).setCell ⟨B, 1, none⟩ y1).setCell ⟨B, 2, none⟩ y2).setCell ⟨B, 3, none⟩ y3) :=
  (((h.setCell (p := ⟨B, 0, none⟩) (Nat.le_refl _) _).setCell (p := ⟨B, 1, none⟩) (Nat.le_refl _) _).setCell (p := ⟨B, 2, none⟩) (Nat.le_refl _) _).setCell (p := ⟨B, 3, none⟩) (Nat.le_refl _) _
theorem ap4 (w : World) (B : Nat) (y0 y1 y2 y3 : Value) : Apart w ((((w.setCell ⟨B, 0, none⟩ y0).setCell ⟨B, 1, none⟩ y1).setCell ⟨B, 2, none⟩ y2).setCell ⟨B, 3, none⟩ y3) [B] :=
  (((setCell_apart w B 0 y0).setCell 1 y1).setCell 2 y2).setCell 3 y3
theorem rd3_no {t : ByteArray} {m : Mach} {a c : Int} (h8 : ¬ 8000 < t.size) (h : Rd3 t m a c) (hq : (decide (c = 0) && decide (a = (t.size : Int))) = false) : machT t = noMach ∧ machC t = 3 := by
  rcases h with ⟨rfl, h⟩ | ⟨_, h⟩
  · have hn : mrOk t m a = false := by unfold mrOk; simp at hq; simp [hq]
    have := machT_some h8 h
    rw [hn] at this
    exact this
  · exact machT_none h8 h
theorem rd3_yes {t : ByteArray} {m : Mach} {a c : Int} (h8 : ¬ 8000 < t.size) (h : Rd3 t m a c) (hq : (decide (c = 0) && decide (a = (t.size : Int))) = true) : m.fit ∧ (∀ q, machB m = q → machT t = (if q then m else noMach) ∧ machC t = (if q then 0 else 3)) := by
  simp only [Bool.and_eq_true, decide_eq_true_eq] at hq
  rcases h with ⟨_, h⟩ | ⟨h1, _⟩
  · refine ⟨gMach_fit h, fun q e => ?_⟩
    have hn : mrOk t m a = q := by unfold mrOk; rw [e]; simp [hq.2]
    have := machT_some h8 h
    rw [hn] at this
    exact this
  · exact absurd hq.1 h1
set_option maxRecDepth 100000 in
set_option maxHeartbeats 2000000 in
theorem i_machineRead (t : ByteArray) (w : World) (hs : t.size ≤ 8000) :
    Calls Try.prog 35 #[.string t] w fun e w' => MrAns w w' e (machT t) (machC t) := by
  have h8 : ¬ 8000 < t.size := by omega
  obtain ⟨W0, hW0⟩ : ∃ W0, W0 = (w.alloc outM).alloc (.cells #[.string t, .int .i64 0, .nilIface] 126) := ⟨_, rfl⟩
  have HO : Hid (BoxL W0 w.heap.size [.slice none 0 0, .slice none 0 0, .int .i64 0, .int .i64 0]) := hide (by rw [hW0]; exact (BoxL.new w [.slice none 0 0, .slice none 0 0, .int .i64 0, .int .i64 0] 50).keep (below_apart (malloc1 _ _)) (by simp))
  have HRD : Hid (RdAt W0 (w.heap.size + 1) t 0 0) := hide (by
    rw [hW0]
    refine ⟨?_, ?_, ?_, ?_, ?_⟩
    · simp
    · simp
    · simp; rfl
    · simp
    · simp)
  have HBW : Hid (Below w.heap.size w W0 ∧ W0.heap.size = w.heap.size + 2) := hide (by rw [hW0]; exact ⟨((Below.refl _ _).alloc (Nat.le_refl _) _).alloc (by simp) _, by simp⟩)
  have HW0 := hide hW0
  have HM : Hid (∀ W, W = W0 → Calls Try.prog 84 #[.pointer (some ⟨w.heap.size + 1, 0, none⟩)] W fun e w' => ∃ sv ev m a c, e = .returned (.agg #[sv, ev, .int .i64 m.start]) ∧ RStateOwn w' W.heap.size sv m.states ∧ REdgeOwn w' W.heap.size ev m.edges ∧ (∀ b ∈ vblocks sv, b ∉ vblocks ev) ∧ Rd3 t m a c ∧ RdAt w' (w.heap.size + 1) t a c ∧ Apart W w' [w.heap.size + 1]) := hide (fun W e => by rw [e]; exact i_readMachine t (w.heap.size + 1) W0 hs HRD.out)
  clear hs hW0
  go_enter Try.func35, Try.ntmps35
  go_wp2_with (first
    | (go_at_call 84; refine (HM.out _ HW0.out.symm).mono ?_; rintro e w2 ⟨sv, ev, m, a, c, rfl, hs2, he2, hd2, h3, hr2, ha2⟩; rw [← HW0.out] at hs2 he2 ha2; rw [HBW.out.2] at hs2 he2; obtain ⟨ps, cs, rfl⟩ := owns_shape hs2; obtain ⟨pe, ce, rfl⟩ := owns_shape he2; have HS2 := hide hs2; have HE2 := hide he2; have HD2 := hide hd2; have H3 := hide h3; have HR2 := hide (hr2.keep (below_apart (malloc1 w2 (.cells #[.slice ps m.states.length cs, .slice pe m.edges.length ce, .int .i64 m.start] 45))) (by simp)); have HA2 := hide ha2; have HO2 := hide ((HO.out.keep ha2 (by simp)).keep (below_apart (malloc1 w2 (.cells #[.slice ps m.states.length cs, .slice pe m.edges.length ce, .int .i64 m.start] 45))) (by simp)); clear hs2 he2 hd2 h3 hr2 ha2))
  have HB2 : Hid (Below w.heap.size w (w2.alloc (.cells #[.slice ps m.states.length cs, .slice pe m.edges.length ce, .int .i64 m.start] 45))) := hide ((HBW.out.1.trans (HA2.out.below HBW.out.1.size (by simp))).alloc (Nat.le_trans HBW.out.1.size HA2.out.size) _)
  obtain ⟨q1, hq1⟩ : ∃ q, (decide (c = 0) && decide (a = (t.size : Int))) = q := ⟨_, rfl⟩
  have HQ1 := hide hq1
  clear hq1
  cases q1
  · have HT := hide (rd3_no h8 H3.out HQ1.out)
    go_wp2_with (go_at_call 85; refine (rd_whole (t := t) HQ1.out _ _ HR2.out).mono ?_; rintro e w3 ⟨rfl, hb3⟩; have HB3 := hide (HB2.out.trans (hb3.mono HB2.out.size)); have HO3 := hide (HO2.out.keep (below_apart hb3) (by simp)); have b0 := HO3.out.cell 0 _ rfl; have b1 := HO3.out.cell 1 _ rfl; have b2 := HO3.out.cell 2 _ rfl; have b3 := HO3.out.cell 3 _ rfl; have bz := HO3.out.fz; clear hb3)
    exact bodyPost_ret (v := .agg #[.slice none 0 0, .slice none 0 0, .int .i64 0, .int .i64 3]) (by simp [results, Try.results35, go_sem, b0, b1, b2, b3]) rfl (mr_err HT.out (set4 HB3.out _ _ _ _))
  · obtain ⟨hfit, hall⟩ := rd3_yes h8 H3.out HQ1.out
    have HFIT := hide hfit
    obtain ⟨q2, hq2⟩ : ∃ q, machB m = q := ⟨_, rfl⟩
    have HT := hide (hall q2 hq2)
    have HQ2 := hide hq2
    have HML : Hid (m.states.length ≤ 4294967296 ∧ m.edges.length ≤ 4294967296) := hide (by have := hfit.2.2; omega)
    clear hfit hall hq2
    cases q2
    · go_wp2_with (first
        | (go_at_call 85; refine (rd_whole (t := t) HQ1.out _ _ HR2.out).mono ?_; rintro e w3 ⟨rfl, hb3⟩; have HB3 := hide (HB2.out.trans (hb3.mono HB2.out.size)); have HBb : Hid (Below w2.heap.size w2 w3) := hide ((malloc1 _ _).trans (hb3.mono (by simp))); have HO3 := hide (HO2.out.keep (below_apart hb3) (by simp)); have HX3 := hide ((BoxL.new w2 [.slice ps m.states.length cs, .slice pe m.edges.length ce, .int .i64 m.start] 45).keep (below_apart hb3) (by simp)); have d0 := HX3.out.cell 0 _ rfl; have d1 := HX3.out.cell 1 _ rfl; have d2 := HX3.out.cell 2 _ rfl; clear hb3)
        | (go_at_call 25; refine (machine_right_q HQ2.out _ w3 HFIT.out ⟨_, _, rfl, (HS2.out.below HBb.out).sl HML.out.1, (HE2.out.below HBb.out).sl HML.out.2⟩).mono ?_; rintro e w4 ⟨rfl, hb4⟩; have HB4 := hide (HB3.out.trans (hb4.mono HB3.out.size)); have HO4 := hide (HO3.out.keep (below_apart hb4) (by simp)); have b0 := HO4.out.cell 0 _ rfl; have b1 := HO4.out.cell 1 _ rfl; have b2 := HO4.out.cell 2 _ rfl; have b3 := HO4.out.cell 3 _ rfl; have bz := HO4.out.fz; clear hb4))
      exact bodyPost_ret (v := .agg #[.slice none 0 0, .slice none 0 0, .int .i64 0, .int .i64 3]) (by simp [results, Try.results35, go_sem, b0, b1, b2, b3]) rfl (mr_err HT.out (set4 HB4.out _ _ _ _))
    · go_wp2_with (first
        | (go_at_call 85; refine (rd_whole (t := t) HQ1.out _ _ HR2.out).mono ?_; rintro e w3 ⟨rfl, hb3⟩; have HB3 := hide (HB2.out.trans (hb3.mono HB2.out.size)); have HBb : Hid (Below w2.heap.size w2 w3) := hide ((malloc1 _ _).trans (hb3.mono (by simp))); have HO3 := hide (HO2.out.keep (below_apart hb3) (by simp)); have HX3 := hide ((BoxL.new w2 [.slice ps m.states.length cs, .slice pe m.edges.length ce, .int .i64 m.start] 45).keep (below_apart hb3) (by simp)); have d0 := HX3.out.cell 0 _ rfl; have d1 := HX3.out.cell 1 _ rfl; have d2 := HX3.out.cell 2 _ rfl; clear hb3)
        | (go_at_call 25; refine (machine_right_q HQ2.out _ w3 HFIT.out ⟨_, _, rfl, (HS2.out.below HBb.out).sl HML.out.1, (HE2.out.below HBb.out).sl HML.out.2⟩).mono ?_; rintro e w4 ⟨rfl, hb4⟩; have HB4 := hide (HB3.out.trans (hb4.mono HB3.out.size)); have HBc : Hid (Below w2.heap.size w2 w4) := hide (HBb.out.trans (hb4.mono HBb.out.size)); have HO4 := hide (HO3.out.keep (below_apart hb4) (by simp)); have b0 := HO4.out.cell 0 _ rfl; have b1 := HO4.out.cell 1 _ rfl; have b2 := HO4.out.cell 2 _ rfl; have b3 := HO4.out.cell 3 _ rfl; have bz := HO4.out.fz; have HX4 := hide (HX3.out.keep (below_apart hb4) (by simp)); have g0 := HX4.out.cell 0 _ rfl; have g1 := HX4.out.cell 1 _ rfl; have g2 := HX4.out.cell 2 _ rfl; clear hb4))
      exact bodyPost_ret (v := .agg #[.slice ps m.states.length cs, .slice pe m.edges.length ce, .int .i64 m.start, .int .i64 0]) (by simp [results, Try.results35, go_sem, b0, b1, b2, b3]) rfl (mr_good HT.out (HS2.out.below HBc.out) (HE2.out.below HBc.out) HD2.out (set4 HB4.out _ _ _ _) (ap4 _ _ _ _ _ _))
end Go.Proofs.Ytalipbmpcgillaa
namespace Go.Proofs.Ytalipbmpcgillaa
open Go.RowKit
attribute [local go_sem ↓] Go.wp_at_zero Go.wp_at_succ

theorem rd3_bad {t : ByteArray} {m : Mach} {a c : Int} (h8 : ¬ 8000 < t.size) (h : Rd3 t m a c) (hc : c ≠ 0) : machT t = noMach ∧ machC t = 3 := rd3_no h8 h (by simp [hc])
theorem rd3_on {t : ByteArray} {m : Mach} {a : Int} (h8 : ¬ 8000 < t.size) (h : Rd3 t m a 0) : m.fit ∧ ((bytesR m = t ∧ t.toList ≠ []) → machT t = m ∧ machC t = 0) ∧ (¬ (bytesR m = t ∧ t.toList ≠ []) → machT t = noMach ∧ machC t = 3) := by
  rcases h with ⟨_, h⟩ | ⟨h1, _⟩
  · refine ⟨gMach_fit h, fun hb => ?_, fun hb => ?_⟩
    · have := machT_some h8 h
      rw [(mr_same h).2 hb] at this
      exact this
    · have := machT_some h8 h
      rw [Bool.eq_false_iff.2 (fun e => hb ((mr_same h).1 e))] at this
      exact this
  · exact absurd rfl h1
theorem stopM {p : Prop} (h : True → p) : p := h trivial
theorem list_inj {a b : ByteArray} (h : a.toList = b.toList) : a = b := by
  rw [Go.ByteArray.toList_eq, Go.ByteArray.toList_eq] at h
  apply ByteArray.ext
  exact Array.ext' h
set_option maxRecDepth 100000 in
set_option maxHeartbeats 2000000 in
theorem s_machineRead (t : ByteArray) (w : World) (hs : t.size ≤ 8000) :
    Calls Try.prog 34 #[.string t] w fun e w' => MrAns w w' e (machT t) (machC t) := by
  have h8 : ¬ 8000 < t.size := by omega
  obtain ⟨W0, hW0⟩ : ∃ W0, W0 = (w.alloc outM).alloc (.cells #[.string t, .int .i64 0, .bool false] 120) := ⟨_, rfl⟩
  have HO : Hid (BoxL W0 w.heap.size [.slice none 0 0, .slice none 0 0, .int .i64 0, .int .i64 0]) := hide (by rw [hW0]; exact (BoxL.new w [.slice none 0 0, .slice none 0 0, .int .i64 0, .int .i64 0] 50).keep (below_apart (malloc1 _ _)) (by simp))
  have HRD : Hid (SdAt W0 (w.heap.size + 1) t 0 0) := hide (by
    rw [hW0]
    refine ⟨⟨0, by omega, by omega, fun _ => rfl, ?_⟩, ?_, ?_, ?_, ?_⟩
    all_goals simp)
  have HBW : Hid (Below w.heap.size w W0 ∧ W0.heap.size = w.heap.size + 2) := hide (by rw [hW0]; exact ⟨((Below.refl _ _).alloc (Nat.le_refl _) _).alloc (by simp) _, by simp⟩)
  have HW0 := hide hW0
  have HM : Hid (∀ W, W = W0 → Calls Try.prog 83 #[.pointer (some ⟨w.heap.size + 1, 0, none⟩)] W fun e w' => ∃ sv ev m a c, e = .returned (.agg #[sv, ev, .int .i64 m.start]) ∧ RStateOwn w' W.heap.size sv m.states ∧ REdgeOwn w' W.heap.size ev m.edges ∧ (∀ b ∈ vblocks sv, b ∉ vblocks ev) ∧ Rd3 t m a c ∧ SdAt w' (w.heap.size + 1) t a c ∧ Apart W w' [w.heap.size + 1]) := hide (fun W e => by rw [e]; exact s_machine t (w.heap.size + 1) W0 hs HRD.out)
  clear hs hW0
  go_enter Try.func34, Try.ntmps34
  go_wp2_with (first
    | (go_at_call 83; refine (HM.out _ HW0.out.symm).mono ?_; rintro e w2 ⟨sv, ev, m, a, c, rfl, hs2, he2, hd2, h3, hr2, ha2⟩; rw [← HW0.out] at hs2 he2 ha2; rw [HBW.out.2] at hs2 he2; obtain ⟨ps, cs, rfl⟩ := owns_shape hs2; obtain ⟨pe, ce, rfl⟩ := owns_shape he2; have HS2 := hide hs2; have HE2 := hide he2; have HD2 := hide hd2; have H3 := hide h3; obtain ⟨-, -, y2, -, -⟩ := hr2.keep (below_apart (malloc1 w2 (.cells #[.slice ps m.states.length cs, .slice pe m.edges.length ce, .int .i64 m.start] 45))) (by simp); have HO2 := hide ((HO.out.keep ha2 (by simp)).keep (below_apart (malloc1 w2 (.cells #[.slice ps m.states.length cs, .slice pe m.edges.length ce, .int .i64 m.start] 45))) (by simp)); have HB2 : Hid (Below w.heap.size w (w2.alloc (.cells #[.slice ps m.states.length cs, .slice pe m.edges.length ce, .int .i64 m.start] 45))) := hide ((HBW.out.1.trans (ha2.below HBW.out.1.size (by simp))).alloc (Nat.le_trans HBW.out.1.size ha2.size) _); have b0 := HO2.out.cell 0 _ rfl; have b1 := HO2.out.cell 1 _ rfl; have b2 := HO2.out.cell 2 _ rfl; have b3 := HO2.out.cell 3 _ rfl; have bz := HO2.out.fz; clear hs2 he2 hd2 h3 hr2 ha2; obtain ⟨x, hx⟩ : ∃ x, bytesR m = x := ⟨_, rfl⟩; have HX := hide hx; clear hx; rcases Decidable.em (c = 0) with rfl | hc)
    | (go_at_call 32; refine (s_machineBytes m _ (w2.alloc (.cells #[.slice ps m.states.length cs, .slice pe m.edges.length ce, .int .i64 m.start] 45)) (rd3_on h8 H3.out).1 ⟨_, _, rfl, (HS2.out.below (malloc1 _ _)).sl (by have := (rd3_on h8 H3.out).1.2.2; omega), (HE2.out.below (malloc1 _ _)).sl (by have := (rd3_on h8 H3.out).1.2.2; omega)⟩).mono ?_; rw [HX.out]; rintro e w3 ⟨rfl, hb3⟩; have HB3 := hide (HB2.out.trans (hb3.mono HB2.out.size)); have HBb : Hid (Below w2.heap.size w2 w3) := hide ((malloc1 _ _).trans (hb3.mono (by simp))); have HO3 := hide (HO2.out.keep (below_apart hb3) (by simp)); have d0 := HO3.out.cell 0 _ rfl; have d1 := HO3.out.cell 1 _ rfl; have d2 := HO3.out.cell 2 _ rfl; have d3 := HO3.out.cell 3 _ rfl; have dz := HO3.out.fz; have HX3 := hide ((BoxL.new w2 [.slice ps m.states.length cs, .slice pe m.edges.length ce, .int .i64 m.start] 45).keep (below_apart hb3) (by simp)); have g0 := HX3.out.cell 0 _ rfl; have g1 := HX3.out.cell 1 _ rfl; have g2 := HX3.out.cell 2 _ rfl; clear hb3; by_cases hxe : (x.toList == t.toList) = true))
  · rename_i hem
    refine bodyPost_ret (v := .agg #[.slice none 0 0, .slice none 0 0, .int .i64 0, .int .i64 3]) (by simp [results, Try.results34, go_sem, d0, d1, d2, d3]) rfl (mr_err ((rd3_on h8 H3.out).2.2 (fun h => h.2 (by simpa using hem))) (set4 HB3.out _ _ _ _))
  · rename_i hem
    refine bodyPost_ret (v := .agg #[.slice ps m.states.length cs, .slice pe m.edges.length ce, .int .i64 m.start, .int .i64 0]) (by simp [results, Try.results34, go_sem, d0, d1, d2, d3]) rfl (mr_good ((rd3_on h8 H3.out).2.1 ⟨HX.out.trans (list_inj (by simpa using hxe)), by simpa using hem⟩) (HS2.out.below HBb.out) (HE2.out.below HBb.out) HD2.out (set4 HB3.out _ _ _ _) (ap4 _ _ _ _ _ _))
  · refine bodyPost_ret (v := .agg #[.slice none 0 0, .slice none 0 0, .int .i64 0, .int .i64 3]) (by simp [results, Try.results34, go_sem, d0, d1, d2, d3]) rfl (mr_err ((rd3_on h8 H3.out).2.2 (fun h => hxe (by rw [← HX.out, h.1]; simp))) (set4 HB3.out _ _ _ _))
  · refine bodyPost_ret (v := .agg #[.slice none 0 0, .slice none 0 0, .int .i64 0, .int .i64 3]) (by simp [results, Try.results34, go_sem, b0, b1, b2, b3]) rfl (mr_err (rd3_bad h8 H3.out hc) (set4 HB2.out _ _ _ _))
set_option maxRecDepth 100000 in
set_option maxHeartbeats 2000000 in
theorem i_machineRead_any (t : ByteArray) (w : World) (hs : t.size ≤ maxLen) :
    Calls Try.prog 35 #[.string t] w fun e w' => MrAns w w' e (machT t) (machC t) := by
  by_cases h : 8000 < t.size
  · unfold maxLen at hs
    have HT := hide (machT_big h)
    go_enter Try.func35, Try.ntmps35
    go_wp2_with fail
    refine bodyPost_ret (v := .agg #[.slice none 0 0, .slice none 0 0, .int .i64 0, .int .i64 2]) (by simp [results, Try.results35, go_sem]) rfl (mr_err HT.out ((Below.refl _ _).alloc (Nat.le_refl _) _))
  · exact i_machineRead t w (by omega)
set_option maxRecDepth 100000 in
set_option maxHeartbeats 2000000 in
theorem s_machineRead_any (t : ByteArray) (w : World) (hs : t.size ≤ maxLen) :
    Calls Try.prog 34 #[.string t] w fun e w' => MrAns w w' e (machT t) (machC t) := by
  by_cases h : 8000 < t.size
  · unfold maxLen at hs
    have HT := hide (machT_big h)
    go_enter Try.func34, Try.ntmps34
    go_wp2_with fail
    refine bodyPost_ret (v := .agg #[.slice none 0 0, .slice none 0 0, .int .i64 0, .int .i64 2]) (by simp [results, Try.results34, go_sem]) rfl (mr_err HT.out ((Below.refl _ _).alloc (Nat.le_refl _) _))
  · exact s_machineRead t w (by omega)
theorem machT_len (t : ByteArray) : (machT t).states.length ≤ 40 ∧ (machT t).edges.length ≤ 80 := by
  unfold machT
  split
  · simp [noMach]
  · split
    · rename_i m a hg
      obtain ⟨_, h1, h2, _⟩ := gMach_goes hg
      split
      · exact ⟨h1, h2⟩
      · simp [noMach]
    · simp [noMach]
end Go.Proofs.Ytalipbmpcgillaa
