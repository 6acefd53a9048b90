/- The specification's reader: a number, a text, how many. -/
import Derived.Test.YtonafcifolddjaaGreatDoorQB32
import Derived.Test.YtonafcifolddjaaGreatDoorQB19
import Derived.Deep.DrawnRows
import Derived.Deep.RegionWith
import Derived.Deep.RegionLaw
import Derived.Deep.DeepCutAuto
namespace Go.Proofs.YtonafcifolddjaaGreatDoor
open Go.RowKit
attribute [local go_sem ↓] Go.wp_at_zero Go.wp_at_succ

structure SdAt (w : World) (rb : Nat) (t : ByteArray) (a c : Int) : Prop where
  has : ∃ s : Int, 0 ≤ s ∧ s ≤ 8000 ∧ (c = 0 → s = a) ∧ w.cell? ⟨rb, 1, none⟩ = some (.int .i64 s)
  c0 : w.cell? ⟨rb, 0, none⟩ = some (.string t)
  c2 : w.cell? ⟨rb, 2, none⟩ = some (.bool (decide (c ≠ 0)))
  f1 : w.frozen? ⟨rb, 1, none⟩ = false
  f2 : w.frozen? ⟨rb, 2, none⟩ = false
theorem SdAt.lt {w : World} {rb : Nat} {t : ByteArray} {a c : Int} (h : SdAt w rb t a c) : rb < w.heap.size := World.block_lt_of_cell? w _ h.c0
structure NumB (w : World) (b : Nat) (x0 x1 x2 : Value) : Prop where
  k0 : w.cell? ⟨b, 0, none⟩ = some x0
  k1 : w.cell? ⟨b, 1, none⟩ = some x1
  k2 : w.cell? ⟨b, 2, none⟩ = some x2
  q0 : w.frozen? ⟨b, 0, none⟩ = false
  q1 : w.frozen? ⟨b, 1, none⟩ = false
  q2 : w.frozen? ⟨b, 2, none⟩ = false
theorem num_early {W w2 : World} {x0 x1 x2 : Value} {T : TypeId} (hb : Below (W.alloc (.cells #[x0, x1, x2] T)).heap.size (W.alloc (.cells #[x0, x1, x2] T)) w2) : NumB w2 W.heap.size x0 x1 x2 := by
  refine ⟨?_, ?_, ?_, ?_, ?_, ?_⟩
  · exact (hb.cell (p := ⟨W.heap.size, 0, none⟩) (by simp)).trans (by simp)
  · exact (hb.cell (p := ⟨W.heap.size, 1, none⟩) (by simp)).trans (by simp)
  · exact (hb.cell (p := ⟨W.heap.size, 2, none⟩) (by simp)).trans (by simp)
  · exact (hb.frozen (p := ⟨W.heap.size, 0, none⟩) (by simp)).trans (by simp [World.frozen?_alloc_at])
  · exact (hb.frozen (p := ⟨W.heap.size, 1, none⟩) (by simp)).trans (by simp [World.frozen?_alloc_at])
  · exact (hb.frozen (p := ⟨W.heap.size, 2, none⟩) (by simp)).trans (by simp [World.frozen?_alloc_at])
theorem num_late (w : World) (x0 x1 x2 : Value) (T : TypeId) : NumB (w.alloc (.cells #[x0, x1, x2] T)) w.heap.size x0 x1 x2 := by
  refine ⟨?_, ?_, ?_, ?_, ?_, ?_⟩
  all_goals simp
theorem num_put {w : World} {b : Nat} {x0 x1 x2 : Value} (h : NumB w b x0 x1 x2) (y0 y1 y2 : Value) : NumB (((w.setCell ⟨b, 0, none⟩ y0).setCell ⟨b, 1, none⟩ y1).setCell ⟨b, 2, none⟩ y2) b y0 y1 y2 := by
  obtain ⟨k0, k1, k2, q0, q1, q2⟩ := h
  refine ⟨?_, ?_, ?_, ?_, ?_, ?_⟩
  · rw [World.cell?_setCell_other _ _ _ _ (by simp), World.cell?_setCell_other _ _ _ _ (by simp)]; exact World.cell?_setCell_same _ _ _ k0
  · rw [World.cell?_setCell_other _ _ _ _ (by simp)]; exact World.cell?_setCell_same _ _ _ ((World.cell?_setCell_other _ _ _ _ (by simp)).trans k1)
  · exact World.cell?_setCell_same _ _ _ (((World.cell?_setCell_other _ _ _ _ (by simp)).trans (World.cell?_setCell_other _ _ _ _ (by simp))).trans k2)
  · simp [World.frozen?_setCell, q0]
  · simp [World.frozen?_setCell, q1]
  · simp [World.frozen?_setCell, q2]
theorem SdAt.keep {w w' : World} {rb : Nat} {t : ByteArray} {a c : Int} {l : List Nat} (h : SdAt w rb t a c) (ha : Apart w w' l) (hl : rb ∉ l) : SdAt w' rb t a c := by
  obtain ⟨⟨s, s0, s8, se, c1⟩, c0, c2, f1, f2⟩ := h
  have hlt : rb < w.heap.size := World.block_lt_of_cell? w _ c0
  exact ⟨⟨s, s0, s8, se, ha.cell' c1 hl⟩, ha.cell' c0 hl, ha.cell' c2 hl, ha.frozen' hlt f1 hl, ha.frozen' hlt f2 hl⟩
theorem sd_at {w : World} {rb : Nat} {t : ByteArray} {a c p : Int} (h : SdAt w rb t a c) (h0 : 0 ≤ p) (h8 : p ≤ 8000) : SdAt (w.setCell ⟨rb, 1, none⟩ (.int .i64 p)) rb t p c ∧ Apart w (w.setCell ⟨rb, 1, none⟩ (.int .i64 p)) [rb] := by
  obtain ⟨⟨s, s0, s8, se, c1⟩, c0, c2, f1, f2⟩ := h
  refine ⟨⟨⟨p, h0, h8, fun _ => rfl, World.cell?_setCell_same _ _ _ c1⟩, ?_, ?_, ?_, ?_⟩, setCell_apart w rb 1 _⟩
  · rw [World.cell?_setCell_other _ _ _ _ (by simp)]; exact c0
  · rw [World.cell?_setCell_other _ _ _ _ (by simp)]; exact c2
  · rw [World.frozen?_setCell]; exact f1
  · rw [World.frozen?_setCell]; exact f2
theorem sd_bad {w : World} {rb : Nat} {t : ByteArray} {a c a' c' : Int} (h : SdAt w rb t a c) (hc : c' ≠ 0) : SdAt (w.setCell ⟨rb, 2, none⟩ (.bool true)) rb t a' c' ∧ Apart w (w.setCell ⟨rb, 2, none⟩ (.bool true)) [rb] := by
  obtain ⟨⟨s, s0, s8, se, c1⟩, c0, c2, f1, f2⟩ := h
  refine ⟨⟨⟨s, s0, s8, fun e => absurd e hc, ?_⟩, ?_, ?_, ?_, ?_⟩, setCell_apart w rb 2 _⟩
  · rw [World.cell?_setCell_other _ _ _ _ (by simp)]; exact c1
  · rw [World.cell?_setCell_other _ _ _ _ (by simp)]; exact c0
  · rw [show decide (c' ≠ 0) = true from decide_eq_true hc]; exact World.cell?_setCell_same _ _ _ c2
  · rw [World.frozen?_setCell]; exact f1
  · rw [World.frozen?_setCell]; exact f2
set_option maxRecDepth 100000 in
set_option maxHeartbeats 1000000 in
theorem sd_num (t : ByteArray) (a c : Int) (rb : Nat) (w : World) (hs : t.size ≤ 8000) (h : SdAt w rb t a c) :
    Calls Tryz.prog 66 #[.pointer (some ⟨rb, 0, none⟩)] w fun e w' => e = .returned (.int .i64 (numI t a c).1) ∧ SdAt w' rb t (numI t a c).2.1 (numI t a c).2.2 ∧ Apart w w' [rb] := by
  have HH := hide h
  have hlt := h.lt
  have hne : rb ≠ w.heap.size := by omega
  obtain ⟨⟨s, s0, s8, se, c1⟩, c0, c2, f1, f2⟩ := h
  have HC : Hid (∀ w, Calls Tryz.prog 86 #[.string t, .int .i64 s] w fun e w' => e = .returned (.agg #[.int .i64 (getN t s).1, .int .i64 (getN t s).2.1, .int .i64 (getN t s).2.2]) ∧ Below w.heap.size w w') := hide (fun w => spec_get t s w (by unfold maxLen; omega) (by omega))
  go_enter Tryz.func66, Tryz.ntmps66
  go_wp2_with fail
  go_cut [3] (fun s3 wx => ∃ b, s3 = .pointer (some ⟨b, 0, none⟩) ∧ NumB wx b (.int .i64 (getN t s).1) (.int .i64 (getN t s).2.1) (.int .i64 (getN t s).2.2) ∧ w.heap.size ≤ b ∧ Below w.heap.size w wx)
  case first =>
    go_region_with (go_at_call 86; refine (HC.out _).mono ?_; rintro e w2 ⟨rfl, hb2⟩; have HB2 : Hid (Below w.heap.size w w2) := hide (by first | exact (Below.refl _ _).drew.trans hb2 | exact ((Below.refl _ _).drew.trans (malloc1 _ _)).trans (hb2.mono (by simp))); (try (have hzz : NumB w2 w.heap.size (.int .i64 0) (.int .i64 0) (.int .i64 0) := num_early (W := w.drew) hb2; have HZZ := hide hzz; obtain ⟨k0, k1, k2, q0, q1, q2⟩ := hzz)); clear hb2)
    all_goals
      go_wp2_with fail
      go_meet
      first
        | (have hz := num_put HZZ.out (.int .i64 (getN t s).1) (.int .i64 (getN t s).2.1) (.int .i64 (getN t s).2.2); exact ⟨_, rfl, hz, Nat.le_refl _, (((HB2.out).setCell (Nat.le_refl _) _).setCell (Nat.le_refl _) _).setCell (Nat.le_refl _) _⟩)
        | ((fail_if_success (have := HZZ)); exact ⟨_, rfl, num_late w2 _ _ _ _, HB2.out.size, HB2.out.alloc HB2.out.size _⟩)
        | fail
  case rest =>
    obtain ⟨b, rfl, hnb, hbl, hw⟩ := hcut
    have HW := hide (below_apart hw)
    have HS := hide (HH.out.keep HW.out (by simp))
    obtain ⟨k0, k1, k2, q0, q1, q2⟩ := hnb
    have d0 := HW.out.cell' c0 (by simp)
    have d1 := HW.out.cell' c1 (by simp)
    have d2 := HW.out.cell' c2 (by simp)
    have g1 := HW.out.frozen' hlt f1 (by simp)
    have g2 := HW.out.frozen' hlt f2 (by simp)
    clear c0 c1 c2 f1 f2 hw HC
    have hfa := getN_facts t s
    by_cases hc : c = 0
    · obtain rfl := se hc
      subst hc
      have hnum : numI t s 0 = getN t s := by rw [numI, if_pos rfl]
      have HN := hide hnum
      have HFA := hide hfa
      clear hnum
      have e0 : decide ((0 : Int) ≠ 0) = false := rfl
      rw [e0] at d2
      by_cases hk : (getN t s).2.2 = 0
      · rw [hk] at k2
        have HK := hide hk
        clear hk hfa
        go_wp2_with fail
        go_ret
        rw [HN.out, HK.out]
        obtain ⟨r1, r2⟩ := sd_at (p := (getN t s).2.1) HS.out (by have := HFA.out; omega) (by have := HFA.out; omega)
        exact ⟨rfl, r1, by have := HW.out.trans r2; simpa using this⟩
      · have e1 : ((getN t s).2.2 == 0) = false := by simpa using hk
        have HK := hide hk
        clear hk hfa
        go_wp2_with fail
        go_ret
        rw [HN.out]
        obtain ⟨r1, r2⟩ := sd_bad (a' := (getN t s).2.1) (c' := (getN t s).2.2) HS.out HK.out
        refine ⟨?_, r1, by have := HW.out.trans r2; simpa using this⟩
        have := HFA.out
        have := HK.out
        rw [show (getN t s).1 = 0 by omega]
        rfl
    · have hnum : numI t a c = (0, a, c) := by rw [numI, if_neg hc]
      have HN := hide hnum
      have HK := hide hc
      clear hnum hc
      have e0 : decide (c ≠ 0) = true := decide_eq_true HK.out
      rw [e0] at d2
      clear e0 hfa
      go_wp2_with fail
      go_ret
      rw [HN.out]
      obtain ⟨r1, r2⟩ := sd_bad (a' := a) (c' := c) HS.out HK.out
      exact ⟨rfl, r1, by have := HW.out.trans r2; simpa using this⟩
theorem getT_facts (t : ByteArray) (a : Int) : ((getT t a).2.2 = 0 ∧ 0 ≤ (getT t a).2.1 ∧ (getT t a).2.1 ≤ 8000) ∨ ((getT t a).1 = ⟨#[]⟩ ∧ (getT t a).2.1 = 0 ∧ (getT t a).2.2 ≠ 0) := by
  have hf := getN_facts t a
  unfold getT
  by_cases h1 : (getN t a).2.2 ≠ 0
  · rw [if_pos h1]; right; exact ⟨rfl, rfl, h1⟩
  · rw [if_neg h1]
    by_cases h2 : (getN t a).1 < 0 ∨ 8000 < (getN t a).1
    · rw [if_pos h2]; right; simp
    · rw [if_neg h2]
      by_cases h3 : (t.size : Int) - (getN t a).2.1 < (getN t a).1
      · rw [if_pos h3]; right; simp
      · rw [if_neg h3]; left; exact ⟨rfl, (by show 0 ≤ (getN t a).2.1 + (getN t a).1; omega), (by show (getN t a).2.1 + (getN t a).1 ≤ 8000; rcases hf with hf | hf; omega; exact absurd hf.2.2.1 (by omega))⟩
set_option maxRecDepth 100000 in
set_option maxHeartbeats 1000000 in
theorem sd_text (t : ByteArray) (a c : Int) (rb : Nat) (w : World) (hs : t.size ≤ 8000) (h : SdAt w rb t a c) :
    Calls Tryz.prog 65 #[.pointer (some ⟨rb, 0, none⟩)] w fun e w' => e = .returned (.string (wordI t a c).1) ∧ SdAt w' rb t (wordI t a c).2.1 (wordI t a c).2.2 ∧ Apart w w' [rb] := by
  have HH := hide h
  have hlt := h.lt
  have hne : rb ≠ w.heap.size := by omega
  obtain ⟨⟨s, s0, s8, se, c1⟩, c0, c2, f1, f2⟩ := h
  have HC : Hid (∀ w, Calls Tryz.prog 85 #[.string t, .int .i64 s] w fun e w' => e = .returned (.agg #[.string (getT t s).1, .int .i64 (getT t s).2.1, .int .i64 (getT t s).2.2]) ∧ Below w.heap.size w w') := hide (fun w => spec_get_text t s w (by unfold maxLen; omega) (by omega))
  go_enter Tryz.func65, Tryz.ntmps65
  go_wp2_with fail
  go_cut [3] (fun s3 wx => ∃ b, s3 = .pointer (some ⟨b, 0, none⟩) ∧ NumB wx b (.string (getT t s).1) (.int .i64 (getT t s).2.1) (.int .i64 (getT t s).2.2) ∧ w.heap.size ≤ b ∧ Below w.heap.size w wx)
  case first =>
    go_region_with (go_at_call 85; refine (HC.out _).mono ?_; rintro e w2 ⟨rfl, hb2⟩; have HB2 : Hid (Below w.heap.size w w2) := hide (by first | exact (Below.refl _ _).drew.trans hb2 | exact ((Below.refl _ _).drew.trans (malloc1 _ _)).trans (hb2.mono (by simp))); (try (have hzz : NumB w2 w.heap.size (.string ⟨#[]⟩) (.int .i64 0) (.int .i64 0) := num_early (W := w.drew) hb2; have HZZ := hide hzz; obtain ⟨k0, k1, k2, q0, q1, q2⟩ := hzz)); clear hb2)
    all_goals
      go_wp2_with fail
      go_meet
      first
        | (have hz := num_put HZZ.out (.string (getT t s).1) (.int .i64 (getT t s).2.1) (.int .i64 (getT t s).2.2); exact ⟨_, rfl, hz, Nat.le_refl _, (((HB2.out).setCell (Nat.le_refl _) _).setCell (Nat.le_refl _) _).setCell (Nat.le_refl _) _⟩)
        | ((fail_if_success (have := HZZ)); exact ⟨_, rfl, num_late w2 _ _ _ _, HB2.out.size, HB2.out.alloc HB2.out.size _⟩)
        | fail
  case rest =>
    obtain ⟨b, rfl, hnb, hbl, hw⟩ := hcut
    have HW := hide (below_apart hw)
    have HS := hide (HH.out.keep HW.out (by simp))
    obtain ⟨k0, k1, k2, q0, q1, q2⟩ := hnb
    have d0 := HW.out.cell' c0 (by simp)
    have d1 := HW.out.cell' c1 (by simp)
    have d2 := HW.out.cell' c2 (by simp)
    have g1 := HW.out.frozen' hlt f1 (by simp)
    have g2 := HW.out.frozen' hlt f2 (by simp)
    clear c0 c1 c2 f1 f2 hw HC
    have hfa := getT_facts t s
    by_cases hc : c = 0
    · obtain rfl := se hc
      subst hc
      have hnum : wordI t s 0 = getT t s := by rw [wordI, if_pos rfl]
      have HN := hide hnum
      have HFA := hide hfa
      clear hnum
      have e0 : decide ((0 : Int) ≠ 0) = false := rfl
      rw [e0] at d2
      by_cases hk : (getT t s).2.2 = 0
      · rw [hk] at k2
        have HK := hide hk
        clear hk hfa
        go_wp2_with fail
        go_ret
        rw [HN.out, HK.out]
        obtain ⟨r1, r2⟩ := sd_at (p := (getT t s).2.1) HS.out (by have := HFA.out; omega) (by have := HFA.out; omega)
        exact ⟨rfl, r1, by have := HW.out.trans r2; simpa using this⟩
      · have e1 : ((getT t s).2.2 == 0) = false := by simpa using hk
        have HK := hide hk
        clear hk hfa
        go_wp2_with fail
        go_ret
        rw [HN.out]
        obtain ⟨r1, r2⟩ := sd_bad (a' := (getT t s).2.1) (c' := (getT t s).2.2) HS.out HK.out
        refine ⟨?_, r1, by have := HW.out.trans r2; simpa using this⟩
        have := HFA.out
        have := HK.out
        rw [show (getT t s).1 = ⟨#[]⟩ by rcases HFA.out with h | h <;> first | exact h.1 | omega]
        rfl
    · have hnum : wordI t a c = (⟨#[]⟩, a, c) := by rw [wordI, if_neg hc]
      have HN := hide hnum
      have HK := hide hc
      clear hnum hc
      have e0 : decide (c ≠ 0) = true := decide_eq_true HK.out
      rw [e0] at d2
      clear e0 hfa
      go_wp2_with fail
      go_ret
      rw [HN.out]
      obtain ⟨r1, r2⟩ := sd_bad (a' := a) (c' := c) HS.out HK.out
      exact ⟨rfl, r1, by have := HW.out.trans r2; simpa using this⟩
end Go.Proofs.YtonafcifolddjaaGreatDoor
