/- The program's reading: a number, a text, how many, and whether all has been read. -/
import Derived.Test.YtonafcifolddjaaGreatDoorQB22
import Derived.Test.YtonafcifolddjaaGreatDoorQB01
import Derived.Test.YtonafcifolddjaaGreatDoorQB05
import Derived.Test.YtonafcifolddjaaGreatDoorQB08
import Derived.Test.YtonafcifolddjaaGreatDoorQB13
import Derived.Deep.DrawnRows
namespace Go.Proofs.YtonafcifolddjaaGreatDoor
open Go.RowKit
attribute [local go_sem ↓] Go.wp_at_zero Go.wp_at_succ

structure RdAt (w : World) (rb : Nat) (t : ByteArray) (a c : Int) : Prop where
  c0 : w.cell? ⟨rb, 0, none⟩ = some (.string t)
  c1 : w.cell? ⟨rb, 1, none⟩ = some (.int .i64 a)
  c2 : w.cell? ⟨rb, 2, none⟩ = some (errV c)
  f1 : w.frozen? ⟨rb, 1, none⟩ = false
  f2 : w.frozen? ⟨rb, 2, none⟩ = false
theorem RdAt.lt {w : World} {rb : Nat} {t : ByteArray} {a c : Int} (h : RdAt w rb t a c) : rb < w.heap.size := World.block_lt_of_cell? w _ h.c0
theorem RdAt.keep {w w' : World} {rb : Nat} {t : ByteArray} {a c : Int} {l : List Nat} (h : RdAt w rb t a c) (ha : Apart w w' l) (hl : rb ∉ l) : RdAt w' rb t a c :=
  ⟨ha.cell' h.c0 hl, ha.cell' h.c1 hl, ha.cell' h.c2 hl, ha.frozen' h.lt h.f1 hl, ha.frozen' h.lt h.f2 hl⟩
theorem rd_set {w : World} {rb : Nat} {t : ByteArray} {a c a' c' : Int} {ev : Value} (h : RdAt w rb t a c) (he : ev = errV c') : RdAt ((w.setCell ⟨rb, 1, none⟩ (.int .i64 a')).setCell ⟨rb, 2, none⟩ ev) rb t a' c' ∧ Apart w ((w.setCell ⟨rb, 1, none⟩ (.int .i64 a')).setCell ⟨rb, 2, none⟩ ev) [rb] := by
  subst he
  have h1 := h.c1
  have h2 := h.c2
  have h0 := h.c0
  refine ⟨⟨?_, ?_, ?_, ?_, ?_⟩, (setCell_apart w rb 1 _).setCell 2 _⟩
  · rw [World.cell?_setCell_other _ _ _ _ (by simp), World.cell?_setCell_other _ _ _ _ (by simp)]; exact h0
  · rw [World.cell?_setCell_other _ _ _ _ (by simp)]
    exact World.cell?_setCell_same _ _ _ h1
  · exact World.cell?_setCell_same _ _ _ ((World.cell?_setCell_other _ _ _ _ (by simp)).trans h2)
  · rw [World.frozen?_setCell, World.frozen?_setCell]; exact h.f1
  · rw [World.frozen?_setCell, World.frozen?_setCell]; exact h.f2
theorem Apart.andThen' {a b c : World} {l : List Nat} (h : Apart a b l) (h' : Apart b c l) : Apart a c l :=
  ⟨h'.os.trans h.os, h'.tape.trans h.tape, h'.output.trans h.output, Nat.le_trans h.size h'.size, fun k hk hn => (h'.block k (Nat.lt_of_lt_of_le hk h.size) hn).trans (h.block k hk hn)⟩
theorem decide_eq_beq' (a b : Int) : decide (a = b) = (a == b) := by
  by_cases h : a = b <;> simp [h]
def numI (t : ByteArray) (a c : Int) : Int × Int × Int := if c = 0 then getN t a else (0, a, c)
def wordI (t : ByteArray) (a c : Int) : ByteArray × Int × Int := if c = 0 then getT t a else (⟨#[]⟩, a, c)
theorem getN_at (t : ByteArray) (a : Int) : 0 ≤ (getN t a).2.1 ∧ (getN t a).2.1 ≤ 8000 ∧ 0 ≤ (getN t a).2.2 ∧ (getN t a).2.2 ≤ 4 := by
  have := getN_facts t a
  omega
set_option maxRecDepth 100000 in
set_option maxHeartbeats 1000000 in
theorem rd_num (t : ByteArray) (a c : Int) (rb : Nat) (w : World) (hs : t.size ≤ 8000) (ha : a ≤ 8000) (h : RdAt w rb t a c) :
    Calls Tryz.prog 79 #[.pointer (some ⟨rb, 0, none⟩)] w fun e w' => e = .returned (.int .i64 (numI t a c).1) ∧ RdAt w' rb t (numI t a c).2.1 (numI t a c).2.2 ∧ Apart w w' [rb] := by
  have HH := hide h
  obtain ⟨c0, c1, c2, f1, f2⟩ := h
  by_cases hc : c = 0
  · subst hc
    have e0 : numI t a 0 = getN t a := by rw [numI, if_pos rfl]
    rw [e0]
    have HC : Hid (∀ w, Calls Tryz.prog 92 #[.string t, .int .i64 a] w fun e w' => e = .returned (.tuple #[.int .i64 (getN t a).1, .int .i64 (getN t a).2.1, errV (getN t a).2.2]) ∧ w' = w) := hide (fun w => read_num t a w (by unfold maxLen; omega) (by omega))
    clear hs ha e0
    generalize (getN t a).1 = n at *
    generalize (getN t a).2.1 = p at *
    generalize (getN t a).2.2 = k at *
    obtain ⟨ev, hev⟩ : ∃ ev, errV k = ev := ⟨_, rfl⟩
    have HEV := hide hev
    have e1 : errV 0 = .nilIface := rfl
    rw [e1] at c2
    rw [hev] at HC
    by_cases hk : k = 0
    · have e2 : ev = .nilIface := by rw [← hev, hk]; rfl
      subst e2
      clear hev hk e1
      go_enter Tryz.func79, Tryz.ntmps79
      go_wp2_with fail
      refine wp_region_grown (by kernel_rfl) (by kernel_rfl) (fun W hW => ?_)
      have hne := grown_some W
      have k0 := grown_cell (w := W) (b := rb) (o := 0) (v := .string t) (by rw [hW]; exact c0)
      have k1 := grown_cell (w := W) (b := rb) (o := 1) (v := .int .i64 a) (by rw [hW]; exact c1)
      have HBW : Hid (Below w.heap.size w W) := hide (by rw [hW]; exact Below.refl _ _)
      clear hW c0 c1 c2 f1 f2
      repeat (go_big_quiet_step ((go_at_call 92; exact grown_same (HC.out _))))
      refine wpQuiet_nil ?_
      intro w4 hw4
      have HR4 := hide (HH.out.keep (below_apart (HBW.out.trans (hw4.mono HBW.out.size))) (by simp))
      have HA4 := hide (below_apart (HBW.out.trans (hw4.mono HBW.out.size)))
      obtain ⟨d0, d1, d2, g1, g2⟩ := HR4.out
      clear hw4 hne k0 k1
      go_wp2_with fail
      go_ret
      obtain ⟨r1, r2⟩ := rd_set (a' := p) (c' := k) HR4.out HEV.out.symm
      exact ⟨rfl, r1, by have := HA4.out.trans r2; simpa using this⟩
    · have e2 : ev = .iface 102 (.agg #[.int .i64 k]) := by rw [← hev]; exact if_neg hk
      subst e2
      clear hev hk e1
      go_enter Tryz.func79, Tryz.ntmps79
      go_wp2_with fail
      refine wp_region_grown (by kernel_rfl) (by kernel_rfl) (fun W hW => ?_)
      have hne := grown_some W
      have k0 := grown_cell (w := W) (b := rb) (o := 0) (v := .string t) (by rw [hW]; exact c0)
      have k1 := grown_cell (w := W) (b := rb) (o := 1) (v := .int .i64 a) (by rw [hW]; exact c1)
      have HBW : Hid (Below w.heap.size w W) := hide (by rw [hW]; exact Below.refl _ _)
      clear hW c0 c1 c2 f1 f2
      repeat (go_big_quiet_step ((go_at_call 92; exact grown_same (HC.out _))))
      refine wpQuiet_nil ?_
      intro w4 hw4
      have HR4 := hide (HH.out.keep (below_apart (HBW.out.trans (hw4.mono HBW.out.size))) (by simp))
      have HA4 := hide (below_apart (HBW.out.trans (hw4.mono HBW.out.size)))
      obtain ⟨d0, d1, d2, g1, g2⟩ := HR4.out
      clear hw4 hne k0 k1
      go_wp2_with fail
      go_ret
      obtain ⟨r1, r2⟩ := rd_set (a' := p) (c' := k) HR4.out HEV.out.symm
      exact ⟨rfl, r1, by have := HA4.out.trans r2; simpa using this⟩
  · have e0 : numI t a c = (0, a, c) := by rw [numI, if_neg hc]
    rw [e0]
    have e2 : errV c = .iface 102 (.agg #[.int .i64 c]) := if_neg hc
    rw [e2] at c2
    clear e0 e2 hc
    go_enter Tryz.func79, Tryz.ntmps79
    go_wp2_with fail
    go_ret
    exact ⟨rfl, HH.out, Apart.weak (Apart.refl _)⟩
set_option maxRecDepth 100000 in
set_option maxHeartbeats 1000000 in
theorem rd_word (t : ByteArray) (a c : Int) (rb : Nat) (w : World) (hs : t.size ≤ 8000) (ha : a ≤ 8000) (h : RdAt w rb t a c) :
    Calls Tryz.prog 50 #[.pointer (some ⟨rb, 0, none⟩)] w fun e w' => e = .returned (.string (wordI t a c).1) ∧ RdAt w' rb t (wordI t a c).2.1 (wordI t a c).2.2 ∧ Apart w w' [rb] := by
  have HH := hide h
  obtain ⟨c0, c1, c2, f1, f2⟩ := h
  by_cases hc : c = 0
  · subst hc
    have e0 : wordI t a 0 = getT t a := by rw [wordI, if_pos rfl]
    rw [e0]
    have HC : Hid (∀ w, Calls Tryz.prog 81 #[.string t, .int .i64 a] w fun e w' => e = .returned (.tuple #[.string (getT t a).1, .int .i64 (getT t a).2.1, errV (getT t a).2.2]) ∧ Below w.heap.size w w') := hide (fun w => read_text t a w (by unfold maxLen; omega) (by omega))
    clear hs ha e0
    generalize (getT t a).1 = n at *
    generalize (getT t a).2.1 = p at *
    generalize (getT t a).2.2 = k at *
    obtain ⟨ev, hev⟩ : ∃ ev, errV k = ev := ⟨_, rfl⟩
    have HEV := hide hev
    have e1 : errV 0 = .nilIface := rfl
    rw [e1] at c2
    rw [hev] at HC
    by_cases hk : k = 0
    · have e2 : ev = .nilIface := by rw [← hev, hk]; rfl
      subst e2
      clear hev hk e1
      go_enter Tryz.func50, Tryz.ntmps50
      go_wp2_with fail
      refine wp_region_grown (by kernel_rfl) (by kernel_rfl) (fun W hW => ?_)
      have hne := grown_some W
      have k0 := grown_cell (w := W) (b := rb) (o := 0) (v := .string t) (by rw [hW]; exact c0)
      have k1 := grown_cell (w := W) (b := rb) (o := 1) (v := .int .i64 a) (by rw [hW]; exact c1)
      have HBW : Hid (Below w.heap.size w W) := hide (by rw [hW]; exact Below.refl _ _)
      clear hW c0 c1 c2 f1 f2
      repeat (go_big_quiet_step ((go_at_call 81; exact grown_more (HC.out _))))
      refine wpQuiet_nil ?_
      intro w4 hw4
      have HR4 := hide (HH.out.keep (below_apart (HBW.out.trans (hw4.mono HBW.out.size))) (by simp))
      have HA4 := hide (below_apart (HBW.out.trans (hw4.mono HBW.out.size)))
      obtain ⟨d0, d1, d2, g1, g2⟩ := HR4.out
      clear hw4 hne k0 k1
      go_wp2_with fail
      go_ret
      obtain ⟨r1, r2⟩ := rd_set (a' := p) (c' := k) HR4.out HEV.out.symm
      exact ⟨rfl, r1, by have := HA4.out.trans r2; simpa using this⟩
    · have e2 : ev = .iface 102 (.agg #[.int .i64 k]) := by rw [← hev]; exact if_neg hk
      subst e2
      clear hev hk e1
      go_enter Tryz.func50, Tryz.ntmps50
      go_wp2_with fail
      refine wp_region_grown (by kernel_rfl) (by kernel_rfl) (fun W hW => ?_)
      have hne := grown_some W
      have k0 := grown_cell (w := W) (b := rb) (o := 0) (v := .string t) (by rw [hW]; exact c0)
      have k1 := grown_cell (w := W) (b := rb) (o := 1) (v := .int .i64 a) (by rw [hW]; exact c1)
      have HBW : Hid (Below w.heap.size w W) := hide (by rw [hW]; exact Below.refl _ _)
      clear hW c0 c1 c2 f1 f2
      repeat (go_big_quiet_step ((go_at_call 81; exact grown_more (HC.out _))))
      refine wpQuiet_nil ?_
      intro w4 hw4
      have HR4 := hide (HH.out.keep (below_apart (HBW.out.trans (hw4.mono HBW.out.size))) (by simp))
      have HA4 := hide (below_apart (HBW.out.trans (hw4.mono HBW.out.size)))
      obtain ⟨d0, d1, d2, g1, g2⟩ := HR4.out
      clear hw4 hne k0 k1
      go_wp2_with fail
      go_ret
      obtain ⟨r1, r2⟩ := rd_set (a' := p) (c' := k) HR4.out HEV.out.symm
      exact ⟨rfl, r1, by have := HA4.out.trans r2; simpa using this⟩
  · have e0 : wordI t a c = (⟨#[]⟩, a, c) := by rw [wordI, if_neg hc]
    rw [e0]
    have e2 : errV c = .iface 102 (.agg #[.int .i64 c]) := if_neg hc
    rw [e2] at c2
    clear e0 e2 hc
    go_enter Tryz.func50, Tryz.ntmps50
    go_wp2_with fail
    go_ret
    exact ⟨rfl, HH.out, Apart.weak (Apart.refl _)⟩
def cntI (t : ByteArray) (a c most : Int) : Int × Int × Int := if (numI t a c).1 < 0 ∨ most < (numI t a c).1 then (0, (numI t a c).2.1, 3) else numI t a c
theorem rd_set2 {w : World} {rb : Nat} {t : ByteArray} {a c c' : Int} {ev : Value} (h : RdAt w rb t a c) (he : ev = errV c') : RdAt (w.setCell ⟨rb, 2, none⟩ ev) rb t a c' ∧ Apart w (w.setCell ⟨rb, 2, none⟩ ev) [rb] := by
  subst he
  refine ⟨⟨?_, ?_, ?_, ?_, ?_⟩, setCell_apart w rb 2 _⟩
  · rw [World.cell?_setCell_other _ _ _ _ (by simp)]; exact h.c0
  · rw [World.cell?_setCell_other _ _ _ _ (by simp)]; exact h.c1
  · exact World.cell?_setCell_same _ _ _ h.c2
  · rw [World.frozen?_setCell]; exact h.f1
  · rw [World.frozen?_setCell]; exact h.f2
set_option maxRecDepth 100000 in
set_option maxHeartbeats 1000000 in
theorem rd_count (t : ByteArray) (a c most : Int) (rb : Nat) (w : World) (hs : t.size ≤ 8000) (ha : a ≤ 8000) (h : RdAt w rb t a c) :
    Calls Tryz.prog 48 #[.pointer (some ⟨rb, 0, none⟩), .int .i64 most] w fun e w' => e = .returned (.int .i64 (cntI t a c most).1) ∧ RdAt w' rb t (cntI t a c most).2.1 (cntI t a c most).2.2 ∧ Apart w w' [rb] := by
  have HC : Hid (Calls Tryz.prog 79 #[.pointer (some ⟨rb, 0, none⟩)] w fun e w' => e = .returned (.int .i64 (numI t a c).1) ∧ RdAt w' rb t (numI t a c).2.1 (numI t a c).2.2 ∧ Apart w w' [rb]) := hide (rd_num t a c rb w hs ha h)
  have HE : Hid (cntI t a c most = if (numI t a c).1 < 0 ∨ most < (numI t a c).1 then (0, (numI t a c).2.1, 3) else ((numI t a c).1, (numI t a c).2.1, (numI t a c).2.2)) := hide rfl
  clear h hs ha
  generalize (numI t a c).1 = n at *
  generalize (numI t a c).2.1 = p at *
  generalize (numI t a c).2.2 = k at *
  by_cases h0 : n < 0
  · have HE' := hide (HE.out.trans (if_pos (.inl h0)))
    have g0 : decide (n < 0) = true := decide_eq_true h0
    go_enter Tryz.func48, Tryz.ntmps48
    go_wp2_with (go_at_call 79; refine HC.out.mono ?_; rintro e w1 ⟨rfl, hr1, ha1⟩; have HR1 := hide hr1; have HA1 := hide ha1; obtain ⟨d0, d1, d2, g1, g2⟩ := hr1; clear ha1)
    go_ret
    obtain ⟨r1, r2⟩ := rd_set2 (c' := 3) (ev := .iface 102 (.agg #[.int .i64 3])) HR1.out rfl
    rw [HE'.out]
    exact ⟨rfl, r1, HA1.out.andThen' r2⟩
  · have g0 : decide (n < 0) = false := decide_eq_false h0
    by_cases h1 : most < n
    · have HE' := hide (HE.out.trans (if_pos (.inr h1)))
      go_enter Tryz.func48, Tryz.ntmps48
      go_wp2_with (go_at_call 79; refine HC.out.mono ?_; rintro e w1 ⟨rfl, hr1, ha1⟩; have HR1 := hide hr1; have HA1 := hide ha1; obtain ⟨d0, d1, d2, g1, g2⟩ := hr1; clear ha1)
      go_ret
      obtain ⟨r1, r2⟩ := rd_set2 (c' := 3) (ev := .iface 102 (.agg #[.int .i64 3])) HR1.out rfl
      rw [HE'.out]
      exact ⟨rfl, r1, HA1.out.andThen' r2⟩
    · have HE' := hide (HE.out.trans (if_neg (by omega)))
      go_enter Tryz.func48, Tryz.ntmps48
      go_wp2_with (go_at_call 79; refine HC.out.mono ?_; rintro e w1 ⟨rfl, hr1, ha1⟩; have HR1 := hide hr1; have HA1 := hide ha1; obtain ⟨d0, d1, d2, g1, g2⟩ := hr1; clear ha1)
      go_ret
      rw [HE'.out]
      exact ⟨rfl, HR1.out, HA1.out⟩
set_option maxRecDepth 100000 in
set_option maxHeartbeats 1000000 in
theorem rd_whole {q : Bool} {t : ByteArray} {a c : Int} (hq : (decide (c = 0) && decide (a = (t.size : Int))) = q) (rb : Nat) (w : World) (h : RdAt w rb t a c) :
    Calls Tryz.prog 51 #[.pointer (some ⟨rb, 0, none⟩)] w fun e w' => e = .returned (.bool q) ∧ Below w.heap.size w w' := by
  have HQ := hide hq
  obtain ⟨c0, c1, c2, f1, f2⟩ := h
  clear hq
  by_cases hc : c = 0
  · subst hc
    have e1 : errV 0 = .nilIface := rfl
    rw [e1] at c2
    have HA : Hid (decide (a = (t.size : Int)) = q) := hide (by have := HQ.out; simpa using this)
    have ha2 : (a == (t.size : Int)) = q := by have := HA.out; rw [← this]; exact (decide_eq_beq' a _).symm
    clear HQ e1
    go_enter Tryz.func51, Tryz.ntmps51
    go_wp2_with fail
    refine wp_region_grown (by kernel_rfl) (by kernel_rfl) (fun W hW => ?_)
    have hne := grown_some W
    have k0 := grown_cell (w := W) (b := rb) (o := 0) (v := .string t) (by rw [hW]; exact c0)
    have k1 := grown_cell (w := W) (b := rb) (o := 1) (v := .int .i64 a) (by rw [hW]; exact c1)
    have k2 := grown_cell (w := W) (b := rb) (o := 2) (v := .nilIface) (by rw [hW]; exact c2)
    have HBW : Hid (Below w.heap.size w W) := hide (by rw [hW]; exact Below.refl _ _)
    clear hW c0 c1 c2 f1 f2
    repeat (go_big_quiet_step (fail))
    refine wpQuiet_nil ?_
    intro w4 hw4
    have HA4 := hide (HBW.out.trans (hw4.mono HBW.out.size))
    clear hw4 hne k0 k1 k2
    go_wp2_with fail
    go_ret
    exact ⟨rfl, HA4.out⟩
  · have e2 : errV c = .iface 102 (.agg #[.int .i64 c]) := if_neg hc
    rw [e2] at c2
    obtain rfl : false = q := by have := HQ.out; simpa [hc] using this
    clear HQ e2
    go_enter Tryz.func51, Tryz.ntmps51
    go_wp2_with fail
    refine wp_region_grown (by kernel_rfl) (by kernel_rfl) (fun W hW => ?_)
    have hne := grown_some W
    have k0 := grown_cell (w := W) (b := rb) (o := 0) (v := .string t) (by rw [hW]; exact c0)
    have k1 := grown_cell (w := W) (b := rb) (o := 1) (v := .int .i64 a) (by rw [hW]; exact c1)
    have k2 := grown_cell (w := W) (b := rb) (o := 2) (v := .iface 102 (.agg #[.int .i64 c])) (by rw [hW]; exact c2)
    have HBW : Hid (Below w.heap.size w W) := hide (by rw [hW]; exact Below.refl _ _)
    clear hW c0 c1 c2 f1 f2
    repeat (go_big_quiet_step (fail))
    refine wpQuiet_nil ?_
    intro w4 hw4
    have HA4 := hide (HBW.out.trans (hw4.mono HBW.out.size))
    clear hw4 hne k0 k1 k2
    go_wp2_with fail
    go_ret
    exact ⟨rfl, HA4.out⟩
end Go.Proofs.YtonafcifolddjaaGreatDoor
