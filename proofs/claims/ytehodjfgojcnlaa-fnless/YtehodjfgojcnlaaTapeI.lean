/- TapeRight of the program and of the specification. -/
import Derived.Test.YtehodjfgojcnlaaRowNumB
import Derived.Test.YtehodjfgojcnlaaMsIs
namespace Go.Proofs.Ytehodjfgojcnlaa
open Go.RowKit

def numB (z : Int) : Bool := decide (0 ≤ z) && decide (z ≤ 399)
/-- a right tape -/
def tapeB (l : List Int) : Bool := decide (l.length ≤ 12) && l.all numB
theorem tape_no {l : List Int} {k : Nat} (hk : k < l.length) (h : numB l[k] = false) : tapeB l = false := by
  unfold tapeB
  have : l.all numB = false := by
    rw [List.all_eq_false]
    exact ⟨l[k], List.getElem_mem hk, by rw [h]; simp⟩
  rw [this, Bool.and_false]
theorem tape_all {l : List Int} (hl : l.length ≤ 12) (h : ∀ j (hj : j < l.length), numB l[j] = true) : tapeB l = true := by
  unfold tapeB
  rw [decide_eq_true hl, Bool.true_and, List.all_eq_true]
  intro x hx
  obtain ⟨j, hj, rfl⟩ := List.getElem_of_mem hx
  exact h j hj
theorem tape_long {l : List Int} (hl : 12 < l.length) : tapeB l = false := by
  unfold tapeB
  rw [decide_eq_false (by omega), Bool.false_and]
set_option maxRecDepth 100000 in
set_option maxHeartbeats 1000000 in
theorem i_tape (l : List Int) (v : Value) (w : World) (hv : NumSl w w.heap.size v l) :
    Calls Try.prog 16 #[v] w fun e w' => e = .returned (.bool (tapeB l)) ∧ Below w.heap.size w w' := by
  obtain ⟨ao, cap, rfl, hc, hm, hr⟩ := hv
  have HR := hide hr
  clear hr
  by_cases hl : 12 < l.length
  · have HT := hide (tape_long hl)
    go_enter Try.func16, Try.ntmps16
    go_wp2_with fail
    go_ret
    exact ⟨ret_bool HT.out, Below.refl _ _⟩
  · have HL : Hid (l.length ≤ 12) := hide (by omega)
    go_enter Try.func16, Try.ntmps16
    go_wp2_with fail
    go_loopw [10] (fun i wr => ∃ k : Nat, k ≤ l.length ∧ i = .int .i64 k ∧ (∀ j (h : j < l.length), j < k → numB l[j] = true) ∧ Below w.heap.size w wr) (fun i _ => l.length - (intOf i).toNat)
    case atStart => exact ⟨0, Nat.zero_le _, rfl, fun j _ h => absurd h (by omega), Below.refl _ _⟩
    case round =>
      obtain ⟨k, hk, rfl, hall, hbel⟩ := hrel
      have HA := hide hall
      have HBEL := hide hbel
      clear hall hbel
      by_cases hlt : k < l.length
      · obtain ⟨b, o, rfl, hbB, hrow⟩ := HR.out (by intro h; simp [h] at hlt)
        have c0 := (hrow.carry hbB HBEL.out) k hlt
        obtain ⟨x1, hx1⟩ : ∃ x1, x1 = l[k] := ⟨_, rfl⟩
        rw [← hx1] at c0
        have HN := hide hx1
        clear hx1 hrow
        by_cases h0 : x1 < 0
        · go_wp2_with fail
          go_ret
          exact ⟨ret_bool (tape_no hlt (by rw [← HN.out]; unfold numB; rw [decide_eq_false (by omega)]; rfl)), HBEL.out⟩
        · by_cases h1 : 399 < x1
          · go_wp2_with fail
            go_ret
            exact ⟨ret_bool (tape_no hlt (by rw [← HN.out]; unfold numB; rw [decide_eq_false (by omega : ¬ x1 ≤ 399), Bool.and_false])), HBEL.out⟩
          · go_wp2_with fail
            go_roundw
            case rel =>
              refine ⟨k + 1, hlt, by go_num, fun j hj hjk => ?_, HBEL.out⟩
              by_cases hjk' : j = k
              · subst hjk'; rw [← HN.out]; unfold numB; rw [decide_eq_true (by omega), decide_eq_true (by omega)]; rfl
              · exact HA.out j hj (by omega)
            case measure => simp [intOf]; omega
      · go_wp2_with fail
        go_ret
        exact ⟨ret_bool (tape_all HL.out (fun j hj => HA.out j hj (by omega))), HBEL.out⟩
theorem s_num {z : Int} {q : Bool} (h : numB z = q) (w : World) : Calls Try.prog 22 #[.int .i64 z, .int .i64 0, .int .i64 399] w fun e w' => e = .returned (.bool q) ∧ w' = w := by
  subst h
  exact ms_is z 0 399 w
set_option maxRecDepth 100000 in
set_option maxHeartbeats 1000000 in
theorem s_tape (l : List Int) (v : Value) (w : World) (hv : NumSl w w.heap.size v l) :
    Calls Try.prog 10 #[v] w fun e w' => e = .returned (.bool (tapeB l)) ∧ Below w.heap.size w w' := by
  obtain ⟨ao, cap, rfl, hc, hm, hr⟩ := hv
  have HR := hide hr
  clear hr
  go_enter Try.func10, Try.ntmps10
  go_wp2_with fail
  go_loopw [3] (fun i wr => ∃ k : Nat, k ≤ l.length ∧ k ≤ 13 ∧ i = .int .i64 k ∧ (∀ j (h : j < l.length), j < k → numB l[j] = true) ∧ Below w.heap.size w wr) (fun i _ => l.length - (intOf i).toNat)
  case atStart => exact ⟨0, Nat.zero_le _, Nat.zero_le _, rfl, fun j _ h => absurd h (by omega), Below.refl _ _⟩
  case round =>
    obtain ⟨k, hk, hk13, rfl, hall, hbel⟩ := hrel
    have HA := hide hall
    have HBEL := hide hbel
    clear hall hbel
    by_cases hlt : k < l.length
    · by_cases h12 : k ≤ 12
      · obtain ⟨b, o, rfl, hbB, hrow⟩ := HR.out (by intro h; simp [h] at hlt)
        have c0 := (hrow.carry hbB HBEL.out) k hlt
        obtain ⟨x1, hx1⟩ : ∃ x1, x1 = l[k] := ⟨_, rfl⟩
        rw [← hx1] at c0
        have HN := hide hx1
        clear hx1 hrow
        obtain ⟨q, hq⟩ : ∃ q, numB x1 = q := ⟨_, rfl⟩
        have HQ := hide hq
        clear hq
        cases q
        · go_wp2_with (go_at_call 22; refine (s_num HQ.out _).mono ?_; rintro e w' ⟨rfl, rfl⟩)
          go_ret
          exact ⟨ret_bool (tape_no hlt (by rw [← HN.out]; exact HQ.out)), HBEL.out⟩
        · go_wp2_with (go_at_call 22; refine (s_num HQ.out _).mono ?_; rintro e w' ⟨rfl, rfl⟩)
          go_roundw
          case rel =>
            refine ⟨k + 1, hlt, by omega, by go_num, fun j hj hjk => ?_, HBEL.out⟩
            by_cases hjk' : j = k
            · subst hjk'; rw [← HN.out]; exact HQ.out
            · exact HA.out j hj (by omega)
          case measure => simp [intOf]; omega
      · have HT : Hid (tapeB l = false) := hide (tape_long (by omega))
        go_wp2_with fail
        go_ret
        exact ⟨ret_bool (by rw [HT.out]; simp; omega), HBEL.out⟩
    · by_cases h12 : l.length ≤ 12
      · have HT : Hid (tapeB l = true) := hide (tape_all h12 (fun j hj => HA.out j hj (by omega)))
        go_wp2_with fail
        go_ret
        exact ⟨ret_bool (by rw [HT.out]; simp; omega), HBEL.out⟩
      · have HT : Hid (tapeB l = false) := hide (tape_long (by omega))
        go_wp2_with fail
        go_ret
        exact ⟨ret_bool (by rw [HT.out]; simp; omega), HBEL.out⟩
end Go.Proofs.Ytehodjfgojcnlaa
