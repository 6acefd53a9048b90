/- The specification's reader: how many. -/
import Derived.Test.YtalipbmpcgillaaSdI
namespace Go.Proofs.Ytalipbmpcgillaa
open Go.RowKit
attribute [local go_sem ↓] Go.wp_at_zero Go.wp_at_succ

theorem sd_is (n lo hi : Int) (w : World) :
    Calls Try.prog 63 #[.int .i64 n, .int .i64 lo, .int .i64 hi] w fun e w' => e = .returned (.bool (decide (lo ≤ n) && decide (n ≤ hi))) ∧ w' = w := by
  by_cases h : lo ≤ n
  all_goals
    go_enter Try.func63, Try.ntmps63
    go_wp2_with fail
    go_ret
    refine ⟨ret_bool ?_, rfl⟩
    simp [*]
    try omega

set_option maxRecDepth 100000 in
set_option maxHeartbeats 1000000 in
theorem sd_many (t : ByteArray) (a c most : Int) (rb : Nat) (w : World) (hs : t.size ≤ 8000) (h : SdAt w rb t a c) :
    Calls Try.prog 88 #[.pointer (some ⟨rb, 0, none⟩), .int .i64 most] w fun e w' => e = .returned (.int .i64 (cntI t a c most).1) ∧ SdAt w' rb t (cntI t a c most).2.1 (cntI t a c most).2.2 ∧ Apart w w' [rb] := by
  have HC : Hid (Calls Try.prog 91 #[.pointer (some ⟨rb, 0, none⟩)] w fun e w' => e = .returned (.int .i64 (numI t a c).1) ∧ SdAt w' rb t (numI t a c).2.1 (numI t a c).2.2 ∧ Apart w w' [rb]) := hide (sd_num t a c rb w hs h)
  have HE : Hid (cntI t a c most = if (numI t a c).1 < 0 ∨ most < (numI t a c).1 then (0, (numI t a c).2.1, 3) else ((numI t a c).1, (numI t a c).2.1, (numI t a c).2.2)) := hide rfl
  clear h hs
  generalize (numI t a c).1 = n at *
  generalize (numI t a c).2.1 = p at *
  generalize (numI t a c).2.2 = k at *
  by_cases h0 : n < 0 ∨ most < n
  · have HE' := hide (HE.out.trans (if_pos h0))
    have HI : Hid (∀ w, Calls Try.prog 63 #[.int .i64 n, .int .i64 0, .int .i64 most] w fun e w' => e = .returned (.bool false) ∧ w' = w) := hide (fun w => by
      have := sd_is n 0 most w
      rw [show (decide (0 ≤ n) && decide (n ≤ most)) = false by simp; omega] at this
      exact this)
    clear h0 HE
    go_enter Try.func88, Try.ntmps88
    go_wp2_with (first
      | (go_at_call 91; refine HC.out.mono ?_; rintro e w1 ⟨rfl, hr1, ha1⟩; have HR1 := hide hr1; have HA1 := hide ha1; obtain ⟨-, d0, d2, g1, g2⟩ := hr1; clear ha1)
      | (go_at_call 63; refine (HI.out _).mono ?_; rintro e w2 ⟨rfl, hw2⟩; subst hw2))
    go_ret
    obtain ⟨r1, r2⟩ := sd_bad (a' := p) (c' := 3) HR1.out (by omega)
    rw [HE'.out]
    exact ⟨rfl, r1, HA1.out.andThen' r2⟩
  · have HE' := hide (HE.out.trans (if_neg h0))
    have HI : Hid (∀ w, Calls Try.prog 63 #[.int .i64 n, .int .i64 0, .int .i64 most] w fun e w' => e = .returned (.bool true) ∧ w' = w) := hide (fun w => by
      have := sd_is n 0 most w
      rw [show (decide (0 ≤ n) && decide (n ≤ most)) = true by simp; omega] at this
      exact this)
    clear h0 HE
    go_enter Try.func88, Try.ntmps88
    go_wp2_with (first
      | (go_at_call 91; refine HC.out.mono ?_; rintro e w1 ⟨rfl, hr1, ha1⟩; have HR1 := hide hr1; have HA1 := hide ha1; obtain ⟨-, d0, d2, g1, g2⟩ := hr1; clear ha1)
      | (go_at_call 63; refine (HI.out _).mono ?_; rintro e w2 ⟨rfl, hw2⟩; subst hw2))
    go_ret
    rw [HE'.out]
    exact ⟨rfl, HR1.out, HA1.out⟩
end Go.Proofs.Ytalipbmpcgillaa
