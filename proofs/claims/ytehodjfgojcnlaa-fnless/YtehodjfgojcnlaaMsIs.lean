/- Is a number between two: of the specification. -/
import Derived.Test.YtehodjfgojcnlaaMem
namespace Go.Proofs.Ytehodjfgojcnlaa
open Go.RowKit

theorem ms_is (n lo hi : Int) (w : World) :
    Calls Try.prog 22 #[.int .i64 n, .int .i64 lo, .int .i64 hi] w fun e w' => e = .returned (.bool (decide (lo ≤ n) && decide (n ≤ hi))) ∧ w' = w := by
  by_cases h : lo ≤ n
  all_goals
    go_enter Try.func22, Try.ntmps22
    go_wp2_with fail
    go_ret
    refine ⟨ret_bool ?_, rfl⟩
    simp [*]
    try omega
end Go.Proofs.Ytehodjfgojcnlaa
