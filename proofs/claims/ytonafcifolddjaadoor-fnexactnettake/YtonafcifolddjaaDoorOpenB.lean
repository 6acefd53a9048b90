/- What is wanted for arguments that are handed in. -/
import Derived.Test.YtonafcifolddjaaDoorMem
import Derived.Deep.Slices
import Derived.ChangeArms
import Derived.ChangeSame
import Derived.WalkKit
namespace Go.Proofs.YtonafcifolddjaaDoor
open Go.RowKit Go.ChangeShapes Go.WideShapes

theorem Tryd.ocI : Tryd.prog.cellsOf 2 = 1 := by kernel_rfl
theorem Tryd.ocS : Tryd.prog.cellsOf 9 = 1 := by kernel_rfl
theorem int_range {H : Type} {enc : TypeId × Value → H} {w : World} {base : Nat} {spare : Nat → Bool} {held : Bool} {fuel : Nat} {z : Int} {x : DataW H × List MemPlace} (h : DataW.trod enc Tryd.prog w base spare held fuel 2 [.int .i64 z] = some x) : -9223372036854775808 ≤ z ∧ z ≤ 9223372036854775807 := by
  obtain ⟨n, e, _, hw⟩ := DataW.trod_int Tryd.underlying2 h
  simp at e
  subst e
  simp [Lit.wf, IntKind.min, IntKind.max, IntKind.signed, IntKind.bits] at hw
  omega
end Go.Proofs.YtonafcifolddjaaDoor
