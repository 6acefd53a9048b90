/- What is wanted for arguments that are handed in. -/
import Derived.Test.YtcdlceldokhnbaaMem
import Derived.Deep.Slices
import Derived.ChangeArms
import Derived.ChangeSame
import Derived.WalkKit
namespace Go.Proofs.Ytcdlceldokhnbaa
open Go.RowKit Go.ChangeShapes Go.WideShapes

theorem Try.ocI : Try.prog.cellsOf 2 = 1 := by kernel_rfl
theorem Try.ocS : Try.prog.cellsOf 9 = 1 := by kernel_rfl
end Go.Proofs.Ytcdlceldokhnbaa
