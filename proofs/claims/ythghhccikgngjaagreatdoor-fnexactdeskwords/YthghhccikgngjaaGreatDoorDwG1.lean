/- FnExactDeskWords: a closed fact of its card. -/
import Derived.Test.YthghhccikgngjaaGreatDoorRows
import Derived.Test.YthghhccikgngjaaGreatDoorChecked
import Derived.JoinedOf
import Derived.SevenTiedAt
namespace Go.Proofs.YthghhccikgngjaaGreatDoor
theorem dw_looks : true = Tryz.prog.looks [] := by kernel_rfl
end Go.Proofs.YthghhccikgngjaaGreatDoor
