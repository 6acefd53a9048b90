/- FnExactDeskWords: closed facts of its row. -/
import Derived.Test.YthghhccikgngjaaGreatDoorRows
import Derived.Test.YthghhccikgngjaaGreatDoorChecked
import Derived.JoinedOf
namespace Go.Proofs.YthghhccikgngjaaGreatDoor
theorem dw_f11 : (Rows.fnExactDeskWordsRow.unfollowed == Tryz.prog.unfollowed 7) = true := by kernel_rfl
end Go.Proofs.YthghhccikgngjaaGreatDoor
