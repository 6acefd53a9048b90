/- FnExactDeskWords: closed facts of its row. -/
import Derived.Test.YthghhccikgngjaaGreatDoorRows
import Derived.Test.YthghhccikgngjaaGreatDoorChecked
import Derived.JoinedOf
namespace Go.Proofs.YthghhccikgngjaaGreatDoor
theorem dw_f13 : (Rows.fnExactDeskWordsRow.named == Tryz.prog.varsNamed 7) = true := by kernel_rfl
end Go.Proofs.YthghhccikgngjaaGreatDoor
