/- FnExactDeskWords: closed facts of its row. -/
import Derived.Test.YthghhccikgngjaaGreatDoorRows
import Derived.Test.YthghhccikgngjaaGreatDoorChecked
import Derived.JoinedOf
namespace Go.Proofs.YthghhccikgngjaaGreatDoor
theorem dw_f1 : Rows.fnExactDeskWordsRow.wf (OpenSpec.ofChange Rows.fnExactDeskWordsSpec) = true := by kernel_rfl
theorem dw_f5 : namedTie Tryz.prog Rows.fnExactDeskWordsRow.named Rows.fnExactDeskWordsSpec.vars = true := by kernel_rfl
theorem dw_f25 : Tryz.prog.stopsHeard = true := by kernel_rfl
theorem dw_f27 : (Rows.fnExactDeskWordsRow.lifted == Tryz.prog.liftsFinal) = true := by kernel_rfl
theorem dw_f23 : (Rows.fnExactDeskWordsRow.plainKeys == Tryz.prog.plainKeys) = true := by kernel_rfl
end Go.Proofs.YthghhccikgngjaaGreatDoor
