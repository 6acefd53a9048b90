/- FnPart: closed facts of its row. -/
import Derived.Test.YtmjlblbhakppfaaGreatDoorRows
import Derived.Test.YtmjlblbhakppfaaGreatDoorChecked
import Derived.JoinedOf
namespace Go.Proofs.YtmjlblbhakppfaaGreatDoor
theorem fnPart_f1 : Rows.fnPartRow.wf (OpenSpec.ofChange Rows.fnPartSpec) = true := by kernel_rfl
theorem fnPart_f5 : namedTie Tryz.prog Rows.fnPartRow.named Rows.fnPartSpec.vars = true := by kernel_rfl
theorem fnPart_f25 : Tryz.prog.stopsHeard = true := by kernel_rfl
theorem fnPart_f27 : (Rows.fnPartRow.lifted == Tryz.prog.liftsFinal) = true := by kernel_rfl
theorem fnPart_f23 : (Rows.fnPartRow.plainKeys == Tryz.prog.plainKeys) = true := by kernel_rfl
end Go.Proofs.YtmjlblbhakppfaaGreatDoor
