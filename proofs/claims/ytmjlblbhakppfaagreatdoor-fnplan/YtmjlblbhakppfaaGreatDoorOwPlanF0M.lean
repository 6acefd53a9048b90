/- FnPlan: closed facts of its row. -/
import Derived.Test.YtmjlblbhakppfaaGreatDoorRows
import Derived.Test.YtmjlblbhakppfaaGreatDoorChecked
import Derived.JoinedOf
namespace Go.Proofs.YtmjlblbhakppfaaGreatDoor
theorem fnPlan_f1 : Rows.fnPlanRow.wf (OpenSpec.ofChange Rows.fnPlanSpec) = true := by kernel_rfl
theorem fnPlan_f5 : namedTie Tryz.prog Rows.fnPlanRow.named Rows.fnPlanSpec.vars = true := by kernel_rfl
theorem fnPlan_f25 : Tryz.prog.stopsHeard = true := by kernel_rfl
theorem fnPlan_f27 : (Rows.fnPlanRow.lifted == Tryz.prog.liftsFinal) = true := by kernel_rfl
theorem fnPlan_f23 : (Rows.fnPlanRow.plainKeys == Tryz.prog.plainKeys) = true := by kernel_rfl
end Go.Proofs.YtmjlblbhakppfaaGreatDoor
