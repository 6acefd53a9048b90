/- FnPlan: closed facts of its row. -/
import Derived.Test.YtmjlblbhakppfaaGreatDoorRows
import Derived.Test.YtmjlblbhakppfaaGreatDoorChecked
import Derived.JoinedOf
namespace Go.Proofs.YtmjlblbhakppfaaGreatDoor
theorem fnPlan_f12 : (Rows.fnPlanRow.recurses == Tryz.prog.recurses 3) = true := by kernel_rfl
theorem fnPlan_f13 : (Rows.fnPlanRow.named == Tryz.prog.varsNamed 3) = true := by kernel_rfl
end Go.Proofs.YtmjlblbhakppfaaGreatDoor
