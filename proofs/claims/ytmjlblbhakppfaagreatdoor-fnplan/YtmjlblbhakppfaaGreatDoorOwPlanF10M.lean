/- FnPlan: closed facts of its row. -/
import Derived.Test.YtmjlblbhakppfaaGreatDoorRows
import Derived.Test.YtmjlblbhakppfaaGreatDoorChecked
import Derived.JoinedOf
namespace Go.Proofs.YtmjlblbhakppfaaGreatDoor
theorem fnPlan_f10 : (Rows.fnPlanRow.inPlace == Tryz.prog.inPlace 3) = true := by kernel_rfl
theorem fnPlan_f11 : (Rows.fnPlanRow.unfollowed == Tryz.prog.unfollowed 3) = true := by kernel_rfl
end Go.Proofs.YtmjlblbhakppfaaGreatDoor
