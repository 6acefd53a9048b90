/- FnPlan: closed facts of its row. -/
import Derived.Test.YtmjlblbhakppfaaGreatDoorRows
import Derived.Test.YtmjlblbhakppfaaGreatDoorChecked
import Derived.JoinedOf
namespace Go.Proofs.YtmjlblbhakppfaaGreatDoor
theorem fnPlan_f2 : laidOutB Tryz.prog = true := by kernel_rfl
theorem fnPlan_f3 : mapsRowed Tryz.prog = true := by kernel_rfl
end Go.Proofs.YtmjlblbhakppfaaGreatDoor
