/- FnPart: closed facts of its row. -/
import Derived.Test.YtmjlblbhakppfaaGreatDoorRows
import Derived.Test.YtmjlblbhakppfaaGreatDoorChecked
import Derived.JoinedOf
namespace Go.Proofs.YtmjlblbhakppfaaGreatDoor
theorem fnPart_f2 : laidOutB Tryz.prog = true := by kernel_rfl
theorem fnPart_f3 : mapsRowed Tryz.prog = true := by kernel_rfl
end Go.Proofs.YtmjlblbhakppfaaGreatDoor
