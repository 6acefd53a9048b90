/- FnPart: closed facts of its row. -/
import Derived.Test.YtmjlblbhakppfaaGreatDoorRows
import Derived.Test.YtmjlblbhakppfaaGreatDoorChecked
import Derived.JoinedOf
namespace Go.Proofs.YtmjlblbhakppfaaGreatDoor
theorem fnPart_f26 : Tryz.prog.mayEnter = true := by kernel_rfl
end Go.Proofs.YtmjlblbhakppfaaGreatDoor
