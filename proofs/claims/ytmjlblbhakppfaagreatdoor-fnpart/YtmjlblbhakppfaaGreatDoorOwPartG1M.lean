/- FnPart: a closed fact of its card. -/
import Derived.Test.YtmjlblbhakppfaaGreatDoorRows
import Derived.Test.YtmjlblbhakppfaaGreatDoorChecked
import Derived.JoinedOf
import Derived.SevenTiedAt
namespace Go.Proofs.YtmjlblbhakppfaaGreatDoor
theorem fnPart_looks : true = Tryz.prog.looks [] := by kernel_rfl
end Go.Proofs.YtmjlblbhakppfaaGreatDoor
