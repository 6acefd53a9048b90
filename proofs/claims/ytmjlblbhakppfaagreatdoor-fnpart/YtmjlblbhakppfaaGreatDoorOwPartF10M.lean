/- FnPart: closed facts of its row. -/
import Derived.Test.YtmjlblbhakppfaaGreatDoorRows
import Derived.Test.YtmjlblbhakppfaaGreatDoorChecked
import Derived.JoinedOf
namespace Go.Proofs.YtmjlblbhakppfaaGreatDoor
theorem fnPart_f10 : (Rows.fnPartRow.inPlace == Tryz.prog.inPlace 4) = true := by kernel_rfl
theorem fnPart_f11 : (Rows.fnPartRow.unfollowed == Tryz.prog.unfollowed 4) = true := by kernel_rfl
end Go.Proofs.YtmjlblbhakppfaaGreatDoor
