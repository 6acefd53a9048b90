/- FnPart: closed facts of its row. -/
import Derived.Test.YtmjlblbhakppfaaGreatDoorRows
import Derived.Test.YtmjlblbhakppfaaGreatDoorChecked
import Derived.JoinedOf
namespace Go.Proofs.YtmjlblbhakppfaaGreatDoor
theorem fnPart_f12 : (Rows.fnPartRow.recurses == Tryz.prog.recurses 4) = true := by kernel_rfl
theorem fnPart_f13 : (Rows.fnPartRow.named == Tryz.prog.varsNamed 4) = true := by kernel_rfl
end Go.Proofs.YtmjlblbhakppfaaGreatDoor
