/- FnPart: a closed fact of its card. -/
import Derived.Test.YtmjlblbhakppfaaGreatDoorRows
import Derived.Test.YtmjlblbhakppfaaGreatDoorChecked
import Derived.JoinedOf
import Derived.SevenTiedAt
namespace Go.Proofs.YtmjlblbhakppfaaGreatDoor
theorem fnPart_goes : false = Rows.fnPartRow.goesBy Tryz.prog := by kernel_rfl
end Go.Proofs.YtmjlblbhakppfaaGreatDoor
