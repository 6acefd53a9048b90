import Derived.Test.YtdiiiijkhpdcbaaGreatDoorRows
import Derived.Test.YtdiiiijkhpdcbaaGreatDoorChecked
import Derived.JoinedOf
import Derived.SevenTiedAt
namespace Go.Proofs.YtdiiiijkhpdcbaaGreatDoor
theorem mn:false=Rows.fnExactRunCanRow.goesBy Tryz.prog:=by kernel_rfl
end Go.Proofs.YtdiiiijkhpdcbaaGreatDoor
