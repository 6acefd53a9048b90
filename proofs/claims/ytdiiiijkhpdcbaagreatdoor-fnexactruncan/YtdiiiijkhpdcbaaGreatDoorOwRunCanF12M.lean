import Derived.Test.YtdiiiijkhpdcbaaGreatDoorRows
import Derived.Test.YtdiiiijkhpdcbaaGreatDoorChecked
import Derived.JoinedOf
namespace Go.Proofs.YtdiiiijkhpdcbaaGreatDoor
theorem mY:(Rows.fnExactRunCanRow.recurses==Tryz.prog.recurses 4)=true:=by kernel_rfl
end Go.Proofs.YtdiiiijkhpdcbaaGreatDoor
