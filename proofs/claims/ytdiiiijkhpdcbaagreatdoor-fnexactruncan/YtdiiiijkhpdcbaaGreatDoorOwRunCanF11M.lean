import Derived.Test.YtdiiiijkhpdcbaaGreatDoorRows
import Derived.Test.YtdiiiijkhpdcbaaGreatDoorChecked
import Derived.JoinedOf
namespace Go.Proofs.YtdiiiijkhpdcbaaGreatDoor
theorem mX:(Rows.fnExactRunCanRow.unfollowed==Tryz.prog.unfollowed 4)=true:=by kernel_rfl
end Go.Proofs.YtdiiiijkhpdcbaaGreatDoor
