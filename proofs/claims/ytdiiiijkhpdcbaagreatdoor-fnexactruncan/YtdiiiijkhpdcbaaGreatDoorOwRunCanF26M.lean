import Derived.Test.YtdiiiijkhpdcbaaGreatDoorRows
import Derived.Test.YtdiiiijkhpdcbaaGreatDoorChecked
import Derived.JoinedOf
namespace Go.Proofs.YtdiiiijkhpdcbaaGreatDoor
theorem ni:Tryz.prog.mayEnter=true:=by kernel_rfl
end Go.Proofs.YtdiiiijkhpdcbaaGreatDoor
