import Derived.Test.YtdiiiijkhpdcbaaGreatDoorRows
import Derived.Test.YtdiiiijkhpdcbaaGreatDoorChecked
import Derived.JoinedOf
namespace Go.Proofs.YtdiiiijkhpdcbaaGreatDoor
theorem jV:laidOutB Tryz.prog=true:=by kernel_rfl
end Go.Proofs.YtdiiiijkhpdcbaaGreatDoor
