import Derived.Test.YtdiiiijkhpdcbaaGreatDoorRows
import Derived.JoinedOf
namespace Go.Proofs.YtdiiiijkhpdcbaaGreatDoor
theorem jK:laidOutB Tryz.prog=true:=by kernel_rfl
