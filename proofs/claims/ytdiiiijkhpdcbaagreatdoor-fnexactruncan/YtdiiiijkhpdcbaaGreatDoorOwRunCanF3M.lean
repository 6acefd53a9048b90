import Derived.Test.YtdiiiijkhpdcbaaGreatDoorRows
import Derived.Test.YtdiiiijkhpdcbaaGreatDoorChecked
import Derived.JoinedOf
namespace Go.Proofs.YtdiiiijkhpdcbaaGreatDoor
theorem n9:mapsRowed Tryz.prog=true:=by kernel_rfl
end Go.Proofs.YtdiiiijkhpdcbaaGreatDoor
