import Derived.Test.YtdiiiijkhpdcbaaGreatDoorRows
import Derived.Test.YtdiiiijkhpdcbaaGreatDoorChecked
import Derived.JoinedOf
import Derived.SevenTiedAt
namespace Go.Proofs.YtdiiiijkhpdcbaaGreatDoor
theorem lP:true=Tryz.prog.looks []:=by kernel_rfl
end Go.Proofs.YtdiiiijkhpdcbaaGreatDoor
