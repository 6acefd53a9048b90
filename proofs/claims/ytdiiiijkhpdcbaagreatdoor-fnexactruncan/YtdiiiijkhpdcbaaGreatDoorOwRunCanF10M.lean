import Derived.Test.YtdiiiijkhpdcbaaGreatDoorRows
import Derived.Test.YtdiiiijkhpdcbaaGreatDoorChecked
import Derived.JoinedOf
namespace Go.Proofs.YtdiiiijkhpdcbaaGreatDoor
theorem mW:(Rows.fnExactRunCanRow.inPlace==Tryz.prog.inPlace 4)=true:=by kernel_rfl
end Go.Proofs.YtdiiiijkhpdcbaaGreatDoor
