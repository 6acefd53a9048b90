import Derived.Test.YtdiiiijkhpdcbaaGreatDoorRows
import Derived.SevenTiedAt
namespace Go.Proofs.YtdiiiijkhpdcbaaGreatDoor
theorem lE:true=Tryz.prog.looks []:=by kernel_rfl
theorem mh:false=Rows.fnExactRunPickRow.goesBy Tryz.prog:=by kernel_rfl
