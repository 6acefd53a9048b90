import Derived.Test.YtdiiiijkhpdcbaaGreatDoorRows
import Derived.SevenTiedAt
namespace Go.Proofs.YtdiiiijkhpdcbaaGreatDoor
theorem lI:true=Tryz.prog.looks []:=by kernel_rfl
theorem mq:false=Rows.fnExactRunTapeRow.goesBy Tryz.prog:=by kernel_rfl
