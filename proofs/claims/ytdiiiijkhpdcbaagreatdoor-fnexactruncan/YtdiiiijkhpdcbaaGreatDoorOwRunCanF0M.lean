import Derived.Test.YtdiiiijkhpdcbaaGreatDoorRows
import Derived.Test.YtdiiiijkhpdcbaaGreatDoorChecked
import Derived.JoinedOf
namespace Go.Proofs.YtdiiiijkhpdcbaaGreatDoor
theorem nZ:Rows.fnExactRunCanRow.wf (OpenSpec.ofChange Rows.fnExactRunCanSpec)=true:=by kernel_rfl
theorem oe:namedTie Tryz.prog Rows.fnExactRunCanRow.named Rows.fnExactRunCanSpec.vars=true:=by kernel_rfl
theorem nh:Tryz.prog.stopsHeard=true:=by kernel_rfl
theorem nj:(Rows.fnExactRunCanRow.lifted==Tryz.prog.liftsFinal)=true:=by kernel_rfl
theorem ng:(Rows.fnExactRunCanRow.plainKeys==Tryz.prog.plainKeys)=true:=by kernel_rfl
end Go.Proofs.YtdiiiijkhpdcbaaGreatDoor
