import Derived.Test.YtdiiiijkhpdcbaaGreatDoorOwRunCanF0M
import Derived.Test.YtdiiiijkhpdcbaaGreatDoorOwRunCanF2M
import Derived.Test.YtdiiiijkhpdcbaaGreatDoorOwRunCanF3M
import Derived.Test.YtdiiiijkhpdcbaaGreatDoorOwRunCanF10M
import Derived.Test.YtdiiiijkhpdcbaaGreatDoorOwRunCanF11M
import Derived.Test.YtdiiiijkhpdcbaaGreatDoorOwRunCanF12M
import Derived.Test.YtdiiiijkhpdcbaaGreatDoorOwRunCanF13M
import Derived.Test.YtdiiiijkhpdcbaaGreatDoorOwRunCanF26M
namespace Go.Proofs.YtdiiiijkhpdcbaaGreatDoor
theorem dq{a b:Bool}(j:a=true)(l:b=true):(a&&b)=true:=by rw[j,l];rfl
theorem k8:joinedFacts Tryz.prog 4 Tryz.f4 Rows.fnExactRunCanSpec Rows.fnExactRunCanRow=true:=by
 unfold joinedFacts;refine(dq (dq (dq (dq (dq (dq (dq (dq (dq (dq (dq (dq (dq (dq (dq (dq (dq (dq (dq (dq (dq (dq (dq (dq (dq (dq (dq (dq (dq (dq (dq ?a1 ?a2) ?a3) ?a4) ?a5) ?a6) ?a7) ?a8) ?a9) ?a10) ?a11) ?a12) ?a13) ?a14) ?a15) ?a16) ?a17) ?a18) ?a19) ?a20) ?a21) ?a22) ?a23) ?a24) ?a25) ?a26) ?a27) ?a28) ?a29) ?a30) ?a31) ?a32);case a1=>exact nZ
 case a2=>exact jV
 case a3=>exact n9
 case a4=>kernel_rfl
 case a5=>exact oe
 case a6=>kernel_rfl
 case a7=>kernel_rfl
 case a8=>kernel_rfl
 case a9=>kernel_rfl
 case a10=>exact mW
 case a11=>exact mX
 case a12=>exact mY
 case a13=>exact mZ
 case a14=>kernel_rfl
 case a15=>kernel_rfl
 case a16=>kernel_rfl
 case a17=>kernel_rfl
 case a18=>kernel_rfl
 case a19=>kernel_rfl
 case a20=>kernel_rfl
 case a21=>kernel_rfl
 case a22=>kernel_rfl
 case a23=>exact ng
 case a24=>kernel_rfl
 case a25=>exact nh
 case a26=>exact ni
 case a27=>exact nj
 case a28=>kernel_rfl
 case a29=>kernel_rfl
 case a30=>kernel_rfl
 case a31=>kernel_rfl
 case a32=>kernel_rfl
end Go.Proofs.YtdiiiijkhpdcbaaGreatDoor
