import Derived.Test.YtdiiiijkhpdcbaaGreatDoorOwRunTapeF2M
namespace Go.Proofs.YtdiiiijkhpdcbaaGreatDoor
theorem nZ:Rows.fnExactRunTapeRow.wf (OpenSpec.ofChange Rows.fnExactRunTapeSpec)=true:=by kernel_rfl
theorem oe:namedTie Tryz.prog Rows.fnExactRunTapeRow.named Rows.fnExactRunTapeSpec.vars=true:=by kernel_rfl
theorem mX:Tryz.prog.stopsHeard=true:=by kernel_rfl
theorem mZ:(Rows.fnExactRunTapeRow.lifted==Tryz.prog.liftsFinal)=true:=by kernel_rfl
theorem mW:(Rows.fnExactRunTapeRow.plainKeys==Tryz.prog.plainKeys)=true:=by kernel_rfl
theorem n9:mapsRowed Tryz.prog=true:=by kernel_rfl
theorem mS:(Rows.fnExactRunTapeRow.inPlace==Tryz.prog.inPlace 5)=true:=by kernel_rfl
theorem mT:(Rows.fnExactRunTapeRow.unfollowed==Tryz.prog.unfollowed 5)=true:=by kernel_rfl
theorem mU:(Rows.fnExactRunTapeRow.recurses==Tryz.prog.recurses 5)=true:=by kernel_rfl
theorem mV:(Rows.fnExactRunTapeRow.named==Tryz.prog.varsNamed 5)=true:=by kernel_rfl
theorem mY:Tryz.prog.mayEnter=true:=by kernel_rfl
theorem dj{a b:Bool}(j:a=true)(l:b=true):(a&&b)=true:=by rw[j,l];rfl
theorem lq:joinedFacts Tryz.prog 5 Tryz.f5 Rows.fnExactRunTapeSpec Rows.fnExactRunTapeRow=true:=by
 unfold joinedFacts;refine(dj (dj (dj (dj (dj (dj (dj (dj (dj (dj (dj (dj (dj (dj (dj (dj (dj (dj (dj (dj (dj (dj (dj (dj (dj (dj (dj (dj (dj (dj (dj ?a1 ?a2) ?a3) ?a4) ?a5) ?a6) ?a7) ?a8) ?a9) ?a10) ?a11) ?a12) ?a13) ?a14) ?a15) ?a16) ?a17) ?a18) ?a19) ?a20) ?a21) ?a22) ?a23) ?a24) ?a25) ?a26) ?a27) ?a28) ?a29) ?a30) ?a31) ?a32);case a1=>exact nZ
 case a2=>exact jK
 case a3=>exact n9
 case a4=>kernel_rfl
 case a5=>exact oe
 case a6=>kernel_rfl
 case a7=>kernel_rfl
 case a8=>kernel_rfl
 case a9=>kernel_rfl
 case a10=>exact mS
 case a11=>exact mT
 case a12=>exact mU
 case a13=>exact mV
 case a14=>kernel_rfl
 case a15=>kernel_rfl
 case a16=>kernel_rfl
 case a17=>kernel_rfl
 case a18=>kernel_rfl
 case a19=>kernel_rfl
 case a20=>kernel_rfl
 case a21=>kernel_rfl
 case a22=>kernel_rfl
 case a23=>exact mW
 case a24=>kernel_rfl
 case a25=>exact mX
 case a26=>exact mY
 case a27=>exact mZ
 case a28=>kernel_rfl
 case a29=>kernel_rfl
 case a30=>kernel_rfl
 case a31=>kernel_rfl
 case a32=>kernel_rfl
