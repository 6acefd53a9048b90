import Derived.Test.YtdiiiijkhpdcbaaGreatDoorOwRunPickF2M
namespace Go.Proofs.YtdiiiijkhpdcbaaGreatDoor
theorem nP:Rows.fnExactRunPickRow.wf (OpenSpec.ofChange Rows.fnExactRunPickSpec)=true:=by kernel_rfl
theorem nS:namedTie Tryz.prog Rows.fnExactRunPickRow.named Rows.fnExactRunPickSpec.vars=true:=by kernel_rfl
theorem mP:Tryz.prog.stopsHeard=true:=by kernel_rfl
theorem mS:(Rows.fnExactRunPickRow.lifted==Tryz.prog.liftsFinal)=true:=by kernel_rfl
theorem mO:(Rows.fnExactRunPickRow.plainKeys==Tryz.prog.plainKeys)=true:=by kernel_rfl
theorem nQ:mapsRowed Tryz.prog=true:=by kernel_rfl
theorem mK:(Rows.fnExactRunPickRow.inPlace==Tryz.prog.inPlace 3)=true:=by kernel_rfl
theorem mL:(Rows.fnExactRunPickRow.unfollowed==Tryz.prog.unfollowed 3)=true:=by kernel_rfl
theorem mM:(Rows.fnExactRunPickRow.recurses==Tryz.prog.recurses 3)=true:=by kernel_rfl
theorem mN:(Rows.fnExactRunPickRow.named==Tryz.prog.varsNamed 3)=true:=by kernel_rfl
theorem mQ:Tryz.prog.mayEnter=true:=by kernel_rfl
theorem dj{a b:Bool}(j:a=true)(l:b=true):(a&&b)=true:=by rw[j,l];rfl
theorem lh:joinedFacts Tryz.prog 3 Tryz.f3 Rows.fnExactRunPickSpec Rows.fnExactRunPickRow=true:=by
 unfold joinedFacts;refine(dj (dj (dj (dj (dj (dj (dj (dj (dj (dj (dj (dj (dj (dj (dj (dj (dj (dj (dj (dj (dj (dj (dj (dj (dj (dj (dj (dj (dj (dj (dj ?a1 ?a2) ?a3) ?a4) ?a5) ?a6) ?a7) ?a8) ?a9) ?a10) ?a11) ?a12) ?a13) ?a14) ?a15) ?a16) ?a17) ?a18) ?a19) ?a20) ?a21) ?a22) ?a23) ?a24) ?a25) ?a26) ?a27) ?a28) ?a29) ?a30) ?a31) ?a32);case a1=>exact nP
 case a2=>exact jE
 case a3=>exact nQ
 case a4=>kernel_rfl
 case a5=>exact nS
 case a6=>kernel_rfl
 case a7=>kernel_rfl
 case a8=>kernel_rfl
 case a9=>kernel_rfl
 case a10=>exact mK
 case a11=>exact mL
 case a12=>exact mM
 case a13=>exact mN
 case a14=>kernel_rfl
 case a15=>kernel_rfl
 case a16=>kernel_rfl
 case a17=>kernel_rfl
 case a18=>kernel_rfl
 case a19=>kernel_rfl
 case a20=>kernel_rfl
 case a21=>kernel_rfl
 case a22=>kernel_rfl
 case a23=>exact mO
 case a24=>kernel_rfl
 case a25=>exact mP
 case a26=>exact mQ
 case a27=>exact mS
 case a28=>kernel_rfl
 case a29=>kernel_rfl
 case a30=>kernel_rfl
 case a31=>kernel_rfl
 case a32=>kernel_rfl
