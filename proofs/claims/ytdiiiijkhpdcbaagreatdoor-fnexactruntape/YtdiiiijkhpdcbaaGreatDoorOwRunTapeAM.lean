import Derived.Test.YtdiiiijkhpdcbaaGreatDoorTie
import Derived.Test.YtdiiiijkhpdcbaaGreatDoorCards
import Derived.Test.YtdiiiijkhpdcbaaGreatDoorLawRunTapeM
import Derived.ProofKit
import Derived.ShutString
import Derived.LaidMore
import Derived.OpenVars
import Derived.Test.YtdiiiijkhpdcbaaGreatDoorOwRunTapeF2M
namespace Go.Proofs.YtdiiiijkhpdcbaaGreatDoor
open Go.RowKit
set_option linter.unusedSimpArgs false
set_option linter.unusedVariables false
set_option maxRecDepth 100000
section
open Go.ChangeShapes Go.WideShapes Go.ChangeAt Go.RowKit
open Go.ChangeMaps (open_string shut_string)
theorem nh:ownKnob Tryz.prog.godebug=none:=by kernel_rfl
theorem fg:laidOutB Tryz.prog=true:=jK
theorem ng(os:Os)(args:Array Value):laidMetH Tryz.prog Rows.fnExactRunTapeRow.laid ((World.doorLaid Tryz.prog 400 os).forCall (fun _ _=>0) ⟨#[],args,[]⟩).memory:=laidMetH_of_parts3 (fuel:=8) (laidMet_of_run' 8 (by kernel_rfl) (by kernel_rfl)) (by kernel_rfl) (by kernel_rfl)
theorem mw{W:World}(h:laidMetH Tryz.prog Rows.fnExactRunTapeRow.laid W):∃E,dS W E:=by rw[MakeChecks.laidMetH_plain _ _ _ (by kernel_rfl)]at h;exact vq h
theorem lr(os:Os)(J:os.Started)(H:Type)(enc:TypeId×Value->H):ReturnsInHanded {} Tryz.checked os 5 .any (fun w args=>(Rows.fnExactRunTapeSpec.pre enc Tryz.prog Tryz.f5 [] false w args/\laidMetH Tryz.prog Rows.fnExactRunTapeRow.laid w)/\sizedMet enc Tryz.prog Tryz.f5 (OpenSpec.ofChange Rows.fnExactRunTapeSpec) false w args) (Rows.fnExactRunTapeSpec.post enc Tryz.prog Tryz.f5 false true false false):=by
 refine returnsInHanded_of_change_and (C:=Tryz.checked) (X:=fun w _=>laidMetH Tryz.prog Rows.fnExactRunTapeRow.laid w) (fun _ _ _ hh h=>h.of_heap hh) nh J (by kernel_rfl) Tryz.func5 (ChangeSpec.witness_shaped (enc:=enc) (C:=Tryz.checked) (os:=os) (X:=fun w _=>laidMetH Tryz.prog Rows.fnExactRunTapeRow.laid w) false (World.doorLaid Tryz.prog 400 os) #[.agg #[.slice none 0 0,.slice none 0 0,.slice none 0 0,.int .i64 0],.slice none 0 0] 8 rfl (World.shaped_of_RefB (by kernel_rfl) (by kernel_rfl)) (by kernel_rfl) (by kernel_rfl) (by kernel_rfl) (ng os _)) ?_;intro W base args ds gs ah I hW _ _ hL _;have l:∀(j:Nat)t v,Tryz.f5.params[j]?=some t->args[j]?=some v->Value.okWide Tryz.prog W .any base t v:=I;have ay:=hW;obtain⟨p,q,U,ax,rfl,a9,bb⟩:=hW;have hA:DataW.TrodAll enc Tryz.prog W 0 (fun _=>true) true Tryz.f5.params.toList args.toList ds p:=U;have hV:DataW.TrodVars enc Tryz.prog W (fun _=>true) ["loop.example/g00574/impl.errTooLong", "loop.example/g00574/impl.errNotRight", "loop.example/g00574/impl.errNothing", "loop.example/g00574/impl.errNoRoom"] gs q:=ax;rw[Tryz.params5]at hA l;obtain⟨v0,bf,d0,a7,q0,o0,al,rfl,rfl,h0,r0⟩:=trodAll_cons hA;obtain⟨v1,bi,d1,a8,q1,o1,an,rfl,rfl,h1,r1⟩:=trodAll_cons r0;obtain⟨rfl,rfl,rfl⟩:=trodAll_nil r1;obtain rfl:args=#[v0,v1]:=by cases args;simp_all
 have k0:=h0;have aN:∀x∈q0,x.block<W.heap.size:=by obtain⟨m,hm⟩:=k0;exact DataW.trod_lt m _ _ _ hm
 obtain⟨ao,rfl,af⟩:=okWide_struct Tryz.underlying26 (l 0 26 v0 rfl rfl);obtain⟨aq,az⟩:=h0;obtain⟨p0,a2,a3,a4,a5,a0,a1,aM,ad⟩:=Em af az;have k1:=h1;have aR:∀x∈q1,x.block<W.heap.size:=by obtain⟨m,hm⟩:=k1;exact DataW.trod_lt m _ _ _ hm
 obtain⟨T,a6,P,rfl⟩:=okWide_slice Tryz.underlying23 (l 1 23 v1 rfl rfl);obtain⟨av,aL⟩:=h1;obtain⟨l1,ac,-,ab,R⟩:=ug aL;subst ac;obtain⟨g1,g2,g3,g4,rfl⟩:=CG hV;obtain⟨E,hE⟩:=mw hL;clear U I;have e1:Rows.fnExactRunTapeSpec.fn H ([d0,d1]++[g1,g2,g3,g4])={results:=[.lit (.bool true)],args:=[d0,d1],vars:=[g1,g2,g3,g4]}:=by simp[Rows.fnExactRunTapeSpec]
 have law:Calls Tryz.prog 5 #[.agg ao,.slice T l1.length P] W fun e w'=>e=.returned (.bool true)/\ZW W w':=by rw[aM];exact wY p0 a2 a3 a4 a5 a0 a1 l1 T P W ad ab R hE
 refine law.mono fun e W'⟨he,bel⟩=>?_;subst he;refine⟨_,rfl,_,_,_,[],(q0++(q1++[])),q,ay,?_,?_,?_,bel.frame _,fun h=>by cases h⟩;·rw[e1];exact trodAll_mk1 (shut_bool Tryz.underlying4 true)
 ·rw[e1];exact trodAll_cons_mk (Below.trod fg (by kernel_rfl) (of_decide_eq_true (by kernel_rfl)) k0 bel aN) (trodAll_cons_mk (Below.trod fg (by kernel_rfl) (of_decide_eq_true (by kernel_rfl)) k1 bel aR) (trodAll_mk0))
 ·rw[e1];exact Below.trodVars fg bel (by kernel_rfl) hV
end
