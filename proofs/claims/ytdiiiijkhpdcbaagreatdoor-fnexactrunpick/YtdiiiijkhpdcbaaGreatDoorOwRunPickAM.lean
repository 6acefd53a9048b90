import Derived.Test.YtdiiiijkhpdcbaaGreatDoorTie
import Derived.Test.YtdiiiijkhpdcbaaGreatDoorCards
import Derived.Test.YtdiiiijkhpdcbaaGreatDoorLawRunPickM
import Derived.ProofKit
import Derived.ShutString
import Derived.LaidMore
import Derived.OpenVars
import Derived.Test.YtdiiiijkhpdcbaaGreatDoorOwRunPickF2M
namespace Go.Proofs.YtdiiiijkhpdcbaaGreatDoor
open Go.RowKit
set_option linter.unusedSimpArgs false
set_option linter.unusedVariables false
set_option maxRecDepth 100000
section
open Go.ChangeShapes Go.WideShapes Go.ChangeAt Go.RowKit
open Go.ChangeMaps (open_string shut_string)
theorem mU:ownKnob Tryz.prog.godebug=none:=by kernel_rfl
theorem dT:laidOutB Tryz.prog=true:=jE
theorem mT(os:Os)(args:Array Value):laidMetH Tryz.prog Rows.fnExactRunPickRow.laid ((World.doorLaid Tryz.prog 400 os).forCall (fun _ _=>0) ⟨#[],args,[]⟩).memory:=laidMetH_of_parts3 (fuel:=8) (laidMet_of_run' 8 (by kernel_rfl) (by kernel_rfl)) (by kernel_rfl) (by kernel_rfl)
theorem mj{W:World}(h:laidMetH Tryz.prog Rows.fnExactRunPickRow.laid W):∃E,dS W E:=by rw[MakeChecks.laidMetH_plain _ _ _ (by kernel_rfl)]at h;exact vh h
theorem lj(os:Os)(P:os.Started)(H:Type)(enc:TypeId×Value->H):ReturnsInHanded {} Tryz.checked os 3 .any (fun w args=>(Rows.fnExactRunPickSpec.pre enc Tryz.prog Tryz.f3 [] false w args/\laidMetH Tryz.prog Rows.fnExactRunPickRow.laid w)/\sizedMet enc Tryz.prog Tryz.f3 (OpenSpec.ofChange Rows.fnExactRunPickSpec) false w args) (Rows.fnExactRunPickSpec.post enc Tryz.prog Tryz.f3 false true false false):=by
 refine returnsInHanded_of_change_and (C:=Tryz.checked) (X:=fun w _=>laidMetH Tryz.prog Rows.fnExactRunPickRow.laid w) (fun _ _ _ hh h=>h.of_heap hh) mU P (by kernel_rfl) Tryz.func3 (ChangeSpec.witness_shaped (enc:=enc) (C:=Tryz.checked) (os:=os) (X:=fun w _=>laidMetH Tryz.prog Rows.fnExactRunPickRow.laid w) false (World.doorLaid Tryz.prog 400 os) #[.agg #[.slice none 0 0,.slice none 0 0,.slice none 0 0,.int .i64 0],.string ByteArray.empty,.int .i64 0] 8 rfl (World.shaped_of_RefB (by kernel_rfl) (by kernel_rfl)) (by kernel_rfl) (by kernel_rfl) (by kernel_rfl) (mT os _)) ?_;intro W base args ds gs af J hW _ _ hL _;have l:∀(j:Nat)t v,Tryz.f3.params[j]?=some t->args[j]?=some v->Value.okWide Tryz.prog W .any base t v:=J;have ax:=hW;obtain⟨p,q,T,av,rfl,a8,a9⟩:=hW;have hA:DataW.TrodAll enc Tryz.prog W 0 (fun _=>true) true Tryz.f3.params.toList args.toList ds p:=T;have hV:DataW.TrodVars enc Tryz.prog W (fun _=>true) ["loop.example/g00574/impl.errTooLong", "loop.example/g00574/impl.errNotRight", "loop.example/g00574/impl.errNothing", "loop.example/g00574/impl.errNoRoom"] gs q:=av;rw[Tryz.params3]at hA l;obtain⟨v0,bb,d0,a5,q0,o0,ah,rfl,rfl,h0,r0⟩:=trodAll_cons hA;obtain⟨v1,bf,d1,a6,q1,o1,al,rfl,rfl,h1,r1⟩:=trodAll_cons r0;obtain⟨v2,bi,d2,a7,q2,o2,an,rfl,rfl,h2,r2⟩:=trodAll_cons r1;obtain⟨rfl,rfl,rfl⟩:=trodAll_nil r2;obtain rfl:args=#[v0,v1,v2]:=by cases args;simp_all
 have k0:=h0;have aL:∀x∈q0,x.block<W.heap.size:=by obtain⟨m,U⟩:=k0;exact DataW.trod_lt m _ _ _ U
 obtain⟨ao,rfl,ac⟩:=okWide_struct Tryz.underlying26 (l 0 26 v0 rfl rfl);obtain⟨aq,ay⟩:=h0;obtain⟨p0,a1,a2,a3,a4,aR,a0,az,ab⟩:=DU ac ay;have k1:=h1;have aM:∀x∈q1,x.block<W.heap.size:=by obtain⟨m,U⟩:=k1;exact DataW.trod_lt m _ _ _ U
 obtain⟨s1,ad,-,-,R⟩:=open_string Tryz.underlying9 (l 1 9 v1 rfl rfl) h1;subst ad;have k2:=h2;have aN:∀x∈q2,x.block<W.heap.size:=by obtain⟨m,U⟩:=k2;exact DataW.trod_lt m _ _ _ U
 obtain⟨z2,rfl⟩:=okWide_int Tryz.underlying2 (l 2 2 v2 rfl rfl);obtain⟨g1,g2,g3,g4,rfl⟩:=Cg hV;obtain⟨E,hE⟩:=mj hL;clear T J;have e1:Rows.fnExactRunPickSpec.fn H ([d0,d1,d2]++[g1,g2,g3,g4])={results:=[.lit (.bool true)],args:=[d0,d1,d2],vars:=[g1,g2,g3,g4]}:=by simp[Rows.fnExactRunPickSpec]
 have law:Calls Tryz.prog 3 #[.agg ao,.string s1,.int .i64 z2] W fun e w'=>e=.returned (.bool true)/\Below W.heap.size W w':=by rw[az];exact wL p0 a1 a2 a3 a4 aR a0 s1 z2 W ab (by first|exact R|(unfold maxLen at R;omega)) hE
 refine law.mono fun e W'⟨he,I⟩=>?_;subst he;refine⟨_,rfl,_,_,_,[],(q0++(q1++(q2++[]))),q,ax,?_,?_,?_,I.frame _,fun h=>by cases h⟩;·rw[e1];exact trodAll_mk1 (shut_bool Tryz.underlying4 true)
 ·rw[e1];exact trodAll_cons_mk (Below.trod dT (by kernel_rfl) (of_decide_eq_true (by kernel_rfl)) k0 I aL) (trodAll_cons_mk (Below.trod dT (by kernel_rfl) (of_decide_eq_true (by kernel_rfl)) k1 I aM) (trodAll_cons_mk (Below.trod dT (by kernel_rfl) (of_decide_eq_true (by kernel_rfl)) k2 I aN) (trodAll_mk0)))
 ·rw[e1];exact Below.trodVars dT I (by kernel_rfl) hV
end
