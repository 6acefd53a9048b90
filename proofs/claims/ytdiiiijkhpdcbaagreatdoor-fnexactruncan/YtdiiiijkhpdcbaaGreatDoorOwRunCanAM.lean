import Derived.Test.YtdiiiijkhpdcbaaGreatDoorRows
import Derived.Test.YtdiiiijkhpdcbaaGreatDoorTie
import Derived.Test.YtdiiiijkhpdcbaaGreatDoorCards
import Derived.Test.YtdiiiijkhpdcbaaGreatDoorLawRunCanM
import Derived.Test.YtdiiiijkhpdcbaaGreatDoorRD24
import Derived.Test.YtdiiiijkhpdcbaaGreatDoorRD05
import Derived.WalkKit
import Derived.ProofKit
import Derived.OpenShut
import Derived.ShutString
import Derived.ChangeOld
import Derived.Below
import Derived.ChangeSame
import Derived.ChangeVars
import Derived.JoinedOf
import Derived.RowKit
import Derived.RowKitTokens
import Derived.LaidLaws
import Derived.LaidHandle
import Derived.LaidMore
import Derived.OpenVars
import Derived.Stop.Joined
import Derived.SevenTiedAt
import Derived.Test.YtdiiiijkhpdcbaaGreatDoorOwRunCanF2M
namespace Go.Proofs.YtdiiiijkhpdcbaaGreatDoor
open Go.RowKit
set_option linter.unusedSimpArgs false
set_option linter.unusedVariables false
set_option maxRecDepth 100000
section
open Go.ChangeShapes Go.WideShapes Go.ChangeAt Go.RowKit
open Go.ChangeMaps (open_string shut_string)
theorem nu:ownKnob Tryz.prog.godebug=none:=by kernel_rfl
theorem gZ:laidOutB Tryz.prog=true:=jV
theorem nk(os:Os)(args:Array Value):laidMetH Tryz.prog Rows.fnExactRunCanRow.laid ((World.doorLaid Tryz.prog 400 os).forCall (fun _ _=>0) ⟨#[],args,[]⟩).memory:=laidMetH_of_parts3 (fuel:=8) (laidMet_of_run' 8 (by kernel_rfl) (by kernel_rfl)) (by kernel_rfl) (by kernel_rfl)
theorem mq{W:World}(h:laidMetH Tryz.prog Rows.fnExactRunCanRow.laid W):∃E,eI W E:=by rw[MakeChecks.laidMetH_plain _ _ _ (by kernel_rfl)]at h;exact uR h
theorem la(os:Os)(I:os.Started)(H:Type)(enc:TypeId×Value→H):ReturnsInHanded {} Tryz.checked os 4 .any (fun w args=>(Rows.fnExactRunCanSpec.pre enc Tryz.prog Tryz.f4 [] false w args∧laidMetH Tryz.prog Rows.fnExactRunCanRow.laid w)∧sizedMet enc Tryz.prog Tryz.f4 (OpenSpec.ofChange Rows.fnExactRunCanSpec) false w args) (Rows.fnExactRunCanSpec.post enc Tryz.prog Tryz.f4 false true false false):=by
 refine returnsInHanded_of_change_and (C:=Tryz.checked) (X:=fun w _=>laidMetH Tryz.prog Rows.fnExactRunCanRow.laid w) (fun _ _ _ hh h=>h.of_heap hh) nu I (by kernel_rfl) Tryz.func4 (ChangeSpec.witness_shaped (enc:=enc) (C:=Tryz.checked) (os:=os) (X:=fun w _=>laidMetH Tryz.prog Rows.fnExactRunCanRow.laid w) false (World.doorLaid Tryz.prog 400 os) #[.agg #[.slice none 0 0,.slice none 0 0,.slice none 0 0,.int .i64 0]] 8 rfl (World.shaped_of_RefB (by kernel_rfl) (by kernel_rfl)) (by kernel_rfl) (by kernel_rfl) (by kernel_rfl) (nk os _)) ?_;intro W base args ds gs ab l hW _ _ hL _;have J:∀(j:Nat)t v,Tryz.f4.params[j]?=some t→args[j]?=some v→Value.okWide Tryz.prog W .any base t v:=l;have al:=hW;obtain⟨p,q,R,ah,rfl,aR,a0⟩:=hW;have hA:DataW.TrodAll enc Tryz.prog W 0 (fun _=>true) true Tryz.f4.params.toList args.toList ds p:=R;have hV:DataW.TrodVars enc Tryz.prog W (fun _=>true) ["loop.example/g00574/impl.errTooLong", "loop.example/g00574/impl.errNotRight", "loop.example/g00574/impl.errNothing", "loop.example/g00574/impl.errNoRoom"] gs q:=ah;rw[Tryz.params4]at hA J;obtain⟨v0,a1,d0,aN,q0,o0,ac,rfl,rfl,h0,r0⟩:=trodAll_cons hA;obtain⟨rfl,rfl,rfl⟩:=trodAll_nil r0;obtain rfl:args=#[v0]:=by cases args;simp_all
 have k0:=h0;have aq:∀x∈q0,x.block<W.heap.size:=by obtain⟨m,hm⟩:=k0;exact DataW.trod_lt m _ _ _ hm
 obtain⟨ad,rfl,U⟩:=okWide_struct Tryz.underlying26 (J 0 26 v0 rfl rfl);obtain⟨af,an⟩:=h0;obtain⟨p0,ay,az,aL,aM,av,ax,ao,T⟩:=De U an;obtain⟨g1,g2,g3,g4,rfl⟩:=BE hV;obtain⟨E,hE⟩:=mq hL;clear R l;have e1:Rows.fnExactRunCanSpec.fn H ([d0]++[g1,g2,g3,g4])={results:=[.lit (.bool true)],args:=[d0],vars:=[g1,g2,g3,g4]}:=by simp[Rows.fnExactRunCanSpec]
 have law:Calls Tryz.prog 4 #[.agg ad] W fun e w'=>e=.returned (.bool true)∧Below W.heap.size W w':=by rw[ao];exact xK p0 ay az aL aM av ax W T hE
 refine law.mono fun e W'⟨he,P⟩=>?_;subst he;refine⟨_,rfl,_,_,_,[],(q0++[]),q,al,?_,?_,?_,P.frame _,fun h=>by cases h⟩;·rw[e1];exact trodAll_mk1 (shut_bool Tryz.underlying4 true)
 ·rw[e1];exact trodAll_cons_mk (Below.trod gZ (by kernel_rfl) (of_decide_eq_true (by kernel_rfl)) k0 P aq) (trodAll_mk0)
 ·rw[e1];exact Below.trodVars gZ P (by kernel_rfl) hV
end
end Go.Proofs.YtdiiiijkhpdcbaaGreatDoor
