/- FnMachine: at every two lists of bytes that are handed in, of whatever length and spare room, the law returns true, and both read afterwards as before. No conditions. -/
import Derived.Test.YtlbcnmcfljaijaaGreatRows
import Derived.Test.YtlbcnmcfljaijaaGreatLawMachM
import Derived.WalkKit
import Derived.ProofKit
import Derived.OpenShut
import Derived.ShutString
import Derived.ChangeOld
import Derived.Below
namespace Go.Proofs.YtlbcnmcfljaijaaGreat
open Go.RowKit
set_option linter.unusedSimpArgs false
set_option linter.unusedVariables false
set_option maxHeartbeats 400000
set_option maxRecDepth 100000
section
open Go.ChangeShapes Go.WideShapes Go.ChangeAt Go.RowKit
open Go.ChangeMaps(open_string shut_string)
theorem tO:ownKnob Tryz.prog.godebug=none:=by kernel_rfl
theorem jQ:laidOutB Tryz.prog=true:=by kernel_rfl
def tV(k:IntKind)(w:World)(a:Option Addr)(len cap:Nat)(j:List Int):Prop:=(a=none∧len=0∧cap=0∧j=[])∨∃x,a=some x∧len≤cap∧cap≤maxLen∧j.length=cap∧(∀i,i<j.length→w.cell? (x.add i)=some (.int k (j.getD i 0)))∧∀n∈j,(Lit.int k n).wf=true
theorem tV.arg{w:World}{a:Option Addr}{len cap:Nat}{P:List Int}(h:tV .u8 w a len cap P):bT w a len∧len≤maxLen:=by
 rcases h with⟨rfl,rfl,rfl,rfl⟩|⟨x,rfl,U,hm,hz,j,J⟩;·exact⟨fun i hi=>absurd hi (by omega),by unfold maxLen;omega⟩
 ·refine⟨fun i hi=>?_,Nat.le_trans U hm⟩;have l:i<P.length:=by omega
  obtain⟨b,off,I⟩:=x;have T:=j i l;have C:I=none:=by simpa[Addr.add]using World.cell?_spot (j 0 (by omega))
  subst C;have hb:=bounds_u8 (J _ (List.getElem_mem l));refine⟨b,off,P[i],rfl,?_,by omega,by omega⟩;have R:(⟨b,off,none⟩:Addr).add i=⟨b,off+i,none⟩:=by unfold Addr.add;split<;>simp_all
  rw[←R,T];simp[List.getD,l]
theorem sE(a0:Option Addr)(C j:Nat)(z0:List Int)(a1:Option Addr)(I l:Nat)(z1:List Int)(w:World)(T:tV .u8 w a0 C j z0)(U:tV .u8 w a1 I l z1):Calls Tryz.prog 3 #[.slice a0 C j,.slice a1 I l] w fun e w'=>e=.returned (.bool true)∧Below w.heap.size w w':=by obtain⟨P,J⟩:=T.arg;obtain⟨R,l1⟩:=U.arg;exact DZ a0 C j a1 I l w J l1 P R
theorem pJ(os:Os)(T:os.Started)(H:Type)(enc:TypeId×Value→H):ReturnsInHanded {} Tryz.checked os 3 .any (Rows.fnMachineSpec.pre6 enc Tryz.prog Tryz.f3 Rows.fnMachineRow.domain false) (Rows.fnMachineSpec.post enc Tryz.prog Tryz.f3 false true false false):=by
 refine returnsInHanded_of_change (C:=Tryz.checked) tO T (by kernel_rfl) Tryz.func3 (ChangeSpec.witness6 (enc:=enc) (C:=Tryz.checked) false ⟨#[],#[.slice none 0 0,.slice none 0 0],[]⟩ 8 (by kernel_rfl) (by kernel_rfl) (by kernel_rfl) (by kernel_rfl)) ?_;intro W base args ds gs av R hW hcnd _;have P:∀(j:Nat)t v,Tryz.f3.params[j]?=some t→args[j]?=some v→Value.okWide Tryz.prog W .any base t v:=R;have ax:=hW;obtain⟨p,q,ao,hV,rfl,a5,a8⟩:=hW;have hA:DataW.TrodAll enc Tryz.prog W 0 (fun _=>true) true Tryz.f3.params.toList args.toList ds p:=ao;rw[Tryz.params3]at hA P;obtain⟨v0,a9,d0,a3,p0,q0,ay,rfl,rfl,h0,r0⟩:=trodAll_cons hA;obtain⟨v1,ba,d1,a4,p1,q1,rfl,rfl,rfl,h1,r1⟩:=trodAll_cons r0;obtain⟨rfl,rfl,rfl⟩:=trodAll_nil r1;obtain rfl:args=#[v0,v1]:=by cases args;simp_all
 obtain⟨rfl,rfl⟩:=trodVars_none hV;obtain⟨a0,ac,U,rfl⟩:=okWide_slice Tryz.underlying22 (P 0 22 v0 rfl rfl);have k0:=h0;have az:∀x∈p0,x.block<W.heap.size:=by obtain⟨m,hm⟩:=k0;exact DataW.trod_lt m _ _ _ hm
 obtain⟨z0,w0⟩:∃zs,tV .u8 W a0 ac U zs:=by
  obtain⟨ah,hf⟩:=h0;rcases open_ints Tryz.underlying22 Tryz.underlying5 (by kernel_rfl) hf with⟨I,_⟩|⟨x,l,c,zs,I,_,hl,hm,hz,_,J,ag⟩;·simp[Value.cells]at I;obtain⟨rfl,rfl,rfl⟩:=I;exact⟨[],.inl ⟨rfl,rfl,rfl,rfl⟩⟩
  ·simp[Value.cells]at I;obtain⟨rfl,rfl,rfl⟩:=I;exact⟨zs,.inr ⟨_,rfl,hl,hm,by simpa using hz,J,ag⟩⟩
 obtain⟨a1,ad,ab,rfl⟩:=okWide_slice Tryz.underlying22 (P 1 22 v1 rfl rfl);have k1:=h1;have a2:∀x∈p1,x.block<W.heap.size:=by obtain⟨m,hm⟩:=k1;exact DataW.trod_lt m _ _ _ hm
 obtain⟨z1,w1⟩:∃zs,tV .u8 W a1 ad ab zs:=by
  obtain⟨ah,hf⟩:=h1;rcases open_ints Tryz.underlying22 Tryz.underlying5 (by kernel_rfl) hf with⟨I,_⟩|⟨x,l,c,zs,I,_,hl,hm,hz,_,J,ag⟩;·simp[Value.cells]at I;obtain⟨rfl,rfl,rfl⟩:=I;exact⟨[],.inl ⟨rfl,rfl,rfl,rfl⟩⟩
  ·simp[Value.cells]at I;obtain⟨rfl,rfl,rfl⟩:=I;exact⟨zs,.inr ⟨_,rfl,hl,hm,by simpa using hz,J,ag⟩⟩
 clear ao R;refine(sE a0 ac U z0 a1 ad ab z1 W w0 w1).mono fun e W'⟨he,af⟩=>?_;subst he;exact⟨_,rfl,_,_,_,[],_,[],ax,trodAll_mk1 (shut_bool Tryz.underlying4 _),(trodAll_cons_mk (Below.trod jQ (by kernel_rfl) (of_decide_eq_true (by kernel_rfl)) k0 af az) (trodAll_cons_mk (Below.trod jQ (by kernel_rfl) (of_decide_eq_true (by kernel_rfl)) k1 af a2) trodAll_mk0)),rfl,af.frame _,fun h=>by cases h⟩
theorem sD:Rows.fnMachineRow.holds Tryz.pinned (OpenSpec.ofChange Rows.fnMachineSpec):=OpenClaim.holds_of_wide 3 Tryz.f3 rfl rfl rfl rfl rfl rfl rfl ⟨rfl,rfl,rfl,rfl,rfl⟩ rfl rfl rfl rfl rfl (by kernel_rfl) Tryz.func3 (by kernel_rfl) (of_decide_eq_true (by kernel_rfl)) (by unfold Func.isWrapper;first|(rw[if_pos (by decide+kernel)];kernel_rfl)|(rw[if_neg (by decide+kernel)];exact⟨rfl,rfl⟩)) (fun os j H enc _=>pJ os j H enc)
theorem fnMachine_holds:Rows.FnMachineSaid:=sD
#print axioms fnMachine_holds
end
end Go.Proofs.YtlbcnmcfljaijaaGreat
