import Derived.Test.YtdiiiijkhpdcbaaGreatDoorRV00
import Derived.StillTail
namespace Go.Proofs.YtdiiiijkhpdcbaaGreatDoor
open Go.RowKit
set_option linter.unusedSimpArgs false
set_option linter.unusedVariables false
set_option maxHeartbeats 1000000
set_option maxRecDepth 100000
def sT:Nat->Nat->ByteArray->ByteArray|0,_,out=>out|f+1,k,out=>if k=0 then out else sT f (k/10) (ByteArray.mk #[UInt8.ofNat (48+k%10)]++out)
def fL(k:Nat):ByteArray:=ByteArray.mk #[109]++sT 7 k ByteArray.empty
def qZ(j:Nat):UInt8:=UInt8.ofNat (48+j%10)
theorem xZ(j:Nat)(W:World):(convert 172 9 (.slice (some ⟨W.heap.size,0,none⟩) 1 1)).run Tryz.prog (W.alloc (.cells #[.int .u8 (48+(j:Int)%10)] 5))=.ok (.string ⟨[qZ j].toArray⟩) (W.alloc (.cells #[.int .u8 (48+(j:Int)%10)] 5)):=by
 refine run_convert_bytes_back (P:=Tryz.prog) _ 172 9 5 ⟨W.heap.size,0,none⟩ 1 [qZ j] Tryz.underlying172 Tryz.underlying5 Tryz.underlying9 (fun i hi=>?_);match i,hi with
  |0,_=>
   have e:((qZ j).toNat:Int)=48+(j:Int)%10:=by
    have:(qZ j).toNat=48+j%10:=by rw[qZ,UInt8.toNat_ofNat'];omega
    omega
   simp[Addr.add,e]
theorem CP(f j:Nat)(o:ByteArray)(h:0<j):sT (f+1) j o=sT f (j/10) (ByteArray.mk [qZ j].toArray++o):=by rw[sT,if_neg (by omega)];rfl
theorem CQ(f:Nat)(o:ByteArray):sT f 0 o=o:=by cases f<;>simp[sT]
theorem Bw(k:Nat)(w:World)(h1:1<=k)(hk:k<6000001):Calls Tryz.prog 71 #[.int .i64 k] w fun e w'=>e=.returned (.string (fL k))/\Below w.heap.size w w':=by
 go_enter Tryz.func71,Tryz.ntmps71;go_wp2_with fail;go_loopw[0,3](fun kv out wr=>∃(f j:Nat)(o:ByteArray),kv=.int .i64 j/\out=.string o/\j<10^f/\f<=7/\o.size<=7-f/\sT f j o=sT 7 k ByteArray.empty/\Below w.heap.size w wr)(fun kv _ _=>(intOf kv).toNat);case atStart=>exact⟨7,k,ByteArray.empty,rfl,rfl,by omega,Nat.le_refl _,Nat.le_refl _,rfl,Below.refl _ _⟩
 case round=>
  obtain⟨f,j,o,rfl,rfl,hj,hf,ad,hd,l⟩:=hrel;have HD:=aa hd;have I:=aa l;have U:=l.size;have HJ:=aa hj;clear hd l hj;by_cases hz:j=0;·
   subst hz;have HO:=aa (show sT 7 k ByteArray.empty=o by rw[<-HD.out,CQ]);have R:o.size<=7:=by omega
   go_wp2_with fail;go_ret;refine⟨Gf ?_,I.out⟩;rw[fL,HO.out]
  ·have T:0<j:=by omega
   have HP:=aa T;have ab:j<10000000:=Nat.lt_of_lt_of_le HJ.out (Nat.le_trans (Nat.pow_le_pow_right (by omega) hf) (by decide));have ac:=xZ j wr;have R:o.size<=7:=by omega
   obtain⟨f',rfl⟩:∃f',f=f'+1:=⟨f-1,by
    rcases Nat.eq_zero_or_pos f with h|h;·have:=HJ.out;rw[h]at this;omega
    ·omega⟩;have J:ByteArray.size ⟨[qZ j].toArray⟩=1:=rfl;clear hz;go_wp2_with fail;go_roundw;case rel=>
    refine⟨f',j/10,_,by go_num,rfl,?_,by omega,?_,?_,I.out.trans ((ae _ _).mono U)⟩;·have:=HJ.out;rw[Nat.pow_succ]at this;omega
    ·rw[ByteArray.size_append,J];omega
    ·rw[<-HD.out,CP f' j o HP.out]
   case measure=>simp[intOf];omega
theorem cH(k:Nat)(z:Int)(w:World)(I:z=k)(j:1<=k)(l:k<6000001):Calls Tryz.prog 71 #[.int .i64 z] w fun e w'=>e=.returned (.string (fL k))/\Below w.heap.size w w':=by subst I;exact Bw k w j l
theorem e9{w wr R:World}{row:Option Nat}(j:w.grownBy wr row)(l:Below wr.heap.size wr R):w.grownBy R row:=⟨l.os.trans j.os,l.tape.trans j.tape,l.output.trans j.output,Nat.le_trans j.size l.size,fun k J I=>(l.block k (Nat.lt_of_lt_of_le J j.size)).trans (j.block k J I)⟩
theorem dO{w wr:World}{g:Nat}(j:w.grownBy wr (some g))(o:Nat)(x:Value):w.grownBy (wr.setCell ⟨g,o,none⟩ x) (some g):=⟨j.os,j.tape,j.output,by simp;exact j.size,fun k I l=>(Below.heap_setCell wr ⟨g,o,none⟩ x k (fun h=>l (by rw[h]))).trans (j.block k I l)⟩
theorem gw(w:World)(row:Option Nat):w.grownBy w row:=⟨rfl,rfl,rfl,Nat.le_refl _,fun _ _ _=>rfl⟩
section
section
variable {P : Program} {ops : Array Oper} {md : Region.Mode} {C : World -> Prop}
def pU(P:Program)(md:Region.Mode)(ops:Array Oper)(C:World->Prop)(n:Nat)(L:Array Bool->Act->Prop):Nat->Array Bool->Act->Prop|0,listed,a=>L listed a|f+1,listed,a=>Region.ready md ops listed≠[]/\∀i∈Region.ready md ops listed,i<n/\qOp P ops C i (pU P md ops C n L f (listed.setIfInBounds i true)) a
theorem kB{n g:Nat}{L:Array Bool->Act->Prop}{Q':Exit->Act->World->Prop}(I:∀listed a w,C w->L listed a->wpAny P md ops Q' g listed a w):∀(f:Nat)(listed:Array Bool)(a:Act)(w:World),C w->pU P md ops C n L f listed a->wpAny P md ops Q' (f+g) listed a w|0,listed,a,w,j,h=>by rw[Nat.zero_add];exact I _ _ _ j h|f+1,listed,a,w,j,h=>by rw[show f+1+g=(f+g)+1 by omega];exact⟨fun T=>absurd T h.1,fun i hi=>wpOp_of_qOp j (fun J w' l R=>kB I f _ J w' l R) (h.2 i hi).2⟩
theorem wm{n i:Nat}{oi:Oper}{v:Value}{L:Array Bool->Act->Prop}(hi:ops[i]?=some oi)(ab:∀(j:Nat)(o:Oper)cs b,ops[j]?=some o->o.op≠.select cs b)(hs:Region.sinkB md ops n=true)(hc:Region.chainB md ops n=true)(hn:n<ops.size)(ah:i<n)(ac:∀listed a,L listed a->∀j∈Region.ready md ops listed,n<=j)(f:Nat):∀(listed:Array Bool)(a:Act),HeadInv md ops n listed->(∀j oj,ops[j]?=some oj->j≠i->listed.getD j true=false->(∀e∈oj.after,Region.binds md e=true->e.on≠i)->oi.apart ops oj=true)->i∈Region.ready md ops listed->YieldsIn P ops C oi v a->pU P md ops C n L f (listed.setIfInBounds i true) (a.put oi.dst v)->pU P md ops C n L (f+1) listed a:=by
 induction f with
  |zero=>
   intro listed a R _ U hy H;refine⟨fun h=>(by rw[h]at U;cases U),fun j hj=>?_⟩;have J:j<n:=Nat.lt_of_not_le fun h=>tail_waits hs hc hn R _ i rfl ah (mem_ready.1 U).1 j h hj;refine⟨J,?_⟩;by_cases l:j=i;·subst l;exact hy.qOp hi H
   ·exact absurd (ac _ _ H j (ready_mono hj l)) (by omega)|succ f ih=>
   intro listed a R I U hy H;refine⟨fun h=>(by rw[h]at U;cases U),fun j hj=>?_⟩;have ao:=(mem_ready.1 U).1;have J:j<n:=Nat.lt_of_not_le fun h=>tail_waits hs hc hn R _ i rfl ah ao j h hj;refine⟨J,?_⟩;by_cases l:j=i;·subst l;exact hy.qOp hi H
   ·obtain⟨T,oj,ad,af⟩:=mem_ready.1 hj;have an:∀e∈oj.after,Region.binds md e=true->e.on≠i:=fun e he hb heq=>by have h1:=af e he hb;rw[heq,getD_both ao]at h1;cases h1
    have h2:=qOp_put ad (I j oj ad l T an) (fun cs b=>ab i oi cs b hi) (fun cs b=>ab j oj cs b ad) hy (H.2 j (ready_mono hj l)).2;refine qOp_mono (fun a' h3=>ih (listed.setIfInBounds j true) a' (R.set hj J) (fun k ok hk av aq ax=>?_) (ready_mono U (Ne.symm l)) h3.1 ?_) h2;·
     refine I k ok hk av ?_ ax;by_cases al:j=k;·subst al;exact T
     ·rwa[getD_set_ne true al]at aq
    ·rw[Array.setIfInBounds_comm _ _ l];exact h3.2
theorem tC{n g:Nat}{Lq:Act->Prop}(J:Region.noSelect ops=true)(hs:Region.sinkB md ops n=true)(hc:Region.chainB md ops n=true)(hn:n<ops.size):∀(l:List Oper)(k:Nat)(listed:Array Bool)(a:Act),(∀j,j<l.length->l[j]?=ops[k+j]?)->k+l.length=n->HeadInv md ops n listed->Region.lexHead md ops g l.length k listed=true->wpQuiet P ops C Lq l a->pU P md ops C n (fun I a'=>Region.seqB md ops g n I=true/\Lq a') l.length listed a
 |[],k,listed,a,_,hk,_,R,h=>by
  have e:k=n:=by simpa using hk
  subst e;exact⟨by simpa[Region.lexHead]using R,h⟩|o::l,k,listed,a,hl,hk,U,R,h=>by
  have h0:ops[k]?=some o:=by simpa using(hl 0 (by simp)).symm
  simp only[List.length_cons,Region.lexHead,Bool.and_eq_true]at R;have T:k<n:=by simp only[List.length_cons]at hk;omega
  have hr:k∈Region.ready md ops listed:=by simpa using R.1.1
  obtain⟨v,hy,hK⟩:=yieldsIn_of_qOp h0 (show qOp P ops C k (wpQuiet P ops C Lq l) a by unfold qOp;simp only[h0];exact h);exact wm h0 (Region.noSelect_spec J) hs hc hn T (fun _ _ hL=>seqB_ready hL.1) l.length listed a U (Region.free_spec h0 R.1.2) hr hy (tC J hs hc hn l (k+1) _ _ (fun j hj=>by have:=hl (j+1) (by simp;omega);simpa[Nat.add_assoc,Nat.add_comm 1 j]using this) (by simp only[List.length_cons]at hk;omega) (U.set hr T) R.2 hK)
end
theorem jv{P:Program}{id:Nat}{Q:Exit->Act->World->Prop}{a:Act}{w:World}{l:List Oper}(n:Nat)(hm:P.follows .mixedOrders=true)(hB:Region.lexTailB .any l.toArray n=true)(h:∀W,W=w->wpQuiet P l.toArray (fun w'=>∃g:Grown W,w'=g.val) (fun a'=>∀w',Below W.heap.size W w'->wpList P l.toArray Q (l.drop n) a' w') (l.take n) a):(Code.region id l.toArray true).wp P Q a w:=by
 simp only[Region.lexTailB,Bool.and_eq_true,decide_eq_true_eq]at hB;obtain⟨⟨⟨⟨T,hn⟩,hs⟩,hc⟩,R⟩:=hB;have I:(l.take n).length=n:=by
  have:n<l.length:=by simpa using hn
  simp;omega
 have J:(l.drop n).length=l.toArray.size-n:=by simp
 have U:HeadInv .any l.toArray n (Array.replicate l.toArray.size false):=⟨by simp,fun j oj _ hl=>(by rw[getD_replicate_false]at hl;cases hl),fun t _ ht=>getD_in (by simpa using ht) (getD_replicate_false _ _)⟩;have H:=tC (md:=.any) (C:=fun w'=>∃g:Grown w,w'=g.val) (g:=l.toArray.size-n) T hs hc hn (l.take n) 0 _ a (fun j hj=>by
  have ab:j<n:=by rw[I]at hj;exact hj
  simp[ab]) (by simpa using I) U (by rw[I];exact R) (h w rfl);refine wp_region_any hm ?_;have K:=kB (Q':=Q) (g:=l.toArray.size-n) (fun listed a' w' hw hL=>by obtain⟨g,rfl⟩:=hw;have:=wpAny_of_seq (md:=.any) (Q':=Q) (l.drop n) n listed a' g.val (fun j=>by simp[List.getElem?_drop]) (by rw[J];exact hL.1) (hL.2 _ g.bU);rwa[J]at this) _ _ _ {w with drawn:=w.drawn+1} ⟨⟨_,(Below.refl _ _).drew⟩,rfl⟩ H;rw[I,show n+(l.toArray.size-n)=l.toArray.size by omega]at K;exact K
end
