import Derived.Test.YtdiiiijkhpdcbaaGreatDoorRD00
namespace Go.Proofs.YtdiiiijkhpdcbaaGreatDoor
open Go.RowKit
set_option linter.unusedSimpArgs false
set_option linter.unusedVariables false
set_option maxHeartbeats 2000000
set_option maxRecDepth 100000
def iz(k:Nat):aF:=⟨gw (k+0),gw (k+1),gw (k+2),((k+3:Nat):Int)⟩
def gv(k n:Nat):List aF:=(List.range n).map fun i=>iz (k+i*4)
theorem ir(k n:Nat):(gv k n).length=n:=by simp[gv]
theorem sJ(k n i:Nat)(h:i<(gv k n).length):(gv k n)[i]=iz (k+i*4):=by simp[gv]
theorem AR(k0:Nat)(ns:List aF)(v:Value)(w:World)(B:Nat)(h1:1≤k0)(hk:k0+ns.length*4≤5900000)(hv:bq w w.heap.size v ns)(a4:qB B w v):Calls Tryz.prog 64 #[v,.int .i64 k0] w fun e w'=>e=.returned (.int .i64 ((k0+ns.length*4:Nat):Int))∧bq w' w'.heap.size v (gv k0 ns.length)∧w.grownBy w' v.ownBlock:=by
 obtain⟨ao,cap,rfl,hc,hm,hr⟩:=hv;have HR:=aa hr;have HO:=aa a4;obtain⟨n,hn⟩:∃n,ns.length=n:=⟨_,rfl⟩;rw[hn]at hc hk hm⊢;have HN:=aa hn;clear hr a4 hn;by_cases bx:n=0;·
  subst bx;go_enter Tryz.func64,Tryz.ntmps64;go_wp2_with fail;go_loopw[1,5](fun kv i wr=>i=.int .i64 0∧kv=.int .i64 (k0:Int)∧wr=w)(fun _ _ _=>0);case atStart=>exact⟨rfl,rfl,rfl⟩
  case round=>obtain⟨rfl,rfl,rfl⟩:=hrel;go_wp2_with fail;go_ret;exact⟨bd rfl,⟨_,_,rfl,by simp[gv],by simp[gv],fun h=>absurd rfl h⟩,gr _ _⟩
 ·have bN:ns≠[]:=fun h=>bx (by rw[←HN.out,h];rfl);obtain⟨b,o,rfl,bv,a5⟩:=HR.out bN;obtain⟨hB,-,bn⟩:=HO.out.free b rfl;have bz:Hid (∀i,i<n→∃R,dR w b (o+i*4) R):=aa (fun i hi=>⟨_,a5.get i (by rw[HN.out];exact hi)⟩);have bB:=aa bn;clear a5 bn;go_enter Tryz.func64,Tryz.ntmps64;go_wp2_with fail;go_loopw[1,5](fun kv i wr=>∃k:Nat,k≤n∧i=.int .i64 k∧kv=.int .i64 ((k0+k*4:Nat):Int)∧(∀j,j<k→dR wr b (o+j*4) (iz (k0+j*4)))∧(∀j,j<n→∃R,dR wr b (o+j*4) R)∧(∀j,wr.frozen? ⟨b,j,none⟩=false)∧w.grownBy wr (some b))(fun _ i _=>n-(intOf i).toNat);case atStart=>exact⟨0,Nat.zero_le _,rfl,rfl,fun j h=>absurd h (by omega),bz.out,bB.out,gr _ _⟩
  case round=>
   obtain⟨k,hk,rfl,rfl,ab,az,af,aL⟩:=hrel;have HD:=aa ab;have HE:=aa az;have HF:=aa af;have HG:=aa aL;have bm:b<wr.heap.size:=Nat.lt_of_lt_of_le bv aL.size;by_cases bM:k<n;·
    obtain⟨R,g0,g1,g2,g3⟩:=az k bM;have cp:=af (o+k*4);obtain⟨kk,a6⟩:∃kk,k0+k*4=kk:=⟨_,rfl⟩;rw[a6];have ca:kk<5900001:=by omega
    have b7:1≤kk:=by omega
    have bb:=aa a6;have U:Hid (∀(W:World)(x:Value)(i j:Nat),i≠j→(W.setCell ⟨b,o+k*4+i,none⟩ x).cell? ⟨b,o+k*4+j,none⟩=W.cell? ⟨b,o+k*4+j,none⟩):=aa (fun W x i j bL=>World.cell?_setCell_other _ _ _ _ (fun h=>bL (by injection h with h1 h2;omega)));have I:=aa (And.intro g0 (And.intro g1 (And.intro g2 g3)));clear ab az af aL a6 g1 g2 g3;go_wp2_with(first|(go_at_call 71;refine(gO (kk+2) _ _ (by omega) (by omega) (by omega)).mono ?_;rintro e w3⟨rfl,av⟩;have b5:b<w3.heap.size:=(by have:=av.size;(try simp at this);omega);have bs:=(fun j=>av.cell (p:=⟨b,j,none⟩) (by simpa using aN));have ah:Hid (∀j,w3.frozen? ⟨b,j,none⟩=false):=aa (fun j=>(av.frozen (p:=⟨b,j,none⟩) (by simpa using aN)).trans ((World.frozen?_setCell _ _ _ _).trans (ac.out j)));have al:=aa bs;have bk:w3.cell? ⟨b,o+k*4+2,none⟩=some (.string R.label):=((al.out _).trans ((U.out _ _ 1 2 (by decide)).trans ((T.out _).trans ((U.out _ _ 0 2 (by decide)).trans ((l.out _).trans I.out.2.2.1)))));have bl:w3.cell? ⟨b,o+k*4+3,none⟩=some (.int .i64 R.sort):=((al.out _).trans ((U.out _ _ 1 3 (by decide)).trans ((T.out _).trans ((U.out _ _ 0 3 (by decide)).trans ((l.out _).trans I.out.2.2.2)))));have cm:=ah.out (o+k*4+2);have cn:=ah.out (o+k*4+3);have a9:Hid (w.grownBy w3 (some b)):=aa (gq (fk a8.out _ _) av);clear av bs)|(go_at_call 71;refine(gO (kk+1) _ _ (by omega) (by omega) (by omega)).mono ?_;rintro e w2⟨rfl,aq⟩;have aN:b<w2.heap.size:=(by have:=aq.size;(try simp at this);omega);have br:=(fun j=>aq.cell (p:=⟨b,j,none⟩) (by simpa using aM));have ac:Hid (∀j,w2.frozen? ⟨b,j,none⟩=false):=aa (fun j=>(aq.frozen (p:=⟨b,j,none⟩) (by simpa using aM)).trans ((World.frozen?_setCell _ _ _ _).trans (J.out j)));have T:=aa br;have bi:w2.cell? ⟨b,o+k*4+1,none⟩=some (.string R.to):=((T.out _).trans ((U.out _ _ 0 1 (by decide)).trans ((l.out _).trans I.out.2.1)));have b3:w2.cell? ⟨b,o+k*4+2,none⟩=some (.string R.label):=((T.out _).trans ((U.out _ _ 0 2 (by decide)).trans ((l.out _).trans I.out.2.2.1)));have b4:w2.cell? ⟨b,o+k*4+3,none⟩=some (.int .i64 R.sort):=((T.out _).trans ((U.out _ _ 0 3 (by decide)).trans ((l.out _).trans I.out.2.2.2)));have cg:=ac.out (o+k*4+1);have ch:=ac.out (o+k*4+2);have cl:=ac.out (o+k*4+3);have a8:Hid (w.grownBy w2 (some b)):=aa (gq (fk a7.out _ _) aq);clear aq br)|(go_at_call 71;refine(gO (kk+0) _ _ (by omega) (by omega) (by omega)).mono ?_;rintro e w1⟨rfl,an⟩;have aM:b<w1.heap.size:=(by have:=an.size;(try simp at this);omega);have bp:=(fun j=>an.cell (p:=⟨b,j,none⟩) (by simpa using bm));have J:Hid (∀j,w1.frozen? ⟨b,j,none⟩=false):=aa (fun j=>(an.frozen (p:=⟨b,j,none⟩) (by simpa using bm)).trans (HF.out j));have l:=aa bp;have bf:w1.cell? ⟨b,o+k*4,none⟩=some (.string R.ct):=((l.out _).trans I.out.1);have b0:w1.cell? ⟨b,o+k*4+1,none⟩=some (.string R.to):=((l.out _).trans I.out.2.1);have b1:w1.cell? ⟨b,o+k*4+2,none⟩=some (.string R.label):=((l.out _).trans I.out.2.2.1);have b2:w1.cell? ⟨b,o+k*4+3,none⟩=some (.int .i64 R.sort):=((l.out _).trans I.out.2.2.2);have cb:=J.out (o+k*4);have cc:=J.out (o+k*4+1);have cd:=J.out (o+k*4+2);have cf:=J.out (o+k*4+3);have a7:Hid (w.grownBy w1 (some b)):=aa (gq HG.out an);clear an bp));go_roundw;case rel=>
     have hs:∀(W:World)(x:Value)(p q:Nat),p≠q→(W.setCell ⟨b,p,none⟩ x).cell? ⟨b,q,none⟩=W.cell? ⟨b,q,none⟩:=fun W x p q bR=>World.cell?_setCell_other _ _ _ _ (fun h=>bR (by injection h));have ad:∀x,(x<o+k*4∨o+k*4+4≤x)→(((w3.setCell ⟨b,o+k*4+2,none⟩ (.string (gw (kk+2)))).setCell ⟨b,o+k*4+3,none⟩ (.int .i64 ((kk:Int)+1+1+1)))).cell? ⟨b,x,none⟩=wr.cell? ⟨b,x,none⟩:=fun x hx=>by rw[hs _ _ _ _ (by omega),hs _ _ _ _ (by omega),al.out,hs _ _ _ _ (by omega),T.out,hs _ _ _ _ (by omega),l.out]
     have aR:dR (((w3.setCell ⟨b,o+k*4+2,none⟩ (.string (gw (kk+2)))).setCell ⟨b,o+k*4+3,none⟩ (.int .i64 ((kk:Int)+1+1+1)))) b (o+k*4) (iz kk):=by
      refine⟨?_,?_,?_,?_⟩;·rw[hs _ _ _ _ (by omega),hs _ _ _ _ (by omega),al.out,hs _ _ _ _ (by omega),T.out];refine(World.cell?_setCell_same _ _ _ (u:=.string R.ct) (by exact bf)).trans (by simp[iz];try omega)
      ·rw[hs _ _ _ _ (by omega),hs _ _ _ _ (by omega),al.out];refine(World.cell?_setCell_same _ _ _ (u:=.string R.to) (by exact bi)).trans (by simp[iz];try omega)
      ·rw[hs _ _ _ _ (by omega)];refine(World.cell?_setCell_same _ _ _ (u:=.string R.label) (by exact bk)).trans (by simp[iz];try omega)
      ·refine(World.cell?_setCell_same _ _ _ (u:=.int .i64 R.sort) (by rw[hs _ _ _ _ (by omega)];exact bl)).trans (by simp[iz];try omega)
     have ay:∀j x,j≠k→dR wr b (o+j*4) x→dR (((w3.setCell ⟨b,o+k*4+2,none⟩ (.string (gw (kk+2)))).setCell ⟨b,o+k*4+3,none⟩ (.int .i64 ((kk:Int)+1+1+1)))) b (o+j*4) x:=fun j x hj hx=>by obtain⟨a0,a1,a2,a3⟩:=hx;exact⟨(ad _ (by omega)).trans a0,(ad _ (by omega)).trans a1,(ad _ (by omega)).trans a2,(ad _ (by omega)).trans a3⟩
     refine⟨k+1,by omega,by go_num,by have:=bb.out;congr 1;omega,fun j hj=>?_,fun j hj=>?_,fun j=>?_,(fk (fk a9.out _ _) _ _)⟩;·
      by_cases ax:j=k;·subst ax;rw[bb.out];exact aR
      ·exact ay j _ ax (HD.out j (by omega))
     ·by_cases ax:j=k;·subst ax;exact⟨_,aR⟩
      ·obtain⟨x,hx⟩:=HE.out j hj;exact⟨x,ay j x ax hx⟩
     ·rw[World.frozen?_setCell,World.frozen?_setCell];exact ah.out j
    case measure=>simp[intOf];omega
   ·clear ab az af aL;go_wp2_with fail;go_ret;refine⟨bd (by omega),⟨_,_,by rw[ir],by rw[ir];exact hc,by rw[ir];exact hm,fun _=>⟨b,o,rfl,Nat.lt_of_lt_of_le bv HG.out.size,dC.of _ _ _ _ (fun j hj=>?_)⟩⟩,HG.out⟩;rw[sJ];rw[ir]at hj;exact HD.out j (by omega)
section
section
variable {P : Program} {ops : Array Oper} {md : Region.Mode} {C : World → Prop}
def uS(md:Region.Mode)(ops:Array Oper)(n:Nat):Bool:=(List.range n).all fun i=>i==0||(List.range (n+1)).any fun j=>decide (i<j)&&Region.waitsFor md ops j i
theorem pQ{n:Nat}{l:Array Bool}(hs:uS md ops n=true)(hc:Region.chainB md ops n=true)(hn:n<ops.size)(ab:HeadInv md ops n l):∀(d i:Nat),n-i=d→0<i→i<n→l.getD i true=false→∀t,n≤t→t∉Region.ready md ops l:=by
 intro d;induction d using Nat.strongRecOn with
  |_ d ih=>
   intro i hd ax hi ah t ht hr;obtain⟨_,ot,U,T⟩:=mem_ready.1 hr;have af:t<ops.size:=(Array.getElem?_eq_some_iff.1 U).1;by_cases aq:t=n;·
    subst aq;have I:=List.all_eq_true.1 hs i (List.mem_range.2 hi);rw[Bool.or_eq_true]at I;rcases I with I|I;·simp at I;omega
    obtain⟨j,hj,ac⟩:=List.any_eq_true.1 I;simp only[Bool.and_eq_true,decide_eq_true_eq]at ac;obtain⟨oj,ad,e,he,hb,J⟩:=Region.waitsFor_spec ac.2;have av:j≤t:=by have:=List.mem_range.1 hj;omega
    by_cases an:j=t;·subst an;have:oj=ot:=Option.some.inj (ad.symm.trans U);subst this;have R:=T e he hb;rw[J,getD_both ah]at R;cases R
    ·cases hl:l.getD j false with
      |true=>have R:=ab.closed j oj ad hl e he hb;rw[J,getD_both ah]at R;cases R|false=>
       have al:j<l.size:=by rw[ab.size];omega
       exact ih (t-j) (by omega) j rfl (by omega) (by omega) (getD_in al hl) t (Nat.le_refl _) hr
   ·have I:=List.all_eq_true.1 hc t (List.mem_range.2 af);simp only[Bool.or_eq_true,decide_eq_true_eq]at I;rcases I with I|I;·omega
    ·obtain⟨o',ao,e,he,hb,J⟩:=Region.waitsFor_spec I;have:o'=ot:=Option.some.inj (ao.symm.trans U);subst this;have R:=T e he hb;rw[J,getD_both (ab.tail (t-1) (by omega) (by omega))]at R;cases R
theorem uo{n i:Nat}{oi:Oper}{v:Value}{L:Array Bool→Act→Prop}(hi:ops[i]?=some oi)(ab:∀(j:Nat)(o:Oper)cs b,ops[j]?=some o→o.op≠.select cs b)(hs:uS md ops n=true)(hc:Region.chainB md ops n=true)(hn:n<ops.size)(ah:0<i)(al:i<n)(ac:∀listed a,L listed a→∀j∈Region.ready md ops listed,n≤j)(f:Nat):∀(listed:Array Bool)(a:Act),HeadInv md ops n listed→(∀j oj,ops[j]?=some oj→j≠i→listed.getD j true=false→(∀e∈oj.after,Region.binds md e=true→e.on≠i)→oi.apart ops oj=true)→i∈Region.ready md ops listed→YieldsIn P ops C oi v a→pA P md ops C n L f (listed.setIfInBounds i true) (a.put oi.dst v)→pA P md ops C n L (f+1) listed a:=by
 induction f with
  |zero=>
   intro listed a R _ U hy H;refine⟨fun h=>(by rw[h]at U;cases U),fun j hj=>?_⟩;have J:j<n:=Nat.lt_of_not_le fun h=>pQ hs hc hn R _ i rfl ah al (mem_ready.1 U).1 j h hj;refine⟨J,?_⟩;by_cases l:j=i;·subst l;exact hy.qOp hi H
   ·exact absurd (ac _ _ H j (ready_mono hj l)) (by omega)|succ f ih=>
   intro listed a R I U hy H;refine⟨fun h=>(by rw[h]at U;cases U),fun j hj=>?_⟩;have aq:=(mem_ready.1 U).1;have J:j<n:=Nat.lt_of_not_le fun h=>pQ hs hc hn R _ i rfl ah al aq j h hj;refine⟨J,?_⟩;by_cases l:j=i;·subst l;exact hy.qOp hi H
   ·obtain⟨T,oj,ad,af⟩:=mem_ready.1 hj;have ao:∀e∈oj.after,Region.binds md e=true→e.on≠i:=fun e he hb heq=>by have h1:=af e he hb;rw[heq,getD_both aq]at h1;cases h1
    have h2:=qOp_put ad (I j oj ad l T ao) (fun cs b=>ab i oi cs b hi) (fun cs b=>ab j oj cs b ad) hy (H.2 j (ready_mono hj l)).2;refine qOp_mono (fun a' h3=>ih (listed.setIfInBounds j true) a' (R.set hj J) (fun k ok hk ax av ay=>?_) (ready_mono U (Ne.symm l)) h3.1 ?_) h2;·
     refine I k ok hk ax ?_ ay;by_cases an:j=k;·subst an;exact T
     ·rwa[getD_set_ne true an]at av
    ·rw[Array.setIfInBounds_comm _ _ l];exact h3.2
theorem qV{n g:Nat}{Lq:Act→Prop}(J:Region.noSelect ops=true)(hs:uS md ops n=true)(hc:Region.chainB md ops n=true)(hn:n<ops.size):∀(l:List Oper)(k:Nat)(listed:Array Bool)(a:Act),0<k→(∀j,j<l.length→l[j]?=ops[k+j]?)→k+l.length=n→HeadInv md ops n listed→Region.lexHead md ops g l.length k listed=true→wpQuiet P ops C Lq l a→pA P md ops C n (fun I a'=>Region.seqB md ops g n I=true∧Lq a') l.length listed a
 |[],k,listed,a,_,_,hk,_,R,h=>by
  have e:k=n:=by simpa using hk
  subst e;exact⟨by simpa[Region.lexHead]using R,h⟩|o::l,k,listed,a,ab,hl,hk,U,R,h=>by
  have h0:ops[k]?=some o:=by simpa using(hl 0 (by simp)).symm
  simp only[List.length_cons,Region.lexHead,Bool.and_eq_true]at R;have T:k<n:=by simp only[List.length_cons]at hk;omega
  have hr:k∈Region.ready md ops listed:=by simpa using R.1.1
  obtain⟨v,hy,hK⟩:=yieldsIn_of_qOp h0 (show qOp P ops C k (wpQuiet P ops C Lq l) a by unfold qOp;simp only[h0];exact h);exact uo h0 (Region.noSelect_spec J) hs hc hn ab T (fun _ _ hL=>seqB_ready hL.1) l.length listed a U (Region.free_spec h0 R.1.2) hr hy (qV J hs hc hn l (k+1) _ _ (by omega) (fun j hj=>by have:=hl (j+1) (by simp;omega);simpa[Nat.add_assoc,Nat.add_comm 1 j]using this) (by simp only[List.length_cons]at hk;omega) (U.set hr T) R.2 hK)
end
def DS(ops:Array Oper)(n:Nat):Bool:=Region.noSelect ops&&decide (n+1<ops.size)&&uS .any ops (n+1)&&Region.chainB .any ops (n+1)&&(Region.ready .any ops (Array.replicate ops.size false)).contains 0&&Region.free .any ops (Array.replicate ops.size false) 0&&Region.lexHead .any ops (ops.size-(n+1)) n 1 ((Array.replicate ops.size false).setIfInBounds 0 true)
theorem pU{P:Program}{id:Nat}{Q:Exit→Act→World→Prop}{a:Act}{w:World}{I:Oper}{l:List Oper}(n:Nat)(x:Operand)(v0:Value)(ay:a.eval x=v0)(av:I.op=.move x)(hg:I.guard=none)(hm:P.follows .mixedOrders=true)(hB:DS (I::l).toArray n=true)(an:∀c v a w,Q (.panic c) (a.put I.dst v) w→Q (.panic c) a w)(h:∀W,W=w→wpQuiet P (I::l).toArray (fun w'=>∃g:Grown W,w'=g.val) (fun a'=>∀w',Below W.heap.size W w'→wpList P (I::l).toArray Q (l.drop n) a' w') (l.take n) (a.put I.dst v0)):(Code.region id (I::l).toArray true).wp P Q a w:=by
 subst ay;simp only[DS,Bool.and_eq_true,decide_eq_true_eq]at hB;obtain⟨⟨⟨⟨⟨⟨R,hn⟩,hs⟩,hc⟩,ad⟩,ao⟩,ac⟩:=hB;have az:n<l.length:=by simp at hn;exact hn
 have J:(l.take n).length=n:=by simp;omega
 have ab:(l.drop n).length=(I::l).toArray.size-(n+1):=by simp
 have al:(I::l).toArray[0]?=some I:=by simp
 have af:0∈Region.ready .any (I::l).toArray (Array.replicate (I::l).toArray.size false):=by simpa using ad
 have U:HeadInv .any (I::l).toArray (n+1) (Array.replicate (I::l).toArray.size false):=⟨by simp,fun j oj _ hl=>(by rw[getD_replicate_false]at hl;cases hl),fun t _ ht=>getD_in (by simpa using ht) (getD_replicate_false _ _)⟩;have ah:=U.set af (by omega);have H:=qV (md:=.any) (C:=fun w'=>∃g:Grown w,w'=g.val) (g:=(I::l).toArray.size-(n+1)) R hs hc hn (l.take n) 1 _ _ (by omega) (fun j hj=>by
  have aq:j<n:=by rw[J]at hj;exact hj
  simp[aq,Nat.add_comm 1 j]) (by rw[J];omega) ah (by rw[J];exact ac) (h w rfl);refine wp_region_any hm ?_;have K:=km (Q':=Q) (g:=(I::l).toArray.size-(n+1)) (fun listed a' w' hw hL=>by obtain⟨g,rfl⟩:=hw;have:=wpAny_of_seq (md:=.any) (Q':=Q) (l.drop n) (n+1) listed a' g.val (fun j=>by rw[List.getElem?_drop,show n+1+j=(n+j)+1 by omega];simp) (by rw[ab];exact hL.1) (hL.2 _ g.cB);rwa[ab]at this) _ _ _ {w with drawn:=w.drawn+1} ⟨⟨_,(Below.refl _ _).drew⟩,rfl⟩ H;have ax:(I::l).toArray.size=(l.take n).length+((I::l).toArray.size-(n+1))+1:=by rw[J];simp;omega
 have T:=wpAny_take (md:=.any) (Q:=Q) (v:=a.eval x) al R ao ad (fun c a w=>an c _ a w) (.inl ⟨by unfold Region.wanted;rw[hg],fun w=>by simp[execOp,av]⟩) K;rw[←ax]at T;exact T
end
section
open Go.RowKit Go.ChangeShapes Go.WideShapes
theorem Tryz.F7:Tryz.prog.cellsOf 141=4:=by kernel_rfl
theorem wK{H:Type}{enc:TypeId×Value→H}{w:World}{base:Nat}{spare:Nat→Bool}{held:Bool}{fuel:Nat}{j:List Value}{x:DataW H×List MemPlace}(h:DataW.trod enc Tryz.prog w base spare held fuel 141 j=some x):∃n:aF,n.ok∧j[0]?=some (.string n.ct)∧j[1]?=some (.string n.to)∧j[2]?=some (.string n.label)∧j[3]?=some (.int .i64 n.sort):=by obtain⟨T,n,_,_,hl,l,I⟩:=DataW.trod_struct Tryz.underlying141 h;have J:T.length=4:=l;match T,J with|[y0,y1,y2,y3],_=>have R:DataW.trod enc Tryz.prog w base spare held n 9 ((j.drop 0).take (Tryz.prog.cellsOf 9))=some y0:=I 0 _ rfl;have g1:DataW.trod enc Tryz.prog w base spare held n 9 ((j.drop 1).take (Tryz.prog.cellsOf 9))=some y1:=I 1 _ rfl;have g2:DataW.trod enc Tryz.prog w base spare held n 9 ((j.drop 2).take (Tryz.prog.cellsOf 9))=some y2:=I 2 _ rfl;have g3:DataW.trod enc Tryz.prog w base spare held n 2 ((j.drop 3).take (Tryz.prog.cellsOf 2))=some y3:=I 3 _ rfl;rw[Tryz.I9]at g3;rw[Tryz.Ju]at R g1 g2;obtain⟨z0,U,_,k0⟩:=DataW.trod_string Tryz.underlying9 R;obtain⟨z1,e1,_,k1⟩:=DataW.trod_string Tryz.underlying9 g1;obtain⟨z2,e2,_,k2⟩:=DataW.trod_string Tryz.underlying9 g2;obtain⟨z3,e3,_⟩:=DataW.trod_int Tryz.underlying2 g3;exact⟨⟨z0,z1,z2,z3⟩,⟨k0,k1,k2⟩,nC U,nC e1,nC e2,nC e3⟩
theorem A0{H:Type}{enc:TypeId×Value→H}{w:World}{base:Nat}{spare:Nat→Bool}{held:Bool}{fuel:Nat}{a0:Option Addr}{l T:Nat}{x:DataW H×List MemPlace}(h:DataW.trod enc Tryz.prog w base spare held fuel 24 [.slice a0 l T]=some x):∃ns:List aF,ns.length=l∧(∀n∈ns,n.ok)∧ns.length≤maxLen∧(ns≠[]→∃b o,a0=some ⟨b,o,none⟩∧b<w.heap.size∧dC w b o ns):=by
 rcases Go.Deep.open_slice Tryz.underlying24 h with⟨U,_⟩|⟨a,len,cap,m,n,D,Pl,ab,hb,hl,hm,ao,hx,ac⟩;·simp at U;obtain⟨rfl,rfl,rfl⟩:=U;exact⟨[],rfl,by simp,Nat.zero_le _,fun h=>absurd rfl h⟩
 ·simp at ab;obtain⟨rfl,rfl,rfl⟩:=ab;have ax:l≤m:=by rw[ao];split<;>omega
  have each:∀i,i<l→∃nd:aF,nd.ok∧∀b o,a=⟨b,o,none⟩→dR w b (o+i*4) nd:=by
   intro i hi;obtain⟨al,h1,h2⟩:=ac i (by omega);rw[Tryz.F7]at h1;obtain⟨_,ad,I⟩:=World.cells?_some h1;obtain⟨nd,af,e0,e1,e2,e3⟩:=wK h2;refine⟨nd,af,fun b o an=>?_⟩;subst an;have pl:∀j,((⟨b,o,none⟩:Addr).add (i*4)).add j=⟨b,o+i*4+j,none⟩:=fun j=>by rw[Go.Deep.add_add];unfold Addr.add;split<;>simp_all<;>omega
   refine⟨?_,?_,?_,?_⟩;·have:=I 0 (by omega);rw[pl,e0]at this;exact this
   ·have:=I 1 (by omega);rw[pl,e1]at this;exact this
   ·have:=I 2 (by omega);rw[pl,e2]at this;exact this
   ·have:=I 3 (by omega);rw[pl,e3]at this;exact this
  have:Inhabited aF:=⟨⟨ByteArray.empty,ByteArray.empty,ByteArray.empty,0⟩⟩;obtain⟨q,hq⟩:=Go.Deep.choose_lt each;refine⟨(List.range l).map q,by simp,?_,by simp;omega,fun aq=>?_⟩;·intro x hx;obtain⟨i,hi,rfl⟩:=List.mem_map.1 hx;exact(hq i (List.mem_range.1 hi)).1
  ·have J:0<l:=by
    rcases Nat.eq_zero_or_pos l with h|h;·subst h;simp at aq
    ·exact h
   obtain⟨b,o,s⟩:=a;have av:∀i,i<l→((Addr.add ⟨b,o,s⟩ (i*4)).add 0).spot=none:=by intro i hi;obtain⟨al,h1,h2⟩:=ac i (by omega);rw[Tryz.F7]at h1;obtain⟨_,ad,I⟩:=World.cells?_some h1;obtain⟨nd,af,e0,_⟩:=wK h2;have U:=I 0 (by omega);rw[e0]at U;exact World.cell?_spot U
   have R:s=none:=by simpa[Addr.add]using av 0 J
   subst R;have ah:dC w b o ((List.range l).map q):=dC.of w b _ o (fun j hj=>by simp only[List.getElem_map,List.getElem_range];exact(hq j (by simpa using hj)).2 b o rfl);refine⟨b,o,rfl,?_,ah⟩;have:=(hq 0 J).2 b o rfl;exact this.lt
end
theorem FJ(x:aF)(j:Int)(w:World)(I:x.ok)(U:0≤j)(hm:j≤1048576):Calls Tryz.prog 99 #[x.val,.int .i64 j] w fun e w'=>∃r:Int,e=.returned (.int .i64 r)∧r≤1048576∧(0≤r→r≤j∧x.fit)∧Below w.heap.size w w':=by
 unfold aF.ok maxLen at I;have l:=aa (show x.fit=(x.ct.size≤1048576∧x.to.size≤1048576∧x.label.size≤1048576)from rfl);unfold aF.val;by_cases J:j-x.ct.size<0;·go_enter Tryz.func99,Tryz.ntmps99;go_wp2_with fail;go_ret;exact⟨_,rfl,by omega,fun h=>absurd h (by omega),ae _ _⟩
 ·skip;by_cases R:j-x.ct.size-x.to.size<0;·go_enter Tryz.func99,Tryz.ntmps99;go_wp2_with fail;go_ret;exact⟨_,rfl,by omega,fun h=>absurd h (by omega),ae _ _⟩
  ·skip;by_cases T:j-x.ct.size-x.to.size-x.label.size<0;·go_enter Tryz.func99,Tryz.ntmps99;go_wp2_with fail;go_ret;exact⟨_,rfl,by omega,fun h=>absurd h (by omega),ae _ _⟩
   ·skip;go_enter Tryz.func99,Tryz.ntmps99;go_wp2_with fail;go_ret;exact⟨_,rfl,by omega,fun h=>⟨by omega,by rw[l.out];omega⟩,ae _ _⟩
theorem DQ(l:List aF)(I:Int)(ao:Option Addr)(cap:Nat)(w:World)(ok:∀x∈l,x.ok)(hl:l.length≤maxLen)(h0:0≤I)(h1:I≤1048576)(hr:l≠[]→∃b o,ao=some ⟨b,o,none⟩∧b<w.heap.size∧dC w b o l):Calls Tryz.prog 49 #[.slice ao l.length cap,.int .i64 I] w fun e w'=>∃r:Int,e=.returned (.int .i64 r)∧r≤1048576∧(0≤r→r+(l.length:Int)≤I∧∀x∈l,x.fit)∧Below w.heap.size w w':=by
 have HR:=aa hr;have ay:=aa ok;unfold maxLen at hl;clear hr ok;by_cases a2:(l.length:Int)≤I;·
  go_enter Tryz.func49,Tryz.ntmps49;go_wp2_with fail;go_loopw[1,5](fun lf i wr=>∃(k:Nat)(z:Int),k≤l.length∧i=.int .i64 k∧lf=.int .i64 z∧0≤z∧z≤1048576∧z+(l.length:Int)≤I∧(∀j(h:j<l.length),j<k→l[j].fit)∧Below w.heap.size w wr)(fun _ i _=>l.length-(intOf i).toNat);case atStart=>exact⟨0,I-(l.length:Int),Nat.zero_le _,rfl,rfl,by omega,by omega,by omega,fun j _ h=>absurd h (by omega),Below.refl _ _⟩
  case round=>
   obtain⟨k,z,hk,rfl,rfl,aL,aM,aN,ab,T⟩:=hrel;have HA:=aa ab;have R:=aa T;have ad:=T.size;clear ab T;by_cases af:k<l.length;·
    obtain⟨b,o,rfl,az,ac⟩:=HR.out (by intro h;simp[h]at af);have J:=(ac.get k af).carry az R.out;obtain⟨x1,U⟩:∃x1,x1=l[k]:=⟨_,rfl⟩;rw[←U]at J;have HN:=aa U;have ax:=aa (show x1.ok by rw[U];exact ay.out _ (List.getElem_mem af));clear U ac;have a0:b<wr.heap.size:=J.lt;obtain⟨c0,c1,c2,c3⟩:=J;go_wp2_with(go_at_call 99;refine(FJ x1 z _ ax.out aL aM).mono ?_;rintro e w1⟨r,rfl,aR,av,an⟩;have al:=aa av;have ah:=aa an;clear av an);all_goals
     first
      |(go_ret;exact⟨_,rfl,by omega,fun h=>absurd h (by omega),R.out.trans (ah.out.mono ad)⟩)|
       (
        go_roundw;case rel=>
         refine⟨k+1,r,by omega,by go_num,rfl,by omega,aR,by have:=(al.out (by omega)).1;omega,fun j hj a1=>?_,R.out.trans (ah.out.mono ad)⟩;by_cases aq:j=k;·subst aq;rw[←HN.out];exact(al.out (by omega)).2
         ·exact HA.out j hj (by omega)
        case measure=>simp[intOf];omega)
   ·go_wp2_with fail;go_ret;refine⟨_,rfl,by omega,fun _=>⟨aN,fun x hx=>?_⟩,R.out⟩;obtain⟨j,hj,rfl⟩:=List.getElem_of_mem hx;exact HA.out j hj (by omega)
 ·go_enter Tryz.func49,Tryz.ntmps49;go_wp2_with fail;go_ret;exact⟨_,rfl,by omega,fun h=>absurd h (by omega),Below.refl _ _⟩
theorem bq.sep{w w':World}{v:Value}{x:List aF}{l:List Nat}(h:bq w w.heap.size v x)(I:aI w w' l)(hd:∀b∈aj v,b∉l):bq w' w'.heap.size v x:=by have H:=h;obtain⟨R,T,rfl,_⟩:=h;exact H.aD I.size (fun b J j=>I.block b j (hd b ((aW rfl).1 J)))
theorem bq.tk{w w':World}{v:Value}{x:List aF}{l:List Nat}(h:bq w w.heap.size v x)(I:aI w w' l)(hd:∀b∈l,w.heap.size≤b):bq w' w'.heap.size v x:=by have H:=h;obtain⟨R,T,rfl,_⟩:=h;exact H.aD I.size (fun b U j=>I.block b j (fun J=>absurd (hd b J) (by omega)))
theorem bq.shape{w:World}{B:Nat}{v:Value}{x:List aF}(h:bq w B v x):∃p c,v=.slice p x.length c:=by obtain⟨j,l,e,_⟩:=h;exact⟨j,l,e⟩
def gY(sv:Value)(m:aF)(c:Int):Value:=.agg #[sv,.string m.ct,.string m.to,.string m.label,.int .i64 m.sort,.int .i64 c]
theorem DV(l:List aF)(ao:Option Addr)(cap:Nat)(w:World)(hl:l.length≤1048576)(hr:l≠[]→∃b o,ao=some ⟨b,o,none⟩∧b<w.heap.size∧dC w b o l):Calls Tryz.prog 55 #[.slice ao l.length cap] w fun e w'=>∃v',e=.returned v'∧(∃g,v'=.slice (some ⟨g,0,none⟩) l.length l.length)∧bq w' w'.heap.size v' l∧qB w.heap.size w' v'∧Below w.heap.size w w':=by
 have HR:=aa hr;obtain⟨i0,hi,aM,aN,aR⟩:=info_parts Tryz.fF;obtain⟨M,hM⟩:∃M,M=madeCells (Value.agg #[.string ByteArray.empty,.string ByteArray.empty,.string ByteArray.empty,.int .i64 0]).cells (l.length*4):=⟨_,rfl⟩;have ay:M.size=l.length*4:=by rw[hM,size_madeCells]
 have bf:∀W:World,(Instr.makeSlice 29 (.int .i64 (l.length:Int)) (.int .i64 (l.length:Int))).run Tryz.prog W=.ok (.slice (some ⟨W.heap.size,0,none⟩) l.length l.length) (W.alloc (.cells M 158)):=fun W=>by have h:=run_make (P:=Tryz.prog) W 29 158 i0 _ Tryz.underlying29 hi aM .i64 .i64 (l.length:Int) (l.length:Int) (by omega) (by omega) (by rw[aR];omega) (by omega);rw[aN]at h;simp only[Int.toNat_natCast]at h;rw[←hM]at h;exact h
 have a5:=aa ay;clear hr hM ay hi aM aN aR;go_enter Tryz.func55,Tryz.ntmps55;go_wp2_with fail;go_loopw[4](fun i wr=>∃k:Nat,k≤l.length∧i=.int .i64 k∧(∀j(h:j<l.length),j<k→dR wr w.heap.size (j*4) l[j])∧(∀j,j<l.length*4→∃y,wr.cell? ⟨w.heap.size,j,none⟩=some y)∧(∀j,wr.frozen? ⟨w.heap.size,j,none⟩=false)∧w.heap.size<wr.heap.size∧Below w.heap.size w wr)(fun i _=>l.length-(intOf i).toNat);case atStart=>
  refine⟨0,Nat.zero_le _,rfl,fun j _ h=>absurd h (by omega),fun j hj=>?_,fun j=>?_,by simp,ae _ _⟩;·rw[←a5.out]at hj;exact⟨M[j],by simp[hj]⟩
  ·simp
 case round=>
  obtain⟨k,hk,rfl,af,I,al,ad,ah⟩:=hrel;have HA:=aa af;have HC:=aa I;have ax:=aa al;have T:=aa ah;clear af ah;by_cases aL:k<l.length;·
   obtain⟨b,o,rfl,a6,aq⟩:=HR.out (by intro h;simp[h]at aL);have R:=(aq.get k aL).carry a6 T.out;obtain⟨x1,av⟩:∃x1,x1=l[k]:=⟨_,rfl⟩;rw[←av]at R;have HN:=aa av;clear av aq;have a9:b<wr.heap.size:=R.lt;obtain⟨c0,c1,c2,c3⟩:=R;obtain⟨y0,g0⟩:=I (k*4) (by omega);obtain⟨y1,g1⟩:=I (k*4+1) (by omega);obtain⟨y2,g2⟩:=I (k*4+2) (by omega);obtain⟨y3,g3⟩:=I (k*4+3) (by omega);have HG:=aa (And.intro g0 (And.intro g1 (And.intro g2 g3)));clear I al g0 g1 g2 g3;go_wp2_with(go_at_call 110;refine(Ho x1 _).mono ?_;rintro e w1⟨rfl,ac⟩;unfold aF.val;have bk:=ac.size;have ab:Hid (∀j,w1.frozen? ⟨w.heap.size,j,none⟩=false):=aa (fun j=>(ac.frozen (p:=⟨w.heap.size,j,none⟩) ad).trans (ax.out j));have U:Hid (∀j,w1.cell? ⟨w.heap.size,j,none⟩=wr.cell? ⟨w.heap.size,j,none⟩):=aa (fun j=>ac.cell (p:=⟨w.heap.size,j,none⟩) ad);have g0:=(U.out (k*4)).trans HG.out.1;have g1:=(U.out (k*4+1)).trans HG.out.2.1;have g2:=(U.out (k*4+2)).trans HG.out.2.2.1;have g3:=(U.out (k*4+3)).trans HG.out.2.2.2;have f0:=ab.out (k*4);have f1:=ab.out (k*4+1);have f2:=ab.out (k*4+2);have f3:=ab.out (k*4+3);have a4:=aa ac;clear ac);go_roundw;case rel=>
    have e:=aa (show(((w1.setCell ⟨w.heap.size,k*4,none⟩ (.string x1.ct)).setCell ⟨w.heap.size,k*4+1,none⟩ (.string x1.to)).setCell ⟨w.heap.size,k*4+2,none⟩ (.string x1.label)).setCell ⟨w.heap.size,k*4+3,none⟩ (.int .i64 x1.sort)=iL w1 w.heap.size (k*4) x1 from rfl);rw[e.out];have a7:∀i,i<4→∃y,w1.cell? ⟨w.heap.size,k*4+i,none⟩=some y:=fun i hi=>by rw[U.out];exact HC.out _ (by omega)
    have an:=tI w1 w.heap.size (k*4) x1 a7;have J:∀j,(j<k*4∨k*4+4≤j)→(iL w1 w.heap.size (k*4) x1).cell? ⟨w.heap.size,j,none⟩=wr.cell? ⟨w.heap.size,j,none⟩:=fun j hj=>by rw[uJ _ _ _ _ _ (fun i hi h=>by injection h with h1 h2;omega),U.out]
    refine⟨k+1,by omega,by go_num,fun j hj bb=>?_,fun j hj=>?_,fun j=>by rw[sQ];exact ab.out j,by rw[wP];omega,nI (T.out.trans (a4.out.mono T.out.size)) (Nat.le_refl _) _ _⟩;·
     by_cases az:j=k;·subst az;rw[←HN.out];exact an
     ·obtain⟨a0,a1,a2,a3⟩:=HA.out j hj (by omega);exact⟨(J _ (by omega)).trans a0,(J _ (by omega)).trans a1,(J _ (by omega)).trans a2,(J _ (by omega)).trans a3⟩
    ·by_cases a8:j<k*4∨k*4+4≤j;·rw[J j a8];exact HC.out j hj
     ·obtain⟨a0,a1,a2,a3⟩:=an;rcases(show j=k*4∨j=k*4+1∨j=k*4+2∨j=k*4+3 by omega)with h|h|h|h;·subst h;exact⟨_,a0⟩
      ·subst h;exact⟨_,a1⟩
      ·subst h;exact⟨_,a2⟩
      ·subst h;exact⟨_,a3⟩
   case measure=>simp[intOf];omega
  ·go_wp2_with fail;go_ret;refine⟨_,rfl,⟨_,rfl⟩,⟨_,_,rfl,Nat.le_refl _,by omega,fun bi=>⟨w.heap.size,0,rfl,ad,?_⟩⟩,⟨fun b hb=>by simp[Value.ownBlock]at hb;subst hb;exact⟨Nat.le_refl _,ad,ax.out⟩⟩,T.out⟩;exact dC.of _ _ l 0 (fun j hj=>by rw[Nat.zero_add];exact HA.out j hj (by omega))
theorem C5(l:List aF)(I:Option Addr)(cap:Nat)(w:World)(hl:l.length≤1048576)(hr:l≠[]→∃b o,I=some ⟨b,o,none⟩∧b<w.heap.size∧dC w b o l):Calls Tryz.prog 55 #[.slice I l.length cap] w fun e w'=>∃j,e=.returned j∧(∃g,j=.slice (some ⟨g,0,none⟩) l.length l.length)∧bq w' w'.heap.size j l∧eu w.heap.size w' j∧Below w.heap.size w w':=(DV l I cap w hl hr).mono fun e w'⟨j,R,hg,J,T,U⟩=>by obtain⟨p,c,rfl⟩:=J.shape;exact⟨_,R,hg,J,lg T,U⟩
def aF.cells(x:aF):List Value:=[.string x.ct,.string x.to,.string x.label,.int .i64 x.sort]
theorem aF.bg(x:aF):x.cells.length=4:=rfl
theorem aF.cells_one(x:aF):∀u∈x.cells,u.oneCell'=true:=by intro u hu;simp[aF.cells]at hu;rcases hu with rfl|rfl|rfl|rfl<;>rfl
def aV(w:World)(base:Nat)(v:Value)(l:List aF):Prop:=w.ownsRow base 158 4 v l.length (l.flatMap aF.cells)
theorem aV.sl{w:World}{base:Nat}{v:Value}{l:List aF}(h:aV w base v l)(hl:l.length≤4294967296):bq w w.heap.size v l:=by
 have H:=h;obtain⟨_,hh⟩:=h;rcases hh with⟨rfl,T⟩|⟨J,cap,R,rfl,hg,I,U,_⟩;·have:l=[]:=List.length_eq_zero_iff.1 T;subst this;exact⟨none,0,rfl,Nat.le_refl _,by simp,fun h=>absurd rfl h⟩
 ·refine⟨_,_,rfl,U,hl,fun _=>⟨J,0,rfl,(Array.getElem?_eq_some_iff.1 I).1,dC.of w J l 0 (fun j hj=>?_)⟩⟩;rw[Nat.zero_add];have e:=fun i(hi:i<4)(x:Value)(hx:(l[j].cells)[i]?=some x)=>cX H rfl (j*4+i) x ((dV aF.cells 4 aF.bg l j hj i hi).trans hx);exact⟨e 0 (by omega) _ rfl,e 1 (by omega) _ rfl,e 2 (by omega) _ rfl,e 3 (by omega) _ rfl⟩
theorem aV.aD{w w':World}{base:Nat}{v:Value}{x:List aF}{l:List Nat}(h:aV w base v x)(j:aI w w' l)(hd:∀b∈aj v,b∉l):aV w' base v x:=aQ h j hd
theorem aV.below{w w':World}{base:Nat}{v:Value}{x:List aF}(h:aV w base v x)(j:Below w.heap.size w w'):aV w' base v x:=aJ h j
theorem aV.fresh{w:World}{base:Nat}{v:Value}{x:List aF}(h:aV w base v x):eu base w v:=au h
theorem aV.nil(w:World)(base:Nat):aV w base (.slice none 0 0) []:=dQ w base _ _
theorem aV.snoc{w:World}{base:Nat}{v:Value}{l:List aF}{x:aF}(h:w.ownsRow base 158 4 v (l.length+1) (l.flatMap aF.cells++x.cells)):aV w base v (l++[x]):=by unfold aV;rw[List.length_append,List.length_singleton,List.flatMap_append];simpa using h
end Go.Proofs.YtdiiiijkhpdcbaaGreatDoor
