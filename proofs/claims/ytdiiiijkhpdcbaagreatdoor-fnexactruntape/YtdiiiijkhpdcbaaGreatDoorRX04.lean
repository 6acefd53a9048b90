import Derived.Test.YtdiiiijkhpdcbaaGreatDoorRX00
import Derived.RangeFuncNested
import Derived.OrdersIn
namespace Go.Proofs.YtdiiiijkhpdcbaaGreatDoor
open Go.RowKit
set_option linter.unusedSimpArgs false
set_option linter.unusedVariables false
set_option maxHeartbeats 2000000
set_option maxRecDepth 100000
structure aC where
 src:Int
 label:ByteArray
 sort:Int
 dst:Int
def aC.val(x:aC):Value:=.agg #[.int .i64 x.src,.string x.label,.int .i64 x.sort,.int .i64 x.dst]
def aC.ok(x:aC):Prop:=x.label.size<=maxLen
def aC.fit(x:aC):Prop:=x.label.size<=1048576
def fR(w:World)(b o:Nat)(x:aC):Prop:=w.cell? ⟨b,o,none⟩=some (.int .i64 x.src)/\w.cell? ⟨b,o+1,none⟩=some (.string x.label)/\w.cell? ⟨b,o+2,none⟩=some (.int .i64 x.sort)/\w.cell? ⟨b,o+3,none⟩=some (.int .i64 x.dst)
def fE(w:World)(b:Nat):Nat->List aC->Prop|_,[]=>True|o,x::l=>fR w b o x/\fE w b (o+4) l
theorem fR.carry{w w':World}{b o:Nat}{x:aC}(h:fR w b o x){B:Nat}(j:b<B)(l:Below B w w'):fR w' b o x:=by obtain⟨I,J,R,T⟩:=h;exact⟨(l.cell (p:=⟨b,_,none⟩) j).trans I,(l.cell (p:=⟨b,_,none⟩) j).trans J,(l.cell (p:=⟨b,_,none⟩) j).trans R,(l.cell (p:=⟨b,_,none⟩) j).trans T⟩
theorem fR.lt{w:World}{b o:Nat}{x:aC}(h:fR w b o x):b<w.heap.size:=World.block_lt_of_cell? w _ h.1
theorem fE.carry{w w':World}{b B:Nat}(j:b<B)(I:Below B w w'):∀{l:List aC}{o:Nat},fE w b o l->fE w' b o l|[],_,_=>trivial|_::_,_,h=>⟨h.1.carry j I,fE.carry j I h.2⟩
theorem fE.get{w:World}{b:Nat}:∀{l:List aC}{o:Nat},fE w b o l->∀i(h:i<l.length),fR w b (o+i*4) l[i]|_::_,_,h,0,_=>by simpa using h.1|_::l,o,h,i+1,hi=>by have:=h.2.get i (by simpa using hi);rw[show o+4+i*4=o+(i+1)*4 from by omega]at this;simpa using this
theorem fE.of(w:World)(g:Nat):∀(l:List aC)(o:Nat),(∀j(h:j<l.length),fR w g (o+j*4) l[j])->fE w g o l|[],_,_=>trivial|x::l,o,h=>⟨by have:=h 0 (by simp);simpa only[Nat.zero_mul,Nat.add_zero,List.getElem_cons_zero]using this,fE.of w g l (o+4) (fun j I=>by have:=h (j+1) (by simpa using I);rw[show o+(j+1)*4=o+4+j*4 from by omega]at this;simpa only[List.getElem_cons_succ]using this)⟩
def dJ(w:World)(B:Nat)(v:Value)(l:List aC):Prop:=∃j cap,v=.slice j l.length cap/\l.length<=cap/\l.length<=4294967296/\(l≠[]->∃b o,j=some ⟨b,o,none⟩/\b<B/\fE w b o l)
theorem dJ.carry{w w':World}{B:Nat}{v:Value}{l:List aC}(h:dJ w B v l)(hb:Below B w w'):dJ w' B v l:=by obtain⟨J,cap,R,T,U,h4⟩:=h;refine⟨J,cap,R,T,U,fun I=>?_⟩;obtain⟨b,o,e,j,hr⟩:=h4 I;exact⟨b,o,e,j,hr.carry j hb⟩
theorem dJ.up{w:World}{B I:Nat}{v:Value}{l:List aC}(h:dJ w B v l)(hB:B<=I):dJ w I v l:=by obtain⟨J,cap,R,T,U,h4⟩:=h;refine⟨J,cap,R,T,U,fun j=>?_⟩;obtain⟨b,o,e,ab,hr⟩:=h4 j;exact⟨b,o,e,by omega,hr⟩
theorem fR.block{w w':World}{b o:Nat}{x:aC}(h:fR w b o x)(j:w'.heap[b]?=w.heap[b]?):fR w' b o x:=by obtain⟨l,I,J,R⟩:=h;exact⟨(World.cell?_of_block (a:=⟨b,_,none⟩) j).trans l,(World.cell?_of_block (a:=⟨b,_,none⟩) j).trans I,(World.cell?_of_block (a:=⟨b,_,none⟩) j).trans J,(World.cell?_of_block (a:=⟨b,_,none⟩) j).trans R⟩
theorem fE.block{w w':World}{b:Nat}(j:w'.heap[b]?=w.heap[b]?):∀{l:List aC}{o:Nat},fE w b o l->fE w' b o l|[],_,_=>trivial|_::_,_,h=>⟨h.1.block j,fE.block j h.2⟩
theorem dJ.aA{w w':World}{B J:Nat}{v:Value}{l:List aC}(h:dJ w B v l)(hB:B<=J)(hk:∀b,v.ownBlock=some b->b<B->w'.heap[b]?=w.heap[b]?):dJ w' J v l:=by obtain⟨R,cap,rfl,T,U,h4⟩:=h;refine⟨R,cap,rfl,T,U,fun I=>?_⟩;obtain⟨b,o,rfl,j,hr⟩:=h4 I;exact⟨b,o,rfl,by omega,hr.block (hk b rfl j)⟩
theorem dJ.iF{w:World}{B:Nat}{v:Value}{l:List aC}(h:dJ w B v l):l.length<=4294967296:=by obtain⟨j,cap,_,I,J,_⟩:=h;omega
theorem Tryz.o9:(Tryz.prog.info? 213).map (fun i=>(i.zero,i.size,i.bytes))=some (some (.agg #[.int .i64 0,.string .empty,.int .i64 0,.int .i64 0]),4,40):=by kernel_rfl
def gX(k:Nat):aF:=⟨fL (k+0),fL (k+1),fL (k+2),((k+3:Nat):Int)⟩
def ew(k n:Nat):List aF:=(List.range n).map fun i=>gX (k+i*4)
theorem du(k n:Nat):(ew k n).length=n:=by simp[ew]
theorem mH(k n i:Nat)(h:i<(ew k n).length):(ew k n)[i]=gX (k+i*4):=by simp[ew]
theorem BU(k0:Nat)(ns:List aF)(v:Value)(w:World)(B:Nat)(h1:1<=k0)(hk:k0+ns.length*4<=5900000)(hv:bt w w.heap.size v ns)(a4:nQ B w v):Calls Tryz.prog 64 #[v,.int .i64 k0] w fun e w'=>e=.returned (.int .i64 ((k0+ns.length*4:Nat):Int))/\bt w' w'.heap.size v (ew k0 ns.length)/\w.grownBy w' v.ownBlock:=by
 obtain⟨ao,cap,rfl,hc,hm,hr⟩:=hv;have HR:=aa hr;have HO:=aa a4;obtain⟨n,hn⟩:∃n,ns.length=n:=⟨_,rfl⟩;rw[hn]at hc hk hm|-;have HN:=aa hn;clear hr a4 hn;by_cases bx:n=0;·
  subst bx;go_in;go_wp2;go_loopw[1,5](fun kv i wr=>i=.int .i64 0/\kv=.int .i64 (k0:Int)/\wr=w)(fun _ _ _=>0);case atStart=>exact⟨rfl,rfl,rfl⟩
  case round=>obtain⟨rfl,rfl,rfl⟩:=hrel;go_wp2;go_ret;exact⟨bc rfl,⟨_,_,rfl,by simp[ew],by simp[ew],fun h=>absurd rfl h⟩,gC _ _⟩
 ·have bN:ns≠[]:=fun h=>bx (by rw[<-HN.out,h];rfl);obtain⟨b,o,rfl,bv,a5⟩:=HR.out bN;obtain⟨hB,-,bn⟩:=HO.out.free b rfl;have bz:Hid (∀i,i<n->∃R,dU w b (o+i*4) R):=aa (fun i hi=>⟨_,a5.get i (by rw[HN.out];exact hi)⟩);have bB:=aa bn;clear a5 bn;go_in;go_wp2;go_loopw[1,5](fun kv i wr=>∃k:Nat,k<=n/\i=.int .i64 k/\kv=.int .i64 ((k0+k*4:Nat):Int)/\(∀j,j<k->dU wr b (o+j*4) (gX (k0+j*4)))/\(∀j,j<n->∃R,dU wr b (o+j*4) R)/\(∀j,wr.frozen? ⟨b,j,none⟩=false)/\w.grownBy wr (some b))(fun _ i _=>n-(intOf i).toNat);case atStart=>exact⟨0,Nat.zero_le _,rfl,rfl,fun j h=>absurd h (by omega),bz.out,bB.out,gC _ _⟩
  case round=>
   obtain⟨k,hk,rfl,rfl,ab,az,af,aL⟩:=hrel;have HD:=aa ab;have HE:=aa az;have HF:=aa af;have HG:=aa aL;have bm:b<wr.heap.size:=Nat.lt_of_lt_of_le bv aL.size;by_cases bM:k<n;·
    obtain⟨R,g0,g1,g2,g3⟩:=az k bM;have cp:=af (o+k*4);obtain⟨kk,a6⟩:∃kk,k0+k*4=kk:=⟨_,rfl⟩;rw[a6];have ca:kk<5900001:=by omega
    have b7:1<=kk:=by omega
    have bb:=aa a6;have U:Hid (∀(W:World)(x:Value)(i j:Nat),i≠j->(W.setCell ⟨b,o+k*4+i,none⟩ x).cell? ⟨b,o+k*4+j,none⟩=W.cell? ⟨b,o+k*4+j,none⟩):=aa (fun W x i j bL=>World.cell?_setCell_other _ _ _ _ (fun h=>bL (by injection h with h1 h2;omega)));have I:=aa (And.intro g0 (And.intro g1 (And.intro g2 g3)));clear ab az af aL a6 g1 g2 g3;go_wp2_with(first|(go_at_call 71;refine(cJ (kk+2) _ _ (by omega) (by omega) (by omega)).mono ?_;rintro e w3⟨rfl,av⟩;have b5:b<w3.heap.size:=(by have:=av.size;(try simp at this);omega);have bs:=(fun j=>av.cell (p:=⟨b,j,none⟩) (by simpa using aN));have ah:Hid (∀j,w3.frozen? ⟨b,j,none⟩=false):=aa (fun j=>(av.frozen (p:=⟨b,j,none⟩) (by simpa using aN)).trans ((World.frozen?_setCell _ _ _ _).trans (ac.out j)));have al:=aa bs;have bk:w3.cell? ⟨b,o+k*4+2,none⟩=some (.string R.label):=((al.out _).trans ((U.out _ _ 1 2 (by decide)).trans ((T.out _).trans ((U.out _ _ 0 2 (by decide)).trans ((l.out _).trans I.out.2.2.1)))));have bl:w3.cell? ⟨b,o+k*4+3,none⟩=some (.int .i64 R.sort):=((al.out _).trans ((U.out _ _ 1 3 (by decide)).trans ((T.out _).trans ((U.out _ _ 0 3 (by decide)).trans ((l.out _).trans I.out.2.2.2)))));have cm:=ah.out (o+k*4+2);have cn:=ah.out (o+k*4+3);have a9:Hid (w.grownBy w3 (some b)):=aa (e8 (dQ a8.out _ _) av);clear av bs)|(go_at_call 71;refine(cJ (kk+1) _ _ (by omega) (by omega) (by omega)).mono ?_;rintro e w2⟨rfl,aq⟩;have aN:b<w2.heap.size:=(by have:=aq.size;(try simp at this);omega);have br:=(fun j=>aq.cell (p:=⟨b,j,none⟩) (by simpa using aM));have ac:Hid (∀j,w2.frozen? ⟨b,j,none⟩=false):=aa (fun j=>(aq.frozen (p:=⟨b,j,none⟩) (by simpa using aM)).trans ((World.frozen?_setCell _ _ _ _).trans (J.out j)));have T:=aa br;have bi:w2.cell? ⟨b,o+k*4+1,none⟩=some (.string R.to):=((T.out _).trans ((U.out _ _ 0 1 (by decide)).trans ((l.out _).trans I.out.2.1)));have b3:w2.cell? ⟨b,o+k*4+2,none⟩=some (.string R.label):=((T.out _).trans ((U.out _ _ 0 2 (by decide)).trans ((l.out _).trans I.out.2.2.1)));have b4:w2.cell? ⟨b,o+k*4+3,none⟩=some (.int .i64 R.sort):=((T.out _).trans ((U.out _ _ 0 3 (by decide)).trans ((l.out _).trans I.out.2.2.2)));have cg:=ac.out (o+k*4+1);have ch:=ac.out (o+k*4+2);have cl:=ac.out (o+k*4+3);have a8:Hid (w.grownBy w2 (some b)):=aa (e8 (dQ a7.out _ _) aq);clear aq br)|(go_at_call 71;refine(cJ (kk+0) _ _ (by omega) (by omega) (by omega)).mono ?_;rintro e w1⟨rfl,an⟩;have aM:b<w1.heap.size:=(by have:=an.size;(try simp at this);omega);have bp:=(fun j=>an.cell (p:=⟨b,j,none⟩) (by simpa using bm));have J:Hid (∀j,w1.frozen? ⟨b,j,none⟩=false):=aa (fun j=>(an.frozen (p:=⟨b,j,none⟩) (by simpa using bm)).trans (HF.out j));have l:=aa bp;have bf:w1.cell? ⟨b,o+k*4,none⟩=some (.string R.cD):=((l.out _).trans I.out.1);have b0:w1.cell? ⟨b,o+k*4+1,none⟩=some (.string R.to):=((l.out _).trans I.out.2.1);have b1:w1.cell? ⟨b,o+k*4+2,none⟩=some (.string R.label):=((l.out _).trans I.out.2.2.1);have b2:w1.cell? ⟨b,o+k*4+3,none⟩=some (.int .i64 R.sort):=((l.out _).trans I.out.2.2.2);have cb:=J.out (o+k*4);have cc:=J.out (o+k*4+1);have cd:=J.out (o+k*4+2);have cf:=J.out (o+k*4+3);have a7:Hid (w.grownBy w1 (some b)):=aa (e8 HG.out an);clear an bp));go_roundw;case rel=>
     have hs:∀(W:World)(x:Value)(p q:Nat),p≠q->(W.setCell ⟨b,p,none⟩ x).cell? ⟨b,q,none⟩=W.cell? ⟨b,q,none⟩:=fun W x p q bR=>World.cell?_setCell_other _ _ _ _ (fun h=>bR (by injection h));have ad:∀x,(x<o+k*4\/o+k*4+4<=x)->(((w3.setCell ⟨b,o+k*4+2,none⟩ (.string (fL (kk+2)))).setCell ⟨b,o+k*4+3,none⟩ (.int .i64 ((kk:Int)+1+1+1)))).cell? ⟨b,x,none⟩=wr.cell? ⟨b,x,none⟩:=fun x hx=>by rw[hs _ _ _ _ (by omega),hs _ _ _ _ (by omega),al.out,hs _ _ _ _ (by omega),T.out,hs _ _ _ _ (by omega),l.out]
     have aR:dU (((w3.setCell ⟨b,o+k*4+2,none⟩ (.string (fL (kk+2)))).setCell ⟨b,o+k*4+3,none⟩ (.int .i64 ((kk:Int)+1+1+1)))) b (o+k*4) (gX kk):=by
      refine⟨?_,?_,?_,?_⟩;·rw[hs _ _ _ _ (by omega),hs _ _ _ _ (by omega),al.out,hs _ _ _ _ (by omega),T.out];refine(World.cell?_setCell_same _ _ _ (u:=.string R.cD) (by exact bf)).trans (by simp[gX];try omega)
      ·rw[hs _ _ _ _ (by omega),hs _ _ _ _ (by omega),al.out];refine(World.cell?_setCell_same _ _ _ (u:=.string R.to) (by exact bi)).trans (by simp[gX];try omega)
      ·rw[hs _ _ _ _ (by omega)];refine(World.cell?_setCell_same _ _ _ (u:=.string R.label) (by exact bk)).trans (by simp[gX];try omega)
      ·refine(World.cell?_setCell_same _ _ _ (u:=.int .i64 R.sort) (by rw[hs _ _ _ _ (by omega)];exact bl)).trans (by simp[gX];try omega)
     have ay:∀j x,j≠k->dU wr b (o+j*4) x->dU (((w3.setCell ⟨b,o+k*4+2,none⟩ (.string (fL (kk+2)))).setCell ⟨b,o+k*4+3,none⟩ (.int .i64 ((kk:Int)+1+1+1)))) b (o+j*4) x:=fun j x hj hx=>by obtain⟨a0,a1,a2,a3⟩:=hx;exact⟨(ad _ (by omega)).trans a0,(ad _ (by omega)).trans a1,(ad _ (by omega)).trans a2,(ad _ (by omega)).trans a3⟩
     refine⟨k+1,by omega,by go_num,by have:=bb.out;congr 1;omega,fun j hj=>?_,fun j hj=>?_,fun j=>?_,(dQ (dQ a9.out _ _) _ _)⟩;·
      by_cases ax:j=k;·subst ax;rw[bb.out];exact aR
      ·exact ay j _ ax (HD.out j (by omega))
     ·by_cases ax:j=k;·subst ax;exact⟨_,aR⟩
      ·obtain⟨x,hx⟩:=HE.out j hj;exact⟨x,ay j x ax hx⟩
     ·rw[World.frozen?_setCell,World.frozen?_setCell];exact ah.out j
    case measure=>simp[intOf];omega
   ·clear ab az af aL;go_wp2;go_ret;refine⟨bc (by omega),⟨_,_,by rw[du],by rw[du];exact hc,by rw[du];exact hm,fun _=>⟨b,o,rfl,Nat.lt_of_lt_of_le bv HG.out.size,dE.of _ _ _ _ (fun j hj=>?_)⟩⟩,HG.out⟩;rw[mH];rw[du]at hj;exact HD.out j (by omega)
theorem BF(k0 n:Nat)(v:Value)(w:World)(h1:1<=k0)(hk:k0+n*4<=5900000)(hv:bt w w.heap.size v (ew k0 n)):Calls Tryz.prog 123 #[v,.int .i64 k0] w fun e w'=>e=.returned (.int .i64 ((k0+n*4:Nat):Int))/\ZW w w':=by
 obtain⟨ao,cap,rfl,hc,hm,hr⟩:=hv;rw[du]at hc|-;have HR:=aa hr;clear hr;go_in;go_wp2;go_loopw[1,5](fun kv i wr=>∃k:Nat,k<=n/\i=.int .i64 k/\kv=.int .i64 ((k0+k*4:Nat):Int)/\ZW w wr)(fun _ i _=>n-(intOf i).toNat);case atStart=>exact⟨0,Nat.zero_le _,rfl,rfl,Below.refl _ _⟩
 case round=>
  obtain⟨k,a7,rfl,rfl,I⟩:=hrel;have U:=aa I;have a6:=I.size;by_cases a3:k<n;·
   have ab:k<(ew k0 n).length:=by rw[du];exact a3
   obtain⟨b,o,rfl,a2,av⟩:=HR.out (by intro h;rw[h]at ab;simp at ab);have J:=(av.get k ab).carry a2 I;rw[mH]at J;obtain⟨kk,ax⟩:∃kk,k0+k*4=kk:=⟨_,rfl⟩;rw[ax]at J|-;have a5:kk<5900001:=by omega
   have a4:1<=kk:=by omega
   have a1:=aa ax;obtain⟨c0,c1,c2,c3⟩:=J;simp only[gX]at c0 c1 c2 c3;clear I av ax;go_wp2;refine bg (by kernel_rfl) (by kernel_rfl) (fun W l=>?_);have ac:=bo W;have f0:=au (w:=W) (b:=b) (by rw[l];exact c0);have f1:=au (w:=W) (b:=b) (by rw[l];exact c1);have f2:=au (w:=W) (b:=b) (by rw[l];exact c2);have f3:=au (w:=W) (b:=b) (by rw[l];exact c3);have j:=aa l;clear l;repeat(go_big_quiet_step((go_at_call 71;exact bj (cJ (kk+0) _ _ (by omega) (by omega) (by omega)))))
   refine wpQuiet_nil ?_;intro w1 R;have aL:=f0 ⟨w1,R⟩;have af:=f1 ⟨w1,R⟩;have ah:=f2 ⟨w1,R⟩;have al:=f3 ⟨w1,R⟩;dsimp only at aL af ah al;have ay:Hid (ZW w w1):=aa (U.out.trans ((by rw[j.out]at R;exact R:ZW wr w1).mono U.out.size));clear j ac R f0 f1 f2 f3;go_wp2;refine bg (by kernel_rfl) (by kernel_rfl) (fun W l=>?_);have ac:=bo W;have f1:=au (w:=W) (b:=b) (by rw[l];exact af);have f2:=au (w:=W) (b:=b) (by rw[l];exact ah);have f3:=au (w:=W) (b:=b) (by rw[l];exact al);have j:=aa l;clear l;repeat(go_big_quiet_step((go_at_call 71;exact bj (cJ (kk+1) _ _ (by omega) (by omega) (by omega)))))
   refine wpQuiet_nil ?_;intro w2 T;have aM:=f1 ⟨w2,T⟩;have an:=f2 ⟨w2,T⟩;have aq:=f3 ⟨w2,T⟩;dsimp only at aM an aq;have az:Hid (ZW w w2):=aa (ay.out.trans ((by rw[j.out]at T;exact T:ZW w1 w2).mono ay.out.size));clear j ac T f1 f2 f3;go_wp2;refine bg (by kernel_rfl) (by kernel_rfl) (fun W l=>?_);have ac:=bo W;have f2:=au (w:=W) (b:=b) (by rw[l];exact an);have f3:=au (w:=W) (b:=b) (by rw[l];exact aq);have j:=aa l;clear l;repeat(go_big_quiet_step((go_at_call 71;exact bj (cJ (kk+2) _ _ (by omega) (by omega) (by omega)))))
   refine wpQuiet_nil ?_;intro w3 ad;have aN:=f2 ⟨w3,ad⟩;have aR:=f3 ⟨w3,ad⟩;dsimp only at aN aR;have a0:Hid (ZW w w3):=aa (az.out.trans ((by rw[j.out]at ad;exact ad:ZW w2 w3).mono az.out.size));clear j ac ad f2 f3;go_wp2;all_goals
    go_roundw;case rel=>exact⟨k+1,by omega,by go_num,by have:=a1.out;congr 1;omega,a0.out⟩
    case measure=>simp[intOf];omega
  ·clear I;go_wp2;go_ret;exact⟨bc (by omega),U.out⟩
def CK(P:Program)(gf:Nat)(lb:Array Value)(N:Nat)(Y:Nat->Array Value->World->World->Prop)(K:World->Prop):Prop:=∀(l:Nat)(J:Nat->List Nat->World->Prop)(X:List Nat)(W:World),(∀k X j T,J k X j->ZW j T->J k X T)->(∀k X j,J k X j->K j/\∀b∈X,b<j.heap.size)->(∀k args X R j,k<N->J k X R->ZW R j->Y k args R j->YieldAt Fence.wide 0 P l args j fun e I=>e=.returned (.bool true)/\∃U,J (k+1) U I/\aH j I X/\∀b∈U,b∈X\/j.heap.size<=b)->J 0 X W->CallsIn Fence.wide 0 P gf (#[.func (.yield l) #[] #[]]++lb) W fun e I=>(∃v,e=.returned v)/\∃X,J N X I
theorem tu{w w':World}{l l':List Nat}(h:aH w w' l)(R:∀b∈l,b∈l'):aH w w' l':=⟨h.os,h.tape,h.output,h.size,fun b j J=>h.block b j (fun I=>J (R b I))⟩
theorem jh(w:World)(l:Nat)(o:Obj):aH w (w.putObj l o) [l]:=⟨rfl,rfl,rfl,by simp,fun b _ j=>World.putObj_heap_other (by intro e;exact j (by simp[e]))⟩
def Jc(I:Nat->List Nat->World->Prop)(k B:Nat)(X:List Nat)(W:World):Exit->Act->World->Prop|.normal,_,j=>aH W j X/\∃l,I (k+1) l j/\∀b∈l,b∈X\/B<=b|_,_,_=>False
theorem Fq{P:Program}{g:Operand}{ps:Array Tmp}{assign body:Code}{Q:Exit->Act->World->Prop}{a:Act}{w:World}{gf N:Nat}{lb:Array Value}{Y:Nat->Array Value->World->World->Prop}{K:World->Prop}(hg:a.eval g=.func (.func gf) #[] lb)(eg:∀args w,(callFunc gf args).run P w=.ok (.enter gf args) w)(a7:CK P gf lb N Y K)(bf:∀k args j W,Y k args j W->args.size=ps.size)(I:Nat->List Nat->World->Prop)(aL:∀k X W1 W2,I k X W1->ZW W1 W2->I k X W2)(aM:∀k X W W',I k X W->w.heap.size∉X->w.heap.size+1∉X->W.heap.size=W'.heap.size->aH W W' [w.heap.size+1]->I k X W')(af:∀k X W,I k X W->K W/\∀b∈X,b<W.heap.size)(X0:List Nat)(h0:I 0 X0 w)(al:∀k args X j W,k<N->I k X j->w.heap.size+2<=j.heap.size->w.heap.size∉X->w.heap.size+1∉X->ZW j W->Y k args j W->assign.wpIn (Fence.wide.inRound (w.heap.size+1)) 0 P (Exit.then (fun a₁ W₁=>ZW W W₁/\∀W₂,aH W₁ W₂ [w.heap.size+1]->W₂.heap.size=W₁.heap.size->body.wpIn (Fence.wide.inRound (w.heap.size+1)) 0 P (Jc I k W.heap.size X W₂) a₁ W₂) (fun _ _ _=>False)) {tmps:=(ps.zip args).foldl (fun t(p,v)=>t.setIfInBounds p v) a.tmps,defers:=[]} W)(ax:∀X W,I N X W->w.heap.size∉X->w.heap.size+1∉X->w.heap.size+2<=W.heap.size->W.heap[w.heap.size]?=some (.deferred (some []))->Q .normal {a with defers:={target:=.collected w.heap.size,args:=#[]}::a.defers} W):(Code.rangeFunc g ps assign body).wpIn Fence.wide 0 P Q a w:=by
 refine wpIn_rangeFunc ?_;intro fn bi;obtain⟨U,l⟩:∃U:Loop,U={state:=.ready,pending:=none,fn:=fn,tmps:=a.tmps,params:=ps,assign:=assign,body:=body,defers:=w.heap.size}:=⟨_,rfl⟩;have hB:ZW w ((w.alloc (.deferred (some []))).alloc (.loop U)):=((Below.refl _ w).alloc (Nat.le_refl _) _).alloc (by simp) _;have a0:((w.alloc (.deferred (some []))).alloc (.loop U)).heap[w.heap.size+1]?=some (.loop U):=by have:=World.alloc_heap_new (w.alloc (.deferred (some []))) (.loop U);rwa[World.size_alloc]at this
 have aR:((w.alloc (.deferred (some []))).alloc (.loop U)).heap[w.heap.size]?=some (.deferred (some [])):=(Below.heap_alloc _ _ _ (by simp)).trans (World.alloc_heap_new w _);obtain⟨j,aN⟩:∃j,j=(w.alloc (.deferred (some []))).alloc (.loop U):=⟨_,rfl⟩;rw[<-aN]at hB a0 aR;refine⟨w.heap.size+1,[{target:=.collected w.heap.size,args:=#[]}],j,{target:=.fn (.func gf) lb,args:=#[.func (.yield (w.heap.size+1)) #[] #[]]},j,gf,#[.func (.yield (w.heap.size+1)) #[] #[]]++lb,j,?_,?_,fun _ _=>trivial,?_,fun h=>by simp[Fence.wide]at h,?_⟩;·rw[aN,l];exact run_enterLoop_outer _ _ _ _ _
 ·simp only[resolve,hg];simp[go_sem]
 ·simp[invoke,go_sem,eg]
 ·refine(a7 (w.heap.size+1) (fun k X W=>∃J,X=(w.heap.size+1)::J/\I k J W/\(w.heap.size∉J/\w.heap.size+1∉J)/\W.heap[w.heap.size+1]?=some (.loop U)/\W.heap[w.heap.size]?=some (.deferred (some []))) ((w.heap.size+1)::X0) j ?_ ?_ ?_ ⟨X0,rfl,aL 0 X0 w j h0 hB,⟨fun hm=>absurd ((af 0 X0 w h0).2 _ hm) (by omega),fun hm=>absurd ((af 0 X0 w h0).2 _ hm) (by omega)⟩,a0,aR⟩).mono ?_;·rintro k X W1 W2⟨J,e,hi,T,hl,hd⟩R;exact⟨J,e,aL k J W1 W2 hi R,T,(R.block _ (Array.getElem?_eq_some_iff.1 hl).1).trans hl,(R.block _ (Array.getElem?_eq_some_iff.1 hd).1).trans hd⟩
  ·rintro k X W1⟨J,rfl,hi,T,hl,hd⟩;refine⟨(af k J W1 hi).1,fun b R=>?_⟩;rcases List.mem_cons.1 R with rfl|R;·exact(Array.getElem?_eq_some_iff.1 hl).1
   ·exact(af k J W1 hi).2 b R
  ·rintro k args X W1 W hk⟨J,rfl,hi,T,hl,hd⟩ah hy;have ay:=(Array.getElem?_eq_some_iff.1 hl).1;have a6:w.heap.size+1<W.heap.size:=Nat.lt_of_lt_of_le ay ah.size;have a4:W.heap[w.heap.size+1]?=some (.loop U):=(ah.block _ ay).trans hl;have a9:W.heap[w.heap.size]?=some (.deferred (some [])):=(ah.block _ (by omega)).trans hd;refine⟨fn,_,assign,body,by have:=run_yield (P:=P) (args:=args) a4 (by rw[l];exact bf k args W1 W hy);rw[l]at this;exact this,roundIn_of_wpIn trivial ?_⟩;refine wpIn_mono (al k args J W1 W hk hi (by omega) T.1 T.2 ah hy) ?_;intro e a1 W2 hq;cases e with
    |normal=>
     obtain⟨aq,av⟩:=hq;have a2:W2.heap[w.heap.size+1]?=some (.loop U):=(aq.block _ a6).trans a4;have a8:W2.heap[w.heap.size]?=some (.deferred (some [])):=(aq.block _ (by omega)).trans a9;have an:=(Array.getElem?_eq_some_iff.1 a2).1;refine⟨_,run_beginRound a2 (by rw[l]),wpIn_mono (av _ (jh _ _ _) (by simp)) ?_⟩;intro e3 a3 W3 h3;cases e3 with
      |normal=>
       obtain⟨ao,ad,bb,az⟩:=h3;have ab:w.heap.size+1<(W2.putObj (w.heap.size+1) (.loop {U with state:=.busy})).heap.size:=by simpa using an
       have e2:=(ao.block _ ab T.2).trans (World.putObj_heap_same an);have e1:=(ao.block _ (Nat.lt_trans (by omega) ab) T.1).trans ((World.putObj_heap_other (by omega)).trans a8);have a5:=(Array.getElem?_eq_some_iff.1 e2).1;have ac:w.heap.size∉ad/\w.heap.size+1∉ad:=⟨fun hm=>by rcases az _ hm with h|h;exact T.1 h;omega,fun hm=>by rcases az _ hm with h|h;exact T.2 h;omega⟩;refine⟨_,_,run_endRound none e2,rfl,(w.heap.size+1)::ad,⟨ad,rfl,aM _ _ _ _ bb ac.1 ac.2 (by simp) (jh _ _ _),ac,?_,(World.putObj_heap_other (by omega)).trans e1⟩,?_,?_⟩;·rw[World.putObj_heap_same a5,l];rfl
       ·refine tu ((aj aq).trans ((jh W2 (w.heap.size+1) (.loop {U with state:=.busy})).trans (ao.trans (jh W3 (w.heap.size+1) _)))) (fun b R=>?_);simp only[List.nil_append,List.mem_append,List.mem_cons,List.not_mem_nil,or_false]at R;rcases R with h|h|h;·rw[h];exact List.mem_cons_self
        ·exact List.mem_cons_of_mem _ h
        ·rw[h];exact List.mem_cons_self
       ·intro b R;rcases List.mem_cons.1 R with rfl|R;·exact .inl List.mem_cons_self
        ·rcases az b R with h|h;·exact .inl (List.mem_cons_of_mem _ h)
         ·exact .inr h|_=>exact h3.elim
    |_=>exact hq.elim
  ·rintro e W2⟨⟨v,rfl⟩,X,J,rfl,hi,T,hl,hd⟩;have ay:=(Array.getElem?_eq_some_iff.1 hl).1;refine⟨none,_,by have:=run_endLoop (P:=P) hl (by rw[l];simp);rw[l]at this;exact this,ax J _ (aM _ _ _ _ hi T.1 T.2 (by simp) (jh _ _ _)) T.1 T.2 (by simp;omega) ((World.putObj_heap_other (by omega)).trans hd)⟩
theorem Gx{P:Program}{ops:Array Oper}{Q:Exit->Act->World->Prop}{K K':Act->World->Prop}{i l:Nat}{a:Act}{w:World}(R:∀(o:Oper)(c:Call),ops[i]?=some o->o.op≠.defer c)(J:¬LetsOut Q)(j:∀a w,K a w->K' a w)(h:wpOp P ops Q i K a w):wpOpIn (Fence.wide.inRound l) 0 P ops Q i K' a w:=by
 unfold wpOp at h;unfold wpOpIn;cases T:ops[i]? with
  |none=>simp only[T]at h|-;exact j _ _ h|some o=>
   simp only[T]at h|-;split;·
    rename_i U;rw[if_pos U]at h;rcases h with h|⟨-,h⟩;·
     refine⟨fun _ _=>trivial,?_⟩;have e:o.semAt (Fence.wide.inRound l).round a.eval=execOp a.eval o:=Oper.semAt_some l _ o (fun c=>R o c T);rw[e];unfold Oper.wp at h;cases hr:(execOp a.eval o).run P w with
      |ok x w'=>
       rw[hr]at h;cases x with
        |value v=>exact j _ _ h|skip=>exact j _ _ h|defer d=>exact j _ _ h|enter f args=>refine⟨fun h=>by simp[Fence.wide,Fence.inRound]at h,CallsIn.inRound l (callsIn_wide.2 ?_)⟩;refine Calls.mono h fun e ab I=>?_;cases e with|returned v=>exact j _ _ I|panicked c=>exact I|outgrown=>exact I
        |row r args=>exact⟨fun h=>by simp[Fence.wide,Fence.inRound]at h,fun c cs _=>let⟨v,w',r,s⟩:=h c cs;⟨v,w',j _ _ r,stepsIn_wide.2 s⟩⟩|round l f tmps assign body=>exact h.elim|_=>exact h.elim
      |halt x w'=>rw[hr]at h;cases x<;>exact h
    ·exact absurd h J
   ·rename_i U;rw[if_neg U]at h;exact⟨fun _ _=>trivial,j _ _ h⟩
theorem vU{P:Program}{md:Region.Mode}{ops:Array Oper}{Q:Exit->Act->World->Prop}{l:Nat}(I:∀(i:Nat)(o:Oper)(c:Call),ops[i]?=some o->o.op≠.defer c)(j:¬LetsOut Q):∀(fuel:Nat)(listed:Array Bool)(a:Act)(w:World),wpAny P md ops Q fuel listed a w->wpAnyIn (Fence.wide.inRound l) 0 P md ops Q fuel listed a w|0,_,_,_,h=>h|fuel+1,_,_,_,h=>⟨h.1,fun i hi=>Gx (I i) j (fun J w' R=>vU I j fuel _ J w' R) (h.2 i hi)⟩
def vc(ops:Array Oper):Bool:=ops.all fun o=>match o.op with|.defer _=>false|_=>true
theorem vd{ops:Array Oper}(h:vc ops=true):∀(i:Nat)(o:Oper)(c:Call),ops[i]?=some o->o.op≠.defer c:=by intro i o c hi l;unfold vc at h;rw[Array.all_eq_true]at h;obtain⟨j,rfl⟩:=Array.getElem?_eq_some_iff.1 hi;have:=h i j;rw[l]at this;cases this
theorem vj{P:Program}{R l:Nat}{ops:Array Oper}{Q:Exit->Act->World->Prop}{a:Act}{w:World}(J:P.follows .mixedOrders=true)(I:vc ops=true)(j:¬LetsOut Q)(h:wpAny P .any ops Q ops.size (Array.replicate ops.size false) a w.drew):(Code.region R ops true).wpIn (Fence.wide.inRound l) 0 P Q a w:=wpIn_region_any J (vU (vd I) j _ _ _ _ h)
section
section
variable {P : Program} {ops : Array Oper} {md : Region.Mode} {C : World -> Prop}
def vr(md:Region.Mode)(ops:Array Oper)(n:Nat):Bool:=(List.range n).all fun i=>i==0||(List.range (n+1)).any fun j=>decide (i<j)&&Region.waitsFor md ops j i
theorem qz{n:Nat}{l:Array Bool}(hs:vr md ops n=true)(hc:Region.chainB md ops n=true)(hn:n<ops.size)(ab:HeadInv md ops n l):∀(d i:Nat),n-i=d->0<i->i<n->l.getD i true=false->∀t,n<=t->t∉Region.ready md ops l:=by
 intro d;induction d using Nat.strongRecOn with
  |_ d ih=>
   intro i hd ax hi ah t ht hr;obtain⟨_,ot,U,T⟩:=mem_ready.1 hr;have af:t<ops.size:=(Array.getElem?_eq_some_iff.1 U).1;by_cases aq:t=n;·
    subst aq;have I:=List.all_eq_true.1 hs i (List.mem_range.2 hi);rw[Bool.or_eq_true]at I;rcases I with I|I;·simp at I;omega
    obtain⟨j,hj,ac⟩:=List.any_eq_true.1 I;simp only[Bool.and_eq_true,decide_eq_true_eq]at ac;obtain⟨oj,ad,e,he,hb,J⟩:=Region.waitsFor_spec ac.2;have av:j<=t:=by have:=List.mem_range.1 hj;omega
    by_cases an:j=t;·subst an;have:oj=ot:=Option.some.inj (ad.symm.trans U);subst this;have R:=T e he hb;rw[J,getD_both ah]at R;cases R
    ·cases hl:l.getD j false with
      |true=>have R:=ab.closed j oj ad hl e he hb;rw[J,getD_both ah]at R;cases R|false=>
       have al:j<l.size:=by rw[ab.size];omega
       exact ih (t-j) (by omega) j rfl (by omega) (by omega) (getD_in al hl) t (Nat.le_refl _) hr
   ·have I:=List.all_eq_true.1 hc t (List.mem_range.2 af);simp only[Bool.or_eq_true,decide_eq_true_eq]at I;rcases I with I|I;·omega
    ·obtain⟨o',ao,e,he,hb,J⟩:=Region.waitsFor_spec I;have:o'=ot:=Option.some.inj (ao.symm.trans U);subst this;have R:=T e he hb;rw[J,getD_both (ab.tail (t-1) (by omega) (by omega))]at R;cases R
theorem uQ{n i:Nat}{oi:Oper}{v:Value}{L:Array Bool->Act->Prop}(hi:ops[i]?=some oi)(ab:∀(j:Nat)(o:Oper)cs b,ops[j]?=some o->o.op≠.select cs b)(hs:vr md ops n=true)(hc:Region.chainB md ops n=true)(hn:n<ops.size)(ah:0<i)(al:i<n)(ac:∀listed a,L listed a->∀j∈Region.ready md ops listed,n<=j)(f:Nat):∀(listed:Array Bool)(a:Act),HeadInv md ops n listed->(∀j oj,ops[j]?=some oj->j≠i->listed.getD j true=false->(∀e∈oj.after,Region.binds md e=true->e.on≠i)->oi.apart ops oj=true)->i∈Region.ready md ops listed->YieldsIn P ops C oi v a->qd P md ops C n L f (listed.setIfInBounds i true) (a.put oi.dst v)->qd P md ops C n L (f+1) listed a:=by
 induction f with
  |zero=>
   intro listed a R _ U hy H;refine⟨fun h=>(by rw[h]at U;cases U),fun j hj=>?_⟩;have J:j<n:=Nat.lt_of_not_le fun h=>qz hs hc hn R _ i rfl ah al (mem_ready.1 U).1 j h hj;refine⟨J,?_⟩;by_cases l:j=i;·subst l;exact hy.qOp hi H
   ·exact absurd (ac _ _ H j (ready_mono hj l)) (by omega)|succ f ih=>
   intro listed a R I U hy H;refine⟨fun h=>(by rw[h]at U;cases U),fun j hj=>?_⟩;have aq:=(mem_ready.1 U).1;have J:j<n:=Nat.lt_of_not_le fun h=>qz hs hc hn R _ i rfl ah al aq j h hj;refine⟨J,?_⟩;by_cases l:j=i;·subst l;exact hy.qOp hi H
   ·obtain⟨T,oj,ad,af⟩:=mem_ready.1 hj;have ao:∀e∈oj.after,Region.binds md e=true->e.on≠i:=fun e he hb heq=>by have h1:=af e he hb;rw[heq,getD_both aq]at h1;cases h1
    have h2:=qOp_put ad (I j oj ad l T ao) (fun cs b=>ab i oi cs b hi) (fun cs b=>ab j oj cs b ad) hy (H.2 j (ready_mono hj l)).2;refine qOp_mono (fun a' h3=>ih (listed.setIfInBounds j true) a' (R.set hj J) (fun k ok hk ax av ay=>?_) (ready_mono U (Ne.symm l)) h3.1 ?_) h2;·
     refine I k ok hk ax ?_ ay;by_cases an:j=k;·subst an;exact T
     ·rwa[getD_set_ne true an]at av
    ·rw[Array.setIfInBounds_comm _ _ l];exact h3.2
theorem rG{n g:Nat}{Lq:Act->Prop}(J:Region.noSelect ops=true)(hs:vr md ops n=true)(hc:Region.chainB md ops n=true)(hn:n<ops.size):∀(l:List Oper)(k:Nat)(listed:Array Bool)(a:Act),0<k->(∀j,j<l.length->l[j]?=ops[k+j]?)->k+l.length=n->HeadInv md ops n listed->Region.lexHead md ops g l.length k listed=true->wpQuiet P ops C Lq l a->qd P md ops C n (fun I a'=>Region.seqB md ops g n I=true/\Lq a') l.length listed a
 |[],k,listed,a,_,_,hk,_,R,h=>by
  have e:k=n:=by simpa using hk
  subst e;exact⟨by simpa[Region.lexHead]using R,h⟩|o::l,k,listed,a,ab,hl,hk,U,R,h=>by
  have h0:ops[k]?=some o:=by simpa using(hl 0 (by simp)).symm
  simp only[List.length_cons,Region.lexHead,Bool.and_eq_true]at R;have T:k<n:=by simp only[List.length_cons]at hk;omega
  have hr:k∈Region.ready md ops listed:=by simpa using R.1.1
  obtain⟨v,hy,hK⟩:=yieldsIn_of_qOp h0 (show qOp P ops C k (wpQuiet P ops C Lq l) a by unfold qOp;simp only[h0];exact h);exact uQ h0 (Region.noSelect_spec J) hs hc hn ab T (fun _ _ hL=>seqB_ready hL.1) l.length listed a U (Region.free_spec h0 R.1.2) hr hy (rG J hs hc hn l (k+1) _ _ (by omega) (fun j hj=>by have:=hl (j+1) (by simp;omega);simpa[Nat.add_assoc,Nat.add_comm 1 j]using this) (by simp only[List.length_cons]at hk;omega) (U.set hr T) R.2 hK)
end
def E9(ops:Array Oper)(n:Nat):Bool:=Region.noSelect ops&&decide (n+1<ops.size)&&vr .any ops (n+1)&&Region.chainB .any ops (n+1)&&(Region.ready .any ops (Array.replicate ops.size false)).contains 0&&Region.free .any ops (Array.replicate ops.size false) 0&&Region.lexHead .any ops (ops.size-(n+1)) n 1 ((Array.replicate ops.size false).setIfInBounds 0 true)
theorem qD{P:Program}{id:Nat}{Q:Exit->Act->World->Prop}{a:Act}{w:World}{I:Oper}{l:List Oper}(n:Nat)(x:Operand)(v0:Value)(ay:a.eval x=v0)(av:I.op=.move x)(hg:I.guard=none)(hm:P.follows .mixedOrders=true)(hB:E9 (I::l).toArray n=true)(an:∀c v a w,Q (.panic c) (a.put I.dst v) w->Q (.panic c) a w)(h:∀W,W=w->wpQuiet P (I::l).toArray (fun w'=>∃g:Grown W,w'=g.val) (fun a'=>∀w',ZW W w'->wpList P (I::l).toArray Q (l.drop n) a' w') (l.take n) (a.put I.dst v0)):(Code.region id (I::l).toArray true).wp P Q a w:=by
 subst ay;simp only[E9,Bool.and_eq_true,decide_eq_true_eq]at hB;obtain⟨⟨⟨⟨⟨⟨R,hn⟩,hs⟩,hc⟩,ad⟩,ao⟩,ac⟩:=hB;have az:n<l.length:=by simp at hn;exact hn
 have J:(l.take n).length=n:=by simp;omega
 have ab:(l.drop n).length=(I::l).toArray.size-(n+1):=by simp
 have al:(I::l).toArray[0]?=some I:=by simp
 have af:0∈Region.ready .any (I::l).toArray (Array.replicate (I::l).toArray.size false):=by simpa using ad
 have U:HeadInv .any (I::l).toArray (n+1) (Array.replicate (I::l).toArray.size false):=⟨by simp,fun j oj _ hl=>(by rw[getD_replicate_false]at hl;cases hl),fun t _ ht=>getD_in (by simpa using ht) (getD_replicate_false _ _)⟩;have ah:=U.set af (by omega);have H:=rG (md:=.any) (C:=fun w'=>∃g:Grown w,w'=g.val) (g:=(I::l).toArray.size-(n+1)) R hs hc hn (l.take n) 1 _ _ (by omega) (fun j hj=>by
  have aq:j<n:=by rw[J]at hj;exact hj
  simp[aq,Nat.add_comm 1 j]) (by rw[J];omega) ah (by rw[J];exact ac) (h w rfl);refine wp_region_any hm ?_;have K:=kF (Q':=Q) (g:=(I::l).toArray.size-(n+1)) (fun listed a' w' hw hL=>by obtain⟨g,rfl⟩:=hw;have:=wpAny_of_seq (md:=.any) (Q':=Q) (l.drop n) (n+1) listed a' g.val (fun j=>by rw[List.getElem?_drop,show n+1+j=(n+j)+1 by omega];simp) (by rw[ab];exact hL.1) (hL.2 _ g.bel);rwa[ab]at this) _ _ _ {w with drawn:=w.drawn+1} ⟨⟨_,(Below.refl _ _).drew⟩,rfl⟩ H;have ax:(I::l).toArray.size=(l.take n).length+((I::l).toArray.size-(n+1))+1:=by rw[J];simp;omega
 have T:=wpAny_take (md:=.any) (Q:=Q) (v:=a.eval x) al R ao ad (fun c a w=>an c _ a w) (.inl ⟨by unfold Region.wanted;rw[hg],fun w=>by simp[execOp,av]⟩) K;rw[<-ax]at T;exact T
end
section
open Go.RowKit Go.ChangeShapes Go.WideShapes
end
theorem G6(x:aF)(j:Int)(w:World)(I:x.ok)(U:0<=j)(hm:j<=1048576):Calls Tryz.prog 99 #[x.val,.int .i64 j] w fun e w'=>∃r:Int,e=.returned (.int .i64 r)/\r<=1048576/\(0<=r->r<=j/\x.fit)/\ZW w w':=by
 unfold aF.ok maxLen at I;have l:=aa (show x.fit=(x.cD.size<=1048576/\x.to.size<=1048576/\x.label.size<=1048576)from rfl);unfold aF.val;by_cases J:j-x.cD.size<0;·go_in;go_wp2;go_ret;exact⟨_,rfl,by omega,fun h=>absurd h (by omega),ag _ _⟩
 ·skip;by_cases R:j-x.cD.size-x.to.size<0;·go_in;go_wp2;go_ret;exact⟨_,rfl,by omega,fun h=>absurd h (by omega),ag _ _⟩
  ·skip;by_cases T:j-x.cD.size-x.to.size-x.label.size<0;·go_in;go_wp2;go_ret;exact⟨_,rfl,by omega,fun h=>absurd h (by omega),ag _ _⟩
   ·skip;go_in;go_wp2;go_ret;exact⟨_,rfl,by omega,fun h=>⟨by omega,by rw[l.out];omega⟩,ag _ _⟩
theorem E7(l:List aF)(I:Int)(ao:Option Addr)(cap:Nat)(w:World)(ok:∀x∈l,x.ok)(hl:l.length<=maxLen)(h0:0<=I)(h1:I<=1048576)(hr:l≠[]->∃b o,ao=some ⟨b,o,none⟩/\b<w.heap.size/\dE w b o l):Calls Tryz.prog 49 #[.slice ao l.length cap,.int .i64 I] w fun e w'=>∃r:Int,e=.returned (.int .i64 r)/\r<=1048576/\(0<=r->r+(l.length:Int)<=I/\∀x∈l,x.fit)/\ZW w w':=by
 have HR:=aa hr;have ay:=aa ok;unfold maxLen at hl;clear hr ok;by_cases a2:(l.length:Int)<=I;·
  go_in;go_wp2;go_loopw[1,5](fun lf i wr=>∃(k:Nat)(z:Int),k<=l.length/\i=.int .i64 k/\lf=.int .i64 z/\0<=z/\z<=1048576/\z+(l.length:Int)<=I/\(∀j(h:j<l.length),j<k->l[j].fit)/\ZW w wr)(fun _ i _=>l.length-(intOf i).toNat);case atStart=>exact⟨0,I-(l.length:Int),Nat.zero_le _,rfl,rfl,by omega,by omega,by omega,fun j _ h=>absurd h (by omega),Below.refl _ _⟩
  case round=>
   obtain⟨k,z,hk,rfl,rfl,aL,aM,aN,ab,T⟩:=hrel;have HA:=aa ab;have R:=aa T;have ad:=T.size;clear ab T;by_cases af:k<l.length;·
    obtain⟨b,o,rfl,az,ac⟩:=HR.out (by intro h;simp[h]at af);have J:=(ac.get k af).carry az R.out;obtain⟨x1,U⟩:∃x1,x1=l[k]:=⟨_,rfl⟩;rw[<-U]at J;have HN:=aa U;have ax:=aa (show x1.ok by rw[U];exact ay.out _ (List.getElem_mem af));clear U ac;have a0:b<wr.heap.size:=J.lt;obtain⟨c0,c1,c2,c3⟩:=J;go_wp2_with(go_at_call 99;refine(G6 x1 z _ ax.out aL aM).mono ?_;rintro e w1⟨r,rfl,aR,av,an⟩;have al:=aa av;have ah:=aa an;clear av an);all_goals
     first
      |(go_ret;exact⟨_,rfl,by omega,fun h=>absurd h (by omega),R.out.trans (ah.out.mono ad)⟩)|
       (
        go_roundw;case rel=>
         refine⟨k+1,r,by omega,by go_num,rfl,by omega,aR,by have:=(al.out (by omega)).1;omega,fun j hj a1=>?_,R.out.trans (ah.out.mono ad)⟩;by_cases aq:j=k;·subst aq;rw[<-HN.out];exact(al.out (by omega)).2
         ·exact HA.out j hj (by omega)
        case measure=>simp[intOf];omega)
   ·go_wp2;go_ret;refine⟨_,rfl,by omega,fun _=>⟨aN,fun x hx=>?_⟩,R.out⟩;obtain⟨j,hj,rfl⟩:=List.getElem_of_mem hx;exact HA.out j hj (by omega)
 ·go_in;go_wp2;go_ret;exact⟨_,rfl,by omega,fun h=>absurd h (by omega),Below.refl _ _⟩
theorem bt.sep{w w':World}{v:Value}{x:List aF}{l:List Nat}(h:bt w w.heap.size v x)(I:aH w w' l)(hd:∀b∈ae v,b∉l):bt w' w'.heap.size v x:=by have H:=h;obtain⟨R,T,rfl,_⟩:=h;exact H.aA I.size (fun b J j=>I.block b j (hd b ((aS rfl).1 J)))
theorem bt.tJ{w w':World}{v:Value}{x:List aF}{l:List Nat}(h:bt w w.heap.size v x)(I:aH w w' l)(hd:∀b∈l,w.heap.size<=b):bt w' w'.heap.size v x:=by have H:=h;obtain⟨R,T,rfl,_⟩:=h;exact H.aA I.size (fun b U j=>I.block b j (fun J=>absurd (hd b J) (by omega)))
theorem bt.shape{w:World}{B:Nat}{v:Value}{x:List aF}(h:bt w B v x):∃p c,v=.slice p x.length c:=by obtain⟨j,l,e,_⟩:=h;exact⟨j,l,e⟩
theorem dJ.sep{w w':World}{v:Value}{x:List aC}{l:List Nat}(h:dJ w w.heap.size v x)(I:aH w w' l)(hd:∀b∈ae v,b∉l):dJ w' w'.heap.size v x:=by have H:=h;obtain⟨R,T,rfl,_⟩:=h;exact H.aA I.size (fun b J j=>I.block b j (hd b ((aS rfl).1 J)))
theorem dJ.tJ{w w':World}{v:Value}{x:List aC}{l:List Nat}(h:dJ w w.heap.size v x)(I:aH w w' l)(hd:∀b∈l,w.heap.size<=b):dJ w' w'.heap.size v x:=by have H:=h;obtain⟨R,T,rfl,_⟩:=h;exact H.aA I.size (fun b U j=>I.block b j (fun J=>absurd (hd b J) (by omega)))
theorem dJ.shape{w:World}{B:Nat}{v:Value}{x:List aC}(h:dJ w B v x):∃p c,v=.slice p x.length c:=by obtain⟨j,l,e,_⟩:=h;exact⟨j,l,e⟩
def ij(sv:Value)(m:aF)(c:Int):Value:=.agg #[sv,.string m.cD,.string m.to,.string m.label,.int .i64 m.sort,.int .i64 c]
theorem Fc(l:List aF)(ao:Option Addr)(cap:Nat)(w:World)(hl:l.length<=1048576)(hr:l≠[]->∃b o,ao=some ⟨b,o,none⟩/\b<w.heap.size/\dE w b o l):Calls Tryz.prog 55 #[.slice ao l.length cap] w fun e w'=>∃v',e=.returned v'/\(∃g,v'=.slice (some ⟨g,0,none⟩) l.length l.length)/\bt w' w'.heap.size v' l/\nQ w.heap.size w' v'/\ZW w w':=by
 have HR:=aa hr;obtain⟨i0,hi,aM,aN,aR⟩:=info_parts Tryz.fK;obtain⟨M,hM⟩:∃M,M=madeCells (Value.agg #[.string .empty,.string .empty,.string .empty,.int .i64 0]).cells (l.length*4):=⟨_,rfl⟩;have ay:M.size=l.length*4:=by rw[hM,size_madeCells]
 have bf:∀W:World,(Instr.makeSlice 29 (.int .i64 (l.length:Int)) (.int .i64 (l.length:Int))).run Tryz.prog W=.ok (.slice (some ⟨W.heap.size,0,none⟩) l.length l.length) (W.alloc (.cells M 158)):=fun W=>by have h:=run_make (P:=Tryz.prog) W 29 158 i0 _ Tryz.underlying29 hi aM .i64 .i64 (l.length:Int) (l.length:Int) (by omega) (by omega) (by rw[aR];omega) (by omega);rw[aN]at h;simp only[Int.toNat_natCast]at h;rw[<-hM]at h;exact h
 have a5:=aa ay;clear hr hM ay hi aM aN aR;go_in;go_wp2;go_loopw[4](fun i wr=>∃k:Nat,k<=l.length/\i=.int .i64 k/\(∀j(h:j<l.length),j<k->dU wr w.heap.size (j*4) l[j])/\(∀j,j<l.length*4->∃y,wr.cell? ⟨w.heap.size,j,none⟩=some y)/\(∀j,wr.frozen? ⟨w.heap.size,j,none⟩=false)/\w.heap.size<wr.heap.size/\ZW w wr)(fun i _=>l.length-(intOf i).toNat);case atStart=>
  refine⟨0,Nat.zero_le _,rfl,fun j _ h=>absurd h (by omega),fun j hj=>?_,fun j=>?_,by simp,ag _ _⟩;·rw[<-a5.out]at hj;exact⟨M[j],by simp[hj]⟩
  ·simp
 case round=>
  obtain⟨k,hk,rfl,af,I,al,ad,ah⟩:=hrel;have HA:=aa af;have HC:=aa I;have ax:=aa al;have T:=aa ah;clear af ah;by_cases aL:k<l.length;·
   obtain⟨b,o,rfl,a6,aq⟩:=HR.out (by intro h;simp[h]at aL);have R:=(aq.get k aL).carry a6 T.out;obtain⟨x1,av⟩:∃x1,x1=l[k]:=⟨_,rfl⟩;rw[<-av]at R;have HN:=aa av;clear av aq;have a9:b<wr.heap.size:=R.lt;obtain⟨c0,c1,c2,c3⟩:=R;obtain⟨y0,g0⟩:=I (k*4) (by omega);obtain⟨y1,g1⟩:=I (k*4+1) (by omega);obtain⟨y2,g2⟩:=I (k*4+2) (by omega);obtain⟨y3,g3⟩:=I (k*4+3) (by omega);have HG:=aa (And.intro g0 (And.intro g1 (And.intro g2 g3)));clear I al g0 g1 g2 g3;go_wp2_with(go_at_call 110;refine(Jp x1 _).mono ?_;rintro e w1⟨rfl,ac⟩;unfold aF.val;have bk:=ac.size;have ab:Hid (∀j,w1.frozen? ⟨w.heap.size,j,none⟩=false):=aa (fun j=>(ac.frozen (p:=⟨w.heap.size,j,none⟩) ad).trans (ax.out j));have U:Hid (∀j,w1.cell? ⟨w.heap.size,j,none⟩=wr.cell? ⟨w.heap.size,j,none⟩):=aa (fun j=>ac.cell (p:=⟨w.heap.size,j,none⟩) ad);have g0:=(U.out (k*4)).trans HG.out.1;have g1:=(U.out (k*4+1)).trans HG.out.2.1;have g2:=(U.out (k*4+2)).trans HG.out.2.2.1;have g3:=(U.out (k*4+3)).trans HG.out.2.2.2;have f0:=ab.out (k*4);have f1:=ab.out (k*4+1);have f2:=ab.out (k*4+2);have f3:=ab.out (k*4+3);have a4:=aa ac;clear ac);go_roundw;case rel=>
    have e:=aa (show(((w1.setCell ⟨w.heap.size,k*4,none⟩ (.string x1.cD)).setCell ⟨w.heap.size,k*4+1,none⟩ (.string x1.to)).setCell ⟨w.heap.size,k*4+2,none⟩ (.string x1.label)).setCell ⟨w.heap.size,k*4+3,none⟩ (.int .i64 x1.sort)=iQ w1 w.heap.size (k*4) x1 from rfl);rw[e.out];have a7:∀i,i<4->∃y,w1.cell? ⟨w.heap.size,k*4+i,none⟩=some y:=fun i hi=>by rw[U.out];exact HC.out _ (by omega)
    have an:=uj w1 w.heap.size (k*4) x1 a7;have J:∀j,(j<k*4\/k*4+4<=j)->(iQ w1 w.heap.size (k*4) x1).cell? ⟨w.heap.size,j,none⟩=wr.cell? ⟨w.heap.size,j,none⟩:=fun j hj=>by rw[vh _ _ _ _ _ (fun i hi h=>by injection h with h1 h2;omega),U.out]
    refine⟨k+1,by omega,by go_num,fun j hj bb=>?_,fun j hj=>?_,fun j=>by rw[tl];exact ab.out j,by rw[xJ];omega,oH (T.out.trans (a4.out.mono T.out.size)) (Nat.le_refl _) _ _⟩;·
     by_cases az:j=k;·subst az;rw[<-HN.out];exact an
     ·obtain⟨a0,a1,a2,a3⟩:=HA.out j hj (by omega);exact⟨(J _ (by omega)).trans a0,(J _ (by omega)).trans a1,(J _ (by omega)).trans a2,(J _ (by omega)).trans a3⟩
    ·by_cases a8:j<k*4\/k*4+4<=j;·rw[J j a8];exact HC.out j hj
     ·obtain⟨a0,a1,a2,a3⟩:=an;rcases(show j=k*4\/j=k*4+1\/j=k*4+2\/j=k*4+3 by omega)with h|h|h|h;·subst h;exact⟨_,a0⟩
      ·subst h;exact⟨_,a1⟩
      ·subst h;exact⟨_,a2⟩
      ·subst h;exact⟨_,a3⟩
   case measure=>simp[intOf];omega
  ·go_wp2;go_ret;refine⟨_,rfl,⟨_,rfl⟩,⟨_,_,rfl,Nat.le_refl _,by omega,fun bi=>⟨w.heap.size,0,rfl,ad,?_⟩⟩,⟨fun b hb=>by simp[Value.ownBlock]at hb;subst hb;exact⟨Nat.le_refl _,ad,ax.out⟩⟩,T.out⟩;exact dE.of _ _ l 0 (fun j hj=>by rw[Nat.zero_add];exact HA.out j hj (by omega))
theorem Ed(l:List aF)(I:Option Addr)(cap:Nat)(w:World)(hl:l.length<=1048576)(hr:l≠[]->∃b o,I=some ⟨b,o,none⟩/\b<w.heap.size/\dE w b o l):Calls Tryz.prog 55 #[.slice I l.length cap] w fun e w'=>∃j,e=.returned j/\(∃g,j=.slice (some ⟨g,0,none⟩) l.length l.length)/\bt w' w'.heap.size j l/\dk w.heap.size w' j/\ZW w w':=(Fc l I cap w hl hr).mono fun e w'⟨j,R,hg,J,T,U⟩=>by obtain⟨p,c,rfl⟩:=J.shape;exact⟨_,R,hg,J,jL T,U⟩
def aF.cells(x:aF):List Value:=[.string x.cD,.string x.to,.string x.label,.int .i64 x.sort]
theorem aF.bh(x:aF):x.cells.length=4:=rfl
theorem aF.cells_one(x:aF):∀u∈x.cells,u.oneCell'=true:=by intro u hu;simp[aF.cells]at hu;rcases hu with rfl|rfl|rfl|rfl<;>rfl
def aZ(w:World)(base:Nat)(v:Value)(l:List aF):Prop:=w.ownsRow base 158 4 v l.length (l.flatMap aF.cells)
theorem aZ.sl{w:World}{base:Nat}{v:Value}{l:List aF}(h:aZ w base v l)(hl:l.length<=4294967296):bt w w.heap.size v l:=by
 have H:=h;obtain⟨_,hh⟩:=h;rcases hh with⟨rfl,T⟩|⟨J,cap,R,rfl,hg,I,U,_⟩;·have:l=[]:=List.length_eq_zero_iff.1 T;subst this;exact⟨none,0,rfl,Nat.le_refl _,by simp,fun h=>absurd rfl h⟩
 ·refine⟨_,_,rfl,U,hl,fun _=>⟨J,0,rfl,(Array.getElem?_eq_some_iff.1 I).1,dE.of w J l 0 (fun j hj=>?_)⟩⟩;rw[Nat.zero_add];have e:=fun i(hi:i<4)(x:Value)(hx:(l[j].cells)[i]?=some x)=>cQ H rfl (j*4+i) x ((dT aF.cells 4 aF.bh l j hj i hi).trans hx);exact⟨e 0 (by omega) _ rfl,e 1 (by omega) _ rfl,e 2 (by omega) _ rfl,e 3 (by omega) _ rfl⟩
theorem aZ.aA{w w':World}{base:Nat}{v:Value}{x:List aF}{l:List Nat}(h:aZ w base v x)(j:aH w w' l)(hd:∀b∈ae v,b∉l):aZ w' base v x:=aK h j hd
theorem aZ.below{w w':World}{base:Nat}{v:Value}{x:List aF}(h:aZ w base v x)(j:ZW w w'):aZ w' base v x:=aT h j
theorem aZ.fresh{w:World}{base:Nat}{v:Value}{x:List aF}(h:aZ w base v x):dk base w v:=ak h
theorem aZ.nil(w:World)(base:Nat):aZ w base (.slice none 0 0) []:=dd w base _ _
theorem aZ.snoc{w:World}{base:Nat}{v:Value}{l:List aF}{x:aF}(h:w.ownsRow base 158 4 v (l.length+1) (l.flatMap aF.cells++x.cells)):aZ w base v (l++[x]):=by unfold aZ;rw[List.length_append,List.length_singleton,List.flatMap_append];simpa using h
def aC.cells(x:aC):List Value:=[.int .i64 x.src,.string x.label,.int .i64 x.sort,.int .i64 x.dst]
theorem aC.bh(x:aC):x.cells.length=4:=rfl
theorem aC.cells_one(x:aC):∀u∈x.cells,u.oneCell'=true:=by intro u hu;simp[aC.cells]at hu;rcases hu with rfl|rfl|rfl|rfl<;>rfl
def bD(w:World)(base:Nat)(v:Value)(l:List aC):Prop:=w.ownsRow base 213 4 v l.length (l.flatMap aC.cells)
theorem bD.sl{w:World}{base:Nat}{v:Value}{l:List aC}(h:bD w base v l)(hl:l.length<=4294967296):dJ w w.heap.size v l:=by
 have H:=h;obtain⟨_,hh⟩:=h;rcases hh with⟨rfl,T⟩|⟨J,cap,R,rfl,hg,I,U,_⟩;·have:l=[]:=List.length_eq_zero_iff.1 T;subst this;exact⟨none,0,rfl,Nat.le_refl _,by simp,fun h=>absurd rfl h⟩
 ·refine⟨_,_,rfl,U,hl,fun _=>⟨J,0,rfl,(Array.getElem?_eq_some_iff.1 I).1,fE.of w J l 0 (fun j hj=>?_)⟩⟩;rw[Nat.zero_add];have e:=fun i(hi:i<4)(x:Value)(hx:(l[j].cells)[i]?=some x)=>cQ H rfl (j*4+i) x ((dT aC.cells 4 aC.bh l j hj i hi).trans hx);exact⟨e 0 (by omega) _ rfl,e 1 (by omega) _ rfl,e 2 (by omega) _ rfl,e 3 (by omega) _ rfl⟩
theorem bD.aA{w w':World}{base:Nat}{v:Value}{x:List aC}{l:List Nat}(h:bD w base v x)(j:aH w w' l)(hd:∀b∈ae v,b∉l):bD w' base v x:=aK h j hd
theorem bD.below{w w':World}{base:Nat}{v:Value}{x:List aC}(h:bD w base v x)(j:ZW w w'):bD w' base v x:=aT h j
theorem bD.fresh{w:World}{base:Nat}{v:Value}{x:List aC}(h:bD w base v x):dk base w v:=ak h
theorem bD.nil(w:World)(base:Nat):bD w base (.slice none 0 0) []:=dd w base _ _
theorem bD.snoc{w:World}{base:Nat}{v:Value}{l:List aC}{x:aC}(h:w.ownsRow base 213 4 v (l.length+1) (l.flatMap aC.cells++x.cells)):bD w base v (l++[x]):=by unfold bD;rw[List.length_append,List.length_singleton,List.flatMap_append];simpa using h
