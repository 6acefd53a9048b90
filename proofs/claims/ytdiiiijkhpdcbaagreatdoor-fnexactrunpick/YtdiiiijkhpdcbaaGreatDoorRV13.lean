import Derived.Test.YtdiiiijkhpdcbaaGreatDoorRV08
import Derived.Test.YtdiiiijkhpdcbaaGreatDoorRV06
import Derived.Test.YtdiiiijkhpdcbaaGreatDoorRV07
import Derived.Test.YtdiiiijkhpdcbaaGreatDoorRV04
import Derived.Deep.DrawnRows
namespace Go.Proofs.YtdiiiijkhpdcbaaGreatDoor
open Go.RowKit
set_option linter.unusedSimpArgs false
set_option linter.unusedVariables false
set_option maxHeartbeats 2000000
set_option maxRecDepth 100000
def gO(k:Nat):aF:=⟨fL (k+0),fL (k+1),fL (k+2),((k+3:Nat):Int)⟩
def ew(k n:Nat):List aF:=(List.range n).map fun i=>gO (k+i*4)
theorem dm(k n:Nat):(ew k n).length=n:=by simp[ew]
theorem mB(k n i:Nat)(h:i<(ew k n).length):(ew k n)[i]=gO (k+i*4):=by simp[ew]
theorem Bu(k0:Nat)(ns:List aF)(v:Value)(w:World)(B:Nat)(h1:1<=k0)(hk:k0+ns.length*4<=5900000)(hv:bq w w.heap.size v ns)(aN:oH B w v):Calls Tryz.prog 64 #[v,.int .i64 k0] w fun e w'=>e=.returned (.int .i64 ((k0+ns.length*4:Nat):Int))/\bq w' w'.heap.size v (ew k0 ns.length)/\w.grownBy w' v.ownBlock:=by
 obtain⟨ao,cap,rfl,hc,hm,hr⟩:=hv;have HR:=aa hr;have HO:=aa aN;obtain⟨n,hn⟩:∃n,ns.length=n:=⟨_,rfl⟩;rw[hn]at hc hk hm|-;have HN:=aa hn;clear hr aN hn;by_cases bs:n=0;·
  subst bs;go_enter Tryz.func64,Tryz.ntmps64;go_wp2_with fail;go_loopw[1,5](fun kv i wr=>i=.int .i64 0/\kv=.int .i64 (k0:Int)/\wr=w)(fun _ _ _=>0);case atStart=>exact⟨rfl,rfl,rfl⟩
  case round=>obtain⟨rfl,rfl,rfl⟩:=hrel;go_wp2_with fail;go_ret;exact⟨aY rfl,⟨_,_,rfl,by simp[ew],by simp[ew],fun h=>absurd rfl h⟩,gw _ _⟩
 ·have bL:ns≠[]:=fun h=>bs (by rw[<-HN.out,h];rfl);obtain⟨b,o,rfl,br,aR⟩:=HR.out bL;obtain⟨hB,-,bl⟩:=HO.out.free b rfl;have bv:Hid (∀i,i<n->∃J,dR w b (o+i*4) J):=aa (fun i hi=>⟨_,aR.get i (by rw[HN.out];exact hi)⟩);have bx:=aa bl;clear aR bl;go_enter Tryz.func64,Tryz.ntmps64;go_wp2_with fail;go_loopw[1,5](fun kv i wr=>∃k:Nat,k<=n/\i=.int .i64 k/\kv=.int .i64 ((k0+k*4:Nat):Int)/\(∀j,j<k->dR wr b (o+j*4) (gO (k0+j*4)))/\(∀j,j<n->∃J,dR wr b (o+j*4) J)/\(∀j,wr.frozen? ⟨b,j,none⟩=false)/\w.grownBy wr (some b))(fun _ i _=>n-(intOf i).toNat);case atStart=>exact⟨0,Nat.zero_le _,rfl,rfl,fun j h=>absurd h (by omega),bv.out,bx.out,gw _ _⟩
  case round=>
   obtain⟨k,hk,rfl,rfl,T,ax,ac,ay⟩:=hrel;have HD:=aa T;have HE:=aa ax;have HF:=aa ac;have HG:=aa ay;have bk:b<wr.heap.size:=Nat.lt_of_lt_of_le br ay.size;by_cases bB:k<n;·
    obtain⟨J,g0,g1,g2,g3⟩:=ax k bB;have cm:=ac (o+k*4);obtain⟨kk,a4⟩:∃kk,k0+k*4=kk:=⟨_,rfl⟩;rw[a4];have b5:kk<5900001:=by omega
    have b4:1<=kk:=by omega
    have a8:=aa a4;have R:Hid (∀(W:World)(x:Value)(i j:Nat),i≠j->(W.setCell ⟨b,o+k*4+i,none⟩ x).cell? ⟨b,o+k*4+j,none⟩=W.cell? ⟨b,o+k*4+j,none⟩):=aa (fun W x i j bz=>World.cell?_setCell_other _ _ _ _ (fun h=>bz (by injection h with h1 h2;omega)));have C:=aa (And.intro g0 (And.intro g1 (And.intro g2 g3)));clear T ax ac ay a4 g1 g2 g3;go_wp2_with(first|(go_at_call 71;refine(cH (kk+2) _ _ (by omega) (by omega) (by omega)).mono ?_;rintro e w3⟨rfl,an⟩;have b3:b<w3.heap.size:=(by have:=an.size;(try simp at this);omega);have bp:=(fun j=>an.cell (p:=⟨b,j,none⟩) (by simpa using aL));have ad:Hid (∀j,w3.frozen? ⟨b,j,none⟩=false):=aa (fun j=>(an.frozen (p:=⟨b,j,none⟩) (by simpa using aL)).trans ((World.frozen?_setCell _ _ _ _).trans (U.out j)));have af:=aa bp;have bf:w3.cell? ⟨b,o+k*4+2,none⟩=some (.string J.label):=((af.out _).trans ((R.out _ _ 1 2 (by decide)).trans ((P.out _).trans ((R.out _ _ 0 2 (by decide)).trans ((l.out _).trans C.out.2.2.1)))));have bi:w3.cell? ⟨b,o+k*4+3,none⟩=some (.int .i64 J.sort):=((af.out _).trans ((R.out _ _ 1 3 (by decide)).trans ((P.out _).trans ((R.out _ _ 0 3 (by decide)).trans ((l.out _).trans C.out.2.2.2)))));have ch:=ad.out (o+k*4+2);have cl:=ad.out (o+k*4+3);have a7:Hid (w.grownBy w3 (some b)):=aa (e9 (dO a6.out _ _) an);clear an bp)|(go_at_call 71;refine(cH (kk+1) _ _ (by omega) (by omega) (by omega)).mono ?_;rintro e w2⟨rfl,al⟩;have aL:b<w2.heap.size:=(by have:=al.size;(try simp at this);omega);have bn:=(fun j=>al.cell (p:=⟨b,j,none⟩) (by simpa using az));have U:Hid (∀j,w2.frozen? ⟨b,j,none⟩=false):=aa (fun j=>(al.frozen (p:=⟨b,j,none⟩) (by simpa using az)).trans ((World.frozen?_setCell _ _ _ _).trans (I.out j)));have P:=aa bn;have bb:w2.cell? ⟨b,o+k*4+1,none⟩=some (.string J.to):=((P.out _).trans ((R.out _ _ 0 1 (by decide)).trans ((l.out _).trans C.out.2.1)));have b1:w2.cell? ⟨b,o+k*4+2,none⟩=some (.string J.label):=((P.out _).trans ((R.out _ _ 0 2 (by decide)).trans ((l.out _).trans C.out.2.2.1)));have b2:w2.cell? ⟨b,o+k*4+3,none⟩=some (.int .i64 J.sort):=((P.out _).trans ((R.out _ _ 0 3 (by decide)).trans ((l.out _).trans C.out.2.2.2)));have cd:=U.out (o+k*4+1);have cf:=U.out (o+k*4+2);have cg:=U.out (o+k*4+3);have a6:Hid (w.grownBy w2 (some b)):=aa (e9 (dO a5.out _ _) al);clear al bn)|(go_at_call 71;refine(cH (kk+0) _ _ (by omega) (by omega) (by omega)).mono ?_;rintro e w1⟨rfl,ah⟩;have az:b<w1.heap.size:=(by have:=ah.size;(try simp at this);omega);have bm:=(fun j=>ah.cell (p:=⟨b,j,none⟩) (by simpa using bk));have I:Hid (∀j,w1.frozen? ⟨b,j,none⟩=false):=aa (fun j=>(ah.frozen (p:=⟨b,j,none⟩) (by simpa using bk)).trans (HF.out j));have l:=aa bm;have a9:w1.cell? ⟨b,o+k*4,none⟩=some (.string J.cE):=((l.out _).trans C.out.1);have bN:w1.cell? ⟨b,o+k*4+1,none⟩=some (.string J.to):=((l.out _).trans C.out.2.1);have bR:w1.cell? ⟨b,o+k*4+2,none⟩=some (.string J.label):=((l.out _).trans C.out.2.2.1);have b0:w1.cell? ⟨b,o+k*4+3,none⟩=some (.int .i64 J.sort):=((l.out _).trans C.out.2.2.2);have b7:=I.out (o+k*4);have ca:=I.out (o+k*4+1);have cb:=I.out (o+k*4+2);have cc:=I.out (o+k*4+3);have a5:Hid (w.grownBy w1 (some b)):=aa (e9 HG.out ah);clear ah bm));go_roundw;case rel=>
     have hs:∀(W:World)(x:Value)(p q:Nat),p≠q->(W.setCell ⟨b,p,none⟩ x).cell? ⟨b,q,none⟩=W.cell? ⟨b,q,none⟩:=fun W x p q bM=>World.cell?_setCell_other _ _ _ _ (fun h=>bM (by injection h));have ab:∀x,(x<o+k*4\/o+k*4+4<=x)->(((w3.setCell ⟨b,o+k*4+2,none⟩ (.string (fL (kk+2)))).setCell ⟨b,o+k*4+3,none⟩ (.int .i64 ((kk:Int)+1+1+1)))).cell? ⟨b,x,none⟩=wr.cell? ⟨b,x,none⟩:=fun x hx=>by rw[hs _ _ _ _ (by omega),hs _ _ _ _ (by omega),af.out,hs _ _ _ _ (by omega),P.out,hs _ _ _ _ (by omega),l.out]
     have aM:dR (((w3.setCell ⟨b,o+k*4+2,none⟩ (.string (fL (kk+2)))).setCell ⟨b,o+k*4+3,none⟩ (.int .i64 ((kk:Int)+1+1+1)))) b (o+k*4) (gO kk):=by
      refine⟨?_,?_,?_,?_⟩;·rw[hs _ _ _ _ (by omega),hs _ _ _ _ (by omega),af.out,hs _ _ _ _ (by omega),P.out];refine(World.cell?_setCell_same _ _ _ (u:=.string J.cE) (by exact a9)).trans (by simp[gO];try omega)
      ·rw[hs _ _ _ _ (by omega),hs _ _ _ _ (by omega),af.out];refine(World.cell?_setCell_same _ _ _ (u:=.string J.to) (by exact bb)).trans (by simp[gO];try omega)
      ·rw[hs _ _ _ _ (by omega)];refine(World.cell?_setCell_same _ _ _ (u:=.string J.label) (by exact bf)).trans (by simp[gO];try omega)
      ·refine(World.cell?_setCell_same _ _ _ (u:=.int .i64 J.sort) (by rw[hs _ _ _ _ (by omega)];exact bi)).trans (by simp[gO];try omega)
     have av:∀j x,j≠k->dR wr b (o+j*4) x->dR (((w3.setCell ⟨b,o+k*4+2,none⟩ (.string (fL (kk+2)))).setCell ⟨b,o+k*4+3,none⟩ (.int .i64 ((kk:Int)+1+1+1)))) b (o+j*4) x:=fun j x hj hx=>by obtain⟨a0,a1,a2,a3⟩:=hx;exact⟨(ab _ (by omega)).trans a0,(ab _ (by omega)).trans a1,(ab _ (by omega)).trans a2,(ab _ (by omega)).trans a3⟩
     refine⟨k+1,by omega,by go_num,by have:=a8.out;congr 1;omega,fun j hj=>?_,fun j hj=>?_,fun j=>?_,(dO (dO a7.out _ _) _ _)⟩;·
      by_cases aq:j=k;·subst aq;rw[a8.out];exact aM
      ·exact av j _ aq (HD.out j (by omega))
     ·by_cases aq:j=k;·subst aq;exact⟨_,aM⟩
      ·obtain⟨x,hx⟩:=HE.out j hj;exact⟨x,av j x aq hx⟩
     ·rw[World.frozen?_setCell,World.frozen?_setCell];exact ad.out j
    case measure=>simp[intOf];omega
   ·clear T ax ac ay;go_wp2_with fail;go_ret;refine⟨aY (by omega),⟨_,_,by rw[dm],by rw[dm];exact hc,by rw[dm];exact hm,fun _=>⟨b,o,rfl,Nat.lt_of_lt_of_le br HG.out.size,dB.of _ _ _ _ (fun j hj=>?_)⟩⟩,HG.out⟩;rw[mB];rw[dm]at hj;exact HD.out j (by omega)
theorem Be(k0 n:Nat)(v:Value)(w:World)(h1:1<=k0)(hk:k0+n*4<=5900000)(hv:bq w w.heap.size v (ew k0 n)):Calls Tryz.prog 123 #[v,.int .i64 k0] w fun e w'=>e=.returned (.int .i64 ((k0+n*4:Nat):Int))/\Below w.heap.size w w':=by
 obtain⟨ao,cap,rfl,hc,hm,hr⟩:=hv;rw[dm]at hc|-;have HR:=aa hr;clear hr;go_enter Tryz.func123,Tryz.ntmps123;go_wp2_with fail;go_loopw[1,5](fun kv i wr=>∃k:Nat,k<=n/\i=.int .i64 k/\kv=.int .i64 ((k0+k*4:Nat):Int)/\Below w.heap.size w wr)(fun _ i _=>n-(intOf i).toNat);case atStart=>exact⟨0,Nat.zero_le _,rfl,rfl,Below.refl _ _⟩
 case round=>
  obtain⟨k,a5,rfl,rfl,C⟩:=hrel;have R:=aa C;have a4:=C.size;by_cases a1:k<n;·
   have T:k<(ew k0 n).length:=by rw[dm];exact a1
   obtain⟨b,o,rfl,a0,an⟩:=HR.out (by intro h;rw[h]at T;simp at T);have I:=(an.get k T).carry a0 C;rw[mB]at I;obtain⟨kk,aq⟩:∃kk,k0+k*4=kk:=⟨_,rfl⟩;rw[aq]at I|-;have a3:kk<5900001:=by omega
   have a2:1<=kk:=by omega
   have aR:=aa aq;obtain⟨c0,c1,c2,c3⟩:=I;simp only[gO]at c0 c1 c2 c3;clear C an aq;go_wp2_with fail;refine be (by kernel_rfl) (by kernel_rfl) (fun W l=>?_);have U:=bj W;have f0:=au (w:=W) (b:=b) (by rw[l];exact c0);have f1:=au (w:=W) (b:=b) (by rw[l];exact c1);have f2:=au (w:=W) (b:=b) (by rw[l];exact c2);have f3:=au (w:=W) (b:=b) (by rw[l];exact c3);have j:=aa l;clear l;repeat(go_big_quiet_step((go_at_call 71;exact bh (cH (kk+0) _ _ (by omega) (by omega) (by omega)))))
   refine wpQuiet_nil ?_;intro w1 J;have ay:=f0 ⟨w1,J⟩;have ac:=f1 ⟨w1,J⟩;have ad:=f2 ⟨w1,J⟩;have af:=f3 ⟨w1,J⟩;dsimp only at ay ac ad af;have av:Hid (Below w.heap.size w w1):=aa (R.out.trans ((by rw[j.out]at J;exact J:Below wr.heap.size wr w1).mono R.out.size));clear j U J f0 f1 f2 f3;go_wp2_with fail;refine be (by kernel_rfl) (by kernel_rfl) (fun W l=>?_);have U:=bj W;have f1:=au (w:=W) (b:=b) (by rw[l];exact ac);have f2:=au (w:=W) (b:=b) (by rw[l];exact ad);have f3:=au (w:=W) (b:=b) (by rw[l];exact af);have j:=aa l;clear l;repeat(go_big_quiet_step((go_at_call 71;exact bh (cH (kk+1) _ _ (by omega) (by omega) (by omega)))))
   refine wpQuiet_nil ?_;intro w2 P;have az:=f1 ⟨w2,P⟩;have ah:=f2 ⟨w2,P⟩;have al:=f3 ⟨w2,P⟩;dsimp only at az ah al;have ax:Hid (Below w.heap.size w w2):=aa (av.out.trans ((by rw[j.out]at P;exact P:Below w1.heap.size w1 w2).mono av.out.size));clear j U P f1 f2 f3;go_wp2_with fail;refine be (by kernel_rfl) (by kernel_rfl) (fun W l=>?_);have U:=bj W;have f2:=au (w:=W) (b:=b) (by rw[l];exact ah);have f3:=au (w:=W) (b:=b) (by rw[l];exact al);have j:=aa l;clear l;repeat(go_big_quiet_step((go_at_call 71;exact bh (cH (kk+2) _ _ (by omega) (by omega) (by omega)))))
   refine wpQuiet_nil ?_;intro w3 ab;have aL:=f2 ⟨w3,ab⟩;have aM:=f3 ⟨w3,ab⟩;dsimp only at aL aM;have aN:Hid (Below w.heap.size w w3):=aa (ax.out.trans ((by rw[j.out]at ab;exact ab:Below w2.heap.size w2 w3).mono ax.out.size));clear j U ab f2 f3;go_wp2_with fail;all_goals
    go_roundw;case rel=>exact⟨k+1,by omega,by go_num,by have:=aR.out;congr 1;omega,aN.out⟩
    case measure=>simp[intOf];omega
  ·clear C;go_wp2_with fail;go_ret;exact⟨aY (by omega),R.out⟩
section
open Go.RowKit Go.ChangeShapes Go.WideShapes
theorem GJ(l:List Int)(ao:Option Addr)(cap:Nat)(w:World)(hl:l.length<=1048576)(hr:l≠[]->∃b o,ao=some ⟨b,o,none⟩/\b<w.heap.size/\vr w b o l):Calls Tryz.prog 25 #[.slice ao l.length cap] w fun e w'=>∃v',e=.returned v'/\dM w' w'.heap.size v' l/\oH w.heap.size w' v'/\Below w.heap.size w w':=by
 have HR:=aa hr;obtain⟨i0,hi,aq,av,ax⟩:=info_parts Tryz.qI;obtain⟨M,hM⟩:∃M,M=madeCells (Value.int .i64 0).cells (l.length*1):=⟨_,rfl⟩;have an:M.size=l.length*1:=by rw[hM,size_madeCells]
 have aN:∀W:World,(Instr.makeSlice 23 (.int .i64 (l.length:Int)) (.int .i64 (l.length:Int))).run Tryz.prog W=.ok (.slice (some ⟨W.heap.size,0,none⟩) l.length l.length) (W.alloc (.cells M 2)):=fun W=>by have h:=run_make (P:=Tryz.prog) W 23 2 i0 _ Tryz.underlying23 hi aq .i64 .i64 (l.length:Int) (l.length:Int) (by omega) (by omega) (by rw[ax];omega) (by omega);rw[av]at h;simp only[Int.toNat_natCast]at h;rw[<-hM]at h;exact h
 have ay:=aa an;clear hr hM an hi aq av ax;go_enter Tryz.func25,Tryz.ntmps25;go_wp2_with fail;go_loopw[4](fun i wr=>∃k:Nat,k<=l.length/\i=.int .i64 k/\(∀j(h:j<l.length),j<k->wr.cell? ⟨w.heap.size,j,none⟩=some (.int .i64 l[j]))/\(∀j,j<l.length->∃y,wr.cell? ⟨w.heap.size,j,none⟩=some y)/\(∀j,wr.frozen? ⟨w.heap.size,j,none⟩=false)/\w.heap.size<wr.heap.size/\Below w.heap.size w wr)(fun i _=>l.length-(intOf i).toNat);case atStart=>
  refine⟨0,Nat.zero_le _,rfl,fun j _ h=>absurd h (by omega),fun j hj=>?_,fun j=>?_,by simp,ae _ _⟩;·
   have aL:j<M.size:=by rw[ay.out];omega
   exact⟨M[j],by simp[aL]⟩
  ·simp
 case round=>
  obtain⟨k,hk,rfl,T,C,J,af,U⟩:=hrel;have HA:=aa T;have HC:=aa C;have al:=aa J;have I:=aa U;clear T U;by_cases ac:k<l.length;·
   obtain⟨b,o,rfl,az,ab⟩:=HR.out (by intro h;simp[h]at ac);have ad:=(ab.carry az I.out) k ac;obtain⟨x1,ah⟩:∃x1,x1=l[k]:=⟨_,rfl⟩;rw[<-ah]at ad;have HN:=aa ah;clear ah ab;obtain⟨y0,g0⟩:=C k ac;have f0:=J k;clear C J;go_wp2_with fail;all_goals
    go_roundw;case rel=>
     refine⟨k+1,by omega,by go_num,fun j hj aM=>?_,fun j hj=>?_,fun j=>?_,?_,?_⟩;·
      by_cases R:j=k;·subst R;rw[<-HN.out];exact World.cell?_setCell_same _ _ _ g0
      ·rw[World.cell?_setCell_other _ _ _ _ (by intro e;injection e with _ e2;omega)];exact HA.out j hj (by omega)
     ·by_cases R:j=k;·subst R;exact⟨_,World.cell?_setCell_same _ _ _ g0⟩
      ·obtain⟨y,hy⟩:=HC.out j hj;exact⟨y,by rw[World.cell?_setCell_other _ _ _ _ (by intro e;injection e with _ e2;omega)];exact hy⟩
     ·rw[World.frozen?_setCell];exact al.out j
     ·rw[World.size_setCell];exact af
     ·first|exact I.out.setCell (p:=⟨w.heap.size,k,none⟩) (Nat.le_refl _) _|exact I.out.drew.setCell (p:=⟨w.heap.size,k,none⟩) (Nat.le_refl _) _
    case measure=>simp[intOf];omega
  ·go_wp2_with fail;go_ret;refine⟨_,rfl,⟨_,_,rfl,Nat.le_refl _,by omega,fun aR=>⟨w.heap.size,0,rfl,af,fun j hj=>?_⟩⟩,⟨fun b hb=>by simp[Value.ownBlock]at hb;subst hb;exact⟨Nat.le_refl _,af,al.out⟩⟩,I.out⟩;rw[Nat.zero_add];exact HA.out j hj (by omega)
theorem Fw(l:List Int)(v u:Value)(w:World)(hv:dM w w.heap.size v l)(hu:dM w w.heap.size u l):Calls Tryz.prog 27 #[v,u] w fun e w'=>e=.returned (.bool true)/\Below w.heap.size w w':=by
 obtain⟨ao,cap,rfl,hc,hm,hr⟩:=hv;obtain⟨ah,ad,rfl,al,an,T⟩:=hu;have HR:=aa hr;have ab:=aa T;clear hr T;go_enter Tryz.func27,Tryz.ntmps27;go_wp2_with fail;go_loopw[5](fun i wr=>∃k:Nat,k<=l.length/\i=.int .i64 k/\Below w.heap.size w wr)(fun i _=>l.length-(intOf i).toNat);case atStart=>exact⟨0,Nat.zero_le _,rfl,Below.refl _ _⟩
 case round=>
  obtain⟨k,hk,rfl,C⟩:=hrel;have j:=aa C;have af:=C.size;clear C;by_cases J:k<l.length;·
   obtain⟨b,o,rfl,ac,P⟩:=HR.out (by intro h;simp[h]at J);obtain⟨b',o',rfl,R,I⟩:=ab.out (by intro h;simp[h]at J);have c0:=(P.carry ac j.out) k J;have d0:=(I.carry R j.out) k J;obtain⟨x1,U⟩:∃x1,x1=l[k]:=⟨_,rfl⟩;rw[<-U]at c0 d0;clear U P I;go_wp2_with fail;go_region;go_wp2_with fail;all_goals
    go_roundw;case rel=>exact⟨k+1,by omega,by go_num,by first|exact j.out|exact j.out.drew|exact j.out.drew.drew⟩
    case measure=>simp[intOf];omega
  ·go_wp2_with fail;go_ret;exact⟨rfl,j.out⟩
theorem BE{H:Type}{enc:TypeId×Value->H}{w:World}{base:Nat}{spare:Nat->Bool}{held:Bool}{fuel:Nat}{a0:Option Addr}{l P:Nat}{x:DataW H×List MemPlace}(h:DataW.trod enc Tryz.prog w base spare held fuel 23 [.slice a0 l P]=some x):∃ns:List Int,ns.length=l/\(∀z∈ns,-9223372036854775808<=z/\z<=9223372036854775807)/\ns.length<=maxLen/\(ns≠[]->∃b o,a0=some ⟨b,o,none⟩/\b<w.heap.size/\vr w b o ns):=by
 rcases Go.Deep.open_slice Tryz.underlying23 h with⟨I,_⟩|⟨a,len,cap,m,n,D,Pl,T,hb,hl,hm,al,hx,U⟩;·simp at I;obtain⟨rfl,rfl,rfl⟩:=I;exact⟨[],rfl,by simp,Nat.zero_le _,fun h=>absurd rfl h⟩
 ·simp at T;obtain⟨rfl,rfl,rfl⟩:=T;have ao:l<=m:=by rw[al];split<;>omega
  have each:∀i,i<l->∃z:Int,(-9223372036854775808<=z/\z<=9223372036854775807)/\∀b o,a=⟨b,o,none⟩->w.cell? ⟨b,o+i,none⟩=some (.int .i64 z):=by
   intro i hi;obtain⟨af,R,h2⟩:=U i (by omega);rw[Tryz.JU]at R;obtain⟨_,ab,C⟩:=World.cells?_some R;obtain⟨z,e0,_,hw⟩:=DataW.trod_int Tryz.underlying2 h2;refine⟨z,by simp[Lit.wf,IntKind.min,IntKind.max,IntKind.signed,IntKind.bits]at hw;exact hw,fun b o ah=>?_⟩;subst ah;have pl:((⟨b,o,none⟩:Addr).add (i*1)).add 0=⟨b,o+i,none⟩:=by rw[Go.Deep.add_add];unfold Addr.add;split<;>simp_all
   have:=C 0 (by omega);rw[pl,e0]at this;exact this
  obtain⟨q,hq⟩:=Go.Deep.choose_lt each;refine⟨(List.range l).map q,by simp,?_,by simp;omega,fun an=>?_⟩;·intro x hx;obtain⟨i,hi,rfl⟩:=List.mem_map.1 hx;exact(hq i (List.mem_range.1 hi)).1
  ·have ac:0<l:=by
    rcases Nat.eq_zero_or_pos l with I|I;·subst I;simp at an
    ·exact I
   obtain⟨b,o,s⟩:=a;have J:s=none:=by obtain⟨af,R,h2⟩:=U 0 (by omega);rw[Tryz.JU]at R;obtain⟨_,ab,C⟩:=World.cells?_some R;obtain⟨z,e0,_⟩:=DataW.trod_int Tryz.underlying2 h2;have I:=C 0 (by omega);rw[e0]at I;have:=World.cell?_spot I;simpa[Addr.add]using this
   subst J;have ad:vr w b o ((List.range l).map q):=fun j hj=>by simp only[List.getElem_map,List.getElem_range];exact(hq j (by simpa using hj)).2 b o rfl
   refine⟨b,o,rfl,?_,ad⟩;have:=(hq 0 ac).2 b o rfl;exact World.block_lt_of_cell? w _ this
end
theorem aI(w:World)(b o:Nat)(x:Value):aG w (w.setCell ⟨b,o,none⟩ x) [b]:=aG.setCell ⟨rfl,rfl,rfl,Nat.le_refl _,fun _ _ _=>rfl⟩ o x
theorem bH{w:World}{base j e size n:Nat}{v:Value}{I:List Value}(h:w.ownsRow base e size v n I)(P:j<=base):w.ownsRow j e size v n I:=by
 obtain⟨J,C⟩:=h;refine⟨J,?_⟩;rcases C with C|⟨g,cap,l,a,b,c⟩;·exact .inl C
 ·exact .inr ⟨g,cap,l,a,Nat.le_trans P b,c⟩
theorem gh{P:Program}{T:Array Oper}{o:Oper}{a:Act}{w:World}{K:Act->World->Prop}{Q:Exit->Act->World->Prop}{E:Prop}(hg:o.guard=none)(s x:Operand)(t:TypeId)(ac:o.op=Op.call {callee:=Callee.builtin Builtin.append,args:=#[s,x],argTypes:=#[t,t]})(base:Nat)(e:TypeId)(i:TypeInfo)(z:Value)(size bytes:Nat)(h1:P.underlying t=some (.slice e))(h2:P.info? e=some i)(h3:i.zero=some z)(h4:i.size=size)(h5:i.bytes=bytes)(h6:z.cells.size=size)(h7:0<size)(v:Value)(n:Nat)(xs:List Value)(hs:a.eval s=v)(J:w.ownsRow base e size v n xs)(U:Addr)(m c:Nat)(l:List Value)(hx:a.eval x=.slice (some U) m c)(hn:l.length=m*size)(hc:∀j u,l[j]?=some u->w.cell? (U.add j)=some u)(ab:∀u∈l,u.oneCell'=true)(b1:n+m<=maxLen)(b2:(n+m)*bytes<=140737488355328)(C:base<=w.heap.size)(hK:∀I w',w'.ownsRow base e size I (n+m) (xs++l)->w.grownBy w' v.ownBlock->(I.ownBlock=v.ownBlock\/I.ownBlock=some w.heap.size)->K (a.put o.dst I) w'):if Region.wanted o (yielded T a.tmps)=true then Oper.wp P o a w K Q else E:=by
 have hw:Region.wanted o (yielded T a.tmps)=true:=by simp[Region.wanted,hg]
 rw[if_pos hw];obtain⟨I,w',R,r1,r2,_,r3⟩:=run_append_own_at (P:=P) w base t o.type e i z size bytes h1 h2 h3 h4 h5 h6 h7 v n xs J U m c l hn hc ab b1 b2 C;unfold Oper.wp;simp[execOp,ac,resolve,invoke,builtin,hs,hx,R,Result.andThen];exact hK I w' r1 r2 r3
theorem aG.sub{w w':World}{l l':List Nat}(h:aG w w' l)(J:∀b∈l,b∈l'):aG w w' l':=⟨h.os,h.tape,h.output,h.size,fun b j I=>h.block b j (fun C=>I (J b C))⟩
structure aW(w:World)(b:Nat)(vs:List Value):Prop where
 cell:∀i v,vs[i]?=some v->w.cell? ⟨b,i,none⟩=some v
 fz:∀o,w.frozen? ⟨b,o,none⟩=false
 lt:b<w.heap.size
theorem aW.aB{w w':World}{b:Nat}{I:List Value}{l:List Nat}(h:aW w b I)(j:aG w w' l)(C:b∉l):aW w' b I:=⟨fun i v J=>j.eS (h.cell i v J) C,fun o=>j.nT h.lt (h.fz o) C,Nat.lt_of_lt_of_le h.lt j.size⟩
theorem aW.set{w:World}{b:Nat}{l:List Value}(h:aW w b l)(k:Nat)(C:k<l.length)(y:Value):aW (w.setCell ⟨b,k,none⟩ y) b (l.set k y):=by
 refine⟨fun i v j=>?_,fun o=>(World.frozen?_setCell ..).trans (h.fz o),by rw[World.size_setCell];exact h.lt⟩;by_cases hi:k=i;·subst hi;rw[List.getElem?_set_self C]at j;injection j with j;subst j;exact World.cell?_setCell_same _ _ _ (h.cell k l[k] (by simp[C]))
 ·rw[List.getElem?_set_ne hi]at j;rw[World.cell?_setCell_other _ _ _ _ (by intro e;injection e with _ I;exact hi I)];exact h.cell i v j
theorem aW.new(w:World)(j:List Value)(T:TypeId):aW (w.alloc (.cells j.toArray T)) w.heap.size j:=by refine⟨fun i v I=>?_,fun o=>by simp,by simp⟩;obtain⟨l,C⟩:=List.getElem?_eq_some_iff.1 I;simp[l,C]
def gZ(sv:Value)(m:aF)(c:Int):Value:=.agg #[sv,.string m.cE,.string m.to,.string m.label,.int .i64 m.sort,.int .i64 c]
theorem GB(x:aF)(j:Int)(w:World)(C:x.ok)(R:0<=j)(T:j<=1048576):Calls Tryz.prog 99 #[x.val,.int .i64 j] w fun e w'=>∃r:Int,e=.returned (.int .i64 r)/\r<=1048576/\(0<=r->r<=j/\x.fit)/\Below w.heap.size w w':=by
 unfold aF.ok maxLen at C;have l:=aa (show x.fit=(x.cE.size<=1048576/\x.to.size<=1048576/\x.label.size<=1048576)from rfl);unfold aF.val;by_cases I:j-x.cE.size<0;·go_enter Tryz.func99,Tryz.ntmps99;go_wp2_with fail;go_ret;exact⟨_,rfl,by omega,fun h=>absurd h (by omega),ae _ _⟩
 ·skip;by_cases J:j-x.cE.size-x.to.size<0;·go_enter Tryz.func99,Tryz.ntmps99;go_wp2_with fail;go_ret;exact⟨_,rfl,by omega,fun h=>absurd h (by omega),ae _ _⟩
  ·skip;by_cases P:j-x.cE.size-x.to.size-x.label.size<0;·go_enter Tryz.func99,Tryz.ntmps99;go_wp2_with fail;go_ret;exact⟨_,rfl,by omega,fun h=>absurd h (by omega),ae _ _⟩
   ·skip;go_enter Tryz.func99,Tryz.ntmps99;go_wp2_with fail;go_ret;exact⟨_,rfl,by omega,fun h=>⟨by omega,by rw[l.out];omega⟩,ae _ _⟩
theorem EE(l:List aF)(C:Int)(ao:Option Addr)(cap:Nat)(w:World)(ok:∀x∈l,x.ok)(hl:l.length<=maxLen)(h0:0<=C)(h1:C<=1048576)(hr:l≠[]->∃b o,ao=some ⟨b,o,none⟩/\b<w.heap.size/\dB w b o l):Calls Tryz.prog 49 #[.slice ao l.length cap,.int .i64 C] w fun e w'=>∃r:Int,e=.returned (.int .i64 r)/\r<=1048576/\(0<=r->r+(l.length:Int)<=C/\∀x∈l,x.fit)/\Below w.heap.size w w':=by
 have HR:=aa hr;have av:=aa ok;unfold maxLen at hl;clear hr ok;by_cases a0:(l.length:Int)<=C;·
  go_enter Tryz.func49,Tryz.ntmps49;go_wp2_with fail;go_loopw[1,5](fun lf i wr=>∃(k:Nat)(z:Int),k<=l.length/\i=.int .i64 k/\lf=.int .i64 z/\0<=z/\z<=1048576/\z+(l.length:Int)<=C/\(∀j(h:j<l.length),j<k->l[j].fit)/\Below w.heap.size w wr)(fun _ i _=>l.length-(intOf i).toNat);case atStart=>exact⟨0,C-(l.length:Int),Nat.zero_le _,rfl,rfl,by omega,by omega,by omega,fun j _ h=>absurd h (by omega),Below.refl _ _⟩
  case round=>
   obtain⟨k,z,hk,rfl,rfl,ay,az,aL,T,P⟩:=hrel;have HA:=aa T;have J:=aa P;have ab:=P.size;clear T P;by_cases ac:k<l.length;·
    obtain⟨b,o,rfl,ax,U⟩:=HR.out (by intro h;simp[h]at ac);have I:=(U.get k ac).carry ax J.out;obtain⟨x1,R⟩:∃x1,x1=l[k]:=⟨_,rfl⟩;rw[<-R]at I;have HN:=aa R;have aq:=aa (show x1.ok by rw[R];exact av.out _ (List.getElem_mem ac));clear R U;have aN:b<wr.heap.size:=I.lt;obtain⟨c0,c1,c2,c3⟩:=I;go_wp2_with(go_at_call 99;refine(GB x1 z _ aq.out ay az).mono ?_;rintro e w1⟨r,rfl,aM,an,ah⟩;have af:=aa an;have ad:=aa ah;clear an ah);all_goals
     first
      |(go_ret;exact⟨_,rfl,by omega,fun h=>absurd h (by omega),J.out.trans (ad.out.mono ab)⟩)|
       (
        go_roundw;case rel=>
         refine⟨k+1,r,by omega,by go_num,rfl,by omega,aM,by have:=(af.out (by omega)).1;omega,fun j hj aR=>?_,J.out.trans (ad.out.mono ab)⟩;by_cases al:j=k;·subst al;rw[<-HN.out];exact(af.out (by omega)).2
         ·exact HA.out j hj (by omega)
        case measure=>simp[intOf];omega)
   ·go_wp2_with fail;go_ret;refine⟨_,rfl,by omega,fun _=>⟨aL,fun x hx=>?_⟩,J.out⟩;obtain⟨j,hj,rfl⟩:=List.getElem_of_mem hx;exact HA.out j hj (by omega)
 ·go_enter Tryz.func49,Tryz.ntmps49;go_wp2_with fail;go_ret;exact⟨_,rfl,by omega,fun h=>absurd h (by omega),Below.refl _ _⟩
theorem bq.sep{w w':World}{v:Value}{x:List aF}{l:List Nat}(h:bq w w.heap.size v x)(C:aG w w' l)(hd:∀b∈ag v,b∉l):bq w' w'.heap.size v x:=by have H:=h;obtain⟨J,P,rfl,_⟩:=h;exact H.aB C.size (fun b I j=>C.block b j (hd b ((aS rfl).1 I)))
theorem bq.tu{w w':World}{v:Value}{x:List aF}{l:List Nat}(h:bq w w.heap.size v x)(C:aG w w' l)(hd:∀b∈l,w.heap.size<=b):bq w' w'.heap.size v x:=by have H:=h;obtain⟨J,P,rfl,_⟩:=h;exact H.aB C.size (fun b R j=>C.block b j (fun I=>absurd (hd b I) (by omega)))
theorem bq.shape{w:World}{B:Nat}{v:Value}{x:List aF}(h:bq w B v x):∃p c,v=.slice p x.length c:=by obtain⟨j,l,e,_⟩:=h;exact⟨j,l,e⟩
def aF.cells(x:aF):List Value:=[.string x.cE,.string x.to,.string x.label,.int .i64 x.sort]
theorem aF.bg(x:aF):x.cells.length=4:=rfl
theorem aF.cells_one(x:aF):∀u∈x.cells,u.oneCell'=true:=by intro u hu;simp[aF.cells]at hu;rcases hu with rfl|rfl|rfl|rfl<;>rfl
def aX(w:World)(base:Nat)(v:Value)(l:List aF):Prop:=w.ownsRow base 158 4 v l.length (l.flatMap aF.cells)
theorem aX.sl{w:World}{base:Nat}{v:Value}{l:List aF}(h:aX w base v l)(hl:l.length<=4294967296):bq w w.heap.size v l:=by
 have H:=h;obtain⟨_,T⟩:=h;rcases T with⟨rfl,P⟩|⟨I,cap,J,rfl,hg,C,R,_⟩;·have:l=[]:=List.length_eq_zero_iff.1 P;subst this;exact⟨none,0,rfl,Nat.le_refl _,by simp,fun h=>absurd rfl h⟩
 ·refine⟨_,_,rfl,R,hl,fun _=>⟨I,0,rfl,(Array.getElem?_eq_some_iff.1 C).1,dB.of w I l 0 (fun j U=>?_)⟩⟩;rw[Nat.zero_add];have e:=fun i(hi:i<4)(x:Value)(hx:(l[j].cells)[i]?=some x)=>cQ H rfl (j*4+i) x ((dQ aF.cells 4 aF.bg l j U i hi).trans hx);exact⟨e 0 (by omega) _ rfl,e 1 (by omega) _ rfl,e 2 (by omega) _ rfl,e 3 (by omega) _ rfl⟩
theorem aX.aB{w w':World}{base:Nat}{v:Value}{x:List aF}{l:List Nat}(h:aX w base v x)(j:aG w w' l)(hd:∀b∈ag v,b∉l):aX w' base v x:=aK h j hd
theorem aX.below{w w':World}{base:Nat}{v:Value}{x:List aF}(h:aX w base v x)(j:Below w.heap.size w w'):aX w' base v x:=aQ h j
theorem aX.fresh{w:World}{base:Nat}{v:Value}{x:List aF}(h:aX w base v x):dy base w v:=ak h
theorem aX.nil(w:World)(base:Nat):aX w base (.slice none 0 0) []:=de w base _ _
theorem aX.snoc{w:World}{base:Nat}{v:Value}{l:List aF}{x:aF}(h:w.ownsRow base 158 4 v (l.length+1) (l.flatMap aF.cells++x.cells)):aX w base v (l++[x]):=by unfold aX;rw[List.length_append,List.length_singleton,List.flatMap_append];simpa using h
section
attribute [local go_sem ↓] Go.wp_at_zero Go.wp_at_succ
def mA(k n:Nat):List Int:=(List.range n).map fun i=>((k+i:Nat):Int)
theorem fo(k n:Nat):(mA k n).length=n:=by simp[mA]
theorem tG(k n i:Nat)(h:i<(mA k n).length):(mA k n)[i]=((k+i:Nat):Int):=by simp[mA]
theorem Bv(U:Nat)(l:List Int)(v:Value)(w:World)(B:Nat)(hk:U+l.length<=5900000)(hv:dM w w.heap.size v l)(R:oH B w v):Calls Tryz.prog 28 #[v,.int .i64 U] w fun e w'=>e=.returned (.int .i64 ((U+l.length:Nat):Int))/\dM w' w'.heap.size v (mA U l.length)/\aG w w' (ag v):=by
 obtain⟨ao,cap,rfl,hc,hm,hr⟩:=hv;have HR:=aa hr;have HO:=aa R;obtain⟨n,hn⟩:∃n,l.length=n:=⟨_,rfl⟩;rw[hn]at hc hk hm|-;have HN:=aa hn;clear hr R hn;by_cases ah:n=0;·
  subst ah;go_enter Tryz.func28,Tryz.ntmps28;go_wp2_with fail;go_loopw[1,5](fun kv i wr=>i=.int .i64 0/\kv=.int .i64 (U:Int)/\wr=w)(fun _ _ _=>0);case atStart=>exact⟨rfl,rfl,rfl⟩
  case round=>obtain⟨rfl,rfl,rfl⟩:=hrel;go_wp2_with fail;go_ret;exact⟨aY rfl,⟨_,_,rfl,Nat.zero_le _,Nat.zero_le _,fun h=>absurd rfl h⟩,(aG.refl _).sub (by simp)⟩
 ·have av:l≠[]:=fun h=>ah (by rw[<-HN.out,h];rfl);obtain⟨b,o,rfl,aq,T⟩:=HR.out av;obtain⟨hB,-,af⟩:=HO.out.free b rfl;have al:Hid (∀i,i<n->∃y,w.cell? ⟨b,o+i,none⟩=some y):=aa (fun i hi=>⟨_,T i (by rw[HN.out];exact hi)⟩);have an:=aa af;clear T af;go_enter Tryz.func28,Tryz.ntmps28;go_wp2_with fail;go_loopw[1,5](fun kv i wr=>∃k:Nat,k<=n/\i=.int .i64 k/\kv=.int .i64 ((U+k:Nat):Int)/\(∀j,j<k->wr.cell? ⟨b,o+j,none⟩=some (.int .i64 ((U+j:Nat):Int)))/\(∀j,j<n->∃y,wr.cell? ⟨b,o+j,none⟩=some y)/\(∀j,wr.frozen? ⟨b,j,none⟩=false)/\aG w wr [b])(fun _ i _=>n-(intOf i).toNat);case atStart=>exact⟨0,Nat.zero_le _,rfl,rfl,fun j h=>absurd h (by omega),al.out,an.out,(aG.refl _).sub (by simp)⟩
  case round=>
   obtain⟨k,az,rfl,rfl,C,J,I,ab⟩:=hrel;have HD:=aa C;have HE:=aa J;have HF:=aa I;have HA:=aa ab;by_cases P:k<n;·
    obtain⟨y,hy⟩:=J k P;have ax:=I (o+k);obtain⟨kk,ac⟩:∃kk,U+k=kk:=⟨_,rfl⟩;rw[ac];have ay:kk<5900001:=by omega
    have ad:=aa ac;clear C J I ab ac;go_wp2_with fail;go_roundw;case rel=>
     refine⟨k+1,P,by go_num,by have:=ad.out;congr 1;omega,fun j hj=>?_,fun j hj=>?_,fun j=>?_,?_⟩;·
      by_cases e:j=k;·subst e;rw[ad.out];exact World.cell?_setCell_same _ _ _ hy
      ·rw[World.cell?_setCell_other _ _ _ _ (by intro e;injection e with _ e2;omega)];exact HD.out j (by omega)
     ·by_cases e:j=k;·subst e;exact⟨_,World.cell?_setCell_same _ _ _ hy⟩
      ·obtain⟨z,hz⟩:=HE.out j hj;exact⟨z,by rw[World.cell?_setCell_other _ _ _ _ (by intro e;injection e with _ e2;omega)];exact hz⟩
     ·rw[World.frozen?_setCell];exact HF.out j
     ·exact(HA.out.trans (aI wr b (o+k) _)).sub (by simp)
    case measure=>simp[intOf];omega
   ·obtain rfl:k=n:=by omega
    clear C J I ab;go_wp2_with fail;go_ret;refine⟨aY rfl,⟨_,_,by rw[fo],by rw[fo];exact hc,by rw[fo];exact hm,fun _=>⟨b,o,rfl,Nat.lt_of_lt_of_le aq HA.out.size,fun j hj=>?_⟩⟩,HA.out.sub (by simp[ag,aJ])⟩;rw[tG];rw[fo]at hj;exact HD.out j hj
theorem Bf(P n:Nat)(v:Value)(w:World)(hk:P+n<=5900000)(hv:dM w w.heap.size v (mA P n)):Calls Tryz.prog 94 #[v,.int .i64 P] w fun e w'=>e=.returned (.int .i64 ((P+n:Nat):Int))/\Below w.heap.size w w':=by
 obtain⟨ao,cap,rfl,hc,hm,hr⟩:=hv;rw[fo]at hc hm|-;have HR:=aa hr;clear hr;go_enter Tryz.func94,Tryz.ntmps94;go_wp2_with fail;go_loopw[1,5](fun kv i wr=>∃k:Nat,k<=n/\i=.int .i64 k/\kv=.int .i64 ((P+k:Nat):Int)/\Below w.heap.size w wr)(fun _ i _=>n-(intOf i).toNat);case atStart=>exact⟨0,Nat.zero_le _,rfl,rfl,Below.refl _ _⟩
 case round=>
  obtain⟨k,ac,rfl,rfl,C⟩:=hrel;have j:=aa C;clear C;by_cases R:k<n;·
   have l:k<(mA P n).length:=by rw[fo];exact R
   obtain⟨b,o,rfl,U,I⟩:=HR.out (by intro h;rw[h]at l;simp at l);have c0:=(I.carry U j.out) k l;rw[tG]at c0;obtain⟨kk,J⟩:∃kk,P+k=kk:=⟨_,rfl⟩;rw[J]at c0|-;have ab:kk<5900001:=by omega
   have T:=aa J;clear J I;go_wp2_with fail;go_roundw;case rel=>exact⟨k+1,R,by go_num,by have:=T.out;congr 1;omega,j.out⟩
   case measure=>simp[intOf];omega
  ·obtain rfl:k=n:=by omega
   go_wp2_with fail;go_ret;exact⟨aY rfl,j.out⟩
end
theorem EJ(l:List aF)(ao:Option Addr)(cap:Nat)(w:World)(hl:l.length<=1048576)(hr:l≠[]->∃b o,ao=some ⟨b,o,none⟩/\b<w.heap.size/\dB w b o l):Calls Tryz.prog 55 #[.slice ao l.length cap] w fun e w'=>∃v',e=.returned v'/\(∃g,v'=.slice (some ⟨g,0,none⟩) l.length l.length)/\bq w' w'.heap.size v' l/\oH w.heap.size w' v'/\Below w.heap.size w w':=by
 have HR:=aa hr;obtain⟨i0,hi,aL,aM,aN⟩:=info_parts Tryz.fK;obtain⟨M,hM⟩:∃M,M=madeCells (Value.agg #[.string ByteArray.empty,.string ByteArray.empty,.string ByteArray.empty,.int .i64 0]).cells (l.length*4):=⟨_,rfl⟩;have ax:M.size=l.length*4:=by rw[hM,size_madeCells]
 have bb:∀W:World,(Instr.makeSlice 29 (.int .i64 (l.length:Int)) (.int .i64 (l.length:Int))).run Tryz.prog W=.ok (.slice (some ⟨W.heap.size,0,none⟩) l.length l.length) (W.alloc (.cells M 158)):=fun W=>by have h:=run_make (P:=Tryz.prog) W 29 158 i0 _ Tryz.underlying29 hi aL .i64 .i64 (l.length:Int) (l.length:Int) (by omega) (by omega) (by rw[aN];omega) (by omega);rw[aM]at h;simp only[Int.toNat_natCast]at h;rw[<-hM]at h;exact h
 have a4:=aa ax;clear hr hM ax hi aL aM aN;go_enter Tryz.func55,Tryz.ntmps55;go_wp2_with fail;go_loopw[4](fun i wr=>∃k:Nat,k<=l.length/\i=.int .i64 k/\(∀j(h:j<l.length),j<k->dR wr w.heap.size (j*4) l[j])/\(∀j,j<l.length*4->∃y,wr.cell? ⟨w.heap.size,j,none⟩=some y)/\(∀j,wr.frozen? ⟨w.heap.size,j,none⟩=false)/\w.heap.size<wr.heap.size/\Below w.heap.size w wr)(fun i _=>l.length-(intOf i).toNat);case atStart=>
  refine⟨0,Nat.zero_le _,rfl,fun j _ h=>absurd h (by omega),fun j hj=>?_,fun j=>?_,by simp,ae _ _⟩;·rw[<-a4.out]at hj;exact⟨M[j],by simp[hj]⟩
  ·simp
 case round=>
  obtain⟨k,hk,rfl,ad,C,ah,ac,af⟩:=hrel;have HA:=aa ad;have HC:=aa C;have av:=aa ah;have R:=aa af;clear ad af;by_cases az:k<l.length;·
   obtain⟨b,o,rfl,a5,an⟩:=HR.out (by intro h;simp[h]at az);have J:=(an.get k az).carry a5 R.out;obtain⟨x1,aq⟩:∃x1,x1=l[k]:=⟨_,rfl⟩;rw[<-aq]at J;have HN:=aa aq;clear aq an;have a8:b<wr.heap.size:=J.lt;obtain⟨c0,c1,c2,c3⟩:=J;obtain⟨y0,g0⟩:=C (k*4) (by omega);obtain⟨y1,g1⟩:=C (k*4+1) (by omega);obtain⟨y2,g2⟩:=C (k*4+2) (by omega);obtain⟨y3,g3⟩:=C (k*4+3) (by omega);have HG:=aa (And.intro g0 (And.intro g1 (And.intro g2 g3)));clear C ah g0 g1 g2 g3;go_wp2_with(go_at_call 110;refine(IQ x1 _).mono ?_;rintro e w1⟨rfl,ab⟩;unfold aF.val;have bi:=ab.size;have U:Hid (∀j,w1.frozen? ⟨w.heap.size,j,none⟩=false):=aa (fun j=>(ab.frozen (p:=⟨w.heap.size,j,none⟩) ac).trans (av.out j));have T:Hid (∀j,w1.cell? ⟨w.heap.size,j,none⟩=wr.cell? ⟨w.heap.size,j,none⟩):=aa (fun j=>ab.cell (p:=⟨w.heap.size,j,none⟩) ac);have g0:=(T.out (k*4)).trans HG.out.1;have g1:=(T.out (k*4+1)).trans HG.out.2.1;have g2:=(T.out (k*4+2)).trans HG.out.2.2.1;have g3:=(T.out (k*4+3)).trans HG.out.2.2.2;have f0:=U.out (k*4);have f1:=U.out (k*4+1);have f2:=U.out (k*4+2);have f3:=U.out (k*4+3);have aR:=aa ab;clear ab);go_roundw;case rel=>
    have e:=aa (show(((w1.setCell ⟨w.heap.size,k*4,none⟩ (.string x1.cE)).setCell ⟨w.heap.size,k*4+1,none⟩ (.string x1.to)).setCell ⟨w.heap.size,k*4+2,none⟩ (.string x1.label)).setCell ⟨w.heap.size,k*4+3,none⟩ (.int .i64 x1.sort)=iI w1 w.heap.size (k*4) x1 from rfl);rw[e.out];have a6:∀i,i<4->∃y,w1.cell? ⟨w.heap.size,k*4+i,none⟩=some y:=fun i hi=>by rw[T.out];exact HC.out _ (by omega)
    have al:=tQ w1 w.heap.size (k*4) x1 a6;have I:∀j,(j<k*4\/k*4+4<=j)->(iI w1 w.heap.size (k*4) x1).cell? ⟨w.heap.size,j,none⟩=wr.cell? ⟨w.heap.size,j,none⟩:=fun j hj=>by rw[uY _ _ _ _ _ (fun i hi h=>by injection h with h1 h2;omega),T.out]
    refine⟨k+1,by omega,by go_num,fun j hj a9=>?_,fun j hj=>?_,fun j=>by rw[sY];exact U.out j,by rw[xv];omega,ou (R.out.trans (aR.out.mono R.out.size)) (Nat.le_refl _) _ _⟩;·
     by_cases ay:j=k;·subst ay;rw[<-HN.out];exact al
     ·obtain⟨a0,a1,a2,a3⟩:=HA.out j hj (by omega);exact⟨(I _ (by omega)).trans a0,(I _ (by omega)).trans a1,(I _ (by omega)).trans a2,(I _ (by omega)).trans a3⟩
    ·by_cases a7:j<k*4\/k*4+4<=j;·rw[I j a7];exact HC.out j hj
     ·obtain⟨a0,a1,a2,a3⟩:=al;rcases(show j=k*4\/j=k*4+1\/j=k*4+2\/j=k*4+3 by omega)with h|h|h|h;·subst h;exact⟨_,a0⟩
      ·subst h;exact⟨_,a1⟩
      ·subst h;exact⟨_,a2⟩
      ·subst h;exact⟨_,a3⟩
   case measure=>simp[intOf];omega
  ·go_wp2_with fail;go_ret;refine⟨_,rfl,⟨_,rfl⟩,⟨_,_,rfl,Nat.le_refl _,by omega,fun bf=>⟨w.heap.size,0,rfl,ac,?_⟩⟩,⟨fun b hb=>by simp[Value.ownBlock]at hb;subst hb;exact⟨Nat.le_refl _,ac,av.out⟩⟩,R.out⟩;exact dB.of _ _ l 0 (fun j hj=>by rw[Nat.zero_add];exact HA.out j hj (by omega))
theorem DM(l:List aF)(C:Option Addr)(cap:Nat)(w:World)(U:l.length<=1048576)(hr:l≠[]->∃b o,C=some ⟨b,o,none⟩/\b<w.heap.size/\dB w b o l):Calls Tryz.prog 55 #[.slice C l.length cap] w fun e w'=>∃j,e=.returned j/\(∃g,j=.slice (some ⟨g,0,none⟩) l.length l.length)/\bq w' w'.heap.size j l/\dy w.heap.size w' j/\Below w.heap.size w w':=(EJ l C cap w U hr).mono fun e w'⟨j,J,T,I,P,R⟩=>by obtain⟨p,c,rfl⟩:=I.shape;exact⟨_,J,T,I,lF P,R⟩
theorem CG{w:World}{b:Nat}{j C I:Value}{l:List Value}(h:aW w b (j::C::I::l)):w.cell? ⟨b,0,none⟩=some j/\w.cell? ⟨b,1,none⟩=some C/\w.cell? ⟨b,2,none⟩=some I:=⟨h.cell 0 _ rfl,h.cell 1 _ rfl,h.cell 2 _ rfl⟩
theorem jf{w:World}{b:Nat}{j C I J:Value}{l:List Value}(h:aW w b (j::C::I::J::l)):w.cell? ⟨b,0,none⟩=some j/\w.cell? ⟨b,1,none⟩=some C/\w.cell? ⟨b,2,none⟩=some I/\w.cell? ⟨b,3,none⟩=some J:=⟨h.cell 0 _ rfl,h.cell 1 _ rfl,h.cell 2 _ rfl,h.cell 3 _ rfl⟩
theorem ln{w:World}{b:Nat}{j C I J P R:Value}{l:List Value}(h:aW w b (j::C::I::J::P::R::l)):w.cell? ⟨b,0,none⟩=some j/\w.cell? ⟨b,1,none⟩=some C/\w.cell? ⟨b,2,none⟩=some I/\w.cell? ⟨b,3,none⟩=some J/\w.cell? ⟨b,4,none⟩=some P/\w.cell? ⟨b,5,none⟩=some R:=⟨h.cell 0 _ rfl,h.cell 1 _ rfl,h.cell 2 _ rfl,h.cell 3 _ rfl,h.cell 4 _ rfl,h.cell 5 _ rfl⟩
theorem xO{w:World}{b:Nat}{j C I J:Value}{l:List Value}(h:aW w b (j::C::I::J::l)):w.cell? ⟨b,0,none⟩=some j/\w.cell? ⟨b,1,none⟩=some C/\w.cell? ⟨b,2,none⟩=some I/\w.cell? ⟨b,3,none⟩=some J/\∀o,w.frozen? ⟨b,o,none⟩=false:=⟨h.cell 0 _ rfl,h.cell 1 _ rfl,h.cell 2 _ rfl,h.cell 3 _ rfl,h.fz⟩
theorem iW{w:World}{b:Nat}{j C I J P R:Value}{l:List Value}(h:aW w b (j::C::I::J::P::R::l)):w.cell? ⟨b,0,none⟩=some j/\w.cell? ⟨b,1,none⟩=some C/\w.cell? ⟨b,2,none⟩=some I/\w.cell? ⟨b,3,none⟩=some J/\w.cell? ⟨b,4,none⟩=some P/\w.cell? ⟨b,5,none⟩=some R/\∀o,w.frozen? ⟨b,o,none⟩=false:=⟨h.cell 0 _ rfl,h.cell 1 _ rfl,h.cell 2 _ rfl,h.cell 3 _ rfl,h.cell 4 _ rfl,h.cell 5 _ rfl,h.fz⟩
