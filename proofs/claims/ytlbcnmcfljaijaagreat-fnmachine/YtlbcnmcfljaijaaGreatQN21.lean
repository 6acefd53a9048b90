import Derived.Test.YtlbcnmcfljaijaaGreatQN06
import Derived.Test.YtlbcnmcfljaijaaGreatQN10
import Derived.Test.YtlbcnmcfljaijaaGreatQN18
import Derived.Test.YtlbcnmcfljaijaaGreatQN00
import Derived.Test.YtlbcnmcfljaijaaGreatQN03
import Derived.Test.YtlbcnmcfljaijaaGreatQN16
import Derived.WalkMore
import Derived.Deep.LoopGhost
namespace Go.Proofs.YtlbcnmcfljaijaaGreat
open Go.RowKit
set_option linter.unusedSimpArgs false
set_option linter.unusedVariables false
set_option maxHeartbeats 1000000
set_option maxRecDepth 100000
section
attribute [local go_sem ↓] Go.wp_at_zero Go.wp_at_succ
def dO(l:List Int):List Value:=l.map (Value.int .i64)
theorem sM(l:List Int):∀u∈dO l,u.oneCell'=true:=by intro u hu;simp only[dO,List.mem_map]at hu;obtain⟨x,_,rfl⟩:=hu;rfl
theorem sL{l:List Int}{i:Int}(j:0≤i)(C:i<(l.length:Int)):(dO l)[i.toNat]?=some (.int .i64 (dB l i)):=by
 have hi:i.toNat<l.length:=by omega
 rw[dO,List.getElem?_map,List.getElem?_eq_getElem hi,dB,List.getD_eq_getElem?_getD,List.getElem?_eq_getElem hi];rfl
theorem Tryz.xo:(Tryz.prog.info? 2).map (fun i=>(i.zero,i.size,i.bytes))=some (some (.int .i64 0),1,8):=by kernel_rfl
theorem pY{w:World}{base e n:Nat}{g c:Nat}{J:List Value}(h:w.ownsRow base e 1 (.slice (some ⟨g,0,none⟩) n c) n J)(k:Nat):w.frozen? ⟨g,k,none⟩=false:=by
 obtain⟨_,I⟩:=h;rcases I with⟨j,_⟩|⟨P,cap,l,j,_,C,_⟩;·simp at j
 ·simp at j;obtain⟨rfl,rfl⟩:=j;simp[World.frozen?,C]
theorem uS{w:World}{base e n:Nat}{p:Option Addr}{c:Nat}{P:List Value}(h:w.ownsRow base e 1 (.slice p n c) n P)(T:0<n):∃g,p=some ⟨g,0,none⟩∧base≤g∧g<w.heap.size:=by
 obtain⟨_,J⟩:=h;rcases J with⟨j,R⟩|⟨g,cap,l,j,I,C,_⟩;·omega
 ·simp at j;exact⟨g,j.1,I,(Array.getElem?_eq_some_iff.1 C).1⟩
theorem xZ{w:World}{base e n g c:Nat}{C:List Value}(h:w.ownsRow base e 1 (.slice (some ⟨g,0,none⟩) n c) n C)(i:Nat)(x:Value):(w.setCell ⟨g,i,none⟩ x).ownsRow base e 1 (.slice (some ⟨g,0,none⟩) n c) n (C.set i x):=by
 obtain⟨I,hh⟩:=h;refine⟨by simpa using I,?_⟩;rcases hh with⟨j,_⟩|⟨g',cap,l,j,hg,U,J,P,R,T⟩;·simp at j
 ·simp at j;obtain⟨rfl,rfl⟩:=j;refine .inr ⟨g,c,l.setIfInBounds i x,rfl,hg,?_,J,P,by simpa using R,?_⟩;·exact heap_setCell_same _ _ _ _ _ _ U
  ·rw[Array.toList_setIfInBounds,List.take_set,T]
theorem ER(m:aN)(v:Value)(w:World)(hm:aW m=true)(hv:bu w v m):Calls Tryz.prog 53 #[v] w fun e w'=>∃g c f cc,e=.returned (.slice (some ⟨g,0,none⟩) m.aj.length c)∧(∀i x,(dO f)[i]?=some x→w'.cell? ⟨g,i,none⟩=some x)∧yL m f cc∧oE m f m.aj.length∧Below w.heap.size w w':=by
 have HV:Hid (∀W,Below w.heap.size w W→bu W v m):=aa (fun W hb=>hv.carry hb);obtain⟨i0,hi,cu,cv,cx⟩:=info_parts Tryz.xo;have HI:=aa (And.intro hi (And.intro cu (And.intro cv cx)));obtain⟨sv,ev,rfl,hs,he⟩:=hv;obtain⟨sa,sc,rfl,d5,d6,cs⟩:=hs;obtain⟨ea,ec,rfl,dz,d4,b9⟩:=he;have c3:=aa cs;have cz:=aa b9;have df:=iy hm;have dp:=iz hm;have HM:=aa hm;clear cs b9 hi cu cv cx hm;go_enter Tryz.func53,Tryz.ntmps53;go_wp2_with fail;refine tK (fun W1 bL=>?_);have cy:Hid (Below (w.heap.size+1) (w.alloc (.cells #[.slice sa m.aj.length sc,.slice ea m.al.length ec,.int .i64 m.start] 28)) W1):=aa (by rw[bL];exact(ai _ _).mono (by simp));have c2:Hid (W1.ownsRow (w.heap.size+1) 2 1 (.slice (some ⟨w.heap.size+1,0,none⟩) 0 0) 0 (dO (fu m 0))):=aa (by rw[bL];exact dJ _ _ _ _ _ (Nat.le_refl _) (by have:=bY (w.alloc (.cells #[.slice sa m.aj.length sc,.slice ea m.al.length ec,.int .i64 m.start] 28)) (.cells #[] 2) (w.heap.size+1) (by simp);simpa using this));clear bL;have bv:Hid (∀W,Below (w.heap.size+1) (w.alloc (.cells #[.slice sa m.aj.length sc,.slice ea m.al.length ec,.int .i64 m.start] 28)) W→Below w.heap.size w W∧w.heap.size<W.heap.size∧W.cell? ⟨w.heap.size,0,none⟩=some (.slice sa m.aj.length sc)∧W.cell? ⟨w.heap.size,1,none⟩=some (.slice ea m.al.length ec)):=aa (fun W hb=>⟨(ai _ _).trans (hb.mono (by simp)),by have:=hb.size;simp at this;omega,(hb.cell (p:=⟨w.heap.size,0,none⟩) (by simp)).trans (by simp),(hb.cell (p:=⟨w.heap.size,1,none⟩) (by simp)).trans (by simp)⟩);go_loopw[3,4](fun c5 i wr=>∃k:Nat,k≤m.aj.length∧i=.int .i64 k∧wr.ownsRow (w.heap.size+1) 2 1 c5 k (dO (fu m k))∧Below (w.heap.size+1) (w.alloc (.cells #[.slice sa m.aj.length sc,.slice ea m.al.length ec,.int .i64 m.start] 28)) wr)(fun _ i _=>m.aj.length-(intOf i).toNat);case atStart=>exact⟨0,Nat.zero_le _,rfl,c2.out,cy.out⟩
 case round=>
  obtain⟨k,hk,rfl,ac,ab⟩:=hrel;have I:=aa ac;have C:=aa ab;obtain⟨av,bp,c0,c1⟩:=bv.out _ ab;have a4:=aa av;obtain⟨p,cp,rfl⟩:=aq ac;clear ac ab av;by_cases a0:k<m.aj.length;·
   obtain⟨b,o,rfl,b0,a2⟩:=c3.out (by intro h;simp[h]at a0);have af:=(a2.get k a0).carry b0 a4.out;have b6:=aa (wY a0);obtain⟨l,a9⟩:∃l,l=m.aj[k]:=⟨_,rfl⟩;rw[←a9]at af b6;obtain⟨d0,d1⟩:=af;clear a9 a2;obtain⟨z,hz⟩:∃z:Int,(if l.kind=0 then(0:Int)else-1)=z:=⟨_,rfl⟩;have HZ:Hid (∀y:Int,y=(if l.kind=0 then(0:Int)else-1)→dO (fu m (k+1))=dO (fu m k)++[.int .i64 y]):=aa (by intro y hy;rw[b6.out,hy];simp[dO]);clear hz z;by_cases cn:l.kind=0;·
    have bx:=aa (HZ.out 0 (by rw[if_pos cn]));go_wp2_with(at_builtin;refine wpList_append_own _ rfl (.tmp 24) (.tmp 26) 90 rfl (w.heap.size+1) 2 i0 (.int .i64 0) 1 8 Tryz.underlying90 HI.out.1 HI.out.2.1 HI.out.2.2.1 HI.out.2.2.2 rfl (by decide) (.slice p k cp) k (dO (fu m k)) rfl (aL I.out (ai _ _)) ⟨wr.heap.size,0,none⟩ 1 1 [.int .i64 0] rfl rfl (fun j u hj=>dh _ _ _ j u hj) (sM [0]) (by unfold maxLen;omega) (by omega) (by have:=C.out.size;simp at this;simp;omega) ?_;intro v4 w4 ag az _;have a3:=aa ag;have bg:=aa az;clear ag az);go_roundw;case rel=>
     have hA:aw wr w4 (an (.slice p k cp)):=by have:=(ak (ai wr _)).trans (aE bg.out);rwa[List.nil_append]at this
     refine⟨k+1,a0,by go_num,?_,C.out.trans (hA.below (by have:=C.out.size;simpa using this) (au I.out).lo)⟩;rw[bx.out];exact a3.out
    case measure=>simp[intOf];omega
   ·have bx:=aa (HZ.out (-1) (by rw[if_neg cn]));go_wp2_with(at_builtin;refine wpList_append_own _ rfl (.tmp 24) (.tmp 26) 90 rfl (w.heap.size+1) 2 i0 (.int .i64 0) 1 8 Tryz.underlying90 HI.out.1 HI.out.2.1 HI.out.2.2.1 HI.out.2.2.2 rfl (by decide) (.slice p k cp) k (dO (fu m k)) rfl (aL I.out (ai _ _)) ⟨wr.heap.size,0,none⟩ 1 1 [.int .i64 (-1)] rfl rfl (fun j u hj=>dh _ _ _ j u hj) (sM [-1]) (by unfold maxLen;omega) (by omega) (by have:=C.out.size;simp at this;simp;omega) ?_;intro v4 w4 ag az _;have a3:=aa ag;have bg:=aa az;clear ag az);go_roundw;case rel=>
     have hA:aw wr w4 (an (.slice p k cp)):=by have:=(ak (ai wr _)).trans (aE bg.out);rwa[List.nil_append]at this
     refine⟨k+1,a0,by go_num,?_,C.out.trans (hA.below (by have:=C.out.size;simpa using this) (au I.out).lo)⟩;rw[bx.out];exact a3.out
    case measure=>simp[intOf];omega
  ·obtain rfl:k=m.aj.length:=by omega
   have c8:0<m.aj.length:=by omega
   obtain⟨g,rfl,ch,c7⟩:=uS I.out c8;obtain⟨cf,cg⟩:=Ge m;have b5:=aa (And.intro cf cg);have b4:Hid (∀e∈m.al,(0≤e.src∧e.src<(m.aj.length:Int))∧0≤e.dst∧e.dst<(m.aj.length:Int)):=aa (fun e he=>by have:=cw HM.out he;omega);clear a0 cf cg;go_wp2_with fail;go_loopw[6](fun i wr=>∃r:Nat,r≤m.aj.length∧i=.int .i64 r∧∃f,wr.ownsRow (w.heap.size+1) 2 1 (.slice (some ⟨g,0,none⟩) m.aj.length cp) m.aj.length (dO f)∧yL m f (r*80)∧oE m f r∧Below (w.heap.size+1) (w.alloc (.cells #[.slice sa m.aj.length sc,.slice ea m.al.length ec,.int .i64 m.start] 28)) wr)(fun i _=>m.aj.length-(intOf i).toNat);case atStart=>exact⟨0,Nat.zero_le _,rfl,_,I.out,by simpa using b5.out.1,b5.out.2,C.out⟩
   case round=>
    clear I C a4 c0 c1 bp c7;obtain⟨r,hr,rfl,f,ac,ax,bk,ab⟩:=hrel;have I:=aa ac;have C:=aa ab;have J:=aa (And.intro ax bk);obtain⟨av,bp,c0,c1⟩:=bv.out _ ab;have a4:=aa av;clear ac ab av ax bk;by_cases a0:r<m.aj.length;·
     go_wp2_with fail;go_loopw[7](fun i wr=>∃q:Nat,q≤m.al.length∧i=.int .i64 q∧∃f,wr.ownsRow (w.heap.size+1) 2 1 (.slice (some ⟨g,0,none⟩) m.aj.length cp) m.aj.length (dO f)∧yL m f (r*80+q)∧oE m f r∧z8 m f r q∧Below (w.heap.size+1) (w.alloc (.cells #[.slice sa m.aj.length sc,.slice ea m.al.length ec,.int .i64 m.start] 28)) wr)(fun i _=>m.al.length-(intOf i).toNat);case atStart=>exact⟨0,Nat.zero_le _,rfl,f,I.out,by simpa using J.out.1,J.out.2,fun p hp=>by omega,C.out⟩
     case round=>
      clear I C a4 c0 c1 bp J f;obtain⟨q,hq,rfl,f,ac,ax,bk,b8,ab⟩:=hrel;have I:=aa ac;have C:=aa ab;have J:=aa (And.intro ax (And.intro bk b8));obtain⟨av,bp,c0,c1⟩:=bv.out _ ab;have a4:=aa av;clear ac ab av ax bk b8;by_cases a1:q<m.al.length;·
       obtain⟨b,o,rfl,b0,a2⟩:=cz.out (by intro h;simp[h]at a1);have af:=(a2.get q a1).carry b0 a4.out;obtain⟨l,a9⟩:∃l,l=m.al[q]:=⟨_,rfl⟩;have br:l∈m.al:=by rw[a9];exact List.getElem_mem a1
       have c4:=aa (show m.al[q]?=some l by rw[a9];exact List.getElem?_eq_getElem a1);rw[←a9]at af;obtain⟨d0,d1,d2,d3⟩:=af;obtain⟨⟨cr,bs⟩,b1,b2⟩:=b4.out l br;have ba:=aa (Cr J.out.1 J.out.2.1 J.out.2.2 c4.out ⟨cr,bs⟩ ⟨b1,b2⟩ (fun e he=>(b4.out e he).1.1));obtain⟨zd,bm⟩:∃zd,dB f l.dst=zd:=⟨_,rfl⟩;obtain⟨zs,b3⟩:∃zs,dB f l.src=zs:=⟨_,rfl⟩;have a5:wr.cell? ⟨g,l.dst.toNat,none⟩=some (.int .i64 zd):=by rw[←bm];exact bF I.out rfl _ _ (sL b1 (by rw[J.out.1.len];exact b2))
       have bb:wr.cell? ⟨g,l.src.toNat,none⟩=some (.int .i64 zs):=by rw[←b3];exact bF I.out rfl _ _ (sL cr (by rw[J.out.1.len];exact bs))
       have cl:=pY I.out l.src.toNat;have ay:g<wr.heap.size:=by have:=World.block_lt_of_cell? _ _ a5;simpa using this
       have d7:zd≤10000:=by have:=J.out.1.most l.dst;rw[bm]at this;omega
       have d8:-1≤zd:=by have:=J.out.1.sound l.dst b1 b2;rw[bm]at this;omega
       have bn:Hid (kC f l=if decide (0≤zd)&&(decide (zs<0)||decide (zd+1<zs))then f.set l.src.toNat (zd+1)else f):=aa (by rw[kC,tw,bm,b3]);clear a9 a2 br bm b3;by_cases hA:0≤zd;·
        by_cases hS:zs<0;·
         go_wp2_with fail;refine aK (by kernel_rfl) (by kernel_rfl) (fun W P=>?_);have ad:=aH W;have k0:=ae (w:=W) (b:=wr.heap.size) (o:=0) (v:=.int .i64 l.src) (by rw[P];simp);have k3:=ae (w:=W) (b:=wr.heap.size) (o:=3) (v:=.int .i64 l.dst) (by rw[P];simp);have k4:=ae (w:=W) (b:=g) (o:=l.dst.toNat) (v:=.int .i64 zd) (by rw[P];exact(Below.cell (ai _ _) (p:=⟨g,l.dst.toNat,none⟩) ay).trans a5);have k5:=ae (w:=W) (b:=g) (o:=l.src.toNat) (v:=.int .i64 zs) (by rw[P];exact(Below.cell (ai _ _) (p:=⟨g,l.src.toNat,none⟩) ay).trans bb);have U:Hid (Below wr.heap.size wr W):=aa (by rw[P];exact ai _ _);clear P;have bz:decide (0≤zd)=true:=by simp;omega
         have b7:decide (zs<0)=true:=by simp;omega
         repeat(go_big_quiet_step(fail))
         refine wpQuiet_nil ?_;intro w4 T;have ah:Hid (Below wr.heap.size wr w4):=aa (U.out.trans (T.mono U.out.size));have n0:=k0 ⟨w4,T⟩;have n3:=k3 ⟨w4,T⟩;have n4:=k4 ⟨w4,T⟩;have n5:=k5 ⟨w4,T⟩;dsimp only at n0 n3 n4 n5;clear T ad k0 k3 k4 k5;go_wp2_with fail;refine jI 10 (by kernel_rfl) (by kernel_rfl) (fun W P=>?_);simp only[List.take_succ_cons,List.take_zero,List.drop_succ_cons,List.drop_zero];have ad:=aH W;have k0:=ae (w:=W) (b:=wr.heap.size) (o:=0) (v:=.int .i64 l.src) (by rw[P];exact n0);have k3:=ae (w:=W) (b:=wr.heap.size) (o:=3) (v:=.int .i64 l.dst) (by rw[P];exact n3);have k4:=ae (w:=W) (b:=g) (o:=l.dst.toNat) (v:=.int .i64 zd) (by rw[P];exact n4);have k5:=ae (w:=W) (b:=g) (o:=l.src.toNat) (v:=.int .i64 zs) (by rw[P];exact n5);have be:Hid (Below wr.heap.size wr W):=aa (by rw[P];exact ah.out);clear P n0 n3 n4 n5;repeat(go_big_quiet_step(fail))
         refine wpQuiet_nil ?_;intro w5 a8;have m5:=k5 ⟨w5,a8⟩;dsimp only at m5;have bf:Hid (Below wr.heap.size wr w5):=aa (be.out.trans (a8.mono be.out.size));have bi:=aa (aL I.out bf.out);have m6:=pY bi.out l.src.toNat;clear a8 ad k0 k3 k4 k5 cl bb a5;go_wp2_with fail;go_roundw;case rel=>
          have ao:kC f l=f.set l.src.toNat (zd+1):=by rw[bn.out,if_pos (by simp;omega)]
          have R:=ba.out;rw[ao]at R;have ho:=xZ bi.out l.src.toNat (.int .i64 (zd+1));rw[show(dO f).set l.src.toNat (.int .i64 (zd+1))=dO (f.set l.src.toNat (zd+1))by simp[dO]]at ho;exact⟨q+1,a1,by go_num,_,ho,R.1,R.2.1,R.2.2,(C.out.trans (bf.out.mono (by have:=C.out.size;simpa using this))).setCell (p:=⟨g,l.src.toNat,none⟩) ch _⟩
         case measure=>simp[intOf];omega
        ·by_cases hC:zd+1<zs;·
          go_wp2_with fail;refine aK (by kernel_rfl) (by kernel_rfl) (fun W P=>?_);have ad:=aH W;have k0:=ae (w:=W) (b:=wr.heap.size) (o:=0) (v:=.int .i64 l.src) (by rw[P];simp);have k3:=ae (w:=W) (b:=wr.heap.size) (o:=3) (v:=.int .i64 l.dst) (by rw[P];simp);have k4:=ae (w:=W) (b:=g) (o:=l.dst.toNat) (v:=.int .i64 zd) (by rw[P];exact(Below.cell (ai _ _) (p:=⟨g,l.dst.toNat,none⟩) ay).trans a5);have k5:=ae (w:=W) (b:=g) (o:=l.src.toNat) (v:=.int .i64 zs) (by rw[P];exact(Below.cell (ai _ _) (p:=⟨g,l.src.toNat,none⟩) ay).trans bb);have U:Hid (Below wr.heap.size wr W):=aa (by rw[P];exact ai _ _);clear P;have bz:decide (0≤zd)=true:=by simp;omega
          have b7:decide (zs<0)=false:=by simp;omega
          have c6:decide (zd+1<zs)=true:=by simp;omega
          repeat(go_big_quiet_step(fail))
          refine wpQuiet_nil ?_;intro w4 T;have ah:Hid (Below wr.heap.size wr w4):=aa (U.out.trans (T.mono U.out.size));have n0:=k0 ⟨w4,T⟩;have n3:=k3 ⟨w4,T⟩;have n4:=k4 ⟨w4,T⟩;have n5:=k5 ⟨w4,T⟩;dsimp only at n0 n3 n4 n5;clear T ad k0 k3 k4 k5;go_wp2_with fail;refine jI 10 (by kernel_rfl) (by kernel_rfl) (fun W P=>?_);simp only[List.take_succ_cons,List.take_zero,List.drop_succ_cons,List.drop_zero];have ad:=aH W;have k0:=ae (w:=W) (b:=wr.heap.size) (o:=0) (v:=.int .i64 l.src) (by rw[P];exact n0);have k3:=ae (w:=W) (b:=wr.heap.size) (o:=3) (v:=.int .i64 l.dst) (by rw[P];exact n3);have k4:=ae (w:=W) (b:=g) (o:=l.dst.toNat) (v:=.int .i64 zd) (by rw[P];exact n4);have k5:=ae (w:=W) (b:=g) (o:=l.src.toNat) (v:=.int .i64 zs) (by rw[P];exact n5);have be:Hid (Below wr.heap.size wr W):=aa (by rw[P];exact ah.out);clear P n0 n3 n4 n5;repeat(go_big_quiet_step(fail))
          refine wpQuiet_nil ?_;intro w5 a8;have m5:=k5 ⟨w5,a8⟩;dsimp only at m5;have bf:Hid (Below wr.heap.size wr w5):=aa (be.out.trans (a8.mono be.out.size));have bi:=aa (aL I.out bf.out);have m6:=pY bi.out l.src.toNat;clear a8 ad k0 k3 k4 k5 cl bb a5;go_wp2_with fail;go_roundw;case rel=>
           have ao:kC f l=f.set l.src.toNat (zd+1):=by rw[bn.out,if_pos (by simp;omega)]
           have R:=ba.out;rw[ao]at R;have ho:=xZ bi.out l.src.toNat (.int .i64 (zd+1));rw[show(dO f).set l.src.toNat (.int .i64 (zd+1))=dO (f.set l.src.toNat (zd+1))by simp[dO]]at ho;exact⟨q+1,a1,by go_num,_,ho,R.1,R.2.1,R.2.2,(C.out.trans (bf.out.mono (by have:=C.out.size;simpa using this))).setCell (p:=⟨g,l.src.toNat,none⟩) ch _⟩
          case measure=>simp[intOf];omega
         ·go_wp2_with fail;refine aK (by kernel_rfl) (by kernel_rfl) (fun W P=>?_);have ad:=aH W;have k0:=ae (w:=W) (b:=wr.heap.size) (o:=0) (v:=.int .i64 l.src) (by rw[P];simp);have k3:=ae (w:=W) (b:=wr.heap.size) (o:=3) (v:=.int .i64 l.dst) (by rw[P];simp);have k4:=ae (w:=W) (b:=g) (o:=l.dst.toNat) (v:=.int .i64 zd) (by rw[P];exact(Below.cell (ai _ _) (p:=⟨g,l.dst.toNat,none⟩) ay).trans a5);have k5:=ae (w:=W) (b:=g) (o:=l.src.toNat) (v:=.int .i64 zs) (by rw[P];exact(Below.cell (ai _ _) (p:=⟨g,l.src.toNat,none⟩) ay).trans bb);have U:Hid (Below wr.heap.size wr W):=aa (by rw[P];exact ai _ _);clear P;have bz:decide (0≤zd)=true:=by simp;omega
          have b7:decide (zs<0)=false:=by simp;omega
          have c6:decide (zd+1<zs)=false:=by simp;omega
          repeat(go_big_quiet_step(fail))
          refine wpQuiet_nil ?_;intro w4 T;have ah:Hid (Below wr.heap.size wr w4):=aa (U.out.trans (T.mono U.out.size));clear T ad k0 k3 k4 k5;go_wp2_with fail;go_roundw;case rel=>
           have ao:kC f l=f:=by rw[bn.out];simp;omega
           have R:=ba.out;rw[ao]at R;exact⟨q+1,a1,by go_num,f,aL I.out ah.out,R.1,R.2.1,R.2.2,C.out.trans (ah.out.mono (by have:=C.out.size;simpa using this))⟩
          case measure=>simp[intOf];omega
       ·go_wp2_with fail;refine aK (by kernel_rfl) (by kernel_rfl) (fun W P=>?_);have ad:=aH W;have k0:=ae (w:=W) (b:=wr.heap.size) (o:=0) (v:=.int .i64 l.src) (by rw[P];simp);have k3:=ae (w:=W) (b:=wr.heap.size) (o:=3) (v:=.int .i64 l.dst) (by rw[P];simp);have k4:=ae (w:=W) (b:=g) (o:=l.dst.toNat) (v:=.int .i64 zd) (by rw[P];exact(Below.cell (ai _ _) (p:=⟨g,l.dst.toNat,none⟩) ay).trans a5);have k5:=ae (w:=W) (b:=g) (o:=l.src.toNat) (v:=.int .i64 zs) (by rw[P];exact(Below.cell (ai _ _) (p:=⟨g,l.src.toNat,none⟩) ay).trans bb);have U:Hid (Below wr.heap.size wr W):=aa (by rw[P];exact ai _ _);clear P;have bz:decide (0≤zd)=false:=by simp;omega
        repeat(go_big_quiet_step(fail))
        refine wpQuiet_nil ?_;intro w4 T;have ah:Hid (Below wr.heap.size wr w4):=aa (U.out.trans (T.mono U.out.size));clear T ad k0 k3 k4 k5;go_wp2_with fail;go_roundw;case rel=>
         have ao:kC f l=f:=by rw[bn.out];simp;omega
         have R:=ba.out;rw[ao]at R;exact⟨q+1,a1,by go_num,f,aL I.out ah.out,R.1,R.2.1,R.2.2,C.out.trans (ah.out.mono (by have:=C.out.size;simpa using this))⟩
        case measure=>simp[intOf];omega
      ·have c9:q=m.al.length:=by omega
       go_wp2_with fail;go_roundw;case rel=>refine⟨r+1,a0,by go_num,f,I.out,⟨J.out.1.len,J.out.1.sound,fun i=>by have:=J.out.1.most i;omega⟩,BJ J.out.2.1 (c9▸J.out.2.2),C.out⟩
       case measure=>simp[intOf];omega
    ·have ao:r=m.aj.length:=by omega
     go_wp2_with fail;go_ret;exact⟨g,cp,f,r*80,rfl,fun i x hx=>bF I.out rfl i x hx,J.out.1,ao▸J.out.2,a4.out⟩
def j5(m:aN)(s r:Int):Prop:=if aW m&&fj s 0 ((m.aj.length:Int)-1)then jl m s r else r=-1
theorem j5.unique{m:aN}{s r C:Int}(h:j5 m s r)(j:j5 m s C):r=C:=by
 unfold j5 at h j;split at h<;>rename_i l;·rw[if_pos l]at j;exact h.unique j
 ·rw[if_neg l]at j;rw[h,j]
theorem G6(m:aN)(s:Int)(v:Value)(w:World)(hf:m.fit)(hv:bu w v m):Calls Tryz.prog 21 #[v,.int .i64 s] w fun e w'=>∃r,e=.returned (.int .i64 r)∧j5 m s r∧Below w.heap.size w w':=by
 have HF:=aa hf;have HV:Hid (∀W,Below w.heap.size w W→bu W v m):=aa (fun W hb=>hv.carry hb);obtain⟨sv,ev,rfl,hs,he⟩:=hv;have ay:=hs.jc;obtain⟨sa,sc,rfl,-⟩:=hs;obtain⟨ea,ec,rfl,-⟩:=he;obtain⟨q1,ad⟩:∃q1,aW m=q1:=⟨_,rfl⟩;obtain⟨q2,af⟩:∃q2,fj s 0 ((m.aj.length:Int)-1)=q2:=⟨_,rfl⟩;have HR:Hid (∀r,(if q1&&q2 then jl m s r else r=-1)→j5 m s r):=aa (by intro r h;rw[j5,ad,af];exact h);have J:=aa ad;have U:=aa af;clear ad af hf;have ac:Hid (∀W A,W=w.alloc A→Below w.heap.size w W∧w.heap.size<W.heap.size):=aa (fun W A C=>by rw[C];exact⟨ai _ _,by simp⟩);cases q1;·go_enter Tryz.func21,Tryz.ntmps21;go_wp2_with(refine bj 5 (fun W C=>?_);have T:=aH W;have f0:=ae (w:=W) (b:=w.heap.size) (o:=0) (v:=.slice sa m.aj.length sc) (by rw[C];simp);have f1:=ae (w:=W) (b:=w.heap.size) (o:=1) (v:=.slice ea m.al.length ec) (by rw[C];simp);have f2:=ae (w:=W) (b:=w.heap.size) (o:=2) (v:=.int .i64 m.start) (by rw[C];simp);have l:=aa (ac.out W _ C);clear C;(repeat(go_big_quiet_step(first|(go_at_call 25;exact aD (bM J.out _ _ HF.out ((HV.out _ l.out.1).carry (Grown.dN _))))|(go_at_call 49;exact aD (eR U.out _ _ ((HV.out _ l.out.1).carry (Grown.dN _)))))));refine wpQuiet_nil ?_;intro I j;have b0:=f0 ⟨I,j⟩;have b1:=f1 ⟨I,j⟩;have b2:=f2 ⟨I,j⟩;dsimp only at b0 b1 b2;have HW:Hid (Below w.heap.size w I):=aa (l.out.1.trans (j.mono l.out.1.size));have ag:=aa j;clear j T f0 f1 f2);go_ret;exact⟨_,rfl,HR.out _ (by simp),HW.out⟩
 ·cases q2;·go_enter Tryz.func21,Tryz.ntmps21;go_wp2_with(refine bj 5 (fun W C=>?_);have T:=aH W;have f0:=ae (w:=W) (b:=w.heap.size) (o:=0) (v:=.slice sa m.aj.length sc) (by rw[C];simp);have f1:=ae (w:=W) (b:=w.heap.size) (o:=1) (v:=.slice ea m.al.length ec) (by rw[C];simp);have f2:=ae (w:=W) (b:=w.heap.size) (o:=2) (v:=.int .i64 m.start) (by rw[C];simp);have l:=aa (ac.out W _ C);clear C;(repeat(go_big_quiet_step(first|(go_at_call 25;exact aD (bM J.out _ _ HF.out ((HV.out _ l.out.1).carry (Grown.dN _))))|(go_at_call 49;exact aD (eR U.out _ _ ((HV.out _ l.out.1).carry (Grown.dN _)))))));refine wpQuiet_nil ?_;intro I j;have b0:=f0 ⟨I,j⟩;have b1:=f1 ⟨I,j⟩;have b2:=f2 ⟨I,j⟩;dsimp only at b0 b1 b2;have HW:Hid (Below w.heap.size w I):=aa (l.out.1.trans (j.mono l.out.1.size));have ag:=aa j;clear j T f0 f1 f2);go_ret;exact⟨_,rfl,HR.out _ (by simp),HW.out⟩
  ·have hb:0≤s∧s<(m.aj.length:Int):=by have:=U.out;simp[fj]at this;omega
   have ax:Hid (∀e∈m.al,0≤e.dst∧e.dst<(m.aj.length:Int)):=aa (fun e he=>by have:=cw J.out he;omega);go_enter Tryz.func21,Tryz.ntmps21;go_wp2_with(first|(refine bj 5 (fun W C=>?_);have T:=aH W;have f0:=ae (w:=W) (b:=w.heap.size) (o:=0) (v:=.slice sa m.aj.length sc) (by rw[C];simp);have f1:=ae (w:=W) (b:=w.heap.size) (o:=1) (v:=.slice ea m.al.length ec) (by rw[C];simp);have f2:=ae (w:=W) (b:=w.heap.size) (o:=2) (v:=.int .i64 m.start) (by rw[C];simp);have l:=aa (ac.out W _ C);clear C;(repeat(go_big_quiet_step(first|(go_at_call 25;exact aD (bM J.out _ _ HF.out ((HV.out _ l.out.1).carry (Grown.dN _))))|(go_at_call 49;exact aD (eR U.out _ _ ((HV.out _ l.out.1).carry (Grown.dN _)))))));refine wpQuiet_nil ?_;intro I j;have b0:=f0 ⟨I,j⟩;have b1:=f1 ⟨I,j⟩;have b2:=f2 ⟨I,j⟩;dsimp only at b0 b1 b2;have HW:Hid (Below w.heap.size w I):=aa (l.out.1.trans (j.mono l.out.1.size));have ag:=aa j;clear j T f0 f1 f2)|(go_at_call 53;refine(ER m _ _ J.out (HV.out _ HW.out)).mono ?_;rintro e w2⟨g,c,f,cc,rfl,P,R,ao,ah⟩;have hc:=P s.toNat _ (sL hb.1 (by rw[R.len];exact hb.2));have ab:=aa (And.intro R ao);have av:=aa ah;clear ah P R ao));go_ret;exact⟨_,rfl,HR.out _ (Gc ax.out ab.out.1 ab.out.2 hb.1 hb.2),HW.out.trans (av.out.mono HW.out.size)⟩
end
section
open Go.RowKit Go.Sort
theorem uU{w:World}{g n:Nat}{os:Array Obj}{j:Array Value}{e:TypeId}{l:Nat×Nat}(d:Array Int)(C:w.heap[g]?=some (.cells j e l)):(grow (putRow (Value.int .i64) (Sort.ahead w n) g 0 d) os).heap[g]?=some (.cells (putCells (Value.int .i64) 0 d j) e l):=by rw[heap_grow_old _ _ (by simpa[putRow,mapBlock,Sort.ahead]using(Array.getElem?_eq_some_iff.1 C).1)];simp[putRow,mapBlock,Sort.ahead,Array.getElem?_modify,C,onCells]
theorem pd{w:World}{g n:Nat}{os:Array Obj}(d:Array Int):aw w (grow (putRow (Value.int .i64) (Sort.ahead w n) g 0 d) os) [g]:=by refine⟨rfl,rfl,rfl,by simp,fun k l j=>?_⟩;rw[heap_grow_old _ _ (by simpa using l)];have:g≠k:=fun e=>j (by simp[e]);simp[putRow,mapBlock,Sort.ahead,Array.getElem?_modify,this]
theorem nw(C:Array Value)(l:List Int)(n:Nat)(J:n≤l.length)(h:l.length≤C.size):(putCells (Value.int .i64) 0 l.toArray C).toList.take n=dO (l.take n):=by
 apply List.ext_getElem?;intro j;by_cases I:j<n;·rw[List.getElem?_take_of_lt I,Array.getElem?_toList];simp[putCells,dO,show j<l.length by omega,show j<C.size by omega,I]
 ·rw[List.getElem?_take_eq_none (by omega),List.getElem?_eq_none (by simp[dO];omega)]
theorem qo{w:World}{g:Nat}{C:Array Value}{e:TypeId}{l:List Int}(P:w.heap[g]?=some (.cells C e (0,0)))(T:C.toList.take l.length=dO l):Holds (Value.int .i64) w g 0 l.toArray:=by
 intro j R;have I:j<l.length:=by simpa using R
 refine⟨?_,by simp[World.frozen?,P]⟩;have J:(C.toList.take l.length)[j]?=(dO l)[j]?:=by rw[T]
 rw[List.getElem?_take_of_lt I,Array.getElem?_toList]at J;simp[World.cell?,P,J,dO,I]
theorem CC(l:List Int)(v:Value)(w:World)(base:Nat)(J:w.ownsRow base 2 1 v l.length (dO l))(hl:l.length≤1000):Calls Tryz.prog 115 #[v] w fun e w'=>e=.returned (.tuple #[])∧∃l',l'.Perm l∧w'.ownsRow base 2 1 v l'.length (dO l')∧aw w w' (an v):=by
 obtain⟨ab,hv⟩:=J;rcases hv with⟨rfl,h0⟩|⟨g,cap,P,rfl,hg,R,hn,I,U,C⟩;·obtain rfl:l=[]:=List.length_eq_zero_iff.1 h0;refine(Tryz.slices_Sort_int_none none 0 w).mono ?_;rintro e w'⟨rfl,rfl⟩;exact⟨rfl,[],List.Perm.refl _,World.ownsRow_nil _ _ _ _,aw.refl _⟩
 ·have T:g<w.heap.size:=(Array.getElem?_eq_some_iff.1 R).1;refine(Tryz.slices_Sort_int g 0 cap l w (qo R (by simpa using C)) T (by omega)).mono ?_;rintro e w'⟨rfl,n,os,rfl⟩;have j:(l.mergeSort fun x y=>decide (x≤y)).length=l.length:=List.length_mergeSort _;refine⟨rfl,l.mergeSort fun x y=>decide (x≤y),List.mergeSort_perm _ _,⟨by simp[dO],.inr ⟨g,cap,_,by rw[j],hg,uU _ R,by rw[j];exact hn,I,by simp[putCells,U],?_⟩⟩,?_⟩;·rw[Nat.mul_one,nw P _ _ (Nat.le_refl _) (by omega),List.take_length]
  ·simpa[an,aG]using pd (w:=w) (g:=g) (n:=n) (os:=os) _
theorem xI (l : List Int) (x : Int) : x ∈ Lib.compact l ↔ x ∈ l := by
  have I : ∀ j, j < l.length → (l.toArray[j]! ∈ Lib.compact l) := by
    intro j
    induction j with
    | zero => intro C; simp only [Lib.compact, Lib.compactUpTo, List.mem_map, List.mem_filter, List.mem_range]; exact ⟨0, ⟨C, by simp [Lib.keeps]⟩, rfl⟩
    | succ j ih =>
      intro C
      by_cases J : Lib.keeps l.toArray (j + 1) = true
      · simp only [Lib.compact, Lib.compactUpTo, List.mem_map, List.mem_filter, List.mem_range]
        exact ⟨j + 1, ⟨C, J⟩, rfl⟩
      · have P : l.toArray[j + 1]! = l.toArray[j]! := by
          unfold Lib.keeps at J
          simpa using J
        rw [P]
        exact ih (by omega)
  constructor
  · intro h
    simp only [Lib.compact, Lib.compactUpTo, List.mem_map, List.mem_filter, List.mem_range] at h
    obtain ⟨j, ⟨C, -⟩, rfl⟩ := h
    simp [C]
  · intro h
    obtain ⟨j, C, rfl⟩ := List.getElem_of_mem h
    have := I j C
    simpa [C] using this
theorem vr(l:List Int)(v:Value)(w:World)(base:Nat)(I:w.ownsRow base 2 1 v l.length (dO l))(hl:l.length≤1000):Calls Tryz.prog 116 #[v] w fun e w'=>∃v' l',e=.returned v'∧(∀x,x∈l'↔x∈l)∧l'.length≤l.length∧w'.ownsRow base 2 1 v' l'.length (dO l')∧aw w w' (an v):=by
 obtain⟨ac,hv⟩:=I;rcases hv with⟨rfl,h0⟩|⟨g,cap,J,rfl,hg,hh,hn,C,R,j⟩;·obtain rfl:l=[]:=List.length_eq_zero_iff.1 h0;refine(Tryz.slices_Compact_int_empty none 0 w).mono ?_;rintro e w'⟨rfl,rfl⟩;exact⟨_,[],rfl,fun _=>Iff.rfl,Nat.le_refl _,World.ownsRow_nil _ _ _ _,aw.refl _⟩
 ·refine(Tryz.slices_Compact_int g 0 cap l w (qo hh (by simpa using j)) (by omega) hn).mono ?_;rintro e w'⟨rfl,q,rfl⟩;have P:(Lib.compact l).length≤l.length:=by unfold Lib.compact Lib.compactUpTo;rw[List.length_map];exact Nat.le_trans (List.length_filter_le _ _) (by simp)
  have ab:(Lib.compact l++List.replicate (l.length-(Lib.compact l).length) (0:Int)).length=l.length:=by simp;omega
  have U:=uU (n:=q) (os:=#[]) (Lib.compact l++List.replicate (l.length-(Lib.compact l).length) 0).toArray hh;have T:=pd (w:=w) (g:=g) (n:=q) (os:=#[]) (Lib.compact l++List.replicate (l.length-(Lib.compact l).length) 0).toArray;rw[grow_empty]at U T;refine⟨_,Lib.compact l,rfl,xI l,P,⟨by simp[dO],.inr ⟨g,cap,_,rfl,hg,U,by omega,C,by simp[putCells,R],?_⟩⟩,by simpa[an,aG]using T⟩;rw[Nat.mul_one,nw J _ _ (by omega) (by omega)];simp
theorem nk(l:List Int)(x:Int)(v:Value)(w:World)(base:Nat)(C:w.ownsRow base 2 1 v l.length (dO l))(hl:l.length≤1000):Calls Tryz.prog 100 #[v,.int .i64 x] w fun e w'=>e=.returned (.bool (l.contains x))∧w'=w:=by
 have H:=C;obtain⟨ab,hv⟩:=C;rcases hv with⟨rfl,R⟩|⟨g,cap,P,rfl,hg,hh,hn,J,U,I⟩;·obtain rfl:l=[]:=List.length_eq_zero_iff.1 R;exact Tryz.slices_Contains_int_empty none 0 x w
 ·have:=Tryz.slices_Contains_int g 0 l.length cap l x w (Nat.le_refl _) (by omega) (fun j T=>by have:=bF H rfl j (.int .i64 (l.getD j 0)) (by simp[dO,T]);simpa using this);rwa[List.take_length]at this
end
section
open Go.RowKit Go.Maps
attribute [local go_sem ↓] Go.wp_at_zero Go.wp_at_succ
theorem aw.andThen{a b c:World}{l l':List Nat}(h:aw a b l)(j:aw b c l')(P:∀k∈l',a.heap.size≤k∨k∈l):aw a c l:=⟨j.os.trans h.os,j.tape.trans h.tape,j.output.trans h.output,Nat.le_trans h.size j.size,fun k I J=>(j.block k (Nat.lt_of_lt_of_le I h.size) (fun R=>by rcases P k R with C|C;omega;exact J C)).trans (h.block k I J)⟩
theorem s5{w w':World}{b n:Nat}{D:DataW Unit}{l:List Nat}(h:w.ownsMap Tryz.prog 121 (plainElem Tryz.prog 2) b n D)(I:aw w w' l)(J:b∉l):w'.ownsMap Tryz.prog 121 (plainElem Tryz.prog 2) b n D:=by obtain⟨j,clock,C,P⟩:=h;exact⟨j,clock,(I.block b (Array.getElem?_eq_some_iff.1 C).1 J).trans C,P⟩
theorem mC{w w':World}{b r n:Nat}{D:DataW Unit}{j:Lit→Bool}{I:Nat}{l:List Nat}(h:w.ranges Tryz.prog 121 (plainElem Tryz.prog 2) b r n D j I)(T:aw w w' l)(hb:b∉l)(hr:r∉l):w'.ranges Tryz.prog 121 (plainElem Tryz.prog 2) b r n D j I:=by have h1:=h.owns.lt;have h2:=h.lt;obtain⟨es,clock,C,J,U,P,F,hs,hD,R,rest⟩:=h;exact⟨es,clock,C,J,U,(T.block b h1 hb).trans P,F,hs,hD,(T.block r h2 hr).trans R,rest⟩
theorem yi{w:World}{base e b n k:Nat}{v:Value}{P:List Value}{D:DataW Unit}(h:w.ownsRow base e 1 v k P)(J:w.ownsMap Tryz.prog 121 (plainElem Tryz.prog 2) b n D):b∉an v:=by
 obtain⟨es,clock,C,-⟩:=J;obtain⟨_,I⟩:=h;rcases I with⟨rfl,_⟩|⟨g,cap,l,rfl,_,j,_⟩;·simp[an,aG]
 ·simp only[an,aG,List.mem_singleton];rintro rfl;rw[C]at j;cases j
theorem xf(m:aN)(es:List ar)(R:List Int)(b n:Nat)(rv:Value)(sp:Option Addr)(nl nc base:Nat)(w:World)(hm:aW m=true)(hf:m.fit)(ba:∀e∈es,e∈m.al)(hG:dL w m es b n)(hn:n≤80)(hR:w.ownsRow base 2 1 rv R.length (dO R))(d6:R.length≤1000):Calls Tryz.prog 78 #[.agg #[.slice sp nl nc,.map (some b)],rv] w fun e w'=>∃v' R',e=.returned v'∧(∀x,x∈R'↔∃e∈es,e.src∈R∧e.dst=x)∧R'.length≤80∧w'.ownsRow w.heap.size 2 1 v' R'.length (dO R')∧dL w' m (es.filter (oI R)) b n∧aw w w' [b]:=by
 obtain⟨i0,hi,cn,cr,cs⟩:=info_parts Tryz.xo;have HI:=aa (And.intro hi (And.intro cn (And.intro cr cs)));obtain⟨D0,ax,b6⟩:=hG;have cv:Hid (yN m es D0):=aa b6;have bs:=aa ax;have dz:=ax.lt;have b3:=aa hR;have b7:=yi hR ax;have HP:=aa (And.intro hm (And.intro hf ba));obtain⟨rp,rc,rfl⟩:=aq hR;clear hi cn cr cs b6 ax hR hm hf ba;go_enter Tryz.func78,Tryz.ntmps78;go_wp2_with(at_range;refine wpList_range_own _ rfl _ 69 rfl 121 2 dk Tryz.underlying69 _ b n D0 rfl (s5 bs.out (ak (ai _ _)) (by simp)) ?_;intro w0 ag ay bp);go_frame;simp only[World.size_alloc]at ag bp⊢;have d4:w0.heap.size=w.heap.size+2:=by simpa using bp
 have br:Hid (aw w w0 []):=aa (by have:=(ak (ai w _)).trans (aw.kY ay);simpa using this);have b0:w0.cell? ⟨w.heap.size,0,none⟩=some (.slice sp nl nc):=(aw.kY ay).bN (b:=w.heap.size) (o:=0) (by simp) (by simp);have b1:w0.cell? ⟨w.heap.size,1,none⟩=some (.map (some b)):=(aw.kY ay).bN (b:=w.heap.size) (o:=1) (by simp) (by simp);have bL:Hid (w0.ranges Tryz.prog 121 (plainElem Tryz.prog 2) b (w.heap.size+1) n D0 (Maps.has D0) (Maps.size D0)):=aa (by simpa using ag);have c4:Hid (Maps.size D0≤n):=aa bs.out.size_le;have c2:=aa (aJ b3.out br.out (by simp));have bz:Hid (∀k∈an (.slice rp R.length rc),k≠b∧k≠w.heap.size+1):=aa (fun k C=>⟨fun e=>b7 (e▸C),fun e=>by have:=(au b3.out).hi k C;omega⟩);clear ag ay bp b7;go_loopw[5](fun reached wr=>∃(D:DataW Unit)(left:Lit→Bool)(jx:Nat)(acc:List Int),wr.ranges Tryz.prog 121 (plainElem Tryz.prog 2) b (w.heap.size+1) n D left jx∧yO D0 R D left acc∧wr.ownsRow (w.heap.size+2) 2 1 reached acc.length (dO acc)∧acc.length+jx≤80∧aw w0 wr [b,w.heap.size+1])(fun _ wr=>wr.rangeLeft b (w.heap.size+1));case atStart=>exact⟨D0,_,_,[],bL.out,zi D0 R,ky _ _ _ _,by have:=c4.out;simp;omega,⟨rfl,rfl,rfl,Nat.le_refl _,fun _ _ _=>rfl⟩⟩
 case round=>
  obtain⟨D,left,jx,acc,cl,a5,P,d9,T⟩:=hrel;have c0:=T.bN b0 (by simp;omega);have c1:=T.bN b1 (by simp;omega);have d5:=T.size;have ao:=aa cl;have U:=aa a5;have ab:=aa P;have bf:=aa T;have c3:=aa (aJ c2.out T (fun k C=>by have:=bz.out k C;simp[this]));obtain⟨p,cp,rfl⟩:=aq P;have J:Hid (∀k∈an (.slice p acc.length cp),w.heap.size+2≤k):=aa (au P).lo;clear cl a5 P T;go_wp2_with(at_next;refine wpList_next_ranges (α:=Int×bl) (β:=Int) _ rfl _ rfl 121 dk _ (fun x=>ic x.1 x.2) (Value.int .i64) (fun key kl C=>Fp C) (fun v y hv=>by obtain⟨c,rfl,_⟩:=plainElem_int_inv Tryz.underlying2 hv;exact⟨c,rfl⟩) b (w.heap.size+1) n D left jx rfl ao.out ?_ ?_);·
   intro c7 cf;have az:=aa (D5 HP.out.1 HP.out.2.1 HP.out.2.2 cv.out U.out cf);clear c7 cf;go_wp2_with(first|(go_at_call 115;refine(CC acc _ _ _ ab.out (by omega)).mono ?_;rintro e I⟨rfl,l1,bn,bm,b8⟩;have d7:=bn.length_eq;have bi:=aa (And.intro bn (And.intro bm b8));have cz:=aa (show I.ownsRow (w.heap.size+2) 2 1 (.slice p acc.length cp) l1.length (dO l1)from bm);clear bn b8 bm)|(go_at_call 116;refine(vr l1 _ _ _ cz.out (by omega)).mono ?_;rintro e w2⟨v2,l2,rfl,cg,d8,ch,b9⟩;have av:=aa (And.intro cg (And.intro ch b9));clear cg ch b9));go_ret;have hA:aw w0 w2 [b,w.heap.size+1]:=(bf.out.andThen bi.out.2.2 (fun k C=>.inl (by have:=J.out k C;omega))).andThen av.out.2.2 (fun k C=>.inl (by have:=J.out k C;omega));refine⟨v2,l2,rfl,fun x=>?_,by omega,?_,⟨D,?_,az.out.1⟩,?_⟩;·rw[av.out.1 x,bi.out.1.mem_iff];exact az.out.2 x
   ·obtain⟨h1,h2⟩:=av.out.2.1;exact⟨h1,h2.imp id (fun⟨g,c,c6,h3,h4,h5⟩=>⟨g,c,c6,h3,by omega,h5⟩)⟩
   ·refine s5 (s5 ao.out.owns bi.out.2.2 (fun C=>?_)) av.out.2.2 (fun C=>?_);·have:=J.out b C;omega
    ·have:=J.out b C;omega
   ·exact(br.out.qk (l:=[b])).andThen hA (fun k C=>by simp at C;rcases C with rfl|rfl<;>simp)
  ·intro f a c kl y1 y2 I a3 a8 hl hv cc a9 c9 ad dp c8;obtain⟨c',ec,ey,ea⟩:=plainElem_int_inv Tryz.underlying2 hv;cases ec;cases ey;have HK:=aa a8;have HL:=aa hl;have cu:=aa cc;have ac:=aa a9;have bg:=aa (aw.grown ad);have bx:Hid (I.heap.size=wr.heap.size):=aa (by omega);have d0:=(aw.grown ad).bN c0 (by simp<;>omega);have d1:=(aw.grown ad).bN c1 (by simp<;>omega);have a2:=aa (aJ c3.out (aw.grown ad) (fun k C=>by have:=bz.out k C;simp[this]));clear a8 hl cc a9 ad hv dp;dsimp only[ic]at c8⊢;obtain⟨q,hq⟩:∃q,R.contains f=q:=⟨_,rfl⟩;have HQ:=aa hq;clear hq;have a0:=aa (aJ ab.out bg.out (fun k C=>by have:=J.out k C;simp;omega));have cx:Hid (∀k∈an (.slice p acc.length cp),k<I.heap.size):=aa (fun k C=>by have:=(au ab.out).hi k C;have:=bx.out;omega);have eb:w.heap.size+2≤I.heap.size:=by have:=bx.out;omega
   cases q;·
    go_wp2_with(go_at_call 100;refine(nk R f _ _ _ (aL a2.out (ai _ _)) (by omega)).mono ?_;rw[HQ.out];rintro e w2⟨rfl,rfl⟩);go_roundw;case rel=>have hA:=ak (ai I (.cells #[.int .i64 f,.int .i64 a.kind,.string a.peer,.string a.label,.int .i64 a.sort] 121));refine⟨D,_,a3,acc,mC ac.out hA (by simp) (by simp),D6 U.out HK.out HL.out (by have:=HQ.out;simpa using this),aJ a0.out hA (by simp),by omega,(bf.out.andThen bg.out (fun k C=>.inr (by simp at C;simp[C]))).andThen hA (by simp)⟩
    case measure=>rw[(mC ac.out (ak (ai I _)) (by simp) (by simp)).left_eq,ao.out.left_eq];exact c9
   ·have cy:Hid (∀A,∀j u,[Value.int .i64 c][j]?=some u→((I.alloc A).alloc (.cells #[.int .i64 c] 2)).cell? (Addr.add ⟨I.heap.size+1,0,none⟩ j)=some u):=aa (fun A j u hj=>by have:=dh (I.alloc A) [.int .i64 c] 2 j u hj;simpa using this);have c5:Hid (∀B W l,aw ((I.alloc (.cells #[.int .i64 f,.int .i64 a.kind,.string a.peer,.string a.label,.int .i64 a.sort] 121)).alloc B) W l→I.heap.size∉l→W.cell? ⟨I.heap.size,0,none⟩=some (.int .i64 f)∧W.cell? ⟨I.heap.size,1,none⟩=some (.int .i64 a.kind)∧W.cell? ⟨I.heap.size,2,none⟩=some (.string a.peer)∧W.cell? ⟨I.heap.size,3,none⟩=some (.string a.label)∧W.cell? ⟨I.heap.size,4,none⟩=some (.int .i64 a.sort)):=aa (fun B W l hA hn=>⟨hA.bN (by simp) hn,hA.bN (by simp) hn,hA.bN (by simp) hn,hA.bN (by simp) hn,hA.bN (by simp) hn⟩);go_wp2_with(first|(go_at_call 100;refine(nk R f _ _ _ (aL a2.out (ai _ _)) (by omega)).mono ?_;rw[HQ.out];rintro e w2⟨rfl,rfl⟩)|(at_builtin;refine wpList_append_own _ rfl (.tmp 20) (.tmp 22) 90 rfl (w.heap.size+2) 2 i0 (.int .i64 0) 1 8 Tryz.underlying90 HI.out.1 HI.out.2.1 HI.out.2.2.1 HI.out.2.2.2 rfl (by decide) (.slice p acc.length cp) acc.length (dO acc) rfl (aL a0.out (dT _ _ _)) ⟨I.heap.size+1,0,none⟩ 1 1 [.int .i64 c] rfl rfl (cy.out _) (sM [c]) (by unfold maxLen;omega) (by omega) (by simp;omega) ?_;intro v4 w4 af a4 _;have bk:=aE a4;obtain⟨t0,t1,t2,t3,t4⟩:=c5.out _ _ _ bk (fun C=>by have:=cx.out _ C;omega);have be:Hid (aw I w4 (an (.slice p acc.length cp))):=aa (by have:=(ak (dT I _ _)).trans bk;rwa[List.nil_append]at this);have e1:=be.out.bN d1 (fun C=>by have:=J.out _ C;omega);have b2:=aa (mC ac.out be.out (fun C=>by have:=J.out _ C;omega) (fun C=>by have:=J.out _ C;omega));have bv:=aa af;clear af a4 bk)|(at_delete;refine wpList_delete_ranges _ rfl _ _ 69 121 rfl 2 dk Tryz.underlying69 _ b (w.heap.size+1) n D _ a3 rfl b2.out (ic f a) kl rfl HK.out ?_;intro w5 b5 ah d3 bb;rw[Maps.strike_twice]at ah;have a1:=aa ah;have b4:=aa (aw.grown bb.grown);clear ah bb));go_frame;go_roundw;case rel=>
     have df:∀k∈an v4,k∉[b]:=fun k C=>by have:=(au bv.out).lo k C;simp;omega
     have ho:=aJ bv.out b4.out df;rw[show dO acc++[.int .i64 c]=dO (acc++[c])by simp[dO],show acc.length+1=(acc++[c]).length by simp]at ho;refine⟨D.del kl,_,b5,acc++[c],a1.out,Gs U.out HK.out HL.out cu.out (by have:=HQ.out;simpa using this),ho,by simp;omega,?_⟩;exact((bf.out.andThen bg.out (fun k C=>.inr (by simp at C;simp[C]))).andThen be.out (fun k C=>.inl (by have:=J.out k C;omega))).andThen b4.out (fun k C=>.inr (by simp at C;simp[C]))
    case measure=>rw[a1.out.left_eq,ao.out.left_eq];omega
end
section
open Go.RowKit Go.Maps
attribute [local go_sem ↓] Go.wp_at_zero Go.wp_at_succ
theorem vq{w:World}{b o j n:Nat}{x:Value}{m:aN}{es:List ar}(I:w.cell? ⟨j,o,none⟩=some x)(J:dL w m es b n):j≠b:=by rintro rfl;obtain⟨D,⟨l,clock,C,-⟩,-⟩:=J;simp[World.cell?,C]at I
def GI(m:aN)(R:List Int)(i:Nat):Prop:=∀j,j<i→∀x,R[j]?=some x→eF m x≠0
theorem tP(m:aN)(s:Int)(b:Nat)(sv:Value)(w:World)(hm:aW m=true)(hf:m.fit)(hG:dL w m m.al b m.al.length)(hS:cq w w.heap.size sv m.aj)(h0:0≤s)(h1:s<(m.aj.length:Int)):Calls Tryz.prog 39 #[.agg #[sv,.map (some b)],.int .i64 s,.func (.func 40) #[] #[]] w fun e w'=>∃r,e=.returned (.int .i64 r)∧jl m s r∧aw w w' [b]:=by
 have b4:=iy hm;have ba:=iz hm;have bx:Hid (∀e∈m.al,0≤e.dst∧e.dst<(m.aj.length:Int)):=aa (fun e he=>by have:=cw hm he;omega);have HP:=aa (And.intro hm hf);have bv:=aa (Bz ba h0 h1);obtain⟨sa,sc,rfl,cu,cv,bn⟩:=hS;obtain⟨bs,os,rfl,b6,ag⟩:=bn (by intro h;simp[h]at b4);have ay:=(ag.get 0 (by omega)).1;have b5:bs≠b:=vq ay hG;have a8:=aa ag;have HG:=aa hG;have cc:b<w.heap.size:=by obtain⟨_,h,_⟩:=hG;exact h.lt
 clear hm hf hG bn ag ay;go_enter Tryz.func39,Tryz.ntmps39;go_wp2_with fail;go_step3;go_wp2_with fail;go_step3;go_wp2_with fail;refine tK (fun W1 P=>?_);have b0:W1.cell? ⟨w.heap.size,0,none⟩=some (.slice (some ⟨bs,os,none⟩) m.aj.length sc):=by rw[P];simp
 have b1:W1.cell? ⟨w.heap.size,1,none⟩=some (.map (some b)):=by rw[P];simp
 have cz:w.heap.size+1<W1.heap.size:=by rw[P];simp
 have ao:Hid (aw w W1 []):=aa (by rw[P];exact ak (dT _ _ _));have b2:Hid (W1.ownsRow (w.heap.size+1) 2 1 (.slice (some ⟨w.heap.size+1,0,none⟩) 1 1) 1 (dO [s])):=aa (by rw[P];exact⟨rfl,.inr ⟨w.heap.size+1,1,#[.int .i64 s],rfl,Nat.le_refl _,by have:=bY (w.alloc (.cells #[.slice (some ⟨bs,os,none⟩) m.aj.length sc,.map (some b)] 71)) (.cells #[.int .i64 s] 2) (w.heap.size+1) (by simp);simpa using this,Nat.le_refl _,by unfold maxLen;omega,rfl,rfl⟩⟩);have bz:Hid (dL W1 m m.al b m.al.length):=aa (HG.out.keep ao.out (by simp));clear P;go_loopw[7,8](fun reached a2 wr=>∃(k:Nat)(R:List Int)(E:List ar),a2=.int .i64 k∧R.length≤80∧wr.ownsRow (w.heap.size+1) 2 1 reached R.length (dO R)∧JM m s k E R∧dL wr m E b m.al.length∧aw W1 wr [b])(fun _ st _=>200-(intOf st).toNat);case atStart=>exact⟨0,[s],m.al,rfl,by simp,b2.out,bv.out,bz.out,⟨rfl,rfl,rfl,Nat.le_refl _,fun _ _ _=>rfl⟩⟩
 case round=>
  obtain⟨k,R,E,rfl,b9,af,ac,bg,T⟩:=hrel;obtain⟨W2,rfl⟩:∃W2,W2=wr:=⟨_,rfl⟩;have U:=aa af;have I:=aa ac;have bL:=aa bg;have az:=aa T;have br:=ac.small;have c0:=T.bN b0 (by simp;omega);have c1:=T.bN b1 (by simp;omega);have cl:=T.size;have a9:Hid (dM W2 bs os m.aj):=aa (a8.out.block ((T.block bs (by omega) (by simpa using b5)).trans (ao.out.block bs b6 (by simp))));obtain⟨p,cp,rfl⟩:=aq af;clear af ac bg T;by_cases bk:0<R.length;·
   obtain⟨g,rfl,cr,cs⟩:=uS U.out bk;have cf:¬((R.length:Int)=0):=by omega
   have cg:(0:Int)<(R.length:Int):=by omega
   go_wp2_with fail;go_loopw[18](fun i wi=>∃j:Nat,j≤R.length∧i=.int .i64 j∧GI m R j∧Below W2.heap.size W2 wi)(fun i _=>R.length-(intOf i).toNat);case atStart=>exact⟨0,Nat.zero_le _,rfl,fun j hj=>by omega,Below.refl _ _⟩
   case round=>
    obtain⟨j,hj,rfl,ax,J⟩:=hrel;have a5:=aa ax;have C:=aa J;have e0:=(J.cell (p:=⟨w.heap.size,0,none⟩) (by show w.heap.size<_;omega)).trans c0;have e1:=(J.cell (p:=⟨w.heap.size,1,none⟩) (by show w.heap.size<_;omega)).trans c1;have ch:=J.size;clear ax J;by_cases av:j<R.length;·
     obtain⟨x,hx⟩:∃x,R[j]=x:=⟨_,rfl⟩;have ad:x∈R:=by rw[←hx];exact List.getElem_mem av
     obtain⟨cx,cy⟩:=I.out.KL x ad;have cn:wr.cell? ⟨g,j,none⟩=some (.int .i64 x):=bF (aL U.out C.out) rfl j _ (by simp[dO,av,hx]);have bp:x.toNat<m.aj.length:=by omega
     have a1:=a9.out.get x.toNat bp;obtain⟨st,ah⟩:∃st,m.aj[x.toNat]=st:=⟨_,rfl⟩;rw[ah]at a1;have be:bs<W2.heap.size:=by omega
     obtain⟨s0,s1⟩:=a1.carry be C.out;obtain⟨q,hq⟩:∃q,(st.kind==0)=q:=⟨_,rfl⟩;have HQ:=aa hq;have a3:Hid (eF m x=st.kind):=aa (by rw[eF,List.getElem?_eq_getElem bp,ah]);have a4:=aa ad;have HX:Hid (R[j]?=some x):=aa (by rw[List.getElem?_eq_getElem av,hx]);clear a1 ah hq hx ad;cases q;·
      go_wp2_with(go_at_call 40;refine(nP (x:=st) HQ.out _).mono ?_;rintro e w3⟨rfl,ab⟩;have a0:=aa ab;clear ab);go_roundw;case rel=>
       refine⟨j+1,av,by go_num,fun i hi y hy=>?_,C.out.trans (a0.out.mono C.out.size)⟩;by_cases b7:i<j;·exact a5.out i b7 y hy
       ·obtain rfl:i=j:=by omega
        rw[HX.out]at hy;cases hy;rw[a3.out];have:=HQ.out;simpa using this
      case measure=>simp[intOf];omega
     ·go_wp2_with(go_at_call 40;refine(nP (x:=st) HQ.out _).mono ?_;rintro e w3⟨rfl,ab⟩;have a0:=aa ab;clear ab);try rw[Exit.noGoto_ret]
      go_ret;refine⟨k,rfl,Bx I.out a4.out (by rw[a3.out];have:=HQ.out;simpa using this),?_⟩;exact(((ao.out.qk (l:=[b])).andThen az.out (fun k hk=>.inr hk)).andThen (ak C.out) (by simp)).andThen (ak a0.out) (by simp)
    ·obtain rfl:j=R.length:=by omega
     go_wp2_with(go_at_call 78;refine(xf m E R b m.al.length _ _ _ _ _ _ HP.out.1 HP.out.2 I.out.sub (bL.out.keep (ak C.out) (by simp)) ba (aL U.out C.out) (by omega)).mono ?_;rintro e w3⟨v3,R3,rfl,bi,b8,bm,bf,bb⟩;have H3:=aa (And.intro bi (And.intro bm (And.intro bf bb)));clear bi bm bf bb);go_roundw;case rel=>
      have ax:∀t∈R,eF m t≠0:=fun t ht=>by obtain⟨i,hi,rfl⟩:=List.getElem_of_mem ht;exact a5.out i hi _ (List.getElem?_eq_getElem hi)
      have hb:=Dg I.out ax bx.out (by intro h;simp[h]at bk) H3.out.1;refine⟨k+1,R3,_,by go_num,b8,?_,hb,H3.out.2.2.1,?_⟩;·obtain⟨h1,h2⟩:=H3.out.2.1;exact⟨h1,h2.imp id (fun⟨g,c,b3,h3,h4,h5⟩=>⟨g,c,b3,h3,by omega,h5⟩)⟩
      ·exact(az.out.andThen (ak C.out) (by simp)).andThen H3.out.2.2.2 (fun k hk=>.inr hk)
     case measure=>simp[intOf];omega
  ·obtain rfl:R=[]:=List.length_eq_zero_iff.1 (by omega);go_wp2_with fail;go_ret;exact⟨-1,rfl,Df I.out,(ao.out.qk (l:=[b])).andThen az.out (fun k hk=>.inr hk)⟩
end
section
open Go.RowKit Go.Maps
attribute [local go_sem ↓] Go.wp_at_zero Go.wp_at_succ
theorem Dz{r:Int}{m:aN}{s:Int}(hr:j5 m s r)(v:Value)(w:World)(hf:m.fit)(hv:bu w v m):Calls Tryz.prog 10 #[v,.int .i64 s] w fun e w'=>e=.returned (.int .i64 r)∧Below w.heap.size w w':=by
 have HF:=aa hf;have HV:Hid (∀W,Below w.heap.size w W→bu W v m):=aa (fun W hb=>hv.carry hb);obtain⟨sv,ev,rfl,hs,he⟩:=hv;obtain⟨sa,sc,rfl,-⟩:=hs;obtain⟨ea,ec,rfl,-⟩:=he;obtain⟨q,hq⟩:∃q,(aW m&&fj s 0 ((m.aj.length:Int)-1))=q:=⟨_,rfl⟩;have HR:Hid (if q then jl m s r else r=-1):=aa (by rw[j5,hq]at hr;exact hr);have HQ:=aa hq;clear hq hf hr;cases q;·go_enter Tryz.func10,Tryz.ntmps10;go_wp2_with(go_at_call 34;refine(im HQ.out _ _ HF.out (HV.out _ (ai _ _))).mono ?_;rintro e w1⟨rfl,j⟩;have l:Hid (Below w.heap.size w w1):=aa ((ai _ _).trans (j.mono (by simp)));clear j);go_ret;exact⟨aU HR.out,l.out⟩
 ·have C:aW m=true∧fj s 0 ((m.aj.length:Int)-1)=true:=by have:=HQ.out;simpa using this
  have HM:=aa C.1;have I:Hid (0≤s∧s<(m.aj.length:Int)):=aa (by have:=C.2;simp[fj]at this;omega);clear C;go_enter Tryz.func10,Tryz.ntmps10;go_wp2_with(first|(go_at_call 34;refine(im HQ.out _ _ HF.out (HV.out _ (ai _ _))).mono ?_;rintro e w1⟨rfl,j⟩;have l:Hid (Below w.heap.size w w1):=aa ((ai _ _).trans (j.mono (by simp)));have b0:=(j.cell (p:=⟨w.heap.size,0,none⟩) (by simp));have b1:=(j.cell (p:=⟨w.heap.size,1,none⟩) (by simp));have b2:=(j.cell (p:=⟨w.heap.size,2,none⟩) (by simp));simp at b0 b1 b2;clear j)|(go_at_call 38;refine(xg m _ _ HM.out HF.out (HV.out _ l.out)).mono ?_;rintro e w2⟨sv,b,rfl,U,R,ab,P⟩;have H2:=aa (And.intro U (And.intro R P));clear U R P)|(go_at_call 39;refine(tP m s b _ _ HM.out HF.out H2.out.2.1 H2.out.1 I.out.1 I.out.2).mono ?_;rintro e w3⟨r3,rfl,T,J⟩;have H3:=aa (And.intro T J);clear T J));go_ret;refine⟨aU (HR.out.unique H3.out.1),l.out.trans ?_⟩;exact(H2.out.2.2.trans (H3.out.2.below H2.out.2.2.size (by simp;exact ab))).mono l.out.size
end
end Go.Proofs.YtlbcnmcfljaijaaGreat
