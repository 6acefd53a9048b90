import Derived.Test.YtlbcnmcfljaijaaGreatQN00
import Derived.WalkKit
import Derived.WalkSpells
import Derived.WalkLawsBesides
import Derived.BigRegion
namespace Go.Proofs.YtlbcnmcfljaijaaGreat
open Go.RowKit
set_option linter.unusedSimpArgs false
set_option linter.unusedVariables false
set_option maxHeartbeats 4000000
set_option maxRecDepth 100000
def FD(v:Nat):Prop:=v<18446744073709551616
theorem FD.lt{v:Nat}(h:FD v):v<18446744073709551616:=h
structure jt(w w':World)(sb i:Nat)(v:Value):Prop where
 same:w'.cell? ⟨sb,i,none⟩=some v
 other:∀j,j≠i→w'.cell? ⟨sb,j,none⟩=w.cell? ⟨sb,j,none⟩
 mark:∀j,w'.frozen? ⟨sb,j,none⟩=w.frozen? ⟨sb,j,none⟩
 grown:w.grownBy w' (some sb)
theorem kg(w:World)(C i:Nat)(v l:Value)(h:w.cell? ⟨C,i,none⟩=some l):jt w (w.setCell ⟨C,i,none⟩ v) C i v where
 same:=by simp[World.cell?_setCell_same,h]
 other:=fun j J=>by rw[World.cell?_setCell_other];simp
 mark:=fun j=>by simp
 grown:=⟨rfl,rfl,rfl,by simp[World.setCell],fun k _ I=>Below.heap_setCell _ _ _ _ (fun e=>I (by simp[e]))⟩
theorem jt.drew{w w':World}{j i:Nat}{v:Value}(h:jt w w' j i v):jt w w'.drew j i v:=⟨h.same,h.other,h.mark,⟨h.grown.os,h.grown.tape,h.grown.output,h.grown.size,h.grown.block⟩⟩
theorem dU{a b c:World}{r:Option Nat}(h:a.grownBy b r)(k:b.grownBy c r):a.grownBy c r:=⟨k.os.trans h.os,k.tape.trans h.tape,k.output.trans h.output,Nat.le_trans h.size k.size,fun i hi j=>(k.block i (Nat.lt_of_lt_of_le hi h.size) j).trans (h.block i hi j)⟩
structure eI(w:World)(sb:Nat)(ao:Option Addr)(len cap:Nat):Prop where
 c0:w.cell? ⟨sb,0,none⟩=some (.slice ao len cap)
 c1:∃p:Nat,p≤len∧w.cell? ⟨sb,1,none⟩=some (.int .i64 (p:Int))
 c2:∃mix:Nat,FD mix∧w.cell? ⟨sb,2,none⟩=some (.int .u64 (mix:Int))
 c3:∃k:Nat,k≤12∧w.cell? ⟨sb,3,none⟩=some (.int .i64 (k:Int))
 fr:∀j,w.frozen? ⟨sb,j,none⟩=false
 row:∀i,i<len→∃b off z,ao=some ⟨b,off,none⟩∧b<sb∧w.cell? ⟨b,off+i,none⟩=some (.int .u8 z)∧0≤z∧z<256
theorem mh(w:World)(o:Obj)(r:Option Nat):w.grownBy (w.alloc o) r:=⟨rfl,rfl,rfl,by simp,fun k j _=>Below.heap_alloc _ _ _ j⟩
theorem ze(w:World)(r:Option Nat):w.grownBy w r:=⟨rfl,rfl,rfl,Nat.le_refl _,fun _ _ _=>rfl⟩
theorem eI.lt{w:World}{j:Nat}{l:Option Addr}{len cap:Nat}(h:eI w j l len cap):j<w.heap.size:=World.block_lt_of_cell? w _ h.c0
theorem eI.kept{w w':World}{I:Nat}{J:Option Addr}{len cap:Nat}{r:Option Nat}(h:eI w I J len cap)(C:w.grownBy w' r)(hr:∀k,r=some k→I<k):eI w' I J len cap:=by
 have l:∀k,k≤I→some k≠r:=fun k P e=>by have:=hr k e.symm;omega
 obtain⟨p,hp,R⟩:=h.c1;obtain⟨m,hm,T⟩:=h.c2;obtain⟨k,P,U⟩:=h.c3;refine⟨C.cell h.c0 (l _ (Nat.le_refl _)),⟨p,hp,C.cell R (l _ (Nat.le_refl _))⟩,⟨m,hm,C.cell T (l _ (Nat.le_refl _))⟩,⟨k,P,C.cell U (l _ (Nat.le_refl _))⟩,fun j=>?_,fun i hi=>?_⟩;·rw[World.frozen?_of_block (w:=w) (w':=w') (a:=⟨I,j,none⟩) (C.block I h.lt (l _ (Nat.le_refl _)))];exact h.fr j
 ·obtain⟨b,off,z,e,hb,hc,hz⟩:=h.row i hi;exact⟨b,off,z,e,hb,C.cell hc (l b (by omega)),hz⟩
theorem uY{x most:Int}(I:0≤x)(J:1<most)(C:most≤1099511627776):0≤wrap64 (x.tmod most)∧wrap64 (x.tmod most)<most:=by
 have j:0≤x.tmod most:=Int.tmod_nonneg _ I;have l:x.tmod most<most:=Int.tmod_lt_of_pos _ (by omega);have e:wrap64 (x.tmod most)=x.tmod most:=by unfold wrap64;omega
 rw[e];exact⟨j,l⟩
theorem wrap_u64_nonneg(x:Int):0≤IntKind.u64.wrap x:=by rw[IntKind.wrap_u64];omega
theorem E9{w C w7 w8 P:World}{l:Nat}{R:Option Addr}{len cap p m7 m8 m9:Nat}(hp:p≤len)(row:∀i,i<len→∃b off z,R=some ⟨b,off,none⟩∧b<l∧w.cell? ⟨b,off+i,none⟩=some (.int .u8 z)∧0≤z∧z<256)(c3:∃k:Nat,k≤12∧w.cell? ⟨l,3,none⟩=some (.int .i64 (k:Int)))(c0:w.cell? ⟨l,0,none⟩=some (.slice R len cap))(fr:∀j,w.frozen? ⟨l,j,none⟩=false)(I:C.cell? ⟨l,1,none⟩=some (.int .i64 (p:Int))∧(∀j,j≠1→C.cell? ⟨l,j,none⟩=w.cell? ⟨l,j,none⟩)∧(∀j,C.frozen? ⟨l,j,none⟩=w.frozen? ⟨l,j,none⟩)∧w.grownBy C (some l))(T:jt C w7 l 2 (.int .u64 (m7:Int)))(U:jt w7 w8 l 2 (.int .u64 (m8:Int)))(J:jt w8 P l 2 (.int .u64 (m9:Int)))(hu:FD m9):eI P l R len cap∧w.grownBy P (some l):=by
 have hg:=dU I.2.2.2 (dU T.grown (dU U.grown J.grown));have ho:∀j,j≠2→P.cell? ⟨l,j,none⟩=C.cell? ⟨l,j,none⟩:=fun j hj=>(J.other j hj).trans ((U.other j hj).trans (T.other j hj));refine⟨⟨?_,⟨p,hp,?_⟩,⟨m9,hu,J.same⟩,?_,?_,?_⟩,hg⟩;·rw[ho 0 (by omega),I.2.1 0 (by omega)];exact c0
 ·rw[ho 1 (by omega)];exact I.1
 ·obtain⟨k,hk,e⟩:=c3;exact⟨k,hk,by rw[ho 3 (by omega),I.2.1 3 (by omega)];exact e⟩
 ·intro j;rw[J.mark,U.mark,T.mark,I.2.2.1];exact fr j
 ·intro i hi;obtain⟨b,off,z,e,hb,hc,hz⟩:=row i hi;exact⟨b,off,z,e,hb,hg.cell hc (by simp;omega),hz⟩
theorem va(a b:Int):∃m:Nat,FD m∧bits .xor .u64 a b=(m:Int):=by have j:=bits_lo_u64 .xor a b;have l:=bits_hi_u64 .xor a b;exact⟨(bits .xor .u64 a b).toNat,by unfold FD;omega,by omega⟩
theorem uN(l:Nat)(ao:Option Addr)(len cap:Nat)(most:Int)(w:World)(hm:1<most)(ah:most≤1099511627776)(hl:len≤1048576)(h:eI w l ao len cap):Calls Tryz.prog 33 #[.pointer (some ⟨l,0,none⟩),.int .i64 most] w fun e w'=>∃r:Int,e=.returned (.int .i64 r)∧0≤r∧r<most∧eI w' l ao len cap∧w.grownBy w' (some l):=by
 obtain⟨c0,⟨p,hp,c1⟩,⟨P,ay,c2⟩,c3,fr,row⟩:=h;have R:=aa row;have ag:=aa c3;clear row c3;by_cases ho:p<len;·obtain⟨b,off,z,rfl,az,cz,a0,a1⟩:=R.out p ho;go_enter Tryz.func33,Tryz.ntmps33;go_wp2;go_region;go_wp2;go_region;go_wp2;have hT:=((kg w l 1 (.int .i64 ((p:Int)+1)) _ c1).drew).drew;generalize((w.setCell ⟨l,1,none⟩ (.int .i64 ((p:Int)+1))).drew).drew=wA at*;have k2:wA.cell? ⟨l,2,none⟩=some (.int .u64 (P:Int)):=(hT.other 2 (by omega)).trans c2;have kf:∀j,wA.frozen? ⟨l,j,none⟩=false:=fun j=>(hT.mark j).trans (fr j);have HT:=aa hT;have HF:=aa (And.intro c0 (And.intro c1 fr));clear c0 c1 c2 fr hT cz;go_region;go_wp2;obtain⟨m7,av,e7⟩:=va (P:Int) (IntKind.u64.wrap ((P:Int)*8192));rw[e7];have C:=(kg wA l 2 (.int .u64 (m7:Int)) _ k2).drew;generalize(wA.setCell ⟨l,2,none⟩ (.int .u64 (m7:Int))).drew=w7 at*;have k7:=C.same;have f7:∀j,w7.frozen? ⟨l,j,none⟩=false:=fun j=>(C.mark j).trans (kf j);have ab:=aa C;clear k2 kf C e7;go_region;go_wp2;obtain⟨m8,ax,e8⟩:=va (m7:Int) ((m7:Int)/128);rw[e8];have I:=(kg w7 l 2 (.int .u64 (m8:Int)) _ k7).drew;generalize(w7.setCell ⟨l,2,none⟩ (.int .u64 (m8:Int))).drew=w8 at*;have k8:=I.same;have f8:∀j,w8.frozen? ⟨l,j,none⟩=false:=fun j=>(I.mark j).trans (f7 j);have ac:=aa I;clear k7 f7 I e8;go_region;go_wp2;obtain⟨m9,af,e9⟩:=va (m8:Int) (IntKind.u64.wrap ((m8:Int)*131072));rw[e9];have T:=(kg w8 l 2 (.int .u64 (m9:Int)) _ k8).drew;generalize(w8.setCell ⟨l,2,none⟩ (.int .u64 (m9:Int))).drew=w9 at*;have ad:=aa T;clear k8 f8 T e9;go_ret;have J:=E9 (p:=p+1) (by omega) R.out ag.out HF.out.1 HF.out.2.2 ⟨by rw[show((p+1:Nat):Int)=(p:Int)+1 from by omega];exact HT.out.same,HT.out.other,HT.out.mark,HT.out.grown⟩ ab.out ac.out ad.out af;have hr:=uY (wrap_u64_nonneg (z+(m9:Int)/1048576)) hm ah;exact⟨_,rfl,hr.1,hr.2,J.1,J.2⟩
 ·go_enter Tryz.func33,Tryz.ntmps33;go_wp2;go_region;go_wp2;generalize U:w.drew=wA at*;have k2:wA.cell? ⟨l,2,none⟩=some (.int .u64 (P:Int)):=by rw[←U];exact c2
  have kf:∀j,wA.frozen? ⟨l,j,none⟩=false:=fun j=>by rw[←U];exact fr j
  have HA:Hid (wA.cell? ⟨l,1,none⟩=some (.int .i64 (p:Int))∧(∀j,j≠1→wA.cell? ⟨l,j,none⟩=w.cell? ⟨l,j,none⟩)∧(∀j,wA.frozen? ⟨l,j,none⟩=w.frozen? ⟨l,j,none⟩)∧w.grownBy wA (some l)):=by rw[←U];exact⟨c1,fun _ _=>rfl,fun _=>rfl,⟨rfl,rfl,rfl,Nat.le_refl _,fun _ _ _=>rfl⟩⟩
  have HF:=aa (And.intro c0 (And.intro c1 fr));clear c0 c1 c2 fr U;go_region;go_wp2;obtain⟨m7,av,e7⟩:=va (P:Int) (IntKind.u64.wrap ((P:Int)*8192));rw[e7];have C:=(kg wA l 2 (.int .u64 (m7:Int)) _ k2).drew;generalize(wA.setCell ⟨l,2,none⟩ (.int .u64 (m7:Int))).drew=w7 at*;have k7:=C.same;have f7:∀j,w7.frozen? ⟨l,j,none⟩=false:=fun j=>(C.mark j).trans (kf j);have ab:=aa C;clear k2 kf C e7;go_region;go_wp2;obtain⟨m8,ax,e8⟩:=va (m7:Int) ((m7:Int)/128);rw[e8];have I:=(kg w7 l 2 (.int .u64 (m8:Int)) _ k7).drew;generalize(w7.setCell ⟨l,2,none⟩ (.int .u64 (m8:Int))).drew=w8 at*;have k8:=I.same;have f8:∀j,w8.frozen? ⟨l,j,none⟩=false:=fun j=>(I.mark j).trans (f7 j);have ac:=aa I;clear k7 f7 I e8;go_region;go_wp2;obtain⟨m9,af,e9⟩:=va (m8:Int) (IntKind.u64.wrap ((m8:Int)*131072));rw[e9];have T:=(kg w8 l 2 (.int .u64 (m9:Int)) _ k8).drew;generalize(w8.setCell ⟨l,2,none⟩ (.int .u64 (m9:Int))).drew=w9 at*;have ad:=aa T;clear k8 f8 T e9;go_ret;have J:=E9 (p:=p) hp R.out ag.out HF.out.1 HF.out.2.2 HA.out ab.out ac.out ad.out af;have hr:=uY (wrap_u64_nonneg ((m9:Int)/1048576)) hm ah;exact⟨_,rfl,hr.1,hr.2,J.1,J.2⟩
theorem qL(j:Nat)(l:Option Addr)(len cap:Nat)(most:Int)(w:World)(R:1<most)(C:most≤1099511627776)(P:len≤1048576)(h:eI w j l len cap):Calls Tryz.prog 66 #[.pointer (some ⟨j,0,none⟩),.int .i64 most] w fun e w'=>∃b:Bool,e=.returned (.bool b)∧eI w' j l len cap∧w.grownBy w' (some j):=by have HN:Hid (∀w,eI w j l len cap→Calls Tryz.prog 33 #[.pointer (some ⟨j,0,none⟩),.int .i64 most] w fun e w'=>∃r:Int,e=.returned (.int .i64 r)∧0≤r∧r<most∧eI w' j l len cap∧w.grownBy w' (some j)):=fun w h=>uN j l len cap most w R C P h;have U:=aa h;clear h R C P;go_enter Tryz.func66,Tryz.ntmps66;go_wp2_with fail;refine(HN.out _ U.out).mono ?_;rintro e w1⟨r,rfl,h0,h1,T,J⟩;have I:=aa (And.intro T J);clear T J h0 h1;go_wp2;go_ret;exact⟨_,rfl,I.out.1,I.out.2⟩
def bT(w:World)(j:Option Addr)(len:Nat):Prop:=∀i,i<len→∃b off z,j=some ⟨b,off,none⟩∧w.cell? ⟨b,off+i,none⟩=some (.int .u8 z)∧0≤z∧z<256
theorem bT.below{w w':World}{j:Option Addr}{len:Nat}(h:bT w j len)(C:Below w.heap.size w w'):bT w' j len:=fun i hi=>by obtain⟨b,off,z,e,l,I⟩:=h i hi;exact⟨b,off,z,e,(C.cell (p:=⟨b,off+i,none⟩) (World.block_lt_of_cell? w _ l)).trans l,I⟩
theorem eI.mixed{w w':World}{C:Nat}{I:Option Addr}{len cap m:Nat}(h:eI w C I len cap)(l:jt w w' C 2 (.int .u64 (m:Int)))(hm:FD m):eI w' C I len cap:=by obtain⟨p,hp,J⟩:=h.c1;obtain⟨k,U,P⟩:=h.c3;refine⟨(l.other 0 (by omega)).trans h.c0,⟨p,hp,(l.other 1 (by omega)).trans J⟩,⟨m,hm,l.same⟩,⟨k,U,(l.other 3 (by omega)).trans P⟩,fun j=>(l.mark j).trans (h.fr j),fun i hi=>?_⟩;obtain⟨b,off,z,e,R,T,hz⟩:=h.row i hi;exact⟨b,off,z,e,R,l.grown.cell T (by simp;omega),hz⟩
theorem eI.sized{w w':World}{C:Nat}{I:Option Addr}{len cap k:Nat}(h:eI w C I len cap)(l:jt w w' C 3 (.int .i64 (k:Int)))(U:k≤12):eI w' C I len cap:=by obtain⟨p,hp,J⟩:=h.c1;obtain⟨m,hm,P⟩:=h.c2;refine⟨(l.other 0 (by omega)).trans h.c0,⟨p,hp,(l.other 1 (by omega)).trans J⟩,⟨m,hm,(l.other 2 (by omega)).trans P⟩,⟨k,U,l.same⟩,fun j=>(l.mark j).trans (h.fr j),fun i hi=>?_⟩;obtain⟨b,off,z,e,R,T,hz⟩:=h.row i hi;exact⟨b,off,z,e,R,l.grown.cell T (by simp;omega),hz⟩
theorem z6(x:Int):∃m:Nat,FD m∧IntKind.u64.wrap x=(m:Int):=by rw[IntKind.wrap_u64];exact⟨(x%18446744073709551616).toNat,by unfold FD;omega,by omega⟩
theorem CA{w R T:World}{C:Nat}{J:Option Addr}{len cap:Nat}{v:Value}(h:eI w C J len cap)(I:jt w R C 3 v)(l:jt R T C 3 (.int .i64 12)):eI T C J len cap:=h.sized (k:=12) ⟨l.same,fun j P=>(l.other j P).trans (I.other j P),fun j=>(l.mark j).trans (I.mark j),dU I.grown l.grown⟩ (by omega)
theorem jG(ao:Option Addr)(len cap:Nat)(w:World)(hl:len≤1048576)(hr:bT w ao len):Calls Tryz.prog 26 #[.slice ao len cap] w fun e w'=>e=.returned (.pointer (some ⟨w.heap.size,0,none⟩))∧eI w' w.heap.size ao len cap∧Below w.heap.size w w':=by
 have HR:=aa hr;clear hr;go_enter Tryz.func26,Tryz.ntmps26;go_wp2;go_loopw[4](fun i wr=>∃k:Nat,k≤len∧k≤64∧i=.int .i64 k∧eI wr w.heap.size ao len cap∧Below w.heap.size w wr)(fun i _=>64-(intOf i).toNat);case atStart=>refine⟨0,by omega,by omega,rfl,⟨by simp,⟨0,by omega,by simp⟩,⟨88172645463325252,by unfold FD;omega,by simp⟩,⟨0,by omega,by simp⟩,fun j=>by simp[World.frozen?_alloc_at],fun i hi=>?_⟩,(Below.refl _ _).alloc (Nat.le_refl _) _⟩;obtain⟨b,off,z,e,hc,hz⟩:=HR.out i hi;have U:=World.block_lt_of_cell? w _ hc;exact⟨b,off,z,e,U,(World.cell?_alloc_lt w _ ⟨b,off+i,none⟩ U).trans hc,hz⟩
 case round=>
  obtain⟨k,hk,ag,rfl,hs,J⟩:=hrel;have l:=aa hs;obtain⟨c0,⟨p,hp,c1⟩,⟨af,ah,c2⟩,⟨q,hq,c3⟩,fr,row⟩:=hs;have P:=aa row;have HB:=aa J;clear row J;by_cases ab:k<len∧k<64;·
   obtain⟨T,h2⟩:=ab;obtain⟨b,off,z,rfl,av,cz,ax,ay⟩:=P.out k T;go_wp2;go_region;go_wp2;go_roundw;case rel=>obtain⟨m,hu,e⟩:=z6 (bits .xor .u64 (af:Int) z*1099511628211);rw[e];have hT:=(kg wr w.heap.size 2 (.int .u64 (m:Int)) _ c2).drew;exact⟨k+1,by omega,by omega,by go_num,l.out.mixed hT hu,(HB.out.setCell (Nat.le_refl _) _).drew⟩
   case measure=>simp[intOf];omega
  ·have C:(¬k<len)∨(k<len∧¬k<64):=by omega
   clear ab;have I:=kg wr w.heap.size 3 (.int .i64 ((len:Int)/20)) _ c3;have R:=aa I;by_cases ad:12<(len:Int)/20;·
    rcases C with T|⟨T,h2⟩;·exact absurd ad (by omega)
    ·have ac:=aa (kg (wr.setCell ⟨w.heap.size,3,none⟩ (.int .i64 ((len:Int)/20))) w.heap.size 3 (.int .i64 12) _ I.same);clear I;go_wp2;go_ret;exact⟨rfl,CA l.out R.out ac.out,(HB.out.setCell (Nat.le_refl _) _).setCell (Nat.le_refl _) _⟩
   ·rcases C with T|⟨T,h2⟩;all_goals clear I;go_wp2;go_ret;exact⟨rfl,l.out.sized (k:=len/20) (by rw[show((len/20:Nat):Int)=(len:Int)/20 from by omega];exact R.out) (by omega),HB.out.setCell (Nat.le_refl _) _⟩
end Go.Proofs.YtlbcnmcfljaijaaGreat
