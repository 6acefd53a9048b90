import Derived.Test.YtlbcnmcfljaijaaGreatQN15
import Derived.Test.YtlbcnmcfljaijaaGreatQN00
import Derived.Deep.DrawnRows
import Derived.Laws.AppendOwnNone
namespace Go.Proofs.YtlbcnmcfljaijaaGreat
open Go.RowKit
set_option linter.unusedSimpArgs false
set_option linter.unusedVariables false
set_option maxHeartbeats 4000000
set_option maxRecDepth 100000
section
attribute [local go_sem ↓] Go.wp_at_zero Go.wp_at_succ
def jL(n:Nd):Bool:=n.op==0||n.op==5||n.op==6
def jy(all:List Nd)(j:Nat):Nat:=((all.take j).filter jL).length
theorem kj{all:List Nd}{j:Nat}(h:j<all.length):jy all (j+1)=jy all j+(if jL all[j]then 1 else 0):=by unfold jy;rw[List.take_succ_eq_append_getElem h,List.filter_append,List.length_append];cases l:jL all[j]<;>simp[l]
theorem rl(all:List Nd)(j:Nat):jy all j≤j:=by
 unfold jy;have l:=List.length_filter_le jL (all.take j);have C:(all.take j).length≤j:=by simp;omega
 omega
structure qm(w:World)(xb B:Nat)(all:List Nd)(ns:List ByteArray)(fis:List Int):Prop where
 c0:∃v,w.cell? ⟨xb,0,none⟩=some v∧bR w B v all
 nm:∃g cap,w.cell? ⟨xb,4,none⟩=some (.slice g ns.length cap)∧∀j(h:j<ns.length),∃b o,g=some ⟨b,o,none⟩∧b<B∧w.cell? ⟨b,o+j,none⟩=some (.string ns[j])
 fi:∃g cap,w.cell? ⟨xb,5,none⟩=some (.slice g fis.length cap)∧∀j(h:j<fis.length),∃b o,g=some ⟨b,o,none⟩∧b<B∧w.cell? ⟨b,o+j,none⟩=some (.int .i64 fis[j])
 lx:xb<B
theorem qm.below{w w':World}{xb B:Nat}{all:List Nd}{ns:List ByteArray}{fis:List Int}(h:qm w xb B all ns fis)(l:Below B w w'):qm w' xb B all ns fis:=by
 obtain⟨⟨v,T,U⟩,⟨g,cap,h3,h4⟩,⟨R,C,h5,h6⟩,I⟩:=h;refine⟨⟨v,(l.cell (p:=⟨xb,0,none⟩) I).trans T,U.carry l⟩,⟨g,cap,(l.cell (p:=⟨xb,4,none⟩) I).trans h3,fun j P=>?_⟩,⟨R,C,(l.cell (p:=⟨xb,5,none⟩) I).trans h5,fun j P=>?_⟩,I⟩;·obtain⟨b,o,e1,e2,J⟩:=h4 j P;exact⟨b,o,e1,e2,(l.cell (p:=⟨b,o+j,none⟩) e2).trans J⟩
 ·obtain⟨b,o,e1,e2,J⟩:=h6 j P;exact⟨b,o,e1,e2,(l.cell (p:=⟨b,o+j,none⟩) e2).trans J⟩
theorem AN:∀{ns:List ByteArray}{fis:List Int}{t:ByteArray}{k:Nat},fis.length=ns.length→(∀j(h:j<ns.length),j<k→(ns[j].toList==t.toList)=false)→(I:k<ns.length)→(ns[k].toList==t.toList)=true→∀(C:k<fis.length),ga ns fis t=fis[k]|x::ns,z::fis,t,0,_,_,_,h,_=>by rw[ga];simp only[List.getElem_cons_zero]at h⊢;rw[if_pos h]|x::ns,z::fis,t,k+1,T,J,I,h,C=>by have l:=J 0 (by simp) (by omega);simp only[List.getElem_cons_zero]at l;rw[ga,l];simp only[List.getElem_cons_succ]at h⊢;exact AN (by simpa using T) (fun j P R=>by have:=J (j+1) (by simpa using P) (by omega);simpa using this) (by simpa using I) h (by simpa using C)
theorem Gt{ns:List ByteArray}{fis:List Int}{t:ByteArray}(I:∀j(h:j<ns.length),(ns[j].toList==t.toList)=false):ga ns fis t=0:=by
 refine pS ?_;cases h:cH ns t;·rfl
 ·simp only[cH,List.any_eq_true]at h;obtain⟨x,J,l⟩:=h;obtain⟨j,C,rfl⟩:=List.getElem_of_mem J;rw[I j C]at l;cases l
def rP(all:List Nd)(ns:List ByteArray)(fis:List Int)(d:Nat):Prop:=∀(pos xb B:Nat)(w:World),all.length-pos=d→¬(∀n∈all.drop pos,n.op=2)→qm w xb B all ns fis→B≤w.heap.size→Calls Tryz.prog 84 #[.pointer (some ⟨xb,0,none⟩),.int .i64 (pos:Int)] w fun e w'=>e=.returned (.int .i64 (bq ns fis (jy all pos) (all.drop pos)))∧Below w.heap.size w w'
theorem BM(all:List Nd)(ns:List ByteArray)(fis:List Int)(hl:fis.length=ns.length)(bz:ns.length≤1000)(I xb B:Nat)(w:World)(T:I<all.length)(bm:all.length≤400)(ad:all[I].op=1)(h:qm w xb B all ns fis)(hB:B≤w.heap.size):Calls Tryz.prog 84 #[.pointer (some ⟨xb,0,none⟩),.int .i64 (I:Int)] w fun e w'=>e=.returned (.int .i64 (ga ns fis all[I].name))∧Below w.heap.size w w':=by
 have H:=aa h;obtain⟨⟨v,c0,bb⟩,⟨gn,bk,c4,ba⟩,⟨gf,bi,c5,a8⟩,hx⟩:=h;obtain⟨ao,cap,rfl,bs,bv,hr⟩:=bb;obtain⟨b,o,rfl,hb,U⟩:=hr (by rintro rfl;simp at T);have P:=U.get I T;obtain⟨x1,a0⟩:∃x,x=all[I]:=⟨_,rfl⟩;rw[←a0]at P ad⊢;obtain⟨op,name,bp,many,sort⟩:=x1;dsimp only at ad;subst ad;obtain⟨d0,d1,d2,d3,d4⟩:=P;dsimp only at d0 d1 d2 d3 d4;have a2:=aa ba;have a1:=aa a8;have J:=aa hB;have HX:=aa hx;clear a0 U hr;go_enter Tryz.func84,Tryz.ntmps84;go_wp2_with fail;have br:Hid (∀o:Obj,Below w.heap.size w (w.alloc o)):=aa (ai w);go_loopw[6](fun i wr=>∃k:Nat,k≤ns.length∧i=.int .i64 k∧(∀j(h:j<ns.length),j<k→(ns[j].toList==name.toList)=false)∧wr.cell? ⟨w.heap.size,1,none⟩=some (.string name)∧Below w.heap.size w wr)(fun i _=>ns.length-(intOf i).toNat);case atStart=>exact⟨0,Nat.zero_le _,rfl,fun j _ h=>absurd h (by omega),by simp,ai w _⟩
 case round=>
  obtain⟨k,hk,rfl,az,a9,C⟩:=hrel;have ab:=aa az;have l:=aa C;have HF:=aa (H.out.below (C.mono J.out));have e0:=(C.cell (p:=⟨xb,4,none⟩) (Nat.lt_of_lt_of_le HX.out J.out)).trans c4;have e5:=(C.cell (p:=⟨xb,5,none⟩) (Nat.lt_of_lt_of_le HX.out J.out)).trans c5;clear az C;by_cases ac:k<ns.length;·
   obtain⟨bn,bg,rfl,a5,ax⟩:=a2.out k ac;have R:k<fis.length:=by omega
   obtain⟨bf,be,rfl,a4,av⟩:=a1.out k R;have n0:=(l.out.cell (p:=⟨bn,bg+k,none⟩) (Nat.lt_of_lt_of_le a5 J.out)).trans ax;have f0:=(l.out.cell (p:=⟨bf,be+k,none⟩) (Nat.lt_of_lt_of_le a4 J.out)).trans av;obtain⟨s1,af⟩:∃s,ns[k]=s:=⟨_,rfl⟩;obtain⟨z1,ag⟩:∃z,fis[k]=z:=⟨_,rfl⟩;rw[af]at n0;rw[ag]at f0;have ah:=aa af;have a3:=aa ag;clear af ag ax av;cases heq:(s1.toList==name.toList);·
    go_wp2_with fail;go_region;go_wp2_with fail;go_roundw;case rel=>
     refine⟨k+1,ac,by go_num,fun j hj bx=>?_,a9,l.out.drew⟩;by_cases ay:j=k;·subst ay;rw[ah.out];exact heq
     ·exact ab.out j hj (by omega)
    case measure=>simp[intOf];omega
   ·go_wp2_with fail;go_region;go_wp2_with fail;go_ret;refine⟨aU ?_,l.out.drew⟩;rw[AN hl ab.out ac (by rw[ah.out];exact heq) R,a3.out]
  ·obtain rfl:k=ns.length:=by omega
   go_wp2_with fail;go_ret;exact⟨aU (Gt (fun j hj=>ab.out j hj hj)),l.out⟩
theorem BL(all:List Nd)(ns:List ByteArray)(fis:List Int)(d:Nat)(hd:rP all ns fis d)(j xb B:Nat)(w:World)(ab:all.length-(j+1)=d)(I:j<all.length)(ah:all.length≤400)(J:all[j].op=2)(R:¬(∀n∈all.drop (j+1),n.op=2))(h:qm w xb B all ns fis)(hB:B≤w.heap.size):Calls Tryz.prog 84 #[.pointer (some ⟨xb,0,none⟩),.int .i64 (j:Int)] w fun e w'=>e=.returned (.int .i64 (bq ns fis (jy all (j+1)) (all.drop (j+1))))∧Below w.heap.size w w':=by have H:=aa h;obtain⟨⟨v,c0,ac⟩,⟨gn,ag,c4,a0⟩,⟨gf,af,c5,az⟩,hx⟩:=h;obtain⟨ao,cap,rfl,ax,ay,hr⟩:=ac;obtain⟨b,o,rfl,hb,C⟩:=hr (by rintro rfl;simp at I);have l:=C.get j I;have ad:=aa C;have HD:Hid (∀o:Obj,Calls Tryz.prog 84 #[.pointer (some ⟨xb,0,none⟩),.int .i64 ((j:Int)+1)] (w.alloc o) fun e w'=>e=.returned (.int .i64 (bq ns fis (jy all (j+1)) (all.drop (j+1))))∧Below w.heap.size w w'):=aa (fun ob=>by have:=hd (j+1) xb B (w.alloc ob) ab R (H.out.below ((ai w ob).mono hB)) (by simp;omega);rw[show(((j+1:Nat)):Int)=(j:Int)+1 by omega]at this;exact this.mono fun e w'⟨h1,h2⟩=>⟨h1,(ai w ob).trans (h2.mono (by simp))⟩);obtain⟨x1,T⟩:∃x,x=all[j]:=⟨_,rfl⟩;rw[←T]at l J;obtain⟨op,name,av,many,sort⟩:=x1;dsimp only at J;subst J;obtain⟨d0,d1,d2,d3,d4⟩:=l;dsimp only at d0 d1 d2 d3 d4;clear T C hr hd R;go_enter Tryz.func84,Tryz.ntmps84;go_wp2_with(go_at_call 84;refine(HD.out _).mono ?_;rintro e w2⟨rfl,P⟩;have U:=aa P;clear P);go_ret;exact⟨rfl,U.out⟩
theorem DD(all:List Nd)(ns:List ByteArray)(fis:List Int)(C xb B:Nat)(w:World)(ac:C<all.length)(a2:all.length≤400)(P:all[C].op≠1)(l:all[C].op≠2)(h:qm w xb B all ns fis)(hB:B≤w.heap.size):Calls Tryz.prog 84 #[.pointer (some ⟨xb,0,none⟩),.int .i64 (C:Int)] w fun e w'=>e=.returned (.int .i64 (jy all C:Int))∧Below w.heap.size w w':=by
 have H:=aa h;obtain⟨⟨v,c0,az⟩,⟨gn,a1,c4,ba⟩,⟨gf,a0,c5,a9⟩,hx⟩:=h;obtain⟨ao,cap,rfl,a5,a8,hr⟩:=az;obtain⟨b,o,rfl,hb,U⟩:=hr (by rintro rfl;simp at ac);have T:=U.get C ac;have af:=aa U;have HX:=aa hx;have ad:=aa hB;have ax:=aa hb;obtain⟨x1,av⟩:∃x,x=all[C]:=⟨_,rfl⟩;rw[←av]at T P l;obtain⟨op,name,a4,many,sort⟩:=x1;dsimp only at P l;have e1:(op==1)=false:=by simpa using P
 have e2:(op==2)=false:=by simpa using l
 obtain⟨d0,d1,d2,d3,d4⟩:=T;dsimp only at d0 d1 d2 d3 d4;clear av U hr P l;go_enter Tryz.func84,Tryz.ntmps84;go_wp2_with fail;go_loopw[7,8](fun kv i wr=>∃j:Nat,j≤C∧i=.int .i64 j∧kv=.int .i64 (jy all j:Int)∧Below w.heap.size w wr)(fun _ i _=>C-(intOf i).toNat);case atStart=>exact⟨0,Nat.zero_le _,rfl,by simp[jy],ai w _⟩
 case round=>
  obtain⟨j,hj,rfl,rfl,R⟩:=hrel;have I:=aa R;have g0:=(R.cell (p:=⟨xb,0,none⟩) (Nat.lt_of_lt_of_le HX.out ad.out)).trans c0;have a3:=rl all j;clear R;by_cases ab:j<C;·
   have ag:j<all.length:=by omega
   have ah:=(af.out.get j ag).1;have k0:=(I.out.cell (p:=⟨b,o+j*5,none⟩) (Nat.lt_of_lt_of_le ax.out ad.out)).trans ah;have HC:=aa (kj ag);obtain⟨J,l⟩:∃z,all[j].op=z:=⟨_,rfl⟩;have ay:Hid (jL all[j]=(J==0||J==5||J==6)):=aa (by unfold jL;rw[l]);rw[l]at k0;clear l ah;rw[ay.out]at HC;by_cases q0:J=0;·
    subst q0;go_wp2_with fail;go_roundw;case rel=>exact⟨j+1,ab,by go_num,by rw[HC.out];simp,I.out⟩
    case measure=>simp[intOf];omega
   ·have r0:(J==0)=false:=by simpa using q0
    by_cases q5:J=5;·
     subst q5;go_wp2_with fail;go_roundw;case rel=>exact⟨j+1,ab,by go_num,by rw[HC.out];simp,I.out⟩
     case measure=>simp[intOf];omega
    ·have r5:(J==5)=false:=by simpa using q5
     by_cases q6:J=6;·
      subst q6;go_wp2_with fail;go_roundw;case rel=>exact⟨j+1,ab,by go_num,by rw[HC.out];simp,I.out⟩
      case measure=>simp[intOf];omega
     ·have r6:(J==6)=false:=by simpa using q6
      go_wp2_with fail;go_roundw;case rel=>exact⟨j+1,ab,by go_num,by rw[HC.out,r0,r5,r6];simp,I.out⟩
      case measure=>simp[intOf];omega
  ·obtain rfl:j=C:=by omega
   go_wp2_with fail;go_ret;exact⟨rfl,I.out⟩
theorem mf(all:List Nd)(ns:List ByteArray)(fis:List Int)(hl:fis.length=ns.length)(ab:ns.length≤1000)(l:all.length≤400):∀d,rP all ns fis d:=by
 intro d;induction d with
  |zero=>intro pos xb B w hd I;exact absurd (fun n J=>by rw[List.drop_eq_nil_of_le (by omega)]at J;cases J) I|succ d ih=>
   intro pos xb B w hd I h U;have j:pos<all.length:=by omega
   have C:all.drop pos=all[pos]::all.drop (pos+1):=List.drop_eq_getElem_cons j;by_cases T:all[pos].op=1;·have:=BM all ns fis hl ab pos xb B w j l T h U;rw[C,bq,T];exact this
   ·by_cases P:all[pos].op=2;·
     have R:¬(∀n∈all.drop (pos+1),n.op=2):=fun hh=>I (fun n J=>by
      rw[C]at J;rcases List.mem_cons.1 J with rfl|J;·exact P
      ·exact hh n J);have:=BL all ns fis d ih pos xb B w (by omega) j l P R h U;rw[kj j]at this;have hs:jL all[pos]=false:=by unfold jL;rw[P];rfl
     rw[hs]at this;simp only[Bool.false_eq_true,if_false,Nat.add_zero]at this;rw[C,bq,P];exact this
    ·have:=DD all ns fis pos xb B w j l T P h U;have e1:(all[pos].op==1)=false:=by simpa using T
     have e2:(all[pos].op==2)=false:=by simpa using P
     rw[C,bq,e1,e2];exact this
end
def wP(l:List Nd):Nat:=(l.filter jL).length
theorem ik(n:Nd)(l:List Nd):wP (n::l)=wP l+(if jL n then 1 else 0):=by unfold wP;cases h:jL n<;>simp[h]
theorem uf(all:List Nd)(j:Nat):jy all j+wP (all.drop j)=wP all:=by unfold jy wP;rw[←List.length_append,←List.filter_append,List.take_append_drop]
structure Ae(l r:List Nd)(S:List aB×List ar)(o:List Nd×List aB×List ar):Prop where
 rest:o.1=r
 sts:o.2.1.length+wP r=S.1.length+wP l
 eds:o.2.2.length+r.length≤S.2.length+l.length
theorem sK(e:ar)(l:List ar):(fA e l).length=l.length+1:=by have:=congrArg List.length (List.takeWhile_append_dropWhile (p:=fun x=>a7 x e) (l:=l));simp only[fA,List.length_append,List.length_cons]at*;omega
def J0(f:Nat):Prop:=∀(st l r:List Nd)(ns:List ByteArray)(fis:List Int)(S:List aB×List ar),ahead (aQ true) f st l=some r→Ae l r S (sv f ns fis l S)
theorem u4{f:Nat}(P:J0 f)(st:List Nd)(ns:List ByteArray)(fis:List Int)(s:Int):∀(m:Nat)(ls:List ByteArray)(l r:List Nd)(S:List aB×List ar),aS (ahead (aQ true) f st) m ls l=some r→Ae l r S (dK (sv f ns fis) (fun l k=>bq ns fis k l) s m l S)
 |0,ls,l,r,S,h=>by rw[aS]at h;injection h with h;subst h;exact⟨rfl,rfl,Nat.le_refl _⟩|m+1,ls,[],r,S,h=>by cases h|m+1,ls,c::l,r,S,h=>by
  rw[aS]at h;split at h;·
   rename_i J;split at h;·cases h
   ·rename_i R I;have g1:=P st l R ns fis (S.1,fA ⟨s,c.name,c.sort,bq ns fis S.1.length l⟩ S.2) I;have C:jL c=false:=by simp only[cI,Bool.and_eq_true,beq_iff_eq]at J;unfold jL;rw[J.1.1.1.1.1];rfl
    have e:dK (sv f ns fis) (fun l k=>bq ns fis k l) s (m+1) (c::l) S=dK (sv f ns fis) (fun l k=>bq ns fis k l) s m (sv f ns fis l (S.1,fA ⟨s,c.name,c.sort,bq ns fis S.1.length l⟩ S.2)).1 (sv f ns fis l (S.1,fA ⟨s,c.name,c.sort,bq ns fis S.1.length l⟩ S.2)).2:=rfl;rw[e];obtain⟨X,U⟩:∃X,sv f ns fis l (S.1,fA ⟨s,c.name,c.sort,bq ns fis S.1.length l⟩ S.2)=X:=⟨_,rfl⟩;rw[U]at g1⊢;obtain rfl:X.1=R:=g1.rest;have g2:=u4 P st ns fis s m (ls++[c.name]) X.1 r X.2 h;refine⟨g2.rest,?_,?_⟩;·have j:=g1.sts;have T:=g2.sts;rw[ik,C];simp only[Bool.false_eq_true,if_false];dsimp only at j;omega
    ·have j:=g1.eds;have T:=g2.eds;dsimp only at j;rw[sK]at j;simp only[List.length_cons];omega
  ·cases h
theorem KI:∀f:Nat,J0 f:=by
 intro f;induction f with
  |zero=>
   intro st l r ns fis S h;cases l with
    |nil=>cases h|cons n l=>
     rw[sv];by_cases j:n.op=1;·
      rw[if_pos (by simpa using j)];rw[cV j]at h;split at h;·injection h with h;subst h;exact⟨rfl,by rw[ik];simp[jL,j],by simp⟩
      ·cases h
     ·rw[if_neg (by simpa using j)];by_cases C:n.op=0;·
       rw[bU C]at h;split at h;·injection h with h;subst h;exact⟨rfl,by rw[ik];simp[jL,C];omega,by simp⟩
       ·cases h
      ·rw[ct C j]at h;cases h
  |succ f ih=>
   intro st l r ns fis S h;cases l with
    |nil=>cases h|cons n l=>
     rw[sv];by_cases j:n.op=1;·
      rw[if_pos (by simpa using j)];rw[cV j]at h;split at h;·injection h with h;subst h;exact⟨rfl,by rw[ik];simp[jL,j],by simp⟩
      ·cases h
     ·rw[if_neg (by simpa using j)];by_cases I:n.op=2;·
       rw[if_pos (by simpa using I)];rw[cR I]at h;split at h;·have g:=ih _ l r (ns++[n.name]) (fis++[bq (ns++[n.name]) (fis++[0]) S.1.length l]) S h;exact⟨g.rest,by have:=g.sts;rw[ik];simp[jL,I];exact this,by have:=g.eds;simp only[List.length_cons];omega⟩
       ·cases h
      ·rw[if_neg (by simpa using I)];by_cases C:n.op=0;·
        rw[bU C]at h;split at h;·
         rename_i J;injection h with h;subst h;have R:n.many=0:=by simp only[gO,Bool.and_eq_true,beq_iff_eq]at J;exact J.1.2
         rw[R];exact⟨rfl,by rw[ik];simp[jL,C,dK];omega,by simp[dK]⟩
        ·cases h
       ·rw[cM C j I]at h;split at h;·
         rename_i P;have g:=u4 ih (n::st) ns fis (S.1.length:Int) n.many.toNat [] l r (S.1++[⟨dW n.op,n.peer⟩],S.2) h;have T:jL n=true:=by simp only[aQ,Bool.and_eq_true,Bool.or_eq_true,beq_iff_eq,if_true]at P;unfold jL;rcases P.2.2 with e|e<;>rw[e]<;>rfl
         exact⟨g.rest,by have:=g.sts;rw[ik,T];simp only[List.length_append,List.length_cons,List.length_nil,if_true]at*;omega,by have:=g.eds;simp only[List.length_cons]at*;omega⟩
        ·cases h
theorem Gq{all r:List Nd}{j:Nat}(h:r<:+all.drop j):r=all.drop (all.length-r.length)∧all.length-r.length≤all.length∧r.length≤all.length-j:=by have C:=h.trans (List.drop_suffix j all);have l:=h.length_le;rw[List.length_drop]at l;exact⟨List.suffix_iff_eq_drop.1 C,by omega,l⟩
section
attribute [local go_sem ↓] Go.wp_at_zero Go.wp_at_succ
theorem uA{α β:Type}(f:α→List β)(n:Nat)(j:∀x,(f x).length=n):∀(l:List α)(k:Nat),(l.take k).flatMap f=(l.flatMap f).take (k*n)
 |[],k=>by simp|x::l,0=>by simp|x::l,k+1=>by
  have C:(f x).take ((k+1)*n)=f x:=List.take_of_length_le (by rw[j,Nat.succ_mul];omega);have I:(k+1)*n-(f x).length=k*n:=by rw[j,Nat.succ_mul];omega
  rw[List.take_succ_cons,List.flatMap_cons,uA f n j l k,List.flatMap_cons,List.take_append,C,I]
theorem uy{α β:Type}(f:α→List β)(n:Nat)(j:∀x,(f x).length=n):∀(l:List α)(k:Nat),(l.drop k).flatMap f=(l.flatMap f).drop (k*n)
 |[],k=>by simp|x::l,0=>by simp|x::l,k+1=>by
  have C:(f x).drop ((k+1)*n)=[]:=List.drop_of_length_le (by rw[j,Nat.succ_mul];omega);have I:(k+1)*n-(f x).length=k*n:=by rw[j,Nat.succ_mul];omega
  rw[List.drop_succ_cons,uy f n j l k,List.flatMap_cons,List.drop_append,C,I,List.nil_append]
def jK(e:ar)(l:List ar):Nat:=(l.takeWhile fun x=>a7 x e).length
theorem DN(e:ar)(l:List ar):fA e l=l.take (jK e l)++e::l.drop (jK e l):=by
 have j:l.takeWhile (fun x=>a7 x e)=l.take (jK e l):=by
  have:=List.takeWhile_append_dropWhile (p:=fun x=>a7 x e) (l:=l);conv=>rhs;arg 2;rw[←this]
  unfold jK;rw[List.take_left'];rfl
 have C:l.dropWhile (fun x=>a7 x e)=l.drop (jK e l):=by
  have:=List.takeWhile_append_dropWhile (p:=fun x=>a7 x e) (l:=l);conv=>rhs;arg 2;rw[←this]
  unfold jK;rw[List.drop_left'];rfl
 rw[fA,j,C]
theorem F4(e:ar)(l:List ar):jK e l≤l.length:=by unfold jK;exact(List.takeWhile_sublist _).length_le
theorem wQ{e:ar}:∀{l:List ar}{j:Nat}(h:j<l.length),j<jK e l→a7 l[j] e=true
 |x::l,j,h,C=>by
  unfold jK at C;rw[List.takeWhile_cons]at C;by_cases I:a7 x e=true;·rw[if_pos I]at C;cases j with|zero=>exact I|succ j=>exact wQ (l:=l) (by simpa using h) (by simpa[jK]using C)
  ·rw[if_neg I]at C;simp at C
theorem wR{e:ar}:∀{l:List ar}(h:jK e l<l.length),a7 l[jK e l] e=false
 |x::l,h=>by
  by_cases C:a7 x e=true;·
   have j:jK e (x::l)=jK e l+1:=by unfold jK;rw[List.takeWhile_cons,if_pos C];simp
   have I:jK e l<l.length:=by rw[j]at h;simpa using h
   have:=wR (e:=e) (l:=l) I;simp only[j,List.getElem_cons_succ];exact this
  ·have j:jK e (x::l)=0:=by unfold jK;rw[List.takeWhile_cons,if_neg C];rfl
   simp only[j,List.getElem_cons_zero];simpa using C
structure vd(w:World)(xb base:Nat)(ev:Value)(eds:List ar):Prop where
 c2:w.cell? ⟨xb,2,none⟩=some ev
 fz:w.frozen? ⟨xb,2,none⟩=false
 ed:aO w base ev eds
 lo:xb<base
 sz:base≤w.heap.size
theorem vd.below{w w':World}{xb base:Nat}{ev:Value}{eds:List ar}(h:vd w xb base ev eds)(j:Below w.heap.size w w'):vd w' xb base ev eds:=have l:xb<w.heap.size:=Nat.lt_of_lt_of_le h.lo h.sz;⟨(j.cell (p:=⟨xb,2,none⟩) l).trans h.c2,(j.frozen (p:=⟨xb,2,none⟩) l).trans h.fz,h.ed.below j,h.lo,Nat.le_trans h.sz j.size⟩
theorem xX{w:World}{base g cap:Nat}{eds:List ar}(h:aO w base (.slice (some ⟨g,0,none⟩) eds.length cap) eds)(k:Nat)(j:k<eds.length):w.cell? ⟨g,k*4,none⟩=some (.int .i64 eds[k].src)∧w.cell? ⟨g,k*4+1,none⟩=some (.string eds[k].label)∧w.cell? ⟨g,k*4+2,none⟩=some (.int .i64 eds[k].sort)∧w.cell? ⟨g,k*4+3,none⟩=some (.int .i64 eds[k].dst):=by have e:=fun i(hi:i<4)(x:Value)(l:(eds[k].cells)[i]?=some x)=>bF h rfl (k*4+i) x ((eE ar.cells 4 ar.aR eds k j i hi).trans l);exact⟨e 0 (by omega) _ rfl,e 1 (by omega) _ rfl,e 2 (by omega) _ rfl,e 3 (by omega) _ rfl⟩
structure iO(w w':World):Prop where ap:aw w w' []
theorem iO.cT{w w':World}(h:Below w.heap.size w w'):iO w w':=⟨ak h⟩
theorem iO.alloc{w w':World}(h:iO w w')(o:Obj):iO w (w'.alloc o):=⟨h.ap.then (ai _ _)⟩
theorem iO.grow{w w' C:World}{l:List Nat}(h:iO w w')(j:aw w' C l)(J:∀b∈l,w.heap.size≤b):iO w C:=⟨⟨j.os.trans h.ap.os,j.tape.trans h.ap.tape,j.output.trans h.ap.output,Nat.le_trans h.ap.size j.size,fun k I _=>(j.block k (Nat.lt_of_lt_of_le I h.ap.size) (fun P=>absurd (J k P) (by omega))).trans (h.ap.block k I (by simp))⟩⟩
theorem iO.cell{w w':World}(h:iO w w'){b o:Nat}{x:Value}(j:w.cell? ⟨b,o,none⟩=some x):w'.cell? ⟨b,o,none⟩=some x:=h.ap.bN j (by simp)
theorem iO.ed{w w':World}{xb base:Nat}{ev:Value}{eds:List ar}(h:iO w w')(j:vd w xb base ev eds):vd w' xb base ev eds:=have l:xb<w.heap.size:=Nat.lt_of_lt_of_le j.lo j.sz;⟨h.ap.bN j.c2 (by simp),h.ap.eB l j.fz (by simp),j.ed.keep h.ap (fun _ _=>by simp),j.lo,Nat.le_trans j.sz h.ap.size⟩
theorem mL(l:List ar):∀u∈l.flatMap ar.cells,u.oneCell'=true:=fun u hu=>by obtain⟨x,_,j⟩:=List.mem_flatMap.1 hu;exact ar.cells_one x u j
theorem Db(g o j:Nat):Addr.add ⟨g,o,none⟩ j=⟨g,o+j,none⟩:=by
 by_cases h:j=0;·subst h;simp[Addr.add]
 ·simp[Addr.add,h]
theorem tD{w:World}{base g I k j:Nat}{eds:List ar}{u:Value}(h:aO w base (.slice (some ⟨g,0,none⟩) eds.length I) eds)(l:((eds.take k).flatMap ar.cells)[j]?=some u):w.cell? (Addr.add ⟨g,0,none⟩ j)=some u:=by
 rw[uA ar.cells 4 ar.aR]at l;have C:j<k*4:=by have:=(List.getElem?_eq_some_iff.1 l).1;rw[List.length_take]at this;omega
 rw[List.getElem?_take_of_lt C]at l;rw[Db,Nat.zero_add];exact bF h rfl j u l
theorem Dt{w:World}{base g C k j:Nat}{eds:List ar}{u:Value}(h:aO w base (.slice (some ⟨g,0,none⟩) eds.length C) eds)(l:((eds.drop k).flatMap ar.cells)[j]?=some u):w.cell? (Addr.add ⟨g,k*4,none⟩ j)=some u:=by rw[uy ar.cells 4 ar.aR,List.getElem?_drop]at l;rw[Db];exact bF h rfl (k*4+j) u l
theorem Ds{k:Nat}{eds:List ar}(h:eds.length≤k):(eds.drop k).flatMap ar.cells=[]:=by rw[List.drop_eq_nil_of_le h];rfl
structure Iy(w w':World)(xb:Nat):Prop where
 ap:aw w w' [xb]
 LP:∀o x,o≠2→w.cell? ⟨xb,o,none⟩=some x→w'.cell? ⟨xb,o,none⟩=some x
 fz:∀o,w.frozen? ⟨xb,o,none⟩=false→w'.frozen? ⟨xb,o,none⟩=false
theorem Av{w wr P:World}{xb:Nat}(y:Value)(l:xb<w.heap.size)(j:Below w.heap.size w wr)(C:iO wr P):Iy w (P.setCell ⟨xb,2,none⟩ y) xb:=by
 have J:xb<wr.heap.size:=Nat.lt_of_lt_of_le l j.size;refine⟨?_,fun o x I T=>?_,fun o I=>?_⟩;·have R:=(ak j).trans (C.ap.trans (aA P xb 2 y));simpa using R
 ·rw[World.cell?_setCell_other _ _ _ _ (by intro e;injection e with _ e2;exact I e2.symm)];exact C.cell ((j.cell (p:=⟨xb,o,none⟩) l).trans T)
 ·rw[World.frozen?_setCell];exact C.ap.eB J ((j.frozen (p:=⟨xb,o,none⟩) l).trans I) (by simp)
theorem wV{w wr w3 l:World}{xb k:Nat}{p6:Option Addr}{c6:Nat}{e:ar}{eds:List ar}{y:Value}(R:jK e eds=k)(hk:k≤eds.length)(J:xb<w.heap.size)(j:Below w.heap.size w wr)(ac:wr.heap.size≤w3.heap.size)(U:iO wr l)(hy:l.cell? ⟨xb,2,none⟩=some y)(P:l.ownsRow w3.heap.size 61 4 (.slice p6 (k+1+(eds.length-k)) c6) (k+1+(eds.length-k)) (((eds.take k).flatMap ar.cells++e.cells)++(eds.drop k).flatMap ar.cells)):∃C,Ending.returned (.tuple #[])=.returned (.tuple #[])∧aO (l.setCell ⟨xb,2,none⟩ (.slice p6 (k+1+(eds.length-k)) c6)) w.heap.size C (fA e eds)∧(l.setCell ⟨xb,2,none⟩ (.slice p6 (k+1+(eds.length-k)) c6)).cell? ⟨xb,2,none⟩=some C∧Iy w (l.setCell ⟨xb,2,none⟩ (.slice p6 (k+1+(eds.length-k)) c6)) xb:=by
 have hS:=aA l xb 2 (.slice p6 (k+1+(eds.length-k)) c6);have ab:=j.size;refine⟨_,rfl,?_,World.cell?_setCell_same _ _ _ hy,?_⟩;·
  have hi:fA e eds=(eds.take k++[e])++eds.drop k:=by rw[DN,R];simp
  have I:(fA e eds).length=k+1+(eds.length-k):=by rw[hi];simp;omega
  unfold aO;rw[I,hi,List.flatMap_append,List.flatMap_append];refine bo (base:=w3.heap.size) (aJ ?_ hS (fun b T hm=>by have:=(au P).lo b T;simp at hm;omega)) (by omega);simpa using P
 ·exact Av _ J j U
theorem ui{w wr w3 j:World}{xb k:Nat}{p6:Option Addr}{c6:Nat}{e:ar}{eds:List ar}{y:Value}(T:jK e eds=k)(hk:k≤eds.length)(I:eds.length≤k)(J:xb<w.heap.size)(C:Below w.heap.size w wr)(P:wr.heap.size≤w3.heap.size)(U:iO wr j)(hy:j.cell? ⟨xb,2,none⟩=some y)(ho:j.ownsRow w3.heap.size 61 4 (.slice p6 (k+1+0) c6) (k+1+0) (((eds.take k).flatMap ar.cells++e.cells)++[])):∃l,Ending.returned (.tuple #[])=.returned (.tuple #[])∧aO (j.setCell ⟨xb,2,none⟩ (.slice p6 (k+1) c6)) w.heap.size l (fA e eds)∧(j.setCell ⟨xb,2,none⟩ (.slice p6 (k+1) c6)).cell? ⟨xb,2,none⟩=some l∧Iy w (j.setCell ⟨xb,2,none⟩ (.slice p6 (k+1) c6)) xb:=by
 have R:eds.length-k=0:=by omega
 have:=wV (c6:=c6) (p6:=p6) T hk J C P U hy (by rw[R,Ds I];exact ho);rw[R]at this;exact this
theorem vF(e:ar)(w:World)(xb base g ce:Nat)(eds:List ar)(hl:eds.length≤1000)(b4:eds.length≤ce)(h:vd w xb base (.slice (some ⟨g,0,none⟩) eds.length ce) eds):Calls Tryz.prog 121 #[.pointer (some ⟨xb,0,none⟩),e.val] w fun r w'=>∃a8,r=.returned (.tuple #[])∧aO w' w.heap.size a8 (fA e eds)∧w'.cell? ⟨xb,2,none⟩=some a8∧Iy w w' xb:=by
 have H:=aa h;obtain⟨i1,bx,b0,b1,b2⟩:=info_parts Tryz.kn;have T:=aa (And.intro bx (And.intro b0 (And.intro b1 b2)));have c2:=h.c2;have b3:xb<w.heap.size:=Nat.lt_of_lt_of_le h.lo h.sz;have bp:=aa b3;obtain⟨af,ad,ag,dst⟩:=e;obtain⟨K,hK⟩:∃K,jK ⟨af,ad,ag,dst⟩ eds=K:=⟨_,rfl⟩;have HK:=aa hK;have be:K≤eds.length:=by rw[←hK];exact F4 _ _
 have bm:Hid (∀j(h:j<eds.length),j<K→a7 eds[j] ⟨af,ad,ag,dst⟩=true):=aa (fun j h hj=>wQ h (by rw[hK];exact hj));have bn:Hid (∀(h:K<eds.length),a7 eds[K] ⟨af,ad,ag,dst⟩=false):=aa (fun h=>by have:=wR (e:=⟨af,ad,ag,dst⟩) (l:=eds) (by rw[hK];exact h);simpa only[hK]using this);clear h bx b0 b1 b2 hK;unfold ar.val;go_enter Tryz.func121,Tryz.ntmps121;go_wp2_with fail;go_loopw[4](fun i wr=>∃k:Nat,k≤K∧i=.int .i64 k∧wr.cell? ⟨w.heap.size,0,none⟩=some (.int .i64 af)∧wr.cell? ⟨w.heap.size,1,none⟩=some (.string ad)∧wr.cell? ⟨w.heap.size,2,none⟩=some (.int .i64 ag)∧wr.cell? ⟨w.heap.size,3,none⟩=some (.int .i64 dst)∧w.heap.size<wr.heap.size∧Below w.heap.size w wr)(fun i _=>K-(intOf i).toNat);case atStart=>exact⟨0,Nat.zero_le _,rfl,by simp,by simp,by simp,by simp,by simp,ai w _⟩
 case round=>
  obtain⟨k,hk,rfl,e0,e1,e2,e3,bi,bf⟩:=hrel;have a2:=aa bf;have HE:=aa (H.out.below bf);have g2:=HE.out.c2;clear bf;by_cases bL:k<K;·
   have a4:k<eds.length:=by omega
   obtain⟨m0,m1,m2,m3⟩:=xX HE.out.ed k a4;obtain⟨x,hx⟩:∃x,eds[k]=x:=⟨_,rfl⟩;have HQ:Hid (a7 x ⟨af,ad,ag,dst⟩=true):=aa (by rw[←hx];exact bm.out k a4 bL);rw[hx]at m0 m1 m2 m3;clear hx;go_wp2_with fail;refine aK (by kernel_rfl) (by kernel_rfl) (fun V hV=>?_);have a5:=aH V;have k2:=ae (w:=V) (by rw[hV];exact g2);have k0:=ae (w:=V) (by rw[hV];exact m0);have k1:=ae (w:=V) (by rw[hV];exact m1);have bs:=ae (w:=V) (by rw[hV];exact m2);have k3:=ae (w:=V) (by rw[hV];exact m3);have l0:=ae (w:=V) (by rw[hV];exact e0);have l1:=ae (w:=V) (by rw[hV];exact e1);have l2:=ae (w:=V) (by rw[hV];exact e2);have l3:=ae (w:=V) (by rw[hV];exact e3);have a1:=aa hV;clear hV;repeat(go_big_quiet_step(first|(go_at_call 62;exact aD (lj (a:=x) (b:=⟨af,ad,ag,dst⟩) HQ.out _))))
   refine wpQuiet_nil ?_;intro w3 ac;rw[a1.out]at ac;have R:=aa ac;clear ac a5 k2 k0 k1 bs k3 l0 l1 l2 l3 a1;go_wp2_with fail;go_roundw;case rel=>exact⟨k+1,bL,by go_num,(R.out.cell (p:=⟨w.heap.size,0,none⟩) bi).trans e0,(R.out.cell (p:=⟨w.heap.size,1,none⟩) bi).trans e1,(R.out.cell (p:=⟨w.heap.size,2,none⟩) bi).trans e2,(R.out.cell (p:=⟨w.heap.size,3,none⟩) bi).trans e3,Nat.lt_of_lt_of_le bi R.out.size,a2.out.trans (R.out.mono a2.out.size)⟩
   case measure=>simp[intOf];omega
  ·obtain rfl:k=K:=by omega
   by_cases a4:k<eds.length;·
    have bg:ce≠k:=by omega
    obtain⟨m0,m1,m2,m3⟩:=xX HE.out.ed k a4;obtain⟨x,hx⟩:∃x,eds[k]=x:=⟨_,rfl⟩;have HQ:Hid (a7 x ⟨af,ad,ag,dst⟩=false):=aa (by rw[←hx];exact bn.out a4);rw[hx]at m0 m1 m2 m3;clear hx;go_wp2_with fail;refine aK (by kernel_rfl) (by kernel_rfl) (fun V hV=>?_);have a5:=aH V;have k2:=ae (w:=V) (by rw[hV];exact g2);have k0:=ae (w:=V) (by rw[hV];exact m0);have k1:=ae (w:=V) (by rw[hV];exact m1);have bs:=ae (w:=V) (by rw[hV];exact m2);have k3:=ae (w:=V) (by rw[hV];exact m3);have l0:=ae (w:=V) (by rw[hV];exact e0);have l1:=ae (w:=V) (by rw[hV];exact e1);have l2:=ae (w:=V) (by rw[hV];exact e2);have l3:=ae (w:=V) (by rw[hV];exact e3);have a1:=aa hV;clear hV;repeat(go_big_quiet_step(first|(go_at_call 62;exact aD (lj (a:=x) (b:=⟨af,ad,ag,dst⟩) HQ.out _))))
    refine wpQuiet_nil ?_;intro w3 ac;rw[a1.out]at ac;have R:=aa ac;clear ac a5 k2 k0 k1 bs k3 l0 l1 l2 l3 a1 m0 m1 m2 m3;have av:=aa (HE.out.below R.out);have g3:=av.out.c2;have ah:Hid (wr.heap.size≤w3.heap.size):=aa R.out.size;have a9:=aa (iO.cT R.out);have bv:∀o:Obj,(w3.alloc o).cell? ⟨xb,2,none⟩=some (.slice (some ⟨g,0,none⟩) eds.length ce):=fun o=>(av.out.below (ai w3 o)).c2;go_wp2_with(first|((fail_if_success(have:=az));at_builtin;refine wpList_append_own _ rfl (.tmp 28) (.tmp 35) 26 rfl w3.heap.size 61 i1 (.agg #[.int .i64 0,.string ByteArray.empty,.int .i64 0,.int .i64 0]) 4 40 Tryz.underlying26 T.out.1 T.out.2.1 T.out.2.2.1 T.out.2.2.2 rfl (by decide) (.slice (some ⟨w3.heap.size,0,none⟩) 0 0) 0 [] rfl (dJ _ _ _ _ _ (Nat.le_refl _) (bY _ _ _ rfl)) ⟨g,0,none⟩ k ce ((eds.take k).flatMap ar.cells) rfl (by rw[eT ar.cells 4 ar.aR,List.length_take];congr 1;omega) (fun j u hj=>tD ((av.out.below (ai w3 _)).ed) hj) (mL _) (by unfold maxLen;omega) (by omega) (by simp) ?_;intro v4 w4 C U _;rw[Nat.zero_add,List.nil_append]at C;obtain⟨p4,c4,rfl⟩:=aq C;have az:=aa C;have P:Hid (iO wr w4):=aa ((a9.out.alloc _).grow (aE U) (by have:=ah.out;simp[an,aG];exact this));have n0:=P.out.cell e0;have n1:=P.out.cell e1;have n2:=P.out.cell e2;have n3:=P.out.cell e3;have n4:=P.out.cell g2;have a3:Hid (w3.heap.size≤w4.heap.size):=aa (by have:=U.size;simp at this;omega);clear C U)|((fail_if_success(have:=a0));at_builtin;refine wpList_append_own _ rfl (.tmp 37) (.tmp 39) 26 rfl w3.heap.size 61 i1 (.agg #[.int .i64 0,.string ByteArray.empty,.int .i64 0,.int .i64 0]) 4 40 Tryz.underlying26 T.out.1 T.out.2.1 T.out.2.2.1 T.out.2.2.2 rfl (by decide) (.slice p4 k c4) k ((eds.take k).flatMap ar.cells) rfl (aL az.out (ai w4 _)) ⟨w4.heap.size,0,none⟩ 1 1 (ar.cells ⟨af,ad,ag,dst⟩) rfl rfl (fun j u hj=>dh w4 _ _ j u hj) (ar.cells_one _) (by unfold maxLen;omega) (by omega) (by have:=a3.out;simp;omega) ?_;intro v5 w5 I ab _;obtain⟨p5,c5,rfl⟩:=aq I;have a0:=aa I;have ax:Hid (iO wr w5):=aa ((P.out.alloc _).grow (aE ab) (fun b hb=>Nat.le_trans ah.out ((au az.out).lo b hb)));have s4:=ax.out.cell g2;have bk:=aa (ax.out.ed HE.out);have bb:Hid (w3.heap.size≤w5.heap.size):=aa (by have:=ab.size;have:=a3.out;simp at*;omega);clear I ab)|(at_builtin;refine wpList_append_own _ rfl (.tmp 42) (.tmp 49) 26 rfl w3.heap.size 61 i1 (.agg #[.int .i64 0,.string ByteArray.empty,.int .i64 0,.int .i64 0]) 4 40 Tryz.underlying26 T.out.1 T.out.2.1 T.out.2.2.1 T.out.2.2.2 rfl (by decide) (.slice p5 (k+1) c5) (k+1) ((eds.take k).flatMap ar.cells++ar.cells ⟨af,ad,ag,dst⟩) rfl a0.out ⟨g,k*4,none⟩ (eds.length-k) (ce-k) ((eds.drop k).flatMap ar.cells) rfl (by rw[eT ar.cells 4 ar.aR,List.length_drop]) (fun j u hj=>Dt bk.out.ed hj) (mL _) (by unfold maxLen;omega) (by omega) bb.out ?_;intro v6 w6 J ao _;obtain⟨p6,c6,rfl⟩:=aq J;have ba:=aa J;have ay:Hid (iO wr w6):=aa (ax.out.grow (aE ao) (fun b hb=>Nat.le_trans ah.out ((au a0.out).lo b hb)));have y2:=ay.out.cell g2;have yz:=(ay.out.ed HE.out).fz;clear J ao));go_end0;exact wV HK.out be bp.out a2.out ah.out ay.out y2 ba.out
   ·have bz:eds.length≤k:=by omega
    by_cases bg:ce=k;·
     have br:=bg.symm;clear bg;subst br;go_wp2_with fail;refine aK (by kernel_rfl) (by kernel_rfl) (fun V hV=>?_);have a5:=aH V;have k2:=ae (w:=V) (by rw[hV];exact g2);have a1:=aa hV;clear hV;repeat(go_big_quiet_step(fail))
     refine wpQuiet_nil ?_;intro w3 ac;rw[a1.out]at ac;have R:=aa ac;clear ac a5 k2 a1;have av:=aa (HE.out.below R.out);have g3:=av.out.c2;have ah:Hid (wr.heap.size≤w3.heap.size):=aa R.out.size;have a9:=aa (iO.cT R.out);have bv:∀o:Obj,(w3.alloc o).cell? ⟨xb,2,none⟩=some (.slice (some ⟨g,0,none⟩) eds.length k):=fun o=>(av.out.below (ai w3 o)).c2;go_wp2_with(first|((fail_if_success(have:=az));at_builtin;refine wpList_append_own _ rfl (.tmp 28) (.tmp 35) 26 rfl w3.heap.size 61 i1 (.agg #[.int .i64 0,.string ByteArray.empty,.int .i64 0,.int .i64 0]) 4 40 Tryz.underlying26 T.out.1 T.out.2.1 T.out.2.2.1 T.out.2.2.2 rfl (by decide) (.slice (some ⟨w3.heap.size,0,none⟩) 0 0) 0 [] rfl (dJ _ _ _ _ _ (Nat.le_refl _) (bY _ _ _ rfl)) ⟨g,0,none⟩ k k ((eds.take k).flatMap ar.cells) rfl (by rw[eT ar.cells 4 ar.aR,List.length_take];congr 1;omega) (fun j u hj=>tD ((av.out.below (ai w3 _)).ed) hj) (mL _) (by unfold maxLen;omega) (by omega) (by simp) ?_;intro v4 w4 C U _;rw[Nat.zero_add,List.nil_append]at C;obtain⟨p4,c4,rfl⟩:=aq C;have az:=aa C;have P:Hid (iO wr w4):=aa ((a9.out.alloc _).grow (aE U) (by have:=ah.out;simp[an,aG];exact this));have n0:=P.out.cell e0;have n1:=P.out.cell e1;have n2:=P.out.cell e2;have n3:=P.out.cell e3;have n4:=P.out.cell g2;have a3:Hid (w3.heap.size≤w4.heap.size):=aa (by have:=U.size;simp at this;omega);clear C U)|((fail_if_success(have:=a0));at_builtin;refine wpList_append_own _ rfl (.tmp 37) (.tmp 39) 26 rfl w3.heap.size 61 i1 (.agg #[.int .i64 0,.string ByteArray.empty,.int .i64 0,.int .i64 0]) 4 40 Tryz.underlying26 T.out.1 T.out.2.1 T.out.2.2.1 T.out.2.2.2 rfl (by decide) (.slice p4 k c4) k ((eds.take k).flatMap ar.cells) rfl (aL az.out (ai w4 _)) ⟨w4.heap.size,0,none⟩ 1 1 (ar.cells ⟨af,ad,ag,dst⟩) rfl rfl (fun j u hj=>dh w4 _ _ j u hj) (ar.cells_one _) (by unfold maxLen;omega) (by omega) (by have:=a3.out;simp;omega) ?_;intro v5 w5 I ab _;obtain⟨p5,c5,rfl⟩:=aq I;have a0:=aa I;have ax:Hid (iO wr w5):=aa ((P.out.alloc _).grow (aE ab) (fun b hb=>Nat.le_trans ah.out ((au az.out).lo b hb)));have s4:=ax.out.cell g2;have bk:=aa (ax.out.ed HE.out);have bb:Hid (w3.heap.size≤w5.heap.size):=aa (by have:=ab.size;have:=a3.out;simp at*;omega);clear I ab)|(at_builtin;refine wpList_append_own _ rfl (.tmp 42) (.tmp 49) 26 rfl w3.heap.size 61 i1 (.agg #[.int .i64 0,.string ByteArray.empty,.int .i64 0,.int .i64 0]) 4 40 Tryz.underlying26 T.out.1 T.out.2.1 T.out.2.2.1 T.out.2.2.2 rfl (by decide) (.slice p5 (k+1) c5) (k+1) ((eds.take k).flatMap ar.cells++ar.cells ⟨af,ad,ag,dst⟩) rfl a0.out _ 0 _ [] rfl rfl (fun j u hj=>by simp at hj) (by simp) (by unfold maxLen;omega) (by omega) bb.out ?_;intro v6 w6 J ao _;obtain⟨p6,c6,rfl⟩:=aq J;have ba:=aa J;have ay:Hid (iO wr w6):=aa (ax.out.grow (aE ao) (fun b hb=>Nat.le_trans ah.out ((au a0.out).lo b hb)));have y2:=ay.out.cell g2;have yz:=(ay.out.ed HE.out).fz;clear J ao));go_end0;obtain⟨a8,q1,q2⟩:=ui HK.out be bz bp.out a2.out ah.out ay.out y2 ba.out;exact⟨q1,a8,q2⟩
    ·go_wp2_with fail;refine aK (by kernel_rfl) (by kernel_rfl) (fun V hV=>?_);have a5:=aH V;have k2:=ae (w:=V) (by rw[hV];exact g2);have a1:=aa hV;clear hV;repeat(go_big_quiet_step(fail))
     refine wpQuiet_nil ?_;intro w3 ac;rw[a1.out]at ac;have R:=aa ac;clear ac a5 k2 a1;have av:=aa (HE.out.below R.out);have g3:=av.out.c2;have ah:Hid (wr.heap.size≤w3.heap.size):=aa R.out.size;have a9:=aa (iO.cT R.out);have bv:∀o:Obj,(w3.alloc o).cell? ⟨xb,2,none⟩=some (.slice (some ⟨g,0,none⟩) eds.length ce):=fun o=>(av.out.below (ai w3 o)).c2;go_wp2_with(first|((fail_if_success(have:=az));at_builtin;refine wpList_append_own _ rfl (.tmp 28) (.tmp 35) 26 rfl w3.heap.size 61 i1 (.agg #[.int .i64 0,.string ByteArray.empty,.int .i64 0,.int .i64 0]) 4 40 Tryz.underlying26 T.out.1 T.out.2.1 T.out.2.2.1 T.out.2.2.2 rfl (by decide) (.slice (some ⟨w3.heap.size,0,none⟩) 0 0) 0 [] rfl (dJ _ _ _ _ _ (Nat.le_refl _) (bY _ _ _ rfl)) ⟨g,0,none⟩ k ce ((eds.take k).flatMap ar.cells) rfl (by rw[eT ar.cells 4 ar.aR,List.length_take];congr 1;omega) (fun j u hj=>tD ((av.out.below (ai w3 _)).ed) hj) (mL _) (by unfold maxLen;omega) (by omega) (by simp) ?_;intro v4 w4 C U _;rw[Nat.zero_add,List.nil_append]at C;obtain⟨p4,c4,rfl⟩:=aq C;have az:=aa C;have P:Hid (iO wr w4):=aa ((a9.out.alloc _).grow (aE U) (by have:=ah.out;simp[an,aG];exact this));have n0:=P.out.cell e0;have n1:=P.out.cell e1;have n2:=P.out.cell e2;have n3:=P.out.cell e3;have n4:=P.out.cell g2;have a3:Hid (w3.heap.size≤w4.heap.size):=aa (by have:=U.size;simp at this;omega);clear C U)|((fail_if_success(have:=a0));at_builtin;refine wpList_append_own _ rfl (.tmp 37) (.tmp 39) 26 rfl w3.heap.size 61 i1 (.agg #[.int .i64 0,.string ByteArray.empty,.int .i64 0,.int .i64 0]) 4 40 Tryz.underlying26 T.out.1 T.out.2.1 T.out.2.2.1 T.out.2.2.2 rfl (by decide) (.slice p4 k c4) k ((eds.take k).flatMap ar.cells) rfl (aL az.out (ai w4 _)) ⟨w4.heap.size,0,none⟩ 1 1 (ar.cells ⟨af,ad,ag,dst⟩) rfl rfl (fun j u hj=>dh w4 _ _ j u hj) (ar.cells_one _) (by unfold maxLen;omega) (by omega) (by have:=a3.out;simp;omega) ?_;intro v5 w5 I ab _;obtain⟨p5,c5,rfl⟩:=aq I;have a0:=aa I;have ax:Hid (iO wr w5):=aa ((P.out.alloc _).grow (aE ab) (fun b hb=>Nat.le_trans ah.out ((au az.out).lo b hb)));have s4:=ax.out.cell g2;have bk:=aa (ax.out.ed HE.out);have bb:Hid (w3.heap.size≤w5.heap.size):=aa (by have:=ab.size;have:=a3.out;simp at*;omega);clear I ab)|(at_builtin;refine wpList_append_own _ rfl (.tmp 42) (.tmp 49) 26 rfl w3.heap.size 61 i1 (.agg #[.int .i64 0,.string ByteArray.empty,.int .i64 0,.int .i64 0]) 4 40 Tryz.underlying26 T.out.1 T.out.2.1 T.out.2.2.1 T.out.2.2.2 rfl (by decide) (.slice p5 (k+1) c5) (k+1) ((eds.take k).flatMap ar.cells++ar.cells ⟨af,ad,ag,dst⟩) rfl a0.out _ 0 _ [] rfl rfl (fun j u hj=>by simp at hj) (by simp) (by unfold maxLen;omega) (by omega) bb.out ?_;intro v6 w6 J ao _;obtain⟨p6,c6,rfl⟩:=aq J;have ba:=aa J;have ay:Hid (iO wr w6):=aa (ax.out.grow (aE ao) (fun b hb=>Nat.le_trans ah.out ((au a0.out).lo b hb)));have y2:=ay.out.cell g2;have yz:=(ay.out.ed HE.out).fz;clear J ao));go_end0;obtain⟨a8,q1,q2⟩:=ui HK.out be bz bp.out a2.out ah.out ay.out y2 ba.out;exact⟨q1,a8,q2⟩
end
end Go.Proofs.YtlbcnmcfljaijaaGreat
