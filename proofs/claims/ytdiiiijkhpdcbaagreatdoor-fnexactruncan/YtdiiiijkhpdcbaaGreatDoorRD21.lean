import Derived.Test.YtdiiiijkhpdcbaaGreatDoorRD16
namespace Go.Proofs.YtdiiiijkhpdcbaaGreatDoor
open Go.RowKit
set_option linter.unusedSimpArgs false
set_option linter.unusedVariables false
set_option maxHeartbeats 2000000
set_option maxRecDepth 100000
section
attribute [local go_sem ↓] Go.wp_at_zero Go.wp_at_succ
def qz(all:List Nd)(ns:List ByteArray)(fis:List Int)(d:Nat):Prop:=∀(pos xb B:Nat)(w:World),all.length-pos=d→¬(∀n∈all.drop pos,n.op=2)→oZ w xb B all ns fis→B≤w.heap.size→Calls Tryz.prog 238 #[.pointer (some ⟨xb,0,none⟩),.int .i64 (pos:Int)] w fun e w'=>e=.returned (.int .i64 (bO ns fis (jd all pos) (all.drop pos)))∧Below w.heap.size w w'
theorem Ay(all:List Nd)(ns:List ByteArray)(fis:List Int)(hl:fis.length=ns.length)(bm:ns.length≤1000)(I xb B:Nat)(w:World)(T:I<all.length)(a8:all.length≤400)(ad:all[I].op=1)(h:oZ w xb B all ns fis)(hB:B≤w.heap.size):Calls Tryz.prog 238 #[.pointer (some ⟨xb,0,none⟩),.int .i64 (I:Int)] w fun e w'=>e=.returned (.int .i64 (fX ns fis all[I].name))∧Below w.heap.size w w':=by
 have H:=aa h;obtain⟨⟨v,c0,a3⟩,⟨gn,a7,c4,a2⟩,⟨gf,a6,c5,a0⟩,hx⟩:=h;obtain⟨ao,cap,rfl,bi,bk,hr⟩:=a3;obtain⟨b,o,rfl,hb,U⟩:=hr (by rintro rfl;simp at T);have P:=U.get I T;obtain⟨x1,ay⟩:∃x,x=all[I]:=⟨_,rfl⟩;rw[←ay]at P ad⊢;obtain⟨op,name,a9,many,sort⟩:=x1;dsimp only at ad;subst ad;obtain⟨d0,d1,d2,d3,d4⟩:=P;dsimp only at d0 d1 d2 d3 d4;have aL:=aa a2;have az:=aa a0;have J:=aa hB;have HX:=aa hx;clear ay U hr;go_enter Tryz.func238,Tryz.ntmps238;go_wp2_with fail;have bb:Hid (∀o:Obj,Below w.heap.size w (w.alloc o)):=aa (ae w);go_loopw[6](fun i wr=>∃k:Nat,k≤ns.length∧i=.int .i64 k∧(∀j(h:j<ns.length),j<k→(ns[j].toList==name.toList)=false)∧wr.cell? ⟨w.heap.size,1,none⟩=some (.string name)∧Below w.heap.size w wr)(fun i _=>ns.length-(intOf i).toNat);case atStart=>exact⟨0,Nat.zero_le _,rfl,fun j _ h=>absurd h (by omega),by simp,ae w _⟩
 case round=>
  obtain⟨k,hk,rfl,ax,a1,C⟩:=hrel;have ab:=aa ax;have l:=aa C;have HF:=aa (H.out.below (C.mono J.out));have e0:=(C.cell (p:=⟨xb,4,none⟩) (Nat.lt_of_lt_of_le HX.out J.out)).trans c4;have e5:=(C.cell (p:=⟨xb,5,none⟩) (Nat.lt_of_lt_of_le HX.out J.out)).trans c5;clear ax C;by_cases ac:k<ns.length;·
   obtain⟨bn,a5,rfl,aR,aq⟩:=aL.out k ac;have R:k<fis.length:=by omega
   obtain⟨bf,a4,rfl,aN,an⟩:=az.out k R;have n0:=(l.out.cell (p:=⟨bn,a5+k,none⟩) (Nat.lt_of_lt_of_le aR J.out)).trans aq;have f0:=(l.out.cell (p:=⟨bf,a4+k,none⟩) (Nat.lt_of_lt_of_le aN J.out)).trans an;obtain⟨s1,af⟩:∃s,ns[k]=s:=⟨_,rfl⟩;obtain⟨z1,ah⟩:∃z,fis[k]=z:=⟨_,rfl⟩;rw[af]at n0;rw[ah]at f0;have al:=aa af;have aM:=aa ah;clear af ah aq an;cases heq:(s1.toList==name.toList);·
    go_wp2_with fail;go_region;go_wp2_with fail;go_roundw;case rel=>
     refine⟨k+1,ac,by go_num,fun j hj bl=>?_,a1,l.out.drew⟩;by_cases av:j=k;·subst av;rw[al.out];exact heq
     ·exact ab.out j hj (by omega)
    case measure=>simp[intOf];omega
   ·go_wp2_with fail;go_region;go_wp2_with fail;go_ret;refine⟨bd ?_,l.out.drew⟩;rw[zy hl ab.out ac (by rw[al.out];exact heq) R,aM.out]
  ·obtain rfl:k=ns.length:=by omega
   go_wp2_with fail;go_ret;exact⟨bd (ER (fun j hj=>ab.out j hj hj)),l.out⟩
theorem Ax(all:List Nd)(ns:List ByteArray)(fis:List Int)(d:Nat)(hd:qz all ns fis d)(j xb B:Nat)(w:World)(ab:all.length-(j+1)=d)(I:j<all.length)(al:all.length≤400)(J:all[j].op=2)(R:¬(∀n∈all.drop (j+1),n.op=2))(h:oZ w xb B all ns fis)(hB:B≤w.heap.size):Calls Tryz.prog 238 #[.pointer (some ⟨xb,0,none⟩),.int .i64 (j:Int)] w fun e w'=>e=.returned (.int .i64 (bO ns fis (jd all (j+1)) (all.drop (j+1))))∧Below w.heap.size w w':=by have H:=aa h;obtain⟨⟨v,c0,ac⟩,⟨gn,ah,c4,ay⟩,⟨gf,af,c5,ax⟩,hx⟩:=h;obtain⟨ao,cap,rfl,aq,av,hr⟩:=ac;obtain⟨b,o,rfl,hb,C⟩:=hr (by rintro rfl;simp at I);have l:=C.get j I;have ad:=aa C;have HD:Hid (∀o:Obj,Calls Tryz.prog 238 #[.pointer (some ⟨xb,0,none⟩),.int .i64 ((j:Int)+1)] (w.alloc o) fun e w'=>e=.returned (.int .i64 (bO ns fis (jd all (j+1)) (all.drop (j+1))))∧Below w.heap.size w w'):=aa (fun ob=>by have:=hd (j+1) xb B (w.alloc ob) ab R (H.out.below ((ae w ob).mono hB)) (by simp;omega);rw[show(((j+1:Nat)):Int)=(j:Int)+1 by omega]at this;exact this.mono fun e w'⟨h1,h2⟩=>⟨h1,(ae w ob).trans (h2.mono (by simp))⟩);obtain⟨x1,T⟩:∃x,x=all[j]:=⟨_,rfl⟩;rw[←T]at l J;obtain⟨op,name,an,many,sort⟩:=x1;dsimp only at J;subst J;obtain⟨d0,d1,d2,d3,d4⟩:=l;dsimp only at d0 d1 d2 d3 d4;clear T C hr hd R;go_enter Tryz.func238,Tryz.ntmps238;go_wp2_with(go_at_call 238;refine(HD.out _).mono ?_;rintro e w2⟨rfl,P⟩;have U:=aa P;clear P);go_ret;exact⟨rfl,U.out⟩
theorem Co(all:List Nd)(ns:List ByteArray)(fis:List Int)(C xb B:Nat)(w:World)(ac:C<all.length)(aL:all.length≤400)(P:all[C].op≠1)(l:all[C].op≠2)(h:oZ w xb B all ns fis)(hB:B≤w.heap.size):Calls Tryz.prog 238 #[.pointer (some ⟨xb,0,none⟩),.int .i64 (C:Int)] w fun e w'=>e=.returned (.int .i64 (jd all C:Int))∧Below w.heap.size w w':=by
 have H:=aa h;obtain⟨⟨v,c0,ax⟩,⟨gn,az,c4,a2⟩,⟨gf,ay,c5,a1⟩,hx⟩:=h;obtain⟨ao,cap,rfl,aR,a0,hr⟩:=ax;obtain⟨b,o,rfl,hb,U⟩:=hr (by rintro rfl;simp at ac);have T:=U.get C ac;have af:=aa U;have HX:=aa hx;have ad:=aa hB;have aq:=aa hb;obtain⟨x1,an⟩:∃x,x=all[C]:=⟨_,rfl⟩;rw[←an]at T P l;obtain⟨op,name,aN,many,sort⟩:=x1;dsimp only at P l;have e1:(op==1)=false:=by simpa using P
 have e2:(op==2)=false:=by simpa using l
 obtain⟨d0,d1,d2,d3,d4⟩:=T;dsimp only at d0 d1 d2 d3 d4;clear an U hr P l;go_enter Tryz.func238,Tryz.ntmps238;go_wp2_with fail;go_loopw[7,8](fun kv i wr=>∃j:Nat,j≤C∧i=.int .i64 j∧kv=.int .i64 (jd all j:Int)∧Below w.heap.size w wr)(fun _ i _=>C-(intOf i).toNat);case atStart=>exact⟨0,Nat.zero_le _,rfl,by simp[jd],ae w _⟩
 case round=>
  obtain⟨j,hj,rfl,rfl,R⟩:=hrel;have I:=aa R;have g0:=(R.cell (p:=⟨xb,0,none⟩) (Nat.lt_of_lt_of_le HX.out ad.out)).trans c0;have aM:=qb all j;clear R;by_cases ab:j<C;·
   have ah:j<all.length:=by omega
   have al:=(af.out.get j ah).1;have k0:=(I.out.cell (p:=⟨b,o+j*5,none⟩) (Nat.lt_of_lt_of_le aq.out ad.out)).trans al;have HC:=aa (jT ah);obtain⟨J,l⟩:∃z,all[j].op=z:=⟨_,rfl⟩;have av:Hid (ju all[j]=(J==0||J==5||J==6)):=aa (by unfold ju;rw[l]);rw[l]at k0;clear l al;rw[av.out]at HC;by_cases q0:J=0;·
    subst q0;go_wp2_with fail;go_roundw;case rel=>exact⟨j+1,ab,by go_num,by rw[HC.out];simp,I.out⟩
    case measure=>simp[intOf];omega
   ·have r0:(J==0)=false:=by simpa using q0
    by_cases q5:J=5;·
     subst q5;go_wp2_with fail;go_roundw;case rel=>exact⟨j+1,ab,by go_num,by rw[HC.out];simp,I.out⟩
     case measure=>simp[intOf];omega
    ·have r5:(J==5)=false:=by simpa using q5
     by_cases q6:J=6;·
      subst q6;go_wp2_with fail;go_roundw;case rel=>exact⟨j+1,ab,by go_num,by rw[HC.out];simp,I.out⟩
      case measure=>simp[intOf];omega
     ·have r6:(J==6)=false:=by simpa using q6
      go_wp2_with fail;go_roundw;case rel=>exact⟨j+1,ab,by go_num,by rw[HC.out,r0,r5,r6];simp,I.out⟩
      case measure=>simp[intOf];omega
  ·obtain rfl:j=C:=by omega
   go_wp2_with fail;go_ret;exact⟨rfl,I.out⟩
theorem k7(all:List Nd)(ns:List ByteArray)(fis:List Int)(hl:fis.length=ns.length)(ab:ns.length≤1000)(l:all.length≤400):∀d,qz all ns fis d:=by
 intro d;induction d with
  |zero=>intro pos xb B w hd I;exact absurd (fun n J=>by rw[List.drop_eq_nil_of_le (by omega)]at J;cases J) I|succ d ih=>
   intro pos xb B w hd I h U;have j:pos<all.length:=by omega
   have C:all.drop pos=all[pos]::all.drop (pos+1):=List.drop_eq_getElem_cons j;by_cases T:all[pos].op=1;·have:=Ay all ns fis hl ab pos xb B w j l T h U;rw[C,bO,T];exact this
   ·by_cases P:all[pos].op=2;·
     have R:¬(∀n∈all.drop (pos+1),n.op=2):=fun hh=>I (fun n J=>by
      rw[C]at J;rcases List.mem_cons.1 J with rfl|J;·exact P
      ·exact hh n J);have:=Ax all ns fis d ih pos xb B w (by omega) j l P R h U;rw[jT j]at this;have hs:ju all[pos]=false:=by unfold ju;rw[P];rfl
     rw[hs]at this;simp only[Bool.false_eq_true,if_false,Nat.add_zero]at this;rw[C,bO,P];exact this
    ·have:=Co all ns fis pos xb B w j l T P h U;have e1:(all[pos].op==1)=false:=by simpa using T
     have e2:(all[pos].op==2)=false:=by simpa using P
     rw[C,bO,e1,e2];exact this
end
end Go.Proofs.YtdiiiijkhpdcbaaGreatDoor
