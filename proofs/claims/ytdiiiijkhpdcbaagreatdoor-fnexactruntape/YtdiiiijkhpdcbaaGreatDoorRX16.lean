import Derived.Test.YtdiiiijkhpdcbaaGreatDoorRX14
import Derived.Laws.AppendOwnNone
namespace Go.Proofs.YtdiiiijkhpdcbaaGreatDoor
open Go.RowKit
set_option linter.unusedSimpArgs false
set_option linter.unusedVariables false
set_option maxHeartbeats 4000000
set_option maxRecDepth 100000
section
attribute [local go_sem ↓] Go.wp_at_zero Go.wp_at_succ
def qY(all:List Nd)(ns:List ByteArray)(fis:List Int)(d:Nat):Prop:=∀(pos xb B:Nat)(w:World),all.length-pos=d->¬(∀n∈all.drop pos,n.op=2)->pS w xb B all ns fis->B<=w.heap.size->Calls Tryz.prog 238 #[.pointer (some ⟨xb,0,none⟩),.int .i64 (pos:Int)] w fun e w'=>e=.returned (.int .i64 (bK ns fis (jn all pos) (all.drop pos)))/\ZW w w'
theorem Bz(all:List Nd)(ns:List ByteArray)(fis:List Int)(hl:fis.length=ns.length)(bm:ns.length<=1000)(I xb B:Nat)(w:World)(T:I<all.length)(a8:all.length<=400)(ad:all[I].op=1)(h:pS w xb B all ns fis)(hB:B<=w.heap.size):Calls Tryz.prog 238 #[.pointer (some ⟨xb,0,none⟩),.int .i64 (I:Int)] w fun e w'=>e=.returned (.int .i64 (gd ns fis all[I].name))/\ZW w w':=by
 have H:=aa h;obtain⟨⟨v,c0,a3⟩,⟨gn,a7,c4,a2⟩,⟨gf,a6,c5,a0⟩,hx⟩:=h;obtain⟨ao,cap,rfl,bi,bk,hr⟩:=a3;obtain⟨b,o,rfl,hb,U⟩:=hr (by rintro rfl;simp at T);have P:=U.get I T;obtain⟨x1,ay⟩:∃x,x=all[I]:=⟨_,rfl⟩;rw[<-ay]at P ad|-;obtain⟨op,name,a9,many,sort⟩:=x1;dsimp only at ad;subst ad;obtain⟨d0,d1,d2,d3,d4⟩:=P;dsimp only at d0 d1 d2 d3 d4;have aL:=aa a2;have az:=aa a0;have J:=aa hB;have HX:=aa hx;clear ay U hr;go_in;go_wp2;have bb:Hid (∀o:Obj,ZW w (w.alloc o)):=aa (ag w);go_loopw[6](fun i wr=>∃k:Nat,k<=ns.length/\i=.int .i64 k/\(∀j(h:j<ns.length),j<k->(ns[j].toList==name.toList)=false)/\wr.cell? ⟨w.heap.size,1,none⟩=some (.string name)/\ZW w wr)(fun i _=>ns.length-(intOf i).toNat);case atStart=>exact⟨0,Nat.zero_le _,rfl,fun j _ h=>absurd h (by omega),by simp,ag w _⟩
 case round=>
  obtain⟨k,hk,rfl,ax,a1,C⟩:=hrel;have ab:=aa ax;have l:=aa C;have HF:=aa (H.out.below (C.mono J.out));have e0:=(C.cell (p:=⟨xb,4,none⟩) (Nat.lt_of_lt_of_le HX.out J.out)).trans c4;have e5:=(C.cell (p:=⟨xb,5,none⟩) (Nat.lt_of_lt_of_le HX.out J.out)).trans c5;clear ax C;by_cases ac:k<ns.length;·
   obtain⟨bn,a5,rfl,aR,aq⟩:=aL.out k ac;have R:k<fis.length:=by omega
   obtain⟨bf,a4,rfl,aN,an⟩:=az.out k R;have n0:=(l.out.cell (p:=⟨bn,a5+k,none⟩) (Nat.lt_of_lt_of_le aR J.out)).trans aq;have f0:=(l.out.cell (p:=⟨bf,a4+k,none⟩) (Nat.lt_of_lt_of_le aN J.out)).trans an;obtain⟨s1,af⟩:∃s,ns[k]=s:=⟨_,rfl⟩;obtain⟨z1,ah⟩:∃z,fis[k]=z:=⟨_,rfl⟩;rw[af]at n0;rw[ah]at f0;have al:=aa af;have aM:=aa ah;clear af ah aq an;cases heq:(s1.toList==name.toList);·
    go_wp2;go_region;go_wp2;go_roundw;case rel=>
     refine⟨k+1,ac,by go_num,fun j hj bl=>?_,a1,l.out.drew⟩;by_cases av:j=k;·subst av;rw[al.out];exact heq
     ·exact ab.out j hj (by omega)
    case measure=>simp[intOf];omega
   ·go_wp2;go_region;go_wp2;go_ret;refine⟨bc ?_,l.out.drew⟩;rw[Am hl ab.out ac (by rw[al.out];exact heq) R,aM.out]
  ·obtain rfl:k=ns.length:=by omega
   go_wp2;go_ret;exact⟨bc (F9 (fun j hj=>ab.out j hj hj)),l.out⟩
theorem Bx(all:List Nd)(ns:List ByteArray)(fis:List Int)(d:Nat)(hd:qY all ns fis d)(j xb B:Nat)(w:World)(ab:all.length-(j+1)=d)(I:j<all.length)(al:all.length<=400)(J:all[j].op=2)(R:¬(∀n∈all.drop (j+1),n.op=2))(h:pS w xb B all ns fis)(hB:B<=w.heap.size):Calls Tryz.prog 238 #[.pointer (some ⟨xb,0,none⟩),.int .i64 (j:Int)] w fun e w'=>e=.returned (.int .i64 (bK ns fis (jn all (j+1)) (all.drop (j+1))))/\ZW w w':=by have H:=aa h;obtain⟨⟨v,c0,ac⟩,⟨gn,ah,c4,ay⟩,⟨gf,af,c5,ax⟩,hx⟩:=h;obtain⟨ao,cap,rfl,aq,av,hr⟩:=ac;obtain⟨b,o,rfl,hb,C⟩:=hr (by rintro rfl;simp at I);have l:=C.get j I;have ad:=aa C;have HD:Hid (∀o:Obj,Calls Tryz.prog 238 #[.pointer (some ⟨xb,0,none⟩),.int .i64 ((j:Int)+1)] (w.alloc o) fun e w'=>e=.returned (.int .i64 (bK ns fis (jn all (j+1)) (all.drop (j+1))))/\ZW w w'):=aa (fun ob=>by have:=hd (j+1) xb B (w.alloc ob) ab R (H.out.below ((ag w ob).mono hB)) (by simp;omega);rw[show(((j+1:Nat)):Int)=(j:Int)+1 by omega]at this;exact this.mono fun e w'⟨h1,h2⟩=>⟨h1,(ag w ob).trans (h2.mono (by simp))⟩);obtain⟨x1,T⟩:∃x,x=all[j]:=⟨_,rfl⟩;rw[<-T]at l J;obtain⟨op,name,an,many,sort⟩:=x1;dsimp only at J;subst J;obtain⟨d0,d1,d2,d3,d4⟩:=l;dsimp only at d0 d1 d2 d3 d4;clear T C hr hd R;go_in;go_wp2_with(go_at_call 238;refine(HD.out _).mono ?_;rintro e w2⟨rfl,P⟩;have U:=aa P;clear P);go_ret;exact⟨rfl,U.out⟩
theorem Dv(all:List Nd)(ns:List ByteArray)(fis:List Int)(C xb B:Nat)(w:World)(ac:C<all.length)(aL:all.length<=400)(P:all[C].op≠1)(l:all[C].op≠2)(h:pS w xb B all ns fis)(hB:B<=w.heap.size):Calls Tryz.prog 238 #[.pointer (some ⟨xb,0,none⟩),.int .i64 (C:Int)] w fun e w'=>e=.returned (.int .i64 (jn all C:Int))/\ZW w w':=by
 have H:=aa h;obtain⟨⟨v,c0,ax⟩,⟨gn,az,c4,a2⟩,⟨gf,ay,c5,a1⟩,hx⟩:=h;obtain⟨ao,cap,rfl,aR,a0,hr⟩:=ax;obtain⟨b,o,rfl,hb,U⟩:=hr (by rintro rfl;simp at ac);have T:=U.get C ac;have af:=aa U;have HX:=aa hx;have ad:=aa hB;have aq:=aa hb;obtain⟨x1,an⟩:∃x,x=all[C]:=⟨_,rfl⟩;rw[<-an]at T P l;obtain⟨op,name,aN,many,sort⟩:=x1;dsimp only at P l;have e1:(op==1)=false:=by simpa using P
 have e2:(op==2)=false:=by simpa using l
 obtain⟨d0,d1,d2,d3,d4⟩:=T;dsimp only at d0 d1 d2 d3 d4;clear an U hr P l;go_in;go_wp2;go_loopw[7,8](fun kv i wr=>∃j:Nat,j<=C/\i=.int .i64 j/\kv=.int .i64 (jn all j:Int)/\ZW w wr)(fun _ i _=>C-(intOf i).toNat);case atStart=>exact⟨0,Nat.zero_le _,rfl,by simp[jn],ag w _⟩
 case round=>
  obtain⟨j,hj,rfl,rfl,R⟩:=hrel;have I:=aa R;have g0:=(R.cell (p:=⟨xb,0,none⟩) (Nat.lt_of_lt_of_le HX.out ad.out)).trans c0;have aM:=qJ all j;clear R;by_cases ab:j<C;·
   have ah:j<all.length:=by omega
   have al:=(af.out.get j ah).1;have k0:=(I.out.cell (p:=⟨b,o+j*5,none⟩) (Nat.lt_of_lt_of_le aq.out ad.out)).trans al;have HC:=aa (kb ah);obtain⟨J,l⟩:∃z,all[j].op=z:=⟨_,rfl⟩;have av:Hid (jE all[j]=(J==0||J==5||J==6)):=aa (by unfold jE;rw[l]);rw[l]at k0;clear l al;rw[av.out]at HC;by_cases q0:J=0;·
    subst q0;go_wp2;go_roundw;case rel=>exact⟨j+1,ab,by go_num,by rw[HC.out];simp,I.out⟩
    case measure=>simp[intOf];omega
   ·have r0:(J==0)=false:=by simpa using q0
    by_cases q5:J=5;·
     subst q5;go_wp2;go_roundw;case rel=>exact⟨j+1,ab,by go_num,by rw[HC.out];simp,I.out⟩
     case measure=>simp[intOf];omega
    ·have r5:(J==5)=false:=by simpa using q5
     by_cases q6:J=6;·
      subst q6;go_wp2;go_roundw;case rel=>exact⟨j+1,ab,by go_num,by rw[HC.out];simp,I.out⟩
      case measure=>simp[intOf];omega
     ·have r6:(J==6)=false:=by simpa using q6
      go_wp2;go_roundw;case rel=>exact⟨j+1,ab,by go_num,by rw[HC.out,r0,r5,r6];simp,I.out⟩
      case measure=>simp[intOf];omega
  ·obtain rfl:j=C:=by omega
   go_wp2;go_ret;exact⟨rfl,I.out⟩
theorem lH(all:List Nd)(ns:List ByteArray)(fis:List Int)(hl:fis.length=ns.length)(ab:ns.length<=1000)(l:all.length<=400):∀d,qY all ns fis d:=by
 intro d;induction d with
  |zero=>intro pos xb B w hd I;exact absurd (fun n J=>by rw[List.drop_eq_nil_of_le (by omega)]at J;cases J) I|succ d ih=>
   intro pos xb B w hd I h U;have j:pos<all.length:=by omega
   have C:all.drop pos=all[pos]::all.drop (pos+1):=List.drop_eq_getElem_cons j;by_cases T:all[pos].op=1;·have:=Bz all ns fis hl ab pos xb B w j l T h U;rw[C,bK,T];exact this
   ·by_cases P:all[pos].op=2;·
     have R:¬(∀n∈all.drop (pos+1),n.op=2):=fun hh=>I (fun n J=>by
      rw[C]at J;rcases List.mem_cons.1 J with rfl|J;·exact P
      ·exact hh n J);have:=Bx all ns fis d ih pos xb B w (by omega) j l P R h U;rw[kb j]at this;have hs:jE all[pos]=false:=by unfold jE;rw[P];rfl
     rw[hs]at this;simp only[Bool.false_eq_true,if_false,Nat.add_zero]at this;rw[C,bK,P];exact this
    ·have:=Dv all ns fis pos xb B w j l T P h U;have e1:(all[pos].op==1)=false:=by simpa using T
     have e2:(all[pos].op==2)=false:=by simpa using P
     rw[C,bK,e1,e2];exact this
end
section
def jW:Option ByteArray->Value->Prop|none,v=>v=.iface 304 (.agg #[])|some x,v=>v=.iface 295 (.agg #[.string x])
def uC(t:Tk)(sl:Value):Value:=if t.op==3 then .iface 302 (.agg #[.string t.a,.string t.b,sl])else if t.op==5 then .iface 343 (.agg #[.string t.b,sl])else .iface 344 (.agg #[.string t.b,sl])
def A4{α:Type}(C:α->Value->Prop)(w:World)(S:Nat->Prop)(v:Value)(l:List (Br α)):Prop:=∃j cap,v=.slice j l.length cap/\l.length<=cap/\cap<=maxLen/\(l≠[]->∃g o,j=some ⟨g,o,none⟩/\S g/\∀(i:Nat)(b:Br α),l[i]?=some b->w.cell? ⟨g,o+i*3,none⟩=some (.string b.l)/\w.cell? ⟨g,o+i*3+1,none⟩=some (.int .i64 b.s)/\∃u,w.cell? ⟨g,o+i*3+2,none⟩=some u/\C b.p u)
def cK(w:World)(S:Nat->Prop):(n:Nat)->Pn n->Value->Prop|0,x,v=>jW x v|n+1,p,v=>p.by (fun x=>jW x v) (fun x q=>∃u,v=.iface 297 (.agg #[.string x,u])/\cK w S n q u) (fun t l=>∃sl,v=uC t sl/\A4 (cK w S n) w S sl l)
theorem A4.carry{α:Type}{P j:α->Value->Prop}{w w':World}{S S':Nat->Prop}{v:Value}{l:List (Br α)}(h:A4 P w S v l)(I:∀g,S g->w'.heap[g]?=w.heap[g]?)(hB:∀g,S g->S' g)(hp:∀b∈l,∀u,P b.p u->j b.p u):A4 j w' S' v l:=by obtain⟨R,cap,e,h1,h2,h3⟩:=h;refine⟨R,cap,e,h1,h2,fun J=>?_⟩;obtain⟨g,o,T,C,U⟩:=h3 J;refine⟨g,o,T,hB g C,fun i b hi=>?_⟩;obtain⟨k1,k2,u,k3,k4⟩:=U i b hi;exact⟨(World.cell?_of_block (a:=⟨g,o+i*3,none⟩) (I g C)).trans k1,(World.cell?_of_block (a:=⟨g,o+i*3+1,none⟩) (I g C)).trans k2,u,(World.cell?_of_block (a:=⟨g,o+i*3+2,none⟩) (I g C)).trans k3,hp b (List.mem_of_getElem? hi) u k4⟩
theorem cK.carry{w w':World}{S S':Nat->Prop}(C:∀g,S g->w'.heap[g]?=w.heap[g]?)(j:∀g,S g->S' g):∀(n:Nat)(p:Pn n)(v:Value),cK w S n p v->cK w' S' n p v:=by
 intro n;induction n with
  |zero=>intro p v h;exact h|succ n ih=>
   intro p;refine Pn.cases (P:=fun p=>∀v,cK w S (n+1) p v->cK w' S' (n+1) p v) (fun x v h=>h) (fun x q v h=>?_) (fun t l v h=>?_) p;·obtain⟨u,e,h⟩:=h;exact⟨u,e,ih q u h⟩
   ·obtain⟨sl,e,h⟩:=h;exact⟨sl,e,h.carry C j (fun b _ u hu=>ih b.p u hu)⟩
theorem Kb{w:World}{S:Nat->Prop}:∀(n:Nat)(p:Pn n)(v:Value),cK w S n p v->cK w S (n+1) (nP n p) v:=by
 intro n;induction n with
  |zero=>intro p v h;exact h|succ n ih=>
   intro p;refine Pn.cases (P:=fun p=>∀v,cK w S (n+1) p v->cK w S (n+2) (nP (n+1) p) v) (fun x v h=>h) (fun x q v h=>?_) (fun t l v h=>?_) p;·obtain⟨u,e,h⟩:=h;exact⟨u,e,ih q u h⟩
   ·obtain⟨sl,e,J,cap,j,U,h2,h3⟩:=h;refine⟨sl,e,J,cap,by rw[List.length_map];exact j,by rw[List.length_map];exact U,h2,fun C=>?_⟩;obtain⟨g,o,R,j,T⟩:=h3 (fun h=>C (by rw[h];rfl));refine⟨g,o,R,j,fun i b hi=>?_⟩;rw[List.getElem?_map]at hi;cases I:l[i]? with|none=>rw[I]at hi;cases hi|some x=>rw[I]at hi;simp only[Option.map_some,Option.some.injEq]at hi;subst hi;obtain⟨k1,k2,u,k3,k4⟩:=T i x I;exact⟨k1,k2,u,k3,ih x.p u k4⟩
theorem nw{x:Option ByteArray}{v:Value}(h:jW x v):∃t a,v=.iface t (.agg a):=by cases x with|none=>exact⟨_,_,h⟩|some x=>exact⟨_,_,h⟩
theorem zy(t:Tk)(sl:Value):∃T a,uC t sl=.iface T (.agg a):=by
 unfold uC;split;·exact⟨_,_,rfl⟩
 ·split;·exact⟨_,_,rfl⟩
  ·exact⟨_,_,rfl⟩
theorem cK.shape{w:World}{S:Nat->Prop}:∀{n:Nat}{p:Pn n}{v:Value},cK w S n p v->∃t a,v=.iface t (.agg a)
 |0,p,v,h=>nw h|n+1,p,v,h=>by
  revert h;refine Pn.cases (P:=fun p=>cK w S (n+1) p v->∃t a,v=.iface t (.agg a)) (fun x h=>nw h) (fun x q h=>?_) (fun t l h=>?_) p;·obtain⟨u,e,_⟩:=h;exact⟨_,_,e⟩
  ·obtain⟨sl,e,_⟩:=h;obtain⟨T,a,j⟩:=zy t sl;exact⟨T,a,e.trans j⟩
theorem cK.one{w:World}{S:Nat->Prop}{n:Nat}{p:Pn n}{v:Value}(h:cK w S n p v):v.oneCell'=true:=by obtain⟨t,a,rfl⟩:=h.shape;rfl
structure BV(n:Nat)where
 b:Br (Pn n)
 u:Value
def BV.cells{n:Nat}(x:BV n):List Value:=[.string x.b.l,.int .i64 x.b.s,x.u]
theorem BV.bh{n:Nat}(x:BV n):x.cells.length=3:=rfl
def lo(n:Nat):Nat->Prop:=fun b=>b<n
def Hs(a n:Nat):Nat->Prop:=fun b=>a<=b/\b<n
def off(a n:Nat)(v:Value):Nat->Prop:=fun b=>(a<=b/\b<n)/\b∉ae v
section
variable {n : Nat}
theorem cK.on{w w':World}{p:Pn n}{u:Value}(h:cK w (lo w.heap.size) n p u)(l:ZW w w'):cK w' (lo w'.heap.size) n p u:=cK.carry (fun g j=>l.block g j) (fun _ j=>Nat.lt_of_lt_of_le j l.size) n p u h
theorem cK.up{w:World}{S:Nat->Prop}{p:Pn n}{u:Value}(h:cK w S n p u){S':Nat->Prop}(hS:∀g,S g->S' g):cK w S' n p u:=cK.carry (fun _ _=>rfl) hS n p u h
def qE(w:World)(S:Nat->Prop)(v:Value)(l:List (Br (Pn n))):Prop:=A4 (cK w S n) w S v l
theorem qE.carry{w w':World}{S S':Nat->Prop}{v:Value}{l:List (Br (Pn n))}(h:qE w S v l)(C:∀g,S g->w'.heap[g]?=w.heap[g]?)(j:∀g,S g->S' g):qE w' S' v l:=A4.carry h C j (fun b _ u hu=>cK.carry C j n b.p u hu)
theorem qE.on{w w':World}{v:Value}{l:List (Br (Pn n))}(h:qE w (lo w.heap.size) v l)(C:ZW w w'):qE w' (lo w'.heap.size) v l:=h.carry (fun g j=>C.block g j) (fun _ j=>Nat.lt_of_lt_of_le j C.size)
structure k8(w:World)(base:Nat)(v:Value)(l:List (BV n)):Prop where
 own:w.ownsRow base 341 3 v l.length (l.flatMap BV.cells)
 Fv:∀x∈l,cK w (off base w.heap.size v) n x.b.p x.u
theorem k8.aA{w w':World}{base:Nat}{v:Value}{l:List (BV n)}(h:k8 w base v l)(C:ZW w w'):k8 w' base v l:=⟨aT h.own C,fun x I=>cK.carry (fun g j=>C.block g j.1.2) (fun _ j=>⟨⟨j.1.1,Nat.lt_of_lt_of_le j.1.2 C.size⟩,j.2⟩) _ _ _ (h.Fv x I)⟩
theorem k8.nil(w:World)(base:Nat):k8 w base (.slice none 0 0) ([]:List (BV n)):=⟨dd _ _ _ _,fun x j=>by cases j⟩
theorem k8.sl{w:World}{base:Nat}{v:Value}{l:List (BV n)}(h:k8 w base v l):qE w (Hs base w.heap.size) v (l.map BV.b):=by
 rcases h.own.2 with⟨rfl,h0⟩|⟨g,cap,ab,rfl,R,I,hc,hm,_⟩;·have e:l=[]:=List.length_eq_zero_iff.1 h0;subst e;exact⟨none,0,rfl,Nat.le_refl _,Nat.zero_le _,fun T=>absurd rfl T⟩
 ·refine⟨some ⟨g,0,none⟩,cap,by rw[List.length_map],by rw[List.length_map];exact hc,hm,fun _=>⟨g,0,rfl,⟨R,(Array.getElem?_eq_some_iff.1 I).1⟩,fun i b C=>?_⟩⟩;rw[List.getElem?_map]at C;cases U:l[i]? with|none=>rw[U]at C;cases C|some x=>rw[U]at C;simp only[Option.map_some,Option.some.injEq]at C;subst C;obtain⟨J,P⟩:=List.getElem?_eq_some_iff.1 U;have e:=fun j(hj:j<3)(y:Value)(hy:(x.cells)[j]?=some y)=>cQ h.own rfl (i*3+j) y ((dT BV.cells 3 BV.bh l i J j hj).trans (by rw[P];exact hy));rw[Nat.zero_add];exact⟨e 0 (by omega) _ rfl,e 1 (by omega) _ rfl,x.u,e 2 (by omega) _ rfl,(h.Fv x (by rw[<-P];exact List.getElem_mem J)).up (fun _ R=>R.1)⟩
theorem uN{w:World}{S:Nat->Prop}{x:BV n}(h:cK w S n x.b.p x.u):∀u∈x.cells,u.oneCell'=true:=by
 intro u hu;simp[BV.cells]at hu;rcases hu with rfl|rfl|rfl;·rfl
 ·rfl
 ·exact h.one
theorem FK{w P:World}{base:Nat}{v R:Value}{l:List (BV n)}(h:k8 w base v l)(x:BV n)(hx:cK w (off base w.heap.size v) n x.b.p x.u)(o:Obj)(I:P.ownsRow base 341 3 R (l.length+1) (l.flatMap BV.cells++x.cells))(j:(w.alloc o).grownBy P v.ownBlock)(U:R.ownBlock=v.ownBlock\/R.ownBlock=some (w.alloc o).heap.size):k8 P base R (l++[x])/\aH w P (ae v):=by
 obtain⟨p,c,hv⟩:=ar h.own;obtain⟨p',c',ab⟩:=ar I;have T:aH w P (ae v):=by rw[hv]at j|-;have:=(aj (ag w o)).trans (aE j);rwa[List.nil_append]at this
 have key:∀{q:Pn n}{u:Value},cK w (off base w.heap.size v) n q u->cK P (off base P.heap.size R) n q u:=fun hq=>cK.carry (fun g j=>T.block g j.1.2 j.2) (fun g j=>⟨⟨j.1.1,Nat.lt_of_lt_of_le j.1.2 T.size⟩,fun hm=>by
  have C:=(aS ab).2 hm;rcases U with e|e;·rw[e]at C;exact j.2 ((aS hv).1 C)
  ·rw[e]at C;have:=j.1.2;simp at C;omega⟩) _ _ _ hq;refine⟨⟨?_,fun y J=>?_⟩,T⟩;·rw[List.length_append,List.length_singleton,List.flatMap_append];simpa using I
 ·rw[List.mem_append]at J;rcases J with J|J;·exact key (h.Fv y J)
  ·simp at J;subst J;exact key hx
theorem cK.wide{w:World}{a j m:Nat}{p:Pn n}{u:Value}(h:cK w (Hs a m) n p u)(C:j<=a):cK w (Hs j m) n p u:=h.up (fun _ l=>⟨Nat.le_trans C l.1,l.2⟩)
theorem qE.wide{w:World}{a j m:Nat}{v:Value}{l:List (Br (Pn n))}(h:qE w (Hs a m) v l)(I:j<=a):qE w (Hs j m) v l:=h.carry (fun _ _=>rfl) (fun _ C=>⟨Nat.le_trans I C.1,C.2⟩)
end
theorem fO(w:World)(cs:List Value)(t:TypeId)(b:Nat)(l:b=w.heap.size)(j:Nat)(u:Value)(h:cs[j]?=some u):(w.alloc (.cells cs.toArray t)).cell? (Addr.add ⟨b,0,none⟩ j)=some u:=by subst l;exact dY w cs t j u h
theorem Tryz.uS:(Tryz.prog.info? 341).map (fun i=>(i.zero,i.size,i.bytes))=some (some (.agg #[.string .empty,.int .i64 0,.nilIface]),3,40):=by kernel_rfl
theorem r7(x:Option ByteArray):0<(bP x).length:=by cases x<;>simp[bP]
theorem db:∀(n:Nat)(p:Pn n),0<(aB n p).length|0,p=>r7 p|n+1,p=>Pn.cases (P:=fun p=>0<(aB (n+1) p).length) (fun x=>r7 x) (fun x q=>by rw[cO];simp) (fun t l=>by rw[bI];simp) p
end
section
attribute [local go_sem ↓] Go.wp_at_zero Go.wp_at_succ
theorem tS{α β:Type}(f:α->List β)(n:Nat)(j:∀x,(f x).length=n):∀(l:List α)(k:Nat),(l.take k).flatMap f=(l.flatMap f).take (k*n)
 |[],k=>by simp|x::l,0=>by simp|x::l,k+1=>by
  have C:(f x).take ((k+1)*n)=f x:=List.take_of_length_le (by rw[j,Nat.succ_mul];omega);have I:(k+1)*n-(f x).length=k*n:=by rw[j,Nat.succ_mul];omega
  rw[List.take_succ_cons,List.flatMap_cons,tS f n j l k,List.flatMap_cons,List.take_append,C,I]
theorem tP{α β:Type}(f:α->List β)(n:Nat)(j:∀x,(f x).length=n):∀(l:List α)(k:Nat),(l.drop k).flatMap f=(l.flatMap f).drop (k*n)
 |[],k=>by simp|x::l,0=>by simp|x::l,k+1=>by
  have C:(f x).drop ((k+1)*n)=[]:=List.drop_of_length_le (by rw[j,Nat.succ_mul];omega);have I:(k+1)*n-(f x).length=k*n:=by rw[j,Nat.succ_mul];omega
  rw[List.drop_succ_cons,tP f n j l k,List.flatMap_cons,List.drop_append,C,I,List.nil_append]
def jC(e:aC)(l:List aC):Nat:=(l.takeWhile fun x=>bS x e).length
theorem DL(e:aC)(l:List aC):gW e l=l.take (jC e l)++e::l.drop (jC e l):=by
 have j:l.takeWhile (fun x=>bS x e)=l.take (jC e l):=by
  have:=List.takeWhile_append_dropWhile (p:=fun x=>bS x e) (l:=l);conv=>rhs;arg 2;rw[<-this]
  unfold jC;rw[List.take_left'];rfl
 have C:l.dropWhile (fun x=>bS x e)=l.drop (jC e l):=by
  have:=List.takeWhile_append_dropWhile (p:=fun x=>bS x e) (l:=l);conv=>rhs;arg 2;rw[<-this]
  unfold jC;rw[List.drop_left'];rfl
 rw[gW,j,C]
theorem FV(e:aC)(l:List aC):jC e l<=l.length:=by unfold jC;exact(List.takeWhile_sublist _).length_le
theorem wy{e:aC}:∀{l:List aC}{j:Nat}(h:j<l.length),j<jC e l->bS l[j] e=true
 |x::l,j,h,C=>by
  unfold jC at C;rw[List.takeWhile_cons]at C;by_cases I:bS x e=true;·rw[if_pos I]at C;cases j with|zero=>exact I|succ j=>exact wy (l:=l) (by simpa using h) (by simpa[jC]using C)
  ·rw[if_neg I]at C;simp at C
theorem wz{e:aC}:∀{l:List aC}(h:jC e l<l.length),bS l[jC e l] e=false
 |x::l,h=>by
  by_cases C:bS x e=true;·
   have j:jC e (x::l)=jC e l+1:=by unfold jC;rw[List.takeWhile_cons,if_pos C];simp
   have I:jC e l<l.length:=by rw[j]at h;simpa using h
   have:=wz (e:=e) (l:=l) I;simp only[j,List.getElem_cons_succ];exact this
  ·have j:jC e (x::l)=0:=by unfold jC;rw[List.takeWhile_cons,if_neg C];rfl
   simp only[j,List.getElem_cons_zero];simpa using C
structure uH(w:World)(xb base:Nat)(ev:Value)(eds:List aC):Prop where
 c2:w.cell? ⟨xb,2,none⟩=some ev
 fz:w.frozen? ⟨xb,2,none⟩=false
 ed:bD w base ev eds
 lo:xb<base
 sz:base<=w.heap.size
theorem uH.below{w w':World}{xb base:Nat}{ev:Value}{eds:List aC}(h:uH w xb base ev eds)(j:ZW w w'):uH w' xb base ev eds:=have l:xb<w.heap.size:=Nat.lt_of_lt_of_le h.lo h.sz;⟨(j.cell (p:=⟨xb,2,none⟩) l).trans h.c2,(j.frozen (p:=⟨xb,2,none⟩) l).trans h.fz,h.ed.below j,h.lo,Nat.le_trans h.sz j.size⟩
theorem xG{w:World}{base g cap:Nat}{eds:List aC}(h:bD w base (.slice (some ⟨g,0,none⟩) eds.length cap) eds)(k:Nat)(j:k<eds.length):w.cell? ⟨g,k*4,none⟩=some (.int .i64 eds[k].src)/\w.cell? ⟨g,k*4+1,none⟩=some (.string eds[k].label)/\w.cell? ⟨g,k*4+2,none⟩=some (.int .i64 eds[k].sort)/\w.cell? ⟨g,k*4+3,none⟩=some (.int .i64 eds[k].dst):=by have e:=fun i(hi:i<4)(x:Value)(l:(eds[k].cells)[i]?=some x)=>cQ h rfl (k*4+i) x ((dT aC.cells 4 aC.bh eds k j i hi).trans l);exact⟨e 0 (by omega) _ rfl,e 1 (by omega) _ rfl,e 2 (by omega) _ rfl,e 3 (by omega) _ rfl⟩
structure jj(w w':World):Prop where ap:aH w w' []
theorem jj.dx{w w':World}(h:ZW w w'):jj w w':=⟨aj h⟩
theorem jj.alloc{w w':World}(h:jj w w')(o:Obj):jj w (w'.alloc o):=⟨h.ap.then (ag _ _)⟩
theorem jj.grow{w w' C:World}{l:List Nat}(h:jj w w')(j:aH w' C l)(J:∀b∈l,w.heap.size<=b):jj w C:=⟨⟨j.os.trans h.ap.os,j.tape.trans h.ap.tape,j.output.trans h.ap.output,Nat.le_trans h.ap.size j.size,fun k I _=>(j.block k (Nat.lt_of_lt_of_le I h.ap.size) (fun P=>absurd (J k P) (by omega))).trans (h.ap.block k I (by simp))⟩⟩
theorem jj.cell{w w':World}(h:jj w w'){b o:Nat}{x:Value}(j:w.cell? ⟨b,o,none⟩=some x):w'.cell? ⟨b,o,none⟩=some x:=h.ap.ek j (by simp)
theorem jj.ed{w w':World}{xb base:Nat}{ev:Value}{eds:List aC}(h:jj w w')(j:uH w xb base ev eds):uH w' xb base ev eds:=have l:xb<w.heap.size:=Nat.lt_of_lt_of_le j.lo j.sz;⟨h.ap.ek j.c2 (by simp),h.ap.og l j.fz (by simp),j.ed.aA h.ap (fun _ _=>by simp),j.lo,Nat.le_trans j.sz h.ap.size⟩
theorem oV(l:List aC):∀u∈l.flatMap aC.cells,u.oneCell'=true:=fun u hu=>by obtain⟨x,_,j⟩:=List.mem_flatMap.1 hu;exact aC.cells_one x u j
theorem CT(g o j:Nat):Addr.add ⟨g,o,none⟩ j=⟨g,o+j,none⟩:=by
 by_cases h:j=0;·subst h;simp[Addr.add]
 ·simp[Addr.add,h]
theorem xY{w:World}{base g ce k j:Nat}{eds:List aC}{u:Value}(h:bD w base (.slice (some ⟨g,0,none⟩) eds.length ce) eds)(l:((eds.take k).flatMap aC.cells)[j]?=some u):w.cell? (Addr.add ⟨g,0,none⟩ j)=some u:=by
 rw[tS aC.cells 4 aC.bh]at l;have C:j<k*4:=by have:=(List.getElem?_eq_some_iff.1 l).1;rw[List.length_take]at this;omega
 rw[List.getElem?_take_of_lt C]at l;rw[CT,Nat.zero_add];exact cQ h rfl j u l
theorem Dj{w:World}{base g ce k j:Nat}{eds:List aC}{u:Value}(h:bD w base (.slice (some ⟨g,0,none⟩) eds.length ce) eds)(l:((eds.drop k).flatMap aC.cells)[j]?=some u):w.cell? (Addr.add ⟨g,k*4,none⟩ j)=some u:=by rw[tP aC.cells 4 aC.bh,List.getElem?_drop]at l;rw[CT];exact cQ h rfl (k*4+j) u l
theorem Di{k:Nat}{eds:List aC}(h:eds.length<=k):(eds.drop k).flatMap aC.cells=[]:=by rw[List.drop_eq_nil_of_le h];rfl
structure Io(w w':World)(xb:Nat):Prop where
 ap:aH w w' [xb]
 KT:∀o x,o≠2->w.cell? ⟨xb,o,none⟩=some x->w'.cell? ⟨xb,o,none⟩=some x
 fz:∀o,w.frozen? ⟨xb,o,none⟩=false->w'.frozen? ⟨xb,o,none⟩=false
theorem zT{w wr P:World}{xb:Nat}(y:Value)(l:xb<w.heap.size)(j:ZW w wr)(C:jj wr P):Io w (P.setCell ⟨xb,2,none⟩ y) xb:=by
 have J:xb<wr.heap.size:=Nat.lt_of_lt_of_le l j.size;refine⟨?_,fun o x I U=>?_,fun o I=>?_⟩;·have T:=(aj j).trans (C.ap.trans (aG P xb 2 y));simpa using T
 ·rw[World.cell?_setCell_other _ _ _ _ (by intro e;injection e with _ R;exact I R.symm)];exact C.cell ((j.cell (p:=⟨xb,o,none⟩) l).trans U)
 ·rw[World.frozen?_setCell];exact C.ap.og J ((j.frozen (p:=⟨xb,o,none⟩) l).trans I) (by simp)
theorem wC{w wr w3 l:World}{xb k c6:Nat}{p6:Option Addr}{e:aC}{eds:List aC}{y:Value}(R:jC e eds=k)(hk:k<=eds.length)(J:xb<w.heap.size)(j:ZW w wr)(ac:wr.heap.size<=w3.heap.size)(U:jj wr l)(hy:l.cell? ⟨xb,2,none⟩=some y)(P:l.ownsRow w3.heap.size 213 4 (.slice p6 (k+1+(eds.length-k)) c6) (k+1+(eds.length-k)) (((eds.take k).flatMap aC.cells++e.cells)++(eds.drop k).flatMap aC.cells)):∃C,Ending.returned (.tuple #[])=.returned (.tuple #[])/\bD (l.setCell ⟨xb,2,none⟩ (.slice p6 (k+1+(eds.length-k)) c6)) w.heap.size C (gW e eds)/\(l.setCell ⟨xb,2,none⟩ (.slice p6 (k+1+(eds.length-k)) c6)).cell? ⟨xb,2,none⟩=some C/\Io w (l.setCell ⟨xb,2,none⟩ (.slice p6 (k+1+(eds.length-k)) c6)) xb:=by
 have hS:=aG l xb 2 (.slice p6 (k+1+(eds.length-k)) c6);have ab:=j.size;refine⟨_,rfl,?_,World.cell?_setCell_same _ _ _ hy,?_⟩;·
  have hi:gW e eds=(eds.take k++[e])++eds.drop k:=by rw[DL,R];simp
  have I:(gW e eds).length=k+1+(eds.length-k):=by rw[hi];simp;omega
  unfold bD;rw[I,hi,List.flatMap_append,List.flatMap_append];refine bH (base:=w3.heap.size) (aK ?_ hS (fun b T hm=>by have:=(ak P).lo b T;simp at hm;omega)) (by omega);simpa using P
 ·exact zT _ J j U
theorem Bp{w wr w3 j:World}{xb k c6:Nat}{p6:Option Addr}{e:aC}{eds:List aC}{y:Value}(T:jC e eds=k)(hk:k<=eds.length)(I:eds.length<=k)(J:xb<w.heap.size)(C:ZW w wr)(P:wr.heap.size<=w3.heap.size)(U:jj wr j)(hy:j.cell? ⟨xb,2,none⟩=some y)(ho:j.ownsRow w3.heap.size 213 4 (.slice p6 (k+1+0) c6) (k+1+0) (((eds.take k).flatMap aC.cells++e.cells)++[])):∃l,Ending.returned (.tuple #[])=.returned (.tuple #[])/\bD (j.setCell ⟨xb,2,none⟩ (.slice p6 (k+1) c6)) w.heap.size l (gW e eds)/\(j.setCell ⟨xb,2,none⟩ (.slice p6 (k+1) c6)).cell? ⟨xb,2,none⟩=some l/\Io w (j.setCell ⟨xb,2,none⟩ (.slice p6 (k+1) c6)) xb:=by
 have R:eds.length-k=0:=by omega
 have:=wC (c6:=c6) (p6:=p6) T hk J C P U hy (by rw[R,Di I];exact ho);rw[R]at this;exact this
theorem va(e:aC)(w:World)(xb base g ce:Nat)(eds:List aC)(hl:eds.length<=1000)(bB:eds.length<=ce)(h:uH w xb base (.slice (some ⟨g,0,none⟩) eds.length ce) eds):Calls Tryz.prog 263 #[.pointer (some ⟨xb,0,none⟩),e.val] w fun r w'=>∃a4,r=.returned (.tuple #[])/\bD w' w.heap.size a4 (gW e eds)/\w'.cell? ⟨xb,2,none⟩=some a4/\Io w w' xb:=by
 have H:=aa h;obtain⟨i1,bm,bp,br,bs⟩:=info_parts Tryz.o9;have HJ:=aa (And.intro bm (And.intro bp (And.intro br bs)));have c2:=h.c2;have bz:xb<w.heap.size:=Nat.lt_of_lt_of_le h.lo h.sz;have bl:=aa bz;obtain⟨ac,ab,ad,T⟩:=e;obtain⟨K,hK⟩:∃K,jC ⟨ac,ab,ad,T⟩ eds=K:=⟨_,rfl⟩;have HK:=aa hK;have a5:K<=eds.length:=by rw[<-hK];exact FV _ _
 have a7:Hid (∀j(h:j<eds.length),j<K->bS eds[j] ⟨ac,ab,ad,T⟩=true):=aa (fun j h hj=>wy h (by rw[hK];exact hj));have a9:Hid (∀(h:K<eds.length),bS eds[K] ⟨ac,ab,ad,T⟩=false):=aa (fun h=>by have:=wz (e:=⟨ac,ab,ad,T⟩) (l:=eds) (by rw[hK];exact h);simpa only[hK]using this);clear h bm bp br bs hK;unfold aC.val;go_in;go_wp2;go_loopw[4](fun i wr=>∃k:Nat,k<=K/\i=.int .i64 k/\wr.cell? ⟨w.heap.size,0,none⟩=some (.int .i64 ac)/\wr.cell? ⟨w.heap.size,1,none⟩=some (.string ab)/\wr.cell? ⟨w.heap.size,2,none⟩=some (.int .i64 ad)/\wr.cell? ⟨w.heap.size,3,none⟩=some (.int .i64 T)/\w.heap.size<wr.heap.size/\ZW w wr)(fun i _=>K-(intOf i).toNat);case atStart=>exact⟨0,Nat.zero_le _,rfl,by simp,by simp,by simp,by simp,by simp,ag w _⟩
 case round=>
  obtain⟨k,hk,rfl,e0,e1,e2,e3,a3,a0⟩:=hrel;have aN:=aa a0;have HE:=aa (H.out.below a0);have g2:=HE.out.c2;clear a0;by_cases bn:k<K;·
   have av:k<eds.length:=by omega
   obtain⟨m0,m1,m2,m3⟩:=xG HE.out.ed k av;obtain⟨x,hx⟩:∃x,eds[k]=x:=⟨_,rfl⟩;have HQ:Hid (bS x ⟨ac,ab,ad,T⟩=true):=aa (by rw[<-hx];exact a7.out k av bn);rw[hx]at m0 m1 m2 m3;clear hx;go_wp2;refine bg (by kernel_rfl) (by kernel_rfl) (fun V U=>?_);have a2:=bo V;have k2:=au (w:=V) (by rw[U];exact g2);have k0:=au (w:=V) (by rw[U];exact m0);have k1:=au (w:=V) (by rw[U];exact m1);have bi:=au (w:=V) (by rw[U];exact m2);have k3:=au (w:=V) (by rw[U];exact m3);have l0:=au (w:=V) (by rw[U];exact e0);have l1:=au (w:=V) (by rw[U];exact e1);have l2:=au (w:=V) (by rw[U];exact e2);have l3:=au (w:=V) (by rw[U];exact e3);have ao:=aa U;clear U;repeat(go_big_quiet_step(first|(go_at_call 179;exact bj (sg (a:=x) (b:=⟨ac,ab,ad,T⟩) HQ.out _))))
   refine wpQuiet_nil ?_;intro w3 al;rw[ao.out]at al;have P:=aa al;clear al a2 k2 k0 k1 bi k3 l0 l1 l2 l3 ao;go_wp2;go_roundw;case rel=>exact⟨k+1,bn,by go_num,(P.out.cell (p:=⟨w.heap.size,0,none⟩) a3).trans e0,(P.out.cell (p:=⟨w.heap.size,1,none⟩) a3).trans e1,(P.out.cell (p:=⟨w.heap.size,2,none⟩) a3).trans e2,(P.out.cell (p:=⟨w.heap.size,3,none⟩) a3).trans e3,Nat.lt_of_lt_of_le a3 P.out.size,aN.out.trans (P.out.mono aN.out.size)⟩
   case measure=>simp[intOf];omega
  ·obtain rfl:k=K:=by omega
   by_cases av:k<eds.length;·
    have a1:ce≠k:=by omega
    obtain⟨m0,m1,m2,m3⟩:=xG HE.out.ed k av;obtain⟨x,hx⟩:∃x,eds[k]=x:=⟨_,rfl⟩;have HQ:Hid (bS x ⟨ac,ab,ad,T⟩=false):=aa (by rw[<-hx];exact a9.out av);rw[hx]at m0 m1 m2 m3;clear hx;go_wp2;refine bg (by kernel_rfl) (by kernel_rfl) (fun V U=>?_);have a2:=bo V;have k2:=au (w:=V) (by rw[U];exact g2);have k0:=au (w:=V) (by rw[U];exact m0);have k1:=au (w:=V) (by rw[U];exact m1);have bi:=au (w:=V) (by rw[U];exact m2);have k3:=au (w:=V) (by rw[U];exact m3);have l0:=au (w:=V) (by rw[U];exact e0);have l1:=au (w:=V) (by rw[U];exact e1);have l2:=au (w:=V) (by rw[U];exact e2);have l3:=au (w:=V) (by rw[U];exact e3);have ao:=aa U;clear U;repeat(go_big_quiet_step(first|(go_at_call 179;exact bj (sg (a:=x) (b:=⟨ac,ab,ad,T⟩) HQ.out _))))
    refine wpQuiet_nil ?_;intro w3 al;rw[ao.out]at al;have P:=aa al;clear al a2 k2 k0 k1 bi k3 l0 l1 l2 l3 ao m0 m1 m2 m3;have ax:=aa (HE.out.below P.out);have g3:=ax.out.c2;have an:Hid (wr.heap.size<=w3.heap.size):=aa P.out.size;have a6:=aa (jj.dx P.out);have bv:∀o:Obj,(w3.alloc o).cell? ⟨xb,2,none⟩=some (.slice (some ⟨g,0,none⟩) eds.length ce):=fun o=>(ax.out.below (ag w3 o)).c2;go_wp2_with(first|((fail_if_success(have:=aL));at_builtin;refine wpList_append_own _ rfl (.tmp 28) (.tmp 35) 64 rfl w3.heap.size 213 i1 (.agg #[.int .i64 0,.string .empty,.int .i64 0,.int .i64 0]) 4 40 Tryz.underlying64 HJ.out.1 HJ.out.2.1 HJ.out.2.2.1 HJ.out.2.2.2 rfl (by decide) (.slice (some ⟨w3.heap.size,0,none⟩) 0 0) 0 [] rfl (dH _ _ _ _ _ (Nat.le_refl _) (bZ _ _ _ rfl)) ⟨g,0,none⟩ k ce ((eds.take k).flatMap aC.cells) rfl (by rw[dX aC.cells 4 aC.bh,List.length_take];congr 1;omega) (fun j u hj=>xY ((ax.out.below (ag w3 _)).ed) hj) (oV _) (by unfold maxLen;omega) (by omega) (by simp) ?_;intro v4 w4 C af _;rw[Nat.zero_add,List.nil_append]at C;obtain⟨p4,c4,rfl⟩:=ar C;have aL:=aa C;have R:Hid (jj wr w4):=aa ((a6.out.alloc _).grow (aE af) (by have:=an.out;simp[ae,aJ];exact this));have n0:=R.out.cell e0;have n1:=R.out.cell e1;have n2:=R.out.cell e2;have n3:=R.out.cell e3;have n4:=R.out.cell g2;have aR:Hid (w3.heap.size<=w4.heap.size):=aa (by have:=af.size;simp at this;omega);clear C af)|((fail_if_success(have:=aM));at_builtin;refine wpList_append_own _ rfl (.tmp 37) (.tmp 39) 64 rfl w3.heap.size 213 i1 (.agg #[.int .i64 0,.string .empty,.int .i64 0,.int .i64 0]) 4 40 Tryz.underlying64 HJ.out.1 HJ.out.2.1 HJ.out.2.2.1 HJ.out.2.2.2 rfl (by decide) (.slice p4 k c4) k ((eds.take k).flatMap aC.cells) rfl (aT aL.out (ag w4 _)) ⟨w4.heap.size,0,none⟩ 1 1 (aC.cells ⟨ac,ab,ad,T⟩) rfl rfl (fun j u hj=>dY w4 _ _ j u hj) (aC.cells_one _) (by unfold maxLen;omega) (by omega) (by have:=aR.out;simp;omega) ?_;intro v5 w5 I ah _;obtain⟨p5,c5,rfl⟩:=ar I;have aM:=aa I;have ay:Hid (jj wr w5):=aa ((R.out.alloc _).grow (aE ah) (fun b hb=>Nat.le_trans an.out ((ak aL.out).lo b hb)));have s4:=ay.out.cell g2;have bk:=aa (ay.out.ed HE.out);have bb:Hid (w3.heap.size<=w5.heap.size):=aa (by have:=ah.size;have:=aR.out;simp at*;omega);clear I ah)|(at_builtin;refine wpList_append_own _ rfl (.tmp 42) (.tmp 49) 64 rfl w3.heap.size 213 i1 (.agg #[.int .i64 0,.string .empty,.int .i64 0,.int .i64 0]) 4 40 Tryz.underlying64 HJ.out.1 HJ.out.2.1 HJ.out.2.2.1 HJ.out.2.2.2 rfl (by decide) (.slice p5 (k+1) c5) (k+1) ((eds.take k).flatMap aC.cells++aC.cells ⟨ac,ab,ad,T⟩) rfl aM.out ⟨g,k*4,none⟩ (eds.length-k) (ce-k) ((eds.drop k).flatMap aC.cells) rfl (by rw[dX aC.cells 4 aC.bh,List.length_drop]) (fun j u hj=>Dj bk.out.ed hj) (oV _) (by unfold maxLen;omega) (by omega) bb.out ?_;intro v6 w6 J aq _;obtain⟨p6,c6,rfl⟩:=ar J;have a8:=aa J;have az:Hid (jj wr w6):=aa (ay.out.grow (aE aq) (fun b hb=>Nat.le_trans an.out ((ak aM.out).lo b hb)));have y2:=az.out.cell g2;have yz:=(az.out.ed HE.out).fz;clear J aq));go_end0;exact wC HK.out a5 bl.out aN.out an.out az.out y2 a8.out
   ·have bx:eds.length<=k:=by omega
    by_cases a1:ce=k;case' pos=>have bf:=a1.symm;clear a1;subst bf
    all_goals
     go_wp2;refine bg (by kernel_rfl) (by kernel_rfl) (fun V U=>?_);have a2:=bo V;have k2:=au (w:=V) (by rw[U];exact g2);have ao:=aa U;clear U;repeat(go_big_quiet_step(fail))
     refine wpQuiet_nil ?_;intro w3 al;rw[ao.out]at al;have P:=aa al;clear al a2 k2 ao;have ax:=aa (HE.out.below P.out);have g3:=ax.out.c2;have an:Hid (wr.heap.size<=w3.heap.size):=aa P.out.size;have a6:=aa (jj.dx P.out);have bv:∀o:Obj,(w3.alloc o).cell? ⟨xb,2,none⟩=some (.slice (some ⟨g,0,none⟩) eds.length _):=fun o=>(ax.out.below (ag w3 o)).c2;go_wp2_with(first|((fail_if_success(have:=aL));at_builtin;refine wpList_append_own _ rfl (.tmp 28) (.tmp 35) 64 rfl w3.heap.size 213 i1 (.agg #[.int .i64 0,.string .empty,.int .i64 0,.int .i64 0]) 4 40 Tryz.underlying64 HJ.out.1 HJ.out.2.1 HJ.out.2.2.1 HJ.out.2.2.2 rfl (by decide) (.slice (some ⟨w3.heap.size,0,none⟩) 0 0) 0 [] rfl (dH _ _ _ _ _ (Nat.le_refl _) (bZ _ _ _ rfl)) ⟨g,0,none⟩ k _ ((eds.take k).flatMap aC.cells) rfl (by rw[dX aC.cells 4 aC.bh,List.length_take];congr 1;omega) (fun j u hj=>xY ((ax.out.below (ag w3 _)).ed) hj) (oV _) (by unfold maxLen;omega) (by omega) (by simp) ?_;intro v4 w4 C af _;rw[Nat.zero_add,List.nil_append]at C;obtain⟨p4,c4,rfl⟩:=ar C;have aL:=aa C;have R:Hid (jj wr w4):=aa ((a6.out.alloc _).grow (aE af) (by have:=an.out;simp[ae,aJ];exact this));have n0:=R.out.cell e0;have n1:=R.out.cell e1;have n2:=R.out.cell e2;have n3:=R.out.cell e3;have n4:=R.out.cell g2;have aR:Hid (w3.heap.size<=w4.heap.size):=aa (by have:=af.size;simp at this;omega);clear C af)|((fail_if_success(have:=aM));at_builtin;refine wpList_append_own _ rfl (.tmp 37) (.tmp 39) 64 rfl w3.heap.size 213 i1 (.agg #[.int .i64 0,.string .empty,.int .i64 0,.int .i64 0]) 4 40 Tryz.underlying64 HJ.out.1 HJ.out.2.1 HJ.out.2.2.1 HJ.out.2.2.2 rfl (by decide) (.slice p4 k c4) k ((eds.take k).flatMap aC.cells) rfl (aT aL.out (ag w4 _)) ⟨w4.heap.size,0,none⟩ 1 1 (aC.cells ⟨ac,ab,ad,T⟩) rfl rfl (fun j u hj=>dY w4 _ _ j u hj) (aC.cells_one _) (by unfold maxLen;omega) (by omega) (by have:=aR.out;simp;omega) ?_;intro v5 w5 I ah _;obtain⟨p5,c5,rfl⟩:=ar I;have aM:=aa I;have ay:Hid (jj wr w5):=aa ((R.out.alloc _).grow (aE ah) (fun b hb=>Nat.le_trans an.out ((ak aL.out).lo b hb)));have s4:=ay.out.cell g2;have bk:=aa (ay.out.ed HE.out);have bb:Hid (w3.heap.size<=w5.heap.size):=aa (by have:=ah.size;have:=aR.out;simp at*;omega);clear I ah)|(at_builtin;refine wpList_append_own _ rfl (.tmp 42) (.tmp 49) 64 rfl w3.heap.size 213 i1 (.agg #[.int .i64 0,.string .empty,.int .i64 0,.int .i64 0]) 4 40 Tryz.underlying64 HJ.out.1 HJ.out.2.1 HJ.out.2.2.1 HJ.out.2.2.2 rfl (by decide) (.slice p5 (k+1) c5) (k+1) ((eds.take k).flatMap aC.cells++aC.cells ⟨ac,ab,ad,T⟩) rfl aM.out _ 0 _ [] rfl rfl (fun j u hj=>by simp at hj) (by simp) (by unfold maxLen;omega) (by omega) bb.out ?_;intro v6 w6 J aq _;obtain⟨p6,c6,rfl⟩:=ar J;have a8:=aa J;have az:Hid (jj wr w6):=aa (ay.out.grow (aE aq) (fun b hb=>Nat.le_trans an.out ((ak aM.out).lo b hb)));have y2:=az.out.cell g2;have yz:=(az.out.ed HE.out).fz;clear J aq));go_end0;obtain⟨a4,q1,q2⟩:=Bp HK.out a5 bx bl.out aN.out an.out az.out y2 a8.out;exact⟨q1,a4,q2⟩
def pU(w w':World)(e:Ending)(l:List Nd):Prop:=∃j,e=.returned j/\bV w' w.heap.size j l/\ZW w w'
def lh(v:Value)(w:World)(l:List Nd):Prop:=∃T a K,v=.iface T a/\(∀W:World,(Go.method 536 T a "loop.example/g00574/impl.row").run Tryz.prog W=.ok (K,a) W)/\(∀W:World,(callFunc K #[a]).run Tryz.prog W=.ok (.enter K #[a]) W)/\∀W,ZW w W->Calls Tryz.prog K #[a] W fun e w'=>pU W w' e l
def iD(n:Nat)(p:Pn n):Prop:=∀(v:Value)(w:World),cK w (lo w.heap.size) n p v->(aB n p).length<=1000->lh v w (aB n p)
theorem GL(v:Value)(w:World)(h:jW none v):lh v w (bP none):=by refine⟨_,_,344,h,fun W=>by kernel_rfl,fun W=>by kernel_rfl,fun W _=>?_⟩;go_in;go_wp2;go_ret;exact⟨_,rfl,fw _ ⟨0,de,de,0,0⟩ _ _ (by simp) (by simp),(ag _ _).trans ((ag _ _).mono (by simp))⟩
theorem GP(x:ByteArray)(v:Value)(w:World)(h:jW (some x) v):lh v w (bP (some x)):=by refine⟨_,_,341,h,fun W=>by kernel_rfl,fun W=>by kernel_rfl,fun W _=>?_⟩;go_in;go_wp2;go_ret;exact⟨_,rfl,fw _ ⟨1,x,de,0,0⟩ _ _ (by simp) (by simp),(ag _ _).trans ((ag _ _).mono (by simp))⟩
theorem wk{α:Type}{f:α->List Nd}{l:List (Br α)}{k:Nat}{b:Br α}(I:l[k]?=some b):aY f (l.take (k+1))=aY f (l.take k)++[⟨4,b.l,de,0,b.s⟩]++f b.p:=by obtain⟨j,C⟩:=List.getElem?_eq_some_iff.1 I;rw[List.take_succ_eq_append_getElem j,i6,C,cA];simp[aY]
theorem nU{α:Type}{f:α->List Nd}(l:List (Br α))(k:Nat):(aY f (l.take k)).length<=(aY f l).length:=by
 conv=>rhs;rw[<-List.take_append_drop k l,i6,List.length_append]
 omega
theorem sX(n:Nat)(l:List (Br (Pn n)))(bf:∀b∈l,iD n b.p)(op:Int)(a b:ByteArray)(m s:Int)(sl:Value)(w:World)(hs:qE w (lo w.heap.size) sl l)(aN:(aY (aB n) l).length<=999):Calls Tryz.prog 343 #[.agg #[.int .i64 op,.string a,.string b,.int .i64 m,.int .i64 s],sl] w fun e w'=>pU w w' e (⟨op,a,b,(l.length:Int),s⟩::aY (aB n) l):=by
 obtain⟨i0,hi,bm,bn,br⟩:=info_parts Tryz.o8;have HI:=aa (And.intro hi (And.intro bm (And.intro bn br)));have bz:=aa bf;have HS:=aa hs;have az:=aa aN;obtain⟨ao,cap,rfl,bL,bM,hr⟩:=hs;have HR:=aa hr;obtain⟨L,hL⟩:∃L,l.length=L:=⟨_,rfl⟩;rw[hL]at bL|-;have aR:=aa hL;unfold maxLen at bM;clear hi bm bn br bf hr aN hL;go_in;go_wp2;go_loopw[5,15](fun lv i wr=>∃k:Nat,k<=L/\i=.int .i64 k/\bV wr w.heap.size lv (⟨op,a,b,(L:Int),s⟩::aY (aB n) (l.take k))/\ZW w wr)(fun _ i _=>L-(intOf i).toNat);case atStart=>
  refine⟨0,Nat.zero_le _,rfl,?_,?_⟩;·exact fw _ ⟨op,a,b,(L:Int),s⟩ _ _ (by simp) (by simp)
  ·exact((ag w _).trans ((ag _ _).mono (by simp)))
 case round=>
  obtain⟨k,hk,rfl,aq,C⟩:=hrel;have ah:=aa aq;have ay:=aa C;have bN:=C.size;obtain⟨p,c,hp⟩:=ar aq;obtain⟨X,hX⟩:∃X,(⟨op,a,b,(L:Int),s⟩::aY (aB n) (l.take k):List Nd)=X:=⟨_,rfl⟩;have bB:Hid (X.length<=1000):=aa (by rw[<-hX,List.length_cons];have:=nU (f:=aB n) l k;have:=az.out;omega);rw[hX]at hp ah;obtain⟨I,ab⟩:∃c,X.length=c:=⟨_,rfl⟩;rw[ab]at hp;have a7:=aa ab;have b1:I<=1000:=by rw[<-ab];exact bB.out
  subst hp;have HX:=aa hX;clear aq hX ab;by_cases bi:k<L;·
   obtain⟨g,o,rfl,hg,U⟩:=HR.out (by rintro rfl;have:=aR.out;simp at this;omega);obtain⟨b0,al⟩:∃b0,l[k]?=some b0:=⟨l[k]'(by rw[aR.out];exact bi),List.getElem?_eq_getElem _⟩;obtain⟨k1,k2,u,k3,k4⟩:=U k b0 al;have a4:(aB n b0.p).length<=1000:=by have:=(kJ (f:=aB n) al).1;have:=az.out;omega
   obtain⟨T,av,K,rfl,hm,bR,an⟩:=bz.out b0 (List.mem_of_getElem? al) u w k4 a4;have af:=aa an;have bv:=aa al;have b2:g<w.heap.size:=hg;have e1:=(C.cell (p:=⟨g,o+k*3,none⟩) hg).trans k1;have e2:=(C.cell (p:=⟨g,o+k*3+1,none⟩) hg).trans k2;have e3:=(C.cell (p:=⟨g,o+k*3+2,none⟩) hg).trans k3;have a5:=db n b0.p;obtain⟨N,hN⟩:∃N,aB n b0.p=N:=⟨_,rfl⟩;rw[hN]at a4 a5 af;have HN:=aa hN;obtain⟨bl,bs,bp⟩:=b0;dsimp only at e1 e2;have J:Hid (wr.ownsRow w.heap.size 156 5 (.slice p I c) I (X.flatMap Nd.cells)):=aa (by have:=ah.out;unfold bV at this;rw[a7.out]at this;exact this);obtain⟨RL,a2⟩:∃RL,N.length=RL:=⟨_,rfl⟩;rw[a2]at a4 a5;have ac:=aa a2;clear U an k4 al hN C a2;go_wp2_with(first|((fail_if_success(have:=a0));at_builtin;refine wpList_append_own _ rfl (.tmp 19) (.tmp 25) 28 rfl w.heap.size 156 i0 (.agg #[.int .i64 0,.string .empty,.string .empty,.int .i64 0,.int .i64 0]) 5 56 Tryz.underlying28 HI.out.1 HI.out.2.1 HI.out.2.2.1 HI.out.2.2.2 rfl (by decide) (.slice p I c) I (X.flatMap Nd.cells) rfl (aT J.out ((ag wr _).trans ((ag _ _).mono (by simp)))) ⟨wr.heap.size+1,0,none⟩ 1 1 (Nd.cells ⟨4,bl,de,0,bs⟩) rfl rfl (fun j u hj=>fO _ _ _ _ (by simp) j u hj) (Nd.cells_one _) (by unfold maxLen;omega) (by omega) (by simp;omega) ?_;intro v4 w4 P aL _;have a0:=aa P;have a6:Hid (aH (wr.alloc (.cells #[.string bl,.int .i64 bs,.iface T av] 341)) w4 (ae (.slice p I c))):=aa (by have:=(aj (ag _ _)).trans (aE aL);rwa[List.nil_append]at this);have x2:w4.cell? ⟨wr.heap.size,2,none⟩=some (.iface T av):=a6.out.ek (by simp) (fun hm=>absurd ((ak J.out).hi _ hm) (by omega));have ad:Hid (ZW w w4):=aa ((ay.out.trans ((ag wr _).mono bN)).trans (a6.out.below (by simp;omega) (ak J.out).lo));obtain⟨p4,c4,rfl⟩:=ar P;clear P aL)|((fail_if_success(have:=a8));refine(af.out w4 ad.out).mono ?_;rintro e w5⟨v5,rfl,a3,bb⟩;have a8:=aa a3;have ax:=aa bb;obtain⟨g5,c5,bk,-,-⟩:=a3.at_ (by rw[ac.out];exact a5);rw[ac.out]at bk;subst bk;clear a3 bb)|((fail_if_success(have:=a9));at_builtin;refine wpList_append_own _ rfl (.tmp 27) (.tmp 30) 28 rfl w.heap.size 156 i0 (.agg #[.int .i64 0,.string .empty,.string .empty,.int .i64 0,.int .i64 0]) 5 56 Tryz.underlying28 HI.out.1 HI.out.2.1 HI.out.2.2.1 HI.out.2.2.2 rfl (by decide) (.slice p4 (I+1) c4) (I+1) (X.flatMap Nd.cells++Nd.cells ⟨4,bl,de,0,bs⟩) rfl (aT a0.out ax.out) ⟨g5,0,none⟩ RL c5 (N.flatMap Nd.cells) rfl (by rw[dX Nd.cells 5 Nd.bh,ac.out]) (fun j u hj=>by have:=a8.out;unfold bV at this;rw[ac.out]at this;exact bV.cell (l:=N) (c:=c5) (base:=w4.heap.size) (by unfold bV;rw[ac.out];exact this) j u hj) (iC N) (by unfold maxLen;omega) (by omega) (by have:=ax.out.size;have:=ad.out.size;omega) ?_;intro v6 w6 R aM _;have a9:=aa R;have bx:Hid (ZW w w6):=aa ((ad.out.trans (ax.out.mono ad.out.size)).trans ((aE aM).below (by have:=ax.out.size;have:=ad.out.size;omega) (ak a0.out).lo));obtain⟨p6,c6,rfl⟩:=ar R;clear R aM));go_roundw;case rel=>refine⟨k+1,bi,by go_num,?_,bx.out⟩;have e:=wk (f:=aB n) bv.out;rw[HN.out]at e;rw[e,<-List.cons_append,<-List.cons_append,HX.out];refine bV.snoc ?_;rw[List.length_append,List.length_singleton,a7.out,ac.out,List.flatMap_append];simpa using a9.out
   case measure=>simp[intOf];omega
  ·obtain rfl:k=L:=by omega
   have HE:Hid (X=⟨op,a,b,(k:Int),s⟩::aY (aB n) l):=aa (by rw[<-HX.out,List.take_of_length_le (by rw[aR.out];exact Nat.le_refl _)]);have a1:Hid (bV wr w.heap.size (.slice p I c) X):=aa (by have:=ah.out;exact this);go_wp2;go_ret;rw[<-HE.out];exact⟨_,rfl,a1.out,ay.out⟩
theorem GM(n:Nat)(l:List (Br (Pn n)))(J:∀b∈l,iD n b.p)(a b:ByteArray)(sl:Value)(w:World)(R:qE w (lo w.heap.size) sl l)(C:(aY (aB n) l).length<=999):lh (uC ⟨3,a,b⟩ sl) w (aB (n+1) (.cU ⟨3,a,b⟩ l)):=by refine⟨_,_,342,rfl,fun W=>by kernel_rfl,fun W=>by kernel_rfl,fun W hW=>?_⟩;rw[bI];have U:Hid (∀(o:Obj),Calls Tryz.prog 343 #[.agg #[.int .i64 3,.string a,.string b,.int .i64 0,.int .i64 0],sl] (W.alloc o) fun e w'=>pU (W.alloc o) w' e (⟨3,a,b,(l.length:Int),0⟩::aY (aB n) l)):=aa (fun o=>sX n l J 3 a b 0 0 sl _ ((R.on hW).on (ag W o)) C);obtain⟨ao,cap,rfl,-⟩:=R;go_in;go_wp2_with(go_at_call 343;refine(U.out _).mono ?_;rintro e w2⟨v2,rfl,P,j⟩;have T:=aa P;have I:=aa j;clear P j);go_ret;exact⟨v2,rfl,bH T.out (by simp),(ag W _).trans (I.out.mono (by simp))⟩
theorem GO(n:Nat)(l:List (Br (Pn n)))(J:∀b∈l,iD n b.p)(b:ByteArray)(sl:Value)(w:World)(R:qE w (lo w.heap.size) sl l)(C:(aY (aB n) l).length<=999):lh (uC ⟨5,de,b⟩ sl) w (aB (n+1) (.cU ⟨5,de,b⟩ l)):=by refine⟨_,_,345,rfl,fun W=>by kernel_rfl,fun W=>by kernel_rfl,fun W hW=>?_⟩;rw[bI];have U:Hid (∀(o:Obj),Calls Tryz.prog 343 #[.agg #[.int .i64 5,.string de,.string b,.int .i64 0,.int .i64 0],sl] (W.alloc o) fun e w'=>pU (W.alloc o) w' e (⟨5,de,b,(l.length:Int),0⟩::aY (aB n) l)):=aa (fun o=>sX n l J 5 de b 0 0 sl _ ((R.on hW).on (ag W o)) C);obtain⟨ao,cap,rfl,-⟩:=R;go_in;go_wp2_with(go_at_call 343;refine(U.out _).mono ?_;rintro e w2⟨v2,rfl,P,j⟩;have T:=aa P;have I:=aa j;clear P j);go_ret;exact⟨v2,rfl,bH T.out (by simp),(ag W _).trans (I.out.mono (by simp))⟩
theorem GN(n:Nat)(l:List (Br (Pn n)))(J:∀b∈l,iD n b.p)(b:ByteArray)(sl:Value)(w:World)(R:qE w (lo w.heap.size) sl l)(C:(aY (aB n) l).length<=999):lh (uC ⟨6,de,b⟩ sl) w (aB (n+1) (.cU ⟨6,de,b⟩ l)):=by refine⟨_,_,346,rfl,fun W=>by kernel_rfl,fun W=>by kernel_rfl,fun W hW=>?_⟩;rw[bI];have U:Hid (∀(o:Obj),Calls Tryz.prog 343 #[.agg #[.int .i64 6,.string de,.string b,.int .i64 0,.int .i64 0],sl] (W.alloc o) fun e w'=>pU (W.alloc o) w' e (⟨6,de,b,(l.length:Int),0⟩::aY (aB n) l)):=aa (fun o=>sX n l J 6 de b 0 0 sl _ ((R.on hW).on (ag W o)) C);obtain⟨ao,cap,rfl,-⟩:=R;go_in;go_wp2_with(go_at_call 343;refine(U.out _).mono ?_;rintro e w2⟨v2,rfl,P,j⟩;have T:=aa P;have I:=aa j;clear P j);go_ret;exact⟨v2,rfl,bH T.out (by simp),(ag W _).trans (I.out.mono (by simp))⟩
theorem AK(n:Nat)(q:Pn n)(ax:iD n q)(x:ByteArray)(u:Value)(w:World)(hs:cK w (lo w.heap.size) n q u)(ac:(aB n q).length<=999):lh (.iface 297 (.agg #[.string x,u])) w (aB (n+1) (.loop x q)):=by
 refine⟨_,_,302,rfl,fun W=>by kernel_rfl,fun W=>by kernel_rfl,fun W hW=>?_⟩;rw[cO];obtain⟨i0,hi,az,aL,aM⟩:=info_parts Tryz.o8;have HI:=aa (And.intro hi (And.intro az (And.intro aL aM)));obtain⟨T,av,K,rfl,hm,aR,R⟩:=ax u w hs (by omega);have an:=db n q;obtain⟨N,hN⟩:∃N,aB n q=N:=⟨_,rfl⟩;rw[hN]at an ac R|-;obtain⟨RL,ah⟩:∃RL,N.length=RL:=⟨_,rfl⟩;rw[ah]at an ac;have J:=aa ah;have ad:Hid (∀V,ZW W V->Calls Tryz.prog K #[av] V fun e w'=>pU V w' e N):=aa (fun V hV=>R V (hW.trans (hV.mono hW.size)));clear hi az aL aM hN ah R ax hs hW;go_in;go_wp2;go_region_law(first|(go_simp;(fail_if_success(have:=af));refine Calls.mono (ad.out _ (by first|exact(ag W _).drew|exact(ag W _).drew.trans ((ag _ _).mono (by simp)))) ?_;rintro e w5⟨v5,rfl,al,ab⟩;have af:=aa al;have aN:=aa ab;have I:Hid (ZW W w5):=aa (by first|exact(ag W _).drew.trans (ab.mono (by simp))|exact((ag W _).drew.trans ((ag _ _).mono (by simp))).trans (ab.mono (by simp;omega)));have y0:w5.cell? ⟨W.heap.size,0,none⟩=some (.string x):=(by rw[ab.cell (p:=⟨W.heap.size,0,none⟩) (by first|(simp;done)|(simp;omega))];simp);obtain⟨g5,c5,ay,-,-⟩:=al.at_ (by rw[J.out];exact an);rw[J.out]at ay;subst ay;clear al ab)|(refine gh rfl (.tmp 6) (.tmp 9) 28 rfl W.heap.size 156 i0 (.agg #[.int .i64 0,.string .empty,.string .empty,.int .i64 0,.int .i64 0]) 5 56 Tryz.underlying28 HI.out.1 HI.out.2.1 HI.out.2.2.1 HI.out.2.2.2 rfl (by decide) (.slice (some ⟨W.heap.size+1,0,none⟩) 1 1) 1 (Nd.cells ⟨2,x,de,0,0⟩) (by simp[Act.eval]) (by have:=aT (fw (W.alloc (.cells #[.string x,.iface T av] 297)).drew ⟨2,x,de,0,0⟩ W.heap.size (W.heap.size+1) (by simp) (by simp)) aN.out;exact this) ⟨g5,0,none⟩ RL c5 (N.flatMap Nd.cells) (by simp[Act.eval]) (by rw[dX Nd.cells 5 Nd.bh,J.out]) (fun j u hj=>by have:=af.out;unfold bV at this;rw[J.out]at this;exact bV.cell (l:=N) (c:=c5) (by unfold bV;rw[J.out];exact this) j u hj) (iC N) (by unfold maxLen;omega) (by omega) (by have:=I.out.size;simp;omega) ?_;intro v6 w6 C P U;have aq:=aa C;have ao:Hid (ZW W w6):=aa (I.out.trans ((aE P).below I.out.size (by simp[ae,aJ])));obtain⟨p6,c6,rfl⟩:=ar C;clear C P U)|(refine gh rfl (.tmp 6) (.tmp 9) 28 rfl W.heap.size 156 i0 (.agg #[.int .i64 0,.string .empty,.string .empty,.int .i64 0,.int .i64 0]) 5 56 Tryz.underlying28 HI.out.1 HI.out.2.1 HI.out.2.2.1 HI.out.2.2.2 rfl (by decide) (.slice (some ⟨w5.heap.size,0,none⟩) 1 1) 1 (Nd.cells ⟨2,x,de,0,0⟩) (by simp[Act.eval]) (by have:=fw w5 ⟨2,x,de,0,0⟩ W.heap.size w5.heap.size rfl I.out.size;exact this) ⟨g5,0,none⟩ RL c5 (N.flatMap Nd.cells) (by simp[Act.eval]) (by rw[dX Nd.cells 5 Nd.bh,J.out]) (fun j u hj=>by have:=af.out.below (ag w5 (.cells #[.int .i64 2,.string x,.string de,.int .i64 0,.int .i64 0] 156));unfold bV at this;rw[J.out]at this;exact bV.cell (l:=N) (c:=c5) (by unfold bV;rw[J.out];exact this) j u hj) (iC N) (by unfold maxLen;omega) (by omega) (by have:=I.out.size;simp;omega) ?_;intro v6 w6 C P U;have aq:=aa C;have ao:Hid (ZW W w6):=aa ((I.out.trans ((ag w5 _).mono I.out.size)).trans ((aE P).below (by have:=I.out.size;simp;omega) (by have:=I.out.size;simp[ae,aJ];omega)));obtain⟨p6,c6,rfl⟩:=ar C;clear C P U)|fail);all_goals
  go_wp2;go_ret;refine⟨_,rfl,?_,ao.out⟩;have:=aq.out;unfold bV;have e:(⟨2,x,de,0,0⟩::N:List Nd).length=1+RL:=by rw[List.length_cons,J.out,Nat.add_comm]
  rw[e,List.flatMap_cons];exact this
end
def tm(t:Tk):Prop:=t.op=3\/((t.op=5\/t.op=6)/\t.a=de)
def bJ:(n:Nat)->Pn n->Prop|0,_=>True|n+1,p=>p.by (fun _=>True) (fun _ q=>bJ n q) (fun t l=>tm t/\l≠[]/\∀b∈l,bJ n b.p)
theorem kU:∀(n:Nat)(p:Pn n),bX n p->bJ n p:=by intro n;induction n with|zero=>intro p _;trivial|succ n ih=>intro p;refine Pn.cases (P:=fun p=>bX (n+1) p->bJ (n+1) p) (fun x _=>trivial) (fun x q C=>ih q C) (fun t l C=>?_) p;have j:t.op=3/\(t.a.toList==t.b.toList)=false/\1<=l.length/\l.length<=4/\∀b∈l,bX n b.p:=C;exact⟨.inl j.1,(fun h=>by have:=j.2.2.1;rw[h]at this;simp at this),fun b I=>ih b.p (j.2.2.2.2 b I)⟩
theorem Fj:∀(n:Nat)(p:Pn n),bJ n p->bJ (n+1) (nP n p):=by intro n;induction n with|zero=>intro p _;trivial|succ n ih=>intro p;refine Pn.cases (P:=fun p=>bJ (n+1) p->bJ (n+2) (nP (n+1) p)) (fun x _=>trivial) (fun x q C=>ih q C) (fun t l C=>?_) p;have j:tm t/\l≠[]/\∀b∈l,bJ n b.p:=C;refine⟨j.1,(fun h=>j.2.1 (List.map_eq_nil_iff.1 h)),fun b I=>?_⟩;obtain⟨c,J,rfl⟩:=List.mem_map.1 I;exact ih c.p (j.2.2 c J)
theorem kn{α:Type}:∀{l:List α}{i:Nat}{x y:α},y∈l.set i x->y∈l\/y=x
 |[],i,x,y,h=>by simp at h|a::l,0,x,y,h=>by
  rw[List.set_cons_zero,List.mem_cons]at h;rcases h with h|h;·exact .inr h
  ·exact .inl (by simp[h])|a::l,i+1,x,y,h=>by
  rw[List.set_cons_succ,List.mem_cons]at h;rcases h with h|h;·exact .inl (by simp[h])
  ·rcases kn h with q|q;·exact .inl (by simp[q])
   ·exact .inr q
theorem fM{α:Type}{Q:α->Prop}{mg:α->α->Option α}(I:∀x y z,Q x->Q y->mg x y=some z->Q z):∀(ds C l:List (Br α)),(∀b∈C,Q b.p)->(∀b∈ds,Q b.p)->bQ mg C ds=some l->∀b∈l,Q b.p
 |[],C,l,J,_,h=>by rw[bQ]at h;injection h with h;subst h;exact J|d::ds,C,l,J,hd,h=>by
  rw[bQ]at h;split at h;·exact fM I ds _ l (fun b j=>by rw[List.mem_append]at j;rcases j with j|j;exact J b j;simp at j;subst j;exact hd b (by simp)) (fun b j=>hd b (by simp[j])) h
  ·rename_i i hi;split at h;·cases h
   ·rename_i b j;split at h;·cases h
    ·rename_i q R;split at h;·
      refine fM I ds _ l (fun c P=>?_) (fun b j=>hd b (by simp[j])) h;rcases kn P with P|P;·exact J c P
      ·subst P;exact I b.p d.p q (J b (List.mem_of_getElem? j)) (hd d (by simp)) R
     ·cases h
theorem nB{α:Type}{mg:α->α->Option α}:∀(ds j l:List (Br α)),j≠[]->bQ mg j ds=some l->l≠[]
 |[],j,l,C,h=>by rw[bQ]at h;injection h with h;subst h;exact C|d::ds,j,l,C,h=>by
  rw[bQ]at h;split at h;·exact nB ds _ l (by simp) h
  ·split at h;·cases h
   ·split at h;·cases h
    ·split at h;·exact nB ds _ l (fun e=>C (by have:=congrArg List.length e;rw[List.length_set]at this;exact List.length_eq_zero_iff.1 this)) h
     ·cases h
theorem iI:∀(n:Nat)(x y z:Pn n),bJ n x->bJ n y->aW n x y=some z->bJ n z:=by
 intro n;induction n with
  |zero=>intro x y z _ _ _;trivial|succ n ih=>
   intro x y z I P h;rw[aW]at h;split at h;·injection h with h;subst h;exact I
   ·split at h;·
     rename_i a cs b ds ex J;split at h;·
      split at h;·
       rename_i l hl;split at h;·injection h with h;subst h;obtain⟨R,rfl⟩:=eT ex;obtain⟨T,rfl⟩:=eT J;have j:tm ⟨6,R,a⟩/\cs≠[]/\∀b∈cs,bJ n b.p:=I;have C:tm ⟨6,T,b⟩/\ds≠[]/\∀b∈ds,bJ n b.p:=P;exact⟨.inr ⟨.inr rfl,rfl⟩,nB ds cs l j.2.1 hl,fM (Q:=bJ n) ih ds cs l j.2.2 C.2.2 hl⟩
       ·cases h
      ·cases h
     ·cases h
    ·cases h
theorem i7{α:Type}{Q:α->Prop}{mg:α->α->Option α}(j:∀x y z,Q x->Q y->mg x y=some z->Q z):∀(r:List (Br α))(x z:α),Q x->(∀b∈r,Q b.p)->bE mg x r=some z->Q z
 |[],x,z,l,_,h=>by rw[bE]at h;injection h with h;subst h;exact l|b::r,x,z,l,C,h=>by
  rw[bE]at h;split at h;·cases h
  ·rename_i q J;exact i7 j r q z (j x b.p q l (C b (by simp)) J) (fun c I=>C c (by simp[I])) h
theorem pC{α:Type}{Q R:α->Prop}{g:α->Option α}(J:∀x y,Q x->g x=some y->R y):∀(l r:List (Br α)),(∀b∈l,Q b.p)->bu g l=some r->∀b∈r,R b.p
 |[],r,_,h=>by rw[bu]at h;injection h with h;subst h;intro b j;cases j|c::l,r,P,h=>by
  rw[bu]at h;split at h;·cases h
  ·rename_i q C;split at h;·cases h
   ·rename_i r' I;injection h with h;subst h;intro b j;rw[List.mem_cons]at j;rcases j with rfl|j;·exact J c.p q (P c (by simp)) C
    ·exact pC J l r' (fun c T=>P c (by simp[T])) I b j
theorem jx(role:ByteArray):∀(n:Nat)(p q:Pn n),bX n p->bd role n p=some q->bJ n q:=by
 intro n;induction n with
  |zero=>intro p q _ _;trivial|succ n ih=>
   intro p;refine Pn.cases (P:=fun p=>∀q,bX (n+1) p->bd role (n+1) p=some q->bJ (n+1) q) (fun x q _ h=>?_) (fun x p q U h=>?_) (fun t l q U h=>?_) p;·have j:some (Pn.leaf x)=some q:=h;injection j with j;subst j;trivial
   ·have j:(if kj role (aB (n+1) (.loop x p))then some (Pn.leaf none)else(bd role n p).map (Pn.loop x))=some q:=h;have I:bX n p:=U;split at j;·injection j with j;subst j;trivial
    ·cases hq:bd role n p with|none=>rw[hq]at j;cases j|some q'=>rw[hq]at j;simp only[Option.map_some,Option.some.injEq]at j;subst j;exact ih p q' I hq
   ·have j:(match bu (bd role n) l with|none=>none|some r=>if role.toList==t.a.toList then some (Pn.cU ⟨5,de,t.b⟩ r)else if role.toList==t.b.toList then some (.cU ⟨6,de,t.a⟩ r)else match r with|[]=>none|c::r=>(bE (aW n) c.p r).map (nP n))=some q:=h;have I:t.op=3/\(t.a.toList==t.b.toList)=false/\1<=l.length/\l.length<=4/\∀b∈l,bX n b.p:=U;split at j;·cases j
    ·rename_i r hr;have C:=pC (Q:=bX n) (R:=bJ n) (fun x y hx hy=>ih x y hx hy) l r I.2.2.2.2 hr;have J:r≠[]:=fun e=>by have:=(lN (f:=aB n) (Q:=bX n) (fun x y hx hy=>hG role n x y hx hy) l r I.2.2.2.2 hr).2;rw[e]at this;have:=I.2.2.1;simp at*;omega
     split at j;·injection j with j;subst j;exact⟨.inr ⟨.inl rfl,rfl⟩,J,C⟩
     ·split at j;·injection j with j;subst j;exact⟨.inr ⟨.inr rfl,rfl⟩,J,C⟩
      ·split at j;·cases j
       ·rename_i c r;cases T:bE (aW n) c.p r with|none=>rw[T]at j;cases j|some z=>rw[T]at j;simp only[Option.map_some,Option.some.injEq]at j;subst j;exact Fj n z (i7 (Q:=bJ n) (iI n) r c.p z (C c (by simp)) (fun b hb=>C b (by simp[hb])) T)
theorem qp(x:Option ByteArray)(v:Value)(w:World)(h:jW x v):lh v w (bP x):=by cases x with|none=>exact GL v w h|some x=>exact GP x v w h
theorem ux:∀(n:Nat)(p:Pn n),bJ n p->iD n p:=by
 intro n;induction n with
  |zero=>intro p _ v w h _;exact qp p v w h|succ n ih=>
   intro p;refine Pn.cases (P:=fun p=>bJ (n+1) p->iD (n+1) p) (fun x _ v w h _=>qp x v w h) (fun x q hq v w h hl=>?_) (fun t l hp v w h hl=>?_) p;·obtain⟨u,rfl,h⟩:=h;rw[cO]at hl;exact AK n q (ih q hq) x u w h (by simp only[List.length_cons]at hl;omega)
   ·obtain⟨sl,rfl,h⟩:=h;have I:tm t/\l≠[]/\∀b∈l,bJ n b.p:=hp;have j:∀b∈l,iD n b.p:=fun b hb=>ih b.p (I.2.2 b hb);rw[bI]at hl;have C:(aY (aB n) l).length<=999:=by simp only[List.length_cons]at hl;omega
    obtain⟨op,a,b⟩:=t;rcases I.1 with R|⟨T|U,J⟩;·dsimp only at R;subst R;exact GM n l j a b sl w h C
    ·dsimp only at T J;subst T;subst J;exact GO n l j b sl w h C
    ·dsimp only at U J;subst U;subst J;exact GN n l j b sl w h C
section
attribute [local go_sem ↓] Go.wp_at_zero Go.wp_at_succ
theorem kq(w:World)(cs:List Value)(t:TypeId)(b:Nat)(l:b=w.heap.size)(j:Nat)(u:Value)(h:cs[j]?=some u):(w.alloc (.cells cs.toArray t)).cell? (Addr.add ⟨b,0,none⟩ j)=some u:=by subst l;exact dY w cs t j u h
theorem u9(e:aC)(w:World)(xb base:Nat)(h:uH w xb base (.slice none 0 0) []):Calls Tryz.prog 263 #[.pointer (some ⟨xb,0,none⟩),e.val] w fun r w'=>∃av,r=.returned (.tuple #[])/\bD w' w.heap.size av (gW e [])/\w'.cell? ⟨xb,2,none⟩=some av/\Io w w' xb:=by
 have H:=aa h;obtain⟨i1,ax,ay,az,aL⟩:=info_parts Tryz.o9;have HJ:=aa (And.intro ax (And.intro ay (And.intro az aL)));have c2:=h.c2;have a1:xb<w.heap.size:=Nat.lt_of_lt_of_le h.lo h.sz;have ao:=aa a1;obtain⟨J,I,P,l⟩:=e;clear h ax ay az aL;unfold aC.val;go_in;go_wp2;go_loopw[4](fun i wr=>i=.int .i64 0/\wr.cell? ⟨w.heap.size,0,none⟩=some (.int .i64 J)/\wr.cell? ⟨w.heap.size,1,none⟩=some (.string I)/\wr.cell? ⟨w.heap.size,2,none⟩=some (.int .i64 P)/\wr.cell? ⟨w.heap.size,3,none⟩=some (.int .i64 l)/\w.heap.size<wr.heap.size/\ZW w wr)(fun _ _=>0);case atStart=>exact⟨rfl,by simp,by simp,by simp,by simp,by simp,ag w _⟩
 case round=>
  obtain⟨rfl,e0,e1,e2,e3,a4,T⟩:=hrel;have U:=aa T;have HE:=aa (H.out.below T);have g2:=HE.out.c2;clear T;go_wp2;refine bg (by kernel_rfl) (by kernel_rfl) (fun V hV=>?_);have aR:=bo V;have k2:=au (w:=V) (by rw[hV];exact g2);have an:=aa hV;clear hV;repeat(go_big_quiet_step(fail))
  refine wpQuiet_nil ?_;intro w3 ah;rw[an.out]at ah;have ac:=aa ah;clear ah aR k2 an;have aN:=aa (HE.out.below ac.out);have aq:Hid (wr.heap.size<=w3.heap.size):=aa ac.out.size;have R:=aa (jj.dx ac.out);have a3:∀o:Obj,(w3.alloc o).cell? ⟨xb,2,none⟩=some (.slice none 0 0):=fun o=>(aN.out.below (ag w3 o)).c2;have n0:=fun o:Obj=>(R.out.alloc o).cell e0;have n1:=fun o:Obj=>(R.out.alloc o).cell e1;have n2:=fun o:Obj=>(R.out.alloc o).cell e2;have n3:=fun o:Obj=>(R.out.alloc o).cell e3;have al:Hid ((w3.alloc (.cells #[] 213)).ownsRow w3.heap.size 213 4 (.slice (some ⟨w3.heap.size,0,none⟩) 0 0) 0 []):=aa (dH _ _ _ _ _ (Nat.le_refl _) (bZ _ _ _ rfl));go_wp2_with(first|((fail_if_success(have:=aM));at_builtin;refine wpList_append_own_none rfl (.tmp 28) (.tmp 35) 64 rfl w3.heap.size 213 i1 4 Tryz.underlying64 HJ.out.1 (.slice (some ⟨w3.heap.size,0,none⟩) 0 0) 0 [] rfl al.out rfl ?_;have aM:Hid True:=aa trivial)|((fail_if_success(have:=af));at_builtin;refine wpList_append_own _ rfl (.tmp 37) (.tmp 39) 64 rfl w3.heap.size 213 i1 (.agg #[.int .i64 0,.string .empty,.int .i64 0,.int .i64 0]) 4 40 Tryz.underlying64 HJ.out.1 HJ.out.2.1 HJ.out.2.2.1 HJ.out.2.2.2 rfl (by decide) (.slice (some ⟨w3.heap.size,0,none⟩) 0 0) 0 [] rfl (aT al.out (ag _ _)) ⟨w3.heap.size+1,0,none⟩ 1 1 (aC.cells ⟨J,I,P,l⟩) rfl rfl (fun j u hj=>kq (w3.alloc (.cells #[] 213)) _ _ (w3.heap.size+1) (by simp) j u hj) (aC.cells_one _) (by unfold maxLen;omega) (by omega) (by simp;omega) ?_;intro v5 w5 C ab _;obtain⟨p5,c5,rfl⟩:=ar C;have af:=aa C;have ad:Hid (jj wr w5):=aa (((R.out.alloc _).alloc _).grow (aE ab) (by have:=aq.out;simp[ae,aJ];exact this));have s4:=ad.out.cell g2;have yz:=(ad.out.ed HE.out).fz;clear C ab)|(at_builtin;refine wpList_append_own_none rfl (.tmp 42) (.tmp 49) 64 rfl w3.heap.size 213 i1 4 Tryz.underlying64 HJ.out.1 (.slice p5 (0+1) c5) (0+1) ([]++aC.cells ⟨J,I,P,l⟩) rfl af.out rfl ?_));go_end0;have hS:=aG w5 xb 2 (.slice p5 1 c5);have a2:=ao.out;have a5:=U.out.size;have a6:=aq.out;refine⟨.slice p5 1 c5,rfl,?_,World.cell?_setCell_same _ _ _ s4,zT _ ao.out U.out ad.out⟩;have ho:=af.out;have hi:gW ⟨J,I,P,l⟩ []=[⟨J,I,P,l⟩]:=rfl;rw[hi];have a0:w5.ownsRow w3.heap.size 213 4 (.slice p5 1 c5) 1 (aC.cells ⟨J,I,P,l⟩):=by simpa using ho
  have h1:bD w5 w3.heap.size (.slice p5 1 c5) [⟨J,I,P,l⟩]:=by unfold bD;simpa using a0
  exact bH (base:=w3.heap.size) (h1.aA hS (fun b hb hm=>by have:=h1.fresh.lo b hb;simp at hm;omega)) (by omega)
theorem Gg(e:aC)(w:World)(xb base:Nat)(ev:Value)(eds:List aC)(J:eds.length<=1000)(h:uH w xb base ev eds):Calls Tryz.prog 263 #[.pointer (some ⟨xb,0,none⟩),e.val] w fun r w'=>∃j,r=.returned (.tuple #[])/\bD w' w.heap.size j (gW e eds)/\w'.cell? ⟨xb,2,none⟩=some j/\Io w w' xb:=by
 have P:=h.ed;rcases P.2 with⟨rfl,C⟩|⟨g,cap,l,rfl,_,_,I,_⟩;·have:eds=[]:=List.length_eq_zero_iff.1 C;subst this;exact u9 e w xb base h
 ·exact va e w xb base g cap eds J I h
def jT(ns:List ByteArray):List Value:=ns.map Value.string
def jR(fis:List Int):List Value:=fis.map (Value.int .i64)
structure Kg(sv ev nv fv:Value):Prop where
 se:∀b∈ae sv,b∉ae ev
 sn:∀b∈ae sv,b∉ae nv
 sf:∀b∈ae sv,b∉ae fv
 en:∀b∈ae ev,b∉ae nv
 ef:∀b∈ae ev,b∉ae fv
 nf:∀b∈ae nv,b∉ae fv
structure dA(w:World)(xb B base:Nat)(v sv ev:Value)(z:Int)(nv fv:Value)(all:List Nd)(sts:List aP)(eds:List aC)(ns:List ByteArray)(fis:List Int):Prop where
 box:aV w xb [v,sv,ev,.int .i64 z,nv,fv]
 sl:bF w B v all
 st:cF w base sv sts
 ed:bD w base ev eds
 nm:w.ownsRow base 9 1 nv ns.length (jT ns)
 fi:w.ownsRow base 2 1 fv fis.length (jR fis)
 four:Kg sv ev nv fv
 low:B<=xb/\xb<base
 sz:base<=w.heap.size
theorem dA.tJ{w w':World}{xb B base:Nat}{v sv ev nv fv:Value}{z:Int}{all:List Nd}{sts:List aP}{eds:List aC}{ns:List ByteArray}{fis:List Int}(h:dA w xb B base v sv ev z nv fv all sts eds ns fis)(j:jj w w'):dA w' xb B base v sv ev z nv fv all sts eds ns fis:=by have l:=h.low;have C:=h.sz;refine⟨h.box.aA j.ap (by simp),h.sl.carry ⟨j.ap.os,j.ap.tape,j.ap.output,j.ap.size,fun k I=>j.ap.block k (by omega) (by simp)⟩,h.st.aA j.ap (fun _ _=>by simp),h.ed.aA j.ap (fun _ _=>by simp),aK h.nm j.ap (fun _ _=>by simp),aK h.fi j.ap (fun _ _=>by simp),h.four,l,Nat.le_trans C j.ap.size⟩
theorem dA.Kn{w:World}{xb B base:Nat}{v sv ev nv fv:Value}{z:Int}{all:List Nd}{sts:List aP}{eds:List aC}{ns:List ByteArray}{fis:List Int}(h:dA w xb B base v sv ev z nv fv all sts eds ns fis):uH w xb base ev eds:=⟨h.box.cell 2 _ rfl,h.box.fz 2,h.ed,h.low.2,h.sz⟩
theorem dA.Dt{w:World}{xb B base:Nat}{v sv ev nv fv:Value}{z:Int}{all:List Nd}{sts:List aP}{eds:List aC}{ns:List ByteArray}{fis:List Int}(h:dA w xb B base v sv ev z nv fv all sts eds ns fis):pS w xb w.heap.size all ns fis:=by
 have hl:=h.low;have hs:=h.sz;refine⟨⟨v,h.box.cell 0 _ rfl,?_⟩,?_,?_,h.box.lt⟩;·obtain⟨ao,cap,e,h1,h2,h3⟩:=h.sl;refine⟨ao,cap,e,h1,h2,fun T=>?_⟩;obtain⟨b,o,e1,e2,e3⟩:=h3 T;exact⟨b,o,e1,by omega,e3⟩
 ·obtain⟨p,c,e⟩:=ar h.nm;have I:=h.box.cell 4 _ rfl;rw[e]at I;refine⟨p,c,I,fun j R=>?_⟩;have J:=h.nm;rcases J.2 with⟨C,h0⟩|⟨g,cap,P,C,hg,l,_⟩;·omega
  ·refine⟨g,0,?_,(Array.getElem?_eq_some_iff.1 l).1,?_⟩;·rw[e]at C;injection C
   ·rw[Nat.zero_add];have U:(jT ns)[j]?=some (.string ns[j]):=by simp[jT,R]
    exact cQ J C j _ U
 ·obtain⟨p,c,e⟩:=ar h.fi;have I:=h.box.cell 5 _ rfl;rw[e]at I;refine⟨p,c,I,fun j R=>?_⟩;have J:=h.fi;rcases J.2 with⟨C,h0⟩|⟨g,cap,P,C,hg,l,_⟩;·omega
  ·refine⟨g,0,?_,(Array.getElem?_eq_some_iff.1 l).1,?_⟩;·rw[e]at C;injection C
   ·rw[Nat.zero_add];have U:(jR fis)[j]?=some (.int .i64 fis[j]):=by simp[jR,R]
    exact cQ J C j _ U
def mJ(w w':World)(B:Nat)(e:Ending)(n:Nat)(p:Pn n)(r:List Nd):Prop:=∃u j,e=.returned (.tuple #[u,j])/\cK w' (Hs w.heap.size w'.heap.size) n p u/\bF w' B j r/\ZW w w'
def qG(w w':World)(B:Nat)(e:Ending)(x:Option ByteArray)(r:List Nd):Prop:=∃u j,e=.returned (.tuple #[u,j])/\jW x u/\bF w' B j r/\ZW w w'
def kE(n:Nat)(p:Pn n):Prop:=∀(r:List Nd)(v:Value)(w:World)(B:Nat),B<=w.heap.size->bF w B v (aB n p++r)->Calls Tryz.prog 208 #[v] w fun e w'=>mJ w w' B e n p r
theorem Cc(r:List Nd)(v:Value)(w:World)(B:Nat)(hB:B<=w.heap.size)(hv:bF w B v (bP none++r)):Calls Tryz.prog 208 #[v] w fun e w'=>qG w w' B e none r:=by
 rw[bP,List.cons_append,List.nil_append]at hv;obtain⟨C,cap,rfl,I,P,U⟩:=hv;obtain⟨b,o,rfl,hb,j⟩:=U (by simp);have R:Hid (∀C,(cap≠1->C=some ⟨b,o+5,none⟩)->bF w B (.slice C r.length (cap-1)) r):=aa (fun C ha=>bF.tail hb j I P C ha);have l:=aa hB;simp only[List.length_cons]at I;obtain⟨⟨T,c1,c2,c3,c4⟩,-⟩:=j;dsimp only at T c1 c2 c3 c4;have ab:b<w.heap.size:=World.block_lt_of_cell? w _ T;clear U;by_cases J:cap=1;·subst J;obtain rfl:r=[]:=List.length_eq_zero_iff.1 (by omega);go_in;go_wp2;go_region;go_wp2;go_ret2;exact⟨_,_,rfl,rfl,(R.out _ (fun h=>absurd rfl h)).carry ((aO w _).drew.mono l.out),(aO w _).drew⟩
 ·go_in;go_wp2;go_region;go_wp2;go_ret2;exact⟨_,_,rfl,rfl,(R.out _ (fun _=>rfl)).carry ((aO w _).drew.mono l.out),(aO w _).drew⟩
theorem Ce(x:ByteArray)(r:List Nd)(v:Value)(w:World)(B:Nat)(hB:B<=w.heap.size)(hv:bF w B v (bP (some x)++r)):Calls Tryz.prog 208 #[v] w fun e w'=>qG w w' B e (some x) r:=by
 rw[bP,List.cons_append,List.nil_append]at hv;obtain⟨C,cap,rfl,I,P,U⟩:=hv;obtain⟨b,o,rfl,hb,j⟩:=U (by simp);have R:Hid (∀C,(cap≠1->C=some ⟨b,o+5,none⟩)->bF w B (.slice C r.length (cap-1)) (r)):=aa (fun C ha=>bF.tail hb j I P C ha);have l:=aa hB;simp only[List.length_cons]at I;obtain⟨⟨T,c1,c2,c3,c4⟩,-⟩:=j;dsimp only at T c1 c2 c3 c4;have ab:b<w.heap.size:=World.block_lt_of_cell? w _ T;clear U;by_cases J:cap=1;·subst J;obtain rfl:r=[]:=List.length_eq_zero_iff.1 (by omega);go_in;go_wp2;go_region;go_wp2;go_ret2;exact⟨_,_,rfl,rfl,(R.out _ (fun h=>absurd rfl h)).carry ((aO w _).drew.mono l.out),(aO w _).drew⟩
 ·go_in;go_wp2;go_region;go_wp2;go_ret2;exact⟨_,_,rfl,rfl,(R.out _ (fun _=>rfl)).carry ((aO w _).drew.mono l.out),(aO w _).drew⟩
theorem yY(n:Nat)(x:ByteArray)(p:Pn n)(hp:kE n p)(r:List Nd)(v:Value)(w:World)(B:Nat)(hB:B<=w.heap.size)(hv:bF w B v (aB (n+1) (.loop x p)++r)):Calls Tryz.prog 208 #[v] w fun e w'=>mJ w w' B e (n+1) (.loop x p) r:=by
 rw[cO,List.cons_append]at hv;obtain⟨C,cap,rfl,j,U,hr⟩:=hv;obtain⟨b,o,rfl,hb,l⟩:=hr (by simp);have HT:Hid (∀C,(cap≠1->C=some ⟨b,o+5,none⟩)->bF w B (.slice C (aB n p++r).length (cap-1)) ((aB n p++r))):=aa (fun C ha=>bF.tail hb l j U C ha);have J:=aa hB;simp only[List.length_cons]at j;obtain⟨⟨c0,c1,c2,c3,c4⟩,-⟩:=l;dsimp only at c0 c1 c2 c3 c4;have af:b<w.heap.size:=World.block_lt_of_cell? w _ c0;clear hr;have I:=db n p;have ac:cap≠1:=by simp only[List.length_append]at j;omega
 have HC:Hid (Calls Tryz.prog 208 #[.slice (some ⟨b,o+5,none⟩) (aB n p++r).length (cap-1)] (w.alloc (.cells #[.int .i64 2,.string x,.string de,.int .i64 0,.int .i64 0] 156)).drew fun e w'=>mJ (w.alloc (.cells #[.int .i64 2,.string x,.string de,.int .i64 0,.int .i64 0] 156)).drew w' B e n p r):=aa (hp r _ _ B (by simp;omega) ((HT.out _ (fun _=>rfl)).carry ((aO w _).drew.mono J.out)));obtain⟨N,T⟩:∃N,(aB n p++r).length=N:=⟨_,rfl⟩;rw[T]at HC j;rw[List.length_cons,T];clear T hp I;go_in;go_wp2;go_region;go_wp2_with(go_at_call 208;refine HC.out.mono ?_;rintro e w2⟨u,v2,rfl,P,h2,R⟩;have H1:=aa P;have H2:=aa h2;have H3:Hid (ZW w w2):=aa ((aO w _).drew.trans (R.mono (by simp)));have d1:=(R.cell (p:=⟨w.heap.size,1,none⟩) (by simp));simp at d1;obtain⟨ad,ab,rfl,-⟩:=h2;obtain⟨t2,a2,rfl⟩:=P.shape;clear P R);go_ret2;exact⟨_,_,rfl,⟨_,rfl,H1.out.wide (by simp)⟩,H2.out,H3.out⟩
def vD(w w':World)(B:Nat)(e:Ending)(n:Nat)(cs:List (Br (Pn n)))(r:List Nd):Prop:=∃u j,e=.returned (.tuple #[u,j])/\qE w' (Hs w.heap.size w'.heap.size) u cs/\bF w' B j r/\ZW w w'
def pR(n:Nat)(cs:List (Br (Pn n))):Prop:=∀(r:List Nd)(v:Value)(w:World)(B:Nat),B<=w.heap.size->bF w B v (aY (aB n) cs++r)->Calls Tryz.prog 248 #[v,.int .i64 (cs.length:Int)] w fun e w'=>vD w w' B e n cs r
theorem Cd(n:Nat)(x y:ByteArray)(cs:List (Br (Pn n)))(l:1<=cs.length)(hp:pR n cs)(r:List Nd)(v:Value)(w:World)(B:Nat)(hB:B<=w.heap.size)(hv:bF w B v (aB (n+1) (.cU ⟨3,x,y⟩ cs)++r)):Calls Tryz.prog 208 #[v] w fun e w'=>mJ w w' B e (n+1) (.cU ⟨3,x,y⟩ cs) r:=by
 rw[bI,List.cons_append]at hv;obtain⟨I,cap,rfl,j,ab,hr⟩:=hv;obtain⟨b,o,rfl,hb,C⟩:=hr (by simp);have HT:Hid (∀I,(cap≠1->I=some ⟨b,o+5,none⟩)->bF w B (.slice I (aY (aB n) cs++r).length (cap-1)) (aY (aB n) cs++r)):=aa (fun I ha=>bF.tail hb C j ab I ha);have R:=aa hB;simp only[List.length_cons]at j;obtain⟨⟨c0,c1,c2,c3,c4⟩,-⟩:=C;dsimp only at c0 c1 c2 c3 c4;have an:b<w.heap.size:=World.block_lt_of_cell? w _ c0;have J:0<(aY (aB n) cs).length:=by cases cs with|nil=>simp at l|cons=>rw[cA];simp
 have af:cap≠1:=by simp only[List.length_append]at j;omega
 obtain⟨M,T⟩:∃M,cs.length=M:=⟨_,rfl⟩;have HC:Hid (Calls Tryz.prog 248 #[.slice (some ⟨b,o+5,none⟩) (aY (aB n) cs++r).length (cap-1),.int .i64 (M:Int)] (w.alloc (.cells #[.int .i64 3,.string x,.string y,.int .i64 (M:Int),.int .i64 0] 156)).drew fun e w'=>vD (w.alloc (.cells #[.int .i64 3,.string x,.string y,.int .i64 (M:Int),.int .i64 0] 156)).drew w' B e n cs r):=aa (by rw[<-T];exact hp r _ _ B (by simp;omega) ((HT.out _ (fun _=>rfl)).carry ((aO w _).drew.mono R.out)));obtain⟨N,U⟩:∃N,(aY (aB n) cs++r).length=N:=⟨_,rfl⟩;rw[U]at HC j;rw[T]at c3;rw[List.length_cons,U];clear U hp J T l hr;go_in;go_wp2;go_region;go_wp2_with(go_at_call 248;refine HC.out.mono ?_;rintro e w2⟨u,v2,rfl,h1,h2,P⟩;have H1:=aa h1;have H2:=aa h2;have H3:Hid (ZW w w2):=aa ((aO w _).drew.trans (P.mono (by simp)));have d1:=(P.cell (p:=⟨w.heap.size,1,none⟩) (by simp));have d2:=(P.cell (p:=⟨w.heap.size,2,none⟩) (by simp));simp at d1 d2;obtain⟨ah,ac,rfl,-⟩:=h2;obtain⟨al,ad,rfl,-⟩:=h1;clear P);go_ret2;exact⟨_,_,rfl,⟨_,rfl,H1.out.wide (by simp)⟩,H2.out,H3.out⟩
theorem Ap{n:Nat}{l:List (BV n)}{r L:List (Br (Pn n))}(h:L=l.map BV.b++r):L.length=l.length+r.length:=by rw[h,List.length_append,List.length_map]
structure CM(n:Nat)(w wr:World)(B:Nat)(cs:List (Br (Pn n)))(r:List Nd)(lv cv:Value)(dn:List (BV n))(rest:List (Br (Pn n))):Prop where
 all:cs=dn.map BV.b++rest
 sl:bF wr B lv (aY (aB n) rest++r)
 own:k8 wr w.heap.size cv dn
 bel:ZW w wr
theorem rl(n:Nat)(cs:List (Br (Pn n)))(h4:cs.length<=4)(hp:∀b∈cs,kE n b.p):pR n cs:=by
 intro r v w B hB hv;obtain⟨i0,hi,aR,a0,an⟩:=info_parts Tryz.uS;have HI:=aa (And.intro hi (And.intro aR (And.intro a0 an)));have HP:=aa hp;have HB:=aa hB;have HS:Hid (CM n w w B cs r v (.slice none 0 0) [] cs):=aa ⟨rfl,hv,k8.nil _ _,Below.refl _ _⟩;obtain⟨M,hM⟩:∃M,cs.length=M:=⟨_,rfl⟩;rw[hM]at h4|-;have HM:=aa hM;obtain⟨ao,cap,rfl,-⟩:=hv;clear hi aR a0 an hp hM;go_in;go_wp2;go_loopw[0,6,10](fun lv cv i wr=>∃(dn:List (BV n))(rest:List (Br (Pn n))),i=.int .i64 (dn.length:Int)/\dn.length<=M/\CM n w wr B cs r lv cv dn rest)(fun _ _ i _=>M-(intOf i).toNat);case atStart=>exact⟨[],cs,rfl,Nat.zero_le _,HS.out⟩
 case round=>
  obtain⟨dn,rest,rfl,a6,I⟩:=hrel;have HR:=aa I;obtain⟨k,hk⟩:∃k,dn.length=k:=⟨_,rfl⟩;have HK:=aa hk;rw[hk]at a6;rw[hk];by_cases br:k<M;·
   cases rest with
    |nil=>exact absurd (Ap I.all) (by rw[HM.out,hk];simp;omega)|cons b l=>
     have az:b∈cs:=by rw[I.all];simp
     obtain⟨bl,bs,U⟩:=b;have aN:=I.sl;rw[cA,List.cons_append,List.append_assoc]at aN;obtain⟨a3,J,rfl,ab,a4,aM⟩:=aN;obtain⟨b2,o2,rfl,ax,R⟩:=aM (by simp);have aL:=db n U;have a5:J≠1:=by simp only[List.length_cons,List.length_append]at ab;omega
     have HT:Hid (bF wr B (.slice (some ⟨b2,o2+5,none⟩) (aB n U++(aY (aB n) l++r)).length (J-1)) (aB n U++(aY (aB n) l++r))):=aa (bF.tail ax R ab a4 _ (fun _=>rfl));have HC:=aa (HP.out _ az (aY (aB n) l++r) _ wr B (Nat.le_trans HB.out I.bel.size) HT.out);have bm:b2<B:=ax;obtain⟨⟨c0,c1,c2,c3,c4⟩,-⟩:=R;dsimp only at c0 c1 c2 c3 c4;obtain⟨N,hN⟩:∃N,(aB n U++(aY (aB n) l++r)).length=N:=⟨_,rfl⟩;simp only[List.length_cons]at ab|-;rw[hN]at HC ab|-;have ah:=I.bel.size;have bk:=HB.out;obtain⟨pc,cc,ac⟩:=ar I.own.own;rw[hk]at ac;subst ac;have P:b2<wr.heap.size:=by omega
     clear aM aL hN I hk az;go_wp2_with(go_at_call 208;refine HC.out.mono ?_;rintro e T⟨u,v2,rfl,h1,h2,h3⟩;have H1:=aa h1;have H2:=aa h2;have H3:=aa h3;have d1:=(h3.cell (p:=⟨b2,o2+1,none⟩) P).trans c1;have d4:=(h3.cell (p:=⟨b2,o2+4,none⟩) P).trans c4;have bi:∀o:Obj,(T.alloc o).cell? ⟨b2,o2+1,none⟩=some (.string bl):=(fun o=>by rw[<-d1];exact(ag T o).cell (p:=⟨b2,o2+1,none⟩) (Nat.lt_of_lt_of_le P h3.size));have av:Hid (k8 T.drew w.heap.size (.slice pc k cc) dn):=aa ((HR.out.own.aA h3).aA (Below.refl _ _).drew);have a1:Hid (cK T.drew (off w.heap.size T.drew.heap.size (.slice pc k cc)) n U u):=aa (cK.carry (w:=T) (w':=T.drew) (S:=Hs wr.heap.size T.heap.size) (fun _ _=>rfl) (fun g hg=>⟨⟨Nat.le_trans ah hg.1,hg.2⟩,fun hm=>absurd ((ak HR.out.own.own).hi g hm) (by have:=hg.1;omega)⟩) n U u h1);obtain⟨bb,a9,rfl,-⟩:=h2;obtain⟨t2,a2,rfl⟩:=h1.shape;clear h1 h3);go_region_law(refine gh rfl (.tmp 18) (.tmp 29) 298 rfl w.heap.size 341 i0 (.agg #[.string .empty,.int .i64 0,.nilIface]) 3 40 Tryz.underlying298 HI.out.1 HI.out.2.1 HI.out.2.2.1 HI.out.2.2.2 rfl (by decide) (.slice pc k cc) k (dn.flatMap BV.cells) (by simp[Act.eval]) (by have:=av.out.own;rw[HK.out]at this;exact aT this (ag _ _)) ⟨T.heap.size,0,none⟩ 1 1 (BV.cells ⟨⟨bl,bs,U⟩,.iface t2 (.agg a2)⟩) (by simp[Act.eval]) rfl (fun j u hj=>fO _ _ _ _ (by simp) j u hj) (uN H1.out) (by unfold maxLen;omega) (by omega) (by have:=H3.out.size;simp;omega) ?_;intro v4 w4 C af ad;have aq:=aa (FK av.out ⟨⟨bl,bs,U⟩,.iface t2 (.agg a2)⟩ a1.out _ (by rw[HK.out];exact C) af ad);obtain⟨p4,bf,rfl⟩:=ar C;clear C af ad);all_goals
      go_wp2;go_roundw;case rel=>have a7:=(ak HR.out.own.own).lo;have an:=H3.out.size;have ay:Below w.heap.size T.drew w4:=aq.out.2.below (by simp;omega) a7;refine⟨dn++[⟨⟨bl,bs,U⟩,.iface t2 (.agg a2)⟩],l,by rw[List.length_append,List.length_singleton,HK.out];go_num,by rw[List.length_append,List.length_singleton,HK.out];omega,⟨by rw[HR.out.all];simp,by have:=(H2.out.carry ((Below.refl _ _).drew)).carry (ay.mono HB.out);rw[List.length_append]at this;exact this,aq.out.1,(HR.out.bel.trans (H3.out.mono ah)).drew.trans ay⟩⟩
      case measure=>simp[intOf];omega
  ·have bn:k=M:=by omega
   have al:rest=[]:=by have:=Ap I.all;rw[HM.out,HK.out]at this;exact List.length_eq_zero_iff.1 (by omega)
   subst al;have HE:Hid (dn.map BV.b=cs):=aa (by rw[I.all,List.append_nil]);obtain⟨pc,cc,ac⟩:=ar I.own.own;obtain⟨a3,J,a8,-⟩:=I.sl;subst ac;subst a8;clear I;go_wp2;go_ret2;refine⟨_,_,rfl,?_,?_,HR.out.bel⟩;·have:=HR.out.own.sl;rw[HE.out]at this;exact this
   ·have:=HR.out.sl;simpa[aY]using this
theorem qo{w w':World}{B:Nat}{e:Ending}{x:Option ByteArray}{r:List Nd}(h:qG w w' B e x r):(mJ w w' B e 0 x r)/\∀n,mJ w w' B e (n+1) (.leaf x) r:=by obtain⟨u,J,j,l,C,I⟩:=h;exact⟨⟨u,J,j,l,C,I⟩,fun n=>⟨u,J,j,l,C,I⟩⟩
theorem sF(x:Option ByteArray)(r:List Nd)(v:Value)(w:World)(B:Nat)(j:B<=w.heap.size)(l:bF w B v (bP x++r)):Calls Tryz.prog 208 #[v] w fun e w'=>qG w w' B e x r:=by cases x with|none=>exact Cc r v w B j l|some x=>exact Ce x r v w B j l
theorem xI:∀(n:Nat)(p:Pn n),bX n p->kE n p:=by
 intro n;induction n with
  |zero=>intro p _ r v w B j J;exact(sF p r v w B j J).mono fun e w' h=>(qo h).1|succ n ih=>
   intro p;refine Pn.cases (P:=fun p=>bX (n+1) p->kE (n+1) p) (fun x _ r v w B j J=>?_) (fun x q C=>?_) (fun t l C=>?_) p;·exact(sF x r v w B j J).mono fun e w' h=>(qo h).2 n
   ·exact yY n x q (ih q C)
   ·have I:t.op=3/\(t.a.toList==t.b.toList)=false/\1<=l.length/\l.length<=4/\∀b∈l,bX n b.p:=C;obtain⟨op,a,b⟩:=t;obtain⟨R,-,T,U,hb⟩:=I;dsimp only at R;subst R;exact Cd n a b l T (rl n l U (fun b hm=>ih b.p (hb b hm)))
end
abbrev Sk:=List (Option ByteArray)
def nJ(st:List Nd):Sk:=st.map fun n=>if n.op==2 then some n.name else none
def wB(sk:Sk)(x:ByteArray):Bool:=sk.any fun o=>match o with|some y=>y.toList==x.toList|none=>false
def bB(j:Bool):Sk->ByteArray->Bool|[],_=>false|some y::sk,x=>if y.toList==x.toList then j else bB j sk x|none::sk,x=>bB true sk x
theorem pP:∀(st:List Nd)(x:ByteArray),bW st x=wB (nJ st) x
 |[],_=>rfl|n::st,x=>by
  have ih:=pP st x;unfold bW wB nJ at*;rw[List.map_cons,List.any_cons,List.any_cons,ih];cases h:(n.op==2);·simp
  ·simp
theorem uK:∀(st:List Nd)(s:Bool)(x:ByteArray),eR s st x=bB s (nJ st) x
 |[],_,_=>rfl|n::st,s,x=>by
  have ih:=uK st;rw[eR];show _=bB s ((if n.op==2 then some n.name else none)::nJ st) x;cases h:(n.op==2);·simp only[Bool.false_eq_true,if_false];exact ih true x
  ·simp only[if_true];rw[bB,ih]
def rY{α:Type}(l:List (Br α)):Prop:=(l.map (·.l)).Nodup/\∀b∈l,cX b.l=true/\ll b.s=true
def tY(sk:Sk):Option ByteArray->Prop|none=>True|some x=>bB false sk x=true
def gP(A:Tk->Prop):(n:Nat)->Sk->Pn n->Prop|0,sk,x=>tY sk x|n+1,sk,p=>p.by (tY sk) (fun x q=>cX x=true/\wB sk x=false/\gP A n (some x::sk) q) (fun t l=>A t/\1<=l.length/\l.length<=4/\rY l/\∀b∈l,gP A n (none::sk) b.p)
def Ak(sk:Sk):Option ByteArray->Prop|none=>True|some x=>wB sk x=true
def gH(A:Tk->Prop):(n:Nat)->Sk->Pn n->Prop|0,sk,x=>Ak sk x|n+1,sk,p=>p.by (Ak sk) (fun x q=>cX x=true/\wB sk x=false/\gH A n (some x::sk) q) (fun t l=>A t/\1<=l.length/\l.length<=4/\rY l/\∀b∈l,gP A n (none::sk) b.p)
theorem Ei:(de.toList==[])=true:=by rw[Go.ByteArray.toList_eq];rfl
theorem ue{l:List ByteArray}{x:ByteArray}(h:l.Nodup)(C:x∉l):(l++[x]).Nodup:=by rw[List.nodup_append];exact⟨h,by simp,fun a ha b j e=>C (by simp at j;rw[<-j,<-e];exact ha)⟩
theorem DR{n:Nat}{A:Tk->Prop}{sk:Sk}{go:List Nd->Option (List Nd)}{Q:Pn n->Prop}(I:∀(p:Pn n)r r',Q p->go (aB n p++r)=some r'->gP A n sk p/\r'=r):∀(l:List (Br (Pn n)))(ls:List ByteArray)(r r':List Nd),(∀b∈l,Q b.p)->ls.Nodup->bA go l.length ls (aY (aB n) l++r)=some r'->(ls++l.map (·.l)).Nodup/\(∀b∈l,(cX b.l=true/\ll b.s=true)/\gP A n sk b.p)/\r'=r
 |[],ls,r,r',_,P,h=>by rw[List.length_nil,bA]at h;injection h with h;exact⟨by simpa using P,fun b hb=>(by cases hb),h.symm⟩|b::l,ls,r,r',T,P,h=>by
  rw[cA,List.length_cons,List.cons_append,bA]at h;split at h;·
   rename_i R;rw[Bool.and_eq_true]at R;obtain⟨j,C⟩:=R;split at h;·cases h
   ·rename_i r1 J;rw[List.append_assoc]at J;obtain⟨hg,rfl⟩:=I b.p _ _ (T b List.mem_cons_self) J;have hx:b.l∉ls:=fun hm=>by rw[jM.2 hm]at C;cases C
    obtain⟨U,h2,h3⟩:=DR I l (ls++[b.l]) r r' (fun d hd=>T d (List.mem_cons_of_mem _ hd)) (ue P hx) h;refine⟨by rw[List.map_cons];simpa using U,fun d hd=>?_,h3⟩;rcases List.mem_cons.1 hd with rfl|hd;·simp only[eE,Bool.and_eq_true]at j;exact⟨⟨j.1.2,j.2⟩,hg⟩
    ·exact h2 d hd
  ·cases h
theorem Dz{n:Nat}{A:Tk->Prop}{sk:Sk}{go:List Nd->Option (List Nd)}(j:∀(p:Pn n)r,gP A n sk p->go (aB n p++r)=some r):∀(l:List (Br (Pn n)))(ls:List ByteArray)(r:List Nd),(ls++l.map (·.l)).Nodup->(∀b∈l,(cX b.l=true/\ll b.s=true)/\gP A n sk b.p)->bA go l.length ls (aY (aB n) l++r)=some r
 |[],ls,r,_,_=>by rw[List.length_nil,bA];rfl|b::l,ls,r,C,h=>by
  obtain⟨⟨hw,U⟩,P⟩:=h b (List.mem_cons_self);have hx:b.l∉ls:=fun T=>by rw[List.nodup_append]at C;exact C.2.2 _ T b.l (by simp) rfl
  have J:(eE (⟨4,b.l,de,0,b.s⟩:Nd)&&!cw ls b.l)=true:=by
   have I:cw ls b.l=false:=by cases R:cw ls b.l with|false=>rfl|true=>exact absurd (jM.1 R) hx
   rw[I];simp only[eE,Bool.and_eq_true];refine⟨⟨⟨⟨⟨by rfl,Ei⟩,by rfl⟩,hw⟩,U⟩,by rfl⟩
  rw[cA,List.length_cons,List.cons_append,bA,if_pos J,List.append_assoc,j b.p _ P];exact Dz j l (ls++[b.l]) r (by rw[List.map_cons]at C;simpa using C) (fun d hd=>h d (List.mem_cons_of_mem _ hd))
def vy(t:Tk):Prop:=t.op=3/\cX t.a=true/\cX t.b=true/\(t.a.toList==t.b.toList)=false
def pO(t:Tk):Prop:=(t.op=5\/t.op=6)/\t.a=de/\cX t.b=true
theorem yD:∀(n:Nat)(p:Pn n)(st r r':List Nd),bX n p->ahead (bC false) n st (aB n p++r)=some r'->gP vy n (nJ st) p/\r'=r:=by
 have leaf:∀(n:Nat)(x:Option ByteArray)(st r r':List Nd),ahead (bC false) n st (bP x++r)=some r'->tY (nJ st) x/\r'=r:=by
  intro n x st r r' h;cases x with
   |none=>rw[bP,List.singleton_append,da rfl]at h;rw[if_pos (by simp[iu])]at h;injection h with h;exact⟨trivial,h.symm⟩|some x=>
    rw[bP,List.singleton_append,dv rfl]at h;split at h;·rename_i j;rw[Bool.and_eq_true,uK]at j;injection h with h;exact⟨j.2,h.symm⟩
    ·cases h
 intro n;induction n with
  |zero=>intro p st r r' _ h;exact leaf 0 p st r r' h|succ n ih=>
   intro p;refine Pn.cases (P:=fun p=>∀(st r r':List Nd),bX (n+1) p->ahead (bC false) (n+1) st (aB (n+1) p++r)=some r'->gP vy (n+1) (nJ st) p/\r'=r) (fun x=>?_) (fun x q=>?_) (fun t l=>?_) p;·intro st r r' _ h;exact leaf (n+1) x st r r' h
   ·intro st r r' U h;rw[cO,List.cons_append,dC rfl]at h;split at h;·rename_i j;rw[Bool.and_eq_true,pP]at j;obtain⟨h1,h2⟩:=ih q _ r r' U h;simp only[iR,Bool.and_eq_true]at j;exact⟨⟨j.1.2,by simpa using j.2,h1⟩,h2⟩
    ·cases h
   ·intro st r r' U h;obtain⟨h3,T,J,R,I⟩:=U;obtain⟨op,a,b⟩:=t;dsimp only at h3;subst h3;rw[bI,List.cons_append,fA (show(3:Int)≠0 by decide) (show(3:Int)≠1 by decide) (show(3:Int)≠2 by decide)]at h;split at h;·
     rename_i j;simp only[bC,Bool.and_eq_true,Bool.false_eq_true,if_false]at j;have hm:((l.length:Int)).toNat=l.length:=by omega
     dsimp only at h;rw[hm]at h;obtain⟨k1,k2,k3⟩:=DR (A:=vy) (sk:=none::nJ st) (Q:=bX n) (fun p r r' hq hh=>ih p (⟨3,a,b,(l.length:Int),0⟩::st) r r' hq hh) l [] r r' I List.nodup_nil h;exact⟨⟨⟨rfl,j.2.1.2,j.1.1.1,T⟩,J,R,⟨by simpa using k1,fun b C=>(k2 b C).1⟩,fun b C=>(k2 b C).2⟩,k3⟩
    ·cases h
theorem ym:∀(n:Nat)(p:Pn n)(st r:List Nd),gP pO n (nJ st) p->ahead (bC true) n st (aB n p++r)=some r:=by
 have leaf:∀(n:Nat)(x:Option ByteArray)(st r:List Nd),tY (nJ st) x->ahead (bC true) n st (bP x++r)=some r:=by intro n x st r h;cases x with|none=>rw[bP,List.singleton_append,da rfl,if_pos (by simp[iu])]|some x=>rw[bP,List.singleton_append,dv rfl,if_pos];rw[Bool.and_eq_true,uK];exact⟨by simp[oR],h⟩
 intro n;induction n with
  |zero=>intro p st r h;exact leaf 0 p st r h|succ n ih=>
   intro p;refine Pn.cases (P:=fun p=>∀(st r:List Nd),gP pO (n+1) (nJ st) p->ahead (bC true) (n+1) st (aB (n+1) p++r)=some r) (fun x=>?_) (fun x q=>?_) (fun t l=>?_) p;·intro st r h;exact leaf (n+1) x st r h
   ·intro st r h;obtain⟨J,I,h3⟩:=h;rw[cO,List.cons_append,dC rfl,if_pos];·exact ih q (⟨2,x,de,0,0⟩::st) r h3
    ·rw[Bool.and_eq_true,pP];exact⟨by simp[iR,J],by simp[I]⟩
   ·intro st r h;obtain⟨⟨C,T,hw⟩,ab,ac,j,R⟩:=h;obtain⟨op,a,b⟩:=t;dsimp only at C T hw;subst T;have h0:op≠0:=by omega
    have J:op≠1:=by omega
    have I:op≠2:=by omega
    have hm:((l.length:Int)).toNat=l.length:=by omega
    rw[bI,List.cons_append,fA h0 J I,if_pos];·
     dsimp only;rw[hm];refine Dz (A:=pO) (sk:=none::nJ st) (fun p r hp=>?_) l [] r (by simpa using j.1) (fun b U=>⟨j.2 b U,R b U⟩);have e:none::nJ st=nJ (⟨op,de,b,(l.length:Int),0⟩::st):=by show _=(if op==2 then some de else none)::nJ st;rw[if_neg (by simpa using I)]
     rw[e]at hp;exact ih p _ r hp
    ·simp only[bC,jQ,Bool.and_eq_true,if_true,decide_eq_true_eq,Bool.or_eq_true,beq_iff_eq];exact⟨⟨⟨hw,by omega,by omega⟩,trivial⟩,by simp,C⟩
section
attribute [local go_sem ↓] Go.wp_at_zero Go.wp_at_succ
structure eW(w w':World)(base xb:Nat):Prop where
 os:w'.os=w.os
 tape:w'.tape=w.tape
 output:w'.output=w.output
 size:w.heap.size<=w'.heap.size
 block:∀b,b<base->b≠xb->w'.heap[b]?=w.heap[b]?
theorem eW.refl(w:World)(base xb:Nat):eW w w base xb:=⟨rfl,rfl,rfl,Nat.le_refl _,fun _ _ _=>rfl⟩
theorem eW.trans{a b c:World}{base xb:Nat}(h:eW a b base xb)(j:eW b c base xb):eW a c base xb:=⟨j.os.trans h.os,j.tape.trans h.tape,j.output.trans h.output,Nat.le_trans h.size j.size,fun k l C=>(j.block k l C).trans (h.block k l C)⟩
theorem aH.js{w w':World}{l:List Nat}{base xb:Nat}(h:aH w w' l)(C:base<=w.heap.size)(I:∀b∈l,b=xb\/base<=b):eW w w' base xb:=⟨h.os,h.tape,h.output,h.size,fun b j P=>h.block b (Nat.lt_of_lt_of_le j C) (fun J=>by rcases I b J with q|q;exact P q;omega)⟩
theorem eW.sl{w w':World}{base xb B:Nat}{v:Value}{ns:List Nd}(h:eW w w' base xb)(l:B<=xb)(I:xb<base)(j:bF w B v ns):bF w' B v ns:=j.carry ⟨h.os,h.tape,h.output,h.size,fun k C=>h.block k (by omega) (by omega)⟩
theorem kK{v l u:Value}{p U:Option Addr}{n T c P sz:Nat}(ev:v=.slice p n c)(C:l=.slice U T P)(h:∀b∈ae v,b∉ae u)(I:l.ownBlock=v.ownBlock\/l.ownBlock=some sz)(hu:∀b∈ae u,b<sz):∀b∈ae l,b∉ae u:=by
 intro b R J;have j:=(aS C).2 R;rcases I with e|e;·rw[e]at j;exact h b ((aS ev).1 j) J
 ·rw[e]at j;have:=hu b J;simp at j;omega
theorem xm{w3 R:World}{xb B base:Nat}{v sv ev P nv fv:Value}{z:Int}{all:List Nd}{sts:List aP}{eds:List aC}{ns:List ByteArray}{fis:List Int}(h:dA w3 xb B base v sv ev z nv fv all sts eds ns fis)(x:aP)(o:Obj)(C:R.ownsRow base 152 2 P (sts.length+1) (sts.flatMap aP.cells++x.cells))(hg:(w3.alloc o).grownBy R sv.ownBlock)(J:P.ownBlock=sv.ownBlock\/P.ownBlock=some (w3.alloc o).heap.size):dA (R.setCell ⟨xb,1,none⟩ P) xb B base v P ev z nv fv all (sts++[x]) eds ns fis/\eW w3 (R.setCell ⟨xb,1,none⟩ P) base xb:=by
 obtain⟨p,cp,rfl⟩:=ar h.st;obtain⟨p4,c4,rfl⟩:=ar C;have hA:aH w3 R (ae (.slice p sts.length cp)):=by have:=(aj (ag w3 o)).trans (aE hg);rwa[List.nil_append]at this
 have lo:=h.st.fresh.lo;have ab:=(ak C).lo;have U:=h.low;have hS:=aG R xb 1 (.slice p4 (sts.length+1) c4);have l:=hA.trans hS;have T:∀b,(b∈ae (.slice p sts.length cp)++[xb])->b=xb\/base<=b:=fun b j=>by
  rw[List.mem_append]at j;rcases j with j|j;·exact .inr (lo b j)
  ·simp at j;exact .inl j
 have hK:=l.js h.sz T;have off:∀{u:Value},(∀b∈ae u,base<=b)->(∀b∈ae (.slice p sts.length cp),b∉ae u)->∀b∈ae u,b∉ae (.slice p sts.length cp)++[xb]:=fun hu hd b j I=>by
  rw[List.mem_append]at I;rcases I with I|I;·exact hd b I j
  ·have:=hu b j;simp at I;omega
 have up:∀{u:Value},(∀b∈ae u,b<w3.heap.size)->∀b∈ae u,b<(w3.alloc o).heap.size:=fun hu b j=>by have:=hu b j;simp;omega
 refine⟨⟨?_,hK.sl U.1 U.2 h.sl,?_,?_,?_,?_,?_,U,?_⟩,hK⟩;·exact(h.box.aA hA (fun j=>by have:=lo _ j;omega)).set 1 (by simp) _
 ·exact cF.snoc (aK C hS (fun b j I=>by have:=ab b j;simp at I;omega))
 ·exact h.ed.aA l (off h.ed.fresh.lo h.four.se)
 ·exact aK h.nm l (off (ak h.nm).lo h.four.sn)
 ·exact aK h.fi l (off (ak h.fi).lo h.four.sf)
 ·exact⟨kK rfl rfl h.four.se J (up h.ed.fresh.hi),kK rfl rfl h.four.sn J (up (ak h.nm).hi),kK rfl rfl h.four.sf J (up (ak h.fi).hi),h.four.en,h.four.ef,h.four.nf⟩
 ·exact Nat.le_trans h.sz l.size
structure kB(w w':World)(xb:Nat)(R R':List Nat):Prop where
 size:w.heap.size<=w'.heap.size
 block:∀b,b<w.heap.size->b≠xb->b∉R->w'.heap[b]?=w.heap[b]?
 rows:∀b∈R',b∈R\/w.heap.size<=b
def dB(sv ev nv fv:Value):List Nat:=ae sv++(ae ev++(ae nv++ae fv))
theorem iP{sv ev nv fv:Value}{b:Nat}:b∈dB sv ev nv fv↔b∈ae sv\/b∈ae ev\/b∈ae nv\/b∈ae fv:=by simp[dB]
theorem kB.trans{a b c:World}{xb:Nat}{R R' j:List Nat}(h:kB a b xb R R')(C:kB b c xb R' j):kB a c xb R j:=⟨Nat.le_trans h.size C.size,fun k l J I=>(C.block k (Nat.lt_of_lt_of_le l h.size) J (fun P=>by rcases h.rows k P with q|q;exact I q;omega)).trans (h.block k l J I),fun k l=>by
 rcases C.rows k l with q|q;·exact h.rows k q
 ·have:=h.size;exact .inr (by omega)⟩
theorem kB.tJ{w w':World}{xb:Nat}{R:List Nat}(h:jj w w'):kB w w' xb R R:=⟨h.ap.size,fun b j _ _=>h.ap.block b j (by simp),fun _ j=>.inl j⟩
theorem kB.apart{w w':World}{xb:Nat}{R R' L:List Nat}(h:aH w w' L)(j:∀b∈L,b=xb\/b∈R)(l:∀b∈R',b∈R\/w.heap.size<=b):kB w w' xb R R':=⟨h.size,fun b C P J=>h.block b C (fun I=>by rcases j b I with q|q;exact P q;exact J q),l⟩
theorem kB.push{w3 I:World}{xb k n n4 c c4:Nat}{v l:Value}{p p4:Option Addr}(T:v=.slice p n c)(U:l=.slice p4 n4 c4)(o:Obj)(hg:(w3.alloc o).grownBy I v.ownBlock)(P:l.ownBlock=v.ownBlock\/l.ownBlock=some (w3.alloc o).heap.size){R R':List Nat}(hR:∀b∈ae v,b∈R)(J:∀b∈R',b∈R\/b∈ae l):kB w3 (I.setCell ⟨xb,k,none⟩ l) xb R R':=by
 have hA:aH w3 I (ae v):=by rw[T]at hg;have:=(aj (ag w3 o)).trans (aE hg);rw[List.nil_append]at this;rw[T];exact this
 refine kB.apart (hA.trans (aG I xb k l)) (fun b j=>?_) (fun b j=>?_);·
  rw[List.mem_append]at j;rcases j with j|j;·exact .inr (hR b j)
  ·simp at j;exact .inl j
 ·rcases J b j with q|q;·exact .inl q
  ·have C:=(aS U).2 q;rcases P with e|e;·rw[e]at C;exact .inl (hR b ((aS T).1 C))
   ·rw[e]at C;simp at C;exact .inr (by omega)
def Made(w w':World)(xb B base:Nat)(v:Value)(z:Int)(R:List Nat)(all:List Nd)(ns:List ByteArray)(fis:List Int)(e:Ending)(o:List Nd×List aP×List aC):Prop:=∃I j C l,e=.returned (.int .i64 ((all.length-o.1.length:Nat):Int))/\dA w' xb B base v I j z C l all o.2.1 o.2.2 ns fis/\eW w w' base xb/\kB w w' xb R (dB I j C l)
def lU(f:Nat):Prop:=∀(st all r:List Nd)(pos:Nat)(w:World)(xb B base:Nat)(v sv ev:Value)(z:Int)(nv fv:Value)(sts:List aP)(eds:List aC)(ns:List ByteArray)(fis:List Int),ahead (bC true) f st (all.drop pos)=some r->all.length<=40->pos<all.length->fis.length=ns.length->ns.length+f<=100->jn all pos=sts.length->eds.length+(all.length-pos)<=900->dA w xb B base v sv ev z nv fv all sts eds ns fis->Calls Tryz.prog 239 #[.pointer (some ⟨xb,0,none⟩),.int .i64 (pos:Int)] w fun e w'=>Made w w' xb B base v z (dB sv ev nv fv) all ns fis e (Go.Proofs.YtdiiiijkhpdcbaaGreatDoor.sv f ns fis (all.drop pos) (sts,eds))
theorem xg(all:List Nd)(j:Nat)(w:World)(xb B base:Nat)(v sv ev:Value)(z:Int)(nv fv:Value)(sts:List aP)(eds:List aC)(ns:List ByteArray)(fis:List Int)(R:all.length<=40)(C:j<all.length)(J:all[j].op=1)(h:dA w xb B base v sv ev z nv fv all sts eds ns fis):Calls Tryz.prog 239 #[.pointer (some ⟨xb,0,none⟩),.int .i64 (j:Int)] w fun e w'=>Made w w' xb B base v z (dB sv ev nv fv) all ns fis e (all.drop (j+1),sts,eds):=by have H:=aa h;have c0:=h.box.cell 0 _ rfl;have ad:=h.box.lt;obtain⟨ao,cap,rfl,ab,ac,T⟩:=h.sl;obtain⟨b,o,rfl,hb,I⟩:=T (by rintro rfl;simp at C);have l:=I.get j C;obtain⟨x1,P⟩:∃x,x=all[j]:=⟨_,rfl⟩;rw[<-P]at l J;obtain⟨op,name,U,many,sort⟩:=x1;dsimp only at J;subst J;obtain⟨d0,d1,d2,d3,d4⟩:=l;dsimp only at d0 d1 d2 d3 d4;have HL:Hid (((all.length-(all.drop (j+1)).length:Nat):Int)=(j:Int)+1):=aa (by rw[List.length_drop];omega);clear h P I T;go_in;go_wp2;go_ret;exact⟨sv,ev,nv,fv,bc HL.out,H.out.tJ ((jj.dx (Below.refl _ _)).alloc _),(jj.dx (ag w _)).ap.js H.out.sz (by simp),kB.tJ (jj.dx (ag w _))⟩
theorem xf(all:List Nd)(l:Nat)(w:World)(xb B base:Nat)(v sv ev:Value)(z:Int)(nv fv:Value)(sts:List aP)(eds:List aC)(ns:List ByteArray)(fis:List Int)(az:all.length<=40)(T:l<all.length)(ad:all[l].op=0)(aN:sts.length<=1000)(h:dA w xb B base v sv ev z nv fv all sts eds ns fis):Calls Tryz.prog 239 #[.pointer (some ⟨xb,0,none⟩),.int .i64 (l:Int)] w fun e w'=>Made w w' xb B base v z (dB sv ev nv fv) all ns fis e (all.drop (l+1),sts++[⟨0,ByteArray.empty⟩],eds):=by have H:=aa h;have c0:=h.box.cell 0 _ rfl;have c1:=h.box.cell 1 _ rfl;have cz:=h.box.fz;have aR:=h.box.lt;obtain⟨i0,hi,aq,av,ax⟩:=info_parts Tryz.ni;have HI:=aa (And.intro hi (And.intro aq (And.intro av ax)));obtain⟨ps,cs,rfl⟩:=ar h.st;obtain⟨ao,cap,rfl,aL,aM,hr⟩:=h.sl;obtain⟨b,o,rfl,hb,U⟩:=hr (by rintro rfl;simp at T);have P:=U.get l T;obtain⟨x1,an⟩:∃x,x=all[l]:=⟨_,rfl⟩;rw[<-an]at P ad;obtain⟨op,name,ab,many,sort⟩:=x1;dsimp only at ad;subst ad;obtain⟨d0,d1,d2,d3,d4⟩:=P;dsimp only at d0 d1 d2 d3 d4;have HL:Hid (((all.length-(all.drop (l+1)).length:Nat):Int)=(l:Int)+1):=aa (by rw[List.length_drop];omega);have ac:Hid (∀ob:Obj,dA (w.alloc ob) xb B base (.slice (some ⟨b,o,none⟩) all.length cap) (.slice ps sts.length cs) ev z nv fv all sts eds ns fis):=aa (fun ob=>H.out.tJ ((jj.dx (Below.refl _ _)).alloc ob));clear h an U hr hi aq av ax;go_in;go_wp2_with(at_builtin;refine wpList_append_own_at _ rfl (.tmp 28) (.tmp 30) 63 rfl base 152 i0 (.agg #[.int .i64 0,.string .empty]) 2 24 Tryz.underlying63 HI.out.1 HI.out.2.1 HI.out.2.2.1 HI.out.2.2.2 rfl (by decide) (.slice ps sts.length cs) sts.length (sts.flatMap aP.cells) rfl ((ac.out _).st.below (ag _ _)) ⟨w.heap.size+1,0,none⟩ 1 1 (aP.cells ⟨0,ByteArray.empty⟩) rfl rfl (fun j u hj=>kq (w.alloc (.cells #[.int .i64 0,.string name,.string ab,.int .i64 many,.int .i64 sort] 156)) _ _ (w.heap.size+1) (by simp) j u hj) (aP.cells_one _) (by unfold maxLen;omega) (by omega) (by have:=H.out.sz;simp;omega) ?_;intro v4 w4 C I _ J;have ah:=aa (xm (ac.out _) ⟨0,ByteArray.empty⟩ _ C I J);obtain⟨p4,c4,al⟩:=ar C;have ay:=aa (kB.push (xb:=xb) (k:=1) rfl al _ I J (R:=dB (.slice ps sts.length cs) ev nv fv) (R':=dB v4 ev nv fv) (fun b hb=>iP.2 (.inl hb)) (fun b hb=>(iP.1 hb).elim .inr (fun q=>.inl (iP.2 (.inr q)))));have af:=aa ((ac.out (.cells #[.int .i64 0,.string name,.string ab,.int .i64 many,.int .i64 sort] 156)).box.aA ((aj (ag _ _)).trans (aE I)) (fun hm=>by rw[List.nil_append]at hm;have:=H.out.st.fresh.lo _ hm;have:=H.out.low;omega));have l1:=af.out.cell 1 _ rfl;have lz:=af.out.fz;subst al;clear C I J);go_ret;exact⟨_,ev,nv,fv,bc HL.out,ah.out.1,((jj.dx (ag w _)).ap.js H.out.sz (by simp)).trans ah.out.2,(kB.tJ (jj.dx (ag w _))).trans ay.out⟩
end
theorem D9{w3 R:World}{xb B base:Nat}{v sv ev T nv fv:Value}{z:Int}{all:List Nd}{sts:List aP}{eds:List aC}{ns:List ByteArray}{fis:List Int}(h:dA w3 xb B base v sv ev z nv fv all sts eds ns fis)(x:ByteArray)(o:Obj)(I:R.ownsRow base 9 1 T (ns.length+1) (jT ns++[.string x]))(hg:(w3.alloc o).grownBy R nv.ownBlock)(P:T.ownBlock=nv.ownBlock\/T.ownBlock=some (w3.alloc o).heap.size):dA (R.setCell ⟨xb,4,none⟩ T) xb B base v sv ev z T fv all sts eds (ns++[x]) fis/\eW w3 (R.setCell ⟨xb,4,none⟩ T) base xb:=by
 obtain⟨p,cp,hp⟩:=ar h.nm;obtain⟨p4,c4,rfl⟩:=ar I;subst hp;have hA:aH w3 R (ae (.slice p ns.length cp)):=by have:=(aj (ag w3 o)).trans (aE hg);rwa[List.nil_append]at this
 have lo:=(ak h.nm).lo;have ac:=(ak I).lo;have hl:=h.low;have hS:=aG R xb 4 (.slice p4 (ns.length+1) c4);have C:=hA.trans hS;have ab:∀b,(b∈ae (.slice p ns.length cp)++[xb])->b=xb\/base<=b:=fun b j=>by
  rw[List.mem_append]at j;rcases j with j|j;·exact .inr (lo b j)
  ·simp at j;exact .inl j
 have hK:=C.js h.sz ab;have off:∀{u:Value},(∀b∈ae u,base<=b)->(∀b∈ae u,b∉ae (.slice p ns.length cp))->∀b∈ae u,b∉ae (.slice p ns.length cp)++[xb]:=fun hu hd b j J=>by
  rw[List.mem_append]at J;rcases J with J|J;·exact hd b j J
  ·have:=hu b j;simp at J;omega
 have up:∀{u:Value},(∀b∈ae u,b<w3.heap.size)->∀b∈ae u,b<(w3.alloc o).heap.size:=fun hu b j=>by have:=hu b j;simp;omega
 have l:∀{a u:Value},(∀b∈ae a,b∉ae u)->∀b∈ae u,b∉ae a:=fun hh b j J=>hh b J j;have U:(R.setCell ⟨xb,4,none⟩ (.slice p4 (ns.length+1) c4)).ownsRow base 9 1 (.slice p4 (ns.length+1) c4) (ns++[x]).length (jT (ns++[x])):=by
  rw[List.length_append,List.length_singleton];have e:jT (ns++[x])=jT ns++[.string x]:=by simp[jT]
  rw[e];exact aK I hS (fun b j J=>by have:=ac b j;simp at J;omega)
 refine⟨⟨(h.box.aA hA (fun j=>by have:=lo _ j;omega)).set 4 (by simp) _,hK.sl hl.1 hl.2 h.sl,h.st.aA C (off h.st.fresh.lo h.four.sn),h.ed.aA C (off h.ed.fresh.lo h.four.en),U,aK h.fi C (off (ak h.fi).lo (l h.four.nf)),⟨h.four.se,l (kK rfl rfl (l h.four.sn) P (up h.st.fresh.hi)),h.four.sf,l (kK rfl rfl (l h.four.en) P (up h.ed.fresh.hi)),h.four.ef,kK rfl rfl h.four.nf P (up (ak h.fi).hi)⟩,hl,Nat.le_trans h.sz C.size⟩,hK⟩
theorem D8{w3 R:World}{xb B base:Nat}{v sv ev T nv fv:Value}{z:Int}{all:List Nd}{sts:List aP}{eds:List aC}{ns:List ByteArray}{fis:List Int}(h:dA w3 xb B base v sv ev z nv fv all sts eds ns fis)(x:Int)(o:Obj)(I:R.ownsRow base 2 1 T (fis.length+1) (jR fis++[.int .i64 x]))(hg:(w3.alloc o).grownBy R fv.ownBlock)(P:T.ownBlock=fv.ownBlock\/T.ownBlock=some (w3.alloc o).heap.size):dA (R.setCell ⟨xb,5,none⟩ T) xb B base v sv ev z nv T all sts eds ns (fis++[x])/\eW w3 (R.setCell ⟨xb,5,none⟩ T) base xb:=by
 obtain⟨p,cp,hp⟩:=ar h.fi;obtain⟨p4,c4,rfl⟩:=ar I;subst hp;have hA:aH w3 R (ae (.slice p fis.length cp)):=by have:=(aj (ag w3 o)).trans (aE hg);rwa[List.nil_append]at this
 have lo:=(ak h.fi).lo;have ac:=(ak I).lo;have hl:=h.low;have hS:=aG R xb 5 (.slice p4 (fis.length+1) c4);have C:=hA.trans hS;have ab:∀b,(b∈ae (.slice p fis.length cp)++[xb])->b=xb\/base<=b:=fun b l=>by
  rw[List.mem_append]at l;rcases l with l|l;·exact .inr (lo b l)
  ·simp at l;exact .inl l
 have hK:=C.js h.sz ab;have off:∀{u:Value},(∀b∈ae u,base<=b)->(∀b∈ae u,b∉ae (.slice p fis.length cp))->∀b∈ae u,b∉ae (.slice p fis.length cp)++[xb]:=fun hu hd b l J=>by
  rw[List.mem_append]at J;rcases J with J|J;·exact hd b l J
  ·have:=hu b l;simp at J;omega
 have up:∀{u:Value},(∀b∈ae u,b<w3.heap.size)->∀b∈ae u,b<(w3.alloc o).heap.size:=fun hu b l=>by have:=hu b l;simp;omega
 have j:∀{a u:Value},(∀b∈ae a,b∉ae u)->∀b∈ae u,b∉ae a:=fun hh b l J=>hh b J l;have U:(R.setCell ⟨xb,5,none⟩ (.slice p4 (fis.length+1) c4)).ownsRow base 2 1 (.slice p4 (fis.length+1) c4) (fis++[x]).length (jR (fis++[x])):=by
  rw[List.length_append,List.length_singleton];have e:jR (fis++[x])=jR fis++[.int .i64 x]:=by simp[jR]
  rw[e];exact aK I hS (fun b l J=>by have:=ac b l;simp at J;omega)
 refine⟨⟨(h.box.aA hA (fun l=>by have:=lo _ l;omega)).set 5 (by simp) _,hK.sl hl.1 hl.2 h.sl,h.st.aA C (off h.st.fresh.lo h.four.sf),h.ed.aA C (off h.ed.fresh.lo h.four.ef),aK h.nm C (off (ak h.nm).lo h.four.nf),U,⟨h.four.se,h.four.sn,j (kK rfl rfl (j h.four.sf) P (up h.st.fresh.hi)),h.four.en,j (kK rfl rfl (j h.four.ef) P (up h.ed.fresh.hi)),j (kK rfl rfl (j h.four.nf) P (up (ak h.nm).hi))⟩,hl,Nat.le_trans h.sz C.size⟩,hK⟩
theorem zp(ns:List ByteArray)(x:ByteArray):jT (ns++[x])=jT ns++[.string x]:=by simp[jT]
theorem kQ(fis:List Int)(x:Int):jR (fis++[x])=jR fis++[.int .i64 x]:=by simp[jR]
theorem kt(fis:List Int):(jR fis).length=fis.length:=by simp[jR]
theorem Cw(ns:List ByteArray):(jT ns).length=ns.length:=by simp[jT]
theorem Gj{w:World}{xb B base g cap:Nat}{v sv ev nv:Value}{z y:Int}{all:List Nd}{sts:List aP}{eds:List aC}{ns:List ByteArray}{fis:List Int}(h:dA w xb B base v sv ev z nv (.slice (some ⟨g,0,none⟩) (fis.length+1) cap) all sts eds ns (fis++[y]))(x:Int):dA (w.setCell ⟨g,fis.length,none⟩ (.int .i64 x)) xb B base v sv ev z nv (.slice (some ⟨g,0,none⟩) (fis.length+1) cap) all sts eds ns (fis++[x])/\eW w (w.setCell ⟨g,fis.length,none⟩ (.int .i64 x)) base xb:=by
 have j:=h.fi;rw[List.length_append,List.length_singleton]at j;have J:=h.low;have lo:=(ak j).lo g (by simp[ae,aJ]);have l:=aG w g fis.length (.int .i64 x);have I:g∈ae (.slice (some ⟨g,0,none⟩) (fis.length+1) cap):=by simp[ae,aJ]
 have P:=l.js h.sz (xb:=xb) (fun b C=>by simp at C;subst C;exact .inr lo);have off:∀{u:Value},(∀b∈ae u,b∉ae (.slice (some ⟨g,0,none⟩) (fis.length+1) cap))->∀b∈ae u,b∉[g]:=fun hd b C R=>by simp at R;subst R;exact hd b C I
 refine⟨⟨h.box.aA l (by simp;omega),P.sl J.1 J.2 h.sl,h.st.aA l (off h.four.sf),h.ed.aA l (off h.four.ef),aK h.nm l (off h.four.nf),?_,h.four,J,Nat.le_trans h.sz l.size⟩,P⟩;have:=(World.ownsRow.stored j fis.length (.int .i64 x)).1;rw[List.length_append,List.length_singleton,kQ];rw[kQ,List.set_append_right _ _ (by rw[kt];exact Nat.le_refl _),kt,Nat.sub_self]at this;exact this
theorem Gi{w:World}{xb B base g cap:Nat}{v sv ev fv:Value}{z:Int}{all:List Nd}{sts:List aP}{eds:List aC}{ns:List ByteArray}{fis:List Int}{y:ByteArray}(h:dA w xb B base v sv ev z (.slice (some ⟨g,0,none⟩) (ns.length+1) cap) fv all sts eds (ns++[y]) fis):dA (w.setCell ⟨xb,4,none⟩ (.slice (some ⟨g,0,none⟩) ns.length cap)) xb B base v sv ev z (.slice (some ⟨g,0,none⟩) ns.length cap) fv all sts eds ns fis/\eW w (w.setCell ⟨xb,4,none⟩ (.slice (some ⟨g,0,none⟩) ns.length cap)) base xb:=by
 have l:=h.nm;rw[List.length_append,List.length_singleton,zp]at l;have I:=h.low;have j:=aG w xb 4 (.slice (some ⟨g,0,none⟩) ns.length cap);have J:=j.js h.sz (xb:=xb) (fun b C=>by simp at C;exact .inl C);have off:∀{u:Value},dk base w u->∀b∈ae u,b∉[xb]:=fun hd b C R=>by simp at R;have:=hd.lo b C;omega
 have P:=ownsRow_pop (by rw[Cw,Nat.mul_one]) l;exact⟨⟨h.box.set 4 (by simp) _,J.sl I.1 I.2 h.sl,h.st.aA j (off h.st.fresh),h.ed.aA j (off h.ed.fresh),aK P j (off (ak P)),aK h.fi j (off (ak h.fi)),⟨h.four.se,h.four.sn,h.four.sf,h.four.en,h.four.ef,h.four.nf⟩,I,Nat.le_trans h.sz j.size⟩,J⟩
theorem Gh{w:World}{xb B base g cap:Nat}{v sv ev nv:Value}{z y:Int}{all:List Nd}{sts:List aP}{eds:List aC}{ns:List ByteArray}{fis:List Int}(h:dA w xb B base v sv ev z nv (.slice (some ⟨g,0,none⟩) (fis.length+1) cap) all sts eds ns (fis++[y])):dA (w.setCell ⟨xb,5,none⟩ (.slice (some ⟨g,0,none⟩) fis.length cap)) xb B base v sv ev z nv (.slice (some ⟨g,0,none⟩) fis.length cap) all sts eds ns fis/\eW w (w.setCell ⟨xb,5,none⟩ (.slice (some ⟨g,0,none⟩) fis.length cap)) base xb:=by
 have l:=h.fi;rw[List.length_append,List.length_singleton,kQ]at l;have I:=h.low;have j:=aG w xb 5 (.slice (some ⟨g,0,none⟩) fis.length cap);have J:=j.js h.sz (xb:=xb) (fun b C=>by simp at C;exact .inl C);have off:∀{u:Value},dk base w u->∀b∈ae u,b∉[xb]:=fun hd b C R=>by simp at R;have:=hd.lo b C;omega
 have P:=ownsRow_pop (by rw[kt,Nat.mul_one]) l;exact⟨⟨h.box.set 5 (by simp) _,J.sl I.1 I.2 h.sl,h.st.aA j (off h.st.fresh),h.ed.aA j (off h.ed.fresh),aK h.nm j (off (ak h.nm)),aK P j (off (ak P)),⟨h.four.se,h.four.sn,h.four.sf,h.four.en,h.four.ef,h.four.nf⟩,I,Nat.le_trans h.sz j.size⟩,J⟩
theorem dA.J8{w:World}{xb B base:Nat}{v sv ev nv fv:Value}{z:Int}{all:List Nd}{sts:List aP}{eds:List aC}{ns:List ByteArray}{fis:List Int}(h:dA w xb B base v sv ev z nv fv all sts eds ns fis)(P:0<ns.length):∃g cap,nv=.slice (some ⟨g,0,none⟩) ns.length cap/\ns.length<=cap/\cap<=maxLen:=by
 rcases h.nm.2 with⟨_,J⟩|⟨g,cap,j,I,_,_,l,C,_⟩;·omega
 ·exact⟨g,cap,I,l,C⟩
theorem dA.J7{w:World}{xb B base:Nat}{v sv ev nv fv:Value}{z:Int}{all:List Nd}{sts:List aP}{eds:List aC}{ns:List ByteArray}{fis:List Int}(h:dA w xb B base v sv ev z nv fv all sts eds ns fis)(T:0<fis.length):∃g cap,fv=.slice (some ⟨g,0,none⟩) fis.length cap/\fis.length<=cap/\cap<=maxLen/\g<w.heap.size/\base<=g:=by
 rcases h.fi.2 with⟨_,R⟩|⟨g,cap,l,P,I,j,C,J,_⟩;·omega
 ·exact⟨g,cap,P,C,J,(Array.getElem?_eq_some_iff.1 j).1,I⟩
theorem dA.Jo{w:World}{xb B base:Nat}{v sv ev nv fv:Value}{z:Int}{all:List Nd}{sts:List aP}{eds:List aC}{ns:List ByteArray}{fis:List Int}{y:ByteArray}(h:dA w xb B base v sv ev z nv fv all sts eds (ns++[y]) fis):∃g cap,nv=.slice (some ⟨g,0,none⟩) (ns.length+1) cap/\ns.length+1<=cap/\cap<=maxLen:=by have:=h.J8 (by simp);rwa[List.length_append,List.length_singleton]at this
theorem dA.zg{w:World}{xb B base:Nat}{v sv ev nv fv:Value}{z y:Int}{all:List Nd}{sts:List aP}{eds:List aC}{ns:List ByteArray}{fis:List Int}(h:dA w xb B base v sv ev z nv fv all sts eds ns (fis++[y])):∃g cap,fv=.slice (some ⟨g,0,none⟩) (fis.length+1) cap/\fis.length+1<=cap/\cap<=maxLen/\w.cell? ⟨g,fis.length,none⟩=some (.int .i64 y)/\∀j,w.frozen? ⟨g,j,none⟩=false:=by have H:=h.fi;obtain⟨g,cap,rfl,l,C,I,J⟩:=h.J7 (by simp);rw[List.length_append,List.length_singleton]at*;refine⟨g,cap,rfl,l,C,cQ H rfl _ _ ?_,fun j=>(ak H).free g (by simp[ae,aJ]) j⟩;rw[kQ,List.getElem?_append_right (by rw[kt];exact Nat.le_refl _),kt,Nat.sub_self];rfl
theorem JQ{w3 P:World}{xb n c e size m base:Nat}{sv ev fv l:Value}{p:Option Addr}{T:List Value}(j:P.ownsRow base e size l m T)(o:Obj)(R:(w3.alloc o).grownBy P (Value.slice p n c).ownBlock)(C:l.ownBlock=(Value.slice p n c).ownBlock\/l.ownBlock=some (w3.alloc o).heap.size):kB w3 (P.setCell ⟨xb,4,none⟩ l) xb (dB sv ev (.slice p n c) fv) (dB sv ev l fv):=by
 obtain⟨p4,U,J⟩:=ar j;refine kB.push rfl J o R C (fun b I=>iP.2 (.inr (.inr (.inl I)))) (fun b I=>?_);rcases iP.1 I with q|q|q|q;·exact .inl (iP.2 (.inl q))
 ·exact .inl (iP.2 (.inr (.inl q)))
 ·exact .inr q
 ·exact .inl (iP.2 (.inr (.inr (.inr q))))
theorem JP{w3 P:World}{xb n c e size m base:Nat}{sv ev nv l:Value}{p:Option Addr}{T:List Value}(j:P.ownsRow base e size l m T)(o:Obj)(R:(w3.alloc o).grownBy P (Value.slice p n c).ownBlock)(C:l.ownBlock=(Value.slice p n c).ownBlock\/l.ownBlock=some (w3.alloc o).heap.size):kB w3 (P.setCell ⟨xb,5,none⟩ l) xb (dB sv ev nv (.slice p n c)) (dB sv ev nv l):=by
 obtain⟨p4,U,J⟩:=ar j;refine kB.push rfl J o R C (fun b I=>iP.2 (.inr (.inr (.inr I)))) (fun b I=>?_);rcases iP.1 I with q|q|q|q;·exact .inl (iP.2 (.inl q))
 ·exact .inl (iP.2 (.inr (.inl q)))
 ·exact .inl (iP.2 (.inr (.inr (.inl q))))
 ·exact .inr q
theorem JR{w3 P:World}{xb n c e size m base:Nat}{ev nv fv l:Value}{p:Option Addr}{T:List Value}(j:P.ownsRow base e size l m T)(o:Obj)(R:(w3.alloc o).grownBy P (Value.slice p n c).ownBlock)(C:l.ownBlock=(Value.slice p n c).ownBlock\/l.ownBlock=some (w3.alloc o).heap.size):kB w3 (P.setCell ⟨xb,1,none⟩ l) xb (dB (.slice p n c) ev nv fv) (dB l ev nv fv):=by
 obtain⟨p4,U,J⟩:=ar j;refine kB.push rfl J o R C (fun b I=>iP.2 (.inl I)) (fun b I=>?_);rcases iP.1 I with q|q|q|q;·exact .inr q
 ·exact .inl (iP.2 (.inr (.inl q)))
 ·exact .inl (iP.2 (.inr (.inr (.inl q))))
 ·exact .inl (iP.2 (.inr (.inr (.inr q))))
section
attribute [local go_sem ↓] Go.wp_at_zero Go.wp_at_succ
theorem dA.drew{w:World}{xb B base:Nat}{v sv ev nv fv:Value}{z:Int}{all:List Nd}{sts:List aP}{eds:List aC}{ns:List ByteArray}{fis:List Int}(h:dA w xb B base v sv ev z nv fv all sts eds ns fis):dA w.drew xb B base v sv ev z nv fv all sts eds ns fis:=h.tJ ⟨(aH.refl w).drew⟩
theorem Cv(x:ByteArray):∀u∈([.string x]:List Value),u.oneCell'=true:=by intro u hu;simp at hu;subst hu;rfl
theorem Ej(x:Int):∀u∈([.int .i64 x]:List Value),u.oneCell'=true:=by intro u hu;simp at hu;subst hu;rfl
theorem DZ(f:Nat)(hf:lU f)(st all r:List Nd)(l:Nat)(w:World)(xb B base:Nat)(v sv ev:Value)(z:Int)(nv fv:Value)(sts:List aP)(eds:List aC)(ns:List ByteArray)(fis:List Int)(name an:ByteArray)(many aq:Int)(a0:l<all.length)(hx:all[l]=⟨2,name,an,many,aq⟩)(ha:ahead (bC true) f (⟨2,name,an,many,aq⟩::st) (all.drop (l+1))=some r)(bp:all.length<=40)(a3:fis.length=ns.length)(cM:ns.length+(f+1)<=100)(bs:jn all l=sts.length)(b4:eds.length+(all.length-l)<=900)(h:dA w xb B base v sv ev z nv fv all sts eds ns fis):Calls Tryz.prog 239 #[.pointer (some ⟨xb,0,none⟩),.int .i64 (l:Int)] w fun e w'=>Made w w' xb B base v z (dB sv ev nv fv) all ns fis e (Go.Proofs.YtdiiiijkhpdcbaaGreatDoor.sv f (ns++[name]) (fis++[bK (ns++[name]) (fis++[0]) sts.length (all.drop (l+1))]) (all.drop (l+1)) (sts,eds)):=by
 have H:=aa h;have c0:=h.box.cell 0 _ rfl;have c4:=h.box.cell 4 _ rfl;have cz:=h.box.fz;have cR:=h.box.lt;obtain⟨i0,hi,bL,bM,bN⟩:=info_parts Tryz.rP;have HI:=aa (And.intro hi (And.intro bL (And.intro bM bN)));obtain⟨i1,bv,bx,bz,bB⟩:=info_parts Tryz.qO;have HJ:=aa (And.intro bv (And.intro bx (And.intro bz bB)));obtain⟨pn,cn,ca⟩:=ar h.nm;obtain⟨ao,cap,rfl,cu,cv,hr⟩:=h.sl;obtain⟨b,o,rfl,hb,a4⟩:=hr (by rintro rfl;simp at a0);have aR:=a4.get l a0;rw[hx]at aR;obtain⟨d0,d1,d2,d3,d4⟩:=aR;dsimp only at d0 d1 d2 d3 d4;subst ca;have aM:jn all (l+1)=sts.length:=by rw[kb a0,hx,<-bs];rfl
 have b7:l+1<all.length:=by
  rcases Nat.lt_or_ge (l+1) all.length with h1|h1;·exact h1
  ·rw[List.drop_eq_nil_of_le h1]at ha;cases f<;>cases ha
 have br:¬(∀n∈all.drop (l+1),n.op=2):=jI _ _ _ _ ha;obtain⟨fst,aN⟩:∃x,bK (ns++[name]) (fis++[0]) sts.length (all.drop (l+1))=x:=⟨_,rfl⟩;rw[aN];have bf:Hid (∀(W:World)(U P ad ac:Value),dA W xb B base (.slice (some ⟨b,o,none⟩) all.length cap) U P z ad ac all sts eds (ns++[name]) (fis++[0])->Calls Tryz.prog 238 #[.pointer (some ⟨xb,0,none⟩),.int .i64 ((l:Int)+1)] W fun e w'=>e=.returned (.int .i64 fst)/\ZW W w'):=aa (fun W U P ad ac hW=>by have:=lH all (ns++[name]) (fis++[0]) (by simp;omega) (by simp;omega) (by omega) _ (l+1) xb W.heap.size W rfl br hW.Dt (Nat.le_refl _);rw[aM,aN]at this;rw[show(l:Int)+1=((l+1:Nat):Int)by omega];exact this);have bl:Hid (∀(W:World)(U P ad ac:Value),dA W xb B base (.slice (some ⟨b,o,none⟩) all.length cap) U P z ad ac all sts eds (ns++[name]) (fis++[fst])->Calls Tryz.prog 239 #[.pointer (some ⟨xb,0,none⟩),.int .i64 ((l:Int)+1)] W fun e w'=>Made W w' xb B base (.slice (some ⟨b,o,none⟩) all.length cap) z (dB U P ad ac) all (ns++[name]) (fis++[fst]) e (Go.Proofs.YtdiiiijkhpdcbaaGreatDoor.sv f (ns++[name]) (fis++[fst]) (all.drop (l+1)) (sts,eds))):=aa (fun W U P ad ac hW=>by have:=hf _ all r (l+1) W xb B base _ U P z ad ac sts eds (ns++[name]) (fis++[fst]) ha bp b7 (by simp;omega) (by simp;omega) aM (by omega) hW;rw[show(l:Int)+1=((l+1:Nat):Int)by omega];exact this);obtain⟨O,hO⟩:∃O,Go.Proofs.YtdiiiijkhpdcbaaGreatDoor.sv f (ns++[name]) (fis++[fst]) (all.drop (l+1)) (sts,eds)=O:=⟨_,rfl⟩;rw[hO]at bl|-;have ab:=aa a3;have bb:Hid (∀ob:Obj,dA (w.alloc ob).drew xb B base (.slice (some ⟨b,o,none⟩) all.length cap) sv ev z (.slice pn ns.length cn) fv all sts eds ns fis):=aa (fun ob=>(H.out.tJ ((jj.dx (Below.refl _ _)).alloc ob)).drew);have HS:=aa H.out.sz;clear h hr hi bL bM bN bv bx bz bB hf br ha bs aM aN hO hx a4 a3 b4;go_in;go_wp2;go_region_law(refine gh rfl (.tmp 47) (.tmp 50) 42 rfl base 9 i0 (.string .empty) 1 16 Tryz.underlying42 HI.out.1 HI.out.2.1 HI.out.2.2.1 HI.out.2.2.2 rfl (by decide) (.slice pn ns.length cn) ns.length (jT ns) (by simp[Act.eval]) (aT (bb.out _).nm (ag _ _)) ⟨w.heap.size+1,0,none⟩ 1 1 [.string name] (by simp[Act.eval]) rfl (fun j u hj=>kq _ _ _ _ (by simp) j u hj) (Cv _) (by unfold maxLen;omega) (by omega) (by have:=HS.out;simp;omega) ?_;intro v4 w4 T ah az;have a8:=aa (D9 (bb.out _) name _ T ah az);have bn:=aa (JQ (w3:=(w.alloc (.cells #[.int .i64 2,.string name,.string an,.int .i64 many,.int .i64 aq] 156)).drew) (xb:=xb) (sv:=sv) (ev:=ev) (fv:=fv) T _ ah az);have a6:=aa ((bb.out (.cells #[.int .i64 2,.string name,.string an,.int .i64 many,.int .i64 aq] 156)).box.aA ((aj (ag _ _)).trans (aE ah)) (fun hm=>by rw[List.nil_append]at hm;have:=(ak H.out.nm).lo _ hm;have:=H.out.low;omega));have l4:=a6.out.cell 4 _ rfl;have lz:=a6.out.fz;obtain⟨p4,c4,rfl⟩:=ar T;clear T ah az);all_goals
  obtain⟨W5,ay⟩:∃W,W=w4.setCell ⟨xb,4,none⟩ (.slice p4 (ns.length+1) c4):=⟨_,rfl⟩;rw[<-ay];have J:=aa (show dA W5 xb B base (.slice (some ⟨b,o,none⟩) all.length cap) sv ev z (.slice p4 (ns.length+1) c4) fv all sts eds (ns++[name]) fis by rw[ay];exact a8.out.1);have bR:=aa (show eW w W5 base xb by rw[ay];exact((jj.dx (ag w _)).ap.drew.js H.out.sz (by simp)).trans a8.out.2);have b1:=aa (show kB w W5 xb (dB sv ev (.slice pn ns.length cn) fv) (dB sv ev (.slice p4 (ns.length+1) c4) fv)by rw[ay];exact(kB.tJ ⟨(jj.dx (ag w _)).ap.drew⟩).trans bn.out);clear ay a8 a6 bn l4 lz;have c5:=J.out.box.cell 5 _ rfl;have z5:=J.out.box.fz;have cN:=J.out.box.lt;have cy:fis.length<=ns.length:=by have:=ab.out;omega
  have cI:ns.length<=fis.length:=by have:=ab.out;omega
  obtain⟨pf,cf,b5⟩:=ar J.out.fi;subst b5;go_wp2_with(first|(go_at_call 239;refine(bl.out _ _ _ _ _ a9.out.1).mono ?_;rintro e cb⟨U,P,ad,ac,rfl,C,a2,a5⟩;obtain⟨cq,cl,rfl,cc,cg⟩:=C.Jo;obtain⟨cr,cm,rfl,cd,ch,-,-⟩:=C.zg;have bk:=aa C;have bi:=aa a2;have bm:=aa a5;have m4:=C.box.cell 4 _ rfl;have m5:=C.box.cell 5 _ rfl;have mz:=C.box.fz;clear C a2 a5)|(go_at_call 238;refine(bf.out _ _ _ _ _ av.out.1).mono ?_;rintro e w8⟨rfl,a1⟩;have ax:=aa (av.out.1.tJ (jj.dx a1));have b0:=aa (av.out.2.trans ((jj.dx a1).ap.js av.out.1.sz (by simp)));have e4:=ax.out.box.cell 4 _ rfl;have e5:=ax.out.box.cell 5 _ rfl;have ez:=ax.out.box.fz;obtain⟨cs,cp,I,-,-,e6,ey⟩:=ax.out.zg;injection I with I _ _;injection I with I;injection I with I;subst I;have b3:=aa (kB.tJ (xb:=xb) (R:=dB sv ev (.slice p4 (ns.length+1) c4) (.slice (some ⟨g6,0,none⟩) (fis.length+1) c6)) (jj.dx a1));have a9:=aa (Gj ax.out fst);rw[ab.out]at e6;rw[show(⟨g6,fis.length,none⟩:Addr)=⟨g6,ns.length,none⟩by rw[ab.out]]at a9;clear a1)|(at_builtin;refine wpList_append_own_at _ rfl (.tmp 58) (.tmp 59) 23 rfl base 2 i1 (.int .i64 0) 1 8 Tryz.underlying23 HJ.out.1 HJ.out.2.1 HJ.out.2.2.1 HJ.out.2.2.2 rfl (by decide) (.slice pf fis.length cf) fis.length (jR fis) rfl (aT J.out.fi (ag _ _)) ⟨W5.heap.size,0,none⟩ 1 1 [.int .i64 0] rfl rfl (fun j u hj=>kq W5 _ _ _ rfl j u hj) (Ej _) (by unfold maxLen;omega) (by omega) (by have:=J.out.sz;simp;omega) ?_;intro v6 w6 af al _ aL;have av:=aa (D8 J.out 0 _ af al aL);have b2:=aa (JP (xb:=xb) (sv:=sv) (ev:=ev) (nv:=.slice p4 (ns.length+1) c4) af _ al aL);have a7:=aa (J.out.box.aA ((aj (ag _ _)).trans (aE al)) (fun hm=>by rw[List.nil_append]at hm;have:=(ak J.out.fi).lo _ hm;have:=J.out.low;omega));have l5:=a7.out.cell 5 _ rfl;have l4:=a7.out.cell 4 _ rfl;have lz:=a7.out.fz;obtain⟨g6,c6,rfl,cx,cL,-,-⟩:=av.out.1.zg;clear af al aL));go_ret;have h1:=Gi bk.out;have h2:=Gh h1.1;rw[ab.out]at h2;refine⟨U,P,_,_,rfl,h2.1,((((bR.out.trans b0.out).trans a9.out.2).trans bi.out).trans h1.2).trans h2.2,?_⟩;refine(((((b1.out.trans b2.out).trans b3.out).trans (kB.apart (aG w8 g6 ns.length (.int .i64 fst)) (fun b hb=>?_) (fun b hb=>.inl hb))).trans bm.out).trans (kB.apart (aG cb xb 4 _) (fun b hb=>.inl (by simpa using hb)) (fun b hb=>.inl hb))).trans (kB.apart (aG _ xb 5 _) (fun b hb=>.inl (by simpa using hb)) (fun b hb=>.inl ?_));·simp at hb;subst hb;exact .inr (iP.2 (.inr (.inr (.inr (by simp[ae,aJ])))))
  ·rw[iP]at hb|-;simpa[ae,aJ]using hb
end
theorem BN{go:List Nd->Option (List Nd)}{m:Nat}{ls:List ByteArray}{l r:List Nd}(h:bA go (m+1) ls l=some r):∃c l' j,l=c::l'/\jE c=false/\go l'=some j/\bA go m (ls++[c.name]) j=some r:=by
 cases l with
  |nil=>cases h|cons c l'=>
   rw[bA]at h;split at h;·
    rename_i I;split at h;·cases h
    ·rename_i j C;refine⟨c,l',j,rfl,?_,C,h⟩;simp only[eE,Bool.and_eq_true,beq_iff_eq]at I;unfold jE;rw[I.1.1.1.1.1];rfl
   ·cases h
theorem kB.cell{w w':World}{xb:Nat}{R R':List Nat}(h:kB w w' xb R R'){b o:Nat}{x:Value}(j:w.cell? ⟨b,o,none⟩=some x)(C:b≠xb)(l:b∉R):w'.cell? ⟨b,o,none⟩=some x:=(World.cell?_of_block (a:=⟨b,o,none⟩) (h.block b (World.block_lt_of_cell? w _ j) C l)).trans j
theorem D7{w3 T:World}{xb B base:Nat}{v sv ev l nv fv:Value}{z:Int}{all:List Nd}{sts:List aP}{eds I:List aC}{ns:List ByteArray}{fis:List Int}(h:dA w3 xb B base v sv ev z nv fv all sts eds ns fis)(ho:bD T w3.heap.size l I)(hc:T.cell? ⟨xb,2,none⟩=some l)(he:Io w3 T xb):dA T xb B base v sv l z nv fv all sts I ns fis/\eW w3 T base xb/\kB w3 T xb (dB sv ev nv fv) (dB sv l nv fv):=by
 have hl:=h.low;have R:=he.ap;have hK:=R.js h.sz (xb:=xb) (fun b C=>by simp at C;exact .inl C);have off:∀{u:Value},dk base w3 u->∀b∈ae u,b∉[xb]:=fun hd b C U=>by simp at U;have:=hd.lo b C;omega
 have new:∀{u:Value},dk base w3 u->∀b∈ae u,b∉ae l:=fun hd b C U=>by have:=hd.hi b C;have:=ho.fresh.lo b U;omega
 have P:∀{u:Value},dk base w3 u->∀b∈ae l,b∉ae u:=fun hd b C U=>new hd b U C;refine⟨⟨⟨fun i x J=>?_,fun o=>he.fz o (h.box.fz o),Nat.lt_of_lt_of_le h.box.lt R.size⟩,hK.sl hl.1 hl.2 h.sl,h.st.aA R (off h.st.fresh),bH ho h.sz,aK h.nm R (off (ak h.nm)),aK h.fi R (off (ak h.fi)),⟨new h.st.fresh,h.four.sn,h.four.sf,P (ak h.nm),P (ak h.fi),h.four.nf⟩,hl,Nat.le_trans h.sz R.size⟩,hK,kB.apart R (fun b C=>by simp at C;exact .inl C) (fun b C=>?_)⟩;·
  by_cases hi:i=2;·subst hi;simp at J;subst J;exact hc
  ·refine he.KT i x hi (h.box.cell i x ?_);match i,hi with|0,_=>exact J|1,_=>exact J|3,_=>exact J|4,_=>exact J|5,_=>exact J|j+6,_=>simp at J
 ·rcases iP.1 C with q|q|q|q;·exact .inl (iP.2 (.inl q))
  ·exact .inr (ho.fresh.lo b q)
  ·exact .inl (iP.2 (.inr (.inr (.inl q))))
  ·exact .inl (iP.2 (.inr (.inr (.inr q))))
theorem EL{w:World}{xb B base:Nat}{v sv ev nv fv:Value}{z:Int}{all:List Nd}{sts:List aP}{eds:List aC}{ns:List ByteArray}{fis:List Int}(h:dA w xb B base v sv ev z nv fv all sts eds ns fis):∀b∈dB sv ev nv fv,b<w.heap.size:=fun b j=>by
 rcases iP.1 j with q|q|q|q;·exact h.st.fresh.hi b q
 ·exact h.ed.fresh.hi b q
 ·exact(ak h.nm).hi b q
 ·exact(ak h.fi).hi b q
structure zK(w0 wn w:World)(xb B base:Nat)(v:Value)(z:Int)(R:List Nat)(all:List Nd)(ns:List ByteArray)(fis:List Int)(go:List Nd->List aP×List aC->List Nd×List aP×List aC)(ka:List Nd->Option (List Nd))(s:Int)(r:List Nd)(fin:List Nd×List aP×List aC)(m pos:Nat)(sts:List aP)(eds:List aC)(sv ev nv fv:Value):Prop where
 ma:dA w xb B base v sv ev z nv fv all sts eds ns fis
 ah:∃ls,bA ka m ls (all.drop pos)=some r
 le:pos<=all.length
 kC:jn all pos=sts.length
 ed:eds.length+(all.length-pos)<=900
 same:fh go (fun l k=>bK ns fis k l) s m (all.drop pos) (sts,eds)=fin
 kept:eW w0 w base xb
 four:kB wn w xb R (dB sv ev nv fv)
theorem Jm{w:World}{B b o n cap:Nat}{all:List Nd}(h:bF w B (.slice (some ⟨b,o,none⟩) n cap) all)(I:all≠[]):cV w b o all:=by obtain⟨U,T,P,-,-,J⟩:=h;obtain⟨b',o',C,-,l⟩:=J I;subst C;injection P with j _ _;injection j with j;injection j with j R;subst j;subst R;exact l
theorem tK{w w':World}{xb B base:Nat}{v sv ev nv fv:Value}{z:Int}{all:List Nd}{sts:List aP}{eds:List aC}{ns:List ByteArray}{fis:List Int}(h:dA w xb B base v sv ev z nv fv all sts eds ns fis)(j:ZW w w'):dA w' xb B base v sv ev z nv fv all sts eds ns fis:=h.tJ (jj.dx j)
theorem zx{f xb B base m j:Nat}{st all r:List Nd}{w0 wn wr:World}{v ab az U T:Value}{z s:Int}{R:List Nat}{ns:List ByteArray}{fis:List Int}{aL:List Nd×List aP×List aC}{C:List aP}{I:List aC}(h:zK w0 wn wr xb B base v z R all ns fis (Go.Proofs.YtdiiiijkhpdcbaaGreatDoor.sv f ns fis) (ahead (bC true) f st) s r aL (m+1) j C I ab az U T)(hf:lU f)(ay:fis.length=ns.length)(aM:all.length<=40)(a9:ns.length+(f+1)<=100):∃(ad:j<all.length)(J:Int)(O:List Nd×List aP×List aC),(∀W,ZW wr W->Calls Tryz.prog 238 #[.pointer (some ⟨xb,0,none⟩),.int .i64 ((j:Int)+1)] W fun e w'=>e=.returned (.int .i64 J)/\ZW W w')/\(∀W P,dA W xb B base v ab P z U T all C (gW ⟨s,all[j].name,all[j].sort,J⟩ I) ns fis->Calls Tryz.prog 239 #[.pointer (some ⟨xb,0,none⟩),.int .i64 ((j:Int)+1)] W fun e w'=>Made W w' xb B base v z (dB ab P U T) all ns fis e O)/\(∀W W' P aq af ao al,eW wr W base xb->kB wr W xb (dB ab az U T) (dB ab P U T)->dA W' xb B base v aq af z ao al all O.2.1 O.2.2 ns fis->eW W W' base xb->kB W W' xb (dB ab P U T) (dB aq af ao al)->zK w0 wn W' xb B base v z R all ns fis (Go.Proofs.YtdiiiijkhpdcbaaGreatDoor.sv f ns fis) (ahead (bC true) f st) s r aL m (all.length-O.1.length) O.2.1 O.2.2 aq af ao al)/\I.length<=900:=by
 obtain⟨ls,a3⟩:=h.ah;obtain⟨c,l',r1,an,a5,ac,a2⟩:=BN a3;have ad:j<all.length:=by
  rcases Nat.lt_or_ge j all.length with h1|h1;·exact h1
  ·rw[List.drop_eq_nil_of_le h1]at an;cases an
 rw[List.drop_eq_getElem_cons ad]at an;injection an with e1 e2;subst e2;subst e1;have av:jn all (j+1)=C.length:=by rw[kb ad,a5,<-h.kC];rfl
 have aR:¬(∀n∈all.drop (j+1),n.op=2):=jI _ _ _ _ ac;have aN:j+1<all.length:=by
  rcases Nat.lt_or_ge (j+1) all.length with h1|h1;·exact h1
  ·rw[List.drop_eq_nil_of_le h1]at ac;cases f<;>cases ac
 obtain⟨J,ax⟩:∃x,bK ns fis C.length (all.drop (j+1))=x:=⟨_,rfl⟩;have a8:=h.ed;have hg:=Ii f st (all.drop (j+1)) r1 ns fis (C,gW ⟨s,all[j].name,all[j].sort,J⟩ I) ac;obtain⟨O,hO⟩:∃O,Go.Proofs.YtdiiiijkhpdcbaaGreatDoor.sv f ns fis (all.drop (j+1)) (C,gW ⟨s,all[j].name,all[j].sort,J⟩ I)=O:=⟨_,rfl⟩;rw[hO]at hg;refine⟨ad,J,O,fun W hb=>?_,fun W P hW=>?_,fun W W' P aq af ao al a0 a6 a4 a1 a7=>?_,by omega⟩;·have:=lH all ns fis ay (by omega) (by omega) _ (j+1) xb W.heap.size W rfl aR (tK h.ma hb).Dt (Nat.le_refl _);rw[av,ax]at this;rw[show(j:Int)+1=((j+1:Nat):Int)by omega];exact this
 ·have:=hf st all r1 (j+1) W xb B base v ab P z U T C _ ns fis ac aM aN ay (by omega) av (by rw[rQ];omega) hW;rw[hO]at this;rw[show(j:Int)+1=((j+1:Nat):Int)by omega];exact this
 ·have hl:=F8 (fa _ _ _ _ _ ac);obtain rfl:O.1=r1:=hg.rest;have h1:=hg.sts;have h2:=hg.eds;have h3:=tC all (j+1);have h4:=tC all (all.length-O.1.length);rw[<-hl.1]at h4;rw[List.length_drop,rQ]at h2;dsimp only at h1;refine⟨a4,⟨_,by rw[<-hl.1];exact a2⟩,by omega,by omega,by omega,?_,(h.kept.trans a0).trans a1,(h.four.trans a6).trans a7⟩;rw[<-hl.1,<-h.same,List.drop_eq_getElem_cons ad];have e:fh (Go.Proofs.YtdiiiijkhpdcbaaGreatDoor.sv f ns fis) (fun l k=>bK ns fis k l) s (m+1) (all[j]::all.drop (j+1)) (C,I)=fh (Go.Proofs.YtdiiiijkhpdcbaaGreatDoor.sv f ns fis) (fun l k=>bK ns fis k l) s m (Go.Proofs.YtdiiiijkhpdcbaaGreatDoor.sv f ns fis (all.drop (j+1)) (C,gW ⟨s,all[j].name,all[j].sort,bK ns fis C.length (all.drop (j+1))⟩ I)).1 (Go.Proofs.YtdiiiijkhpdcbaaGreatDoor.sv f ns fis (all.drop (j+1)) (C,gW ⟨s,all[j].name,all[j].sort,bK ns fis C.length (all.drop (j+1))⟩ I)).2:=rfl;rw[e,ax,hO]
section
attribute [local go_sem ↓] Go.wp_at_zero Go.wp_at_succ
def Hr{α:Type}(t:ByteArray)(l:List (Br α)):Int:=match gU t l with|none=>-1|some i=>(i:Int)
theorem oZ{α:Type}{t:ByteArray}:∀{l:List (Br α)}{k:Nat}{b:Br α},(∀j c,l[j]?=some c->j<k->(c.l.toList==t.toList)=false)->l[k]?=some b->(b.l.toList==t.toList)=true->gU t l=some k|[],k,b,_,C,_=>by simp at C|c::l,0,b,_,C,h=>by simp at C;subst C;rw[gU,if_pos h]|c::l,k+1,b,I,C,h=>by have J:=I 0 c rfl (by omega);rw[gU,J];rw[List.getElem?_cons_succ]at C;rw[oZ (fun j d P R=>I (j+1) d (by rw[List.getElem?_cons_succ];exact P) (by omega)) C h];rfl
theorem oY{α:Type}{t:ByteArray}:∀{l:List (Br α)},(∀(j:Nat)(c:Br α),l[j]?=some c->(c.l.toList==t.toList)=false)->gU t l=none|[],_=>rfl|c::l,C=>by rw[gU,C 0 c rfl,oY (fun j d I=>C (j+1) d (by rw[List.getElem?_cons_succ];exact I))];rfl
theorem Bl(n:Nat)(t:ByteArray)(S:Nat->Prop)(l:List (Br (Pn n)))(v:Value)(w:World)(hs:qE w S v l)(hl:l.length<=1000):Calls Tryz.prog 323 #[v,.string t] w fun e w'=>e=.returned (.int .i64 (Hr t l))/\ZW w w':=by
 obtain⟨ao,cap,rfl,aq,av,hr⟩:=hs;have HR:=aa hr;obtain⟨L,hL⟩:∃L,l.length=L:=⟨_,rfl⟩;rw[hL]at aq hl|-;have R:=aa hL;clear hr hL;go_in;go_wp2;go_loopw[9](fun i wr=>∃k:Nat,k<=L/\i=.int .i64 k/\(∀j c,l[j]?=some c->j<k->(c.l.toList==t.toList)=false)/\ZW w wr)(fun i _=>L-(intOf i).toNat);case atStart=>exact⟨0,Nat.zero_le _,rfl,fun j _ _ h=>absurd h (by omega),Below.refl _ _⟩
 case round=>
  obtain⟨k,hk,rfl,al,C⟩:=hrel;have U:=aa al;have J:=aa C;have an:=C.size;clear al;by_cases ah:k<L;·
   obtain⟨g,o,rfl,hg,I⟩:=HR.out (by rintro rfl;have:=R.out;simp at this;omega);obtain⟨b0,ab⟩:∃b0,l[k]?=some b0:=⟨l[k]'(by rw[R.out];exact ah),List.getElem?_eq_getElem _⟩;obtain⟨k1,k2,u,k3,k4⟩:=I k b0 ab;obtain⟨T,a,rfl⟩:=k4.shape;have ac:g<w.heap.size:=World.block_lt_of_cell? w _ k1;have e1:=(C.cell (p:=⟨g,o+k*3,none⟩) ac).trans k1;have e2:=(C.cell (p:=⟨g,o+k*3+1,none⟩) ac).trans k2;have e3:=(C.cell (p:=⟨g,o+k*3+2,none⟩) ac).trans k3;have ad:=aa ab;obtain⟨bl,bs,bp⟩:=b0;dsimp only at e1 e2;clear I k1 k2 k3 k4 ab C;cases heq:(bl.toList==t.toList);·
    go_wp2;go_roundw;case rel=>
     refine⟨k+1,ah,by go_num,fun j c P ax=>?_,J.out.trans ((ag _ _).mono an)⟩;by_cases af:j=k;·subst af;rw[ad.out]at P;injection P with P;subst P;exact heq
     ·exact U.out j c P (by omega)
    case measure=>simp[intOf];omega
   ·go_wp2;go_ret;refine⟨bc ?_,J.out.trans ((ag _ _).mono an)⟩;rw[Hr,oZ U.out ad.out heq]
  ·go_wp2;go_ret;refine⟨bc ?_,J.out⟩;rw[Hr,oY (fun j c P=>U.out j c P (by have:=(List.getElem?_eq_some_iff.1 P).1;rw[R.out]at this;omega))]
theorem xt(a b:Nd)(W:World):(Op.equalIn 10000 156 (.agg #[.int .i64 a.op,.string a.name,.string a.peer,.int .i64 a.many,.int .i64 a.sort]) (.agg #[.int .i64 b.op,.string b.name,.string b.peer,.int .i64 b.many,.int .i64 b.sort])).run Tryz.prog W=.ok (oE a b) W:=by
 by_cases j:a.op=b.op;·
  by_cases l:a.name.toList=b.name.toList;·
   by_cases C:a.peer.toList=b.peer.toList;·
    by_cases I:a.many=b.many;·by_cases J:a.sort=b.sort;all_goals go_simp;simp[oE,j,l,C,I,J]
    ·go_simp;simp[oE,j,l,C,I]
   ·go_simp;simp[oE,j,l,C]
  ·go_simp;simp[oE,j,l]
 ·go_simp;simp[oE,j]
theorem pG:∀{x y:List Nd},x.length≠y.length->fC x y=false|[],[],h=>absurd rfl h|[],_::_,_=>rfl|_::_,[],_=>rfl|a::l,b::r,h=>by rw[fC,pG (fun e=>h (by simp[e])),Bool.and_false]
theorem sJ:∀{x y:List Nd}{k:Nat}(j:k<x.length)(C:k<y.length),oE x[k] y[k]=false->fC x y=false|a::l,b::r,0,_,_,h=>by simp only[List.getElem_cons_zero]at h;rw[fC,h,Bool.false_and]|a::l,b::r,k+1,j,C,h=>by simp only[List.getElem_cons_succ]at h;rw[fC,sJ (by simpa using j) (by simpa using C) h,Bool.and_false]
theorem pH:∀{x y:List Nd},x.length=y.length->(∀k(I:k<x.length)(J:k<y.length),oE x[k] y[k]=true)->fC x y=true|[],[],_,_=>rfl|[],_::_,h,_=>by simp at h|_::_,[],h,_=>by simp at h|a::l,b::r,h,j=>by have C:=j 0 (by simp) (by simp);simp only[List.getElem_cons_zero]at C;rw[fC,C,pH (by simpa using h) (fun k I J=>by have:=j (k+1) (by simpa using I) (by simpa using J);simpa using this)];rfl
def vF(w:World)(v:Value)(l:List Nd):Prop:=∃j cap,v=.slice j l.length cap/\l.length<=1000/\(l≠[]->∃g o,j=some ⟨g,o,none⟩/\g<w.heap.size/\cV w g o l)
theorem za(w:World)(g:Nat):∀(l:List Nd)(o:Nat),(∀j(C:j<l.length),cZ w g (o+j*5) l[j])->cV w g o l|[],_,_=>trivial|x::l,o,I=>by refine⟨by have:=I 0 (by simp);simpa using this,za w g l (o+5) (fun j C=>?_)⟩;have:=I (j+1) (by simpa using C);rw[show o+(j+1)*5=o+5+j*5 by omega]at this;simpa using this
theorem bV.rd{w:World}{base:Nat}{v:Value}{l:List Nd}(h:bV w base v l)(J:l.length<=1000):vF w v l:=by
 have H:=h;obtain⟨_,T⟩:=h;rcases T with⟨rfl,R⟩|⟨I,cap,P,rfl,hg,C,hc,hm,_⟩;·have:l=[]:=List.length_eq_zero_iff.1 R;subst this;exact⟨none,0,rfl,J,fun h=>absurd rfl h⟩
 ·refine⟨_,cap,rfl,J,fun _=>⟨I,0,rfl,(Array.getElem?_eq_some_iff.1 C).1,za w I l 0 (fun j U=>?_)⟩⟩;rw[Nat.zero_add];have e:=fun i(hi:i<5)(x:Value)(hx:(l[j].cells)[i]?=some x)=>cQ H rfl (j*5+i) x ((dT Nd.cells 5 Nd.bh l j U i hi).trans hx);exact⟨e 0 (by omega) _ rfl,e 1 (by omega) _ rfl,e 2 (by omega) _ rfl,e 3 (by omega) _ rfl,e 4 (by omega) _ rfl⟩
theorem vF.on{w w':World}{v:Value}{l:List Nd}(h:vF w v l)(I:ZW w w'):vF w' v l:=by obtain⟨J,cap,e,T,U⟩:=h;refine⟨J,cap,e,T,fun j=>?_⟩;obtain⟨g,o,P,C,R⟩:=U j;exact⟨g,o,P,Nat.lt_of_lt_of_le C I.size,R.carry C I⟩
theorem B4(x y:List Nd)(v u:Value)(w:World)(hx:vF w v x)(hy:vF w u y):Calls Tryz.prog 317 #[v,u] w fun e w'=>e=.returned (.bool (fC x y))/\ZW w w':=by
 obtain⟨ax,cx,rfl,a1,aL⟩:=hx;obtain⟨ay,cy,rfl,a2,aM⟩:=hy;have aN:=aa aL;have aR:=aa aM;obtain⟨L,hL⟩:∃L,x.length=L:=⟨_,rfl⟩;obtain⟨M,hM⟩:∃M,y.length=M:=⟨_,rfl⟩;rw[hL]at a1|-;rw[hM]at a2|-;have HL:=aa hL;have HM:=aa hM;clear aL aM hL hM;by_cases az:L=M;·
  subst az;go_in;go_wp2;go_loopw[13](fun i wr=>∃k:Nat,k<=L/\i=.int .i64 k/\(∀j(h1:j<x.length)(h2:j<y.length),j<k->oE x[j] y[j]=true)/\ZW w wr)(fun i _=>L-(intOf i).toNat);case atStart=>exact⟨0,Nat.zero_le _,rfl,fun j _ _ h=>absurd h (by omega),Below.refl _ _⟩
  case round=>
   obtain⟨k,hk,rfl,R,C⟩:=hrel;have HA:=aa R;have l:=aa C;clear R;by_cases ab:k<L;·
    have J:k<x.length:=by rw[HL.out];exact ab
    have P:k<y.length:=by rw[HM.out];exact ab
    obtain⟨b,o,rfl,a0,T⟩:=aN.out (by intro h;rw[h]at J;simp at J);obtain⟨b',o',rfl,an,I⟩:=aR.out (by intro h;rw[h]at P;simp at P);have aq:=(T.get k J).carry a0 C;have av:=(I.get k P).carry an C;obtain⟨U,ac⟩:∃U,x[k]=U:=⟨_,rfl⟩;obtain⟨y1,ad⟩:∃y1,y[k]=y1:=⟨_,rfl⟩;rw[ac]at aq;rw[ad]at av;obtain⟨c0,c1,c2,c3,c4⟩:=aq;obtain⟨d0,d1,d2,d3,d4⟩:=av;obtain⟨r,hr⟩:∃r,oE U y1=r:=⟨_,rfl⟩;have heq:∀W,(Op.equalIn 10000 156 (.agg #[.int .i64 U.op,.string U.name,.string U.peer,.int .i64 U.many,.int .i64 U.sort]) (.agg #[.int .i64 y1.op,.string y1.name,.string y1.peer,.int .i64 y1.many,.int .i64 y1.sort])).run Tryz.prog W=.ok r W:=fun W=>by rw[xt,hr]
    have af:=aa hr;have ah:=aa ac;have al:=aa ad;clear T I hr ac ad C;cases r;·go_wp2;go_region;go_wp2;all_goals go_ret;exact⟨aD (sJ J P (by rw[ah.out,al.out];exact af.out)),by first|exact l.out|exact l.out.drew⟩
    ·go_wp2;go_region;go_wp2;all_goals
      go_roundw;case rel=>
       refine⟨k+1,ab,by go_num,fun j h1 h2 a3=>?_,by first|exact l.out|exact l.out.drew⟩;by_cases ao:j=k;·subst ao;rw[ah.out,al.out];exact af.out
       ·exact HA.out j h1 h2 (by omega)
      case measure=>simp[intOf];omega
   ·go_wp2;go_ret;exact⟨aD (pH (by rw[HL.out,HM.out]) (fun j h1 h2=>HA.out j h1 h2 (by rw[HL.out]at h1;omega))),l.out⟩
 ·have HF:Hid (fC x y=false):=aa (pG (by rw[HL.out,HM.out];exact az));have hq:((L:Int)==(M:Int))=false:=beq_eq_false_iff_ne.2 (by omega);go_in;go_wp2;go_ret;exact⟨aD HF.out,Below.refl _ _⟩
def plus(S:Nat->Prop)(a m:Nat):Nat->Prop:=fun b=>S b\/(a<=b/\b<m)
def s9(S:Nat->Prop)(a m:Nat)(v:Value):Nat->Prop:=fun b=>plus S a m b/\b∉ae v
section
variable {n : Nat}
structure zE(S:Nat->Prop)(a:Nat)(w:World)(base:Nat)(v:Value)(l:List (BV n)):Prop where
 own:w.ownsRow base 341 3 v l.length (l.flatMap BV.cells)
 Fv:∀x∈l,cK w (s9 S a w.heap.size v) n x.b.p x.u
 low:∀g,S g->g<a
 ab:a<=base
 qw:a<=w.heap.size
theorem eG{S:Nat->Prop}{a m g:Nat}(j:∀g,S g->g<a)(l:a<=m)(h:plus S a m g):g<m:=by
 rcases h with h|h;·have:=j g h;omega
 ·exact h.2
theorem gr{S:Nat->Prop}{a m j g:Nat}(l:m<=j)(h:plus S a m g):plus S a j g:=by
 rcases h with h|h;·exact .inl h
 ·exact .inr ⟨h.1,by omega⟩
variable {S : Nat -> Prop} {a : Nat}
theorem zE.aA{w w':World}{base:Nat}{v:Value}{l:List (BV n)}(h:zE S a w base v l)(j:ZW w w'):zE S a w' base v l:=⟨aT h.own j,fun x I=>cK.carry (fun g C=>j.block g (eG h.low h.qw C.1)) (fun _ C=>⟨gr j.size C.1,C.2⟩) _ _ _ (h.Fv x I),h.low,h.ab,Nat.le_trans h.qw j.size⟩
theorem zE.sl{w:World}{base:Nat}{v:Value}{l:List (BV n)}(h:zE S a w base v l):qE w (plus S a w.heap.size) v (l.map BV.b):=by
 rcases h.own.2 with⟨rfl,h0⟩|⟨g,cap,ac,rfl,R,I,hc,hm,_⟩;·have e:l=[]:=List.length_eq_zero_iff.1 h0;subst e;exact⟨none,0,rfl,Nat.le_refl _,Nat.zero_le _,fun T=>absurd rfl T⟩
 ·refine⟨some ⟨g,0,none⟩,cap,by rw[List.length_map],by rw[List.length_map];exact hc,hm,fun _=>⟨g,0,rfl,.inr ⟨Nat.le_trans h.ab R,(Array.getElem?_eq_some_iff.1 I).1⟩,fun i b C=>?_⟩⟩;rw[List.getElem?_map]at C;cases U:l[i]? with|none=>rw[U]at C;cases C|some x=>rw[U]at C;simp only[Option.map_some,Option.some.injEq]at C;subst C;obtain⟨J,P⟩:=List.getElem?_eq_some_iff.1 U;have e:=fun j(hj:j<3)(y:Value)(hy:(x.cells)[j]?=some y)=>cQ h.own rfl (i*3+j) y ((dT BV.cells 3 BV.bh l i J j hj).trans (by rw[P];exact hy));rw[Nat.zero_add];exact⟨e 0 (by omega) _ rfl,e 1 (by omega) _ rfl,x.u,e 2 (by omega) _ rfl,(h.Fv x (by rw[<-P];exact List.getElem_mem J)).up (fun _ R=>R.1)⟩
theorem wj{w P:World}{base:Nat}{v R:Value}{l:List (BV n)}(h:zE S a w base v l)(x:BV n)(hx:cK w (s9 S a w.heap.size v) n x.b.p x.u)(o:Obj)(I:P.ownsRow base 341 3 R (l.length+1) (l.flatMap BV.cells++x.cells))(j:(w.alloc o).grownBy P v.ownBlock)(U:R.ownBlock=v.ownBlock\/R.ownBlock=some (w.alloc o).heap.size):zE S a P base R (l++[x])/\aH w P (ae v):=by
 obtain⟨p,c,hv⟩:=ar h.own;obtain⟨p',c',ac⟩:=ar I;have T:aH w P (ae v):=by rw[hv]at j|-;have:=(aj (ag w o)).trans (aE j);rwa[List.nil_append]at this
 have key:∀{q:Pn n}{u:Value},cK w (s9 S a w.heap.size v) n q u->cK P (s9 S a P.heap.size R) n q u:=fun hq=>cK.carry (fun g j=>T.block g (eG h.low h.qw j.1) j.2) (fun g j=>⟨gr T.size j.1,fun hm=>by
  have C:=(aS ac).2 hm;rcases U with e|e;·rw[e]at C;exact j.2 ((aS hv).1 C)
  ·rw[e]at C;have:=eG h.low h.qw j.1;simp at C;omega⟩) _ _ _ hq;refine⟨⟨?_,fun y J=>?_,h.low,h.ab,Nat.le_trans h.qw T.size⟩,T⟩;·rw[List.length_append,List.length_singleton,List.flatMap_append];simpa using I
 ·rw[List.mem_append]at J;rcases J with J|J;·exact key (h.Fv y J)
  ·simp at J;subst J;exact key hx
theorem tQ:∀(l:List (BV n))(i:Nat)(x:BV n)(u:Value),l[i]?=some x->(l.flatMap BV.cells).set (i*3+2) u=(l.set i ⟨x.b,u⟩).flatMap BV.cells
 |[],i,x,u,h=>by simp at h|a::l,0,x,u,h=>by simp at h;subst h;rfl|a::l,i+1,x,u,h=>by
  rw[List.getElem?_cons_succ]at h;rw[List.set_cons_succ,List.flatMap_cons,List.flatMap_cons,<-tQ l i x u h];have e:(i+1)*3+2=a.cells.length+(i*3+2):=by rw[BV.bh];omega
  rw[e,List.set_append_right _ _ (by omega),Nat.add_sub_cancel_left]
theorem FN{w:World}{base g cap:Nat}{l:List (BV n)}(h:zE S a w base (.slice (some ⟨g,0,none⟩) l.length cap) l){i:Nat}{x:BV n}(hi:l[i]?=some x)(q:Pn n)(u:Value)(hu:cK w (s9 S a w.heap.size (.slice (some ⟨g,0,none⟩) l.length cap)) n q u):zE S a (w.setCell ⟨g,i*3+2,none⟩ u) base (.slice (some ⟨g,0,none⟩) l.length cap) (l.set i ⟨⟨x.b.l,x.b.s,q⟩,u⟩)/\aH w (w.setCell ⟨g,i*3+2,none⟩ u) [g]:=by
 have j:=aG w g (i*3+2) u;have key:∀{q:Pn n}{J:Value},cK w (s9 S a w.heap.size (.slice (some ⟨g,0,none⟩) l.length cap)) n q J->cK (w.setCell ⟨g,i*3+2,none⟩ u) (s9 S a (w.setCell ⟨g,i*3+2,none⟩ u).heap.size (.slice (some ⟨g,0,none⟩) l.length cap)) n q J:=fun R=>cK.carry (fun b C=>j.block b (eG h.low h.qw C.1) (fun P=>C.2 (by simpa[ae,aJ]using P))) (fun b C=>⟨gr j.size C.1,C.2⟩) _ _ _ R;refine⟨⟨?_,fun y I=>?_,h.low,h.ab,Nat.le_trans h.qw j.size⟩,j⟩;·
  have:=(World.ownsRow.stored h.own (i*3+2) u).1;rw[tQ l i x u hi]at this;rw[List.length_set];have e:(l.set i ⟨x.b,u⟩).flatMap BV.cells=(l.set i ⟨⟨x.b.l,x.b.s,q⟩,u⟩).flatMap BV.cells:=by clear hi this hu h j key;induction l generalizing i with|nil=>rfl|cons a l ih=>cases i with|zero=>rfl|succ i=>rw[List.set_cons_succ,List.set_cons_succ,List.flatMap_cons,List.flatMap_cons,ih]
  rw[<-e];exact this
 ·rcases kn I with I|I;·exact key (h.Fv y I)
  ·subst I;exact key hu
end
theorem IC{n g o:Nat}{w:World}{S:Nat->Prop}:∀(l:List (Br (Pn n))),(∀(i:Nat)(b:Br (Pn n)),l[i]?=some b->w.cell? ⟨g,o+i*3,none⟩=some (.string b.l)/\w.cell? ⟨g,o+i*3+1,none⟩=some (.int .i64 b.s)/\∃u,w.cell? ⟨g,o+i*3+2,none⟩=some u/\cK w S n b.p u)->∃L:List (BV n),L.map BV.b=l/\(∀x∈L,cK w S n x.b.p x.u)/\∀j u,(L.flatMap BV.cells)[j]?=some u->w.cell? ⟨g,o+j,none⟩=some u:=by
 intro l;induction l generalizing o with
  |nil=>exact fun _=>⟨[],rfl,(fun x I=>by cases I),(fun j u C=>by simp at C)⟩|cons b l ih=>
   intro h;obtain⟨J,P,u,R,h4⟩:=h 0 b rfl;obtain⟨L,T,U,e3⟩:=ih (o:=o+3) (fun i c hc=>by have:=h (i+1) c (by rw[List.getElem?_cons_succ];exact hc);rw[show o+(i+1)*3=o+3+i*3 by omega]at this;exact this);refine⟨⟨b,u⟩::L,by rw[List.map_cons,T],fun x I=>?_,fun j y C=>?_⟩;·
    rw[List.mem_cons]at I;rcases I with rfl|I;·exact h4
    ·exact U x I
   ·rw[List.flatMap_cons]at C;simp only[Nat.zero_mul,Nat.add_zero]at J P R;match j,C with|0,C=>simp[BV.cells]at C;subst C;exact J|1,C=>simp[BV.cells]at C;subst C;exact P|2,C=>simp[BV.cells]at C;subst C;exact R|j+3,C=>rw[List.getElem?_append_right (by rw[BV.bh];omega),BV.bh,Nat.add_sub_cancel]at C;rw[show o+(j+3)=o+3+j by omega];exact e3 j y C
theorem C8(n:Nat)(S:Nat->Prop)(a:Nat)(l:List (Br (Pn n)))(v:Value)(w:World)(hS:∀g,S g->g<a)(ha:a<=w.heap.size)(hs:qE w S v l)(hl:l.length<=1000)(ay:l≠[]):Calls Tryz.prog 322 #[v] w fun e w'=>∃v' L,e=.returned v'/\L.map BV.b=l/\zE S a w' w.heap.size v' (L:List (BV n))/\ZW w w':=by
 obtain⟨i0,hi,af,ah,al⟩:=info_parts Tryz.uS;have HI:=aa (And.intro hi (And.intro af (And.intro ah al)));obtain⟨ao,cap,rfl,ax,aL,hr⟩:=hs;obtain⟨g,o,rfl,hg,I⟩:=hr ay;obtain⟨L,e1,e2,e3⟩:=IC l I;have U:L.length=l.length:=by rw[<-e1,List.length_map]
 have an:=aa e1;have ab:=aa e2;have aq:=aa e3;have HG:Hid (g<w.heap.size):=aa (Nat.lt_of_lt_of_le (hS g hg) ha);have HS:=aa hS;have J:=aa ha;obtain⟨M,hM⟩:∃M,l.length=M:=⟨_,rfl⟩;rw[hM]at hl U ax|-;have ac:=aa U;have qT:∀(w:World)(a:Option Addr)(n c n' c':Nat),(binOp .eql 298 (.slice a n c) (.slice none n' c')).run Tryz.prog w=.ok (.bool a.isNone) w:=fun w a n c n' c'=>Lib.run_eql_slice_nil w _ _ a n c n' c' Tryz.underlying298;clear hi af ah al hr I e1 e2 e3 U hM;go_in;go_wp2_with(at_builtin;refine wpList_append_own_at _ rfl (.tmp 5) (.tmp 6) 298 rfl w.heap.size 341 i0 (.agg #[.string .empty,.int .i64 0,.nilIface]) 3 40 Tryz.underlying298 HI.out.1 HI.out.2.1 HI.out.2.2.1 HI.out.2.2.2 rfl (by decide) (.slice (some ⟨w.heap.size,0,none⟩) 0 0) 0 [] rfl (dH _ _ _ _ _ (Nat.le_refl _) (bZ _ _ _ rfl)) ⟨g,o,none⟩ M cap (L.flatMap BV.cells) rfl (by rw[dX BV.cells 3 BV.bh,ac.out]) (fun j u hj=>by rw[show Addr.add ⟨g,o,none⟩ j=⟨g,o+j,none⟩by(by_cases h:j=0;(subst h;simp[Addr.add]);simp[Addr.add,h])];exact((ag w _).cell (p:=⟨g,o+j,none⟩) HG.out).trans (aq.out j u hj)) (fun u hu=>by obtain⟨x,hx,hu⟩:=List.mem_flatMap.1 hu;exact uN (ab.out x hx) u hu) (by unfold maxLen;omega) (by omega) (by simp) ?_;intro v4 w4 C T _ R;have ad:=aa C;have av:Hid (aH (w.alloc (.cells #[] 341)) w4 [w.heap.size]):=aa (aH.grown T);have az:=aa R;obtain⟨p4,c4,rfl⟩:=ar C;clear C T R);go_ret;have hb:ZW w w4:=(ag w _).trans (av.out.below (by simp) (by simp));refine⟨_,L,rfl,an.out,⟨?_,fun x hx=>?_,HS.out,J.out,Nat.le_trans J.out hb.size⟩,hb⟩;·have:=ad.out;rw[Nat.zero_add,List.nil_append]at this;rw[ac.out];simpa using this
 ·refine cK.carry (fun b P=>hb.block b (Nat.lt_of_lt_of_le (HS.out b P) J.out)) (fun b P=>⟨.inl P,fun hm=>?_⟩) _ _ _ (ab.out x hx);have:=(ak ad.out).lo b (by simpa using hm);have:=HS.out b P;have:=J.out;omega
end
section
attribute [local go_sem ↓] Go.wp_at_zero Go.wp_at_succ
def my(v:Value)(s:ByteArray)(p:Option Addr)(l c:Nat)(j:Bool):Prop:=∀W:World,(Instr.typeAssert v 245 344 true).run Tryz.prog W=.ok (.tuple #[.agg #[.string s,.slice p l c],.bool j]) W
theorem mK{x:Option ByteArray}{v:Value}(h:jW x v):my v ByteArray.empty none 0 0 false:=by cases x with|none=>rw[show v=_ from h];intro W;kernel_rfl|some x=>rw[show v=_ from h];intro W;kernel_rfl
theorem kH(a:ByteArray)(p:Option Addr)(l c:Nat):my (.iface 344 (.agg #[.string a,.slice p l c])) a p l c true:=by intro W;kernel_rfl
theorem yo(x:ByteArray)(u:Value):my (.iface 297 (.agg #[.string x,u])) ByteArray.empty none 0 0 false:=by intro W;kernel_rfl
theorem Bg(a b:ByteArray)(sl:Value):my (.iface 302 (.agg #[.string a,.string b,sl])) ByteArray.empty none 0 0 false:=by intro W;kernel_rfl
theorem Bh(b:ByteArray)(sl:Value):my (.iface 343 (.agg #[.string b,sl])) ByteArray.empty none 0 0 false:=by intro W;kernel_rfl
theorem CX{n:Nat}{w:World}{S:Nat->Prop}:∀{p:Pn (n+1)}{v:Value},bJ (n+1) p->cK w S (n+1) p v->(kh p=none/\my v ByteArray.empty none 0 0 false)\/∃a l sp j,kh p=some (a,l)/\v=.iface 344 (.agg #[.string a,.slice sp l.length j])/\qE w S (.slice sp l.length j) l:=by
 intro p v;refine Pn.cases (P:=fun p=>bJ (n+1) p->cK w S (n+1) p v->(kh p=none/\my v ByteArray.empty none 0 0 false)\/∃a l sp j,kh p=some (a,l)/\v=.iface 344 (.agg #[.string a,.slice sp l.length j])/\qE w S (.slice sp l.length j) l) (fun x _ h=>.inl ⟨rfl,mK h⟩) (fun x q _ h=>?_) (fun t l hp h=>?_) p;·obtain⟨u,rfl,_⟩:=h;exact .inl ⟨rfl,yo x u⟩
 ·obtain⟨sl,rfl,h⟩:=h;have I:tm t/\l≠[]/\∀b∈l,bJ n b.p:=hp;obtain⟨op,a,b⟩:=t;rcases I.1 with J|⟨R|T,C⟩;·dsimp only at J;subst J;exact .inl ⟨rfl,Bg a b sl⟩
  ·dsimp only at R C;subst R;subst C;exact .inl ⟨rfl,Bh b sl⟩
  ·dsimp only at T C;subst T;subst C;have h':=h;obtain⟨U,cap,rfl,_⟩:=h';exact .inr ⟨b,l,U,cap,rfl,rfl,h⟩
def KK(q:Value):Prop:=q=.nilIface\/∃t a,q=.iface t a
def eO(n:Nat)(S:Nat->Prop)(w w':World)(e:Ending)(o:Option (Pn n)):Prop:=∃q,e=.returned (.tuple #[q,.bool o.isSome])/\(∀z,o=some z->cK w' (plus S w.heap.size w'.heap.size) n z q)/\ZW w w'/\KK q
def pD{α:Type}(r k:Bool)(x:α)(o:Option α):Option α:=if r then some x else if k then o else none
theorem ko(n:Nat)(S:Nat->Prop)(x y:Pn n)(u v:Value)(w:World)(hx:lh u w (aB n x))(hy:lh v w (aB n y))(ab:(aB n x).length<=1000)(ac:(aB n y).length<=1000)(hS:∀g,S g->g<w.heap.size)(aM:cK w S n x u)(s1 s2:ByteArray)(p1 p2:Option Addr)(l1 c1 l2 c2:Nat)(J P:Bool)(aq:my u s1 p1 l1 c1 J)(av:my v s2 p2 l2 c2 P)(o:Option (Pn n))(ho:aW n x y=pD (fC (aB n x) (aB n y)) (J&&P&&(s1.toList==s2.toList)) x o)(hc:(J&&P&&(s1.toList==s2.toList))=true->∀W,ZW w W->Calls Tryz.prog 318 #[.agg #[.string s1,.slice p1 l1 c1],.agg #[.string s2,.slice p2 l2 c2]] W fun e w'=>eO n S W w' e o):Calls Tryz.prog 304 #[u,v] w fun e w'=>eO n S w w' e (aW n x y):=by
 obtain⟨T1,a1,K1,rfl,bk,bf,j⟩:=hx;obtain⟨T2,a2,K2,rfl,bl,bi,l⟩:=hy;have a8:Hid (∀W,ZW w W->cK W (plus S w.heap.size W.heap.size) n x (.iface T1 a1)):=aa (fun W hW=>cK.carry (fun g hg=>hW.block g (hS g hg)) (fun g hg=>.inl hg) n x _ aM);obtain⟨X,hX⟩:∃X,aB n x=X:=⟨_,rfl⟩;obtain⟨Y,hY⟩:∃Y,aB n y=Y:=⟨_,rfl⟩;obtain⟨r,hr⟩:∃r,fC X Y=r:=⟨_,rfl⟩;rw[hX]at ab j ho;rw[hY]at ac l ho;rw[hr]at ho;have a3:=aa j;have a4:=aa l;have a6:=aa ab;have a7:=aa ac;have HR:=aa hr;have HO:=aa ho;have HC:=aa hc;have a9:=aq;have bb:=av;unfold my at a9 bb;clear j l ab ac hr ho hc aM hX hY aq av;obtain⟨q,hq⟩:∃q,(s1.toList==s2.toList)=q:=⟨_,rfl⟩;rw[hq]at HO HC;have I:Hid (∀(w3:World)(o1 o2:Obj),ZW w w3->ZW w ((w3.alloc o1).alloc o2)):=aa (fun w3 o1 o2 h=>h.trans (((ag w3 o1).trans ((ag _ o2).mono (by simp))).mono h.size));cases J;all_goals cases P
 all_goals cases q
 all_goals
  go_in;go_wp2_with(first|(go_at_call 318;refine(HC.out rfl _ (I.out w3 _ _ C.out)).mono ?_;rintro e w5⟨q5,rfl,an,ao,R⟩;have a5:=aa R;clear R;have aN:Hid (∀z,o=some z->cK w5 (plus S w.heap.size w5.heap.size) n z q5):=aa (fun z hz=>(an z hz).up (fun g hg=>hg.elim .inl (fun k=>.inr ⟨Nat.le_trans (I.out w3 _ _ C.out).size k.1,k.2⟩)));have a0:Hid (ZW w w5):=aa ((I.out w3 _ _ C.out).trans (ao.mono (I.out w3 _ _ C.out).size));clear an ao)|(go_at_call 317;refine(B4 X Y _ _ _ ((af.out.rd a6.out).on aR.out) (ah.out.rd a7.out)).mono ?_;rw[HR.out];rintro e w3⟨rfl,ay⟩;have C:Hid (ZW w w3):=aa (al.out.trans (ay.mono al.out.size));clear ay;cases r)|((fail_if_success(have:=af));refine Calls.mono (a3.out w (Below.refl _ _)) ?_;rintro e w1⟨v1,rfl,az,ax⟩;have af:=aa az;have T:=aa ax;clear az ax)|((fail_if_success(have:=ah));refine Calls.mono (a4.out w1 T.out) ?_;rintro e w2⟨v2,rfl,aL,U⟩;have ah:=aa aL;have aR:=aa U;have al:Hid (ZW w w2):=aa (T.out.trans (U.mono T.out.size));clear aL U));all_goals go_ret2
  all_goals rw[HO.out]
  all_goals first|exact⟨_,rfl,(fun z hz=>by have ad:some x=some z:=hz;injection ad with ad;subst ad;exact a8.out w3 C.out),C.out,(by first|exact .inl rfl|exact .inr ⟨_,_,rfl⟩)⟩|exact⟨_,rfl,(fun z hz=>absurd (show(none:Option (Pn n))=some z from hz) (by simp)),I.out w3 _ _ C.out,(by first|exact .inl rfl|exact .inr ⟨_,_,rfl⟩)⟩|exact⟨_,rfl,aN.out,a0.out,a5.out⟩
def oq(n:Nat)(a:ByteArray)(r:Option (List (Br (Pn n)))):Option (Pn (n+1)):=match r with|some l=>if l.length<=4 then some (.cU ⟨6,de,a⟩ l)else none|none=>none
theorem fV{α:Type}(f:α->List Nd):∀l:List (Br α),l.length<=(aY f l).length|[]=>Nat.le_refl _|b::l=>by rw[cA];have:=fV f l;simp only[List.length_cons,List.length_append];omega
theorem wG{α:Type}{t:ByteArray}:∀{l:List (Br α)}{i:Nat},gU t l=some i->∃b,l[i]?=some b
 |[],i,h=>by cases h|c::l,i,h=>by
  rw[gU]at h;split at h;·injection h with h;subst h;exact⟨c,rfl⟩
  ·cases C:gU t l with|none=>rw[C]at h;cases h|some j=>rw[C]at h;simp only[Option.map_some,Option.some.injEq]at h;subst h;obtain⟨b,I⟩:=wG C;exact⟨b,by rw[List.getElem?_cons_succ];exact I⟩
theorem ft{q:Value}{a b:Bool}(h:b=a):Ending.returned (.tuple #[q,.bool a])=.returned (.tuple #[q,.bool b]):=by rw[h]
structure yi(n:Nat)(S:Nat->Prop)(w wr:World)(a:ByteArray)(cs ds:List (Br (Pn n)))(cv:Value)(k:Nat)(acc:List (BV n)):Prop where
 same:bQ (aW n) (acc.map BV.b) (ds.drop k)=bQ (aW n) cs ds
 own:zE S w.heap.size wr (w.heap.size+2) cv acc
 sz:(aY (aB n) (acc.map BV.b)).length+(aY (aB n) (ds.drop k)).length<=898
 Cp:∀x∈acc,bJ n x.b.p
 bel:ZW w wr
 box:wr.cell? ⟨w.heap.size,0,none⟩=some (.string a)
 qw:w.heap.size+2<=wr.heap.size
def ra(n:Nat):Prop:=∀(S:Nat->Prop)(x y:Pn n)(u v:Value)(w:World),(∀g,S g->g<w.heap.size)->bJ n x->bJ n y->(aB n x).length+(aB n y).length<=900->cK w S n x u->cK w S n y v->Calls Tryz.prog 304 #[u,v] w fun e w'=>eO n S w w' e (aW n x y)
theorem xP{n k:Nat}{S:Nat->Prop}{w wr:World}{a:ByteArray}{cs ds:List (Br (Pn n))}{J:Value}{j:List (BV n)}(h:yi n S w wr a cs ds J k j){d:Br (Pn n)}(hd:ds[k]?=some d)(P:gU d.l (j.map BV.b)=none):bQ (aW n) (j.map BV.b++[d]) (ds.drop (k+1))=bQ (aW n) cs ds:=by have I:=(List.getElem?_eq_some_iff.1 hd).1;have C:ds[k]=d:=(List.getElem?_eq_some_iff.1 hd).2;rw[<-h.same,List.drop_eq_getElem_cons I,C,bQ,P]
theorem xQ{n k i:Nat}{S:Nat->Prop}{w wr:World}{a:ByteArray}{cs ds:List (Br (Pn n))}{J:Value}{j:List (BV n)}(h:yi n S w wr a cs ds J k j){d:Br (Pn n)}{x:BV n}(hd:ds[k]?=some d)(P:gU d.l (j.map BV.b)=some i)(T:j[i]?=some x):bQ (aW n) cs ds=match aW n x.b.p d.p with|none=>none|some q=>if x.b.s==d.s then bQ (aW n) ((j.map BV.b).set i ⟨x.b.l,x.b.s,q⟩) (ds.drop (k+1))else none:=by
 have I:=(List.getElem?_eq_some_iff.1 hd).1;have C:ds[k]=d:=(List.getElem?_eq_some_iff.1 hd).2;have R:(j.map BV.b)[i]?=some x.b:=by rw[List.getElem?_map,T];rfl
 rw[<-h.same,List.drop_eq_getElem_cons I,C,bQ,P];simp only[R];cases aW n x.b.p d.p<;>rfl
theorem gQ{n k:Nat}{ds:List (Br (Pn n))}{d:Br (Pn n)}(hd:ds[k]?=some d):(aY (aB n) (ds.drop k)).length=1+(aB n d.p).length+(aY (aB n) (ds.drop (k+1))).length:=by have l:=(List.getElem?_eq_some_iff.1 hd).1;have j:ds[k]=d:=(List.getElem?_eq_some_iff.1 hd).2;rw[List.drop_eq_getElem_cons l,j,cA];simp only[List.length_cons,List.length_append];omega
theorem yP(n:Nat)(S:Nat->Prop)(cr:ra n)(a b:ByteArray)(cs ds:List (Br (Pn n)))(cf:∀x∈cs,bJ n x.p)(cl:∀x∈ds,bJ n x.p)(a5:(aY (aB n) cs).length+(aY (aB n) ds).length<=898)(d6:cs≠[])(bb cM:Value)(w:World)(hS:∀g,S g->g<w.heap.size)(h1:qE w S bb cs)(h2:qE w S cM ds):Calls Tryz.prog 318 #[.agg #[.string a,bb],.agg #[.string b,cM]] w fun e w'=>eO (n+1) S w w' e (oq n a (bQ (aW n) cs ds)):=by
 obtain⟨i0,hi,cI,cL,b3⟩:=info_parts Tryz.uS;have HI:=aa (And.intro hi (And.intro cI (And.intro cL b3)));have c0:=aa cr;have bB:=aa hS;have cS:=aa cf;have cT:=aa cl;have c6:=aa a5;have c9:cs.length<=1000:=by have:=fV (aB n) cs;omega
 have d4:ds.length<=1000:=by have:=fV (aB n) ds;omega
 have cR:Hid (∀o1 o2:Obj,Calls Tryz.prog 322 #[bb] ((w.alloc o1).alloc o2) fun e w'=>∃v' L,e=.returned v'/\L.map BV.b=cs/\zE S w.heap.size w' (w.heap.size+2) v' (L:List (BV n))/\Below (w.heap.size+2) ((w.alloc o1).alloc o2) w'):=aa (fun o1 o2=>by have C:ZW w ((w.alloc o1).alloc o2):=(ag w o1).trans ((ag _ o2).mono (by simp));have:=C8 n S w.heap.size cs bb ((w.alloc o1).alloc o2) hS (by simp;omega) (h1.carry (fun g hg=>C.block g (hS g hg)) (fun g hg=>hg)) c9 d6;simpa[ZW]using this);obtain⟨ep,ec,rfl,-⟩:=h1;obtain⟨er,ed,rfl,-,el,cx⟩:=h2;have c3:=aa cx;obtain⟨D,hD⟩:∃D,ds.length=D:=⟨_,rfl⟩;rw[hD]at d4|-;have HD:=aa hD;clear hi cI cL b3 cx cr cf cl a5 hD;go_in;go_wp2_with(go_at_call 322;refine(cR.out _ _).mono ?_;rintro e w1⟨es,L1,rfl,e1,cu,a3⟩;have br:=aa e1;have c2:=aa cu;have cN:=aa a3;have x0:=(a3.cell (p:=⟨w.heap.size,0,none⟩) (by simp));have y1:=(a3.cell (p:=⟨w.heap.size+1,1,none⟩) (by simp));simp at x0 y1;have c7:Hid (w.heap.size+2<=w1.heap.size):=aa (by have:=a3.size;simpa using this);clear e1 cu a3);go_loopw[6,18](fun cv i wr=>∃(k:Nat)(J:List (BV n)),k<=D/\i=.int .i64 k/\yi n S w wr a cs ds cv k J)(fun _ i _=>D-(intOf i).toNat);case atStart=>refine⟨0,L1,Nat.zero_le _,rfl,⟨by rw[br.out];rfl,c2.out,by rw[br.out];exact c6.out,fun x hx=>cS.out x.b (by rw[<-br.out];exact List.mem_map_of_mem hx),?_,x0,c7.out⟩⟩;exact((ag w _).trans ((ag _ _).mono (by simp))).trans (cN.out.mono (by omega))
 case round=>
  obtain⟨k,J,hk,rfl,hR⟩:=hrel;have P:=aa hR;have aN:=hR.bel.size;have b3:=hR.qw;have c8:J.length<=898:=by have:=fV (aB n) (J.map BV.b);rw[List.length_map]at this;have:=hR.sz;omega
  obtain⟨cp,cc,ch⟩:=ar hR.own.own;obtain⟨A,hA⟩:∃A,J.length=A:=⟨_,rfl⟩;rw[hA]at c8 ch;have HA:=aa hA;subst ch;have bx:=hR.box;clear hR hA;by_cases bN:k<D;·
   obtain⟨g,o,rfl,hg,aL⟩:=c3.out (by rintro rfl;have:=HD.out;simp at this;omega);obtain⟨d,hd⟩:∃d,ds[k]?=some d:=⟨ds[k]'(by rw[HD.out];exact bN),List.getElem?_eq_getElem _⟩;obtain⟨k1,k2,u,k3,k4⟩:=aL k d hd;have b7:=aa hd;have bM:g<w.heap.size:=bB.out g hg;have e1:=(P.out.bel.cell (p:=⟨g,o+k*3,none⟩) bM).trans k1;have e2:=(P.out.bel.cell (p:=⟨g,o+k*3+1,none⟩) bM).trans k2;have e3:=(P.out.bel.cell (p:=⟨g,o+k*3+2,none⟩) bM).trans k3;have HU:Hid (∀W,ZW w W->cK W (s9 S w.heap.size W.heap.size (.slice cp A cc)) n d.p u):=aa (fun W hW=>cK.carry (fun b hb=>hW.block b (bB.out b hb)) (fun b hb=>⟨.inl hb,fun hm=>by have:=(ak P.out.own.own).lo b hm;have al:=bB.out b hb;omega⟩) _ _ _ k4);have aR:Hid (bJ n d.p):=aa (cT.out d (List.mem_of_getElem? hd));have bp:=aa (gQ hd);obtain⟨T,av,rfl⟩:=k4.shape;obtain⟨dl,U,dp⟩:=d;dsimp only at e1 e2;have aM:Hid (∀W,ZW wr W->Calls Tryz.prog 323 #[.slice cp A cc,.string dl] W fun e w'=>e=.returned (.int .i64 (Hr dl (J.map BV.b)))/\ZW W w'):=aa (fun W hW=>Bl n dl _ (J.map BV.b) _ W ((P.out.own.aA hW).sl) (by rw[List.length_map,HA.out];omega));clear aL k1 k2 k3 k4 hd;cases hf:gU dl (J.map BV.b)with
    |none=>
     have bn:Hid (Hr dl (J.map BV.b)=-1):=aa (by rw[Hr,hf]);rw[bn.out]at aM;have c1:=aa (xP P.out b7.out hf);clear hf;go_wp2_with(first|(go_at_call 323;refine(aM.out _ (ag _ _)).mono ?_;rintro e w2⟨rfl,C⟩;have I:Hid (ZW wr w2):=aa ((ag wr _).trans (C.mono (by simp)));have z0:=(C.cell (p:=⟨wr.heap.size,0,none⟩) (by simp));have z1:=(C.cell (p:=⟨wr.heap.size,1,none⟩) (by simp));have z2:=(C.cell (p:=⟨wr.heap.size,2,none⟩) (by simp));simp at z0 z1 z2;have ca:=aa (P.out.own.aA I.out);clear C)|(at_builtin;refine wpList_append_own_at _ rfl (.tmp 28) (.tmp 30) 298 rfl (w.heap.size+2) 341 i0 (.agg #[.string .empty,.int .i64 0,.nilIface]) 3 40 Tryz.underlying298 HI.out.1 HI.out.2.1 HI.out.2.2.1 HI.out.2.2.2 rfl (by decide) (.slice cp A cc) A (J.flatMap BV.cells) rfl (by have:=ca.out.own;rw[HA.out]at this;exact aT this (ag _ _)) ⟨w2.heap.size,0,none⟩ 1 1 (BV.cells (n:=n) ⟨⟨dl,U,dp⟩,.iface T (.agg av)⟩) rfl rfl (fun j u hj=>fO w2 _ _ _ rfl j u hj) (uN (HU.out w (Below.refl _ _))) (by unfold maxLen;omega) (by omega) (by have:=I.out.size;simp;omega) ?_;intro v4 w4 ay bk _ bf;have bv:=aa (wj ca.out ⟨⟨dl,U,dp⟩,.iface T (.agg av)⟩ (HU.out w2 (P.out.bel.trans (I.out.mono aN))) _ (by rw[HA.out];exact ay) bk bf);obtain⟨p4,c4,rfl⟩:=ar ay;clear ay bk bf));go_roundw;case rel=>
      have cn:=(ak P.out.own.own).lo;have C:=I.out;have cd:Below w.heap.size w2 w4:=bv.out.2.below (by have:=C.size;omega) (fun b hb=>by have:=cn b hb;omega);have d0:(aY (aB n) [(⟨dl,U,dp⟩:Br (Pn n))]).length=1+(aB n dp).length:=by rw[cA];simp[aY];omega
      have a8:=bp.out;have a5:=P.out.sz;refine⟨k+1,J++[⟨⟨dl,U,dp⟩,.iface T (.agg av)⟩],bN,by go_num,⟨by rw[List.map_append];exact c1.out,bv.out.1,?_,fun x hx=>?_,(P.out.bel.trans (C.mono aN)).trans cd,?_,?_⟩⟩;·rw[List.map_append,i6,List.length_append];have e:(aY (aB n) (List.map BV.b [(⟨⟨dl,U,dp⟩,.iface T (.agg av)⟩:BV n)])).length=1+(aB n dp).length:=d0;omega
      ·rw[List.mem_append]at hx;rcases hx with hx|hx;·exact P.out.Cp x hx
       ·simp at hx;subst hx;exact aR.out
      ·exact bv.out.2.ek ((C.cell (p:=⟨w.heap.size,0,none⟩) (by show w.heap.size<wr.heap.size;omega)).trans bx) (fun hm=>by have:=cn _ hm;omega)
      ·have:=C.size;have:=cd.size;omega
     case measure=>simp[intOf];omega|some i=>
     obtain⟨b',al⟩:=wG hf;obtain⟨x,hx,d9⟩:∃x,J[i]?=some x/\x.b=b':=by rw[List.getElem?_map]at al;cases h:J[i]? with|none=>rw[h]at al;cases al|some x=>rw[h]at al;simp at al;exact⟨x,rfl,al⟩
     subst d9;have ex:i<A:=by have:=(List.getElem?_eq_some_iff.1 hx).1;rw[HA.out]at this;exact this
     have bs:=aa (xQ P.out b7.out hf hx);have bn:Hid (Hr dl (J.map BV.b)=(i:Int)):=aa (by rw[Hr,hf]);rw[bn.out]at aM;have a9:x∈J:=List.mem_of_getElem? hx;obtain⟨cg,dn⟩:∃cg,cp=some ⟨cg,0,none⟩:=by
      rcases P.out.own.own.2 with⟨h0,h1⟩|⟨g',eb,ee,b0,_⟩;·rw[HA.out]at h1;omega
      ·injection b0 with b0 _ _;exact⟨g',b0⟩
     subst dn;obtain⟨T1,a1,b2⟩:=(P.out.own.Fv x a9).shape;have ah:Hid (∀W,ZW wr W->W.cell? ⟨cg,i*3+1,none⟩=some (.int .i64 x.b.s)/\W.cell? ⟨cg,i*3+2,none⟩=some (.iface T1 (.agg a1))):=aa (fun W hW=>by have hw:=(P.out.own.aA hW).own;obtain⟨cq,ea⟩:=List.getElem?_eq_some_iff.1 hx;have e:=fun j(hj:j<3)(y:Value)(hy:(x.cells)[j]?=some y)=>cQ hw (g:=cg) (c:=cc) (by rw[HA.out]) (i*3+j) y ((dT BV.cells 3 BV.bh J i cq j hj).trans (by rw[ea];exact hy));exact⟨e 1 (by omega) _ rfl,e 2 (by omega) _ (by rw[<-b2];rfl)⟩);have a6:Hid (∀W,ZW wr W->∀j,W.frozen? ⟨cg,j,none⟩=false):=aa (fun W hW j=>(ak (P.out.own.aA hW).own).free cg (by simp[ae,aJ]) j);have a7:Hid (∀W,ZW wr W->Calls Tryz.prog 304 #[.iface T1 (.agg a1),.iface T (.agg av)] W fun e w'=>eO n (s9 S w.heap.size W.heap.size (.slice (some ⟨cg,0,none⟩) A cc)) W w' e (aW n x.b.p dp)):=aa (fun W hW=>by have hw:=P.out.own.aA hW;have em:=(kJ (f:=aB n) (show(J.map BV.b)[i]?=some x.b by rw[List.getElem?_map,hx];rfl)).1;have a8:=bp.out;have a5:=P.out.sz;have:=c0.out (s9 S w.heap.size W.heap.size (.slice (some ⟨cg,0,none⟩) A cc)) x.b.p dp x.u (.iface T (.agg av)) W (fun g hg=>eG hw.low hw.qw hg.1) (P.out.Cp x a9) aR.out (by dsimp only at a8;omega) (by have:=hw.Fv x a9;exact this) (HU.out W (P.out.bel.trans (hW.mono aN)));rw[b2]at this;exact this);obtain⟨om,bR⟩:∃om,aW n x.b.p dp=om:=⟨_,rfl⟩;obtain⟨rq,cy⟩:∃rq,(x.b.s==U)=rq:=⟨_,rfl⟩;obtain⟨xs,b1⟩:∃xs,x.b.s=xs:=⟨_,rfl⟩;have a2:=aa bR;have cb:=aa cy;rw[bR]at a7;rw[b1]at ah cy;have bL:=aa hx;have en:=aa b1;clear hf al hx b2 bR b1 a9;cases om with
      |none=>
       have a0:Hid (bQ (aW n) cs ds=none):=aa (by rw[bs.out];dsimp only;rw[a2.out]);go_wp2_with(go_at_call 323;refine(aM.out _ (ag _ _)).mono ?_;rintro e w2⟨rfl,C⟩;have I:Hid (ZW wr w2):=aa ((ag wr _).trans (C.mono (by simp)));have z0:=(C.cell (p:=⟨wr.heap.size,0,none⟩) (by simp));have z1:=(C.cell (p:=⟨wr.heap.size,1,none⟩) (by simp));have z2:=(C.cell (p:=⟨wr.heap.size,2,none⟩) (by simp));simp at z0 z1 z2;obtain⟨f1,f2⟩:=ah.out w2 I.out;have ax:wr.heap.size<w2.heap.size:=(by have:=C.size;simp at this;omega);clear C);go_region_law(go_simp;go_at_call 304;refine(a7.out _ I.out.drew).mono ?_;rintro e w3⟨q3,rfl,af,ac,an⟩;clear an;have bm:=aa af;have ab:Hid (ZW wr w3):=aa (I.out.drew.trans (ac.mono I.out.drew.size));obtain⟨t1,t2⟩:=ah.out w3 ab.out;have y1:w3.cell? ⟨wr.heap.size,1,none⟩=some (.int .i64 U):=(ac.cell (p:=⟨wr.heap.size,1,none⟩) ax).trans z1;have cm:=a6.out w3 ab.out;clear af ac);all_goals
        go_wp2;refine bg (by kernel_rfl) (by kernel_rfl) (fun V hV=>?_);simp only[Act.put,List.getElem_toArray,List.getElem_cons_succ,List.getElem_cons_zero,List.setIfInBounds_toArray,List.set_cons_zero,List.set_cons_succ];have ao:=bo V;have g1:=au (w:=V) (by rw[hV];exact t1);have g2:=au (w:=V) (by rw[hV];exact y1);have HV:=aa hV;clear hV;repeat(go_big_quiet_step(fail))
        refine wpQuiet_nil ?_;intro w4 R;rw[HV.out]at R;have ad:Hid (ZW wr w4):=aa (ab.out.trans (R.mono ab.out.size));have az:=aa R;clear R ao g1 g2 HV;go_wp2;go_ret2;rw[a0.out];exact⟨_,rfl,(fun z hz=>by cases hz),P.out.bel.trans (ad.out.mono aN),(by first|exact .inl rfl|exact .inr ⟨_,_,rfl⟩)⟩|some q=>
       cases rq with
        |false=>
         have a0:Hid (bQ (aW n) cs ds=none):=aa (by rw[bs.out];dsimp only;rw[a2.out,cb.out];rfl);go_wp2_with(go_at_call 323;refine(aM.out _ (ag _ _)).mono ?_;rintro e w2⟨rfl,C⟩;have I:Hid (ZW wr w2):=aa ((ag wr _).trans (C.mono (by simp)));have z0:=(C.cell (p:=⟨wr.heap.size,0,none⟩) (by simp));have z1:=(C.cell (p:=⟨wr.heap.size,1,none⟩) (by simp));have z2:=(C.cell (p:=⟨wr.heap.size,2,none⟩) (by simp));simp at z0 z1 z2;obtain⟨f1,f2⟩:=ah.out w2 I.out;have ax:wr.heap.size<w2.heap.size:=(by have:=C.size;simp at this;omega);clear C);go_region_law(go_simp;go_at_call 304;refine(a7.out _ I.out.drew).mono ?_;rintro e w3⟨q3,rfl,af,ac,an⟩;clear an;have bm:=aa af;have ab:Hid (ZW wr w3):=aa (I.out.drew.trans (ac.mono I.out.drew.size));obtain⟨t1,t2⟩:=ah.out w3 ab.out;have y1:w3.cell? ⟨wr.heap.size,1,none⟩=some (.int .i64 U):=(ac.cell (p:=⟨wr.heap.size,1,none⟩) ax).trans z1;have cm:=a6.out w3 ab.out;clear af ac);all_goals
          go_wp2;refine bg (by kernel_rfl) (by kernel_rfl) (fun V hV=>?_);simp only[Act.put,List.getElem_toArray,List.getElem_cons_succ,List.getElem_cons_zero,List.setIfInBounds_toArray,List.set_cons_zero,List.set_cons_succ];have ao:=bo V;have g1:=au (w:=V) (by rw[hV];exact t1);have g2:=au (w:=V) (by rw[hV];exact y1);have HV:=aa hV;clear hV;repeat(go_big_quiet_step(fail))
          refine wpQuiet_nil ?_;intro w4 R;rw[HV.out]at R;have ad:Hid (ZW wr w4):=aa (ab.out.trans (R.mono ab.out.size));have az:=aa R;clear R ao g1 g2 HV;go_wp2;go_ret2;rw[a0.out];exact⟨_,rfl,(fun z hz=>by cases hz),P.out.bel.trans (ad.out.mono aN),(by first|exact .inl rfl|exact .inr ⟨_,_,rfl⟩)⟩|true=>
         go_wp2_with(go_at_call 323;refine(aM.out _ (ag _ _)).mono ?_;rintro e w2⟨rfl,C⟩;have I:Hid (ZW wr w2):=aa ((ag wr _).trans (C.mono (by simp)));have z0:=(C.cell (p:=⟨wr.heap.size,0,none⟩) (by simp));have z1:=(C.cell (p:=⟨wr.heap.size,1,none⟩) (by simp));have z2:=(C.cell (p:=⟨wr.heap.size,2,none⟩) (by simp));simp at z0 z1 z2;obtain⟨f1,f2⟩:=ah.out w2 I.out;have ax:wr.heap.size<w2.heap.size:=(by have:=C.size;simp at this;omega);clear C);go_region_law(go_simp;go_at_call 304;refine(a7.out _ I.out.drew).mono ?_;rintro e w3⟨q3,rfl,af,ac,an⟩;clear an;have bm:=aa (af q rfl);obtain⟨Tq,aq,rfl⟩:=(af q rfl).shape;have b4:Hid (w2.heap.size<=w3.heap.size):=aa (by have:=ac.size;simpa using this);have ab:Hid (ZW wr w3):=aa (I.out.drew.trans (ac.mono I.out.drew.size));obtain⟨t1,t2⟩:=ah.out w3 ab.out;have y1:w3.cell? ⟨wr.heap.size,1,none⟩=some (.int .i64 U):=(ac.cell (p:=⟨wr.heap.size,1,none⟩) ax).trans z1;have cm:=a6.out w3 ab.out;clear af ac);all_goals
          go_wp2;refine bg (by kernel_rfl) (by kernel_rfl) (fun V hV=>?_);simp only[Act.put,List.getElem_toArray,List.getElem_cons_succ,List.getElem_cons_zero,List.setIfInBounds_toArray,List.set_cons_zero,List.set_cons_succ];have ao:=bo V;have g1:=au (w:=V) (by rw[hV];exact t1);have g2:=au (w:=V) (by rw[hV];exact y1);have HV:=aa hV;clear hV;repeat(go_big_quiet_step(fail))
          refine wpQuiet_nil ?_;intro w4 R;rw[HV.out]at R;have ad:Hid (ZW wr w4):=aa (ab.out.trans (R.mono ab.out.size));have az:=aa R;clear R ao g1 g2 HV;have ev:=a6.out w4 ad.out;obtain⟨v1,v2⟩:=ah.out w4 ad.out;go_wp2;go_roundw;case rel=>
           have R:=P.out.own.aA ad.out;have ej:cg<wr.heap.size:=(ak P.out.own.own).hi cg (by simp[ae,aJ]);have eg:w.heap.size+2<=cg:=(ak P.out.own.own).lo cg (by simp[ae,aJ]);have ef:=I.out.size;have bi:=az.out.size;have d7:cK w4 (s9 S w.heap.size w4.heap.size (.slice (some ⟨cg,0,none⟩) A cc)) n q (.iface Tq (.agg aq)):=cK.carry (fun g hg=>az.out.block g (by
            rcases hg with hg|hg;·have:=eG (P.out.own.aA I.out).low (P.out.own.aA I.out).qw hg.1;have et:=ab.out.size;have:w2.heap.size<=w3.heap.size:=b4.out;omega
            ·exact hg.2)) (fun g hg=>by
            rcases hg with hg|hg;·exact⟨gr (Nat.le_trans b4.out bi) hg.1,hg.2⟩
            ·refine⟨.inr ⟨by have:=hg.1;simp at this;omega,Nat.lt_of_lt_of_le hg.2 bi⟩,fun hm=>?_⟩;simp[ae,aJ]at hm;have:=hg.1;simp at this;omega) _ _ _ bm.out;have a4:=FN (g:=cg) (cap:=cc) (by rw[HA.out];exact R) bL.out q (.iface Tq (.agg aq)) (by rw[HA.out];exact d7);rw[HA.out]at a4;have d5:(J.map BV.b)[i]?=some x.b:=by rw[List.getElem?_map,bL.out];rfl
           have d8:=(uM (f:=aB n) ⟨x.b.l,x.b.s,q⟩ d5).1;have ey:=(lK n x.b.p dp q a2.out).1;have a8:=bp.out;have a5:=P.out.sz;have bl:(J.set i ⟨⟨x.b.l,x.b.s,q⟩,.iface Tq (.agg aq)⟩).map BV.b=(J.map BV.b).set i ⟨x.b.l,x.b.s,q⟩:=by rw[List.map_set]
           have cz:ZW w w4:=P.out.bel.trans (ad.out.mono aN);refine⟨k+1,J.set i ⟨⟨x.b.l,x.b.s,q⟩,.iface Tq (.agg aq)⟩,bN,by go_num,⟨?_,a4.1,?_,fun y hy=>?_,cz.trans (a4.2.below cz.size (by simp;omega)),?_,?_⟩⟩;·rw[bl,bs.out,a2.out];show _=if(x.b.s==U)=true then _ else none;rw[cb.out];rfl
           ·rw[bl];dsimp only at d8 a8;omega
           ·rcases kn hy with hy|hy;·exact P.out.Cp y hy
            ·subst hy;exact iI n x.b.p dp q (P.out.Cp x (List.mem_of_getElem? bL.out)) aR.out a2.out
           ·rw[World.cell?_setCell_other _ _ _ _ (by intro e;injection e with e1 _;omega)];exact(ad.out.cell (p:=⟨w.heap.size,0,none⟩) (by show w.heap.size<wr.heap.size;omega)).trans bx
           ·rw[World.size_setCell];have:=ad.out.size;omega
          case measure=>simp[intOf];omega
  ·obtain rfl:k=D:=by omega
   have bz:=aa P.out.same;rw[List.drop_of_length_le (by rw[HD.out];exact Nat.le_refl _),bQ]at bz;have b5:Hid ((J.map BV.b).length=A):=aa (by rw[List.length_map,HA.out]);have c5:=aa P.out.own.sl;by_cases h4:A<=4;·go_wp2;go_ret2;rw[<-bz.out,oq,if_pos (by rw[b5.out];exact h4)];exact⟨_,ft (by simp;omega),(fun z hz=>by injection hz with hz;subst hz;exact⟨_,rfl,c5.out⟩),P.out.bel,(by first|exact .inl rfl|exact .inr ⟨_,_,rfl⟩)⟩
   ·go_wp2;go_ret2;rw[<-bz.out,oq,if_neg (by rw[b5.out];exact h4)];exact⟨_,ft (by simp;omega),(fun z hz=>by cases hz),P.out.bel,(by first|exact .inl rfl|exact .inr ⟨_,_,rfl⟩)⟩
end
theorem sK{n:Nat}{p:Pn n}{S:Nat->Prop}{w:World}{u:Value}(C:bJ n p)(hS:∀g,S g->g<w.heap.size)(h:cK w S n p u)(l:(aB n p).length<=1000):lh u w (aB n p):=ux n p C u w (h.up (fun g j=>hS g j)) l
theorem rH{n:Nat}{p:Pn (n+1)}{a:ByteArray}{l:List (Br (Pn n))}(C:bJ (n+1) p)(h:kh p=some (a,l)):l≠[]/\(∀b∈l,bJ n b.p)/\(aB (n+1) p).length=(aY (aB n) l).length+1:=by obtain⟨b,rfl⟩:=eT h;have j:tm ⟨6,b,a⟩/\l≠[]/\∀b∈l,bJ n b.p:=C;exact⟨j.2.1,j.2.2,by rw[bI];rfl⟩
theorem xk:∀n:Nat,ra n:=by
 intro n;induction n with
  |zero=>intro S x y u v w hS J C hl hu l;refine ko 0 S x y u v w (sK J hS hu (by omega)) (sK C hS l (by omega)) (by omega) (by omega) hS hu _ _ _ _ _ _ _ _ _ _ (mK hu) (mK l) none ?_ (fun h=>by simp at h);rw[aW];unfold pD;simp|succ n ih=>
   intro S x y u v w hS J C hl hu l;have P:=sK J hS hu (by omega);have R:=sK C hS l (by omega);rcases CX J hu with⟨nx,ax⟩|⟨a,cs,sp,sc,U,rfl,bx⟩;·
    rcases CX C l with⟨ny,T⟩|⟨b,ds,tp,tc,ey,rfl,I⟩;·refine ko (n+1) S x y u v w P R (by omega) (by omega) hS hu _ _ _ _ _ _ _ _ _ _ ax T none ?_ (fun h=>by simp at h);rw[aW,nx];unfold pD;simp
    ·refine ko (n+1) S x y u _ w P R (by omega) (by omega) hS hu _ _ _ _ _ _ _ _ _ _ ax (kH b tp ds.length tc) none ?_ (fun h=>by simp at h);rw[aW,nx];unfold pD;simp
   ·rcases CX C l with⟨ny,T⟩|⟨b,ds,tp,tc,ey,rfl,I⟩;·refine ko (n+1) S x y _ v w P R (by omega) (by omega) hS hu _ _ _ _ _ _ _ _ _ _ (kH a sp cs.length sc) T none ?_ (fun h=>by simp at h);rw[aW,U,ny];unfold pD;simp
    ·obtain⟨h1,h2,h3⟩:=rH J U;obtain⟨h4,h5,h6⟩:=rH C ey;refine ko (n+1) S x y _ _ w P R (by omega) (by omega) hS hu _ _ _ _ _ _ _ _ _ _ (kH a sp cs.length sc) (kH b tp ds.length tc) (oq n a (bQ (aW n) cs ds)) ?_ (fun _ W hW=>?_);·
      rw[aW,U,ey];unfold pD oq;cases fC (aB (n+1) x) (aB (n+1) y);·simp only[Bool.false_eq_true,if_false,Bool.true_and];cases(a.toList==b.toList)<;>cases bQ (aW n) cs ds<;>rfl
      ·rfl
     ·exact yP n S ih a b cs ds h2 h5 (by omega) h1 _ _ W (fun g j=>Nat.lt_of_lt_of_le (hS g j) hW.size) (bx.carry (fun g j=>hW.block g (hS g j)) (fun g j=>j)) (I.carry (fun g j=>hW.block g (hS g j)) (fun g j=>j))
section
attribute [local go_sem ↓] Go.wp_at_zero Go.wp_at_succ
structure CL(n:Nat)(S:Nat->Prop)(w wr:World)(l:List (Br (Pn n)))(x0:Pn n)(av:Value)(k:Nat)(x:Pn n):Prop where
 same:bE (aW n) x (l.drop k)=bE (aW n) x0 l
 at_:cK wr (plus S w.heap.size wr.heap.size) n x av
 sz:(aB n x).length+(aY (aB n) (l.drop k)).length<=900
 Cp:bJ n x
 bel:ZW w wr
theorem BX(n:Nat)(S:Nat->Prop)(c:Br (Pn n))(l:List (Br (Pn n)))(aL:∀b∈c::l,bJ n b.p)(ab:(aY (aB n) (c::l)).length<=900)(v:Value)(w:World)(hS:∀g,S g->g<w.heap.size)(h:qE w S v (c::l)):Calls Tryz.prog 285 #[v] w fun e w'=>eO n S w w' e (bE (aW n) c.p l):=by
 have a1:=aa aL;have ah:=aa hS;have bm:=aa ab;obtain⟨ao,cap,rfl,a3,bb,hr⟩:=h;obtain⟨g,o,rfl,j,C⟩:=hr (by simp);obtain⟨k1,k2,u0,k3,k4⟩:=C 0 c rfl;simp only[Nat.zero_mul,Nat.add_zero]at k1 k2 k3;obtain⟨T0,a0,rfl⟩:=k4.shape;have ay:g<w.heap.size:=hS g j;have af:=aa C;have bi:l.length<=900:=by have:=fV (aB n) (c::l);simp only[List.length_cons]at this;omega
 have a2:Hid (CL n S w w l c.p (.iface T0 (.agg a0)) 0 c.p):=aa ⟨rfl,k4.up (fun g j=>.inl j),by rw[cA]at ab;simp only[List.length_cons,List.length_append,List.drop_zero]at*;omega,aL c (by simp),Below.refl _ _⟩;simp only[List.length_cons]at a3|-;obtain⟨L,hL⟩:∃L,l.length=L:=⟨_,rfl⟩;rw[hL]at a3 bi|-;have HL:=aa hL;unfold maxLen at bb;clear hr C k4 hL aL ab hS;by_cases a4:cap=1;·
  subst a4;obtain rfl:L=0:=by omega
  have HN:Hid (l=[]):=aa (List.length_eq_zero_iff.1 HL.out);go_in;go_wp2;go_loopw[4,16](fun av i wr=>av=.iface T0 (.agg a0)/\i=.int .i64 0/\wr=w)(fun _ _ _=>0);case atStart=>exact⟨rfl,rfl,rfl⟩
  case round=>obtain⟨rfl,rfl,rfl⟩:=hrel;go_wp2;go_ret2;rw[HN.out];exact⟨_,rfl,(fun z hz=>by have aM:some c.p=some z:=hz;injection aM with aM;subst aM;exact a2.out.at_),Below.refl _ _,(by first|exact .inl rfl|exact .inr ⟨_,_,rfl⟩)⟩
 ·go_in;go_wp2;go_loopw[4,16](fun av i wr=>∃(k:Nat)(x:Pn n),k<=L/\i=.int .i64 k/\CL n S w wr l c.p av k x)(fun _ i _=>L-(intOf i).toNat);case atStart=>exact⟨0,c.p,Nat.zero_le _,rfl,a2.out⟩
  case round=>
   obtain⟨k,x,hk,rfl,hR⟩:=hrel;have R:=aa hR;have ac:=hR.bel.size;obtain⟨Tx,ax,rfl⟩:=hR.at_.shape;by_cases a5:k<L;·
    obtain⟨d,hd⟩:∃d,l[k]?=some d:=⟨l[k]'(by rw[HL.out];exact a5),List.getElem?_eq_getElem _⟩;obtain⟨m1,m2,u,m3,m4⟩:=af.out (k+1) d (by rw[List.getElem?_cons_succ];exact hd);obtain⟨T,av,rfl⟩:=m4.shape;have e1:=(hR.bel.cell (p:=⟨g,o+(k+1)*3,none⟩) ay).trans m1;have e2:=(hR.bel.cell (p:=⟨g,o+(k+1)*3+1,none⟩) ay).trans m2;have e3:=(hR.bel.cell (p:=⟨g,o+(k+1)*3+2,none⟩) ay).trans m3;rw[show o+(k+1)*3=o+3+k*3 by omega]at e1 e2 e3;have aN:=aa (gQ hd);have aq:d∈l:=List.mem_of_getElem? hd;have aR:Hid (bE (aW n) c.p l=match aW n x d.p with|none=>none|some q=>bE (aW n) q (l.drop (k+1))):=aa (by have a6:=(List.getElem?_eq_some_iff.1 hd).1;have bf:l[k]=d:=(List.getElem?_eq_some_iff.1 hd).2;rw[<-hR.same,List.drop_eq_getElem_cons a6,bf,bE];cases aW n x d.p<;>rfl);have an:Hid (∀W,ZW wr W->Calls Tryz.prog 304 #[.iface Tx (.agg ax),.iface T (.agg av)] W fun e w'=>eO n (plus S w.heap.size wr.heap.size) W w' e (aW n x d.p)):=aa (fun W hW=>by have a9:=aN.out;have ab:=R.out.sz;refine xk n (plus S w.heap.size wr.heap.size) x d.p _ _ W (fun g j=>Nat.lt_of_lt_of_le (eG ah.out ac j) hW.size) R.out.Cp (a1.out d (by simp[aq])) (by omega) (cK.carry (fun g j=>hW.block g (eG ah.out ac j)) (fun g j=>j) _ _ _ R.out.at_) (cK.carry (fun g j=>(hW.block g (Nat.lt_of_lt_of_le (ah.out g j) ac)).trans (R.out.bel.block g (ah.out g j))) (fun g j=>.inl j) _ _ _ m4));obtain⟨om,az⟩:∃om,aW n x d.p=om:=⟨_,rfl⟩;have P:=aa az;have a8:Hid (bJ n d.p):=aa (a1.out d (by simp[aq]));rw[az]at an;obtain⟨dl,bk,dp⟩:=d;dsimp only at e1 e2;clear m1 m2 m3 m4 hd aq hR az;cases om with
     |none=>have J:Hid (bE (aW n) c.p l=none):=aa (by rw[aR.out];dsimp only at P|-;rw[P.out]);go_wp2_with(go_at_call 304;refine(an.out _ (ag _ _)).mono ?_;rintro e w3⟨q3,rfl,al,I,U⟩;clear U;have ad:Hid (ZW wr w3):=aa ((ag wr _).trans (I.mono (by simp)));clear al I);go_ret2;rw[J.out];exact⟨_,rfl,(fun z hz=>by cases hz),R.out.bel.trans (ad.out.mono ac),(by first|exact .inl rfl|exact .inr ⟨_,_,rfl⟩)⟩|some q=>
      go_wp2_with(go_at_call 304;refine(an.out _ (ag _ _)).mono ?_;rintro e w3⟨q3,rfl,al,I,U⟩;clear U;have a7:=aa (al q rfl);have ad:Hid (ZW wr w3):=aa ((ag wr _).trans (I.mono (by simp)));have bl:=aa I.size;clear al I);go_roundw;case rel=>
       have bn:=(lK n x dp q P.out).1;have a9:=aN.out;have ab:=R.out.sz;refine⟨k+1,q,a5,by go_num,⟨?_,a7.out.up (fun g j=>?_),by omega,iI n x dp q R.out.Cp a8.out P.out,R.out.bel.trans (ad.out.mono ac)⟩⟩;·rw[aR.out,P.out]
       ·rcases j with j|j;·exact gr ad.out.size j
        ·exact .inr ⟨by have:=j.1;simp at this;omega,j.2⟩
      case measure=>simp[intOf];omega
   ·obtain rfl:k=L:=by omega
    have J:Hid (bE (aW n) c.p l=some x):=aa (by have:=R.out.same;rw[List.drop_of_length_le (by rw[HL.out];exact Nat.le_refl _),bE]at this;exact this.symm);go_wp2;go_ret2;rw[J.out];exact⟨_,rfl,(fun z hz=>by injection hz with hz;subst hz;exact R.out.at_),R.out.bel,(by first|exact .inl rfl|exact .inr ⟨_,_,rfl⟩)⟩
def oS(role:ByteArray)(n:Nat):Prop:=∀(S:Nat->Prop)(p:Pn n)(u:Value)(w:World),(∀g,S g->g<w.heap.size)->bX n p->(aB n p).length<=40->gV (aB n p)->cK w S n p u->Calls Tryz.prog 209 #[u,.string role] w fun e w'=>eO n S w w' e (bd role n p)
def mA{α:Type}(l:List α):Option (List α)->Option (List α)|none=>none|some r=>some (l++r)
def sW(role:ByteArray)(n:Nat)(a b:ByteArray)(r:Option (List (Br (Pn n)))):Option (Pn (n+1)):=match r with|none=>none|some r=>if role.toList==a.toList then some (.cU ⟨5,de,b⟩ r)else if role.toList==b.toList then some (.cU ⟨6,de,a⟩ r)else match r with|[]=>none|c::r=>(bE (aW n) c.p r).map (nP n)
theorem pB(role:ByteArray)(n:Nat)(a b:ByteArray)(l:List (Br (Pn n))):bd role (n+1) (.cU ⟨3,a,b⟩ l)=sW role n a b (bu (bd role n) l):=by show(match bu (bd role n) l with|none=>none|some r=>if role.toList==a.toList then some (Pn.cU ⟨5,de,b⟩ r)else if role.toList==b.toList then some (.cU ⟨6,de,a⟩ r)else match r with|[]=>none|c::r=>(bE (aW n) c.p r).map (nP n))=_;unfold sW;cases bu (bd role n) l<;>rfl
structure CO(role:ByteArray)(n:Nat)(S:Nat->Prop)(w wr:World)(a b:ByteArray)(l:List (Br (Pn n)))(cv:Value)(k:Nat)(acc:List (BV n)):Prop where
 same:mA (acc.map BV.b) (bu (bd role n) (l.drop k))=bu (bd role n) l
 own:zE S w.heap.size wr (w.heap.size+1) cv acc
 sz:(aY (aB n) (acc.map BV.b)).length+(aY (aB n) (l.drop k)).length<=799
 Cp:∀x∈acc,bJ n x.b.p
 len:acc.length=k
 bel:ZW w wr
 b0:wr.cell? ⟨w.heap.size,0,none⟩=some (.string a)
 b1:wr.cell? ⟨w.heap.size,1,none⟩=some (.string b)
 qw:w.heap.size+1<=wr.heap.size
theorem xR{role a b:ByteArray}{n k:Nat}{S:Nat->Prop}{w wr:World}{l:List (Br (Pn n))}{J:Value}{j:List (BV n)}(h:CO role n S w wr a b l J k j){d:Br (Pn n)}(hd:l[k]?=some d):bu (bd role n) l=match bd role n d.p with|none=>none|some q=>mA (j.map BV.b++[⟨d.l,d.s,q⟩]) (bu (bd role n) (l.drop (k+1))):=by have I:=(List.getElem?_eq_some_iff.1 hd).1;have C:l[k]=d:=(List.getElem?_eq_some_iff.1 hd).2;rw[<-h.same,List.drop_eq_getElem_cons I,C,bu];cases bd role n d.p with|none=>rfl|some q=>cases bu (bd role n) (l.drop (k+1))with|none=>rfl|some r=>simp[mA]
theorem FL{n a:Nat}{S:Nat->Prop}(w:World)(base:Nat)(hS:∀g,S g->g<a)(j:a<=base)(l:a<=w.heap.size):zE S a w base (.slice none 0 0) ([]:List (BV n)):=⟨dd _ _ _ _,(fun x C=>by cases C),hS,j,l⟩
theorem u6(role:ByteArray)(n:Nat)(bM:oS role n)(S:Nat->Prop)(a b:ByteArray)(l:List (Br (Pn n)))(bN:bX (n+1) (.cU ⟨3,a,b⟩ l))(al:(aY (aB n) l).length<=39)(a4:gV (aY (aB n) l))(sl:Value)(w:World)(hS:∀g,S g->g<w.heap.size)(h:qE w S sl l):Calls Tryz.prog 250 #[.agg #[.string a,.string b,sl],.string role] w fun e w'=>eO (n+1) S w w' e (sW role n a b (bu (bd role n) l)):=by
 have bR:(3:Int)=3/\(a.toList==b.toList)=false/\1<=l.length/\l.length<=4/\∀b∈l,bX n b.p:=bN;obtain⟨-,-,cr,cs,aM⟩:=bR;obtain⟨i0,hi,b3,b4,bk⟩:=info_parts Tryz.uS;have HI:=aa (And.intro hi (And.intro b3 (And.intro b4 bk)));have cf:=aa bM;have U:=aa hS;have cg:=aa aM;have bs:=aa al;have ca:=aa a4;obtain⟨ao,cap,rfl,cn,cz,hr⟩:=h;have ch:=aa hr;obtain⟨D,hD⟩:∃D,l.length=D:=⟨_,rfl⟩;rw[hD]at cr cs cn|-;have HD:=aa hD;clear hi b3 b4 bk hr bM hS aM al a4 hD bN;go_in;go_wp2;go_loopw[6,14](fun cv i wr=>∃(k:Nat)(P:List (BV n)),k<=D/\i=.int .i64 k/\CO role n S w wr a b l cv k P)(fun _ i _=>D-(intOf i).toNat);case atStart=>refine⟨0,[],Nat.zero_le _,rfl,⟨?_,FL _ _ U.out (by omega) (by simp),by have:=bs.out;simp[aY]at this|-;omega,(fun x hx=>by cases hx),rfl,ag w _,by simp,by simp,by simp⟩⟩;rw[List.drop_zero];cases bu (bd role n) l<;>rfl
 case round=>
  obtain⟨k,P,hk,rfl,hR⟩:=hrel;have J:=aa hR;have ad:=hR.bel.size;have bk:=hR.qw;have a9:=hR.len;obtain⟨cp,cc,bB⟩:=ar hR.own.own;rw[a9]at bB;subst bB;have aN:=aa a9;have cl:=hR.b0;have cm:=hR.b1;clear hR a9;by_cases bL:k<D;·
   obtain⟨g,o,rfl,I,ah⟩:=ch.out (by rintro rfl;have:=HD.out;simp at this;omega);obtain⟨d,hd⟩:∃d,l[k]?=some d:=⟨l[k]'(by rw[HD.out];exact bL),List.getElem?_eq_getElem _⟩;obtain⟨k1,k2,u,k3,k4⟩:=ah k d hd;have bb:g<w.heap.size:=U.out g I;have e1:=(J.out.bel.cell (p:=⟨g,o+k*3,none⟩) bb).trans k1;have e2:=(J.out.bel.cell (p:=⟨g,o+k*3+1,none⟩) bb).trans k2;have e3:=(J.out.bel.cell (p:=⟨g,o+k*3+2,none⟩) bb).trans k3;have a8:Hid (bX n d.p):=aa (cg.out d (List.mem_of_getElem? hd));have b7:=aa (gQ hd);have bn:=aa (kJ (f:=aB n) hd);have bp:=aa (xR J.out hd);obtain⟨T,av,rfl⟩:=k4.shape;have a7:Hid (∀W,ZW wr W->Calls Tryz.prog 209 #[.iface T (.agg av),.string role] W fun e w'=>eO n S W w' e (bd role n d.p)):=aa (fun W hW=>by exact cf.out S d.p _ W (fun g I=>Nat.lt_of_lt_of_le (U.out g I) (Nat.le_trans ad hW.size)) a8.out (by have:=bn.out.1;have:=bs.out;omega) (bn.out.2 ca.out).2 (cK.carry (fun g I=>(hW.block g (Nat.lt_of_lt_of_le (U.out g I) ad)).trans (J.out.bel.block g (U.out g I))) (fun g I=>I) _ _ _ k4));obtain⟨om,bi⟩:∃om,bd role n d.p=om:=⟨_,rfl⟩;have a0:=aa bi;rw[bi]at a7;obtain⟨dl,R,dp⟩:=d;dsimp only at e1 e2;clear ah k1 k2 k3 k4 hd bi;cases om with
    |none=>have ax:Hid (bu (bd role n) l=none):=aa (by rw[bp.out,a0.out]);go_wp2_with(go_at_call 209;refine(a7.out _ (ag _ _)).mono ?_;rintro e w3⟨q3,rfl,ay,ab,aL⟩;clear aL;have an:Hid (ZW wr w3):=aa ((ag wr _).trans (ab.mono (by simp)));clear ay ab);go_ret2;rw[ax.out];exact⟨_,rfl,(fun z hz=>by cases hz),J.out.bel.trans (an.out.mono ad),(by first|exact .inl rfl|exact .inr ⟨_,_,rfl⟩)⟩|some q=>
     go_wp2_with(first|(go_at_call 209;refine(a7.out _ (ag _ _)).mono ?_;rintro e w3⟨q3,rfl,ay,ab,aL⟩;clear aL;have bl:=aa (ay q rfl);obtain⟨Tq,aq,rfl⟩:=(ay q rfl).shape;have an:Hid (ZW wr w3):=aa ((ag wr _).trans (ab.mono (by simp)));have z0:=(ab.cell (p:=⟨wr.heap.size,0,none⟩) (by simp));have z1:=(ab.cell (p:=⟨wr.heap.size,1,none⟩) (by simp));simp at z0 z1;have br:=aa (J.out.own.aA an.out);clear ay ab)|(at_builtin;refine wpList_append_own_at _ rfl (.tmp 27) (.tmp 34) 298 rfl (w.heap.size+1) 341 i0 (.agg #[.string .empty,.int .i64 0,.nilIface]) 3 40 Tryz.underlying298 HI.out.1 HI.out.2.1 HI.out.2.2.1 HI.out.2.2.2 rfl (by decide) (.slice cp k cc) k (P.flatMap BV.cells) rfl (by have:=br.out.own;rw[aN.out]at this;exact aT this (ag _ _)) ⟨w3.heap.size,0,none⟩ 1 1 (BV.cells (n:=n) ⟨⟨dl,R,q⟩,.iface Tq (.agg aq)⟩) rfl rfl (fun j u hj=>fO w3 _ _ _ rfl j u hj) (uN bl.out) (by unfold maxLen;omega) (by omega) (by have:=an.out.size;simp;omega) ?_;intro v4 w4 ac a5 _ a3;have aR:=aa (wj br.out ⟨⟨dl,R,q⟩,.iface Tq (.agg aq)⟩ (bl.out.up (fun g I=>⟨I.elim .inl (fun k=>.inr ⟨by have:=k.1;simp at this;omega,k.2⟩),fun hm=>(by have h1:=(ak J.out.own.own).lo g hm;have h2:=(ak J.out.own.own).hi g hm;rcases I with I|I;(have:=U.out g I;omega);(have:=I.1;simp at this;omega))⟩)) _ (by rw[aN.out];exact ac) a5 a3);obtain⟨p4,c4,rfl⟩:=ar ac;clear ac a5 a3));go_roundw;case rel=>
      have bf:=(ak J.out.own.own).lo;have az:=an.out;have bz:Below w.heap.size w3 w4:=aR.out.2.below (by have:=az.size;omega) (fun b hb=>by have:=bf b hb;omega);have cI:=(hG role n dp q a8.out a0.out).1;have cq:(aY (aB n) [(⟨dl,R,q⟩:Br (Pn n))]).length=1+(aB n q).length:=by rw[cA];simp[aY];omega
      have cy:=b7.out;have al:=J.out.sz;refine⟨k+1,P++[⟨⟨dl,R,q⟩,.iface Tq (.agg aq)⟩],bL,by go_num,⟨?_,aR.out.1,?_,fun x hx=>?_,by rw[List.length_append,aN.out];rfl,(J.out.bel.trans (az.mono ad)).trans bz,?_,?_,?_⟩⟩;·rw[bp.out,a0.out,List.map_append];rfl
      ·rw[List.map_append,i6,List.length_append];have e:(aY (aB n) (List.map BV.b [(⟨⟨dl,R,q⟩,.iface Tq (.agg aq)⟩:BV n)])).length=1+(aB n q).length:=cq;omega
      ·rw[List.mem_append]at hx;rcases hx with hx|hx;·exact J.out.Cp x hx
       ·simp at hx;subst hx;exact jx role n dp q a8.out a0.out
      ·exact aR.out.2.ek ((az.cell (p:=⟨w.heap.size,0,none⟩) (by show w.heap.size<wr.heap.size;omega)).trans cl) (fun hm=>by have:=bf _ hm;omega)
      ·exact aR.out.2.ek ((az.cell (p:=⟨w.heap.size,1,none⟩) (by show w.heap.size<wr.heap.size;omega)).trans cm) (fun hm=>by have:=bf _ hm;omega)
      ·have:=az.size;have:=bz.size;omega
     case measure=>simp[intOf];omega
  ·obtain rfl:k=D:=by omega
   have ax:Hid (bu (bd role n) l=some (P.map BV.b)):=aa (by have:=J.out.same;rw[List.drop_of_length_le (by rw[HD.out];exact Nat.le_refl _),bu]at this;rw[<-this];simp[mA]);have a1:=aa J.out.own.sl;obtain⟨q1,cu⟩:∃q1,(role.toList==a.toList)=q1:=⟨_,rfl⟩;obtain⟨q2,cx⟩:∃q2,(role.toList==b.toList)=q2:=⟨_,rfl⟩;have a2:Hid (sW role n a b (bu (bd role n) l)=if q1 then some (.cU ⟨5,de,b⟩ (P.map BV.b))else if q2 then some (.cU ⟨6,de,a⟩ (P.map BV.b))else match P.map BV.b with|[]=>none|c::r=>(bE (aW n) c.p r).map (nP n)):=aa (by rw[ax.out];unfold sW;simp only[cu,cx]);cases q1;·
    cases q2;·
     cases af:P with
      |nil=>have:=aN.out;rw[af]at this;simp at this;omega|cons y rest=>
       rw[af]at a2 a1;have cd:Hid (Calls Tryz.prog 285 #[.slice cp k cc] wr fun e w'=>eO n (plus S w.heap.size wr.heap.size) wr w' e (bE (aW n) y.b.p (rest.map BV.b))):=aa (by
        have hs:=J.out.Cp;have al:=J.out.sz;rw[af]at hs al;refine BX n _ y.b (rest.map BV.b) (fun b hb=>?_) (by simp only[List.map_cons]at al;omega) _ wr (fun g I=>eG U.out ad I) a1.out;rw[List.mem_cons]at hb;rcases hb with rfl|hb;·exact hs y (by simp)
        ·obtain⟨z,hz,rfl⟩:=List.mem_map.1 hb;exact hs z (by simp[hz]));clear af;go_wp2_with(go_at_call 285;refine cd.out.mono ?_;rintro e w5⟨q5,rfl,bv,bx,a6⟩;have cb:=aa a6;clear a6;have b5:=aa bv;have bm:=aa bx;clear bv bx);go_ret2;rw[a2.out];have b2:=bm.out.size;refine⟨q5,?_,fun z hz=>?_,J.out.bel.trans (bm.out.mono ad),cb.out⟩;·refine ft ?_;show((bE (aW n) y.b.p (rest.map BV.b)).map (nP n)).isSome=_;cases bE (aW n) y.b.p (rest.map BV.b)<;>rfl
       ·have C:(bE (aW n) y.b.p (rest.map BV.b)).map (nP n)=some z:=hz;cases hm:bE (aW n) y.b.p (rest.map BV.b)with
         |none=>rw[hm]at C;cases C|some z'=>
          rw[hm]at C;simp only[Option.map_some,Option.some.injEq]at C;subst C;refine Kb n z' q5 ((b5.out z' hm).up (fun g I=>?_));rcases I with I|I;·exact gr b2 I
          ·exact .inr ⟨Nat.le_trans ad I.1,I.2⟩
    ·go_wp2;go_ret2;rw[a2.out];exact⟨_,rfl,(fun z hz=>by have C:some _=some z:=hz;injection C with C;subst C;exact⟨_,rfl,a1.out⟩),J.out.bel,(by first|exact .inl rfl|exact .inr ⟨_,_,rfl⟩)⟩
   ·go_wp2;go_ret2;rw[a2.out];exact⟨_,rfl,(fun z hz=>by have C:some _=some z:=hz;injection C with C;subst C;exact⟨_,rfl,a1.out⟩),J.out.bel,(by first|exact .inl rfl|exact .inr ⟨_,_,rfl⟩)⟩
structure Is(w wr:World)(row:List Nd)(nv:Value)(k:Nat)(ns:List ByteArray):Prop where
 same:bY ns (row.drop k)=bY [] row
 own:wr.ownsRow w.heap.size 9 1 nv ns.length (ns.map Value.string)
 len:ns.length<=k
 bel:ZW w wr
theorem uO(row:List Nd)(v:Value)(w:World)(hv:vF w v row):Calls Tryz.prog 303 #[v] w fun e w'=>e=.returned (.bool (bY [] row))/\ZW w w':=by
 obtain⟨i0,hi,ax,ay,az⟩:=info_parts Tryz.rP;have HI:=aa (And.intro hi (And.intro ax (And.intro ay az)));obtain⟨ao,cap,rfl,hl,hr⟩:=hv;have HR:=aa hr;obtain⟨L,hL⟩:∃L,row.length=L:=⟨_,rfl⟩;rw[hL]at hl|-;have HL:=aa hL;clear hr hL hi ax ay az;go_in;go_wp2;go_loopw[3,8](fun nv i wr=>∃(k:Nat)(ns:List ByteArray),k<=L/\i=.int .i64 k/\Is w wr row nv k ns)(fun _ i _=>L-(intOf i).toNat);case atStart=>exact⟨0,[],Nat.zero_le _,rfl,⟨rfl,dd _ _ _ _,Nat.le_refl _,Below.refl _ _⟩⟩
 case round=>
  obtain⟨k,ns,hk,rfl,hR⟩:=hrel;have I:=aa hR;have J:=hR.bel.size;have aN:=hR.len;obtain⟨np,nc,av⟩:=ar hR.own;obtain⟨M,hM⟩:∃M,ns.length=M:=⟨_,rfl⟩;rw[hM]at av aN;have P:=aa hM;subst av;by_cases U:k<L;·
   have T:k<row.length:=by rw[HL.out];exact U
   obtain⟨b,o,rfl,an,ac⟩:=HR.out (by intro h;rw[h]at T;simp at T);have aq:=(ac.get k T).carry an hR.bel;have al:Hid (∀x,row[k]=x->bY [] row=if x.op==2 then bY (ns++[x.name]) (row.drop (k+1))else if x.op==1&&!cw ns x.name then false else bY ns (row.drop (k+1))):=aa (fun x hx=>by rw[<-hR.same,List.drop_eq_getElem_cons T,hx,bY]);obtain⟨x1,ad⟩:∃x1,row[k]=x1:=⟨_,rfl⟩;rw[ad]at aq;have R:=aa (al.out x1 ad);obtain⟨op,name,aL,many,sort⟩:=x1;obtain⟨c0,c1,c2,c3,c4⟩:=aq;dsimp only at c0 c1 c2 c3 c4;have l:Hid (wr.ownsRow w.heap.size 9 1 (.slice np M nc) M (ns.map Value.string)):=aa (by have:=hR.own;rw[P.out]at this;exact this);have a0:b<wr.heap.size:=Nat.lt_of_lt_of_le an J;clear ac ad hR hM al;by_cases h2:op=2;·
    subst h2;go_wp2_with(at_builtin;refine wpList_append_own _ rfl (.tmp 15) (.tmp 18) 42 rfl w.heap.size 9 i0 (.string .empty) 1 16 Tryz.underlying42 HI.out.1 HI.out.2.1 HI.out.2.2.1 HI.out.2.2.2 rfl (by decide) (.slice np M nc) M (ns.map Value.string) rfl (aT l.out ((ag wr _).trans ((ag _ _).mono (by simp)))) ⟨wr.heap.size+1,0,none⟩ 1 1 [.string name] rfl rfl (fun j u hj=>fO _ _ _ _ (by simp) j u hj) (by intro u hu;simp at hu;subst hu;rfl) (by unfold maxLen;omega) (by omega) (by simp;omega) ?_;intro v4 w4 C ab _;have aM:=aa C;have af:Hid (aH (wr.alloc (.cells #[.int .i64 2,.string name,.string aL,.int .i64 many,.int .i64 sort] 156)) w4 (ae (.slice np M nc))):=aa (by have:=(aj (ag _ _)).trans (aE ab);rwa[List.nil_append]at this);have x0:w4.cell? ⟨wr.heap.size,0,none⟩=some (.int .i64 2):=af.out.ek (by simp) (fun hm=>absurd ((ak l.out).hi _ hm) (by omega));obtain⟨p4,aR,rfl⟩:=ar C;clear C ab);go_roundw;case rel=>
     refine⟨k+1,ns++[name],U,by go_num,⟨?_,?_,by rw[List.length_append,P.out];simp;omega,(I.out.bel.trans ((ag wr _).mono J)).trans (af.out.below (by simp;omega) (ak l.out).lo)⟩⟩;·rw[R.out];rfl
     ·rw[List.length_append,List.length_singleton,P.out,List.map_append];exact aM.out
    case measure=>simp[intOf];omega
   ·have e2:(op==2)=false:=by simpa using h2
    by_cases h1:op=1;·
     subst h1;obtain⟨q,hq⟩:∃q,cw ns name=q:=⟨_,rfl⟩;have HQ:=aa hq;have ah:Hid (∀W,ZW wr W->Calls Tryz.prog 184 #[.slice np M nc,.string name] W fun e w'=>e=.returned (.bool q)/\w'=W):=aa (fun W hW=>by have:=ix ns name (.slice np M nc) W (eA (base:=w.heap.size) (e:=9) (by rw[P.out];exact aT l.out hW) (by rw[P.out];omega));rw[hq]at this;exact this);clear hq;cases q;·go_wp2_with(go_at_call 184;refine(ah.out _ (ag _ _)).mono ?_;rintro e w'⟨rfl,rfl⟩);go_ret;refine⟨aD ?_,I.out.bel.trans ((ag wr _).mono J)⟩;rw[R.out];simp[HQ.out]
     ·go_wp2_with(go_at_call 184;refine(ah.out _ (ag _ _)).mono ?_;rintro e w'⟨rfl,rfl⟩);go_roundw;case rel=>refine⟨k+1,ns,U,by go_num,⟨?_,by rw[P.out];exact aT l.out (ag _ _),by rw[P.out];omega,I.out.bel.trans ((ag wr _).mono J)⟩⟩;rw[R.out];simp[HQ.out]
      case measure=>simp[intOf];omega
    ·have e1:(op==1)=false:=by simpa using h1
     go_wp2;go_roundw;case rel=>refine⟨k+1,ns,U,by go_num,⟨?_,by rw[P.out];exact aT l.out (ag _ _),by rw[P.out];omega,I.out.bel.trans ((ag wr _).mono J)⟩⟩;rw[R.out];simp[e1,e2]
     case measure=>simp[intOf];omega
  ·have HT:Hid (bY [] row=true):=aa (by rw[<-I.out.same,List.drop_of_length_le (by rw[HL.out];omega),bY]);go_wp2;go_ret;exact⟨aD HT.out,I.out.bel⟩
end
theorem DG(j:kD)(ns:List Nd)(v:Value)(w:World)(R:∀n∈ns,n.fit)(P:vF w v ns)(I:ns.length<=40):Calls Tryz.prog 205 #[v] w fun e w'=>∃l,e=.returned l/\w'.ownsRow w.heap.size 9 1 l (dV ns).length ((dV ns).map Value.string)/\ZW w w':=by obtain⟨C,cap,rfl,T,J⟩:=P;exact wS j ns C cap w R J I
theorem oQ{a b:ByteArray}(h:(a.toList==b.toList)=true):a=b:=by have h:=beq_iff_eq.1 h;rw[Go.ByteArray.toList_eq,Go.ByteArray.toList_eq]at h;apply ByteArray.ext;exact Array.ext' h
theorem F4(j:List ByteArray)(t r:ByteArray):cw (ig j t) r=(cw j r||t.toList==r.toList):=by
 unfold ig;split;·
  rename_i h;cases l:(t.toList==r.toList);·rw[Bool.or_false]
  ·rw[Bool.or_true];have e:t=r:=oQ l;rw[<-e];exact h
 ·simp[cw]
theorem wK(r:ByteArray):∀(ts j:List ByteArray),cw (ts.foldl ig j) r=(cw j r||ts.any fun t=>t.toList==r.toList)|[],j=>by simp|t::ts,j=>by rw[List.foldl_cons,wK r ts,F4,List.any_cons,Bool.or_assoc]
theorem BE(r:ByteArray)(row:List Nd)(h:∀n∈row,n.op≠5/\n.op≠6):cw (dV row) r=dh r row:=by
 rw[kx,wK];have j:cw [] r=false:=rfl;rw[j,Bool.false_or];clear j;induction row with
  |nil=>rfl|cons n l ih=>
   rw[List.flatMap_cons,List.any_append,ih (fun m R=>h m (by simp[R]))];unfold dh;rw[List.any_cons];congr 1;obtain⟨J,P⟩:=h n (by simp);have C:(n.op==5)=false:=by simpa using J
   have I:(n.op==6)=false:=by simpa using P
   unfold bU;cases T:(n.op==3);·simp[C,I]
   ·simp
section
attribute [local go_sem ↓] Go.wp_at_zero Go.wp_at_succ
theorem DX(n:Nat)(q:Pn n)(hq:bJ n q)(x:ByteArray)(u:Value)(S:Nat->Prop)(w W:World)(hS:∀g,S g->g<w.heap.size)(h:cK w S n q u)(C:(aB n q).length<=999)(R:ZW w W):Calls Tryz.prog 302 #[.agg #[.string x,u]] W fun e w'=>pU W w' e (aB (n+1) (.loop x q)):=by
 obtain⟨T,a,K,e,hm,_,j⟩:=AK n q (ux n q hq) x u w (h.up (fun g U=>hS g U)) C;injection e with I J;subst I;subst J;have l:=hm w;have P:(Go.method 536 297 (.agg #[.string x,u]) "loop.example/g00574/impl.row").run Tryz.prog w=.ok (302,.agg #[.string x,u]) w:=by kernel_rfl
 rw[P]at l;injection l with l _;injection l with l _;rw[l];exact j W R
theorem Ev:∀(n:Nat)(p:Pn n),bX n p->∀m∈aB n p,m.op≠5/\m.op≠6:=by
 have C:∀x,∀m∈bP x,m.op≠5/\m.op≠6:=by intro x m j;cases x<;>simp[bP]at j<;>subst j<;>exact⟨by simp,by simp⟩
 intro n;induction n with
  |zero=>intro p _ m j;exact C p m j|succ n ih=>
   intro p;refine Pn.cases (P:=fun p=>bX (n+1) p->∀m∈aB (n+1) p,m.op≠5/\m.op≠6) (fun x _ m j=>C x m j) (fun x q T m j=>?_) (fun t l R m j=>?_) p;·
    rw[cO,List.mem_cons]at j;rcases j with rfl|j;·exact⟨by simp,by simp⟩
    ·exact ih q T m j
   ·have I:t.op=3/\(t.a.toList==t.b.toList)=false/\1<=l.length/\l.length<=4/\∀b∈l,bX n b.p:=R;rw[bI,List.mem_cons]at j;rcases j with rfl|j;·rw[I.1];exact⟨by simp,by simp⟩
    ·rw[aY,List.mem_flatMap]at j;obtain⟨b,J,j⟩:=j;rw[List.mem_cons]at j;rcases j with rfl|j;·exact⟨by simp,by simp⟩
     ·exact ih b.p (I.2.2.2.2 b J) m j
theorem BQ(role:ByteArray)(n:Nat)(q:Pn n)(hq:bX n q)(x:ByteArray)(u:Value)(S:Nat->Prop)(w W:World)(hS:∀g,S g->g<w.heap.size)(h:cK w S n q u)(j:(aB (n+1) (.loop x q)).length<=40)(I:gV (aB (n+1) (.loop x q)))(hW:ZW w W):Calls Tryz.prog 284 #[.agg #[.string x,u],.string role] W fun e w'=>e=.returned (.bool (kj role (aB (n+1) (.loop x q))))/\ZW W w':=by
 have al:Hid (∀V,ZW W V->Calls Tryz.prog 302 #[.agg #[.string x,u]] V fun e w'=>pU V w' e (aB (n+1) (.loop x q))):=aa (fun V hV=>DX n q (kU n q hq) x u S w V hS h (by rw[cO]at j;simp only[List.length_cons]at j;omega) (hW.trans (hV.mono hW.size)));have ab:=aa (Ev (n+1) (.loop x q) hq);obtain⟨T,av,rfl⟩:=h.shape;obtain⟨R,hR⟩:∃R,aB (n+1) (.loop x q)=R:=⟨_,rfl⟩;rw[hR]at al ab j I|-;have U:=aa j;have af:=aa I;obtain⟨q1,ac⟩:∃q1,cw (dV R) role=q1:=⟨_,rfl⟩;obtain⟨q2,ad⟩:∃q2,bY [] R=q2:=⟨_,rfl⟩;have HI:Hid (kj role R=(!q1&&q2)):=aa (by rw[kj,<-BE role R ab.out,ac,ad]);have aL:=aa ac;have aM:=aa ad;have aN:Hid ((dV R).length<=4294967296):=aa (by
  have:∀(l P:List ByteArray),(l.foldl ig P).length<=P.length+l.length:=by intro l;induction l with|nil=>intro P;simp|cons t l ih=>intro P;rw[List.foldl_cons];refine Nat.le_trans (ih _) ?_;unfold ig;split<;>simp only[List.length_cons,List.length_append,List.length_nil]<;>omega
  have h1:=this (R.flatMap bU) [];rw[<-kx]at h1;have h2:∀l:List Nd,(l.flatMap bU).length<=2*l.length:=by intro l;induction l with|nil=>simp|cons m l ih=>rw[List.flatMap_cons,List.length_append,List.length_cons];have:=lT m;omega
  have h3:=h2 R;rw[List.length_nil,Nat.zero_add]at h1;omega);clear ac ad hR j I h hq;cases q1;all_goals go_in;go_wp2_with(first|(go_at_call 302;refine(al.out _ (ag _ _)).mono ?_;rintro e w1⟨v1,rfl,ax,an⟩;have ah:=aa (ax.rd (by have:=U.out;omega));have C:Hid (ZW W w1):=aa ((ag W _).trans (an.mono (by simp)));clear ax an)|(go_at_call 205;refine(DG eZ R _ w1 af.out ah.out U.out).mono ?_;rintro e w2⟨v2,rfl,ay,ao⟩;have aR:=aa (eA ay aN.out);have J:=aa ao;clear ay ao)|(go_at_call 184;refine(ix (dV R) role _ _ aR.out).mono ?_;rw[aL.out];rintro e w3⟨rfl,rfl⟩)|(go_at_call 303;refine(uO R _ _ (ah.out.on J.out)).mono ?_;rw[aM.out];rintro e w4⟨rfl,aq⟩;have az:=aa aq;clear aq));go_ret;first|exact⟨aD (by rw[HI.out];simp),(C.out.trans (J.out.mono C.out.size)).trans (az.out.mono (Nat.le_trans C.out.size J.out.size))⟩|exact⟨aD (by rw[HI.out];simp),C.out.trans (J.out.mono C.out.size)⟩
theorem sC(role:ByteArray)(v:Value)(w:World)(j:∀W:World,(Instr.typeAssert v 245 297 true).run Tryz.prog W=.ok (.tuple #[.agg #[.string .empty,.nilIface],.bool false]) W)(l:∀W:World,(Instr.typeAssert v 245 302 true).run Tryz.prog W=.ok (.tuple #[.agg #[.string .empty,.string .empty,.slice none 0 0],.bool false]) W):Calls Tryz.prog 209 #[v,.string role] w fun e w'=>e=.returned (.tuple #[v,.bool true])/\ZW w w':=by go_in;go_wp2;go_ret2;exact⟨rfl,Below.refl _ _⟩
theorem B9(role:ByteArray)(x:Option ByteArray)(v:Value)(w:World)(h:jW x v):Calls Tryz.prog 209 #[v,.string role] w fun e w'=>e=.returned (.tuple #[v,.bool true])/\ZW w w':=by cases x with|none=>rw[show v=_ from h];exact sC role _ w (fun W=>by kernel_rfl) (fun W=>by kernel_rfl)|some x=>rw[show v=_ from h];exact sC role _ w (fun W=>by kernel_rfl) (fun W=>by kernel_rfl)
theorem Ca(role:ByteArray)(n:Nat)(S:Nat->Prop)(o:Option (Pn (n+1)))(x:ByteArray)(T:TypeId)(I:Array Value)(w:World)(U:∀W,ZW w W->Calls Tryz.prog 249 #[.agg #[.string x,.iface T (.agg I)],.string role] W fun e w'=>eO (n+1) S W w' e o):Calls Tryz.prog 209 #[.iface 297 (.agg #[.string x,.iface T (.agg I)]),.string role] w fun e w'=>eO (n+1) S w w' e o:=by
 have HC:=aa U;have t1:∀W:World,(Instr.typeAssert (.iface 297 (.agg #[.string x,.iface T (.agg I)])) 245 297 true).run Tryz.prog W=.ok (.tuple #[.agg #[.string x,.iface T (.agg I)],.bool true]) W:=fun W=>by kernel_rfl
 clear U;go_in;go_wp2_with(go_at_call 249;refine(HC.out _ (ag _ _)).mono ?_;rintro e w1⟨q1,rfl,l,C,j⟩;have R:=aa j;clear j;have J:=aa l;have P:Hid (ZW w w1):=aa ((ag w _).trans (C.mono (by simp)));clear l C);go_ret2;exact⟨q1,rfl,(fun z hz=>(J.out z hz).up (fun g hg=>hg.elim .inl (fun k=>.inr ⟨by have:=k.1;simp at this;omega,k.2⟩))),P.out,R.out⟩
theorem Er(role:ByteArray)(n:Nat)(S:Nat->Prop)(o:Option (Pn (n+1)))(a b:ByteArray)(p:Option Addr)(l c:Nat)(w:World)(T:∀W,ZW w W->Calls Tryz.prog 250 #[.agg #[.string a,.string b,.slice p l c],.string role] W fun e w'=>eO (n+1) S W w' e o):Calls Tryz.prog 209 #[.iface 302 (.agg #[.string a,.string b,.slice p l c]),.string role] w fun e w'=>eO (n+1) S w w' e o:=by
 have U:=aa T;have t1:∀W:World,(Instr.typeAssert (.iface 302 (.agg #[.string a,.string b,.slice p l c])) 245 297 true).run Tryz.prog W=.ok (.tuple #[.agg #[.string .empty,.nilIface],.bool false]) W:=fun W=>by kernel_rfl
 have t2:∀W:World,(Instr.typeAssert (.iface 302 (.agg #[.string a,.string b,.slice p l c])) 245 302 true).run Tryz.prog W=.ok (.tuple #[.agg #[.string a,.string b,.slice p l c],.bool true]) W:=fun W=>by kernel_rfl
 clear T;go_in;go_wp2_with(go_at_call 250;refine(U.out _ (ag _ _)).mono ?_;rintro e w1⟨q1,rfl,C,I,j⟩;have R:=aa j;clear j;have J:=aa C;have P:Hid (ZW w w1):=aa ((ag w _).trans (I.mono (by simp)));clear C I);go_ret2;exact⟨q1,rfl,(fun z hz=>(J.out z hz).up (fun g hg=>hg.elim .inl (fun k=>.inr ⟨by have:=k.1;simp at this;omega,k.2⟩))),P.out,R.out⟩
theorem BR(role:ByteArray)(n:Nat)(ah:oS role n)(S:Nat->Prop)(x:ByteArray)(q:Pn n)(hq:bX n q)(I:(aB (n+1) (.loop x q)).length<=40)(C:gV (aB (n+1) (.loop x q)))(u:Value)(w:World)(hS:∀g,S g->g<w.heap.size)(h:cK w S n q u):Calls Tryz.prog 249 #[.agg #[.string x,u],.string role] w fun e w'=>eO (n+1) S w w' e (bd role (n+1) (.loop x q)):=by
 have P:Hid (∀W,ZW w W->Calls Tryz.prog 284 #[.agg #[.string x,u],.string role] W fun e w'=>e=.returned (.bool (kj role (aB (n+1) (.loop x q))))/\ZW W w'):=aa (fun W hW=>BQ role n q hq x u S w W hS h I C hW);rw[cO]at I C;have ac:Hid (∀W,ZW w W->Calls Tryz.prog 209 #[u,.string role] W fun e w'=>eO n S W w' e (bd role n q)):=aa (fun W hW=>ah S q u W (fun g U=>Nat.lt_of_lt_of_le (hS g U) hW.size) hq (by simp only[List.length_cons]at I;omega) (dw.1 C).2 (cK.carry (fun g U=>hW.block g (hS g U)) (fun g U=>U) _ _ _ h));obtain⟨T,av,rfl⟩:=h.shape;obtain⟨i,hi⟩:∃i,kj role (aB (n+1) (.loop x q))=i:=⟨_,rfl⟩;obtain⟨om,ab⟩:∃om,bd role n q=om:=⟨_,rfl⟩;have HP:Hid (bd role (n+1) (.loop x q)=if i then some (.leaf none)else om.map (Pn.loop x)):=aa (by show(if kj role (aB (n+1) (.loop x q))then some (Pn.leaf none)else(bd role n q).map (Pn.loop x))=_;rw[hi,ab]);rw[hi]at P;rw[ab]at ac;clear hi ab I C h ah;cases i;·
  go_in;go_wp2_with(first|(go_at_call 284;refine(P.out _ (ag _ _)).mono ?_;rintro e w1⟨rfl,j⟩;have J:Hid (ZW w w1):=aa ((ag w _).trans (j.mono (by simp)));have z0:=(j.cell (p:=⟨w.heap.size,0,none⟩) (by simp));have z1:=(j.cell (p:=⟨w.heap.size,1,none⟩) (by simp));simp at z0 z1;have ao:w.heap.size<w1.heap.size:=(by have:=j.size;simp at this;omega);clear j)|(go_at_call 209;refine(ac.out _ J.out).mono ?_;rintro e w2⟨q2,rfl,ad,R,af⟩;have al:=aa ad;have an:Hid (ZW w w2):=aa (J.out.trans (R.mono J.out.size));have y0:=(R.cell (p:=⟨w.heap.size,0,none⟩) ao).trans z0;have HZ:=aa J.out.size;clear ad R;rcases af with rfl|⟨t2,a2,rfl⟩));all_goals
   go_ret2;rw[HP.out];refine⟨_,ft ?_,fun z hz=>?_,an.out,(by first|exact .inl rfl|exact .inr ⟨_,_,rfl⟩)⟩;·show(om.map (Pn.loop x)).isSome=_;cases om<;>rfl
   ·have l:om.map (Pn.loop x)=some z:=hz;cases om with|none=>cases l|some y=>simp only[Option.map_some,Option.some.injEq]at l;subst l;exact⟨_,rfl,(al.out y rfl).up (fun g U=>U.elim .inl (fun k=>.inr ⟨Nat.le_trans HZ.out k.1,k.2⟩))⟩
 ·go_in;go_wp2_with(go_at_call 284;refine(P.out _ (ag _ _)).mono ?_;rintro e w1⟨rfl,j⟩;have J:Hid (ZW w w1):=aa ((ag w _).trans (j.mono (by simp)));clear j);go_ret2;rw[HP.out];exact⟨_,rfl,(fun z hz=>by have l:some (Pn.leaf none)=some z:=hz;injection l with l;subst l;exact rfl),J.out,(by first|exact .inl rfl|exact .inr ⟨_,_,rfl⟩)⟩
theorem qh{role:ByteArray}{n:Nat}{S:Nat->Prop}{x:Option ByteArray}{l:Pn n}{v:Value}{w:World}(h:jW x v)(I:∀W,cK W (plus S w.heap.size W.heap.size) n l v):Calls Tryz.prog 209 #[v,.string role] w fun e w'=>eO n S w w' e (some l):=by refine(B9 role x v w h).mono ?_;rintro e w'⟨rfl,C⟩;obtain⟨t,a,rfl⟩:=nw h;exact⟨_,rfl,(fun z j=>by injection j with j;subst j;exact I w'),C,.inr ⟨_,_,rfl⟩⟩
theorem yV(role:ByteArray):∀n:Nat,oS role n:=by
 intro n;induction n with
  |zero=>intro S p u w hS J hl I h;exact qh (x:=p) h (fun W=>h)|succ n ih=>
   intro S p;refine Pn.cases (P:=fun p=>∀(u:Value)(w:World),(∀g,S g->g<w.heap.size)->bX (n+1) p->(aB (n+1) p).length<=40->gV (aB (n+1) p)->cK w S (n+1) p u->Calls Tryz.prog 209 #[u,.string role] w fun e w'=>eO (n+1) S w w' e (bd role (n+1) p)) (fun x u w hS J hl I h=>?_) (fun x q u w hS J hl I h=>?_) (fun t l u w hS J hl I h=>?_) p;·exact qh (x:=x) h (fun W=>h)
   ·obtain⟨u',rfl,h⟩:=h;have U:=h.shape;obtain⟨T,av,rfl⟩:=U;refine Ca role n S _ x T av w (fun W C=>BR role n ih S x q J hl I _ W (fun g j=>Nat.lt_of_lt_of_le (hS g j) C.size) (cK.carry (fun g j=>C.block g (hS g j)) (fun g j=>j) _ _ _ h))
   ·obtain⟨op,a,b⟩:=t;have R:op=3/\(a.toList==b.toList)=false/\1<=l.length/\l.length<=4/\∀b∈l,bX n b.p:=J;obtain⟨rfl,-⟩:=R;obtain⟨sl,rfl,h⟩:=h;rw[bI]at hl I;have h':=h;obtain⟨ao,cap,rfl,-⟩:=h';rw[pB];refine Er role n S _ a b ao l.length cap w (fun W C=>u6 role n ih S a b l J (by simp only[List.length_cons]at hl;omega) (dw.1 I).2 _ W (fun g j=>Nat.lt_of_lt_of_le (hS g j) C.size) (h.carry (fun g j=>C.block g (hS g j)) (fun g j=>j) (fun b _ u hu=>cK.carry (fun g j=>C.block g (hS g j)) (fun g j=>j) _ _ _ hu)))
end
def eL:(n:Nat)->Pn n->Prop|0,_=>True|n+1,p=>p.by (fun _=>True) (fun _ q=>eL n q) (fun _ l=>l.length<=4/\∀b∈l,eL n b.p)
theorem Hf:∀(n:Nat)(p:Pn n),eL n p->eL (n+1) (nP n p):=by intro n;induction n with|zero=>intro p _;trivial|succ n ih=>intro p;refine Pn.cases (P:=fun p=>eL (n+1) p->eL (n+2) (nP (n+1) p)) (fun x _=>trivial) (fun x q C=>ih q C) (fun t l C=>?_) p;have j:l.length<=4/\∀b∈l,eL n b.p:=C;refine⟨by rw[List.length_map];exact j.1,fun b I=>?_⟩;obtain⟨c,J,rfl⟩:=List.mem_map.1 I;exact ih c.p (j.2 c J)
theorem nC:∀(n:Nat)(x y z:Pn n),eL n x->eL n y->aW n x y=some z->eL n z:=by
 intro n;induction n with
  |zero=>intro x y z _ _ _;trivial|succ n ih=>
   intro x y z I R h;rw[aW]at h;split at h;·injection h with h;subst h;exact I
   ·split at h;·
     rename_i a cs b ds ex J;split at h;·
      split at h;·
       rename_i l hl;split at h;·rename_i P;injection h with h;subst h;obtain⟨T,rfl⟩:=eT ex;obtain⟨U,rfl⟩:=eT J;have j:cs.length<=4/\∀b∈cs,eL n b.p:=I;have C:ds.length<=4/\∀b∈ds,eL n b.p:=R;exact⟨P,fM (Q:=eL n) ih ds cs l j.2 C.2 hl⟩
       ·cases h
      ·cases h
     ·cases h
    ·cases h
theorem pA(role:ByteArray):∀(n:Nat)(p q:Pn n),bX n p->bd role n p=some q->eL n q:=by
 intro n;induction n with
  |zero=>intro p q _ _;trivial|succ n ih=>
   intro p;refine Pn.cases (P:=fun p=>∀q,bX (n+1) p->bd role (n+1) p=some q->eL (n+1) q) (fun x q _ h=>?_) (fun x p q hp h=>?_) (fun t l q hp h=>?_) p;·have j:some (Pn.leaf x)=some q:=h;injection j with j;subst j;trivial
   ·have j:(if kj role (aB (n+1) (.loop x p))then some (Pn.leaf none)else(bd role n p).map (Pn.loop x))=some q:=h;have I:bX n p:=hp;split at j;·injection j with j;subst j;trivial
    ·cases hq:bd role n p with|none=>rw[hq]at j;cases j|some q'=>rw[hq]at j;simp only[Option.map_some,Option.some.injEq]at j;subst j;exact ih p q' I hq
   ·have j:(match bu (bd role n) l with|none=>none|some r=>if role.toList==t.a.toList then some (Pn.cU ⟨5,de,t.b⟩ r)else if role.toList==t.b.toList then some (.cU ⟨6,de,t.a⟩ r)else match r with|[]=>none|c::r=>(bE (aW n) c.p r).map (nP n))=some q:=h;have I:t.op=3/\(t.a.toList==t.b.toList)=false/\1<=l.length/\l.length<=4/\∀b∈l,bX n b.p:=hp;split at j;·cases j
    ·rename_i r hr;have C:=pC (Q:=bX n) (R:=eL n) (fun x y T U=>ih x y T U) l r I.2.2.2.2 hr;have J:r.length<=4:=by have:=(lN (f:=aB n) (Q:=bX n) (fun x y T U=>hG role n x y T U) l r I.2.2.2.2 hr).2;omega
     split at j;·injection j with j;subst j;exact⟨J,C⟩
     ·split at j;·injection j with j;subst j;exact⟨J,C⟩
      ·split at j;·cases j
       ·rename_i c r;cases hm:bE (aW n) c.p r with|none=>rw[hm]at j;cases j|some z=>rw[hm]at j;simp only[Option.map_some,Option.some.injEq]at j;subst j;exact Hf n z (i7 (Q:=eL n) (fun x y z T U h=>nC n x y z T U h) r c.p z (C c (by simp)) (fun b hb=>C b (by simp[hb])) hm)
def ic{α:Type}(mg:α->α->Option α)(j:List (Br α))(d:Br α):Option (List (Br α)):=match gU d.l j with|none=>if j.length<4 then some (j++[d])else none|some i=>match j[i]? with|none=>none|some b=>match mg b.p d.p with|none=>none|some q=>if b.s==d.s then some (j.set i ⟨b.l,b.s,q⟩)else none
def fk{α:Type}(mg:α->α->Option α):List (Br α)->List (Br α)->Option (List (Br α))|j,[]=>some j|j,d::ds=>match ic mg j d with|none=>none|some l=>fk mg l ds
def zZ{α:Type}:Option (List α)->Option (List α)|none=>none|some l=>if l.length<=4 then some l else none
theorem iH{α:Type}{mg:α->α->Option α}:∀(ds j l:List (Br α)),bQ mg j ds=some l->j.length<=l.length
 |[],j,l,h=>by rw[bQ]at h;injection h with h;subst h;exact Nat.le_refl _|d::ds,j,l,h=>by
  rw[bQ]at h;split at h;·have:=iH ds _ l h;simp at this;omega
  ·split at h;·cases h
   ·split at h;·cases h
    ·split at h;·have:=iH ds _ l h;simpa using this
     ·cases h
theorem lS{α:Type}{mg:α->α->Option α}:∀(ds j:List (Br α)),j.length<=4->fk mg j ds=zZ (bQ mg j ds)
 |[],j,h=>by rw[fk,bQ,zZ,if_pos h]|d::ds,j,h=>by
  rw[fk,bQ,ic];cases J:gU d.l j with
   |none=>
    dsimp only;by_cases C:j.length<4;·rw[if_pos C];exact lS ds (j++[d]) (by simp;omega)
    ·rw[if_neg C];dsimp only;cases I:bQ mg (j++[d]) ds with|none=>rfl|some l=>have:=iH ds _ l I;simp at this;rw[zZ,if_neg (by omega)]
   |some i=>dsimp only;cases j[i]? with|none=>rfl|some b=>dsimp only;cases mg b.p d.p with|none=>rfl|some q=>dsimp only;cases P:(b.s==d.s)with|false=>rfl|true=>simp only[if_true];exact lS ds _ (by rw[List.length_set];exact h)
theorem zu{n:Nat}(a:ByteArray)(cs ds:List (Br (Pn n)))(h:cs.length<=4):(fk (aW n) cs ds).map (Pn.cU ⟨6,de,a⟩)=oq n a (bQ (aW n) cs ds):=by rw[lS ds cs h];cases bQ (aW n) cs ds with|none=>rfl|some l=>rw[zZ,oq];split<;>rfl
