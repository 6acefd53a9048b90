import Derived.Test.YtlbcnmcfljaijaaGreatQN35
namespace Go.Proofs.YtlbcnmcfljaijaaGreat
open Go.RowKit
set_option linter.unusedSimpArgs false
set_option linter.unusedVariables false
set_option maxHeartbeats 2000000
set_option maxRecDepth 100000
section
attribute [local go_sem ↓] Go.wp_at_zero Go.wp_at_succ
def fH(w:World)(S:Nat→Prop)(v:Value)(l:List Nd):Prop:=∃j cap,v=.slice j l.length cap∧l.length≤cap∧cap≤maxLen∧l.length≤2000∧(l≠[]→∃g o,j=some ⟨g,o,none⟩∧S g∧bO w g o l)
theorem bO.block{w w':World}{g:Nat}(j:w'.heap[g]?=w.heap[g]?):∀{l:List Nd}{o:Nat},bO w g o l→bO w' g o l|[],_,_=>trivial|_::_,_,⟨⟨C,I,J,P,R⟩,T⟩=>⟨⟨(World.cell?_of_block (a:=⟨g,_,none⟩) j).trans C,(World.cell?_of_block (a:=⟨g,_,none⟩) j).trans I,(World.cell?_of_block (a:=⟨g,_,none⟩) j).trans J,(World.cell?_of_block (a:=⟨g,_,none⟩) j).trans P,(World.cell?_of_block (a:=⟨g,_,none⟩) j).trans R⟩,bO.block j T⟩
theorem fH.carry{w w':World}{S S':Nat→Prop}{v:Value}{l:List Nd}(h:fH w S v l)(U:∀g,S g→w'.heap[g]?=w.heap[g]?)(hS:∀g,S g→S' g):fH w' S' v l:=by obtain⟨C,cap,e,J,P,R,T⟩:=h;refine⟨C,cap,e,J,P,R,fun j=>?_⟩;obtain⟨g,o,e1,e2,I⟩:=T j;exact⟨g,o,e1,hS g e2,I.block (U g e2)⟩
theorem fH.up{w:World}{S S':Nat→Prop}{v:Value}{l:List Nd}(h:fH w S v l)(hS:∀g,S g→S' g):fH w S' v l:=h.carry (fun _ _=>rfl) hS
theorem fH.on{w w':World}{S:Nat→Prop}{v:Value}{l:List Nd}(h:fH w S v l)(hS:∀g,S g→g<w.heap.size)(C:Below w.heap.size w w'):fH w' S v l:=h.carry (fun g j=>C.block g (hS g j)) (fun _ j=>j)
theorem dP{all post:List Nd}{j:Nat}{x:Nd}{r:List Nd}(h:all.drop j=x::r++post):∃C:j<all.length,all[j]=x∧all.drop (j+1)=r++post:=by
 have C:j<all.length:=by
  rcases Nat.lt_or_ge j all.length with l|l;·exact l
  ·rw[List.drop_of_length_le l]at h;cases h
 rw[List.drop_eq_getElem_cons C,List.cons_append]at h;injection h with I J;exact⟨C,I,J⟩
theorem sj{all j post:List Nd}{l:Nat}(h:all.drop l=j++post)(C:j≠[]):l+j.length+post.length=all.length:=by have:=congrArg List.length h;rw[List.length_drop,List.length_append]at this;have:0<j.length:=List.length_pos_iff.2 C;omega
theorem pI{all j post:List Nd}{l:Nat}(h:all.drop l=j++post):all.drop (l+j.length)=post:=by rw[←List.drop_drop,h,List.drop_left]
def lO(n:Nat):Prop:=∀(p:Pn n)(all post:List Nd)(pos:Nat)(v:Value)(w:World)(S:Nat→Prop),(∀g,S g→g<w.heap.size)→cb n p→all.length≤1000→all.drop pos=aI n p++post→fH w S v all→Calls Tryz.prog 127 #[v,.int .i64 pos] w fun e w'=>e=.returned (.int .i64 ((pos+(aI n p).length:Nat):Int))∧Below w.heap.size w w'
theorem qn(x:Option ByteArray)(all post:List Nd)(j:Nat)(v:Value)(w:World)(S:Nat→Prop)(hS:∀g,S g→g<w.heap.size)(hl:all.length≤1000)(h:all.drop j=dX x++post)(hv:fH w S v all):Calls Tryz.prog 127 #[v,.int .i64 j] w fun e w'=>e=.returned (.int .i64 ((j+(dX x).length:Nat):Int))∧Below w.heap.size w w':=by
 obtain⟨R,hr,P,C⟩:∃R,dX x=[R]∧(R.op=0∨R.op=1)∧R.many=0:=by cases x with|none=>exact⟨_,rfl,.inl rfl,rfl⟩|some x=>exact⟨_,rfl,.inr rfl,rfl⟩
 rw[hr]at h⊢;obtain⟨T,hn,-⟩:=dP h;obtain⟨ao,cap,rfl,hc,hm,-,l⟩:=hv;obtain⟨g,o,rfl,hg,l⟩:=l (fun e=>by rw[e]at T;simp at T);have I:=l.get j T;rw[hn]at I;obtain⟨op,name,J,many,sort⟩:=R;dsimp only at C P;subst C;obtain⟨c0,c1,c2,c3,c4⟩:=I;dsimp only at c0 c1 c2 c3 c4;have HL:Hid (([⟨op,name,J,0,sort⟩]:List Nd).length=1):=aa rfl;have e2:(op==2)=false:=by rcases P with rfl|rfl<;>rfl
 have ab:=hS g hg;obtain⟨M,U⟩:∃M,all.length=M:=⟨_,rfl⟩;rw[U]at T hl hc⊢;clear l hn hr h hS U P;go_enter Tryz.func127,Tryz.ntmps127;go_wp2_with fail;go_loopw[1,6](fun av kv wr=>av=.int .i64 ((j:Int)+1)∧kv=.int .i64 0∧wr=w.alloc (.cells #[.int .i64 op,.string name,.string J,.int .i64 0,.int .i64 sort] 108))(fun _ _ _=>0);case atStart=>exact⟨by go_num,rfl,rfl⟩
 case round=>obtain⟨rfl,rfl,rfl⟩:=hrel;go_wp2_with fail;go_ret;refine⟨?_,ai w _⟩;show Ending.returned (.int .i64 ((j:Int)+1))=.returned (.int .i64 ((j+1:Nat):Int));rw[Int.natCast_add];rfl
theorem wF(n:Nat)(ih:lO n)(x:ByteArray)(q:Pn n)(hq:cb n q)(all post:List Nd)(j:Nat)(v:Value)(w:World)(S:Nat→Prop)(hS:∀g,S g→g<w.heap.size)(hl:all.length≤1000)(h:all.drop j=aI (n+1) (.loop x q)++post)(hv:fH w S v all):Calls Tryz.prog 127 #[v,.int .i64 j] w fun e w'=>e=.returned (.int .i64 ((j+(aI (n+1) (.loop x q)).length:Nat):Int))∧Below w.heap.size w w':=by rw[gd]at h⊢;obtain⟨P,hn,U⟩:=dP h;have I:Hid (∀W,Below w.heap.size w W→Calls Tryz.prog 127 #[v,.int .i64 ((j+1:Nat):Int)] W fun e w'=>e=.returned (.int .i64 ((j+1+(aI n q).length:Nat):Int))∧Below W.heap.size W w'):=aa (fun W hW=>ih q all post (j+1) v W S (fun g T=>Nat.lt_of_lt_of_le (hS g T) hW.size) hq hl U (hv.on hS hW));obtain⟨ao,cap,rfl,hc,hm,-,l⟩:=hv;obtain⟨g,o,rfl,T,l⟩:=l (fun e=>by rw[e]at P;simp at P);have C:=l.get j P;rw[hn]at C;obtain⟨c0,c1,c2,c3,c4⟩:=C;dsimp only at c0 c1 c2 c3 c4;have ab:=hS g T;obtain⟨M,hM⟩:∃M,all.length=M:=⟨_,rfl⟩;rw[hM]at P hl hc I⊢;clear l hn h U hS hM ih;go_enter Tryz.func127,Tryz.ntmps127;go_wp2_with(go_at_call 127;refine(I.out _ (ai _ _)).mono ?_;rintro e w1⟨rfl,J⟩;have R:Hid (Below w.heap.size w w1):=aa ((ai w _).trans (J.mono (by simp)));clear J);go_ret;refine⟨?_,R.out⟩;show Ending.returned (.int .i64 ((j+1+(aI n q).length:Nat):Int))=.returned (.int .i64 ((j+((aI n q).length+1):Nat):Int));rw[show j+1+(aI n q).length=j+((aI n q).length+1)by omega]
theorem wG(n:Nat)(ih:lO n)(t:Tk)(l:List (Br (Pn n)))(ht:t.op≠2)(ay:∀b∈l,cb n b.p)(all post:List Nd)(j:Nat)(v:Value)(w:World)(S:Nat→Prop)(hS:∀g,S g→g<w.heap.size)(hl:all.length≤1000)(h:all.drop j=aI (n+1) (.cG t l)++post)(hv:fH w S v all):Calls Tryz.prog 127 #[v,.int .i64 j] w fun e w'=>e=.returned (.int .i64 ((j+(aI (n+1) (.cG t l)).length:Nat):Int))∧Below w.heap.size w w':=by
 rw[cA]at h⊢;obtain⟨hp,hn,h1⟩:=dP h;have ad:Hid (∀(k p:Nat)(b:Br (Pn n)),l[k]?=some b→all.drop p=aX (aI n) (l.drop k)++post→(all.drop (p+1+(aI n b.p).length)=aX (aI n) (l.drop (k+1))++post∧p+1<all.length)∧∀W,Below w.heap.size w W→Calls Tryz.prog 127 #[v,.int .i64 ((p:Int)+1)] W fun e w'=>e=.returned (.int .i64 ((p+1+(aI n b.p).length:Nat):Int))∧Below W.heap.size W w'):=aa (fun k p b R hd=>by
  have P:=(List.getElem?_eq_some_iff.1 R).1;have a0:l[k]=b:=(List.getElem?_eq_some_iff.1 R).2;rw[List.drop_eq_getElem_cons P,a0,cE,List.cons_append,List.append_assoc]at hd;obtain⟨a3,ba,h2⟩:=dP (r:=aI n b.p++aX (aI n) (l.drop (k+1))) (post:=post) (by rw[hd,List.cons_append,List.append_assoc]);rw[List.append_assoc]at h2;refine⟨⟨pI h2,?_⟩,fun W hW=>?_⟩;·
   rcases Nat.lt_or_ge (p+1) all.length with h'|h';·exact h'
   ·rw[List.drop_of_length_le h']at h2;have:=congrArg List.length h2;rw[List.length_append]at this;have:=cY n b.p;simp at*;omega
  ·exact ih b.p all _ (p+1) v W S (fun g hg=>Nat.lt_of_lt_of_le (hS g hg) hW.size) (ay b (List.mem_of_getElem? R)) hl h2 (hv.on hS hW));obtain⟨ao,cap,rfl,hc,hm,-,C⟩:=hv;obtain⟨g,o,rfl,hg,C⟩:=C (fun e=>by rw[e]at hp;simp at hp);have J:=C.get j hp;rw[hn]at J;obtain⟨op,a,b⟩:=t;dsimp only at ht;obtain⟨c0,c1,c2,c3,c4⟩:=J;dsimp only at c0 c1 c2 c3 c4;have a9:=hS g hg;have e2:(op==2)=false:=by simpa using ht
 have a1:l.length≤1000:=by have ab:=congrArg List.length h1;rw[List.length_drop,List.length_append]at ab;have:=kh (aI n) l;omega
 have HH:=aa h1;have U:Hid (∀p,all.drop p=aX (aI n) (l.drop l.length)++post→p≤all.length→p=j+((aX (aI n) l).length+1)):=aa (fun p hd a5=>by have ab:=congrArg List.length h1;have ag:=congrArg List.length hd;rw[List.drop_length]at ag;simp only[List.length_drop,List.length_append,aX,List.flatMap_nil,List.length_nil]at ab ag;have:j<all.length:=hp;unfold aX;omega);obtain⟨K,hK⟩:∃K,l.length=K:=⟨_,rfl⟩;obtain⟨M,hM⟩:∃M,all.length=M:=⟨_,rfl⟩;rw[hM]at hp hl hc ad U⊢;rw[hK]at c3 a1 U;have HK:=aa hK;have HM:=aa hM;clear C hn h h1 hS hM hK ih ay ht;go_enter Tryz.func127,Tryz.ntmps127;go_wp2_with fail;go_loopw[1,6](fun av kv wr=>∃k p:Nat,k≤K∧p≤M∧av=.int .i64 p∧kv=.int .i64 k∧all.drop p=aX (aI n) (l.drop k)++post∧Below (w.heap.size+1) (w.alloc (.cells #[.int .i64 op,.string a,.string b,.int .i64 (K:Int),.int .i64 0] 108)) wr)(fun _ kv _=>K-(intOf kv).toNat);case atStart=>exact⟨0,j+1,Nat.zero_le _,hp,by go_num,rfl,HH.out,Below.refl _ _⟩
 case round=>
  obtain⟨k,p,hk,a4,rfl,rfl,hd,R⟩:=hrel;have HD:=aa hd;have HB:=aa R;have m3:wr.cell? ⟨w.heap.size,3,none⟩=some (.int .i64 (K:Int)):=(R.cell (p:=⟨w.heap.size,3,none⟩) (by simp)).trans (by simp);have T:Hid (Below w.heap.size w wr):=aa ((ai w _).trans (R.mono (by omega)));have bb:=T.out.size;clear hd R;by_cases P:k<K;·
   obtain⟨d,ac⟩:∃d,l[k]?=some d:=⟨l[k]'(by rw[HK.out];exact P),List.getElem?_eq_getElem _⟩;obtain⟨⟨ax,a3⟩,I⟩:=ad.out k p d ac HD.out;have HC:=aa I;have af:=aa ax;have a2:p+1+(aI n d.p).length≤M:=by have:=congrArg List.length af.out;have h0:=congrArg List.length HD.out;rw[List.length_drop]at this;rw[List.length_drop]at h0;have a8:=ki ac;simp only[List.length_append,HM.out]at this h0;omega
   clear I ax ac;go_wp2_with(go_at_call 127;refine(HC.out _ T.out).mono ?_;rintro e w1⟨rfl,ah⟩;have az:=aa ah;clear ah);go_roundw;case rel=>exact⟨k+1,p+1+(aI n d.p).length,P,a2,rfl,by go_num,af.out,HB.out.trans (az.out.mono (by have:=HB.out.size;simpa using this))⟩
   case measure=>simp[intOf];omega
  ·obtain rfl:k=K:=by omega
   have HE:=aa (U.out p HD.out a4);go_wp2_with fail;go_ret;refine⟨?_,T.out⟩;rw[←HE.out];rfl
theorem ja:∀n:Nat,lO n:=by intro n;induction n with|zero=>intro p all post pos v w S hS _ j h C;exact qn p all post pos v w S hS j h C|succ n ih=>intro p;refine Pn.cases (P:=fun p=>∀(all post:List Nd)(pos:Nat)(v:Value)(w:World)(S:Nat→Prop),(∀g,S g→g<w.heap.size)→cb (n+1) p→all.length≤1000→all.drop pos=aI (n+1) p++post→fH w S v all→Calls Tryz.prog 127 #[v,.int .i64 pos] w fun e w'=>e=.returned (.int .i64 ((pos+(aI (n+1) p).length:Nat):Int))∧Below w.heap.size w w') (fun x all post pos v w S hS _ j h C=>qn x all post pos v w S hS j h C) (fun x q all post pos v w S hS J j h C=>wF n ih x q J all post pos v w S hS j h C) (fun t l all post pos v w S hS J j h C=>?_) p;have I:zY t∧l≠[]∧∀b∈l,cb n b.p:=J;refine wG n ih t l (fun e=>?_) I.2.2 all post pos v w S hS j h C;rcases I.1 with R|⟨T|U,_⟩<;>omega
def B7(j:ByteArray)(n:Nd):Bool:=n.op==3&&(n.name.toList==j.toList||n.peer.toList==j.toList)
theorem rm(j:ByteArray)(l:List Nd):jb j l=l.any (B7 j):=rfl
theorem AP{all j post:List Nd}{C k:Nat}(h:all.drop C=j++post)(J:k<j.length):∃P:C+k<all.length,all[C+k]=j[k]:=by have I:=congrArg (fun l=>l[k]?) h;rw[List.getElem?_drop,List.getElem?_append_left J,List.getElem?_eq_getElem J]at I;exact List.getElem?_eq_some_iff.1 I
theorem Ha(l:ByteArray)(all C post:List Nd)(R:Nat)(v:Value)(w:World)(S:Nat→Prop)(hS:∀g,S g→g<w.heap.size)(hl:all.length≤1000)(ax:R≤1000)(h:all.drop R=C++post)(hv:fH w S v all):Calls Tryz.prog 128 #[v,.int .i64 R,.int .i64 ((R+C.length:Nat):Int),.string l] w fun e w'=>e=.returned (.bool (jb l C))∧Below w.heap.size w w':=by
 obtain⟨ao,cap,rfl,hc,hm,-,I⟩:=hv;have HR:=aa I;have HH:=aa h;have HS:=aa hS;have ah:C.length≤1000:=by have:=congrArg List.length h;rw[List.length_drop,List.length_append]at this;omega
 obtain⟨M,hM⟩:∃M,C.length=M:=⟨_,rfl⟩;obtain⟨L,hL⟩:∃L,all.length=L:=⟨_,rfl⟩;rw[hM]at ah⊢;rw[hL]at hl hc⊢;have HM:=aa hM;have HL:=aa hL;clear I h hS hM hL;go_enter Tryz.func128,Tryz.ntmps128;go_wp2_with fail;go_loopw[9](fun i wr=>∃k:Nat,k≤M∧i=.int .i64 ((R+k:Nat):Int)∧(∀j(hj:j<C.length),j<k→B7 l C[j]=false)∧Below w.heap.size w wr)(fun i _=>R+M-(intOf i).toNat);case atStart=>exact⟨0,Nat.zero_le _,rfl,fun j _ h=>absurd h (by omega),Below.refl _ _⟩
 case round=>
  obtain⟨k,hk,rfl,ac,hb⟩:=hrel;have HA:=aa ac;have HB:=aa hb;clear ac hb;by_cases af:k<M;·
   have ag:k<C.length:=by rw[HM.out];exact af
   obtain⟨ab,ad⟩:=AP HH.out ag;obtain⟨g,o,rfl,hg,I⟩:=HR.out (fun e=>by rw[e]at ab;simp at ab);have P:=(I.get (R+k) ab).carry (HS.out g hg) HB.out;rw[ad]at P;obtain⟨x,hx⟩:∃x,C[k]=x:=⟨_,rfl⟩;rw[hx]at P;have HX:=aa hx;obtain⟨op,name,J,many,sort⟩:=x;obtain⟨c0,c1,c2,c3,c4⟩:=P;dsimp only at c0 c1 c2 c3 c4;rw[HL.out]at ab;clear I ad hx;have U:Hid (B7 l ⟨op,name,J,many,sort⟩=false→∀j(hj:j<C.length),j<k+1→B7 l C[j]=false):=aa (fun h0 j hj av=>by
    by_cases e:j=k;·subst e;rw[HX.out];exact h0
    ·exact HA.out j hj (by omega));have T:Hid (B7 l ⟨op,name,J,many,sort⟩=true→jb l C=true):=aa (fun h0=>by rw[rm,List.any_eq_true];exact⟨C[k],List.getElem_mem ag,by rw[HX.out];exact h0⟩);have hI:B7 l ⟨op,name,J,many,sort⟩=((op==3)&&(name.toList==l.toList||J.toList==l.toList)):=rfl;rw[hI]at U T;obtain⟨q3,h3⟩:∃q,(op==3)=q:=⟨_,rfl⟩;obtain⟨q1,h1⟩:∃q,(name.toList==l.toList)=q:=⟨_,rfl⟩;obtain⟨q2,h2⟩:∃q,(J.toList==l.toList)=q:=⟨_,rfl⟩;rw[h3,h1,h2]at U T;clear hI;cases q3;·
    go_wp2_with fail;go_roundw;case rel=>exact⟨k+1,af,by go_num,U.out rfl,HB.out⟩
    case measure=>simp[intOf];omega
   ·cases q1;·
     cases q2;·
      go_wp2_with fail;go_roundw;case rel=>exact⟨k+1,af,by go_num,U.out rfl,HB.out⟩
      case measure=>simp[intOf];omega
     ·go_wp2_with fail;go_ret;exact⟨aF (T.out rfl),HB.out⟩
    ·go_wp2_with fail;go_ret;exact⟨aF (T.out (by cases q2<;>rfl)),HB.out⟩
  ·obtain rfl:k=M:=by omega
   have HF:Hid (jb l C=false):=aa (by rw[rm,List.any_eq_false];intro x hx;obtain⟨j,hj,rfl⟩:=List.getElem_of_mem hx;rw[HA.out j hj (by rw[←HM.out];exact hj)];simp);go_wp2_with fail;go_ret;exact⟨aF HF.out,HB.out⟩
theorem ET(x y:List Nd)(v u:Value)(w:World)(S:Nat→Prop)(hS:∀g,S g→g<w.heap.size)(hx:fH w S v x)(hy:fH w S u y):Calls Tryz.prog 173 #[v,u] w fun e w'=>e=.returned (.bool (iK x y))∧Below w.heap.size w w':=by
 obtain⟨ax,cx,rfl,a9,bg,bb,a2⟩:=hx;obtain⟨ay,cy,rfl,ba,bi,be,a3⟩:=hy;have a4:=aa a2;have a5:=aa a3;have HS:=aa hS;obtain⟨L,hL⟩:∃L,x.length=L:=⟨_,rfl⟩;obtain⟨M,hM⟩:∃M,y.length=M:=⟨_,rfl⟩;rw[hL]at bb a9⊢;rw[hM]at be ba⊢;have HL:=aa hL;have HM:=aa hM;clear a2 a3 hL hM hS;by_cases a1:L=M;·
  subst a1;go_enter Tryz.func173,Tryz.ntmps173;go_wp2_with fail;go_loopw[5](fun i wr=>∃k:Nat,k≤L∧i=.int .i64 k∧(∀j(h1:j<x.length)(h2:j<y.length),j<k→te x[j] y[j]=true)∧Below w.heap.size w wr)(fun i _=>L-(intOf i).toNat);case atStart=>exact⟨0,Nat.zero_le _,rfl,fun j _ _ h=>absurd h (by omega),Below.refl _ _⟩
  case round=>
   obtain⟨k,hk,rfl,R,C⟩:=hrel;have HA:=aa R;have l:=aa C;clear R;by_cases ab:k<L;·
    have J:k<x.length:=by rw[HL.out];exact ab
    have P:k<y.length:=by rw[HM.out];exact ab
    obtain⟨b,o,rfl,a8,T⟩:=a4.out (by intro h;rw[h]at J;simp at J);obtain⟨b',o',rfl,ao,I⟩:=a5.out (by intro h;rw[h]at P;simp at P);have az:=(T.get k J).carry (HS.out b a8) C;have a0:=(I.get k P).carry (HS.out b' ao) C;obtain⟨U,ac⟩:∃U,x[k]=U:=⟨_,rfl⟩;obtain⟨y1,ad⟩:∃y1,y[k]=y1:=⟨_,rfl⟩;rw[ac]at az;rw[ad]at a0;obtain⟨c0,c1,c2,c3,c4⟩:=az;obtain⟨d0,d1,d2,d3,d4⟩:=a0;obtain⟨r,hr⟩:∃r,te U y1=r:=⟨_,rfl⟩;have heq:∀W,(Op.equalIn 10000 108 (.agg #[.int .i64 U.op,.string U.name,.string U.peer,.int .i64 U.many,.int .i64 U.sort]) (.agg #[.int .i64 y1.op,.string y1.name,.string y1.peer,.int .i64 y1.many,.int .i64 y1.sort])).run Tryz.prog W=.ok r W:=fun W=>by rw[Eo,hr]
    have af:=aa hr;have ag:=aa ac;have ah:=aa ad;clear T I hr ac ad C;cases r;·go_wp2_with fail;go_region;go_wp2_with fail;all_goals go_ret;exact⟨aF (yh J P (by rw[ag.out,ah.out];exact af.out)),by first|exact l.out|exact l.out.drew⟩
    ·go_wp2_with fail;go_region;go_wp2_with fail;all_goals
      go_roundw;case rel=>
       refine⟨k+1,ab,by go_num,fun j h1 h2 bf=>?_,by first|exact l.out|exact l.out.drew⟩;by_cases av:j=k;·subst av;rw[ag.out,ah.out];exact af.out
       ·exact HA.out j h1 h2 (by omega)
      case measure=>simp[intOf];omega
   ·go_wp2_with fail;go_ret;exact⟨aF (u0 (by rw[HL.out,HM.out]) (fun j h1 h2=>HA.out j h1 h2 (by rw[HL.out]at h1;omega))),l.out⟩
 ·have HF:Hid (iK x y=false):=aa (uZ (by rw[HL.out,HM.out];exact a1));have hq:((L:Int)==(M:Int))=false:=beq_eq_false_iff_ne.2 (by omega);go_enter Tryz.func173,Tryz.ntmps173;go_wp2_with fail;go_ret;exact⟨aF HF.out,Below.refl _ _⟩
structure IC(w wr:World)(mid:List Nd)(nv:Value)(k:Nat)(ns:List ByteArray):Prop where
 same:eA ns (mid.drop k)=eA [] mid
 own:wr.ownsRow w.heap.size 9 1 nv ns.length (ns.map Value.string)
 len:ns.length≤k
 dN:Below w.heap.size w wr
theorem EP(all l post:List Nd)(I:Nat)(v:Value)(w:World)(S:Nat→Prop)(hS:∀g,S g→g<w.heap.size)(hl:all.length≤1000)(bi:I≤1000)(h:all.drop I=l++post)(hv:fH w S v all):Calls Tryz.prog 129 #[v,.int .i64 I,.int .i64 ((I+l.length:Nat):Int)] w fun e w'=>e=.returned (.bool (eA [] l))∧Below w.heap.size w w':=by
 obtain⟨i0,hi,a2,a3,a4⟩:=info_parts Tryz.sJ;have HI:=aa (And.intro hi (And.intro a2 (And.intro a3 a4)));obtain⟨ao,cap,rfl,hc,hm,-,J⟩:=hv;have HR:=aa J;have HH:=aa h;have HS:=aa hS;have a9:l.length≤1000:=by have:=congrArg List.length h;rw[List.length_drop,List.length_append]at this;omega
 obtain⟨M,hM⟩:∃M,l.length=M:=⟨_,rfl⟩;obtain⟨L,hL⟩:∃L,all.length=L:=⟨_,rfl⟩;rw[hM]at a9⊢;obtain⟨T,hT⟩:∃T,I+M=T:=⟨_,rfl⟩;rw[hT];rw[hL]at hl hc⊢;have HM:=aa hM;have HL:=aa hL;clear J h hS hM hL hi a2 a3 a4;go_enter Tryz.func129,Tryz.ntmps129;go_wp2_with fail;go_loopw[7,8](fun nv i wr=>∃(k:Nat)(ns:List ByteArray),k≤M∧i=.int .i64 ((I+k:Nat):Int)∧IC w wr l nv k ns)(fun _ i _=>I+M-(intOf i).toNat);case atStart=>exact⟨0,[],Nat.zero_le _,rfl,⟨rfl,dJ _ _ _ _ _ (Nat.le_refl _) (bY _ _ _ rfl),Nat.le_refl _,ai _ _⟩⟩
 case round=>
  obtain⟨k,ns,hk,rfl,hR⟩:=hrel;have U:=aa hR;have a5:=hR.dN.size;have ba:=hR.len;obtain⟨np,nc,a1⟩:=aq hR.own;obtain⟨Q,hQ⟩:∃Q,ns.length=Q:=⟨_,rfl⟩;rw[hQ]at a1 ba;have HQ:=aa hQ;subst a1;by_cases ac:k<M;·
   have a0:k<l.length:=by rw[HM.out];exact ac
   obtain⟨ad,af⟩:=AP HH.out a0;obtain⟨g,o,rfl,hg,J⟩:=HR.out (fun e=>by rw[e]at ad;simp at ad);have az:=HS.out g hg;have P:=(J.get (I+k) ad).carry az hR.dN;rw[af]at P;have ay:Hid (∀x,l[k]=x→eA [] l=if x.op==2 then eA (ns++[x.name]) (l.drop (k+1))else if x.op==1&&!cH ns x.name then false else eA ns (l.drop (k+1))):=aa (fun x hx=>by rw[←hR.same,List.drop_eq_getElem_cons a0,hx,eA]);obtain⟨x,hx⟩:∃x,l[k]=x:=⟨_,rfl⟩;rw[hx]at P;have ab:=aa (ay.out x hx);have C:Hid (wr.ownsRow w.heap.size 9 1 (.slice np Q nc) Q (ns.map Value.string)):=aa (by have:=hR.own;rw[HQ.out]at this;exact this);obtain⟨op,name,be,many,sort⟩:=x;obtain⟨c0,c1,c2,c3,c4⟩:=P;dsimp only at c0 c1 c2 c3 c4;rw[HL.out]at ad;have bg:g<wr.heap.size:=Nat.lt_of_lt_of_le az a5;clear J af hx hR hQ ay;by_cases h2:op=2;·
    subst h2;go_wp2_with(at_builtin;refine wpList_append_own _ rfl (.tmp 22) (.tmp 28) 78 rfl w.heap.size 9 i0 (.string ByteArray.empty) 1 16 Tryz.underlying78 HI.out.1 HI.out.2.1 HI.out.2.2.1 HI.out.2.2.2 rfl (by decide) (.slice np Q nc) Q (ns.map Value.string) rfl (aL C.out (ai wr _)) ⟨wr.heap.size,0,none⟩ 1 1 [.string name] rfl rfl (fun j u hj=>kt _ _ _ _ (by simp) j u hj) (by intro u hu;simp at hu;subst hu;rfl) (by unfold maxLen;omega) (by omega) (by simp;omega) ?_;intro v4 w4 R ag _;have a8:=aa R;have ah:Hid (aw wr w4 (an (.slice np Q nc))):=aa (by have:=(ak (ai wr _)).trans (aE ag);rwa[List.nil_append]at this);have d0:w4.cell? ⟨g,o+(I+k)*5,none⟩=some (.int .i64 2):=ah.out.bN c0 (fun hm=>absurd ((au C.out).lo _ hm) (by omega));obtain⟨p4,bf,rfl⟩:=aq R;clear R ag);go_roundw;case rel=>
     refine⟨k+1,ns++[name],ac,by go_num,⟨?_,?_,by rw[List.length_append,HQ.out];simp;omega,U.out.dN.trans (ah.out.below a5 (au C.out).lo)⟩⟩;·rw[ab.out];rfl
     ·rw[List.length_append,List.length_singleton,HQ.out,List.map_append];exact a8.out
    case measure=>simp[intOf];omega
   ·have e2:(op==2)=false:=by simpa using h2
    by_cases h1:op=1;·
     subst h1;obtain⟨q,hq⟩:∃q,cH ns name=q:=⟨_,rfl⟩;have ax:=aa hq;have av:Hid (∀W,Below wr.heap.size wr W→Calls Tryz.prog 151 #[.slice np Q nc,.string name] W fun e w'=>e=.returned (.bool q)∧w'=W):=aa (fun W hW=>by have:=gp ns name (.slice np Q nc) W (bS (base:=w.heap.size) (e:=9) (by rw[HQ.out];exact aL C.out hW) (by rw[HQ.out];omega));rw[hq]at this;exact this);clear hq;cases q;·go_wp2_with(go_at_call 151;refine(av.out _ (Below.refl _ _)).mono ?_;rintro e w'⟨rfl,bb⟩;subst w');go_ret;refine⟨aF ?_,U.out.dN⟩;rw[ab.out];simp[ax.out]
     ·go_wp2_with(go_at_call 151;refine(av.out _ (Below.refl _ _)).mono ?_;rintro e w'⟨rfl,bb⟩;subst w');go_roundw;case rel=>refine⟨k+1,ns,ac,by go_num,⟨?_,by rw[HQ.out];exact C.out,by rw[HQ.out];omega,U.out.dN⟩⟩;rw[ab.out];simp[ax.out]
      case measure=>simp[intOf];omega
    ·have e1:(op==1)=false:=by simpa using h1
     go_wp2_with fail;go_roundw;case rel=>refine⟨k+1,ns,ac,by go_num,⟨?_,by rw[HQ.out];exact C.out,by rw[HQ.out];omega,U.out.dN⟩⟩;rw[ab.out];simp[e1,e2]
     case measure=>simp[intOf];omega
  ·have HT:Hid (eA [] l=true):=aa (by rw[←U.out.same,List.drop_of_length_le (by rw[HM.out];omega),eA]);go_wp2_with fail;go_ret;exact⟨aF HT.out,U.out.dN⟩
section
variable{n:Nat}
def BV.qg(x:BV n):List Value:=[.int .i64 4,.string x.b.l,.string ByteArray.empty,.int .i64 0,.int .i64 x.b.s,x.u]
theorem BV.vP(x:BV n):x.qg.length=6:=rfl
theorem Ba{w:World}{S:Nat→Prop}{x:BV n}{r:List Nd}(h:fH w S x.u r):∀u∈x.qg,u.oneCell'=true:=by
 intro u hu;obtain⟨j,cap,e,-⟩:=h;simp[BV.qg]at hu;rcases hu with rfl|rfl|rfl|rfl|rfl|rfl;·rfl
 ·rfl
 ·rfl
 ·rfl
 ·rfl
 ·rw[e];rfl
structure yJ(S:Nat→Prop)(a:Nat)(w:World)(base:Nat)(v:Value)(l:List (BV n)):Prop where
 own:w.ownsRow base 219 6 v l.length (l.flatMap BV.qg)
 G1:∀x∈l,fH w (Di S a w.heap.size v) x.u (aI n x.b.p)
 low:∀g,S g→g<a
 ab:a≤base
 CX:a≤w.heap.size
variable{S:Nat→Prop}{a:Nat}
theorem yJ.keep{w w':World}{base:Nat}{v:Value}{l:List (BV n)}(h:yJ S a w base v l)(j:Below w.heap.size w w'):yJ S a w' base v l:=⟨aL h.own j,fun x I=>(h.G1 x I).carry (fun g C=>j.block g (jX h.low h.CX C.1)) (fun _ C=>⟨mW j.size C.1,C.2⟩),h.low,h.ab,Nat.le_trans h.CX j.size⟩
theorem yJ.get{w:World}{base g c:Nat}{l:List (BV n)}(h:yJ S a w base (.slice (some ⟨g,0,none⟩) l.length c) l){i:Nat}{x:BV n}(hi:l[i]?=some x)(j:Nat)(J:j<6)(y:Value)(P:x.qg[j]?=some y):w.cell? ⟨g,i*6+j,none⟩=some y:=by obtain⟨C,I⟩:=List.getElem?_eq_some_iff.1 hi;exact bF h.own rfl (i*6+j) y ((eE BV.qg 6 BV.vP l i C j J).trans (by rw[I];exact P))
theorem Dp{w P:World}{base:Nat}{v R:Value}{l:List (BV n)}(h:yJ S a w base v l)(x:BV n)(hx:fH w (Di S a w.heap.size v) x.u (aI n x.b.p))(o:Obj)(I:P.ownsRow base 219 6 R (l.length+1) (l.flatMap BV.qg++x.qg))(C:(w.alloc o).grownBy P v.ownBlock)(T:R.ownBlock=v.ownBlock∨R.ownBlock=some (w.alloc o).heap.size):yJ S a P base R (l++[x])∧aw w P (an v)∧∀b∈an R,b∈an v∨w.heap.size≤b:=by
 obtain⟨p,c,hv⟩:=aq h.own;obtain⟨p',c',U⟩:=aq I;have hA:aw w P (an v):=by rw[hv]at C⊢;have:=(ak (ai w o)).trans (aE C);rwa[List.nil_append]at this
 have key:∀{r:List Nd}{u:Value},fH w (Di S a w.heap.size v) u r→fH P (Di S a P.heap.size R) u r:=fun hq=>hq.carry (fun g C=>hA.block g (jX h.low h.CX C.1) C.2) (fun g C=>⟨mW hA.size C.1,fun hm=>by
  have j:=(bh U).2 hm;rcases T with e|e;·rw[e]at j;exact C.2 ((bh hv).1 j)
  ·rw[e]at j;have:=jX h.low h.CX C.1;simp at j;omega⟩);refine⟨⟨?_,fun y J=>?_,h.low,h.ab,Nat.le_trans h.CX hA.size⟩,hA,fun b hm=>?_⟩;·rw[List.length_append,List.length_singleton,List.flatMap_append];simpa using I
 ·rw[List.mem_append]at J;rcases J with J|J;·exact key (h.G1 y J)
  ·simp at J;subst J;exact key hx
 ·have j:=(bh U).2 hm;rcases T with e|e;·rw[e]at j;exact .inl ((bh hv).1 j)
  ·rw[e]at j;simp at j;exact .inr (by omega)
theorem Bb:∀(l:List (BV n))(i:Nat)(x:BV n)(u:Value),l[i]?=some x→(l.flatMap BV.qg).set (i*6+5) u=(l.set i ⟨x.b,u⟩).flatMap BV.qg
 |[],i,x,u,h=>by simp at h|a::l,0,x,u,h=>by simp at h;subst h;rfl|a::l,i+1,x,u,h=>by
  rw[List.getElem?_cons_succ]at h;rw[List.set_cons_succ,List.flatMap_cons,List.flatMap_cons,←Bb l i x u h];have e:(i+1)*6+5=a.qg.length+(i*6+5):=by rw[BV.vP];omega
  rw[e,List.set_append_right _ _ (by omega),Nat.add_sub_cancel_left]
theorem F3{w:World}{base g cap:Nat}{l:List (BV n)}(h:yJ S a w base (.slice (some ⟨g,0,none⟩) l.length cap) l){i:Nat}{x:BV n}(hi:l[i]?=some x)(q:Pn n)(u:Value)(hu:fH w (Di S a w.heap.size (.slice (some ⟨g,0,none⟩) l.length cap)) u (aI n q)):yJ S a (w.setCell ⟨g,i*6+5,none⟩ u) base (.slice (some ⟨g,0,none⟩) l.length cap) (l.set i ⟨⟨x.b.l,x.b.s,q⟩,u⟩):=by
 have I:=aA w g (i*6+5) u;have key:∀{r:List Nd}{J:Value},fH w (Di S a w.heap.size (.slice (some ⟨g,0,none⟩) l.length cap)) J r→fH (w.setCell ⟨g,i*6+5,none⟩ u) (Di S a (w.setCell ⟨g,i*6+5,none⟩ u).heap.size (.slice (some ⟨g,0,none⟩) l.length cap)) J r:=fun R=>R.carry (fun b j=>I.block b (jX h.low h.CX j.1) (fun P=>j.2 (by simpa[an,aG]using P))) (fun b j=>⟨mW I.size j.1,j.2⟩);refine⟨?_,fun y C=>?_,h.low,h.ab,Nat.le_trans h.CX I.size⟩;·
  have:=(World.ownsRow.stored h.own (i*6+5) u).1;rw[Bb l i x u hi]at this;rw[List.length_set];have e:(l.set i ⟨x.b,u⟩).flatMap BV.qg=(l.set i ⟨⟨x.b.l,x.b.s,q⟩,u⟩).flatMap BV.qg:=by clear hi this hu h I key;induction l generalizing i with|nil=>rfl|cons a l ih=>cases i with|zero=>rfl|succ i=>rw[List.set_cons_succ,List.set_cons_succ,List.flatMap_cons,List.flatMap_cons,ih]
  rw[←e];exact this
 ·rcases s6 C with C|C;·exact key (h.G1 y C)
  ·subst C;exact key hu
end
theorem A6{w:World}{g:Nat}:∀{l r:List Nd}{o:Nat},bO w g o (l++r)→bO w g o l|[],_,_,_=>trivial|_::_,_,_,h=>⟨h.1,A6 h.2⟩
theorem Tryz.DM:(Tryz.prog.info? 219).map (fun i=>(i.zero,i.size,i.bytes))=some (some (.agg #[.int .i64 0,.string ByteArray.empty,.string ByteArray.empty,.int .i64 0,.int .i64 0,.slice none 0 0]),6,80):=by kernel_rfl
structure IE(n:Nat)(S:Nat→Prop)(w wr:World)(all:List Nd)(cs:List (Br (Pn n)))(cv:Value)(k p:Nat)(acc:List (BV n)):Prop where
 done:acc.map BV.b=cs.take k
 rest:all.drop p=aX (aI n) (cs.drop k)
 own:wr.ownsRow w.heap.size 219 6 cv acc.length (acc.flatMap BV.qg)
 G1:∀x∈acc,fH wr S x.u (aI n x.b.p)
 dN:Below w.heap.size w wr
 le:p≤all.length
theorem A9(n:Nat)(t:Tk)(C:List (Br (Pn n)))(bz:∀b∈C,cb n b.p)(all:List Nd)(I:all=aI (n+1) (.cG t C))(hl:all.length≤1000)(v:Value)(w:World)(S:Nat→Prop)(hS:∀g,S g→g<w.heap.size)(hv:fH w S v all):Calls Tryz.prog 174 #[v] w fun e w'=>∃(v':Value)(L:List (BV n)),e=.returned v'∧L.map BV.b=C∧w'.ownsRow w.heap.size 219 6 v' L.length (L.flatMap BV.qg)∧(∀x∈L,fH w' S x.u (aI n x.b.p))∧Below w.heap.size w w':=by
 obtain⟨i0,hi,bL,b0,b1⟩:=info_parts Tryz.DM;have HI:=aa (And.intro hi (And.intro bL (And.intro b0 b1)));rw[cA]at I;have bn:all≠[]:=by rw[I];simp
 have h0:all.drop 0=⟨t.op,t.a,t.b,(C.length:Int),0⟩::aX (aI n) C++[]:=by rw[List.append_nil,List.drop_zero];exact I
 obtain⟨a5,bk,h1⟩:=dP h0;have HB:Hid (∀(k p:Nat)(b:Br (Pn n)),C[k]?=some b→all.drop p=aX (aI n) (C.drop k)→all[p]?=some ⟨4,b.l,bt,0,b.s⟩∧all.drop (p+1)=aI n b.p++aX (aI n) (C.drop (k+1))∧all.drop (p+1+(aI n b.p).length)=aX (aI n) (C.drop (k+1))∧p+1+(aI n b.p).length≤all.length∧∀W,Below w.heap.size w W→Calls Tryz.prog 127 #[v,.int .i64 ((p:Int)+1)] W fun e w'=>e=.returned (.int .i64 ((p+1+(aI n b.p).length:Nat):Int))∧Below W.heap.size W w'):=aa (fun k p b hb hd=>by
  have az:=(List.getElem?_eq_some_iff.1 hb).1;have b7:C[k]=b:=(List.getElem?_eq_some_iff.1 hb).2;rw[List.drop_eq_getElem_cons az,b7,cE]at hd;obtain⟨cg,a0,h2⟩:=dP (r:=aI n b.p++aX (aI n) (C.drop (k+1))) (post:=[]) (by rw[hd,List.append_nil]);rw[List.append_nil]at h2;have bp:aI n b.p≠[]:=fun e=>by have:=cY n b.p;rw[e]at this;simp at this
  exact⟨by rw[List.getElem?_eq_getElem cg,a0],h2,pI h2,by have:=sj h2 bp;omega,fun W hW=>ja n b.p all _ (p+1) v W S (fun g hg=>Nat.lt_of_lt_of_le (hS g hg) hW.size) (bz b (List.mem_of_getElem? hb)) hl h2 (hv.on hS hW)⟩);have HV:=aa hv;obtain⟨ao,cap,rfl,hc,hm,-,J⟩:=hv;obtain⟨g,o,rfl,hg,J⟩:=J bn;have ay:=hS g hg;have a0:=J.get 0 a5;rw[bk]at a0;obtain⟨-,-,-,c3,-⟩:=a0;dsimp only at c3;rw[Nat.zero_mul,Nat.add_zero]at c3;have b9:C.length≤1000:=by have:=kh (aI n) C;have:=congrArg List.length I;rw[List.length_cons]at this;omega
 have a1:=aa J;have HG:=aa hg;have a9:=aa hS;have H1:Hid (all.drop 1=aX (aI n) C):=aa (by rw[List.append_nil,Nat.zero_add]at h1;exact h1);obtain⟨K,hK⟩:∃K,C.length=K:=⟨_,rfl⟩;rw[hK]at c3 b9;have HK:=aa hK;obtain⟨M,hM⟩:∃M,all.length=M:=⟨_,rfl⟩;rw[hM]at a5 hl hc HB⊢;have HM:=aa hM;clear hi bL b0 b1 I bn h0 h1 bk J hK hM bz hg;go_enter Tryz.func174,Tryz.ntmps174;go_wp2_with fail;go_loopw[3,4,5](fun cv av kv wr=>∃(k p:Nat)(acc:List (BV n)),k≤K∧kv=.int .i64 k∧av=.int .i64 p∧IE n S w wr all C cv k p acc)(fun _ _ kv _=>K-(intOf kv).toNat);case atStart=>exact⟨0,1,[],Nat.zero_le _,rfl,rfl,⟨rfl,H1.out,dJ _ _ _ _ _ (Nat.le_refl _) (bY _ _ _ rfl),(fun x hx=>by cases hx),ai _ _,by rw[HM.out];exact a5⟩⟩
 case round=>
  obtain⟨k,p,acc,hk,rfl,rfl,hR⟩:=hrel;have HR:=aa hR;have b2:=hR.dN.size;have bv:=hR.le;rw[HM.out]at bv;have P:acc.length=k:=by have:=congrArg List.length hR.done;rw[List.length_map,List.length_take,HK.out]at this;omega
  obtain⟨cp,cc,be⟩:=aq hR.own;rw[P]at be;subst be;have af:=aa P;have d3:=(hR.dN.cell (p:=⟨g,o+3,none⟩) ay).trans c3;clear P;by_cases az:k<K;·
   obtain⟨d,a4⟩:∃d,C[k]?=some d:=⟨C[k]'(by rw[HK.out];exact az),List.getElem?_eq_getElem _⟩;obtain⟨bi,bf,bg,ax,ac⟩:=HB.out k p d a4 hR.rest;obtain⟨bs,br⟩:=List.getElem?_eq_some_iff.1 bi;have HC:=aa ac;have ag:=aa bg;have bm:=(a1.out.get p bs).carry ay hR.dN;rw[br]at bm;have bx:=cY n d.p;have ah:Hid (∀W,Below w.heap.size w W→fH W S (.slice (some ⟨g,o+(p+1)*5,none⟩) (aI n d.p).length (cap-(p+1))) (aI n d.p)):=aa (fun W hW=>by refine⟨_,_,rfl,by omega,by omega,by omega,fun _=>⟨g,_,rfl,HG.out,?_⟩⟩;have:=a1.out.drop (p+1);rw[bf]at this;exact(A6 this).block (hW.block g ay));obtain⟨dl,ds,dp⟩:=d;obtain⟨c0,c1,c2,ba,c4⟩:=bm;dsimp only at c0 c1 c2 ba c4 bx ax;have b5:Hid (acc.map BV.b++[⟨dl,ds,dp⟩]=C.take (k+1)):=aa (by rw[hR.done,List.take_add_one,a4];rfl);obtain⟨N,hN⟩:∃N,(aI n dp).length=N:=⟨_,rfl⟩;obtain⟨T,hT⟩:∃T,p+1+N=T:=⟨_,rfl⟩;dsimp only at ah HC ag;rw[hN]at ah HC ag bx ax;rw[hT]at HC ag ax;have ch:p+1<cap:=by omega
   have cu:p<M:=by omega
   clear ac a4 bs br bf bg hR bi;go_wp2_with(go_at_call 127;refine(HC.out _ HR.out.dN).mono ?_;rintro e w2⟨rfl,R⟩;have ab:=aa R;have ad:g<wr.heap.size:=Nat.lt_of_lt_of_le ay b2;have x0:=(R.cell (p:=⟨g,o+p*5,none⟩) ad).trans c0;have x1:=(R.cell (p:=⟨g,o+p*5+1,none⟩) ad).trans c1;have x2:=(R.cell (p:=⟨g,o+p*5+2,none⟩) ad).trans c2;have x3:=(R.cell (p:=⟨g,o+p*5+3,none⟩) ad).trans ba;have x4:=(R.cell (p:=⟨g,o+p*5+4,none⟩) ad).trans c4;clear R);have a8:Hid (w2.drew.ownsRow w.heap.size 219 6 (.slice cp k cc) k (acc.flatMap BV.qg)):=aa (by have:=aL HR.out.own (ab.out.trans ((Below.refl _ _).drew.mono ab.out.size));rw[af.out]at this;exact this);have cn:T-(p+1)=N:=by omega
   have c6:IntKind.i64.wrap ((p:Int)+1)=(p:Int)+1:=by rw[IntKind.wrap_i64];omega
   have cy:0≤(p:Int)+1:=by omega
   have cz:(p:Int)+1≤T:=by omega
   have c5:¬cap=p+1:=by omega
   have cx:p+1≤T:=by omega
   have cr:T≤cap:=by omega
   go_region_law(refine fF rfl (.tmp 20) (.tmp 31) 214 rfl w.heap.size 219 i0 (.agg #[.int .i64 0,.string ByteArray.empty,.string ByteArray.empty,.int .i64 0,.int .i64 0,.slice none 0 0]) 6 80 Tryz.underlying214 HI.out.1 HI.out.2.1 HI.out.2.2.1 HI.out.2.2.2 rfl (by decide) (.slice cp k cc) k (acc.flatMap BV.qg) (by simp[Act.eval]) (aL a8.out (ai _ _)) ⟨w2.heap.size,0,none⟩ 1 1 (BV.qg (n:=n) ⟨⟨dl,ds,dp⟩,.slice (some ⟨g,o+(p+1)*5,none⟩) N (cap-(p+1))⟩) (by simp[Act.eval]) rfl (fun j u hj=>kt _ _ _ _ (by simp) j u hj) (Ba (ah.out w (Below.refl _ _))) (by unfold maxLen;omega) (by omega) (by have:=ab.out.size;simp;omega) ?_;intro v4 w4 U a2 bb;have b4:=aa U;have b3:Hid (aw w2.drew w4 (an (.slice cp k cc))):=aa (by have:=(ak (ai w2.drew _)).trans (aE a2);rwa[List.nil_append]at this);obtain⟨p4,cl,rfl⟩:=aq U;clear U a2 bb);all_goals
    go_wp2_with fail;go_roundw;case rel=>
     have cf:=(au a8.out).lo;have b6:Below w.heap.size w2.drew w4:=b3.out.below (by have:=ab.out.size;simp;omega) cf;have b8:Below w.heap.size w w2.drew:=(HR.out.dN.trans (ab.out.mono b2)).drew;have a3:Below w.heap.size w w4:=b8.trans b6;refine⟨k+1,T,acc++[⟨⟨dl,ds,dp⟩,.slice (some ⟨g,o+(p+1)*5,none⟩) N (cap-(p+1))⟩],az,by go_num,rfl,⟨by rw[List.map_append];exact b5.out,ag.out,?_,fun x hx=>?_,a3,by rw[HM.out];exact ax⟩⟩;·rw[List.length_append,List.length_singleton,af.out,List.flatMap_append];simpa using b4.out
     ·rw[List.mem_append]at hx;rcases hx with hx|hx;·exact(HR.out.G1 x hx).carry (fun b hb=>(a3.block b (a9.out b hb)).trans (HR.out.dN.block b (a9.out b hb)).symm) (fun _ h=>h)
      ·simp at hx;subst hx;exact ah.out w4 a3
    case measure=>simp[intOf];omega
  ·obtain rfl:k=K:=by omega
   have HE:Hid (acc.map BV.b=C):=aa (by rw[hR.done];exact List.take_of_length_le (by rw[HK.out];exact Nat.le_refl _));clear hR;go_wp2_with fail;go_ret;exact⟨_,acc,rfl,HE.out,by rw[af.out];have:=HR.out.own;rw[af.out]at this;exact this,HR.out.G1,HR.out.dN⟩
end
end Go.Proofs.YtlbcnmcfljaijaaGreat
