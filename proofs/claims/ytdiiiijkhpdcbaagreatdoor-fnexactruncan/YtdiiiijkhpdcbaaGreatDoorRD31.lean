import Derived.Test.YtdiiiijkhpdcbaaGreatDoorRD27
namespace Go.Proofs.YtdiiiijkhpdcbaaGreatDoor
open Go.RowKit
set_option linter.unusedSimpArgs false
set_option linter.unusedVariables false
set_option maxHeartbeats 2000000
set_option maxRecDepth 100000
section
attribute [local go_sem ↓] Go.wp_at_zero Go.wp_at_succ
def fL(w:World)(S:Nat→Prop)(v:Value)(l:List Nd):Prop:=∃j cap,v=.slice j l.length cap∧l.length≤cap∧cap≤maxLen∧l.length≤2000∧(l≠[]→∃g o,j=some ⟨g,o,none⟩∧S g∧cO w g o l)
theorem cO.block{w w':World}{g:Nat}(j:w'.heap[g]?=w.heap[g]?):∀{l:List Nd}{o:Nat},cO w g o l→cO w' g o l|[],_,_=>trivial|_::_,_,⟨⟨C,I,J,P,R⟩,T⟩=>⟨⟨(World.cell?_of_block (a:=⟨g,_,none⟩) j).trans C,(World.cell?_of_block (a:=⟨g,_,none⟩) j).trans I,(World.cell?_of_block (a:=⟨g,_,none⟩) j).trans J,(World.cell?_of_block (a:=⟨g,_,none⟩) j).trans P,(World.cell?_of_block (a:=⟨g,_,none⟩) j).trans R⟩,cO.block j T⟩
theorem fL.carry{w w':World}{S S':Nat→Prop}{v:Value}{l:List Nd}(h:fL w S v l)(hb:∀g,S g→w'.heap[g]?=w.heap[g]?)(hS:∀g,S g→S' g):fL w' S' v l:=by obtain⟨I,cap,e,R,T,U,h4⟩:=h;refine⟨I,cap,e,R,T,U,fun j=>?_⟩;obtain⟨g,o,J,C,P⟩:=h4 j;exact⟨g,o,J,hS g C,P.block (hb g C)⟩
theorem fL.up{w:World}{S S':Nat→Prop}{v:Value}{l:List Nd}(h:fL w S v l)(hS:∀g,S g→S' g):fL w S' v l:=h.carry (fun _ _=>rfl) hS
theorem fL.on{w w':World}{S:Nat→Prop}{v:Value}{l:List Nd}(h:fL w S v l)(hS:∀g,S g→g<w.heap.size)(C:Below w.heap.size w w'):fL w' S v l:=h.carry (fun g j=>C.block g (hS g j)) (fun _ j=>j)
theorem ek{all post:List Nd}{j:Nat}{x:Nd}{r:List Nd}(h:all.drop j=x::r++post):∃C:j<all.length,all[j]=x∧all.drop (j+1)=r++post:=by
 have C:j<all.length:=by
  rcases Nat.lt_or_ge j all.length with l|l;·exact l
  ·rw[List.drop_of_length_le l]at h;cases h
 rw[List.drop_eq_getElem_cons C,List.cons_append]at h;injection h with h1 h2;exact⟨C,h1,h2⟩
theorem qJ{all j post:List Nd}{l:Nat}(h:all.drop l=j++post)(C:j≠[]):l+j.length+post.length=all.length:=by have:=congrArg List.length h;rw[List.length_drop,List.length_append]at this;have:0<j.length:=List.length_pos_iff.2 C;omega
theorem nW{all j post:List Nd}{l:Nat}(h:all.drop l=j++post):all.drop (l+j.length)=post:=by rw[←List.drop_drop,h,List.drop_left]
def kT(n:Nat):Prop:=∀(p:Pn n)(all post:List Nd)(pos:Nat)(v:Value)(w:World)(S:Nat→Prop),(∀g,S g→g<w.heap.size)→bJ n p→all.length≤1000→all.drop pos=aw n p++post→fL w S v all→Calls Tryz.prog 233 #[v,.int .i64 pos] w fun e w'=>e=.returned (.int .i64 ((pos+(aw n p).length:Nat):Int))∧Below w.heap.size w w'
theorem pj(x:Option ByteArray)(all post:List Nd)(j:Nat)(v:Value)(w:World)(S:Nat→Prop)(hS:∀g,S g→g<w.heap.size)(hl:all.length≤1000)(h:all.drop j=bP x++post)(hv:fL w S v all):Calls Tryz.prog 233 #[v,.int .i64 j] w fun e w'=>e=.returned (.int .i64 ((j+(bP x).length:Nat):Int))∧Below w.heap.size w w':=by
 obtain⟨R,hr,P,C⟩:∃R,bP x=[R]∧(R.op=0∨R.op=1)∧R.many=0:=by cases x with|none=>exact⟨_,rfl,.inl rfl,rfl⟩|some x=>exact⟨_,rfl,.inr rfl,rfl⟩
 rw[hr]at h⊢;obtain⟨T,hn,-⟩:=ek h;obtain⟨ao,cap,rfl,hc,hm,-,l⟩:=hv;obtain⟨g,o,rfl,hg,l⟩:=l (fun e=>by rw[e]at T;simp at T);have I:=l.get j T;rw[hn]at I;obtain⟨op,name,J,many,sort⟩:=R;dsimp only at C P;subst C;obtain⟨c0,c1,c2,c3,c4⟩:=I;dsimp only at c0 c1 c2 c3 c4;have HL:Hid (([⟨op,name,J,0,sort⟩]:List Nd).length=1):=aa rfl;have e2:(op==2)=false:=by rcases P with rfl|rfl<;>rfl
 have ab:=hS g hg;obtain⟨M,U⟩:∃M,all.length=M:=⟨_,rfl⟩;rw[U]at T hl hc⊢;clear l hn hr h hS U P;go_enter Tryz.func233,Tryz.ntmps233;go_wp2_with fail;go_loopw[1,6](fun av kv wr=>av=.int .i64 ((j:Int)+1)∧kv=.int .i64 0∧wr=w.alloc (.cells #[.int .i64 op,.string name,.string J,.int .i64 0,.int .i64 sort] 156))(fun _ _ _=>0);case atStart=>exact⟨by go_num,rfl,rfl⟩
 case round=>obtain⟨rfl,rfl,rfl⟩:=hrel;go_wp2_with fail;go_ret;refine⟨?_,ae w _⟩;show Ending.returned (.int .i64 ((j:Int)+1))=.returned (.int .i64 ((j+1:Nat):Int));rw[Int.natCast_add];rfl
theorem vl(n:Nat)(ih:kT n)(x:ByteArray)(q:Pn n)(hq:bJ n q)(all post:List Nd)(j:Nat)(v:Value)(w:World)(S:Nat→Prop)(hS:∀g,S g→g<w.heap.size)(hl:all.length≤1000)(h:all.drop j=aw (n+1) (.loop x q)++post)(hv:fL w S v all):Calls Tryz.prog 233 #[v,.int .i64 j] w fun e w'=>e=.returned (.int .i64 ((j+(aw (n+1) (.loop x q)).length:Nat):Int))∧Below w.heap.size w w':=by rw[cP]at h⊢;obtain⟨P,hn,U⟩:=ek h;have I:Hid (∀W,Below w.heap.size w W→Calls Tryz.prog 233 #[v,.int .i64 ((j+1:Nat):Int)] W fun e w'=>e=.returned (.int .i64 ((j+1+(aw n q).length:Nat):Int))∧Below W.heap.size W w'):=aa (fun W hW=>ih q all post (j+1) v W S (fun g T=>Nat.lt_of_lt_of_le (hS g T) hW.size) hq hl U (hv.on hS hW));obtain⟨ao,cap,rfl,hc,hm,-,l⟩:=hv;obtain⟨g,o,rfl,T,l⟩:=l (fun e=>by rw[e]at P;simp at P);have C:=l.get j P;rw[hn]at C;obtain⟨c0,c1,c2,c3,c4⟩:=C;dsimp only at c0 c1 c2 c3 c4;have ab:=hS g T;obtain⟨M,hM⟩:∃M,all.length=M:=⟨_,rfl⟩;rw[hM]at P hl hc I⊢;clear l hn h U hS hM ih;go_enter Tryz.func233,Tryz.ntmps233;go_wp2_with(go_at_call 233;refine(I.out _ (ae _ _)).mono ?_;rintro e w1⟨rfl,J⟩;have R:Hid (Below w.heap.size w w1):=aa ((ae w _).trans (J.mono (by simp)));clear J);go_ret;refine⟨?_,R.out⟩;show Ending.returned (.int .i64 ((j+1+(aw n q).length:Nat):Int))=.returned (.int .i64 ((j+((aw n q).length+1):Nat):Int));rw[show j+1+(aw n q).length=j+((aw n q).length+1)by omega]
theorem vm(n:Nat)(ih:kT n)(t:Tk)(l:List (Br (Pn n)))(ht:t.op≠2)(aq:∀b∈l,bJ n b.p)(all post:List Nd)(j:Nat)(v:Value)(w:World)(S:Nat→Prop)(hS:∀g,S g→g<w.heap.size)(hl:all.length≤1000)(h:all.drop j=aw (n+1) (.cV t l)++post)(hv:fL w S v all):Calls Tryz.prog 233 #[v,.int .i64 j] w fun e w'=>e=.returned (.int .i64 ((j+(aw (n+1) (.cV t l)).length:Nat):Int))∧Below w.heap.size w w':=by
 rw[bH]at h⊢;obtain⟨hp,hn,h1⟩:=ek h;have ad:Hid (∀(k p:Nat)(b:Br (Pn n)),l[k]?=some b→all.drop p=aT (aw n) (l.drop k)++post→(all.drop (p+1+(aw n b.p).length)=aT (aw n) (l.drop (k+1))++post∧p+1<all.length)∧∀W,Below w.heap.size w W→Calls Tryz.prog 233 #[v,.int .i64 ((p:Int)+1)] W fun e w'=>e=.returned (.int .i64 ((p+1+(aw n b.p).length:Nat):Int))∧Below W.heap.size W w'):=aa (fun k p b R hd=>by
  have P:=(List.getElem?_eq_some_iff.1 R).1;have ay:l[k]=b:=(List.getElem?_eq_some_iff.1 R).2;rw[List.drop_eq_getElem_cons P,ay,cA,List.cons_append,List.append_assoc]at hd;obtain⟨aM,a2,h2⟩:=ek (r:=aw n b.p++aT (aw n) (l.drop (k+1))) (post:=post) (by rw[hd,List.cons_append,List.append_assoc]);rw[List.append_assoc]at h2;refine⟨⟨nW h2,?_⟩,fun W hW=>?_⟩;·
   rcases Nat.lt_or_ge (p+1) all.length with h'|h';·exact h'
   ·rw[List.drop_of_length_le h']at h2;have:=congrArg List.length h2;rw[List.length_append]at this;have:=de n b.p;simp at*;omega
  ·exact ih b.p all _ (p+1) v W S (fun g hg=>Nat.lt_of_lt_of_le (hS g hg) hW.size) (aq b (List.mem_of_getElem? R)) hl h2 (hv.on hS hW));obtain⟨ao,cap,rfl,hc,hm,-,C⟩:=hv;obtain⟨g,o,rfl,hg,C⟩:=C (fun e=>by rw[e]at hp;simp at hp);have J:=C.get j hp;rw[hn]at J;obtain⟨op,a,b⟩:=t;dsimp only at ht;obtain⟨c0,c1,c2,c3,c4⟩:=J;dsimp only at c0 c1 c2 c3 c4;have a1:=hS g hg;have e2:(op==2)=false:=by simpa using ht
 have az:l.length≤1000:=by have ab:=congrArg List.length h1;rw[List.length_drop,List.length_append]at ab;have:=fO (aw n) l;omega
 have HH:=aa h1;have U:Hid (∀p,all.drop p=aT (aw n) (l.drop l.length)++post→p≤all.length→p=j+((aT (aw n) l).length+1)):=aa (fun p hd aR=>by have ab:=congrArg List.length h1;have ah:=congrArg List.length hd;rw[List.drop_length]at ah;simp only[List.length_drop,List.length_append,aT,List.flatMap_nil,List.length_nil]at ab ah;have:j<all.length:=hp;unfold aT;omega);obtain⟨K,hK⟩:∃K,l.length=K:=⟨_,rfl⟩;obtain⟨M,hM⟩:∃M,all.length=M:=⟨_,rfl⟩;rw[hM]at hp hl hc ad U⊢;rw[hK]at c3 az U;have HK:=aa hK;have HM:=aa hM;clear C hn h h1 hS hM hK ih aq ht;go_enter Tryz.func233,Tryz.ntmps233;go_wp2_with fail;go_loopw[1,6](fun av kv wr=>∃k p:Nat,k≤K∧p≤M∧av=.int .i64 p∧kv=.int .i64 k∧all.drop p=aT (aw n) (l.drop k)++post∧Below (w.heap.size+1) (w.alloc (.cells #[.int .i64 op,.string a,.string b,.int .i64 (K:Int),.int .i64 0] 156)) wr)(fun _ kv _=>K-(intOf kv).toNat);case atStart=>exact⟨0,j+1,Nat.zero_le _,hp,by go_num,rfl,HH.out,Below.refl _ _⟩
 case round=>
  obtain⟨k,p,hk,aN,rfl,rfl,hd,R⟩:=hrel;have HD:=aa hd;have HB:=aa R;have m3:wr.cell? ⟨w.heap.size,3,none⟩=some (.int .i64 (K:Int)):=(R.cell (p:=⟨w.heap.size,3,none⟩) (by simp)).trans (by simp);have T:Hid (Below w.heap.size w wr):=aa ((ae w _).trans (R.mono (by omega)));have a3:=T.out.size;clear hd R;by_cases P:k<K;·
   obtain⟨d,ac⟩:∃d,l[k]?=some d:=⟨l[k]'(by rw[HK.out];exact P),List.getElem?_eq_getElem _⟩;obtain⟨⟨an,aM⟩,I⟩:=ad.out k p d ac HD.out;have HC:=aa I;have af:=aa an;have aL:p+1+(aw n d.p).length≤M:=by have:=congrArg List.length af.out;have h0:=congrArg List.length HD.out;rw[List.length_drop]at this;rw[List.length_drop]at h0;have a0:=gD ac;simp only[List.length_append,HM.out]at this h0;omega
   clear I an ac;go_wp2_with(go_at_call 233;refine(HC.out _ T.out).mono ?_;rintro e w1⟨rfl,al⟩;have ax:=aa al;clear al);go_roundw;case rel=>exact⟨k+1,p+1+(aw n d.p).length,P,aL,rfl,by go_num,af.out,HB.out.trans (ax.out.mono (by have:=HB.out.size;simpa using this))⟩
   case measure=>simp[intOf];omega
  ·obtain rfl:k=K:=by omega
   have HE:=aa (U.out p HD.out aN);go_wp2_with fail;go_ret;refine⟨?_,T.out⟩;rw[←HE.out];rfl
theorem iS:∀n:Nat,kT n:=by intro n;induction n with|zero=>intro p all post pos v w S hS _ hl h j;exact pj p all post pos v w S hS hl h j|succ n ih=>intro p;refine Pn.cases (P:=fun p=>∀(all post:List Nd)(pos:Nat)(v:Value)(w:World)(S:Nat→Prop),(∀g,S g→g<w.heap.size)→bJ (n+1) p→all.length≤1000→all.drop pos=aw (n+1) p++post→fL w S v all→Calls Tryz.prog 233 #[v,.int .i64 pos] w fun e w'=>e=.returned (.int .i64 ((pos+(aw (n+1) p).length:Nat):Int))∧Below w.heap.size w w') (fun x all post pos v w S hS _ hl h j=>pj x all post pos v w S hS hl h j) (fun x q all post pos v w S hS I hl h j=>vl n ih x q I all post pos v w S hS hl h j) (fun t l all post pos v w S hS I hl h j=>?_) p;have C:sS t∧l≠[]∧∀b∈l,bJ n b.p:=I;refine vm n ih t l (fun e=>?_) C.2.2 all post pos v w S hS hl h j;rcases C.1 with J|⟨R|T,_⟩<;>omega
def AH(role:ByteArray)(n:Nd):Bool:=n.op==3&&(n.name.toList==role.toList||n.peer.toList==role.toList)
theorem qe(role:ByteArray)(l:List Nd):dk role l=l.any (AH role):=rfl
theorem zC{all j post:List Nd}{C k:Nat}(h:all.drop C=j++post)(J:k<j.length):∃P:C+k<all.length,all[C+k]=j[k]:=by have I:=congrArg (fun l=>l[k]?) h;rw[List.getElem?_drop,List.getElem?_append_left J,List.getElem?_eq_getElem J]at I;exact List.getElem?_eq_some_iff.1 I
theorem FB(role:ByteArray)(all l post:List Nd)(P:Nat)(v:Value)(w:World)(S:Nat→Prop)(hS:∀g,S g→g<w.heap.size)(hl:all.length≤1000)(an:P≤1000)(h:all.drop P=l++post)(hv:fL w S v all):Calls Tryz.prog 234 #[v,.int .i64 P,.int .i64 ((P+l.length:Nat):Int),.string role] w fun e w'=>e=.returned (.bool (dk role l))∧Below w.heap.size w w':=by
 obtain⟨ao,cap,rfl,hc,hm,-,C⟩:=hv;have HR:=aa C;have HH:=aa h;have HS:=aa hS;have ah:l.length≤1000:=by have:=congrArg List.length h;rw[List.length_drop,List.length_append]at this;omega
 obtain⟨M,hM⟩:∃M,l.length=M:=⟨_,rfl⟩;obtain⟨L,hL⟩:∃L,all.length=L:=⟨_,rfl⟩;rw[hM]at ah⊢;rw[hL]at hl hc⊢;have HM:=aa hM;have HL:=aa hL;clear C h hS hM hL;go_enter Tryz.func234,Tryz.ntmps234;go_wp2_with fail;go_loopw[9](fun i wr=>∃k:Nat,k≤M∧i=.int .i64 ((P+k:Nat):Int)∧(∀j(hj:j<l.length),j<k→AH role l[j]=false)∧Below w.heap.size w wr)(fun i _=>P+M-(intOf i).toNat);case atStart=>exact⟨0,Nat.zero_le _,rfl,fun j _ h=>absurd h (by omega),Below.refl _ _⟩
 case round=>
  obtain⟨k,hk,rfl,ab,hb⟩:=hrel;have HA:=aa ab;have HB:=aa hb;clear ab hb;by_cases ad:k<M;·
   have af:k<l.length:=by rw[HM.out];exact ad
   obtain⟨U,ac⟩:=zC HH.out af;obtain⟨g,o,rfl,hg,C⟩:=HR.out (fun e=>by rw[e]at U;simp at U);have J:=(C.get (P+k) U).carry (HS.out g hg) HB.out;rw[ac]at J;obtain⟨x,hx⟩:∃x,l[k]=x:=⟨_,rfl⟩;rw[hx]at J;have HX:=aa hx;obtain⟨op,name,I,many,sort⟩:=x;obtain⟨c0,c1,c2,c3,c4⟩:=J;dsimp only at c0 c1 c2 c3 c4;rw[HL.out]at U;clear C ac hx;have T:Hid (AH role ⟨op,name,I,many,sort⟩=false→∀j(hj:j<l.length),j<k+1→AH role l[j]=false):=aa (fun h0 j hj al=>by
    by_cases e:j=k;·subst e;rw[HX.out];exact h0
    ·exact HA.out j hj (by omega));have R:Hid (AH role ⟨op,name,I,many,sort⟩=true→dk role l=true):=aa (fun h0=>by rw[qe,List.any_eq_true];exact⟨l[k],List.getElem_mem af,by rw[HX.out];exact h0⟩);have hI:AH role ⟨op,name,I,many,sort⟩=((op==3)&&(name.toList==role.toList||I.toList==role.toList)):=rfl;rw[hI]at T R;obtain⟨q3,h3⟩:∃q,(op==3)=q:=⟨_,rfl⟩;obtain⟨q1,h1⟩:∃q,(name.toList==role.toList)=q:=⟨_,rfl⟩;obtain⟨q2,h2⟩:∃q,(I.toList==role.toList)=q:=⟨_,rfl⟩;rw[h3,h1,h2]at T R;clear hI;cases q3;·
    go_wp2_with fail;go_roundw;case rel=>exact⟨k+1,ad,by go_num,T.out rfl,HB.out⟩
    case measure=>simp[intOf];omega
   ·cases q1;·
     cases q2;·
      go_wp2_with fail;go_roundw;case rel=>exact⟨k+1,ad,by go_num,T.out rfl,HB.out⟩
      case measure=>simp[intOf];omega
     ·go_wp2_with fail;go_ret;exact⟨aC (R.out rfl),HB.out⟩
    ·go_wp2_with fail;go_ret;exact⟨aC (R.out (by cases q2<;>rfl)),HB.out⟩
  ·obtain rfl:k=M:=by omega
   have HF:Hid (dk role l=false):=aa (by rw[qe,List.any_eq_false];intro x hx;obtain⟨j,hj,rfl⟩:=List.getElem_of_mem hx;rw[HA.out j hj (by rw[←HM.out];exact hj)];simp);go_wp2_with fail;go_ret;exact⟨aC HF.out,HB.out⟩
theorem DE(x y:List Nd)(v u:Value)(w:World)(S:Nat→Prop)(hS:∀g,S g→g<w.heap.size)(hx:fL w S v x)(hy:fL w S u y):Calls Tryz.prog 291 #[v,u] w fun e w'=>e=.returned (.bool (fu x y))∧Below w.heap.size w w':=by
 obtain⟨ax,cx,rfl,a1,a6,a3,aL⟩:=hx;obtain⟨ay,cy,rfl,a2,a7,a4,aM⟩:=hy;have aN:=aa aL;have aR:=aa aM;have HS:=aa hS;obtain⟨L,hL⟩:∃L,x.length=L:=⟨_,rfl⟩;obtain⟨M,hM⟩:∃M,y.length=M:=⟨_,rfl⟩;rw[hL]at a3 a1⊢;rw[hM]at a4 a2⊢;have HL:=aa hL;have HM:=aa hM;clear aL aM hL hM hS;by_cases az:L=M;·
  subst az;go_enter Tryz.func291,Tryz.ntmps291;go_wp2_with fail;go_loopw[5](fun i wr=>∃k:Nat,k≤L∧i=.int .i64 k∧(∀j(h1:j<x.length)(h2:j<y.length),j<k→nF x[j] y[j]=true)∧Below w.heap.size w wr)(fun i _=>L-(intOf i).toNat);case atStart=>exact⟨0,Nat.zero_le _,rfl,fun j _ _ h=>absurd h (by omega),Below.refl _ _⟩
  case round=>
   obtain⟨k,hk,rfl,R,C⟩:=hrel;have HA:=aa R;have l:=aa C;clear R;by_cases ab:k<L;·
    have J:k<x.length:=by rw[HL.out];exact ab
    have P:k<y.length:=by rw[HM.out];exact ab
    obtain⟨b,o,rfl,a0,T⟩:=aN.out (by intro h;rw[h]at J;simp at J);obtain⟨b',o',rfl,an,I⟩:=aR.out (by intro h;rw[h]at P;simp at P);have aq:=(T.get k J).carry (HS.out b a0) C;have av:=(I.get k P).carry (HS.out b' an) C;obtain⟨U,ac⟩:∃U,x[k]=U:=⟨_,rfl⟩;obtain⟨y1,ad⟩:∃y1,y[k]=y1:=⟨_,rfl⟩;rw[ac]at aq;rw[ad]at av;obtain⟨c0,c1,c2,c3,c4⟩:=aq;obtain⟨d0,d1,d2,d3,d4⟩:=av;obtain⟨r,hr⟩:∃r,nF U y1=r:=⟨_,rfl⟩;have heq:∀W,(Op.equalIn 10000 156 (.agg #[.int .i64 U.op,.string U.name,.string U.peer,.int .i64 U.many,.int .i64 U.sort]) (.agg #[.int .i64 y1.op,.string y1.name,.string y1.peer,.int .i64 y1.many,.int .i64 y1.sort])).run Tryz.prog W=.ok r W:=fun W=>by rw[wz,hr]
    have af:=aa hr;have ah:=aa ac;have al:=aa ad;clear T I hr ac ad C;cases r;·go_wp2_with fail;go_region;go_wp2_with fail;all_goals go_ret;exact⟨aC (rX J P (by rw[ah.out,al.out];exact af.out)),by first|exact l.out|exact l.out.drew⟩
    ·go_wp2_with fail;go_region;go_wp2_with fail;all_goals
      go_roundw;case rel=>
       refine⟨k+1,ab,by go_num,fun j h1 h2 a5=>?_,by first|exact l.out|exact l.out.drew⟩;by_cases ao:j=k;·subst ao;rw[ah.out,al.out];exact af.out
       ·exact HA.out j h1 h2 (by omega)
      case measure=>simp[intOf];omega
   ·go_wp2_with fail;go_ret;exact⟨aC (oQ (by rw[HL.out,HM.out]) (fun j h1 h2=>HA.out j h1 h2 (by rw[HL.out]at h1;omega))),l.out⟩
 ·have HF:Hid (fu x y=false):=aa (oP (by rw[HL.out,HM.out];exact az));have hq:((L:Int)==(M:Int))=false:=beq_eq_false_iff_ne.2 (by omega);go_enter Tryz.func291,Tryz.ntmps291;go_wp2_with fail;go_ret;exact⟨aC HF.out,Below.refl _ _⟩
structure Gv(w wr:World)(mid:List Nd)(nv:Value)(k:Nat)(ns:List ByteArray):Prop where
 same:bY ns (mid.drop k)=bY [] mid
 own:wr.ownsRow w.heap.size 9 1 nv ns.length (ns.map Value.string)
 len:ns.length≤k
 cB:Below w.heap.size w wr
theorem DA(all l post:List Nd)(I:Nat)(v:Value)(w:World)(S:Nat→Prop)(hS:∀g,S g→g<w.heap.size)(hl:all.length≤1000)(a7:I≤1000)(h:all.drop I=l++post)(hv:fL w S v all):Calls Tryz.prog 235 #[v,.int .i64 I,.int .i64 ((I+l.length:Nat):Int)] w fun e w'=>e=.returned (.bool (bY [] l))∧Below w.heap.size w w':=by
 obtain⟨i0,hi,aL,aM,aN⟩:=info_parts Tryz.lj;have HI:=aa (And.intro hi (And.intro aL (And.intro aM aN)));obtain⟨ao,cap,rfl,hc,hm,-,J⟩:=hv;have HR:=aa J;have HH:=aa h;have HS:=aa hS;have a1:l.length≤1000:=by have:=congrArg List.length h;rw[List.length_drop,List.length_append]at this;omega
 obtain⟨M,hM⟩:∃M,l.length=M:=⟨_,rfl⟩;obtain⟨L,hL⟩:∃L,all.length=L:=⟨_,rfl⟩;rw[hM]at a1⊢;obtain⟨T,hT⟩:∃T,I+M=T:=⟨_,rfl⟩;rw[hT];rw[hL]at hl hc⊢;have HM:=aa hM;have HL:=aa hL;clear J h hS hM hL hi aL aM aN;go_enter Tryz.func235,Tryz.ntmps235;go_wp2_with fail;go_loopw[7,8](fun nv i wr=>∃(k:Nat)(ns:List ByteArray),k≤M∧i=.int .i64 ((I+k:Nat):Int)∧Gv w wr l nv k ns)(fun _ i _=>I+M-(intOf i).toNat);case atStart=>exact⟨0,[],Nat.zero_le _,rfl,⟨rfl,dr _ _ _ _ _ (Nat.le_refl _) (bV _ _ _ rfl),Nat.le_refl _,ae _ _⟩⟩
 case round=>
  obtain⟨k,ns,hk,rfl,hR⟩:=hrel;have U:=aa hR;have aR:=hR.cB.size;have a2:=hR.len;obtain⟨np,nc,az⟩:=ak hR.own;obtain⟨Q,hQ⟩:∃Q,ns.length=Q:=⟨_,rfl⟩;rw[hQ]at az a2;have HQ:=aa hQ;subst az;by_cases ac:k<M;·
   have ay:k<l.length:=by rw[HM.out];exact ac
   obtain⟨ad,af⟩:=zC HH.out ay;obtain⟨g,o,rfl,hg,J⟩:=HR.out (fun e=>by rw[e]at ad;simp at ad);have ax:=HS.out g hg;have P:=(J.get (I+k) ad).carry ax hR.cB;rw[af]at P;have av:Hid (∀x,l[k]=x→bY [] l=if x.op==2 then bY (ns++[x.name]) (l.drop (k+1))else if x.op==1&&!b8 ns x.name then false else bY ns (l.drop (k+1))):=aa (fun x hx=>by rw[←hR.same,List.drop_eq_getElem_cons ay,hx,bY]);obtain⟨x,hx⟩:∃x,l[k]=x:=⟨_,rfl⟩;rw[hx]at P;have ab:=aa (av.out x hx);have C:Hid (wr.ownsRow w.heap.size 9 1 (.slice np Q nc) Q (ns.map Value.string)):=aa (by have:=hR.own;rw[HQ.out]at this;exact this);obtain⟨op,name,a4,many,sort⟩:=x;obtain⟨c0,c1,c2,c3,c4⟩:=P;dsimp only at c0 c1 c2 c3 c4;rw[HL.out]at ad;have a6:g<wr.heap.size:=Nat.lt_of_lt_of_le ax aR;clear J af hx hR hQ av;by_cases h2:op=2;·
    subst h2;go_wp2_with(at_builtin;refine wpList_append_own _ rfl (.tmp 22) (.tmp 28) 42 rfl w.heap.size 9 i0 (.string ByteArray.empty) 1 16 Tryz.underlying42 HI.out.1 HI.out.2.1 HI.out.2.2.1 HI.out.2.2.2 rfl (by decide) (.slice np Q nc) Q (ns.map Value.string) rfl (aJ C.out (ae wr _)) ⟨wr.heap.size,0,none⟩ 1 1 [.string name] rfl rfl (fun j u hj=>fH _ _ _ _ (by simp) j u hj) (by intro u hu;simp at hu;subst hu;rfl) (by unfold maxLen;omega) (by omega) (by simp;omega) ?_;intro v4 w4 R ah _;have a0:=aa R;have al:Hid (aI wr w4 (aj (.slice np Q nc))):=aa (by have:=(ag (ae wr _)).trans (aB ah);rwa[List.nil_append]at this);have d0:w4.cell? ⟨g,o+(I+k)*5,none⟩=some (.int .i64 2):=al.out.fV c0 (fun hm=>absurd ((au C.out).lo _ hm) (by omega));obtain⟨p4,a5,rfl⟩:=ak R;clear R ah);go_roundw;case rel=>
     refine⟨k+1,ns++[name],ac,by go_num,⟨?_,?_,by rw[List.length_append,HQ.out];simp;omega,U.out.cB.trans (al.out.below aR (au C.out).lo)⟩⟩;·rw[ab.out];rfl
     ·rw[List.length_append,List.length_singleton,HQ.out,List.map_append];exact a0.out
    case measure=>simp[intOf];omega
   ·have e2:(op==2)=false:=by simpa using h2
    by_cases h1:op=1;·
     subst h1;obtain⟨q,hq⟩:∃q,b8 ns name=q:=⟨_,rfl⟩;have aq:=aa hq;have an:Hid (∀W,Below wr.heap.size wr W→Calls Tryz.prog 131 #[.slice np Q nc,.string name] W fun e w'=>e=.returned (.bool q)∧w'=W):=aa (fun W hW=>by have:=fw ns name (.slice np Q nc) W (cD (base:=w.heap.size) (e:=9) (by rw[HQ.out];exact aJ C.out hW) (by rw[HQ.out];omega));rw[hq]at this;exact this);clear hq;cases q;·go_wp2_with(go_at_call 131;refine(an.out _ (Below.refl _ _)).mono ?_;rintro e w'⟨rfl,a3⟩;subst w');go_ret;refine⟨aC ?_,U.out.cB⟩;rw[ab.out];simp[aq.out]
     ·go_wp2_with(go_at_call 131;refine(an.out _ (Below.refl _ _)).mono ?_;rintro e w'⟨rfl,a3⟩;subst w');go_roundw;case rel=>refine⟨k+1,ns,ac,by go_num,⟨?_,by rw[HQ.out];exact C.out,by rw[HQ.out];omega,U.out.cB⟩⟩;rw[ab.out];simp[aq.out]
      case measure=>simp[intOf];omega
    ·have e1:(op==1)=false:=by simpa using h1
     go_wp2_with fail;go_roundw;case rel=>refine⟨k+1,ns,ac,by go_num,⟨?_,by rw[HQ.out];exact C.out,by rw[HQ.out];omega,U.out.cB⟩⟩;rw[ab.out];simp[e1,e2]
     case measure=>simp[intOf];omega
  ·have HT:Hid (bY [] l=true):=aa (by rw[←U.out.same,List.drop_of_length_le (by rw[HM.out];omega),bY]);go_wp2_with fail;go_ret;exact⟨aC HT.out,U.out.cB⟩
section
variable {n : Nat}
def BV.oS(x:BV n):List Value:=[.int .i64 4,.string x.b.l,.string ByteArray.empty,.int .i64 0,.int .i64 x.b.s,x.u]
theorem BV.uT(x:BV n):x.oS.length=6:=rfl
theorem zS{w:World}{S:Nat→Prop}{x:BV n}{r:List Nd}(h:fL w S x.u r):∀u∈x.oS,u.oneCell'=true:=by
 intro u hu;obtain⟨j,cap,e,-⟩:=h;simp[BV.oS]at hu;rcases hu with rfl|rfl|rfl|rfl|rfl|rfl;·rfl
 ·rfl
 ·rfl
 ·rfl
 ·rfl
 ·rw[e];rfl
structure xk(S:Nat→Prop)(a:Nat)(w:World)(base:Nat)(v:Value)(l:List (BV n)):Prop where
 own:w.ownsRow base 356 6 v l.length (l.flatMap BV.oS)
 Fm:∀x∈l,fL w (sD S a w.heap.size v) x.u (aw n x.b.p)
 low:∀g,S g→g<a
 ab:a≤base
 pN:a≤w.heap.size
variable {S : Nat → Prop} {a : Nat}
theorem xk.aD{w w':World}{base:Nat}{v:Value}{l:List (BV n)}(h:xk S a w base v l)(j:Below w.heap.size w w'):xk S a w' base v l:=⟨aJ h.own j,fun x I=>(h.Fm x I).carry (fun g C=>j.block g (eH h.low h.pN C.1)) (fun _ C=>⟨gi j.size C.1,C.2⟩),h.low,h.ab,Nat.le_trans h.pN j.size⟩
theorem xk.get{w:World}{base g c:Nat}{l:List (BV n)}(h:xk S a w base (.slice (some ⟨g,0,none⟩) l.length c) l){i:Nat}{x:BV n}(hi:l[i]?=some x)(j:Nat)(J:j<6)(y:Value)(P:x.oS[j]?=some y):w.cell? ⟨g,i*6+j,none⟩=some y:=by obtain⟨C,I⟩:=List.getElem?_eq_some_iff.1 hi;exact cX h.own rfl (i*6+j) y ((dV BV.oS 6 BV.uT l i C j J).trans (by rw[I];exact P))
theorem Cb{w P:World}{base:Nat}{v R:Value}{l:List (BV n)}(h:xk S a w base v l)(x:BV n)(hx:fL w (sD S a w.heap.size v) x.u (aw n x.b.p))(o:Obj)(I:P.ownsRow base 356 6 R (l.length+1) (l.flatMap BV.oS++x.oS))(C:(w.alloc o).grownBy P v.ownBlock)(T:R.ownBlock=v.ownBlock∨R.ownBlock=some (w.alloc o).heap.size):xk S a P base R (l++[x])∧aI w P (aj v)∧∀b∈aj R,b∈aj v∨w.heap.size≤b:=by
 obtain⟨p,c,hv⟩:=ak h.own;obtain⟨p',c',U⟩:=ak I;have hA:aI w P (aj v):=by rw[hv]at C⊢;have:=(ag (ae w o)).trans (aB C);rwa[List.nil_append]at this
 have key:∀{r:List Nd}{u:Value},fL w (sD S a w.heap.size v) u r→fL P (sD S a P.heap.size R) u r:=fun hq=>hq.carry (fun g C=>hA.block g (eH h.low h.pN C.1) C.2) (fun g C=>⟨gi hA.size C.1,fun hm=>by
  have j:=(aW U).2 hm;rcases T with e|e;·rw[e]at j;exact C.2 ((aW hv).1 j)
  ·rw[e]at j;have:=eH h.low h.pN C.1;simp at j;omega⟩);refine⟨⟨?_,fun y J=>?_,h.low,h.ab,Nat.le_trans h.pN hA.size⟩,hA,fun b hm=>?_⟩;·rw[List.length_append,List.length_singleton,List.flatMap_append];simpa using I
 ·rw[List.mem_append]at J;rcases J with J|J;·exact key (h.Fm y J)
  ·simp at J;subst J;exact key hx
 ·have j:=(aW U).2 hm;rcases T with e|e;·rw[e]at j;exact .inl ((aW hv).1 j)
  ·rw[e]at j;simp at j;exact .inr (by omega)
theorem zT:∀(l:List (BV n))(i:Nat)(x:BV n)(u:Value),l[i]?=some x→(l.flatMap BV.oS).set (i*6+5) u=(l.set i ⟨x.b,u⟩).flatMap BV.oS
 |[],i,x,u,h=>by simp at h|a::l,0,x,u,h=>by simp at h;subst h;rfl|a::l,i+1,x,u,h=>by
  rw[List.getElem?_cons_succ]at h;rw[List.set_cons_succ,List.flatMap_cons,List.flatMap_cons,←zT l i x u h];have e:(i+1)*6+5=a.oS.length+(i*6+5):=by rw[BV.uT];omega
  rw[e,List.set_append_right _ _ (by omega),Nat.add_sub_cancel_left]
theorem EB{w:World}{base g cap:Nat}{l:List (BV n)}(h:xk S a w base (.slice (some ⟨g,0,none⟩) l.length cap) l){i:Nat}{x:BV n}(hi:l[i]?=some x)(q:Pn n)(u:Value)(hu:fL w (sD S a w.heap.size (.slice (some ⟨g,0,none⟩) l.length cap)) u (aw n q)):xk S a (w.setCell ⟨g,i*6+5,none⟩ u) base (.slice (some ⟨g,0,none⟩) l.length cap) (l.set i ⟨⟨x.b.l,x.b.s,q⟩,u⟩):=by
 have I:=aP w g (i*6+5) u;have key:∀{r:List Nd}{J:Value},fL w (sD S a w.heap.size (.slice (some ⟨g,0,none⟩) l.length cap)) J r→fL (w.setCell ⟨g,i*6+5,none⟩ u) (sD S a (w.setCell ⟨g,i*6+5,none⟩ u).heap.size (.slice (some ⟨g,0,none⟩) l.length cap)) J r:=fun R=>R.carry (fun b j=>I.block b (eH h.low h.pN j.1) (fun P=>j.2 (by simpa[aj,aG]using P))) (fun b j=>⟨gi I.size j.1,j.2⟩);refine⟨?_,fun y C=>?_,h.low,h.ab,Nat.le_trans h.pN I.size⟩;·
  have:=(World.ownsRow.stored h.own (i*6+5) u).1;rw[zT l i x u hi]at this;rw[List.length_set];have e:(l.set i ⟨x.b,u⟩).flatMap BV.oS=(l.set i ⟨⟨x.b.l,x.b.s,q⟩,u⟩).flatMap BV.oS:=by clear hi this hu h I key;induction l generalizing i with|nil=>rfl|cons a l ih=>cases i with|zero=>rfl|succ i=>rw[List.set_cons_succ,List.set_cons_succ,List.flatMap_cons,List.flatMap_cons,ih]
  rw[←e];exact this
 ·rcases j4 C with C|C;·exact key (h.Fm y C)
  ·subst C;exact key hu
end
theorem zN{w:World}{g:Nat}:∀{l r:List Nd}{o:Nat},cO w g o (l++r)→cO w g o l|[],_,_,_=>trivial|_::_,_,_,h=>⟨h.1,zN h.2⟩
theorem Tryz.CA:(Tryz.prog.info? 356).map (fun i=>(i.zero,i.size,i.bytes))=some (some (.agg #[.int .i64 0,.string ByteArray.empty,.string ByteArray.empty,.int .i64 0,.int .i64 0,.slice none 0 0]),6,80):=by kernel_rfl
structure Gx(n:Nat)(S:Nat→Prop)(w wr:World)(all:List Nd)(cs:List (Br (Pn n)))(cv:Value)(k p:Nat)(acc:List (BV n)):Prop where
 done:acc.map BV.b=cs.take k
 rest:all.drop p=aT (aw n) (cs.drop k)
 own:wr.ownsRow w.heap.size 356 6 cv acc.length (acc.flatMap BV.oS)
 Fm:∀x∈acc,fL wr S x.u (aw n x.b.p)
 cB:Below w.heap.size w wr
 le:p≤all.length
theorem zR(n:Nat)(t:Tk)(C:List (Br (Pn n)))(bp:∀b∈C,bJ n b.p)(all:List Nd)(J:all=aw (n+1) (.cV t C))(hl:all.length≤1000)(v:Value)(w:World)(S:Nat→Prop)(hS:∀g,S g→g<w.heap.size)(hv:fL w S v all):Calls Tryz.prog 292 #[v] w fun e w'=>∃(v':Value)(L:List (BV n)),e=.returned v'∧L.map BV.b=C∧w'.ownsRow w.heap.size 356 6 v' L.length (L.flatMap BV.oS)∧(∀x∈L,fL w' S x.u (aw n x.b.p))∧Below w.heap.size w w':=by
 obtain⟨i0,hi,br,bs,bv⟩:=info_parts Tryz.CA;have HI:=aa (And.intro hi (And.intro br (And.intro bs bv)));rw[bH]at J;have bf:all≠[]:=by rw[J];simp
 have h0:all.drop 0=⟨t.op,t.a,t.b,(C.length:Int),0⟩::aT (aw n) C++[]:=by rw[List.append_nil,List.drop_zero];exact J
 obtain⟨a0,a9,h1⟩:=ek h0;have HB:Hid (∀(k p:Nat)(b:Br (Pn n)),C[k]?=some b→all.drop p=aT (aw n) (C.drop k)→all[p]?=some ⟨4,b.l,dh,0,b.s⟩∧all.drop (p+1)=aw n b.p++aT (aw n) (C.drop (k+1))∧all.drop (p+1+(aw n b.p).length)=aT (aw n) (C.drop (k+1))∧p+1+(aw n b.p).length≤all.length∧∀W,Below w.heap.size w W→Calls Tryz.prog 233 #[v,.int .i64 ((p:Int)+1)] W fun e w'=>e=.returned (.int .i64 ((p+1+(aw n b.p).length:Nat):Int))∧Below W.heap.size W w'):=aa (fun k p b hb hd=>by
  have ay:=(List.getElem?_eq_some_iff.1 hb).1;have bN:C[k]=b:=(List.getElem?_eq_some_iff.1 hb).2;rw[List.drop_eq_getElem_cons ay,bN,cA]at hd;obtain⟨b2,az,h2⟩:=ek (r:=aw n b.p++aT (aw n) (C.drop (k+1))) (post:=[]) (by rw[hd,List.append_nil]);rw[List.append_nil]at h2;have bi:aw n b.p≠[]:=fun e=>by have:=de n b.p;rw[e]at this;simp at this
  exact⟨by rw[List.getElem?_eq_getElem b2,az],h2,nW h2,by have:=qJ h2 bi;omega,fun W hW=>iS n b.p all _ (p+1) v W S (fun g hg=>Nat.lt_of_lt_of_le (hS g hg) hW.size) (bp b (List.mem_of_getElem? hb)) hl h2 (hv.on hS hW)⟩);have HV:=aa hv;obtain⟨ao,cap,rfl,hc,hm,-,P⟩:=hv;obtain⟨g,o,rfl,hg,P⟩:=P bf;have ax:=hS g hg;have az:=P.get 0 a0;rw[a9]at az;obtain⟨-,-,-,c3,-⟩:=az;dsimp only at c3;rw[Nat.zero_mul,Nat.add_zero]at c3;have b0:C.length≤1000:=by have:=fO (aw n) C;have:=congrArg List.length J;rw[List.length_cons]at this;omega
 have aL:=aa P;have HG:=aa hg;have a2:=aa hS;have H1:Hid (all.drop 1=aT (aw n) C):=aa (by rw[List.append_nil,Nat.zero_add]at h1;exact h1);obtain⟨K,hK⟩:∃K,C.length=K:=⟨_,rfl⟩;rw[hK]at c3 b0;have HK:=aa hK;obtain⟨M,hM⟩:∃M,all.length=M:=⟨_,rfl⟩;rw[hM]at a0 hl hc HB⊢;have HM:=aa hM;clear hi br bs bv J bf h0 h1 a9 P hK hM bp hg;go_enter Tryz.func292,Tryz.ntmps292;go_wp2_with fail;go_loopw[3,4,5](fun cv av kv wr=>∃(k p:Nat)(I:List (BV n)),k≤K∧kv=.int .i64 k∧av=.int .i64 p∧Gx n S w wr all C cv k p I)(fun _ _ kv _=>K-(intOf kv).toNat);case atStart=>exact⟨0,1,[],Nat.zero_le _,rfl,rfl,⟨rfl,H1.out,dr _ _ _ _ _ (Nat.le_refl _) (bV _ _ _ rfl),(fun x hx=>by cases hx),ae _ _,by rw[HM.out];exact a0⟩⟩
 case round=>
  obtain⟨k,p,I,hk,rfl,rfl,hR⟩:=hrel;have HR:=aa hR;have bx:=hR.cB.size;have bm:=hR.le;rw[HM.out]at bm;have R:I.length=k:=by have:=congrArg List.length hR.done;rw[List.length_map,List.length_take,HK.out]at this;omega
  obtain⟨cp,cc,a5⟩:=ak hR.own;rw[R]at a5;subst a5;have ah:=aa R;have d3:=(hR.cB.cell (p:=⟨g,o+3,none⟩) ax).trans c3;clear R;by_cases ay:k<K;·
   obtain⟨d,aR⟩:∃d,C[k]?=some d:=⟨C[k]'(by rw[HK.out];exact ay),List.getElem?_eq_getElem _⟩;obtain⟨a8,a6,a7,aq,ad⟩:=HB.out k p d aR hR.rest;obtain⟨bl,bk⟩:=List.getElem?_eq_some_iff.1 a8;have HC:=aa ad;have al:=aa a7;have bb:=(aL.out.get p bl).carry ax hR.cB;rw[bk]at bb;have bn:=de n d.p;have an:Hid (∀W,Below w.heap.size w W→fL W S (.slice (some ⟨g,o+(p+1)*5,none⟩) (aw n d.p).length (cap-(p+1))) (aw n d.p)):=aa (fun W hW=>by refine⟨_,_,rfl,by omega,by omega,by omega,fun _=>⟨g,_,rfl,HG.out,?_⟩⟩;have:=aL.out.drop (p+1);rw[a6]at this;exact(zN this).block (hW.block g ax));obtain⟨dl,ds,dp⟩:=d;obtain⟨c0,c1,c2,a3,c4⟩:=bb;dsimp only at c0 c1 c2 a3 c4 bn aq;have bL:Hid (I.map BV.b++[⟨dl,ds,dp⟩]=C.take (k+1)):=aa (by rw[hR.done,List.take_add_one,aR];rfl);obtain⟨N,hN⟩:∃N,(aw n dp).length=N:=⟨_,rfl⟩;obtain⟨T,hT⟩:∃T,p+1+N=T:=⟨_,rfl⟩;dsimp only at an HC al;rw[hN]at an HC al bn aq;rw[hT]at HC al aq;have b3:p+1<cap:=by omega
   have ca:p<M:=by omega
   clear ad aR bl bk a6 a7 hR a8;go_wp2_with(go_at_call 233;refine(HC.out _ HR.out.cB).mono ?_;rintro e w2⟨rfl,U⟩;have ac:=aa U;have af:g<wr.heap.size:=Nat.lt_of_lt_of_le ax bx;have x0:=(U.cell (p:=⟨g,o+p*5,none⟩) af).trans c0;have x1:=(U.cell (p:=⟨g,o+p*5+1,none⟩) af).trans c1;have x2:=(U.cell (p:=⟨g,o+p*5+2,none⟩) af).trans c2;have x3:=(U.cell (p:=⟨g,o+p*5+3,none⟩) af).trans a3;have x4:=(U.cell (p:=⟨g,o+p*5+4,none⟩) af).trans c4;clear U);have a1:Hid (w2.drew.ownsRow w.heap.size 356 6 (.slice cp k cc) k (I.flatMap BV.oS)):=aa (by have:=aJ HR.out.own (ac.out.trans ((Below.refl _ _).drew.mono ac.out.size));rw[ah.out]at this;exact this);have b5:T-(p+1)=N:=by omega
   have ch:IntKind.i64.wrap ((p:Int)+1)=(p:Int)+1:=by rw[IntKind.wrap_i64];omega
   have cd:0≤(p:Int)+1:=by omega
   have cf:(p:Int)+1≤T:=by omega
   have cg:¬cap=p+1:=by omega
   have cb:p+1≤T:=by omega
   have b7:T≤cap:=by omega
   go_region_law(refine fY rfl (.tmp 20) (.tmp 31) 351 rfl w.heap.size 356 i0 (.agg #[.int .i64 0,.string ByteArray.empty,.string ByteArray.empty,.int .i64 0,.int .i64 0,.slice none 0 0]) 6 80 Tryz.underlying351 HI.out.1 HI.out.2.1 HI.out.2.2.1 HI.out.2.2.2 rfl (by decide) (.slice cp k cc) k (I.flatMap BV.oS) (by simp[Act.eval]) (aJ a1.out (ae _ _)) ⟨w2.heap.size,0,none⟩ 1 1 (BV.oS (n:=n) ⟨⟨dl,ds,dp⟩,.slice (some ⟨g,o+(p+1)*5,none⟩) N (cap-(p+1))⟩) (by simp[Act.eval]) rfl (fun j u hj=>fH _ _ _ _ (by simp) j u hj) (zS (an.out w (Below.refl _ _))) (by unfold maxLen;omega) (by omega) (by have:=ac.out.size;simp;omega) ?_;intro v4 w4 ab aM a4;have bB:=aa ab;have bz:Hid (aI w2.drew w4 (aj (.slice cp k cc))):=aa (by have:=(ag (ae w2.drew _)).trans (aB aM);rwa[List.nil_append]at this);obtain⟨p4,b4,rfl⟩:=ak ab;clear ab aM a4);all_goals
    go_wp2_with fail;go_roundw;case rel=>
     have b1:=(au a1.out).lo;have bM:Below w.heap.size w2.drew w4:=bz.out.below (by have:=ac.out.size;simp;omega) b1;have bR:Below w.heap.size w w2.drew:=(HR.out.cB.trans (ac.out.mono bx)).drew;have aN:Below w.heap.size w w4:=bR.trans bM;refine⟨k+1,T,I++[⟨⟨dl,ds,dp⟩,.slice (some ⟨g,o+(p+1)*5,none⟩) N (cap-(p+1))⟩],ay,by go_num,rfl,⟨by rw[List.map_append];exact bL.out,al.out,?_,fun x hx=>?_,aN,by rw[HM.out];exact aq⟩⟩;·rw[List.length_append,List.length_singleton,ah.out,List.flatMap_append];simpa using bB.out
     ·rw[List.mem_append]at hx;rcases hx with hx|hx;·exact(HR.out.Fm x hx).carry (fun b hb=>(aN.block b (a2.out b hb)).trans (HR.out.cB.block b (a2.out b hb)).symm) (fun _ h=>h)
      ·simp at hx;subst hx;exact an.out w4 aN
    case measure=>simp[intOf];omega
  ·obtain rfl:k=K:=by omega
   have HE:Hid (I.map BV.b=C):=aa (by rw[hR.done];exact List.take_of_length_le (by rw[HK.out];exact Nat.le_refl _));clear hR;go_wp2_with fail;go_ret;exact⟨_,I,rfl,HE.out,by rw[ah.out];have:=HR.out.own;rw[ah.out]at this;exact this,HR.out.Fm,HR.out.cB⟩
end
end Go.Proofs.YtdiiiijkhpdcbaaGreatDoor
