import Derived.Test.YtdiiiijkhpdcbaaGreatDoorRX16
namespace Go.Proofs.YtdiiiijkhpdcbaaGreatDoor
open Go.RowKit
set_option linter.unusedSimpArgs false
set_option linter.unusedVariables false
set_option maxHeartbeats 2000000
set_option maxRecDepth 100000
section
attribute [local go_sem ↓] Go.wp_at_zero Go.wp_at_succ
def fS(w:World)(S:Nat->Prop)(v:Value)(l:List Nd):Prop:=∃j cap,v=.slice j l.length cap/\l.length<=cap/\cap<=maxLen/\l.length<=2000/\(l≠[]->∃g o,j=some ⟨g,o,none⟩/\S g/\cV w g o l)
theorem cV.block{w w':World}{g:Nat}(j:w'.heap[g]?=w.heap[g]?):∀{l:List Nd}{o:Nat},cV w g o l->cV w' g o l|[],_,_=>trivial|_::_,_,⟨⟨C,I,J,P,R⟩,T⟩=>⟨⟨(World.cell?_of_block (a:=⟨g,_,none⟩) j).trans C,(World.cell?_of_block (a:=⟨g,_,none⟩) j).trans I,(World.cell?_of_block (a:=⟨g,_,none⟩) j).trans J,(World.cell?_of_block (a:=⟨g,_,none⟩) j).trans P,(World.cell?_of_block (a:=⟨g,_,none⟩) j).trans R⟩,cV.block j T⟩
theorem fS.carry{w w':World}{S S':Nat->Prop}{v:Value}{l:List Nd}(h:fS w S v l)(hb:∀g,S g->w'.heap[g]?=w.heap[g]?)(hS:∀g,S g->S' g):fS w' S' v l:=by obtain⟨I,cap,e,R,T,U,h4⟩:=h;refine⟨I,cap,e,R,T,U,fun j=>?_⟩;obtain⟨g,o,J,C,P⟩:=h4 j;exact⟨g,o,J,hS g C,P.block (hb g C)⟩
theorem fS.up{w:World}{S S':Nat->Prop}{v:Value}{l:List Nd}(h:fS w S v l)(hS:∀g,S g->S' g):fS w S' v l:=h.carry (fun _ _=>rfl) hS
theorem fS.on{w w':World}{S:Nat->Prop}{v:Value}{l:List Nd}(h:fS w S v l)(hS:∀g,S g->g<w.heap.size)(C:ZW w w'):fS w' S v l:=h.carry (fun g j=>C.block g (hS g j)) (fun _ j=>j)
theorem eo{all post r:List Nd}{j:Nat}{x:Nd}(h:all.drop j=x::r++post):∃C:j<all.length,all[j]=x/\all.drop (j+1)=r++post:=by
 have C:j<all.length:=by
  rcases Nat.lt_or_ge j all.length with l|l;·exact l
  ·rw[List.drop_of_length_le l]at h;cases h
 rw[List.drop_eq_getElem_cons C,List.cons_append]at h;injection h with h1 h2;exact⟨C,h1,h2⟩
theorem rr{all j post:List Nd}{l:Nat}(h:all.drop l=j++post)(C:j≠[]):l+j.length+post.length=all.length:=by have:=congrArg List.length h;rw[List.length_drop,List.length_append]at this;have:0<j.length:=List.length_pos_iff.2 C;omega
theorem oX{all j post:List Nd}{l:Nat}(h:all.drop l=j++post):all.drop (l+j.length)=post:=by rw[<-List.drop_drop,h,List.drop_left]
def ly(n:Nat):Prop:=∀(p:Pn n)(all post:List Nd)(pos:Nat)(v:Value)(w:World)(S:Nat->Prop),(∀g,S g->g<w.heap.size)->bJ n p->all.length<=1000->all.drop pos=aB n p++post->fS w S v all->Calls Tryz.prog 233 #[v,.int .i64 pos] w fun e w'=>e=.returned (.int .i64 ((pos+(aB n p).length:Nat):Int))/\ZW w w'
theorem pW(x:Option ByteArray)(all post:List Nd)(j:Nat)(v:Value)(w:World)(S:Nat->Prop)(hS:∀g,S g->g<w.heap.size)(hl:all.length<=1000)(h:all.drop j=bP x++post)(hv:fS w S v all):Calls Tryz.prog 233 #[v,.int .i64 j] w fun e w'=>e=.returned (.int .i64 ((j+(bP x).length:Nat):Int))/\ZW w w':=by
 obtain⟨R,hr,P,C⟩:∃R,bP x=[R]/\(R.op=0\/R.op=1)/\R.many=0:=by cases x with|none=>exact⟨_,rfl,.inl rfl,rfl⟩|some x=>exact⟨_,rfl,.inr rfl,rfl⟩
 rw[hr]at h|-;obtain⟨T,hn,-⟩:=eo h;obtain⟨ao,cap,rfl,hc,hm,-,l⟩:=hv;obtain⟨g,o,rfl,hg,l⟩:=l (fun e=>by rw[e]at T;simp at T);have I:=l.get j T;rw[hn]at I;obtain⟨op,name,J,many,sort⟩:=R;dsimp only at C P;subst C;obtain⟨c0,c1,c2,c3,c4⟩:=I;dsimp only at c0 c1 c2 c3 c4;have HL:Hid (([⟨op,name,J,0,sort⟩]:List Nd).length=1):=aa rfl;have e2:(op==2)=false:=by rcases P with rfl|rfl<;>rfl
 have ab:=hS g hg;obtain⟨M,U⟩:∃M,all.length=M:=⟨_,rfl⟩;rw[U]at T hl hc|-;clear l hn hr h hS U P;go_in;go_wp2;go_loopw[1,6](fun av kv wr=>av=.int .i64 ((j:Int)+1)/\kv=.int .i64 0/\wr=w.alloc (.cells #[.int .i64 op,.string name,.string J,.int .i64 0,.int .i64 sort] 156))(fun _ _ _=>0);case atStart=>exact⟨by go_num,rfl,rfl⟩
 case round=>obtain⟨rfl,rfl,rfl⟩:=hrel;go_wp2;go_ret;refine⟨?_,ag w _⟩;show Ending.returned (.int .i64 ((j:Int)+1))=.returned (.int .i64 ((j+1:Nat):Int));rw[Int.natCast_add];rfl
theorem vX(n:Nat)(ih:ly n)(x:ByteArray)(q:Pn n)(hq:bJ n q)(all post:List Nd)(j:Nat)(v:Value)(w:World)(S:Nat->Prop)(hS:∀g,S g->g<w.heap.size)(hl:all.length<=1000)(h:all.drop j=aB (n+1) (.loop x q)++post)(hv:fS w S v all):Calls Tryz.prog 233 #[v,.int .i64 j] w fun e w'=>e=.returned (.int .i64 ((j+(aB (n+1) (.loop x q)).length:Nat):Int))/\ZW w w':=by rw[cO]at h|-;obtain⟨P,hn,U⟩:=eo h;have I:Hid (∀W,ZW w W->ZC 233 #[v,.int .i64 ((j+1:Nat):Int)] W fun e w'=>e=.returned (.int .i64 ((j+1+(aB n q).length:Nat):Int))/\ZW W w'):=aa (fun W hW=>ih q all post (j+1) v W S (fun g T=>Nat.lt_of_lt_of_le (hS g T) hW.size) hq hl U (hv.on hS hW));obtain⟨ao,cap,rfl,hc,hm,-,l⟩:=hv;obtain⟨g,o,rfl,T,l⟩:=l (fun e=>by rw[e]at P;simp at P);have C:=l.get j P;rw[hn]at C;obtain⟨c0,c1,c2,c3,c4⟩:=C;dsimp only at c0 c1 c2 c3 c4;have ab:=hS g T;obtain⟨M,hM⟩:∃M,all.length=M:=⟨_,rfl⟩;rw[hM]at P hl hc I|-;clear l hn h U hS hM ih;go_in;go_wp2_with(go_at_call 233;refine(I.out _ (ag _ _)).mono ?_;rintro e w1⟨rfl,J⟩;have R:Hid (ZW w w1):=aa ((ag w _).trans (J.mono (by simp)));clear J);go_ret;refine⟨?_,R.out⟩;show Ending.returned (.int .i64 ((j+1+(aB n q).length:Nat):Int))=.returned (.int .i64 ((j+((aB n q).length+1):Nat):Int));rw[show j+1+(aB n q).length=j+((aB n q).length+1)by omega]
theorem vY(n:Nat)(ih:ly n)(t:Tk)(l:List (Br (Pn n)))(ht:t.op≠2)(aq:∀b∈l,bJ n b.p)(all post:List Nd)(j:Nat)(v:Value)(w:World)(S:Nat->Prop)(hS:∀g,S g->g<w.heap.size)(hl:all.length<=1000)(h:all.drop j=aB (n+1) (.cU t l)++post)(hv:fS w S v all):Calls Tryz.prog 233 #[v,.int .i64 j] w fun e w'=>e=.returned (.int .i64 ((j+(aB (n+1) (.cU t l)).length:Nat):Int))/\ZW w w':=by
 rw[bI]at h|-;obtain⟨hp,hn,h1⟩:=eo h;have ad:Hid (∀(k p:Nat)(b:Br (Pn n)),l[k]?=some b->all.drop p=aY (aB n) (l.drop k)++post->(all.drop (p+1+(aB n b.p).length)=aY (aB n) (l.drop (k+1))++post/\p+1<all.length)/\∀W,ZW w W->ZC 233 #[v,.int .i64 ((p:Int)+1)] W fun e w'=>e=.returned (.int .i64 ((p+1+(aB n b.p).length:Nat):Int))/\ZW W w'):=aa (fun k p b R hd=>by
  have P:=(List.getElem?_eq_some_iff.1 R).1;have ay:l[k]=b:=(List.getElem?_eq_some_iff.1 R).2;rw[List.drop_eq_getElem_cons P,ay,cA,List.cons_append,List.append_assoc]at hd;obtain⟨aM,a2,h2⟩:=eo (r:=aB n b.p++aY (aB n) (l.drop (k+1))) (post:=post) (by rw[hd,List.cons_append,List.append_assoc]);rw[List.append_assoc]at h2;refine⟨⟨oX h2,?_⟩,fun W hW=>?_⟩;·
   rcases Nat.lt_or_ge (p+1) all.length with h'|h';·exact h'
   ·rw[List.drop_of_length_le h']at h2;have:=congrArg List.length h2;rw[List.length_append]at this;have:=db n b.p;simp at*;omega
  ·exact ih b.p all _ (p+1) v W S (fun g hg=>Nat.lt_of_lt_of_le (hS g hg) hW.size) (aq b (List.mem_of_getElem? R)) hl h2 (hv.on hS hW));obtain⟨ao,cap,rfl,hc,hm,-,C⟩:=hv;obtain⟨g,o,rfl,hg,C⟩:=C (fun e=>by rw[e]at hp;simp at hp);have J:=C.get j hp;rw[hn]at J;obtain⟨op,a,b⟩:=t;dsimp only at ht;obtain⟨c0,c1,c2,c3,c4⟩:=J;dsimp only at c0 c1 c2 c3 c4;have a1:=hS g hg;have e2:(op==2)=false:=by simpa[ZW]using ht
 have az:l.length<=1000:=by have ab:=congrArg List.length h1;rw[List.length_drop,List.length_append]at ab;have:=fV (aB n) l;omega
 have HH:=aa h1;have U:Hid (∀p,all.drop p=aY (aB n) (l.drop l.length)++post->p<=all.length->p=j+((aY (aB n) l).length+1)):=aa (fun p hd aR=>by have ab:=congrArg List.length h1;have ah:=congrArg List.length hd;rw[List.drop_length]at ah;simp only[List.length_drop,List.length_append,aY,List.flatMap_nil,List.length_nil]at ab ah;have:j<all.length:=hp;unfold aY;omega);obtain⟨K,hK⟩:∃K,l.length=K:=⟨_,rfl⟩;obtain⟨M,hM⟩:∃M,all.length=M:=⟨_,rfl⟩;rw[hM]at hp hl hc ad U|-;rw[hK]at c3 az U;have HK:=aa hK;have HM:=aa hM;clear C hn h h1 hS hM hK ih aq ht;go_in;go_wp2;go_loopw[1,6](fun av kv wr=>∃k p:Nat,k<=K/\p<=M/\av=.int .i64 p/\kv=.int .i64 k/\all.drop p=aY (aB n) (l.drop k)++post/\Below (w.heap.size+1) (w.alloc (.cells #[.int .i64 op,.string a,.string b,.int .i64 (K:Int),.int .i64 0] 156)) wr)(fun _ kv _=>K-(intOf kv).toNat);case atStart=>exact⟨0,j+1,Nat.zero_le _,hp,by go_num,rfl,HH.out,Below.refl _ _⟩
 case round=>
  obtain⟨k,p,hk,aN,rfl,rfl,hd,R⟩:=hrel;have HD:=aa hd;have HB:=aa R;have m3:wr.cell? ⟨w.heap.size,3,none⟩=some (.int .i64 (K:Int)):=(R.cell (p:=⟨w.heap.size,3,none⟩) (by simp)).trans (by simp);have T:Hid (ZW w wr):=aa ((ag w _).trans (R.mono (by omega)));have a3:=T.out.size;clear hd R;by_cases P:k<K;·
   obtain⟨d,ac⟩:∃d,l[k]?=some d:=⟨l[k]'(by rw[HK.out];exact P),List.getElem?_eq_getElem _⟩;obtain⟨⟨an,aM⟩,I⟩:=ad.out k p d ac HD.out;have HC:=aa I;have af:=aa an;have aL:p+1+(aB n d.p).length<=M:=by have:=congrArg List.length af.out;have h0:=congrArg List.length HD.out;rw[List.length_drop]at this;rw[List.length_drop]at h0;have a0:=gQ ac;simp only[List.length_append,HM.out]at this h0;omega
   clear I an ac;go_wp2_with(go_at_call 233;refine(HC.out _ T.out).mono ?_;rintro e w1⟨rfl,al⟩;have ax:=aa al;clear al);go_roundw;case rel=>exact⟨k+1,p+1+(aB n d.p).length,P,aL,rfl,by go_num,af.out,HB.out.trans (ax.out.mono (by have:=HB.out.size;simpa[ZW]using this))⟩
   case measure=>simp[intOf];omega
  ·obtain rfl:k=K:=by omega
   have HE:=aa (U.out p HD.out aN);go_wp2;go_ret;refine⟨?_,T.out⟩;rw[<-HE.out];rfl
theorem iZ:∀n:Nat,ly n:=by intro n;induction n with|zero=>intro p all post pos v w S hS _ hl h j;exact pW p all post pos v w S hS hl h j|succ n ih=>intro p;refine Pn.cases (P:=fun p=>∀(all post:List Nd)(pos:Nat)(v:Value)(w:World)(S:Nat->Prop),(∀g,S g->g<w.heap.size)->bJ (n+1) p->all.length<=1000->all.drop pos=aB (n+1) p++post->fS w S v all->ZC 233 #[v,.int .i64 pos] w fun e w'=>e=.returned (.int .i64 ((pos+(aB (n+1) p).length:Nat):Int))/\ZW w w') (fun x all post pos v w S hS _ hl h j=>pW x all post pos v w S hS hl h j) (fun x q all post pos v w S hS I hl h j=>vX n ih x q I all post pos v w S hS hl h j) (fun t l all post pos v w S hS I hl h j=>?_) p;have C:tm t/\l≠[]/\∀b∈l,bJ n b.p:=I;refine vY n ih t l (fun e=>?_) C.2.2 all post pos v w S hS hl h j;rcases C.1 with J|⟨R|T,_⟩<;>omega
def BM(role:ByteArray)(n:Nd):Bool:=n.op==3&&(n.name.toList==role.toList||n.peer.toList==role.toList)
theorem qL(role:ByteArray)(l:List Nd):dh role l=l.any (BM role):=rfl
theorem Aq{all j post:List Nd}{C k:Nat}(h:all.drop C=j++post)(J:k<j.length):∃P:C+k<all.length,all[C+k]=j[k]:=by have I:=congrArg (fun l=>l[k]?) h;rw[List.getElem?_drop,List.getElem?_append_left J,List.getElem?_eq_getElem J]at I;exact List.getElem?_eq_some_iff.1 I
theorem GX(role:ByteArray)(all l post:List Nd)(P:Nat)(v:Value)(w:World)(S:Nat->Prop)(hS:∀g,S g->g<w.heap.size)(hl:all.length<=1000)(an:P<=1000)(h:all.drop P=l++post)(hv:fS w S v all):Calls Tryz.prog 234 #[v,.int .i64 P,.int .i64 ((P+l.length:Nat):Int),.string role] w fun e w'=>e=.returned (.bool (dh role l))/\ZW w w':=by
 obtain⟨ao,cap,rfl,hc,hm,-,C⟩:=hv;have HR:=aa C;have HH:=aa h;have HS:=aa hS;have ah:l.length<=1000:=by have:=congrArg List.length h;rw[List.length_drop,List.length_append]at this;omega
 obtain⟨M,hM⟩:∃M,l.length=M:=⟨_,rfl⟩;obtain⟨L,hL⟩:∃L,all.length=L:=⟨_,rfl⟩;rw[hM]at ah|-;rw[hL]at hl hc|-;have HM:=aa hM;have HL:=aa hL;clear C h hS hM hL;go_in;go_wp2;go_loopw[9](fun i wr=>∃k:Nat,k<=M/\i=.int .i64 ((P+k:Nat):Int)/\(∀j(hj:j<l.length),j<k->BM role l[j]=false)/\ZW w wr)(fun i _=>P+M-(intOf i).toNat);case atStart=>exact⟨0,Nat.zero_le _,rfl,fun j _ h=>absurd h (by omega),Below.refl _ _⟩
 case round=>
  obtain⟨k,hk,rfl,ab,hb⟩:=hrel;have HA:=aa ab;have HB:=aa hb;clear ab hb;by_cases ad:k<M;·
   have af:k<l.length:=by rw[HM.out];exact ad
   obtain⟨U,ac⟩:=Aq HH.out af;obtain⟨g,o,rfl,hg,C⟩:=HR.out (fun e=>by rw[e]at U;simp at U);have J:=(C.get (P+k) U).carry (HS.out g hg) HB.out;rw[ac]at J;obtain⟨x,hx⟩:∃x,l[k]=x:=⟨_,rfl⟩;rw[hx]at J;have HX:=aa hx;obtain⟨op,name,I,many,sort⟩:=x;obtain⟨c0,c1,c2,c3,c4⟩:=J;dsimp only at c0 c1 c2 c3 c4;rw[HL.out]at U;clear C ac hx;have T:Hid (BM role ⟨op,name,I,many,sort⟩=false->∀j(hj:j<l.length),j<k+1->BM role l[j]=false):=aa (fun h0 j hj al=>by
    by_cases e:j=k;·subst e;rw[HX.out];exact h0
    ·exact HA.out j hj (by omega));have R:Hid (BM role ⟨op,name,I,many,sort⟩=true->dh role l=true):=aa (fun h0=>by rw[qL,List.any_eq_true];exact⟨l[k],List.getElem_mem af,by rw[HX.out];exact h0⟩);have hI:BM role ⟨op,name,I,many,sort⟩=((op==3)&&(name.toList==role.toList||I.toList==role.toList)):=rfl;rw[hI]at T R;obtain⟨q3,h3⟩:∃q,(op==3)=q:=⟨_,rfl⟩;obtain⟨q1,h1⟩:∃q,(name.toList==role.toList)=q:=⟨_,rfl⟩;obtain⟨q2,h2⟩:∃q,(I.toList==role.toList)=q:=⟨_,rfl⟩;rw[h3,h1,h2]at T R;clear hI;cases q3;·
    go_wp2;go_roundw;case rel=>exact⟨k+1,ad,by go_num,T.out rfl,HB.out⟩
    case measure=>simp[intOf];omega
   ·cases q1;·
     cases q2;·
      go_wp2;go_roundw;case rel=>exact⟨k+1,ad,by go_num,T.out rfl,HB.out⟩
      case measure=>simp[intOf];omega
     ·go_wp2;go_ret;exact⟨aD (R.out rfl),HB.out⟩
    ·go_wp2;go_ret;exact⟨aD (R.out (by cases q2<;>rfl)),HB.out⟩
  ·obtain rfl:k=M:=by omega
   have HF:Hid (dh role l=false):=aa (by rw[qL,List.any_eq_false];intro x hx;obtain⟨j,hj,rfl⟩:=List.getElem_of_mem hx;rw[HA.out j hj (by rw[<-HM.out];exact hj)];simp);go_wp2;go_ret;exact⟨aD HF.out,HB.out⟩
theorem ES(x y:List Nd)(v u:Value)(w:World)(S:Nat->Prop)(hS:∀g,S g->g<w.heap.size)(hx:fS w S v x)(hy:fS w S u y):Calls Tryz.prog 291 #[v,u] w fun e w'=>e=.returned (.bool (fC x y))/\ZW w w':=by
 obtain⟨ax,cx,rfl,a1,a6,a3,aL⟩:=hx;obtain⟨ay,cy,rfl,a2,a7,a4,aM⟩:=hy;have aN:=aa aL;have aR:=aa aM;have HS:=aa hS;obtain⟨L,hL⟩:∃L,x.length=L:=⟨_,rfl⟩;obtain⟨M,hM⟩:∃M,y.length=M:=⟨_,rfl⟩;rw[hL]at a3 a1|-;rw[hM]at a4 a2|-;have HL:=aa hL;have HM:=aa hM;clear aL aM hL hM hS;by_cases az:L=M;·
  subst az;go_in;go_wp2;go_loopw[5](fun i wr=>∃k:Nat,k<=L/\i=.int .i64 k/\(∀j(h1:j<x.length)(h2:j<y.length),j<k->oE x[j] y[j]=true)/\ZW w wr)(fun i _=>L-(intOf i).toNat);case atStart=>exact⟨0,Nat.zero_le _,rfl,fun j _ _ h=>absurd h (by omega),Below.refl _ _⟩
  case round=>
   obtain⟨k,hk,rfl,R,C⟩:=hrel;have HA:=aa R;have l:=aa C;clear R;by_cases ab:k<L;·
    have J:k<x.length:=by rw[HL.out];exact ab
    have P:k<y.length:=by rw[HM.out];exact ab
    obtain⟨b,o,rfl,a0,T⟩:=aN.out (by intro h;rw[h]at J;simp at J);obtain⟨b',o',rfl,an,I⟩:=aR.out (by intro h;rw[h]at P;simp at P);have aq:=(T.get k J).carry (HS.out b a0) C;have av:=(I.get k P).carry (HS.out b' an) C;obtain⟨U,ac⟩:∃U,x[k]=U:=⟨_,rfl⟩;obtain⟨y1,ad⟩:∃y1,y[k]=y1:=⟨_,rfl⟩;rw[ac]at aq;rw[ad]at av;obtain⟨c0,c1,c2,c3,c4⟩:=aq;obtain⟨d0,d1,d2,d3,d4⟩:=av;obtain⟨r,hr⟩:∃r,oE U y1=r:=⟨_,rfl⟩;have heq:∀W,(Op.equalIn 10000 156 (.agg #[.int .i64 U.op,.string U.name,.string U.peer,.int .i64 U.many,.int .i64 U.sort]) (.agg #[.int .i64 y1.op,.string y1.name,.string y1.peer,.int .i64 y1.many,.int .i64 y1.sort])).run Tryz.prog W=.ok r W:=fun W=>by rw[xt,hr]
    have af:=aa hr;have ah:=aa ac;have al:=aa ad;clear T I hr ac ad C;cases r;·go_wp2;go_region;go_wp2;all_goals go_ret;exact⟨aD (sJ J P (by rw[ah.out,al.out];exact af.out)),by first|exact l.out|exact l.out.drew⟩
    ·go_wp2;go_region;go_wp2;all_goals
      go_roundw;case rel=>
       refine⟨k+1,ab,by go_num,fun j h1 h2 a5=>?_,by first|exact l.out|exact l.out.drew⟩;by_cases ao:j=k;·subst ao;rw[ah.out,al.out];exact af.out
       ·exact HA.out j h1 h2 (by omega)
      case measure=>simp[intOf];omega
   ·go_wp2;go_ret;exact⟨aD (pH (by rw[HL.out,HM.out]) (fun j h1 h2=>HA.out j h1 h2 (by rw[HL.out]at h1;omega))),l.out⟩
 ·have HF:Hid (fC x y=false):=aa (pG (by rw[HL.out,HM.out];exact az));have hq:((L:Int)==(M:Int))=false:=beq_eq_false_iff_ne.2 (by omega);go_in;go_wp2;go_ret;exact⟨aD HF.out,Below.refl _ _⟩
structure It(w wr:World)(mid:List Nd)(nv:Value)(k:Nat)(ns:List ByteArray):Prop where
 same:bY ns (mid.drop k)=bY [] mid
 own:wr.ownsRow w.heap.size 9 1 nv ns.length (ns.map Value.string)
 len:ns.length<=k
 bel:ZW w wr
theorem EM(all l post:List Nd)(I:Nat)(v:Value)(w:World)(S:Nat->Prop)(hS:∀g,S g->g<w.heap.size)(hl:all.length<=1000)(a7:I<=1000)(h:all.drop I=l++post)(hv:fS w S v all):Calls Tryz.prog 235 #[v,.int .i64 I,.int .i64 ((I+l.length:Nat):Int)] w fun e w'=>e=.returned (.bool (bY [] l))/\ZW w w':=by
 obtain⟨i0,hi,aL,aM,aN⟩:=info_parts Tryz.rP;have HI:=aa (And.intro hi (And.intro aL (And.intro aM aN)));obtain⟨ao,cap,rfl,hc,hm,-,J⟩:=hv;have HR:=aa J;have HH:=aa h;have HS:=aa hS;have a1:l.length<=1000:=by have:=congrArg List.length h;rw[List.length_drop,List.length_append]at this;omega
 obtain⟨M,hM⟩:∃M,l.length=M:=⟨_,rfl⟩;obtain⟨L,hL⟩:∃L,all.length=L:=⟨_,rfl⟩;rw[hM]at a1|-;obtain⟨T,hT⟩:∃T,I+M=T:=⟨_,rfl⟩;rw[hT];rw[hL]at hl hc|-;have HM:=aa hM;have HL:=aa hL;clear J h hS hM hL hi aL aM aN;go_in;go_wp2;go_loopw[7,8](fun nv i wr=>∃(k:Nat)(ns:List ByteArray),k<=M/\i=.int .i64 ((I+k:Nat):Int)/\It w wr l nv k ns)(fun _ i _=>I+M-(intOf i).toNat);case atStart=>exact⟨0,[],Nat.zero_le _,rfl,⟨rfl,dH _ _ _ _ _ (Nat.le_refl _) (bZ _ _ _ rfl),Nat.le_refl _,ag _ _⟩⟩
 case round=>
  obtain⟨k,ns,hk,rfl,hR⟩:=hrel;have U:=aa hR;have aR:=hR.bel.size;have a2:=hR.len;obtain⟨np,nc,az⟩:=ar hR.own;obtain⟨Q,hQ⟩:∃Q,ns.length=Q:=⟨_,rfl⟩;rw[hQ]at az a2;have HQ:=aa hQ;subst az;by_cases ac:k<M;·
   have ay:k<l.length:=by rw[HM.out];exact ac
   obtain⟨ad,af⟩:=Aq HH.out ay;obtain⟨g,o,rfl,hg,J⟩:=HR.out (fun e=>by rw[e]at ad;simp at ad);have ax:=HS.out g hg;have P:=(J.get (I+k) ad).carry ax hR.bel;rw[af]at P;have av:Hid (∀x,l[k]=x->bY [] l=if x.op==2 then bY (ns++[x.name]) (l.drop (k+1))else if x.op==1&&!cw ns x.name then false else bY ns (l.drop (k+1))):=aa (fun x hx=>by rw[<-hR.same,List.drop_eq_getElem_cons ay,hx,bY]);obtain⟨x,hx⟩:∃x,l[k]=x:=⟨_,rfl⟩;rw[hx]at P;have ab:=aa (av.out x hx);have C:Hid (wr.ownsRow w.heap.size 9 1 (.slice np Q nc) Q (ns.map Value.string)):=aa (by have:=hR.own;rw[HQ.out]at this;exact this);obtain⟨op,name,a4,many,sort⟩:=x;obtain⟨c0,c1,c2,c3,c4⟩:=P;dsimp only at c0 c1 c2 c3 c4;rw[HL.out]at ad;have a6:g<wr.heap.size:=Nat.lt_of_lt_of_le ax aR;clear J af hx hR hQ av;by_cases h2:op=2;·
    subst h2;go_wp2_with(at_builtin;refine wpList_append_own _ rfl (.tmp 22) (.tmp 28) 42 rfl w.heap.size 9 i0 (.string .empty) 1 16 Tryz.underlying42 HI.out.1 HI.out.2.1 HI.out.2.2.1 HI.out.2.2.2 rfl (by decide) (.slice np Q nc) Q (ns.map Value.string) rfl (aT C.out (ag wr _)) ⟨wr.heap.size,0,none⟩ 1 1 [.string name] rfl rfl (fun j u hj=>fO _ _ _ _ (by simp) j u hj) (by intro u hu;simp at hu;subst hu;rfl) (by unfold maxLen;omega) (by omega) (by simp;omega) ?_;intro v4 w4 R ah _;have a0:=aa R;have al:Hid (aH wr w4 (ae (.slice np Q nc))):=aa (by have:=(aj (ag wr _)).trans (aE ah);rwa[List.nil_append]at this);have d0:w4.cell? ⟨g,o+(I+k)*5,none⟩=some (.int .i64 2):=al.out.ek c0 (fun hm=>absurd ((ak C.out).lo _ hm) (by omega));obtain⟨p4,a5,rfl⟩:=ar R;clear R ah);go_roundw;case rel=>
     refine⟨k+1,ns++[name],ac,by go_num,⟨?_,?_,by rw[List.length_append,HQ.out];simp;omega,U.out.bel.trans (al.out.below aR (ak C.out).lo)⟩⟩;·rw[ab.out];rfl
     ·rw[List.length_append,List.length_singleton,HQ.out,List.map_append];exact a0.out
    case measure=>simp[intOf];omega
   ·have e2:(op==2)=false:=by simpa[ZW]using h2
    by_cases h1:op=1;·
     subst h1;obtain⟨q,hq⟩:∃q,cw ns name=q:=⟨_,rfl⟩;have aq:=aa hq;have an:Hid (∀W,ZW wr W->ZC 131 #[.slice np Q nc,.string name] W fun e w'=>e=.returned (.bool q)/\w'=W):=aa (fun W hW=>by have:=fD ns name (.slice np Q nc) W (eA (base:=w.heap.size) (e:=9) (by rw[HQ.out];exact aT C.out hW) (by rw[HQ.out];omega));rw[hq]at this;exact this);clear hq;cases q;·go_wp2_with(go_at_call 131;refine(an.out _ (Below.refl _ _)).mono ?_;rintro e w'⟨rfl,a3⟩;subst w');go_ret;refine⟨aD ?_,U.out.bel⟩;rw[ab.out];simp[aq.out]
     ·go_wp2_with(go_at_call 131;refine(an.out _ (Below.refl _ _)).mono ?_;rintro e w'⟨rfl,a3⟩;subst w');go_roundw;case rel=>refine⟨k+1,ns,ac,by go_num,⟨?_,by rw[HQ.out];exact C.out,by rw[HQ.out];omega,U.out.bel⟩⟩;rw[ab.out];simp[aq.out]
      case measure=>simp[intOf];omega
    ·have e1:(op==1)=false:=by simpa[ZW]using h1
     go_wp2;go_roundw;case rel=>refine⟨k+1,ns,ac,by go_num,⟨?_,by rw[HQ.out];exact C.out,by rw[HQ.out];omega,U.out.bel⟩⟩;rw[ab.out];simp[e1,e2]
     case measure=>simp[intOf];omega
  ·have HT:Hid (bY [] l=true):=aa (by rw[<-U.out.same,List.drop_of_length_le (by rw[HM.out];omega),bY]);go_wp2;go_ret;exact⟨aD HT.out,U.out.bel⟩
section
variable {n : Nat}
def BV.pJ(x:BV n):List Value:=[.int .i64 4,.string x.b.l,.string .empty,.int .i64 0,.int .i64 x.b.s,x.u]
theorem BV.vt(x:BV n):x.pJ.length=6:=rfl
theorem AO{w:World}{S:Nat->Prop}{x:BV n}{r:List Nd}(h:fS w S x.u r):∀u∈x.pJ,u.oneCell'=true:=by
 intro u hu;obtain⟨j,cap,e,-⟩:=h;simp[BV.pJ]at hu;rcases hu with rfl|rfl|rfl|rfl|rfl|rfl;·rfl
 ·rfl
 ·rfl
 ·rfl
 ·rfl
 ·rw[e];rfl
structure ye(S:Nat->Prop)(a:Nat)(w:World)(base:Nat)(v:Value)(l:List (BV n)):Prop where
 own:w.ownsRow base 356 6 v l.length (l.flatMap BV.pJ)
 GJ:∀x∈l,fS w (s9 S a w.heap.size v) x.u (aB n x.b.p)
 low:∀g,S g->g<a
 ab:a<=base
 qw:a<=w.heap.size
variable {S : Nat -> Prop} {a : Nat}
theorem ye.aA{w w':World}{base:Nat}{v:Value}{l:List (BV n)}(h:ye S a w base v l)(j:ZW w w'):ye S a w' base v l:=⟨aT h.own j,fun x I=>(h.GJ x I).carry (fun g C=>j.block g (eG h.low h.qw C.1)) (fun _ C=>⟨gr j.size C.1,C.2⟩),h.low,h.ab,Nat.le_trans h.qw j.size⟩
theorem ye.get{w:World}{base g c:Nat}{l:List (BV n)}(h:ye S a w base (.slice (some ⟨g,0,none⟩) l.length c) l){i:Nat}{x:BV n}(hi:l[i]?=some x)(j:Nat)(J:j<6)(y:Value)(P:x.pJ[j]?=some y):w.cell? ⟨g,i*6+j,none⟩=some y:=by obtain⟨C,I⟩:=List.getElem?_eq_some_iff.1 hi;exact cQ h.own rfl (i*6+j) y ((dT BV.pJ 6 BV.vt l i C j J).trans (by rw[I];exact P))
theorem De{w P:World}{base:Nat}{v R:Value}{l:List (BV n)}(h:ye S a w base v l)(x:BV n)(hx:fS w (s9 S a w.heap.size v) x.u (aB n x.b.p))(o:Obj)(I:P.ownsRow base 356 6 R (l.length+1) (l.flatMap BV.pJ++x.pJ))(C:(w.alloc o).grownBy P v.ownBlock)(T:R.ownBlock=v.ownBlock\/R.ownBlock=some (w.alloc o).heap.size):ye S a P base R (l++[x])/\aH w P (ae v)/\∀b∈ae R,b∈ae v\/w.heap.size<=b:=by
 obtain⟨p,c,hv⟩:=ar h.own;obtain⟨p',c',U⟩:=ar I;have hA:aH w P (ae v):=by rw[hv]at C|-;have:=(aj (ag w o)).trans (aE C);rwa[List.nil_append]at this
 have key:∀{r:List Nd}{u:Value},fS w (s9 S a w.heap.size v) u r->fS P (s9 S a P.heap.size R) u r:=fun hq=>hq.carry (fun g C=>hA.block g (eG h.low h.qw C.1) C.2) (fun g C=>⟨gr hA.size C.1,fun hm=>by
  have j:=(aS U).2 hm;rcases T with e|e;·rw[e]at j;exact C.2 ((aS hv).1 j)
  ·rw[e]at j;have:=eG h.low h.qw C.1;simp at j;omega⟩);refine⟨⟨?_,fun y J=>?_,h.low,h.ab,Nat.le_trans h.qw hA.size⟩,hA,fun b hm=>?_⟩;·rw[List.length_append,List.length_singleton,List.flatMap_append];simpa[ZW]using I
 ·rw[List.mem_append]at J;rcases J with J|J;·exact key (h.GJ y J)
  ·simp at J;subst J;exact key hx
 ·have j:=(aS U).2 hm;rcases T with e|e;·rw[e]at j;exact .inl ((aS hv).1 j)
  ·rw[e]at j;simp at j;exact .inr (by omega)
theorem AP:∀(l:List (BV n))(i:Nat)(x:BV n)(u:Value),l[i]?=some x->(l.flatMap BV.pJ).set (i*6+5) u=(l.set i ⟨x.b,u⟩).flatMap BV.pJ
 |[],i,x,u,h=>by simp at h|a::l,0,x,u,h=>by simp at h;subst h;rfl|a::l,i+1,x,u,h=>by
  rw[List.getElem?_cons_succ]at h;rw[List.set_cons_succ,List.flatMap_cons,List.flatMap_cons,<-AP l i x u h];have e:(i+1)*6+5=a.pJ.length+(i*6+5):=by rw[BV.vt];omega
  rw[e,List.set_append_right _ _ (by omega),Nat.add_sub_cancel_left]
theorem FU{w:World}{base g cap:Nat}{l:List (BV n)}(h:ye S a w base (.slice (some ⟨g,0,none⟩) l.length cap) l){i:Nat}{x:BV n}(hi:l[i]?=some x)(q:Pn n)(u:Value)(hu:fS w (s9 S a w.heap.size (.slice (some ⟨g,0,none⟩) l.length cap)) u (aB n q)):ye S a (w.setCell ⟨g,i*6+5,none⟩ u) base (.slice (some ⟨g,0,none⟩) l.length cap) (l.set i ⟨⟨x.b.l,x.b.s,q⟩,u⟩):=by
 have I:=aG w g (i*6+5) u;have key:∀{r:List Nd}{J:Value},fS w (s9 S a w.heap.size (.slice (some ⟨g,0,none⟩) l.length cap)) J r->fS (w.setCell ⟨g,i*6+5,none⟩ u) (s9 S a (w.setCell ⟨g,i*6+5,none⟩ u).heap.size (.slice (some ⟨g,0,none⟩) l.length cap)) J r:=fun R=>R.carry (fun b j=>I.block b (eG h.low h.qw j.1) (fun P=>j.2 (by simpa[ZW,ae,aJ]using P))) (fun b j=>⟨gr I.size j.1,j.2⟩);refine⟨?_,fun y C=>?_,h.low,h.ab,Nat.le_trans h.qw I.size⟩;·
  have:=(World.ownsRow.stored h.own (i*6+5) u).1;rw[AP l i x u hi]at this;rw[List.length_set];have e:(l.set i ⟨x.b,u⟩).flatMap BV.pJ=(l.set i ⟨⟨x.b.l,x.b.s,q⟩,u⟩).flatMap BV.pJ:=by clear hi this hu h I key;induction l generalizing i with|nil=>rfl|cons a l ih=>cases i with|zero=>rfl|succ i=>rw[List.set_cons_succ,List.set_cons_succ,List.flatMap_cons,List.flatMap_cons,ih]
  rw[<-e];exact this
 ·rcases kn C with C|C;·exact key (h.GJ y C)
  ·subst C;exact key hu
end
theorem AJ{w:World}{g:Nat}:∀{l r:List Nd}{o:Nat},cV w g o (l++r)->cV w g o l|[],_,_,_=>trivial|_::_,_,_,h=>⟨h.1,AJ h.2⟩
theorem Tryz.DH:(Tryz.prog.info? 356).map (fun i=>(i.zero,i.size,i.bytes))=some (some (.agg #[.int .i64 0,.string .empty,.string .empty,.int .i64 0,.int .i64 0,.slice none 0 0]),6,80):=by kernel_rfl
structure Iv(n:Nat)(S:Nat->Prop)(w wr:World)(all:List Nd)(cs:List (Br (Pn n)))(cv:Value)(k p:Nat)(acc:List (BV n)):Prop where
 done:acc.map BV.b=cs.take k
 rest:all.drop p=aY (aB n) (cs.drop k)
 own:wr.ownsRow w.heap.size 356 6 cv acc.length (acc.flatMap BV.pJ)
 GJ:∀x∈acc,fS wr S x.u (aB n x.b.p)
 bel:ZW w wr
 le:p<=all.length
theorem AN(n:Nat)(t:Tk)(cs:List (Br (Pn n)))(bn:∀b∈cs,bJ n b.p)(all:List Nd)(I:all=aB (n+1) (.cU t cs))(hl:all.length<=1000)(v:Value)(w:World)(S:Nat->Prop)(hS:∀g,S g->g<w.heap.size)(hv:fS w S v all):Calls Tryz.prog 292 #[v] w fun e w'=>∃(v':Value)(L:List (BV n)),e=.returned v'/\L.map BV.b=cs/\w'.ownsRow w.heap.size 356 6 v' L.length (L.flatMap BV.pJ)/\(∀x∈L,fS w' S x.u (aB n x.b.p))/\ZW w w':=by
 obtain⟨i0,hi,bp,br,bs⟩:=info_parts Tryz.DH;have HI:=aa (And.intro hi (And.intro bp (And.intro br bs)));rw[bI]at I;have bb:all≠[]:=by rw[I];simp
 have h0:all.drop 0=⟨t.op,t.a,t.b,(cs.length:Int),0⟩::aY (aB n) cs++[]:=by rw[List.append_nil,List.drop_zero];exact I
 obtain⟨aR,a8,h1⟩:=eo h0;have HB:Hid (∀(k p:Nat)(b:Br (Pn n)),cs[k]?=some b->all.drop p=aY (aB n) (cs.drop k)->all[p]?=some ⟨4,b.l,de,0,b.s⟩/\all.drop (p+1)=aB n b.p++aY (aB n) (cs.drop (k+1))/\all.drop (p+1+(aB n b.p).length)=aY (aB n) (cs.drop (k+1))/\p+1+(aB n b.p).length<=all.length/\∀W,ZW w W->ZC 233 #[v,.int .i64 ((p:Int)+1)] W fun e w'=>e=.returned (.int .i64 ((p+1+(aB n b.p).length:Nat):Int))/\ZW W w'):=aa (fun k p b hb hd=>by
  have ax:=(List.getElem?_eq_some_iff.1 hb).1;have bM:cs[k]=b:=(List.getElem?_eq_some_iff.1 hb).2;rw[List.drop_eq_getElem_cons ax,bM,cA]at hd;obtain⟨b1,ay,h2⟩:=eo (r:=aB n b.p++aY (aB n) (cs.drop (k+1))) (post:=[]) (by rw[hd,List.append_nil]);rw[List.append_nil]at h2;have bf:aB n b.p≠[]:=fun e=>by have:=db n b.p;rw[e]at this;simp at this
  exact⟨by rw[List.getElem?_eq_getElem b1,ay],h2,oX h2,by have:=rr h2 bf;omega,fun W hW=>iZ n b.p all _ (p+1) v W S (fun g hg=>Nat.lt_of_lt_of_le (hS g hg) hW.size) (bn b (List.mem_of_getElem? hb)) hl h2 (hv.on hS hW)⟩);have HV:=aa hv;obtain⟨ao,cap,rfl,hc,hm,-,J⟩:=hv;obtain⟨g,o,rfl,hg,J⟩:=J bb;have aq:=hS g hg;have ay:=J.get 0 aR;rw[a8]at ay;obtain⟨-,-,-,c3,-⟩:=ay;dsimp only at c3;rw[Nat.zero_mul,Nat.add_zero]at c3;have bR:cs.length<=1000:=by have:=fV (aB n) cs;have:=congrArg List.length I;rw[List.length_cons]at this;omega
 have az:=aa J;have HG:=aa hg;have a1:=aa hS;have H1:Hid (all.drop 1=aY (aB n) cs):=aa (by rw[List.append_nil,Nat.zero_add]at h1;exact h1);obtain⟨K,hK⟩:∃K,cs.length=K:=⟨_,rfl⟩;rw[hK]at c3 bR;have HK:=aa hK;obtain⟨M,hM⟩:∃M,all.length=M:=⟨_,rfl⟩;rw[hM]at aR hl hc HB|-;have HM:=aa hM;clear hi bp br bs I bb h0 h1 a8 J hK hM bn hg;go_in;go_wp2;go_loopw[3,4,5](fun cv av kv wr=>∃(k p:Nat)(C:List (BV n)),k<=K/\kv=.int .i64 k/\av=.int .i64 p/\Iv n S w wr all cs cv k p C)(fun _ _ kv _=>K-(intOf kv).toNat);case atStart=>exact⟨0,1,[],Nat.zero_le _,rfl,rfl,⟨rfl,H1.out,dH _ _ _ _ _ (Nat.le_refl _) (bZ _ _ _ rfl),(fun x hx=>by cases hx),ag _ _,by rw[HM.out];exact aR⟩⟩
 case round=>
  obtain⟨k,p,C,hk,rfl,rfl,hR⟩:=hrel;have HR:=aa hR;have bv:=hR.bel.size;have bl:=hR.le;rw[HM.out]at bl;have P:C.length=k:=by have:=congrArg List.length hR.done;rw[List.length_map,List.length_take,HK.out]at this;omega
  obtain⟨cp,cc,a4⟩:=ar hR.own;rw[P]at a4;subst a4;have af:=aa P;have d3:=(hR.bel.cell (p:=⟨g,o+3,none⟩) aq).trans c3;clear P;by_cases ax:k<K;·
   obtain⟨d,aN⟩:∃d,cs[k]?=some d:=⟨cs[k]'(by rw[HK.out];exact ax),List.getElem?_eq_getElem _⟩;obtain⟨a7,a5,a6,an,ac⟩:=HB.out k p d aN hR.rest;obtain⟨bk,bi⟩:=List.getElem?_eq_some_iff.1 a7;have HC:=aa ac;have ah:=aa a6;have a9:=(az.out.get p bk).carry aq hR.bel;rw[bi]at a9;have bm:=db n d.p;have al:Hid (∀W,ZW w W->fS W S (.slice (some ⟨g,o+(p+1)*5,none⟩) (aB n d.p).length (cap-(p+1))) (aB n d.p)):=aa (fun W hW=>by refine⟨_,_,rfl,by omega,by omega,by omega,fun _=>⟨g,_,rfl,HG.out,?_⟩⟩;have:=az.out.drop (p+1);rw[a5]at this;exact(AJ this).block (hW.block g aq));obtain⟨dl,ds,dp⟩:=d;obtain⟨c0,c1,c2,a2,c4⟩:=a9;dsimp only at c0 c1 c2 a2 c4 bm an;have bB:Hid (C.map BV.b++[⟨dl,ds,dp⟩]=cs.take (k+1)):=aa (by rw[hR.done,List.take_add_one,aN];rfl);obtain⟨N,hN⟩:∃N,(aB n dp).length=N:=⟨_,rfl⟩;obtain⟨T,hT⟩:∃T,p+1+N=T:=⟨_,rfl⟩;dsimp only at al HC ah;rw[hN]at al HC ah bm an;rw[hT]at HC ah an;have b2:p+1<cap:=by omega
   have b7:p<M:=by omega
   clear ac aN bk bi a5 a6 hR a7;go_wp2_with(go_at_call 233;refine(HC.out _ HR.out.bel).mono ?_;rintro e w2⟨rfl,R⟩;have ab:=aa R;have ad:g<wr.heap.size:=Nat.lt_of_lt_of_le aq bv;have x0:=(R.cell (p:=⟨g,o+p*5,none⟩) ad).trans c0;have x1:=(R.cell (p:=⟨g,o+p*5+1,none⟩) ad).trans c1;have x2:=(R.cell (p:=⟨g,o+p*5+2,none⟩) ad).trans c2;have x3:=(R.cell (p:=⟨g,o+p*5+3,none⟩) ad).trans a2;have x4:=(R.cell (p:=⟨g,o+p*5+4,none⟩) ad).trans c4;clear R);have a0:Hid (w2.drew.ownsRow w.heap.size 356 6 (.slice cp k cc) k (C.flatMap BV.pJ)):=aa (by have:=aT HR.out.own (ab.out.trans ((Below.refl _ _).drew.mono ab.out.size));rw[af.out]at this;exact this);have b4:T-(p+1)=N:=by omega
   have cg:IntKind.i64.wrap ((p:Int)+1)=(p:Int)+1:=by rw[IntKind.wrap_i64];omega
   have cb:0<=(p:Int)+1:=by omega
   have cd:(p:Int)+1<=T:=by omega
   have cf:¬cap=p+1:=by omega
   have ca:p+1<=T:=by omega
   have b5:T<=cap:=by omega
   go_region_law(refine gh rfl (.tmp 20) (.tmp 31) 351 rfl w.heap.size 356 i0 (.agg #[.int .i64 0,.string .empty,.string .empty,.int .i64 0,.int .i64 0,.slice none 0 0]) 6 80 Tryz.underlying351 HI.out.1 HI.out.2.1 HI.out.2.2.1 HI.out.2.2.2 rfl (by decide) (.slice cp k cc) k (C.flatMap BV.pJ) (by simp[Act.eval]) (aT a0.out (ag _ _)) ⟨w2.heap.size,0,none⟩ 1 1 (BV.pJ (n:=n) ⟨⟨dl,ds,dp⟩,.slice (some ⟨g,o+(p+1)*5,none⟩) N (cap-(p+1))⟩) (by simp[Act.eval]) rfl (fun j u hj=>fO _ _ _ _ (by simp) j u hj) (AO (al.out w (Below.refl _ _))) (by unfold maxLen;omega) (by omega) (by have:=ab.out.size;simp;omega) ?_;intro v4 w4 U aL a3;have bz:=aa U;have bx:Hid (aH w2.drew w4 (ae (.slice cp k cc))):=aa (by have:=(aj (ag w2.drew _)).trans (aE aL);rwa[List.nil_append]at this);obtain⟨p4,b3,rfl⟩:=ar U;clear U aL a3);all_goals
    go_wp2;go_roundw;case rel=>
     have b0:=(ak a0.out).lo;have bL:Below w.heap.size w2.drew w4:=bx.out.below (by have:=ab.out.size;simp;omega) b0;have bN:ZW w w2.drew:=(HR.out.bel.trans (ab.out.mono bv)).drew;have aM:ZW w w4:=bN.trans bL;refine⟨k+1,T,C++[⟨⟨dl,ds,dp⟩,.slice (some ⟨g,o+(p+1)*5,none⟩) N (cap-(p+1))⟩],ax,by go_num,rfl,⟨by rw[List.map_append];exact bB.out,ah.out,?_,fun x hx=>?_,aM,by rw[HM.out];exact an⟩⟩;·rw[List.length_append,List.length_singleton,af.out,List.flatMap_append];simpa[ZW]using bz.out
     ·rw[List.mem_append]at hx;rcases hx with hx|hx;·exact(HR.out.GJ x hx).carry (fun b hb=>(aM.block b (a1.out b hb)).trans (HR.out.bel.block b (a1.out b hb)).symm) (fun _ h=>h)
      ·simp at hx;subst hx;exact al.out w4 aM
    case measure=>simp[intOf];omega
  ·obtain rfl:k=K:=by omega
   have HE:Hid (C.map BV.b=cs):=aa (by rw[hR.done];exact List.take_of_length_le (by rw[HK.out];exact Nat.le_refl _));clear hR;go_wp2;go_ret;exact⟨_,C,rfl,HE.out,by rw[af.out];have:=HR.out.own;rw[af.out]at this;exact this,HR.out.GJ,HR.out.bel⟩
end
