import Derived.Test.YtlbcnmcfljaijaaGreatQN17
import Derived.Maps.AppendAt
import Derived.Test.YtlbcnmcfljaijaaGreatQN11
import Derived.Test.YtlbcnmcfljaijaaGreatQN05
import Derived.Test.YtlbcnmcfljaijaaGreatQN15
import Derived.Test.YtlbcnmcfljaijaaGreatQN00
import Derived.Test.YtlbcnmcfljaijaaGreatQN04
import Derived.Test.YtlbcnmcfljaijaaGreatQN08
import Derived.Laws.OwnMore
import Derived.Laws.Concat
namespace Go.Proofs.YtlbcnmcfljaijaaGreat
open Go.RowKit
set_option linter.unusedSimpArgs false
set_option linter.unusedVariables false
set_option maxHeartbeats 1000000
set_option maxRecDepth 100000
theorem FQ(ls:List ByteArray)(t:ByteArray):(kL ls t).length≤ls.length+1:=by rw[kL];split<;>simp
theorem yg{ns:List Nd}{k:Nat}(h:k<ns.length):(ns.take (k+1)).foldl lL []=lL ((ns.take k).foldl lL []) ns[k]:=by rw[List.take_succ_eq_append_getElem h,List.foldl_append];rfl
theorem yZ{j:List ByteArray}{k:Nat}{acc:List ByteArray}(h:k<j.length):(j.take (k+1)).foldl kL acc=kL ((j.take k).foldl kL acc) j[k]:=by rw[List.take_succ_eq_append_getElem h,List.foldl_append];rfl
theorem qW(n:Nd):(dc n).length≤2:=by
 rw[dc];split;·simp
 ·split<;>simp
def Nd.fit(n:Nd):Prop:=n.name.size≤1048576∧n.peer.size≤1048576
theorem Nd.fit.ok{n:Nd}(h:n.fit):n.ok:=⟨Nat.le_trans h.1 (by unfold maxLen;omega),Nat.le_trans h.2 (by unfold maxLen;omega)⟩
theorem zV{n:Nd}(ok:n.fit):∀t∈dc n,t.size≤1048576:=by
 intro t j;rw[dc]at j;split at j;·
  simp at j;rcases j with h|h;·rw[h];exact ok.1
  ·rw[h];exact ok.2
 ·split at j;·simp at j;rw[j];exact ok.2
  ·cases j
theorem bB.grown{w w':World}{v:Value}{ls:List ByteArray}{row:Option Nat}(h:bB w v ls)(R:w.grownBy w' row)(j:∀b,v.ownBlock=some b→some b≠row):bB w' v ls:=by obtain⟨C,cap,rfl,I,J,P⟩:=h;refine⟨C,cap,rfl,I,J,fun T=>?_⟩;obtain⟨b,o,rfl,l⟩:=P T;exact⟨b,o,rfl,fun i hi=>(fb R ⟨b,_,none⟩ (World.block_lt_of_cell? w _ (l i hi)) (j b rfl)).trans (l i hi)⟩
def rO:Prop:=∀(s:ByteArray)(w:World),s.size≤1048576→Calls Tryz.prog 77 #[.string s] w fun e w'=>e=.returned (.string s)∧Below w.heap.size w w'
theorem BX(n:Nd)(w:World):Calls Tryz.prog 140 #[n.val] w fun e w'=>∃P,e=.returned P∧bB w' P (dc n)∧(∀b,P.ownBlock=some b→w.heap.size≤b)∧Below w.heap.size w w':=by
 obtain⟨op,name,j,many,sort⟩:=n;by_cases J:op=3;·subst J;have l:Hid (dc ⟨3,name,j,many,sort⟩=[name,j]):=aa rfl;unfold Nd.val;go_enter Tryz.func140,Tryz.ntmps140;go_wp2_with fail;go_ret;refine⟨_,rfl,?_,by intro b I;simp[Value.ownBlock]at I;omega,(aC _ _).trans ((aC _ _).mono (by simp))⟩;rw[l.out];refine⟨_,_,rfl,by simp,by simp,fun _=>⟨_,_,rfl,fun i hi=>?_⟩⟩;match i,hi with|0,_=>simp|1,_=>simp
 ·by_cases C:op=5∨op=6;·have l:Hid (dc ⟨op,name,j,many,sort⟩=[j]):=aa (by rcases C with h|h<;>subst h<;>rfl);unfold Nd.val;rcases C with h|h;all_goals subst h;clear J;go_enter Tryz.func140,Tryz.ntmps140;go_wp2_with fail;go_ret;refine⟨_,rfl,?_,by intro b I;simp[Value.ownBlock]at I;omega,(aC _ _).trans ((aC _ _).mono (by simp))⟩;rw[l.out];refine⟨_,_,rfl,by simp,by simp,fun _=>⟨_,_,rfl,fun i hi=>?_⟩⟩;match i,hi with|0,_=>simp
  ·have R:(op==3)=false:=beq_eq_false_iff_ne.2 J;have T:(op==5)=false:=beq_eq_false_iff_ne.2 (fun h=>C (.inl h));have U:(op==6)=false:=beq_eq_false_iff_ne.2 (fun h=>C (.inr h));have l:Hid (dc ⟨op,name,j,many,sort⟩=[]):=aa (by simp[dc,R,T,U]);clear J C;unfold Nd.val;go_enter Tryz.func140,Tryz.ntmps140;go_wp2_with fail;go_ret;refine⟨_,rfl,?_,by intro b I;simp[Value.ownBlock]at I,aC _ _⟩;rw[l.out];exact⟨_,_,rfl,by simp,by simp,fun h=>absurd rfl h⟩
theorem Gi(b9:rO)(ns:List Nd)(v:Value)(w:World)(ok:∀n∈ns,n.fit)(hv:bR w w.heap.size v ns)(hl:ns.length≤40):Calls Tryz.prog 99 #[v] w fun e w'=>∃v',e=.returned v'∧w'.ownsRow w.heap.size 9 1 v' (iS ns).length ((iS ns).map Value.string)∧Below w.heap.size w w':=by
 obtain⟨ao,cap,rfl,hc,hm,hr⟩:=hv;obtain⟨i0,hi,cl,cn,ba⟩:=info_parts Tryz.nr;have HI:=aa (And.intro hi (And.intro cl (And.intro cn ba)));have HR:=aa hr;have cs:=aa b9;have cx:=aa ok;clear hr b9 ok hi cl cn ba;go_enter Tryz.func99,Tryz.ntmps99;go_wp2_with fail;go_loopw[3,10](fun out i wr=>∃(k:Nat)(acc:List ByteArray),k≤ns.length∧i=.int .i64 k∧acc=(ns.take k).foldl lL []∧wr.ownsRow w.heap.size 9 1 out acc.length (acc.map Value.string)∧acc.length≤2*k∧Below w.heap.size w wr)(fun _ i _=>ns.length-(intOf i).toNat);case atStart=>exact⟨0,[],Nat.zero_le _,rfl,rfl,World.ownsRow_nil _ _ _ _,by simp,Below.refl _ _⟩
 case round=>
  obtain⟨k,acc,hk,rfl,bg,bn,d5,a0⟩:=hrel;have bb:=aa bg;have ax:=aa bn;have ah:=aa a0;have cg:=a0.size;clear bg a0 bn;by_cases af:k<ns.length;·
   obtain⟨b,o,rfl,df,bp⟩:=HR.out (by intro h;simp[h]at af);have U:=(bp.get k af).carry df ah.out;obtain⟨n1,a8⟩:∃n1,n1=ns[k]:=⟨_,rfl⟩;rw[←a8]at U;have HN:=aa (show(ns.take (k+1)).foldl lL []=lL acc n1 by rw[yg af,bb.out,a8]);have cv:=aa (show n1.fit by rw[a8];exact cx.out _ (List.getElem_mem af));clear a8 bp;have d6:b<wr.heap.size:=U.lt;obtain⟨c0,c1,c2,c3,c4⟩:=U;go_wp2_with(go_at_call 140;refine(BX n1 _).mono ?_;rintro e w1⟨v1,rfl,ch,cf,br⟩;have c5:=aa ch;obtain⟨ay,ab,rfl,b6,b7,b8⟩:=ch;have bx:Hid (Below w.heap.size w w1):=aa (ah.out.trans (((aC _ _).trans (br.mono (by simp))).mono cg));have b0:=aa (jh (ax.out.alloc _) br);have d8:=bx.out.size;have cu:=aa cf;clear br b8 cf);obtain⟨J,ag⟩:∃J,dc n1=J:=⟨_,rfl⟩;have c9:=aa ag;rw[ag]at b6 b7⊢;have d7:J.length≤2:=by rw[←ag];exact qW n1
   have c8:=aa (show∀t∈J,t.size≤1048576 by rw[←ag];exact zV cv.out);have b3:Hid (bB w1 (.slice ay J.length ab) J):=aa (by rw[←ag];exact c5.out);clear ag;go_loopw[3,17](fun out i w2=>∃(j:Nat)(C:List ByteArray),j≤J.length∧i=.int .i64 j∧C=(J.take j).foldl kL acc∧w2.ownsRow w.heap.size 9 1 out C.length (C.map Value.string)∧C.length≤2*k+j∧Below w.heap.size w w2∧bB w2 (.slice ay J.length ab) J∧(∀a,ay=some a→out.ownBlock≠some a.block)∧(∀a,ay=some a→J≠[]→a.block<w2.heap.size))(fun _ i _=>J.length-(intOf i).toNat);case atStart=>
    refine⟨0,acc,by omega,rfl,rfl,b0.out,by omega,bx.out,b3.out,fun a ha hb=>?_,fun a ha a9=>?_⟩;·have h1:=(ax.out.lt _ hb).2;have h2:=cu.out a.block (by rw[ha];rfl);simp at h2;omega
    ·obtain⟨_,_,he,_,_,hc⟩:=b3.out;obtain⟨b,o,dp,bs⟩:=hc a9;have af:=World.block_lt_of_cell? _ _ (bs 0 (List.length_pos_iff.2 a9));have:a.block=b:=by rw[ha]at he;injection he with he;rw[dp]at he;injection he with he;rw[he]
     rw[this];exact af
   case round=>
    obtain⟨j,C,hj,rfl,b5,a3,d3,T,a5,a2,bk⟩:=hrel;have bv:=aa b5;have I:=aa a3;have P:=aa T;have bf:=aa a5;have R:=aa a2;have av:=aa bk;have ba:=T.size;clear b5 a3 T a2 bk;by_cases a1:j<J.length;·
     obtain⟨d4,b4,cc,-,-,bi⟩:=a5;obtain⟨b2,o2,rfl,ad⟩:=bi (by intro h;simp[h]at a1);obtain⟨rfl,rfl⟩:ay=some ⟨b2,o2,none⟩∧ab=b4:=by simpa using cc
     have dz:=ad j a1;obtain⟨s,hs⟩:∃s,s=J[j]:=⟨_,rfl⟩;rw[←hs]at dz;have bz:=aa (show(J.take (j+1)).foldl kL acc=kL C s by rw[yZ a1,bv.out,hs]);have cz:=aa (show s.size≤1048576 by rw[hs];exact c8.out _ (List.getElem_mem a1));clear hs ad bi cc;cases hh:cH C s;·
      have HH:=aa hh;clear hh;go_wp2_with(first|(go_at_call 141;refine(lu C s _ _ (bS I.out (by omega))).mono ?_;rintro e w3⟨rfl,rfl⟩;rw[HH.out])|(go_at_call 77;refine(cs.out s _ cz.out).mono ?_;rintro e w4⟨rfl,az⟩;have be:=aa (jh I.out az);have d9:=az.size;have c6:=aa (bf.out.carry az);have cp:=aa az;clear az)|(at_builtin;refine wpList_append_own_at _ rfl (.tmp 25) (.tmp 28) 78 rfl w.heap.size 9 i0 (.string ByteArray.empty) 1 16 Tryz.underlying78 HI.out.1 HI.out.2.1 HI.out.2.2.1 HI.out.2.2.2 rfl (by decide) _ C.length (C.map Value.string) rfl (be.out.alloc _) ⟨_,0,none⟩ 1 1 [.string s] rfl rfl (gj (cJ _ _ _ _ rfl)) (one_cell _) (by unfold maxLen;omega) (by omega) (by simp;omega) ?_;intro v5 w5 a4 l _ bm;have b1:=aa a4;have bL:=aa bm;have c7:Hid (bB w5 (.slice (some ⟨b2,o2,none⟩) J.length ab) J):=aa ((c6.out.carry (aC _ _)).grown l (fun b hb=>by simp[Value.ownBlock]at hb;subst hb;exact fun h=>R.out _ rfl h.symm));have cy:=aa l.size;have cr:Hid (Below w.heap.size w w5):=aa ((((P.out.trans (cp.out.mono ba)).alloc (by omega) _)).grown l (by simp;omega) (fM be.out));clear a4 l bm));go_wp2_with fail;go_roundw;case rel=>
       have e:kL C s=C++[s]:=by simp[kL,HH.out]
       have h5:=cy.out;simp at h5;refine⟨j+1,C++[s],by omega,by go_num,by rw[bz.out,e],by have:=b1.out;simpa using this,by simp;omega,cr.out,c7.out,fun a ha hb=>?_,fun a ha a9=>?_⟩;·
        have h1:=av.out a ha (by intro h;simp[h]at a1);rcases bL.out with h|h;·exact R.out a ha (h.symm.trans hb)
        ·rw[h]at hb;simp at hb;omega
       ·have h1:=av.out a ha a9;omega
      case measure=>simp[intOf];omega
     ·have HH:=aa hh;clear hh;go_wp2_with(go_at_call 141;refine(lu C s _ _ (bS I.out (by omega))).mono ?_;rintro e w3⟨rfl,rfl⟩;rw[HH.out]);go_roundw;case rel=>
       have e:kL C s=C:=by simp[kL,HH.out]
       exact⟨j+1,C,by omega,by go_num,by rw[bz.out,e],I.out,by omega,P.out,bf.out,R.out,av.out⟩
      case measure=>simp[intOf];omega
    ·clear a5;go_wp2_with fail;go_roundw;case rel=>
      have d0:lL acc n1=C:=by rw[bv.out,lL,c9.out,List.take_of_length_le (by omega)]
      exact⟨k+1,C,by omega,by go_num,by rw[HN.out,d0],I.out,by omega,P.out⟩
     case measure=>simp[intOf];omega
  ·go_wp2_with fail;go_ret;refine⟨_,rfl,?_,ah.out⟩;have h1:acc=iS ns:=by rw[bb.out,List.take_of_length_le (by omega)];rfl
   rw[←h1];exact ax.out
section
def kk(l:List Nd):Prop:=∀n∈l,n.fit
theorem ix{l r:List Nd}:kk (l++r)↔kk l∧kk r:=by unfold kk;simp only[List.mem_append];exact⟨fun h=>⟨fun n j=>h n (.inl j),fun n j=>h n (.inr j)⟩,fun h n j=>j.elim (h.1 n) (h.2 n)⟩
theorem dq{n:Nd}{l:List Nd}:kk (n::l)↔n.fit∧kk l:=by unfold kk;simp only[List.mem_cons];exact⟨fun h=>⟨h n (.inl rfl),fun m j=>h m (.inr j)⟩,fun h m j=>j.elim (fun e=>e▸h.1) (h.2 m)⟩
theorem Ay:kk []:=fun _ h=>by cases h
section
variable{α:Type}{f:α→List Nd}
theorem Ao:∀{l:List (Br α)}{i:Nat}{b:Br α}(c:Br α),l[i]?=some b→(aX f (l.set i c)).length+(f b.p).length=(aX f l).length+(f c.p).length∧(kk (aX f l)→kk [⟨4,c.l,bt,0,c.s⟩]→kk (f c.p)→kk (aX f (l.set i c)))|[],i,b,c,h=>by simp at h|a::l,0,b,c,h=>by simp at h;subst h;rw[List.set_cons_zero,cE,cE];refine⟨by simp only[List.length_cons,List.length_append];omega,fun I C j=>?_⟩;rw[dq,ix]at*;exact⟨C.1,j,I.2.2⟩|a::l,i+1,b,c,h=>by rw[List.getElem?_cons_succ]at h;obtain⟨I,C⟩:=Ao c h;rw[List.set_cons_succ,cE,cE];refine⟨by simp only[List.length_cons,List.length_append];omega,fun j J P=>?_⟩;rw[dq,ix]at j⊢;exact⟨j.1,j.2.1,C j.2.2 J P⟩
theorem rj:∀{l:List (Br α)}{i:Nat}{b:Br α},l[i]?=some b→(f b.p).length+1≤(aX f l).length∧(kk (aX f l)→kk [⟨4,b.l,bt,0,b.s⟩]∧kk (f b.p))|[],i,b,h=>by simp at h|a::l,0,b,h=>by simp at h;subst h;rw[cE];refine⟨by simp only[List.length_cons,List.length_append];omega,fun j=>?_⟩;rw[dq,ix]at j;exact⟨dq.2 ⟨j.1,Ay⟩,j.2.1⟩|a::l,i+1,b,h=>by rw[List.getElem?_cons_succ]at h;obtain⟨j,I⟩:=rj h;rw[cE];refine⟨by simp only[List.length_cons,List.length_append];omega,fun C=>?_⟩;rw[dq,ix]at C;exact I C.2.2
def Bk(a b c:List Nd):Prop:=c.length≤a.length+b.length∧(kk a→kk b→kk c)
theorem rG(a b:List Nd):Bk a b a:=⟨by omega,fun h _=>h⟩
theorem lh{mg:α→α→Option α}(C:∀x y z,mg x y=some z→Bk (f x) (f y) (f z)):∀(ds acc l:List (Br α)),cm mg acc ds=some l→Bk (aX f acc) (aX f ds) (aX f l)
 |[],acc,l,h=>by rw[cm]at h;injection h with h;subst h;exact rG _ _|d::ds,acc,l,h=>by
  rw[cm]at h;rw[cE];split at h;·
   obtain⟨P,I⟩:=lh C ds _ l h;rw[kP]at P I;have e:aX f [d]=⟨4,d.l,bt,0,d.s⟩::f d.p:=by rw[cE];simp[aX]
   rw[e]at P I;refine⟨by simp only[List.length_append,List.length_cons]at*;omega,fun J j=>?_⟩;rw[dq,ix]at j;exact I (ix.2 ⟨J,dq.2 ⟨j.1,j.2.1⟩⟩) j.2.2
  ·rename_i i hi;split at h;·cases h
   ·rename_i b j;split at h;·cases h
    ·rename_i q hq;split at h;·obtain⟨P,I⟩:=lh C ds _ l h;obtain⟨h3,U⟩:=C b.p d.p q hq;obtain⟨h5,h6⟩:=Ao (f:=f) ⟨b.l,b.s,q⟩ j;obtain⟨h7,T⟩:=rj (f:=f) j;refine⟨by simp only[List.length_append,List.length_cons]at*;omega,fun J R=>?_⟩;rw[dq,ix]at R;exact I (h6 J (T J).1 (U (T J).2 R.2.1)) R.2.2
     ·cases h
theorem qE{mg:α→α→Option α}(j:∀x y z,mg x y=some z→Bk (f x) (f y) (f z)):∀(r:List (Br α))(x z:α),cX mg x r=some z→Bk (f x) (aX f r) (f z)
 |[],x,z,h=>by rw[cX]at h;injection h with h;subst h;exact rG _ _|b::r,x,z,h=>by
  rw[cX]at h;split at h;·cases h
  ·rename_i q P;obtain⟨R,C⟩:=qE j r q z h;obtain⟨T,I⟩:=j x b.p q P;rw[cE];refine⟨by simp only[List.length_cons,List.length_append];omega,fun J l=>?_⟩;rw[dq,ix]at l;exact C (I J l.2.1) l.2.2
end
theorem je{n:Nat}{p:Pn (n+1)}{a:ByteArray}{l:List (Br (Pn n))}(h:qy p=some (a,l)):∃b,p=.cG ⟨6,b,a⟩ l:=by
 revert h;refine Pn.cases (P:=fun p=>qy p=some (a,l)→∃b,p=.cG ⟨6,b,a⟩ l) (fun x h=>?_) (fun x q h=>?_) (fun t l' h=>?_) p;·cases h
 ·cases h
 ·have j:(if t.op==6 then some (t.b,l')else none)=some (a,l):=h;split at j;·
   rename_i I;injection j with j;injection j with e1 e2;obtain⟨op,x,y⟩:=t;dsimp only at e1 I;have C:op=6:=by simpa using I
   subst e1;subst e2;subst C;exact⟨x,rfl⟩
  ·cases j
theorem s7:∀(n:Nat)(x y z:Pn n),bd n x y=some z→Bk (aI n x) (aI n y) (aI n z):=by
 intro n;induction n with
  |zero=>
   intro x y z h;rw[bd]at h;split at h;·injection h with h;subst h;exact rG _ _
   ·cases h|succ n ih=>
   intro x y z h;rw[bd]at h;split at h;·injection h with h;subst h;exact rG _ _
   ·split at h;·
     rename_i a I b ds R T;split at h;·
      split at h;·
       rename_i l P;split at h;·injection h with h;subst h;obtain⟨x',rfl⟩:=je R;obtain⟨y',rfl⟩:=je T;obtain⟨U,J⟩:=lh ih ds I l P;rw[cA,cA,cA];refine⟨by simp only[List.length_cons];omega,fun j C=>?_⟩;rw[dq]at j C⊢;exact⟨⟨by simp[bt],j.1.2⟩,J j.2 C.2⟩
       ·cases h
      ·cases h
     ·cases h
    ·cases h
def vg(a c:List Nd):Prop:=c.length≤a.length∧(kk a→kk c)
theorem mB{α:Type}{f:α→List Nd}{g:α→Option α}{Q:α→Prop}(J:∀x y,Q x→g x=some y→vg (f x) (f y)):∀(l r:List (Br α)),(∀b∈l,Q b.p)→bI g l=some r→vg (aX f l) (aX f r)∧r.length=l.length
 |[],r,_,h=>by rw[bI]at h;injection h with h;subst h;exact⟨⟨Nat.le_refl _,id⟩,rfl⟩|b::l,r,P,h=>by
  rw[bI]at h;split at h;·cases h
  ·rename_i q C;split at h;·cases h
   ·rename_i r' I;injection h with h;subst h;obtain⟨h1,R⟩:=J b.p q (P b (by simp)) C;obtain⟨⟨h3,T⟩,h5⟩:=mB J l r' (fun c U=>P c (by simp[U])) I;rw[cE,cE];refine⟨⟨by simp only[List.length_cons,List.length_append];omega,fun j=>?_⟩,by simp only[List.length_cons];omega⟩;rw[dq,ix]at j⊢;exact⟨j.1,R j.2.1,T j.2.2⟩
theorem jd(C:ByteArray):∀(n:Nat)(p q:Pn n),cQ n p→bD C n p=some q→vg (aI n p) (aI n q):=by
 intro n;induction n with
  |zero=>intro p q _ h;rw[bD]at h;injection h with h;subst h;exact⟨Nat.le_refl _,id⟩|succ n ih=>
   intro p;refine Pn.cases (P:=fun p=>∀q,cQ (n+1) p→bD C (n+1) p=some q→vg (aI (n+1) p) (aI (n+1) q)) (fun x q _ h=>?_) (fun x p q U h=>?_) (fun t l q U h=>?_) p;·have j:some (Pn.leaf x)=some q:=h;injection j with j;subst j;exact⟨Nat.le_refl _,id⟩
   ·have j:(if AJ C (aI (n+1) (.loop x p))then some (Pn.leaf none)else(bD C n p).map (Pn.loop x))=some q:=h;have J:cQ n p:=U;split at j;·injection j with j;subst j;rw[gd,EM];refine⟨by simp only[dX,List.length_cons,List.length_nil];omega,fun _=>dq.2 ⟨by simp[Nd.fit,bt],Ay⟩⟩
    ·cases hq:bD C n p with|none=>rw[hq]at j;cases j|some q'=>rw[hq]at j;simp only[Option.map_some,Option.some.injEq]at j;subst j;obtain⟨h1,R⟩:=ih p q' J hq;rw[gd,gd];refine⟨by simp only[List.length_cons];omega,fun I=>?_⟩;rw[dq]at I⊢;exact⟨I.1,R I.2⟩
   ·have j:(match bI (bD C n) l with|none=>none|some r=>if C.toList==t.a.toList then some (Pn.cG ⟨5,bt,t.b⟩ r)else if C.toList==t.b.toList then some (.cG ⟨6,bt,t.a⟩ r)else match r with|[]=>none|c::r=>(cX (bd n) c.p r).map (vW n))=some q:=h;have J:t.op=3∧(t.a.toList==t.b.toList)=false∧1≤l.length∧l.length≤4∧∀b∈l,cQ n b.p:=U;split at j;·cases j
    ·rename_i r hr;obtain⟨⟨h1,R⟩,h3⟩:=mB (Q:=cQ n) (fun x y hx hy=>ih x y hx hy) l r J.2.2.2.2 hr;rw[cA];split at j;·injection j with j;subst j;rw[cA];refine⟨by simp only[List.length_cons];omega,fun I=>?_⟩;rw[dq]at I⊢;exact⟨⟨by simp[bt],I.1.2⟩,R I.2⟩
     ·split at j;·injection j with j;subst j;rw[cA];refine⟨by simp only[List.length_cons];omega,fun I=>?_⟩;rw[dq]at I⊢;exact⟨⟨by simp[bt],I.1.1⟩,R I.2⟩
      ·split at j;·cases j
       ·rename_i c r;cases T:cX (bd n) c.p r with|none=>rw[T]at j;cases j|some z=>rw[T]at j;simp only[Option.map_some,Option.some.injEq]at j;subst j;obtain⟨h4,h5⟩:=qE (s7 n) r c.p z T;rw[Fu];rw[cE]at h1 R;refine⟨by simp only[List.length_cons,List.length_append]at*;omega,fun I=>?_⟩;have:=R (dq.1 I).2;rw[dq,ix]at this;exact h5 this.2.1 this.2.2
end
theorem wO:rO:=by intro s w C;have I:=aa C;clear C;go_enter Tryz.func77,Tryz.ntmps77;go_wp2_with(go_at_call 114;refine(Tryz.stringslite_Clone s _ (Nat.le_trans I.out (by omega))).mono ?_;rintro e J⟨rfl,j⟩;have l:=aa j;clear j);go_ret;exact⟨rfl,l.out⟩
structure yM(L:Nat)(S:List aB×List ar)(k:Nat):Prop where
 s:∀x∈S.1,x.fit
 e:∀x∈S.2,x.fit
 n1:S.1.length+k≤L
 n2:S.2.length+k≤L
theorem DO{e x:ar}{l:List ar}(h:x∈fA e l):x=e∨x∈l:=by
 unfold fA at h;rcases List.mem_append.1 h with h|h;·exact .inr ((List.takeWhile_sublist _).subset h)
 ·rcases List.mem_cons.1 h with rfl|h;·exact .inl rfl
  ·exact .inr ((List.dropWhile_sublist _).subset h)
theorem B6(e:ar)(l:List ar):(fA e l).length=l.length+1:=by unfold fA;have:=congrArg List.length (List.takeWhile_append_dropWhile (p:=fun x=>a7 x e) (l:=l));rw[List.length_append]at this;rw[List.length_append,List.length_cons];omega
theorem xy{L:Nat}{go:List Nd→List aB×List ar→List Nd×List aB×List ar}{j:List Nd→Nat→Int}{s:Int}(I:∀(l:List Nd)(S:List aB×List ar),(∀n∈l,n.fit)→yM L S l.length→(∀n∈(go l S).1,n.fit)∧yM L (go l S).2 (go l S).1.length):∀(k:Nat)(l:List Nd)(S:List aB×List ar),(∀n∈l,n.fit)→yM L S l.length→(∀n∈(dK go j s k l S).1,n.fit)∧yM L (dK go j s k l S).2 (dK go j s k l S).1.length
 |0,l,S,C,hS=>⟨C,hS⟩|_+1,[],S,C,hS=>⟨C,hS⟩|k+1,c::l,S,C,hS=>by
  rw[dK];have R:=C c List.mem_cons_self;have P:yM L (S.1,fA ⟨s,c.name,c.sort,j l S.1.length⟩ S.2) l.length:=by
   have U:=hS.n1;have n2:=hS.n2;rw[List.length_cons]at U n2;refine⟨hS.s,fun x J=>?_,?_,?_⟩;·
    rcases DO J with rfl|J;·exact R.1
    ·exact hS.e x J
   ·show S.1.length+l.length≤L;omega
   ·show(fA _ S.2).length+l.length≤L;rw[B6];omega
  obtain⟨g1,g2⟩:=I l _ (fun n T=>C n (List.mem_cons_of_mem _ T)) P;exact xy I k _ _ g1 g2
theorem zR{L:Nat}:∀(f:Nat)(ns:List ByteArray)(fis:List Int)(l:List Nd)(S:List aB×List ar),(∀n∈l,n.fit)→yM L S l.length→(∀n∈(sv f ns fis l S).1,n.fit)∧yM L (sv f ns fis l S).2 (sv f ns fis l S).1.length
 |0,_,_,[],S,C,hS=>⟨C,hS⟩|_+1,_,_,[],S,C,hS=>⟨C,hS⟩|0,ns,fis,n::l,S,C,hS=>by
  have I:∀m∈l,m.fit:=fun m J=>C m (List.mem_cons_of_mem _ J);have P:=hS.n1;have R:=hS.n2;rw[List.length_cons]at P R;rw[sv];split;·exact⟨I,hS.s,hS.e,by show S.1.length+l.length≤L;omega,by show S.2.length+l.length≤L;omega⟩
  ·refine⟨I,fun x j=>?_,hS.e,?_,by show S.2.length+l.length≤L;omega⟩;·
    rcases List.mem_append.1 j with j|j;·exact hS.s x j
    ·simp at j;subst j;exact(C n List.mem_cons_self).2
   ·show(S.1++[_]).length+l.length≤L;rw[List.length_append,List.length_singleton];omega|f+1,ns,fis,n::l,S,C,hS=>by
  have I:∀m∈l,m.fit:=fun m J=>C m (List.mem_cons_of_mem _ J);have P:=hS.n1;have R:=hS.n2;rw[List.length_cons]at P R;rw[sv];split;·exact⟨I,hS.s,hS.e,by show S.1.length+l.length≤L;omega,by show S.2.length+l.length≤L;omega⟩
  ·split;·exact zR f _ _ l S I ⟨hS.s,hS.e,by omega,by omega⟩
   ·refine xy (fun l' S'=>zR f ns fis l' S') _ l _ I ⟨fun x j=>?_,hS.e,?_,by show S.2.length+l.length≤L;omega⟩;·
     rcases List.mem_append.1 j with j|j;·exact hS.s x j
     ·simp at j;subst j;exact(C n List.mem_cons_self).2
    ·show(S.1++[_]).length+l.length≤L;rw[List.length_append,List.length_singleton];omega
theorem Cb{ns:List Nd}(h:∀n∈ns,n.fit):(∀x∈(iX ns).aj,x.fit)∧(∀x∈(iX ns).al,x.fit)∧(iX ns).aj.length≤ns.length∧(iX ns).al.length≤ns.length:=by have j:=(zR (L:=ns.length) 10 [] [] ns ([],[]) h ⟨fun x l=>(by cases l),fun x l=>(by cases l),by simp,by simp⟩).2;have C:=j.n1;have I:=j.n2;exact⟨j.s,j.e,Nat.le_trans (Nat.le_add_right _ _) C,Nat.le_trans (Nat.le_add_right _ _) I⟩
def ba(l:List UInt8):ByteArray:=⟨l.toArray⟩
def eV(n:Int):ByteArray:=if n==0 then ba [110,111,110,101]else if n==1 then ba [105,110,116]else ba [116,101,120,116]
def kG(n:Nd):ByteArray:=if n.op==5 then n.peer++ba [33]else if n.op==6 then n.peer++ba [63]else n.name++ba [62]++n.peer
def iW(c:Nd)(t:ByteArray):ByteArray:=c.name++ba [40]++eV c.sort++ba [41,46]++t
def dV:List ByteArray→ByteArray|[]=>ByteArray.empty|[t]=>t|t::u::j=>t++ba [44]++dV (u::j)
def bW(go:List Nd→ByteArray×List Nd):Nat→List Nd→List ByteArray×List Nd|0,l=>([],l)|_+1,[]=>([],[])|m+1,c::l=>(iW c (go l).1::(bW go m (go l).2).1,(bW go m (go l).2).2)
def bH:Nat→List Nd→ByteArray×List Nd|_,[]=>(ByteArray.empty,[])|0,n::l=>if n.op==1 then(n.name,l)else(ba [101,110,100],l)|f+1,n::l=>if n.op==0 then(ba [101,110,100],l)else if n.op==1 then(n.name,l)else if n.op==2 then(ba [114,101,99]++ba [32]++n.name++ba [46]++(bH f l).1,(bH f l).2)else(kG n++ba [123]++dV (bW (bH f) n.many.toNat l).1++ba [125],(bW (bH f) n.many.toNat l).2)
def yI(st:List Nd):Prop:=∀n∈st,n.op=2→n.name.size≤20
theorem fG{t:ByteArray}(h:bJ t=true):t.size≤20:=by simp only[bJ,du,Bool.and_eq_true,decide_eq_true_eq]at h;exact h.1.1.2
theorem rV:∀(st:List Nd)(said:Bool)(t:ByteArray),yI st→dH said st t=true→t.size≤20
 |[],_,_,_,h=>by cases h|n::st,said,t,I,h=>by
  rw[dH]at h;have j:yI st:=fun x J=>I x (List.mem_cons_of_mem _ J);split at h;·
   rename_i l;split at h;·rename_i C;rw[beq_iff_eq]at C l;have:=I n (by simp) l;rwa[iw C]at this
   ·exact rV st said t j h
  ·exact rV st true t j h
def eW(j:List ByteArray):Nat:=(j.map fun t=>t.size+1).sum
theorem fk(a b:ByteArray):(a++b).size=a.size+b.size:=ByteArray.size_append
theorem iM(l:List UInt8):(ba l).size=l.length:=by show l.toArray.size=_;simp
theorem mj:∀j:List ByteArray,(dV j).size≤eW j
 |[]=>Nat.zero_le _|[t]=>by simp[dV,eW]|t::u::j=>by
  have ih:=mj (u::j);have e:eW (t::u::j)=t.size+1+eW (u::j):=by simp[eW]
  rw[dV,fk,fk,iM,e];simp only[List.length_cons,List.length_nil];omega
theorem rF(n:Int):(eV n).size≤4:=by
 rw[eV];split;·simp[iM]
 ·split<;>simp[iM]
theorem F1{c:Nd}(h:cI c=true)(t:ByteArray):(iW c t).size+1≤28+t.size:=by
 have j:c.name.size≤20:=by simp only[cI,Bool.and_eq_true]at h;exact fG h.1.2
 have:=rF c.sort;rw[iW,fk,fk,fk,fk,iM,iM];simp only[List.length_cons,List.length_nil];omega
theorem rI{j:Bool}{n:Nd}(h:aQ j n=true):(kG n).size≤41:=by
 have l:=h;simp only[aQ,Bool.and_eq_true]at l;have J:=fG l.1.1.1;rw[kG];split;·rw[fk,iM];simp only[List.length_cons,List.length_nil];omega
 ·split;·rw[fk,iM];simp only[List.length_cons,List.length_nil];omega
  ·have I:n.name.size≤20:=by
    cases j;·simp at l;exact fG l.2.1.2
    ·simp at l;rcases l.2.2 with C|C<;>simp_all
   rw[fk,fk,iM];simp only[List.length_cons,List.length_nil];omega
theorem kp{go:List Nd→Option (List Nd)}{tf:List Nd→ByteArray×List Nd}(J:∀l r,go l=some r→(tf l).2=r∧(tf l).1.size+43*r.length≤43*l.length):∀(m:Nat)(ls:List ByteArray)(l r:List Nd),aS go m ls l=some r→(bW tf m l).2=r∧eW (bW tf m l).1+43*r.length≤43*l.length∧(bW tf m l).1.length=m
 |0,_,l,r,h=>by cases h;exact⟨rfl,by simp[bW,eW],rfl⟩|_+1,_,[],r,h=>by cases h|m+1,ls,n::l,r,h=>by
  rw[aS]at h;split at h;·
   rename_i I;split at h;·cases h
   ·rename_i P C;obtain⟨e1,U⟩:=J _ _ C;obtain⟨e2,s2,T⟩:=kp J m _ _ _ h;have j:cI n=true:=by simp at I;exact I.1
    have R:=F1 j (tf l).1;rw[bW,e1];refine⟨e2,?_,by simp[T]⟩;have e:eW (iW n (tf l).1::(bW tf m P).1)=(iW n (tf l).1).size+1+eW (bW tf m P).1:=by simp[eW]
    rw[e];simp only[List.length_cons];omega
  ·cases h
theorem fq(T:Bool):∀(f:Nat)(st l r:List Nd),yI st→ahead (aQ T) f st l=some r→(bH f l).2=r∧(bH f l).1.size+43*r.length≤43*l.length:=by
 intro f;induction f with
  |zero=>
   intro st l r R h;cases l with
    |nil=>cases h|cons n l=>
     rw[ahead]at h;repeat' split at h
     all_goals first|(cases h;done)|(rename_i j _;cases h;rw[beq_iff_eq]at j;refine⟨by simp[bH,j],?_⟩;simp only[bH,j];simp[iM];omega)|(rename_i j I J;cases h;rw[beq_iff_eq]at I;simp only[Bool.and_eq_true]at J;have:=rV st false n.name R J.2;refine⟨by simp[bH,I],?_⟩;simp only[bH,I];simp;omega)
  |succ f ih=>
   intro st l r R h;cases l with
    |nil=>cases h|cons n l=>
     rw[ahead]at h;split at h;·
      rename_i j;split at h;·cases h;rw[bH,if_pos j];refine⟨rfl,?_⟩;simp[iM];omega
      ·cases h
     ·rename_i j;split at h;·
       rename_i I;split at h;·rename_i J;cases h;simp only[Bool.and_eq_true]at J;have:=rV st false n.name R J.2;rw[bH,if_neg j,if_pos I];refine⟨rfl,?_⟩;simp;omega
       ·cases h
      ·rename_i I;split at h;·
        rename_i C;split at h;·
         rename_i J;simp only[Bool.and_eq_true]at J;have ac:bJ n.name=true:=by have:=J.1;simp only[gS,Bool.and_eq_true]at this;exact this.2
         have ab:=fG ac;have P:yI (n::st):=by
          intro x hx C;rcases List.mem_cons.1 hx with e|e;·rw[e];exact ab
          ·exact R x e C
         obtain⟨e1,s1⟩:=ih (n::st) l r P h;rw[bH,if_neg j,if_neg I,if_pos C];refine⟨e1,?_⟩;simp only[fk,iM,List.length_cons,List.length_nil];omega
        ·cases h
       ·rename_i C;split at h;·
         rename_i ht;have U:n.op≠2:=fun e=>C (by rw[e];rfl);have P:yI (n::st):=by
          intro x hx C;rcases List.mem_cons.1 hx with e|e;·rw[e]at C;exact absurd C U
          ·exact R x e C
         obtain⟨e1,s1,_⟩:=kp (fun l r=>ih (n::st) l r P) _ _ _ _ h;have ad:=rI ht;have hj:=mj (bW (bH f) n.many.toNat l).1;rw[bH,if_neg j,if_neg I,if_neg C];refine⟨e1,?_⟩;simp only[fk,iM,List.length_cons,List.length_nil];omega
        ·cases h
def nA(w:World)(v:Value)(ls:List Int):Prop:=∃j cap,v=.slice j ls.length cap∧ls.length≤cap∧ls.length≤4294967296∧(ls≠[]→∃b o,j=some ⟨b,o,none⟩∧∀i(h:i<ls.length),w.cell? ⟨b,o+i,none⟩=some (.int .i64 ls[i]))
theorem nA.carry{w w':World}{v:Value}{ls:List Int}(h:nA w v ls)(T:Below w.heap.size w w'):nA w' v ls:=by obtain⟨C,cap,I,J,P,R⟩:=h;refine⟨C,cap,I,J,P,fun j=>?_⟩;obtain⟨b,o,e,l⟩:=R j;refine⟨b,o,e,fun i hi=>?_⟩;exact(T.cell (p:=⟨b,_,none⟩) (World.block_lt_of_cell? w _ (l i hi))).trans (l i hi)
def re(ls:List Int)(t:Int):Bool:=ls.any fun s=>t==s
theorem BW{ls:List Int}{t:Int}{k:Nat}(l:k<ls.length)(h:re (ls.take k) t=false)(j:(t==ls[k])=false):re (ls.take (k+1)) t=false:=by rw[re,List.take_succ_eq_append_getElem l,List.any_append];have:(ls.take k).any (fun s=>t==s)=false:=h;rw[this];simpa using j
theorem DI{ls:List Int}{t:Int}{k:Nat}(l:k<ls.length)(j:(t==ls[k])=true):re ls t=true:=by rw[re,List.any_eq_true];exact⟨ls[k],List.getElem_mem l,j⟩
theorem GH(ls:List Int)(t:Int)(v:Value)(w:World)(hv:nA w v ls):Calls Tryz.prog 142 #[v,.int .i64 t] w fun e w'=>∃j:Int,e=.returned (.int .i64 j)∧decide (0≤j)=re ls t∧w'=w:=by
 obtain⟨ao,cap,rfl,hc,hm,hr⟩:=hv;have HR:=aa hr;clear hr;go_enter Tryz.func142,Tryz.ntmps142;go_wp2_with fail;go_loop[8](fun i=>∃k:Nat,k≤ls.length∧i=.int .i64 k∧re (ls.take k) t=false)(fun i=>ls.length-(intOf i).toNat);case atStart=>exact⟨0,Nat.zero_le _,rfl,rfl⟩
 case round=>
  obtain⟨k,hk,rfl,I⟩:=hrel;have T:=aa I;clear I;by_cases C:k<ls.length;·
   obtain⟨b,o,rfl,l⟩:=HR.out (by intro h;simp[h]at C);have P:=l k C;obtain⟨s,R⟩:∃s,s=ls[k]:=⟨_,rfl⟩;rw[←R]at P;have J:=aa R;clear l R;cases heq:(t==s);all_goals have U:=aa heq
   ·go_wp2_with fail;go_round;case rel=>exact⟨k+1,by omega,by go_num,BW C T.out (by rw[←J.out];exact U.out)⟩
    case measure=>simp[intOf];omega
   ·go_wp2_with fail;go_ret;exact⟨_,rfl,by rw[DI C (by rw[←J.out];exact U.out)];simp,rfl⟩
  ·go_wp2_with fail;go_ret;refine⟨_,rfl,?_,rfl⟩;have:=T.out;rw[List.take_of_length_le (by omega)]at this;rw[this];rfl
theorem td(ls:List Int)(t:Int)(v:Value)(w:World)(C:nA w v ls):Calls Tryz.prog 100 #[v,.int .i64 t] w fun e w'=>e=.returned (.bool (re ls t))∧w'=w:=by have J:=aa C;obtain⟨U,cap,rfl,P,R,T⟩:=C;clear T P R;go_enter Tryz.func100,Tryz.ntmps100;go_wp2_with(go_at_call 142;refine(GH ls t _ _ J.out).mono ?_;rintro e w'⟨j,rfl,l,rfl⟩;have I:=aa l;clear l);go_ret;exact⟨aF I.out.symm,rfl⟩
theorem DL(I:List Int)(ns:List Nd)(v u:Value)(w:World)(hv:bR w w.heap.size v ns)(hu:nA w u I):Calls Tryz.prog 69 #[v,u] w fun e w'=>e=.returned (.bool (ns.any fun n=>re I n.op))∧Below w.heap.size w w':=by
 obtain⟨ao,cap,rfl,hc,hm,hr⟩:=hv;have HR:=aa hr;have HU:=aa hu;obtain⟨af,ad,rfl,ah,av,ac⟩:=hu;clear hr ac;go_enter Tryz.func69,Tryz.ntmps69;go_wp2_with fail;go_loopw[9](fun i wr=>∃k:Nat,k≤ns.length∧i=.int .i64 k∧(ns.take k).any (fun n=>re I n.op)=false∧Below w.heap.size w wr)(fun i _=>ns.length-(intOf i).toNat);case atStart=>exact⟨0,Nat.zero_le _,rfl,rfl,Below.refl _ _⟩
 case round=>
  obtain⟨k,hk,rfl,R,J⟩:=hrel;have HA:=aa R;have j:=aa J;have C:=J.size;clear R J;by_cases P:k<ns.length;·
   obtain⟨b,o,rfl,ab,T⟩:=HR.out (by intro h;simp[h]at P);have l:=(T.get k P).carry ab j.out;obtain⟨n1,U⟩:∃n1,n1=ns[k]:=⟨_,rfl⟩;rw[←U]at l;have HN:=aa U;clear U T;have ag:b<wr.heap.size:=l.lt;obtain⟨c0,c1,c2,c3,c4⟩:=l;cases hh:re I n1.op;·
    have HH:=aa hh;clear hh;go_wp2_with(go_at_call 100;refine(td I n1.op _ _ (HU.out.carry (j.out.trans ((aC _ _).mono C)))).mono ?_;rintro e w1⟨rfl,rfl⟩;rw[HH.out]);go_roundw;case rel=>exact⟨k+1,by omega,by go_num,by rw[List.take_succ_eq_append_getElem P,List.any_append,HA.out,←HN.out];simp[HH.out],j.out.trans ((aC _ _).mono C)⟩
    case measure=>simp[intOf];omega
   ·have HH:=aa hh;clear hh;go_wp2_with(go_at_call 100;refine(td I n1.op _ _ (HU.out.carry (j.out.trans ((aC _ _).mono C)))).mono ?_;rintro e w1⟨rfl,rfl⟩;rw[HH.out]);go_ret;refine⟨aF ?_,j.out.trans ((aC _ _).mono C)⟩;rw[List.any_eq_true];exact⟨n1,by rw[HN.out];exact List.getElem_mem P,HH.out⟩
  ·go_wp2_with fail;go_ret;refine⟨aF ?_,j.out⟩;have:=HA.out;rwa[List.take_of_length_le (by omega)]at this
def xi(j:List ByteArray):ByteArray:=j.headD bt
def vQ(t:List UInt8):List ByteArray→Option (List ByteArray)|[]=>none|m::ms=>if m.toList==t then some ms else none
def E5(w:ByteArray):Int:=if w.toList==[110,111,110,101]then 0 else if w.toList==[105,110,116]then 1 else if w.toList==[116,101,120,116]then 2 else-1
def vo(l:List Nd)(i:Nat):List Nd:=l.modify i fun n=>{n with many:=n.many+1}
structure Rs where
 pos:Nat
 ms:List ByteArray
 l:List Nd
 op:List Nat
def mI(C:List ByteArray)(l:List Nd)(op:List Nat)(n:Nd):Sum (Option (List Nd)) Rs:=match vQ [123] C with|some j=>.inr ⟨1,j,l++[n],l.length::op⟩|none=>.inl none
def lA(C:List ByteArray)(l:List Nd)(op:List Nat):Sum (Option (List Nd)) Rs:=if(xi C).toList==[101,110,100]then .inr ⟨2,C.tail,l++[⟨0,bt,bt,0,0⟩],op⟩else match(if(xi C).toList==[114,101,99]then vQ [32] C.tail else none)with
 |some j=>match vQ [46] j.tail with|some I=>.inr ⟨0,I,l++[⟨2,xi j,bt,0,0⟩],op⟩|none=>.inl none
 |none=>match vQ [62] C.tail with|some j=>mI j.tail l op ⟨3,xi C,xi j,0,0⟩|none=>match vQ [33] C.tail with|some j=>mI j l op ⟨5,bt,xi C,0,0⟩|none=>match vQ [63] C.tail with|some j=>mI j l op ⟨6,bt,xi C,0,0⟩|none=>.inr ⟨2,C.tail,l++[⟨1,xi C,bt,0,0⟩],op⟩
def vz(J:List ByteArray)(l:List Nd)(op:List Nat):Sum (Option (List Nd)) Rs:=match vQ [40] J.tail with
 |some j=>match vQ [41] j.tail with
  |some C=>match vQ [46] C with|some I=>.inr ⟨0,I,vo l (op.headD 0)++[⟨4,xi J,bt,0,E5 (xi j)⟩],op⟩|none=>.inl none
  |none=>.inl none
 |none=>.inl none
def oJ(C:List ByteArray)(l:List Nd):List Nat→Sum (Option (List Nd)) Rs|[]=>.inl (if C.isEmpty then some l else none)|o::op=>match vQ [44] C with|some j=>.inr ⟨1,j,l,o::op⟩|none=>match vQ [125] C with|some j=>.inr ⟨2,j,l,op⟩|none=>.inl none
def gZ(s:Rs):Sum (Option (List Nd)) Rs:=if s.pos=0 then lA s.ms s.l s.op else if s.pos=1 then vz s.ms s.l s.op else oJ s.ms s.l s.op
def zz:Nat→Rs→Option (List Nd)|0,_=>none|f+1,s=>match gZ s with|.inl r=>r|.inr j=>zz f j
def iY(s:Rs):Nat:=3*s.ms.length+(if s.pos=2 then 0 else 1)
theorem EZ{t:List UInt8}{l j:List ByteArray}(h:vQ t l=some j):l=ba t::j:=by
 cases l with
  |nil=>cases h|cons m l=>
   rw[vQ]at h;split at h;·rename_i C;injection h with h;subst h;rw[beq_iff_eq]at C;congr 1;apply iw;rw[C,Go.ByteArray.toList_eq];simp[ba]
   ·cases h
theorem oA(t:List UInt8)(j:List ByteArray):vQ t (ba t::j)=some j:=by rw[vQ,if_pos (by rw[beq_iff_eq,Go.ByteArray.toList_eq];simp[ba])]
theorem gU{t:List UInt8}{l j:List ByteArray}(h:vQ t l=some j):l.length=j.length+1:=by rw[EZ h];rfl
theorem rH(j:List ByteArray):j.tail.length≤j.length:=by cases j<;>simp
theorem u3{s U:Rs}(h:gZ s=.inr U):iY U<iY s:=by
 obtain⟨pos,I,l,op⟩:=s;have hT:=rH I;unfold gZ at h;dsimp only at h;split at h;·
  rename_i h0;subst h0;have key:∀j n,j.length+1≤I.length→mI j l op n=.inr U→iY U<3*I.length+1:=fun j n h1 C=>by
   unfold mI at C;split at C;·rename_i R P;have:=gU P;injection C with C;subst C;simp[iY];omega
   ·cases C
  unfold lA at h;simp only[iY,if_neg (show¬(0:Nat)=2 by omega)];have ab:∀t:List UInt8,t≠[]→((xi I).toList==t)=true→I.tail.length+1=I.length:=fun t ht T=>by cases I with|nil=>rw[beq_iff_eq]at T;exact absurd (T.symm.trans (by rw[Go.ByteArray.toList_eq];rfl)) ht|cons a b=>simp
  split at h;·rename_i T;have:=ab _ (by simp) T;injection h with h;subst h;simp;omega
  ·split at h;·
    rename_i j C;split at C;·
     have e2:=gU C;have J:=rH j;split at h;·rename_i R P;have:=gU P;injection h with h;subst h;simp;omega
     ·cases h
    ·cases C
   ·split at h;·rename_i j C;have e2:=gU C;have J:=rH j;exact key _ _ (by omega) h
    ·split at h;·rename_i j C;have e2:=gU C;exact key _ _ (by omega) h
     ·split at h;·rename_i j C;have e2:=gU C;exact key _ _ (by omega) h
      ·injection h with h;subst h;simp;omega
 ·split at h;·
   rename_i h0 h1;subst h1;unfold vz at h;split at h;·
    rename_i j C;have e2:=gU C;have J:=rH j;split at h;·
     rename_i R P;have e3:=gU P;split at h;·rename_i ad h4;have e4:=gU h4;injection h with h;subst h;simp[iY];omega
     ·cases h
    ·cases h
   ·cases h
  ·rename_i h0 h1;have hm:3*I.length≤iY ⟨pos,I,l,op⟩:=by simp[iY]
   cases op with
    |nil=>cases h|cons o op=>
     rw[oJ]at h;split at h;·rename_i ac C;have e2:=gU C;injection h with h;subst h;refine Nat.lt_of_lt_of_le ?_ hm;simp[iY];omega
     ·split at h;·rename_i ac C;have e2:=gU C;injection h with h;subst h;refine Nat.lt_of_lt_of_le ?_ hm;simp[iY];omega
      ·cases h
theorem EO:∀(f j:Nat)(s:Rs),iY s<f→iY s<j→zz f s=zz j s:=by intro f;induction f with|zero=>intro j s h;omega|succ f ih=>intro j s h I;cases j with|zero=>omega|succ j=>rw[zz,zz];cases l:gZ s with|inl r=>rfl|inr C=>have:=u3 l;exact ih j C (by omega) (by omega)
def i6(s:Rs):Option (List Nd):=zz (iY s+1) s
theorem fg{s j:Rs}(h:gZ s=.inr j):i6 s=i6 j:=by unfold i6;have l:=u3 h;rw[zz,h];exact EO _ _ _ (by omega) (by omega)
def DH(n:Nd):Prop:=n.op=0∨(n.op=1∧bJ n.name=true)∨(n.op=2∧bJ n.name=true)∨(n.op=3∧bJ n.name=true∧bJ n.peer=true)∨(n.op=4∧bJ n.name=true∧jF n.sort=true)∨((n.op=5∨n.op=6)∧bJ n.peer=true)
def fO(n:Nd):List ByteArray:=if n.op=0 then[ba [101,110,100]]else if n.op=1 then[n.name]else if n.op=2 then[ba [114,101,99],ba [32],n.name,ba [46]]else if n.op=5 then[n.peer,ba [33],ba [123]]else if n.op=6 then[n.peer,ba [63],ba [123]]else[n.name,ba [62],n.peer,ba [123]]
def qi(n:Nd):List ByteArray:=[n.name,ba [40],eV n.sort,ba [41],ba [46]]
theorem FA{t:ByteArray}(h:bJ t=true):t.toList≠[]:=fun e=>by
 simp only[bJ,du,Bool.and_eq_true,decide_eq_true_eq]at h;have:t.size=0:=by
  have j:t.toList.length=t.size:=by rw[Go.ByteArray.toList_eq];rfl
  rw[e]at j;exact j.symm
 omega
structure LK(s:Rs):Prop where
 lt:∀i∈s.op,i<s.l.length
 pw:s.op.Pairwise (·>·)
 ne:s.pos=1→s.op≠[]
theorem rW(l:List Nd)(i:Nat):(vo l i).length=l.length:=by simp[vo]
theorem lB{s:Rs}(h:s.pos=0):gZ s=lA s.ms s.l s.op:=by unfold gZ;rw[if_pos h]
theorem step_label{s:Rs}(h:s.pos=1):gZ s=vz s.ms s.l s.op:=by unfold gZ;rw[if_neg (by omega),if_pos h]
theorem qU{s:Rs}(h:s.pos≠0)(j:s.pos≠1):gZ s=oJ s.ms s.l s.op:=by unfold gZ;rw[if_neg h,if_neg j]
theorem ju{a b:ByteArray}(h:a.data.toList=b.data.toList):a=b:=by apply ByteArray.ext;exact Array.ext' h
section
def Iw{α:Type}(C:α→Value→Prop)(w:World)(S:Nat→Prop)(v:Value)(l:List (Br α)):Prop:=∃j cap,v=.slice j l.length cap∧l.length≤cap∧cap≤maxLen∧(l≠[]→∃g o,j=some ⟨g,o,none⟩∧S g∧∀(i:Nat)(b:Br α),l[i]?=some b→w.cell? ⟨g,o+i*3,none⟩=some (.string b.l)∧w.cell? ⟨g,o+i*3+1,none⟩=some (.int .i64 b.s)∧∃u,w.cell? ⟨g,o+i*3+2,none⟩=some u∧C b.p u)
theorem Iw.carry{α:Type}{J j:α→Value→Prop}{w w':World}{S S':Nat→Prop}{v:Value}{l:List (Br α)}(h:Iw J w S v l)(C:∀g,S g→w'.heap[g]?=w.heap[g]?)(hB:∀g,S g→S' g)(hp:∀b∈l,∀u,J b.p u→j b.p u):Iw j w' S' v l:=by obtain⟨P,cap,e,T,U,h3⟩:=h;refine⟨P,cap,e,T,U,fun I=>?_⟩;obtain⟨g,o,e1,e2,R⟩:=h3 I;refine⟨g,o,e1,hB g e2,fun i b hi=>?_⟩;obtain⟨k1,k2,u,k3,k4⟩:=R i b hi;exact⟨(World.cell?_of_block (a:=⟨g,o+i*3,none⟩) (C g e2)).trans k1,(World.cell?_of_block (a:=⟨g,o+i*3+1,none⟩) (C g e2)).trans k2,u,(World.cell?_of_block (a:=⟨g,o+i*3+2,none⟩) (C g e2)).trans k3,hp b (List.mem_of_getElem? hi) u k4⟩
structure BV(n:Nat)where
 b:Br (Pn n)
 u:Value
def BV.cells{n:Nat}(x:BV n):List Value:=[.string x.b.l,.int .i64 x.b.s,x.u]
theorem BV.aR{n:Nat}(x:BV n):x.cells.length=3:=rfl
def lo(n:Nat):Nat→Prop:=fun b=>b<n
def off(a n:Nat)(v:Value):Nat→Prop:=fun b=>(a≤b∧b<n)∧b∉an v
section
variable{n:Nat}
end
theorem kt(w:World)(l:List Value)(t:TypeId)(b:Nat)(C:b=w.heap.size)(j:Nat)(u:Value)(h:l[j]?=some u):(w.alloc (.cells l.toArray t)).cell? (Addr.add ⟨b,0,none⟩ j)=some u:=by subst C;exact dh w l t j u h
theorem sX(x:Option ByteArray):0<(dX x).length:=by cases x<;>simp[dX]
theorem cY:∀(n:Nat)(p:Pn n),0<(aI n p).length|0,p=>sX p|n+1,p=>Pn.cases (P:=fun p=>0<(aI (n+1) p).length) (fun x=>sX x) (fun x q=>by rw[gd];simp) (fun t l=>by rw[cA];simp) p
end
def wj(w:World):Prop:=w.cell? ⟨0,0,none⟩=some (.string (ba [110,111,110,101]))∧w.cell? ⟨0,1,none⟩=some (.string (ba [105,110,116]))∧w.cell? ⟨0,2,none⟩=some (.string (ba [116,101,120,116]))
theorem wj.lt{w:World}(h:wj w):0<w.heap.size:=World.block_lt_of_cell? w _ h.1
theorem wj.carry{w w':World}(h:wj w)(j:Below w.heap.size w w'):wj w':=⟨(j.cell (p:=⟨0,0,none⟩) h.lt).trans h.1,(j.cell (p:=⟨0,1,none⟩) h.lt).trans h.2.1,(j.cell (p:=⟨0,2,none⟩) h.lt).trans h.2.2⟩
theorem sS{go:List Nd→Option (List Nd)}{m k:Nat}{ls:List ByteArray}{l r:List Nd}(h:k<m)(j:aS go (m-k) ls l=some r):∃c l1 C,l=c::l1∧cI c=true∧go l1=some C∧aS go (m-(k+1)) (ls++[c.name]) C=some r:=by
 rw[show m-k=(m-(k+1))+1 from by omega]at j;cases l with
  |nil=>cases j|cons c l1=>
   rw[aS]at j;split at j;·
    rename_i J;split at j;·cases j
    ·rename_i C I;exact⟨c,l1,C,rfl,by simp at J;exact J.1,I,j⟩
   ·cases j
theorem nG{tf:List Nd→ByteArray×List Nd}{m k:Nat}{c:Nd}{l1:List Nd}(h:k<m):(bW tf (m-k) (c::l1)).1=iW c (tf l1).1::(bW tf (m-(k+1)) (tf l1).2).1:=by rw[show m-k=(m-(k+1))+1 from by omega,bW]
section
attribute [local go_sem ↓] Go.wp_at_zero Go.wp_at_succ
theorem Dh{α:Type}{f:α→List Nd}{l:List (Br α)}{k:Nat}{b:Br α}(I:l[k]?=some b):aX f (l.take (k+1))=aX f (l.take k)++[⟨4,b.l,bt,0,b.s⟩]++f b.p:=by obtain⟨j,C⟩:=List.getElem?_eq_some_iff.1 I;rw[List.take_succ_eq_append_getElem j,kP,C,cE];simp[aX]
theorem vm{α:Type}{f:α→List Nd}(l:List (Br α))(k:Nat):(aX f (l.take k)).length≤(aX f l).length:=by
 conv=>rhs;rw[←List.take_append_drop k l,kP,List.length_append]
 omega
end
theorem gD(n:Int)(w:World)(j:0≤n)(l:n≤2):Calls Tryz.prog 184 #[.int .i64 n] w fun e w'=>e=.returned (.string (eV n))∧Below w.heap.size w w':=by rcases(show n=0∨n=1∨n=2 by omega)with h|h|h;all_goals subst h;go_enter Tryz.func184,Tryz.ntmps184;go_wp2_with fail;go_ret;exact⟨dY rfl,aC _ _⟩
def lN(w:World)(v:Value)(all:List Nd):Prop:=∃b o cap,v=.slice (some ⟨b,o,none⟩) all.length cap∧all.length≤cap∧all.length≤4294967296∧bO w b o all∧b<w.heap.size
theorem lN.carry{w w':World}{v:Value}{all:List Nd}(h:lN w v all)(l:Below w.heap.size w w'):lN w' v all:=by obtain⟨b,o,cap,e,C,I,J,j⟩:=h;exact⟨b,o,cap,e,C,I,J.carry j l,Nat.lt_of_lt_of_le j l.size⟩
theorem la:∀{acc:List ByteArray}{x:ByteArray},acc≠[]→dV (acc++[x])=dV acc++ba [44]++x|[],_,h=>absurd rfl h|[t],x,_=>rfl|t::u::j,x,_=>by have ih:=la (acc:=u::j) (x:=x) (by simp);rw[dV,List.cons_append,List.cons_append,dV];rw[←List.cons_append,ih];apply ju;simp
def jq(j:Bool)(f:Nat):Prop:=∀(st all r:List Nd)(pos:Nat)(a:Int)(v:Value)(w:World),st.length+f=10→yI st→a=pos→pos≤all.length→all.length≤40→ahead (aQ j) f st (all.drop pos)=some r→lN w v all→Calls Tryz.prog 180 #[v,.int .i64 a] w fun e w'=>e=.returned (.tuple #[.string (bH f (all.drop pos)).1,.int .i64 ((all.length-r.length:Nat):Int)])∧Below w.heap.size w w'
theorem Fh(ab:Bool)(f:Nat)(st all r:List Nd)(j:Nat)(v:Value)(w:World)(ag:yI st)(T:j<all.length)(ad:all.length≤40)(many sort:Int)(name l:ByteArray)(hn:all[j]=⟨0,name,l,many,sort⟩)(P:ahead (aQ ab) f st (all.drop j)=some r)(hx:lN w v all):Calls Tryz.prog 180 #[v,.int .i64 j] w fun e w'=>e=.returned (.tuple #[.string (bH f (all.drop j)).1,.int .i64 ((all.length-r.length:Nat):Int)])∧Below w.heap.size w w':=by
 obtain⟨b,o,cap,rfl,hc,hm,J,af⟩:=hx;have I:=J.get j T;have C:all.drop j=⟨0,name,l,many,sort⟩::all.drop (j+1):=by rw[←hn];exact bX T
 rw[hn]at I;obtain⟨c0,c1,c2,c3,c4⟩:=I;dsimp only at c0 c1 c2 c3 c4;rw[C]at P⊢;rw[bU rfl]at P;obtain⟨U,ah,ac⟩:r=all.drop (j+1)∧name.size≤20∧l.size=0:=by
  split at P;·
   rename_i h;cases P;refine⟨rfl,?_,?_⟩;·
    have:name.size=0:=by
     have h0:name.data.toList=[]:=by rw[←Go.ByteArray.toList_eq];simp only[gO,Bool.and_eq_true,beq_iff_eq]at h;simp[h]
     have h3:name.size=name.data.toList.length:=rfl;rw[h3,h0];rfl
    omega
   ·exact by
     have h0:l.data.toList=[]:=by rw[←Go.ByteArray.toList_eq];simp only[gO,Bool.and_eq_true,beq_iff_eq]at h;simp[h]
     have h3:l.size=l.data.toList.length:=rfl;rw[h3,h0];rfl
  ·cases P
 have R:Hid ((bH f (⟨0,name,l,many,sort⟩::all.drop (j+1))).1=ba [101,110,100]∧r=all.drop (j+1)):=aa ⟨by cases f<;>rfl,U⟩;have ao:l.size≤20:=by rw[ac];simp
 clear J hn C P U;go_enter Tryz.func180,Tryz.ntmps180;go_wp2_with fail;go_ret2;refine⟨?_,aC _ _⟩;rw[R.out.1,R.out.2,List.length_drop,show((all.length-(all.length-(j+1)):Nat):Int)=(j:Int)+1 from by omega];rfl
theorem Fi(ab:Bool)(f:Nat)(st all r:List Nd)(l:Nat)(v:Value)(w:World)(af:yI st)(T:l<all.length)(ag:all.length≤40)(many sort:Int)(name j:ByteArray)(hn:all[l]=⟨1,name,j,many,sort⟩)(P:ahead (aQ ab) f st (all.drop l)=some r)(hx:lN w v all):Calls Tryz.prog 180 #[v,.int .i64 l] w fun e w'=>e=.returned (.tuple #[.string (bH f (all.drop l)).1,.int .i64 ((all.length-r.length:Nat):Int)])∧Below w.heap.size w w':=by
 obtain⟨b,o,cap,rfl,hc,hm,J,ah⟩:=hx;have I:=J.get l T;have C:all.drop l=⟨1,name,j,many,sort⟩::all.drop (l+1):=by rw[←hn];exact bX T
 rw[hn]at I;obtain⟨c0,c1,c2,c3,c4⟩:=I;dsimp only at c0 c1 c2 c3 c4;rw[C]at P⊢;rw[cV rfl]at P;obtain⟨U,ao,ad⟩:r=all.drop (l+1)∧name.size≤20∧j.size=0:=by
  split at P;·
   rename_i h';cases P;obtain⟨h,ac⟩:mJ ⟨1,name,j,many,sort⟩=true∧dH false st name=true:=by simpa using h'
   refine⟨rfl,rV st false name af ac,?_⟩;exact by
    have h0:j.data.toList=[]:=by rw[←Go.ByteArray.toList_eq];simp only[mJ,Bool.and_eq_true,beq_iff_eq]at h;simp[h]
    have h3:j.size=j.data.toList.length:=rfl;rw[h3,h0];rfl
  ·cases P
 have R:Hid ((bH f (⟨1,name,j,many,sort⟩::all.drop (l+1))).1=name∧r=all.drop (l+1)):=aa ⟨by cases f<;>rfl,U⟩;have av:j.size≤20:=by rw[ad];simp
 clear J hn C P U;go_enter Tryz.func180,Tryz.ntmps180;go_wp2_with fail;go_ret2;refine⟨?_,aC _ _⟩;rw[R.out.1,R.out.2,List.length_drop,show((all.length-(all.length-(l+1)):Nat):Int)=(l:Int)+1 from by omega];rfl
theorem JD(C:Bool)(f:Nat)(ih:jq C f)(st all r:List Nd)(l:Nat)(v:Value)(w:World)(U:st.length+(f+1)=10)(ah:yI st)(ag:l<all.length)(az:all.length≤40)(many sort:Int)(name j:ByteArray)(hn:all[l]=⟨2,name,j,many,sort⟩)(ha:ahead (aQ C) (f+1) st (all.drop l)=some r)(hx:lN w v all):Calls Tryz.prog 180 #[v,.int .i64 l] w fun e w'=>e=.returned (.tuple #[.string (bH (f+1) (all.drop l)).1,.int .i64 ((all.length-r.length:Nat):Int)])∧Below w.heap.size w w':=by
 have HX:=aa hx;have HI:=aa ih;have HL:=aa U;obtain⟨b,o,cap,rfl,hc,hm,ab,a1⟩:=hx;have J:=ab.get l ag;have I:all.drop l=⟨2,name,j,many,sort⟩::all.drop (l+1):=by rw[←hn];exact bX ag
 rw[hn]at J;obtain⟨c0,c1,c2,c3,c4⟩:=J;dsimp only at c0 c1 c2 c3 c4;rw[I]at ha⊢;rw[cR rfl]at ha;obtain⟨P,ac⟩:gS ⟨2,name,j,many,sort⟩=true∧ahead (aQ C) f (⟨2,name,j,many,sort⟩::st) (all.drop (l+1))=some r:=by
  split at ha;·rename_i h;simp only[Bool.and_eq_true]at h;exact⟨h.1,ha⟩
  ·cases ha
 have a0:name.size≤20:=by simp only[gS,Bool.and_eq_true]at P;exact fG P.2
 have a4:j.size≤20:=by
  have h0:j.data.toList=[]:=by rw[←Go.ByteArray.toList_eq];simp only[gS,Bool.and_eq_true,beq_iff_eq]at P;simp[P]
  have h3:j.size=j.data.toList.length:=rfl;rw[h3,h0];simp
 have R:yI (⟨2,name,j,many,sort⟩::st):=fun x hx h2=>by
  rcases List.mem_cons.1 hx with e|e;·rw[e];exact a0
  ·exact ah x e h2
 obtain⟨e1,s1⟩:=fq C f _ _ r R ac;obtain⟨t1,ad⟩:∃t1,(bH f (all.drop (l+1))).1=t1:=⟨_,rfl⟩;rw[ad]at s1;have a3:t1.size≤1720:=by rw[List.length_drop]at s1;omega
 have af:=aa ad;have ax:Hid ((bH (f+1) (⟨2,name,j,many,sort⟩::all.drop (l+1))).1=ba [114,101,99]++ba [32]++name++ba [46]++t1):=aa (by rw[←af.out];rfl);have ay:=aa R;have av:=aa ac;clear ab hn I ha P ac ah U e1 s1 ad R ih;go_enter Tryz.func180,Tryz.ntmps180;go_wp2_with(go_at_call 180;refine(HI.out (⟨2,name,j,many,sort⟩::st) all r (l+1) _ _ _ (by have:=HL.out;simp;omega) ay.out (by omega) (by omega) az av.out (HX.out.carry (aC _ _))).mono ?_;rintro e w1⟨rfl,T⟩;rw[af.out];obtain⟨d0,d1,d2,d3,d4⟩:=bw.carry (B:=_) (vl w ⟨2,name,j,many,sort⟩ 108) (by simp) T;dsimp only at d0 d1 d2 d3 d4;have a2:w.heap.size<w1.heap.size:=(by have:=T.size;simp at this;omega);have ao:Hid (Below w.heap.size w w1):=aa ((aC _ _).trans (T.mono (by simp)));clear T);go_ret2;refine⟨?_,ao.out⟩;rw[ax.out];first|rfl|(congr 4;done)|(congr 4;apply ju;simp[ba])
end Go.Proofs.YtlbcnmcfljaijaaGreat
