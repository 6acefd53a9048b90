import Derived.Test.YtdiiiijkhpdcbaaGreatDoorRD11
import Derived.Test.YtdiiiijkhpdcbaaGreatDoorRD09
import Derived.Test.YtdiiiijkhpdcbaaGreatDoorRD02
import Derived.Test.YtdiiiijkhpdcbaaGreatDoorRD05
import Derived.Test.YtdiiiijkhpdcbaaGreatDoorRD00
import Derived.Test.YtdiiiijkhpdcbaaGreatDoorRD08
import Derived.Test.YtdiiiijkhpdcbaaGreatDoorRD07
import Derived.Maps.OwnSet
import Derived.Test.YtdiiiijkhpdcbaaGreatDoorRD03
import Derived.Deep.RegionLaw
import Derived.Deep.DrawnRows
namespace Go.Proofs.YtdiiiijkhpdcbaaGreatDoor
open Go.RowKit
set_option linter.unusedSimpArgs false
set_option linter.unusedVariables false
set_option maxHeartbeats 1000000
set_option maxRecDepth 10000
theorem jG(st:List Nd)(j:jc st)(t:ByteArray)(h:eK false st t=true):bW st t=true:=by rw[mf st t j]at h;rw[fU];simp only[b8,List.any_eq_true]at h⊢;obtain⟨x,C,l⟩:=h;exact⟨x,List.mem_of_mem_take C,l⟩
theorem EN{n:Nd}{st l:List Nd}{fs:ByteArray→Int}{ns:List ByteArray}{fis:List Int}{len z:Int}(R:n.op=2)(P:bW st n.name=false)(ac:jc st)(h:Inv st (n::l) fs ns fis)(hz:fC l=false→z=len):Inv (n::st) l (fun x=>if x=n.name then len else fs x) (ns++[n.name]) (fis++[z]):=by
 have T:(n.op==2)=true:=by rw[R];rfl
 have U:fC (n::l)=fC l:=by rw[fC,if_neg (by rw[R];decide),if_pos T]
 have ab:b8 ns n.name=false:=by rw[h.names,←fU];exact P
 have J:∀t,bW st t=true→b8 ns t=true:=fun t j=>by rw[h.names,←fU];exact j
 refine⟨by rw[aU,if_pos T,h.names],by simp[h.len],fun t j=>?_,fun hc t j=>?_⟩;·
  rw[eK,if_pos T]at j;split at j;·cases j
  ·rename_i ad;have I:=jG st ac t j;have C:t≠n.name:=fun e=>by rw[e,P]at I;cases I
   show(if t=n.name then len else fs t)=_;rw[if_neg C,oB h.len,if_pos (J t I)];exact h.said t j
 ·show(if t=n.name then len else fs t)=_;rw[oB h.len];by_cases C:t=n.name;·rw[if_pos C,C,ab,hz hc];simp
  ·rw[if_neg C];have I:bW st t=true:=by
    rw[bW,List.any_cons,Bool.or_eq_true]at j;rcases j with j|j;·simp only[Bool.and_eq_true]at j;exact absurd (fZ.1 j.2).symm C
    ·exact j
   rw[if_pos (J t I)];exact h.open_ (by rw[U];exact hc) t I
theorem Gp:∀f:Nat,Hy f:=by
 intro f;induction f with
  |zero=>
   intro st l r fs sts eds E ns fis h U j;cases l with
    |nil=>cases h|cons n l=>
     rw[wv,sv,bO];by_cases C:(n.op==1)=true;·
      rw[if_pos C,if_pos C,if_pos C];rw[du (by simpa using C)]at h;split at h;·rename_i P;simp only[Bool.and_eq_true]at P;injection h with h;subst h;exact⟨j.said _ P.2,by simpa using lL (st:=st) (l:=l) (fs:=fs) (sts:=sts) (eds:=eds) (E:=E) []⟩
      ·cases h
     ·rw[if_neg C,if_neg C,if_neg C];by_cases h0:n.op=0;·
       rw[cQ h0]at h;split at h;·injection h with h;subst h;rw[if_neg (by rw[h0];decide)];exact⟨rfl,lL _⟩
       ·cases h
      ·rw[eC h0 (by simpa using C)]at h;cases h
  |succ f ih=>
   intro st l r fs sts eds E ns fis h U j;cases l with
    |nil=>cases h|cons n l=>
     rw[wv,sv,bO];by_cases C:(n.op==1)=true;·
      rw[if_pos C,if_pos C,if_pos C];rw[du (by simpa using C)]at h;split at h;·rename_i P;simp only[Bool.and_eq_true]at P;injection h with h;subst h;exact⟨j.said _ P.2,by simpa using lL (st:=st) (l:=l) (fs:=fs) (sts:=sts) (eds:=eds) (E:=E) []⟩
      ·cases h
     ·rw[if_neg C,if_neg C,if_neg C];by_cases J:(n.op==2)=true;·
       rw[if_pos J,if_pos J,if_pos J];have ac:n.op=2:=by simpa using J
       rw[dj ac]at h;split at h;·
        rename_i P;simp only[Bool.and_eq_true,Bool.not_eq_true']at P;have af:=P.2;have I:jc (n::st):=⟨.inr ⟨ac,by rw[←fU];exact af⟩,U⟩;have al:eK false (n::st) n.name=false:=by rw[eK,if_pos J,if_pos (by simp)]
        have ax:=tm f (n::st) l r ns fis n.name 0 sts.length h j.len al;have hi:=EN (len:=(sts.length:Int)) (z:=bO (ns++[n.name]) (fis++[0]) sts.length l) ac af U j (fun hc=>Aw h hc);obtain⟨e1,new,ab,R,E',ho,hp,ah,ad,an⟩:=ih (n::st) l r _ sts eds E _ _ h I hi;refine⟨e1.trans (tm f (n::st) l r ns fis n.name _ sts.length h j.len al),new,ab,R,E',ho,hp,ah,fun t T=>?_,an⟩;have av:t≠n.name:=fun e=>by rw[e,af]at T;cases T
        have:=ad t (by rw[bW,List.any_cons];rw[bW]at T;rw[T];simp);rw[this];show(if t=n.name then _ else fs t)=_;rw[if_neg av]
       ·cases h
      ·rw[if_neg J,if_neg J,if_neg J];have ao:∀t,bW (n::st) t=bW st t:=fun t=>by rw[bW,List.any_cons,Bool.eq_false_iff.2 J];simp[bW]
       have aq:fC (n::l)=false:=by rw[fC,if_neg C,if_neg J]
       by_cases h0:n.op=0;·
        rw[cQ h0]at h;split at h;·
         rename_i P;injection h with h;subst h;have hm:n.many.toNat=0:=by simp only[gX,Bool.and_eq_true,beq_iff_eq]at P;rw[P.1.2];rfl
         rw[hm,dy,ff];exact⟨rfl,lL _⟩
        ·cases h
       ·rw[eP h0 (by simpa using C) (by simpa using J)]at h;split at h;·
         have I:jc (n::st):=⟨.inl (by simpa using J),U⟩;have hr:aU (n::st)=aU st:=by rw[aU,if_neg J]
         obtain⟨new,ab,R,E',ho,hp,ah,ad,an⟩:=tw ih (st:=n::st) (ns:=ns) (fis:=fis) I (by rw[hr];exact j.names) j.len (fun t T=>jG _ I t T) (sts.length:Int) n.many.toNat [] l r fs (sts++[⟨eE n.op,n.peer⟩]) eds E h (fun t T=>j.open_ aq t (by rw[←ao];exact T));refine⟨rfl,new,ab,R,E',ho,hp,ah,fun t T=>ad t (by rw[ao];exact T),?_⟩;have:(sts++[(⟨eE n.op,n.peer⟩:aK)]).length=sts.length+1:=by simp
         omega
        ·cases h
structure IY(lo hi:Nat)(new:List aA):Prop where
 Eg:∀e∈new,(lo:Int)≤e.src∧e.src<(hi:Int)
 two:new.Pairwise fun a b=>¬(a.src=b.src∧a.label=b.label)
def F0(f:Nat):Prop:=∀(st l r:List Nd)(fs:ByteArray→Int)(sts:List aK)(eds:List aA),ahead (bA true) f st l=some r→∃new C j i,wv f l ⟨sts,eds,fs⟩=(i,r,⟨j,eds++new,C⟩)∧sts.length≤j.length∧IY sts.length j.length new
theorem vW{f:Nat}(hf:F0 f)(st:List Nd)(s:Nat):∀(m:Nat)(ls:List ByteArray)(l r:List Nd)(fs:ByteArray→Int)(sts:List aK)(eds:List aA),bw (ahead (bA true) f st) m ls l=some r→s<sts.length→∃new ad j,dy (wv f) (s:Int) m l ⟨sts,eds,fs⟩=(r,⟨j,eds++new,ad⟩)∧sts.length≤j.length∧(∀e∈new,(e.src=(s:Int)∧b8 ls e.label=false)∨((sts.length:Int)≤e.src∧e.src<(j.length:Int)))∧new.Pairwise (fun a b=>¬(a.src=b.src∧a.label=b.label))
 |0,ls,l,r,fs,sts,eds,h,_=>by rw[bw]at h;injection h with h;subst h;exact⟨[],fs,sts,by simp[dy],Nat.le_refl _,by simp,List.Pairwise.nil⟩|m+1,ls,[],r,fs,sts,eds,h,_=>by cases h|m+1,ls,c::l,r,fs,sts,eds,h,hs=>by
  rw[bw]at h;split at h;·
   rename_i R;simp only[Bool.and_eq_true,Bool.not_eq_true']at R;split at h;·cases h
   ·rename_i r1 ao;obtain⟨I,af,ab,i,ho,av,hn⟩:=hf st l r1 fs sts eds ao;obtain⟨T,ah,ac,al,aq,J,an⟩:=vW hf st s m (ls++[c.name]) r1 r af ab ((eds++I)++[⟨(s:Int),c.name,c.sort,i⟩]) h (by omega);refine⟨I++[⟨(s:Int),c.name,c.sort,i⟩]++T,ah,ac,?_,by omega,fun e C=>?_,?_⟩;·rw[dy,ho];simp only;rw[al];simp[List.append_assoc]
    ·rw[List.mem_append,List.mem_append]at C;rcases C with(C|C)|C;·have:=hn.Eg e C;right;omega
     ·simp at C;subst C;left;exact⟨rfl,R.2⟩
     ·rcases J e C with⟨q1,U⟩|q;·left;rw[kx,Bool.or_eq_false_iff]at U;exact⟨q1,U.1⟩
      ·right;omega
    ·rw[List.pairwise_append,List.pairwise_append];refine⟨⟨hn.two,List.pairwise_singleton _ _,fun a ha b P hk=>?_⟩,an,fun a ha b P hk=>?_⟩;·simp at P;subst P;have:=hn.Eg a ha;simp only at hk;omega
     ·rw[List.mem_append]at ha;rcases ha with ha|ha;·
       have q:=hn.Eg a ha;rcases J b P with⟨q1,_⟩|q1;·omega
       ·omega
      ·simp at ha;subst ha;simp only at hk;rcases J b P with⟨_,U⟩|q1;·rw[kx,Bool.or_eq_false_iff]at U;have:=U.2;rw[hk.2]at this;simp[b8]at this
       ·omega
  ·cases h
theorem C7:∀f:Nat,F0 f:=by
 intro f;induction f with
  |zero=>
   intro st l r fs sts eds h;cases l with
    |nil=>cases h|cons n l=>
     rw[wv];by_cases j:(n.op==1)=true;·
      rw[if_pos j];rw[du (by simpa using j)]at h;split at h;·injection h with h;subst h;exact⟨[],fs,sts,fs n.name,by simp,Nat.le_refl _,by simp,List.Pairwise.nil⟩
      ·cases h
     ·rw[if_neg j];by_cases C:n.op=0;·
       rw[cQ C]at h;split at h;·injection h with h;subst h;exact⟨[],fs,_,_,by rw[List.append_nil],by simp,by simp,List.Pairwise.nil⟩
       ·cases h
      ·rw[eC C (by simpa using j)]at h;cases h
  |succ f ih=>
   intro st l r fs sts eds h;cases l with
    |nil=>cases h|cons n l=>
     rw[wv];by_cases j:(n.op==1)=true;·
      rw[if_pos j];rw[du (by simpa using j)]at h;split at h;·injection h with h;subst h;exact⟨[],fs,sts,fs n.name,by simp,Nat.le_refl _,by simp,List.Pairwise.nil⟩
      ·cases h
     ·rw[if_neg j];by_cases J:(n.op==2)=true;·
       rw[if_pos J];rw[dj (by simpa using J)]at h;split at h;·exact ih (n::st) l r _ sts eds h
       ·cases h
      ·rw[if_neg J];by_cases C:n.op=0;·
        rw[cQ C]at h;split at h;·
         rename_i U;injection h with h;subst h;have hm:n.many.toNat=0:=by simp only[gX,Bool.and_eq_true,beq_iff_eq]at U;rw[U.1.2];rfl
         rw[hm,dy];exact⟨[],fs,_,_,by rw[List.append_nil],by simp,by simp,List.Pairwise.nil⟩
        ·cases h
       ·rw[eP C (by simpa using j) (by simpa using J)]at h;split at h;·
         obtain⟨new,P,I,ho,T,hr,hp⟩:=vW ih (n::st) sts.length n.many.toNat [] l r fs (sts++[⟨eE n.op,n.peer⟩]) eds h (by simp);have R:(sts++[(⟨eE n.op,n.peer⟩:aK)]).length=sts.length+1:=by simp
         rw[R]at T hr;refine⟨new,P,I,_,by rw[ho],by omega,fun e he=>?_,hp⟩;rcases hr e he with⟨q,_⟩|q;·omega
         ·omega
        ·cases h
def Up(l:List aA):Prop:=l.Pairwise fun a b=>bT b a=false
theorem s5:∀x:List UInt8,Op.bytesLess x x=false|[]=>rfl|a::x=>by simp[Op.bytesLess,s5 x]
theorem vo:∀x y z:List UInt8,Op.bytesLess x y=true→Op.bytesLess y z=true→Op.bytesLess x z=true
 |_,[],_,h,_=>by simp[Op.bytesLess]at h|_,_::_,[],_,h=>by simp[Op.bytesLess]at h|[],_::_,_::_,_,_=>rfl|a::x,b::y,c::z,j,h2=>by
  simp only[Op.bytesLess,Bool.or_eq_true,Bool.and_eq_true,decide_eq_true_eq,beq_iff_eq]at j h2⊢;rcases j with j|⟨rfl,j⟩;·
   rcases h2 with h2|⟨rfl,h2⟩;·exact .inl (UInt8.lt_trans j h2)
   ·exact .inl j
  ·rcases h2 with h2|⟨rfl,h2⟩;·exact .inl h2
   ·exact .inr ⟨rfl,vo x y z j h2⟩
theorem vn:∀x y:List UInt8,Op.bytesLess x y=false→Op.bytesLess y x=false→x=y
 |[],[],_,_=>rfl|[],_::_,h,_=>by simp[Op.bytesLess]at h|_::_,[],_,h=>by simp[Op.bytesLess]at h|a::x,b::y,j,h2=>by
  simp only[Op.bytesLess,Bool.or_eq_false_iff,Bool.and_eq_false_iff,decide_eq_false_iff_not,UInt8.not_lt]at j h2;have l:a=b:=UInt8.le_antisymm h2.1 j.1;subst l;have C:Op.bytesLess x y=false:=by rcases j.2 with h|h<;>simp_all
  have I:Op.bytesLess y x=false:=by rcases h2.2 with h|h<;>simp_all
  rw[vn x y C I]
theorem qL{a b c:aA}(l:bT a b=true)(j:bT b c=true):bT a c=true:=by
 simp only[bT,Bool.or_eq_true,Bool.and_eq_true,decide_eq_true_eq,beq_iff_eq]at l j⊢;rcases l with l|⟨I,l⟩;·
  rcases j with j|⟨C,j⟩;·exact .inl (by omega)
  ·exact .inl (by omega)
 ·rcases j with j|⟨C,j⟩;·exact .inl (by omega)
  ·exact .inr ⟨by omega,vo _ _ _ l j⟩
theorem qK{a b:aA}(l:bT a b=false)(C:bT b a=false):a.src=b.src∧a.label=b.label:=by
 simp only[bT,Bool.or_eq_false_iff,Bool.and_eq_false_iff,decide_eq_false_iff_not]at l C;have j:a.src=b.src:=by omega
 refine⟨j,?_⟩;have I:Op.bytesLess a.label.toList b.label.toList=false:=by rcases l.2 with h|h;simp[j]at h;exact h
 have J:Op.bytesLess b.label.toList a.label.toList=false:=by rcases C.2 with h|h;simp[j]at h;exact h
 exact fZ.1 (by rw[vn _ _ I J];simp)
theorem tf(a:aA):bT a a=false:=by simp[bT,s5]
theorem F9{a b c:aA}(C:bT b a=false)(j:bT c b=false):bT c a=false:=by
 cases h:bT c a;·rfl
 ·exfalso;cases l:bT a b;·
   obtain⟨I,J⟩:=qK l C;have:bT c b=bT c a:=by simp[bT,I,J]
   rw[this,h]at j;cases j
  ·rw[qL h l]at j;cases j
theorem DZ(e:aA):∀{l:List aA},Up l→Up (gK e l)
 |[],_=>by simp[gK,Up]|x::l,h=>by
  unfold gK;rw[List.takeWhile_cons,List.dropWhile_cons];obtain⟨P,R⟩:=List.pairwise_cons.1 h;by_cases C:bT x e=true;·
   rw[if_pos C,if_pos C,List.cons_append];have ih:=DZ e R;refine List.pairwise_cons.2 ⟨fun y J=>?_,ih⟩;have j:y∈e::l:=(vT e l).mem_iff.1 J;rcases List.mem_cons.1 j with rfl|j;·
    cases T:bT y x;·rfl
    ·have:=qL C T;rw[tf]at this;cases this
   ·exact P y j
  ·rw[if_neg C,if_neg C,List.nil_append];refine List.pairwise_cons.2 ⟨fun y J=>?_,h⟩;have I:bT x e=false:=by simpa using C
   rcases List.mem_cons.1 J with rfl|J;·exact I
   ·exact F9 I (P y J)
theorem z6{go:List Nd→List aK×List aA→List Nd×List aK×List aA}{C:List Nd→Nat→Int}(j:∀l S,Up S.2→Up (go l S).2.2)(s:Int):∀(m:Nat)(l:List Nd)(S:List aK×List aA),Up S.2→Up (ff go C s m l S).2.2|0,_,_,h=>h|_+1,[],_,h=>h|m+1,c::l,S,h=>by rw[ff];exact z6 j s m _ _ (j _ _ (DZ _ h))
theorem Gm:∀(f:Nat)(ns:List ByteArray)(fis:List Int)(l:List Nd)(S:List aK×List aA),Up S.2→Up (sv f ns fis l S).2.2:=by
 intro f;induction f with
  |zero=>intro ns fis l S h;cases l with|nil=>exact h|cons n l=>rw[sv];split<;>exact h
  |succ f ih=>
   intro ns fis l S h;cases l with
    |nil=>exact h|cons n l=>
     rw[sv];split;·exact h
     ·split;·exact ih _ _ _ _ h
      ·exact z6 (ih ns fis) _ _ _ _ h
theorem D0:∀{l l':List aA},l.Perm l'→l.Pairwise (fun a b=>¬(a.src=b.src∧a.label=b.label))→Up l→Up l'→l=l'
 |[],l',j,_,_,_=>(List.Perm.nil_eq j)|a::l,[],j,_,_,_=>by have:=j.length_eq;simp at this|a::l,b::l',j,hd,J,h2=>by
  have I:a=b:=by
   rcases List.mem_cons.1 (j.mem_iff.1 (List.mem_cons_self))with h|h;·exact h
   ·rcases List.mem_cons.1 (j.mem_iff.2 (List.mem_cons_self (a:=b) (l:=l')))with C|C;·exact C.symm
    ·have P:=(List.pairwise_cons.1 J).1 b C;have R:=(List.pairwise_cons.1 h2).1 a h;exact absurd (qK R P) ((List.pairwise_cons.1 hd).1 b C)
  subst I;rw[D0 (List.Perm.cons_inv j) (List.pairwise_cons.1 hd).2 (List.pairwise_cons.1 J).2 (List.pairwise_cons.1 h2).2]
def Eh(ns:List Nd):Int×List Nd×Wv:=wv 10 ns ⟨[],[],fun _=>0⟩
def Gk(ns:List Nd):List Nd×List aK×List aA:=sv 10 [] [] ns ([],[])
def jE(ns:List Nd):ck:=⟨(Gk ns).2.1,(Gk ns).2.2,bO [] [] 0 ns⟩
theorem CR{ns:List Nd}(h:ahead (bA true) 10 [] ns=some []){es:List aA}(C:es.Perm (Eh ns).2.2.eds)(hu:Up es):(Eh ns).2.1=[]∧jE ns=⟨(Eh ns).2.2.sts,es,(Eh ns).1⟩:=by
 have I:Inv [] ns (fun _=>0) [] []:=⟨rfl,rfl,(fun t ht=>by cases ht),(fun _ t ht=>by cases ht)⟩;obtain⟨e1,new,ad,P,T,ho,hq,ac,_,_⟩:=Gp 10 [] ns [] (fun _=>0) [] [] [] [] [] h trivial I;obtain⟨J,ab,R,i,j,_,hn⟩:=C7 10 [] ns [] (fun _=>0) [] [] h;have U:Eh ns=(i,[],⟨R,[]++J,ab⟩):=j;have hs:Gk ns=([],P,T):=hq;rw[j]at ho;simp only[List.nil_append,Prod.mk.injEq,Wv.mk.injEq,true_and]at ho;obtain⟨rfl,rfl,rfl⟩:=ho;rw[j]at e1;simp only at e1;refine⟨by rw[U],?_⟩;have hE:T=es:=by
  refine(D0 (l:=es) (l':=T) ?_ ?_ hu ?_).symm;·rw[U]at C;simp only[List.nil_append]at C;exact C.trans (by simpa using ac.symm)
  ·rw[U]at C;simp only[List.nil_append]at C;exact hn.two.perm C.symm (fun h hk=>h ⟨hk.1.symm,hk.2.symm⟩)
  ·have:=Gm 10 [] [] ns ([],[]) (List.Pairwise.nil);have e:(sv 10 [] [] ns ([],[])).2.2=T:=by rw[hq]
   rwa[e]at this
 unfold jE;rw[hs,U,hE,e1];rfl
section
open Go.RowKit Go.Shelf Go.Sort Go.Lib Go.Proofs
theorem pS(a b:aA)(w:World):Calls Tryz.prog 187 #[a.val,b.val] w fun e w'=>e=.returned (.int .i64 (nV a b))∧∃q j,w'=grow (w.drewN q) j:=by have l:Hid (nV a b=G3 (mT a.src b.src) (mU a.label b.label)):=aa rfl;unfold aA.val;go_enter Tryz.func187,Tryz.ntmps187;go_wp2_with fail;go_region_held3(fun w'=>w'.cell? ⟨w.heap.size,0,none⟩=some (.int .i64 a.src)∧w'.cell? ⟨w.heap.size,1,none⟩=some (.string a.label)∧w'.cell? ⟨w.heap.size+1,0,none⟩=some (.int .i64 b.src)∧w'.cell? ⟨w.heap.size+1,1,none⟩=some (.string b.label))(go_keep)(first|(go_at_call 228;refine(px _ _ _).mono ?_;rintro e w'⟨rfl,rfl⟩)|(go_at_call 229;refine(py _ _ _).mono ?_;rintro e w'⟨rfl,rfl⟩)|(go_at_call 227;refine(B9 (mT a.src b.src) (mU a.label b.label) _ _ (by exact vu _ _ _ _ _ _ _ rfl) (by exact vu _ _ _ _ _ _ _ rfl)).mono ?_;rintro e w'⟨rfl,rfl⟩));all_goals go_wp2_with fail;go_ret;exact⟨bd l.out,1,_,by simp only[alloc_eq_grow,drew_grow,grow_grow];rfl⟩
theorem B7[Inhabited aA](j off size:Nat)(w:World):CmpLays Tryz.prog 187 #[] aA.cells 4 nV j off size w:=fun _ _ _ _ x y=>pS x y _
theorem uA(x y:aA):ltOf nV x y=bT x y:=by
 unfold ltOf nV G3 mT mU bT;by_cases j:x.src<y.src;·simp[j]
 ·by_cases C:y.src<x.src;·
   have:¬x.src=y.src:=by omega
   simp[j,C,this]
  ·have:x.src=y.src:=by omega
   cases I:Op.bytesLess x.label.toList y.label.toList;·
    by_cases l:(x.label.toList==y.label.toList)=true;·simp[this,l]
    ·simp[this,l]
   ·simp[this]
theorem FI:SWO (ltOf nV)where
 irrefl x:=by rw[uA];exact tf x
 trans x y z h1 h2:=by rw[uA]at*;exact qL h1 h2
 ntrans x y z h1 h2:=by rw[uA]at*;exact F9 h2 h1
theorem Tryz.EO:∀w,(isAgg 213).run Tryz.prog w=.ok true w:=Tryz.isAgg213
theorem Tryz.Hk:∀w,(Go.sizeOf 213).run Tryz.prog w=.ok 4 w:=Tryz.sizeOf213
theorem qR[Inhabited aA](d:Array aA):(flatK aA.cells 4 d).toList=d.toList.flatMap aA.cells:=by
 apply List.ext_getElem?;intro j;by_cases I:j<d.size*4;·
  have l:=get_flatK aA.cells 4 d j I;have hd:j/4<d.size:=by omega
  have C:=dV aA.cells 4 aA.bg d.toList (j/4) (by simpa using hd) (j%4) (by omega);rw[show j/4*4+j%4=j by omega]at C;rw[C];have J:j<(flatK aA.cells 4 d).size:=by simpa using I
  rw[Array.getElem?_toList,Array.getElem?_eq_getElem J];rw[getElem!_pos (flatK aA.cells 4 d) j J]at l;rw[l,getElem!_pos d (j/4) hd];have P:j%4<(aA.cells d[j/4]).length:=by rw[aA.bg];omega
  rw[getElem!_pos (aA.cells d[j/4]) (j%4) P];simp
 ·rw[List.getElem?_eq_none (by simp;omega),List.getElem?_eq_none (by rw[dO aA.cells 4 aA.bg];simp;omega)]
theorem DT(l F:Array Value)(h:F.size≤l.size):(putCells id 0 F l).toList.take F.size=F.toList:=by
 apply List.ext_getElem?;intro j;by_cases C:j<F.size;·rw[List.getElem?_take_of_lt C,Array.getElem?_toList,Array.getElem?_toList];simp[putCells,C,show j<l.size by omega]
 ·rw[List.getElem?_take_eq_none (by omega),List.getElem?_eq_none (by simp;omega)]
theorem Cv{w:World}{g n:Nat}{os:Array Obj}{j:Array Value}{e:TypeId}{l:Nat×Nat}(F:Array Value)(C:w.heap[g]?=some (.cells j e l)):(grow (putRow id (Sort.ahead w n) g 0 F) os).heap[g]?=some (.cells (putCells id 0 F j) e l):=by have I:g<w.heap.size:=(Array.getElem?_eq_some_iff.1 C).1;rw[heap_grow_old _ _ (by simpa using I)];simp[putRow,mapBlock,Sort.ahead,Array.getElem?_modify,C,onCells]
theorem Ai{w:World}{g n:Nat}{os:Array Obj}(F:Array Value):aI w (grow (putRow id (Sort.ahead w n) g 0 F) os) [g]:=by refine⟨rfl,rfl,rfl,by simp,fun k l j=>?_⟩;rw[heap_grow_old _ _ (by simpa using l)];have:g≠k:=fun e=>j (by simp[e]);simp[putRow,mapBlock,Sort.ahead,Array.getElem?_modify,this]
theorem yo(es:List aA)(base:Nat)(v:Value)(w:World)(an:bC w base v es)(hl:es.length≤1000):Calls Tryz.prog 253 #[v,.func (.func 187) #[] #[]] w fun e w'=>e=.returned (.tuple #[])∧∃T,T.Perm es∧Up T∧bC w' base v T∧aI w w' (aj v):=by
 haveI:Inhabited aA:=⟨⟨0,ByteArray.empty,0,0⟩⟩;obtain⟨al,hh⟩:=an;rcases hh with⟨rfl,h0⟩|⟨g,cap,R,rfl,hg,C,hc,ad,ab,ah⟩;·have:es=[]:=List.length_eq_zero_iff.1 h0;subst this;exact(Tryz.xa none 0 _ w).mono fun e w'⟨he,hw⟩=>⟨he,[],List.Perm.refl _,List.Pairwise.nil,by rw[hw];exact bC.nil _ _,by rw[hw];exact aI.refl _⟩
 ·have ay:g<w.heap.size:=(Array.getElem?_eq_some_iff.1 C).1;have aq:=qR es.toArray;have ac:bC w base (.slice (some ⟨g,0,none⟩) es.length cap) es:=⟨al,.inr ⟨g,cap,R,rfl,hg,C,hc,ad,ab,ah⟩⟩;have hH:HoldsK aA.cells 4 w g 0 es.toArray:=by
   intro j hj;refine⟨?_,by simp[World.frozen?,C]⟩;have I:j<(flatK aA.cells 4 es.toArray).size:=hj;have h1:(es.flatMap aA.cells)[j]?=some ((flatK aA.cells 4 es.toArray)[j]):=by
    have e:es.flatMap aA.cells=(flatK aA.cells 4 es.toArray).toList:=by simpa using aq.symm
    rw[e,Array.getElem?_toList];exact Array.getElem?_eq_getElem I
   rw[Nat.zero_add,getElem!_pos (flatK aA.cells 4 es.toArray) j I];exact cX ac rfl j _ h1
  have eg:∀args w,(callFunc 187 args).run Tryz.prog w=.ok (.enter 187 args) w:=enters_of Tryz.func187 (by kernel_rfl) rfl;have af:=AnyQ.slices_SortFunc Tryz.DJ 4 Tryz.EO Tryz.Hk aA.cells aA.bg aA.cells_one nV FI 187 #[] g 0 cap es.toArray w eg (B7 g 0 es.toArray.size w) hH ay (by simp;omega);have U:Calls Tryz.prog 253 #[.slice (some ⟨g,0,none⟩) es.length cap,.func (.func 187) #[] #[]] w _:=af;refine U.mono ?_;rintro e w'⟨he,l,n,os,hp,hs,rfl⟩;have P:l.size=es.length:=by have:=hp.1;simpa using this
  refine⟨he,l.toList,?_,?_,?_,?_⟩;·
   have h2:=hp.2.2;have e1:(l.extract 0 es.toArray.size).toList=l.toList:=by rw[show es.toArray.size=l.size by simp[P]];simp
   have e2:(es.toArray.extract 0 es.toArray.size).toList=es:=by simp
   rw[e1,e2]at h2;exact h2
  ·unfold Up;rw[List.pairwise_iff_getElem];intro i j hi hj ax;have I:j<l.size:=by simpa using hj
   have av:i<l.size:=by simpa using hi
   have:=hs i j (Nat.zero_le _) ax (by simpa[P]using I);rw[uA,getElem!_pos l _ I,getElem!_pos l _ av]at this;simpa using this
  ·have hF:(flatK aA.cells 4 l).size=es.length*4:=by rw[size_flatK,P]
   have ao:(flatK aA.cells 4 l).size≤R.size:=by rw[hF,ab];exact Nat.mul_le_mul_right 4 hc
   have J:l.toList.length=es.length:=by simpa using P
   unfold bC;rw[J];refine⟨by rw[dO aA.cells 4 aA.bg,J],.inr ⟨g,cap,putCells id 0 (flatK aA.cells 4 l) R,rfl,hg,Cv _ C,hc,ad,by simp[putCells,ab],?_⟩⟩;rw[←hF,DT _ _ ao];exact qR l
  ·have h3:aI w (sortWorldK aA.cells 4 w g 0 n l os) [g]:=Ai (w:=w) (g:=g) (n:=n) (os:=os) (flatK aA.cells 4 l);simpa[aj,aG]using h3
end
section
open Go.RowKit Go.Maps Go.ChangeMaps Go.MapKept
theorem lO:Keyed Tryz.prog 9:=string_keyed Tryz.underlying9
theorem zW{t:ByteArray}(h:t.size≤maxLen):∃j,keyOf Tryz.prog 9 (.string t)=some j:=by refine⟨.string t.data.toList,?_⟩;simp[keyOf,mapKey,Tryz.underlying9,h]
def qA(w:World)(b n:Nat)(fs:ByteArray→Int):Prop:=∃D:DataW Unit,w.ownsMap Tryz.prog 9 (plainElem Tryz.prog 2) b n D∧∀t j,keyOf Tryz.prog 9 (.string t)=some j→D.atKey j (.lit (.int .i64 0))=.lit (.int .i64 (fs t))
theorem GM(w:World):qA (w.alloc (.map #[] 0)) w.heap.size 0 (fun _=>0):=⟨.map [],World.ownsMap_made w _ _ _,fun t l j=>by rfl⟩
theorem qA.aD{w w':World}{fs:ByteArray→Int}{b n:Nat}{l:List Nat}(h:qA w b n fs)(P:aI w w' l)(R:b∉l):qA w' b n fs:=by obtain⟨D,I,J⟩:=h;refine⟨D,?_,J⟩;obtain⟨j,clock,C,T⟩:=I;exact⟨j,clock,(P.block b (Array.getElem?_eq_some_iff.1 C).1 R).trans C,T⟩
theorem qA.lt{w:World}{fs:ByteArray→Int}{b n:Nat}(h:qA w b n fs):b<w.heap.size:=by obtain⟨D,j,l⟩:=h;exact j.lt
theorem Eb(w:World):(zeroValue 2).run Tryz.prog w=.ok (.int .i64 0) w:=Tryz.zeroValue2 w
theorem EJ{w:World}{fs:ByteArray→Int}{b n:Nat}{t:ByteArray}(h:qA w b n fs)(P:t.size≤maxLen):(Instr.lookup 307 (.map (some b)) (.string t) false).run Tryz.prog w=.ok (.int .i64 (fs t)) w:=by obtain⟨D,I,J⟩:=h;obtain⟨R,l⟩:=zW P;obtain⟨c,C,j,-⟩:=I.lookup_int lO Tryz.underlying307 Tryz.underlying2 (Eb w) l;rw[J t R l]at j;injection j with j;injection j with _ j;rw[j];exact C
theorem GN{w:World}{fs:ByteArray→Int}{b n:Nat}{t:ByteArray}{z:Int}(h:qA w b n fs)(ht:t.size≤maxLen)(hn:n<1000)(hz:0≤z∧z≤1000000):∃w',(Instr.mapUpdate 307 (.map (some b)) (.string t) (.int .i64 z)).run Tryz.prog w=.ok () w'∧qA w' b (n+1) (fun x=>if x=t then z else fs x)∧aI w w' [b]:=by
 obtain⟨D,U,h2⟩:=h;obtain⟨kl,l⟩:=zW ht;have T:(Lit.int .i64 z).wf=true:=by simp[Lit.wf,IntKind.min,IntKind.max,IntKind.signed,IntKind.bits];omega
 obtain⟨w',I,C,P⟩:=U.update lO Tryz.underlying307 (by unfold maxLen;omega) l (plainElem_int (H:=Unit) Tryz.underlying2 (a:=z) T);refine⟨w',I,⟨_,C,fun x k' j=>?_⟩,aI.grown P⟩;by_cases J:k'=kl;·
  subst J;have hx:x=t:=by have:=lO.inj j l;injection this
  rw[atKey_put_same U.isMap (lO.key l)];simp[hx]
 ·rw[atKey_put_other J,h2 x k' j];have R:¬x=t:=fun e=>by rw[e,l]at j;exact J (Option.some.inj j).symm
  simp[R]
structure gB(w w':World)(base:Nat)(l:List Nat):Prop where
 os:w'.os=w.os
 tape:w'.tape=w.tape
 output:w'.output=w.output
 size:w.heap.size≤w'.heap.size
 block:∀b,b<base→b∉l→w'.heap[b]?=w.heap[b]?
theorem gB.refl(w:World)(base:Nat)(l:List Nat):gB w w base l:=⟨rfl,rfl,rfl,Nat.le_refl _,fun _ _ _=>rfl⟩
theorem gB.trans{a b c:World}{base:Nat}{l:List Nat}(h:gB a b base l)(j:gB b c base l):gB a c base l:=⟨j.os.trans h.os,j.tape.trans h.tape,j.output.trans h.output,Nat.le_trans h.size j.size,fun k C I=>(j.block k C I).trans (h.block k C I)⟩
theorem aI.kept{w w':World}{l l':List Nat}{base:Nat}(h:aI w w' l')(C:base≤w.heap.size)(I:∀b∈l',b∈l∨base≤b):gB w w' base l:=⟨h.os,h.tape,h.output,h.size,fun b j P=>h.block b (Nat.lt_of_lt_of_le j C) (fun J=>by rcases I b J with q|q;exact P q;omega)⟩
theorem gB.sl{w w':World}{base B:Nat}{l:List Nat}{v:Value}{ns:List Nd}(h:gB w w' base l)(J:B≤base)(j:∀b∈l,B≤b)(I:bF w B v ns):bF w' B v ns:=I.carry ⟨h.os,h.tape,h.output,h.size,fun k P=>h.block k (by omega) (fun C=>absurd (j k C) (by omega))⟩
structure gW(w:World)(wb mb base:Nat)(sv ev:Value)(nf:Nat)(W:Wv):Prop where
 box:ba w wb [sv,ev,.int .i64 0,.map (some mb)]
 st:cF w base sv W.sts
 ed:bC w base ev W.eds
 fs:qA w mb nf W.fs
 F8:∀b∈aj sv,b∉aj ev
 low:wb<base∧mb<base∧wb≠mb
 sz:base≤w.heap.size
theorem gW.aD{w w':World}{J mb base I:Nat}{sv ev:Value}{W:Wv}{l:List Nat}(h:gW w J mb base sv ev I W)(j:aI w w' l)(P:∀b∈l,w.heap.size≤b):gW w' J mb base sv ev I W:=have no:∀b,b<w.heap.size→b∉l:=fun b C R=>absurd (P b R) (by omega);⟨h.box.aD j (no _ h.box.lt),h.st.aD j (fun b C=>no b (h.st.fresh.hi b C)),h.ed.aD j (fun b C=>no b (h.ed.fresh.hi b C)),h.fs.aD j (no _ h.fs.lt),h.F8,h.low,Nat.le_trans h.sz j.size⟩
theorem gW.below{w w':World}{l mb base j:Nat}{sv ev:Value}{W:Wv}(h:gW w l mb base sv ev j W)(C:Below w.heap.size w w'):gW w' l mb base sv ev j W:=h.aD (ag C) (by simp)
theorem D6{w w3 T:World}{J mb base nf:Nat}{sv ev R:Value}{W:Wv}(h:gW w3 J mb base sv ev nf W)(x:aK)(o:Obj)(I:T.ownsRow base 152 2 R (W.sts.length+1) (W.sts.flatMap aK.cells++x.cells))(hg:(w3.alloc o).grownBy T sv.ownBlock)(ab:R.ownBlock=sv.ownBlock∨R.ownBlock=some (w3.alloc o).heap.size)(hw:Below w.heap.size w w3)(ac:base≤w.heap.size):gW (T.setCell ⟨J,0,none⟩ R) J mb base R ev nf ⟨W.sts++[x],W.eds,W.fs⟩∧gB w (T.setCell ⟨J,0,none⟩ R) base [J]∧aI w (T.setCell ⟨J,0,none⟩ R) (aj sv++[J]):=by
 obtain⟨p,cp,rfl⟩:=ak h.st;obtain⟨p4,c4,rfl⟩:=ak I;obtain⟨p5,c5,rfl⟩:=ak h.ed;have hA:aI w3 T (aj (.slice p W.sts.length cp)):=by have:=(ag (ae w3 o)).trans (aB hg);rwa[List.nil_append]at this
 have lo:=h.st.fresh.lo;have af:=h.ed.fresh.lo;have ad:=(au I).lo;have hl:=h.low;have hS:=aP T J 0 (.slice p4 (W.sts.length+1) c4);have C:=hA.trans hS;have U:∀b,(b∈aj (.slice p W.sts.length cp)++[J])→b=J∨base≤b:=fun b j=>by
  rw[List.mem_append]at j;rcases j with j|j;·exact .inr (lo b j)
  ·simp at j;exact .inl j
 refine⟨⟨?_,?_,?_,?_,?_,hl,?_⟩,?_,by have:=(ag hw).trans C;rwa[List.nil_append]at this⟩;·exact(h.box.aD hA (fun j=>by have:=lo _ j;omega)).set 0 (by simp) _
 ·exact cF.snoc (aQ I hS (fun b j l=>by have:=ad b j;simp at l;omega))
 ·exact h.ed.aD C (fun b j l=>by
   rw[List.mem_append]at l;rcases l with l|l;·exact h.F8 b l j
   ·have:=af b j;simp at l;omega)
 ·exact h.fs.aD C (fun l=>by rcases U _ l with q|q<;>omega)
 ·intro b j l;have P:=(aW rfl).2 j;rcases ab with e|e;·rw[e]at P;exact h.F8 b ((aW rfl).1 P) l
  ·rw[e]at P;have:=h.ed.fresh.hi b l;simp at P;omega
 ·exact Nat.le_trans h.sz C.size
 ·exact((ag hw).kept ac (by simp)).trans (C.kept h.sz (fun b j=>by rcases U b j with q|q;exact .inl (by simp[q]);exact .inr q))
theorem D7{w w3 T:World}{J mb base nf:Nat}{sv ev R:Value}{W:Wv}(h:gW w3 J mb base sv ev nf W)(x:aA)(o:Obj)(I:T.ownsRow base 213 4 R (W.eds.length+1) (W.eds.flatMap aA.cells++x.cells))(hg:(w3.alloc o).grownBy T ev.ownBlock)(ab:R.ownBlock=ev.ownBlock∨R.ownBlock=some (w3.alloc o).heap.size)(hw:Below w.heap.size w w3)(ac:base≤w.heap.size):gW (T.setCell ⟨J,1,none⟩ R) J mb base sv R nf ⟨W.sts,W.eds++[x],W.fs⟩∧gB w (T.setCell ⟨J,1,none⟩ R) base [J]∧aI w (T.setCell ⟨J,1,none⟩ R) (aj ev++[J]):=by
 obtain⟨p,cp,rfl⟩:=ak h.ed;obtain⟨p4,c4,rfl⟩:=ak I;obtain⟨p5,c5,rfl⟩:=ak h.st;have hA:aI w3 T (aj (.slice p W.eds.length cp)):=by have:=(ag (ae w3 o)).trans (aB hg);rwa[List.nil_append]at this
 have lo:=h.ed.fresh.lo;have af:=h.st.fresh.lo;have ad:=(au I).lo;have hl:=h.low;have hS:=aP T J 1 (.slice p4 (W.eds.length+1) c4);have C:=hA.trans hS;have U:∀b,(b∈aj (.slice p W.eds.length cp)++[J])→b=J∨base≤b:=fun b j=>by
  rw[List.mem_append]at j;rcases j with j|j;·exact .inr (lo b j)
  ·simp at j;exact .inl j
 refine⟨⟨?_,?_,?_,?_,?_,hl,?_⟩,?_,by have:=(ag hw).trans C;rwa[List.nil_append]at this⟩;·exact(h.box.aD hA (fun j=>by have:=lo _ j;omega)).set 1 (by simp) _
 ·exact h.st.aD C (fun b j l=>by
   rw[List.mem_append]at l;rcases l with l|l;·exact h.F8 b j l
   ·have:=af b j;simp at l;omega)
 ·exact bC.snoc (aQ I hS (fun b j l=>by have:=ad b j;simp at l;omega))
 ·exact h.fs.aD C (fun l=>by rcases U _ l with q|q<;>omega)
 ·intro b l j;have P:=(aW rfl).2 j;rcases ab with e|e;·rw[e]at P;exact h.F8 b l ((aW rfl).1 P)
  ·rw[e]at P;have:=h.st.fresh.hi b l;simp at P;omega
 ·exact Nat.le_trans h.sz C.size
 ·exact((ag hw).kept ac (by simp)).trans (C.kept h.sz (fun b j=>by rcases U b j with q|q;exact .inl (by simp[q]);exact .inr q))
end
structure FX(l r:List Nd)(W W':Wv):Prop where
 sts:W'.sts.length+r.length≤W.sts.length+l.length
 eds:W'.eds.length+r.length≤W.eds.length+l.length
def FY(f:Nat):Prop:=∀(st l r:List Nd)(W:Wv),ahead (bA true) f st l=some r→(wv f l W).2.1=r∧FX l r W (wv f l W).2.2
theorem vV{f:Nat}(C:FY f)(st:List Nd)(s:Int):∀(m:Nat)(ls:List ByteArray)(l r:List Nd)(W:Wv),bw (ahead (bA true) f st) m ls l=some r→(dy (wv f) s m l W).1=r∧FX l r W (dy (wv f) s m l W).2
 |0,ls,l,r,W,h=>by rw[bw]at h;injection h with h;subst h;exact⟨rfl,by simp[dy],by simp[dy]⟩|m+1,ls,[],r,W,h=>by cases h|m+1,ls,c::l,r,W,h=>by
  rw[bw]at h;split at h;·
   split at h;·cases h
   ·rename_i I j;obtain⟨J,g1⟩:=C st l I W j;rw[dy,J];obtain⟨P,g2⟩:=vV C st s m (ls++[c.name]) I r ⟨(wv f l W).2.2.sts,(wv f l W).2.2.eds++[⟨s,c.name,c.sort,(wv f l W).1⟩],(wv f l W).2.2.fs⟩ h;refine⟨P,?_,?_⟩;·have:=g1.sts;have:=g2.sts;simp only[List.length_cons]at*;omega
    ·have:=g1.eds;have:=g2.eds;simp only[List.length_cons,List.length_append,List.length_nil]at*;omega
  ·cases h
theorem uz:∀f:Nat,FY f:=by
 intro f;induction f with
  |zero=>
   intro st l r W h;cases l with
    |nil=>cases h|cons n l=>
     rw[wv];by_cases j:(n.op==1)=true;·
      rw[if_pos j];rw[du (by simpa using j)]at h;split at h;·injection h with h;subst h;exact⟨rfl,by simp,by simp⟩
      ·cases h
     ·rw[if_neg j];by_cases C:n.op=0;·
       rw[cQ C]at h;split at h;·injection h with h;subst h;exact⟨rfl,by simp;omega,by simp⟩
       ·cases h
      ·rw[eC C (by simpa using j)]at h;cases h
  |succ f ih=>
   intro st l r W h;cases l with
    |nil=>cases h|cons n l=>
     rw[wv];by_cases j:(n.op==1)=true;·
      rw[if_pos j];rw[du (by simpa using j)]at h;split at h;·injection h with h;subst h;exact⟨rfl,by simp,by simp⟩
      ·cases h
     ·rw[if_neg j];by_cases I:(n.op==2)=true;·
       rw[if_pos I];rw[dj (by simpa using I)]at h;split at h;·
        obtain⟨e,g⟩:=ih (n::st) l r ⟨W.sts,W.eds,fun x=>if x=n.name then(W.sts.length:Int)else W.fs x⟩ h;refine⟨e,?_,?_⟩;·have:=g.sts;simp only[List.length_cons]at*;omega
        ·have:=g.eds;simp only[List.length_cons]at*;omega
       ·cases h
      ·rw[if_neg I];by_cases C:n.op=0;·
        rw[cQ C]at h;split at h;·
         rename_i J;injection h with h;subst h;have P:n.many.toNat=0:=by simp only[gX,Bool.and_eq_true,beq_iff_eq]at J;rw[J.1.2];rfl
         rw[P,dy];exact⟨rfl,by simp;omega,by simp⟩
        ·cases h
       ·rw[eP C (by simpa using j) (by simpa using I)]at h;split at h;·
         obtain⟨e,g⟩:=vV ih (n::st) (W.sts.length:Int) n.many.toNat [] l r ⟨W.sts++[⟨eE n.op,n.peer⟩],W.eds,W.fs⟩ h;refine⟨e,?_,?_⟩;·have:=g.sts;simp only[List.length_cons,List.length_append,List.length_nil]at*;omega
         ·have:=g.eds;simp only[List.length_cons]at*;omega
        ·cases h
section
attribute [local go_sem ↓] Go.wp_at_zero Go.wp_at_succ
theorem s7(s:ByteArray)(w:World)(C:s.size≤1048576):Calls Tryz.prog 243 #[.string s] w fun e w'=>e=.returned (.string s)∧Below w.heap.size w w':=by have I:=aa C;clear C;go_enter Tryz.func243,Tryz.ntmps243;go_wp2_with(go_at_call 272;refine(Tryz.stringslite_Clone s _ (Nat.le_trans I.out (by omega))).mono ?_;rintro e J⟨rfl,j⟩;have l:=aa j;clear j);go_ret;exact⟨rfl,l.out⟩
theorem xJ(z:Int)(w:World):Calls Tryz.prog 305 #[.int .i64 z] w fun e w'=>e=.returned (.int .i64 (eE z))∧w'=w:=by
 by_cases j:z=5;·subst j;go_enter Tryz.func305,Tryz.ntmps305;go_wp2_with fail;go_ret;exact⟨rfl,rfl⟩
 ·by_cases l:z=6;·subst l;go_enter Tryz.func305,Tryz.ntmps305;go_wp2_with fail;go_ret;exact⟨rfl,rfl⟩
  ·have I:(z==5)=false:=by simpa using j
   have J:(z==6)=false:=by simpa using l
   have C:Hid (eE z=0):=aa (by simp[eE,j,l]);clear j l;go_enter Tryz.func305,Tryz.ntmps305;go_wp2_with fail;go_ret;exact⟨bd C.out,rfl⟩
theorem vp{w3 I:World}{J mb base T:Nat}{sv ev:Value}{W:Wv}{o:Obj}{v:Value}{j e size n:Nat}{U:List Value}(h:gW w3 J mb base sv ev T W)(C:w3.ownsRow j e size v n U)(hb:base≤j)(P:(w3.alloc o).grownBy I v.ownBlock):ba I J [sv,ev,.int .i64 0,.map (some mb)]:=by obtain⟨p,cp,rfl⟩:=ak C;have l:=(ag (ae w3 o)).trans (aB P);rw[List.nil_append]at l;exact h.box.aD l (fun R=>by have:=(au C).lo _ R;have:=h.low;omega)
def ju(n:Nd):Bool:=n.op==0||n.op==5||n.op==6
def jd(all:List Nd)(j:Nat):Nat:=((all.take j).filter ju).length
theorem jT{all:List Nd}{j:Nat}(h:j<all.length):jd all (j+1)=jd all j+(if ju all[j]then 1 else 0):=by unfold jd;rw[List.take_succ_eq_append_getElem h,List.filter_append,List.length_append];cases l:ju all[j]<;>simp[l]
theorem qb(all:List Nd)(j:Nat):jd all j≤j:=by
 unfold jd;have l:=List.length_filter_le ju (all.take j);have C:(all.take j).length≤j:=by simp;omega
 omega
structure oZ(w:World)(xb B:Nat)(all:List Nd)(ns:List ByteArray)(fis:List Int):Prop where
 c0:∃v,w.cell? ⟨xb,0,none⟩=some v∧bF w B v all
 nm:∃g cap,w.cell? ⟨xb,4,none⟩=some (.slice g ns.length cap)∧∀j(h:j<ns.length),∃b o,g=some ⟨b,o,none⟩∧b<B∧w.cell? ⟨b,o+j,none⟩=some (.string ns[j])
 fi:∃g cap,w.cell? ⟨xb,5,none⟩=some (.slice g fis.length cap)∧∀j(h:j<fis.length),∃b o,g=some ⟨b,o,none⟩∧b<B∧w.cell? ⟨b,o+j,none⟩=some (.int .i64 fis[j])
 lx:xb<B
theorem oZ.below{w w':World}{xb B:Nat}{all:List Nd}{ns:List ByteArray}{fis:List Int}(h:oZ w xb B all ns fis)(l:Below B w w'):oZ w' xb B all ns fis:=by
 obtain⟨⟨v,h1,h2⟩,⟨g,cap,h3,h4⟩,⟨U,C,h5,h6⟩,J⟩:=h;refine⟨⟨v,(l.cell (p:=⟨xb,0,none⟩) J).trans h1,h2.carry l⟩,⟨g,cap,(l.cell (p:=⟨xb,4,none⟩) J).trans h3,fun j T=>?_⟩,⟨U,C,(l.cell (p:=⟨xb,5,none⟩) J).trans h5,fun j T=>?_⟩,J⟩;·obtain⟨b,o,P,I,R⟩:=h4 j T;exact⟨b,o,P,I,(l.cell (p:=⟨b,o+j,none⟩) I).trans R⟩
 ·obtain⟨b,o,P,I,R⟩:=h6 j T;exact⟨b,o,P,I,(l.cell (p:=⟨b,o+j,none⟩) I).trans R⟩
theorem zy:∀{ns:List ByteArray}{fis:List Int}{t:ByteArray}{k:Nat},fis.length=ns.length→(∀j(h:j<ns.length),j<k→(ns[j].toList==t.toList)=false)→(I:k<ns.length)→(ns[k].toList==t.toList)=true→∀(C:k<fis.length),fX ns fis t=fis[k]|x::ns,z::fis,t,0,_,_,_,h,_=>by rw[fX];simp only[List.getElem_cons_zero]at h⊢;rw[if_pos h]|x::ns,z::fis,t,k+1,T,J,I,h,C=>by have l:=J 0 (by simp) (by omega);simp only[List.getElem_cons_zero]at l;rw[fX,l];simp only[List.getElem_cons_succ]at h⊢;exact zy (by simpa using T) (fun j P R=>by have:=J (j+1) (by simpa using P) (by omega);simpa using this) (by simpa using I) h (by simpa using C)
theorem ER{ns:List ByteArray}{fis:List Int}{t:ByteArray}(I:∀j(h:j<ns.length),(ns[j].toList==t.toList)=false):fX ns fis t=0:=by
 refine oA ?_;cases h:b8 ns t;·rfl
 ·simp only[b8,List.any_eq_true]at h;obtain⟨x,J,l⟩:=h;obtain⟨j,C,rfl⟩:=List.getElem_of_mem J;rw[I j C]at l;cases l
end
def sF(l:List Nd):Nat:=(l.filter ju).length
theorem ia(n:Nd)(l:List Nd):sF (n::l)=sF l+(if ju n then 1 else 0):=by unfold sF;cases h:ju n<;>simp[h]
theorem s9(all:List Nd)(j:Nat):jd all j+sF (all.drop j)=sF all:=by unfold jd sF;rw[←List.length_append,←List.filter_append,List.take_append_drop]
structure yQ(l r:List Nd)(S:List aK×List aA)(o:List Nd×List aK×List aA):Prop where
 rest:o.1=r
 sts:o.2.1.length+sF r=S.1.length+sF l
 eds:o.2.2.length+r.length≤S.2.length+l.length
theorem rh(e:aA)(l:List aA):(gK e l).length=l.length+1:=by have:=congrArg List.length (List.takeWhile_append_dropWhile (p:=fun x=>bT x e) (l:=l));simp only[gK,List.length_append,List.length_cons]at*;omega
def Hw(f:Nat):Prop:=∀(st l r:List Nd)(ns:List ByteArray)(fis:List Int)(S:List aK×List aA),ahead (bA true) f st l=some r→yQ l r S (sv f ns fis l S)
theorem tZ{f:Nat}(P:Hw f)(st:List Nd)(ns:List ByteArray)(fis:List Int)(s:Int):∀(m:Nat)(ls:List ByteArray)(l r:List Nd)(S:List aK×List aA),bw (ahead (bA true) f st) m ls l=some r→yQ l r S (ff (sv f ns fis) (fun l k=>bO ns fis k l) s m l S)
 |0,ls,l,r,S,h=>by rw[bw]at h;injection h with h;subst h;exact⟨rfl,rfl,Nat.le_refl _⟩|m+1,ls,[],r,S,h=>by cases h|m+1,ls,c::l,r,S,h=>by
  rw[bw]at h;split at h;·
   rename_i J;split at h;·cases h
   ·rename_i R I;have g1:=P st l R ns fis (S.1,gK ⟨s,c.name,c.sort,bO ns fis S.1.length l⟩ S.2) I;have C:ju c=false:=by simp only[eD,Bool.and_eq_true,beq_iff_eq]at J;unfold ju;rw[J.1.1.1.1.1];rfl
    have e:ff (sv f ns fis) (fun l k=>bO ns fis k l) s (m+1) (c::l) S=ff (sv f ns fis) (fun l k=>bO ns fis k l) s m (sv f ns fis l (S.1,gK ⟨s,c.name,c.sort,bO ns fis S.1.length l⟩ S.2)).1 (sv f ns fis l (S.1,gK ⟨s,c.name,c.sort,bO ns fis S.1.length l⟩ S.2)).2:=rfl;rw[e];obtain⟨X,U⟩:∃X,sv f ns fis l (S.1,gK ⟨s,c.name,c.sort,bO ns fis S.1.length l⟩ S.2)=X:=⟨_,rfl⟩;rw[U]at g1⊢;obtain rfl:X.1=R:=g1.rest;have g2:=tZ P st ns fis s m (ls++[c.name]) X.1 r X.2 h;refine⟨g2.rest,?_,?_⟩;·have j:=g1.sts;have T:=g2.sts;rw[ia,C];simp only[Bool.false_eq_true,if_false];dsimp only at j;omega
    ·have j:=g1.eds;have T:=g2.eds;dsimp only at j;rw[rh]at j;simp only[List.length_cons];omega
  ·cases h
theorem Gl:∀f:Nat,Hw f:=by
 intro f;induction f with
  |zero=>
   intro st l r ns fis S h;cases l with
    |nil=>cases h|cons n l=>
     rw[sv];by_cases j:n.op=1;·
      rw[if_pos (by simpa using j)];rw[du j]at h;split at h;·injection h with h;subst h;exact⟨rfl,by rw[ia];simp[ju,j],by simp⟩
      ·cases h
     ·rw[if_neg (by simpa using j)];by_cases C:n.op=0;·
       rw[cQ C]at h;split at h;·injection h with h;subst h;exact⟨rfl,by rw[ia];simp[ju,C];omega,by simp⟩
       ·cases h
      ·rw[eC C j]at h;cases h
  |succ f ih=>
   intro st l r ns fis S h;cases l with
    |nil=>cases h|cons n l=>
     rw[sv];by_cases j:n.op=1;·
      rw[if_pos (by simpa using j)];rw[du j]at h;split at h;·injection h with h;subst h;exact⟨rfl,by rw[ia];simp[ju,j],by simp⟩
      ·cases h
     ·rw[if_neg (by simpa using j)];by_cases I:n.op=2;·
       rw[if_pos (by simpa using I)];rw[dj I]at h;split at h;·have g:=ih _ l r (ns++[n.name]) (fis++[bO (ns++[n.name]) (fis++[0]) S.1.length l]) S h;exact⟨g.rest,by have:=g.sts;rw[ia];simp[ju,I];exact this,by have:=g.eds;simp only[List.length_cons];omega⟩
       ·cases h
      ·rw[if_neg (by simpa using I)];by_cases C:n.op=0;·
        rw[cQ C]at h;split at h;·
         rename_i J;injection h with h;subst h;have R:n.many=0:=by simp only[gX,Bool.and_eq_true,beq_iff_eq]at J;exact J.1.2
         rw[R];exact⟨rfl,by rw[ia];simp[ju,C,ff];omega,by simp[ff]⟩
        ·cases h
       ·rw[eP C j I]at h;split at h;·
         rename_i P;have g:=tZ ih (n::st) ns fis (S.1.length:Int) n.many.toNat [] l r (S.1++[⟨eE n.op,n.peer⟩],S.2) h;have T:ju n=true:=by simp only[bA,Bool.and_eq_true,Bool.or_eq_true,beq_iff_eq,if_true]at P;unfold ju;rcases P.2.2 with e|e<;>rw[e]<;>rfl
         exact⟨g.rest,by have:=g.sts;rw[ia,T];simp only[List.length_append,List.length_cons,List.length_nil,if_true]at*;omega,by have:=g.eds;simp only[List.length_cons]at*;omega⟩
        ·cases h
theorem EP{all r:List Nd}{j:Nat}(h:r<:+all.drop j):r=all.drop (all.length-r.length)∧all.length-r.length≤all.length∧r.length≤all.length-j:=by have C:=h.trans (List.drop_suffix j all);have l:=h.length_le;rw[List.length_drop]at l;exact⟨List.suffix_iff_eq_drop.1 C,by omega,l⟩
end Go.Proofs.YtdiiiijkhpdcbaaGreatDoor
