import Derived.Test.YtlbcnmcfljaijaaGreatQN11
import Derived.Test.YtlbcnmcfljaijaaGreatQN00
import Derived.Maps.OwnSet
import Derived.Test.YtlbcnmcfljaijaaGreatQN06
import Derived.Test.YtlbcnmcfljaijaaGreatQN02
namespace Go.Proofs.YtlbcnmcfljaijaaGreat
open Go.RowKit
set_option linter.unusedSimpArgs false
set_option linter.unusedVariables false
set_option maxHeartbeats 1000000
set_option maxRecDepth 10000
theorem jZ(st:List Nd)(j:js st)(t:ByteArray)(h:dH false st t=true):bG st t=true:=by rw[nD st t j]at h;rw[fP];simp only[cH,List.any_eq_true]at h⊢;obtain⟨x,C,l⟩:=h;exact⟨x,List.mem_of_mem_take C,l⟩
theorem Gk{n:Nd}{st l:List Nd}{fs:ByteArray→Int}{ns:List ByteArray}{fis:List Int}{len z:Int}(R:n.op=2)(P:bG st n.name=false)(ac:js st)(h:Inv st (n::l) fs ns fis)(hz:ft l=false→z=len):Inv (n::st) l (fun x=>if x=n.name then len else fs x) (ns++[n.name]) (fis++[z]):=by
 have T:(n.op==2)=true:=by rw[R];rfl
 have U:ft (n::l)=ft l:=by rw[ft,if_neg (by rw[R];decide),if_pos T]
 have ab:cH ns n.name=false:=by rw[h.names,←fP];exact P
 have J:∀t,bG st t=true→cH ns t=true:=fun t j=>by rw[h.names,←fP];exact j
 refine⟨by rw[aM,if_pos T,h.names],by simp[h.len],fun t j=>?_,fun hc t j=>?_⟩;·
  rw[dH,if_pos T]at j;split at j;·cases j
  ·rename_i ad;have I:=jZ st ac t j;have C:t≠n.name:=fun e=>by rw[e,P]at I;cases I
   show(if t=n.name then len else fs t)=_;rw[if_neg C,pT h.len,if_pos (J t I)];exact h.said t j
 ·show(if t=n.name then len else fs t)=_;rw[pT h.len];by_cases C:t=n.name;·rw[if_pos C,C,ab,hz hc];simp
  ·rw[if_neg C];have I:bG st t=true:=by
    rw[bG,List.any_cons,Bool.or_eq_true]at j;rcases j with j|j;·simp only[Bool.and_eq_true]at j;exact absurd (fh.1 j.2).symm C
    ·exact j
   rw[if_pos (J t I)];exact h.open_ (by rw[U];exact hc) t I
theorem Iv:∀f:Nat,J2 f:=by
 intro f;induction f with
  |zero=>
   intro st l r fs sts eds E ns fis h U j;cases l with
    |nil=>cases h|cons n l=>
     rw[wv,sv,bq];by_cases C:(n.op==1)=true;·
      rw[if_pos C,if_pos C,if_pos C];rw[cV (by simpa using C)]at h;split at h;·rename_i P;simp only[Bool.and_eq_true]at P;injection h with h;subst h;exact⟨j.said _ P.2,by simpa using mX (st:=st) (l:=l) (fs:=fs) (sts:=sts) (eds:=eds) (E:=E) []⟩
      ·cases h
     ·rw[if_neg C,if_neg C,if_neg C];by_cases h0:n.op=0;·
       rw[bU h0]at h;split at h;·injection h with h;subst h;rw[if_neg (by rw[h0];decide)];exact⟨rfl,mX _⟩
       ·cases h
      ·rw[ct h0 (by simpa using C)]at h;cases h
  |succ f ih=>
   intro st l r fs sts eds E ns fis h U j;cases l with
    |nil=>cases h|cons n l=>
     rw[wv,sv,bq];by_cases C:(n.op==1)=true;·
      rw[if_pos C,if_pos C,if_pos C];rw[cV (by simpa using C)]at h;split at h;·rename_i P;simp only[Bool.and_eq_true]at P;injection h with h;subst h;exact⟨j.said _ P.2,by simpa using mX (st:=st) (l:=l) (fs:=fs) (sts:=sts) (eds:=eds) (E:=E) []⟩
      ·cases h
     ·rw[if_neg C,if_neg C,if_neg C];by_cases J:(n.op==2)=true;·
       rw[if_pos J,if_pos J,if_pos J];have ac:n.op=2:=by simpa using J
       rw[cR ac]at h;split at h;·
        rename_i P;simp only[Bool.and_eq_true,Bool.not_eq_true']at P;have af:=P.2;have I:js (n::st):=⟨.inr ⟨ac,by rw[←fP];exact af⟩,U⟩;have ah:dH false (n::st) n.name=false:=by rw[dH,if_pos J,if_pos (by simp)]
        have az:=ux f (n::st) l r ns fis n.name 0 sts.length h j.len ah;have hi:=Gk (len:=(sts.length:Int)) (z:=bq (ns++[n.name]) (fis++[0]) sts.length l) ac af U j (fun hc=>BK h hc);obtain⟨e1,new,ab,R,E',ho,hp,ag,ad,ao⟩:=ih (n::st) l r _ sts eds E _ _ h I hi;refine⟨e1.trans (ux f (n::st) l r ns fis n.name _ sts.length h j.len ah),new,ab,R,E',ho,hp,ag,fun t T=>?_,ao⟩;have ay:t≠n.name:=fun e=>by rw[e,af]at T;cases T
        have:=ad t (by rw[bG,List.any_cons];rw[bG]at T;rw[T];simp);rw[this];show(if t=n.name then _ else fs t)=_;rw[if_neg ay]
       ·cases h
      ·rw[if_neg J,if_neg J,if_neg J];have av:∀t,bG (n::st) t=bG st t:=fun t=>by rw[bG,List.any_cons,Bool.eq_false_iff.2 J];simp[bG]
       have ax:ft (n::l)=false:=by rw[ft,if_neg C,if_neg J]
       by_cases h0:n.op=0;·
        rw[bU h0]at h;split at h;·
         rename_i P;injection h with h;subst h;have hm:n.many.toNat=0:=by simp only[gO,Bool.and_eq_true,beq_iff_eq]at P;rw[P.1.2];rfl
         rw[hm,cZ,dK];exact⟨rfl,mX _⟩
        ·cases h
       ·rw[cM h0 (by simpa using C) (by simpa using J)]at h;split at h;·
         have I:js (n::st):=⟨.inl (by simpa using J),U⟩;have hr:aM (n::st)=aM st:=by rw[aM,if_neg J]
         obtain⟨new,ab,R,E',ho,hp,ag,ad,ao⟩:=uH ih (st:=n::st) (ns:=ns) (fis:=fis) I (by rw[hr];exact j.names) j.len (fun t T=>jZ _ I t T) (sts.length:Int) n.many.toNat [] l r fs (sts++[⟨dW n.op,n.peer⟩]) eds E h (fun t T=>j.open_ ax t (by rw[←av];exact T));refine⟨rfl,new,ab,R,E',ho,hp,ag,fun t T=>ad t (by rw[av];exact T),?_⟩;have:(sts++[(⟨dW n.op,n.peer⟩:aB)]).length=sts.length+1:=by simp
         omega
        ·cases h
structure KS(lo hi:Nat)(new:List ar):Prop where
 vZ:∀e∈new,(lo:Int)≤e.src∧e.src<(hi:Int)
 two:new.Pairwise fun a b=>¬(a.src=b.src∧a.label=b.label)
def Ia(f:Nat):Prop:=∀(st l r:List Nd)(fs:ByteArray→Int)(sts:List aB)(eds:List ar),ahead (aQ true) f st l=some r→∃new C j i,wv f l ⟨sts,eds,fs⟩=(i,r,⟨j,eds++new,C⟩)∧sts.length≤j.length∧KS sts.length j.length new
theorem xB{f:Nat}(hf:Ia f)(st:List Nd)(s:Nat):∀(m:Nat)(ls:List ByteArray)(l r:List Nd)(fs:ByteArray→Int)(sts:List aB)(eds:List ar),aS (ahead (aQ true) f st) m ls l=some r→s<sts.length→∃new ad j,cZ (wv f) (s:Int) m l ⟨sts,eds,fs⟩=(r,⟨j,eds++new,ad⟩)∧sts.length≤j.length∧(∀e∈new,(e.src=(s:Int)∧cH ls e.label=false)∨((sts.length:Int)≤e.src∧e.src<(j.length:Int)))∧new.Pairwise (fun a b=>¬(a.src=b.src∧a.label=b.label))
 |0,ls,l,r,fs,sts,eds,h,_=>by rw[aS]at h;injection h with h;subst h;exact⟨[],fs,sts,by simp[cZ],Nat.le_refl _,by simp,List.Pairwise.nil⟩|m+1,ls,[],r,fs,sts,eds,h,_=>by cases h|m+1,ls,c::l,r,fs,sts,eds,h,hs=>by
  rw[aS]at h;split at h;·
   rename_i T;simp only[Bool.and_eq_true,Bool.not_eq_true']at T;split at h;·cases h
   ·rename_i r1 av;obtain⟨J,af,ab,i,ho,ay,hn⟩:=hf st l r1 fs sts eds av;obtain⟨U,ag,ac,ah,ax,P,ao⟩:=xB hf st s m (ls++[c.name]) r1 r af ab ((eds++J)++[⟨(s:Int),c.name,c.sort,i⟩]) h (by omega);refine⟨J++[⟨(s:Int),c.name,c.sort,i⟩]++U,ag,ac,?_,by omega,fun e I=>?_,?_⟩;·rw[cZ,ho];simp only;rw[ah];simp[List.append_assoc]
    ·rw[List.mem_append,List.mem_append]at I;rcases I with(I|I)|I;·have:=hn.vZ e I;right;omega
     ·simp at I;subst I;left;exact⟨rfl,T.2⟩
     ·rcases P e I with⟨q1,q2⟩|q;·left;rw[kZ,Bool.or_eq_false_iff]at q2;exact⟨q1,q2.1⟩
      ·right;omega
    ·rw[List.pairwise_append,List.pairwise_append];refine⟨⟨hn.two,List.pairwise_singleton _ _,fun a C b R hk=>?_⟩,ao,fun a C b R hk=>?_⟩;·simp at R;subst R;have:=hn.vZ a C;simp only at hk;omega
     ·rw[List.mem_append]at C;rcases C with C|C;·
       have q:=hn.vZ a C;rcases P b R with⟨q1,_⟩|q1;·omega
       ·omega
      ·simp at C;subst C;simp only at hk;rcases P b R with⟨_,q2⟩|q1;·rw[kZ,Bool.or_eq_false_iff]at q2;have:=q2.2;rw[hk.2]at this;simp[cH]at this
       ·omega
  ·cases h
theorem Ep:∀f:Nat,Ia f:=by
 intro f;induction f with
  |zero=>
   intro st l r fs sts eds h;cases l with
    |nil=>cases h|cons n l=>
     rw[wv];by_cases j:(n.op==1)=true;·
      rw[if_pos j];rw[cV (by simpa using j)]at h;split at h;·injection h with h;subst h;exact⟨[],fs,sts,fs n.name,by simp,Nat.le_refl _,by simp,List.Pairwise.nil⟩
      ·cases h
     ·rw[if_neg j];by_cases C:n.op=0;·
       rw[bU C]at h;split at h;·injection h with h;subst h;exact⟨[],fs,_,_,by rw[List.append_nil],by simp,by simp,List.Pairwise.nil⟩
       ·cases h
      ·rw[ct C (by simpa using j)]at h;cases h
  |succ f ih=>
   intro st l r fs sts eds h;cases l with
    |nil=>cases h|cons n l=>
     rw[wv];by_cases j:(n.op==1)=true;·
      rw[if_pos j];rw[cV (by simpa using j)]at h;split at h;·injection h with h;subst h;exact⟨[],fs,sts,fs n.name,by simp,Nat.le_refl _,by simp,List.Pairwise.nil⟩
      ·cases h
     ·rw[if_neg j];by_cases J:(n.op==2)=true;·
       rw[if_pos J];rw[cR (by simpa using J)]at h;split at h;·exact ih (n::st) l r _ sts eds h
       ·cases h
      ·rw[if_neg J];by_cases C:n.op=0;·
        rw[bU C]at h;split at h;·
         rename_i U;injection h with h;subst h;have hm:n.many.toNat=0:=by simp only[gO,Bool.and_eq_true,beq_iff_eq]at U;rw[U.1.2];rfl
         rw[hm,cZ];exact⟨[],fs,_,_,by rw[List.append_nil],by simp,by simp,List.Pairwise.nil⟩
        ·cases h
       ·rw[cM C (by simpa using j) (by simpa using J)]at h;split at h;·
         obtain⟨new,P,I,ho,T,hr,hp⟩:=xB ih (n::st) sts.length n.many.toNat [] l r fs (sts++[⟨dW n.op,n.peer⟩]) eds h (by simp);have R:(sts++[(⟨dW n.op,n.peer⟩:aB)]).length=sts.length+1:=by simp
         rw[R]at T hr;refine⟨new,P,I,_,by rw[ho],by omega,fun e he=>?_,hp⟩;rcases hr e he with⟨q,_⟩|q;·omega
         ·omega
        ·cases h
def Up(l:List ar):Prop:=l.Pairwise fun a b=>a7 b a=false
theorem pC:∀x:List UInt8,Op.bytesLess x x=false|[]=>rfl|a::x=>by simp[Op.bytesLess,pC x]
theorem wI:∀x y z:List UInt8,Op.bytesLess x y=true→Op.bytesLess y z=true→Op.bytesLess x z=true
 |_,[],_,h,_=>by simp[Op.bytesLess]at h|_,_::_,[],_,h=>by simp[Op.bytesLess]at h|[],_::_,_::_,_,_=>rfl|a::x,b::y,c::z,l,j=>by
  simp only[Op.bytesLess,Bool.or_eq_true,Bool.and_eq_true,decide_eq_true_eq,beq_iff_eq]at l j⊢;rcases l with l|⟨rfl,l⟩;·
   rcases j with j|⟨rfl,j⟩;·exact .inl (UInt8.lt_trans l j)
   ·exact .inl l
  ·rcases j with j|⟨rfl,j⟩;·exact .inl j
   ·exact .inr ⟨rfl,wI x y z l j⟩
theorem wH:∀x y:List UInt8,Op.bytesLess x y=false→Op.bytesLess y x=false→x=y
 |[],[],_,_=>rfl|[],_::_,h,_=>by simp[Op.bytesLess]at h|_::_,[],_,h=>by simp[Op.bytesLess]at h|a::x,b::y,j,l=>by
  simp only[Op.bytesLess,Bool.or_eq_false_iff,Bool.and_eq_false_iff,decide_eq_false_iff_not,UInt8.not_lt]at j l;have C:a=b:=UInt8.le_antisymm l.1 j.1;subst C;have e1:Op.bytesLess x y=false:=by rcases j.2 with h|h<;>simp_all
  have e2:Op.bytesLess y x=false:=by rcases l.2 with h|h<;>simp_all
  rw[wH x y e1 e2]
theorem oR{a b c:ar}(l:a7 a b=true)(j:a7 b c=true):a7 a c=true:=by
 simp only[a7,Bool.or_eq_true,Bool.and_eq_true,decide_eq_true_eq,beq_iff_eq]at l j⊢;rcases l with l|⟨e1,l⟩;·
  rcases j with j|⟨e2,j⟩;·exact .inl (by omega)
  ·exact .inl (by omega)
 ·rcases j with j|⟨e2,j⟩;·exact .inl (by omega)
  ·exact .inr ⟨by omega,wI _ _ _ l j⟩
theorem sw{a b:ar}(l:a7 a b=false)(C:a7 b a=false):a.src=b.src∧a.label=b.label:=by
 simp only[a7,Bool.or_eq_false_iff,Bool.and_eq_false_iff,decide_eq_false_iff_not]at l C;have j:a.src=b.src:=by omega
 refine⟨j,?_⟩;have e1:Op.bytesLess a.label.toList b.label.toList=false:=by rcases l.2 with h|h;simp[j]at h;exact h
 have e2:Op.bytesLess b.label.toList a.label.toList=false:=by rcases C.2 with h|h;simp[j]at h;exact h
 exact fh.1 (by rw[wH _ _ e1 e2];simp)
theorem um(a:ar):a7 a a=false:=by simp[a7,pC]
theorem Ij{a b c:ar}(C:a7 b a=false)(j:a7 c b=false):a7 c a=false:=by
 cases h:a7 c a;·rfl
 ·exfalso;cases l:a7 a b;·
   obtain⟨I,J⟩:=sw l C;have:a7 c b=a7 c a:=by simp[a7,I,J]
   rw[this,h]at j;cases j
  ·rw[oR h l]at j;cases j
theorem Fs(e:ar):∀{l:List ar},Up l→Up (fA e l)
 |[],_=>by simp[fA,Up]|x::l,h=>by
  unfold fA;rw[List.takeWhile_cons,List.dropWhile_cons];obtain⟨P,R⟩:=List.pairwise_cons.1 h;by_cases C:a7 x e=true;·
   rw[if_pos C,if_pos C,List.cons_append];have ih:=Fs e R;refine List.pairwise_cons.2 ⟨fun y J=>?_,ih⟩;have j:y∈e::l:=(xr e l).mem_iff.1 J;rcases List.mem_cons.1 j with rfl|j;·
    cases T:a7 y x;·rfl
    ·have:=oR C T;rw[um]at this;cases this
   ·exact P y j
  ·rw[if_neg C,if_neg C,List.nil_append];refine List.pairwise_cons.2 ⟨fun y J=>?_,h⟩;have I:a7 x e=false:=by simpa using C
   rcases List.mem_cons.1 J with rfl|J;·exact I
   ·exact Ij I (P y J)
theorem Bh{go:List Nd→List aB×List ar→List Nd×List aB×List ar}{C:List Nd→Nat→Int}(j:∀l S,Up S.2→Up (go l S).2.2)(s:Int):∀(m:Nat)(l:List Nd)(S:List aB×List ar),Up S.2→Up (dK go C s m l S).2.2|0,_,_,h=>h|_+1,[],_,h=>h|m+1,c::l,S,h=>by rw[dK];exact Bh j s m _ _ (j _ _ (Fs _ h))
theorem Iu:∀(f:Nat)(ns:List ByteArray)(fis:List Int)(l:List Nd)(S:List aB×List ar),Up S.2→Up (sv f ns fis l S).2.2:=by
 intro f;induction f with
  |zero=>intro ns fis l S h;cases l with|nil=>exact h|cons n l=>rw[sv];split<;>exact h
  |succ f ih=>
   intro ns fis l S h;cases l with
    |nil=>exact h|cons n l=>
     rw[sv];split;·exact h
     ·split;·exact ih _ _ _ _ h
      ·exact Bh (ih ns fis) _ _ _ _ h
theorem Ft:∀{l l':List ar},l.Perm l'→l.Pairwise (fun a b=>¬(a.src=b.src∧a.label=b.label))→Up l→Up l'→l=l'
 |[],l',j,_,_,_=>(List.Perm.nil_eq j)|a::l,[],j,_,_,_=>by have:=j.length_eq;simp at this|a::l,b::l',j,hd,J,P=>by
  have I:a=b:=by
   rcases List.mem_cons.1 (j.mem_iff.1 (List.mem_cons_self))with h|h;·exact h
   ·rcases List.mem_cons.1 (j.mem_iff.2 (List.mem_cons_self (a:=b) (l:=l')))with C|C;·exact C.symm
    ·have e1:=(List.pairwise_cons.1 J).1 b C;have e2:=(List.pairwise_cons.1 P).1 a h;exact absurd (sw e2 e1) ((List.pairwise_cons.1 hd).1 b C)
  subst I;rw[Ft (List.Perm.cons_inv j) (List.pairwise_cons.1 hd).2 (List.pairwise_cons.1 J).2 (List.pairwise_cons.1 P).2]
def FG(ns:List Nd):Int×List Nd×Wv:=wv 10 ns ⟨[],[],fun _=>0⟩
def It(ns:List Nd):List Nd×List aB×List ar:=sv 10 [] [] ns ([],[])
def iX(ns:List Nd):aN:=⟨(It ns).2.1,(It ns).2.2,bq [] [] 0 ns⟩
theorem Eb{ns:List Nd}(h:ahead (aQ true) 10 [] ns=some []){es:List ar}(C:es.Perm (FG ns).2.2.eds)(hu:Up es):(FG ns).2.1=[]∧iX ns=⟨(FG ns).2.2.sts,es,(FG ns).1⟩:=by
 have I:Inv [] ns (fun _=>0) [] []:=⟨rfl,rfl,(fun t ht=>by cases ht),(fun _ t ht=>by cases ht)⟩;obtain⟨e1,new,ad,P,T,ho,hq,ac,_,_⟩:=Iv 10 [] ns [] (fun _=>0) [] [] [] [] [] h trivial I;obtain⟨J,ab,R,i,j,_,hn⟩:=Ep 10 [] ns [] (fun _=>0) [] [] h;have U:FG ns=(i,[],⟨R,[]++J,ab⟩):=j;have hs:It ns=([],P,T):=hq;rw[j]at ho;simp only[List.nil_append,Prod.mk.injEq,Wv.mk.injEq,true_and]at ho;obtain⟨rfl,rfl,rfl⟩:=ho;rw[j]at e1;simp only at e1;refine⟨by rw[U],?_⟩;have hE:T=es:=by
  refine(Ft (l:=es) (l':=T) ?_ ?_ hu ?_).symm;·rw[U]at C;simp only[List.nil_append]at C;exact C.trans (by simpa using ac.symm)
  ·rw[U]at C;simp only[List.nil_append]at C;exact hn.two.perm C.symm (fun h hk=>h ⟨hk.1.symm,hk.2.symm⟩)
  ·have:=Iu 10 [] [] ns ([],[]) (List.Pairwise.nil);have e:(sv 10 [] [] ns ([],[])).2.2=T:=by rw[hq]
   rwa[e]at this
 unfold iX;rw[hs,U,hE,e1];rfl
section
open Go.RowKit Go.Maps Go.ChangeMaps Go.MapKept
theorem na:Keyed Tryz.prog 9:=string_keyed Tryz.underlying9
theorem Be{t:ByteArray}(h:t.size≤maxLen):∃j,keyOf Tryz.prog 9 (.string t)=some j:=by refine⟨.string t.data.toList,?_⟩;simp[keyOf,mapKey,Tryz.underlying9,h]
def rQ(w:World)(b n:Nat)(fs:ByteArray→Int):Prop:=∃D:DataW Unit,w.ownsMap Tryz.prog 9 (plainElem Tryz.prog 2) b n D∧∀t kl,keyOf Tryz.prog 9 (.string t)=some kl→D.atKey kl (.lit (.int .i64 0))=.lit (.int .i64 (fs t))
theorem I5(w:World):rQ (w.alloc (.map #[] 0)) w.heap.size 0 (fun _=>0):=⟨.map [],World.ownsMap_made w _ _ _,fun t kl j=>by rfl⟩
theorem rQ.keep{w w':World}{fs:ByteArray→Int}{b n:Nat}{l:List Nat}(h:rQ w b n fs)(P:aw w w' l)(R:b∉l):rQ w' b n fs:=by obtain⟨D,I,J⟩:=h;refine⟨D,?_,J⟩;obtain⟨j,clock,C,T⟩:=I;exact⟨j,clock,(P.block b (Array.getElem?_eq_some_iff.1 C).1 R).trans C,T⟩
theorem rQ.lt{w:World}{fs:ByteArray→Int}{b n:Nat}(h:rQ w b n fs):b<w.heap.size:=by obtain⟨D,j,l⟩:=h;exact j.lt
theorem FC(w:World):(zeroValue 2).run Tryz.prog w=.ok (.int .i64 0) w:=Tryz.zeroValue2 w
theorem Gf{w:World}{fs:ByteArray→Int}{b n:Nat}{t:ByteArray}(h:rQ w b n fs)(P:t.size≤maxLen):(Instr.lookup 54 (.map (some b)) (.string t) false).run Tryz.prog w=.ok (.int .i64 (fs t)) w:=by obtain⟨D,I,J⟩:=h;obtain⟨R,l⟩:=Be P;obtain⟨c,C,j,-⟩:=I.lookup_int na Tryz.underlying54 Tryz.underlying2 (FC w) l;rw[J t R l]at j;injection j with j;injection j with _ j;rw[j];exact C
theorem I6{w:World}{fs:ByteArray→Int}{b n:Nat}{t:ByteArray}{z:Int}(h:rQ w b n fs)(ht:t.size≤maxLen)(hn:n<1000)(hz:0≤z∧z≤1000000):∃w',(Instr.mapUpdate 54 (.map (some b)) (.string t) (.int .i64 z)).run Tryz.prog w=.ok () w'∧rQ w' b (n+1) (fun x=>if x=t then z else fs x)∧aw w w' [b]:=by
 obtain⟨D,U,h2⟩:=h;obtain⟨kl,l⟩:=Be ht;have T:(Lit.int .i64 z).wf=true:=by simp[Lit.wf,IntKind.min,IntKind.max,IntKind.signed,IntKind.bits];omega
 obtain⟨w',I,C,P⟩:=U.update na Tryz.underlying54 (by unfold maxLen;omega) l (plainElem_int (H:=Unit) Tryz.underlying2 (a:=z) T);refine⟨w',I,⟨_,C,fun x k' j=>?_⟩,aw.grown P⟩;by_cases J:k'=kl;·
  subst J;have hx:x=t:=by have:=na.inj j l;injection this
  rw[atKey_put_same U.isMap (na.key l)];simp[hx]
 ·rw[atKey_put_other J,h2 x k' j];have R:¬x=t:=fun e=>by rw[e,l]at j;exact J (Option.some.inj j).symm
  simp[R]
structure Kept(w w':World)(base:Nat)(l:List Nat):Prop where
 os:w'.os=w.os
 tape:w'.tape=w.tape
 output:w'.output=w.output
 size:w.heap.size≤w'.heap.size
 block:∀b,b<base→b∉l→w'.heap[b]?=w.heap[b]?
theorem Kept.refl(w:World)(base:Nat)(l:List Nat):Kept w w base l:=⟨rfl,rfl,rfl,Nat.le_refl _,fun _ _ _=>rfl⟩
theorem Kept.trans{a b c:World}{base:Nat}{l:List Nat}(h:Kept a b base l)(j:Kept b c base l):Kept a c base l:=⟨j.os.trans h.os,j.tape.trans h.tape,j.output.trans h.output,Nat.le_trans h.size j.size,fun k C I=>(j.block k C I).trans (h.block k C I)⟩
theorem aw.kept{w w':World}{l l':List Nat}{base:Nat}(h:aw w w' l')(C:base≤w.heap.size)(I:∀b∈l',b∈l∨base≤b):Kept w w' base l:=⟨h.os,h.tape,h.output,h.size,fun b j P=>h.block b (Nat.lt_of_lt_of_le j C) (fun J=>by rcases I b J with q|q;exact P q;omega)⟩
theorem Kept.sl{w w':World}{base B:Nat}{l:List Nat}{v:Value}{ns:List Nd}(h:Kept w w' base l)(J:B≤base)(j:∀b∈l,B≤b)(I:bR w B v ns):bR w' B v ns:=I.carry ⟨h.os,h.tape,h.output,h.size,fun k P=>h.block k (by omega) (fun C=>absurd (j k C) (by omega))⟩
structure gW(w:World)(wb mb base:Nat)(sv ev:Value)(nf:Nat)(W:Wv):Prop where
 box:bA w wb [sv,ev,.int .i64 0,.map (some mb)]
 st:aV w base sv W.sts
 ed:aO w base ev W.eds
 fs:rQ w mb nf W.fs
 q8:∀b∈an sv,b∉an ev
 low:wb<base∧mb<base∧wb≠mb
 sz:base≤w.heap.size
theorem gW.keep{w w':World}{J mb base I:Nat}{sv ev:Value}{W:Wv}{l:List Nat}(h:gW w J mb base sv ev I W)(j:aw w w' l)(P:∀b∈l,w.heap.size≤b):gW w' J mb base sv ev I W:=have no:∀b,b<w.heap.size→b∉l:=fun b C R=>absurd (P b R) (by omega);⟨h.box.keep j (no _ h.box.lt),h.st.keep j (fun b C=>no b (h.st.fresh.hi b C)),h.ed.keep j (fun b C=>no b (h.ed.fresh.hi b C)),h.fs.keep j (no _ h.fs.lt),h.q8,h.low,Nat.le_trans h.sz j.size⟩
theorem gW.below{w w':World}{l mb base j:Nat}{sv ev:Value}{W:Wv}(h:gW w l mb base sv ev j W)(C:Below w.heap.size w w'):gW w' l mb base sv ev j W:=h.keep (ak C) (by simp)
theorem Fx{w w3 T:World}{J mb base nf:Nat}{sv ev R:Value}{W:Wv}(h:gW w3 J mb base sv ev nf W)(x:aB)(o:Obj)(I:T.ownsRow base 75 2 R (W.sts.length+1) (W.sts.flatMap aB.cells++x.cells))(hg:(w3.alloc o).grownBy T sv.ownBlock)(ab:R.ownBlock=sv.ownBlock∨R.ownBlock=some (w3.alloc o).heap.size)(hw:Below w.heap.size w w3)(ac:base≤w.heap.size):gW (T.setCell ⟨J,0,none⟩ R) J mb base R ev nf ⟨W.sts++[x],W.eds,W.fs⟩∧Kept w (T.setCell ⟨J,0,none⟩ R) base [J]∧aw w (T.setCell ⟨J,0,none⟩ R) (an sv++[J]):=by
 obtain⟨p,cp,rfl⟩:=aq h.st;obtain⟨p4,c4,rfl⟩:=aq I;obtain⟨p5,c5,rfl⟩:=aq h.ed;have hA:aw w3 T (an (.slice p W.sts.length cp)):=by have:=(ak (ai w3 o)).trans (aE hg);rwa[List.nil_append]at this
 have lo:=h.st.fresh.lo;have af:=h.ed.fresh.lo;have ad:=(au I).lo;have hl:=h.low;have hS:=aA T J 0 (.slice p4 (W.sts.length+1) c4);have C:=hA.trans hS;have U:∀b,(b∈an (.slice p W.sts.length cp)++[J])→b=J∨base≤b:=fun b j=>by
  rw[List.mem_append]at j;rcases j with j|j;·exact .inr (lo b j)
  ·simp at j;exact .inl j
 refine⟨⟨?_,?_,?_,?_,?_,hl,?_⟩,?_,by have:=(ak hw).trans C;rwa[List.nil_append]at this⟩;·exact(h.box.keep hA (fun j=>by have:=lo _ j;omega)).set 0 (by simp) _
 ·exact aV.snoc (aJ I hS (fun b j l=>by have:=ad b j;simp at l;omega))
 ·exact h.ed.keep C (fun b j l=>by
   rw[List.mem_append]at l;rcases l with l|l;·exact h.q8 b l j
   ·have:=af b j;simp at l;omega)
 ·exact h.fs.keep C (fun l=>by rcases U _ l with q|q<;>omega)
 ·intro b j l;have P:=(bh rfl).2 j;rcases ab with e|e;·rw[e]at P;exact h.q8 b ((bh rfl).1 P) l
  ·rw[e]at P;have:=h.ed.fresh.hi b l;simp at P;omega
 ·exact Nat.le_trans h.sz C.size
 ·exact((ak hw).kept ac (by simp)).trans (C.kept h.sz (fun b j=>by rcases U b j with q|q;exact .inl (by simp[q]);exact .inr q))
theorem Fy{w w3 T:World}{J mb base nf:Nat}{sv ev R:Value}{W:Wv}(h:gW w3 J mb base sv ev nf W)(x:ar)(o:Obj)(I:T.ownsRow base 61 4 R (W.eds.length+1) (W.eds.flatMap ar.cells++x.cells))(hg:(w3.alloc o).grownBy T ev.ownBlock)(ab:R.ownBlock=ev.ownBlock∨R.ownBlock=some (w3.alloc o).heap.size)(hw:Below w.heap.size w w3)(ac:base≤w.heap.size):gW (T.setCell ⟨J,1,none⟩ R) J mb base sv R nf ⟨W.sts,W.eds++[x],W.fs⟩∧Kept w (T.setCell ⟨J,1,none⟩ R) base [J]∧aw w (T.setCell ⟨J,1,none⟩ R) (an ev++[J]):=by
 obtain⟨p,cp,rfl⟩:=aq h.ed;obtain⟨p4,c4,rfl⟩:=aq I;obtain⟨p5,c5,rfl⟩:=aq h.st;have hA:aw w3 T (an (.slice p W.eds.length cp)):=by have:=(ak (ai w3 o)).trans (aE hg);rwa[List.nil_append]at this
 have lo:=h.ed.fresh.lo;have af:=h.st.fresh.lo;have ad:=(au I).lo;have hl:=h.low;have hS:=aA T J 1 (.slice p4 (W.eds.length+1) c4);have C:=hA.trans hS;have U:∀b,(b∈an (.slice p W.eds.length cp)++[J])→b=J∨base≤b:=fun b j=>by
  rw[List.mem_append]at j;rcases j with j|j;·exact .inr (lo b j)
  ·simp at j;exact .inl j
 refine⟨⟨?_,?_,?_,?_,?_,hl,?_⟩,?_,by have:=(ak hw).trans C;rwa[List.nil_append]at this⟩;·exact(h.box.keep hA (fun j=>by have:=lo _ j;omega)).set 1 (by simp) _
 ·exact h.st.keep C (fun b j l=>by
   rw[List.mem_append]at l;rcases l with l|l;·exact h.q8 b j l
   ·have:=af b j;simp at l;omega)
 ·exact aO.snoc (aJ I hS (fun b j l=>by have:=ad b j;simp at l;omega))
 ·exact h.fs.keep C (fun l=>by rcases U _ l with q|q<;>omega)
 ·intro b l j;have P:=(bh rfl).2 j;rcases ab with e|e;·rw[e]at P;exact h.q8 b l ((bh rfl).1 P)
  ·rw[e]at P;have:=h.st.fresh.hi b l;simp at P;omega
 ·exact Nat.le_trans h.sz C.size
 ·exact((ak hw).kept ac (by simp)).trans (C.kept h.sz (fun b j=>by rcases U b j with q|q;exact .inl (by simp[q]);exact .inr q))
end
section
open Go.RowKit Go.Shelf Go.Sort Go.Lib Go.Proofs
theorem q7(a b:ar)(w:World):Calls Tryz.prog 31 #[a.val,b.val] w fun e w'=>e=.returned (.int .i64 (pE a b))∧∃q j,w'=grow (w.drewN q) j:=by have l:Hid (pE a b=Ji (oO a.src b.src) (oP a.label b.label)):=aa rfl;unfold ar.val;go_enter Tryz.func31,Tryz.ntmps31;go_wp2_with fail;go_region_held3(fun w'=>w'.cell? ⟨w.heap.size,0,none⟩=some (.int .i64 a.src)∧w'.cell? ⟨w.heap.size,1,none⟩=some (.string a.label)∧w'.cell? ⟨w.heap.size+1,0,none⟩=some (.int .i64 b.src)∧w'.cell? ⟨w.heap.size+1,1,none⟩=some (.string b.label))(go_keep)(first|(go_at_call 75;refine(qp _ _ _).mono ?_;rintro e w'⟨rfl,rfl⟩)|(go_at_call 76;refine(qq _ _ _).mono ?_;rintro e w'⟨rfl,rfl⟩)|(go_at_call 74;refine(Dm (oO a.src b.src) (oP a.label b.label) _ _ (by exact wL _ _ _ _ _ _ _ rfl) (by exact wL _ _ _ _ _ _ _ rfl)).mono ?_;rintro e w'⟨rfl,rfl⟩));all_goals go_wp2_with fail;go_ret;exact⟨aU l.out,1,_,by simp only[alloc_eq_grow,drew_grow,grow_grow];rfl⟩
theorem Dk[Inhabited ar](j l size:Nat)(w:World):CmpLays Tryz.prog 31 #[] ar.cells 4 pE j l size w:=fun _ _ _ _ x y=>q7 x y _
theorem vC(x y:ar):ltOf pE x y=a7 x y:=by
 unfold ltOf pE Ji oO oP a7;by_cases j:x.src<y.src;·simp[j]
 ·by_cases C:y.src<x.src;·
   have:¬x.src=y.src:=by omega
   simp[j,C,this]
  ·have:x.src=y.src:=by omega
   cases I:Op.bytesLess x.label.toList y.label.toList;·
    by_cases l:(x.label.toList==y.label.toList)=true;·simp[this,l]
    ·simp[this,l]
   ·simp[this]
theorem Ho:SWO (ltOf pE)where
 irrefl x:=by rw[vC];exact um x
 trans x y z h1 h2:=by rw[vC]at*;exact oR h1 h2
 ntrans x y z h1 h2:=by rw[vC]at*;exact Ij h2 h1
theorem Tryz.Gl:∀w,(isAgg 61).run Tryz.prog w=.ok true w:=Tryz.isAgg61
theorem Tryz.Jt:∀w,(Go.sizeOf 61).run Tryz.prog w=.ok 4 w:=Tryz.sizeOf61
theorem sC[Inhabited ar](d:Array ar):(flatK ar.cells 4 d).toList=d.toList.flatMap ar.cells:=by
 apply List.ext_getElem?;intro j;by_cases I:j<d.size*4;·
  have l:=get_flatK ar.cells 4 d j I;have hd:j/4<d.size:=by omega
  have C:=eE ar.cells 4 ar.aR d.toList (j/4) (by simpa using hd) (j%4) (by omega);rw[show j/4*4+j%4=j by omega]at C;rw[C];have J:j<(flatK ar.cells 4 d).size:=by simpa using I
  rw[Array.getElem?_toList,Array.getElem?_eq_getElem J];rw[getElem!_pos (flatK ar.cells 4 d) j J]at l;rw[l,getElem!_pos d (j/4) hd];have P:j%4<(ar.cells d[j/4]).length:=by rw[ar.aR];omega
  rw[getElem!_pos (ar.cells d[j/4]) (j%4) P];simp
 ·rw[List.getElem?_eq_none (by simp;omega),List.getElem?_eq_none (by rw[eT ar.cells 4 ar.aR];simp;omega)]
theorem Fl(l F:Array Value)(h:F.size≤l.size):(putCells id 0 F l).toList.take F.size=F.toList:=by
 apply List.ext_getElem?;intro j;by_cases C:j<F.size;·rw[List.getElem?_take_of_lt C,Array.getElem?_toList,Array.getElem?_toList];simp[putCells,C,show j<l.size by omega]
 ·rw[List.getElem?_take_eq_none (by omega),List.getElem?_eq_none (by simp;omega)]
theorem DK{w:World}{g n:Nat}{os:Array Obj}{j:Array Value}{e:TypeId}{l:Nat×Nat}(F:Array Value)(C:w.heap[g]?=some (.cells j e l)):(grow (putRow id (Sort.ahead w n) g 0 F) os).heap[g]?=some (.cells (putCells id 0 F j) e l):=by have I:g<w.heap.size:=(Array.getElem?_eq_some_iff.1 C).1;rw[heap_grow_old _ _ (by simpa using I)];simp[putRow,mapBlock,Sort.ahead,Array.getElem?_modify,C,onCells]
theorem Bw{w:World}{g n:Nat}{os:Array Obj}(F:Array Value):aw w (grow (putRow id (Sort.ahead w n) g 0 F) os) [g]:=by refine⟨rfl,rfl,rfl,by simp,fun k l j=>?_⟩;rw[heap_grow_old _ _ (by simpa using l)];have:g≠k:=fun e=>j (by simp[e]);simp[putRow,mapBlock,Sort.ahead,Array.getElem?_modify,this]
theorem zI(es:List ar)(base:Nat)(v:Value)(w:World)(ao:aO w base v es)(hl:es.length≤1000):Calls Tryz.prog 30 #[v,.func (.func 31) #[] #[]] w fun e w'=>e=.returned (.tuple #[])∧∃T,T.Perm es∧Up T∧aO w' base v T∧aw w w' (an v):=by
 haveI:Inhabited ar:=⟨⟨0,ByteArray.empty,0,0⟩⟩;obtain⟨ah,hh⟩:=ao;rcases hh with⟨rfl,h0⟩|⟨g,cap,R,rfl,hg,C,hc,ad,ab,ag⟩;·have:es=[]:=List.length_eq_zero_iff.1 h0;subst this;exact(Tryz.yt none 0 _ w).mono fun e w'⟨he,hw⟩=>⟨he,[],List.Perm.refl _,List.Pairwise.nil,by rw[hw];exact aO.nil _ _,by rw[hw];exact aw.refl _⟩
 ·have a0:g<w.heap.size:=(Array.getElem?_eq_some_iff.1 C).1;have ax:=sC es.toArray;have ac:aO w base (.slice (some ⟨g,0,none⟩) es.length cap) es:=⟨ah,.inr ⟨g,cap,R,rfl,hg,C,hc,ad,ab,ag⟩⟩;have hH:HoldsK ar.cells 4 w g 0 es.toArray:=by
   intro j hj;refine⟨?_,by simp[World.frozen?,C]⟩;have I:j<(flatK ar.cells 4 es.toArray).size:=hj;have h1:(es.flatMap ar.cells)[j]?=some ((flatK ar.cells 4 es.toArray)[j]):=by
    have e:es.flatMap ar.cells=(flatK ar.cells 4 es.toArray).toList:=by simpa using ax.symm
    rw[e,Array.getElem?_toList];exact Array.getElem?_eq_getElem I
   rw[Nat.zero_add,getElem!_pos (flatK ar.cells 4 es.toArray) j I];exact bF ac rfl j _ h1
  have eg:∀args w,(callFunc 31 args).run Tryz.prog w=.ok (.enter 31 args) w:=enters_of Tryz.func31 (by kernel_rfl) rfl;have af:=AnyQ.slices_SortFunc Tryz.E4 4 Tryz.Gl Tryz.Jt ar.cells ar.aR ar.cells_one pE Ho 31 #[] g 0 cap es.toArray w eg (Dk g 0 es.toArray.size w) hH a0 (by simp;omega);have U:Calls Tryz.prog 30 #[.slice (some ⟨g,0,none⟩) es.length cap,.func (.func 31) #[] #[]] w _:=af;refine U.mono ?_;rintro e w'⟨he,l,n,os,hp,hs,rfl⟩;have P:l.size=es.length:=by have:=hp.1;simpa using this
  refine⟨he,l.toList,?_,?_,?_,?_⟩;·
   have h2:=hp.2.2;have e1:(l.extract 0 es.toArray.size).toList=l.toList:=by rw[show es.toArray.size=l.size by simp[P]];simp
   have e2:(es.toArray.extract 0 es.toArray.size).toList=es:=by simp
   rw[e1,e2]at h2;exact h2
  ·unfold Up;rw[List.pairwise_iff_getElem];intro i j hi hj az;have I:j<l.size:=by simpa using hj
   have ay:i<l.size:=by simpa using hi
   have:=hs i j (Nat.zero_le _) az (by simpa[P]using I);rw[vC,getElem!_pos l _ I,getElem!_pos l _ ay]at this;simpa using this
  ·have hF:(flatK ar.cells 4 l).size=es.length*4:=by rw[size_flatK,P]
   have av:(flatK ar.cells 4 l).size≤R.size:=by rw[hF,ab];exact Nat.mul_le_mul_right 4 hc
   have J:l.toList.length=es.length:=by simpa using P
   unfold aO;rw[J];refine⟨by rw[eT ar.cells 4 ar.aR,J],.inr ⟨g,cap,putCells id 0 (flatK ar.cells 4 l) R,rfl,hg,DK _ C,hc,ad,by simp[putCells,ab],?_⟩⟩;rw[←hF,Fl _ _ av];exact sC l
  ·have h3:aw w (sortWorldK ar.cells 4 w g 0 n l os) [g]:=Bw (w:=w) (g:=g) (n:=n) (os:=os) (flatK ar.cells 4 l);simpa[an,aG]using h3
end
structure H8(l r:List Nd)(W W':Wv):Prop where
 sts:W'.sts.length+r.length≤W.sts.length+l.length
 eds:W'.eds.length+r.length≤W.eds.length+l.length
def H9(f:Nat):Prop:=∀(st l r:List Nd)(W:Wv),ahead (aQ true) f st l=some r→(wv f l W).2.1=r∧H8 l r W (wv f l W).2.2
theorem xA{f:Nat}(C:H9 f)(st:List Nd)(s:Int):∀(m:Nat)(ls:List ByteArray)(l r:List Nd)(W:Wv),aS (ahead (aQ true) f st) m ls l=some r→(cZ (wv f) s m l W).1=r∧H8 l r W (cZ (wv f) s m l W).2
 |0,ls,l,r,W,h=>by rw[aS]at h;injection h with h;subst h;exact⟨rfl,by simp[cZ],by simp[cZ]⟩|m+1,ls,[],r,W,h=>by cases h|m+1,ls,c::l,r,W,h=>by
  rw[aS]at h;split at h;·
   split at h;·cases h
   ·rename_i I j;obtain⟨e1,g1⟩:=C st l I W j;rw[cZ,e1];obtain⟨e2,g2⟩:=xA C st s m (ls++[c.name]) I r ⟨(wv f l W).2.2.sts,(wv f l W).2.2.eds++[⟨s,c.name,c.sort,(wv f l W).1⟩],(wv f l W).2.2.fs⟩ h;refine⟨e2,?_,?_⟩;·have:=g1.sts;have:=g2.sts;simp only[List.length_cons]at*;omega
    ·have:=g1.eds;have:=g2.eds;simp only[List.length_cons,List.length_append,List.length_nil]at*;omega
  ·cases h
theorem vB:∀f:Nat,H9 f:=by
 intro f;induction f with
  |zero=>
   intro st l r W h;cases l with
    |nil=>cases h|cons n l=>
     rw[wv];by_cases j:(n.op==1)=true;·
      rw[if_pos j];rw[cV (by simpa using j)]at h;split at h;·injection h with h;subst h;exact⟨rfl,by simp,by simp⟩
      ·cases h
     ·rw[if_neg j];by_cases C:n.op=0;·
       rw[bU C]at h;split at h;·injection h with h;subst h;exact⟨rfl,by simp;omega,by simp⟩
       ·cases h
      ·rw[ct C (by simpa using j)]at h;cases h
  |succ f ih=>
   intro st l r W h;cases l with
    |nil=>cases h|cons n l=>
     rw[wv];by_cases j:(n.op==1)=true;·
      rw[if_pos j];rw[cV (by simpa using j)]at h;split at h;·injection h with h;subst h;exact⟨rfl,by simp,by simp⟩
      ·cases h
     ·rw[if_neg j];by_cases I:(n.op==2)=true;·
       rw[if_pos I];rw[cR (by simpa using I)]at h;split at h;·
        obtain⟨e,g⟩:=ih (n::st) l r ⟨W.sts,W.eds,fun x=>if x=n.name then(W.sts.length:Int)else W.fs x⟩ h;refine⟨e,?_,?_⟩;·have:=g.sts;simp only[List.length_cons]at*;omega
        ·have:=g.eds;simp only[List.length_cons]at*;omega
       ·cases h
      ·rw[if_neg I];by_cases C:n.op=0;·
        rw[bU C]at h;split at h;·
         rename_i J;injection h with h;subst h;have P:n.many.toNat=0:=by simp only[gO,Bool.and_eq_true,beq_iff_eq]at J;rw[J.1.2];rfl
         rw[P,cZ];exact⟨rfl,by simp;omega,by simp⟩
        ·cases h
       ·rw[cM C (by simpa using j) (by simpa using I)]at h;split at h;·
         obtain⟨e,g⟩:=xA ih (n::st) (W.sts.length:Int) n.many.toNat [] l r ⟨W.sts++[⟨dW n.op,n.peer⟩],W.eds,W.fs⟩ h;refine⟨e,?_,?_⟩;·have:=g.sts;simp only[List.length_cons,List.length_append,List.length_nil]at*;omega
         ·have:=g.eds;simp only[List.length_cons]at*;omega
        ·cases h
end Go.Proofs.YtlbcnmcfljaijaaGreat
