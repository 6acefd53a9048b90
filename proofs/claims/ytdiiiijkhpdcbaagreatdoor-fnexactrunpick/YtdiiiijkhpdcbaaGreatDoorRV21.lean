import Derived.Test.YtdiiiijkhpdcbaaGreatDoorRV20
import Derived.Test.YtdiiiijkhpdcbaaGreatDoorRV03
namespace Go.Proofs.YtdiiiijkhpdcbaaGreatDoor
open Go.RowKit
set_option linter.unusedSimpArgs false
set_option linter.unusedVariables false
set_option maxHeartbeats 2000000
set_option maxRecDepth 100000
theorem jL(st:List Nd)(j:je st)(t:ByteArray)(h:eR false st t=true):bW st t=true:=by rw[mE st t j]at h;rw[fY];simp only[cw,List.any_eq_true]at h|-;obtain⟨x,C,l⟩:=h;exact⟨x,List.mem_of_mem_take C,l⟩
theorem FF{n:Nd}{st l:List Nd}{fs:ByteArray->Int}{ns:List ByteArray}{fis:List Int}{len z:Int}(R:n.op=2)(P:bW st n.name=false)(ac:je st)(h:Inv st (n::l) fs ns fis)(hz:fH l=false->z=len):Inv (n::st) l (fun x=>if x=n.name then len else fs x) (ns++[n.name]) (fis++[z]):=by
 have T:(n.op==2)=true:=by rw[R];rfl
 have U:fH (n::l)=fH l:=by rw[fH,if_neg (by rw[R];decide),if_pos T]
 have ab:cw ns n.name=false:=by rw[h.names,<-fY];exact P
 have J:∀t,bW st t=true->cw ns t=true:=fun t j=>by rw[h.names,<-fY];exact j
 refine⟨by rw[bd,if_pos T,h.names],by simp[h.len],fun t j=>?_,fun hc t j=>?_⟩;·
  rw[eR,if_pos T]at j;split at j;·cases j
  ·rename_i ad;have I:=jL st ac t j;have C:t≠n.name:=fun e=>by rw[e,P]at I;cases I
   show(if t=n.name then len else fs t)=_;rw[if_neg C,oY h.len,if_pos (J t I)];exact h.said t j
 ·show(if t=n.name then len else fs t)=_;rw[oY h.len];by_cases C:t=n.name;·rw[if_pos C,C,ab,hz hc];simp
  ·rw[if_neg C];have I:bW st t=true:=by
    rw[bW,List.any_cons,Bool.or_eq_true]at j;rcases j with j|j;·simp only[Bool.and_eq_true]at j;exact absurd (gi.1 j.2).symm C
    ·exact j
   rw[if_pos (J t I)];exact h.open_ (by rw[U];exact hc) t I
theorem Hg:∀f:Nat,I3 f:=by
 intro f;induction f with
  |zero=>
   intro st l r fs sts eds E ns fis h U j;cases l with
    |nil=>cases h|cons n l=>
     rw[wv,sv,bK];by_cases C:(n.op==1)=true;·
      rw[if_pos C,if_pos C,if_pos C];rw[dr (by simpa using C)]at h;split at h;·rename_i P;simp only[Bool.and_eq_true]at P;injection h with h;subst h;exact⟨j.said _ P.2,by simpa using l6 (st:=st) (l:=l) (fs:=fs) (sts:=sts) (eds:=eds) (E:=E) []⟩
      ·cases h
     ·rw[if_neg C,if_neg C,if_neg C];by_cases h0:n.op=0;·
       rw[db h0]at h;split at h;·injection h with h;subst h;rw[if_neg (by rw[h0];decide)];exact⟨rfl,l6 _⟩
       ·cases h
      ·rw[fm h0 (by simpa using C)]at h;cases h
  |succ f ih=>
   intro st l r fs sts eds E ns fis h U j;cases l with
    |nil=>cases h|cons n l=>
     rw[wv,sv,bK];by_cases C:(n.op==1)=true;·
      rw[if_pos C,if_pos C,if_pos C];rw[dr (by simpa using C)]at h;split at h;·rename_i P;simp only[Bool.and_eq_true]at P;injection h with h;subst h;exact⟨j.said _ P.2,by simpa using l6 (st:=st) (l:=l) (fs:=fs) (sts:=sts) (eds:=eds) (E:=E) []⟩
      ·cases h
     ·rw[if_neg C,if_neg C,if_neg C];by_cases J:(n.op==2)=true;·
       rw[if_pos J,if_pos J,if_pos J];have ac:n.op=2:=by simpa using J
       rw[dA ac]at h;split at h;·
        rename_i P;simp only[Bool.and_eq_true,Bool.not_eq_true']at P;have af:=P.2;have I:je (n::st):=⟨.inr ⟨ac,by rw[<-fY];exact af⟩,U⟩;have al:eR false (n::st) n.name=false:=by rw[eR,if_pos J,if_pos (by simp)]
        have ax:=tw f (n::st) l r ns fis n.name 0 sts.length h j.len al;have hi:=FF (len:=(sts.length:Int)) (z:=bK (ns++[n.name]) (fis++[0]) sts.length l) ac af U j (fun hc=>A6 h hc);obtain⟨e1,new,ab,R,E',ho,hp,ah,ad,an⟩:=ih (n::st) l r _ sts eds E _ _ h I hi;refine⟨e1.trans (tw f (n::st) l r ns fis n.name _ sts.length h j.len al),new,ab,R,E',ho,hp,ah,fun t T=>?_,an⟩;have av:t≠n.name:=fun e=>by rw[e,af]at T;cases T
        have:=ad t (by rw[bW,List.any_cons];rw[bW]at T;rw[T];simp);rw[this];show(if t=n.name then _ else fs t)=_;rw[if_neg av]
       ·cases h
      ·rw[if_neg J,if_neg J,if_neg J];have ao:∀t,bW (n::st) t=bW st t:=fun t=>by rw[bW,List.any_cons,Bool.eq_false_iff.2 J];simp[bW]
       have aq:fH (n::l)=false:=by rw[fH,if_neg C,if_neg J]
       by_cases h0:n.op=0;·
        rw[db h0]at h;split at h;·
         rename_i P;injection h with h;subst h;have hm:n.many.toNat=0:=by simp only[ic,Bool.and_eq_true,beq_iff_eq]at P;rw[P.1.2];rfl
         rw[hm,dv,fk];exact⟨rfl,l6 _⟩
        ·cases h
       ·rw[fA h0 (by simpa using C) (by simpa using J)]at h;split at h;·
         have I:je (n::st):=⟨.inl (by simpa using J),U⟩;have hr:bd (n::st)=bd st:=by rw[bd,if_neg J]
         obtain⟨new,ab,R,E',ho,hp,ah,ad,an⟩:=tE ih (st:=n::st) (ns:=ns) (fis:=fis) I (by rw[hr];exact j.names) j.len (fun t T=>jL _ I t T) (sts.length:Int) n.many.toNat [] l r fs (sts++[⟨eF n.op,n.peer⟩]) eds E h (fun t T=>j.open_ aq t (by rw[<-ao];exact T));refine⟨rfl,new,ab,R,E',ho,hp,ah,fun t T=>ad t (by rw[ao];exact T),?_⟩;have:(sts++[(⟨eF n.op,n.peer⟩:aP)]).length=sts.length+1:=by simp
         omega
        ·cases h
structure JG(lo hi:Nat)(new:List aA):Prop where
 E4:∀e∈new,(lo:Int)<=e.src/\e.src<(hi:Int)
 two:new.Pairwise fun a b=>¬(a.src=b.src/\a.label=b.label)
def GS(f:Nat):Prop:=∀(st l r:List Nd)(fs:ByteArray->Int)(sts:List aP)(eds:List aA),ahead (bC true) f st l=some r->∃new C j i,wv f l ⟨sts,eds,fs⟩=(i,r,⟨j,eds++new,C⟩)/\sts.length<=j.length/\JG sts.length j.length new
theorem wJ{f:Nat}(hf:GS f)(st:List Nd)(s:Nat):∀(m:Nat)(ls:List ByteArray)(l r:List Nd)(fs:ByteArray->Int)(sts:List aP)(eds:List aA),bA (ahead (bC true) f st) m ls l=some r->s<sts.length->∃new ad j,dv (wv f) (s:Int) m l ⟨sts,eds,fs⟩=(r,⟨j,eds++new,ad⟩)/\sts.length<=j.length/\(∀e∈new,(e.src=(s:Int)/\cw ls e.label=false)\/((sts.length:Int)<=e.src/\e.src<(j.length:Int)))/\new.Pairwise (fun a b=>¬(a.src=b.src/\a.label=b.label))
 |0,ls,l,r,fs,sts,eds,h,_=>by rw[bA]at h;injection h with h;subst h;exact⟨[],fs,sts,by simp[dv],Nat.le_refl _,by simp,List.Pairwise.nil⟩|m+1,ls,[],r,fs,sts,eds,h,_=>by cases h|m+1,ls,c::l,r,fs,sts,eds,h,hs=>by
  rw[bA]at h;split at h;·
   rename_i R;simp only[Bool.and_eq_true,Bool.not_eq_true']at R;split at h;·cases h
   ·rename_i r1 ao;obtain⟨I,af,ab,i,ho,av,hn⟩:=hf st l r1 fs sts eds ao;obtain⟨T,ah,ac,al,aq,J,an⟩:=wJ hf st s m (ls++[c.name]) r1 r af ab ((eds++I)++[⟨(s:Int),c.name,c.sort,i⟩]) h (by omega);refine⟨I++[⟨(s:Int),c.name,c.sort,i⟩]++T,ah,ac,?_,by omega,fun e C=>?_,?_⟩;·rw[dv,ho];simp only;rw[al];simp[List.append_assoc]
    ·rw[List.mem_append,List.mem_append]at C;rcases C with(C|C)|C;·have:=hn.E4 e C;right;omega
     ·simp at C;subst C;left;exact⟨rfl,R.2⟩
     ·rcases J e C with⟨q1,U⟩|q;·left;rw[kI,Bool.or_eq_false_iff]at U;exact⟨q1,U.1⟩
      ·right;omega
    ·rw[List.pairwise_append,List.pairwise_append];refine⟨⟨hn.two,List.pairwise_singleton _ _,fun a ha b P hk=>?_⟩,an,fun a ha b P hk=>?_⟩;·simp at P;subst P;have:=hn.E4 a ha;simp only at hk;omega
     ·rw[List.mem_append]at ha;rcases ha with ha|ha;·
       have q:=hn.E4 a ha;rcases J b P with⟨q1,_⟩|q1;·omega
       ·omega
      ·simp at ha;subst ha;simp only at hk;rcases J b P with⟨_,U⟩|q1;·rw[kI,Bool.or_eq_false_iff]at U;have:=U.2;rw[hk.2]at this;simp[cw]at this
       ·omega
  ·cases h
theorem DO:∀f:Nat,GS f:=by
 intro f;induction f with
  |zero=>
   intro st l r fs sts eds h;cases l with
    |nil=>cases h|cons n l=>
     rw[wv];by_cases j:(n.op==1)=true;·
      rw[if_pos j];rw[dr (by simpa using j)]at h;split at h;·injection h with h;subst h;exact⟨[],fs,sts,fs n.name,by simp,Nat.le_refl _,by simp,List.Pairwise.nil⟩
      ·cases h
     ·rw[if_neg j];by_cases C:n.op=0;·
       rw[db C]at h;split at h;·injection h with h;subst h;exact⟨[],fs,_,_,by rw[List.append_nil],by simp,by simp,List.Pairwise.nil⟩
       ·cases h
      ·rw[fm C (by simpa using j)]at h;cases h
  |succ f ih=>
   intro st l r fs sts eds h;cases l with
    |nil=>cases h|cons n l=>
     rw[wv];by_cases j:(n.op==1)=true;·
      rw[if_pos j];rw[dr (by simpa using j)]at h;split at h;·injection h with h;subst h;exact⟨[],fs,sts,fs n.name,by simp,Nat.le_refl _,by simp,List.Pairwise.nil⟩
      ·cases h
     ·rw[if_neg j];by_cases J:(n.op==2)=true;·
       rw[if_pos J];rw[dA (by simpa using J)]at h;split at h;·exact ih (n::st) l r _ sts eds h
       ·cases h
      ·rw[if_neg J];by_cases C:n.op=0;·
        rw[db C]at h;split at h;·
         rename_i U;injection h with h;subst h;have hm:n.many.toNat=0:=by simp only[ic,Bool.and_eq_true,beq_iff_eq]at U;rw[U.1.2];rfl
         rw[hm,dv];exact⟨[],fs,_,_,by rw[List.append_nil],by simp,by simp,List.Pairwise.nil⟩
        ·cases h
       ·rw[fA C (by simpa using j) (by simpa using J)]at h;split at h;·
         obtain⟨new,P,I,ho,T,hr,hp⟩:=wJ ih (n::st) sts.length n.many.toNat [] l r fs (sts++[⟨eF n.op,n.peer⟩]) eds h (by simp);have R:(sts++[(⟨eF n.op,n.peer⟩:aP)]).length=sts.length+1:=by simp
         rw[R]at T hr;refine⟨new,P,I,_,by rw[ho],by omega,fun e he=>?_,hp⟩;rcases hr e he with⟨q,_⟩|q;·omega
         ·omega
        ·cases h
def Up(l:List aA):Prop:=l.Pairwise fun a b=>bQ b a=false
theorem tg:∀x:List UInt8,Op.bytesLess x x=false|[]=>rfl|a::x=>by simp[Op.bytesLess,tg x]
theorem vI:∀x y z:List UInt8,Op.bytesLess x y=true->Op.bytesLess y z=true->Op.bytesLess x z=true
 |_,[],_,h,_=>by simp[Op.bytesLess]at h|_,_::_,[],_,h=>by simp[Op.bytesLess]at h|[],_::_,_::_,_,_=>rfl|a::x,b::y,c::z,j,h2=>by
  simp only[Op.bytesLess,Bool.or_eq_true,Bool.and_eq_true,decide_eq_true_eq,beq_iff_eq]at j h2|-;rcases j with j|⟨rfl,j⟩;·
   rcases h2 with h2|⟨rfl,h2⟩;·exact .inl (UInt8.lt_trans j h2)
   ·exact .inl j
  ·rcases h2 with h2|⟨rfl,h2⟩;·exact .inl h2
   ·exact .inr ⟨rfl,vI x y z j h2⟩
theorem vH:∀x y:List UInt8,Op.bytesLess x y=false->Op.bytesLess y x=false->x=y
 |[],[],_,_=>rfl|[],_::_,h,_=>by simp[Op.bytesLess]at h|_::_,[],_,h=>by simp[Op.bytesLess]at h|a::x,b::y,j,h2=>by
  simp only[Op.bytesLess,Bool.or_eq_false_iff,Bool.and_eq_false_iff,decide_eq_false_iff_not,UInt8.not_lt]at j h2;have l:a=b:=UInt8.le_antisymm h2.1 j.1;subst l;have C:Op.bytesLess x y=false:=by rcases j.2 with h|h<;>simp_all
  have I:Op.bytesLess y x=false:=by rcases h2.2 with h|h<;>simp_all
  rw[vH x y C I]
theorem rf{a b c:aA}(l:bQ a b=true)(j:bQ b c=true):bQ a c=true:=by
 simp only[bQ,Bool.or_eq_true,Bool.and_eq_true,decide_eq_true_eq,beq_iff_eq]at l j|-;rcases l with l|⟨I,l⟩;·
  rcases j with j|⟨C,j⟩;·exact .inl (by omega)
  ·exact .inl (by omega)
 ·rcases j with j|⟨C,j⟩;·exact .inl (by omega)
  ·exact .inr ⟨by omega,vI _ _ _ l j⟩
theorem re{a b:aA}(l:bQ a b=false)(C:bQ b a=false):a.src=b.src/\a.label=b.label:=by
 simp only[bQ,Bool.or_eq_false_iff,Bool.and_eq_false_iff,decide_eq_false_iff_not]at l C;have j:a.src=b.src:=by omega
 refine⟨j,?_⟩;have I:Op.bytesLess a.label.toList b.label.toList=false:=by rcases l.2 with h|h;simp[j]at h;exact h
 have J:Op.bytesLess b.label.toList a.label.toList=false:=by rcases C.2 with h|h;simp[j]at h;exact h
 exact gi.1 (by rw[vH _ _ I J];simp)
theorem tm(a:aA):bQ a a=false:=by simp[bQ,tg]
theorem G2{a b c:aA}(C:bQ b a=false)(j:bQ c b=false):bQ c a=false:=by
 cases h:bQ c a;·rfl
 ·exfalso;cases l:bQ a b;·
   obtain⟨I,J⟩:=re l C;have:bQ c b=bQ c a:=by simp[bQ,I,J]
   rw[this,h]at j;cases j
  ·rw[rf h l]at j;cases j
theorem EN(e:aA):∀{l:List aA},Up l->Up (gK e l)
 |[],_=>by simp[gK,Up]|x::l,h=>by
  unfold gK;rw[List.takeWhile_cons,List.dropWhile_cons];obtain⟨P,R⟩:=List.pairwise_cons.1 h;by_cases C:bQ x e=true;·
   rw[if_pos C,if_pos C,List.cons_append];have ih:=EN e R;refine List.pairwise_cons.2 ⟨fun y J=>?_,ih⟩;have j:y∈e::l:=(wF e l).mem_iff.1 J;rcases List.mem_cons.1 j with rfl|j;·
    cases T:bQ y x;·rfl
    ·have:=rf C T;rw[tm]at this;cases this
   ·exact P y j
  ·rw[if_neg C,if_neg C,List.nil_append];refine List.pairwise_cons.2 ⟨fun y J=>?_,h⟩;have I:bQ x e=false:=by simpa using C
   rcases List.mem_cons.1 J with rfl|J;·exact I
   ·exact G2 I (P y J)
theorem AA{go:List Nd->List aP×List aA->List Nd×List aP×List aA}{C:List Nd->Nat->Int}(j:∀l S,Up S.2->Up (go l S).2.2)(s:Int):∀(m:Nat)(l:List Nd)(S:List aP×List aA),Up S.2->Up (fk go C s m l S).2.2|0,_,_,h=>h|_+1,[],_,h=>h|m+1,c::l,S,h=>by rw[fk];exact AA j s m _ _ (j _ _ (EN _ h))
theorem He:∀(f:Nat)(ns:List ByteArray)(fis:List Int)(l:List Nd)(S:List aP×List aA),Up S.2->Up (sv f ns fis l S).2.2:=by
 intro f;induction f with
  |zero=>intro ns fis l S h;cases l with|nil=>exact h|cons n l=>rw[sv];split<;>exact h
  |succ f ih=>
   intro ns fis l S h;cases l with
    |nil=>exact h|cons n l=>
     rw[sv];split;·exact h
     ·split;·exact ih _ _ _ _ h
      ·exact AA (ih ns fis) _ _ _ _ h
theorem EO:∀{l l':List aA},l.Perm l'->l.Pairwise (fun a b=>¬(a.src=b.src/\a.label=b.label))->Up l->Up l'->l=l'
 |[],l',j,_,_,_=>(List.Perm.nil_eq j)|a::l,[],j,_,_,_=>by have:=j.length_eq;simp at this|a::l,b::l',j,hd,J,h2=>by
  have I:a=b:=by
   rcases List.mem_cons.1 (j.mem_iff.1 (List.mem_cons_self))with h|h;·exact h
   ·rcases List.mem_cons.1 (j.mem_iff.2 (List.mem_cons_self (a:=b) (l:=l')))with C|C;·exact C.symm
    ·have P:=(List.pairwise_cons.1 J).1 b C;have R:=(List.pairwise_cons.1 h2).1 a h;exact absurd (re R P) ((List.pairwise_cons.1 hd).1 b C)
  subst I;rw[EO (List.Perm.cons_inv j) (List.pairwise_cons.1 hd).2 (List.pairwise_cons.1 J).2 (List.pairwise_cons.1 h2).2]
def E5(ns:List Nd):Int×List Nd×Wv:=wv 10 ns ⟨[],[],fun _=>0⟩
def Hc(ns:List Nd):List Nd×List aP×List aA:=sv 10 [] [] ns ([],[])
def jI(ns:List Nd):cB:=⟨(Hc ns).2.1,(Hc ns).2.2,bK [] [] 0 ns⟩
theorem DB{ns:List Nd}(h:ahead (bC true) 10 [] ns=some []){es:List aA}(C:es.Perm (E5 ns).2.2.eds)(hu:Up es):(E5 ns).2.1=[]/\jI ns=⟨(E5 ns).2.2.sts,es,(E5 ns).1⟩:=by
 have I:Inv [] ns (fun _=>0) [] []:=⟨rfl,rfl,(fun t ht=>by cases ht),(fun _ t ht=>by cases ht)⟩;obtain⟨e1,new,ad,P,T,ho,hq,ac,_,_⟩:=Hg 10 [] ns [] (fun _=>0) [] [] [] [] [] h trivial I;obtain⟨J,ab,R,i,j,_,hn⟩:=DO 10 [] ns [] (fun _=>0) [] [] h;have U:E5 ns=(i,[],⟨R,[]++J,ab⟩):=j;have hs:Hc ns=([],P,T):=hq;rw[j]at ho;simp only[List.nil_append,Prod.mk.injEq,Wv.mk.injEq,true_and]at ho;obtain⟨rfl,rfl,rfl⟩:=ho;rw[j]at e1;simp only at e1;refine⟨by rw[U],?_⟩;have hE:T=es:=by
  refine(EO (l:=es) (l':=T) ?_ ?_ hu ?_).symm;·rw[U]at C;simp only[List.nil_append]at C;exact C.trans (by simpa using ac.symm)
  ·rw[U]at C;simp only[List.nil_append]at C;exact hn.two.perm C.symm (fun h hk=>h ⟨hk.1.symm,hk.2.symm⟩)
  ·have:=He 10 [] [] ns ([],[]) (List.Pairwise.nil);have e:(sv 10 [] [] ns ([],[])).2.2=T:=by rw[hq]
   rwa[e]at this
 unfold jI;rw[hs,U,hE,e1];rfl
section
open Go.RowKit Go.Maps Go.ChangeMaps Go.MapKept
theorem mf:Keyed Tryz.prog 9:=string_keyed Tryz.underlying9
theorem Av{t:ByteArray}(h:t.size<=maxLen):∃j,keyOf Tryz.prog 9 (.string t)=some j:=by refine⟨.string t.data.toList,?_⟩;simp[keyOf,mapKey,Tryz.underlying9,h]
def qQ(w:World)(b n:Nat)(fs:ByteArray->Int):Prop:=∃D:DataW Unit,w.ownsMap Tryz.prog 9 (plainElem Tryz.prog 2) b n D/\∀t j,keyOf Tryz.prog 9 (.string t)=some j->D.atKey j (.lit (.int .i64 0))=.lit (.int .i64 (fs t))
theorem Ie(w:World):qQ (w.alloc (.map #[] 0)) w.heap.size 0 (fun _=>0):=⟨.map [],World.ownsMap_made w _ _ _,fun t l j=>by rfl⟩
theorem qQ.aB{w w':World}{fs:ByteArray->Int}{b n:Nat}{l:List Nat}(h:qQ w b n fs)(P:aG w w' l)(R:b∉l):qQ w' b n fs:=by obtain⟨D,I,J⟩:=h;refine⟨D,?_,J⟩;obtain⟨j,clock,C,T⟩:=I;exact⟨j,clock,(P.block b (Array.getElem?_eq_some_iff.1 C).1 R).trans C,T⟩
theorem qQ.lt{w:World}{fs:ByteArray->Int}{b n:Nat}(h:qQ w b n fs):b<w.heap.size:=by obtain⟨D,j,l⟩:=h;exact j.lt
theorem EY(w:World):(zeroValue 2).run Tryz.prog w=.ok (.int .i64 0) w:=Tryz.zeroValue2 w
theorem FA{w:World}{fs:ByteArray->Int}{b n:Nat}{t:ByteArray}(h:qQ w b n fs)(P:t.size<=maxLen):(Instr.lookup 307 (.map (some b)) (.string t) false).run Tryz.prog w=.ok (.int .i64 (fs t)) w:=by obtain⟨D,I,J⟩:=h;obtain⟨R,l⟩:=Av P;obtain⟨c,C,j,-⟩:=I.lookup_int mf Tryz.underlying307 Tryz.underlying2 (EY w) l;rw[J t R l]at j;injection j with j;injection j with _ j;rw[j];exact C
theorem Ig{w:World}{fs:ByteArray->Int}{b n:Nat}{t:ByteArray}{z:Int}(h:qQ w b n fs)(ht:t.size<=maxLen)(hn:n<1000)(hz:0<=z/\z<=1000000):∃w',(Instr.mapUpdate 307 (.map (some b)) (.string t) (.int .i64 z)).run Tryz.prog w=.ok () w'/\qQ w' b (n+1) (fun x=>if x=t then z else fs x)/\aG w w' [b]:=by
 obtain⟨D,U,h2⟩:=h;obtain⟨kl,l⟩:=Av ht;have T:(Lit.int .i64 z).wf=true:=by simp[Lit.wf,IntKind.min,IntKind.max,IntKind.signed,IntKind.bits];omega
 obtain⟨w',I,C,P⟩:=U.update mf Tryz.underlying307 (by unfold maxLen;omega) l (plainElem_int (H:=Unit) Tryz.underlying2 (a:=z) T);refine⟨w',I,⟨_,C,fun x k' j=>?_⟩,aG.grown P⟩;by_cases J:k'=kl;·
  subst J;have hx:x=t:=by have:=mf.inj j l;injection this
  rw[atKey_put_same U.isMap (mf.key l)];simp[hx]
 ·rw[atKey_put_other J,h2 x k' j];have R:¬x=t:=fun e=>by rw[e,l]at j;exact J (Option.some.inj j).symm
  simp[R]
structure gA(w w':World)(base:Nat)(l:List Nat):Prop where
 os:w'.os=w.os
 tape:w'.tape=w.tape
 output:w'.output=w.output
 size:w.heap.size<=w'.heap.size
 block:∀b,b<base->b∉l->w'.heap[b]?=w.heap[b]?
theorem gA.refl(w:World)(base:Nat)(l:List Nat):gA w w base l:=⟨rfl,rfl,rfl,Nat.le_refl _,fun _ _ _=>rfl⟩
theorem gA.trans{a b c:World}{base:Nat}{l:List Nat}(h:gA a b base l)(j:gA b c base l):gA a c base l:=⟨j.os.trans h.os,j.tape.trans h.tape,j.output.trans h.output,Nat.le_trans h.size j.size,fun k C I=>(j.block k C I).trans (h.block k C I)⟩
theorem aG.kept{w w':World}{l l':List Nat}{base:Nat}(h:aG w w' l')(C:base<=w.heap.size)(I:∀b∈l',b∈l\/base<=b):gA w w' base l:=⟨h.os,h.tape,h.output,h.size,fun b j P=>h.block b (Nat.lt_of_lt_of_le j C) (fun J=>by rcases I b J with q|q;exact P q;omega)⟩
theorem gA.sl{w w':World}{base B:Nat}{l:List Nat}{v:Value}{ns:List Nd}(h:gA w w' base l)(J:B<=base)(j:∀b∈l,B<=b)(I:bG w B v ns):bG w' B v ns:=I.carry ⟨h.os,h.tape,h.output,h.size,fun k P=>h.block k (by omega) (fun C=>absurd (j k C) (by omega))⟩
structure gX(w:World)(wb mb base:Nat)(sv ev:Value)(nf:Nat)(W:Wv):Prop where
 box:aW w wb [sv,ev,.int .i64 0,.map (some mb)]
 st:cF w base sv W.sts
 ed:bD w base ev W.eds
 fs:qQ w mb nf W.fs
 G1:∀b∈ag sv,b∉ag ev
 low:wb<base/\mb<base/\wb≠mb
 sz:base<=w.heap.size
theorem gX.aB{w w':World}{J mb base I:Nat}{sv ev:Value}{W:Wv}{l:List Nat}(h:gX w J mb base sv ev I W)(j:aG w w' l)(P:∀b∈l,w.heap.size<=b):gX w' J mb base sv ev I W:=have no:∀b,b<w.heap.size->b∉l:=fun b C R=>absurd (P b R) (by omega);⟨h.box.aB j (no _ h.box.lt),h.st.aB j (fun b C=>no b (h.st.fresh.hi b C)),h.ed.aB j (fun b C=>no b (h.ed.fresh.hi b C)),h.fs.aB j (no _ h.fs.lt),h.G1,h.low,Nat.le_trans h.sz j.size⟩
theorem gX.below{w w':World}{l mb base j:Nat}{sv ev:Value}{W:Wv}(h:gX w l mb base sv ev j W)(C:Below w.heap.size w w'):gX w' l mb base sv ev j W:=h.aB (aj C) (by simp)
theorem ES{w w3 T:World}{J mb base nf:Nat}{sv ev R:Value}{W:Wv}(h:gX w3 J mb base sv ev nf W)(x:aP)(o:Obj)(I:T.ownsRow base 152 2 R (W.sts.length+1) (W.sts.flatMap aP.cells++x.cells))(hg:(w3.alloc o).grownBy T sv.ownBlock)(ab:R.ownBlock=sv.ownBlock\/R.ownBlock=some (w3.alloc o).heap.size)(hw:Below w.heap.size w w3)(ac:base<=w.heap.size):gX (T.setCell ⟨J,0,none⟩ R) J mb base R ev nf ⟨W.sts++[x],W.eds,W.fs⟩/\gA w (T.setCell ⟨J,0,none⟩ R) base [J]/\aG w (T.setCell ⟨J,0,none⟩ R) (ag sv++[J]):=by
 obtain⟨p,cp,rfl⟩:=ar h.st;obtain⟨p4,c4,rfl⟩:=ar I;obtain⟨p5,c5,rfl⟩:=ar h.ed;have hA:aG w3 T (ag (.slice p W.sts.length cp)):=by have:=(aj (ae w3 o)).trans (aD hg);rwa[List.nil_append]at this
 have lo:=h.st.fresh.lo;have af:=h.ed.fresh.lo;have ad:=(ak I).lo;have hl:=h.low;have hS:=aI T J 0 (.slice p4 (W.sts.length+1) c4);have C:=hA.trans hS;have U:∀b,(b∈ag (.slice p W.sts.length cp)++[J])->b=J\/base<=b:=fun b j=>by
  rw[List.mem_append]at j;rcases j with j|j;·exact .inr (lo b j)
  ·simp at j;exact .inl j
 refine⟨⟨?_,?_,?_,?_,?_,hl,?_⟩,?_,by have:=(aj hw).trans C;rwa[List.nil_append]at this⟩;·exact(h.box.aB hA (fun j=>by have:=lo _ j;omega)).set 0 (by simp) _
 ·exact cF.snoc (aK I hS (fun b j l=>by have:=ad b j;simp at l;omega))
 ·exact h.ed.aB C (fun b j l=>by
   rw[List.mem_append]at l;rcases l with l|l;·exact h.G1 b l j
   ·have:=af b j;simp at l;omega)
 ·exact h.fs.aB C (fun l=>by rcases U _ l with q|q<;>omega)
 ·intro b j l;have P:=(aS rfl).2 j;rcases ab with e|e;·rw[e]at P;exact h.G1 b ((aS rfl).1 P) l
  ·rw[e]at P;have:=h.ed.fresh.hi b l;simp at P;omega
 ·exact Nat.le_trans h.sz C.size
 ·exact((aj hw).kept ac (by simp)).trans (C.kept h.sz (fun b j=>by rcases U b j with q|q;exact .inl (by simp[q]);exact .inr q))
theorem ET{w w3 T:World}{J mb base nf:Nat}{sv ev R:Value}{W:Wv}(h:gX w3 J mb base sv ev nf W)(x:aA)(o:Obj)(I:T.ownsRow base 213 4 R (W.eds.length+1) (W.eds.flatMap aA.cells++x.cells))(hg:(w3.alloc o).grownBy T ev.ownBlock)(ab:R.ownBlock=ev.ownBlock\/R.ownBlock=some (w3.alloc o).heap.size)(hw:Below w.heap.size w w3)(ac:base<=w.heap.size):gX (T.setCell ⟨J,1,none⟩ R) J mb base sv R nf ⟨W.sts,W.eds++[x],W.fs⟩/\gA w (T.setCell ⟨J,1,none⟩ R) base [J]/\aG w (T.setCell ⟨J,1,none⟩ R) (ag ev++[J]):=by
 obtain⟨p,cp,rfl⟩:=ar h.ed;obtain⟨p4,c4,rfl⟩:=ar I;obtain⟨p5,c5,rfl⟩:=ar h.st;have hA:aG w3 T (ag (.slice p W.eds.length cp)):=by have:=(aj (ae w3 o)).trans (aD hg);rwa[List.nil_append]at this
 have lo:=h.ed.fresh.lo;have af:=h.st.fresh.lo;have ad:=(ak I).lo;have hl:=h.low;have hS:=aI T J 1 (.slice p4 (W.eds.length+1) c4);have C:=hA.trans hS;have U:∀b,(b∈ag (.slice p W.eds.length cp)++[J])->b=J\/base<=b:=fun b j=>by
  rw[List.mem_append]at j;rcases j with j|j;·exact .inr (lo b j)
  ·simp at j;exact .inl j
 refine⟨⟨?_,?_,?_,?_,?_,hl,?_⟩,?_,by have:=(aj hw).trans C;rwa[List.nil_append]at this⟩;·exact(h.box.aB hA (fun j=>by have:=lo _ j;omega)).set 1 (by simp) _
 ·exact h.st.aB C (fun b j l=>by
   rw[List.mem_append]at l;rcases l with l|l;·exact h.G1 b j l
   ·have:=af b j;simp at l;omega)
 ·exact bD.snoc (aK I hS (fun b j l=>by have:=ad b j;simp at l;omega))
 ·exact h.fs.aB C (fun l=>by rcases U _ l with q|q<;>omega)
 ·intro b l j;have P:=(aS rfl).2 j;rcases ab with e|e;·rw[e]at P;exact h.G1 b l ((aS rfl).1 P)
  ·rw[e]at P;have:=h.st.fresh.hi b l;simp at P;omega
 ·exact Nat.le_trans h.sz C.size
 ·exact((aj hw).kept ac (by simp)).trans (C.kept h.sz (fun b j=>by rcases U b j with q|q;exact .inl (by simp[q]);exact .inr q))
end
section
open Go.RowKit Go.Shelf Go.Sort Go.Lib Go.Proofs
theorem qs(a b:aA)(w:World):Calls Tryz.prog 187 #[a.val,b.val] w fun e w'=>e=.returned (.int .i64 (oM a b))/\∃q j,w'=grow (w.drewN q) j:=by have l:Hid (oM a b=Iu (nK a.src b.src) (nN a.label b.label)):=aa rfl;unfold aA.val;go_enter Tryz.func187,Tryz.ntmps187;go_wp2_with fail;go_region_held3(fun w'=>w'.cell? ⟨w.heap.size,0,none⟩=some (.int .i64 a.src)/\w'.cell? ⟨w.heap.size,1,none⟩=some (.string a.label)/\w'.cell? ⟨w.heap.size+1,0,none⟩=some (.int .i64 b.src)/\w'.cell? ⟨w.heap.size+1,1,none⟩=some (.string b.label))(go_keep)(first|(go_at_call 228;refine(pQ _ _ _).mono ?_;rintro e w'⟨rfl,rfl⟩)|(go_at_call 229;refine(pR _ _ _).mono ?_;rintro e w'⟨rfl,rfl⟩)|(go_at_call 227;refine(CL (nK a.src b.src) (nN a.label b.label) _ _ (by exact sP _ _ _ _ _ _ _ rfl) (by exact sP _ _ _ _ _ _ _ rfl)).mono ?_;rintro e w'⟨rfl,rfl⟩));all_goals go_wp2_with fail;go_ret;exact⟨aY l.out,1,_,by simp only[alloc_eq_grow,drew_grow,grow_grow];rfl⟩
theorem CJ[Inhabited aA](j off size:Nat)(w:World):CmpLays Tryz.prog 187 #[] aA.cells 4 oM j off size w:=fun _ _ _ _ x y=>qs x y _
theorem uL(x y:aA):ltOf oM x y=bQ x y:=by
 unfold ltOf oM Iu nK nN bQ;by_cases j:x.src<y.src;·simp[j]
 ·by_cases C:y.src<x.src;·
   have:¬x.src=y.src:=by omega
   simp[j,C,this]
  ·have:x.src=y.src:=by omega
   cases I:Op.bytesLess x.label.toList y.label.toList;·
    by_cases l:(x.label.toList==y.label.toList)=true;·simp[this,l]
    ·simp[this,l]
   ·simp[this]
theorem GA:SWO (ltOf oM)where
 irrefl x:=by rw[uL];exact tm x
 trans x y z h1 h2:=by rw[uL]at*;exact rf h1 h2
 ntrans x y z h1 h2:=by rw[uL]at*;exact G2 h2 h1
theorem Tryz.FG:∀w,(isAgg 213).run Tryz.prog w=.ok true w:=Tryz.isAgg213
theorem Tryz.IK:∀w,(Go.sizeOf 213).run Tryz.prog w=.ok 4 w:=Tryz.sizeOf213
theorem rj[Inhabited aA](d:Array aA):(flatK aA.cells 4 d).toList=d.toList.flatMap aA.cells:=by
 apply List.ext_getElem?;intro j;by_cases I:j<d.size*4;·
  have l:=get_flatK aA.cells 4 d j I;have hd:j/4<d.size:=by omega
  have C:=dQ aA.cells 4 aA.bg d.toList (j/4) (by simpa using hd) (j%4) (by omega);rw[show j/4*4+j%4=j by omega]at C;rw[C];have J:j<(flatK aA.cells 4 d).size:=by simpa using I
  rw[Array.getElem?_toList,Array.getElem?_eq_getElem J];rw[getElem!_pos (flatK aA.cells 4 d) j J]at l;rw[l,getElem!_pos d (j/4) hd];have P:j%4<(aA.cells d[j/4]).length:=by rw[aA.bg];omega
  rw[getElem!_pos (aA.cells d[j/4]) (j%4) P];simp
 ·rw[List.getElem?_eq_none (by simp;omega),List.getElem?_eq_none (by rw[dY aA.cells 4 aA.bg];simp;omega)]
theorem EH(l F:Array Value)(h:F.size<=l.size):(putCells id 0 F l).toList.take F.size=F.toList:=by
 apply List.ext_getElem?;intro j;by_cases C:j<F.size;·rw[List.getElem?_take_of_lt C,Array.getElem?_toList,Array.getElem?_toList];simp[putCells,C,show j<l.size by omega]
 ·rw[List.getElem?_take_eq_none (by omega),List.getElem?_eq_none (by simp;omega)]
theorem De{w:World}{g n:Nat}{os:Array Obj}{j:Array Value}{e:TypeId}{l:Nat×Nat}(F:Array Value)(C:w.heap[g]?=some (.cells j e l)):(grow (putRow id (Sort.ahead w n) g 0 F) os).heap[g]?=some (.cells (putCells id 0 F j) e l):=by have I:g<w.heap.size:=(Array.getElem?_eq_some_iff.1 C).1;rw[heap_grow_old _ _ (by simpa using I)];simp[putRow,mapBlock,Sort.ahead,Array.getElem?_modify,C,onCells]
theorem AM{w:World}{g n:Nat}{os:Array Obj}(F:Array Value):aG w (grow (putRow id (Sort.ahead w n) g 0 F) os) [g]:=by refine⟨rfl,rfl,rfl,by simp,fun k l j=>?_⟩;rw[heap_grow_old _ _ (by simpa using l)];have:g≠k:=fun e=>j (by simp[e]);simp[putRow,mapBlock,Sort.ahead,Array.getElem?_modify,this]
theorem yQ(es:List aA)(base:Nat)(v:Value)(w:World)(an:bD w base v es)(hl:es.length<=1000):Calls Tryz.prog 253 #[v,.func (.func 187) #[] #[]] w fun e w'=>e=.returned (.tuple #[])/\∃T,T.Perm es/\Up T/\bD w' base v T/\aG w w' (ag v):=by
 haveI:Inhabited aA:=⟨⟨0,ByteArray.empty,0,0⟩⟩;obtain⟨al,hh⟩:=an;rcases hh with⟨rfl,h0⟩|⟨g,cap,R,rfl,hg,C,hc,ad,ab,ah⟩;·have:es=[]:=List.length_eq_zero_iff.1 h0;subst this;exact(Tryz.xH none 0 _ w).mono fun e w'⟨he,hw⟩=>⟨he,[],List.Perm.refl _,List.Pairwise.nil,by rw[hw];exact bD.nil _ _,by rw[hw];exact aG.refl _⟩
 ·have ay:g<w.heap.size:=(Array.getElem?_eq_some_iff.1 C).1;have aq:=rj es.toArray;have ac:bD w base (.slice (some ⟨g,0,none⟩) es.length cap) es:=⟨al,.inr ⟨g,cap,R,rfl,hg,C,hc,ad,ab,ah⟩⟩;have hH:HoldsK aA.cells 4 w g 0 es.toArray:=by
   intro j hj;refine⟨?_,by simp[World.frozen?,C]⟩;have I:j<(flatK aA.cells 4 es.toArray).size:=hj;have h1:(es.flatMap aA.cells)[j]?=some ((flatK aA.cells 4 es.toArray)[j]):=by
    have e:es.flatMap aA.cells=(flatK aA.cells 4 es.toArray).toList:=by simpa using aq.symm
    rw[e,Array.getElem?_toList];exact Array.getElem?_eq_getElem I
   rw[Nat.zero_add,getElem!_pos (flatK aA.cells 4 es.toArray) j I];exact cQ ac rfl j _ h1
  have eg:∀args w,(callFunc 187 args).run Tryz.prog w=.ok (.enter 187 args) w:=enters_of Tryz.func187 (by kernel_rfl) rfl;have af:=AnyQ.slices_SortFunc Tryz.Ex 4 Tryz.FG Tryz.IK aA.cells aA.bg aA.cells_one oM GA 187 #[] g 0 cap es.toArray w eg (CJ g 0 es.toArray.size w) hH ay (by simp;omega);have U:Calls Tryz.prog 253 #[.slice (some ⟨g,0,none⟩) es.length cap,.func (.func 187) #[] #[]] w _:=af;refine U.mono ?_;rintro e w'⟨he,l,n,os,hp,hs,rfl⟩;have P:l.size=es.length:=by have:=hp.1;simpa using this
  refine⟨he,l.toList,?_,?_,?_,?_⟩;·
   have h2:=hp.2.2;have e1:(l.extract 0 es.toArray.size).toList=l.toList:=by rw[show es.toArray.size=l.size by simp[P]];simp
   have e2:(es.toArray.extract 0 es.toArray.size).toList=es:=by simp
   rw[e1,e2]at h2;exact h2
  ·unfold Up;rw[List.pairwise_iff_getElem];intro i j hi hj ax;have I:j<l.size:=by simpa using hj
   have av:i<l.size:=by simpa using hi
   have:=hs i j (Nat.zero_le _) ax (by simpa[P]using I);rw[uL,getElem!_pos l _ I,getElem!_pos l _ av]at this;simpa using this
  ·have hF:(flatK aA.cells 4 l).size=es.length*4:=by rw[size_flatK,P]
   have ao:(flatK aA.cells 4 l).size<=R.size:=by rw[hF,ab];exact Nat.mul_le_mul_right 4 hc
   have J:l.toList.length=es.length:=by simpa using P
   unfold bD;rw[J];refine⟨by rw[dY aA.cells 4 aA.bg,J],.inr ⟨g,cap,putCells id 0 (flatK aA.cells 4 l) R,rfl,hg,De _ C,hc,ad,by simp[putCells,ab],?_⟩⟩;rw[<-hF,EH _ _ ao];exact rj l
  ·have h3:aG w (sortWorldK aA.cells 4 w g 0 n l os) [g]:=AM (w:=w) (g:=g) (n:=n) (os:=os) (flatK aA.cells 4 l);simpa[ag,aJ]using h3
end
structure GP(l r:List Nd)(W W':Wv):Prop where
 sts:W'.sts.length+r.length<=W.sts.length+l.length
 eds:W'.eds.length+r.length<=W.eds.length+l.length
def GQ(f:Nat):Prop:=∀(st l r:List Nd)(W:Wv),ahead (bC true) f st l=some r->(wv f l W).2.1=r/\GP l r W (wv f l W).2.2
theorem wH{f:Nat}(C:GQ f)(st:List Nd)(s:Int):∀(m:Nat)(ls:List ByteArray)(l r:List Nd)(W:Wv),bA (ahead (bC true) f st) m ls l=some r->(dv (wv f) s m l W).1=r/\GP l r W (dv (wv f) s m l W).2
 |0,ls,l,r,W,h=>by rw[bA]at h;injection h with h;subst h;exact⟨rfl,by simp[dv],by simp[dv]⟩|m+1,ls,[],r,W,h=>by cases h|m+1,ls,c::l,r,W,h=>by
  rw[bA]at h;split at h;·
   split at h;·cases h
   ·rename_i I j;obtain⟨J,g1⟩:=C st l I W j;rw[dv,J];obtain⟨P,g2⟩:=wH C st s m (ls++[c.name]) I r ⟨(wv f l W).2.2.sts,(wv f l W).2.2.eds++[⟨s,c.name,c.sort,(wv f l W).1⟩],(wv f l W).2.2.fs⟩ h;refine⟨P,?_,?_⟩;·have:=g1.sts;have:=g2.sts;simp only[List.length_cons]at*;omega
    ·have:=g1.eds;have:=g2.eds;simp only[List.length_cons,List.length_append,List.length_nil]at*;omega
  ·cases h
theorem uK:∀f:Nat,GQ f:=by
 intro f;induction f with
  |zero=>
   intro st l r W h;cases l with
    |nil=>cases h|cons n l=>
     rw[wv];by_cases j:(n.op==1)=true;·
      rw[if_pos j];rw[dr (by simpa using j)]at h;split at h;·injection h with h;subst h;exact⟨rfl,by simp,by simp⟩
      ·cases h
     ·rw[if_neg j];by_cases C:n.op=0;·
       rw[db C]at h;split at h;·injection h with h;subst h;exact⟨rfl,by simp;omega,by simp⟩
       ·cases h
      ·rw[fm C (by simpa using j)]at h;cases h
  |succ f ih=>
   intro st l r W h;cases l with
    |nil=>cases h|cons n l=>
     rw[wv];by_cases j:(n.op==1)=true;·
      rw[if_pos j];rw[dr (by simpa using j)]at h;split at h;·injection h with h;subst h;exact⟨rfl,by simp,by simp⟩
      ·cases h
     ·rw[if_neg j];by_cases I:(n.op==2)=true;·
       rw[if_pos I];rw[dA (by simpa using I)]at h;split at h;·
        obtain⟨e,g⟩:=ih (n::st) l r ⟨W.sts,W.eds,fun x=>if x=n.name then(W.sts.length:Int)else W.fs x⟩ h;refine⟨e,?_,?_⟩;·have:=g.sts;simp only[List.length_cons]at*;omega
        ·have:=g.eds;simp only[List.length_cons]at*;omega
       ·cases h
      ·rw[if_neg I];by_cases C:n.op=0;·
        rw[db C]at h;split at h;·
         rename_i J;injection h with h;subst h;have P:n.many.toNat=0:=by simp only[ic,Bool.and_eq_true,beq_iff_eq]at J;rw[J.1.2];rfl
         rw[P,dv];exact⟨rfl,by simp;omega,by simp⟩
        ·cases h
       ·rw[fA C (by simpa using j) (by simpa using I)]at h;split at h;·
         obtain⟨e,g⟩:=wH ih (n::st) (W.sts.length:Int) n.many.toNat [] l r ⟨W.sts++[⟨eF n.op,n.peer⟩],W.eds,W.fs⟩ h;refine⟨e,?_,?_⟩;·have:=g.sts;simp only[List.length_cons,List.length_append,List.length_nil]at*;omega
         ·have:=g.eds;simp only[List.length_cons]at*;omega
        ·cases h
section
attribute [local go_sem ↓] Go.wp_at_zero Go.wp_at_succ
theorem ti(s:ByteArray)(w:World)(C:s.size<=1048576):Calls Tryz.prog 243 #[.string s] w fun e w'=>e=.returned (.string s)/\Below w.heap.size w w':=by have I:=aa C;clear C;go_enter Tryz.func243,Tryz.ntmps243;go_wp2_with(go_at_call 272;refine(Tryz.stringslite_Clone s _ (Nat.le_trans I.out (by omega))).mono ?_;rintro e J⟨rfl,j⟩;have l:=aa j;clear j);go_ret;exact⟨rfl,l.out⟩
theorem yj(z:Int)(w:World):Calls Tryz.prog 305 #[.int .i64 z] w fun e w'=>e=.returned (.int .i64 (eF z))/\w'=w:=by
 by_cases j:z=5;·subst j;go_enter Tryz.func305,Tryz.ntmps305;go_wp2_with fail;go_ret;exact⟨rfl,rfl⟩
 ·by_cases l:z=6;·subst l;go_enter Tryz.func305,Tryz.ntmps305;go_wp2_with fail;go_ret;exact⟨rfl,rfl⟩
  ·have I:(z==5)=false:=by simpa using j
   have J:(z==6)=false:=by simpa using l
   have C:Hid (eF z=0):=aa (by simp[eF,j,l]);clear j l;go_enter Tryz.func305,Tryz.ntmps305;go_wp2_with fail;go_ret;exact⟨aY C.out,rfl⟩
theorem vJ{w3 I:World}{J mb base T:Nat}{sv ev:Value}{W:Wv}{o:Obj}{v:Value}{j e size n:Nat}{U:List Value}(h:gX w3 J mb base sv ev T W)(C:w3.ownsRow j e size v n U)(hb:base<=j)(P:(w3.alloc o).grownBy I v.ownBlock):aW I J [sv,ev,.int .i64 0,.map (some mb)]:=by obtain⟨p,cp,rfl⟩:=ar C;have l:=(aj (ae w3 o)).trans (aD P);rw[List.nil_append]at l;exact h.box.aB l (fun R=>by have:=(ak C).lo _ R;have:=h.low;omega)
def jy(n:Nd):Bool:=n.op==0||n.op==5||n.op==6
def jg(all:List Nd)(j:Nat):Nat:=((all.take j).filter jy).length
theorem jY{all:List Nd}{j:Nat}(h:j<all.length):jg all (j+1)=jg all j+(if jy all[j]then 1 else 0):=by unfold jg;rw[List.take_succ_eq_append_getElem h,List.filter_append,List.length_append];cases l:jy all[j]<;>simp[l]
theorem qD(all:List Nd)(j:Nat):jg all j<=j:=by
 unfold jg;have l:=List.length_filter_le jy (all.take j);have C:(all.take j).length<=j:=by simp;omega
 omega
structure pK(w:World)(xb B:Nat)(all:List Nd)(ns:List ByteArray)(fis:List Int):Prop where
 c0:∃v,w.cell? ⟨xb,0,none⟩=some v/\bG w B v all
 nm:∃g cap,w.cell? ⟨xb,4,none⟩=some (.slice g ns.length cap)/\∀j(h:j<ns.length),∃b o,g=some ⟨b,o,none⟩/\b<B/\w.cell? ⟨b,o+j,none⟩=some (.string ns[j])
 fi:∃g cap,w.cell? ⟨xb,5,none⟩=some (.slice g fis.length cap)/\∀j(h:j<fis.length),∃b o,g=some ⟨b,o,none⟩/\b<B/\w.cell? ⟨b,o+j,none⟩=some (.int .i64 fis[j])
 lx:xb<B
theorem pK.below{w w':World}{xb B:Nat}{all:List Nd}{ns:List ByteArray}{fis:List Int}(h:pK w xb B all ns fis)(l:Below B w w'):pK w' xb B all ns fis:=by
 obtain⟨⟨v,h1,h2⟩,⟨g,cap,h3,h4⟩,⟨U,C,h5,h6⟩,J⟩:=h;refine⟨⟨v,(l.cell (p:=⟨xb,0,none⟩) J).trans h1,h2.carry l⟩,⟨g,cap,(l.cell (p:=⟨xb,4,none⟩) J).trans h3,fun j T=>?_⟩,⟨U,C,(l.cell (p:=⟨xb,5,none⟩) J).trans h5,fun j T=>?_⟩,J⟩;·obtain⟨b,o,P,I,R⟩:=h4 j T;exact⟨b,o,P,I,(l.cell (p:=⟨b,o+j,none⟩) I).trans R⟩
 ·obtain⟨b,o,P,I,R⟩:=h6 j T;exact⟨b,o,P,I,(l.cell (p:=⟨b,o+j,none⟩) I).trans R⟩
theorem zU:∀{ns:List ByteArray}{fis:List Int}{t:ByteArray}{k:Nat},fis.length=ns.length->(∀j(h:j<ns.length),j<k->(ns[j].toList==t.toList)=false)->(I:k<ns.length)->(ns[k].toList==t.toList)=true->∀(C:k<fis.length),gd ns fis t=fis[k]|x::ns,z::fis,t,0,_,_,_,h,_=>by rw[gd];simp only[List.getElem_cons_zero]at h|-;rw[if_pos h]|x::ns,z::fis,t,k+1,T,J,I,h,C=>by have l:=J 0 (by simp) (by omega);simp only[List.getElem_cons_zero]at l;rw[gd,l];simp only[List.getElem_cons_succ]at h|-;exact zU (by simpa using T) (fun j P R=>by have:=J (j+1) (by simpa using P) (by omega);simpa using this) (by simpa using I) h (by simpa using C)
theorem FI{ns:List ByteArray}{fis:List Int}{t:ByteArray}(I:∀j(h:j<ns.length),(ns[j].toList==t.toList)=false):gd ns fis t=0:=by
 refine oX ?_;cases h:cw ns t;·rfl
 ·simp only[cw,List.any_eq_true]at h;obtain⟨x,J,l⟩:=h;obtain⟨j,C,rfl⟩:=List.getElem_of_mem J;rw[I j C]at l;cases l
def zn(l:List Nd):Prop:=∀n∈l,n.name.size<=1048576/\n.peer.size<=1048576
def pI(w w':World)(B P mb base R:Nat)(e:Ending)(l r:List Nd)(i:Int)(W:Wv):Prop:=∃J I C j,e=.returned (.tuple #[.int .i64 i,J])/\bG w' B J r/\gX w' P mb base I C j W/\j+r.length<=R+l.length/\gA w w' base [P,mb]
structure E6(l:List Nd)(W:Wv)(nf:Nat):Prop where
 sts:W.sts.length+l.length<=900
 eds:W.eds.length+l.length<=900
 JE:nf+l.length<=900
def qO(f:Nat):Prop:=∀(st l r:List Nd)(v:Value)(w:World)(B j mb base nf:Nat)(sv ev:Value)(W:Wv),ahead (bC true) f st l=some r->zn l->bG w B v l->B<=base->B<=j->B<=mb->gX w j mb base sv ev nf W->E6 l W nf->Calls Tryz.prog 252 #[.pointer (some ⟨j,0,none⟩),v] w fun e w'=>pI w w' B j mb base nf e l r (wv f l W).1 (wv f l W).2.2
theorem kE{w w':World}{base:Nat}{l:List Nat}(h:Below w.heap.size w w')(j:base<=w.heap.size):gA w w' base l:=(aj h).kept j (by simp)
theorem zu(name j:ByteArray)(many l:Int)(C:List Nd)(w:World)(B U mb base nf b o cap:Nat)(sv ev:Value)(W:Wv)(ad:name.size<=1048576)(ab:b<B)(hB:B<=base/\B<=U/\B<=mb)(P:(⟨1,name,j,many,l⟩::C:List Nd).length<=cap)(ac:cap<=9223372036854775807/\C.length<4294967296)(I:cV w b o (⟨1,name,j,many,l⟩::C))(h:gX w U mb base sv ev nf W):Calls Tryz.prog 252 #[.pointer (some ⟨U,0,none⟩),.slice (some ⟨b,o,none⟩) (⟨1,name,j,many,l⟩::C:List Nd).length cap] w fun e w'=>pI w w' B U mb base nf e (⟨1,name,j,many,l⟩::C) C (W.fs name) W:=by
 have H:=aa h;have HB:=aa hB;have J:Hid (B<=w.heap.size):=aa (by have:=h.sz;omega);have HT:Hid (∀ao,(cap≠1->ao=some ⟨b,o+5,none⟩)->bG w B (.slice ao C.length (cap-1)) C):=aa (fun ao ha=>bG.tail ab I P ac ao ha);have k3:=h.box.cell 3 _ rfl;have al:U<w.heap.size:=h.box.lt;have T:∀W':World,W'=(w.alloc (.cells #[.int .i64 1,.string name,.string j,.int .i64 many,.int .i64 l] 156)).drew.drew->(Instr.lookup 307 (.map (some mb)) (.string name) false).run Tryz.prog W'=.ok (.int .i64 (W.fs name)) W':=fun W' e=>by rw[e];exact FA ((h.below ((aO w _).drew.drew)).fs) (by unfold maxLen;omega)
 have af:=T _ rfl;simp only[List.length_cons]at P;obtain⟨⟨c0,c1,c2,c3,c4⟩,-⟩:=I;dsimp only at c0 c1 c2 c3 c4;have ah:b<w.heap.size:=World.block_lt_of_cell? w _ c0;have hz:((C.length:Int)+1==0)=false:=beq_eq_false_iff_ne.2 (by omega);clear h hB T;by_cases R:cap=1;·subst R;obtain rfl:C=[]:=List.length_eq_zero_iff.1 (by omega);go_enter Tryz.func252,Tryz.ntmps252;go_wp2_with fail;go_region;go_wp2_with fail;go_region;go_wp2_with fail;go_ret2;exact⟨_,_,_,nf,rfl,(HT.out _ (fun h=>absurd rfl h)).carry ((aO w _).drew.drew.mono J.out),H.out.below (aO w _).drew.drew,by simp,kE (aO w _).drew.drew H.out.sz⟩
 ·go_enter Tryz.func252,Tryz.ntmps252;go_wp2_with fail;go_region;go_wp2_with fail;go_region;go_wp2_with fail;go_ret2;exact⟨_,_,_,nf,rfl,(HT.out _ (fun _=>rfl)).carry ((aO w _).drew.drew.mono J.out),H.out.below (aO w _).drew.drew,by simp,kE (aO w _).drew.drew H.out.sz⟩
theorem IV{w P:World}{R mb base J:Nat}{sv ev:Value}{W:Wv}{j:ByteArray->Int}(h:gX w R mb base sv ev J W)(T:qQ P mb (J+1) j)(l:aG w P [mb]):gX P R mb base sv ev (J+1) ⟨W.sts,W.eds,j⟩:=have U:=h.low;⟨h.box.aB l (by simp;omega),h.st.aB l (fun b C I=>by have:=h.st.fresh.lo b C;simp at I;omega),h.ed.aB l (fun b C I=>by have:=h.ed.fresh.lo b C;simp at I;omega),T,h.G1,U,Nat.le_trans h.sz l.size⟩
theorem Cy{w U w':World}{B P mb base T j:Nat}{e:Ending}{l R r:List Nd}{i:Int}{W:Wv}(hk:gA w U base [P,mb])(hn:j+R.length<=T+l.length)(h:pI U w' B P mb base j e R r i W):pI w w' B P mb base T e l r i W:=by obtain⟨v',J,C,I,h1,h2,h3,h4,h5⟩:=h;exact⟨v',J,C,I,h1,h2,h3,by omega,hk.trans h5⟩
theorem Fe(f:Nat)(hf:qO f)(st:List Nd)(name j:ByteArray)(many l:Int)(C r:List Nd)(w:World)(B P mb base nf b o cap:Nat)(sv ev:Value)(W:Wv)(ah:zn (⟨2,name,j,many,l⟩::C))(ha:ahead (bC true) f (⟨2,name,j,many,l⟩::st) C=some r)(ay:b<B)(R:B<=base/\B<=P/\B<=mb)(af:(⟨2,name,j,many,l⟩::C:List Nd).length<=cap)(az:cap<=9223372036854775807/\C.length<4294967296)(U:cV w b o (⟨2,name,j,many,l⟩::C))(h:gX w P mb base sv ev nf W)(I:E6 (⟨2,name,j,many,l⟩::C) W nf):Calls Tryz.prog 252 #[.pointer (some ⟨P,0,none⟩),.slice (some ⟨b,o,none⟩) (⟨2,name,j,many,l⟩::C:List Nd).length cap] w fun e w'=>pI w w' B P mb base nf e (⟨2,name,j,many,l⟩::C) r (wv f C ⟨W.sts,W.eds,fun x=>if x=name then(W.sts.length:Int)else W.fs x⟩).1 (wv f C ⟨W.sts,W.eds,fun x=>if x=name then(W.sts.length:Int)else W.fs x⟩).2.2:=by
 have H:=aa h;have HB:=aa R;have aL:C≠[]:=by rintro rfl;cases f<;>cases ha
 have aN:0<C.length:=List.length_pos_iff.2 aL;have aM:cap≠1:=by simp only[List.length_cons]at af;omega
 have HT:Hid (bG w B (.slice (some ⟨b,o+5,none⟩) C.length (cap-1)) C):=aa (bG.tail ay U af az _ (fun _=>rfl));obtain⟨ps,cs,rfl⟩:=ar h.st;have k3:=h.box.cell 3 _ rfl;have k0:=h.box.cell 0 _ rfl;have a1:P<w.heap.size:=h.box.lt;obtain⟨V,hV⟩:∃V,V=(w.alloc (.cells #[.int .i64 2,.string name,.string j,.int .i64 many,.int .i64 l] 156)).drew.drew:=⟨_,rfl⟩;have ad:Below w.heap.size w V:=by rw[hV];exact(aO w _).drew.drew
 have J:=h.below ad;have hn:=(ah _ (List.mem_cons_self)).1;have an:=I.sts;have ao:=I.eds;have aq:=I.JE;simp only[List.length_cons]at an ao aq;obtain⟨w2,av,T,ac⟩:=Ig (t:=name) (z:=(W.sts.length:Int)) J.fs (by dsimp only at hn;unfold maxLen;omega) (by omega) (by omega);have al:=IV J T ac;have ab:gA w w2 base [P,mb]:=(kE ad h.sz).trans (ac.kept J.sz (by simp));have ax:Hid (Calls Tryz.prog 252 #[.pointer (some ⟨P,0,none⟩),.slice (some ⟨b,o+5,none⟩) C.length (cap-1)] w2 fun e w'=>pI w w' B P mb base nf e (⟨2,name,j,many,l⟩::C) r (wv f C ⟨W.sts,W.eds,fun x=>if x=name then(W.sts.length:Int)else W.fs x⟩).1 (wv f C ⟨W.sts,W.eds,fun x=>if x=name then(W.sts.length:Int)else W.fs x⟩).2.2):=aa ((hf _ C r _ w2 B P mb base (nf+1) _ ev _ ha (fun n hn=>ah n (List.mem_cons_of_mem _ hn)) (ab.sl R.1 (by intro x hx;simp at hx;rcases hx with rfl|rfl;exact R.2.1;exact R.2.2) HT.out) R.1 R.2.1 R.2.2 al ⟨by dsimp only;omega,by dsimp only;omega,by omega⟩).mono fun e w' hA=>Cy ab (by simp only[List.length_cons];omega) hA);rw[hV]at av;simp only[List.length_cons]at af;obtain⟨⟨c0,c1,c2,c3,c4⟩,-⟩:=U;dsimp only at c0 c1 c2 c3 c4;have a0:b<w.heap.size:=World.block_lt_of_cell? w _ c0;have hz:((C.length:Int)+1==0)=false:=beq_eq_false_iff_ne.2 (by omega);clear h R hf ha ah I an ao aq T ac al ab J ad hn hV;go_enter Tryz.func252,Tryz.ntmps252;go_wp2_with fail;go_region;go_wp2_with fail;go_region;go_wp2_with(go_at_call 252;refine ax.out.mono ?_;rintro e w'⟨v',a3,aR,a2,rfl,h2,h3,h4,h5⟩;have H2:=aa h2;have H3:=aa h3;have H4:=aa h4;have H5:=aa h5;clear h2 h3 h4 h5);go_ret2;exact⟨_,_,_,_,rfl,H2.out,H3.out,H4.out,H5.out⟩
end
def sQ(l:List Nd):Nat:=(l.filter jy).length
theorem ia(n:Nd)(l:List Nd):sQ (n::l)=sQ l+(if jy n then 1 else 0):=by unfold sQ;cases h:jy n<;>simp[h]
theorem tk(all:List Nd)(j:Nat):jg all j+sQ (all.drop j)=sQ all:=by unfold jg sQ;rw[<-List.length_append,<-List.filter_append,List.take_append_drop]
structure zo(l r:List Nd)(S:List aP×List aA)(o:List Nd×List aP×List aA):Prop where
 rest:o.1=r
 sts:o.2.1.length+sQ r=S.1.length+sQ l
 eds:o.2.2.length+r.length<=S.2.length+l.length
theorem rF(e:aA)(l:List aA):(gK e l).length=l.length+1:=by have:=congrArg List.length (List.takeWhile_append_dropWhile (p:=fun x=>bQ x e) (l:=l));simp only[gK,List.length_append,List.length_cons]at*;omega
def I1(f:Nat):Prop:=∀(st l r:List Nd)(ns:List ByteArray)(fis:List Int)(S:List aP×List aA),ahead (bC true) f st l=some r->zo l r S (sv f ns fis l S)
theorem ue{f:Nat}(P:I1 f)(st:List Nd)(ns:List ByteArray)(fis:List Int)(s:Int):∀(m:Nat)(ls:List ByteArray)(l r:List Nd)(S:List aP×List aA),bA (ahead (bC true) f st) m ls l=some r->zo l r S (fk (sv f ns fis) (fun l k=>bK ns fis k l) s m l S)
 |0,ls,l,r,S,h=>by rw[bA]at h;injection h with h;subst h;exact⟨rfl,rfl,Nat.le_refl _⟩|m+1,ls,[],r,S,h=>by cases h|m+1,ls,c::l,r,S,h=>by
  rw[bA]at h;split at h;·
   rename_i J;split at h;·cases h
   ·rename_i R I;have g1:=P st l R ns fis (S.1,gK ⟨s,c.name,c.sort,bK ns fis S.1.length l⟩ S.2) I;have C:jy c=false:=by simp only[eE,Bool.and_eq_true,beq_iff_eq]at J;unfold jy;rw[J.1.1.1.1.1];rfl
    have e:fk (sv f ns fis) (fun l k=>bK ns fis k l) s (m+1) (c::l) S=fk (sv f ns fis) (fun l k=>bK ns fis k l) s m (sv f ns fis l (S.1,gK ⟨s,c.name,c.sort,bK ns fis S.1.length l⟩ S.2)).1 (sv f ns fis l (S.1,gK ⟨s,c.name,c.sort,bK ns fis S.1.length l⟩ S.2)).2:=rfl;rw[e];obtain⟨X,U⟩:∃X,sv f ns fis l (S.1,gK ⟨s,c.name,c.sort,bK ns fis S.1.length l⟩ S.2)=X:=⟨_,rfl⟩;rw[U]at g1|-;obtain rfl:X.1=R:=g1.rest;have g2:=ue P st ns fis s m (ls++[c.name]) X.1 r X.2 h;refine⟨g2.rest,?_,?_⟩;·have j:=g1.sts;have T:=g2.sts;rw[ia,C];simp only[Bool.false_eq_true,if_false];dsimp only at j;omega
    ·have j:=g1.eds;have T:=g2.eds;dsimp only at j;rw[rF]at j;simp only[List.length_cons];omega
  ·cases h
theorem Hd:∀f:Nat,I1 f:=by
 intro f;induction f with
  |zero=>
   intro st l r ns fis S h;cases l with
    |nil=>cases h|cons n l=>
     rw[sv];by_cases j:n.op=1;·
      rw[if_pos (by simpa using j)];rw[dr j]at h;split at h;·injection h with h;subst h;exact⟨rfl,by rw[ia];simp[jy,j],by simp⟩
      ·cases h
     ·rw[if_neg (by simpa using j)];by_cases C:n.op=0;·
       rw[db C]at h;split at h;·injection h with h;subst h;exact⟨rfl,by rw[ia];simp[jy,C];omega,by simp⟩
       ·cases h
      ·rw[fm C j]at h;cases h
  |succ f ih=>
   intro st l r ns fis S h;cases l with
    |nil=>cases h|cons n l=>
     rw[sv];by_cases j:n.op=1;·
      rw[if_pos (by simpa using j)];rw[dr j]at h;split at h;·injection h with h;subst h;exact⟨rfl,by rw[ia];simp[jy,j],by simp⟩
      ·cases h
     ·rw[if_neg (by simpa using j)];by_cases I:n.op=2;·
       rw[if_pos (by simpa using I)];rw[dA I]at h;split at h;·have g:=ih _ l r (ns++[n.name]) (fis++[bK (ns++[n.name]) (fis++[0]) S.1.length l]) S h;exact⟨g.rest,by have:=g.sts;rw[ia];simp[jy,I];exact this,by have:=g.eds;simp only[List.length_cons];omega⟩
       ·cases h
      ·rw[if_neg (by simpa using I)];by_cases C:n.op=0;·
        rw[db C]at h;split at h;·
         rename_i J;injection h with h;subst h;have R:n.many=0:=by simp only[ic,Bool.and_eq_true,beq_iff_eq]at J;exact J.1.2
         rw[R];exact⟨rfl,by rw[ia];simp[jy,C,fk];omega,by simp[fk]⟩
        ·cases h
       ·rw[fA C j I]at h;split at h;·
         rename_i P;have g:=ue ih (n::st) ns fis (S.1.length:Int) n.many.toNat [] l r (S.1++[⟨eF n.op,n.peer⟩],S.2) h;have T:jy n=true:=by simp only[bC,Bool.and_eq_true,Bool.or_eq_true,beq_iff_eq,if_true]at P;unfold jy;rcases P.2.2 with e|e<;>rw[e]<;>rfl
         exact⟨g.rest,by have:=g.sts;rw[ia,T];simp only[List.length_append,List.length_cons,List.length_nil,if_true]at*;omega,by have:=g.eds;simp only[List.length_cons]at*;omega⟩
        ·cases h
theorem FH{all r:List Nd}{j:Nat}(h:r<:+all.drop j):r=all.drop (all.length-r.length)/\all.length-r.length<=all.length/\r.length<=all.length-j:=by have C:=h.trans (List.drop_suffix j all);have l:=h.length_le;rw[List.length_drop]at l;exact⟨List.suffix_iff_eq_drop.1 C,by omega,l⟩
section
attribute [local go_sem ↓] Go.wp_at_zero Go.wp_at_succ
def qP(all:List Nd)(ns:List ByteArray)(fis:List Int)(d:Nat):Prop:=∀(pos xb B:Nat)(w:World),all.length-pos=d->¬(∀n∈all.drop pos,n.op=2)->pK w xb B all ns fis->B<=w.heap.size->Calls Tryz.prog 238 #[.pointer (some ⟨xb,0,none⟩),.int .i64 (pos:Int)] w fun e w'=>e=.returned (.int .i64 (bK ns fis (jg all pos) (all.drop pos)))/\Below w.heap.size w w'
theorem A8(all:List Nd)(ns:List ByteArray)(fis:List Int)(hl:fis.length=ns.length)(bm:ns.length<=1000)(I xb B:Nat)(w:World)(T:I<all.length)(a8:all.length<=400)(ad:all[I].op=1)(h:pK w xb B all ns fis)(hB:B<=w.heap.size):Calls Tryz.prog 238 #[.pointer (some ⟨xb,0,none⟩),.int .i64 (I:Int)] w fun e w'=>e=.returned (.int .i64 (gd ns fis all[I].name))/\Below w.heap.size w w':=by
 have H:=aa h;obtain⟨⟨v,c0,a3⟩,⟨gn,a7,c4,a2⟩,⟨gf,a6,c5,a0⟩,hx⟩:=h;obtain⟨ao,cap,rfl,bi,bk,hr⟩:=a3;obtain⟨b,o,rfl,hb,U⟩:=hr (by rintro rfl;simp at T);have P:=U.get I T;obtain⟨x1,ay⟩:∃x,x=all[I]:=⟨_,rfl⟩;rw[<-ay]at P ad|-;obtain⟨op,name,a9,many,sort⟩:=x1;dsimp only at ad;subst ad;obtain⟨d0,d1,d2,d3,d4⟩:=P;dsimp only at d0 d1 d2 d3 d4;have aL:=aa a2;have az:=aa a0;have J:=aa hB;have HX:=aa hx;clear ay U hr;go_enter Tryz.func238,Tryz.ntmps238;go_wp2_with fail;have bb:Hid (∀o:Obj,Below w.heap.size w (w.alloc o)):=aa (ae w);go_loopw[6](fun i wr=>∃k:Nat,k<=ns.length/\i=.int .i64 k/\(∀j(h:j<ns.length),j<k->(ns[j].toList==name.toList)=false)/\wr.cell? ⟨w.heap.size,1,none⟩=some (.string name)/\Below w.heap.size w wr)(fun i _=>ns.length-(intOf i).toNat);case atStart=>exact⟨0,Nat.zero_le _,rfl,fun j _ h=>absurd h (by omega),by simp,ae w _⟩
 case round=>
  obtain⟨k,hk,rfl,ax,a1,C⟩:=hrel;have ab:=aa ax;have l:=aa C;have HF:=aa (H.out.below (C.mono J.out));have e0:=(C.cell (p:=⟨xb,4,none⟩) (Nat.lt_of_lt_of_le HX.out J.out)).trans c4;have e5:=(C.cell (p:=⟨xb,5,none⟩) (Nat.lt_of_lt_of_le HX.out J.out)).trans c5;clear ax C;by_cases ac:k<ns.length;·
   obtain⟨bn,a5,rfl,aR,aq⟩:=aL.out k ac;have R:k<fis.length:=by omega
   obtain⟨bf,a4,rfl,aN,an⟩:=az.out k R;have n0:=(l.out.cell (p:=⟨bn,a5+k,none⟩) (Nat.lt_of_lt_of_le aR J.out)).trans aq;have f0:=(l.out.cell (p:=⟨bf,a4+k,none⟩) (Nat.lt_of_lt_of_le aN J.out)).trans an;obtain⟨s1,af⟩:∃s,ns[k]=s:=⟨_,rfl⟩;obtain⟨z1,ah⟩:∃z,fis[k]=z:=⟨_,rfl⟩;rw[af]at n0;rw[ah]at f0;have al:=aa af;have aM:=aa ah;clear af ah aq an;cases heq:(s1.toList==name.toList);·
    go_wp2_with fail;go_region;go_wp2_with fail;go_roundw;case rel=>
     refine⟨k+1,ac,by go_num,fun j hj bl=>?_,a1,l.out.drew⟩;by_cases av:j=k;·subst av;rw[al.out];exact heq
     ·exact ab.out j hj (by omega)
    case measure=>simp[intOf];omega
   ·go_wp2_with fail;go_region;go_wp2_with fail;go_ret;refine⟨aY ?_,l.out.drew⟩;rw[zU hl ab.out ac (by rw[al.out];exact heq) R,aM.out]
  ·obtain rfl:k=ns.length:=by omega
   go_wp2_with fail;go_ret;exact⟨aY (FI (fun j hj=>ab.out j hj hj)),l.out⟩
theorem A7(all:List Nd)(ns:List ByteArray)(fis:List Int)(d:Nat)(hd:qP all ns fis d)(j xb B:Nat)(w:World)(ab:all.length-(j+1)=d)(I:j<all.length)(al:all.length<=400)(J:all[j].op=2)(R:¬(∀n∈all.drop (j+1),n.op=2))(h:pK w xb B all ns fis)(hB:B<=w.heap.size):Calls Tryz.prog 238 #[.pointer (some ⟨xb,0,none⟩),.int .i64 (j:Int)] w fun e w'=>e=.returned (.int .i64 (bK ns fis (jg all (j+1)) (all.drop (j+1))))/\Below w.heap.size w w':=by have H:=aa h;obtain⟨⟨v,c0,ac⟩,⟨gn,ah,c4,ay⟩,⟨gf,af,c5,ax⟩,hx⟩:=h;obtain⟨ao,cap,rfl,aq,av,hr⟩:=ac;obtain⟨b,o,rfl,hb,C⟩:=hr (by rintro rfl;simp at I);have l:=C.get j I;have ad:=aa C;have HD:Hid (∀o:Obj,Calls Tryz.prog 238 #[.pointer (some ⟨xb,0,none⟩),.int .i64 ((j:Int)+1)] (w.alloc o) fun e w'=>e=.returned (.int .i64 (bK ns fis (jg all (j+1)) (all.drop (j+1))))/\Below w.heap.size w w'):=aa (fun ob=>by have:=hd (j+1) xb B (w.alloc ob) ab R (H.out.below ((ae w ob).mono hB)) (by simp;omega);rw[show(((j+1:Nat)):Int)=(j:Int)+1 by omega]at this;exact this.mono fun e w'⟨h1,h2⟩=>⟨h1,(ae w ob).trans (h2.mono (by simp))⟩);obtain⟨x1,T⟩:∃x,x=all[j]:=⟨_,rfl⟩;rw[<-T]at l J;obtain⟨op,name,an,many,sort⟩:=x1;dsimp only at J;subst J;obtain⟨d0,d1,d2,d3,d4⟩:=l;dsimp only at d0 d1 d2 d3 d4;clear T C hr hd R;go_enter Tryz.func238,Tryz.ntmps238;go_wp2_with(go_at_call 238;refine(HD.out _).mono ?_;rintro e w2⟨rfl,P⟩;have U:=aa P;clear P);go_ret;exact⟨rfl,U.out⟩
theorem C7(all:List Nd)(ns:List ByteArray)(fis:List Int)(C xb B:Nat)(w:World)(ac:C<all.length)(aL:all.length<=400)(P:all[C].op≠1)(l:all[C].op≠2)(h:pK w xb B all ns fis)(hB:B<=w.heap.size):Calls Tryz.prog 238 #[.pointer (some ⟨xb,0,none⟩),.int .i64 (C:Int)] w fun e w'=>e=.returned (.int .i64 (jg all C:Int))/\Below w.heap.size w w':=by
 have H:=aa h;obtain⟨⟨v,c0,ax⟩,⟨gn,az,c4,a2⟩,⟨gf,ay,c5,a1⟩,hx⟩:=h;obtain⟨ao,cap,rfl,aR,a0,hr⟩:=ax;obtain⟨b,o,rfl,hb,U⟩:=hr (by rintro rfl;simp at ac);have T:=U.get C ac;have af:=aa U;have HX:=aa hx;have ad:=aa hB;have aq:=aa hb;obtain⟨x1,an⟩:∃x,x=all[C]:=⟨_,rfl⟩;rw[<-an]at T P l;obtain⟨op,name,aN,many,sort⟩:=x1;dsimp only at P l;have e1:(op==1)=false:=by simpa using P
 have e2:(op==2)=false:=by simpa using l
 obtain⟨d0,d1,d2,d3,d4⟩:=T;dsimp only at d0 d1 d2 d3 d4;clear an U hr P l;go_enter Tryz.func238,Tryz.ntmps238;go_wp2_with fail;go_loopw[7,8](fun kv i wr=>∃j:Nat,j<=C/\i=.int .i64 j/\kv=.int .i64 (jg all j:Int)/\Below w.heap.size w wr)(fun _ i _=>C-(intOf i).toNat);case atStart=>exact⟨0,Nat.zero_le _,rfl,by simp[jg],ae w _⟩
 case round=>
  obtain⟨j,hj,rfl,rfl,R⟩:=hrel;have I:=aa R;have g0:=(R.cell (p:=⟨xb,0,none⟩) (Nat.lt_of_lt_of_le HX.out ad.out)).trans c0;have aM:=qD all j;clear R;by_cases ab:j<C;·
   have ah:j<all.length:=by omega
   have al:=(af.out.get j ah).1;have k0:=(I.out.cell (p:=⟨b,o+j*5,none⟩) (Nat.lt_of_lt_of_le aq.out ad.out)).trans al;have HC:=aa (jY ah);obtain⟨J,l⟩:∃z,all[j].op=z:=⟨_,rfl⟩;have av:Hid (jy all[j]=(J==0||J==5||J==6)):=aa (by unfold jy;rw[l]);rw[l]at k0;clear l al;rw[av.out]at HC;by_cases q0:J=0;·
    subst q0;go_wp2_with fail;go_roundw;case rel=>exact⟨j+1,ab,by go_num,by rw[HC.out];simp,I.out⟩
    case measure=>simp[intOf];omega
   ·have r0:(J==0)=false:=by simpa using q0
    by_cases q5:J=5;·
     subst q5;go_wp2_with fail;go_roundw;case rel=>exact⟨j+1,ab,by go_num,by rw[HC.out];simp,I.out⟩
     case measure=>simp[intOf];omega
    ·have r5:(J==5)=false:=by simpa using q5
     by_cases q6:J=6;·
      subst q6;go_wp2_with fail;go_roundw;case rel=>exact⟨j+1,ab,by go_num,by rw[HC.out];simp,I.out⟩
      case measure=>simp[intOf];omega
     ·have r6:(J==6)=false:=by simpa using q6
      go_wp2_with fail;go_roundw;case rel=>exact⟨j+1,ab,by go_num,by rw[HC.out,r0,r5,r6];simp,I.out⟩
      case measure=>simp[intOf];omega
  ·obtain rfl:j=C:=by omega
   go_wp2_with fail;go_ret;exact⟨rfl,I.out⟩
theorem lD(all:List Nd)(ns:List ByteArray)(fis:List Int)(hl:fis.length=ns.length)(ab:ns.length<=1000)(l:all.length<=400):∀d,qP all ns fis d:=by
 intro d;induction d with
  |zero=>intro pos xb B w hd I;exact absurd (fun n J=>by rw[List.drop_eq_nil_of_le (by omega)]at J;cases J) I|succ d ih=>
   intro pos xb B w hd I h U;have j:pos<all.length:=by omega
   have C:all.drop pos=all[pos]::all.drop (pos+1):=List.drop_eq_getElem_cons j;by_cases T:all[pos].op=1;·have:=A8 all ns fis hl ab pos xb B w j l T h U;rw[C,bK,T];exact this
   ·by_cases P:all[pos].op=2;·
     have R:¬(∀n∈all.drop (pos+1),n.op=2):=fun hh=>I (fun n J=>by
      rw[C]at J;rcases List.mem_cons.1 J with rfl|J;·exact P
      ·exact hh n J);have:=A7 all ns fis d ih pos xb B w (by omega) j l P R h U;rw[jY j]at this;have hs:jy all[pos]=false:=by unfold jy;rw[P];rfl
     rw[hs]at this;simp only[Bool.false_eq_true,if_false,Nat.add_zero]at this;rw[C,bK,P];exact this
    ·have:=C7 all ns fis pos xb B w j l T P h U;have e1:(all[pos].op==1)=false:=by simpa using T
     have e2:(all[pos].op==2)=false:=by simpa using P
     rw[C,bK,e1,e2];exact this
end
