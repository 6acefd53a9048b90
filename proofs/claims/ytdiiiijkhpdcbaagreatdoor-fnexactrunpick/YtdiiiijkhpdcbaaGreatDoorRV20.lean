import Derived.Test.YtdiiiijkhpdcbaaGreatDoorRV17
import Derived.Test.YtdiiiijkhpdcbaaGreatDoorRV14
namespace Go.Proofs.YtdiiiijkhpdcbaaGreatDoor
open Go.RowKit
set_option linter.unusedSimpArgs false
set_option linter.unusedVariables false
structure Wv where
 sts:List aP
 eds:List aA
 fs:ByteArray->Int
def eF(j:Int):Int:=if j==5 then 1 else if j==6 then 2 else 0
def dv(go:List Nd->Wv->Int×List Nd×Wv)(s:Int):Nat->List Nd->Wv->List Nd×Wv|0,l,W=>(l,W)|_+1,[],W=>([],W)|k+1,c::l,W=>dv go s k (go l W).2.1 ⟨(go l W).2.2.sts,(go l W).2.2.eds++[⟨s,c.name,c.sort,(go l W).1⟩],(go l W).2.2.fs⟩
def wv:Nat->List Nd->Wv->Int×List Nd×Wv|_,[],W=>(0,[],W)|0,n::l,W=>if n.op==1 then(W.fs n.name,l,W)else((W.sts.length:Int),l,⟨W.sts++[⟨eF n.op,n.peer⟩],W.eds,W.fs⟩)|f+1,n::l,W=>if n.op==1 then(W.fs n.name,l,W)else if n.op==2 then wv f l ⟨W.sts,W.eds,fun x=>if x=n.name then(W.sts.length:Int)else W.fs x⟩else((W.sts.length:Int),dv (wv f) (W.sts.length:Int) n.many.toNat l ⟨W.sts++[⟨eF n.op,n.peer⟩],W.eds,W.fs⟩)
def gd:List ByteArray->List Int->ByteArray->Int|x::ns,z::fis,t=>if x.toList==t.toList then z else gd ns fis t|_,_,_=>0
def bK(ns:List ByteArray)(fis:List Int)(len:Int):List Nd->Int|[]=>0|n::l=>if n.op==1 then gd ns fis n.name else if n.op==2 then bK ns fis len l else len
def gK(e:aA)(l:List aA):List aA:=l.takeWhile (fun x=>bQ x e)++e::l.dropWhile (fun x=>bQ x e)
def fk(go:List Nd->List aP×List aA->List Nd×List aP×List aA)(j:List Nd->Nat->Int)(s:Int):Nat->List Nd->List aP×List aA->List Nd×List aP×List aA|0,l,S=>(l,S)|_+1,[],S=>([],S)|k+1,c::l,S=>fk go j s k (go l (S.1,gK ⟨s,c.name,c.sort,j l S.1.length⟩ S.2)).1 (go l (S.1,gK ⟨s,c.name,c.sort,j l S.1.length⟩ S.2)).2
def sv:Nat->List ByteArray->List Int->List Nd->List aP×List aA->List Nd×List aP×List aA|_,_,_,[],S=>([],S)|0,_,_,n::l,S=>if n.op==1 then(l,S)else(l,S.1++[⟨eF n.op,n.peer⟩],S.2)|f+1,ns,fis,n::l,S=>if n.op==1 then(l,S)else if n.op==2 then sv f (ns++[n.name]) (fis++[bK (ns++[n.name]) (fis++[0]) S.1.length l]) l S else fk (sv f ns fis) (fun l k=>bK ns fis k l) (S.1.length:Int) n.many.toNat l (S.1++[⟨eF n.op,n.peer⟩],S.2)
def fH:List Nd->Bool|[]=>false|n::l=>if n.op==1 then true else if n.op==2 then fH l else false
structure Inv(st l:List Nd)(fs:ByteArray->Int)(ns:List ByteArray)(fis:List Int):Prop where
 names:ns=bd st
 len:fis.length=ns.length
 said:∀t,eR false st t=true->fs t=gd ns fis t
 open_:fH l=false->∀t,bW st t=true->fs t=gd ns fis t
theorem gi{a b:ByteArray}:(a.toList==b.toList)=true↔a=b:=by
 constructor;·intro h;have h:=beq_iff_eq.1 h;rw[Go.ByteArray.toList_eq,Go.ByteArray.toList_eq]at h;apply ByteArray.ext;exact Array.ext' h
 ·rintro rfl;simp
theorem oY{ns:List ByteArray}{fis:List Int}(j:fis.length=ns.length)(x:ByteArray)(z:Int)(t:ByteArray):gd (ns++[x]) (fis++[z]) t=if cw ns t then gd ns fis t else if x.toList==t.toList then z else 0:=by
 induction ns generalizing fis with
  |nil=>have:fis=[]:=List.length_eq_zero_iff.1 j;subst this;simp[gd,cw]|cons y ns ih=>
   match fis,j with
    |u::fis,j=>
     have l:fis.length=ns.length:=by simpa using j
     rw[List.cons_append,List.cons_append,gd,ih l,gd];by_cases h:(y.toList==t.toList)=true;·rw[if_pos h,if_pos (by simp[cw]at h|-;simp[h]),if_pos h]
     ·rw[if_neg h];have:cw (y::ns) t=cw ns t:=by simp only[cw,List.any_cons];rw[Bool.eq_false_iff.2 h];rfl
      rw[this,if_neg h]
theorem pS{ns:List ByteArray}{fis:List Int}{k:Int}:∀{l:List Nd},l≠[]->fH l=false->(∀n∈l,True)->bK ns fis k l=k\/(∀n∈l,n.op=2)
 |[],h,_,_=>absurd rfl h|n::l,_,j,_=>by
  unfold fH at j;unfold bK;by_cases J:(n.op==1)=true;·rw[if_pos J]at j;cases j
  ·rw[if_neg J]at j|-;by_cases C:(n.op==2)=true;·
    rw[if_pos C]at j|-;cases l with
     |nil=>right;intro m P;simp at P;subst P;simpa using C|cons m l=>
      rcases pS (ns:=ns) (fis:=fis) (k:=k) (l:=m::l) (by simp) j (fun _ _=>trivial)with h|h;·exact .inl h
      ·right;intro x I;rcases List.mem_cons.1 I with rfl|I;·simpa using C
       ·exact h x I
   ·rw[if_neg C];exact .inl rfl
theorem jB{T:Nd->Bool}:∀(f:Nat)(st l r:List Nd),ahead T f st l=some r->¬(∀n∈l,n.op=2):=by
 intro f;induction f with
  |zero=>intro st l r h j;cases l with|nil=>cases h|cons n l=>have C:=j n (by simp);rw[fG C]at h;cases h
  |succ f ih=>
   intro st l r h j;cases l with
    |nil=>cases h|cons n l=>
     have C:=j n (by simp);rw[dA C]at h;split at h;·exact ih _ _ _ h (fun m I=>j m (by simp[I]))
     ·cases h
theorem A6{T:Nd->Bool}{f:Nat}{st l r:List Nd}{ns:List ByteArray}{fis:List Int}{k:Int}(h:ahead T f st l=some r)(j:fH l=false):bK ns fis k l=k:=by
 rcases pS (ns:=ns) (fis:=fis) (k:=k) (l:=l) (by rintro rfl;cases f<;>cases h) j (fun _ _=>trivial)with e|e;·exact e
 ·exact absurd e (jB f st l r h)
theorem wF(e:aA)(l:List aA):(gK e l).Perm (e::l):=by unfold gK;refine List.perm_middle.trans ?_;rw[List.takeWhile_append_dropWhile]
theorem oX:∀{ns:List ByteArray}{fis:List Int}{t:ByteArray},cw ns t=false->gd ns fis t=0|[],_,_,_=>by simp[gd]|_::_,[],_,_=>by simp[gd]|x::ns,z::fis,t,h=>by simp only[cw,List.any_cons,Bool.or_eq_false_iff]at h;rw[gd,if_neg (by rw[h.1];simp)];exact oX h.2
theorem wP{ns:List ByteArray}{fis:List Int}(l:fis.length=ns.length){x:ByteArray}{z:Int}{t:ByteArray}(h:(x.toList==t.toList)=false):gd (ns++[x]) (fis++[z]) t=gd ns fis t:=by
 rw[oY l,h];cases j:cw ns t;·rw[oX j];simp
 ·simp
theorem tw{T:Nd->Bool}:∀(f:Nat)(st l r:List Nd)(ns:List ByteArray)(fis:List Int)(x:ByteArray)(z k:Int),ahead T f st l=some r->fis.length=ns.length->eR false st x=false->bK (ns++[x]) (fis++[z]) k l=bK ns fis k l:=by
 intro f;induction f with
  |zero=>
   intro st l r ns fis x z k h hl I;cases l with
    |nil=>rfl|cons n l=>
     unfold bK;by_cases j:(n.op==1)=true;·
      rw[if_pos j,if_pos j];rw[dr (by simpa using j)]at h;split at h;·
       rename_i J;simp only[Bool.and_eq_true]at J;refine wP hl ?_;cases P:(x.toList==n.name.toList);·rfl
       ·rw[gi.1 P,J.2]at I;cases I
      ·cases h
     ·rw[if_neg j,if_neg j];by_cases C:(n.op==2)=true;·rw[fG (by simpa using C)]at h;cases h
      ·rw[if_neg C,if_neg C]
  |succ f ih=>
   intro st l r ns fis x z k h hl I;cases l with
    |nil=>rfl|cons n l=>
     unfold bK;by_cases j:(n.op==1)=true;·
      rw[if_pos j,if_pos j];rw[dr (by simpa using j)]at h;split at h;·
       rename_i J;simp only[Bool.and_eq_true]at J;refine wP hl ?_;cases P:(x.toList==n.name.toList);·rfl
       ·rw[gi.1 P,J.2]at I;cases I
      ·cases h
     ·rw[if_neg j,if_neg j];by_cases C:(n.op==2)=true;·
       rw[if_pos C,if_pos C];rw[dA (by simpa using C)]at h;split at h;·
        refine ih (n::st) l r ns fis x z k h hl ?_;rw[eR,if_pos C];split;·rfl
        ·exact I
       ·cases h
      ·rw[if_neg C,if_neg C]
structure Hp(st:List Nd)(fs:ByteArray->Int)(sts:List aP)(eds E:List aA)(o:List Nd×Wv)(p:List Nd×List aP×List aA)(r:List Nd):Prop where ex:∃new fs' sts' E',o=(r,⟨sts',eds++new,fs'⟩)/\p=(r,sts',E')/\E'.Perm (E++new)/\(∀t,bW st t=true->fs' t=fs t)/\sts.length<=sts'.length
def I3(f:Nat):Prop:=∀(st l r:List Nd)(fs:ByteArray->Int)(sts:List aP)(eds E:List aA)(ns:List ByteArray)(fis:List Int),ahead (bC true) f st l=some r->je st->Inv st l fs ns fis->(wv f l ⟨sts,eds,fs⟩).1=bK ns fis sts.length l/\Hp st fs sts eds E (wv f l ⟨sts,eds,fs⟩).2 (sv f ns fis l (sts,E)) r
theorem l6{st l:List Nd}{fs:ByteArray->Int}{sts:List aP}{eds E:List aA}(x:List aP):Hp st fs sts eds E (l,⟨sts++x,eds,fs⟩) (l,sts++x,E) l:=⟨[],fs,sts++x,E,by simp,rfl,by simp,fun _ _=>rfl,by simp⟩
theorem tE{f:Nat}(hf:I3 f){st:List Nd}{ns:List ByteArray}{fis:List Int}(ad:je st)(ab:ns=bd st)(hl:fis.length=ns.length)(I:∀t,eR false st t=true->bW st t=true)(s:Int):∀(m:Nat)(ls:List ByteArray)(l r:List Nd)(fs:ByteArray->Int)(sts:List aP)(eds E:List aA),bA (ahead (bC true) f st) m ls l=some r->(∀t,bW st t=true->fs t=gd ns fis t)->Hp st fs sts eds E (dv (wv f) s m l ⟨sts,eds,fs⟩) (fk (sv f ns fis) (fun l k=>bK ns fis k l) s m l (sts,E)) r
 |0,ls,l,r,fs,sts,eds,E,h,_=>by rw[bA]at h;injection h with h;subst h;exact⟨[],fs,sts,E,by simp[dv],by simp[fk],by simp,fun _ _=>rfl,Nat.le_refl _⟩|m+1,ls,[],r,fs,sts,eds,E,h,_=>by cases h|m+1,ls,c::l,r,fs,sts,eds,E,h,P=>by
  rw[bA]at h;split at h;·
   split at h;·cases h
   ·rename_i r1 ay;have U:Inv st l fs ns fis:=⟨ab,hl,fun t J=>P t (I t J),fun _ t J=>P t J⟩;obtain⟨e1,j,an,ah,E1,ho,hp,ax,R,az⟩:=hf st l r1 fs sts eds (gK ⟨s,c.name,c.sort,bK ns fis sts.length l⟩ E) ns fis ay ad U;obtain⟨C,ao,al,E2,aq,av,ac,T,af⟩:=tE hf ad ab hl I s m (ls++[c.name]) r1 r an ah ((eds++j)++[⟨s,c.name,c.sort,bK ns fis sts.length l⟩]) E1 h (fun t J=>(R t J).trans (P t J));refine⟨j++[⟨s,c.name,c.sort,bK ns fis sts.length l⟩]++C,ao,al,E2,?_,?_,?_,fun t J=>(T t J).trans (R t J),Nat.le_trans az af⟩;·rw[dv,e1,ho];simp only;rw[aq];simp[List.append_assoc]
    ·rw[fk];simp only;rw[hp];exact av
    ·refine ac.trans ?_;refine(List.Perm.append_right C (ax.trans (List.Perm.append_right j (wF _ _)))).trans ?_;rw[List.append_assoc,<-List.append_assoc E];refine List.Perm.trans ?_ (List.Perm.of_eq (by simp[List.append_assoc]:(E++j)++([⟨s,c.name,c.sort,bK ns fis sts.length l⟩]++C)=_));show(_::(E++(j++C))).Perm _;rw[<-List.append_assoc];exact(List.perm_middle (a:=(⟨s,c.name,c.sort,bK ns fis sts.length l⟩:aA)) (l₁:=E++j) (l₂:=C)).symm
  ·cases h
