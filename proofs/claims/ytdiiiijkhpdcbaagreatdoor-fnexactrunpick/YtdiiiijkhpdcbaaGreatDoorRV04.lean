import Derived.Test.YtdiiiijkhpdcbaaGreatDoorRV00
namespace Go.Proofs.YtdiiiijkhpdcbaaGreatDoor
open Go.RowKit
set_option linter.unusedSimpArgs false
set_option linter.unusedVariables false
def aJ:Value->List Nat|.slice (some a) _ _=>[a.block]|_=>[]
def ag:Value->List Nat|.agg cs=>cs.toList.flatMap aJ|v=>aJ v
structure dy(lo:Nat)(w:World)(v:Value):Prop where
 lo:∀b∈ag v,lo<=b
 hi:∀b∈ag v,b<w.heap.size
 free:∀b∈ag v,∀j,w.frozen? ⟨b,j,none⟩=false
 nodup:(ag v).Nodup
structure aG(w w':World)(l:List Nat):Prop where
 os:w'.os=w.os
 tape:w'.tape=w.tape
 output:w'.output=w.output
 size:w.heap.size<=w'.heap.size
 block:∀b,b<w.heap.size->b∉l->w'.heap[b]?=w.heap[b]?
theorem aG.refl(w:World):aG w w []:=⟨rfl,rfl,rfl,Nat.le_refl _,fun _ _ _=>rfl⟩
theorem aj{w w':World}(h:Below w.heap.size w w'):aG w w' []:=⟨h.os,h.tape,h.output,h.size,fun b j _=>h.block b j⟩
theorem aG.trans{a b c:World}{l l':List Nat}(h:aG a b l)(j:aG b c l'):aG a c (l++l'):=⟨j.os.trans h.os,j.tape.trans h.tape,j.output.trans h.output,Nat.le_trans h.size j.size,fun k I C=>by rw[List.mem_append,not_or]at C;exact(j.block k (Nat.lt_of_lt_of_le I h.size) C.2).trans (h.block k I C.1)⟩
theorem aG.then{a b c:World}{l:List Nat}(h:aG a b l)(j:Below b.heap.size b c):aG a c l:=by have:=h.trans (aj j);rwa[List.append_nil]at this
theorem aG.drew{a b:World}{l:List Nat}(h:aG a b l):aG a b.drew l:=⟨h.os,h.tape,h.output,h.size,h.block⟩
theorem aG.below{w w':World}{l:List Nat}(h:aG w w' l){B:Nat}(j:B<=w.heap.size)(I:∀b∈l,B<=b):Below B w w':=⟨h.os,h.tape,h.output,h.size,fun k C=>h.block k (Nat.lt_of_lt_of_le C j) (fun J=>absurd (I k J) (by omega))⟩
theorem aG.cell{w w':World}{l:List Nat}(h:aG w w' l){b o:Nat}{x:Value}(j:w.cell? ⟨b,o,none⟩=some x)(C:∀k∈l,b<k):w'.cell? ⟨b,o,none⟩=some x:=(World.cell?_of_block (a:=⟨b,o,none⟩) (h.block b (World.block_lt_of_cell? w _ j) (fun I=>absurd (C b I) (by omega)))).trans j
theorem aG.grown{w w':World}{b:Nat}(h:w.grownBy w' (some b)):aG w w' [b]:=⟨h.os,h.tape,h.output,h.size,fun k j l=>h.block k j (fun e=>l (by simp at e;simp[e]))⟩
theorem aG.gr{w w':World}(h:w.grownBy w' none):aG w w' []:=⟨h.os,h.tape,h.output,h.size,fun k j _=>h.block k j (by simp)⟩
theorem aD{w w':World}{p:Option Addr}{n c:Nat}(h:w.grownBy w' (Value.slice p n c).ownBlock):aG w w' (ag (.slice p n c)):=by cases p with|none=>exact aG.gr h|some a=>exact aG.grown h
theorem dy.aB{lo:Nat}{w w':World}{v:Value}{l:List Nat}(h:dy lo w v)(I:aG w w' l)(hd:∀b∈ag v,b∉l):dy lo w' v:=⟨h.lo,fun b C=>Nat.lt_of_lt_of_le (h.hi b C) I.size,fun b C j=>(World.frozen?_of_block (a:=⟨b,j,none⟩) (I.block b (h.hi b C) (hd b C))).trans (h.free b C j),h.nodup⟩
theorem lF{lo:Nat}{w:World}{p:Option Addr}{n c:Nat}(h:oH lo w (.slice p n c)):dy lo w (.slice p n c):=by cases p with|none=>exact⟨by simp[ag,aJ],by simp[ag,aJ],by simp[ag,aJ],by simp[ag,aJ]⟩|some a=>have j:=h.free a.block rfl;exact⟨by simp[ag,aJ];exact j.1,by simp[ag,aJ];exact j.2.1,by simp[ag,aJ];exact j.2.2,by simp[ag,aJ]⟩
theorem dy.own{lo:Nat}{w:World}{p:Option Addr}{n c:Nat}(h:dy lo w (.slice p n c)):oH lo w (.slice p n c):=by cases p with|none=>exact⟨fun b j=>by cases j⟩|some a=>exact⟨fun b j=>by simp[Value.ownBlock]at j;subst j;exact⟨h.lo _ (by simp[ag,aJ]),h.hi _ (by simp[ag,aJ]),h.free _ (by simp[ag,aJ])⟩⟩
theorem aS{v:Value}{p:Option Addr}{n c:Nat}(e:v=.slice p n c){b:Nat}:v.ownBlock=some b↔b∈ag v:=by subst e;cases p with|none=>simp[Value.ownBlock,ag,aJ]|some a=>simp[Value.ownBlock,ag,aJ];exact⟨fun h=>h.symm,fun h=>h.symm⟩
theorem dy.Hy{I l:Nat}{U w2:World}{J P:Value}(R:dy I U J)(T:dy l w2 P)(h:U.heap.size<=l):(∀b∈ag J,b∉ag P)/\(∀b∈ag P,b∉ag J):=⟨fun b C j=>absurd (R.hi b C) (by have:=T.lo b j;omega),fun b C j=>absurd (R.hi b j) (by have:=T.lo b C;omega)⟩
theorem aG.eS{w w':World}{l:List Nat}(h:aG w w' l){b o:Nat}{x:Value}(j:w.cell? ⟨b,o,none⟩=some x)(C:b∉l):w'.cell? ⟨b,o,none⟩=some x:=(World.cell?_of_block (a:=⟨b,o,none⟩) (h.block b (World.block_lt_of_cell? w _ j) C)).trans j
theorem aG.nT{w w':World}{l:List Nat}(h:aG w w' l){b o:Nat}{x:Bool}(j:b<w.heap.size)(C:w.frozen? ⟨b,o,none⟩=x)(I:b∉l):w'.frozen? ⟨b,o,none⟩=x:=(World.frozen?_of_block (a:=⟨b,o,none⟩) (h.block b j I)).trans C
theorem aG.JD{w w':World}{l:List Nat}(h:aG w w' []):aG w w' l:=⟨h.os,h.tape,h.output,h.size,fun b j _=>h.block b j (by simp)⟩
theorem aG.same{w w':World}{b:Nat}(h:aG w w' ([b]++[b])):aG w w' [b]:=⟨h.os,h.tape,h.output,h.size,fun k l j=>h.block k l (by simp at j;simp[j])⟩
theorem aG.setCell{w w':World}{b:Nat}(h:aG w w' [b])(o:Nat)(x:Value):aG w (w'.setCell ⟨b,o,none⟩ x) [b]:=⟨h.os,h.tape,h.output,by simp;exact h.size,fun k l j=>(Below.heap_setCell w' ⟨b,o,none⟩ x k (fun e=>j (by simp[e]))).trans (h.block k l j)⟩
theorem dQ{α β:Type}(f:α->List β)(n:Nat)(C:∀x,(f x).length=n):∀(l:List α)(j:Nat)(I:j<l.length)(i:Nat),i<n->(l.flatMap f)[j*n+i]?=(f l[j])[i]?|x::l,0,_,i,hi=>by rw[List.flatMap_cons,List.getElem?_append_left (by rw[C];omega)];simp|x::l,j+1,I,i,hi=>by rw[List.flatMap_cons,List.getElem?_append_right (by rw[C,Nat.succ_mul];omega),C,show(j+1)*n+i-n=j*n+i by rw[Nat.succ_mul];omega];exact dQ f n C l j (by simpa using I) i hi
theorem dY{α β:Type}(f:α->List β)(n:Nat)(j:∀x,(f x).length=n):∀(l:List α),(l.flatMap f).length=l.length*n|[]=>by simp|x::l=>by rw[List.flatMap_cons,List.length_append,j,dY f n j l,List.length_cons,Nat.succ_mul,Nat.add_comm]
theorem cQ{w:World}{base e size n:Nat}{v:Value}{P:List Value}(h:w.ownsRow base e size v n P){g c:Nat}(J:v=.slice (some ⟨g,0,none⟩) n c)(k:Nat)(x:Value)(C:P[k]?=some x):w.cell? ⟨g,k,none⟩=some x:=by
 obtain⟨U,T⟩:=h;rcases T with⟨rfl,_⟩|⟨g',cap,R,rfl,_,j,_,_,_,l⟩;·cases J
 ·injection J with h1 _ h3;injection h1 with h1;injection h1 with h1;subst h1;have I:k<n*size:=by rw[<-U];exact(List.getElem?_eq_some_iff.1 C).1
  rw[<-l,List.getElem?_take,if_pos I]at C;simp only[World.cell?,j];simpa using C
theorem ak{w:World}{base e size n:Nat}{v:Value}{R:List Value}(h:w.ownsRow base e size v n R):dy base w v:=by
 obtain⟨_,P⟩:=h;rcases P with⟨rfl,_⟩|⟨g,cap,I,rfl,J,l,_⟩;·exact⟨by simp[ag,aJ],by simp[ag,aJ],by simp[ag,aJ],by simp[ag,aJ]⟩
 ·refine⟨by simp[ag,aJ];exact J,by simp[ag,aJ];exact(Array.getElem?_eq_some_iff.1 l).1,?_,by simp[ag,aJ]⟩;intro b C j;simp[ag,aJ]at C;subst C;simp[World.frozen?,l]
theorem ar{w:World}{base e size n:Nat}{v:Value}{I:List Value}(h:w.ownsRow base e size v n I):∃p c,v=.slice p n c:=by
 obtain⟨_,C⟩:=h;rcases C with⟨rfl,l⟩|⟨J,cap,j,rfl,_⟩;·exact⟨none,0,by rw[l]⟩
 ·exact⟨_,_,rfl⟩
theorem de(w:World)(base e size:Nat):w.ownsRow base e size (.slice none 0 0) 0 []:=⟨by simp,.inl ⟨rfl,rfl⟩⟩
theorem dE(w:World)(base e size g:Nat)(l:base<=g)(j:w.heap[g]?=some (.cells #[] e (0,0))):w.ownsRow base e size (.slice (some ⟨g,0,none⟩) 0 0) 0 []:=⟨by simp,.inr ⟨g,0,#[],rfl,l,j,Nat.le_refl _,by simp[maxLen],by simp,by simp⟩⟩
theorem aK{w w':World}{base e size n:Nat}{v:Value}{J:List Value}{l:List Nat}(h:w.ownsRow base e size v n J)(P:aG w w' l)(hd:∀b∈ag v,b∉l):w'.ownsRow base e size v n J:=by
 obtain⟨T,I⟩:=h;refine⟨T,?_⟩;rcases I with I|⟨g,cap,C,rfl,R,j,U⟩;·exact .inl I
 ·exact .inr ⟨g,cap,C,rfl,R,(P.block g (Array.getElem?_eq_some_iff.1 j).1 (hd g (by simp[ag,aJ]))).trans j,U⟩
theorem aQ{w w':World}{base e size n:Nat}{v:Value}{j:List Value}(h:w.ownsRow base e size v n j)(l:Below w.heap.size w w'):w'.ownsRow base e size v n j:=aK h (aj l) (fun _ _=>by simp)
