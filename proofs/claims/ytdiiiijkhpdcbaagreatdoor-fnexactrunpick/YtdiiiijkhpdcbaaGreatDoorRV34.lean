import Derived.Test.YtdiiiijkhpdcbaaGreatDoorRV28
import Derived.Test.YtdiiiijkhpdcbaaGreatDoorRV26
namespace Go.Proofs.YtdiiiijkhpdcbaaGreatDoor
open Go.RowKit
set_option linter.unusedSimpArgs false
set_option linter.unusedVariables false
theorem Fb{ts:List ByteArray}:∀{j:List ByteArray}{t:ByteArray},t∈j\/t∈ts->t∈ts.foldl gY j:=by
 induction ts with
  |nil=>
   intro j t h;rcases h with h|h;·exact h
   ·cases h|cons s ts ih=>
   intro j t h;rw[List.foldl_cons];apply ih;rw[gY];rcases h with h|h;·
    left;split;·exact h
    ·exact List.mem_append_left _ h
   ·rcases List.mem_cons.1 h with rfl|h;·
     left;split;·rename_i l;exact jF.1 l
     ·simp
    ·exact .inr h
theorem Gc{ts:List ByteArray}:∀{j:List ByteArray}{t:ByteArray},t∈ts.foldl dg j->t∈j\/t∈ts:=by
 induction ts with
  |nil=>intro j t h;exact .inl h|cons s ts ih=>
   intro j t h;rw[List.foldl_cons]at h;rcases ih h with h|h;·
    rcases Ai h with h|h;·exact .inl h
    ·exact .inr (by rw[h];exact List.mem_cons_self)
   ·exact .inr (List.mem_cons_of_mem _ h)
theorem tZ{j:Bool}{ns:List Nd}(h:∀n∈ns,fZ (bC j) n=true){n:Nd}(l:n∈ns){t:ByteArray}(C:t∈bT n):t∈bc ns:=by refine((ik h).2.mem_iff).1 ?_;rw[ko];exact Fb (.inr (List.mem_flatMap.2 ⟨n,l,C⟩))
theorem ub:∀{l R:List ByteArray},jA l->(∀x∈l,x∈R)->l.length<=R.length
 |[],_,_,_=>Nat.zero_le _|a::l,R,U,C=>by
  have T:=C a List.mem_cons_self;have I:=List.pairwise_cons.1 U;obtain⟨s,u,rfl⟩:=List.append_of_mem T;have P:l.length<=(s++u).length:=ub I.2 (fun x J=>by
   have j:x≠a:=fun e=>by have:=I.1 x J;rw[e]at this;exact wO _ this
   rcases List.mem_append.1 (C x (List.mem_cons_of_mem _ J))with h|h;·exact List.mem_append_left _ h
   ·rcases List.mem_cons.1 h with h|h;·exact absurd h j
    ·exact List.mem_append_right _ h);simp only[List.length_append,List.length_cons]at P|-;omega
theorem Ih{A:Tk->Prop}{R:List ByteArray}:∀(n:Nat)(sk:Sk)(p:Pn n),gP A n sk p->bY n p->(∀j∈aw n p,j.op=3->j.name∈R/\j.peer∈R)->gP (fun t=>A t/\t.a∈R/\t.b∈R) n sk p:=by
 intro n;induction n with
  |zero=>intro sk p h _ _;exact h|succ n ih=>
   intro sk p;refine Pn.cases (P:=fun p=>gP A (n+1) sk p->bY (n+1) p->(∀j∈aw (n+1) p,j.op=3->j.name∈R/\j.peer∈R)->gP (fun t=>A t/\t.a∈R/\t.b∈R) (n+1) sk p) (fun x h _ _=>h) (fun x q h I C=>?_) (fun t l h I C=>?_) p;·exact⟨h.1,h.2.1,ih _ q h.2.2 I (fun j T=>C j (by rw[cO];exact List.mem_cons_of_mem _ T))⟩
   ·obtain⟨U,h2,h3,h4,h5⟩:=h;rw[bI]at C;refine⟨⟨U,C _ List.mem_cons_self I.1⟩,h2,h3,h4,fun b J=>ih _ b.p (h5 b J) (I.2.2.2.2 b J) (fun j T=>C j (List.mem_cons_of_mem _ ?_))⟩;unfold aV;exact List.mem_flatMap.2 ⟨b,J,List.mem_cons_of_mem _ T⟩
theorem Da{R:List ByteArray}:∀(n:Nat)(sk:Sk)(q:Pn n),gP (fun t=>pG t/\t.b∈R) n sk q->∀C∈aw n q,∀t∈bT C,t∈R:=by
 have leaf:∀(x:Option ByteArray),∀C∈bO x,∀t∈bT C,t∈R:=by intro x C j t J;cases x with|none=>simp[bO]at j;subst j;simp[bT]at J|some x=>simp[bO]at j;subst j;simp[bT]at J
 intro n;induction n with
  |zero=>intro sk q _;exact leaf q|succ n ih=>
   intro sk q;refine Pn.cases (P:=fun q=>gP (fun t=>pG t/\t.b∈R) (n+1) sk q->∀C∈aw (n+1) q,∀t∈bT C,t∈R) (fun x _=>leaf x) (fun x q h C j t J=>?_) (fun t l h C j u hu=>?_) q;·
    rw[cO]at j;rcases List.mem_cons.1 j with rfl|j;·simp[bT]at J
    ·exact ih _ q h.2.2 C j t J
   ·obtain⟨⟨⟨I,-,-⟩,T⟩,-,-,-,U⟩:=h;rw[bI]at j;rcases List.mem_cons.1 j with rfl|j;·
     rcases I with I|I;·simp[bT,I]at hu;rw[hu];exact T
     ·simp[bT,I]at hu;rw[hu];exact T
    ·unfold aV at j;obtain⟨b,hb,j⟩:=List.mem_flatMap.1 j;rcases List.mem_cons.1 j with rfl|j;·simp[bT]at hu
     ·exact ih _ b.p (U b hb) C j u hu
theorem FB{A j:Tk->Prop}(U:∀t,A t->j t):∀(n:Nat)(sk:Sk)(p:Pn n),gP A n sk p->gP j n sk p:=by intro n;induction n with|zero=>intro sk p h;exact h|succ n ih=>intro sk p;refine Pn.cases (P:=fun p=>gP A (n+1) sk p->gP j (n+1) sk p) (fun x h=>h) (fun x q h=>⟨h.1,h.2.1,ih _ q h.2.2⟩) (fun t l h=>?_) p;obtain⟨C,I,J,R,T⟩:=h;exact⟨U t C,I,J,R,fun b hb=>ih _ b.p (T b hb)⟩
theorem F8{ns:List Nd}{p z:Pn 10}{role:ByteArray}(hr:cK false ns=true)(hp:ns=aw 10 p)(C:bY 10 p)(h:ba role 10 p=some z):cK true (aw 10 z)=true/\∀nd∈aw 10 z,∀t∈bT nd,t∈bc ns:=by
 have ad:=hr;simp only[cK,Bool.and_eq_true,decide_eq_true_eq]at ad;obtain⟨aq,l,ao⟩:=ad;have U:=iD hr;cases ha:ahead (bC false) 10 [] ns with
  |none=>rw[ha]at l;cases l|some r=>
   rw[ha]at l;have an:r=[]:=by simpa using l
   subst an;have af:ahead (bC false) 10 [] (aw 10 p++[])=some []:=by rw[List.append_nil,<-hp];exact ha
   have hg:=(yd 10 p [] [] [] C af).1;have ah:=Ih (R:=bc ns) 10 [] p hg C (fun nd T h3=>by rw[<-hp]at T;exact⟨tZ U T (by simp[bT,h3]),tZ U T (by simp[bT,h3])⟩);have hz:=Iw (A:=fun t=>vm t/\t.a∈bc ns/\t.b∈bc ns) (B:=fun t=>pG t/\t.b∈bc ns) role (fun t j=>⟨fun _=>⟨⟨.inl rfl,rfl,j.1.2.2.1⟩,j.2.2⟩,fun _=>⟨⟨.inr rfl,rfl,j.1.2.1⟩,j.2.1⟩⟩) (fun a b hb=>⟨⟨.inr rfl,rfl,hb.1.2.2⟩,hb.2⟩) (fun t j=>by rcases j.1.1 with e|e<;>omega) 10 p z ah C h;have ac:=Da 10 [] z hz;have I:=xU 10 z [] [] (FB (fun t j=>j.1) 10 [] z hz);rw[List.append_nil]at I;have P:(aw 10 z).length<=40:=by have:=(gS role 10 p z C h).1;rw[<-hp]at this;omega
   have ab:∀n∈aw 10 z,fZ (bC true) n=true:=lP (f:=10) (by rw[I];rfl);have al:(bc (aw 10 z)).length<=4:=by
    refine Nat.le_trans (ub (R:=bc ns) (ik ab).1 (fun x J=>?_)) ao;rw[tY ab]at J;rcases Gc J with J|J;·cases J
    ·obtain⟨nd,T,j⟩:=List.mem_flatMap.1 J;exact ac nd T x j
   refine⟨?_,ac⟩;simp only[cK,Bool.and_eq_true,decide_eq_true_eq];exact⟨P,by rw[I];rfl,al⟩
