import Derived.Test.YtdiiiijkhpdcbaaGreatDoorRX10
import Derived.Test.YtdiiiijkhpdcbaaGreatDoorRX02
import Derived.Test.YtdiiiijkhpdcbaaGreatDoorRX11
import Derived.Test.YtdiiiijkhpdcbaaGreatDoorRX08
namespace Go.Proofs.YtdiiiijkhpdcbaaGreatDoor
open Go.RowKit
set_option linter.unusedSimpArgs false
set_option linter.unusedVariables false
set_option maxHeartbeats 2000000
set_option maxRecDepth 100000
def Up(l:List aC):Prop:=l.Pairwise fun a b=>bS b a=false
theorem tx:∀x:List UInt8,Op.bytesLess x x=false|[]=>rfl|a::x=>by simp[Op.bytesLess,tx x]
theorem wg:∀x y z:List UInt8,Op.bytesLess x y=true->Op.bytesLess y z=true->Op.bytesLess x z=true
 |_,[],_,h,_=>by simp[Op.bytesLess]at h|_,_::_,[],_,h=>by simp[Op.bytesLess]at h|[],_::_,_::_,_,_=>rfl|a::x,b::y,c::z,j,h2=>by
  simp only[Op.bytesLess,Bool.or_eq_true,Bool.and_eq_true,decide_eq_true_eq,beq_iff_eq]at j h2|-;rcases j with j|⟨rfl,j⟩;·
   rcases h2 with h2|⟨rfl,h2⟩;·exact .inl (UInt8.lt_trans j h2)
   ·exact .inl j
  ·rcases h2 with h2|⟨rfl,h2⟩;·exact .inl h2
   ·exact .inr ⟨rfl,wg x y z j h2⟩
theorem vZ:∀x y:List UInt8,Op.bytesLess x y=false->Op.bytesLess y x=false->x=y
 |[],[],_,_=>rfl|[],_::_,h,_=>by simp[Op.bytesLess]at h|_::_,[],_,h=>by simp[Op.bytesLess]at h|a::x,b::y,j,h2=>by
  simp only[Op.bytesLess,Bool.or_eq_false_iff,Bool.and_eq_false_iff,decide_eq_false_iff_not,UInt8.not_lt]at j h2;have l:a=b:=UInt8.le_antisymm h2.1 j.1;subst l;have C:Op.bytesLess x y=false:=by rcases j.2 with h|h<;>simp_all
  have I:Op.bytesLess y x=false:=by rcases h2.2 with h|h<;>simp_all
  rw[vZ x y C I]
theorem rA{a b c:aC}(l:bS a b=true)(j:bS b c=true):bS a c=true:=by
 simp only[bS,Bool.or_eq_true,Bool.and_eq_true,decide_eq_true_eq,beq_iff_eq]at l j|-;rcases l with l|⟨I,l⟩;·
  rcases j with j|⟨C,j⟩;·exact .inl (by omega)
  ·exact .inl (by omega)
 ·rcases j with j|⟨C,j⟩;·exact .inl (by omega)
  ·exact .inr ⟨by omega,wg _ _ _ l j⟩
theorem ru{a b:aC}(l:bS a b=false)(C:bS b a=false):a.src=b.src/\a.label=b.label:=by
 simp only[bS,Bool.or_eq_false_iff,Bool.and_eq_false_iff,decide_eq_false_iff_not]at l C;have j:a.src=b.src:=by omega
 refine⟨j,?_⟩;have I:Op.bytesLess a.label.toList b.label.toList=false:=by rcases l.2 with h|h;simp[j]at h;exact h
 have J:Op.bytesLess b.label.toList a.label.toList=false:=by rcases C.2 with h|h;simp[j]at h;exact h
 exact gj.1 (by rw[vZ _ _ I J];simp)
theorem tE(a:aC):bS a a=false:=by simp[bS,tx]
theorem Hv{a b c:aC}(C:bS b a=false)(j:bS c b=false):bS c a=false:=by
 cases h:bS c a;·rfl
 ·exfalso;cases l:bS a b;·
   obtain⟨I,J⟩:=ru l C;have:bS c b=bS c a:=by simp[bS,I,J]
   rw[this,h]at j;cases j
  ·rw[rA h l]at j;cases j
theorem Fh(e:aC):∀{l:List aC},Up l->Up (gW e l)
 |[],_=>by simp[gW,Up]|x::l,h=>by
  unfold gW;rw[List.takeWhile_cons,List.dropWhile_cons];obtain⟨P,R⟩:=List.pairwise_cons.1 h;by_cases C:bS x e=true;·
   rw[if_pos C,if_pos C,List.cons_append];have ih:=Fh e R;refine List.pairwise_cons.2 ⟨fun y J=>?_,ih⟩;have j:y∈e::l:=(wT e l).mem_iff.1 J;rcases List.mem_cons.1 j with rfl|j;·
    cases T:bS y x;·rfl
    ·have:=rA C T;rw[tE]at this;cases this
   ·exact P y j
  ·rw[if_neg C,if_neg C,List.nil_append];refine List.pairwise_cons.2 ⟨fun y J=>?_,h⟩;have I:bS x e=false:=by simpa using C
   rcases List.mem_cons.1 J with rfl|J;·exact I
   ·exact Hv I (P y J)
theorem A0{go:List Nd->List aP×List aC->List Nd×List aP×List aC}{C:List Nd->Nat->Int}(j:∀l S,Up S.2->Up (go l S).2.2)(s:Int):∀(m:Nat)(l:List Nd)(S:List aP×List aC),Up S.2->Up (fh go C s m l S).2.2|0,_,_,h=>h|_+1,[],_,h=>h|m+1,c::l,S,h=>by rw[fh];exact A0 j s m _ _ (j _ _ (Fh _ h))
theorem Ij:∀(f:Nat)(ns:List ByteArray)(fis:List Int)(l:List Nd)(S:List aP×List aC),Up S.2->Up (sv f ns fis l S).2.2:=by
 intro f;induction f with
  |zero=>intro ns fis l S h;cases l with|nil=>exact h|cons n l=>rw[sv];split<;>exact h
  |succ f ih=>
   intro ns fis l S h;cases l with
    |nil=>exact h|cons n l=>
     rw[sv];split;·exact h
     ·split;·exact ih _ _ _ _ h
      ·exact A0 (ih ns fis) _ _ _ _ h
theorem Fi:∀{l l':List aC},l.Perm l'->l.Pairwise (fun a b=>¬(a.src=b.src/\a.label=b.label))->Up l->Up l'->l=l'
 |[],l',j,_,_,_=>(List.Perm.nil_eq j)|a::l,[],j,_,_,_=>by have:=j.length_eq;simp at this|a::l,b::l',j,hd,J,h2=>by
  have I:a=b:=by
   rcases List.mem_cons.1 (j.mem_iff.1 (List.mem_cons_self))with h|h;·exact h
   ·rcases List.mem_cons.1 (j.mem_iff.2 (List.mem_cons_self (a:=b) (l:=l')))with C|C;·exact C.symm
    ·have P:=(List.pairwise_cons.1 J).1 b C;have R:=(List.pairwise_cons.1 h2).1 a h;exact absurd (ru R P) ((List.pairwise_cons.1 hd).1 b C)
  subst I;rw[Fi (List.Perm.cons_inv j) (List.pairwise_cons.1 hd).2 (List.pairwise_cons.1 J).2 (List.pairwise_cons.1 h2).2]
def Fy(ns:List Nd):Int×List Nd×Wv:=wv 10 ns ⟨[],[],fun _=>0⟩
def Ih(ns:List Nd):List Nd×List aP×List aC:=sv 10 [] [] ns ([],[])
def jP(ns:List Nd):cj:=⟨(Ih ns).2.1,(Ih ns).2.2,bK [] [] 0 ns⟩
theorem DY{ns:List Nd}(h:ahead (bC true) 10 [] ns=some []){es:List aC}(C:es.Perm (Fy ns).2.2.eds)(hu:Up es):(Fy ns).2.1=[]/\jP ns=⟨(Fy ns).2.2.sts,es,(Fy ns).1⟩:=by
 have I:Inv [] ns (fun _=>0) [] []:=⟨rfl,rfl,(fun t ht=>by cases ht),(fun _ t ht=>by cases ht)⟩;obtain⟨e1,new,ad,P,T,ho,hq,ac,_,_⟩:=Il 10 [] ns [] (fun _=>0) [] [] [] [] [] h trivial I;obtain⟨J,ab,R,i,j,_,hn⟩:=Ef 10 [] ns [] (fun _=>0) [] [] h;have U:Fy ns=(i,[],⟨R,[]++J,ab⟩):=j;have hs:Ih ns=([],P,T):=hq;rw[j]at ho;simp only[List.nil_append,Prod.mk.injEq,Wv.mk.injEq,true_and]at ho;obtain⟨rfl,rfl,rfl⟩:=ho;rw[j]at e1;simp only at e1;refine⟨by rw[U],?_⟩;have hE:T=es:=by
  refine(Fi (l:=es) (l':=T) ?_ ?_ hu ?_).symm;·rw[U]at C;simp only[List.nil_append]at C;exact C.trans (by simpa using ac.symm)
  ·rw[U]at C;simp only[List.nil_append]at C;exact hn.two.perm C.symm (fun h hk=>h ⟨hk.1.symm,hk.2.symm⟩)
  ·have:=Ij 10 [] [] ns ([],[]) (List.Pairwise.nil);have e:(sv 10 [] [] ns ([],[])).2.2=T:=by rw[hq]
   rwa[e]at this
 unfold jP;rw[hs,U,hE,e1];rfl
section
open Go.RowKit Go.Maps Go.ChangeMaps Go.MapKept
theorem mo:Keyed Tryz.prog 9:=string_keyed Tryz.underlying9
theorem AV{t:ByteArray}(h:t.size<=maxLen):∃j,keyOf Tryz.prog 9 (.string t)=some j:=by refine⟨.string t.data.toList,?_⟩;simp[keyOf,mapKey,Tryz.underlying9,h]
def qZ(w:World)(b n:Nat)(fs:ByteArray->Int):Prop:=∃D:DataW Unit,w.ownsMap Tryz.prog 9 (plainElem Tryz.prog 2) b n D/\∀t j,keyOf Tryz.prog 9 (.string t)=some j->D.atKey j (.lit (.int .i64 0))=.lit (.int .i64 (fs t))
theorem IL(w:World):qZ (w.alloc (.map #[] 0)) w.heap.size 0 (fun _=>0):=⟨.map [],World.ownsMap_made w _ _ _,fun t l j=>by rfl⟩
theorem qZ.aA{w w':World}{fs:ByteArray->Int}{b n:Nat}{l:List Nat}(h:qZ w b n fs)(P:aH w w' l)(R:b∉l):qZ w' b n fs:=by obtain⟨D,I,J⟩:=h;refine⟨D,?_,J⟩;obtain⟨j,clock,C,T⟩:=I;exact⟨j,clock,(P.block b (Array.getElem?_eq_some_iff.1 C).1 R).trans C,T⟩
theorem qZ.lt{w:World}{fs:ByteArray->Int}{b n:Nat}(h:qZ w b n fs):b<w.heap.size:=by obtain⟨D,j,l⟩:=h;exact j.lt
theorem Fs(w:World):(zeroValue 2).run Tryz.prog w=.ok (.int .i64 0) w:=Tryz.zeroValue2 w
theorem F1{w:World}{fs:ByteArray->Int}{b n:Nat}{t:ByteArray}(h:qZ w b n fs)(P:t.size<=maxLen):(Instr.lookup 307 (.map (some b)) (.string t) false).run Tryz.prog w=.ok (.int .i64 (fs t)) w:=by obtain⟨D,I,J⟩:=h;obtain⟨R,l⟩:=AV P;obtain⟨c,C,j,-⟩:=I.lookup_int mo Tryz.underlying307 Tryz.underlying2 (Fs w) l;rw[J t R l]at j;injection j with j;injection j with _ j;rw[j];exact C
theorem IM{w:World}{fs:ByteArray->Int}{b n:Nat}{t:ByteArray}{z:Int}(h:qZ w b n fs)(ht:t.size<=maxLen)(hn:n<1000)(hz:0<=z/\z<=1000000):∃w',(Instr.mapUpdate 307 (.map (some b)) (.string t) (.int .i64 z)).run Tryz.prog w=.ok () w'/\qZ w' b (n+1) (fun x=>if x=t then z else fs x)/\aH w w' [b]:=by
 obtain⟨D,U,h2⟩:=h;obtain⟨kl,l⟩:=AV ht;have T:(Lit.int .i64 z).wf=true:=by simp[Lit.wf,IntKind.min,IntKind.max,IntKind.signed,IntKind.bits];omega
 obtain⟨w',I,C,P⟩:=U.update mo Tryz.underlying307 (by unfold maxLen;omega) l (plainElem_int (H:=Unit) Tryz.underlying2 (a:=z) T);refine⟨w',I,⟨_,C,fun x k' j=>?_⟩,aH.grown P⟩;by_cases J:k'=kl;·
  subst J;have hx:x=t:=by have:=mo.inj j l;injection this
  rw[atKey_put_same U.isMap (mo.key l)];simp[hx]
 ·rw[atKey_put_other J,h2 x k' j];have R:¬x=t:=fun e=>by rw[e,l]at j;exact J (Option.some.inj j).symm
  simp[R]
structure gG(w w':World)(base:Nat)(l:List Nat):Prop where
 os:w'.os=w.os
 tape:w'.tape=w.tape
 output:w'.output=w.output
 size:w.heap.size<=w'.heap.size
 block:∀b,b<base->b∉l->w'.heap[b]?=w.heap[b]?
theorem gG.refl(w:World)(base:Nat)(l:List Nat):gG w w base l:=⟨rfl,rfl,rfl,Nat.le_refl _,fun _ _ _=>rfl⟩
theorem gG.trans{a b c:World}{base:Nat}{l:List Nat}(h:gG a b base l)(j:gG b c base l):gG a c base l:=⟨j.os.trans h.os,j.tape.trans h.tape,j.output.trans h.output,Nat.le_trans h.size j.size,fun k C I=>(j.block k C I).trans (h.block k C I)⟩
theorem aH.kept{w w':World}{l l':List Nat}{base:Nat}(h:aH w w' l')(C:base<=w.heap.size)(I:∀b∈l',b∈l\/base<=b):gG w w' base l:=⟨h.os,h.tape,h.output,h.size,fun b j P=>h.block b (Nat.lt_of_lt_of_le j C) (fun J=>by rcases I b J with q|q;exact P q;omega)⟩
theorem gG.sl{w w':World}{base B:Nat}{l:List Nat}{v:Value}{ns:List Nd}(h:gG w w' base l)(J:B<=base)(j:∀b∈l,B<=b)(I:bF w B v ns):bF w' B v ns:=I.carry ⟨h.os,h.tape,h.output,h.size,fun k P=>h.block k (by omega) (fun C=>absurd (j k C) (by omega))⟩
structure ie(w:World)(wb mb base:Nat)(sv ev:Value)(nf:Nat)(W:Wv):Prop where
 box:aV w wb [sv,ev,.int .i64 0,.map (some mb)]
 st:cF w base sv W.sts
 ed:bD w base ev W.eds
 fs:qZ w mb nf W.fs
 Hu:∀b∈ae sv,b∉ae ev
 low:wb<base/\mb<base/\wb≠mb
 sz:base<=w.heap.size
theorem ie.aA{w w':World}{J mb base I:Nat}{sv ev:Value}{W:Wv}{l:List Nat}(h:ie w J mb base sv ev I W)(j:aH w w' l)(P:∀b∈l,w.heap.size<=b):ie w' J mb base sv ev I W:=have no:∀b,b<w.heap.size->b∉l:=fun b C R=>absurd (P b R) (by omega);⟨h.box.aA j (no _ h.box.lt),h.st.aA j (fun b C=>no b (h.st.fresh.hi b C)),h.ed.aA j (fun b C=>no b (h.ed.fresh.hi b C)),h.fs.aA j (no _ h.fs.lt),h.Hu,h.low,Nat.le_trans h.sz j.size⟩
theorem ie.below{w w':World}{l mb base j:Nat}{sv ev:Value}{W:Wv}(h:ie w l mb base sv ev j W)(C:ZW w w'):ie w' l mb base sv ev j W:=h.aA (aj C) (by simp)
theorem Fl{w w3 T:World}{J mb base nf:Nat}{sv ev R:Value}{W:Wv}(h:ie w3 J mb base sv ev nf W)(x:aP)(o:Obj)(I:T.ownsRow base 152 2 R (W.sts.length+1) (W.sts.flatMap aP.cells++x.cells))(hg:(w3.alloc o).grownBy T sv.ownBlock)(ab:R.ownBlock=sv.ownBlock\/R.ownBlock=some (w3.alloc o).heap.size)(hw:ZW w w3)(ac:base<=w.heap.size):ie (T.setCell ⟨J,0,none⟩ R) J mb base R ev nf ⟨W.sts++[x],W.eds,W.fs⟩/\gG w (T.setCell ⟨J,0,none⟩ R) base [J]/\aH w (T.setCell ⟨J,0,none⟩ R) (ae sv++[J]):=by
 obtain⟨p,cp,rfl⟩:=ar h.st;obtain⟨p4,c4,rfl⟩:=ar I;obtain⟨p5,c5,rfl⟩:=ar h.ed;have hA:aH w3 T (ae (.slice p W.sts.length cp)):=by have:=(aj (ag w3 o)).trans (aE hg);rwa[List.nil_append]at this
 have lo:=h.st.fresh.lo;have af:=h.ed.fresh.lo;have ad:=(ak I).lo;have hl:=h.low;have hS:=aG T J 0 (.slice p4 (W.sts.length+1) c4);have C:=hA.trans hS;have U:∀b,(b∈ae (.slice p W.sts.length cp)++[J])->b=J\/base<=b:=fun b j=>by
  rw[List.mem_append]at j;rcases j with j|j;·exact .inr (lo b j)
  ·simp at j;exact .inl j
 refine⟨⟨?_,?_,?_,?_,?_,hl,?_⟩,?_,by have:=(aj hw).trans C;rwa[List.nil_append]at this⟩;·exact(h.box.aA hA (fun j=>by have:=lo _ j;omega)).set 0 (by simp) _
 ·exact cF.snoc (aK I hS (fun b j l=>by have:=ad b j;simp at l;omega))
 ·exact h.ed.aA C (fun b j l=>by
   rw[List.mem_append]at l;rcases l with l|l;·exact h.Hu b l j
   ·have:=af b j;simp at l;omega)
 ·exact h.fs.aA C (fun l=>by rcases U _ l with q|q<;>omega)
 ·intro b j l;have P:=(aS rfl).2 j;rcases ab with e|e;·rw[e]at P;exact h.Hu b ((aS rfl).1 P) l
  ·rw[e]at P;have:=h.ed.fresh.hi b l;simp at P;omega
 ·exact Nat.le_trans h.sz C.size
 ·exact((aj hw).kept ac (by simp)).trans (C.kept h.sz (fun b j=>by rcases U b j with q|q;exact .inl (by simp[q]);exact .inr q))
theorem Fm{w w3 T:World}{J mb base nf:Nat}{sv ev R:Value}{W:Wv}(h:ie w3 J mb base sv ev nf W)(x:aC)(o:Obj)(I:T.ownsRow base 213 4 R (W.eds.length+1) (W.eds.flatMap aC.cells++x.cells))(hg:(w3.alloc o).grownBy T ev.ownBlock)(ab:R.ownBlock=ev.ownBlock\/R.ownBlock=some (w3.alloc o).heap.size)(hw:ZW w w3)(ac:base<=w.heap.size):ie (T.setCell ⟨J,1,none⟩ R) J mb base sv R nf ⟨W.sts,W.eds++[x],W.fs⟩/\gG w (T.setCell ⟨J,1,none⟩ R) base [J]/\aH w (T.setCell ⟨J,1,none⟩ R) (ae ev++[J]):=by
 obtain⟨p,cp,rfl⟩:=ar h.ed;obtain⟨p4,c4,rfl⟩:=ar I;obtain⟨p5,c5,rfl⟩:=ar h.st;have hA:aH w3 T (ae (.slice p W.eds.length cp)):=by have:=(aj (ag w3 o)).trans (aE hg);rwa[List.nil_append]at this
 have lo:=h.ed.fresh.lo;have af:=h.st.fresh.lo;have ad:=(ak I).lo;have hl:=h.low;have hS:=aG T J 1 (.slice p4 (W.eds.length+1) c4);have C:=hA.trans hS;have U:∀b,(b∈ae (.slice p W.eds.length cp)++[J])->b=J\/base<=b:=fun b j=>by
  rw[List.mem_append]at j;rcases j with j|j;·exact .inr (lo b j)
  ·simp at j;exact .inl j
 refine⟨⟨?_,?_,?_,?_,?_,hl,?_⟩,?_,by have:=(aj hw).trans C;rwa[List.nil_append]at this⟩;·exact(h.box.aA hA (fun j=>by have:=lo _ j;omega)).set 1 (by simp) _
 ·exact h.st.aA C (fun b j l=>by
   rw[List.mem_append]at l;rcases l with l|l;·exact h.Hu b j l
   ·have:=af b j;simp at l;omega)
 ·exact bD.snoc (aK I hS (fun b j l=>by have:=ad b j;simp at l;omega))
 ·exact h.fs.aA C (fun l=>by rcases U _ l with q|q<;>omega)
 ·intro b l j;have P:=(aS rfl).2 j;rcases ab with e|e;·rw[e]at P;exact h.Hu b l ((aS rfl).1 P)
  ·rw[e]at P;have:=h.st.fresh.hi b l;simp at P;omega
 ·exact Nat.le_trans h.sz C.size
 ·exact((aj hw).kept ac (by simp)).trans (C.kept h.sz (fun b j=>by rcases U b j with q|q;exact .inl (by simp[q]);exact .inr q))
end
section
open Go.RowKit Go.Shelf Go.Sort Go.Lib Go.Proofs
theorem qB(a b:aC)(w:World):Calls Tryz.prog 187 #[a.val,b.val] w fun e w'=>e=.returned (.int .i64 (oW a b))/\∃q j,w'=grow (w.drewN q) j:=by have l:Hid (oW a b=I6 (nW a.src b.src) (nX a.label b.label)):=aa rfl;unfold aC.val;go_in;go_wp2;go_region_held3(fun w'=>w'.cell? ⟨w.heap.size,0,none⟩=some (.int .i64 a.src)/\w'.cell? ⟨w.heap.size,1,none⟩=some (.string a.label)/\w'.cell? ⟨w.heap.size+1,0,none⟩=some (.int .i64 b.src)/\w'.cell? ⟨w.heap.size+1,1,none⟩=some (.string b.label))(go_keep)(first|(go_at_call 228;refine(pX _ _ _).mono ?_;rintro e w'⟨rfl,rfl⟩)|(go_at_call 229;refine(pY _ _ _).mono ?_;rintro e w'⟨rfl,rfl⟩)|(go_at_call 227;refine(Db (nW a.src b.src) (nX a.label b.label) _ _ (by exact te _ _ _ _ _ _ _ rfl) (by exact te _ _ _ _ _ _ _ rfl)).mono ?_;rintro e w'⟨rfl,rfl⟩));all_goals go_wp2;go_ret;exact⟨bc l.out,1,_,by simp only[alloc_eq_grow,drew_grow,grow_grow];rfl⟩
theorem C9[Inhabited aC](j off size:Nat)(w:World):CmpLays Tryz.prog 187 #[] aC.cells 4 oW j off size w:=fun _ _ _ _ x y=>qB x y _
theorem uY(x y:aC):ltOf oW x y=bS x y:=by
 unfold ltOf oW I6 nW nX bS;by_cases j:x.src<y.src;·simp[j]
 ·by_cases C:y.src<x.src;·
   have:¬x.src=y.src:=by omega
   simp[j,C,this]
  ·have:x.src=y.src:=by omega
   cases I:Op.bytesLess x.label.toList y.label.toList;·
    by_cases l:(x.label.toList==y.label.toList)=true;·simp[this,l]
    ·simp[this,l]
   ·simp[this]
theorem G5:SWO (ltOf oW)where
 irrefl x:=by rw[uY];exact tE x
 trans x y z h1 h2:=by rw[uY]at*;exact rA h1 h2
 ntrans x y z h1 h2:=by rw[uY]at*;exact Hv h2 h1
theorem Tryz.F7:∀w,(isAgg 213).run Tryz.prog w=.ok true w:=Tryz.isAgg213
theorem Tryz.Jl:∀w,(Go.sizeOf 213).run Tryz.prog w=.ok 4 w:=Tryz.sizeOf213
theorem rD[Inhabited aC](d:Array aC):(flatK aC.cells 4 d).toList=d.toList.flatMap aC.cells:=by
 apply List.ext_getElem?;intro j;by_cases I:j<d.size*4;·
  have l:=get_flatK aC.cells 4 d j I;have hd:j/4<d.size:=by omega
  have C:=dT aC.cells 4 aC.bh d.toList (j/4) (by simpa using hd) (j%4) (by omega);rw[show j/4*4+j%4=j by omega]at C;rw[C];have J:j<(flatK aC.cells 4 d).size:=by simpa using I
  rw[Array.getElem?_toList,Array.getElem?_eq_getElem J];rw[getElem!_pos (flatK aC.cells 4 d) j J]at l;rw[l,getElem!_pos d (j/4) hd];have P:j%4<(aC.cells d[j/4]).length:=by rw[aC.bh];omega
  rw[getElem!_pos (aC.cells d[j/4]) (j%4) P];simp
 ·rw[List.getElem?_eq_none (by simp;omega),List.getElem?_eq_none (by rw[dX aC.cells 4 aC.bh];simp;omega)]
theorem Fa(l F:Array Value)(h:F.size<=l.size):(putCells id 0 F l).toList.take F.size=F.toList:=by
 apply List.ext_getElem?;intro j;by_cases C:j<F.size;·rw[List.getElem?_take_of_lt C,Array.getElem?_toList,Array.getElem?_toList];simp[putCells,C,show j<l.size by omega]
 ·rw[List.getElem?_take_eq_none (by omega),List.getElem?_eq_none (by simp;omega)]
theorem DC{w:World}{g n:Nat}{os:Array Obj}{j:Array Value}{e:TypeId}{l:Nat×Nat}(F:Array Value)(C:w.heap[g]?=some (.cells j e l)):(grow (putRow id (Sort.ahead w n) g 0 F) os).heap[g]?=some (.cells (putCells id 0 F j) e l):=by have I:g<w.heap.size:=(Array.getElem?_eq_some_iff.1 C).1;rw[heap_grow_old _ _ (by simpa using I)];simp[putRow,mapBlock,Sort.ahead,Array.getElem?_modify,C,onCells]
theorem Bf{w:World}{g n:Nat}{os:Array Obj}(F:Array Value):aH w (grow (putRow id (Sort.ahead w n) g 0 F) os) [g]:=by refine⟨rfl,rfl,rfl,by simp,fun k l j=>?_⟩;rw[heap_grow_old _ _ (by simpa using l)];have:g≠k:=fun e=>j (by simp[e]);simp[putRow,mapBlock,Sort.ahead,Array.getElem?_modify,this]
theorem zi(es:List aC)(base:Nat)(v:Value)(w:World)(an:bD w base v es)(hl:es.length<=1000):Calls Tryz.prog 253 #[v,.func (.func 187) #[] #[]] w fun e w'=>e=.returned (.tuple #[])/\∃T,T.Perm es/\Up T/\bD w' base v T/\aH w w' (ae v):=by
 haveI:Inhabited aC:=⟨⟨0,ByteArray.empty,0,0⟩⟩;obtain⟨al,hh⟩:=an;rcases hh with⟨rfl,h0⟩|⟨g,cap,R,rfl,hg,C,hc,ad,ab,ah⟩;·have:es=[]:=List.length_eq_zero_iff.1 h0;subst this;exact(Tryz.xW none 0 _ w).mono fun e w'⟨he,hw⟩=>⟨he,[],List.Perm.refl _,List.Pairwise.nil,by rw[hw];exact bD.nil _ _,by rw[hw];exact aH.refl _⟩
 ·have ay:g<w.heap.size:=(Array.getElem?_eq_some_iff.1 C).1;have aq:=rD es.toArray;have ac:bD w base (.slice (some ⟨g,0,none⟩) es.length cap) es:=⟨al,.inr ⟨g,cap,R,rfl,hg,C,hc,ad,ab,ah⟩⟩;have hH:HoldsK aC.cells 4 w g 0 es.toArray:=by
   intro j hj;refine⟨?_,by simp[World.frozen?,C]⟩;have I:j<(flatK aC.cells 4 es.toArray).size:=hj;have h1:(es.flatMap aC.cells)[j]?=some ((flatK aC.cells 4 es.toArray)[j]):=by
    have e:es.flatMap aC.cells=(flatK aC.cells 4 es.toArray).toList:=by simpa using aq.symm
    rw[e,Array.getElem?_toList];exact Array.getElem?_eq_getElem I
   rw[Nat.zero_add,getElem!_pos (flatK aC.cells 4 es.toArray) j I];exact cQ ac rfl j _ h1
  have eg:∀args w,(callFunc 187 args).run Tryz.prog w=.ok (.enter 187 args) w:=enters_of Tryz.func187 (by kernel_rfl) rfl;have af:=AnyQ.slices_SortFunc Tryz.EY 4 Tryz.F7 Tryz.Jl aC.cells aC.bh aC.cells_one oW G5 187 #[] g 0 cap es.toArray w eg (C9 g 0 es.toArray.size w) hH ay (by simp;omega);have U:Calls Tryz.prog 253 #[.slice (some ⟨g,0,none⟩) es.length cap,.func (.func 187) #[] #[]] w _:=af;refine U.mono ?_;rintro e w'⟨he,l,n,os,hp,hs,rfl⟩;have P:l.size=es.length:=by have:=hp.1;simpa using this
  refine⟨he,l.toList,?_,?_,?_,?_⟩;·
   have h2:=hp.2.2;have e1:(l.extract 0 es.toArray.size).toList=l.toList:=by rw[show es.toArray.size=l.size by simp[P]];simp
   have e2:(es.toArray.extract 0 es.toArray.size).toList=es:=by simp
   rw[e1,e2]at h2;exact h2
  ·unfold Up;rw[List.pairwise_iff_getElem];intro i j hi hj ax;have I:j<l.size:=by simpa using hj
   have av:i<l.size:=by simpa using hi
   have:=hs i j (Nat.zero_le _) ax (by simpa[P]using I);rw[uY,getElem!_pos l _ I,getElem!_pos l _ av]at this;simpa using this
  ·have hF:(flatK aC.cells 4 l).size=es.length*4:=by rw[size_flatK,P]
   have ao:(flatK aC.cells 4 l).size<=R.size:=by rw[hF,ab];exact Nat.mul_le_mul_right 4 hc
   have J:l.toList.length=es.length:=by simpa using P
   unfold bD;rw[J];refine⟨by rw[dX aC.cells 4 aC.bh,J],.inr ⟨g,cap,putCells id 0 (flatK aC.cells 4 l) R,rfl,hg,DC _ C,hc,ad,by simp[putCells,ab],?_⟩⟩;rw[<-hF,Fa _ _ ao];exact rD l
  ·have h3:aH w (sortWorldK aC.cells 4 w g 0 n l os) [g]:=Bf (w:=w) (g:=g) (n:=n) (os:=os) (flatK aC.cells 4 l);simpa[ae,aJ]using h3
end
theorem jY{a b:ByteArray}(h:a.toList=b.toList):a=b:=by rw[Go.ByteArray.toList_eq,Go.ByteArray.toList_eq]at h;apply ByteArray.ext;exact Array.ext' h
theorem jM{ls:List ByteArray}{t:ByteArray}:cw ls t=true↔t∈ls:=by
 rw[cw,List.any_eq_true];constructor;·rintro⟨s,l,j⟩;rw[beq_iff_eq]at j;rwa[<-jY j]
 ·intro h;exact⟨t,h,by simp⟩
theorem Al:∀(x y:List UInt8),Op.bytesLess x y=decide (x<y)|[],[]=>by simp[Op.bytesLess]|_::_,[]=>by simp[Op.bytesLess]|[],_::_=>by simp[Op.bytesLess]|a::x,b::y=>by rw[Op.bytesLess,Al x y];simp only[List.cons_lt_cons_iff];by_cases j:a<b<;>by_cases l:a=b<;>by_cases C:x<y<;>simp[j,l,C]
theorem oC(s t:ByteArray):iG s t=true↔s.toList<t.toList:=by rw[iG,Al];simp
theorem r8(s:ByteArray):¬iG s s=true:=by rw[oC];exact List.lt_irrefl _
theorem yL{s t u:ByteArray}(h:iG s t=true)(j:iG t u=true):iG s u=true:=by rw[oC]at*;exact List.lt_trans h j
theorem DV{s t:ByteArray}(h:¬iG s t=true)(C:s≠t):iG t s=true:=by
 rw[oC]at*;have l:t.toList<=s.toList:=List.not_lt.1 h;by_cases j:t.toList<s.toList;·exact j
 ·exact absurd (jY (List.le_antisymm (List.not_lt.1 j) l)) C
theorem oJ(s:ByteArray)(ls:List ByteArray)(t:ByteArray):df (s::ls) t=if iG s t then s::df ls t else if s.toList==t.toList then s::ls else t::s::ls:=by
 by_cases h:iG s t=true;·rw[if_pos h,df,hU,if_pos h,df,List.drop_succ_cons,List.take_succ_cons];split<;>simp
 ·rw[if_neg h,df,hU,if_neg h];simp[cw]
def jH(ls:List ByteArray):Prop:=ls.Pairwise fun a b=>iG a b=true
theorem AF{ls:List ByteArray}{t u:ByteArray}(h:u∈df ls t):u∈ls\/u=t:=by
 induction ls with
  |nil=>simp[df,hU,cw]at h;exact .inr h|cons s ls ih=>
   rw[oJ]at h;split at h;·
    rcases List.mem_cons.1 h with h|h;·exact .inl (by simp[h])
    ·rcases ih h with h|h;·exact .inl (by simp[h])
     ·exact .inr h
   ·split at h;·exact .inl h
    ·rcases List.mem_cons.1 h with h|h;·exact .inr h
     ·exact .inl h
theorem y8{ls:List ByteArray}(I:jH ls)(t:ByteArray):jH (df ls t):=by
 induction ls with
  |nil=>simp[df,hU,cw,jH]|cons s ls ih=>
   obtain⟨J,P⟩:=List.pairwise_cons.1 I;rw[oJ];split;·
    rename_i l;refine List.pairwise_cons.2 ⟨fun u hu=>?_,ih P⟩;rcases AF hu with h|h;·exact J u h
    ·rw[h];exact l
   ·rename_i l;split;·exact I
    ·rename_i R;have C:s≠t:=fun h=>R (by simp[h]);have j:=DV l C;refine List.pairwise_cons.2 ⟨fun u hu=>?_,I⟩;rcases List.mem_cons.1 hu with h|h;·rw[h];exact j
     ·exact yL j (J u h)
theorem Jb{ls:List ByteArray}(I:jH ls){t:ByteArray}(j:t∈ls):df ls t=ls:=by
 induction ls with
  |nil=>cases j|cons s ls ih=>
   obtain⟨l,C⟩:=List.pairwise_cons.1 I;rw[oJ];rcases List.mem_cons.1 j with h|h;·subst h;rw[if_neg (r8 t),if_pos (by simp)]
   ·rw[if_pos (l t h),ih C h]
theorem ED{ls:List ByteArray}{t:ByteArray}(j:¬t∈ls):(df ls t).Perm (t::ls):=by
 induction ls with
  |nil=>simp[df,hU,cw]|cons s ls ih=>
   rw[oJ];split;·exact((ih (fun h=>j (List.mem_cons_of_mem _ h))).cons s).trans (List.Perm.swap _ _ _)
   ·rw[if_neg (fun h=>j (by rw[beq_iff_eq]at h;rw[jY h];simp))]
def ig(j:List ByteArray)(t:ByteArray):List ByteArray:=if cw j t then j else j++[t]
theorem zM:∀(ts j l:List ByteArray),jH l->j.Perm l->jH (ts.foldl df l)/\(ts.foldl ig j).Perm (ts.foldl df l)
 |[],_,_,I,C=>⟨I,C⟩|t::ts,j,l,I,C=>by
  refine zM ts _ _ (y8 I t) ?_;by_cases J:t∈j;·rw[ig,if_pos (jM.2 J),Jb I (C.mem_iff.1 J)];exact C
  ·rw[ig,if_neg (fun h=>J (jM.1 h))];exact(List.perm_append_singleton t j).trans ((C.cons t).trans (ED (fun h=>J (C.mem_iff.2 h))).symm)
def bU(n:Nd):List ByteArray:=if n.op==3 then[n.name,n.peer]else if n.op==5||n.op==6 then[n.peer]else[]
def ln(j:List ByteArray)(n:Nd):List ByteArray:=(bU n).foldl ig j
def dV(ns:List Nd):List ByteArray:=ns.foldl ln []
theorem kx(ns:List Nd):dV ns=(ns.flatMap bU).foldl ig []:=by rw[dV,List.foldl_flatMap];rfl
def fZ(T:Nd->Bool)(n:Nd):Bool:=iu n||oR n||iR n||eE n||(n.op !=0&&n.op !=1&&n.op !=2&&T n)
theorem rW{T:Nd->Bool}{go:List Nd->Option (List Nd)}(J:∀l r,go l=some r->∃p,l=p++r/\∀n∈p,fZ T n=true):∀(m:Nat)(ls:List ByteArray)(l r:List Nd),bA go m ls l=some r->∃p,l=p++r/\∀n∈p,fZ T n=true
 |0,_,l,r,h=>by cases h;exact⟨[],rfl,by simp⟩|_+1,_,[],r,h=>by cases h|m+1,ls,n::l,r,h=>by
  rw[bA]at h;split at h;·
   rename_i I;split at h;·cases h
   ·rename_i r' C;obtain⟨p1,P,U⟩:=J _ _ C;obtain⟨p2,R,h2⟩:=rW J m _ _ _ h;have j:eE n=true:=by simp at I;exact I.1
    refine⟨n::(p1++p2),by rw[P,R];simp,?_⟩;intro x hx;rcases List.mem_cons.1 hx with h|h;·subst h;simp[fZ,j]
    ·rcases List.mem_append.1 h with h|h;·exact U x h
     ·exact h2 x h
  ·cases h
theorem vP(T:Nd->Bool):∀(f:Nat)(st l r:List Nd),ahead T f st l=some r->∃p,l=p++r/\∀n∈p,fZ T n=true:=by
 intro f;induction f with
  |zero=>
   intro st l r h;cases l with
    |nil=>cases h|cons n l=>
     rw[ahead]at h;repeat' split at h
     all_goals first|(cases h;done)|(cases h;refine⟨[n],rfl,?_⟩;intro x j;simp at j;subst j;simp_all[fZ])
  |succ f ih=>
   intro st l r h;cases l with
    |nil=>cases h|cons n l=>
     rw[ahead]at h;repeat' split at h
     all_goals
      first
       |(cases h;done)|(cases h;refine⟨[n],rfl,?_⟩;intro x j;simp at j;subst j;simp_all[fZ];done)|
        (
         obtain⟨p,e,I⟩:=ih _ _ _ h;refine⟨n::p,by rw[e];rfl,?_⟩;intro x j;rcases List.mem_cons.1 j with C|C;·subst C;simp_all[fZ]
         ·exact I x C)|
        (
         obtain⟨p,e,I⟩:=rW (ih _) _ _ _ _ h;refine⟨n::p,by rw[e];rfl,?_⟩;intro x j;rcases List.mem_cons.1 j with C|C;·subst C;simp_all[fZ]
         ·exact I x C)
theorem rU{go j:List Nd->Option (List Nd)}:∀(m:Nat)(ls:List ByteArray)(l:List Nd),(∀l',l'<:+l->go l'=j l')->(∀l' r,go l'=some r->r<:+l')->bA go m ls l=bA j m ls l
 |0,_,l,_,_=>rfl|_+1,_,[],_,_=>rfl|m+1,ls,n::l,h,I=>by
  rw[bA,bA,<-h l (List.suffix_cons _ _)];split;·cases J:go l with|none=>rfl|some r=>exact rU m _ r (fun l' C=>h l' (C.trans ((I _ _ J).trans (List.suffix_cons _ _)))) I
  ·rfl
theorem vO{T T':Nd->Bool}:∀(f:Nat)(st l:List Nd),(∀n∈l,T n=T' n)->ahead T f st l=ahead T' f st l:=by intro f;induction f with|zero=>intro st l _;cases l<;>rfl|succ f ih=>intro st l h;cases l with|nil=>rfl|cons n l=>rw[ahead,ahead,h n (by simp),ih (n::st) l (fun x C=>h x (List.mem_cons_of_mem _ C))];rw[rU n.many.toNat [] l (fun l' j=>ih (n::st) l' (fun x C=>h x (List.mem_cons_of_mem _ (j.subset C)))) (fa T f (n::st))]
theorem Hg{t:ByteArray}(h:cX t=true):¬t.toList=[]:=by
 intro e;simp only[cX,ct,Bool.and_eq_true]at h;have j:1<=t.size:=by simpa using h.1.1.1
 rw[Go.ByteArray.toList_eq]at e;have l:t.data.size=0:=by simpa using congrArg List.length e
 have C:t.size=t.data.size:=rfl;omega
theorem E5{part:Bool}{n:Nd}(h:fZ (bC part) n=true)(l:List ByteArray):e9 l n=(bU n).foldl df l:=by
 simp only[fZ,Bool.or_eq_true]at h;rcases h with(((h|h)|h)|h)|h;·simp only[iu,Bool.and_eq_true,beq_iff_eq]at h;simp[e9,bU,h]
 ·simp only[oR,Bool.and_eq_true,beq_iff_eq]at h;simp[e9,bU,h]
 ·simp only[iR,Bool.and_eq_true,beq_iff_eq]at h;simp[e9,bU,h]
 ·simp only[eE,Bool.and_eq_true,beq_iff_eq]at h;simp[e9,bU,h]
 ·simp only[Bool.and_eq_true]at h;have j:=h.2;simp only[bC,Bool.and_eq_true]at j;have I:=Hg j.1.1.1;cases part;·simp at j;simp[e9,bU,j,I]
  ·simp at j;rcases j.2.2 with C|C<;>simp[e9,bU,C,I]
theorem uv{part:Bool}{ns:List Nd}(h:∀n∈ns,fZ (bC part) n=true):aU ns=(ns.flatMap bU).foldl df []:=by
 rw[aU,List.foldl_flatMap];have:∀(l:List Nd)(j:List ByteArray),(∀n∈l,fZ (bC part) n=true)->l.foldl e9 j=l.foldl (fun j n=>(bU n).foldl df j) j:=by intro l;induction l with|nil=>intro j _;rfl|cons n l ih=>intro j h;rw[List.foldl_cons,List.foldl_cons,E5 (h n (by simp)),ih _ (fun x C=>h x (List.mem_cons_of_mem _ C))]
 exact this ns [] h
theorem gz{part:Bool}{ns:List Nd}(h:∀n∈ns,fZ (bC part) n=true):jH (aU ns)/\(dV ns).Perm (aU ns):=by rw[uv h,kx];exact zM _ [] [] List.Pairwise.nil (List.Perm.refl _)
def cE(part:Bool)(l:List Nd):Bool:=decide (l.length<=40)&&((ahead (bC part) 10 [] l).map List.length==some 0&&decide ((aU l).length<=4))
def fP(part:Bool)(n:Nd):Bool:=if part then n.op==3 else n.op==5||n.op==6
def Cl(l:List Nd):Bool:=decide (l.length<=40)&&((ahead fQ 10 [] l).map List.length==some 0&&decide ((dV l).length<=4))
theorem j8{T:Nd->Bool}{f:Nat}{l:List Nd}(h:((ahead T f [] l).map List.length==some 0)=true):∀n∈l,fZ T n=true:=by cases j:ahead T f [] l with|none=>rw[j]at h;cases h|some r=>rw[j]at h;simp at h;obtain⟨p,e,C⟩:=vP T f [] l r j;rw[h,List.append_nil]at e;rw[e];exact C
theorem yS{part:Bool}{n:Nd}(h:fZ (bC part) n=true):fP part n=false:=by
 simp only[fZ,Bool.or_eq_true]at h;rcases h with(((h|h)|h)|h)|h;·simp only[iu,Bool.and_eq_true,beq_iff_eq]at h;cases part<;>simp[fP,h]
 ·simp only[oR,Bool.and_eq_true,beq_iff_eq]at h;cases part<;>simp[fP,h]
 ·simp only[iR,Bool.and_eq_true,beq_iff_eq]at h;cases part<;>simp[fP,h]
 ·simp only[eE,Bool.and_eq_true,beq_iff_eq]at h;cases part<;>simp[fP,h]
 ·simp only[Bool.and_eq_true]at h;have j:=h.2;simp only[bC,Bool.and_eq_true]at j;cases part;·simp at j;simp[fP,j]
  ·simp at j;rcases j.2.2 with l|l<;>simp[fP,l]
theorem CA{part:Bool}{n:Nd}(h:fP part n=false):fQ n=bC part n:=by
 simp only[fQ,bC,nK];cases part;·
  have l:(n.op==5)=false:=by cases e:(n.op==5)<;>simp_all[fP]
  have C:(n.op==6)=false:=by cases e:(n.op==6)<;>simp_all[fP]
  rw[l,C];cases(n.op==3)<;>cases cX n.peer<;>cases jQ n.many<;>cases cX n.name<;>cases(n.sort==0)<;>rfl
 ·have j:(n.op==3)=false:=by cases e:(n.op==3)<;>simp_all[fP]
  rw[j];cases cX n.peer<;>cases jQ n.many<;>cases(n.sort==0)<;>cases(n.op==5)<;>cases(n.op==6)<;>cases(n.name.toList==[])<;>rfl
theorem xL(part:Bool)(l:List Nd):(Cl l&&!(l.any (fP part)))=cE part l:=by
 rw[Cl,cE];cases J:l.any (fP part);·
  have I:∀n∈l,fP part n=false:=by intro n j;rw[<-Bool.not_eq_true];intro h;have:l.any (fP part)=true:=List.any_eq_true.2 ⟨n,j,h⟩;rw[J]at this;cases this
  rw[vO (T':=bC part) 10 [] l (fun n j=>CA (I n j))];cases ha:((ahead (bC part) 10 [] l).map List.length==some 0);·simp
  ·rw[((gz (j8 ha)).2).length_eq];simp
 ·cases ha:((ahead (bC part) 10 [] l).map List.length==some 0);·simp
  ·exfalso;obtain⟨n,j,C⟩:=List.any_eq_true.1 J;rw[yS (j8 ha n j)]at C;cases C
theorem FG(ls:List ByteArray)(t:ByteArray):(ig ls t).length<=ls.length+1:=by rw[ig];split<;>simp
theorem xM{ns:List Nd}{k:Nat}(h:k<ns.length):(ns.take (k+1)).foldl ln []=ln ((ns.take k).foldl ln []) ns[k]:=by rw[List.take_succ_eq_append_getElem h,List.foldl_append];rfl
theorem yC{ts j:List ByteArray}{k:Nat}(h:k<ts.length):(ts.take (k+1)).foldl ig j=ig ((ts.take k).foldl ig j) ts[k]:=by rw[List.take_succ_eq_append_getElem h,List.foldl_append];rfl
theorem lT(n:Nd):(bU n).length<=2:=by
 rw[bU];split;·simp
 ·split<;>simp
def Nd.fit(n:Nd):Prop:=n.name.size<=1048576/\n.peer.size<=1048576
theorem Nd.fit.ok{n:Nd}(h:n.fit):n.ok:=⟨Nat.le_trans h.1 (by unfold maxLen;omega),Nat.le_trans h.2 (by unfold maxLen;omega)⟩
theorem zA{n:Nd}(l:n.fit):∀t∈bU n,t.size<=1048576:=by
 intro t j;rw[bU]at j;split at j;·
  simp at j;rcases j with h|h;·rw[h];exact l.1
  ·rw[h];exact l.2
 ·split at j;·simp at j;rw[j];exact l.2
  ·cases j
theorem cH.grown{w w':World}{v:Value}{ls:List ByteArray}{row:Option Nat}(h:cH w v ls)(R:w.grownBy w' row)(j:∀b,v.ownBlock=some b->some b≠row):cH w' v ls:=by obtain⟨C,cap,rfl,I,J,P⟩:=h;refine⟨C,cap,rfl,I,J,fun T=>?_⟩;obtain⟨b,o,rfl,l⟩:=P T;exact⟨b,o,rfl,fun i hi=>(kg R ⟨b,_,none⟩ (World.block_lt_of_cell? w _ (l i hi)) (j b rfl)).trans (l i hi)⟩
def kD:Prop:=∀(s:ByteArray)(w:World),s.size<=1048576->Calls Tryz.prog 243 #[.string s] w fun e w'=>e=.returned (.string s)/\ZW w w'
theorem BK(n:Nd)(w:World):Calls Tryz.prog 242 #[n.val] w fun e w'=>∃P,e=.returned P/\cH w' P (bU n)/\(∀b,P.ownBlock=some b->w.heap.size<=b)/\ZW w w':=by
 obtain⟨op,name,j,many,sort⟩:=n;by_cases J:op=3;·subst J;have l:Hid (bU ⟨3,name,j,many,sort⟩=[name,j]):=aa rfl;unfold Nd.val;go_in;go_wp2;go_ret;refine⟨_,rfl,?_,by intro b I;simp[Value.ownBlock]at I;omega,(aO _ _).trans ((aO _ _).mono (by simp))⟩;rw[l.out];refine⟨_,_,rfl,by simp,by simp,fun _=>⟨_,_,rfl,fun i hi=>?_⟩⟩;match i,hi with|0,_=>simp|1,_=>simp
 ·by_cases C:op=5\/op=6;·have l:Hid (bU ⟨op,name,j,many,sort⟩=[j]):=aa (by rcases C with h|h<;>subst h<;>rfl);unfold Nd.val;rcases C with h|h;all_goals subst h;clear J;go_in;go_wp2;go_ret;refine⟨_,rfl,?_,by intro b I;simp[Value.ownBlock]at I;omega,(aO _ _).trans ((aO _ _).mono (by simp))⟩;rw[l.out];refine⟨_,_,rfl,by simp,by simp,fun _=>⟨_,_,rfl,fun i hi=>?_⟩⟩;match i,hi with|0,_=>simp
  ·have g3:(op==3)=false:=beq_eq_false_iff_ne.2 J;have R:(op==5)=false:=beq_eq_false_iff_ne.2 (fun h=>C (.inl h));have T:(op==6)=false:=beq_eq_false_iff_ne.2 (fun h=>C (.inr h));have l:Hid (bU ⟨op,name,j,many,sort⟩=[]):=aa (by simp[bU,g3,R,T]);clear J C;unfold Nd.val;go_in;go_wp2;go_ret;refine⟨_,rfl,?_,by intro b I;simp[Value.ownBlock]at I,aO _ _⟩;rw[l.out];exact⟨_,_,rfl,by simp,by simp,fun h=>absurd rfl h⟩
theorem wS(bN:kD)(ns:List Nd)(ao:Option Addr)(cap:Nat)(w:World)(ok:∀n∈ns,n.fit)(hr:ns≠[]->∃b o,ao=some ⟨b,o,none⟩/\b<w.heap.size/\cV w b o ns)(hl:ns.length<=40):Calls Tryz.prog 205 #[.slice ao ns.length cap] w fun e w'=>∃v',e=.returned v'/\w'.ownsRow w.heap.size 9 1 v' (dV ns).length ((dV ns).map Value.string)/\ZW w w':=by
 obtain⟨i0,hi,b4,b5,a2⟩:=info_parts Tryz.mF;have HI:=aa (And.intro hi (And.intro b4 (And.intro b5 a2)));have HR:=aa hr;have cb:=aa bN;have cf:=aa ok;clear hr bN ok hi b4 b5 a2;go_in;go_wp2;go_loopw[3,10](fun out i wr=>∃(k:Nat)(C:List ByteArray),k<=ns.length/\i=.int .i64 k/\C=(ns.take k).foldl ln []/\wr.ownsRow w.heap.size 9 1 out C.length (C.map Value.string)/\C.length<=2*k/\ZW w wr)(fun _ i _=>ns.length-(intOf i).toNat);case atStart=>exact⟨0,[],Nat.zero_le _,rfl,rfl,World.ownsRow_nil _ _ _ _,by simp,Below.refl _ _⟩
 case round=>
  obtain⟨k,C,hk,rfl,a6,bb,cz,ay⟩:=hrel;have a3:=aa a6;have aq:=aa bb;have al:=aa ay;have b1:=ay.size;clear a6 ay bb;by_cases af:k<ns.length;·
   obtain⟨b,o,rfl,cr,bf⟩:=HR.out (by intro h;simp[h]at af);have U:=(bf.get k af).carry cr al.out;obtain⟨n1,a0⟩:∃n1,n1=ns[k]:=⟨_,rfl⟩;rw[<-a0]at U;have HN:=aa (show(ns.take (k+1)).foldl ln []=ln C n1 by rw[xM af,a3.out,a0]);have cd:=aa (show n1.fit by rw[a0];exact cf.out _ (List.getElem_mem af));clear a0 bf;have cI:b<wr.heap.size:=U.lt;obtain⟨c0,c1,c2,c3,c4⟩:=U;go_wp2_with(go_at_call 242;refine(BK n1 _).mono ?_;rintro e w1⟨v1,rfl,b3,b0,bi⟩;have cl:=aa b3;obtain⟨av,ab,rfl,bB,bL,bM⟩:=b3;have bm:Hid (ZW w w1):=aa (al.out.trans (((aO _ _).trans (bi.mono (by simp))).mono b1));have br:=aa (jf (aq.out.alloc _) bi);have cM:=bm.out.size;have cc:=aa b0;clear bi bM b0);obtain⟨ts,ah⟩:∃ts,bU n1=ts:=⟨_,rfl⟩;have cq:=aa ah;rw[ah]at bB bL|-;have cL:ts.length<=2:=by rw[<-ah];exact lT n1
   have cp:=aa (show∀t∈ts,t.size<=1048576 by rw[<-ah];exact zA cd.out);have bv:Hid (cH w1 (.slice av ts.length ab) ts):=aa (by rw[<-ah];exact cl.out);clear ah;go_loopw[3,17](fun out i w2=>∃(j:Nat)(I:List ByteArray),j<=ts.length/\i=.int .i64 j/\I=(ts.take j).foldl ig C/\w2.ownsRow w.heap.size 9 1 out I.length (I.map Value.string)/\I.length<=2*k+j/\ZW w w2/\cH w2 (.slice av ts.length ab) ts/\(∀a,av=some a->out.ownBlock≠some a.block)/\(∀a,av=some a->ts≠[]->a.block<w2.heap.size))(fun _ i _=>ts.length-(intOf i).toNat);case atStart=>
    refine⟨0,C,by omega,rfl,rfl,br.out,by omega,bm.out,bv.out,fun a ha hb=>?_,fun a ha a1=>?_⟩;·have h1:=(aq.out.lt _ hb).2;have h2:=cc.out a.block (by rw[ha];rfl);simp at h2;omega
    ·obtain⟨_,_,he,_,_,hc⟩:=bv.out;obtain⟨b,o,cs,bk⟩:=hc a1;have af:=World.block_lt_of_cell? _ _ (bk 0 (List.length_pos_iff.2 a1));have:a.block=b:=by rw[ha]at he;injection he with he;rw[cs]at he;injection he with he;rw[he]
     rw[this];exact af
   case round=>
    obtain⟨j,I,hj,rfl,bz,aM,cx,T,aR,aL,a8⟩:=hrel;have bl:=aa bz;have J:=aa aM;have P:=aa T;have a5:=aa aR;have R:=aa aL;have an:=aa a8;have a2:=T.size;clear bz aM T aL a8;by_cases az:j<ts.length;·
     obtain⟨cy,bx,bR,-,-,a7⟩:=aR;obtain⟨b2,o2,rfl,ad⟩:=a7 (by intro h;simp[h]at az);obtain⟨rfl,rfl⟩:av=some ⟨b2,o2,none⟩/\ab=bx:=by simpa using bR
     have cu:=ad j az;obtain⟨s,hs⟩:∃s,s=ts[j]:=⟨_,rfl⟩;rw[<-hs]at cu;have bn:=aa (show(ts.take (j+1)).foldl ig C=ig I s by rw[yC az,bl.out,hs]);have ch:=aa (show s.size<=1048576 by rw[hs];exact cp.out _ (List.getElem_mem az));clear hs ad a7 bR;cases hh:cw I s;·
      have HH:=aa hh;clear hh;go_wp2_with(first|(go_at_call 184;refine(ix I s _ _ (eA J.out (by omega))).mono ?_;rintro e w3⟨rfl,rfl⟩;rw[HH.out])|(go_at_call 243;refine(cb.out s _ ch.out).mono ?_;rintro e w4⟨rfl,ax⟩;have a4:=aa (jf J.out ax);have cN:=ax.size;have cm:=aa (a5.out.carry ax);have b7:=aa ax;clear ax)|(at_builtin;refine wpList_append_own_at _ rfl (.tmp 25) (.tmp 28) 42 rfl w.heap.size 9 i0 (.string .empty) 1 16 Tryz.underlying42 HI.out.1 HI.out.2.1 HI.out.2.2.1 HI.out.2.2.2 rfl (by decide) _ I.length (I.map Value.string) rfl (a4.out.alloc _) ⟨_,0,none⟩ 1 1 [.string s] rfl rfl (l6 (eS _ _ _ _ rfl)) (one_cell _) (by unfold maxLen;omega) (by omega) (by simp;omega) ?_;intro v5 w5 aN l _ a9;have bs:=aa aN;have bp:=aa a9;have cn:Hid (cH w5 (.slice (some ⟨b2,o2,none⟩) ts.length ab) ts):=aa ((cm.out.carry (aO _ _)).grown l (fun b hb=>by simp[Value.ownBlock]at hb;subst hb;exact fun h=>R.out _ rfl h.symm));have cg:=aa l.size;have ca:Hid (ZW w w5):=aa ((((P.out.trans (b7.out.mono a2)).alloc (by omega) _)).grown l (by simp;omega) (gZ a4.out));clear aN l a9));go_wp2;go_roundw;case rel=>
       have e:ig I s=I++[s]:=by simp[ig,HH.out]
       have h5:=cg.out;simp at h5;refine⟨j+1,I++[s],by omega,by go_num,by rw[bn.out,e],by have:=bs.out;simpa using this,by simp;omega,ca.out,cn.out,fun a ha hb=>?_,fun a ha a1=>?_⟩;·
        have h1:=an.out a ha (by intro h;simp[h]at az);rcases bp.out with h|h;·exact R.out a ha (h.symm.trans hb)
        ·rw[h]at hb;simp at hb;omega
       ·have h1:=an.out a ha a1;omega
      case measure=>simp[intOf];omega
     ·have HH:=aa hh;clear hh;go_wp2_with(go_at_call 184;refine(ix I s _ _ (eA J.out (by omega))).mono ?_;rintro e w3⟨rfl,rfl⟩;rw[HH.out]);go_roundw;case rel=>
       have e:ig I s=I:=by simp[ig,HH.out]
       exact⟨j+1,I,by omega,by go_num,by rw[bn.out,e],J.out,by omega,P.out,a5.out,R.out,an.out⟩
      case measure=>simp[intOf];omega
    ·clear aR;go_wp2;go_roundw;case rel=>
      have cv:ln C n1=I:=by rw[bl.out,ln,cq.out,List.take_of_length_le (by omega)]
      exact⟨k+1,I,by omega,by go_num,by rw[HN.out,cv],J.out,by omega,P.out⟩
     case measure=>simp[intOf];omega
  ·go_wp2;go_ret;refine⟨_,rfl,?_,al.out⟩;have h1:C=dV ns:=by rw[a3.out,List.take_of_length_le (by omega)];rfl
   rw[<-h1];exact aq.out
theorem Ag(j:kD)(ns:List Nd)(v:Value)(w:World)(R:∀n∈ns,n.fit)(P:bF w w.heap.size v ns)(I:ns.length<=40):Calls Tryz.prog 205 #[v] w fun e w'=>∃l,e=.returned l/\w'.ownsRow w.heap.size 9 1 l (dV ns).length ((dV ns).map Value.string)/\ZW w w':=by obtain⟨C,cap,rfl,T,U,J⟩:=P;exact wS j ns C cap w R J I
structure Hj(l r:List Nd)(W W':Wv):Prop where
 sts:W'.sts.length+r.length<=W.sts.length+l.length
 eds:W'.eds.length+r.length<=W.eds.length+l.length
def Hk(f:Nat):Prop:=∀(st l r:List Nd)(W:Wv),ahead (bC true) f st l=some r->(wv f l W).2.1=r/\Hj l r W (wv f l W).2.2
theorem wV{f:Nat}(C:Hk f)(st:List Nd)(s:Int):∀(m:Nat)(ls:List ByteArray)(l r:List Nd)(W:Wv),bA (ahead (bC true) f st) m ls l=some r->(dy (wv f) s m l W).1=r/\Hj l r W (dy (wv f) s m l W).2
 |0,ls,l,r,W,h=>by rw[bA]at h;injection h with h;subst h;exact⟨rfl,by simp[dy],by simp[dy]⟩|m+1,ls,[],r,W,h=>by cases h|m+1,ls,c::l,r,W,h=>by
  rw[bA]at h;split at h;·
   split at h;·cases h
   ·rename_i I j;obtain⟨J,g1⟩:=C st l I W j;rw[dy,J];obtain⟨P,g2⟩:=wV C st s m (ls++[c.name]) I r ⟨(wv f l W).2.2.sts,(wv f l W).2.2.eds++[⟨s,c.name,c.sort,(wv f l W).1⟩],(wv f l W).2.2.fs⟩ h;refine⟨P,?_,?_⟩;·have:=g1.sts;have:=g2.sts;simp only[List.length_cons]at*;omega
    ·have:=g1.eds;have:=g2.eds;simp only[List.length_cons,List.length_append,List.length_nil]at*;omega
  ·cases h
theorem uX:∀f:Nat,Hk f:=by
 intro f;induction f with
  |zero=>
   intro st l r W h;cases l with
    |nil=>cases h|cons n l=>
     rw[wv];by_cases j:(n.op==1)=true;·
      rw[if_pos j];rw[dv (by simpa using j)]at h;split at h;·injection h with h;subst h;exact⟨rfl,by simp,by simp⟩
      ·cases h
     ·rw[if_neg j];by_cases C:n.op=0;·
       rw[da C]at h;split at h;·injection h with h;subst h;exact⟨rfl,by simp;omega,by simp⟩
       ·cases h
      ·rw[fm C (by simpa using j)]at h;cases h
  |succ f ih=>
   intro st l r W h;cases l with
    |nil=>cases h|cons n l=>
     rw[wv];by_cases j:(n.op==1)=true;·
      rw[if_pos j];rw[dv (by simpa using j)]at h;split at h;·injection h with h;subst h;exact⟨rfl,by simp,by simp⟩
      ·cases h
     ·rw[if_neg j];by_cases I:(n.op==2)=true;·
       rw[if_pos I];rw[dC (by simpa using I)]at h;split at h;·
        obtain⟨e,g⟩:=ih (n::st) l r ⟨W.sts,W.eds,fun x=>if x=n.name then(W.sts.length:Int)else W.fs x⟩ h;refine⟨e,?_,?_⟩;·have:=g.sts;simp only[List.length_cons]at*;omega
        ·have:=g.eds;simp only[List.length_cons]at*;omega
       ·cases h
      ·rw[if_neg I];by_cases C:n.op=0;·
        rw[da C]at h;split at h;·
         rename_i J;injection h with h;subst h;have P:n.many.toNat=0:=by simp only[iu,Bool.and_eq_true,beq_iff_eq]at J;rw[J.1.2];rfl
         rw[P,dy];exact⟨rfl,by simp;omega,by simp⟩
        ·cases h
       ·rw[fA C (by simpa using j) (by simpa using I)]at h;split at h;·
         obtain⟨e,g⟩:=wV ih (n::st) (W.sts.length:Int) n.many.toNat [] l r ⟨W.sts++[⟨eF n.op,n.peer⟩],W.eds,W.fs⟩ h;refine⟨e,?_,?_⟩;·have:=g.sts;simp only[List.length_cons,List.length_append,List.length_nil]at*;omega
         ·have:=g.eds;simp only[List.length_cons]at*;omega
        ·cases h
theorem eZ:kD:=by intro s w C;have I:=aa C;clear C;go_in;go_wp2_with(go_at_call 272;refine(Tryz.stringslite_Clone s _ (Nat.le_trans I.out (by omega))).mono ?_;rintro e J⟨rfl,j⟩;have l:=aa j;clear j);go_ret;exact⟨rfl,l.out⟩
def lD(w:World)(v:Value)(ls:List Int):Prop:=∃j cap,v=.slice j ls.length cap/\ls.length<=cap/\ls.length<=4294967296/\(ls≠[]->∃b o,j=some ⟨b,o,none⟩/\∀i(h:i<ls.length),w.cell? ⟨b,o+i,none⟩=some (.int .i64 ls[i]))
theorem lD.carry{w w':World}{v:Value}{ls:List Int}(h:lD w v ls)(T:ZW w w'):lD w' v ls:=by obtain⟨C,cap,I,J,P,R⟩:=h;refine⟨C,cap,I,J,P,fun j=>?_⟩;obtain⟨b,o,e,l⟩:=R j;refine⟨b,o,e,fun i hi=>?_⟩;exact(T.cell (p:=⟨b,_,none⟩) (World.block_lt_of_cell? w _ (l i hi))).trans (l i hi)
def o6(ls:List Int)(t:Int):Bool:=ls.any fun s=>t==s
theorem BD{ls:List Int}{t:Int}{k:Nat}(l:k<ls.length)(h:o6 (ls.take k) t=false)(j:(t==ls[k])=false):o6 (ls.take (k+1)) t=false:=by rw[o6,List.take_succ_eq_append_getElem l,List.any_append];have:(ls.take k).any (fun s=>t==s)=false:=h;rw[this];simpa using j
theorem DB{ls:List Int}{t:Int}{k:Nat}(l:k<ls.length)(j:(t==ls[k])=true):o6 ls t=true:=by rw[o6,List.any_eq_true];exact⟨ls[k],List.getElem_mem l,j⟩
theorem Gm(ls:List Int)(t:Int)(v:Value)(w:World)(hv:lD w v ls):Calls Tryz.prog 271 #[v,.int .i64 t] w fun e w'=>∃j:Int,e=.returned (.int .i64 j)/\decide (0<=j)=o6 ls t/\w'=w:=by
 obtain⟨ao,cap,rfl,hc,hm,hr⟩:=hv;have HR:=aa hr;clear hr;go_in;go_wp2;go_loop[8](fun i=>∃k:Nat,k<=ls.length/\i=.int .i64 k/\o6 (ls.take k) t=false)(fun i=>ls.length-(intOf i).toNat);case atStart=>exact⟨0,Nat.zero_le _,rfl,rfl⟩
 case round=>
  obtain⟨k,hk,rfl,I⟩:=hrel;have T:=aa I;clear I;by_cases C:k<ls.length;·
   obtain⟨b,o,rfl,l⟩:=HR.out (by intro h;simp[h]at C);have P:=l k C;obtain⟨s,R⟩:∃s,s=ls[k]:=⟨_,rfl⟩;rw[<-R]at P;have J:=aa R;clear l R;cases heq:(t==s);all_goals have U:=aa heq
   ·go_wp2;go_round;case rel=>exact⟨k+1,by omega,by go_num,BD C T.out (by rw[<-J.out];exact U.out)⟩
    case measure=>simp[intOf];omega
   ·go_wp2;go_ret;exact⟨_,rfl,by rw[DB C (by rw[<-J.out];exact U.out)];simp,rfl⟩
  ·go_wp2;go_ret;refine⟨_,rfl,?_,rfl⟩;have:=T.out;rw[List.take_of_length_le (by omega)]at this;rw[this];rfl
theorem si(ls:List Int)(t:Int)(v:Value)(w:World)(C:lD w v ls):Calls Tryz.prog 241 #[v,.int .i64 t] w fun e w'=>e=.returned (.bool (o6 ls t))/\w'=w:=by have J:=aa C;obtain⟨U,cap,rfl,P,R,T⟩:=C;clear T P R;go_in;go_wp2_with(go_at_call 271;refine(Gm ls t _ _ J.out).mono ?_;rintro e w'⟨j,rfl,l,rfl⟩;have I:=aa l;clear l);go_ret;exact⟨aD I.out.symm,rfl⟩
theorem wO(I:List Int)(ns:List Nd)(v u:Value)(w:World)(hv:bF w w.heap.size v ns)(hu:lD w u I):Calls Tryz.prog 204 #[v,u] w fun e w'=>e=.returned (.bool (ns.any fun n=>o6 I n.op))/\ZW w w':=by
 obtain⟨ao,cap,rfl,hc,hm,hr⟩:=hv;have HR:=aa hr;have HU:=aa hu;obtain⟨af,ad,rfl,al,an,ac⟩:=hu;clear hr ac;go_in;go_wp2;go_loopw[9](fun i wr=>∃k:Nat,k<=ns.length/\i=.int .i64 k/\(ns.take k).any (fun n=>o6 I n.op)=false/\ZW w wr)(fun i _=>ns.length-(intOf i).toNat);case atStart=>exact⟨0,Nat.zero_le _,rfl,rfl,Below.refl _ _⟩
 case round=>
  obtain⟨k,hk,rfl,R,J⟩:=hrel;have HA:=aa R;have j:=aa J;have C:=J.size;clear R J;by_cases P:k<ns.length;·
   obtain⟨b,o,rfl,ab,T⟩:=HR.out (by intro h;simp[h]at P);have l:=(T.get k P).carry ab j.out;obtain⟨n1,U⟩:∃n1,n1=ns[k]:=⟨_,rfl⟩;rw[<-U]at l;have HN:=aa U;clear U T;have ah:b<wr.heap.size:=l.lt;obtain⟨c0,c1,c2,c3,c4⟩:=l;cases hh:o6 I n1.op;·
    have HH:=aa hh;clear hh;go_wp2_with(go_at_call 241;refine(si I n1.op _ _ (HU.out.carry (j.out.trans ((aO _ _).mono C)))).mono ?_;rintro e w1⟨rfl,rfl⟩;rw[HH.out]);go_roundw;case rel=>exact⟨k+1,by omega,by go_num,by rw[List.take_succ_eq_append_getElem P,List.any_append,HA.out,<-HN.out];simp[HH.out],j.out.trans ((aO _ _).mono C)⟩
    case measure=>simp[intOf];omega
   ·have HH:=aa hh;clear hh;go_wp2_with(go_at_call 241;refine(si I n1.op _ _ (HU.out.carry (j.out.trans ((aO _ _).mono C)))).mono ?_;rintro e w1⟨rfl,rfl⟩;rw[HH.out]);go_ret;refine⟨aD ?_,j.out.trans ((aO _ _).mono C)⟩;rw[List.any_eq_true];exact⟨n1,by rw[HN.out];exact List.getElem_mem P,HH.out⟩
  ·go_wp2;go_ret;refine⟨aD ?_,j.out⟩;have:=HA.out;rwa[List.take_of_length_le (by omega)]at this
section
def gV(l:List Nd):Prop:=∀n∈l,n.fit
theorem iB{l r:List Nd}:gV (l++r)↔gV l/\gV r:=by unfold gV;simp only[List.mem_append];exact⟨fun h=>⟨fun n j=>h n (.inl j),fun n j=>h n (.inr j)⟩,fun h n j=>j.elim (h.1 n) (h.2 n)⟩
theorem dw{n:Nd}{l:List Nd}:gV (n::l)↔n.fit/\gV l:=by unfold gV;simp only[List.mem_cons];exact⟨fun h=>⟨h n (.inl rfl),fun m j=>h m (.inr j)⟩,fun h m j=>j.elim (fun e=>e▸h.1) (h.2 m)⟩
theorem zY:gV []:=fun _ h=>by cases h
section
variable {α : Type} {f : α -> List Nd}
theorem uM:∀{l:List (Br α)}{i:Nat}{b:Br α}(c:Br α),l[i]?=some b->(aY f (l.set i c)).length+(f b.p).length=(aY f l).length+(f c.p).length/\(gV (aY f l)->gV [⟨4,c.l,de,0,c.s⟩]->gV (f c.p)->gV (aY f (l.set i c)))|[],i,b,c,h=>by simp at h|a::l,0,b,c,h=>by simp at h;subst h;rw[List.set_cons_zero,cA,cA];refine⟨by simp only[List.length_cons,List.length_append];omega,fun C h2 j=>?_⟩;rw[dw,iB]at*;exact⟨h2.1,j,C.2.2⟩|a::l,i+1,b,c,h=>by rw[List.getElem?_cons_succ]at h;obtain⟨C,h2⟩:=uM c h;rw[List.set_cons_succ,cA,cA];refine⟨by simp only[List.length_cons,List.length_append];omega,fun j I J=>?_⟩;rw[dw,iB]at j|-;exact⟨j.1,j.2.1,h2 j.2.2 I J⟩
theorem kJ:∀{l:List (Br α)}{i:Nat}{b:Br α},l[i]?=some b->(f b.p).length+1<=(aY f l).length/\(gV (aY f l)->gV [⟨4,b.l,de,0,b.s⟩]/\gV (f b.p))|[],i,b,h=>by simp at h|a::l,0,b,h=>by simp at h;subst h;rw[cA];refine⟨by simp only[List.length_cons,List.length_append];omega,fun j=>?_⟩;rw[dw,iB]at j;exact⟨dw.2 ⟨j.1,zY⟩,j.2.1⟩|a::l,i+1,b,h=>by rw[List.getElem?_cons_succ]at h;obtain⟨j,I⟩:=kJ h;rw[cA];refine⟨by simp only[List.length_cons,List.length_append];omega,fun C=>?_⟩;rw[dw,iB]at C;exact I C.2.2
def A8(a b c:List Nd):Prop:=c.length<=a.length+b.length/\(gV a->gV b->gV c)
theorem qV(a b:List Nd):A8 a b a:=⟨by omega,fun h _=>h⟩
theorem kP{mg:α->α->Option α}(I:∀x y z,mg x y=some z->A8 (f x) (f y) (f z)):∀(ds j l:List (Br α)),bQ mg j ds=some l->A8 (aY f j) (aY f ds) (aY f l)
 |[],j,l,h=>by rw[bQ]at h;injection h with h;subst h;exact qV _ _|d::ds,j,l,h=>by
  rw[bQ]at h;rw[cA];split at h;·
   obtain⟨R,J⟩:=kP I ds _ l h;rw[i6]at R J;have e:aY f [d]=⟨4,d.l,de,0,d.s⟩::f d.p:=by rw[cA];simp[aY]
   rw[e]at R J;refine⟨by simp only[List.length_append,List.length_cons]at*;omega,fun P C=>?_⟩;rw[dw,iB]at C;exact J (iB.2 ⟨P,dw.2 ⟨C.1,C.2.1⟩⟩) C.2.2
  ·rename_i i hi;split at h;·cases h
   ·rename_i b C;split at h;·cases h
    ·rename_i q hq;split at h;·obtain⟨R,J⟩:=kP I ds _ l h;obtain⟨h3,h4⟩:=I b.p d.p q hq;obtain⟨h5,h6⟩:=uM (f:=f) ⟨b.l,b.s,q⟩ C;obtain⟨h7,U⟩:=kJ (f:=f) C;refine⟨by simp only[List.length_append,List.length_cons]at*;omega,fun P T=>?_⟩;rw[dw,iB]at T;exact J (h6 P (U P).1 (h4 (U P).2 T.2.1)) T.2.2
     ·cases h
theorem qk{mg:α->α->Option α}(j:∀x y z,mg x y=some z->A8 (f x) (f y) (f z)):∀(r:List (Br α))(x z:α),bE mg x r=some z->A8 (f x) (aY f r) (f z)
 |[],x,z,h=>by rw[bE]at h;injection h with h;subst h;exact qV _ _|b::r,x,z,h=>by
  rw[bE]at h;split at h;·cases h
  ·rename_i q P;obtain⟨R,C⟩:=qk j r q z h;obtain⟨T,I⟩:=j x b.p q P;rw[cA];refine⟨by simp only[List.length_cons,List.length_append];omega,fun J l=>?_⟩;rw[dw,iB]at l;exact C (I J l.2.1) l.2.2
end
theorem eT{n:Nat}{p:Pn (n+1)}{a:ByteArray}{l:List (Br (Pn n))}(h:kh p=some (a,l)):∃b,p=.cU ⟨6,b,a⟩ l:=by
 revert h;refine Pn.cases (P:=fun p=>kh p=some (a,l)->∃b,p=.cU ⟨6,b,a⟩ l) (fun x h=>?_) (fun x q h=>?_) (fun t l' h=>?_) p;·cases h
 ·cases h
 ·have j:(if t.op==6 then some (t.b,l')else none)=some (a,l):=h;split at j;·
   rename_i J;injection j with j;injection j with I R;obtain⟨op,x,y⟩:=t;dsimp only at I J;have C:op=6:=by simpa using J
   subst I;subst R;subst C;exact⟨x,rfl⟩
  ·cases j
theorem lK:∀(n:Nat)(x y z:Pn n),aW n x y=some z->A8 (aB n x) (aB n y) (aB n z):=by
 intro n;induction n with
  |zero=>
   intro x y z h;rw[aW]at h;split at h;·injection h with h;subst h;exact qV _ _
   ·cases h|succ n ih=>
   intro x y z h;rw[aW]at h;split at h;·injection h with h;subst h;exact qV _ _
   ·split at h;·
     rename_i a cs b ds J P;split at h;·
      split at h;·
       rename_i l hl;split at h;·injection h with h;subst h;obtain⟨T,rfl⟩:=eT J;obtain⟨U,rfl⟩:=eT P;obtain⟨R,I⟩:=kP ih ds cs l hl;rw[bI,bI,bI];refine⟨by simp only[List.length_cons];omega,fun j C=>?_⟩;rw[dw]at j C|-;exact⟨⟨by simp[de],j.1.2⟩,I j.2 C.2⟩
       ·cases h
      ·cases h
     ·cases h
    ·cases h
def uI(a c:List Nd):Prop:=c.length<=a.length/\(gV a->gV c)
theorem lN{α:Type}{f:α->List Nd}{g:α->Option α}{Q:α->Prop}(J:∀x y,Q x->g x=some y->uI (f x) (f y)):∀(l r:List (Br α)),(∀b∈l,Q b.p)->bu g l=some r->uI (aY f l) (aY f r)/\r.length=l.length
 |[],r,_,h=>by rw[bu]at h;injection h with h;subst h;exact⟨⟨Nat.le_refl _,id⟩,rfl⟩|b::l,r,P,h=>by
  rw[bu]at h;split at h;·cases h
  ·rename_i q C;split at h;·cases h
   ·rename_i r' I;injection h with h;subst h;obtain⟨h1,R⟩:=J b.p q (P b (by simp)) C;obtain⟨⟨h3,T⟩,h5⟩:=lN J l r' (fun c U=>P c (by simp[U])) I;rw[cA,cA];refine⟨⟨by simp only[List.length_cons,List.length_append];omega,fun j=>?_⟩,by simp only[List.length_cons];omega⟩;rw[dw,iB]at j|-;exact⟨j.1,R j.2.1,T j.2.2⟩
theorem hG(role:ByteArray):∀(n:Nat)(p q:Pn n),bX n p->bd role n p=some q->uI (aB n p) (aB n q):=by
 intro n;induction n with
  |zero=>intro p q _ h;rw[bd]at h;injection h with h;subst h;exact⟨Nat.le_refl _,id⟩|succ n ih=>
   intro p;refine Pn.cases (P:=fun p=>∀q,bX (n+1) p->bd role (n+1) p=some q->uI (aB (n+1) p) (aB (n+1) q)) (fun x q _ h=>?_) (fun x p q T h=>?_) (fun t l q T h=>?_) p;·have j:some (Pn.leaf x)=some q:=h;injection j with j;subst j;exact⟨Nat.le_refl _,id⟩
   ·have j:(if kj role (aB (n+1) (.loop x p))then some (Pn.leaf none)else(bd role n p).map (Pn.loop x))=some q:=h;have I:bX n p:=T;split at j;·injection j with j;subst j;rw[cO,EK];refine⟨by simp only[bP,List.length_cons,List.length_nil];omega,fun _=>dw.2 ⟨by simp[Nd.fit,de],zY⟩⟩
    ·cases U:bd role n p with|none=>rw[U]at j;cases j|some q'=>rw[U]at j;simp only[Option.map_some,Option.some.injEq]at j;subst j;obtain⟨h1,J⟩:=ih p q' I U;rw[cO,cO];refine⟨by simp only[List.length_cons];omega,fun C=>?_⟩;rw[dw]at C|-;exact⟨C.1,J C.2⟩
   ·have j:(match bu (bd role n) l with|none=>none|some r=>if role.toList==t.a.toList then some (Pn.cU ⟨5,de,t.b⟩ r)else if role.toList==t.b.toList then some (.cU ⟨6,de,t.a⟩ r)else match r with|[]=>none|c::r=>(bE (aW n) c.p r).map (nP n))=some q:=h;have I:t.op=3/\(t.a.toList==t.b.toList)=false/\1<=l.length/\l.length<=4/\∀b∈l,bX n b.p:=T;split at j;·cases j
    ·rename_i r hr;obtain⟨⟨h1,J⟩,h3⟩:=lN (Q:=bX n) (fun x y hx hy=>ih x y hx hy) l r I.2.2.2.2 hr;rw[bI];split at j;·injection j with j;subst j;rw[bI];refine⟨by simp only[List.length_cons];omega,fun C=>?_⟩;rw[dw]at C|-;exact⟨⟨by simp[de],C.1.2⟩,J C.2⟩
     ·split at j;·injection j with j;subst j;rw[bI];refine⟨by simp only[List.length_cons];omega,fun C=>?_⟩;rw[dw]at C|-;exact⟨⟨by simp[de],C.1.1⟩,J C.2⟩
      ·split at j;·cases j
       ·rename_i c r;cases R:bE (aW n) c.p r with|none=>rw[R]at j;cases j|some z=>rw[R]at j;simp only[Option.map_some,Option.some.injEq]at j;subst j;obtain⟨h4,h5⟩:=qk (lK n) r c.p z R;rw[zD];rw[cA]at h1 J;refine⟨by simp only[List.length_cons,List.length_append]at*;omega,fun C=>?_⟩;have:=J (dw.1 C).2;rw[dw,iB]at this;exact h5 this.2.1 this.2.2
end
section
attribute [local go_sem ↓] Go.wp_at_zero Go.wp_at_succ
theorem tA(s:ByteArray)(w:World)(C:s.size<=1048576):Calls Tryz.prog 243 #[.string s] w fun e w'=>e=.returned (.string s)/\ZW w w':=by have I:=aa C;clear C;go_in;go_wp2_with(go_at_call 272;refine(Tryz.stringslite_Clone s _ (Nat.le_trans I.out (by omega))).mono ?_;rintro e J⟨rfl,j⟩;have l:=aa j;clear j);go_ret;exact⟨rfl,l.out⟩
theorem yK(z:Int)(w:World):Calls Tryz.prog 305 #[.int .i64 z] w fun e w'=>e=.returned (.int .i64 (eF z))/\w'=w:=by
 by_cases j:z=5;·subst j;go_in;go_wp2;go_ret;exact⟨rfl,rfl⟩
 ·by_cases l:z=6;·subst l;go_in;go_wp2;go_ret;exact⟨rfl,rfl⟩
  ·have I:(z==5)=false:=by simpa using j
   have J:(z==6)=false:=by simpa using l
   have C:Hid (eF z=0):=aa (by simp[eF,j,l]);clear j l;go_in;go_wp2;go_ret;exact⟨bc C.out,rfl⟩
theorem wh{w3 I:World}{J mb base T j e size n:Nat}{sv ev v:Value}{W:Wv}{o:Obj}{U:List Value}(h:ie w3 J mb base sv ev T W)(C:w3.ownsRow j e size v n U)(hb:base<=j)(P:(w3.alloc o).grownBy I v.ownBlock):aV I J [sv,ev,.int .i64 0,.map (some mb)]:=by obtain⟨p,cp,rfl⟩:=ar C;have l:=(aj (ag w3 o)).trans (aE P);rw[List.nil_append]at l;exact h.box.aA l (fun R=>by have:=(ak C).lo _ R;have:=h.low;omega)
def zI(l:List Nd):Prop:=∀n∈l,n.name.size<=1048576/\n.peer.size<=1048576
def pQ(w w':World)(B P mb base R:Nat)(e:Ending)(l r:List Nd)(i:Int)(W:Wv):Prop:=∃J I C j,e=.returned (.tuple #[.int .i64 i,J])/\bF w' B J r/\ie w' P mb base I C j W/\j+r.length<=R+l.length/\gG w w' base [P,mb]
structure Fz(l:List Nd)(W:Wv)(nf:Nat):Prop where
 sts:W.sts.length+l.length<=900
 eds:W.eds.length+l.length<=900
 Ke:nf+l.length<=900
def qX(f:Nat):Prop:=∀(st l r:List Nd)(v:Value)(w:World)(B j mb base nf:Nat)(sv ev:Value)(W:Wv),ahead (bC true) f st l=some r->zI l->bF w B v l->B<=base->B<=j->B<=mb->ie w j mb base sv ev nf W->Fz l W nf->Calls Tryz.prog 252 #[.pointer (some ⟨j,0,none⟩),v] w fun e w'=>pQ w w' B j mb base nf e l r (wv f l W).1 (wv f l W).2.2
theorem kI{w w':World}{base:Nat}{l:List Nat}(h:ZW w w')(j:base<=w.heap.size):gG w w' base l:=(aj h).kept j (by simp)
theorem zN(name j:ByteArray)(many l:Int)(C:List Nd)(w:World)(B U mb base nf b o cap:Nat)(sv ev:Value)(W:Wv)(ad:name.size<=1048576)(ab:b<B)(hB:B<=base/\B<=U/\B<=mb)(P:(⟨1,name,j,many,l⟩::C:List Nd).length<=cap)(ac:cap<=9223372036854775807/\C.length<4294967296)(I:cV w b o (⟨1,name,j,many,l⟩::C))(h:ie w U mb base sv ev nf W):Calls Tryz.prog 252 #[.pointer (some ⟨U,0,none⟩),.slice (some ⟨b,o,none⟩) (⟨1,name,j,many,l⟩::C:List Nd).length cap] w fun e w'=>pQ w w' B U mb base nf e (⟨1,name,j,many,l⟩::C) C (W.fs name) W:=by
 have H:=aa h;have HB:=aa hB;have J:Hid (B<=w.heap.size):=aa (by have:=h.sz;omega);have HT:Hid (∀ao,(cap≠1->ao=some ⟨b,o+5,none⟩)->bF w B (.slice ao C.length (cap-1)) C):=aa (fun ao ha=>bF.tail ab I P ac ao ha);have k3:=h.box.cell 3 _ rfl;have al:U<w.heap.size:=h.box.lt;have T:∀W':World,W'=(w.alloc (.cells #[.int .i64 1,.string name,.string j,.int .i64 many,.int .i64 l] 156)).drew.drew->(Instr.lookup 307 (.map (some mb)) (.string name) false).run Tryz.prog W'=.ok (.int .i64 (W.fs name)) W':=fun W' e=>by rw[e];exact F1 ((h.below ((aO w _).drew.drew)).fs) (by unfold maxLen;omega)
 have af:=T _ rfl;simp only[List.length_cons]at P;obtain⟨⟨c0,c1,c2,c3,c4⟩,-⟩:=I;dsimp only at c0 c1 c2 c3 c4;have ah:b<w.heap.size:=World.block_lt_of_cell? w _ c0;have hz:((C.length:Int)+1==0)=false:=beq_eq_false_iff_ne.2 (by omega);clear h hB T;by_cases R:cap=1;·subst R;obtain rfl:C=[]:=List.length_eq_zero_iff.1 (by omega);go_in;go_wp2;go_region;go_wp2;go_region;go_wp2;go_ret2;exact⟨_,_,_,nf,rfl,(HT.out _ (fun h=>absurd rfl h)).carry ((aO w _).drew.drew.mono J.out),H.out.below (aO w _).drew.drew,by simp,kI (aO w _).drew.drew H.out.sz⟩
 ·go_in;go_wp2;go_region;go_wp2;go_region;go_wp2;go_ret2;exact⟨_,_,_,nf,rfl,(HT.out _ (fun _=>rfl)).carry ((aO w _).drew.drew.mono J.out),H.out.below (aO w _).drew.drew,by simp,kI (aO w _).drew.drew H.out.sz⟩
theorem Js{w P:World}{R mb base J:Nat}{sv ev:Value}{W:Wv}{j:ByteArray->Int}(h:ie w R mb base sv ev J W)(T:qZ P mb (J+1) j)(l:aH w P [mb]):ie P R mb base sv ev (J+1) ⟨W.sts,W.eds,j⟩:=have U:=h.low;⟨h.box.aA l (by simp;omega),h.st.aA l (fun b C I=>by have:=h.st.fresh.lo b C;simp at I;omega),h.ed.aA l (fun b C I=>by have:=h.ed.fresh.lo b C;simp at I;omega),T,h.Hu,U,Nat.le_trans h.sz l.size⟩
theorem CV{w U w':World}{B P mb base T j:Nat}{e:Ending}{l R r:List Nd}{i:Int}{W:Wv}(hk:gG w U base [P,mb])(hn:j+R.length<=T+l.length)(h:pQ U w' B P mb base j e R r i W):pQ w w' B P mb base T e l r i W:=by obtain⟨v',J,C,I,h1,h2,h3,h4,h5⟩:=h;exact⟨v',J,C,I,h1,h2,h3,by omega,hk.trans h5⟩
theorem FH(f:Nat)(hf:qX f)(st:List Nd)(name j:ByteArray)(many l:Int)(C r:List Nd)(w:World)(B P mb base nf b o cap:Nat)(sv ev:Value)(W:Wv)(ah:zI (⟨2,name,j,many,l⟩::C))(ha:ahead (bC true) f (⟨2,name,j,many,l⟩::st) C=some r)(ay:b<B)(R:B<=base/\B<=P/\B<=mb)(af:(⟨2,name,j,many,l⟩::C:List Nd).length<=cap)(az:cap<=9223372036854775807/\C.length<4294967296)(U:cV w b o (⟨2,name,j,many,l⟩::C))(h:ie w P mb base sv ev nf W)(I:Fz (⟨2,name,j,many,l⟩::C) W nf):Calls Tryz.prog 252 #[.pointer (some ⟨P,0,none⟩),.slice (some ⟨b,o,none⟩) (⟨2,name,j,many,l⟩::C:List Nd).length cap] w fun e w'=>pQ w w' B P mb base nf e (⟨2,name,j,many,l⟩::C) r (wv f C ⟨W.sts,W.eds,fun x=>if x=name then(W.sts.length:Int)else W.fs x⟩).1 (wv f C ⟨W.sts,W.eds,fun x=>if x=name then(W.sts.length:Int)else W.fs x⟩).2.2:=by
 have H:=aa h;have HB:=aa R;have aL:C≠[]:=by rintro rfl;cases f<;>cases ha
 have aN:0<C.length:=List.length_pos_iff.2 aL;have aM:cap≠1:=by simp only[List.length_cons]at af;omega
 have HT:Hid (bF w B (.slice (some ⟨b,o+5,none⟩) C.length (cap-1)) C):=aa (bF.tail ay U af az _ (fun _=>rfl));obtain⟨ps,cs,rfl⟩:=ar h.st;have k3:=h.box.cell 3 _ rfl;have k0:=h.box.cell 0 _ rfl;have a1:P<w.heap.size:=h.box.lt;obtain⟨V,hV⟩:∃V,V=(w.alloc (.cells #[.int .i64 2,.string name,.string j,.int .i64 many,.int .i64 l] 156)).drew.drew:=⟨_,rfl⟩;have ad:ZW w V:=by rw[hV];exact(aO w _).drew.drew
 have J:=h.below ad;have hn:=(ah _ (List.mem_cons_self)).1;have an:=I.sts;have ao:=I.eds;have aq:=I.Ke;simp only[List.length_cons]at an ao aq;obtain⟨w2,av,T,ac⟩:=IM (t:=name) (z:=(W.sts.length:Int)) J.fs (by dsimp only at hn;unfold maxLen;omega) (by omega) (by omega);have al:=Js J T ac;have ab:gG w w2 base [P,mb]:=(kI ad h.sz).trans (ac.kept J.sz (by simp));have ax:Hid (Calls Tryz.prog 252 #[.pointer (some ⟨P,0,none⟩),.slice (some ⟨b,o+5,none⟩) C.length (cap-1)] w2 fun e w'=>pQ w w' B P mb base nf e (⟨2,name,j,many,l⟩::C) r (wv f C ⟨W.sts,W.eds,fun x=>if x=name then(W.sts.length:Int)else W.fs x⟩).1 (wv f C ⟨W.sts,W.eds,fun x=>if x=name then(W.sts.length:Int)else W.fs x⟩).2.2):=aa ((hf _ C r _ w2 B P mb base (nf+1) _ ev _ ha (fun n hn=>ah n (List.mem_cons_of_mem _ hn)) (ab.sl R.1 (by intro x hx;simp at hx;rcases hx with rfl|rfl;exact R.2.1;exact R.2.2) HT.out) R.1 R.2.1 R.2.2 al ⟨by dsimp only;omega,by dsimp only;omega,by omega⟩).mono fun e w' hA=>CV ab (by simp only[List.length_cons];omega) hA);rw[hV]at av;simp only[List.length_cons]at af;obtain⟨⟨c0,c1,c2,c3,c4⟩,-⟩:=U;dsimp only at c0 c1 c2 c3 c4;have a0:b<w.heap.size:=World.block_lt_of_cell? w _ c0;have hz:((C.length:Int)+1==0)=false:=beq_eq_false_iff_ne.2 (by omega);clear h R hf ha ah I an ao aq T ac al ab J ad hn hV;go_in;go_wp2;go_region;go_wp2;go_region;go_wp2_with(go_at_call 252;refine ax.out.mono ?_;rintro e w'⟨v',a3,aR,a2,rfl,h2,h3,h4,h5⟩;have H2:=aa h2;have H3:=aa h3;have H4:=aa h4;have H5:=aa h5;clear h2 h3 h4 h5);go_ret2;exact⟨_,_,_,_,rfl,H2.out,H3.out,H4.out,H5.out⟩
def jE(n:Nd):Bool:=n.op==0||n.op==5||n.op==6
def jn(all:List Nd)(j:Nat):Nat:=((all.take j).filter jE).length
theorem kb{all:List Nd}{j:Nat}(h:j<all.length):jn all (j+1)=jn all j+(if jE all[j]then 1 else 0):=by unfold jn;rw[List.take_succ_eq_append_getElem h,List.filter_append,List.length_append];cases l:jE all[j]<;>simp[l]
theorem qJ(all:List Nd)(j:Nat):jn all j<=j:=by
 unfold jn;have l:=List.length_filter_le jE (all.take j);have C:(all.take j).length<=j:=by simp;omega
 omega
structure pS(w:World)(xb B:Nat)(all:List Nd)(ns:List ByteArray)(fis:List Int):Prop where
 c0:∃v,w.cell? ⟨xb,0,none⟩=some v/\bF w B v all
 nm:∃g cap,w.cell? ⟨xb,4,none⟩=some (.slice g ns.length cap)/\∀j(h:j<ns.length),∃b o,g=some ⟨b,o,none⟩/\b<B/\w.cell? ⟨b,o+j,none⟩=some (.string ns[j])
 fi:∃g cap,w.cell? ⟨xb,5,none⟩=some (.slice g fis.length cap)/\∀j(h:j<fis.length),∃b o,g=some ⟨b,o,none⟩/\b<B/\w.cell? ⟨b,o+j,none⟩=some (.int .i64 fis[j])
 lx:xb<B
theorem pS.below{w w':World}{xb B:Nat}{all:List Nd}{ns:List ByteArray}{fis:List Int}(h:pS w xb B all ns fis)(l:Below B w w'):pS w' xb B all ns fis:=by
 obtain⟨⟨v,h1,h2⟩,⟨g,cap,h3,h4⟩,⟨U,C,h5,h6⟩,J⟩:=h;refine⟨⟨v,(l.cell (p:=⟨xb,0,none⟩) J).trans h1,h2.carry l⟩,⟨g,cap,(l.cell (p:=⟨xb,4,none⟩) J).trans h3,fun j T=>?_⟩,⟨U,C,(l.cell (p:=⟨xb,5,none⟩) J).trans h5,fun j T=>?_⟩,J⟩;·obtain⟨b,o,P,I,R⟩:=h4 j T;exact⟨b,o,P,I,(l.cell (p:=⟨b,o+j,none⟩) I).trans R⟩
 ·obtain⟨b,o,P,I,R⟩:=h6 j T;exact⟨b,o,P,I,(l.cell (p:=⟨b,o+j,none⟩) I).trans R⟩
theorem Am:∀{ns:List ByteArray}{fis:List Int}{t:ByteArray}{k:Nat},fis.length=ns.length->(∀j(h:j<ns.length),j<k->(ns[j].toList==t.toList)=false)->(I:k<ns.length)->(ns[k].toList==t.toList)=true->∀(C:k<fis.length),gd ns fis t=fis[k]|x::ns,z::fis,t,0,_,_,_,h,_=>by rw[gd];simp only[List.getElem_cons_zero]at h|-;rw[if_pos h]|x::ns,z::fis,t,k+1,T,J,I,h,C=>by have l:=J 0 (by simp) (by omega);simp only[List.getElem_cons_zero]at l;rw[gd,l];simp only[List.getElem_cons_succ]at h|-;exact Am (by simpa using T) (fun j P R=>by have:=J (j+1) (by simpa using P) (by omega);simpa using this) (by simpa using I) h (by simpa using C)
theorem F9{ns:List ByteArray}{fis:List Int}{t:ByteArray}(I:∀j(h:j<ns.length),(ns[j].toList==t.toList)=false):gd ns fis t=0:=by
 refine pk ?_;cases h:cw ns t;·rfl
 ·simp only[cw,List.any_eq_true]at h;obtain⟨x,J,l⟩:=h;obtain⟨j,C,rfl⟩:=List.getElem_of_mem J;rw[I j C]at l;cases l
end
def tf(l:List Nd):Nat:=(l.filter jE).length
theorem iq(n:Nd)(l:List Nd):tf (n::l)=tf l+(if jE n then 1 else 0):=by unfold tf;cases h:jE n<;>simp[h]
theorem tC(all:List Nd)(j:Nat):jn all j+tf (all.drop j)=tf all:=by unfold jn tf;rw[<-List.length_append,<-List.filter_append,List.take_append_drop]
structure zJ(l r:List Nd)(S:List aP×List aC)(o:List Nd×List aP×List aC):Prop where
 rest:o.1=r
 sts:o.2.1.length+tf r=S.1.length+tf l
 eds:o.2.2.length+r.length<=S.2.length+l.length
theorem rQ(e:aC)(l:List aC):(gW e l).length=l.length+1:=by have:=congrArg List.length (List.takeWhile_append_dropWhile (p:=fun x=>bS x e) (l:=l));simp only[gW,List.length_append,List.length_cons]at*;omega
def Jx(f:Nat):Prop:=∀(st l r:List Nd)(ns:List ByteArray)(fis:List Int)(S:List aP×List aC),ahead (bC true) f st l=some r->zJ l r S (sv f ns fis l S)
theorem uB{f:Nat}(P:Jx f)(st:List Nd)(ns:List ByteArray)(fis:List Int)(s:Int):∀(m:Nat)(ls:List ByteArray)(l r:List Nd)(S:List aP×List aC),bA (ahead (bC true) f st) m ls l=some r->zJ l r S (fh (sv f ns fis) (fun l k=>bK ns fis k l) s m l S)
 |0,ls,l,r,S,h=>by rw[bA]at h;injection h with h;subst h;exact⟨rfl,rfl,Nat.le_refl _⟩|m+1,ls,[],r,S,h=>by cases h|m+1,ls,c::l,r,S,h=>by
  rw[bA]at h;split at h;·
   rename_i J;split at h;·cases h
   ·rename_i R I;have g1:=P st l R ns fis (S.1,gW ⟨s,c.name,c.sort,bK ns fis S.1.length l⟩ S.2) I;have C:jE c=false:=by simp only[eE,Bool.and_eq_true,beq_iff_eq]at J;unfold jE;rw[J.1.1.1.1.1];rfl
    have e:fh (sv f ns fis) (fun l k=>bK ns fis k l) s (m+1) (c::l) S=fh (sv f ns fis) (fun l k=>bK ns fis k l) s m (sv f ns fis l (S.1,gW ⟨s,c.name,c.sort,bK ns fis S.1.length l⟩ S.2)).1 (sv f ns fis l (S.1,gW ⟨s,c.name,c.sort,bK ns fis S.1.length l⟩ S.2)).2:=rfl;rw[e];obtain⟨X,U⟩:∃X,sv f ns fis l (S.1,gW ⟨s,c.name,c.sort,bK ns fis S.1.length l⟩ S.2)=X:=⟨_,rfl⟩;rw[U]at g1|-;obtain rfl:X.1=R:=g1.rest;have g2:=uB P st ns fis s m (ls++[c.name]) X.1 r X.2 h;refine⟨g2.rest,?_,?_⟩;·have j:=g1.sts;have T:=g2.sts;rw[iq,C];simp only[Bool.false_eq_true,if_false];dsimp only at j;omega
    ·have j:=g1.eds;have T:=g2.eds;dsimp only at j;rw[rQ]at j;simp only[List.length_cons];omega
  ·cases h
theorem Ii:∀f:Nat,Jx f:=by
 intro f;induction f with
  |zero=>
   intro st l r ns fis S h;cases l with
    |nil=>cases h|cons n l=>
     rw[sv];by_cases j:n.op=1;·
      rw[if_pos (by simpa using j)];rw[dv j]at h;split at h;·injection h with h;subst h;exact⟨rfl,by rw[iq];simp[jE,j],by simp⟩
      ·cases h
     ·rw[if_neg (by simpa using j)];by_cases C:n.op=0;·
       rw[da C]at h;split at h;·injection h with h;subst h;exact⟨rfl,by rw[iq];simp[jE,C];omega,by simp⟩
       ·cases h
      ·rw[fm C j]at h;cases h
  |succ f ih=>
   intro st l r ns fis S h;cases l with
    |nil=>cases h|cons n l=>
     rw[sv];by_cases j:n.op=1;·
      rw[if_pos (by simpa using j)];rw[dv j]at h;split at h;·injection h with h;subst h;exact⟨rfl,by rw[iq];simp[jE,j],by simp⟩
      ·cases h
     ·rw[if_neg (by simpa using j)];by_cases I:n.op=2;·
       rw[if_pos (by simpa using I)];rw[dC I]at h;split at h;·have g:=ih _ l r (ns++[n.name]) (fis++[bK (ns++[n.name]) (fis++[0]) S.1.length l]) S h;exact⟨g.rest,by have:=g.sts;rw[iq];simp[jE,I];exact this,by have:=g.eds;simp only[List.length_cons];omega⟩
       ·cases h
      ·rw[if_neg (by simpa using I)];by_cases C:n.op=0;·
        rw[da C]at h;split at h;·
         rename_i J;injection h with h;subst h;have R:n.many=0:=by simp only[iu,Bool.and_eq_true,beq_iff_eq]at J;exact J.1.2
         rw[R];exact⟨rfl,by rw[iq];simp[jE,C,fh];omega,by simp[fh]⟩
        ·cases h
       ·rw[fA C j I]at h;split at h;·
         rename_i P;have g:=uB ih (n::st) ns fis (S.1.length:Int) n.many.toNat [] l r (S.1++[⟨eF n.op,n.peer⟩],S.2) h;have T:jE n=true:=by simp only[bC,Bool.and_eq_true,Bool.or_eq_true,beq_iff_eq,if_true]at P;unfold jE;rcases P.2.2 with e|e<;>rw[e]<;>rfl
         exact⟨g.rest,by have:=g.sts;rw[iq,T];simp only[List.length_append,List.length_cons,List.length_nil,if_true]at*;omega,by have:=g.eds;simp only[List.length_cons]at*;omega⟩
        ·cases h
theorem F8{all r:List Nd}{j:Nat}(h:r<:+all.drop j):r=all.drop (all.length-r.length)/\all.length-r.length<=all.length/\r.length<=all.length-j:=by have C:=h.trans (List.drop_suffix j all);have l:=h.length_le;rw[List.length_drop]at l;exact⟨List.suffix_iff_eq_drop.1 C,by omega,l⟩
section
attribute [local go_sem ↓] Go.wp_at_zero Go.wp_at_succ
theorem Ax(m:aF)(w:World)(hf:m.fit):Calls Tryz.prog 213 #[m.val] w fun e w'=>e=.returned m.val/\ZW w w':=by
 have HF:=aa hf;unfold aF.val;have hi:(Tryz.prog.info? 158).map (·.size)=some 4:=by obtain⟨i0,hi,_,ah,_⟩:=info_parts Tryz.fK;rw[hi];simp[ah]
 have HI:=aa hi;clear hi hf;go_in;go_wp2;refine jB 12 (by kernel_rfl) (by kernel_rfl) (fun W I=>?_);simp only[List.take_succ_cons,List.take_zero,List.drop_succ_cons,List.drop_zero];have af:=bo W;have J:Hid (ZW w W):=aa (by rw[I];exact(ag _ _).trans ((ag _ _).mono (by simp)));have f0:=au (w:=W) (b:=w.heap.size) (o:=0) (v:=.string m.cD) (by rw[I];simp);have f1:=au (w:=W) (b:=w.heap.size) (o:=1) (v:=.string m.to) (by rw[I];simp);have f2:=au (w:=W) (b:=w.heap.size) (o:=2) (v:=.string m.label) (by rw[I];simp);have f3:=au (w:=W) (b:=w.heap.size) (o:=3) (v:=.int .i64 m.sort) (by rw[I];simp);have l:w.heap.size+1<W.heap.size:=by rw[I];simp
 have P:Hid (∀o,o<4->(∃y,W.cell? ⟨w.heap.size+1,o,none⟩=some y)/\W.frozen? ⟨w.heap.size+1,o,none⟩=false):=aa (fun o ho=>by rw[I];rcases o with _|_|_|_|o;all_goals first|(exfalso;omega)|(constructor;exact⟨_,by simp;rfl⟩;simp));clear I;repeat(go_big_quiet_step(first|(go_at_call_of 243 m.cD;exact bj (eZ _ _ HF.out.1))|(go_at_call_of 243 m.to;exact bj (eZ _ _ HF.out.2.1))|(go_at_call_of 243 m.label;exact bj (eZ _ _ HF.out.2.2))))
 refine wpQuiet_nil ?_;intro w2 j;have ab:Hid (ZW w w2):=aa (J.out.trans (j.mono J.out.size));obtain⟨⟨y0,U⟩,z0⟩:=P.out 0 (by omega);obtain⟨⟨y1,c1⟩,z1⟩:=P.out 1 (by omega);obtain⟨⟨y2,c2⟩,z2⟩:=P.out 2 (by omega);obtain⟨⟨y3,c3⟩,z3⟩:=P.out 3 (by omega);replace U:=(j.cell (p:=⟨w.heap.size+1,0,none⟩) l).trans U;replace c1:=(j.cell (p:=⟨w.heap.size+1,1,none⟩) l).trans c1;replace c2:=(j.cell (p:=⟨w.heap.size+1,2,none⟩) l).trans c2;replace c3:=(j.cell (p:=⟨w.heap.size+1,3,none⟩) l).trans c3;replace z0:=(j.frozen (p:=⟨w.heap.size+1,0,none⟩) l).trans z0;replace z1:=(j.frozen (p:=⟨w.heap.size+1,1,none⟩) l).trans z1;replace z2:=(j.frozen (p:=⟨w.heap.size+1,2,none⟩) l).trans z2;replace z3:=(j.frozen (p:=⟨w.heap.size+1,3,none⟩) l).trans z3;clear j af f0 f1 f2 f3 P;go_wp2;obtain⟨R,C⟩:∃R,R=iQ w2 (w.heap.size+1) 0 m:=⟨_,rfl⟩;have ac:dU R (w.heap.size+1) 0 m:=by
  rw[C];refine uj _ _ _ _ (fun i hi=>?_);rcases i with _|_|_|_|i;·exact⟨_,U⟩
  ·exact⟨_,c1⟩
  ·exact⟨_,c2⟩
  ·exact⟨_,c3⟩
  ·omega
 have ad:ZW w R:=by rw[C];exact oH ab.out (by omega) _ _
 have T:R=((((w2.setCell ⟨w.heap.size+1,0,none⟩ (.string m.cD)).setCell ⟨w.heap.size+1,1,none⟩ (.string m.to)).setCell ⟨w.heap.size+1,2,none⟩ (.string m.label)).setCell ⟨w.heap.size+1,3,none⟩ (.int .i64 m.sort)):=C;rw[<-T];obtain⟨r0,r1,r2,r3⟩:=ac;clear C T U c1 c2 c3 z0 z1 z2 z3;refine bodyPost_ret_by (v:=.agg #[.string m.cD,.string m.to,.string m.label,.int .i64 m.sort]) ?_ rfl ⟨rfl,ad⟩;unfold results;go_simp
theorem ve(l:List aF)(v:Value)(w:World)(h4:l.length<=4096)(hf:∀m∈l,m.fit)(hv:bt w w.heap.size v l):Calls Tryz.prog 167 #[v] w fun e w'=>∃v',e=.returned v'/\aZ w' w.heap.size v' l/\ZW w w':=by
 have HF:=aa hf;obtain⟨i0,hi,ax,ay,az⟩:=info_parts Tryz.fK;have HI:=aa (And.intro hi (And.intro ax (And.intro ay az)));obtain⟨ao,cap,rfl,hc,hm,hr⟩:=hv;have HR:=aa hr;clear hr hf hi ax ay az;go_in;go_wp2;go_loopw[3,8](fun all i wr=>∃k:Nat,k<=l.length/\i=.int .i64 k/\wr.ownsRow w.heap.size 158 4 all k ((l.take k).flatMap aF.cells)/\ZW w wr)(fun _ i _=>l.length-(intOf i).toNat);case atStart=>exact⟨0,Nat.zero_le _,rfl,aZ.nil _ _,Below.refl _ _⟩
 case round=>
  obtain⟨k,hk,rfl,U,ac⟩:=hrel;have J:=aa U;have C:=aa ac;obtain⟨p,cp,rfl⟩:=ar U;clear U ac;by_cases P:k<l.length;·
   obtain⟨b,o,rfl,aM,af⟩:=HR.out (by intro h;simp[h]at P);have T:=(af.get k P).carry aM C.out;have an:Hid (l.take (k+1)=l.take k++[l[k]]):=aa (List.take_succ_eq_append_getElem P);have R:l[k]∈l:=List.getElem_mem P;obtain⟨x1,av⟩:∃x1,x1=l[k]:=⟨_,rfl⟩;rw[<-av]at T R an;have aL:=aa (HF.out x1 R);obtain⟨d0,d1,d2,d3⟩:=T;clear av af R;go_wp2_with(first|(go_at_call 213;refine(Ax x1 _ aL.out).mono ?_;rintro e w3⟨rfl,aq⟩;have I:Hid (ZW wr w3):=aa ((ag _ _).trans (aq.mono (by simp)));clear aq;unfold aF.val)|(at_builtin;refine wpList_append_own _ rfl (.tmp 12) (.tmp 15) 29 rfl w.heap.size 158 i0 (.agg #[.string .empty,.string .empty,.string .empty,.int .i64 0]) 4 56 Tryz.underlying29 HI.out.1 HI.out.2.1 HI.out.2.2.1 HI.out.2.2.2 rfl (by decide) (.slice p k cp) k ((l.take k).flatMap aF.cells) rfl (aT J.out (I.out.trans ((ag _ _).mono I.out.size))) ⟨w3.heap.size,0,none⟩ 1 1 x1.cells rfl rfl (fun j u hj=>dY _ _ _ j u hj) (aF.cells_one _) (by unfold maxLen;omega) (by omega) (by have:=I.out.size;have:=C.out.size;simp;omega) ?_;intro v4 w4 ab ad _;have ah:=aa ab;have al:=aa ad;clear ab ad));go_roundw;case rel=>
    have hA:aH wr w4 (ae (.slice p k cp)):=by have:=(aj (I.out.trans ((ag w3 _).mono I.out.size))).trans (aE al.out);rwa[List.nil_append]at this
    refine⟨k+1,P,by go_num,?_,C.out.trans (hA.below C.out.size (ak J.out).lo)⟩;rw[an.out,List.flatMap_append];simpa using ah.out
   case measure=>simp[intOf];omega
  ·have HK:Hid (aZ wr w.heap.size (.slice p k cp) l):=aa (by have:=J.out;rw[List.take_of_length_le (by omega)]at this;unfold aZ;rwa[show l.length=k by omega]);go_wp2;go_ret;exact⟨_,rfl,HK.out,C.out⟩
end
