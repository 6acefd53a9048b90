import Derived.Test.YtlbcnmcfljaijaaGreatQN20
import Derived.Lib.SliceRun
import Derived.Laws.AppendOwnNone
namespace Go.Proofs.YtlbcnmcfljaijaaGreat
open Go.RowKit
set_option linter.unusedSimpArgs false
set_option linter.unusedVariables false
def zY(t:Tk):Prop:=t.op=3∨((t.op=5∨t.op=6)∧t.a=bt)
def cb:(n:Nat)→Pn n→Prop|0,_=>True|n+1,p=>p.by (fun _=>True) (fun _ q=>cb n q) (fun t l=>zY t∧l≠[]∧∀b∈l,cb n b.p)
theorem oo:∀(n:Nat)(p:Pn n),cQ n p→cb n p:=by intro n;induction n with|zero=>intro p _;trivial|succ n ih=>intro p;refine Pn.cases (P:=fun p=>cQ (n+1) p→cb (n+1) p) (fun x _=>trivial) (fun x q C=>ih q C) (fun t l C=>?_) p;have j:t.op=3∧(t.a.toList==t.b.toList)=false∧1≤l.length∧l.length≤4∧∀b∈l,cQ n b.p:=C;exact⟨.inl j.1,(fun h=>by have:=j.2.2.1;rw[h]at this;simp at this),fun b I=>ih b.p (j.2.2.2.2 b I)⟩
theorem Fv:∀(n:Nat)(p:Pn n),cb n p→cb (n+1) (vW n p):=by intro n;induction n with|zero=>intro p _;trivial|succ n ih=>intro p;refine Pn.cases (P:=fun p=>cb (n+1) p→cb (n+2) (vW (n+1) p)) (fun x _=>trivial) (fun x q C=>ih q C) (fun t l C=>?_) p;have j:zY t∧l≠[]∧∀b∈l,cb n b.p:=C;refine⟨j.1,(fun h=>j.2.1 (List.map_eq_nil_iff.1 h)),fun b I=>?_⟩;obtain⟨c,J,rfl⟩:=List.mem_map.1 I;exact ih c.p (j.2.2 c J)
theorem s6{α:Type}:∀{l:List α}{i:Nat}{x y:α},y∈l.set i x→y∈l∨y=x
 |[],i,x,y,h=>by simp at h|a::l,0,x,y,h=>by
  rw[List.set_cons_zero,List.mem_cons]at h;rcases h with h|h;·exact .inr h
  ·exact .inl (by simp[h])|a::l,i+1,x,y,h=>by
  rw[List.set_cons_succ,List.mem_cons]at h;rcases h with h|h;·exact .inl (by simp[h])
  ·rcases s6 h with q|q;·exact .inl (by simp[q])
   ·exact .inr q
theorem iI{α:Type}{Q:α→Prop}{mg:α→α→Option α}(C:∀x y z,Q x→Q y→mg x y=some z→Q z):∀(ds acc l:List (Br α)),(∀b∈acc,Q b.p)→(∀b∈ds,Q b.p)→cm mg acc ds=some l→∀b∈l,Q b.p
 |[],acc,l,I,_,h=>by rw[cm]at h;injection h with h;subst h;exact I|d::ds,acc,l,I,hd,h=>by
  rw[cm]at h;split at h;·exact iI C ds _ l (fun b j=>by rw[List.mem_append]at j;rcases j with j|j;exact I b j;simp at j;subst j;exact hd b (by simp)) (fun b j=>hd b (by simp[j])) h
  ·rename_i i hi;split at h;·cases h
   ·rename_i b j;split at h;·cases h
    ·rename_i q P;split at h;·
      refine iI C ds _ l (fun c J=>?_) (fun b j=>hd b (by simp[j])) h;rcases s6 J with J|J;·exact I c J
      ·subst J;exact C b.p d.p q (I b (List.mem_of_getElem? j)) (hd d (by simp)) P
     ·cases h
theorem nW{α:Type}{mg:α→α→Option α}:∀(ds acc l:List (Br α)),acc≠[]→cm mg acc ds=some l→l≠[]
 |[],acc,l,j,h=>by rw[cm]at h;injection h with h;subst h;exact j|d::ds,acc,l,j,h=>by
  rw[cm]at h;split at h;·exact nW ds _ l (by simp) h
  ·split at h;·cases h
   ·split at h;·cases h
    ·split at h;·exact nW ds _ l (fun e=>j (by have:=congrArg List.length e;rw[List.length_set]at this;exact List.length_eq_zero_iff.1 this)) h
     ·cases h
theorem mA:∀(n:Nat)(x y z:Pn n),cb n x→cb n y→bd n x y=some z→cb n z:=by
 intro n;induction n with
  |zero=>intro x y z _ _ _;trivial|succ n ih=>
   intro x y z P T h;rw[bd]at h;split at h;·injection h with h;subst h;exact P
   ·split at h;·
     rename_i a C b ds ex R;split at h;·
      split at h;·
       rename_i l J;split at h;·injection h with h;subst h;obtain⟨U,rfl⟩:=je ex;obtain⟨y',rfl⟩:=je R;have j:zY ⟨6,U,a⟩∧C≠[]∧∀b∈C,cb n b.p:=P;have I:zY ⟨6,y',b⟩∧ds≠[]∧∀b∈ds,cb n b.p:=T;exact⟨.inr ⟨.inr rfl,rfl⟩,nW ds C l j.2.1 J,iI (Q:=cb n) ih ds C l j.2.2 I.2.2 J⟩
       ·cases h
      ·cases h
     ·cases h
    ·cases h
theorem lg{α:Type}{Q:α→Prop}{mg:α→α→Option α}(j:∀x y z,Q x→Q y→mg x y=some z→Q z):∀(r:List (Br α))(x z:α),Q x→(∀b∈r,Q b.p)→cX mg x r=some z→Q z
 |[],x,z,l,_,h=>by rw[cX]at h;injection h with h;subst h;exact l|b::r,x,z,l,C,h=>by
  rw[cX]at h;split at h;·cases h
  ·rename_i q J;exact lg j r q z (j x b.p q l (C b (by simp)) J) (fun c I=>C c (by simp[I])) h
theorem qd{α:Type}{Q R:α→Prop}{g:α→Option α}(J:∀x y,Q x→g x=some y→R y):∀(l r:List (Br α)),(∀b∈l,Q b.p)→bI g l=some r→∀b∈r,R b.p
 |[],r,_,h=>by rw[bI]at h;injection h with h;subst h;intro b j;cases j|c::l,r,P,h=>by
  rw[bI]at h;split at h;·cases h
  ·rename_i q C;split at h;·cases h
   ·rename_i U I;injection h with h;subst h;intro b j;rw[List.mem_cons]at j;rcases j with rfl|j;·exact J c.p q (P c (by simp)) C
    ·exact qd J l U (fun c T=>P c (by simp[T])) I b j
theorem oe(C:ByteArray):∀(n:Nat)(p q:Pn n),cQ n p→bD C n p=some q→cb n q:=by
 intro n;induction n with
  |zero=>intro p q _ _;trivial|succ n ih=>
   intro p;refine Pn.cases (P:=fun p=>∀q,cQ (n+1) p→bD C (n+1) p=some q→cb (n+1) q) (fun x q _ h=>?_) (fun x p q hp h=>?_) (fun t l q hp h=>?_) p;·have j:some (Pn.leaf x)=some q:=h;injection j with j;subst j;trivial
   ·have j:(if AJ C (aI (n+1) (.loop x p))then some (Pn.leaf none)else(bD C n p).map (Pn.loop x))=some q:=h;have J:cQ n p:=hp;split at j;·injection j with j;subst j;trivial
    ·cases hq:bD C n p with|none=>rw[hq]at j;cases j|some q'=>rw[hq]at j;simp only[Option.map_some,Option.some.injEq]at j;subst j;exact ih p q' J hq
   ·have j:(match bI (bD C n) l with|none=>none|some r=>if C.toList==t.a.toList then some (Pn.cG ⟨5,bt,t.b⟩ r)else if C.toList==t.b.toList then some (.cG ⟨6,bt,t.a⟩ r)else match r with|[]=>none|c::r=>(cX (bd n) c.p r).map (vW n))=some q:=h;have J:t.op=3∧(t.a.toList==t.b.toList)=false∧1≤l.length∧l.length≤4∧∀b∈l,cQ n b.p:=hp;split at j;·cases j
    ·rename_i r hr;have I:=qd (Q:=cQ n) (R:=cb n) (fun x y hx hy=>ih x y hx hy) l r J.2.2.2.2 hr;have T:r≠[]:=fun e=>by have:=(mB (f:=aI n) (Q:=cQ n) (fun x y hx hy=>jd C n x y hx hy) l r J.2.2.2.2 hr).2;rw[e]at this;have:=J.2.2.1;simp at*;omega
     split at j;·injection j with j;subst j;exact⟨.inr ⟨.inl rfl,rfl⟩,T,I⟩
     ·split at j;·injection j with j;subst j;exact⟨.inr ⟨.inr rfl,rfl⟩,T,I⟩
      ·split at j;·cases j
       ·rename_i c r;cases U:cX (bd n) c.p r with|none=>rw[U]at j;cases j|some z=>rw[U]at j;simp only[Option.map_some,Option.some.injEq]at j;subst j;exact Fv n z (lg (Q:=cb n) (mA n) r c.p z (I c (by simp)) (fun b hb=>I b (by simp[hb])) U)
section
attribute [local go_sem ↓] Go.wp_at_zero Go.wp_at_succ
theorem uw{α:Type}{t:ByteArray}:∀{l:List (Br α)}{k:Nat}{b:Br α},(∀j c,l[j]?=some c→j<k→(c.l.toList==t.toList)=false)→l[k]?=some b→(b.l.toList==t.toList)=true→oT t l=some k|[],k,b,_,C,_=>by simp at C|c::l,0,b,_,C,h=>by simp at C;subst C;rw[oT,if_pos h]|c::l,k+1,b,I,C,h=>by have J:=I 0 c rfl (by omega);rw[oT,J];rw[List.getElem?_cons_succ]at C;rw[uw (fun j d P R=>I (j+1) d (by rw[List.getElem?_cons_succ];exact P) (by omega)) C h];rfl
theorem uv{α:Type}{t:ByteArray}:∀{l:List (Br α)},(∀(j:Nat)(c:Br α),l[j]?=some c→(c.l.toList==t.toList)=false)→oT t l=none|[],_=>rfl|c::l,C=>by rw[oT,C 0 c rfl,uv (fun j d I=>C (j+1) d (by rw[List.getElem?_cons_succ];exact I))];rfl
theorem Eo(a b:Nd)(W:World):(Op.equalIn 10000 108 (.agg #[.int .i64 a.op,.string a.name,.string a.peer,.int .i64 a.many,.int .i64 a.sort]) (.agg #[.int .i64 b.op,.string b.name,.string b.peer,.int .i64 b.many,.int .i64 b.sort])).run Tryz.prog W=.ok (te a b) W:=by
 by_cases j:a.op=b.op;·
  by_cases l:a.name.toList=b.name.toList;·
   by_cases C:a.peer.toList=b.peer.toList;·
    by_cases I:a.many=b.many;·by_cases J:a.sort=b.sort;all_goals go_simp;simp[te,j,l,C,I,J]
    ·go_simp;simp[te,j,l,C,I]
   ·go_simp;simp[te,j,l,C]
  ·go_simp;simp[te,j,l]
 ·go_simp;simp[te,j]
theorem uZ:∀{x y:List Nd},x.length≠y.length→iK x y=false|[],[],h=>absurd rfl h|[],_::_,_=>rfl|_::_,[],_=>rfl|a::l,b::r,h=>by rw[iK,uZ (fun e=>h (by simp[e])),Bool.and_false]
theorem yh:∀{x y:List Nd}{k:Nat}(j:k<x.length)(C:k<y.length),te x[k] y[k]=false→iK x y=false|a::l,b::r,0,_,_,h=>by simp only[List.getElem_cons_zero]at h;rw[iK,h,Bool.false_and]|a::l,b::r,k+1,j,C,h=>by simp only[List.getElem_cons_succ]at h;rw[iK,yh (by simpa using j) (by simpa using C) h,Bool.and_false]
theorem u0:∀{x y:List Nd},x.length=y.length→(∀k(I:k<x.length)(J:k<y.length),te x[k] y[k]=true)→iK x y=true|[],[],_,_=>rfl|[],_::_,h,_=>by simp at h|_::_,[],h,_=>by simp at h|a::l,b::r,h,j=>by have C:=j 0 (by simp) (by simp);simp only[List.getElem_cons_zero]at C;rw[iK,C,u0 (by simpa using h) (fun k I J=>by have:=j (k+1) (by simpa using I) (by simpa using J);simpa using this)];rfl
def FK(w:World)(v:Value)(l:List Nd):Prop:=∃j cap,v=.slice j l.length cap∧l.length≤1000∧(l≠[]→∃g o,j=some ⟨g,o,none⟩∧g<w.heap.size∧bO w g o l)
theorem vL(w:World)(g:Nat):∀(l:List Nd)(o:Nat),(∀j(C:j<l.length),bw w g (o+j*5) l[j])→bO w g o l|[],_,_=>trivial|x::l,o,I=>by refine⟨by have:=I 0 (by simp);simpa using this,vL w g l (o+5) (fun j C=>?_)⟩;have:=I (j+1) (by simpa using C);rw[show o+(j+1)*5=o+5+j*5 by omega]at this;simpa using this
theorem bV.rd{w:World}{base:Nat}{v:Value}{l:List Nd}(h:bV w base v l)(J:l.length≤1000):FK w v l:=by
 have H:=h;obtain⟨_,T⟩:=h;rcases T with⟨rfl,R⟩|⟨I,cap,P,rfl,hg,C,hc,hm,_⟩;·have:l=[]:=List.length_eq_zero_iff.1 R;subst this;exact⟨none,0,rfl,J,fun h=>absurd rfl h⟩
 ·refine⟨_,cap,rfl,J,fun _=>⟨I,0,rfl,(Array.getElem?_eq_some_iff.1 C).1,vL w I l 0 (fun j U=>?_)⟩⟩;rw[Nat.zero_add];have e:=fun i(hi:i<5)(x:Value)(hx:(l[j].cells)[i]?=some x)=>bF H rfl (j*5+i) x ((eE Nd.cells 5 Nd.aR l j U i hi).trans hx);exact⟨e 0 (by omega) _ rfl,e 1 (by omega) _ rfl,e 2 (by omega) _ rfl,e 3 (by omega) _ rfl,e 4 (by omega) _ rfl⟩
theorem FK.on{w w':World}{v:Value}{l:List Nd}(h:FK w v l)(C:Below w.heap.size w w'):FK w' v l:=by obtain⟨I,cap,e,P,R⟩:=h;refine⟨I,cap,e,P,fun j=>?_⟩;obtain⟨g,o,e1,e2,J⟩:=R j;exact⟨g,o,e1,Nat.lt_of_lt_of_le e2 C.size,J.carry e2 C⟩
def plus(S:Nat→Prop)(a m:Nat):Nat→Prop:=fun b=>S b∨(a≤b∧b<m)
def Di(S:Nat→Prop)(a m:Nat)(v:Value):Nat→Prop:=fun b=>plus S a m b∧b∉an v
section
variable{n:Nat}
theorem jX{S:Nat→Prop}{a m g:Nat}(j:∀g,S g→g<a)(l:a≤m)(h:plus S a m g):g<m:=by
 rcases h with h|h;·have:=j g h;omega
 ·exact h.2
theorem mW{S:Nat→Prop}{a m j g:Nat}(l:m≤j)(h:plus S a m g):plus S a j g:=by
 rcases h with h|h;·exact .inl h
 ·exact .inr ⟨h.1,by omega⟩
variable{S:Nat→Prop}{a:Nat}
end
end
section
attribute [local go_sem ↓] Go.wp_at_zero Go.wp_at_succ
def AH(n:Nat)(a:ByteArray)(r:Option (List (Br (Pn n)))):Option (Pn (n+1)):=match r with|some l=>if l.length≤4 then some (.cG ⟨6,bt,a⟩ l)else none|none=>none
theorem kh{α:Type}(f:α→List Nd):∀l:List (Br α),l.length≤(aX f l).length|[]=>Nat.le_refl _|b::l=>by rw[cE];have:=kh f l;simp only[List.length_cons,List.length_append];omega
theorem ji{q:Value}{a b:Bool}(h:b=a):Ending.returned (.tuple #[q,.bool a])=.returned (.tuple #[q,.bool b]):=by rw[h]
theorem ki{n:Nat}{ds:List (Br (Pn n))}{k:Nat}{d:Br (Pn n)}(hd:ds[k]?=some d):(aX (aI n) (ds.drop k)).length=1+(aI n d.p).length+(aX (aI n) (ds.drop (k+1))).length:=by have l:=(List.getElem?_eq_some_iff.1 hd).1;have j:ds[k]=d:=(List.getElem?_eq_some_iff.1 hd).2;rw[List.drop_eq_getElem_cons l,j,cE];simp only[List.length_cons,List.length_append];omega
end
section
attribute [local go_sem ↓] Go.wp_at_zero Go.wp_at_succ
end
end Go.Proofs.YtlbcnmcfljaijaaGreat
