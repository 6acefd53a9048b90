import Derived.Test.YtdiiiijkhpdcbaaGreatDoorRD11
import Derived.Test.YtdiiiijkhpdcbaaGreatDoorRD17
import Derived.Test.YtdiiiijkhpdcbaaGreatDoorRD08
namespace Go.Proofs.YtdiiiijkhpdcbaaGreatDoor
open Go.RowKit
set_option linter.unusedSimpArgs false
set_option linter.unusedVariables false
set_option maxHeartbeats 400000
section
def gJ(l:List Nd):Prop:=∀n∈l,n.fit
theorem iq{l r:List Nd}:gJ (l++r)↔gJ l∧gJ r:=by unfold gJ;simp only[List.mem_append];exact⟨fun h=>⟨fun n j=>h n (.inl j),fun n j=>h n (.inr j)⟩,fun h n j=>j.elim (h.1 n) (h.2 n)⟩
theorem dx{n:Nd}{l:List Nd}:gJ (n::l)↔n.fit∧gJ l:=by unfold gJ;simp only[List.mem_cons];exact⟨fun h=>⟨h n (.inl rfl),fun m j=>h m (.inr j)⟩,fun h m j=>j.elim (fun e=>e▸h.1) (h.2 m)⟩
theorem ze:gJ []:=fun _ h=>by cases h
section
variable {α : Type} {f : α → List Nd}
theorem ui:∀{l:List (Br α)}{i:Nat}{b:Br α}(c:Br α),l[i]?=some b→(aT f (l.set i c)).length+(f b.p).length=(aT f l).length+(f c.p).length∧(gJ (aT f l)→gJ [⟨4,c.l,dh,0,c.s⟩]→gJ (f c.p)→gJ (aT f (l.set i c)))|[],i,b,c,h=>by simp at h|a::l,0,b,c,h=>by simp at h;subst h;rw[List.set_cons_zero,cA,cA];refine⟨by simp only[List.length_cons,List.length_append];omega,fun C h2 j=>?_⟩;rw[dx,iq]at*;exact⟨h2.1,j,C.2.2⟩|a::l,i+1,b,c,h=>by rw[List.getElem?_cons_succ]at h;obtain⟨C,h2⟩:=ui c h;rw[List.set_cons_succ,cA,cA];refine⟨by simp only[List.length_cons,List.length_append];omega,fun j I J=>?_⟩;rw[dx,iq]at j⊢;exact⟨j.1,j.2.1,h2 j.2.2 I J⟩
theorem kq:∀{l:List (Br α)}{i:Nat}{b:Br α},l[i]?=some b→(f b.p).length+1≤(aT f l).length∧(gJ (aT f l)→gJ [⟨4,b.l,dh,0,b.s⟩]∧gJ (f b.p))|[],i,b,h=>by simp at h|a::l,0,b,h=>by simp at h;subst h;rw[cA];refine⟨by simp only[List.length_cons,List.length_append];omega,fun j=>?_⟩;rw[dx,iq]at j;exact⟨dx.2 ⟨j.1,ze⟩,j.2.1⟩|a::l,i+1,b,h=>by rw[List.getElem?_cons_succ]at h;obtain⟨j,I⟩:=kq h;rw[cA];refine⟨by simp only[List.length_cons,List.length_append];omega,fun C=>?_⟩;rw[dx,iq]at C;exact I C.2.2
def Ac(a b c:List Nd):Prop:=c.length≤a.length+b.length∧(gJ a→gJ b→gJ c)
theorem qu(a b:List Nd):Ac a b a:=⟨by omega,fun h _=>h⟩
theorem kC{mg:α→α→Option α}(I:∀x y z,mg x y=some z→Ac (f x) (f y) (f z)):∀(ds j l:List (Br α)),bQ mg j ds=some l→Ac (aT f j) (aT f ds) (aT f l)
 |[],j,l,h=>by rw[bQ]at h;injection h with h;subst h;exact qu _ _|d::ds,j,l,h=>by
  rw[bQ]at h;rw[cA];split at h;·
   obtain⟨R,J⟩:=kC I ds _ l h;rw[iT]at R J;have e:aT f [d]=⟨4,d.l,dh,0,d.s⟩::f d.p:=by rw[cA];simp[aT]
   rw[e]at R J;refine⟨by simp only[List.length_append,List.length_cons]at*;omega,fun P C=>?_⟩;rw[dx,iq]at C;exact J (iq.2 ⟨P,dx.2 ⟨C.1,C.2.1⟩⟩) C.2.2
  ·rename_i i hi;split at h;·cases h
   ·rename_i b C;split at h;·cases h
    ·rename_i q hq;split at h;·obtain⟨R,J⟩:=kC I ds _ l h;obtain⟨h3,h4⟩:=I b.p d.p q hq;obtain⟨h5,h6⟩:=ui (f:=f) ⟨b.l,b.s,q⟩ C;obtain⟨h7,U⟩:=kq (f:=f) C;refine⟨by simp only[List.length_append,List.length_cons]at*;omega,fun P T=>?_⟩;rw[dx,iq]at T;exact J (h6 P (U P).1 (h4 (U P).2 T.2.1)) T.2.2
     ·cases h
theorem pG{mg:α→α→Option α}(j:∀x y z,mg x y=some z→Ac (f x) (f y) (f z)):∀(r:List (Br α))(x z:α),bD mg x r=some z→Ac (f x) (aT f r) (f z)
 |[],x,z,h=>by rw[bD]at h;injection h with h;subst h;exact qu _ _|b::r,x,z,h=>by
  rw[bD]at h;split at h;·cases h
  ·rename_i q P;obtain⟨R,C⟩:=pG j r q z h;obtain⟨T,I⟩:=j x b.p q P;rw[cA];refine⟨by simp only[List.length_cons,List.length_append];omega,fun J l=>?_⟩;rw[dx,iq]at l;exact C (I J l.2.1) l.2.2
end
theorem eU{n:Nat}{p:Pn (n+1)}{a:ByteArray}{l:List (Br (Pn n))}(h:jW p=some (a,l)):∃b,p=.cV ⟨6,b,a⟩ l:=by
 revert h;refine Pn.cases (P:=fun p=>jW p=some (a,l)→∃b,p=.cV ⟨6,b,a⟩ l) (fun x h=>?_) (fun x q h=>?_) (fun t l' h=>?_) p;·cases h
 ·cases h
 ·have j:(if t.op==6 then some (t.b,l')else none)=some (a,l):=h;split at j;·
   rename_i J;injection j with j;injection j with I R;obtain⟨op,x,y⟩:=t;dsimp only at I J;have C:op=6:=by simpa using J
   subst I;subst R;subst C;exact⟨x,rfl⟩
  ·cases j
theorem ln:∀(n:Nat)(x y z:Pn n),aS n x y=some z→Ac (aw n x) (aw n y) (aw n z):=by
 intro n;induction n with
  |zero=>
   intro x y z h;rw[aS]at h;split at h;·injection h with h;subst h;exact qu _ _
   ·cases h|succ n ih=>
   intro x y z h;rw[aS]at h;split at h;·injection h with h;subst h;exact qu _ _
   ·split at h;·
     rename_i a I b ds P R;split at h;·
      split at h;·
       rename_i l hl;split at h;·injection h with h;subst h;obtain⟨U,rfl⟩:=eU P;obtain⟨y',rfl⟩:=eU R;obtain⟨T,J⟩:=kC ih ds I l hl;rw[bH,bH,bH];refine⟨by simp only[List.length_cons];omega,fun j C=>?_⟩;rw[dx]at j C⊢;exact⟨⟨by simp[dh],j.1.2⟩,J j.2 C.2⟩
       ·cases h
      ·cases h
     ·cases h
    ·cases h
def uf(a c:List Nd):Prop:=c.length≤a.length∧(gJ a→gJ c)
theorem lr{α:Type}{f:α→List Nd}{g:α→Option α}{Q:α→Prop}(J:∀x y,Q x→g x=some y→uf (f x) (f y)):∀(l r:List (Br α)),(∀b∈l,Q b.p)→bj g l=some r→uf (aT f l) (aT f r)∧r.length=l.length
 |[],r,_,h=>by rw[bj]at h;injection h with h;subst h;exact⟨⟨Nat.le_refl _,id⟩,rfl⟩|b::l,r,P,h=>by
  rw[bj]at h;split at h;·cases h
  ·rename_i q C;split at h;·cases h
   ·rename_i r' I;injection h with h;subst h;obtain⟨h1,R⟩:=J b.p q (P b (by simp)) C;obtain⟨⟨h3,T⟩,h5⟩:=lr J l r' (fun c U=>P c (by simp[U])) I;rw[cA,cA];refine⟨⟨by simp only[List.length_cons,List.length_append];omega,fun j=>?_⟩,by simp only[List.length_cons];omega⟩;rw[dx,iq]at j⊢;exact⟨j.1,R j.2.1,T j.2.2⟩
theorem gQ(role:ByteArray):∀(n:Nat)(p q:Pn n),bX n p→bc role n p=some q→uf (aw n p) (aw n q):=by
 intro n;induction n with
  |zero=>intro p q _ h;rw[bc]at h;injection h with h;subst h;exact⟨Nat.le_refl _,id⟩|succ n ih=>
   intro p;refine Pn.cases (P:=fun p=>∀q,bX (n+1) p→bc role (n+1) p=some q→uf (aw (n+1) p) (aw (n+1) q)) (fun x q _ h=>?_) (fun x p q T h=>?_) (fun t l q T h=>?_) p;·have j:some (Pn.leaf x)=some q:=h;injection j with j;subst j;exact⟨Nat.le_refl _,id⟩
   ·have j:(if jY role (aw (n+1) (.loop x p))then some (Pn.leaf none)else(bc role n p).map (Pn.loop x))=some q:=h;have I:bX n p:=T;split at j;·injection j with j;subst j;rw[cP,Dy];refine⟨by simp only[bP,List.length_cons,List.length_nil];omega,fun _=>dx.2 ⟨by simp[Nd.fit,dh],ze⟩⟩
    ·cases U:bc role n p with|none=>rw[U]at j;cases j|some q'=>rw[U]at j;simp only[Option.map_some,Option.some.injEq]at j;subst j;obtain⟨h1,J⟩:=ih p q' I U;rw[cP,cP];refine⟨by simp only[List.length_cons];omega,fun C=>?_⟩;rw[dx]at C⊢;exact⟨C.1,J C.2⟩
   ·have j:(match bj (bc role n) l with|none=>none|some r=>if role.toList==t.a.toList then some (Pn.cV ⟨5,dh,t.b⟩ r)else if role.toList==t.b.toList then some (.cV ⟨6,dh,t.a⟩ r)else match r with|[]=>none|c::r=>(bD (aS n) c.p r).map (mN n))=some q:=h;have I:t.op=3∧(t.a.toList==t.b.toList)=false∧1≤l.length∧l.length≤4∧∀b∈l,bX n b.p:=T;split at j;·cases j
    ·rename_i r hr;obtain⟨⟨h1,J⟩,h3⟩:=lr (Q:=bX n) (fun x y hx hy=>ih x y hx hy) l r I.2.2.2.2 hr;rw[bH];split at j;·injection j with j;subst j;rw[bH];refine⟨by simp only[List.length_cons];omega,fun C=>?_⟩;rw[dx]at C⊢;exact⟨⟨by simp[dh],C.1.2⟩,J C.2⟩
     ·split at j;·injection j with j;subst j;rw[bH];refine⟨by simp only[List.length_cons];omega,fun C=>?_⟩;rw[dx]at C⊢;exact⟨⟨by simp[dh],C.1.1⟩,J C.2⟩
      ·split at j;·cases j
       ·rename_i c r;cases R:bD (aS n) c.p r with|none=>rw[R]at j;cases j|some z=>rw[R]at j;simp only[Option.map_some,Option.some.injEq]at j;subst j;obtain⟨h4,h5⟩:=pG (ln n) r c.p z R;rw[yK];rw[cA]at h1 J;refine⟨by simp only[List.length_cons,List.length_append]at*;omega,fun C=>?_⟩;have:=J (dx.1 C).2;rw[dx,iq]at this;exact h5 this.2.1 this.2.2
end
def kX(w:World)(v:Value)(ls:List Int):Prop:=∃j cap,v=.slice j ls.length cap∧ls.length≤cap∧ls.length≤4294967296∧(ls≠[]→∃b o,j=some ⟨b,o,none⟩∧∀i(h:i<ls.length),w.cell? ⟨b,o+i,none⟩=some (.int .i64 ls[i]))
theorem kX.carry{w w':World}{v:Value}{ls:List Int}(h:kX w v ls)(T:Below w.heap.size w w'):kX w' v ls:=by obtain⟨C,cap,I,J,P,R⟩:=h;refine⟨C,cap,I,J,P,fun j=>?_⟩;obtain⟨b,o,e,l⟩:=R j;refine⟨b,o,e,fun i hi=>?_⟩;exact(T.cell (p:=⟨b,_,none⟩) (World.block_lt_of_cell? w _ (l i hi))).trans (l i hi)
def og(ls:List Int)(t:Int):Bool:=ls.any fun s=>t==s
theorem AD{ls:List Int}{t:Int}{k:Nat}(l:k<ls.length)(h:og (ls.take k) t=false)(j:(t==ls[k])=false):og (ls.take (k+1)) t=false:=by rw[og,List.take_succ_eq_append_getElem l,List.any_append];have:(ls.take k).any (fun s=>t==s)=false:=h;rw[this];simpa using j
theorem Cu{ls:List Int}{t:Int}{k:Nat}(l:k<ls.length)(j:(t==ls[k])=true):og ls t=true:=by rw[og,List.any_eq_true];exact⟨ls[k],List.getElem_mem l,j⟩
theorem E3(ls:List Int)(t:Int)(v:Value)(w:World)(hv:kX w v ls):Calls Tryz.prog 271 #[v,.int .i64 t] w fun e w'=>∃j:Int,e=.returned (.int .i64 j)∧decide (0≤j)=og ls t∧w'=w:=by
 obtain⟨ao,cap,rfl,hc,hm,hr⟩:=hv;have HR:=aa hr;clear hr;go_enter Tryz.func271,Tryz.ntmps271;go_wp2_with fail;go_loop[8](fun i=>∃k:Nat,k≤ls.length∧i=.int .i64 k∧og (ls.take k) t=false)(fun i=>ls.length-(intOf i).toNat);case atStart=>exact⟨0,Nat.zero_le _,rfl,rfl⟩
 case round=>
  obtain⟨k,hk,rfl,I⟩:=hrel;have T:=aa I;clear I;by_cases C:k<ls.length;·
   obtain⟨b,o,rfl,l⟩:=HR.out (by intro h;simp[h]at C);have P:=l k C;obtain⟨s,R⟩:∃s,s=ls[k]:=⟨_,rfl⟩;rw[←R]at P;have J:=aa R;clear l R;cases heq:(t==s);all_goals have U:=aa heq
   ·go_wp2_with fail;go_round;case rel=>exact⟨k+1,by omega,by go_num,AD C T.out (by rw[←J.out];exact U.out)⟩
    case measure=>simp[intOf];omega
   ·go_wp2_with fail;go_ret;exact⟨_,rfl,by rw[Cu C (by rw[←J.out];exact U.out)];simp,rfl⟩
  ·go_wp2_with fail;go_ret;refine⟨_,rfl,?_,rfl⟩;have:=T.out;rw[List.take_of_length_le (by omega)]at this;rw[this];rfl
theorem rE(ls:List Int)(t:Int)(v:Value)(w:World)(C:kX w v ls):Calls Tryz.prog 241 #[v,.int .i64 t] w fun e w'=>e=.returned (.bool (og ls t))∧w'=w:=by have J:=aa C;obtain⟨U,cap,rfl,P,R,T⟩:=C;clear T P R;go_enter Tryz.func241,Tryz.ntmps241;go_wp2_with(go_at_call 271;refine(E3 ls t _ _ J.out).mono ?_;rintro e w'⟨j,rfl,l,rfl⟩;have I:=aa l;clear l);go_ret;exact⟨aC I.out.symm,rfl⟩
theorem vK(I:List Int)(ns:List Nd)(v u:Value)(w:World)(hv:bF w w.heap.size v ns)(hu:kX w u I):Calls Tryz.prog 204 #[v,u] w fun e w'=>e=.returned (.bool (ns.any fun n=>og I n.op))∧Below w.heap.size w w':=by
 obtain⟨ao,cap,rfl,hc,hm,hr⟩:=hv;have HR:=aa hr;have HU:=aa hu;obtain⟨af,ad,rfl,al,an,ac⟩:=hu;clear hr ac;go_enter Tryz.func204,Tryz.ntmps204;go_wp2_with fail;go_loopw[9](fun i wr=>∃k:Nat,k≤ns.length∧i=.int .i64 k∧(ns.take k).any (fun n=>og I n.op)=false∧Below w.heap.size w wr)(fun i _=>ns.length-(intOf i).toNat);case atStart=>exact⟨0,Nat.zero_le _,rfl,rfl,Below.refl _ _⟩
 case round=>
  obtain⟨k,hk,rfl,R,J⟩:=hrel;have HA:=aa R;have j:=aa J;have C:=J.size;clear R J;by_cases P:k<ns.length;·
   obtain⟨b,o,rfl,ab,T⟩:=HR.out (by intro h;simp[h]at P);have l:=(T.get k P).carry ab j.out;obtain⟨n1,U⟩:∃n1,n1=ns[k]:=⟨_,rfl⟩;rw[←U]at l;have HN:=aa U;clear U T;have ah:b<wr.heap.size:=l.lt;obtain⟨c0,c1,c2,c3,c4⟩:=l;cases hh:og I n1.op;·
    have HH:=aa hh;clear hh;go_wp2_with(go_at_call 241;refine(rE I n1.op _ _ (HU.out.carry (j.out.trans ((aE _ _).mono C)))).mono ?_;rintro e w1⟨rfl,rfl⟩;rw[HH.out]);go_roundw;case rel=>exact⟨k+1,by omega,by go_num,by rw[List.take_succ_eq_append_getElem P,List.any_append,HA.out,←HN.out];simp[HH.out],j.out.trans ((aE _ _).mono C)⟩
    case measure=>simp[intOf];omega
   ·have HH:=aa hh;clear hh;go_wp2_with(go_at_call 241;refine(rE I n1.op _ _ (HU.out.carry (j.out.trans ((aE _ _).mono C)))).mono ?_;rintro e w1⟨rfl,rfl⟩;rw[HH.out]);go_ret;refine⟨aC ?_,j.out.trans ((aE _ _).mono C)⟩;rw[List.any_eq_true];exact⟨n1,by rw[HN.out];exact List.getElem_mem P,HH.out⟩
  ·go_wp2_with fail;go_ret;refine⟨aC ?_,j.out⟩;have:=HA.out;rwa[List.take_of_length_le (by omega)]at this
section
def jJ:Option ByteArray→Value→Prop|none,v=>v=.iface 304 (.agg #[])|some x,v=>v=.iface 295 (.agg #[.string x])
def ua(t:Tk)(sl:Value):Value:=if t.op==3 then .iface 302 (.agg #[.string t.a,.string t.b,sl])else if t.op==5 then .iface 343 (.agg #[.string t.b,sl])else .iface 344 (.agg #[.string t.b,sl])
def z7{α:Type}(C:α→Value→Prop)(w:World)(S:Nat→Prop)(v:Value)(l:List (Br α)):Prop:=∃j cap,v=.slice j l.length cap∧l.length≤cap∧cap≤maxLen∧(l≠[]→∃g o,j=some ⟨g,o,none⟩∧S g∧∀(i:Nat)(b:Br α),l[i]?=some b→w.cell? ⟨g,o+i*3,none⟩=some (.string b.l)∧w.cell? ⟨g,o+i*3+1,none⟩=some (.int .i64 b.s)∧∃u,w.cell? ⟨g,o+i*3+2,none⟩=some u∧C b.p u)
def cK(w:World)(S:Nat→Prop):(n:Nat)→Pn n→Value→Prop|0,x,v=>jJ x v|n+1,p,v=>p.by (fun x=>jJ x v) (fun x q=>∃u,v=.iface 297 (.agg #[.string x,u])∧cK w S n q u) (fun t l=>∃sl,v=ua t sl∧z7 (cK w S n) w S sl l)
theorem z7.carry{α:Type}{P j:α→Value→Prop}{w w':World}{S S':Nat→Prop}{v:Value}{l:List (Br α)}(h:z7 P w S v l)(I:∀g,S g→w'.heap[g]?=w.heap[g]?)(hB:∀g,S g→S' g)(hp:∀b∈l,∀u,P b.p u→j b.p u):z7 j w' S' v l:=by obtain⟨R,cap,e,h1,h2,h3⟩:=h;refine⟨R,cap,e,h1,h2,fun J=>?_⟩;obtain⟨g,o,T,C,U⟩:=h3 J;refine⟨g,o,T,hB g C,fun i b hi=>?_⟩;obtain⟨k1,k2,u,k3,k4⟩:=U i b hi;exact⟨(World.cell?_of_block (a:=⟨g,o+i*3,none⟩) (I g C)).trans k1,(World.cell?_of_block (a:=⟨g,o+i*3+1,none⟩) (I g C)).trans k2,u,(World.cell?_of_block (a:=⟨g,o+i*3+2,none⟩) (I g C)).trans k3,hp b (List.mem_of_getElem? hi) u k4⟩
theorem cK.carry{w w':World}{S S':Nat→Prop}(C:∀g,S g→w'.heap[g]?=w.heap[g]?)(j:∀g,S g→S' g):∀(n:Nat)(p:Pn n)(v:Value),cK w S n p v→cK w' S' n p v:=by
 intro n;induction n with
  |zero=>intro p v h;exact h|succ n ih=>
   intro p;refine Pn.cases (P:=fun p=>∀v,cK w S (n+1) p v→cK w' S' (n+1) p v) (fun x v h=>h) (fun x q v h=>?_) (fun t l v h=>?_) p;·obtain⟨u,e,h⟩:=h;exact⟨u,e,ih q u h⟩
   ·obtain⟨sl,e,h⟩:=h;exact⟨sl,e,h.carry C j (fun b _ u hu=>ih b.p u hu)⟩
theorem IP{w:World}{S:Nat→Prop}:∀(n:Nat)(p:Pn n)(v:Value),cK w S n p v→cK w S (n+1) (mN n p) v:=by
 intro n;induction n with
  |zero=>intro p v h;exact h|succ n ih=>
   intro p;refine Pn.cases (P:=fun p=>∀v,cK w S (n+1) p v→cK w S (n+2) (mN (n+1) p) v) (fun x v h=>h) (fun x q v h=>?_) (fun t l v h=>?_) p;·obtain⟨u,e,h⟩:=h;exact⟨u,e,ih q u h⟩
   ·obtain⟨sl,e,J,cap,j,U,h2,h3⟩:=h;refine⟨sl,e,J,cap,by rw[List.length_map];exact j,by rw[List.length_map];exact U,h2,fun C=>?_⟩;obtain⟨g,o,R,j,T⟩:=h3 (fun h=>C (by rw[h];rfl));refine⟨g,o,R,j,fun i b hi=>?_⟩;rw[List.getElem?_map]at hi;cases I:l[i]? with|none=>rw[I]at hi;cases hi|some x=>rw[I]at hi;simp only[Option.map_some,Option.some.injEq]at hi;subst hi;obtain⟨k1,k2,u,k3,k4⟩:=T i x I;exact⟨k1,k2,u,k3,ih x.p u k4⟩
theorem mA{x:Option ByteArray}{v:Value}(h:jJ x v):∃t a,v=.iface t (.agg a):=by cases x with|none=>exact⟨_,_,h⟩|some x=>exact⟨_,_,h⟩
theorem yH(t:Tk)(sl:Value):∃T a,ua t sl=.iface T (.agg a):=by
 unfold ua;split;·exact⟨_,_,rfl⟩
 ·split;·exact⟨_,_,rfl⟩
  ·exact⟨_,_,rfl⟩
theorem cK.shape{w:World}{S:Nat→Prop}:∀{n:Nat}{p:Pn n}{v:Value},cK w S n p v→∃t a,v=.iface t (.agg a)
 |0,p,v,h=>mA h|n+1,p,v,h=>by
  revert h;refine Pn.cases (P:=fun p=>cK w S (n+1) p v→∃t a,v=.iface t (.agg a)) (fun x h=>mA h) (fun x q h=>?_) (fun t l h=>?_) p;·obtain⟨u,e,_⟩:=h;exact⟨_,_,e⟩
  ·obtain⟨sl,e,_⟩:=h;obtain⟨T,a,j⟩:=yH t sl;exact⟨T,a,e.trans j⟩
theorem cK.one{w:World}{S:Nat→Prop}{n:Nat}{p:Pn n}{v:Value}(h:cK w S n p v):v.oneCell'=true:=by obtain⟨t,a,rfl⟩:=h.shape;rfl
structure BV(n:Nat)where
 b:Br (Pn n)
 u:Value
def BV.cells{n:Nat}(x:BV n):List Value:=[.string x.b.l,.int .i64 x.b.s,x.u]
theorem BV.bg{n:Nat}(x:BV n):x.cells.length=3:=rfl
def lo(n:Nat):Nat→Prop:=fun b=>b<n
def F6(a n:Nat):Nat→Prop:=fun b=>a≤b∧b<n
def off(a n:Nat)(v:Value):Nat→Prop:=fun b=>(a≤b∧b<n)∧b∉aj v
section
variable {n : Nat}
theorem cK.on{w w':World}{p:Pn n}{u:Value}(h:cK w (lo w.heap.size) n p u)(l:Below w.heap.size w w'):cK w' (lo w'.heap.size) n p u:=cK.carry (fun g j=>l.block g j) (fun _ j=>Nat.lt_of_lt_of_le j l.size) n p u h
theorem cK.up{w:World}{S:Nat→Prop}{p:Pn n}{u:Value}(h:cK w S n p u){S':Nat→Prop}(hS:∀g,S g→S' g):cK w S' n p u:=cK.carry (fun _ _=>rfl) hS n p u h
def pV(w:World)(S:Nat→Prop)(v:Value)(l:List (Br (Pn n))):Prop:=z7 (cK w S n) w S v l
theorem pV.carry{w w':World}{S S':Nat→Prop}{v:Value}{l:List (Br (Pn n))}(h:pV w S v l)(C:∀g,S g→w'.heap[g]?=w.heap[g]?)(j:∀g,S g→S' g):pV w' S' v l:=z7.carry h C j (fun b _ u hu=>cK.carry C j n b.p u hu)
theorem pV.on{w w':World}{v:Value}{l:List (Br (Pn n))}(h:pV w (lo w.heap.size) v l)(C:Below w.heap.size w w'):pV w' (lo w'.heap.size) v l:=h.carry (fun g j=>C.block g j) (fun _ j=>Nat.lt_of_lt_of_le j C.size)
structure kL(w:World)(base:Nat)(v:Value)(l:List (BV n)):Prop where
 own:w.ownsRow base 341 3 v l.length (l.flatMap BV.cells)
 Ed:∀x∈l,cK w (off base w.heap.size v) n x.b.p x.u
theorem kL.aD{w w':World}{base:Nat}{v:Value}{l:List (BV n)}(h:kL w base v l)(C:Below w.heap.size w w'):kL w' base v l:=⟨aJ h.own C,fun x I=>cK.carry (fun g j=>C.block g j.1.2) (fun _ j=>⟨⟨j.1.1,Nat.lt_of_lt_of_le j.1.2 C.size⟩,j.2⟩) _ _ _ (h.Ed x I)⟩
theorem kL.nil(w:World)(base:Nat):kL w base (.slice none 0 0) ([]:List (BV n)):=⟨dQ _ _ _ _,fun x j=>by cases j⟩
theorem kL.sl{w:World}{base:Nat}{v:Value}{l:List (BV n)}(h:kL w base v l):pV w (F6 base w.heap.size) v (l.map BV.b):=by
 rcases h.own.2 with⟨rfl,h0⟩|⟨g,cap,ab,rfl,R,I,hc,hm,_⟩;·have e:l=[]:=List.length_eq_zero_iff.1 h0;subst e;exact⟨none,0,rfl,Nat.le_refl _,Nat.zero_le _,fun T=>absurd rfl T⟩
 ·refine⟨some ⟨g,0,none⟩,cap,by rw[List.length_map],by rw[List.length_map];exact hc,hm,fun _=>⟨g,0,rfl,⟨R,(Array.getElem?_eq_some_iff.1 I).1⟩,fun i b C=>?_⟩⟩;rw[List.getElem?_map]at C;cases U:l[i]? with|none=>rw[U]at C;cases C|some x=>rw[U]at C;simp only[Option.map_some,Option.some.injEq]at C;subst C;obtain⟨J,P⟩:=List.getElem?_eq_some_iff.1 U;have e:=fun j(hj:j<3)(y:Value)(hy:(x.cells)[j]?=some y)=>cX h.own rfl (i*3+j) y ((dV BV.cells 3 BV.bg l i J j hj).trans (by rw[P];exact hy));rw[Nat.zero_add];exact⟨e 0 (by omega) _ rfl,e 1 (by omega) _ rfl,x.u,e 2 (by omega) _ rfl,(h.Ed x (by rw[←P];exact List.getElem_mem J)).up (fun _ R=>R.1)⟩
theorem uj{w:World}{S:Nat→Prop}{x:BV n}(h:cK w S n x.b.p x.u):∀u∈x.cells,u.oneCell'=true:=by
 intro u hu;simp[BV.cells]at hu;rcases hu with rfl|rfl|rfl;·rfl
 ·rfl
 ·exact h.one
theorem Et{w P:World}{base:Nat}{v R:Value}{l:List (BV n)}(h:kL w base v l)(x:BV n)(hx:cK w (off base w.heap.size v) n x.b.p x.u)(o:Obj)(I:P.ownsRow base 341 3 R (l.length+1) (l.flatMap BV.cells++x.cells))(j:(w.alloc o).grownBy P v.ownBlock)(U:R.ownBlock=v.ownBlock∨R.ownBlock=some (w.alloc o).heap.size):kL P base R (l++[x])∧aI w P (aj v):=by
 obtain⟨p,c,hv⟩:=ak h.own;obtain⟨p',c',ab⟩:=ak I;have T:aI w P (aj v):=by rw[hv]at j⊢;have:=(ag (ae w o)).trans (aB j);rwa[List.nil_append]at this
 have key:∀{q:Pn n}{u:Value},cK w (off base w.heap.size v) n q u→cK P (off base P.heap.size R) n q u:=fun hq=>cK.carry (fun g j=>T.block g j.1.2 j.2) (fun g j=>⟨⟨j.1.1,Nat.lt_of_lt_of_le j.1.2 T.size⟩,fun hm=>by
  have C:=(aW ab).2 hm;rcases U with e|e;·rw[e]at C;exact j.2 ((aW hv).1 C)
  ·rw[e]at C;have:=j.1.2;simp at C;omega⟩) _ _ _ hq;refine⟨⟨?_,fun y J=>?_⟩,T⟩;·rw[List.length_append,List.length_singleton,List.flatMap_append];simpa using I
 ·rw[List.mem_append]at J;rcases J with J|J;·exact key (h.Ed y J)
  ·simp at J;subst J;exact key hx
theorem cK.wide{w:World}{a j m:Nat}{p:Pn n}{u:Value}(h:cK w (F6 a m) n p u)(C:j≤a):cK w (F6 j m) n p u:=h.up (fun _ l=>⟨Nat.le_trans C l.1,l.2⟩)
theorem pV.wide{w:World}{a j m:Nat}{v:Value}{l:List (Br (Pn n))}(h:pV w (F6 a m) v l)(I:j≤a):pV w (F6 j m) v l:=h.carry (fun _ _=>rfl) (fun _ C=>⟨Nat.le_trans I C.1,C.2⟩)
end
theorem fH(w:World)(l:List Value)(t:TypeId)(b:Nat)(C:b=w.heap.size)(j:Nat)(u:Value)(h:l[j]?=some u):(w.alloc (.cells l.toArray t)).cell? (Addr.add ⟨b,0,none⟩ j)=some u:=by subst C;exact dI w l t j u h
theorem Tryz.uu:(Tryz.prog.info? 341).map (fun i=>(i.zero,i.size,i.bytes))=some (some (.agg #[.string ByteArray.empty,.int .i64 0,.nilIface]),3,40):=by kernel_rfl
theorem rA(x:Option ByteArray):0<(bP x).length:=by cases x<;>simp[bP]
theorem de:∀(n:Nat)(p:Pn n),0<(aw n p).length|0,p=>rA p|n+1,p=>Pn.cases (P:=fun p=>0<(aw (n+1) p).length) (fun x=>rA x) (fun x q=>by rw[cP];simp) (fun t l=>by rw[bH];simp) p
end
end Go.Proofs.YtdiiiijkhpdcbaaGreatDoor
