import Derived.Test.YtdiiiijkhpdcbaaGreatDoorRX16
import Derived.Test.YtdiiiijkhpdcbaaGreatDoorRX15
namespace Go.Proofs.YtdiiiijkhpdcbaaGreatDoor
open Go.RowKit
set_option linter.unusedSimpArgs false
set_option linter.unusedVariables false
def rL:List Nd->Option ByteArray|[]=>none|n::l=>if n.op==2 then rL l else if n.op==1 then some n.name else none
def Cq:List Nd->List ByteArray|[]=>[]|n::l=>if n.op==2 then n.name::Cq l else[]
def um:List Nd->List ByteArray|[]=>[]|n::l=>if n.op==2 then n.name::um l else um l
theorem mN:∀(l r:List Nd)(ns:List ByteArray),bY ns (l++r)=(bY ns l&&bY (ns++um l) r)
 |[],r,ns=>by simp[bY,um]|n::l,r,ns=>by
  rw[List.cons_append,bY,bY,um];cases h:(n.op==2);·
   simp only[Bool.false_eq_true,if_false];cases h1:(n.op==1&&!cw ns n.name);·simp only[Bool.false_eq_true,if_false];exact mN l r ns
   ·simp
  ·simp only[if_true];rw[mN l r (ns++[n.name]),List.append_assoc];rfl
theorem EJ(role:ByteArray)(l r:List Nd):dh role (l++r)=(dh role l||dh role r):=by simp[dh]
theorem pE(role:ByteArray)(n:Nd)(l:List Nd):dh role (n::l)=((n.op==3&&(n.name.toList==role.toList||n.peer.toList==role.toList))||dh role l):=by rw[dh,List.any_cons];rfl
theorem sO:∀{l r:List Nd},fC l r=true->l=r|[],[],_=>rfl|[],_::_,h=>by cases h|_::_,[],h=>by cases h|a::l,b::r,h=>by rw[fC,Bool.and_eq_true]at h;obtain⟨R,T⟩:=h;rw[sO T];simp only[oE,Bool.and_eq_true,beq_iff_eq]at R;obtain⟨⟨⟨⟨j,C⟩,I⟩,J⟩,P⟩:=R;obtain⟨o,n,p,m,s⟩:=a;obtain⟨o',n',p',U,s'⟩:=b;dsimp only at j C I J P;rw[j,jY C,jY I,J,P]
theorem D6:∀(n:Nat)(u v z:Pn n)(x:ByteArray),aW n u v=some z->rL (aB n z)=some x->z=u/\rL (aB n v)=some x:=by
 intro n;cases n with
  |zero=>
   intro u v z x h j;rw[aW]at h;split at h;·rename_i l;injection h with h;subst h;exact⟨rfl,by rw[<-sO l];exact j⟩
   ·cases h|succ n=>
   intro u v z x h j;rw[aW]at h;split at h;·rename_i l;injection h with h;subst h;exact⟨rfl,by rw[<-sO l];exact j⟩
   ·split at h;·
     split at h;·
      split at h;·
       split at h;·injection h with h;subst h;rw[bI]at j;simp[rL]at j
       ·cases h
      ·cases h
     ·cases h
    ·cases h
theorem CW{n:Nat}{x:ByteArray}:∀(r:List (Br (Pn n)))(u z:Pn n),bE (aW n) u r=some z->rL (aB n z)=some x->z=u/\∀b∈r,rL (aB n b.p)=some x
 |[],u,z,h,j=>by rw[bE]at h;injection h with h;exact⟨h.symm,fun b P=>(by cases P)⟩|b::r,u,z,h,j=>by
  rw[bE]at h;split at h;·cases h
  ·rename_i q R;obtain⟨l,C⟩:=CW r q z h j;subst l;obtain⟨I,J⟩:=D6 n u b.p z x R j;refine⟨I,fun d hd=>?_⟩;rcases List.mem_cons.1 hd with rfl|hd;·exact J
   ·exact C d hd
theorem kT{α:Type}{g:α->Option α}:∀(l r:List (Br α)),bu g l=some r->r.map (·.l)=l.map (·.l)/\(∀c∈r,∃b∈l,g b.p=some c.p/\c.l=b.l/\c.s=b.s)/\∀b∈l,∃c∈r,g b.p=some c.p
 |[],r,h=>by rw[bu]at h;injection h with h;subst h;exact⟨rfl,fun c j=>(by cases j),fun c j=>(by cases j)⟩|b::l,r,h=>by
  rw[bu]at h;split at h;·cases h
  ·rename_i q I;split at h;·cases h
   ·rename_i r' C;injection h with h;subst h;obtain⟨J,P,R⟩:=kT l r' C;refine⟨by rw[List.map_cons,List.map_cons,J],fun c j=>?_,fun d hd=>?_⟩;·
     rcases List.mem_cons.1 j with rfl|j;·exact⟨b,List.mem_cons_self,I,rfl,rfl⟩
     ·obtain⟨d,hd,e⟩:=P c j;exact⟨d,List.mem_cons_of_mem _ hd,e⟩
    ·rcases List.mem_cons.1 hd with rfl|hd;·exact⟨_,List.mem_cons_self,I⟩
     ·obtain⟨c,j,e⟩:=R d hd;exact⟨c,List.mem_cons_of_mem _ j,e⟩
theorem mO{n:Nat}{role x:ByteArray}:∀(l:List (Br (Pn n)))(ns:List ByteArray),(∀b∈l,dh role (aB n b.p)=false/\∀ns,x∈ns->bY ns (aB n b.p)=true)->x∈ns->dh role (aY (aB n) l)=false/\bY ns (aY (aB n) l)=true
 |[],ns,_,_=>⟨rfl,rfl⟩|b::l,ns,h,j=>by
  rw[cA];obtain⟨C,I⟩:=h b List.mem_cons_self;obtain⟨J,P⟩:=mO l (ns++um (aB n b.p)) (fun d hd=>h d (List.mem_cons_of_mem _ hd)) (List.mem_append_left _ j);refine⟨?_,?_⟩;·rw[pE,EJ,C,J];rfl
  ·rw[bY];simp only[show((4:Int)==2)=false from rfl,show((4:Int)==1)=false from rfl,Bool.false_and,Bool.false_eq_true,if_false];rw[mN,I ns j,P];rfl
theorem Az(role:ByteArray):∀(n:Nat)(p q:Pn n)(x:ByteArray),bX n p->bd role n p=some q->rL (aB n q)=some x->dh role (aB n p)=false/\(∀ns,x∈ns->bY ns (aB n p)=true)/\x∉Cq (aB n q):=by
 have leaf:∀(y:Option ByteArray)(x:ByteArray),rL (bP y)=some x->dh role (bP y)=false/\(∀ns,x∈ns->bY ns (bP y)=true)/\x∉Cq (bP y):=by intro y x h;cases y with|none=>cases h|some y=>injection h with h;dsimp only at h;subst h;refine⟨rfl,fun ns J=>?_,by simp[bP,Cq]⟩;simp[bP,bY,jM.2 J]
 intro n;induction n with
  |zero=>intro p q x _ h C;injection h with h;subst h;exact leaf p x C|succ n ih=>
   intro p;refine Pn.cases (P:=fun p=>∀(q:Pn (n+1))(x:ByteArray),bX (n+1) p->bd role (n+1) p=some q->rL (aB (n+1) q)=some x->dh role (aB (n+1) p)=false/\(∀ns,x∈ns->bY ns (aB (n+1) p)=true)/\x∉Cq (aB (n+1) q)) (fun y=>?_) (fun y T=>?_) (fun t l=>?_) p;·intro q x _ h C;have j:some (Pn.leaf y)=some q:=h;injection j with j;subst j;exact leaf y x C
   ·intro q x hp h C;have j:(if kj role (aB (n+1) (.loop y T))then some (.leaf none)else(bd role n T).map (Pn.loop y))=some q:=h;split at j;·injection j with j;subst j;cases C
    ·rename_i ac;cases hq:bd role n T with
      |none=>rw[hq]at j;cases j|some q'=>
       rw[hq]at j;injection j with j;subst j;rw[cO]at C|-;have an:rL (aB n q')=some x:=by simpa[ZW,rL]using C
       obtain⟨h1,h2,h3⟩:=ih T q' x hp hq an;have hr:dh role (aB (n+1) (.loop y T))=false:=by rw[cO];rw[pE,h1];rfl
       have hc:∀ns,x∈ns++[y]->bY ns (aB (n+1) (.loop y T))=true:=fun ns J=>by rw[cO,bY];simp only[show((2:Int)==2)=true from rfl,if_true];exact h2 _ J
       refine⟨hr,fun ns J=>hc ns (List.mem_append_left _ J),?_⟩;rw[cO];simp only[Cq,show((2:Int)==2)=true from rfl,if_true,List.mem_cons,not_or];refine⟨fun e=>ac ?_,h3⟩;rw[kj,hr,hc [] (by simp[e])];rfl
   ·intro q x hp h C;obtain⟨af,-,-,-,ab⟩:=hp;have j:(match bu (bd role n) l with|none=>none|some r=>if role.toList==t.a.toList then some (.cU ⟨5,de,t.b⟩ r)else if role.toList==t.b.toList then some (.cU ⟨6,de,t.a⟩ r)else match r with|[]=>none|c::r=>(bE (aW n) c.p r).map (nP n))=some q:=h;split at j;·cases j
    ·rename_i r hr;split at j;·injection j with j;subst j;rw[bI]at C;simp[rL]at C
     ·rename_i ha;split at j;·injection j with j;subst j;rw[bI]at C;simp[rL]at C
      ·rename_i I;cases r with
        |nil=>cases j|cons c r=>
         dsimp only at j;cases hz:bE (aW n) c.p r with
          |none=>rw[hz]at j;cases j|some z=>
           rw[hz]at j;injection j with j;subst j;rw[zD]at C|-;obtain⟨R,U⟩:=CW r c.p z hz C;obtain⟨-,-,ad⟩:=kT l (c::r) hr;have each:∀b∈l,∃d:Pn n,bd role n b.p=some d/\rL (aB n d)=some x:=fun b I=>by
            obtain⟨d,hd,e⟩:=ad b I;rcases List.mem_cons.1 hd with rfl|hd;·exact⟨d.p,e,by rw[<-R];exact C⟩
            ·exact⟨d.p,e,U d hd⟩
           have hk:∀b∈l,dh role (aB n b.p)=false/\∀ns,x∈ns->bY ns (aB n b.p)=true:=fun b I=>by obtain⟨d,e,hd⟩:=each b I;obtain⟨k1,k2,-⟩:=ih b.p d x (ab b I) e hd;exact⟨k1,k2⟩
           rw[bI];have ah:(t.a.toList==role.toList)=false:=by cases e:(t.a.toList==role.toList)with|false=>rfl|true=>exact absurd (by rw[beq_iff_eq]at e|-;exact e.symm) ha
           have al:(t.b.toList==role.toList)=false:=by cases e:(t.b.toList==role.toList)with|false=>rfl|true=>exact absurd (by rw[beq_iff_eq]at e|-;exact e.symm) I
           refine⟨?_,fun ns J=>?_,?_⟩;·rw[pE];dsimp only;rw[ah,al,(mO l [x] hk (by simp)).1];simp
           ·rw[bY];simp only[af,show((3:Int)==2)=false from rfl,show((3:Int)==1)=false from rfl,Bool.false_and,Bool.false_eq_true,if_false];exact(mO l ns hk J).2
           ·obtain⟨b,I,e,-,-⟩:=(kT l (c::r) hr).2.1 c List.mem_cons_self;rw[R];exact(ih b.p c.p x (ab b I) e (by rw[<-R];exact C)).2.2
section
theorem zX{α:Type}{t:ByteArray}:∀{l:List (Br α)},gU t l=none->∀b∈l,b.l≠t
 |[],_,b,j=>by cases j|a::l,h,b,j=>by
  rw[gU]at h;split at h;·cases h
  ·rename_i I;rcases List.mem_cons.1 j with rfl|j;·intro e;exact I (by rw[e];simp)
   ·cases C:gU t l with|none=>exact zX C b j|some i=>rw[C]at h;cases h
theorem BO{α:Type}{l:List (Br α)}{d:Br α}(h:rY l)(hd:cX d.l=true/\ll d.s=true)(I:∀b∈l,b.l≠d.l):rY (l++[d]):=by
 refine⟨?_,fun b j=>?_⟩;·rw[List.map_append];exact ue h.1 (fun C=>by obtain⟨b,j,e⟩:=List.mem_map.1 C;exact I b j e)
 ·rcases List.mem_append.1 j with j|j;·exact h.2 b j
  ·simp at j;subst j;exact hd
theorem DS{α:Type}{l:List (Br α)}{i:Nat}{b:Br α}(q:α)(h:rY l)(C:l[i]?=some b):rY (l.set i ⟨b.l,b.s,q⟩):=by
 have P:b∈l:=List.mem_of_getElem? C;refine⟨?_,fun c I=>?_⟩;·
  rw[List.map_set];have:(l.map (·.l)).set i b.l=l.map (·.l):=by
   apply List.ext_getElem?;intro j;by_cases e:i=j;·subst e;have J:=(List.getElem?_eq_some_iff.1 C).1;rw[List.getElem?_set_self (by simpa[ZW]using J),List.getElem?_map,C];rfl
   ·rw[List.getElem?_set_ne e]
  dsimp only;rw[this];exact h.1
 ·rcases kn I with I|rfl;·exact h.2 c I
  ·exact h.2 b P
theorem ja{α:Type}{mg:α->α->Option α}:∀(ds j l:List (Br α)),rY j->rY ds->bQ mg j ds=some l->rY l
 |[],j,l,I,_,h=>by rw[bQ]at h;injection h with h;subst h;exact I|d::ds,j,l,I,hd,h=>by
  have P:cX d.l=true/\ll d.s=true:=hd.2 d List.mem_cons_self;have C:rY ds:=⟨(List.nodup_cons.1 hd.1).2,fun b J=>hd.2 b (List.mem_cons_of_mem _ J)⟩;rw[bQ]at h;split at h;·rename_i R;exact ja ds _ l (BO I P (zX R)) C h
  ·split at h;·cases h
   ·rename_i b J;split at h;·cases h
    ·split at h;·exact ja ds _ l (DS _ I J) C h
     ·cases h
section
variable {B : Tk -> Prop}
theorem Gc(J:∀a b,B ⟨6,b,a⟩->B ⟨6,de,a⟩):∀(n:Nat)(sk:Sk)(u v z:Pn n),gP B n sk u->gP B n sk v->aW n u v=some z->gP B n sk z:=by
 intro n;induction n with
  |zero=>
   intro sk u v z hu _ h;rw[aW]at h;split at h;·injection h with h;subst h;exact hu
   ·cases h|succ n ih=>
   intro sk u v z hu P h;rw[aW]at h;split at h;·injection h with h;subst h;exact hu
   ·split at h;·
     rename_i a cs b ds j C;split at h;·
      split at h;·
       rename_i l hl;split at h;·rename_i I;injection h with h;subst h;obtain⟨xb,rfl⟩:=eT j;obtain⟨yb,rfl⟩:=eT C;obtain⟨T,U,u3,u4,u5⟩:=hu;obtain⟨v1,v2,v3,v4,v5⟩:=P;exact⟨J _ _ T,Nat.le_trans U (iH ds cs l hl),I,ja ds cs l u4 v4 hl,fM (Q:=gP B n (none::sk)) (fun x y z j C R=>ih _ x y z j C R) ds cs l u5 v5 hl⟩
       ·cases h
      ·cases h
     ·cases h
    ·cases h
theorem D5(I:∀a b,B ⟨6,b,a⟩->B ⟨6,de,a⟩)(n:Nat)(sk:Sk)(u v z:Pn n)(hu:gH B n sk u)(P:gH B n sk v)(h:aW n u v=some z):gH B n sk z:=by
 cases n with
  |zero=>
   rw[aW]at h;split at h;·injection h with h;subst h;exact hu
   ·cases h|succ n=>
   rw[aW]at h;split at h;·injection h with h;subst h;exact hu
   ·split at h;·
     rename_i a cs b ds j C;split at h;·
      split at h;·
       rename_i l hl;split at h;·rename_i J;injection h with h;subst h;obtain⟨xb,rfl⟩:=eT j;obtain⟨yb,rfl⟩:=eT C;obtain⟨T,U,u3,u4,u5⟩:=hu;obtain⟨v1,v2,v3,v4,v5⟩:=P;exact⟨I _ _ T,Nat.le_trans U (iH ds cs l hl),J,ja ds cs l u4 v4 hl,fM (Q:=gP B n (none::sk)) (fun x y z j C R=>Gc I n _ x y z j C R) ds cs l u5 v5 hl⟩
       ·cases h
      ·cases h
     ·cases h
    ·cases h
theorem KA:∀(n:Nat)(sk:Sk)(q:Pn n),gP B n sk q->gP B (n+1) sk (nP n q):=by
 intro n;induction n with
  |zero=>intro sk q h;exact h|succ n ih=>
   intro sk q;refine Pn.cases (P:=fun q=>gP B (n+1) sk q->gP B (n+1+1) sk (nP (n+1) q)) (fun x h=>h) (fun x q h=>?_) (fun t l h=>?_) q;·exact⟨h.1,h.2.1,ih _ q h.2.2⟩
   ·obtain⟨J,R,T,I,U⟩:=h;refine⟨J,by rw[List.length_map];exact R,by rw[List.length_map];exact T,⟨by rw[List.map_map];exact I.1,fun b j=>?_⟩,fun b j=>?_⟩;·obtain⟨c,C,rfl⟩:=List.mem_map.1 j;exact I.2 c C
    ·obtain⟨c,C,rfl⟩:=List.mem_map.1 j;exact ih _ c.p (U c C)
theorem Kc:∀(n:Nat)(sk:Sk)(q:Pn n),gH B n sk q->gH B (n+1) sk (nP n q):=by
 intro n;induction n with
  |zero=>intro sk q h;exact h|succ n ih=>
   intro sk q;refine Pn.cases (P:=fun q=>gH B (n+1) sk q->gH B (n+1+1) sk (nP (n+1) q)) (fun x h=>h) (fun x q h=>?_) (fun t l h=>?_) q;·exact⟨h.1,h.2.1,ih _ q h.2.2⟩
   ·obtain⟨J,R,T,I,U⟩:=h;refine⟨J,by rw[List.length_map];exact R,by rw[List.length_map];exact T,⟨by rw[List.map_map];exact I.1,fun b j=>?_⟩,fun b j=>?_⟩;·obtain⟨c,C,rfl⟩:=List.mem_map.1 j;exact I.2 c C
    ·obtain⟨c,C,rfl⟩:=List.mem_map.1 j;exact KA _ _ c.p (U c C)
theorem qI:∀(sk:Sk)(x:ByteArray),bB true sk x=wB sk x|[],_=>rfl|some y::sk,x=>by rw[bB,qI sk x];show _=((y.toList==x.toList)||wB sk x);cases(y.toList==x.toList)<;>rfl|none::sk,x=>by rw[bB,qI sk x];show _=(false||wB sk x);rfl
theorem JB:∀(sk:Sk)(x:ByteArray),bB false sk x=true->wB sk x=true
 |some y::sk,x,h=>by
  rw[bB]at h;split at h;·cases h
  ·show((y.toList==x.toList)||wB sk x)=true;rw[JB sk x h,Bool.or_true]|none::sk,x,h=>by rw[bB,qI]at h;show(false||wB sk x)=true;rw[h];rfl
theorem Hz:∀(n:Nat)(sk:Sk)(q:Pn n),gH B n sk q->(∀x,rL (aB n q)=some x->x∉Cq (aB n q)/\bB false sk x=true)->gP B n sk q:=by
 have leaf:∀(y:Option ByteArray)(sk:Sk),(∀x,rL (bP y)=some x->x∉Cq (bP y)/\bB false sk x=true)->tY sk y:=by intro y sk h;cases y with|none=>trivial|some y=>exact(h y rfl).2
 intro n;induction n with|zero=>intro sk q _ h;exact leaf q sk h|succ n ih=>intro sk q;refine Pn.cases (P:=fun q=>gH B (n+1) sk q->(∀x,rL (aB (n+1) q)=some x->x∉Cq (aB (n+1) q)/\bB false sk x=true)->gP B (n+1) sk q) (fun y _ h=>leaf y sk h) (fun y q h I=>?_) (fun t l h _=>h) q;refine⟨h.1,h.2.1,ih _ q h.2.2 (fun x C=>?_)⟩;have j:=I x (by rw[cO];simpa[ZW,rL]using C);rw[cO]at j;simp only[Cq,show((2:Int)==2)=true from rfl,if_true,List.mem_cons,not_or]at j;refine⟨j.1.2,?_⟩;rw[bB,if_neg (fun e=>j.1.1 (jY (beq_iff_eq.1 e)).symm)];exact j.2
theorem wJ(J:∀t,B t->t.op≠1/\t.op≠2):∀(n:Nat)(sk:Sk)(q:Pn n)(x:ByteArray),gH B n sk q->rL (aB n q)=some x->x∉Cq (aB n q)->wB sk x=true:=by
 have leaf:∀(y:Option ByteArray)(sk:Sk)(x:ByteArray),Ak sk y->rL (bP y)=some x->wB sk x=true:=by intro y sk x h j;cases y with|none=>cases j|some y=>injection j with j;dsimp only at j;subst j;exact h
 intro n;induction n with
  |zero=>intro sk q x h j _;exact leaf q sk x h j|succ n ih=>
   intro sk q x;refine Pn.cases (P:=fun q=>gH B (n+1) sk q->rL (aB (n+1) q)=some x->x∉Cq (aB (n+1) q)->wB sk x=true) (fun y h j _=>leaf y sk x h j) (fun y q h j I=>?_) (fun t l h j _=>?_) q;·
    rw[cO]at j I;simp only[Cq,show((2:Int)==2)=true from rfl,if_true,List.mem_cons,not_or]at I;have:=ih _ q x h.2.2 (by simpa[ZW,rL]using j) I.2;have C:((y.toList==x.toList)||wB sk x)=true:=this;rw[Bool.or_eq_true]at C;rcases C with C|C;·exact absurd (jY (beq_iff_eq.1 C)).symm I.1
    ·exact C
   ·obtain⟨R,C⟩:=J t h.1;rw[bI]at j;simp[rL,R,C]at j
theorem IA(j:∀a b,B ⟨6,b,a⟩->B ⟨6,de,a⟩)(n:Nat)(sk:Sk):∀(r:List (Br (Pn n)))(u z:Pn n),gH B n sk u->(∀b∈r,gH B n sk b.p)->bE (aW n) u r=some z->gH B n sk z:=fun r u z hu l h=>i7 (Q:=gH B n sk) (fun x y z C I J=>D5 j n sk x y z C I J) r u z hu l h
theorem wm{a b:ByteArray}(h:a.toList=b.toList):a=b:=by rw[Go.ByteArray.toList_eq,Go.ByteArray.toList_eq]at h;cases a;cases b;simpa[ZW]using h
theorem GA{A:Tk->Prop}(role:ByteArray)(hA:∀t,A t->(t.a=role->B ⟨5,de,t.b⟩)/\(t.b=role->B ⟨6,de,t.a⟩))(hB:∀a b,B ⟨6,b,a⟩->B ⟨6,de,a⟩)(ac:∀t,B t->t.op≠1/\t.op≠2):∀(n:Nat)(sk j:Sk)(p q:Pn n),(∀x,wB j x=wB sk x)->gP A n sk p->bX n p->bd role n p=some q->gH B n j q:=by
 have leaf:∀(y:Option ByteArray)(sk j:Sk),(∀x,wB j x=wB sk x)->tY sk y->Ak j y:=by intro y sk j I h;cases y with|none=>trivial|some y=>exact(I y).trans (JB sk y h)
 intro n;induction n with
  |zero=>intro sk j p q I J _ h;injection h with h;subst h;exact leaf p sk j I J|succ n ih=>
   intro sk j p;refine Pn.cases (P:=fun p=>∀q:Pn (n+1),(∀x,wB j x=wB sk x)->gP A (n+1) sk p->bX (n+1) p->bd role (n+1) p=some q->gH B (n+1) j q) (fun y=>?_) (fun y p'=>?_) (fun t l=>?_) p;·intro q I J _ h;have C:some (Pn.leaf y)=some q:=h;injection C with C;subst C;exact leaf y sk j I J
   ·intro q I J hp h;have C:(if kj role (aB (n+1) (.loop y p'))then some (.leaf none)else(bd role n p').map (Pn.loop y))=some q:=h;split at C;·injection C with C;subst C;exact trivial
    ·cases hq:bd role n p' with|none=>rw[hq]at C;cases C|some q'=>rw[hq]at C;injection C with C;subst C;refine⟨J.1,(I y).trans J.2.1,ih (some y::sk) (some y::j) p' q' (fun x=>?_) J.2.2 hp hq⟩;show((y.toList==x.toList)||wB j x)=((y.toList==x.toList)||wB sk x);rw[I]
   ·intro q I J hp h;obtain⟨ah,-,-,-,U⟩:=hp;obtain⟨g1,g2,g3,g4,g5⟩:=J;have C:(match bu (bd role n) l with|none=>none|some r=>if role.toList==t.a.toList then some (.cU ⟨5,de,t.b⟩ r)else if role.toList==t.b.toList then some (.cU ⟨6,de,t.a⟩ r)else match r with|[]=>none|c::r=>(bE (aW n) c.p r).map (nP n))=some q:=h;split at C;·cases C
    ·rename_i r hr;obtain⟨e1,e2,-⟩:=kT l r hr;have el:r.length=l.length:=by have:=congrArg List.length e1;simpa[ZW]using this
     have T:rY r:=⟨by rw[e1];exact g4.1,fun c hc=>by obtain⟨b,R,-,e3,e4⟩:=e2 c hc;rw[e3,e4];exact g4.2 b R⟩;have ab:∀c∈r,gP B n (none::j) c.p:=fun c hc=>by obtain⟨b,R,e,-,-⟩:=e2 c hc;have hH:=ih (none::sk) (none::j) b.p c.p (fun x=>by show(false||wB j x)=(false||wB sk x);rw[I]) (g5 b R) (U b R) e;refine Hz n _ c.p hH (fun x hx=>?_);have hs:=(Az role n b.p c.p x (U b R) e hx).2.2;refine⟨hs,?_⟩;rw[bB,qI];have:=wJ ac n _ c.p x hH hx hs;exact this
     split at C;·rename_i ad;injection C with C;subst C;exact⟨(hA t g1).1 (wm (eq_of_beq ad)).symm,by omega,by omega,T,ab⟩
     ·split at C;·rename_i af;injection C with C;subst C;exact⟨(hA t g1).2 (wm (eq_of_beq af)).symm,by omega,by omega,T,ab⟩
      ·cases r with
        |nil=>cases C|cons c r=>
         dsimp only at C;cases hz:bE (aW n) c.p r with
          |none=>rw[hz]at C;cases C|some z=>
           rw[hz]at C;injection C with C;subst C;have out:∀d∈c::r,gH B n j d.p:=fun d hd=>by obtain⟨b,R,e,-,-⟩:=e2 d hd;exact ih (none::sk) j b.p d.p (fun x=>(I x).trans (by show _=(false||wB sk x);rfl)) (g5 b R) (U b R) e
           exact Kc n j z (IA hB n j r c.p z (out c List.mem_cons_self) (fun d hd=>out d (List.mem_cons_of_mem _ hd)) hz)
theorem I8{A:Tk->Prop}(role:ByteArray)(J:∀t,A t->(t.a=role->B ⟨5,de,t.b⟩)/\(t.b=role->B ⟨6,de,t.a⟩))(P:∀a b,B ⟨6,b,a⟩->B ⟨6,de,a⟩)(j:∀t,B t->t.op≠1/\t.op≠2)(n:Nat)(p q:Pn n)(R:gP A n [] p)(C:bX n p)(h:bd role n p=some q):gP B n [] q:=by have l:=GA role J P j n [] [] p q (fun _=>rfl) R C h;refine Hz n [] q l (fun x I=>?_);have T:=(Az role n p q x C h I).2.2;have:=wJ j n [] q x l I T;cases this
end
end
theorem FF{ts:List ByteArray}:∀{j:List ByteArray}{t:ByteArray},t∈j\/t∈ts->t∈ts.foldl ig j:=by
 induction ts with
  |nil=>
   intro j t h;rcases h with h|h;·exact h
   ·cases h|cons s ts ih=>
   intro j t h;rw[List.foldl_cons];apply ih;rw[ig];rcases h with h|h;·
    left;split;·exact h
    ·exact List.mem_append_left _ h
   ·rcases List.mem_cons.1 h with rfl|h;·
     left;split;·rename_i l;exact jM.1 l
     ·simp
    ·exact .inr h
theorem GI{ts:List ByteArray}:∀{j:List ByteArray}{t:ByteArray},t∈ts.foldl df j->t∈j\/t∈ts:=by
 induction ts with
  |nil=>intro j t h;exact .inl h|cons s ts ih=>
   intro j t h;rw[List.foldl_cons]at h;rcases ih h with h|h;·
    rcases AF h with h|h;·exact .inl h
    ·exact .inr (by rw[h];exact List.mem_cons_self)
   ·exact .inr (List.mem_cons_of_mem _ h)
theorem uw{part:Bool}{ns:List Nd}(h:∀n∈ns,fZ (bC part) n=true){n:Nd}(j:n∈ns){t:ByteArray}(l:t∈bU n):t∈aU ns:=by refine((gz h).2.mem_iff).1 ?_;rw[kx];exact FF (.inr (List.mem_flatMap.2 ⟨n,j,l⟩))
theorem uy:∀{l R:List ByteArray},jH l->(∀x∈l,x∈R)->l.length<=R.length
 |[],_,_,_=>Nat.zero_le _|a::l,R,U,C=>by
  have T:=C a List.mem_cons_self;have I:=List.pairwise_cons.1 U;obtain⟨s,u,rfl⟩:=List.append_of_mem T;have P:l.length<=(s++u).length:=uy I.2 (fun x J=>by
   have j:x≠a:=fun e=>by have:=I.1 x J;rw[e]at this;exact r8 _ this
   rcases List.mem_append.1 (C x (List.mem_cons_of_mem _ J))with h|h;·exact List.mem_append_left _ h
   ·rcases List.mem_cons.1 h with h|h;·exact absurd h j
    ·exact List.mem_append_right _ h);simp only[List.length_append,List.length_cons]at P|-;omega
theorem IP{A:Tk->Prop}{R:List ByteArray}:∀(n:Nat)(sk:Sk)(p:Pn n),gP A n sk p->bX n p->(∀j∈aB n p,j.op=3->j.name∈R/\j.peer∈R)->gP (fun t=>A t/\t.a∈R/\t.b∈R) n sk p:=by
 intro n;induction n with
  |zero=>intro sk p h _ _;exact h|succ n ih=>
   intro sk p;refine Pn.cases (P:=fun p=>gP A (n+1) sk p->bX (n+1) p->(∀j∈aB (n+1) p,j.op=3->j.name∈R/\j.peer∈R)->gP (fun t=>A t/\t.a∈R/\t.b∈R) (n+1) sk p) (fun x h _ _=>h) (fun x q h I C=>?_) (fun t l h I C=>?_) p;·exact⟨h.1,h.2.1,ih _ q h.2.2 I (fun j T=>C j (by rw[cO];exact List.mem_cons_of_mem _ T))⟩
   ·obtain⟨U,h2,h3,h4,h5⟩:=h;rw[bI]at C;refine⟨⟨U,C _ List.mem_cons_self I.1⟩,h2,h3,h4,fun b J=>ih _ b.p (h5 b J) (I.2.2.2.2 b J) (fun j T=>C j (List.mem_cons_of_mem _ ?_))⟩;unfold aY;exact List.mem_flatMap.2 ⟨b,J,List.mem_cons_of_mem _ T⟩
theorem Dy{R:List ByteArray}:∀(n:Nat)(sk:Sk)(q:Pn n),gP (fun t=>pO t/\t.b∈R) n sk q->∀C∈aB n q,∀t∈bU C,t∈R:=by
 have leaf:∀(x:Option ByteArray),∀C∈bP x,∀t∈bU C,t∈R:=by intro x C j t J;cases x with|none=>simp[bP]at j;subst j;simp[bU]at J|some x=>simp[bP]at j;subst j;simp[bU]at J
 intro n;induction n with
  |zero=>intro sk q _;exact leaf q|succ n ih=>
   intro sk q;refine Pn.cases (P:=fun q=>gP (fun t=>pO t/\t.b∈R) (n+1) sk q->∀C∈aB (n+1) q,∀t∈bU C,t∈R) (fun x _=>leaf x) (fun x q h C j t J=>?_) (fun t l h C j u hu=>?_) q;·
    rw[cO]at j;rcases List.mem_cons.1 j with rfl|j;·simp[bU]at J
    ·exact ih _ q h.2.2 C j t J
   ·obtain⟨⟨⟨I,-,-⟩,T⟩,-,-,-,U⟩:=h;rw[bI]at j;rcases List.mem_cons.1 j with rfl|j;·
     rcases I with I|I;·simp[bU,I]at hu;rw[hu];exact T
     ·simp[bU,I]at hu;rw[hu];exact T
    ·unfold aY at j;obtain⟨b,hb,j⟩:=List.mem_flatMap.1 j;rcases List.mem_cons.1 j with rfl|j;·simp[bU]at hu
     ·exact ih _ b.p (U b hb) C j u hu
theorem F2{A j:Tk->Prop}(U:∀t,A t->j t):∀(n:Nat)(sk:Sk)(p:Pn n),gP A n sk p->gP j n sk p:=by intro n;induction n with|zero=>intro sk p h;exact h|succ n ih=>intro sk p;refine Pn.cases (P:=fun p=>gP A (n+1) sk p->gP j (n+1) sk p) (fun x h=>h) (fun x q h=>⟨h.1,h.2.1,ih _ q h.2.2⟩) (fun t l h=>?_) p;obtain⟨C,I,J,R,T⟩:=h;exact⟨U t C,I,J,R,fun b hb=>ih _ b.p (T b hb)⟩
theorem GB{ns:List Nd}{p z:Pn 10}{role:ByteArray}(hr:cE false ns=true)(hp:ns=aB 10 p)(C:bX 10 p)(h:bd role 10 p=some z):cE true (aB 10 z)=true/\∀nd∈aB 10 z,∀t∈bU nd,t∈aU ns:=by
 have ad:=hr;simp only[cE,Bool.and_eq_true,decide_eq_true_eq]at ad;obtain⟨aq,l,ao⟩:=ad;have U:=iJ hr;cases ha:ahead (bC false) 10 [] ns with
  |none=>rw[ha]at l;cases l|some r=>
   rw[ha]at l;have an:r=[]:=by simpa[ZW]using l
   subst an;have af:ahead (bC false) 10 [] (aB 10 p++[])=some []:=by rw[List.append_nil,<-hp];exact ha
   have hg:=(yD 10 p [] [] [] C af).1;have ah:=IP (R:=aU ns) 10 [] p hg C (fun nd T h3=>by rw[<-hp]at T;exact⟨uw U T (by simp[bU,h3]),uw U T (by simp[bU,h3])⟩);have hz:=I8 (A:=fun t=>vy t/\t.a∈aU ns/\t.b∈aU ns) (B:=fun t=>pO t/\t.b∈aU ns) role (fun t j=>⟨fun _=>⟨⟨.inl rfl,rfl,j.1.2.2.1⟩,j.2.2⟩,fun _=>⟨⟨.inr rfl,rfl,j.1.2.1⟩,j.2.1⟩⟩) (fun a b hb=>⟨⟨.inr rfl,rfl,hb.1.2.2⟩,hb.2⟩) (fun t j=>by rcases j.1.1 with e|e<;>omega) 10 p z ah C h;have ac:=Dy 10 [] z hz;have I:=ym 10 z [] [] (F2 (fun t j=>j.1) 10 [] z hz);rw[List.append_nil]at I;have P:(aB 10 z).length<=40:=by have:=(hG role 10 p z C h).1;rw[<-hp]at this;omega
   have ab:∀n∈aB 10 z,fZ (bC true) n=true:=j8 (f:=10) (by rw[I];rfl);have al:(aU (aB 10 z)).length<=4:=by
    refine Nat.le_trans (uy (R:=aU ns) (gz ab).1 (fun x J=>?_)) ao;rw[uv ab]at J;rcases GI J with J|J;·cases J
    ·obtain⟨nd,T,j⟩:=List.mem_flatMap.1 J;exact ac nd T x j
   refine⟨?_,ac⟩;simp only[cE,Bool.and_eq_true,decide_eq_true_eq];exact⟨P,by rw[I];rfl,al⟩
