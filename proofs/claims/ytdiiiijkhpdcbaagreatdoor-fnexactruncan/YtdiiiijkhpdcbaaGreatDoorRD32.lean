import Derived.Test.YtdiiiijkhpdcbaaGreatDoorRD27
import Derived.Test.YtdiiiijkhpdcbaaGreatDoorRD24
namespace Go.Proofs.YtdiiiijkhpdcbaaGreatDoor
open Go.RowKit
set_option linter.unusedSimpArgs false
set_option linter.unusedVariables false
def ra:List Nd→Option ByteArray|[]=>none|n::l=>if n.op==2 then ra l else if n.op==1 then some n.name else none
def Bn:List Nd→List ByteArray|[]=>[]|n::l=>if n.op==2 then n.name::Bn l else[]
def tK:List Nd→List ByteArray|[]=>[]|n::l=>if n.op==2 then n.name::tK l else tK l
theorem mi:∀(l r:List Nd)(ns:List ByteArray),bY ns (l++r)=(bY ns l&&bY (ns++tK l) r)
 |[],r,ns=>by simp[bY,tK]|n::l,r,ns=>by
  rw[List.cons_append,bY,bY,tK];cases h:(n.op==2);·
   simp only[Bool.false_eq_true,if_false];cases h1:(n.op==1&&!b8 ns n.name);·simp only[Bool.false_eq_true,if_false];exact mi l r ns
   ·simp
  ·simp only[if_true];rw[mi l r (ns++[n.name]),List.append_assoc];rfl
theorem Dx(role:ByteArray)(l r:List Nd):dk role (l++r)=(dk role l||dk role r):=by simp[dk]
theorem oM(role:ByteArray)(n:Nd)(l:List Nd):dk role (n::l)=((n.op==3&&(n.name.toList==role.toList||n.peer.toList==role.toList))||dk role l):=by rw[dk,List.any_cons];rfl
theorem rZ:∀{l r:List Nd},fu l r=true→l=r|[],[],_=>rfl|[],_::_,h=>by cases h|_::_,[],h=>by cases h|a::l,b::r,h=>by rw[fu,Bool.and_eq_true]at h;obtain⟨R,T⟩:=h;rw[rZ T];simp only[nF,Bool.and_eq_true,beq_iff_eq]at R;obtain⟨⟨⟨⟨j,C⟩,I⟩,J⟩,P⟩:=R;obtain⟨o,n,p,m,s⟩:=a;obtain⟨o',n',p',U,s'⟩:=b;dsimp only at j C I J P;rw[j,jN C,jN I,J,P]
theorem CW:∀(n:Nat)(u v z:Pn n)(x:ByteArray),aS n u v=some z→ra (aw n z)=some x→z=u∧ra (aw n v)=some x:=by
 intro n;cases n with
  |zero=>
   intro u v z x h j;rw[aS]at h;split at h;·rename_i l;injection h with h;subst h;exact⟨rfl,by rw[←rZ l];exact j⟩
   ·cases h|succ n=>
   intro u v z x h j;rw[aS]at h;split at h;·rename_i l;injection h with h;subst h;exact⟨rfl,by rw[←rZ l];exact j⟩
   ·split at h;·
     split at h;·
      split at h;·
       split at h;·injection h with h;subst h;rw[bH]at j;simp[ra]at j
       ·cases h
      ·cases h
     ·cases h
    ·cases h
theorem BT{n:Nat}{x:ByteArray}:∀(r:List (Br (Pn n)))(u z:Pn n),bD (aS n) u r=some z→ra (aw n z)=some x→z=u∧∀b∈r,ra (aw n b.p)=some x
 |[],u,z,h,j=>by rw[bD]at h;injection h with h;exact⟨h.symm,fun b P=>(by cases P)⟩|b::r,u,z,h,j=>by
  rw[bD]at h;split at h;·cases h
  ·rename_i q R;obtain⟨l,C⟩:=BT r q z h j;subst l;obtain⟨I,J⟩:=CW n u b.p z x R j;refine⟨I,fun d hd=>?_⟩;rcases List.mem_cons.1 hd with rfl|hd;·exact J
   ·exact C d hd
theorem kE{α:Type}{g:α→Option α}:∀(l r:List (Br α)),bj g l=some r→r.map (·.l)=l.map (·.l)∧(∀c∈r,∃b∈l,g b.p=some c.p∧c.l=b.l∧c.s=b.s)∧∀b∈l,∃c∈r,g b.p=some c.p
 |[],r,h=>by rw[bj]at h;injection h with h;subst h;exact⟨rfl,fun c j=>(by cases j),fun c j=>(by cases j)⟩|b::l,r,h=>by
  rw[bj]at h;split at h;·cases h
  ·rename_i q I;split at h;·cases h
   ·rename_i r' C;injection h with h;subst h;obtain⟨J,P,R⟩:=kE l r' C;refine⟨by rw[List.map_cons,List.map_cons,J],fun c j=>?_,fun d hd=>?_⟩;·
     rcases List.mem_cons.1 j with rfl|j;·exact⟨b,List.mem_cons_self,I,rfl,rfl⟩
     ·obtain⟨d,hd,e⟩:=P c j;exact⟨d,List.mem_cons_of_mem _ hd,e⟩
    ·rcases List.mem_cons.1 hd with rfl|hd;·exact⟨_,List.mem_cons_self,I⟩
     ·obtain⟨c,j,e⟩:=R d hd;exact⟨c,List.mem_cons_of_mem _ j,e⟩
theorem mj{n:Nat}{role x:ByteArray}:∀(l:List (Br (Pn n)))(ns:List ByteArray),(∀b∈l,dk role (aw n b.p)=false∧∀ns,x∈ns→bY ns (aw n b.p)=true)→x∈ns→dk role (aT (aw n) l)=false∧bY ns (aT (aw n) l)=true
 |[],ns,_,_=>⟨rfl,rfl⟩|b::l,ns,h,j=>by
  rw[cA];obtain⟨C,I⟩:=h b List.mem_cons_self;obtain⟨J,P⟩:=mj l (ns++tK (aw n b.p)) (fun d hd=>h d (List.mem_cons_of_mem _ hd)) (List.mem_append_left _ j);refine⟨?_,?_⟩;·rw[oM,Dx,C,J];rfl
  ·rw[bY];simp only[show((4:Int)==2)=false from rfl,show((4:Int)==1)=false from rfl,Bool.false_and,Bool.false_eq_true,if_false];rw[mi,I ns j,P];rfl
theorem zJ(role:ByteArray):∀(n:Nat)(p q:Pn n)(x:ByteArray),bX n p→bc role n p=some q→ra (aw n q)=some x→dk role (aw n p)=false∧(∀ns,x∈ns→bY ns (aw n p)=true)∧x∉Bn (aw n q):=by
 have leaf:∀(y:Option ByteArray)(x:ByteArray),ra (bP y)=some x→dk role (bP y)=false∧(∀ns,x∈ns→bY ns (bP y)=true)∧x∉Bn (bP y):=by intro y x h;cases y with|none=>cases h|some y=>injection h with h;dsimp only at h;subst h;refine⟨rfl,fun ns J=>?_,by simp[bP,Bn]⟩;simp[bP,bY,jB.2 J]
 intro n;induction n with
  |zero=>intro p q x _ h C;injection h with h;subst h;exact leaf p x C|succ n ih=>
   intro p;refine Pn.cases (P:=fun p=>∀(q:Pn (n+1))(x:ByteArray),bX (n+1) p→bc role (n+1) p=some q→ra (aw (n+1) q)=some x→dk role (aw (n+1) p)=false∧(∀ns,x∈ns→bY ns (aw (n+1) p)=true)∧x∉Bn (aw (n+1) q)) (fun y=>?_) (fun y T=>?_) (fun t l=>?_) p;·intro q x _ h C;have j:some (Pn.leaf y)=some q:=h;injection j with j;subst j;exact leaf y x C
   ·intro q x hp h C;have j:(if jY role (aw (n+1) (.loop y T))then some (.leaf none)else(bc role n T).map (Pn.loop y))=some q:=h;split at j;·injection j with j;subst j;cases C
    ·rename_i ac;cases hq:bc role n T with
      |none=>rw[hq]at j;cases j|some q'=>
       rw[hq]at j;injection j with j;subst j;rw[cP]at C⊢;have an:ra (aw n q')=some x:=by simpa[ra]using C
       obtain⟨h1,h2,h3⟩:=ih T q' x hp hq an;have hr:dk role (aw (n+1) (.loop y T))=false:=by rw[cP];rw[oM,h1];rfl
       have hc:∀ns,x∈ns++[y]→bY ns (aw (n+1) (.loop y T))=true:=fun ns J=>by rw[cP,bY];simp only[show((2:Int)==2)=true from rfl,if_true];exact h2 _ J
       refine⟨hr,fun ns J=>hc ns (List.mem_append_left _ J),?_⟩;rw[cP];simp only[Bn,show((2:Int)==2)=true from rfl,if_true,List.mem_cons,not_or];refine⟨fun e=>ac ?_,h3⟩;rw[jY,hr,hc [] (by simp[e])];rfl
   ·intro q x hp h C;obtain⟨af,-,-,-,ab⟩:=hp;have j:(match bj (bc role n) l with|none=>none|some r=>if role.toList==t.a.toList then some (.cV ⟨5,dh,t.b⟩ r)else if role.toList==t.b.toList then some (.cV ⟨6,dh,t.a⟩ r)else match r with|[]=>none|c::r=>(bD (aS n) c.p r).map (mN n))=some q:=h;split at j;·cases j
    ·rename_i r hr;split at j;·injection j with j;subst j;rw[bH]at C;simp[ra]at C
     ·rename_i ha;split at j;·injection j with j;subst j;rw[bH]at C;simp[ra]at C
      ·rename_i I;cases r with
        |nil=>cases j|cons c r=>
         dsimp only at j;cases hz:bD (aS n) c.p r with
          |none=>rw[hz]at j;cases j|some z=>
           rw[hz]at j;injection j with j;subst j;rw[yK]at C⊢;obtain⟨R,U⟩:=BT r c.p z hz C;obtain⟨-,-,ad⟩:=kE l (c::r) hr;have each:∀b∈l,∃d:Pn n,bc role n b.p=some d∧ra (aw n d)=some x:=fun b I=>by
            obtain⟨d,hd,e⟩:=ad b I;rcases List.mem_cons.1 hd with rfl|hd;·exact⟨d.p,e,by rw[←R];exact C⟩
            ·exact⟨d.p,e,U d hd⟩
           have hk:∀b∈l,dk role (aw n b.p)=false∧∀ns,x∈ns→bY ns (aw n b.p)=true:=fun b I=>by obtain⟨d,e,hd⟩:=each b I;obtain⟨k1,k2,-⟩:=ih b.p d x (ab b I) e hd;exact⟨k1,k2⟩
           rw[bH];have ah:(t.a.toList==role.toList)=false:=by cases e:(t.a.toList==role.toList)with|false=>rfl|true=>exact absurd (by rw[beq_iff_eq]at e⊢;exact e.symm) ha
           have al:(t.b.toList==role.toList)=false:=by cases e:(t.b.toList==role.toList)with|false=>rfl|true=>exact absurd (by rw[beq_iff_eq]at e⊢;exact e.symm) I
           refine⟨?_,fun ns J=>?_,?_⟩;·rw[oM];dsimp only;rw[ah,al,(mj l [x] hk (by simp)).1];simp
           ·rw[bY];simp only[af,show((3:Int)==2)=false from rfl,show((3:Int)==1)=false from rfl,Bool.false_and,Bool.false_eq_true,if_false];exact(mj l ns hk J).2
           ·obtain⟨b,I,e,-,-⟩:=(kE l (c::r) hr).2.1 c List.mem_cons_self;rw[R];exact(ih b.p c.p x (ab b I) e (by rw[←R];exact C)).2.2
section
theorem zd{α:Type}{t:ByteArray}:∀{l:List (Br α)},gI t l=none→∀b∈l,b.l≠t
 |[],_,b,j=>by cases j|a::l,h,b,j=>by
  rw[gI]at h;split at h;·cases h
  ·rename_i I;rcases List.mem_cons.1 j with rfl|j;·intro e;exact I (by rw[e];simp)
   ·cases C:gI t l with|none=>exact zd C b j|some i=>rw[C]at h;cases h
theorem AK{α:Type}{l:List (Br α)}{d:Br α}(h:rr l)(hd:db d.l=true∧kO d.s=true)(I:∀b∈l,b.l≠d.l):rr (l++[d]):=by
 refine⟨?_,fun b j=>?_⟩;·rw[List.map_append];exact tE h.1 (fun C=>by obtain⟨b,j,e⟩:=List.mem_map.1 C;exact I b j e)
 ·rcases List.mem_append.1 j with j|j;·exact h.2 b j
  ·simp at j;subst j;exact hd
theorem CL{α:Type}{l:List (Br α)}{i:Nat}{b:Br α}(q:α)(h:rr l)(C:l[i]?=some b):rr (l.set i ⟨b.l,b.s,q⟩):=by
 have P:b∈l:=List.mem_of_getElem? C;refine⟨?_,fun c I=>?_⟩;·
  rw[List.map_set];have:(l.map (·.l)).set i b.l=l.map (·.l):=by
   apply List.ext_getElem?;intro j;by_cases e:i=j;·subst e;have J:=(List.getElem?_eq_some_iff.1 C).1;rw[List.getElem?_set_self (by simpa using J),List.getElem?_map,C];rfl
   ·rw[List.getElem?_set_ne e]
  dsimp only;rw[this];exact h.1
 ·rcases j4 I with I|rfl;·exact h.2 c I
  ·exact h.2 b P
theorem iV{α:Type}{mg:α→α→Option α}:∀(ds j l:List (Br α)),rr j→rr ds→bQ mg j ds=some l→rr l
 |[],j,l,I,_,h=>by rw[bQ]at h;injection h with h;subst h;exact I|d::ds,j,l,I,hd,h=>by
  have P:db d.l=true∧kO d.s=true:=hd.2 d List.mem_cons_self;have C:rr ds:=⟨(List.nodup_cons.1 hd.1).2,fun b J=>hd.2 b (List.mem_cons_of_mem _ J)⟩;rw[bQ]at h;split at h;·rename_i R;exact iV ds _ l (AK I P (zd R)) C h
  ·split at h;·cases h
   ·rename_i b J;split at h;·cases h
    ·split at h;·exact iV ds _ l (CL _ I J) C h
     ·cases h
section
variable {B : Tk → Prop}
theorem EU(P:∀a b,B ⟨6,b,a⟩→B ⟨6,dh,a⟩):∀(n:Nat)(sk:Sk)(u v z:Pn n),gP B n sk u→gP B n sk v→aS n u v=some z→gP B n sk z:=by
 intro n;induction n with
  |zero=>
   intro sk u v z hu _ h;rw[aS]at h;split at h;·injection h with h;subst h;exact hu
   ·cases h|succ n ih=>
   intro sk u v z hu R h;rw[aS]at h;split at h;·injection h with h;subst h;exact hu
   ·split at h;·
     rename_i a j b ds C I;split at h;·
      split at h;·
       rename_i l hl;split at h;·rename_i J;injection h with h;subst h;obtain⟨xb,rfl⟩:=eU C;obtain⟨yb,rfl⟩:=eU I;obtain⟨U,u2,u3,u4,u5⟩:=hu;obtain⟨v1,v2,v3,v4,v5⟩:=R;exact⟨P _ _ U,Nat.le_trans u2 (iA ds j l hl),J,iV ds j l u4 v4 hl,fG (Q:=gP B n (none::sk)) (fun x y z C I T=>ih _ x y z C I T) ds j l u5 v5 hl⟩
       ·cases h
      ·cases h
     ·cases h
    ·cases h
theorem CV(J:∀a b,B ⟨6,b,a⟩→B ⟨6,dh,a⟩)(n:Nat)(sk:Sk)(u v z:Pn n)(hu:gH B n sk u)(R:gH B n sk v)(h:aS n u v=some z):gH B n sk z:=by
 cases n with
  |zero=>
   rw[aS]at h;split at h;·injection h with h;subst h;exact hu
   ·cases h|succ n=>
   rw[aS]at h;split at h;·injection h with h;subst h;exact hu
   ·split at h;·
     rename_i a j b ds C I;split at h;·
      split at h;·
       rename_i l hl;split at h;·rename_i P;injection h with h;subst h;obtain⟨xb,rfl⟩:=eU C;obtain⟨yb,rfl⟩:=eU I;obtain⟨U,u2,u3,u4,u5⟩:=hu;obtain⟨v1,v2,v3,v4,v5⟩:=R;exact⟨J _ _ U,Nat.le_trans u2 (iA ds j l hl),P,iV ds j l u4 v4 hl,fG (Q:=gP B n (none::sk)) (fun x y z C I T=>EU J n _ x y z C I T) ds j l u5 v5 hl⟩
       ·cases h
      ·cases h
     ·cases h
    ·cases h
theorem Je:∀(n:Nat)(sk:Sk)(q:Pn n),gP B n sk q→gP B (n+1) sk (mN n q):=by
 intro n;induction n with
  |zero=>intro sk q h;exact h|succ n ih=>
   intro sk q;refine Pn.cases (P:=fun q=>gP B (n+1) sk q→gP B (n+1+1) sk (mN (n+1) q)) (fun x h=>h) (fun x q h=>?_) (fun t l h=>?_) q;·exact⟨h.1,h.2.1,ih _ q h.2.2⟩
   ·obtain⟨J,R,T,I,U⟩:=h;refine⟨J,by rw[List.length_map];exact R,by rw[List.length_map];exact T,⟨by rw[List.map_map];exact I.1,fun b j=>?_⟩,fun b j=>?_⟩;·obtain⟨c,C,rfl⟩:=List.mem_map.1 j;exact I.2 c C
    ·obtain⟨c,C,rfl⟩:=List.mem_map.1 j;exact ih _ c.p (U c C)
theorem IQ:∀(n:Nat)(sk:Sk)(q:Pn n),gH B n sk q→gH B (n+1) sk (mN n q):=by
 intro n;induction n with
  |zero=>intro sk q h;exact h|succ n ih=>
   intro sk q;refine Pn.cases (P:=fun q=>gH B (n+1) sk q→gH B (n+1+1) sk (mN (n+1) q)) (fun x h=>h) (fun x q h=>?_) (fun t l h=>?_) q;·exact⟨h.1,h.2.1,ih _ q h.2.2⟩
   ·obtain⟨J,R,T,I,U⟩:=h;refine⟨J,by rw[List.length_map];exact R,by rw[List.length_map];exact T,⟨by rw[List.map_map];exact I.1,fun b j=>?_⟩,fun b j=>?_⟩;·obtain⟨c,C,rfl⟩:=List.mem_map.1 j;exact I.2 c C
    ·obtain⟨c,C,rfl⟩:=List.mem_map.1 j;exact Je _ _ c.p (U c C)
theorem pZ:∀(sk:Sk)(x:ByteArray),bB true sk x=wB sk x|[],_=>rfl|some y::sk,x=>by rw[bB,pZ sk x];show _=((y.toList==x.toList)||wB sk x);cases(y.toList==x.toList)<;>rfl|none::sk,x=>by rw[bB,pZ sk x];show _=(false||wB sk x);rfl
theorem Ia:∀(sk:Sk)(x:ByteArray),bB false sk x=true→wB sk x=true
 |some y::sk,x,h=>by
  rw[bB]at h;split at h;·cases h
  ·show((y.toList==x.toList)||wB sk x)=true;rw[Ia sk x h,Bool.or_true]|none::sk,x,h=>by rw[bB,pZ]at h;show(false||wB sk x)=true;rw[h];rfl
theorem Ge:∀(n:Nat)(sk:Sk)(q:Pn n),gH B n sk q→(∀x,ra (aw n q)=some x→x∉Bn (aw n q)∧bB false sk x=true)→gP B n sk q:=by
 have leaf:∀(y:Option ByteArray)(sk:Sk),(∀x,ra (bP y)=some x→x∉Bn (bP y)∧bB false sk x=true)→tx sk y:=by intro y sk h;cases y with|none=>trivial|some y=>exact(h y rfl).2
 intro n;induction n with|zero=>intro sk q _ h;exact leaf q sk h|succ n ih=>intro sk q;refine Pn.cases (P:=fun q=>gH B (n+1) sk q→(∀x,ra (aw (n+1) q)=some x→x∉Bn (aw (n+1) q)∧bB false sk x=true)→gP B (n+1) sk q) (fun y _ h=>leaf y sk h) (fun y q h I=>?_) (fun t l h _=>h) q;refine⟨h.1,h.2.1,ih _ q h.2.2 (fun x C=>?_)⟩;have j:=I x (by rw[cP];simpa[ra]using C);rw[cP]at j;simp only[Bn,show((2:Int)==2)=true from rfl,if_true,List.mem_cons,not_or]at j;refine⟨j.1.2,?_⟩;rw[bB,if_neg (fun e=>j.1.1 (jN (beq_iff_eq.1 e)).symm)];exact j.2
theorem vG(J:∀t,B t→t.op≠1∧t.op≠2):∀(n:Nat)(sk:Sk)(q:Pn n)(x:ByteArray),gH B n sk q→ra (aw n q)=some x→x∉Bn (aw n q)→wB sk x=true:=by
 have leaf:∀(y:Option ByteArray)(sk:Sk)(x:ByteArray),zw sk y→ra (bP y)=some x→wB sk x=true:=by intro y sk x h j;cases y with|none=>cases j|some y=>injection j with j;dsimp only at j;subst j;exact h
 intro n;induction n with
  |zero=>intro sk q x h j _;exact leaf q sk x h j|succ n ih=>
   intro sk q x;refine Pn.cases (P:=fun q=>gH B (n+1) sk q→ra (aw (n+1) q)=some x→x∉Bn (aw (n+1) q)→wB sk x=true) (fun y h j _=>leaf y sk x h j) (fun y q h j I=>?_) (fun t l h j _=>?_) q;·
    rw[cP]at j I;simp only[Bn,show((2:Int)==2)=true from rfl,if_true,List.mem_cons,not_or]at I;have:=ih _ q x h.2.2 (by simpa[ra]using j) I.2;have C:((y.toList==x.toList)||wB sk x)=true:=this;rw[Bool.or_eq_true]at C;rcases C with C|C;·exact absurd (jN (beq_iff_eq.1 C)).symm I.1
    ·exact C
   ·obtain⟨R,C⟩:=J t h.1;rw[bH]at j;simp[ra,R,C]at j
theorem GB(j:∀a b,B ⟨6,b,a⟩→B ⟨6,dh,a⟩)(n:Nat)(sk:Sk):∀(r:List (Br (Pn n)))(u z:Pn n),gH B n sk u→(∀b∈r,gH B n sk b.p)→bD (aS n) u r=some z→gH B n sk z:=fun r u z hu l h=>iU (Q:=gH B n sk) (fun x y z C I J=>CV j n sk x y z C I J) r u z hu l h
theorem vt{a b:ByteArray}(h:a.toList=b.toList):a=b:=by rw[Go.ByteArray.toList_eq,Go.ByteArray.toList_eq]at h;cases a;cases b;simpa using h
theorem Ff{A:Tk→Prop}(role:ByteArray)(hA:∀t,A t→(t.a=role→B ⟨5,dh,t.b⟩)∧(t.b=role→B ⟨6,dh,t.a⟩))(hB:∀a b,B ⟨6,b,a⟩→B ⟨6,dh,a⟩)(ac:∀t,B t→t.op≠1∧t.op≠2):∀(n:Nat)(sk j:Sk)(p q:Pn n),(∀x,wB j x=wB sk x)→gP A n sk p→bX n p→bc role n p=some q→gH B n j q:=by
 have leaf:∀(y:Option ByteArray)(sk j:Sk),(∀x,wB j x=wB sk x)→tx sk y→zw j y:=by intro y sk j I h;cases y with|none=>trivial|some y=>exact(I y).trans (Ia sk y h)
 intro n;induction n with
  |zero=>intro sk j p q I J _ h;injection h with h;subst h;exact leaf p sk j I J|succ n ih=>
   intro sk j p;refine Pn.cases (P:=fun p=>∀q:Pn (n+1),(∀x,wB j x=wB sk x)→gP A (n+1) sk p→bX (n+1) p→bc role (n+1) p=some q→gH B (n+1) j q) (fun y=>?_) (fun y p'=>?_) (fun t l=>?_) p;·intro q I J _ h;have C:some (Pn.leaf y)=some q:=h;injection C with C;subst C;exact leaf y sk j I J
   ·intro q I J hp h;have C:(if jY role (aw (n+1) (.loop y p'))then some (.leaf none)else(bc role n p').map (Pn.loop y))=some q:=h;split at C;·injection C with C;subst C;exact trivial
    ·cases hq:bc role n p' with|none=>rw[hq]at C;cases C|some q'=>rw[hq]at C;injection C with C;subst C;refine⟨J.1,(I y).trans J.2.1,ih (some y::sk) (some y::j) p' q' (fun x=>?_) J.2.2 hp hq⟩;show((y.toList==x.toList)||wB j x)=((y.toList==x.toList)||wB sk x);rw[I]
   ·intro q I J hp h;obtain⟨ah,-,-,-,U⟩:=hp;obtain⟨g1,g2,g3,g4,g5⟩:=J;have C:(match bj (bc role n) l with|none=>none|some r=>if role.toList==t.a.toList then some (.cV ⟨5,dh,t.b⟩ r)else if role.toList==t.b.toList then some (.cV ⟨6,dh,t.a⟩ r)else match r with|[]=>none|c::r=>(bD (aS n) c.p r).map (mN n))=some q:=h;split at C;·cases C
    ·rename_i r hr;obtain⟨e1,e2,-⟩:=kE l r hr;have el:r.length=l.length:=by have:=congrArg List.length e1;simpa using this
     have T:rr r:=⟨by rw[e1];exact g4.1,fun c hc=>by obtain⟨b,R,-,e3,e4⟩:=e2 c hc;rw[e3,e4];exact g4.2 b R⟩;have ab:∀c∈r,gP B n (none::j) c.p:=fun c hc=>by obtain⟨b,R,e,-,-⟩:=e2 c hc;have hH:=ih (none::sk) (none::j) b.p c.p (fun x=>by show(false||wB j x)=(false||wB sk x);rw[I]) (g5 b R) (U b R) e;refine Ge n _ c.p hH (fun x hx=>?_);have hs:=(zJ role n b.p c.p x (U b R) e hx).2.2;refine⟨hs,?_⟩;rw[bB,pZ];have:=vG ac n _ c.p x hH hx hs;exact this
     split at C;·rename_i ad;injection C with C;subst C;exact⟨(hA t g1).1 (vt (eq_of_beq ad)).symm,by omega,by omega,T,ab⟩
     ·split at C;·rename_i af;injection C with C;subst C;exact⟨(hA t g1).2 (vt (eq_of_beq af)).symm,by omega,by omega,T,ab⟩
      ·cases r with
        |nil=>cases C|cons c r=>
         dsimp only at C;cases hz:bD (aS n) c.p r with
          |none=>rw[hz]at C;cases C|some z=>
           rw[hz]at C;injection C with C;subst C;have out:∀d∈c::r,gH B n j d.p:=fun d hd=>by obtain⟨b,R,e,-,-⟩:=e2 d hd;exact ih (none::sk) j b.p d.p (fun x=>(I x).trans (by show _=(false||wB sk x);rfl)) (g5 b R) (U b R) e
           exact IQ n j z (GB hB n j r c.p z (out c List.mem_cons_self) (fun d hd=>out d (List.mem_cons_of_mem _ hd)) hz)
theorem G5{A:Tk→Prop}(role:ByteArray)(J:∀t,A t→(t.a=role→B ⟨5,dh,t.b⟩)∧(t.b=role→B ⟨6,dh,t.a⟩))(P:∀a b,B ⟨6,b,a⟩→B ⟨6,dh,a⟩)(j:∀t,B t→t.op≠1∧t.op≠2)(n:Nat)(p q:Pn n)(R:gP A n [] p)(C:bX n p)(h:bc role n p=some q):gP B n [] q:=by have l:=Ff role J P j n [] [] p q (fun _=>rfl) R C h;refine Ge n [] q l (fun x I=>?_);have T:=(zJ role n p q x C h I).2.2;have:=vG j n [] q x l I T;cases this
end
end
theorem Eo{ts:List ByteArray}:∀{j:List ByteArray}{t:ByteArray},t∈j∨t∈ts→t∈ts.foldl fB j:=by
 induction ts with
  |nil=>
   intro j t h;rcases h with h|h;·exact h
   ·cases h|cons s ts ih=>
   intro j t h;rw[List.foldl_cons];apply ih;rw[fB];rcases h with h|h;·
    left;split;·exact h
    ·exact List.mem_append_left _ h
   ·rcases List.mem_cons.1 h with rfl|h;·
     left;split;·rename_i l;exact jB.1 l
     ·simp
    ·exact .inr h
theorem Fl{ts:List ByteArray}:∀{j:List ByteArray}{t:ByteArray},t∈ts.foldl di j→t∈j∨t∈ts:=by
 induction ts with
  |nil=>intro j t h;exact .inl h|cons s ts ih=>
   intro j t h;rw[List.foldl_cons]at h;rcases ih h with h|h;·
    rcases zL h with h|h;·exact .inl h
    ·exact .inr (by rw[h];exact List.mem_cons_self)
   ·exact .inr (List.mem_cons_of_mem _ h)
theorem tU{part:Bool}{ns:List Nd}(h:∀n∈ns,fW (bA part) n=true){n:Nd}(j:n∈ns){t:ByteArray}(l:t∈bS n):t∈aY ns:=by refine((gm h).2.mem_iff).1 ?_;rw[kf];exact Eo (.inr (List.mem_flatMap.2 ⟨n,j,l⟩))
theorem tW:∀{l R:List ByteArray},jw l→(∀x∈l,x∈R)→l.length≤R.length
 |[],_,_,_=>Nat.zero_le _|a::l,R,U,C=>by
  have T:=C a List.mem_cons_self;have I:=List.pairwise_cons.1 U;obtain⟨s,u,rfl⟩:=List.append_of_mem T;have P:l.length≤(s++u).length:=tW I.2 (fun x J=>by
   have j:x≠a:=fun e=>by have:=I.1 x J;rw[e]at this;exact rB _ this
   rcases List.mem_append.1 (C x (List.mem_cons_of_mem _ J))with h|h;·exact List.mem_append_left _ h
   ·rcases List.mem_cons.1 h with h|h;·exact absurd h j
    ·exact List.mem_append_right _ h);simp only[List.length_append,List.length_cons]at P⊢;omega
theorem GO{A:Tk→Prop}{R:List ByteArray}:∀(n:Nat)(sk:Sk)(p:Pn n),gP A n sk p→bX n p→(∀j∈aw n p,j.op=3→j.name∈R∧j.peer∈R)→gP (fun t=>A t∧t.a∈R∧t.b∈R) n sk p:=by
 intro n;induction n with
  |zero=>intro sk p h _ _;exact h|succ n ih=>
   intro sk p;refine Pn.cases (P:=fun p=>gP A (n+1) sk p→bX (n+1) p→(∀j∈aw (n+1) p,j.op=3→j.name∈R∧j.peer∈R)→gP (fun t=>A t∧t.a∈R∧t.b∈R) (n+1) sk p) (fun x h _ _=>h) (fun x q h I C=>?_) (fun t l h I C=>?_) p;·exact⟨h.1,h.2.1,ih _ q h.2.2 I (fun j T=>C j (by rw[cP];exact List.mem_cons_of_mem _ T))⟩
   ·obtain⟨U,h2,h3,h4,h5⟩:=h;rw[bH]at C;refine⟨⟨U,C _ List.mem_cons_self I.1⟩,h2,h3,h4,fun b J=>ih _ b.p (h5 b J) (I.2.2.2.2 b J) (fun j T=>C j (List.mem_cons_of_mem _ ?_))⟩;unfold aT;exact List.mem_flatMap.2 ⟨b,J,List.mem_cons_of_mem _ T⟩
theorem Cr{R:List ByteArray}:∀(n:Nat)(sk:Sk)(q:Pn n),gP (fun t=>oV t∧t.b∈R) n sk q→∀C∈aw n q,∀t∈bS C,t∈R:=by
 have leaf:∀(x:Option ByteArray),∀C∈bP x,∀t∈bS C,t∈R:=by intro x C j t J;cases x with|none=>simp[bP]at j;subst j;simp[bS]at J|some x=>simp[bP]at j;subst j;simp[bS]at J
 intro n;induction n with
  |zero=>intro sk q _;exact leaf q|succ n ih=>
   intro sk q;refine Pn.cases (P:=fun q=>gP (fun t=>oV t∧t.b∈R) (n+1) sk q→∀C∈aw (n+1) q,∀t∈bS C,t∈R) (fun x _=>leaf x) (fun x q h C j t J=>?_) (fun t l h C j u hu=>?_) q;·
    rw[cP]at j;rcases List.mem_cons.1 j with rfl|j;·simp[bS]at J
    ·exact ih _ q h.2.2 C j t J
   ·obtain⟨⟨⟨I,-,-⟩,T⟩,-,-,-,U⟩:=h;rw[bH]at j;rcases List.mem_cons.1 j with rfl|j;·
     rcases I with I|I;·simp[bS,I]at hu;rw[hu];exact T
     ·simp[bS,I]at hu;rw[hu];exact T
    ·unfold aT at j;obtain⟨b,hb,j⟩:=List.mem_flatMap.1 j;rcases List.mem_cons.1 j with rfl|j;·simp[bS]at hu
     ·exact ih _ b.p (U b hb) C j u hu
theorem EK{A j:Tk→Prop}(U:∀t,A t→j t):∀(n:Nat)(sk:Sk)(p:Pn n),gP A n sk p→gP j n sk p:=by intro n;induction n with|zero=>intro sk p h;exact h|succ n ih=>intro sk p;refine Pn.cases (P:=fun p=>gP A (n+1) sk p→gP j (n+1) sk p) (fun x h=>h) (fun x q h=>⟨h.1,h.2.1,ih _ q h.2.2⟩) (fun t l h=>?_) p;obtain⟨C,I,J,R,T⟩:=h;exact⟨U t C,I,J,R,fun b hb=>ih _ b.p (T b hb)⟩
theorem Fg{ns:List Nd}{p z:Pn 10}{role:ByteArray}(hr:cE false ns=true)(hp:ns=aw 10 p)(C:bX 10 p)(h:bc role 10 p=some z):cE true (aw 10 z)=true∧∀nd∈aw 10 z,∀t∈bS nd,t∈aY ns:=by
 have ad:=hr;simp only[cE,Bool.and_eq_true,decide_eq_true_eq]at ad;obtain⟨aq,l,ao⟩:=ad;have U:=iE hr;cases ha:ahead (bA false) 10 [] ns with
  |none=>rw[ha]at l;cases l|some r=>
   rw[ha]at l;have an:r=[]:=by simpa using l
   subst an;have af:ahead (bA false) 10 [] (aw 10 p++[])=some []:=by rw[List.append_nil,←hp];exact ha
   have hg:=(xF 10 p [] [] [] C af).1;have ah:=GO (R:=aY ns) 10 [] p hg C (fun nd T h3=>by rw[←hp]at T;exact⟨tU U T (by simp[bS,h3]),tU U T (by simp[bS,h3])⟩);have hz:=G5 (A:=fun t=>uW t∧t.a∈aY ns∧t.b∈aY ns) (B:=fun t=>oV t∧t.b∈aY ns) role (fun t j=>⟨fun _=>⟨⟨.inl rfl,rfl,j.1.2.2.1⟩,j.2.2⟩,fun _=>⟨⟨.inr rfl,rfl,j.1.2.1⟩,j.2.1⟩⟩) (fun a b hb=>⟨⟨.inr rfl,rfl,hb.1.2.2⟩,hb.2⟩) (fun t j=>by rcases j.1.1 with e|e<;>omega) 10 p z ah C h;have ac:=Cr 10 [] z hz;have I:=xv 10 z [] [] (EK (fun t j=>j.1) 10 [] z hz);rw[List.append_nil]at I;have P:(aw 10 z).length≤40:=by have:=(gQ role 10 p z C h).1;rw[←hp]at this;omega
   have ab:∀n∈aw 10 z,fW (bA true) n=true:=jS (f:=10) (by rw[I];rfl);have al:(aY (aw 10 z)).length≤4:=by
    refine Nat.le_trans (tW (R:=aY ns) (gm ab).1 (fun x J=>?_)) ao;rw[tS ab]at J;rcases Fl J with J|J;·cases J
    ·obtain⟨nd,T,j⟩:=List.mem_flatMap.1 J;exact ac nd T x j
   refine⟨?_,ac⟩;simp only[cE,Bool.and_eq_true,decide_eq_true_eq];exact⟨P,by rw[I];rfl,al⟩
end Go.Proofs.YtdiiiijkhpdcbaaGreatDoor
