import Derived.Test.YtdiiiijkhpdcbaaGreatDoorRX06
namespace Go.Proofs.YtdiiiijkhpdcbaaGreatDoor
open Go.RowKit
set_option linter.unusedSimpArgs false
set_option linter.unusedVariables false
set_option maxHeartbeats 1000000
set_option maxRecDepth 100000
theorem EG(f:Nat)(az:∀g,f=g+1->j7 g)(st:List Nd)(name j:ByteArray)(many l:Int)(P:List Nd)(p:Value)(w:World)(B b o cap:Nat)(ab:st.length+f=10)(ok:∀x∈⟨2,name,j,many,l⟩::P,x.ok)(hB:B<=w.heap.size)(ad:b<B)(af:(⟨2,name,j,many,l⟩::P).length<=cap)(ah:cap<=9223372036854775807/\P.length<4294967296)(T:cV w b o (⟨2,name,j,many,l⟩::P))(hp:cB w p st):Calls Tryz.prog 240 #[.slice (some ⟨b,o,none⟩) (⟨2,name,j,many,l⟩::P:List Nd).length cap,p] w fun e w'=>Told w' B e (ahead fQ f st (⟨2,name,j,many,l⟩::P))/\ZW w w':=by
 have HP:=aa hp;have HO:=aa ok;have HN:=aa (ok ⟨2,name,j,many,l⟩ (by simp));have HL:=aa ab;have HB:=aa hB;have a2:=aa ad;have HR:=aa T;have a3:=aa af;have a4:=aa ah;obtain⟨u,rfl⟩:=hp.shape;have ax:=af;simp only[List.length_cons]at af;have U:=T;obtain⟨⟨c0,c1,c2,c3,c4⟩,-⟩:=T;dsimp only at c0 c1 c2 c3 c4;have a5:b<w.heap.size:=World.block_lt_of_cell? w _ c0;have hz:((P.length:Int)+1==0)=false:=beq_eq_false_iff_ne.2 (by omega);by_cases ay:cap=1;case' pos=>have a0:Hid (P.length=0):=aa (by omega);have ao:Hid (bF w B (.slice (some ⟨b,o,none⟩) 0 0) P):=aa (by rw[List.length_eq_zero_iff.1 a0.out];exact⟨_,_,rfl,Nat.le_refl _,by simp,fun h=>absurd rfl h⟩);subst ay
 case' neg=>have ao:Hid (bF w B (.slice (some ⟨b,o+5,none⟩) P.length (cap-1)) P):=aa (bF.tail ad U ax ah _ (fun _=>rfl))
 all_goals
  clear U ax;clear ok ab hB ad hp ah;have an:=aa (show tU st=(f==0)by rw[tU];have:=HL.out;cases f<;>simp<;>omega);obtain⟨rb,aL⟩:∃rb,iR ⟨2,name,j,many,l⟩=rb:=⟨_,rfl⟩;obtain⟨wi,aN⟩:∃wi,bW st name=wi:=⟨_,rfl⟩;have J:=aa aL;have R:=aa aN;clear aL aN;cases rb;·
   go_in;go_wp2;go_region;go_wp2_with(go_at_call 265;refine(l9 ⟨2,name,j,many,l⟩ _ HN.out).mono ?_;rintro e w1⟨rfl,C⟩;rw[J.out];obtain⟨d0,d1,d2,d3,d4⟩:=cZ.carry (B:=_) (boxed w ⟨2,name,j,many,l⟩ 156) (by simp) C;dsimp only at d0 d1 d2 d3 d4;have al:w.heap.size<w1.heap.size:=(by have:=C.size;simp at this;omega);have I:Hid (ZW w w1):=aa ((aO _ _).drew.trans (C.mono (by simp)));clear C);go_ret2;refine iA I.out ?_;cases f;·exact fG rfl
   ·rw[dC rfl,J.out];rfl
  ·cases wi;·cases f with|zero=>go_in;go_wp2;go_region;go_wp2_with(first|(go_at_call 265;refine(l9 ⟨2,name,j,many,l⟩ _ HN.out).mono ?_;rintro e w1⟨rfl,C⟩;rw[J.out];obtain⟨d0,d1,d2,d3,d4⟩:=cZ.carry (B:=_) (boxed w ⟨2,name,j,many,l⟩ 156) (by simp) C;dsimp only at d0 d1 d2 d3 d4;have al:w.heap.size<w1.heap.size:=(by have:=C.size;simp at this;omega);have I:Hid (ZW w w1):=aa ((aO _ _).drew.trans (C.mono (by simp)));clear C)|(go_at_call 266;refine(sB st _ name _ (cB.carry I.out HP.out)).mono ?_;rintro e w'⟨rfl,rfl⟩;rw[R.out])|(go_at_call 267;refine(vf st _ _ (cB.carry I.out HP.out)).mono ?_;rintro e w'⟨rfl,rfl⟩;rw[an.out,show((0:Nat)==0)=true from rfl]));go_ret2;refine iA I.out ?_;exact fG rfl|succ f=>have HI:=aa (az f rfl);clear az;go_in;go_wp2;go_region;go_wp2_with(first|(go_at_call 265;refine(l9 ⟨2,name,j,many,l⟩ _ HN.out).mono ?_;rintro e w1⟨rfl,C⟩;rw[J.out];obtain⟨d0,d1,d2,d3,d4⟩:=cZ.carry (B:=_) (boxed w ⟨2,name,j,many,l⟩ 156) (by simp) C;dsimp only at d0 d1 d2 d3 d4;have al:w.heap.size<w1.heap.size:=(by have:=C.size;simp at this;omega);have I:Hid (ZW w w1):=aa ((aO _ _).drew.trans (C.mono (by simp)));clear C)|(go_at_call 266;refine(sB st _ name _ (cB.carry I.out HP.out)).mono ?_;rintro e w'⟨rfl,rfl⟩;rw[R.out])|(go_at_call 267;refine(vf st _ _ (cB.carry I.out HP.out)).mono ?_;rintro e w'⟨rfl,rfl⟩;rw[an.out,show(f+1==0)=false from rfl]));go_wp2_with(first|(go_at_call 268;refine(Ay st _ ⟨2,name,j,many,l⟩ _ (cB.carry I.out HP.out) (by have:=HL.out;omega)).mono ?_;rintro e w2⟨q,rfl,hq,aq⟩;obtain⟨uq,rfl⟩:=hq.shape;have HQ:=aa hq;have ac:=aa (I.out.trans (aq.mono I.out.size));clear hq aq)|(go_at_call 240;refine(HI.out (⟨2,name,j,many,l⟩::st) P _ _ _ B (by have:=HL.out;simp;omega) (fun x hx=>HO.out x (List.mem_cons_of_mem _ hx)) (Nat.le_trans HB.out ac.out.size) (ao.out.carry (ac.out.mono HB.out)) HQ.out).mono ?_;rintro e w3⟨⟨v3,rfl,aM⟩,av⟩;have a1:=aa aM;have aR:=aa av;clear aM av));go_ret2;exact AY ⟨v3,rfl,a1.out⟩ ac.out aR.out (by rw[dC rfl,J.out];simp[R.out])
   ·go_in;go_wp2;go_region;go_wp2_with(first|(go_at_call 265;refine(l9 ⟨2,name,j,many,l⟩ _ HN.out).mono ?_;rintro e w1⟨rfl,C⟩;rw[J.out];obtain⟨d0,d1,d2,d3,d4⟩:=cZ.carry (B:=_) (boxed w ⟨2,name,j,many,l⟩ 156) (by simp) C;dsimp only at d0 d1 d2 d3 d4;have al:w.heap.size<w1.heap.size:=(by have:=C.size;simp at this;omega);have I:Hid (ZW w w1):=aa ((aO _ _).drew.trans (C.mono (by simp)));clear C)|(go_at_call 266;refine(sB st _ name _ (cB.carry I.out HP.out)).mono ?_;rintro e w'⟨rfl,rfl⟩;rw[R.out]));go_ret2;refine iA I.out ?_;cases f;·exact fG rfl
    ·rw[dC rfl];simp[R.out]
theorem Ec(J:Int)(ab:J=3\/J=5\/J=6)(f:Nat)(aM:∀g,f=g+1->j7 g)(st:List Nd)(name j:ByteArray)(many l:Int)(R:List Nd)(p:Value)(w:World)(B b o cap:Nat)(ac:st.length+f=10)(ok:∀x∈⟨J,name,j,many,l⟩::R,x.ok)(hB:B<=w.heap.size)(al:b<B)(an:(⟨J,name,j,many,l⟩::R).length<=cap)(ao:cap<=9223372036854775807/\R.length<4294967296)(T:cV w b o (⟨J,name,j,many,l⟩::R))(hp:cB w p st):Calls Tryz.prog 240 #[.slice (some ⟨b,o,none⟩) (⟨J,name,j,many,l⟩::R:List Nd).length cap,p] w fun e w'=>Told w' B e (ahead fQ f st (⟨J,name,j,many,l⟩::R))/\ZW w w':=by
 have HP:=aa hp;have HO:=aa ok;have HN:=aa (ok ⟨J,name,j,many,l⟩ (by simp));have HL:=aa ac;have HB:=aa hB;have a7:=aa al;have HR:=aa T;have a8:=aa an;have a9:=aa ao;obtain⟨u,rfl⟩:=hp.shape;have az:=an;simp only[List.length_cons]at an;have U:=T;obtain⟨⟨c0,c1,c2,c3,c4⟩,-⟩:=T;dsimp only at c0 c1 c2 c3 c4;have bb:b<w.heap.size:=World.block_lt_of_cell? w _ c0;have hz:((R.length:Int)+1==0)=false:=beq_eq_false_iff_ne.2 (by omega);by_cases aL:cap=1;case' pos=>have a3:Hid (R.length=0):=aa (by omega);have av:Hid (bF w B (.slice (some ⟨b,o,none⟩) 0 0) R):=aa (by rw[List.length_eq_zero_iff.1 a3.out];exact⟨_,_,rfl,Nat.le_refl _,by simp,fun h=>absurd rfl h⟩);subst aL
 case' neg=>have av:Hid (bF w B (.slice (some ⟨b,o+5,none⟩) R.length (cap-1)) R):=aa (bF.tail al U az ao _ (fun _=>rfl))
 all_goals
  clear U az;clear ok ac hB al hp ao;have aq:=aa (show tU st=(f==0)by rw[tU];have:=HL.out;cases f<;>simp<;>omega);obtain⟨rb,aN⟩:∃rb,fQ ⟨J,name,j,many,l⟩=rb:=⟨_,rfl⟩;have P:=aa aN;have ah:=aa (fun W=>zw ⟨J,name,j,many,l⟩ W HN.out ab);have af:=aa (boxed w ⟨J,name,j,many,l⟩ 156);have a5:=aa (fun v W=>Ay st v ⟨J,name,j,many,l⟩ W);clear aN;cases rb;·
   rcases ab with rfl|rfl|rfl;all_goals
    go_in;go_wp2;go_region;go_wp2_with(go_at_call 269;refine(ah.out _).mono ?_;rintro e w1⟨rfl,C⟩;rw[P.out];obtain⟨d0,d1,d2,d3,d4⟩:=cZ.carry (B:=_) af.out (by simp) C;dsimp only at d0 d1 d2 d3 d4;have aR:w.heap.size<w1.heap.size:=(by have:=C.size;simp at this;omega);have I:Hid (ZW w w1):=aa ((aO _ _).drew.trans (C.mono (by simp)));clear C);go_ret2;refine iA I.out ?_;cases f;·exact fm (by simp) (by simp)
    ·rw[fA (by simp) (by simp) (by simp),P.out];rfl
  ·cases f with|zero=>rcases ab with rfl|rfl|rfl;all_goals go_in;go_wp2;go_region;go_wp2_with(first|(go_at_call 269;refine(ah.out _).mono ?_;rintro e w1⟨rfl,C⟩;rw[P.out];obtain⟨d0,d1,d2,d3,d4⟩:=cZ.carry (B:=_) af.out (by simp) C;dsimp only at d0 d1 d2 d3 d4;have aR:w.heap.size<w1.heap.size:=(by have:=C.size;simp at this;omega);have I:Hid (ZW w w1):=aa ((aO _ _).drew.trans (C.mono (by simp)));clear C)|(go_at_call 267;refine(vf st _ _ (cB.carry I.out HP.out)).mono ?_;rintro e w'⟨rfl,rfl⟩;rw[aq.out,show((0:Nat)==0)=true from rfl]));go_ret2;refine iA I.out ?_;exact fm (by simp) (by simp)|succ f=>have HI:=aa (aM f rfl);have a2:=aa (wq f HI.out ⟨J,name,j,many,l⟩ st R);clear aM;rcases ab with rfl|rfl|rfl;all_goals have a4:Hid (1<=many/\many<=4):=aa (by have:=P.out;simp[fQ,jQ]at this;exact this.1.1.2);go_in;go_wp2;go_region;go_wp2_with(first|(go_at_call 269;refine(ah.out _).mono ?_;rintro e w1⟨rfl,C⟩;rw[P.out];obtain⟨d0,d1,d2,d3,d4⟩:=cZ.carry (B:=_) af.out (by simp) C;dsimp only at d0 d1 d2 d3 d4;have aR:w.heap.size<w1.heap.size:=(by have:=C.size;simp at this;omega);have I:Hid (ZW w w1):=aa ((aO _ _).drew.trans (C.mono (by simp)));clear C)|(go_at_call 267;refine(vf st _ _ (cB.carry I.out HP.out)).mono ?_;rintro e w'⟨rfl,rfl⟩;rw[aq.out,show(f+1==0)=false from rfl]));go_wp2_with(first|(go_at_call 268;refine(a5.out _ _ (cB.carry I.out HP.out) (by have:=HL.out;omega)).mono ?_;rintro e w2⟨q,rfl,hq,ax⟩;obtain⟨uq,rfl⟩:=hq.shape;have HQ:=aa hq;have ad:=aa (I.out.trans (ax.mono I.out.size));clear hq ax)|(go_at_call 270;refine(a2.out _ _ _ B (by have:=HL.out;simp;omega) a4.out (fun x hx=>HO.out x (List.mem_cons_of_mem _ hx)) (Nat.le_trans HB.out ad.out.size) (av.out.carry (ad.out.mono HB.out)) HQ.out).mono ?_;rintro e w3⟨⟨v3,rfl,a0⟩,ay⟩;have a6:=aa a0;have a1:=aa ay;clear a0 ay));go_ret2;exact AY ⟨v3,rfl,a6.out⟩ ad.out a1.out (by rw[fA (by simp) (by simp) (by simp),P.out];rfl)
abbrev de:ByteArray:=ByteArray.empty
structure Br(α:Type)where
 l:ByteArray
 s:Int
 p:α
structure Tk where
 op:Int
 a:ByteArray
 b:ByteArray
def Pn:Nat->Type|0=>Option ByteArray|n+1=>Sum (Option ByteArray) (Sum (ByteArray×Pn n) (Tk×List (Br (Pn n))))
def Pn.leaf{n:Nat}(x:Option ByteArray):Pn (n+1):=Sum.inl x
def Pn.loop{n:Nat}(x:ByteArray)(q:Pn n):Pn (n+1):=Sum.inr (Sum.inl (x,q))
def Pn.cU{n:Nat}(t:Tk)(l:List (Br (Pn n))):Pn (n+1):=Sum.inr (Sum.inr (t,l))
theorem Pn.cases{n:Nat}{P:Pn (n+1)->Prop}(j:∀x,P (.leaf x))(C:∀x q,P (.loop x q))(I:∀t l,P (.cU t l)):∀p,P p|Sum.inl x=>j x|Sum.inr (Sum.inl (x,q))=>C x q|Sum.inr (Sum.inr (t,l))=>I t l
def Pn.by{n:Nat}{β:Type}(j:Option ByteArray->β)(C:ByteArray->Pn n->β)(I:Tk->List (Br (Pn n))->β):Pn (n+1)->β|Sum.inl x=>j x|Sum.inr (Sum.inl (x,q))=>C x q|Sum.inr (Sum.inr (t,l))=>I t l
def bP:Option ByteArray->List Nd|none=>[⟨0,de,de,0,0⟩]|some x=>[⟨1,x,de,0,0⟩]
def aY{α:Type}(f:α->List Nd)(l:List (Br α)):List Nd:=l.flatMap fun b=>⟨4,b.l,de,0,b.s⟩::f b.p
theorem cA{α:Type}(f:α->List Nd)(b:Br α)(l:List (Br α)):aY f (b::l)=⟨4,b.l,de,0,b.s⟩::(f b.p++aY f l):=by rw[aY,List.flatMap_cons];rfl
theorem i6{α:Type}(f:α->List Nd)(l r:List (Br α)):aY f (l++r)=aY f l++aY f r:=by unfold aY;rw[List.flatMap_append]
def aB:(n:Nat)->Pn n->List Nd|0,x=>bP x|n+1,p=>p.by bP (fun x q=>⟨2,x,de,0,0⟩::aB n q) (fun t l=>⟨t.op,t.a,t.b,(l.length:Int),0⟩::aY (aB n) l)
theorem EK{n:Nat}(x:Option ByteArray):aB (n+1) (.leaf x)=bP x:=rfl
theorem cO{n:Nat}(x:ByteArray)(q:Pn n):aB (n+1) (.loop x q)=⟨2,x,de,0,0⟩::aB n q:=rfl
theorem bI{n:Nat}(t:Tk)(l:List (Br (Pn n))):aB (n+1) (.cU t l)=⟨t.op,t.a,t.b,(l.length:Int),0⟩::aY (aB n) l:=rfl
def oE(a b:Nd):Bool:=a.op==b.op&&a.name.toList==b.name.toList&&a.peer.toList==b.peer.toList&&a.many==b.many&&a.sort==b.sort
def fC:List Nd->List Nd->Bool|[],[]=>true|a::l,b::r=>oE a b&&fC l r|_,_=>false
def gU{α:Type}(t:ByteArray):List (Br α)->Option Nat|[]=>none|b::r=>if b.l.toList==t.toList then some 0 else(gU t r).map (·+1)
def bQ{α:Type}(mg:α->α->Option α):List (Br α)->List (Br α)->Option (List (Br α))|j,[]=>some j|j,d::ds=>match gU d.l j with|none=>bQ mg (j++[d]) ds|some i=>match j[i]? with|none=>none|some b=>match mg b.p d.p with|none=>none|some q=>if b.s==d.s then bQ mg (j.set i ⟨b.l,b.s,q⟩) ds else none
def kh{n:Nat}(p:Pn (n+1)):Option (ByteArray×List (Br (Pn n))):=p.by (fun _=>none) (fun _ _=>none) (fun t l=>if t.op==6 then some (t.b,l)else none)
def aW:(n:Nat)->Pn n->Pn n->Option (Pn n)|0,x,y=>if fC (aB 0 x) (aB 0 y)then some x else none|n+1,x,y=>if fC (aB (n+1) x) (aB (n+1) y)then some x else match kh x,kh y with|some (a,cs),some (b,ds)=>if a.toList==b.toList then match bQ (aW n) cs ds with|some l=>if l.length<=4 then some (.cU ⟨6,de,a⟩ l)else none|none=>none else none|_,_=>none
def bE{α:Type}(mg:α->α->Option α):α->List (Br α)->Option α|x,[]=>some x|x,b::r=>match mg x b.p with|none=>none|some q=>bE mg q r
def dh(role:ByteArray)(l:List Nd):Bool:=l.any fun n=>n.op==3&&(n.name.toList==role.toList||n.peer.toList==role.toList)
def bY:List ByteArray->List Nd->Bool|_,[]=>true|ns,n::l=>if n.op==2 then bY (ns++[n.name]) l else if n.op==1&&!cw ns n.name then false else bY ns l
def kj(role:ByteArray)(l:List Nd):Bool:=!dh role l&&bY [] l
def nP:(n:Nat)->Pn n->Pn (n+1)|0,x=>.leaf x|n+1,p=>p.by (fun x=>.leaf x) (fun x q=>.loop x (nP n q)) (fun t l=>.cU t (l.map fun b=>⟨b.l,b.s,nP n b.p⟩))
def bu{α:Type}(f:α->Option α):List (Br α)->Option (List (Br α))|[]=>some []|b::l=>match f b.p with|none=>none|some q=>match bu f l with|none=>none|some r=>some (⟨b.l,b.s,q⟩::r)
def bd(role:ByteArray):(n:Nat)->Pn n->Option (Pn n)|0,x=>some x|n+1,p=>p.by (fun x=>some (.leaf x)) (fun x q=>if kj role (aB (n+1) (.loop x q))then some (.leaf none)else(bd role n q).map (Pn.loop x)) (fun t l=>match bu (bd role n) l with|none=>none|some r=>if role.toList==t.a.toList then some (.cU ⟨5,de,t.b⟩ r)else if role.toList==t.b.toList then some (.cU ⟨6,de,t.a⟩ r)else match r with|[]=>none|c::r=>(bE (aW n) c.p r).map (nP n))
theorem zD:∀(n:Nat)(p:Pn n),aB (n+1) (nP n p)=aB n p:=by
 intro n;induction n with
  |zero=>intro p;rfl|succ n ih=>
   refine Pn.cases (fun x=>rfl) (fun x q=>?_) (fun t l=>?_);·show(⟨2,x,de,0,0⟩:Nd)::aB (n+1) (nP n q)=_;rw[ih q];rfl
   ·show(⟨t.op,t.a,t.b,((l.map fun b=>(⟨b.l,b.s,nP n b.p⟩:Br (Pn (n+1)))).length:Int),0⟩:Nd)::aY (aB (n+1)) (l.map fun b=>⟨b.l,b.s,nP n b.p⟩)=_;rw[List.length_map,bI,aY,aY,List.flatMap_map];congr 2;funext b;rw[ih b.p]
theorem lG{t:ByteArray}(h:(t.toList==[])=true):t=de:=by have j:=beq_iff_eq.1 h;rw[Go.ByteArray.toList_eq]at j;apply ByteArray.ext;exact Array.ext' j
def bX:(n:Nat)->Pn n->Prop|0,_=>True|n+1,p=>p.by (fun _=>True) (fun _ q=>bX n q) (fun t l=>t.op=3/\(t.a.toList==t.b.toList)=false/\1<=l.length/\l.length<=4/\∀b∈l,bX n b.p)
theorem rX{go:List Nd->Option (List Nd)}{n:Nat}(C:∀l r,go l=some r->∃p:Pn n,l=aB n p++r/\bX n p):∀(m:Nat)(ls:List ByteArray)(l r:List Nd),bA go m ls l=some r->∃cs:List (Br (Pn n)),cs.length=m/\l=aY (aB n) cs++r/\∀b∈cs,bX n b.p
 |0,ls,l,r,h=>by rw[bA]at h;injection h with h;subst h;exact⟨[],rfl,rfl,fun b j=>by cases j⟩|m+1,ls,[],r,h=>by cases h|m+1,ls,c::l,r,h=>by
  rw[bA]at h;split at h;·
   rename_i T;split at h;·cases h
   ·rename_i r1 R;obtain⟨p,e,hp⟩:=C l r1 R;obtain⟨cs,hl,U,P⟩:=rX C m _ _ _ h;obtain⟨op,name,I,many,sort⟩:=c;simp only[eE,Bool.and_eq_true,beq_iff_eq]at T;obtain⟨⟨⟨⟨⟨h1,h2⟩,h3⟩,-⟩,-⟩,-⟩:=T;have J:I=de:=lG (by simpa using h2);subst h1;subst J;subst h3;refine⟨⟨name,sort,p⟩::cs,by rw[List.length_cons,hl],?_,?_⟩;·rw[e,U,cA,List.cons_append,List.append_assoc]
    ·intro b j;rw[List.mem_cons]at j;rcases j with rfl|j;·exact hp
     ·exact P b j
  ·cases h
theorem rZ{f:Nat}{st l r:List Nd}{n:Nd}(h:ahead (bC false) f st (n::l)=some r)(R:n.op=0\/n.op=1):∃x,n::l=bP x++r:=by
 obtain⟨op,name,j,many,sort⟩:=n;rcases R with P|h1;·
  rw[da P]at h;split at h;·rename_i J;injection h with h;subst h;dsimp only at P;subst P;simp only[iu,Bool.and_eq_true,beq_iff_eq]at J;obtain⟨⟨⟨⟨-,T⟩,U⟩,h3⟩,h4⟩:=J;have I:name=de:=lG (by simpa using T);have C:j=de:=lG (by simpa using U);subst I;subst C;subst h3;subst h4;exact⟨none,rfl⟩
  ·cases h
 ·rw[dv h1]at h;split at h;·rename_i J;injection h with h;subst h;dsimp only at h1;subst h1;simp only[oR,Bool.and_eq_true,beq_iff_eq]at J;obtain⟨⟨⟨⟨-,U⟩,h3⟩,h4⟩,-⟩:=J;have C:j=de:=lG (by simpa using U);subst C;subst h3;subst h4;exact⟨some name,rfl⟩
  ·cases h
theorem JV:∀(f:Nat)(st l r:List Nd),ahead (bC false) f st l=some r->∃p:Pn f,l=aB f p++r/\bX f p:=by
 intro f;induction f with
  |zero=>
   intro st l r h;cases l with
    |nil=>cases h|cons n l=>
     by_cases j:n.op=0\/n.op=1;·obtain⟨x,e⟩:=rZ h j;exact⟨x,e,trivial⟩
     ·rw[fm (fun h=>j (.inl h)) (fun h=>j (.inr h))]at h;cases h
  |succ f ih=>
   intro st l r h;cases l with
    |nil=>cases h|cons n l=>
     by_cases j:n.op=0\/n.op=1;·obtain⟨x,e⟩:=rZ h j;exact⟨.leaf x,e,trivial⟩
     ·obtain⟨op,name,C,many,sort⟩:=n;have h0:op≠0:=fun h=>j (.inl h);have h1:op≠1:=fun h=>j (.inr h);by_cases I:op=2;·
       rw[dC I]at h;split at h;·rename_i J;subst I;simp only[iR,Bool.and_eq_true,beq_iff_eq]at J;obtain⟨⟨⟨⟨⟨-,I⟩,R⟩,T⟩,-⟩,-⟩:=J;have P:C=de:=lG (by simpa using I);subst P;subst R;subst T;obtain⟨p,e,hp⟩:=ih _ l r h;exact⟨.loop name p,by rw[cO,e];rfl,hp⟩
       ·cases h
      ·rw[fA h0 h1 I]at h;split at h;·
        rename_i J;simp only[bC,jQ,Bool.and_eq_true,decide_eq_true_eq,beq_iff_eq,Bool.not_eq_true',Bool.false_eq_true,if_false]at J;obtain⟨⟨⟨-,hm⟩,T⟩,⟨R,-⟩,ab⟩:=J;dsimp only at h;obtain⟨cs,hl,e,U⟩:=rX (fun l r=>ih _ l r) _ _ _ _ h;subst R;subst T;have hM:many=(cs.length:Int):=by rw[hl];omega
        subst hM;exact⟨.cU ⟨3,name,C⟩ cs,by rw[bI,e];rfl,rfl,ab,by omega,by omega,U⟩
       ·cases h
