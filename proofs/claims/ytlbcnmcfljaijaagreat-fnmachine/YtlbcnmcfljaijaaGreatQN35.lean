import Derived.Test.YtlbcnmcfljaijaaGreatQN29
import Derived.Test.YtlbcnmcfljaijaaGreatQN00
import Derived.Test.YtlbcnmcfljaijaaGreatQN27
import Derived.Test.YtlbcnmcfljaijaaGreatQN20
namespace Go.Proofs.YtlbcnmcfljaijaaGreat
open Go.RowKit
set_option linter.unusedSimpArgs false
set_option linter.unusedVariables false
set_option maxHeartbeats 4000000
set_option maxRecDepth 100000
section
attribute [local go_sem ↓] Go.wp_at_zero Go.wp_at_succ
theorem da.drew{w:World}{xb B base:Nat}{v sv ev:Value}{z:Int}{nv fv:Value}{all:List Nd}{sts:List aB}{eds:List ar}{ns:List ByteArray}{fis:List Int}(h:da w xb B base v sv ev z nv fv all sts eds ns fis):da w.drew xb B base v sv ev z nv fv all sts eds ns fis:=h.sA ⟨(aw.refl w).drew⟩
theorem CK(x:ByteArray):∀u∈([.string x]:List Value),u.oneCell'=true:=by intro u hu;simp at hu;subst hu;rfl
theorem Eu(x:Int):∀u∈([.int .i64 x]:List Value),u.oneCell'=true:=by intro u hu;simp at hu;subst hu;rfl
theorem Ed(f:Nat)(hf:mK f)(st all r:List Nd)(l:Nat)(w:World)(xb B base:Nat)(v sv ev:Value)(z:Int)(nv fv:Value)(sts:List aB)(eds:List ar)(ns:List ByteArray)(fis:List Int)(name av:ByteArray)(many sort:Int)(a5:l<all.length)(hx:all[l]=⟨2,name,av,many,sort⟩)(ha:ahead (aQ true) f (⟨2,name,av,many,sort⟩::st) (all.drop (l+1))=some r)(bz:all.length≤40)(ba:fis.length=ns.length)(d9:ns.length+(f+1)≤100)(b0:jy all l=sts.length)(cl:eds.length+(all.length-l)≤900)(h:da w xb B base v sv ev z nv fv all sts eds ns fis):Calls Tryz.prog 85 #[.pointer (some ⟨xb,0,none⟩),.int .i64 (l:Int)] w fun e w'=>Made w w' xb B base v z (db sv ev nv fv) all ns fis e (Go.Proofs.YtlbcnmcfljaijaaGreat.sv f (ns++[name]) (fis++[bq (ns++[name]) (fis++[0]) sts.length (all.drop (l+1))]) (all.drop (l+1)) (sts,eds)):=by
 have H:=aa h;have c0:=h.box.cell 0 _ rfl;have c4:=h.box.cell 4 _ rfl;have cz:=h.box.fz;have eb:=h.box.lt;obtain⟨i0,hi,b5,b6,b7⟩:=info_parts Tryz.sJ;have HI:=aa (And.intro hi (And.intro b5 (And.intro b6 b7)));obtain⟨i1,b1,b2,b3,b4⟩:=info_parts Tryz.Gj;have HJ:=aa (And.intro b1 (And.intro b2 (And.intro b3 b4)));obtain⟨pn,cn,cs⟩:=aq h.nm;obtain⟨ao,cap,rfl,dp,dz,hr⟩:=h.sl;obtain⟨b,o,rfl,hb,bb⟩:=hr (by rintro rfl;simp at a5);have a4:=bb.get l a5;rw[hx]at a4;obtain⟨d0,d1,d2,d3,d4⟩:=a4;dsimp only at d0 d1 d2 d3 d4;subst cs;have a2:jy all (l+1)=sts.length:=by rw[kj a5,hx,←b0];rfl
 have cr:l+1<all.length:=by
  rcases Nat.lt_or_ge (l+1) all.length with h1|h1;·exact h1
  ·rw[List.drop_eq_nil_of_le h1]at ha;cases f<;>cases ha
 have bL:¬(∀n∈all.drop (l+1),n.op=2):=jN _ _ _ _ ha;obtain⟨fst,a3⟩:∃x,bq (ns++[name]) (fis++[0]) sts.length (all.drop (l+1))=x:=⟨_,rfl⟩;rw[a3];have bn:Hid (∀(W:World)(U P ad ac:Value),da W xb B base (.slice (some ⟨b,o,none⟩) all.length cap) U P z ad ac all sts eds (ns++[name]) (fis++[0])→Calls Tryz.prog 84 #[.pointer (some ⟨xb,0,none⟩),.int .i64 ((l:Int)+1)] W fun e w'=>e=.returned (.int .i64 fst)∧Below W.heap.size W w'):=aa (fun W U P ad ac hW=>by have:=mf all (ns++[name]) (fis++[0]) (by simp;omega) (by simp;omega) (by omega) _ (l+1) xb W.heap.size W rfl bL hW.DC (Nat.le_refl _);rw[a2,a3]at this;rw[show(l:Int)+1=((l+1:Nat):Int)by omega];exact this);have bs:Hid (∀(W:World)(U P ad ac:Value),da W xb B base (.slice (some ⟨b,o,none⟩) all.length cap) U P z ad ac all sts eds (ns++[name]) (fis++[fst])→Calls Tryz.prog 85 #[.pointer (some ⟨xb,0,none⟩),.int .i64 ((l:Int)+1)] W fun e w'=>Made W w' xb B base (.slice (some ⟨b,o,none⟩) all.length cap) z (db U P ad ac) all (ns++[name]) (fis++[fst]) e (Go.Proofs.YtlbcnmcfljaijaaGreat.sv f (ns++[name]) (fis++[fst]) (all.drop (l+1)) (sts,eds))):=aa (fun W U P ad ac hW=>by have:=hf _ all r (l+1) W xb B base _ U P z ad ac sts eds (ns++[name]) (fis++[fst]) ha bz cr (by simp;omega) (by simp;omega) a2 (by omega) hW;rw[show(l:Int)+1=((l+1:Nat):Int)by omega];exact this);obtain⟨O,hO⟩:∃O,Go.Proofs.YtlbcnmcfljaijaaGreat.sv f (ns++[name]) (fis++[fst]) (all.drop (l+1)) (sts,eds)=O:=⟨_,rfl⟩;rw[hO]at bs⊢;have ab:=aa ba;have bm:Hid (∀ob:Obj,da (w.alloc ob).drew xb B base (.slice (some ⟨b,o,none⟩) all.length cap) sv ev z (.slice pn ns.length cn) fv all sts eds ns fis):=aa (fun ob=>(H.out.sA ((iO.cT (Below.refl _ _)).alloc ob)).drew);have HS:=aa H.out.sz;clear h hr hi b5 b6 b7 b1 b2 b3 b4 hf bL ha b0 a2 a3 hO hx bb ba cl;go_enter Tryz.func85,Tryz.ntmps85;go_wp2_with fail;go_region_law(refine fF rfl (.tmp 47) (.tmp 50) 78 rfl base 9 i0 (.string ByteArray.empty) 1 16 Tryz.underlying78 HI.out.1 HI.out.2.1 HI.out.2.2.1 HI.out.2.2.2 rfl (by decide) (.slice pn ns.length cn) ns.length (j3 ns) (by simp[Act.eval]) (aL (bm.out _).nm (ai _ _)) ⟨w.heap.size+1,0,none⟩ 1 1 [.string name] (by simp[Act.eval]) rfl (fun j u hj=>kr _ _ _ _ (by simp) j u hj) (CK _) (by unfold maxLen;omega) (by omega) (by have:=HS.out;simp;omega) ?_;intro v4 w4 T ag a0;have bi:=aa (El (bm.out _) name _ T ag a0);have bx:=aa (Ko (w3:=(w.alloc (.cells #[.int .i64 2,.string name,.string av,.int .i64 many,.int .i64 sort] 108)).drew) (xb:=xb) (sv:=sv) (ev:=ev) (fv:=fv) T _ ag a0);have bf:=aa ((bm.out (.cells #[.int .i64 2,.string name,.string av,.int .i64 many,.int .i64 sort] 108)).box.keep ((ak (ai _ _)).trans (aE ag)) (fun hm=>by rw[List.nil_append]at hm;have:=(au H.out.nm).lo _ hm;have:=H.out.low;omega));have l4:=bf.out.cell 4 _ rfl;have lz:=bf.out.fz;obtain⟨p4,c4,rfl⟩:=aq T;clear T ag a0);all_goals
  obtain⟨W5,az⟩:∃W,W=w4.setCell ⟨xb,4,none⟩ (.slice p4 (ns.length+1) c4):=⟨_,rfl⟩;rw[←az];have J:=aa (show da W5 xb B base (.slice (some ⟨b,o,none⟩) all.length cap) sv ev z (.slice p4 (ns.length+1) c4) fv all sts eds (ns++[name]) fis by rw[az];exact bi.out.1);have b8:=aa (show eJ w W5 base xb by rw[az];exact((iO.cT (ai w _)).ap.drew.jB H.out.sz (by simp)).trans bi.out.2);have cc:=aa (show kI w W5 xb (db sv ev (.slice pn ns.length cn) fv) (db sv ev (.slice p4 (ns.length+1) c4) fv)by rw[az];exact(kI.sA ⟨(iO.cT (ai w _)).ap.drew⟩).trans bx.out);clear az bi bf bx l4 lz;have c5:=J.out.box.cell 5 _ rfl;have z5:=J.out.box.fz;have ea:=J.out.box.lt;have d6:fis.length≤ns.length:=by have:=ab.out;omega
  have d7:ns.length≤fis.length:=by have:=ab.out;omega
  obtain⟨pf,cf,cp⟩:=aq J.out.fi;subst cp;go_wp2_with(first|(go_at_call 85;refine(bs.out _ _ _ _ _ bk.out.1).mono ?_;rintro e cu⟨U,P,ad,ac,rfl,C,a9,be⟩;obtain⟨c8,c2,rfl,cv,cy⟩:=C.Jx;obtain⟨c9,c3,rfl,cx,c1,-,-⟩:=C.zG;have br:=aa C;have bp:=aa a9;have bv:=aa be;have m4:=C.box.cell 4 _ rfl;have m5:=C.box.cell 5 _ rfl;have mz:=C.box.fz;clear C a9 be)|(go_at_call 84;refine(bn.out _ _ _ _ _ ax.out.1).mono ?_;rintro e w8⟨rfl,a8⟩;have ay:=aa (ax.out.1.sA (iO.cT a8));have b9:=aa (ax.out.2.trans ((iO.cT a8).ap.jB ax.out.1.sz (by simp)));have e4:=ay.out.box.cell 4 _ rfl;have e5:=ay.out.box.cell 5 _ rfl;have ez:=ay.out.box.fz;obtain⟨df,c7,I,-,-,e6,ey⟩:=ay.out.zG;injection I with I _ _;injection I with I;injection I with I;subst I;have ch:=aa (kI.sA (xb:=xb) (R:=db sv ev (.slice p4 (ns.length+1) c4) (.slice (some ⟨g6,0,none⟩) (fis.length+1) c6)) (iO.cT a8));have bk:=aa (GD ay.out fst);rw[ab.out]at e6;rw[show(⟨g6,fis.length,none⟩:Addr)=⟨g6,ns.length,none⟩by rw[ab.out]]at bk;clear a8)|(at_builtin;refine wpList_append_own_at _ rfl (.tmp 58) (.tmp 59) 90 rfl base 2 i1 (.int .i64 0) 1 8 Tryz.underlying90 HJ.out.1 HJ.out.2.1 HJ.out.2.2.1 HJ.out.2.2.2 rfl (by decide) (.slice pf fis.length cf) fis.length (jU fis) rfl (aL J.out.fi (ai _ _)) ⟨W5.heap.size,0,none⟩ 1 1 [.int .i64 0] rfl rfl (fun j u hj=>kr W5 _ _ _ rfl j u hj) (Eu _) (by unfold maxLen;omega) (by omega) (by have:=J.out.sz;simp;omega) ?_;intro v6 w6 af ah _ a1;have ax:=aa (Ek J.out 0 _ af ah a1);have cg:=aa (Kn (xb:=xb) (sv:=sv) (ev:=ev) (nv:=.slice p4 (ns.length+1) c4) af _ ah a1);have bg:=aa (J.out.box.keep ((ak (ai _ _)).trans (aE ah)) (fun hm=>by rw[List.nil_append]at hm;have:=(au J.out.fi).lo _ hm;have:=J.out.low;omega));have l5:=bg.out.cell 5 _ rfl;have l4:=bg.out.cell 4 _ rfl;have lz:=bg.out.fz;obtain⟨g6,c6,rfl,d5,d8,-,-⟩:=ax.out.1.zG;clear af ah a1));go_ret;have h1:=GC br.out;have h2:=GB h1.1;rw[ab.out]at h2;refine⟨U,P,_,_,rfl,h2.1,((((b8.out.trans b9.out).trans bk.out.2).trans bp.out).trans h1.2).trans h2.2,?_⟩;refine(((((cc.out.trans cg.out).trans ch.out).trans (kI.apart (aA w8 g6 ns.length (.int .i64 fst)) (fun b hb=>?_) (fun b hb=>.inl hb))).trans bv.out).trans (kI.apart (aA cu xb 4 _) (fun b hb=>.inl (by simpa using hb)) (fun b hb=>.inl hb))).trans (kI.apart (aA _ xb 5 _) (fun b hb=>.inl (by simpa using hb)) (fun b hb=>.inl ?_));·simp at hb;subst hb;exact .inr (iQ.2 (.inr (.inr (.inr (by simp[an,aG])))))
  ·rw[iQ]at hb⊢;simpa[an,aG]using hb
def ug{α:Type}(l:List α):Option (List α)→Option (List α)|none=>none|some r=>some (l++r)
def Bg(j:ByteArray)(n:Nat)(a b:ByteArray)(r:Option (List (Br (Pn n)))):Option (Pn (n+1)):=match r with|none=>none|some r=>if j.toList==a.toList then some (.cG ⟨5,bt,b⟩ r)else if j.toList==b.toList then some (.cG ⟨6,bt,a⟩ r)else match r with|[]=>none|c::r=>(cX (bd n) c.p r).map (vW n)
theorem uT(j:ByteArray)(n:Nat)(a b:ByteArray)(l:List (Br (Pn n))):bD j (n+1) (.cG ⟨3,a,b⟩ l)=Bg j n a b (bI (bD j n) l):=by show(match bI (bD j n) l with|none=>none|some r=>if j.toList==a.toList then some (Pn.cG ⟨5,bt,b⟩ r)else if j.toList==b.toList then some (.cG ⟨6,bt,a⟩ r)else match r with|[]=>none|c::r=>(cX (bd n) c.p r).map (vW n))=_;unfold Bg;cases bI (bD j n) l<;>rfl
structure KT(w wr:World)(row:List Nd)(nv:Value)(k:Nat)(ns:List ByteArray):Prop where
 same:eA ns (row.drop k)=eA [] row
 own:wr.ownsRow w.heap.size 9 1 nv ns.length (ns.map Value.string)
 len:ns.length≤k
 dN:Below w.heap.size w wr
end
theorem tE{a b:ByteArray}(h:(a.toList==b.toList)=true):a=b:=by have h:=beq_iff_eq.1 h;rw[Go.ByteArray.toList_eq,Go.ByteArray.toList_eq]at h;apply ByteArray.ext;exact Array.ext' h
section
attribute [local go_sem ↓] Go.wp_at_zero Go.wp_at_succ
end
def ek:(n:Nat)→Pn n→Prop|0,_=>True|n+1,p=>p.by (fun _=>True) (fun _ q=>ek n q) (fun _ l=>l.length≤4∧∀b∈l,ek n b.p)
theorem Hy:∀(n:Nat)(p:Pn n),ek n p→ek (n+1) (vW n p):=by intro n;induction n with|zero=>intro p _;trivial|succ n ih=>intro p;refine Pn.cases (P:=fun p=>ek (n+1) p→ek (n+2) (vW (n+1) p)) (fun x _=>trivial) (fun x q C=>ih q C) (fun t l C=>?_) p;have j:l.length≤4∧∀b∈l,ek n b.p:=C;refine⟨by rw[List.length_map];exact j.1,fun b I=>?_⟩;obtain⟨c,J,rfl⟩:=List.mem_map.1 I;exact ih c.p (j.2 c J)
theorem nX:∀(n:Nat)(x y z:Pn n),ek n x→ek n y→bd n x y=some z→ek n z:=by
 intro n;induction n with
  |zero=>intro x y z _ _ _;trivial|succ n ih=>
   intro x y z J U h;rw[bd]at h;split at h;·injection h with h;subst h;exact J
   ·split at h;·
     rename_i a j b ds ex P;split at h;·
      split at h;·
       rename_i l T;split at h;·rename_i R;injection h with h;subst h;obtain⟨x',rfl⟩:=je ex;obtain⟨y',rfl⟩:=je P;have C:j.length≤4∧∀b∈j,ek n b.p:=J;have I:ds.length≤4∧∀b∈ds,ek n b.p:=U;exact⟨R,iI (Q:=ek n) ih ds j l C.2 I.2 T⟩
       ·cases h
      ·cases h
     ·cases h
    ·cases h
theorem pZ(C:ByteArray):∀(n:Nat)(p q:Pn n),cQ n p→bD C n p=some q→ek n q:=by
 intro n;induction n with
  |zero=>intro p q _ _;trivial|succ n ih=>
   intro p;refine Pn.cases (P:=fun p=>∀q,cQ (n+1) p→bD C (n+1) p=some q→ek (n+1) q) (fun x q _ h=>?_) (fun x p q hp h=>?_) (fun t l q hp h=>?_) p;·have j:some (Pn.leaf x)=some q:=h;injection j with j;subst j;trivial
   ·have j:(if AJ C (aI (n+1) (.loop x p))then some (Pn.leaf none)else(bD C n p).map (Pn.loop x))=some q:=h;have J:cQ n p:=hp;split at j;·injection j with j;subst j;trivial
    ·cases hq:bD C n p with|none=>rw[hq]at j;cases j|some q'=>rw[hq]at j;simp only[Option.map_some,Option.some.injEq]at j;subst j;exact ih p q' J hq
   ·have j:(match bI (bD C n) l with|none=>none|some r=>if C.toList==t.a.toList then some (Pn.cG ⟨5,bt,t.b⟩ r)else if C.toList==t.b.toList then some (.cG ⟨6,bt,t.a⟩ r)else match r with|[]=>none|c::r=>(cX (bd n) c.p r).map (vW n))=some q:=h;have J:t.op=3∧(t.a.toList==t.b.toList)=false∧1≤l.length∧l.length≤4∧∀b∈l,cQ n b.p:=hp;split at j;·cases j
    ·rename_i r hr;have I:=qd (Q:=cQ n) (R:=ek n) (fun x y U hy=>ih x y U hy) l r J.2.2.2.2 hr;have T:r.length≤4:=by have:=(mB (f:=aI n) (Q:=cQ n) (fun x y U hy=>jd C n x y U hy) l r J.2.2.2.2 hr).2;omega
     split at j;·injection j with j;subst j;exact⟨T,I⟩
     ·split at j;·injection j with j;subst j;exact⟨T,I⟩
      ·split at j;·cases j
       ·rename_i c r;cases hm:cX (bd n) c.p r with|none=>rw[hm]at j;cases j|some z=>rw[hm]at j;simp only[Option.map_some,Option.some.injEq]at j;subst j;exact Hy n z (lg (Q:=ek n) (fun x y z U hy h=>nX n x y z U hy h) r c.p z (I c (by simp)) (fun b hb=>I b (by simp[hb])) hm)
def gV{α:Type}(mg:α→α→Option α)(acc:List (Br α))(d:Br α):Option (List (Br α)):=match oT d.l acc with|none=>if acc.length<4 then some (acc++[d])else none|some i=>match acc[i]? with|none=>none|some b=>match mg b.p d.p with|none=>none|some q=>if b.s==d.s then some (acc.set i ⟨b.l,b.s,q⟩)else none
def eS{α:Type}(mg:α→α→Option α):List (Br α)→List (Br α)→Option (List (Br α))|acc,[]=>some acc|acc,d::ds=>match gV mg acc d with|none=>none|some l=>eS mg l ds
def Az{α:Type}:Option (List α)→Option (List α)|none=>none|some l=>if l.length≤4 then some l else none
theorem mw{α:Type}{mg:α→α→Option α}:∀(ds acc l:List (Br α)),cm mg acc ds=some l→acc.length≤l.length
 |[],acc,l,h=>by rw[cm]at h;injection h with h;subst h;exact Nat.le_refl _|d::ds,acc,l,h=>by
  rw[cm]at h;split at h;·have:=mw ds _ l h;simp at this;omega
  ·split at h;·cases h
   ·split at h;·cases h
    ·split at h;·have:=mw ds _ l h;simpa using this
     ·cases h
theorem mH{α:Type}{mg:α→α→Option α}:∀(ds acc:List (Br α)),acc.length≤4→eS mg acc ds=Az (cm mg acc ds)
 |[],acc,h=>by rw[eS,cm,Az,if_pos h]|d::ds,acc,h=>by
  rw[eS,cm,gV];cases I:oT d.l acc with
   |none=>
    dsimp only;by_cases j:acc.length<4;·rw[if_pos j];exact mH ds (acc++[d]) (by simp;omega)
    ·rw[if_neg j];dsimp only;cases C:cm mg (acc++[d]) ds with|none=>rfl|some l=>have:=mw ds _ l C;simp at this;rw[Az,if_neg (by omega)]
   |some i=>dsimp only;cases acc[i]? with|none=>rfl|some b=>dsimp only;cases mg b.p d.p with|none=>rfl|some q=>dsimp only;cases J:(b.s==d.s)with|false=>rfl|true=>simp only[if_true];exact mH ds _ (by rw[List.length_set];exact h)
theorem zS{n:Nat}(a:ByteArray)(j ds:List (Br (Pn n)))(h:j.length≤4):(eS (bd n) j ds).map (Pn.cG ⟨6,bt,a⟩)=AH n a (cm (bd n) j ds):=by rw[mH ds j h];cases cm (bd n) j ds with|none=>rfl|some l=>rw[Az,AH];split<;>rfl
end Go.Proofs.YtlbcnmcfljaijaaGreat
