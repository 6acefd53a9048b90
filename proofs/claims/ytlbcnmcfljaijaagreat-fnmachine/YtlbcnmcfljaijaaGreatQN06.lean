import Derived.Test.YtlbcnmcfljaijaaGreatQN00
import Derived.Deep.RegionWith
import Derived.Deep.RegionHeld3
import Derived.Deep.DrawnRows
namespace Go.Proofs.YtlbcnmcfljaijaaGreat
open Go.RowKit
set_option linter.unusedSimpArgs false
set_option linter.unusedVariables false
set_option maxHeartbeats 2000000
set_option maxRecDepth 100000
theorem KW(w:World)(A B C:Obj):Below (w.alloc A).heap.size (w.alloc A) (((w.alloc A).alloc B).alloc C):=(ai _ _).trans ((ai _ _).mono (by simp))
theorem FY(w:World)(A B C:Obj):Below ((w.alloc A).alloc B).heap.size ((w.alloc A).alloc B) (((w.alloc A).alloc B).alloc C):=ai _ _
theorem wL(w:World)(A B:Obj)(l:Array Value)(t:TypeId)(j:Nat)(v:Value)(h:l[j]?=some v):(((w.alloc A).alloc B).alloc (.cells l t)).cell? ⟨w.heap.size+1+1,j,none⟩=some v:=by have e:(((w.alloc A).alloc B).alloc (.cells l t)).heap[w.heap.size+1+1]?=some (.cells l t):=bY _ _ _ (by simp);simp only[World.cell?];rw[e];simpa using h
structure aN where
 aj:List aB
 al:List ar
 start:Int
def bu(w:World)(v:Value)(m:aN):Prop:=∃sv ev,v=.agg #[sv,ev,.int .i64 m.start]∧cq w w.heap.size sv m.aj∧dm w w.heap.size ev m.al
theorem bu.carry{w w':World}{v:Value}{m:aN}(h:bu w v m)(j:Below w.heap.size w w'):bu w' v m:=by obtain⟨sv,ev,e,l,C⟩:=h;exact⟨sv,ev,e,(l.carry j).up j.size,(C.carry j).up j.size⟩
def aN.fit(m:aN):Prop:=(∀x∈m.aj,x.fit)∧(∀x∈m.al,x.fit)∧m.aj.length≤1048576∧m.al.length≤1048576
structure vf(w:World)(sa:Option Addr)(sc:Nat)(ea:Option Addr)(ec:Nat)(m:aN):Prop where
 LQ:∀x∈m.aj,x.ok
 LO:∀x∈m.al,x.ok
 sl:m.aj.length≤maxLen
 el:m.al.length≤maxLen
 sr:m.aj≠[]→∃b o,sa=some ⟨b,o,none⟩∧b<w.heap.size∧dM w b o m.aj
 er:m.al≠[]→∃b o,ea=some ⟨b,o,none⟩∧b<w.heap.size∧fo w b o m.al
theorem vf.carry{w w':World}{R:Option Addr}{T:Nat}{J:Option Addr}{P:Nat}{m:aN}(h:vf w R T J P m)(C:Below w.heap.size w w'):vf w' R T J P m:=by
 refine⟨h.LQ,h.LO,h.sl,h.el,fun l=>?_,fun l=>?_⟩;·obtain⟨b,o,e,j,I⟩:=h.sr l;exact⟨b,o,e,Nat.lt_of_lt_of_le j C.size,I.carry j C⟩
 ·obtain⟨b,o,e,j,I⟩:=h.er l;exact⟨b,o,e,Nat.lt_of_lt_of_le j C.size,I.carry j C⟩
def qD(C:Option Addr)(I:Nat)(j:Option Addr)(l:Nat)(m:aN):Value:=.agg #[.slice C m.aj.length I,.slice j m.al.length l,.int .i64 m.start]
def fj(n j hi:Int):Bool:=decide (j≤n)&&decide (n≤hi)
theorem oZ(n j hi:Int)(w:World):Calls Tryz.prog 59 #[.int .i64 n,.int .i64 j,.int .i64 hi] w fun e w'=>e=.returned (.bool (fj n j hi))∧w'=w:=Ks n j hi w
theorem GG(n:Int)(w:World):Calls Tryz.prog 61 #[.int .i64 n] w fun e w'=>e=.returned (.bool (fj n 0 2))∧w'=w:=by go_enter Tryz.func61,Tryz.ntmps61;go_wp2_with(go_at_call 59;refine(oZ _ _ _ _).mono ?_;rintro e w'⟨rfl,rfl⟩);go_ret;exact⟨aF rfl,rfl⟩
def a7(a b:ar):Bool:=decide (a.src<b.src)||(a.src==b.src&&Op.bytesLess a.label.toList b.label.toList)
theorem GF(a b:ar)(w:World):Calls Tryz.prog 62 #[a.val,b.val] w fun e w'=>e=.returned (.bool (a7 a b))∧Below w.heap.size w w':=by
 have l:=aa (show a7 a b=(decide (a.src<b.src)||(a.src==b.src&&Op.bytesLess a.label.toList b.label.toList))from rfl);unfold ar.val;by_cases J:a.src<b.src;·go_enter Tryz.func62,Tryz.ntmps62;go_wp2_with fail;all_goals go_ret;refine⟨aF ?_,(ai _ _).trans ((ai _ _).mono (by simp))⟩;rw[l.out];simp[*]
 ·have j:decide (a.src<b.src)=false:=decide_eq_false J;cases P:(a.src==b.src);all_goals have I:=aa P;have C:=aa j;go_enter Tryz.func62,Tryz.ntmps62;go_wp2_with fail;all_goals go_ret;refine⟨aF ?_,(ai _ _).trans ((ai _ _).mono (by simp))⟩;rw[l.out,I.out,C.out];simp
def iR(x:aB):Bool:=if x.kind==0 then x.peer.toList==[]else du x.peer&&fj x.kind 0 2
def eF(m:aN)(s:Int):Int:=match m.aj[s.toNat]? with|some x=>x.kind|none=>0
def pV(m:aN)(e:ar):Bool:=fj e.src 0 ((m.aj.length:Int)-1)&&(fj e.dst 0 ((m.aj.length:Int)-1)&&(du e.label&&(fj e.sort 0 2&&!(eF m e.src==0))))
def dF(m:aN)(i:Nat):Bool:=match m.al[i]? with|none=>true|some e=>pV m e&&(match i,m.al[i-1]? with|0,_=>true|_+1,some j=>a7 j e|_+1,none=>true)
def iF(m:aN):Bool:=fj (m.aj.length:Int) 1 40&&(decide (m.al.length≤80)&&fj m.start 0 ((m.aj.length:Int)-1))
def aW(m:aN):Bool:=iF m&&(m.aj.all iR&&(List.range m.al.length).all (dF m))
theorem dt{q:Bool}{n j hi:Int}(h:fj n j hi=q)(w:World):Calls Tryz.prog 59 #[.int .i64 n,.int .i64 j,.int .i64 hi] w fun e w'=>e=.returned (.bool q)∧w'=w:=by subst h;exact oZ n j hi w
theorem fC{q:Bool}{n:Int}(h:fj n 0 2=q)(w:World):Calls Tryz.prog 61 #[.int .i64 n] w fun e w'=>e=.returned (.bool q)∧w'=w:=by subst h;exact GG n w
theorem lj{q:Bool}{a b:ar}(h:a7 a b=q)(w:World):Calls Tryz.prog 62 #[a.val,b.val] w fun e w'=>e=.returned (.bool q)∧Below w.heap.size w w':=by subst h;exact GF a b w
theorem dZ{q:Bool}{s:ByteArray}(h:du s=q)(j:s.size≤maxLen)(w:World):Calls Tryz.prog 60 #[.string s] w fun e w'=>e=.returned (.bool q)∧w'=w:=by subst h;exact mY s w j
section
attribute [local go_sem ↓] Go.wp_at_zero Go.wp_at_succ
theorem FN(a:bl)(W:World):(Op.equalIn 10000 37 (.agg #[.int .i64 a.kind,.string a.peer,.string a.label,.int .i64 a.sort]) (.agg #[.int .i64 a.kind,.string a.peer,.string a.label,.int .i64 a.sort])).run Tryz.prog W=.ok true W:=by go_simp
theorem Hm(a:aB)(W:World):(Op.equalIn 10000 75 (.agg #[.int .i64 a.kind,.string a.peer]) (.agg #[.int .i64 a.kind,.string a.peer])).run Tryz.prog W=.ok true W:=by go_simp
theorem F8(a:ar)(W:World):(Op.equalIn 10000 61 (.agg #[.int .i64 a.src,.string a.label,.int .i64 a.sort,.int .i64 a.dst]) (.agg #[.int .i64 a.src,.string a.label,.int .i64 a.sort,.int .i64 a.dst])).run Tryz.prog W=.ok true W:=by go_simp
theorem Gv(a:List bl)(u v:Value)(w:World)(hu:cU w w.heap.size u a)(hv:cU w w.heap.size v a):Calls Tryz.prog 17 #[u,v] w fun e w'=>e=.returned (.bool true)∧Below w.heap.size w w':=by
 obtain⟨ax,cx,rfl,af,P,U⟩:=hu;obtain⟨ay,cy,rfl,ag,ao,ab⟩:=hv;have ac:=aa U;have ad:=aa ab;obtain⟨L,hA⟩:∃L,a.length=L:=⟨_,rfl⟩;rw[hA]at af P ag⊢;have av:L≤4294967296:=P;have HL:=aa hA;clear U ab hA P ao;go_enter Tryz.func17,Tryz.ntmps17;go_wp2_with fail;go_loopw[5](fun i wr=>∃k:Nat,k≤L∧i=.int .i64 k∧Below w.heap.size w wr)(fun i _=>L-(intOf i).toNat);case atStart=>exact⟨0,Nat.zero_le _,rfl,Below.refl _ _⟩
 case round=>
  obtain⟨k,hk,rfl,I⟩:=hrel;have j:=aa I;clear I;by_cases T:k<L;·
   have l:k<a.length:=by rw[HL.out];exact T
   obtain⟨g,o,rfl,ah,J⟩:=ac.out (by intro h;rw[h]at l;simp at l);obtain⟨g',o',rfl,R,C⟩:=ad.out (by intro h;rw[h]at l;simp at l);have c0:=((J.carry ah j.out).get k l);have d0:=((C.carry R j.out).get k l);obtain⟨x,hx⟩:∃x,a[k]=x:=⟨_,rfl⟩;rw[hx]at c0 d0;obtain⟨c0,c1,c2,c3⟩:=c0;obtain⟨d0,d1,d2,d3⟩:=d0;have heq:=FN x;clear J C hx;go_wp2_with fail;go_region;go_wp2_with fail;all_goals
    go_roundw;case rel=>exact⟨k+1,T,by go_num,by first|exact j.out|exact j.out.drew⟩
    case measure=>simp[intOf];omega
  ·obtain rfl:L=k:=by omega
   go_wp2_with fail;go_ret;exact⟨rfl,j.out⟩
theorem lf(m:aN)(u v:Value)(w:World)(hu:bu w u m)(hv:bu w v m):Calls Tryz.prog 16 #[u,v] w fun e w'=>e=.returned (.bool true)∧Below w.heap.size w w':=by
 obtain⟨su,eu,rfl,a4,a2⟩:=hu;obtain⟨sv,ev,rfl,a5,a3⟩:=hv;obtain⟨pa,pc,rfl,av,ax,ac⟩:=a4;obtain⟨qa,qc,rfl,ay,az,ad⟩:=a2;obtain⟨ra,rc,rfl,a0,ba,af⟩:=a5;obtain⟨ta,tc,rfl,a1,bb,ag⟩:=a3;have HS:=aa ac;have HE:=aa ad;have ao:=aa af;have ah:=aa ag;obtain⟨L,hA⟩:∃L,m.aj.length=L:=⟨_,rfl⟩;obtain⟨K,hB⟩:∃K,m.al.length=K:=⟨_,rfl⟩;rw[hA]at av ax a0⊢;rw[hB]at ay az a1⊢;have HL:=aa hA;have HK:=aa hB;have HX:Hid (∀W,Below (w.heap.size+2) ((w.alloc (.cells #[.slice pa L pc,.slice qa K qc,.int .i64 m.start] 28)).alloc (.cells #[.slice ra L rc,.slice ta K tc,.int .i64 m.start] 28)) W→bA W w.heap.size [.slice pa L pc,.slice qa K qc,.int .i64 m.start]∧bA W (w.heap.size+1) [.slice ra L rc,.slice ta K tc,.int .i64 m.start]∧Below w.heap.size w W):=aa (fun W hb=>by
  have a8:((w.alloc (.cells #[.slice pa L pc,.slice qa K qc,.int .i64 m.start] 28)).alloc (.cells #[.slice ra L rc,.slice ta K tc,.int .i64 m.start] 28)).heap.size=w.heap.size+2:=by simp
  have U:=hb;rw[←a8]at U;refine⟨((bA.new w [.slice pa L pc,.slice qa K qc,.int .i64 m.start] 28).keep (ak (ai _ _)) (by simp)).keep (ak U) (by simp),?_,(ai _ _).trans (((ai _ _).trans (U.mono (by simp))).mono (by simp))⟩;have:=(bA.new (w.alloc (.cells #[.slice pa L pc,.slice qa K qc,.int .i64 m.start] 28)) [.slice ra L rc,.slice ta K tc,.int .i64 m.start] 28).keep (ak U) (by simp);rw[World.size_alloc]at this;exact this);clear ac ad af ag hA hB;go_enter Tryz.func16,Tryz.ntmps16;go_wp2_with fail;go_loopw[5](fun i wr=>∃k:Nat,k≤L∧i=.int .i64 k∧Below (w.heap.size+2) ((w.alloc (.cells #[.slice pa L pc,.slice qa K qc,.int .i64 m.start] 28)).alloc (.cells #[.slice ra L rc,.slice ta K tc,.int .i64 m.start] 28)) wr)(fun i _=>L-(intOf i).toNat);case atStart=>exact⟨0,Nat.zero_le _,rfl,Below.refl _ _⟩
 case round=>
  obtain⟨k,hk,rfl,l⟩:=hrel;obtain⟨P,hy,hw⟩:=HX.out _ l;have I:=aa l;have HW:=aa hw;have x0:=P.cell 0 _ rfl;have x1:=P.cell 1 _ rfl;have x2:=P.cell 2 _ rfl;have y0:=hy.cell 0 _ rfl;have y1:=hy.cell 1 _ rfl;have y2:=hy.cell 2 _ rfl;clear l P hy hw;by_cases T:k<L;·
   have j:k<m.aj.length:=by rw[HL.out];exact T
   obtain⟨g,o,rfl,ab,J⟩:=HS.out (by intro h;rw[h]at j;simp at j);obtain⟨g',o',rfl,R,C⟩:=ao.out (by intro h;rw[h]at j;simp at j);have c0:=((J.carry ab HW.out).get k j);have d0:=((C.carry R HW.out).get k j);obtain⟨x,P⟩:∃x,m.aj[k]=x:=⟨_,rfl⟩;rw[P]at c0 d0;obtain⟨c0,c1⟩:=c0;obtain⟨d0,d1⟩:=d0;have heq:=Hm x;clear J C P;go_wp2_with fail;go_region;go_wp2_with fail;all_goals
    go_roundw;case rel=>exact⟨k+1,T,by go_num,by first|exact I.out|exact I.out.drew⟩
    case measure=>simp[intOf];omega
  ·obtain rfl:L=k:=by omega
   go_wp2_with fail;go_loopw[6](fun i a9=>∃k:Nat,k≤K∧i=.int .i64 k∧Below (w.heap.size+2) ((w.alloc (.cells #[.slice pa L pc,.slice qa K qc,.int .i64 m.start] 28)).alloc (.cells #[.slice ra L rc,.slice ta K tc,.int .i64 m.start] 28)) a9)(fun i _=>K-(intOf i).toNat);case atStart=>exact⟨0,Nat.zero_le _,rfl,I.out⟩
   case round=>
    clear x0 x1 x2 y0 y1 y2;obtain⟨k,hk,rfl,l⟩:=hrel;obtain⟨P,hy,hw⟩:=HX.out _ l;have I:=aa l;have HW:=aa hw;have x0:=P.cell 0 _ rfl;have x1:=P.cell 1 _ rfl;have x2:=P.cell 2 _ rfl;have y0:=hy.cell 0 _ rfl;have y1:=hy.cell 1 _ rfl;have y2:=hy.cell 2 _ rfl;clear l P hy hw;by_cases T:k<K;·
     have j:k<m.al.length:=by rw[HK.out];exact T
     obtain⟨g,o,rfl,ab,J⟩:=HE.out (by intro h;rw[h]at j;simp at j);obtain⟨g',o',rfl,R,C⟩:=ah.out (by intro h;rw[h]at j;simp at j);have c0:=((J.carry ab HW.out).get k j);have d0:=((C.carry R HW.out).get k j);obtain⟨x,P⟩:∃x,m.al[k]=x:=⟨_,rfl⟩;rw[P]at c0 d0;obtain⟨c0,c1,c2,c3⟩:=c0;obtain⟨d0,d1,d2,d3⟩:=d0;have heq:=F8 x;clear J C P;go_wp2_with fail;go_region;go_wp2_with fail;all_goals
      go_roundw;case rel=>exact⟨k+1,T,by go_num,by first|exact I.out|exact I.out.drew⟩
      case measure=>simp[intOf];omega
    ·obtain rfl:K=k:=by omega
     go_wp2_with fail;go_ret;exact⟨rfl,HW.out⟩
def oO(a b:Int):Int:=if a<b then-1 else if b<a then 1 else 0
def oP(a b:ByteArray):Int:=if Op.bytesLess a.toList b.toList then-1 else if a.toList==b.toList then 0 else 1
theorem nQ(a:Int)(w:World):Calls Tryz.prog 112 #[.int .i64 a] w fun e w'=>e=.returned (.bool false)∧w'=w:=by go_enter Tryz.func112,Tryz.ntmps112;go_wp2_with fail;go_ret;exact⟨aF (by simp),rfl⟩
theorem nR(a:ByteArray)(w:World):Calls Tryz.prog 113 #[.string a] w fun e w'=>e=.returned (.bool false)∧w'=w:=by go_enter Tryz.func113,Tryz.ntmps113;go_wp2_with fail;go_ret;exact⟨aF (by simp),rfl⟩
theorem qp(a b:Int)(w:World):Calls Tryz.prog 75 #[.int .i64 a,.int .i64 b] w fun e w'=>e=.returned (.int .i64 (oO a b))∧w'=w:=by
 by_cases l:a<b;·have j:Hid (oO a b=-1):=aa (by rw[oO,if_pos l]);go_enter Tryz.func75,Tryz.ntmps75;go_wp2_with(go_at_call 112;refine(nQ _ _).mono ?_;rintro e w'⟨rfl,rfl⟩);go_ret;exact⟨aU j.out,rfl⟩
 ·by_cases C:b<a;·have j:Hid (oO a b=1):=aa (by rw[oO,if_neg l,if_pos C]);go_enter Tryz.func75,Tryz.ntmps75;go_wp2_with(go_at_call 112;refine(nQ _ _).mono ?_;rintro e w'⟨rfl,rfl⟩);go_ret;exact⟨aU j.out,rfl⟩
  ·have j:Hid (oO a b=0):=aa (by rw[oO,if_neg l,if_neg C]);go_enter Tryz.func75,Tryz.ntmps75;go_wp2_with(go_at_call 112;refine(nQ _ _).mono ?_;rintro e w'⟨rfl,rfl⟩);go_ret;exact⟨aU j.out,rfl⟩
theorem qq(a b:ByteArray)(w:World):Calls Tryz.prog 76 #[.string a,.string b] w fun e w'=>e=.returned (.int .i64 (oP a b))∧w'=w:=by
 cases l:Op.bytesLess a.toList b.toList;·
  cases C:(a.toList==b.toList);·have j:Hid (oP a b=1):=aa (by simp[oP,l,C]);go_enter Tryz.func76,Tryz.ntmps76;go_wp2_with(go_at_call 113;refine(nR _ _).mono ?_;rintro e w'⟨rfl,rfl⟩);go_ret;exact⟨aU j.out,rfl⟩
  ·have j:Hid (oP a b=0):=aa (by simp[oP,l,C]);go_enter Tryz.func76,Tryz.ntmps76;go_wp2_with(go_at_call 113;refine(nR _ _).mono ?_;rintro e w'⟨rfl,rfl⟩);go_ret;exact⟨aU j.out,rfl⟩
 ·have j:Hid (oP a b=-1):=aa (by simp[oP,l]);go_enter Tryz.func76,Tryz.ntmps76;go_wp2_with(go_at_call 113;refine(nR _ _).mono ?_;rintro e w'⟨rfl,rfl⟩);go_ret;exact⟨aU j.out,rfl⟩
def Ji(a b:Int):Int:=if a=0 then b else a
theorem Dm(a b:Int)(g:Nat)(w:World)(T:w.cell? ⟨g,0,none⟩=some (.int .i64 a))(U:w.cell? ⟨g,1,none⟩=some (.int .i64 b)):Calls Tryz.prog 74 #[.slice (some ⟨g,0,none⟩) 2 2] w fun e w'=>e=.returned (.int .i64 (Ji a b))∧w'=w:=by
 have J:Hid (Ji a b=if a=0 then b else a):=aa rfl;go_enter Tryz.func74,Tryz.ntmps74;go_wp2_with fail;go_loop[8](fun i=>i=.int .i64 0∨(i=.int .i64 1∧a=0)∨(i=.int .i64 2∧a=0∧b=0))(fun i=>2-(intOf i).toNat);case atStart=>exact .inl rfl
 case round=>
  rcases hrel with rfl|⟨rfl,j⟩|⟨rfl,j,C⟩;·
   by_cases j:a=0;·
    have P:(a !=0)=false:=by simp[j]
    have l:=aa j;clear j;go_wp2_with fail;go_round;case rel=>exact .inr (.inl ⟨rfl,l.out⟩)
    case measure=>simp[intOf]
   ·have P:(a !=0)=true:=by simp[j]
    have l:=aa j;clear j;go_wp2_with fail;go_ret;exact⟨aU (by rw[J.out,if_neg l.out]),rfl⟩
  ·have l:=aa j;clear j;by_cases C:b=0;·
    have R:(b !=0)=false:=by simp[C]
    have I:=aa C;clear C;go_wp2_with fail;go_round;case rel=>exact .inr (.inr ⟨rfl,l.out,I.out⟩)
    case measure=>simp[intOf]
   ·have R:(b !=0)=true:=by simp[C]
    clear C;go_wp2_with fail;go_ret;exact⟨aU (by rw[J.out,if_pos l.out]),rfl⟩
  ·have l:=aa j;have I:=aa C;clear j C;go_wp2_with fail;go_ret;exact⟨aU (by rw[J.out,if_pos l.out,I.out]),rfl⟩
def pE(a b:ar):Int:=Ji (oO a.src b.src) (oP a.label b.label)
theorem tM(a b:ar)(w:World):Calls Tryz.prog 31 #[a.val,b.val] w fun e w'=>e=.returned (.int .i64 (pE a b))∧Below w.heap.size w w':=by have C:Hid (pE a b=Ji (oO a.src b.src) (oP a.label b.label)):=aa rfl;unfold ar.val;go_enter Tryz.func31,Tryz.ntmps31;go_wp2_with fail;have l:Below w.heap.size w ((w.alloc (.cells #[.int .i64 a.src,.string a.label,.int .i64 a.sort,.int .i64 a.dst] 61)).alloc (.cells #[.int .i64 b.src,.string b.label,.int .i64 b.sort,.int .i64 b.dst] 61)):=(ai _ _).trans ((ai _ _).mono (by simp));have j:=aa l;clear l;go_region_held3(fun w'=>w'.cell? ⟨w.heap.size,0,none⟩=some (.int .i64 a.src)∧w'.cell? ⟨w.heap.size,1,none⟩=some (.string a.label)∧w'.cell? ⟨w.heap.size+1,0,none⟩=some (.int .i64 b.src)∧w'.cell? ⟨w.heap.size+1,1,none⟩=some (.string b.label))(go_keep)(first|(go_at_call 75;refine(qp _ _ _).mono ?_;rintro e w'⟨rfl,rfl⟩)|(go_at_call 76;refine(qq _ _ _).mono ?_;rintro e w'⟨rfl,rfl⟩)|(go_at_call 74;refine(Dm (oO a.src b.src) (oP a.label b.label) _ _ (by exact wL _ _ _ _ _ _ _ rfl) (by exact wL _ _ _ _ _ _ _ rfl)).mono ?_;rintro e w'⟨rfl,rfl⟩));all_goals go_wp2_with fail;go_ret;exact⟨aU C.out,by first|exact j.out.trans ((ai _ _).mono j.out.size)|exact j.out.drew.trans ((ai _ _).mono j.out.drew.size)|exact(j.out.trans ((ai _ _).mono j.out.size)).drew⟩
end
def gF(m:aN)(E:List ar):Nat→Int→Prop|0,t=>eF m t=0|j+1,t=>∃e∈E,e.src=t∧gF m E j e.dst
def oI(R:List Int)(e:ar):Bool:=!R.contains e.src
theorem lX{R:List Int}{e:ar}:oI R e=true↔e.src∉R:=by simp[oI]
theorem qt{m:aN}{E:List ar}(R:List Int):∀{j:Nat}{t:Int},gF m E j t→gF m (E.filter (oI R)) j t∨∃e∈E,e.src∈R∧∃C,C<j∧gF m (E.filter (oI R)) C e.dst
 |0,_,hj=>.inl hj|j+1,t,⟨e,P,h1,h2⟩=>by
  rcases qt R h2 with h|⟨T,I,l,C,J,U⟩;·
   by_cases l:e.src∈R;·exact .inr ⟨e,P,l,j,Nat.lt_succ_self _,h⟩
   ·exact .inl ⟨e,List.mem_filter.2 ⟨P,lX.2 l⟩,h1,h⟩
  ·exact .inr ⟨T,I,l,C,Nat.lt_succ_of_lt J,U⟩
def jl(m:aN)(s:Int)(r:Int):Prop:=(r=-1∧∀j,¬gF m m.al j s)∨∃k:Nat,r=k∧gF m m.al k s∧∀j,gF m m.al j s→k≤j
theorem jl.unique{m:aN}{s r C:Int}(h:jl m s r)(I:jl m s C):r=C:=by
 rcases h with⟨rfl,j⟩|⟨k,rfl,j,J⟩<;>rcases I with⟨rfl,l⟩|⟨R,rfl,l,P⟩;·rfl
 ·exact absurd l (j _)
 ·exact absurd j (l _)
 ·have:=J _ l;have:=P _ j;omega
structure JM(m:aN)(s:Int)(k:Nat)(E:List ar)(R:List Int):Prop where
 sub:∀e∈E,e∈m.al
 F2:∀t∈R,∀j,gF m m.al j t→gF m m.al (k+j) s
 all:∀j,gF m m.al j s→∃t∈R,∃j',k+j'≤j∧gF m E j' t
 small:2*E.length+(if R=[]then 0 else 1)+k≤161
 KL:∀t∈R,0≤t∧t<(m.aj.length:Int)
theorem Bz{m:aN}{s:Int}(P:m.al.length≤80)(I:0≤s)(J:s<(m.aj.length:Int)):JM m s 0 m.al [s]where
 sub:=fun _ h=>h;F2:=fun t l j C=>by simp at l;subst l;simpa using C
 all:=fun j C=>⟨s,by simp,j,by omega,C⟩;small:=by simp;omega
 KL:=fun t l=>by simp at l;subst l;exact⟨I,J⟩
theorem Dg{m:aN}{s:Int}{k:Nat}{E:List ar}{R R':List Int}(h:JM m s k E R)(ad:∀t∈R,eF m t≠0)(I:∀e∈m.al,0≤e.dst∧e.dst<(m.aj.length:Int))(ac:R≠[])(T:∀x,x∈R'↔∃e∈E,e.src∈R∧e.dst=x):JM m s (k+1) (E.filter (oI R)) R' where
 sub:=fun e l=>h.sub e (List.mem_filter.1 l).1;F2:=fun t C j hj=>by obtain⟨e,l,hs,rfl⟩:=(T t).1 C;have:=h.F2 e.src hs (j+1) ⟨e,h.sub e l,rfl,hj⟩;rwa[show k+1+j=k+(j+1)by omega]
 all:=fun j hj=>by
  obtain⟨t,C,j',ag,J⟩:=h.all j hj;rcases qt R J with P|⟨e,l,hs,j2,af,h2⟩;·cases j' with|zero=>exact absurd P (ad t C)|succ j'=>obtain⟨e,l,h3,_⟩:=P;exact absurd (h3▸C) (lX.1 (List.mem_filter.1 l).2)
  ·exact⟨e.dst,(T _).2 ⟨e,l,hs,rfl⟩,j2,by omega,h2⟩
 small:=by
  have P:=h.small;rw[if_neg ac]at P;have h2:(E.filter (oI R)).length≤E.length:=List.length_filter_le _ _;by_cases l:R'=[];·rw[if_pos l];omega
  ·rw[if_neg l];obtain⟨x,hx⟩:=List.exists_mem_of_ne_nil _ l;obtain⟨e,U,ab,_⟩:=(T x).1 hx;have h3:(E.filter (oI R)).length<E.length:=by apply List.length_filter_lt_length_iff_exists.2;exact⟨e,U,fun h=>lX.1 h ab⟩
   omega
 KL:=fun t C=>by obtain⟨e,l,_,rfl⟩:=(T t).1 C;exact I e (h.sub e l)
theorem Bx{m:aN}{s:Int}{k:Nat}{E:List ar}{R:List Int}(h:JM m s k E R){t:Int}(I:t∈R)(l:eF m t=0):jl m s (k:Int):=.inr ⟨k,rfl,h.F2 t I 0 l,fun j C=>by obtain⟨_,_,P,J,_⟩:=h.all j C;omega⟩
theorem Df{m:aN}{s:Int}{k:Nat}{E:List ar}(h:JM m s k E []):jl m s (-1):=.inl ⟨rfl,fun j l=>by obtain⟨_,C,_⟩:=h.all j l;cases C⟩
def lQ(m:aN)(d:Nat)(t:Int):Prop:=gF m m.al d t∧∀j,gF m m.al j t→d≤j
theorem lQ.eq{m:aN}{d j:Nat}{t:Int}(h:lQ m d t)(l:lQ m j t):d=j:=Nat.le_antisymm (h.2 _ l.1) (l.2 _ h.1)
theorem uo{m:aN}{t:Int}:∀(n:Nat){j:Nat},j≤n→gF m m.al j t→∃d,d≤j∧lQ m d t
 |0,j,T,h=>⟨j,Nat.le_refl _,h,fun _ _=>by omega⟩|n+1,j,T,h=>by
  by_cases J:∃l,l<j∧gF m m.al l t;·obtain⟨l,U,P⟩:=J;obtain⟨d,h3,R⟩:=uo n (by omega) P;exact⟨d,by omega,R⟩
  ·exact⟨j,Nat.le_refl _,h,fun l C=>by
    by_cases I:j≤l;·exact I
    ·exact absurd ⟨l,by omega,C⟩ J⟩
theorem qO:∀(n:Nat)(l:List Int),l.Nodup→(∀x∈l,0≤x∧x<(n:Int))→l.length≤n
 |0,l,_,h=>by cases l with|nil=>simp|cons a l=>have:=h a (by simp);omega
 |n+1,l,hd,h=>by have j:=qO n (l.erase (n:Int)) (hd.erase _) (fun x I=>by have C:=(hd.mem_erase_iff).1 I;have:=h x C.2;have:=C.1;omega);rw[List.length_erase]at j;split at j<;>omega
theorem uK{m:aN}(C:∀e∈m.al,0≤e.dst∧e.dst<(m.aj.length:Int)):∀(d:Nat){t:Int},0≤t→t<(m.aj.length:Int)→lQ m d t→∃l:List Int,l.length=d+1∧l.Nodup∧∀x∈l,(0≤x∧x<(m.aj.length:Int))∧∃c,c≤d∧lQ m c x
 |0,t,R,T,h=>⟨[t],rfl,by simp,fun x P=>by simp at P;subst P;exact⟨⟨R,T⟩,0,Nat.le_refl _,h⟩⟩|d+1,t,R,T,h=>by
  obtain⟨e,U,hs,hd⟩:=h.1;have J:lQ m d e.dst:=⟨hd,fun j hj=>by have:=h.2 (j+1) ⟨e,U,hs,hj⟩;omega⟩;obtain⟨l,hl,hn,P⟩:=uK C d (C e U).1 (C e U).2 J;refine⟨t::l,by simp[hl],List.nodup_cons.2 ⟨fun ht=>?_,hn⟩,fun x I=>?_⟩;·obtain⟨_,c,hc,hm⟩:=P t ht;have:=h.eq hm;omega
  ·rcases List.mem_cons.1 I with rfl|I;·exact⟨⟨R,T⟩,d+1,Nat.le_refl _,h⟩
   ·obtain⟨h2,c,hc,hm⟩:=P x I;exact⟨h2,c,by omega,hm⟩
theorem oS{m:aN}(j:∀e∈m.al,0≤e.dst∧e.dst<(m.aj.length:Int)){d:Nat}{t:Int}(I:0≤t)(J:t<(m.aj.length:Int))(h:lQ m d t):d<m.aj.length:=by obtain⟨l,T,P,R⟩:=uK j d I J h;have:=qO m.aj.length l P (fun x C=>(R x C).1);omega
def dB(f:List Int)(i:Int):Int:=f.getD i.toNat (-1)
def tw(f:List Int)(e:ar):Bool:=decide (0≤dB f e.dst)&&(decide (dB f e.src<0)||decide (dB f e.dst+1<dB f e.src))
def kC(f:List Int)(e:ar):List Int:=if tw f e then f.set e.src.toNat (dB f e.dst+1)else f
structure yL(m:aN)(f:List Int)(c:Nat):Prop where
 len:f.length=m.aj.length
 sound:∀i,0≤i→i<(m.aj.length:Int)→dB f i=-1∨(0≤dB f i∧gF m m.al (dB f i).toNat i)
 most:∀i,dB f i≤c
def oE(m:aN)(f:List Int)(r:Nat):Prop:=∀i j,0≤i→i<(m.aj.length:Int)→j≤r→gF m m.al j i→0≤dB f i∧dB f i≤j
def z8(m:aN)(f:List Int)(r q:Nat):Prop:=∀p,p<q→∀e,m.al[p]?=some e→∀j,j≤r→gF m m.al j e.dst→0≤dB f e.src∧dB f e.src≤j+1
theorem DB{f:List Int}{a i:Int}{x:Int}(l:0≤a)(hi:0≤i)(j:a.toNat<f.length):dB (f.set a.toNat x) i=if i=a then x else dB f i:=by
 unfold dB;rw[List.getD_eq_getElem?_getD,List.getD_eq_getElem?_getD,List.getElem?_set];by_cases h:i=a;·subst h;simp[j]
 ·rw[if_neg h,if_neg (by omega)]
theorem DA{f:List Int}{i:Int}(h:f.length≤i.toNat):dB f i=-1:=by unfold dB;rw[List.getD_eq_getElem?_getD,List.getElem?_eq_none h];rfl
def fu(m:aN)(k:Nat):List Int:=(m.aj.take k).map (fun x=>if x.kind=0 then 0 else-1)
theorem wY{m:aN}{k:Nat}(h:k<m.aj.length):fu m (k+1)=fu m k++[if m.aj[k].kind=0 then 0 else-1]:=by rw[fu,List.take_succ_eq_append_getElem h,List.map_append];rfl
theorem Ge(m:aN):yL m (fu m m.aj.length) 0∧oE m (fu m m.aj.length) 0:=by
 have I:∀i:Int,0≤i→i<(m.aj.length:Int)→dB (fu m m.aj.length) i=if eF m i=0 then 0 else-1:=by
  intro i l C;have hi:i.toNat<m.aj.length:=by omega
  unfold dB fu eF;rw[List.getD_eq_getElem?_getD,List.take_length,List.getElem?_map,List.getElem?_eq_getElem hi];rfl
 refine⟨⟨by simp[fu],fun i l C=>?_,fun i=>?_⟩,fun i j l C R h=>?_⟩;·
  rw[I i l C];by_cases J:eF m i=0;·rw[if_pos J];exact .inr ⟨Int.le_refl _,J⟩
  ·rw[if_neg J];exact .inl rfl
 ·by_cases hi:i.toNat<m.aj.length;·
   have:=I (i.toNat:Int) (by omega) (by omega);have P:dB (fu m m.aj.length) i=dB (fu m m.aj.length) (i.toNat:Int):=by rw[dB,dB,Int.toNat_natCast]
   rw[P,this];split<;>simp
  ·rw[DA (by simp[fu];omega)];simp
 ·obtain rfl:j=0:=by omega
  rw[I i l C,if_pos (show eF m i=0 from h)];simp
theorem Cr{m:aN}{f:List Int}{c r q:Nat}{e:ar}(h:yL m f c)(ht:oE m f r)(hb:z8 m f r q)(he:m.al[q]?=some e)(hs:0≤e.src∧e.src<(m.aj.length:Int))(hd:0≤e.dst∧e.dst<(m.aj.length:Int))(af:∀e∈m.al,0≤e.src):yL m (kC f e) (c+1)∧oE m (kC f e) r∧z8 m (kC f e) r (q+1):=by
 have ac:e∈m.al:=List.mem_of_getElem? he;have hl:e.src.toNat<f.length:=by rw[h.len];omega
 cases hq:tw f e with
  |false=>
   have hr:kC f e=f:=by rw[kC,hq];rfl
   rw[hr];refine⟨⟨h.len,h.sound,fun i=>by have:=h.most i;omega⟩,ht,fun p hp T C j P l=>?_⟩;by_cases R:p<q;·exact hb p R T C j P l
   ·obtain rfl:p=q:=by omega
    rw[he]at C;cases C;have I:=ht e.dst j hd.1 hd.2 P l;simp[tw]at hq;have:=hq I.1;omega|true=>
   have hr:kC f e=f.set e.src.toNat (dB f e.dst+1):=by rw[kC,hq];rfl
   have ad:=hq;simp[tw]at ad;obtain⟨ah,ag⟩:=ad;have hg:∀i,0≤i→dB (f.set e.src.toNat (dB f e.dst+1)) i=if i=e.src then dB f e.dst+1 else dB f i:=fun i hi=>DB hs.1 hi hl;rw[hr];have ab:∀i,0≤i→∀z:Int,0≤dB f i→dB f i≤z→0≤dB (f.set e.src.toNat (dB f e.dst+1)) i∧dB (f.set e.src.toNat (dB f e.dst+1)) i≤z:=by
    intro i hi z I J;rw[hg i hi];split;·subst_vars;omega
    ·exact⟨I,J⟩
   refine⟨⟨by rw[List.length_set];exact h.len,fun i U I=>?_,fun i=>?_⟩,fun i j U I P l=>?_,fun p hp T C j P l=>?_⟩;·
    rw[hg i U];split;·
     subst_vars;refine .inr ⟨by omega,?_⟩;rcases h.sound e.dst hd.1 hd.2 with J|⟨_,J⟩;·omega
     ·rw[show(dB f e.dst+1).toNat=(dB f e.dst).toNat+1 by omega];exact⟨e,ac,rfl,J⟩
    ·exact h.sound i U I
   ·by_cases hi:0≤i;·rw[hg i hi];have I:=h.most i;have J:=h.most e.dst;split<;>omega
    ·have J:dB (f.set e.src.toNat (dB f e.dst+1)) i=dB (f.set e.src.toNat (dB f e.dst+1)) 0:=by simp[dB,Int.toNat_of_nonpos (show i≤0 by omega)]
     rw[J,hg 0 (by omega)];have I:=h.most 0;have J:=h.most e.dst;split<;>omega
   ·have:=ht i j U I P l;exact ab i U j this.1 this.2
   ·by_cases R:p<q;·have:=hb p R T C j P l;exact ab T.src (af T (List.mem_of_getElem? C)) (j+1) this.1 this.2
    ·obtain rfl:p=q:=by omega
     rw[he]at C;cases C;have I:=ht e.dst j hd.1 hd.2 P l;rw[hg e.src hs.1,if_pos rfl];omega
theorem BJ{m:aN}{f:List Int}{r:Nat}(ht:oE m f r)(T:z8 m f r m.al.length):oE m f (r+1):=by intro i j J P hj l;cases j with|zero=>exact ht i 0 J P (by omega) l|succ j=>obtain⟨e,U,rfl,R⟩:=l;obtain⟨p,I,C⟩:=List.getElem_of_mem U;have:=T p I e (by rw[List.getElem?_eq_getElem I,C]) j (by omega) R;exact⟨this.1,by have:=this.2;omega⟩
theorem Gc{m:aN}{f:List Int}{c:Nat}(l:∀e∈m.al,0≤e.dst∧e.dst<(m.aj.length:Int))(h:yL m f c)(U:oE m f m.aj.length){s:Int}(I:0≤s)(J:s<(m.aj.length:Int)):jl m s (dB f s):=by
 have key:∀j,gF m m.al j s→0≤dB f s∧dB f s≤j:=by intro j C;obtain⟨d,hd,R⟩:=uo j (Nat.le_refl _) C;have:=oS l I J R;have:=U s d I J (by omega) R.1;omega
 rcases h.sound s I J with P|⟨P,T⟩;·exact .inl ⟨P,fun j C=>by have:=key j C;omega⟩
 ·exact .inr ⟨(dB f s).toNat,by omega,T,fun j C=>by have:=key j C;omega⟩
def eh(s:aB):List ByteArray:=[ca s.kind,eO s.peer]
def dE(e:ar):List ByteArray:=[ca e.src,eO e.label,ca e.sort,ca e.dst]
def cD(m:aN)(k:Nat):List ByteArray:=ca (m.aj.length:Int)::(m.aj.take k).flatMap eh
def cC(m:aN)(k:Nat):List ByteArray:=cD m m.aj.length++ca (m.al.length:Int)::(m.al.take k).flatMap dE
def dw(m:aN):List ByteArray:=cC m m.al.length++[ca m.start]
def cW(m:aN):ByteArray:=dr (dw m)
theorem qQ{m:aN}{k:Nat}(h:k<m.aj.length):cD m (k+1)=cD m k++eh m.aj[k]:=by rw[cD,cD,List.take_succ_eq_append_getElem h,List.flatMap_append,List.flatMap_cons,List.flatMap_nil,List.append_nil,List.cons_append]
theorem qP{m:aN}{k:Nat}(h:k<m.al.length):cC m (k+1)=cC m k++dE m.al[k]:=by rw[cC,cC,List.take_succ_eq_append_getElem h,List.flatMap_append,List.flatMap_cons,List.flatMap_nil,List.append_nil,List.append_assoc,List.cons_append]
def EY(m:aN):Prop:=(∀s∈m.aj,s.peer.size≤20)∧(∀e∈m.al,e.label.size≤20)∧m.aj.length≤40∧m.al.length≤80
theorem jW{m:aN}(h:EY m):∀x∈dw m,x.size≤30:=by
 have l:∀n,(ca n).size≤30:=fun n=>Nat.le_trans (ff n) (by omega);have C:∀x∈cD m m.aj.length,x.size≤30:=by
  intro x j;simp only[cD,List.mem_cons,List.mem_flatMap,List.take_length]at j;rcases j with rfl|⟨s,C,j⟩;·exact l _
  ·simp only[eh,List.mem_cons,List.not_mem_nil,or_false]at j;rcases j with rfl|rfl;·exact l _
   ·exact lD _ (h.1 s C)
 intro x j;simp only[dw,cC,List.mem_append,List.mem_cons,List.mem_flatMap,List.take_length,List.not_mem_nil,or_false]at j;rcases j with(j|rfl|⟨e,I,j⟩)|rfl;·exact C x j
 ·exact l _
 ·simp only[dE,List.mem_cons,List.not_mem_nil,or_false]at j;rcases j with rfl|rfl|rfl|rfl;·exact l _
  ·exact lD _ (h.2.1 e I)
  ·exact l _
  ·exact l _
 ·exact l _
theorem qw{α:Type}(l:List α)(f:α→List ByteArray)(n:Nat)(j:∀x,(f x).length=n):(l.flatMap f).length=l.length*n:=by induction l with|nil=>simp|cons a l ih=>simp[List.flatMap_cons,j,ih,Nat.succ_mul,Nat.add_comm]
theorem tl(m:aN)(k:Nat)(j:k≤m.aj.length):(cD m k).length=1+k*2:=by rw[cD,List.length_cons,qw _ _ 2 (fun _=>rfl),List.length_take];omega
theorem lp(m:aN)(k:Nat)(j:k≤m.al.length):(cC m k).length=2+m.aj.length*2+k*4:=by rw[cC,List.length_append,tl _ _ (Nat.le_refl _),List.length_cons,qw _ _ 4 (fun _=>rfl),List.length_take];omega
theorem tk(m:aN):(dw m).length=3+m.aj.length*2+m.al.length*4:=by rw[dw,List.length_append,lp _ _ (Nat.le_refl _)];simp;omega
def dG:aN:=⟨[],[],0⟩
def LF(sv ev:Value)(m:aN)(c:Int):Value:=.agg #[sv,ev,.int .i64 m.start,.int .i64 c]
def GO:Obj:=.cells #[.slice none 0 0,.slice none 0 0,.int .i64 0,.int .i64 0] 30
structure lI(w w':World)(e:Ending)(m:aN)(c:Int):Prop where
 Lx:∃sv ev,e=.returned (LF sv ev m c)∧aV w' w.heap.size sv m.aj∧aO w' w.heap.size ev m.al∧(∀b∈an sv,b∉an ev)
 dN:Below w.heap.size w w'
theorem tz{B:Nat}{a w:World}(h:Below B a w)(j l C I:Value):Below B a ((((w.setCell ⟨B,0,none⟩ j).setCell ⟨B,1,none⟩ l).setCell ⟨B,2,none⟩ C).setCell ⟨B,3,none⟩ I):=(((h.setCell (p:=⟨B,0,none⟩) (Nat.le_refl _) _).setCell (p:=⟨B,1,none⟩) (Nat.le_refl _) _).setCell (p:=⟨B,2,none⟩) (Nat.le_refl _) _).setCell (p:=⟨B,3,none⟩) (Nat.le_refl _) _
theorem II(w:World)(B:Nat)(j l C I:Value):aw w ((((w.setCell ⟨B,0,none⟩ j).setCell ⟨B,1,none⟩ l).setCell ⟨B,2,none⟩ C).setCell ⟨B,3,none⟩ I) [B]:=(((aA w B 0 j).setCell 1 l).setCell 2 C).setCell 3 I
def jH(m:aN)(s:Int):aB:=(m.aj[s.toNat]?).getD ⟨0,ByteArray.empty⟩
def dD(m:aN)(s:Int)(e:ar):bl:=⟨(jH m s).kind,(jH m s).peer,e.label,e.sort⟩
def lV(m:aN)(s:Int):List bl:=(m.al.filter fun e=>e.src==s).map (dD m s)
def dR(m:aN)(s:Int)(k:Nat):List bl:=((m.al.take k).filter fun e=>e.src==s).map (dD m s)
theorem wy{m:aN}{s:Int}{k:Nat}(h:k<m.al.length)(j:(m.al[k].src==s)=false):dR m s (k+1)=dR m s k:=by unfold dR;rw[List.take_succ_eq_append_getElem h,List.filter_append];simp[j]
theorem tY{m:aN}{s:Int}{k:Nat}(h:k<m.al.length)(j:(m.al[k].src==s)=true):dR m s (k+1)=dR m s k++[dD m s m.al[k]]:=by unfold dR;rw[List.take_succ_eq_append_getElem h,List.filter_append,List.map_append];simp[j]
theorem tW{m:aN}{s:Int}{k:Nat}(h:m.al.length≤k):dR m s k=lV m s:=by unfold dR lV;rw[List.take_of_length_le h]
theorem tX(m:aN)(s:Int)(k:Nat):(dR m s k).length≤k:=by unfold dR;rw[List.length_map];exact Nat.le_trans (List.length_filter_le _ _) (List.length_take_le _ _)
theorem Bp(m:aN)(s:Int):(lV m s).length≤m.al.length:=by unfold lV;rw[List.length_map];exact List.length_filter_le _ _
theorem Tryz.rr:(Tryz.prog.info? 37).map (fun i=>(i.zero,i.size,i.bytes))=some (some (.agg #[.int .i64 0,.string ByteArray.empty,.string ByteArray.empty,.int .i64 0]),4,48):=by kernel_rfl
theorem dT(w:World)(a b:Obj):Below w.heap.size w ((w.alloc a).alloc b):=(ai _ _).trans ((ai _ _).mono (by simp))
theorem Er(w:World)(A:Obj)(l:List Value)(t:TypeId)(j:Nat)(u:Value)(h:l[j]?=some u):((w.alloc A).alloc (.cells l.toArray t)).cell? (Addr.add ⟨w.heap.size+1,0,none⟩ j)=some u:=by
 have e:((w.alloc A).alloc (.cells l.toArray t)).heap[w.heap.size+1]?=some (.cells l.toArray t):=bY _ _ _ (by simp);have C:Addr.add ⟨w.heap.size+1,0,none⟩ j=⟨w.heap.size+1,j,none⟩:=by unfold Addr.add;split<;>simp_all
 rw[C];simp only[World.cell?];rw[e];simpa using h
section
attribute [local go_sem ↓] Go.wp_at_zero Go.wp_at_succ
theorem bu.shape{w:World}{v:Value}{m:aN}(h:bu w v m):∃C I j l,v=qD C I j l m:=by obtain⟨sv,ev,rfl,⟨C,I,rfl,_⟩,⟨j,l,rfl,_⟩⟩:=h;exact⟨C,I,j,l,rfl⟩
theorem Gw(w:World)(a b:Obj):Below w.heap.size w ((w.alloc a).alloc b):=(ai _ _).trans ((ai _ _).mono (by simp))
theorem ck{q:Bool}{m:aN}{s:Int}(j:fj s 0 ((m.aj.length:Int)-1)=q)(v:Value)(w:World)(I:bu w v m):Calls Tryz.prog 56 #[v,.int .i64 s] w fun e w'=>e=.returned (.bool q)∧Below w.heap.size w w':=by
 have P:m.aj.length≤4294967296:=by obtain⟨sv,ev,rfl,J,he⟩:=I;exact J.jc
 obtain⟨sa,sc,T,U,rfl⟩:=I.shape;clear I;unfold qD;have R:=aa j;by_cases C:0≤s;·
  by_cases h1:s<(m.aj.length:Int);·have l:Hid (q=true):=aa (by rw[←j];simp[fj,C];omega);clear j;go_enter Tryz.func56,Tryz.ntmps56;go_wp2_with fail;go_ret;exact⟨aF l.out,ai _ _⟩
  ·have l:Hid (q=false):=aa (by rw[←j];simp[fj,C];omega);clear j;go_enter Tryz.func56,Tryz.ntmps56;go_wp2_with fail;go_ret;exact⟨aF l.out,ai _ _⟩
 ·have l:Hid (q=false):=aa (by rw[←j];simp[fj,C]);clear j;go_enter Tryz.func56,Tryz.ntmps56;go_wp2_with fail;go_ret;exact⟨aF l.out,ai _ _⟩
theorem nP{q:Bool}{x:aB}(j:(x.kind==0)=q)(w:World):Calls Tryz.prog 40 #[x.val] w fun e w'=>e=.returned (.bool q)∧Below w.heap.size w w':=by unfold aB.val;cases q;all_goals go_enter Tryz.func40,Tryz.ntmps40;go_wp2_with fail;go_ret;exact⟨aF (by first|exact j.symm|rfl),ai _ _⟩
theorem oX{q:Bool}{n:Int}(j:fj n 0 2=q)(w:World):Calls Tryz.prog 92 #[.int .i64 n] w fun e w'=>e=.returned (.bool q)∧w'=w:=by have l:=aa j;clear j;by_cases h:0≤n;all_goals go_enter Tryz.func92,Tryz.ntmps92;go_wp2_with fail;go_ret;exact⟨aF (by rw[←l.out];simp[fj, *];try omega),rfl⟩
theorem fK{q:Bool}{s:ByteArray}(h:du s=q)(j:s.size≤maxLen)(w:World):Calls Tryz.prog 91 #[.string s] w fun e w'=>e=.returned (.bool q)∧w'=w:=by subst h;exact uG s w j
theorem qT{q:Bool}{x:aB}(hq:iR x=q)(hp:x.peer.size≤maxLen)(w:World):Calls Tryz.prog 57 #[x.val] w fun e w'=>e=.returned (.bool q)∧Below w.heap.size w w':=by
 have HP:=aa hp;obtain⟨nb,j⟩:∃nb,du x.peer=nb:=⟨_,rfl⟩;have P:=aa j;obtain⟨C,l⟩:∃C,(x.kind==0)=C:=⟨_,rfl⟩;obtain⟨I,R⟩:∃I,(x.kind==1)=I:=⟨_,rfl⟩;obtain⟨J,T⟩:∃J,(x.kind==2)=J:=⟨_,rfl⟩;obtain⟨pe,U⟩:∃pe,(x.peer.toList==[])=pe:=⟨_,rfl⟩;have HQ:Hid (q=if C then pe else nb&&(I||J)):=aa (by
  rw[←hq,iR,l,U,j];cases C;·
   have:fj x.kind 0 2=(I||J):=by rw[←R,←T,fj,Bool.eq_iff_iff];simp at l⊢;omega
   simp[this]
  ·rfl);clear hq hp j;unfold aB.val;cases C;all_goals cases I
 all_goals cases J
 all_goals go_enter Tryz.func57,Tryz.ntmps57;go_wp2_with(go_at_call 91;refine(fK P.out HP.out _).mono ?_;rintro e w'⟨rfl,rfl⟩);go_ret;exact⟨aF (by rw[HQ.out];simp[*]),ai _ _⟩
end
theorem qB:∀x:List UInt8,Op.bytesLess x x=false|[]=>rfl|a::x=>by simp[Op.bytesLess,qB x]
theorem qC:∀x y z:List UInt8,Op.bytesLess x y=true→Op.bytesLess y z=true→Op.bytesLess x z=true
 |_,[],_,h,_=>by simp[Op.bytesLess]at h|_,_::_,[],_,h=>by simp[Op.bytesLess]at h|[],_::_,_::_,_,_=>rfl|a::x,b::y,c::z,l,j=>by
  simp only[Op.bytesLess,Bool.or_eq_true,Bool.and_eq_true,decide_eq_true_eq,beq_iff_eq]at l j⊢;rcases l with l|⟨rfl,l⟩;·
   rcases j with j|⟨rfl,j⟩;·exact .inl (UInt8.lt_trans l j)
   ·exact .inl l
  ·rcases j with j|⟨rfl,j⟩;·exact .inl j
   ·exact .inr ⟨rfl,qC x y z l j⟩
theorem xL{a b c:ar}(l:a7 a b=true)(j:a7 b c=true):a7 a c=true:=by
 simp only[a7,Bool.or_eq_true,Bool.and_eq_true,decide_eq_true_eq,beq_iff_eq]at l j⊢;rcases l with l|⟨e1,l⟩;·
  rcases j with j|⟨e2,j⟩;·exact .inl (by omega)
  ·exact .inl (by omega)
 ·rcases j with j|⟨e2,j⟩;·exact .inl (by omega)
  ·exact .inr ⟨by omega,qC _ _ _ l j⟩
theorem xK{a b:ar}(h:a7 a b=true)(l:a.src=b.src)(j:a.label=b.label):False:=by
 simp only[a7,Bool.or_eq_true,Bool.and_eq_true,decide_eq_true_eq,beq_iff_eq]at h;rcases h with h|⟨_,h⟩;·omega
 ·rw[j,qB]at h;cases h
theorem uj{m:aN}(h:aW m=true)(i:Nat)(hi:i+1<m.al.length):a7 m.al[i] m.al[i+1]=true:=by simp only[aW,Bool.and_eq_true]at h;have j:=List.all_eq_true.1 h.2.2 (i+1) (List.mem_range.2 hi);rw[dF,List.getElem?_eq_getElem hi]at j;simp only[Nat.add_sub_cancel,Bool.and_eq_true]at j;have l:=j.2;rw[List.getElem?_eq_getElem (by omega)]at l;exact l
theorem nJ{m:aN}(h:aW m=true)(i:Nat):∀d(hi:i+d+1<m.al.length),a7 (m.al[i]'(by omega)) m.al[i+d+1]=true|0,hi=>uj h i hi|d+1,hi=>xL (nJ h i d (by omega)) (uj h (i+d+1) hi)
theorem uk{m:aN}(h:aW m=true)(i j:Nat)(hi:i<m.al.length)(J:j<m.al.length)(I:m.al[i].src=m.al[j].src)(C:m.al[i].label=m.al[j].label):i=j:=by
 rcases Nat.lt_trichotomy i j with l|l|l;·
  exfalso;have:=nJ h i (j-i-1) (by omega);have e:i+(j-i-1)+1=j:=by omega
  simp only[e]at this;exact xK this I C
 ·exact l
 ·exfalso;have:=nJ h j (i-j-1) (by omega);have e:j+(i-j-1)+1=i:=by omega
  simp only[e]at this;exact xK this I.symm C.symm
theorem Dw{m:aN}(h:aW m=true){e:ar}(l:e∈m.al):pV m e=true:=by simp only[aW,Bool.and_eq_true]at h;obtain⟨i,hi,rfl⟩:=List.getElem_of_mem l;have j:=List.all_eq_true.1 h.2.2 i (List.mem_range.2 hi);rw[dF,List.getElem?_eq_getElem hi]at j;simp only[Bool.and_eq_true]at j;exact j.1
theorem cw{m:aN}(h:aW m=true){e:ar}(j:e∈m.al):0≤e.src∧e.src<(m.aj.length:Int)∧0≤e.dst∧e.dst<(m.aj.length:Int)∧0≤e.sort∧e.sort≤2:=by have:=Dw h j;simp[pV,fj]at this;omega
theorem iy{m:aN}(h:aW m=true):1≤m.aj.length∧m.aj.length≤40:=by simp[aW,iF,fj]at h;omega
theorem tC{m:aN}(h:aW m=true)(s:Int):0≤(jH m s).kind∧(jH m s).kind≤2:=by
 unfold jH;cases C:m.aj[s.toNat]? with
  |none=>simp|some x=>
   simp only[aW,Bool.and_eq_true]at h;have j:=List.all_eq_true.1 h.2.1 x (List.mem_of_getElem? C);simp only[iR]at j;simp only[Option.getD_some];split at j;·rename_i l;simp at l;omega
   ·simp[fj]at j;omega
def gG(a b:bl):Bool:=a.kind==b.kind&&(a.peer.toList==b.peer.toList&&(a.label.toList==b.label.toList&&a.sort==b.sort))
theorem toList_inj{a b:ByteArray}(h:a.toList=b.toList):a=b:=by rw[Go.ByteArray.toList_eq,Go.ByteArray.toList_eq]at h;apply ByteArray.ext;exact Array.ext' h
theorem pB{a b:bl}:gG a b=true↔a=b:=by
 constructor;·intro h;simp only[gG,Bool.and_eq_true,beq_iff_eq]at h;obtain⟨j,l,C,I⟩:=h;cases a;cases b;simp at j l C I;rw[j,toList_inj l,toList_inj C,I]
 ·rintro rfl;simp[gG]
def iL(m:aN)(s:Int)(a:bl):Int:=match m.al.find? (fun e=>e.src==s&&gG a (dD m s e))with|some e=>e.dst|none=>-1
theorem zP{m:aN}(h:aW m=true){s:Int}{a:bl}{e:ar}(P:e∈m.al)(R:e.src=s)(J:dD m s e=a):iL m s a=e.dst:=by
 unfold iL;cases C:m.al.find? (fun e=>e.src==s&&gG a (dD m s e))with
  |none=>have:=List.find?_eq_none.1 C e P;simp[R,pB,J]at this|some e'=>
   have l:=List.find?_some C;have T:=List.mem_of_find?_eq_some C;simp only[Bool.and_eq_true,beq_iff_eq,pB]at l;obtain⟨i,hi,rfl⟩:=List.getElem_of_mem P;obtain⟨j,U,rfl⟩:=List.getElem_of_mem T;have hl:m.al[i].label=m.al[j].label:=by have:=J.trans l.2;simp only[dD,bl.mk.injEq]at this;exact this.2.2.1
   have I:=uk h i j hi U (R.trans l.1.symm) hl;subst I;rfl
theorem zO{m:aN}{s:Int}{a:bl}(h:∀e∈m.al,¬(e.src=s∧dD m s e=a)):iL m s a=-1:=by
 unfold iL;have:m.al.find? (fun e=>e.src==s&&gG a (dD m s e))=none:=by rw[List.find?_eq_none];intro e l j;simp only[Bool.and_eq_true,beq_iff_eq,pB]at j;exact h e l ⟨j.1,j.2.symm⟩
 rw[this]
section
attribute [local go_sem ↓] Go.wp_at_zero Go.wp_at_succ
theorem kU{q:Bool}{m:aN}{x:ar}(hq:pV m x=q)(hl:x.label.size≤maxLen)(v:Value)(w:World)(hv:bu w v m):Calls Tryz.prog 58 #[v,x.val] w fun e w'=>e=.returned (.bool q)∧Below w.heap.size w w':=by
 have HL:=aa hl;have HV:Hid (∀W,Below w.heap.size w W→∀g:Grown W,bu g.val v m):=aa (fun W hb g=>(hv.carry hb).carry g.dN);have HS:Hid (fj x.src 0 ((m.aj.length:Int)-1)=true→∃b o sa sc ea ec s,v=qD sa sc ea ec m∧sa=some ⟨b,o,none⟩∧(s:aB).kind=eF m x.src∧∀W,Below w.heap.size w W→W.cell? ⟨b,o+x.src.toNat*2,none⟩=some (.int .i64 s.kind)∧W.cell? ⟨b,o+x.src.toNat*2+1,none⟩=some (.string s.peer)):=aa (fun a9=>by
  obtain⟨sv,ev,rfl,hs,he⟩:=hv;obtain⟨sa,sc,rfl,_,_,ba⟩:=hs;obtain⟨ea,ec,rfl,_⟩:=he;have ax:0≤x.src∧x.src<(m.aj.length:Int):=by simp[fj]at a9;omega
  obtain⟨b,o,rfl,a8,a0⟩:=ba (by intro h;rw[h]at ax;simp at ax;omega);have az:x.src.toNat<m.aj.length:=by omega
  have:=a0.get x.src.toNat az;exact⟨b,o,_,sc,ea,ec,m.aj[x.src.toNat],rfl,rfl,by rw[eF,List.getElem?_eq_getElem az],fun W hb=>this.carry a8 hb⟩);have bf:m.aj.length≤4294967296:=by obtain⟨sv,ev,rfl,hs,he⟩:=hv;exact hs.jc
 obtain⟨sa,sc,ea,ec,a2⟩:=hv.shape;have be:=aa a2;clear hv;obtain⟨q1,af⟩:∃q1,fj x.src 0 ((m.aj.length:Int)-1)=q1:=⟨_,rfl⟩;obtain⟨q2,ag⟩:∃q2,fj x.dst 0 ((m.aj.length:Int)-1)=q2:=⟨_,rfl⟩;obtain⟨q3,ah⟩:∃q3,du x.label=q3:=⟨_,rfl⟩;obtain⟨q4,ao⟩:∃q4,fj x.sort 0 2=q4:=⟨_,rfl⟩;obtain⟨q5,av⟩:∃q5,(eF m x.src==0)=q5:=⟨_,rfl⟩;have HQ:Hid (q=(q1&&(q2&&(q3&&(q4&&!q5))))):=aa (by rw[←hq,pV,af,ag,ah,ao,av]);have R:=aa af;have U:=aa ag;have ab:=aa ah;have ac:=aa ao;have a3:=aa av;clear af ag ah ao av hq;have T:Hid (∀W A B,W=(w.alloc A).alloc B→Below w.heap.size w W):=aa (fun W A B l=>by rw[l];exact Gw _ _ _);subst a2;cases q1;·unfold qD ar.val;go_enter Tryz.func58,Tryz.ntmps58;go_wp2_with(refine bj 5 (fun W l=>?_);have J:=aH W;have f0:=ae (w:=W) (b:=w.heap.size) (o:=0) (v:=.slice sa m.aj.length sc) (by rw[l];simp);have f1:=ae (w:=W) (b:=w.heap.size) (o:=1) (v:=.slice ea m.al.length ec) (by rw[l];simp);have f2:=ae (w:=W) (b:=w.heap.size) (o:=2) (v:=.int .i64 m.start) (by rw[l];simp);have g0:=ae (w:=W) (b:=w.heap.size+1) (o:=0) (v:=.int .i64 x.src) (by rw[l];simp);have g1:=ae (w:=W) (b:=w.heap.size+1) (o:=1) (v:=.string x.label) (by rw[l];simp);have g2:=ae (w:=W) (b:=w.heap.size+1) (o:=2) (v:=.int .i64 x.sort) (by rw[l];simp);have g3:=ae (w:=W) (b:=w.heap.size+1) (o:=3) (v:=.int .i64 x.dst) (by rw[l];simp);have j:=aa (T.out W _ _ l);clear l;(repeat(go_big_quiet_step(first|(go_at_call_of 56 x.src;exact aD (ck R.out _ _ (HV.out _ j.out _)))|(go_at_call_of 56 x.dst;exact aD (ck U.out _ _ (HV.out _ j.out _))))));refine wpQuiet_nil ?_;intro w1 C;have I:=aa C;clear C J f0 f1 f2 g0 g1 g2 g3);go_ret;exact⟨aF (by rw[HQ.out];simp),j.out.trans (I.out.mono j.out.size)⟩
 ·obtain⟨b,o,bk,bb,a4,a5,st,P,rfl,ay,a1⟩:=HS.out R.out;obtain⟨rfl,rfl,rfl,rfl⟩:sa=some ⟨b,o,none⟩∧sc=bb∧ea=a4∧ec=a5:=by simp[qD]at P;exact⟨P.1.1,P.1.2,P.2.1,P.2.2⟩
  have HK:Hid ((st.kind==0)=q5):=aa (by rw[ay];exact a3.out);have ad:=aa a1;have hx:0≤x.src∧x.src<(m.aj.length:Int):=by have:=R.out;simp[fj]at this;omega
  obtain⟨bg,bi⟩:=hx;clear P ay a1;unfold qD ar.val;cases q2;·go_enter Tryz.func58,Tryz.ntmps58;go_wp2_with(refine bj 5 (fun W l=>?_);have J:=aH W;have f0:=ae (w:=W) (b:=w.heap.size) (o:=0) (v:=.slice (some ⟨b,o,none⟩) m.aj.length sc) (by rw[l];simp);have f1:=ae (w:=W) (b:=w.heap.size) (o:=1) (v:=.slice ea m.al.length ec) (by rw[l];simp);have f2:=ae (w:=W) (b:=w.heap.size) (o:=2) (v:=.int .i64 m.start) (by rw[l];simp);have g0:=ae (w:=W) (b:=w.heap.size+1) (o:=0) (v:=.int .i64 x.src) (by rw[l];simp);have g1:=ae (w:=W) (b:=w.heap.size+1) (o:=1) (v:=.string x.label) (by rw[l];simp);have g2:=ae (w:=W) (b:=w.heap.size+1) (o:=2) (v:=.int .i64 x.sort) (by rw[l];simp);have g3:=ae (w:=W) (b:=w.heap.size+1) (o:=3) (v:=.int .i64 x.dst) (by rw[l];simp);have j:=aa (T.out W _ _ l);obtain⟨e0,e1⟩:=ad.out W j.out;have f8:=ae e0;have f9:=ae e1;clear e0 e1;clear l;(repeat(go_big_quiet_step(first|(go_at_call_of 56 x.src;exact aD (ck R.out _ _ (HV.out _ j.out _)))|(go_at_call_of 56 x.dst;exact aD (ck U.out _ _ (HV.out _ j.out _)))|(go_at_call 40;exact aD (nP (x:=st) HK.out _))|(go_at_call 91;exact aP (fK ab.out HL.out _))|(go_at_call 92;exact aP (oX ac.out _)))));refine wpQuiet_nil ?_;intro w1 C;have I:=aa C;clear C J f0 f1 f2 g0 g1 g2 g3 f8 f9);go_ret;exact⟨aF (by rw[HQ.out];simp),j.out.trans (I.out.mono j.out.size)⟩
  ·cases q5;rotate_left;·go_enter Tryz.func58,Tryz.ntmps58;go_wp2_with(refine bj 5 (fun W l=>?_);have J:=aH W;have f0:=ae (w:=W) (b:=w.heap.size) (o:=0) (v:=.slice (some ⟨b,o,none⟩) m.aj.length sc) (by rw[l];simp);have f1:=ae (w:=W) (b:=w.heap.size) (o:=1) (v:=.slice ea m.al.length ec) (by rw[l];simp);have f2:=ae (w:=W) (b:=w.heap.size) (o:=2) (v:=.int .i64 m.start) (by rw[l];simp);have g0:=ae (w:=W) (b:=w.heap.size+1) (o:=0) (v:=.int .i64 x.src) (by rw[l];simp);have g1:=ae (w:=W) (b:=w.heap.size+1) (o:=1) (v:=.string x.label) (by rw[l];simp);have g2:=ae (w:=W) (b:=w.heap.size+1) (o:=2) (v:=.int .i64 x.sort) (by rw[l];simp);have g3:=ae (w:=W) (b:=w.heap.size+1) (o:=3) (v:=.int .i64 x.dst) (by rw[l];simp);have j:=aa (T.out W _ _ l);obtain⟨e0,e1⟩:=ad.out W j.out;have f8:=ae e0;have f9:=ae e1;clear e0 e1;clear l;(repeat(go_big_quiet_step(first|(go_at_call_of 56 x.src;exact aD (ck R.out _ _ (HV.out _ j.out _)))|(go_at_call_of 56 x.dst;exact aD (ck U.out _ _ (HV.out _ j.out _)))|(go_at_call 40;exact aD (nP (x:=st) HK.out _))|(go_at_call 91;exact aP (fK ab.out HL.out _))|(go_at_call 92;exact aP (oX ac.out _)))));refine wpQuiet_nil ?_;intro w1 C;have I:=aa C;clear C J f0 f1 f2 g0 g1 g2 g3 f8 f9);go_ret;exact⟨aF (by rw[HQ.out];simp),j.out.trans (I.out.mono j.out.size)⟩
   ·cases q3;·go_enter Tryz.func58,Tryz.ntmps58;go_wp2_with(refine bj 5 (fun W l=>?_);have J:=aH W;have f0:=ae (w:=W) (b:=w.heap.size) (o:=0) (v:=.slice (some ⟨b,o,none⟩) m.aj.length sc) (by rw[l];simp);have f1:=ae (w:=W) (b:=w.heap.size) (o:=1) (v:=.slice ea m.al.length ec) (by rw[l];simp);have f2:=ae (w:=W) (b:=w.heap.size) (o:=2) (v:=.int .i64 m.start) (by rw[l];simp);have g0:=ae (w:=W) (b:=w.heap.size+1) (o:=0) (v:=.int .i64 x.src) (by rw[l];simp);have g1:=ae (w:=W) (b:=w.heap.size+1) (o:=1) (v:=.string x.label) (by rw[l];simp);have g2:=ae (w:=W) (b:=w.heap.size+1) (o:=2) (v:=.int .i64 x.sort) (by rw[l];simp);have g3:=ae (w:=W) (b:=w.heap.size+1) (o:=3) (v:=.int .i64 x.dst) (by rw[l];simp);have j:=aa (T.out W _ _ l);obtain⟨e0,e1⟩:=ad.out W j.out;have f8:=ae e0;have f9:=ae e1;clear e0 e1;clear l;(repeat(go_big_quiet_step(first|(go_at_call_of 56 x.src;exact aD (ck R.out _ _ (HV.out _ j.out _)))|(go_at_call_of 56 x.dst;exact aD (ck U.out _ _ (HV.out _ j.out _)))|(go_at_call 40;exact aD (nP (x:=st) HK.out _))|(go_at_call 91;exact aP (fK ab.out HL.out _))|(go_at_call 92;exact aP (oX ac.out _)))));refine wpQuiet_nil ?_;intro w1 C;have I:=aa C;clear C J f0 f1 f2 g0 g1 g2 g3 f8 f9);go_ret;exact⟨aF (by rw[HQ.out];simp),j.out.trans (I.out.mono j.out.size)⟩
    ·cases q4;·go_enter Tryz.func58,Tryz.ntmps58;go_wp2_with(refine bj 5 (fun W l=>?_);have J:=aH W;have f0:=ae (w:=W) (b:=w.heap.size) (o:=0) (v:=.slice (some ⟨b,o,none⟩) m.aj.length sc) (by rw[l];simp);have f1:=ae (w:=W) (b:=w.heap.size) (o:=1) (v:=.slice ea m.al.length ec) (by rw[l];simp);have f2:=ae (w:=W) (b:=w.heap.size) (o:=2) (v:=.int .i64 m.start) (by rw[l];simp);have g0:=ae (w:=W) (b:=w.heap.size+1) (o:=0) (v:=.int .i64 x.src) (by rw[l];simp);have g1:=ae (w:=W) (b:=w.heap.size+1) (o:=1) (v:=.string x.label) (by rw[l];simp);have g2:=ae (w:=W) (b:=w.heap.size+1) (o:=2) (v:=.int .i64 x.sort) (by rw[l];simp);have g3:=ae (w:=W) (b:=w.heap.size+1) (o:=3) (v:=.int .i64 x.dst) (by rw[l];simp);have j:=aa (T.out W _ _ l);obtain⟨e0,e1⟩:=ad.out W j.out;have f8:=ae e0;have f9:=ae e1;clear e0 e1;clear l;(repeat(go_big_quiet_step(first|(go_at_call_of 56 x.src;exact aD (ck R.out _ _ (HV.out _ j.out _)))|(go_at_call_of 56 x.dst;exact aD (ck U.out _ _ (HV.out _ j.out _)))|(go_at_call 40;exact aD (nP (x:=st) HK.out _))|(go_at_call 91;exact aP (fK ab.out HL.out _))|(go_at_call 92;exact aP (oX ac.out _)))));refine wpQuiet_nil ?_;intro w1 C;have I:=aa C;clear C J f0 f1 f2 g0 g1 g2 g3 f8 f9);go_ret;exact⟨aF (by rw[HQ.out];simp),j.out.trans (I.out.mono j.out.size)⟩
     ·go_enter Tryz.func58,Tryz.ntmps58;go_wp2_with(refine bj 5 (fun W l=>?_);have J:=aH W;have f0:=ae (w:=W) (b:=w.heap.size) (o:=0) (v:=.slice (some ⟨b,o,none⟩) m.aj.length sc) (by rw[l];simp);have f1:=ae (w:=W) (b:=w.heap.size) (o:=1) (v:=.slice ea m.al.length ec) (by rw[l];simp);have f2:=ae (w:=W) (b:=w.heap.size) (o:=2) (v:=.int .i64 m.start) (by rw[l];simp);have g0:=ae (w:=W) (b:=w.heap.size+1) (o:=0) (v:=.int .i64 x.src) (by rw[l];simp);have g1:=ae (w:=W) (b:=w.heap.size+1) (o:=1) (v:=.string x.label) (by rw[l];simp);have g2:=ae (w:=W) (b:=w.heap.size+1) (o:=2) (v:=.int .i64 x.sort) (by rw[l];simp);have g3:=ae (w:=W) (b:=w.heap.size+1) (o:=3) (v:=.int .i64 x.dst) (by rw[l];simp);have j:=aa (T.out W _ _ l);obtain⟨e0,e1⟩:=ad.out W j.out;have f8:=ae e0;have f9:=ae e1;clear e0 e1;clear l;(repeat(go_big_quiet_step(first|(go_at_call_of 56 x.src;exact aD (ck R.out _ _ (HV.out _ j.out _)))|(go_at_call_of 56 x.dst;exact aD (ck U.out _ _ (HV.out _ j.out _)))|(go_at_call 40;exact aD (nP (x:=st) HK.out _))|(go_at_call 91;exact aP (fK ab.out HL.out _))|(go_at_call 92;exact aP (oX ac.out _)))));refine wpQuiet_nil ?_;intro w1 C;have I:=aa C;clear C J f0 f1 f2 g0 g1 g2 g3 f8 f9);go_ret;exact⟨aF (by rw[HQ.out];simp),j.out.trans (I.out.mono j.out.size)⟩
end
theorem Bm(a b:bl)(W:World):(Op.equalIn 10000 37 (.agg #[.int .i64 a.kind,.string a.peer,.string a.label,.int .i64 a.sort]) (.agg #[.int .i64 b.kind,.string b.peer,.string b.label,.int .i64 b.sort])).run Tryz.prog W=.ok (gG a b) W:=by
 by_cases j:a.kind=b.kind;·
  by_cases l:a.peer.toList=b.peer.toList;·
   by_cases C:a.label.toList=b.label.toList;·by_cases I:a.sort=b.sort;all_goals go_simp;simp[gG,j,l,C,I]
   ·go_simp;simp[gG,j,l,C]
  ·go_simp;simp[gG,j,l]
 ·go_simp;simp[gG,j]
section
attribute [local go_sem ↓] Go.wp_at_zero Go.wp_at_succ
theorem Dl(a b:ar):decide (0≤pE a b)=!a7 a b:=by
 unfold pE Ji oO a7;by_cases j:a.src<b.src;·simp[j]
 ·by_cases l:b.src<a.src;·
   have:¬a.src=b.src:=by omega
   simp[j,l,this]
  ·have:a.src=b.src:=by omega
   simp[this,oP];cases C:Op.bytesLess a.label.toList b.label.toList;·cases I:(a.label.toList==b.label.toList)<;>simp_all
   ·simp
theorem fI{c:Int}{a b:ar}(h:pE a b=c)(w:World):Calls Tryz.prog 31 #[a.val,b.val] w fun e w'=>e=.returned (.int .i64 c)∧Below w.heap.size w w':=by subst h;exact tM a b w
theorem iA(m:aN)(v:Value)(w:World)(hf:m.fit)(hv:bu w v m):Calls Tryz.prog 24 #[v] w fun e w'=>e=.returned (.bool (aW m))∧Below w.heap.size w w':=by
 have HF:=aa hf;have HV:Hid (∀W,Below w.heap.size w W→∀g:Grown W,bu g.val v m):=aa (fun W hb g=>(hv.carry hb).carry g.dN);have cv:=aa hv;obtain⟨sv,ev,rfl,hs,he⟩:=hv;have c6:=hs.jc;have cz:=he.jc;obtain⟨sa,sc,rfl,c4,c5,b8⟩:=hs;obtain⟨ea,ec,rfl,cx,cy,b5⟩:=he;have cl:=aa b8;have cf:=aa b5;clear b8 b5 hf;have a0:Hid (∀W A,W=w.alloc A→Below w.heap.size w W):=aa (fun W A l=>by rw[l];exact ai _ _);obtain⟨i2,b6⟩:∃i2,fj m.start 0 ((m.aj.length:Int)-1)=i2:=⟨_,rfl⟩;have ah:=aa b6;clear b6;by_cases z:m.aj.length=0;·
  have z1:((m.aj.length:Int)==0)=true:=by simp[z]
  have HZ:=aa z;clear z;have HM:Hid (aW m=false):=aa (by rw[aW,iF];simp[fj,HZ.out]);go_enter Tryz.func24,Tryz.ntmps24;go_wp2_with(refine bj 7 (fun W l=>?_);have P:=aH W;have f0:=ae (w:=W) (b:=w.heap.size) (o:=0) (v:=.slice sa m.aj.length sc) (by rw[l];simp);have f1:=ae (w:=W) (b:=w.heap.size) (o:=1) (v:=.slice ea m.al.length ec) (by rw[l];simp);have f2:=ae (w:=W) (b:=w.heap.size) (o:=2) (v:=.int .i64 m.start) (by rw[l];simp);have C:=aa (a0.out W _ l);have U:=aa l;clear l;(repeat(go_big_quiet_step(first|(go_at_call 56;exact aD (ck ah.out _ _ (HV.out _ C.out _))))));refine wpQuiet_nil ?_;intro w1 I;have R:=aa I;clear I P f0 f1 f2);go_ret;exact⟨aF HM.out,C.out.trans (R.out.mono C.out.size)⟩
 ·have z1:((m.aj.length:Int)==0)=false:=by simp[z]
  by_cases y:40<m.aj.length;·
   have y1:decide (40<(m.aj.length:Int))=true:=by simp;omega
   have HM:Hid (aW m=false):=aa (by rw[aW,iF];have:fj (m.aj.length:Int) 1 40=false:=(by simp[fj];omega);simp[this]);go_enter Tryz.func24,Tryz.ntmps24;go_wp2_with(refine bj 7 (fun W l=>?_);have P:=aH W;have f0:=ae (w:=W) (b:=w.heap.size) (o:=0) (v:=.slice sa m.aj.length sc) (by rw[l];simp);have f1:=ae (w:=W) (b:=w.heap.size) (o:=1) (v:=.slice ea m.al.length ec) (by rw[l];simp);have f2:=ae (w:=W) (b:=w.heap.size) (o:=2) (v:=.int .i64 m.start) (by rw[l];simp);have C:=aa (a0.out W _ l);have U:=aa l;clear l;(repeat(go_big_quiet_step(first|(go_at_call 56;exact aD (ck ah.out _ _ (HV.out _ C.out _))))));refine wpQuiet_nil ?_;intro w1 I;have R:=aa I;clear I P f0 f1 f2);go_ret;exact⟨aF HM.out,C.out.trans (R.out.mono C.out.size)⟩
  ·have y1:decide (40<(m.aj.length:Int))=false:=by simp;omega
   have ch:Hid (fj (m.aj.length:Int) 1 40=true):=aa (by simp[fj];omega);by_cases x:80<m.al.length;·
    have x1:decide (80<(m.al.length:Int))=true:=by simp;omega
    have HM:Hid (aW m=false):=aa (by rw[aW,iF];have:decide (m.al.length≤80)=false:=(by simp;omega);simp[this]);go_enter Tryz.func24,Tryz.ntmps24;go_wp2_with(refine bj 7 (fun W l=>?_);have P:=aH W;have f0:=ae (w:=W) (b:=w.heap.size) (o:=0) (v:=.slice sa m.aj.length sc) (by rw[l];simp);have f1:=ae (w:=W) (b:=w.heap.size) (o:=1) (v:=.slice ea m.al.length ec) (by rw[l];simp);have f2:=ae (w:=W) (b:=w.heap.size) (o:=2) (v:=.int .i64 m.start) (by rw[l];simp);have C:=aa (a0.out W _ l);have U:=aa l;clear l;(repeat(go_big_quiet_step(first|(go_at_call 56;exact aD (ck ah.out _ _ (HV.out _ C.out _))))));refine wpQuiet_nil ?_;intro w1 I;have R:=aa I;clear I P f0 f1 f2);go_ret;exact⟨aF HM.out,C.out.trans (R.out.mono C.out.size)⟩
   ·have x1:decide (80<(m.al.length:Int))=false:=by simp;omega
    cases i2;·have HM:Hid (aW m=false):=aa (by rw[aW,iF];simp[ah.out]);go_enter Tryz.func24,Tryz.ntmps24;go_wp2_with(refine bj 7 (fun W l=>?_);have P:=aH W;have f0:=ae (w:=W) (b:=w.heap.size) (o:=0) (v:=.slice sa m.aj.length sc) (by rw[l];simp);have f1:=ae (w:=W) (b:=w.heap.size) (o:=1) (v:=.slice ea m.al.length ec) (by rw[l];simp);have f2:=ae (w:=W) (b:=w.heap.size) (o:=2) (v:=.int .i64 m.start) (by rw[l];simp);have C:=aa (a0.out W _ l);have U:=aa l;clear l;(repeat(go_big_quiet_step(first|(go_at_call 56;exact aD (ck ah.out _ _ (HV.out _ C.out _))))));refine wpQuiet_nil ?_;intro w1 I;have R:=aa I;clear I P f0 f1 f2);go_ret;exact⟨aF HM.out,C.out.trans (R.out.mono C.out.size)⟩
    ·have cg:Hid (iF m=true):=aa (by rw[iF,ch.out,ah.out];simp;omega);clear z y x;go_enter Tryz.func24,Tryz.ntmps24;go_wp2_with(first|(refine bj 7 (fun W l=>?_);have P:=aH W;have f0:=ae (w:=W) (b:=w.heap.size) (o:=0) (v:=.slice sa m.aj.length sc) (by rw[l];simp);have f1:=ae (w:=W) (b:=w.heap.size) (o:=1) (v:=.slice ea m.al.length ec) (by rw[l];simp);have f2:=ae (w:=W) (b:=w.heap.size) (o:=2) (v:=.int .i64 m.start) (by rw[l];simp);have C:=aa (a0.out W _ l);have cp:w.heap.size<W.heap.size:=(by rw[l];simp);clear l;(repeat(go_big_quiet_step(first|(go_at_call 56;exact aD (ck ah.out _ _ (HV.out _ C.out _))))));refine wpQuiet_nil ?_;intro w1 I;have b0:=f0 ⟨w1,I⟩;have b1:=f1 ⟨w1,I⟩;have b2:=f2 ⟨w1,I⟩;have T:w.heap.size<w1.heap.size:=Nat.lt_of_lt_of_le cp I.size;have b4:Hid (Below w.heap.size w w1):=aa (C.out.trans (I.mono C.out.size));dsimp only at b0 b1 b2;have R:=aa I;clear I P f0 f1 f2));go_loopw[33](fun i wr=>∃k:Nat,k≤m.aj.length∧i=.int .i64 k∧(m.aj.take k).all iR=true∧Below w1.heap.size w1 wr)(fun i _=>m.aj.length-(intOf i).toNat);case atStart=>exact⟨0,Nat.zero_le _,rfl,rfl,Below.refl _ _⟩
     case round=>
      obtain⟨k,hk,rfl,bm,J⟩:=hrel;have HA:=aa bm;have ab:=aa J;have c0:=(J.cell (p:=⟨w.heap.size,0,none⟩) T).trans b0;have c1:=(J.cell (p:=⟨w.heap.size,1,none⟩) T).trans b1;have c2:=(J.cell (p:=⟨w.heap.size,2,none⟩) T).trans b2;have ay:w.heap.size<wr.heap.size:=Nat.lt_of_lt_of_le T J.size;have HW:Hid (Below w.heap.size w wr):=aa (b4.out.trans (J.mono (Nat.le_of_lt T)));clear bm J;by_cases az:k<m.aj.length;·
       obtain⟨b,o,rfl,bk,af⟩:=cl.out (by intro h;simp[h]at az);have ad:=(af.get k az).carry bk HW.out;obtain⟨x1,a9⟩:∃x1,x1=m.aj[k]:=⟨_,rfl⟩;rw[←a9]at ad;have HP:=aa (show x1.peer.size≤maxLen by rw[a9];exact Nat.le_trans (HF.out.1 _ (List.getElem_mem az)) (by unfold maxLen;omega));have av:Hid (iR x1=false→aW m=false):=aa (fun h=>by
        rw[aW];have:m.aj.all iR=false:=by rw[←Bool.not_eq_true];intro h2;have:=List.all_eq_true.1 h2 x1 (by rw[a9];exact List.getElem_mem az);rw[h]at this;cases this
        rw[this];simp);have be:Hid (iR x1=true→(m.aj.take (k+1)).all iR=true):=aa (fun h=>by rw[List.take_succ_eq_append_getElem az,List.all_append,HA.out,←a9];simp[h]);clear a9 af;obtain⟨d0,d1⟩:=ad;obtain⟨sq,b9⟩:∃sq,iR x1=sq:=⟨_,rfl⟩;have bi:=aa b9;clear b9;cases sq;·go_wp2_with(go_at_call 57;refine(qT (x:=x1) bi.out HP.out _).mono ?_;rintro e w2⟨rfl,a8⟩;have bn:=aa a8;clear a8);go_ret;exact⟨aF (av.out bi.out),HW.out.trans (((ai _ _).trans (bn.out.mono (by simp))).mono HW.out.size)⟩
       ·go_wp2_with(go_at_call 57;refine(qT (x:=x1) bi.out HP.out _).mono ?_;rintro e w2⟨rfl,a8⟩;have bn:=aa a8;clear a8);go_roundw;case rel=>exact⟨k+1,az,by go_num,be.out bi.out,ab.out.trans (((ai _ _).trans (bn.out.mono (by simp))).mono ab.out.size)⟩
        case measure=>simp[intOf];omega
      ·have bL:Hid (m.aj.all iR=true):=aa (by have:=HA.out;rwa[List.take_of_length_le (by omega)]at this);clear c0 c2 HA;go_wp2_with fail;go_loopw[44](fun i cs=>∃k2:Nat,k2≤m.al.length∧i=.int .i64 k2∧(List.range k2).all (dF m)=true∧Below w1.heap.size w1 cs)(fun i _=>m.al.length-(intOf i).toNat);case atStart=>exact⟨0,Nat.zero_le _,rfl,rfl,ab.out⟩
       case round=>
        clear c1 ab HW ay;obtain⟨k2,c3,rfl,a5,J⟩:=hrel;have bz:=aa a5;have ab:=aa J;have c0:=(J.cell (p:=⟨w.heap.size,0,none⟩) T).trans b0;have c1:=(J.cell (p:=⟨w.heap.size,1,none⟩) T).trans b1;have c2:=(J.cell (p:=⟨w.heap.size,2,none⟩) T).trans b2;have ay:w.heap.size<wr.heap.size:=Nat.lt_of_lt_of_le T J.size;have HW:Hid (Below w.heap.size w wr):=aa (b4.out.trans (J.mono (Nat.le_of_lt T)));clear a5 J;by_cases ac:k2<m.al.length;·
         obtain⟨b,o,rfl,bk,af⟩:=cf.out (by intro h;simp[h]at ac);have ad:=(af.get k2 ac).carry bk HW.out;have b3:Hid (∀j(hj:j<m.al.length),eP wr b (o+j*4) m.al[j]):=aa (fun j hj=>(af.get j hj).carry bk HW.out);obtain⟨e1,ag⟩:∃e1,e1=m.al[k2]:=⟨_,rfl⟩;rw[←ag]at ad;have HN:=aa ag;have bb:=aa (show e1.label.size≤maxLen by rw[ag];exact Nat.le_trans (HF.out.2.1 _ (List.getElem_mem ac)) (by unfold maxLen;omega));have av:Hid (dF m k2=false→aW m=false):=aa (fun h=>by
          rw[aW];have:(List.range m.al.length).all (dF m)=false:=by rw[←Bool.not_eq_true];intro h2;have:=List.all_eq_true.1 h2 k2 (List.mem_range.2 ac);rw[h]at this;cases this
          rw[this];simp);have be:Hid (dF m k2=true→(List.range (k2+1)).all (dF m)=true):=aa (fun h=>by rw[List.range_succ,List.all_append,bz.out];simp[h]);have bp:Hid (dF m k2=(pV m e1&&(match k2,m.al[k2-1]? with|0,_=>true|_+1,some e'=>a7 e' e1|_+1,none=>true))):=aa (by rw[dF,List.getElem?_eq_getElem ac,←ag];first|done|rfl);clear ag af;obtain⟨d0,d1,d2,d3⟩:=ad;have cn:b<wr.heap.size:=World.block_lt_of_cell? wr _ d0;obtain⟨q1,b7⟩:∃q1,pV m e1=q1:=⟨_,rfl⟩;have ao:=aa b7;clear b7;have ax:Hid (∀W,W=wr.alloc (.cells #[.int .i64 e1.src,.string e1.label,.int .i64 e1.sort,.int .i64 e1.dst] 61)→Below w.heap.size w W):=aa (fun W l=>by rw[l];exact HW.out.trans ((ai _ _).mono (Nat.le_of_lt ay)));have ba:Hid (∀W,W=wr.alloc (.cells #[.int .i64 e1.src,.string e1.label,.int .i64 e1.sort,.int .i64 e1.dst] 61)→Below w1.heap.size w1 W):=aa (fun W l=>by rw[l];exact ab.out.trans ((ai _ _).mono ab.out.size));have FM:Hid (∀W,W=wr.alloc (.cells #[.int .i64 e1.src,.string e1.label,.int .i64 e1.sort,.int .i64 e1.dst] 61)→W.cell? ⟨w.heap.size,0,none⟩=some (.slice sa m.aj.length sc)∧W.cell? ⟨w.heap.size,1,none⟩=some (.slice (some ⟨b,o,none⟩) m.al.length ec)∧W.cell? ⟨w.heap.size,2,none⟩=some (.int .i64 m.start)):=aa (fun W l=>by rw[l];exact⟨((ai wr _).cell (p:=⟨w.heap.size,0,none⟩) ay).trans c0,((ai wr _).cell (p:=⟨w.heap.size,1,none⟩) ay).trans c1,((ai wr _).cell (p:=⟨w.heap.size,2,none⟩) ay).trans c2⟩);cases q1;·go_wp2_with(refine aK (by kernel_rfl) (by kernel_rfl) (fun W l=>?_);have P:=aH W;have f0:=ae (FM.out W l).1;have f1:=ae (FM.out W l).2.1;have f2:=ae (FM.out W l).2.2;have g0:=ae (w:=W) (b:=wr.heap.size) (o:=0) (v:=.int .i64 e1.src) (by rw[l];simp);have g1:=ae (w:=W) (b:=wr.heap.size) (o:=1) (v:=.string e1.label) (by rw[l];simp);have g2:=ae (w:=W) (b:=wr.heap.size) (o:=2) (v:=.int .i64 e1.sort) (by rw[l];simp);have g3:=ae (w:=W) (b:=wr.heap.size) (o:=3) (v:=.int .i64 e1.dst) (by rw[l];simp);have C:=aa (ax.out W l);have U:=aa (ba.out W l);clear l;(repeat(go_big_quiet_step(first|(go_at_call 58;exact aD (kU (x:=e1) ao.out bb.out _ _ (HV.out _ C.out _)))|(go_at_call 31;exact aD (fI (a:=e0) (b:=e1) bg.out _)))));refine wpQuiet_nil ?_;intro w1 I;have R:=aa I;clear I P f0 f1 f2 g0 g1 g2 g3);go_ret;exact⟨aF (av.out (by rw[bp.out,ao.out];rfl)),C.out.trans (R.out.mono C.out.size)⟩
         ·by_cases cu:0<k2;rotate_left;·
           have bf:Hid (dF m k2=true):=aa (by rw[bp.out,ao.out,show k2=0 by omega];rfl);go_wp2_with(refine aK (by kernel_rfl) (by kernel_rfl) (fun W l=>?_);have P:=aH W;have f0:=ae (FM.out W l).1;have f1:=ae (FM.out W l).2.1;have f2:=ae (FM.out W l).2.2;have g0:=ae (w:=W) (b:=wr.heap.size) (o:=0) (v:=.int .i64 e1.src) (by rw[l];simp);have g1:=ae (w:=W) (b:=wr.heap.size) (o:=1) (v:=.string e1.label) (by rw[l];simp);have g2:=ae (w:=W) (b:=wr.heap.size) (o:=2) (v:=.int .i64 e1.sort) (by rw[l];simp);have g3:=ae (w:=W) (b:=wr.heap.size) (o:=3) (v:=.int .i64 e1.dst) (by rw[l];simp);have C:=aa (ax.out W l);have U:=aa (ba.out W l);clear l;(repeat(go_big_quiet_step(first|(go_at_call 58;exact aD (kU (x:=e1) ao.out bb.out _ _ (HV.out _ C.out _)))|(go_at_call 31;exact aD (fI (a:=e0) (b:=e1) bg.out _)))));refine wpQuiet_nil ?_;intro w1 I;have R:=aa I;clear I P f0 f1 f2 g0 g1 g2 g3);go_roundw;case rel=>exact⟨_,ac,by go_num,be.out (bf.out),U.out.trans (R.out.mono (by have:=U.out.size;omega))⟩
           case measure=>simp[intOf];omega
          ·obtain⟨j,rfl⟩:∃j,k2=j+1:=⟨k2-1,by omega⟩;obtain⟨e0,br⟩:∃e0,e0=m.al[j]'(by omega):=⟨_,rfl⟩;have bs:=b3.out j (by omega);rw[←br]at bs;have cc:Hid (m.al[j+1-1]?=some e0):=aa (by rw[Nat.add_sub_cancel,List.getElem?_eq_getElem (by omega),←br]);have FE:Hid (∀W,W=wr.alloc (.cells #[.int .i64 e1.src,.string e1.label,.int .i64 e1.sort,.int .i64 e1.dst] 61)→eP W b (o+j*4) e0):=aa (fun W l=>by rw[l];exact bs.carry cn (ai wr _));clear br bs;obtain⟨q5,bv⟩:∃q5,pE e0 e1=q5:=⟨_,rfl⟩;have bg:=aa bv;obtain⟨q6,cr⟩:∃q6,decide (0≤q5)=q6:=⟨_,rfl⟩;have bf:Hid (dF m (j+1)=!q6):=aa (by rw[bp.out,ao.out,cc.out,←cr,←bv,Dl,Bool.not_not];rfl);clear bv;cases q6;·
            go_wp2_with(refine aK (by kernel_rfl) (by kernel_rfl) (fun W l=>?_);have P:=aH W;have f0:=ae (FM.out W l).1;have f1:=ae (FM.out W l).2.1;have f2:=ae (FM.out W l).2.2;have g0:=ae (w:=W) (b:=wr.heap.size) (o:=0) (v:=.int .i64 e1.src) (by rw[l];simp);have g1:=ae (w:=W) (b:=wr.heap.size) (o:=1) (v:=.string e1.label) (by rw[l];simp);have g2:=ae (w:=W) (b:=wr.heap.size) (o:=2) (v:=.int .i64 e1.sort) (by rw[l];simp);have g3:=ae (w:=W) (b:=wr.heap.size) (o:=3) (v:=.int .i64 e1.dst) (by rw[l];simp);have C:=aa (ax.out W l);have U:=aa (ba.out W l);obtain⟨a1,a2,a3,a4⟩:=FE.out W l;have k0:=ae a1;have k1:=ae a2;have bx:=ae a3;have k3:=ae a4;clear a1 a2 a3 a4;clear l;(repeat(go_big_quiet_step(first|(go_at_call 58;exact aD (kU (x:=e1) ao.out bb.out _ _ (HV.out _ C.out _)))|(go_at_call 31;exact aD (fI (a:=e0) (b:=e1) bg.out _)))));refine wpQuiet_nil ?_;intro w1 I;have R:=aa I;clear I P f0 f1 f2 g0 g1 g2 g3 k0 k1 bx k3);go_roundw;case rel=>exact⟨_,ac,by go_num,be.out (bf.out),U.out.trans (R.out.mono (by have:=U.out.size;omega))⟩
            case measure=>simp[intOf];omega
           ·go_wp2_with(refine aK (by kernel_rfl) (by kernel_rfl) (fun W l=>?_);have P:=aH W;have f0:=ae (FM.out W l).1;have f1:=ae (FM.out W l).2.1;have f2:=ae (FM.out W l).2.2;have g0:=ae (w:=W) (b:=wr.heap.size) (o:=0) (v:=.int .i64 e1.src) (by rw[l];simp);have g1:=ae (w:=W) (b:=wr.heap.size) (o:=1) (v:=.string e1.label) (by rw[l];simp);have g2:=ae (w:=W) (b:=wr.heap.size) (o:=2) (v:=.int .i64 e1.sort) (by rw[l];simp);have g3:=ae (w:=W) (b:=wr.heap.size) (o:=3) (v:=.int .i64 e1.dst) (by rw[l];simp);have C:=aa (ax.out W l);have U:=aa (ba.out W l);obtain⟨a1,a2,a3,a4⟩:=FE.out W l;have k0:=ae a1;have k1:=ae a2;have bx:=ae a3;have k3:=ae a4;clear a1 a2 a3 a4;clear l;(repeat(go_big_quiet_step(first|(go_at_call 58;exact aD (kU (x:=e1) ao.out bb.out _ _ (HV.out _ C.out _)))|(go_at_call 31;exact aD (fI (a:=e0) (b:=e1) bg.out _)))));refine wpQuiet_nil ?_;intro w1 I;have R:=aa I;clear I P f0 f1 f2 g0 g1 g2 g3 k0 k1 bx k3);go_ret;exact⟨aF (av.out bf.out),C.out.trans (R.out.mono C.out.size)⟩
        ·have HM:Hid (aW m=true):=aa (by rw[aW,cg.out,bL.out];have:=bz.out;rw[show k2=m.al.length by omega]at this;rw[this];rfl);go_wp2_with fail;go_ret;exact⟨aF HM.out,HW.out⟩
end
end Go.Proofs.YtlbcnmcfljaijaaGreat
