import Derived.Test.YtdiiiijkhpdcbaaGreatDoorRD00
import Derived.Test.YtdiiiijkhpdcbaaGreatDoorRD05
import Derived.Test.YtdiiiijkhpdcbaaGreatDoorRD04
import Derived.Test.YtdiiiijkhpdcbaaGreatDoorRD08
import Derived.Test.YtdiiiijkhpdcbaaGreatDoorRD07
import Derived.Deep.RegionHeld3
import Derived.Deep.DrawnRows
namespace Go.Proofs.YtdiiiijkhpdcbaaGreatDoor
open Go.RowKit
set_option linter.unusedSimpArgs false
set_option linter.unusedVariables false
set_option maxHeartbeats 2000000
set_option maxRecDepth 100000
theorem I3(w:World)(A B C:Obj):Below (w.alloc A).heap.size (w.alloc A) (((w.alloc A).alloc B).alloc C):=(ae _ _).trans ((ae _ _).mono (by simp))
theorem Ew(w:World)(A B C:Obj):Below ((w.alloc A).alloc B).heap.size ((w.alloc A).alloc B) (((w.alloc A).alloc B).alloc C):=ae _ _
theorem vu(w:World)(A B:Obj)(j:Array Value)(t:TypeId)(off:Nat)(v:Value)(h:j[off]?=some v):(((w.alloc A).alloc B).alloc (.cells j t)).cell? ⟨w.heap.size+1+1,off,none⟩=some v:=by have e:(((w.alloc A).alloc B).alloc (.cells j t)).heap[w.heap.size+1+1]?=some (.cells j t):=bV _ _ _ (by simp);simp only[World.cell?];rw[e];simpa using h
structure ck where
 ai:List aK
 aH:List aA
 start:Int
def dd(w:World)(v:Value)(m:ck):Prop:=∃sv ev,v=.agg #[sv,ev,.int .i64 m.start]∧df w w.heap.size sv m.ai∧dG w w.heap.size ev m.aH
theorem dd.carry{w w':World}{v:Value}{m:ck}(h:dd w v m)(j:Below w.heap.size w w'):dd w' v m:=by obtain⟨sv,ev,e,l,C⟩:=h;exact⟨sv,ev,e,(l.carry j).up j.size,(C.carry j).up j.size⟩
def ck.fit(m:ck):Prop:=(∀x∈m.ai,x.fit)∧(∀x∈m.aH,x.fit)∧m.ai.length≤1048576∧m.aH.length≤1048576
structure pW(w:World)(sa:Option Addr)(sc:Nat)(ea:Option Addr)(ec:Nat)(m:ck):Prop where
 Jw:∀x∈m.ai,x.ok
 Js:∀x∈m.aH,x.ok
 sl:m.ai.length≤maxLen
 el:m.aH.length≤maxLen
 sr:m.ai≠[]→∃b o,sa=some ⟨b,o,none⟩∧b<w.heap.size∧dY w b o m.ai
 er:m.aH≠[]→∃b o,ea=some ⟨b,o,none⟩∧b<w.heap.size∧fx w b o m.aH
theorem pW.carry{w w':World}{R:Option Addr}{T:Nat}{J:Option Addr}{P:Nat}{m:ck}(h:pW w R T J P m)(C:Below w.heap.size w w'):pW w' R T J P m:=by
 refine⟨h.Jw,h.Js,h.sl,h.el,fun l=>?_,fun l=>?_⟩;·obtain⟨b,o,e,j,I⟩:=h.sr l;exact⟨b,o,e,Nat.lt_of_lt_of_le j C.size,I.carry j C⟩
 ·obtain⟨b,o,e,j,I⟩:=h.er l;exact⟨b,o,e,Nat.lt_of_lt_of_le j C.size,I.carry j C⟩
def rC(C:Option Addr)(I:Nat)(j:Option Addr)(l:Nat)(m:ck):Value:=.agg #[.slice C m.ai.length I,.slice j m.aH.length l,.int .i64 m.start]
def iP(n j hi:Int):Bool:=decide (j≤n)&&decide (n≤hi)
theorem Iv(n j hi:Int)(w:World):Calls Tryz.prog 105 #[.int .i64 n,.int .i64 j,.int .i64 hi] w fun e w'=>e=.returned (.bool (iP n j hi))∧w'=w:=Gh n j hi w
def bT(a b:aA):Bool:=decide (a.src<b.src)||(a.src==b.src&&Op.bytesLess a.label.toList b.label.toList)
theorem E0(a b:aA)(w:World):Calls Tryz.prog 179 #[a.val,b.val] w fun e w'=>e=.returned (.bool (bT a b))∧Below w.heap.size w w':=by
 have l:=aa (show bT a b=(decide (a.src<b.src)||(a.src==b.src&&Op.bytesLess a.label.toList b.label.toList))from rfl);unfold aA.val;by_cases J:a.src<b.src;·go_enter Tryz.func179,Tryz.ntmps179;go_wp2_with fail;all_goals go_ret;refine⟨aC ?_,(ae _ _).trans ((ae _ _).mono (by simp))⟩;rw[l.out];simp[*]
 ·have j:decide (a.src<b.src)=false:=decide_eq_false J;cases h2:(a.src==b.src);all_goals have I:=aa h2;have C:=aa j;go_enter Tryz.func179,Tryz.ntmps179;go_wp2_with fail;all_goals go_ret;refine⟨aC ?_,(ae _ _).trans ((ae _ _).mono (by simp))⟩;rw[l.out,I.out,C.out];simp
def kQ(x:aK):Bool:=if x.kind==0 then x.peer.toList==[]else b9 x.peer&&iP x.kind 0 2
def oz(m:ck)(s:Int):Int:=match m.ai[s.toNat]? with|some x=>x.kind|none=>0
def sK(m:ck)(e:aA):Bool:=iP e.src 0 ((m.ai.length:Int)-1)&&(iP e.dst 0 ((m.ai.length:Int)-1)&&(b9 e.label&&(iP e.sort 0 2&&!(oz m e.src==0))))
def gG(m:ck)(i:Nat):Bool:=match m.aH[i]? with|none=>true|some e=>sK m e&&(match i,m.aH[i-1]? with|0,_=>true|_+1,some j=>bT j e|_+1,none=>true)
def lW(m:ck):Bool:=iP (m.ai.length:Int) 1 40&&(decide (m.aH.length≤80)&&iP m.start 0 ((m.ai.length:Int)-1))
def cU(m:ck):Bool:=lW m&&(m.ai.all kQ&&(List.range m.aH.length).all (gG m))
theorem C4{q:Bool}{n j hi:Int}(h:iP n j hi=q)(w:World):Calls Tryz.prog 105 #[.int .i64 n,.int .i64 j,.int .i64 hi] w fun e w'=>e=.returned (.bool q)∧w'=w:=by subst h;exact Iv n j hi w
theorem rD{q:Bool}{a b:aA}(h:bT a b=q)(w:World):Calls Tryz.prog 179 #[a.val,b.val] w fun e w'=>e=.returned (.bool q)∧Below w.heap.size w w':=by subst h;exact E0 a b w
def Hj(m:ck):Prop:=(∀s∈m.ai,s.peer.size≤20)∧(∀e∈m.aH,e.label.size≤20)∧m.ai.length≤40∧m.aH.length≤80
section
open Go.RowKit Go.ChangeShapes Go.WideShapes
theorem ly{H:Type}{enc:TypeId×Value→H}{w:World}{base:Nat}{spare:Nat→Bool}{held:Bool}{fuel:Nat}{t e:TypeId}(I:Tryz.prog.underlying t=some (.slice e)){a:Value}{x:DataW H×List MemPlace}(h:DataW.trod enc Tryz.prog w base spare held fuel t [a]=some x):∃p l c,a=.slice p l c:=by
 rcases Go.Deep.open_slice I h with⟨C,_⟩|⟨P,len,cap,m,n,D,J,j,_⟩;·simp at C;exact⟨_,_,_,C⟩
 ·simp at j;exact⟨_,_,_,j⟩
end
section
attribute [local go_sem ↓] Go.wp_at_zero Go.wp_at_succ
def mT(a b:Int):Int:=if a<b then-1 else if b<a then 1 else 0
def mU(a b:ByteArray):Int:=if Op.bytesLess a.toList b.toList then-1 else if a.toList==b.toList then 0 else 1
theorem mx(a:Int)(w:World):Calls Tryz.prog 256 #[.int .i64 a] w fun e w'=>e=.returned (.bool false)∧w'=w:=by go_enter Tryz.func256,Tryz.ntmps256;go_wp2_with fail;go_ret;exact⟨aC (by simp),rfl⟩
theorem my(a:ByteArray)(w:World):Calls Tryz.prog 257 #[.string a] w fun e w'=>e=.returned (.bool false)∧w'=w:=by go_enter Tryz.func257,Tryz.ntmps257;go_wp2_with fail;go_ret;exact⟨aC (by simp),rfl⟩
theorem px(a b:Int)(w:World):Calls Tryz.prog 228 #[.int .i64 a,.int .i64 b] w fun e w'=>e=.returned (.int .i64 (mT a b))∧w'=w:=by
 by_cases l:a<b;·have j:Hid (mT a b=-1):=aa (by rw[mT,if_pos l]);go_enter Tryz.func228,Tryz.ntmps228;go_wp2_with(go_at_call 256;refine(mx _ _).mono ?_;rintro e w'⟨rfl,rfl⟩);go_ret;exact⟨bd j.out,rfl⟩
 ·by_cases C:b<a;·have j:Hid (mT a b=1):=aa (by rw[mT,if_neg l,if_pos C]);go_enter Tryz.func228,Tryz.ntmps228;go_wp2_with(go_at_call 256;refine(mx _ _).mono ?_;rintro e w'⟨rfl,rfl⟩);go_ret;exact⟨bd j.out,rfl⟩
  ·have j:Hid (mT a b=0):=aa (by rw[mT,if_neg l,if_neg C]);go_enter Tryz.func228,Tryz.ntmps228;go_wp2_with(go_at_call 256;refine(mx _ _).mono ?_;rintro e w'⟨rfl,rfl⟩);go_ret;exact⟨bd j.out,rfl⟩
theorem py(a b:ByteArray)(w:World):Calls Tryz.prog 229 #[.string a,.string b] w fun e w'=>e=.returned (.int .i64 (mU a b))∧w'=w:=by
 cases h1:Op.bytesLess a.toList b.toList;·
  cases h2:(a.toList==b.toList);·have j:Hid (mU a b=1):=aa (by simp[mU,h1,h2]);go_enter Tryz.func229,Tryz.ntmps229;go_wp2_with(go_at_call 257;refine(my _ _).mono ?_;rintro e w'⟨rfl,rfl⟩);go_ret;exact⟨bd j.out,rfl⟩
  ·have j:Hid (mU a b=0):=aa (by simp[mU,h1,h2]);go_enter Tryz.func229,Tryz.ntmps229;go_wp2_with(go_at_call 257;refine(my _ _).mono ?_;rintro e w'⟨rfl,rfl⟩);go_ret;exact⟨bd j.out,rfl⟩
 ·have j:Hid (mU a b=-1):=aa (by simp[mU,h1]);go_enter Tryz.func229,Tryz.ntmps229;go_wp2_with(go_at_call 257;refine(my _ _).mono ?_;rintro e w'⟨rfl,rfl⟩);go_ret;exact⟨bd j.out,rfl⟩
def G3(a b:Int):Int:=if a=0 then b else a
theorem B9(a b:Int)(g:Nat)(w:World)(T:w.cell? ⟨g,0,none⟩=some (.int .i64 a))(U:w.cell? ⟨g,1,none⟩=some (.int .i64 b)):Calls Tryz.prog 227 #[.slice (some ⟨g,0,none⟩) 2 2] w fun e w'=>e=.returned (.int .i64 (G3 a b))∧w'=w:=by
 have J:Hid (G3 a b=if a=0 then b else a):=aa rfl;go_enter Tryz.func227,Tryz.ntmps227;go_wp2_with fail;go_loop[8](fun i=>i=.int .i64 0∨(i=.int .i64 1∧a=0)∨(i=.int .i64 2∧a=0∧b=0))(fun i=>2-(intOf i).toNat);case atStart=>exact .inl rfl
 case round=>
  rcases hrel with rfl|⟨rfl,j⟩|⟨rfl,j,C⟩;·
   by_cases j:a=0;·
    have P:(a !=0)=false:=by simp[j]
    have l:=aa j;clear j;go_wp2_with fail;go_round;case rel=>exact .inr (.inl ⟨rfl,l.out⟩)
    case measure=>simp[intOf]
   ·have P:(a !=0)=true:=by simp[j]
    have l:=aa j;clear j;go_wp2_with fail;go_ret;exact⟨bd (by rw[J.out,if_neg l.out]),rfl⟩
  ·have l:=aa j;clear j;by_cases C:b=0;·
    have R:(b !=0)=false:=by simp[C]
    have I:=aa C;clear C;go_wp2_with fail;go_round;case rel=>exact .inr (.inr ⟨rfl,l.out,I.out⟩)
    case measure=>simp[intOf]
   ·have R:(b !=0)=true:=by simp[C]
    clear C;go_wp2_with fail;go_ret;exact⟨bd (by rw[J.out,if_pos l.out]),rfl⟩
  ·have l:=aa j;have I:=aa C;clear j C;go_wp2_with fail;go_ret;exact⟨bd (by rw[J.out,if_pos l.out,I.out]),rfl⟩
def nV(a b:aA):Int:=G3 (mT a.src b.src) (mU a.label b.label)
theorem sG(a b:aA)(w:World):Calls Tryz.prog 187 #[a.val,b.val] w fun e w'=>e=.returned (.int .i64 (nV a b))∧Below w.heap.size w w':=by have C:Hid (nV a b=G3 (mT a.src b.src) (mU a.label b.label)):=aa rfl;unfold aA.val;go_enter Tryz.func187,Tryz.ntmps187;go_wp2_with fail;have l:Below w.heap.size w ((w.alloc (.cells #[.int .i64 a.src,.string a.label,.int .i64 a.sort,.int .i64 a.dst] 213)).alloc (.cells #[.int .i64 b.src,.string b.label,.int .i64 b.sort,.int .i64 b.dst] 213)):=(ae _ _).trans ((ae _ _).mono (by simp));have j:=aa l;clear l;go_region_held3(fun w'=>w'.cell? ⟨w.heap.size,0,none⟩=some (.int .i64 a.src)∧w'.cell? ⟨w.heap.size,1,none⟩=some (.string a.label)∧w'.cell? ⟨w.heap.size+1,0,none⟩=some (.int .i64 b.src)∧w'.cell? ⟨w.heap.size+1,1,none⟩=some (.string b.label))(go_keep)(first|(go_at_call 228;refine(px _ _ _).mono ?_;rintro e w'⟨rfl,rfl⟩)|(go_at_call 229;refine(py _ _ _).mono ?_;rintro e w'⟨rfl,rfl⟩)|(go_at_call 227;refine(B9 (mT a.src b.src) (mU a.label b.label) _ _ (by exact vu _ _ _ _ _ _ _ rfl) (by exact vu _ _ _ _ _ _ _ rfl)).mono ?_;rintro e w'⟨rfl,rfl⟩));all_goals go_wp2_with fail;go_ret;exact⟨bd C.out,by first|exact j.out.trans ((ae _ _).mono j.out.size)|exact j.out.drew.trans ((ae _ _).mono j.out.drew.size)|exact(j.out.trans ((ae _ _).mono j.out.size)).drew⟩
end
theorem Bp(x:aK)(w:World)(l g R so I to:Nat)(n c n2 sc L J k s:Nat)(hk:k<n)(ao:k<n2)(ay:s<L)(ab:l<w.heap.size)(d1:w.cell? ⟨l,1,none⟩=some (.slice (some ⟨R,so,none⟩) n2 sc))(d4:w.cell? ⟨l,4,none⟩=some (.slice (some ⟨g,0,none⟩) n c))(m1:w.cell? ⟨g,k*4+1,none⟩=some (.slice (some ⟨I,to,none⟩) L J))(n0:w.cell? ⟨R,so+k,none⟩=some (.int .i64 s))(x0:w.cell? ⟨I,to+s*2,none⟩=some (.int .i64 x.kind))(x1:w.cell? ⟨I,to+s*2+1,none⟩=some (.string x.peer)):Calls Tryz.prog 125 #[.pointer (some ⟨l,0,none⟩),.int .i64 k] w fun e w'=>e=.returned x.val∧Below w.heap.size w w':=by
 have ah:=World.block_lt_of_cell? w _ m1;have al:=World.block_lt_of_cell? w _ n0;have ac:=World.block_lt_of_cell? w _ x0;unfold aK.val;go_enter Tryz.func125,Tryz.ntmps125;go_wp2_with fail;obtain⟨P,C⟩:∃P,P=w.alloc (.cells #[.int .i64 0,.string ⟨#[]⟩] 152):=⟨_,rfl⟩;have j:Below w.heap.size w P:=by rw[C];exact ae _ _
 have T:ba P w.heap.size [.int .i64 0,.string ⟨#[]⟩]:=by rw[C];exact ba.new w [.int .i64 0,.string ⟨#[]⟩] 152
 have z0:=T.cell 0 _ rfl;have z1:=T.cell 1 _ rfl;have fz:=T.fz;rw[←C];replace d1:=(j.cell (p:=⟨l,1,none⟩) ab).trans d1;replace d4:=(j.cell (p:=⟨l,4,none⟩) ab).trans d4;replace m1:=(j.cell (p:=⟨g,k*4+1,none⟩) ah).trans m1;replace n0:=(j.cell (p:=⟨R,so+k,none⟩) al).trans n0;replace x0:=(j.cell (p:=⟨I,to+s*2,none⟩) ac).trans x0;replace x1:=(j.cell (p:=⟨I,to+s*2+1,none⟩) ac).trans x1;have ad:=aa j;have af:=aa T;have aq:¬w.heap.size=l:=by omega
 have an:¬w.heap.size=g:=by omega
 have av:¬w.heap.size=R:=by omega
 have ax:¬w.heap.size=I:=by omega
 clear C j T;go_region_held3(fun w'=>w'.cell? ⟨l,1,none⟩=some (.slice (some ⟨R,so,none⟩) n2 sc)∧w'.cell? ⟨l,4,none⟩=some (.slice (some ⟨g,0,none⟩) n c)∧w'.cell? ⟨g,k*4+1,none⟩=some (.slice (some ⟨I,to,none⟩) L J)∧w'.cell? ⟨R,so+k,none⟩=some (.int .i64 s)∧w'.cell? ⟨I,to+s*2,none⟩=some (.int .i64 x.kind)∧w'.cell? ⟨I,to+s*2+1,none⟩=some (.string x.peer))(go_keep)(first|fail);all_goals go_wp2_with fail;have hX:=(af.out.set 0 (by simp) (.int .i64 x.kind)).set 1 (by simp) (.string x.peer);have U:Below w.heap.size w (((P.setCell ⟨w.heap.size,0,none⟩ (.int .i64 x.kind)).setCell ⟨w.heap.size,1,none⟩ (.string x.peer)).drew):=((ad.out.setCell (p:=⟨w.heap.size,0,none⟩) (Nat.le_refl _) _).setCell (p:=⟨w.heap.size,1,none⟩) (Nat.le_refl _) _).drew;obtain⟨W,hW⟩:∃W,W=(P.setCell ⟨w.heap.size,0,none⟩ (.int .i64 x.kind)).setCell ⟨w.heap.size,1,none⟩ (.string x.peer):=⟨_,rfl⟩;rw[←hW]at hX U⊢;have k0:W.drew.cell? ⟨w.heap.size,0,none⟩=some (.int .i64 x.kind):=hX.cell 0 _ rfl;have k1:W.drew.cell? ⟨w.heap.size,1,none⟩=some (.string x.peer):=hX.cell 1 _ rfl;refine bodyPost_ret_by (v:=.agg #[.int .i64 x.kind,.string x.peer]) ?_ rfl ⟨rfl,U⟩;unfold results;go_simp
theorem mK{j l:Option Addr}{J C P I:Nat}{z:Int}:aj (.agg #[.slice j J C,.slice l P I,.int .i64 z])=aj (.slice j J C)++aj (.slice l P I):=by cases j<;>cases l<;>simp[aj,aG]
theorem wh{w w':World}{v:Value}{m:ck}{l:List Nat}(h:dd w v m)(C:aI w w' l)(hd:∀b∈aj v,b∉l):dd w' v m:=by obtain⟨sv,ev,rfl,J,P⟩:=h;have R:=J;have T:=P;obtain⟨U,c1,rfl,_⟩:=J;obtain⟨a2,c2,rfl,_⟩:=P;rw[mK]at hd;exact⟨_,_,rfl,R.aD C.size (fun b I j=>C.block b j (hd b (List.mem_append_left _ ((aW rfl).1 I)))),T.aD C.size (fun b I j=>C.block b j (hd b (List.mem_append_right _ ((aW rfl).1 I))))⟩
section
attribute [local go_sem ↓] Go.wp_at_zero Go.wp_at_succ
theorem dd.shape{w:World}{v:Value}{m:ck}(h:dd w v m):∃C I j l,v=rC C I j l m:=by obtain⟨sv,ev,rfl,⟨C,I,rfl,_⟩,⟨j,l,rfl,_⟩⟩:=h;exact⟨C,I,j,l,rfl⟩
theorem ET(w:World)(a b:Obj):Below w.heap.size w ((w.alloc a).alloc b):=(ae _ _).trans ((ae _ _).mono (by simp))
theorem cW{q:Bool}{m:ck}{s:Int}(j:iP s 0 ((m.ai.length:Int)-1)=q)(v:Value)(w:World)(I:dd w v m):Calls Tryz.prog 170 #[v,.int .i64 s] w fun e w'=>e=.returned (.bool q)∧Below w.heap.size w w':=by
 have P:m.ai.length≤4294967296:=by obtain⟨sv,ev,rfl,J,he⟩:=I;exact J.iJ
 obtain⟨sa,sc,T,U,rfl⟩:=I.shape;clear I;unfold rC;have R:=aa j;by_cases C:0≤s;·
  by_cases h1:s<(m.ai.length:Int);·have l:Hid (q=true):=aa (by rw[←j];simp[iP,C];omega);clear j;go_enter Tryz.func170,Tryz.ntmps170;go_wp2_with fail;go_ret;exact⟨aC l.out,ae _ _⟩
  ·have l:Hid (q=false):=aa (by rw[←j];simp[iP,C];omega);clear j;go_enter Tryz.func170,Tryz.ntmps170;go_wp2_with fail;go_ret;exact⟨aC l.out,ae _ _⟩
 ·have l:Hid (q=false):=aa (by rw[←j];simp[iP,C]);clear j;go_enter Tryz.func170,Tryz.ntmps170;go_wp2_with fail;go_ret;exact⟨aC l.out,ae _ _⟩
theorem ky{q:Bool}{x:aK}(j:(x.kind==0)=q)(w:World):Calls Tryz.prog 126 #[x.val] w fun e w'=>e=.returned (.bool q)∧Below w.heap.size w w':=by unfold aK.val;cases q;all_goals go_enter Tryz.func126,Tryz.ntmps126;go_wp2_with fail;go_ret;exact⟨aC (by first|exact j.symm|rfl),ae _ _⟩
theorem nD{q:Bool}{n:Int}(j:iP n 0 2=q)(w:World):Calls Tryz.prog 211 #[.int .i64 n] w fun e w'=>e=.returned (.bool q)∧w'=w:=by have l:=aa j;clear j;by_cases h:0≤n;all_goals go_enter Tryz.func211,Tryz.ntmps211;go_wp2_with fail;go_ret;exact⟨aC (by rw[←l.out];simp[iP, *];try omega),rfl⟩
theorem fQ{q:Bool}{s:ByteArray}(h:b9 s=q)(j:s.size≤maxLen)(w:World):Calls Tryz.prog 207 #[.string s] w fun e w'=>e=.returned (.bool q)∧w'=w:=by subst h;exact lF s w j
theorem pO{q:Bool}{x:aK}(hq:kQ x=q)(hp:x.peer.size≤maxLen)(w:World):Calls Tryz.prog 185 #[x.val] w fun e w'=>e=.returned (.bool q)∧Below w.heap.size w w':=by
 have HP:=aa hp;obtain⟨nb,j⟩:∃nb,b9 x.peer=nb:=⟨_,rfl⟩;have P:=aa j;obtain⟨C,l⟩:∃C,(x.kind==0)=C:=⟨_,rfl⟩;obtain⟨I,R⟩:∃I,(x.kind==1)=I:=⟨_,rfl⟩;obtain⟨J,T⟩:∃J,(x.kind==2)=J:=⟨_,rfl⟩;obtain⟨pe,U⟩:∃pe,(x.peer.toList==[])=pe:=⟨_,rfl⟩;have HQ:Hid (q=if C then pe else nb&&(I||J)):=aa (by
  rw[←hq,kQ,l,U,j];cases C;·
   have:iP x.kind 0 2=(I||J):=by rw[←R,←T,iP,Bool.eq_iff_iff];simp at l⊢;omega
   simp[this]
  ·rfl);clear hq hp j;unfold aK.val;cases C;all_goals cases I
 all_goals cases J
 all_goals go_enter Tryz.func185,Tryz.ntmps185;go_wp2_with(go_at_call 207;refine(fQ P.out HP.out _).mono ?_;rintro e w'⟨rfl,rfl⟩);go_ret;exact⟨aC (by rw[HQ.out];simp[*]),ae _ _⟩
end
def dH(m:ck)(s:Int):aK:=(m.ai[s.toNat]?).getD ⟨0,ByteArray.empty⟩
def fo(m:ck)(s:Int)(e:aA):cj:=⟨(dH m s).kind,(dH m s).peer,e.label,e.sort⟩
def dw(m:ck)(s:Int):List cj:=(m.aH.filter fun e=>e.src==s).map (fo m s)
def eA(m:ck)(s:Int)(k:Nat):List cj:=((m.aH.take k).filter fun e=>e.src==s).map (fo m s)
theorem vd{m:ck}{s:Int}{k:Nat}(h:k<m.aH.length)(j:(m.aH[k].src==s)=false):eA m s (k+1)=eA m s k:=by unfold eA;rw[List.take_succ_eq_append_getElem h,List.filter_append];simp[j]
theorem sV{m:ck}{s:Int}{k:Nat}(h:k<m.aH.length)(j:(m.aH[k].src==s)=true):eA m s (k+1)=eA m s k++[fo m s m.aH[k]]:=by unfold eA;rw[List.take_succ_eq_append_getElem h,List.filter_append,List.map_append];simp[j]
theorem sT{m:ck}{s:Int}{k:Nat}(h:m.aH.length≤k):eA m s k=dw m s:=by unfold eA dw;rw[List.take_of_length_le h]
theorem sU(m:ck)(s:Int)(k:Nat):(eA m s k).length≤k:=by unfold eA;rw[List.length_map];exact Nat.le_trans (List.length_filter_le _ _) (List.length_take_le _ _)
theorem Af(m:ck)(s:Int):(dw m s).length≤m.aH.length:=by unfold dw;rw[List.length_map];exact List.length_filter_le _ _
theorem Tryz.qh:(Tryz.prog.info? 104).map (fun i=>(i.zero,i.size,i.bytes))=some (some (.agg #[.int .i64 0,.string ByteArray.empty,.string ByteArray.empty,.int .i64 0]),4,48):=by kernel_rfl
theorem fN(w:World)(a b:Obj):Below w.heap.size w ((w.alloc a).alloc b):=(ae _ _).trans ((ae _ _).mono (by simp))
theorem C8(w:World)(A:Obj)(l:List Value)(t:TypeId)(j:Nat)(u:Value)(h:l[j]?=some u):((w.alloc A).alloc (.cells l.toArray t)).cell? (Addr.add ⟨w.heap.size+1,0,none⟩ j)=some u:=by
 have e:((w.alloc A).alloc (.cells l.toArray t)).heap[w.heap.size+1]?=some (.cells l.toArray t):=bV _ _ _ (by simp);have C:Addr.add ⟨w.heap.size+1,0,none⟩ j=⟨w.heap.size+1,j,none⟩:=by unfold Addr.add;split<;>simp_all
 rw[C];simp only[World.cell?];rw[e];simpa using h
def oF:ck:=⟨[],[],0⟩
def Jt(sv ev:Value)(m:ck)(c:Int):Value:=.agg #[sv,ev,.int .i64 m.start,.int .i64 c]
def Ja:Obj:=.cells #[.slice none 0 0,.slice none 0 0,.int .i64 0,.int .i64 0] 253
structure yN(w w':World)(e:Ending)(m:ck)(c:Int):Prop where
 Hz:∃sv ev,e=.returned (Jt sv ev m c)∧cF w' w.heap.size sv m.ai∧bC w' w.heap.size ev m.aH∧(∀b∈aj sv,b∉aj ev)
 cB:Below w.heap.size w w'
theorem IK{B:Nat}{a w:World}(h:Below B a w)(j l C I:Value):Below B a ((((w.setCell ⟨B,0,none⟩ j).setCell ⟨B,1,none⟩ l).setCell ⟨B,2,none⟩ C).setCell ⟨B,3,none⟩ I):=(((h.setCell (p:=⟨B,0,none⟩) (Nat.le_refl _) _).setCell (p:=⟨B,1,none⟩) (Nat.le_refl _) _).setCell (p:=⟨B,2,none⟩) (Nat.le_refl _) _).setCell (p:=⟨B,3,none⟩) (Nat.le_refl _) _
theorem Jh(w:World)(B:Nat)(j l C I:Value):aI w ((((w.setCell ⟨B,0,none⟩ j).setCell ⟨B,1,none⟩ l).setCell ⟨B,2,none⟩ C).setCell ⟨B,3,none⟩ I) [B]:=(((aP w B 0 j).setCell 1 l).setCell 2 C).setCell 3 I
section
attribute [local go_sem ↓] Go.wp_at_zero Go.wp_at_succ
theorem ku{q:Bool}{m:ck}{x:aA}(hq:sK m x=q)(hl:x.label.size≤maxLen)(v:Value)(w:World)(hv:dd w v m):Calls Tryz.prog 186 #[v,x.val] w fun e w'=>e=.returned (.bool q)∧Below w.heap.size w w':=by
 have HL:=aa hl;have HV:Hid (∀W,Below w.heap.size w W→∀g:Grown W,dd g.val v m):=aa (fun W hb g=>(hv.carry hb).carry g.cB);have HS:Hid (iP x.src 0 ((m.ai.length:Int)-1)=true→∃b o sa sc ea ec s,v=rC sa sc ea ec m∧sa=some ⟨b,o,none⟩∧(s:aK).kind=oz m x.src∧∀W,Below w.heap.size w W→W.cell? ⟨b,o+x.src.toNat*2,none⟩=some (.int .i64 s.kind)∧W.cell? ⟨b,o+x.src.toNat*2+1,none⟩=some (.string s.peer)):=aa (fun a3=>by
  obtain⟨sv,ev,rfl,hs,he⟩:=hv;obtain⟨sa,sc,rfl,_,_,a4⟩:=hs;obtain⟨ea,ec,rfl,_⟩:=he;have ax:0≤x.src∧x.src<(m.ai.length:Int):=by simp[iP]at a3;omega
  obtain⟨b,o,rfl,a2,aL⟩:=a4 (by intro h;rw[h]at ax;simp at ax;omega);have az:x.src.toNat<m.ai.length:=by omega
  have:=aL.get x.src.toNat az;exact⟨b,o,_,sc,ea,ec,m.ai[x.src.toNat],rfl,rfl,by rw[oz,List.getElem?_eq_getElem az],fun W hb=>this.carry a2 hb⟩);have a7:m.ai.length≤4294967296:=by obtain⟨sv,ev,rfl,hs,he⟩:=hv;exact hs.iJ
 obtain⟨sa,sc,ea,ec,aN⟩:=hv.shape;have a6:=aa aN;clear hv;obtain⟨q1,al⟩:∃q1,iP x.src 0 ((m.ai.length:Int)-1)=q1:=⟨_,rfl⟩;obtain⟨q2,an⟩:∃q2,iP x.dst 0 ((m.ai.length:Int)-1)=q2:=⟨_,rfl⟩;obtain⟨q3,ao⟩:∃q3,b9 x.label=q3:=⟨_,rfl⟩;obtain⟨q4,aq⟩:∃q4,iP x.sort 0 2=q4:=⟨_,rfl⟩;obtain⟨q5,av⟩:∃q5,(oz m x.src==0)=q5:=⟨_,rfl⟩;have HQ:Hid (q=(q1&&(q2&&(q3&&(q4&&!q5))))):=aa (by rw[←hq,sK,al,an,ao,aq,av]);have R:=aa al;have ac:=aa an;have ad:=aa ao;have af:=aa aq;have aR:=aa av;clear al an ao aq av hq;have ab:Hid (∀W A B,W=(w.alloc A).alloc B→Below w.heap.size w W):=aa (fun W A B l=>by rw[l];exact ET _ _ _);subst aN;cases q1;·unfold rC aA.val;go_enter Tryz.func186,Tryz.ntmps186;go_wp2_with(refine cZ 5 (fun W l=>?_);have J:=bh W;have f0:=ar (w:=W) (b:=w.heap.size) (o:=0) (v:=.slice sa m.ai.length sc) (by rw[l];simp);have f1:=ar (w:=W) (b:=w.heap.size) (o:=1) (v:=.slice ea m.aH.length ec) (by rw[l];simp);have f2:=ar (w:=W) (b:=w.heap.size) (o:=2) (v:=.int .i64 m.start) (by rw[l];simp);have g0:=ar (w:=W) (b:=w.heap.size+1) (o:=0) (v:=.int .i64 x.src) (by rw[l];simp);have g1:=ar (w:=W) (b:=w.heap.size+1) (o:=1) (v:=.string x.label) (by rw[l];simp);have g2:=ar (w:=W) (b:=w.heap.size+1) (o:=2) (v:=.int .i64 x.sort) (by rw[l];simp);have g3:=ar (w:=W) (b:=w.heap.size+1) (o:=3) (v:=.int .i64 x.dst) (by rw[l];simp);have j:=aa (ab.out W _ _ l);clear l;(repeat(go_big_quiet_step(first|(go_at_call_of 170 x.src;exact aZ (cW R.out _ _ (HV.out _ j.out _)))|(go_at_call_of 170 x.dst;exact aZ (cW ac.out _ _ (HV.out _ j.out _))))));refine wpQuiet_nil ?_;intro w1 C;have I:=aa C;clear C J f0 f1 f2 g0 g1 g2 g3);go_ret;exact⟨aC (by rw[HQ.out];simp),j.out.trans (I.out.mono j.out.size)⟩
 ·obtain⟨b,o,bb,a5,a0,a1,st,P,rfl,ay,aM⟩:=HS.out R.out;obtain⟨rfl,rfl,rfl,rfl⟩:sa=some ⟨b,o,none⟩∧sc=a5∧ea=a0∧ec=a1:=by simp[rC]at P;exact⟨P.1.1,P.1.2,P.2.1,P.2.2⟩
  have HK:Hid ((st.kind==0)=q5):=aa (by rw[ay];exact aR.out);have ah:=aa aM;have hx:0≤x.src∧x.src<(m.ai.length:Int):=by have:=R.out;simp[iP]at this;omega
  obtain⟨a8,a9⟩:=hx;clear P ay aM;unfold rC aA.val;cases q2;·go_enter Tryz.func186,Tryz.ntmps186;go_wp2_with(refine cZ 5 (fun W l=>?_);have J:=bh W;have f0:=ar (w:=W) (b:=w.heap.size) (o:=0) (v:=.slice (some ⟨b,o,none⟩) m.ai.length sc) (by rw[l];simp);have f1:=ar (w:=W) (b:=w.heap.size) (o:=1) (v:=.slice ea m.aH.length ec) (by rw[l];simp);have f2:=ar (w:=W) (b:=w.heap.size) (o:=2) (v:=.int .i64 m.start) (by rw[l];simp);have g0:=ar (w:=W) (b:=w.heap.size+1) (o:=0) (v:=.int .i64 x.src) (by rw[l];simp);have g1:=ar (w:=W) (b:=w.heap.size+1) (o:=1) (v:=.string x.label) (by rw[l];simp);have g2:=ar (w:=W) (b:=w.heap.size+1) (o:=2) (v:=.int .i64 x.sort) (by rw[l];simp);have g3:=ar (w:=W) (b:=w.heap.size+1) (o:=3) (v:=.int .i64 x.dst) (by rw[l];simp);have j:=aa (ab.out W _ _ l);obtain⟨T,U⟩:=ah.out W j.out;have f8:=ar T;have f9:=ar U;clear T U;clear l;(repeat(go_big_quiet_step(first|(go_at_call_of 170 x.src;exact aZ (cW R.out _ _ (HV.out _ j.out _)))|(go_at_call_of 170 x.dst;exact aZ (cW ac.out _ _ (HV.out _ j.out _)))|(go_at_call 126;exact aZ (ky (x:=st) HK.out _))|(go_at_call 207;exact eJ (fQ ad.out HL.out _))|(go_at_call 211;exact eJ (nD af.out _)))));refine wpQuiet_nil ?_;intro w1 C;have I:=aa C;clear C J f0 f1 f2 g0 g1 g2 g3 f8 f9);go_ret;exact⟨aC (by rw[HQ.out];simp),j.out.trans (I.out.mono j.out.size)⟩
  ·cases q5;rotate_left;·go_enter Tryz.func186,Tryz.ntmps186;go_wp2_with(refine cZ 5 (fun W l=>?_);have J:=bh W;have f0:=ar (w:=W) (b:=w.heap.size) (o:=0) (v:=.slice (some ⟨b,o,none⟩) m.ai.length sc) (by rw[l];simp);have f1:=ar (w:=W) (b:=w.heap.size) (o:=1) (v:=.slice ea m.aH.length ec) (by rw[l];simp);have f2:=ar (w:=W) (b:=w.heap.size) (o:=2) (v:=.int .i64 m.start) (by rw[l];simp);have g0:=ar (w:=W) (b:=w.heap.size+1) (o:=0) (v:=.int .i64 x.src) (by rw[l];simp);have g1:=ar (w:=W) (b:=w.heap.size+1) (o:=1) (v:=.string x.label) (by rw[l];simp);have g2:=ar (w:=W) (b:=w.heap.size+1) (o:=2) (v:=.int .i64 x.sort) (by rw[l];simp);have g3:=ar (w:=W) (b:=w.heap.size+1) (o:=3) (v:=.int .i64 x.dst) (by rw[l];simp);have j:=aa (ab.out W _ _ l);obtain⟨T,U⟩:=ah.out W j.out;have f8:=ar T;have f9:=ar U;clear T U;clear l;(repeat(go_big_quiet_step(first|(go_at_call_of 170 x.src;exact aZ (cW R.out _ _ (HV.out _ j.out _)))|(go_at_call_of 170 x.dst;exact aZ (cW ac.out _ _ (HV.out _ j.out _)))|(go_at_call 126;exact aZ (ky (x:=st) HK.out _))|(go_at_call 207;exact eJ (fQ ad.out HL.out _))|(go_at_call 211;exact eJ (nD af.out _)))));refine wpQuiet_nil ?_;intro w1 C;have I:=aa C;clear C J f0 f1 f2 g0 g1 g2 g3 f8 f9);go_ret;exact⟨aC (by rw[HQ.out];simp),j.out.trans (I.out.mono j.out.size)⟩
   ·cases q3;·go_enter Tryz.func186,Tryz.ntmps186;go_wp2_with(refine cZ 5 (fun W l=>?_);have J:=bh W;have f0:=ar (w:=W) (b:=w.heap.size) (o:=0) (v:=.slice (some ⟨b,o,none⟩) m.ai.length sc) (by rw[l];simp);have f1:=ar (w:=W) (b:=w.heap.size) (o:=1) (v:=.slice ea m.aH.length ec) (by rw[l];simp);have f2:=ar (w:=W) (b:=w.heap.size) (o:=2) (v:=.int .i64 m.start) (by rw[l];simp);have g0:=ar (w:=W) (b:=w.heap.size+1) (o:=0) (v:=.int .i64 x.src) (by rw[l];simp);have g1:=ar (w:=W) (b:=w.heap.size+1) (o:=1) (v:=.string x.label) (by rw[l];simp);have g2:=ar (w:=W) (b:=w.heap.size+1) (o:=2) (v:=.int .i64 x.sort) (by rw[l];simp);have g3:=ar (w:=W) (b:=w.heap.size+1) (o:=3) (v:=.int .i64 x.dst) (by rw[l];simp);have j:=aa (ab.out W _ _ l);obtain⟨T,U⟩:=ah.out W j.out;have f8:=ar T;have f9:=ar U;clear T U;clear l;(repeat(go_big_quiet_step(first|(go_at_call_of 170 x.src;exact aZ (cW R.out _ _ (HV.out _ j.out _)))|(go_at_call_of 170 x.dst;exact aZ (cW ac.out _ _ (HV.out _ j.out _)))|(go_at_call 126;exact aZ (ky (x:=st) HK.out _))|(go_at_call 207;exact eJ (fQ ad.out HL.out _))|(go_at_call 211;exact eJ (nD af.out _)))));refine wpQuiet_nil ?_;intro w1 C;have I:=aa C;clear C J f0 f1 f2 g0 g1 g2 g3 f8 f9);go_ret;exact⟨aC (by rw[HQ.out];simp),j.out.trans (I.out.mono j.out.size)⟩
    ·cases q4;·go_enter Tryz.func186,Tryz.ntmps186;go_wp2_with(refine cZ 5 (fun W l=>?_);have J:=bh W;have f0:=ar (w:=W) (b:=w.heap.size) (o:=0) (v:=.slice (some ⟨b,o,none⟩) m.ai.length sc) (by rw[l];simp);have f1:=ar (w:=W) (b:=w.heap.size) (o:=1) (v:=.slice ea m.aH.length ec) (by rw[l];simp);have f2:=ar (w:=W) (b:=w.heap.size) (o:=2) (v:=.int .i64 m.start) (by rw[l];simp);have g0:=ar (w:=W) (b:=w.heap.size+1) (o:=0) (v:=.int .i64 x.src) (by rw[l];simp);have g1:=ar (w:=W) (b:=w.heap.size+1) (o:=1) (v:=.string x.label) (by rw[l];simp);have g2:=ar (w:=W) (b:=w.heap.size+1) (o:=2) (v:=.int .i64 x.sort) (by rw[l];simp);have g3:=ar (w:=W) (b:=w.heap.size+1) (o:=3) (v:=.int .i64 x.dst) (by rw[l];simp);have j:=aa (ab.out W _ _ l);obtain⟨T,U⟩:=ah.out W j.out;have f8:=ar T;have f9:=ar U;clear T U;clear l;(repeat(go_big_quiet_step(first|(go_at_call_of 170 x.src;exact aZ (cW R.out _ _ (HV.out _ j.out _)))|(go_at_call_of 170 x.dst;exact aZ (cW ac.out _ _ (HV.out _ j.out _)))|(go_at_call 126;exact aZ (ky (x:=st) HK.out _))|(go_at_call 207;exact eJ (fQ ad.out HL.out _))|(go_at_call 211;exact eJ (nD af.out _)))));refine wpQuiet_nil ?_;intro w1 C;have I:=aa C;clear C J f0 f1 f2 g0 g1 g2 g3 f8 f9);go_ret;exact⟨aC (by rw[HQ.out];simp),j.out.trans (I.out.mono j.out.size)⟩
     ·go_enter Tryz.func186,Tryz.ntmps186;go_wp2_with(refine cZ 5 (fun W l=>?_);have J:=bh W;have f0:=ar (w:=W) (b:=w.heap.size) (o:=0) (v:=.slice (some ⟨b,o,none⟩) m.ai.length sc) (by rw[l];simp);have f1:=ar (w:=W) (b:=w.heap.size) (o:=1) (v:=.slice ea m.aH.length ec) (by rw[l];simp);have f2:=ar (w:=W) (b:=w.heap.size) (o:=2) (v:=.int .i64 m.start) (by rw[l];simp);have g0:=ar (w:=W) (b:=w.heap.size+1) (o:=0) (v:=.int .i64 x.src) (by rw[l];simp);have g1:=ar (w:=W) (b:=w.heap.size+1) (o:=1) (v:=.string x.label) (by rw[l];simp);have g2:=ar (w:=W) (b:=w.heap.size+1) (o:=2) (v:=.int .i64 x.sort) (by rw[l];simp);have g3:=ar (w:=W) (b:=w.heap.size+1) (o:=3) (v:=.int .i64 x.dst) (by rw[l];simp);have j:=aa (ab.out W _ _ l);obtain⟨T,U⟩:=ah.out W j.out;have f8:=ar T;have f9:=ar U;clear T U;clear l;(repeat(go_big_quiet_step(first|(go_at_call_of 170 x.src;exact aZ (cW R.out _ _ (HV.out _ j.out _)))|(go_at_call_of 170 x.dst;exact aZ (cW ac.out _ _ (HV.out _ j.out _)))|(go_at_call 126;exact aZ (ky (x:=st) HK.out _))|(go_at_call 207;exact eJ (fQ ad.out HL.out _))|(go_at_call 211;exact eJ (nD af.out _)))));refine wpQuiet_nil ?_;intro w1 C;have I:=aa C;clear C J f0 f1 f2 g0 g1 g2 g3 f8 f9);go_ret;exact⟨aC (by rw[HQ.out];simp),j.out.trans (I.out.mono j.out.size)⟩
end
theorem pE:∀x:List UInt8,Op.bytesLess x x=false|[]=>rfl|a::x=>by simp[Op.bytesLess,pE x]
theorem pF:∀x y z:List UInt8,Op.bytesLess x y=true→Op.bytesLess y z=true→Op.bytesLess x z=true
 |_,[],_,h,_=>by simp[Op.bytesLess]at h|_,_::_,[],_,h=>by simp[Op.bytesLess]at h|[],_::_,_::_,_,_=>rfl|a::x,b::y,c::z,j,h2=>by
  simp only[Op.bytesLess,Bool.or_eq_true,Bool.and_eq_true,decide_eq_true_eq,beq_iff_eq]at j h2⊢;rcases j with j|⟨rfl,j⟩;·
   rcases h2 with h2|⟨rfl,h2⟩;·exact .inl (UInt8.lt_trans j h2)
   ·exact .inl j
  ·rcases h2 with h2|⟨rfl,h2⟩;·exact .inl h2
   ·exact .inr ⟨rfl,pF x y z j h2⟩
theorem wy{a b c:aA}(l:bT a b=true)(j:bT b c=true):bT a c=true:=by
 simp only[bT,Bool.or_eq_true,Bool.and_eq_true,decide_eq_true_eq,beq_iff_eq]at l j⊢;rcases l with l|⟨I,l⟩;·
  rcases j with j|⟨C,j⟩;·exact .inl (by omega)
  ·exact .inl (by omega)
 ·rcases j with j|⟨C,j⟩;·exact .inl (by omega)
  ·exact .inr ⟨by omega,pF _ _ _ l j⟩
theorem wu{a b:aA}(h:bT a b=true)(l:a.src=b.src)(j:a.label=b.label):False:=by
 simp only[bT,Bool.or_eq_true,Bool.and_eq_true,decide_eq_true_eq,beq_iff_eq]at h;rcases h with h|⟨_,h⟩;·omega
 ·rw[j,pE]at h;cases h
theorem te{m:ck}(h:cU m=true)(i:Nat)(hi:i+1<m.aH.length):bT m.aH[i] m.aH[i+1]=true:=by simp only[cU,Bool.and_eq_true]at h;have j:=List.all_eq_true.1 h.2.2 (i+1) (List.mem_range.2 hi);rw[gG,List.getElem?_eq_getElem hi]at j;simp only[Nat.add_sub_cancel,Bool.and_eq_true]at j;have l:=j.2;rw[List.getElem?_eq_getElem (by omega)]at l;exact l
theorem ml{m:ck}(h:cU m=true)(i:Nat):∀d(hi:i+d+1<m.aH.length),bT (m.aH[i]'(by omega)) m.aH[i+d+1]=true|0,hi=>te h i hi|d+1,hi=>wy (ml h i d (by omega)) (te h (i+d+1) hi)
theorem As{m:ck}(h:cU m=true)(i j:Nat)(hi:i<m.aH.length)(I:j<m.aH.length)(C:m.aH[i].src=m.aH[j].src)(l:m.aH[i].label=m.aH[j].label):i=j:=by
 rcases Nat.lt_trichotomy i j with h1|h1|h1;·
  exfalso;have:=ml h i (j-i-1) (by omega);have e:i+(j-i-1)+1=j:=by omega
  simp only[e]at this;exact wu this C l
 ·exact h1
 ·exfalso;have:=ml h j (i-j-1) (by omega);have e:j+(i-j-1)+1=i:=by omega
  simp only[e]at this;exact wu this C.symm l.symm
theorem Ch{m:ck}(h:cU m=true){e:aA}(l:e∈m.aH):sK m e=true:=by simp only[cU,Bool.and_eq_true]at h;obtain⟨i,hi,rfl⟩:=List.getElem_of_mem l;have j:=List.all_eq_true.1 h.2.2 i (List.mem_range.2 hi);rw[gG,List.getElem?_eq_getElem hi]at j;simp only[Bool.and_eq_true]at j;exact j.1
theorem jy{m:ck}(h:cU m=true){e:aA}(j:e∈m.aH):0≤e.src∧e.src<(m.ai.length:Int)∧0≤e.dst∧e.dst<(m.ai.length:Int)∧0≤e.sort∧e.sort≤2:=by have:=Ch h j;simp[sK,iP]at this;omega
theorem kz{m:ck}(h:cU m=true):1≤m.ai.length∧m.ai.length≤40:=by simp[cU,lW,iP]at h;omega
theorem sd{m:ck}(h:cU m=true)(s:Int):0≤(dH m s).kind∧(dH m s).kind≤2:=by
 unfold dH;cases C:m.ai[s.toNat]? with
  |none=>simp|some x=>
   simp only[cU,Bool.and_eq_true]at h;have j:=List.all_eq_true.1 h.2.1 x (List.mem_of_getElem? C);simp only[kQ]at j;simp only[Option.getD_some];split at j;·rename_i l;simp at l;omega
   ·simp[iP]at j;omega
def iO(a b:cj):Bool:=a.kind==b.kind&&(a.peer.toList==b.peer.toList&&(a.label.toList==b.label.toList&&a.sort==b.sort))
theorem sA{a b:ByteArray}(h:a.toList=b.toList):a=b:=by rw[Go.ByteArray.toList_eq,Go.ByteArray.toList_eq]at h;apply ByteArray.ext;exact Array.ext' h
theorem nU{a b:cj}:iO a b=true↔a=b:=by
 constructor;·intro h;simp only[iO,Bool.and_eq_true,beq_iff_eq]at h;obtain⟨j,l,C,I⟩:=h;cases a;cases b;simp at j l C I;rw[j,sA l,sA C,I]
 ·rintro rfl;simp[iO]
def dM(m:ck)(s:Int)(a:cj):Int:=match m.aH.find? (fun e=>e.src==s&&iO a (fo m s e))with|some e=>e.dst|none=>-1
theorem yy{m:ck}(h:cU m=true){s:Int}{a:cj}{e:aA}(P:e∈m.aH)(R:e.src=s)(J:fo m s e=a):dM m s a=e.dst:=by
 unfold dM;cases C:m.aH.find? (fun e=>e.src==s&&iO a (fo m s e))with
  |none=>have:=List.find?_eq_none.1 C e P;simp[R,nU,J]at this|some e'=>
   have l:=List.find?_some C;have T:=List.mem_of_find?_eq_some C;simp only[Bool.and_eq_true,beq_iff_eq,nU]at l;obtain⟨i,hi,rfl⟩:=List.getElem_of_mem P;obtain⟨j,U,rfl⟩:=List.getElem_of_mem T;have hl:m.aH[i].label=m.aH[j].label:=by have:=J.trans l.2;simp only[fo,cj.mk.injEq]at this;exact this.2.2.1
   have I:=As h i j hi U (R.trans l.1.symm) hl;subst I;rfl
theorem yx{m:ck}{s:Int}{a:cj}(h:∀e∈m.aH,¬(e.src=s∧fo m s e=a)):dM m s a=-1:=by
 unfold dM;have:m.aH.find? (fun e=>e.src==s&&iO a (fo m s e))=none:=by rw[List.find?_eq_none];intro e j h2;simp only[Bool.and_eq_true,beq_iff_eq,nU]at h2;exact h e j ⟨h2.1,h2.2.symm⟩
 rw[this]
theorem Ad(a b:cj)(W:World):(Op.equalIn 10000 104 (.agg #[.int .i64 a.kind,.string a.peer,.string a.label,.int .i64 a.sort]) (.agg #[.int .i64 b.kind,.string b.peer,.string b.label,.int .i64 b.sort])).run Tryz.prog W=.ok (iO a b) W:=by
 by_cases j:a.kind=b.kind;·
  by_cases l:a.peer.toList=b.peer.toList;·
   by_cases C:a.label.toList=b.label.toList;·by_cases I:a.sort=b.sort;all_goals go_simp;simp[iO,j,l,C,I]
   ·go_simp;simp[iO,j,l,C]
  ·go_simp;simp[iO,j,l]
 ·go_simp;simp[iO,j]
end Go.Proofs.YtdiiiijkhpdcbaaGreatDoor
