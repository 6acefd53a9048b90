import Derived.Test.YtdiiiijkhpdcbaaGreatDoorRX05
import Derived.Test.YtdiiiijkhpdcbaaGreatDoorRX04
import Derived.Deep.RegionHeld3
import Derived.Test.YtdiiiijkhpdcbaaGreatDoorRX03
namespace Go.Proofs.YtdiiiijkhpdcbaaGreatDoor
open Go.RowKit
set_option linter.unusedSimpArgs false
set_option linter.unusedVariables false
set_option maxHeartbeats 2000000
set_option maxRecDepth 100000
theorem Km(w:World)(A B C:Obj):Below (w.alloc A).heap.size (w.alloc A) (((w.alloc A).alloc B).alloc C):=(ag _ _).trans ((ag _ _).mono (by simp))
theorem FO(w:World)(A B C:Obj):Below ((w.alloc A).alloc B).heap.size ((w.alloc A).alloc B) (((w.alloc A).alloc B).alloc C):=ag _ _
theorem te(w:World)(A B:Obj)(cs:Array Value)(t:TypeId)(off:Nat)(v:Value)(h:cs[off]?=some v):(((w.alloc A).alloc B).alloc (.cells cs t)).cell? ⟨w.heap.size+1+1,off,none⟩=some v:=by have e:(((w.alloc A).alloc B).alloc (.cells cs t)).heap[w.heap.size+1+1]?=some (.cells cs t):=bZ _ _ _ (by simp);simp only[World.cell?];rw[e];simpa using h
structure cj where
 ai:List aP
 aI:List aC
 start:Int
def cY(w:World)(v:Value)(m:cj):Prop:=∃sv ev,v=.agg #[sv,ev,.int .i64 m.start]/\dc w w.heap.size sv m.ai/\dJ w w.heap.size ev m.aI
theorem cY.carry{w w':World}{v:Value}{m:cj}(h:cY w v m)(j:ZW w w'):cY w' v m:=by obtain⟨sv,ev,e,l,C⟩:=h;exact⟨sv,ev,e,(l.carry j).up j.size,(C.carry j).up j.size⟩
def cj.fit(m:cj):Prop:=(∀x∈m.ai,x.fit)/\(∀x∈m.aI,x.fit)/\m.ai.length<=1048576/\m.aI.length<=1048576
structure qF(w:World)(sa:Option Addr)(sc:Nat)(ea:Option Addr)(ec:Nat)(m:cj):Prop where
 KU:∀x∈m.ai,x.ok
 KP:∀x∈m.aI,x.ok
 sl:m.ai.length<=maxLen
 el:m.aI.length<=maxLen
 sr:m.ai≠[]->∃b o,sa=some ⟨b,o,none⟩/\b<w.heap.size/\dZ w b o m.ai
 er:m.aI≠[]->∃b o,ea=some ⟨b,o,none⟩/\b<w.heap.size/\fE w b o m.aI
theorem qF.carry{w w':World}{R J:Option Addr}{T P:Nat}{m:cj}(h:qF w R T J P m)(C:ZW w w'):qF w' R T J P m:=by
 refine⟨h.KU,h.KP,h.sl,h.el,fun l=>?_,fun l=>?_⟩;·obtain⟨b,o,e,j,I⟩:=h.sr l;exact⟨b,o,e,Nat.lt_of_lt_of_le j C.size,I.carry j C⟩
 ·obtain⟨b,o,e,j,I⟩:=h.er l;exact⟨b,o,e,Nat.lt_of_lt_of_le j C.size,I.carry j C⟩
def r9(C:Option Addr)(I:Nat)(j:Option Addr)(l:Nat)(m:cj):Value:=.agg #[.slice C m.ai.length I,.slice j m.aI.length l,.int .i64 m.start]
def iN(n lo hi:Int):Bool:=decide (lo<=n)&&decide (n<=hi)
theorem JT(n lo hi:Int)(w:World):Calls Tryz.prog 105 #[.int .i64 n,.int .i64 lo,.int .i64 hi] w fun e w'=>e=.returned (.bool (iN n lo hi))/\w'=w:=Ic n lo hi w
def bS(a b:aC):Bool:=decide (a.src<b.src)||(a.src==b.src&&Op.bytesLess a.label.toList b.label.toList)
theorem Gk(a b:aC)(w:World):Calls Tryz.prog 179 #[a.val,b.val] w fun e w'=>e=.returned (.bool (bS a b))/\ZW w w':=by
 have l:=aa (show bS a b=(decide (a.src<b.src)||(a.src==b.src&&Op.bytesLess a.label.toList b.label.toList))from rfl);unfold aC.val;by_cases J:a.src<b.src;·go_in;go_wp2;all_goals go_ret;refine⟨aD ?_,(ag _ _).trans ((ag _ _).mono (by simp))⟩;rw[l.out];simp[*]
 ·have j:decide (a.src<b.src)=false:=decide_eq_false J;cases h2:(a.src==b.src);all_goals have I:=aa h2;have C:=aa j;go_in;go_wp2;all_goals go_ret;refine⟨aD ?_,(ag _ _).trans ((ag _ _).mono (by simp))⟩;rw[l.out,I.out,C.out];simp
def lu(x:aP):Bool:=if x.kind==0 then x.peer.toList==[]else ct x.peer&&iN x.kind 0 2
def pj(m:cj)(s:Int):Int:=match m.ai[s.toNat]? with|some x=>x.kind|none=>0
def tj(m:cj)(e:aC):Bool:=iN e.src 0 ((m.ai.length:Int)-1)&&(iN e.dst 0 ((m.ai.length:Int)-1)&&(ct e.label&&(iN e.sort 0 2&&!(pj m e.src==0))))
def gT(m:cj)(i:Nat):Bool:=match m.aI[i]? with|none=>true|some e=>tj m e&&(match i,m.aI[i-1]? with|0,_=>true|_+1,some j=>bS j e|_+1,none=>true)
def mC(m:cj):Bool:=iN (m.ai.length:Int) 1 40&&(decide (m.aI.length<=80)&&iN m.start 0 ((m.ai.length:Int)-1))
def cG(m:cj):Bool:=mC m&&(m.ai.all lu&&(List.range m.aI.length).all (gT m))
theorem Eb{q:Bool}{n lo hi:Int}(h:iN n lo hi=q)(w:World):Calls Tryz.prog 105 #[.int .i64 n,.int .i64 lo,.int .i64 hi] w fun e w'=>e=.returned (.bool q)/\w'=w:=by subst h;exact JT n lo hi w
theorem sg{q:Bool}{a b:aC}(h:bS a b=q)(w:World):Calls Tryz.prog 179 #[a.val,b.val] w fun e w'=>e=.returned (.bool q)/\ZW w w':=by subst h;exact Gk a b w
def Jk(m:cj):Prop:=(∀s∈m.ai,s.peer.size<=20)/\(∀e∈m.aI,e.label.size<=20)/\m.ai.length<=40/\m.aI.length<=80
section
open Go.RowKit Go.ChangeShapes Go.WideShapes
theorem lQ{H:Type}{enc:TypeId×Value->H}{w:World}{base fuel:Nat}{spare:Nat->Bool}{held:Bool}{t e:TypeId}(I:Tryz.prog.underlying t=some (.slice e)){a:Value}{x:DataW H×List MemPlace}(h:DataW.trod enc Tryz.prog w base spare held fuel t [a]=some x):∃p l c,a=.slice p l c:=by
 rcases Go.Deep.open_slice I h with⟨C,_⟩|⟨P,len,cap,m,n,D,J,j,_⟩;·simp at C;exact⟨_,_,_,C⟩
 ·simp at j;exact⟨_,_,_,j⟩
end
theorem nN{j l:Option Addr}{J C P I:Nat}{z:Int}:ae (.agg #[.slice j J C,.slice l P I,.int .i64 z])=ae (.slice j J C)++ae (.slice l P I):=by cases j<;>cases l<;>simp[ae,aJ]
theorem xe{w w':World}{v:Value}{m:cj}{l:List Nat}(h:cY w v m)(C:aH w w' l)(hd:∀b∈ae v,b∉l):cY w' v m:=by obtain⟨sv,ev,rfl,J,P⟩:=h;have R:=J;have T:=P;obtain⟨U,c1,rfl,_⟩:=J;obtain⟨a2,c2,rfl,_⟩:=P;rw[nN]at hd;exact⟨_,_,rfl,R.aA C.size (fun b I j=>C.block b j (hd b (List.mem_append_left _ ((aS rfl).1 I)))),T.aA C.size (fun b I j=>C.block b j (hd b (List.mem_append_right _ ((aS rfl).1 I))))⟩
section
attribute [local go_sem ↓] Go.wp_at_zero Go.wp_at_succ
def nW(a b:Int):Int:=if a<b then-1 else if b<a then 1 else 0
def nX(a b:ByteArray):Int:=if Op.bytesLess a.toList b.toList then-1 else if a.toList==b.toList then 0 else 1
theorem nk(a:Int)(w:World):Calls Tryz.prog 256 #[.int .i64 a] w fun e w'=>e=.returned (.bool false)/\w'=w:=by go_in;go_wp2;go_ret;exact⟨aD (by simp),rfl⟩
theorem nu(a:ByteArray)(w:World):Calls Tryz.prog 257 #[.string a] w fun e w'=>e=.returned (.bool false)/\w'=w:=by go_in;go_wp2;go_ret;exact⟨aD (by simp),rfl⟩
theorem pX(a b:Int)(w:World):Calls Tryz.prog 228 #[.int .i64 a,.int .i64 b] w fun e w'=>e=.returned (.int .i64 (nW a b))/\w'=w:=by
 by_cases l:a<b;·have j:Hid (nW a b=-1):=aa (by rw[nW,if_pos l]);go_in;go_wp2_with(go_at_call 256;refine(nk _ _).mono ?_;rintro e w'⟨rfl,rfl⟩);go_ret;exact⟨bc j.out,rfl⟩
 ·by_cases C:b<a;·have j:Hid (nW a b=1):=aa (by rw[nW,if_neg l,if_pos C]);go_in;go_wp2_with(go_at_call 256;refine(nk _ _).mono ?_;rintro e w'⟨rfl,rfl⟩);go_ret;exact⟨bc j.out,rfl⟩
  ·have j:Hid (nW a b=0):=aa (by rw[nW,if_neg l,if_neg C]);go_in;go_wp2_with(go_at_call 256;refine(nk _ _).mono ?_;rintro e w'⟨rfl,rfl⟩);go_ret;exact⟨bc j.out,rfl⟩
theorem pY(a b:ByteArray)(w:World):Calls Tryz.prog 229 #[.string a,.string b] w fun e w'=>e=.returned (.int .i64 (nX a b))/\w'=w:=by
 cases h1:Op.bytesLess a.toList b.toList;·
  cases h2:(a.toList==b.toList);·have j:Hid (nX a b=1):=aa (by simp[nX,h1,h2]);go_in;go_wp2_with(go_at_call 257;refine(nu _ _).mono ?_;rintro e w'⟨rfl,rfl⟩);go_ret;exact⟨bc j.out,rfl⟩
  ·have j:Hid (nX a b=0):=aa (by simp[nX,h1,h2]);go_in;go_wp2_with(go_at_call 257;refine(nu _ _).mono ?_;rintro e w'⟨rfl,rfl⟩);go_ret;exact⟨bc j.out,rfl⟩
 ·have j:Hid (nX a b=-1):=aa (by simp[nX,h1]);go_in;go_wp2_with(go_at_call 257;refine(nu _ _).mono ?_;rintro e w'⟨rfl,rfl⟩);go_ret;exact⟨bc j.out,rfl⟩
def I6(a b:Int):Int:=if a=0 then b else a
theorem Db(a b:Int)(g:Nat)(w:World)(T:w.cell? ⟨g,0,none⟩=some (.int .i64 a))(U:w.cell? ⟨g,1,none⟩=some (.int .i64 b)):Calls Tryz.prog 227 #[.slice (some ⟨g,0,none⟩) 2 2] w fun e w'=>e=.returned (.int .i64 (I6 a b))/\w'=w:=by
 have J:Hid (I6 a b=if a=0 then b else a):=aa rfl;go_in;go_wp2;go_loop[8](fun i=>i=.int .i64 0\/(i=.int .i64 1/\a=0)\/(i=.int .i64 2/\a=0/\b=0))(fun i=>2-(intOf i).toNat);case atStart=>exact .inl rfl
 case round=>
  rcases hrel with rfl|⟨rfl,j⟩|⟨rfl,j,C⟩;·
   by_cases j:a=0;·
    have P:(a !=0)=false:=by simp[j]
    have l:=aa j;clear j;go_wp2;go_round;case rel=>exact .inr (.inl ⟨rfl,l.out⟩)
    case measure=>simp[intOf]
   ·have P:(a !=0)=true:=by simp[j]
    have l:=aa j;clear j;go_wp2;go_ret;exact⟨bc (by rw[J.out,if_neg l.out]),rfl⟩
  ·have l:=aa j;clear j;by_cases C:b=0;·
    have R:(b !=0)=false:=by simp[C]
    have I:=aa C;clear C;go_wp2;go_round;case rel=>exact .inr (.inr ⟨rfl,l.out,I.out⟩)
    case measure=>simp[intOf]
   ·have R:(b !=0)=true:=by simp[C]
    clear C;go_wp2;go_ret;exact⟨bc (by rw[J.out,if_pos l.out]),rfl⟩
  ·have l:=aa j;have I:=aa C;clear j C;go_wp2;go_ret;exact⟨bc (by rw[J.out,if_pos l.out,I.out]),rfl⟩
def oW(a b:aC):Int:=I6 (nW a.src b.src) (nX a.label b.label)
theorem tg(a b:aC)(w:World):Calls Tryz.prog 187 #[a.val,b.val] w fun e w'=>e=.returned (.int .i64 (oW a b))/\ZW w w':=by have C:Hid (oW a b=I6 (nW a.src b.src) (nX a.label b.label)):=aa rfl;unfold aC.val;go_in;go_wp2;have l:ZW w ((w.alloc (.cells #[.int .i64 a.src,.string a.label,.int .i64 a.sort,.int .i64 a.dst] 213)).alloc (.cells #[.int .i64 b.src,.string b.label,.int .i64 b.sort,.int .i64 b.dst] 213)):=(ag _ _).trans ((ag _ _).mono (by simp));have j:=aa l;clear l;go_region_held3(fun w'=>w'.cell? ⟨w.heap.size,0,none⟩=some (.int .i64 a.src)/\w'.cell? ⟨w.heap.size,1,none⟩=some (.string a.label)/\w'.cell? ⟨w.heap.size+1,0,none⟩=some (.int .i64 b.src)/\w'.cell? ⟨w.heap.size+1,1,none⟩=some (.string b.label))(go_keep)(first|(go_at_call 228;refine(pX _ _ _).mono ?_;rintro e w'⟨rfl,rfl⟩)|(go_at_call 229;refine(pY _ _ _).mono ?_;rintro e w'⟨rfl,rfl⟩)|(go_at_call 227;refine(Db (nW a.src b.src) (nX a.label b.label) _ _ (by exact te _ _ _ _ _ _ _ rfl) (by exact te _ _ _ _ _ _ _ rfl)).mono ?_;rintro e w'⟨rfl,rfl⟩));all_goals go_wp2;go_ret;exact⟨bc C.out,by first|exact j.out.trans ((ag _ _).mono j.out.size)|exact j.out.drew.trans ((ag _ _).mono j.out.drew.size)|exact(j.out.trans ((ag _ _).mono j.out.size)).drew⟩
end
theorem Cs(x:aP)(w:World)(l g R so I to:Nat)(n c n2 sc L J k s:Nat)(hk:k<n)(ao:k<n2)(ay:s<L)(ab:l<w.heap.size)(d1:w.cell? ⟨l,1,none⟩=some (.slice (some ⟨R,so,none⟩) n2 sc))(d4:w.cell? ⟨l,4,none⟩=some (.slice (some ⟨g,0,none⟩) n c))(m1:w.cell? ⟨g,k*4+1,none⟩=some (.slice (some ⟨I,to,none⟩) L J))(n0:w.cell? ⟨R,so+k,none⟩=some (.int .i64 s))(x0:w.cell? ⟨I,to+s*2,none⟩=some (.int .i64 x.kind))(x1:w.cell? ⟨I,to+s*2+1,none⟩=some (.string x.peer)):Calls Tryz.prog 125 #[.pointer (some ⟨l,0,none⟩),.int .i64 k] w fun e w'=>e=.returned x.val/\ZW w w':=by
 have ah:=World.block_lt_of_cell? w _ m1;have al:=World.block_lt_of_cell? w _ n0;have ac:=World.block_lt_of_cell? w _ x0;unfold aP.val;go_in;go_wp2;obtain⟨P,C⟩:∃P,P=w.alloc (.cells #[.int .i64 0,.string ⟨#[]⟩] 152):=⟨_,rfl⟩;have j:ZW w P:=by rw[C];exact ag _ _
 have T:aV P w.heap.size [.int .i64 0,.string ⟨#[]⟩]:=by rw[C];exact aV.new w [.int .i64 0,.string ⟨#[]⟩] 152
 have z0:=T.cell 0 _ rfl;have z1:=T.cell 1 _ rfl;have fz:=T.fz;rw[<-C];replace d1:=(j.cell (p:=⟨l,1,none⟩) ab).trans d1;replace d4:=(j.cell (p:=⟨l,4,none⟩) ab).trans d4;replace m1:=(j.cell (p:=⟨g,k*4+1,none⟩) ah).trans m1;replace n0:=(j.cell (p:=⟨R,so+k,none⟩) al).trans n0;replace x0:=(j.cell (p:=⟨I,to+s*2,none⟩) ac).trans x0;replace x1:=(j.cell (p:=⟨I,to+s*2+1,none⟩) ac).trans x1;have ad:=aa j;have af:=aa T;have aq:¬w.heap.size=l:=by omega
 have an:¬w.heap.size=g:=by omega
 have av:¬w.heap.size=R:=by omega
 have ax:¬w.heap.size=I:=by omega
 clear C j T;go_region_held3(fun w'=>w'.cell? ⟨l,1,none⟩=some (.slice (some ⟨R,so,none⟩) n2 sc)/\w'.cell? ⟨l,4,none⟩=some (.slice (some ⟨g,0,none⟩) n c)/\w'.cell? ⟨g,k*4+1,none⟩=some (.slice (some ⟨I,to,none⟩) L J)/\w'.cell? ⟨R,so+k,none⟩=some (.int .i64 s)/\w'.cell? ⟨I,to+s*2,none⟩=some (.int .i64 x.kind)/\w'.cell? ⟨I,to+s*2+1,none⟩=some (.string x.peer))(go_keep)(first|fail);all_goals go_wp2;have hX:=(af.out.set 0 (by simp) (.int .i64 x.kind)).set 1 (by simp) (.string x.peer);have U:ZW w (((P.setCell ⟨w.heap.size,0,none⟩ (.int .i64 x.kind)).setCell ⟨w.heap.size,1,none⟩ (.string x.peer)).drew):=((ad.out.setCell (p:=⟨w.heap.size,0,none⟩) (Nat.le_refl _) _).setCell (p:=⟨w.heap.size,1,none⟩) (Nat.le_refl _) _).drew;obtain⟨W,hW⟩:∃W,W=(P.setCell ⟨w.heap.size,0,none⟩ (.int .i64 x.kind)).setCell ⟨w.heap.size,1,none⟩ (.string x.peer):=⟨_,rfl⟩;rw[<-hW]at hX U|-;have k0:W.drew.cell? ⟨w.heap.size,0,none⟩=some (.int .i64 x.kind):=hX.cell 0 _ rfl;have k1:W.drew.cell? ⟨w.heap.size,1,none⟩=some (.string x.peer):=hX.cell 1 _ rfl;refine bodyPost_ret_by (v:=.agg #[.int .i64 x.kind,.string x.peer]) ?_ rfl ⟨rfl,U⟩;unfold results;go_simp
def dI(m:cj)(s:Int):aP:=(m.ai[s.toNat]?).getD ⟨0,ByteArray.empty⟩
def fl(m:cj)(s:Int)(e:aC):b8:=⟨(dI m s).kind,(dI m s).peer,e.label,e.sort⟩
def dg(m:cj)(s:Int):List b8:=(m.aI.filter fun e=>e.src==s).map (fl m s)
def eD(m:cj)(s:Int)(k:Nat):List b8:=((m.aI.take k).filter fun e=>e.src==s).map (fl m s)
theorem vK{m:cj}{s:Int}{k:Nat}(h:k<m.aI.length)(j:(m.aI[k].src==s)=false):eD m s (k+1)=eD m s k:=by unfold eD;rw[List.take_succ_eq_append_getElem h,List.filter_append];simp[j]
theorem tr{m:cj}{s:Int}{k:Nat}(h:k<m.aI.length)(j:(m.aI[k].src==s)=true):eD m s (k+1)=eD m s k++[fl m s m.aI[k]]:=by unfold eD;rw[List.take_succ_eq_append_getElem h,List.filter_append,List.map_append];simp[j]
theorem tn{m:cj}{s:Int}{k:Nat}(h:m.aI.length<=k):eD m s k=dg m s:=by unfold eD dg;rw[List.take_of_length_le h]
theorem tq(m:cj)(s:Int)(k:Nat):(eD m s k).length<=k:=by unfold eD;rw[List.length_map];exact Nat.le_trans (List.length_filter_le _ _) (List.length_take_le _ _)
theorem Bc(m:cj)(s:Int):(dg m s).length<=m.aI.length:=by unfold dg;rw[List.length_map];exact List.length_filter_le _ _
theorem Tryz.qN:(Tryz.prog.info? 104).map (fun i=>(i.zero,i.size,i.bytes))=some (some (.agg #[.int .i64 0,.string .empty,.string .empty,.int .i64 0]),4,48):=by kernel_rfl
theorem fU(w:World)(a b:Obj):ZW w ((w.alloc a).alloc b):=(ag _ _).trans ((ag _ _).mono (by simp))
theorem Eg(w:World)(A:Obj)(cs:List Value)(t:TypeId)(j:Nat)(u:Value)(h:cs[j]?=some u):((w.alloc A).alloc (.cells cs.toArray t)).cell? (Addr.add ⟨w.heap.size+1,0,none⟩ j)=some u:=by
 have e:((w.alloc A).alloc (.cells cs.toArray t)).heap[w.heap.size+1]?=some (.cells cs.toArray t):=bZ _ _ _ (by simp);have l:Addr.add ⟨w.heap.size+1,0,none⟩ j=⟨w.heap.size+1,j,none⟩:=by unfold Addr.add;split<;>simp_all
 rw[l];simp only[World.cell?];rw[e];simpa using h
def py:cj:=⟨[],[],0⟩
def KR(sv ev:Value)(m:cj)(c:Int):Value:=.agg #[sv,ev,.int .i64 m.start,.int .i64 c]
def Kv:Obj:=.cells #[.slice none 0 0,.slice none 0 0,.int .i64 0,.int .i64 0] 253
structure zG(w w':World)(e:Ending)(m:cj)(c:Int):Prop where
 JA:∃sv ev,e=.returned (KR sv ev m c)/\cF w' w.heap.size sv m.ai/\bD w' w.heap.size ev m.aI/\(∀b∈ae sv,b∉ae ev)
 bel:ZW w w'
theorem J6{B:Nat}{a w:World}(h:Below B a w)(j l C I:Value):Below B a ((((w.setCell ⟨B,0,none⟩ j).setCell ⟨B,1,none⟩ l).setCell ⟨B,2,none⟩ C).setCell ⟨B,3,none⟩ I):=(((h.setCell (p:=⟨B,0,none⟩) (Nat.le_refl _) _).setCell (p:=⟨B,1,none⟩) (Nat.le_refl _) _).setCell (p:=⟨B,2,none⟩) (Nat.le_refl _) _).setCell (p:=⟨B,3,none⟩) (Nat.le_refl _) _
theorem KD(w:World)(B:Nat)(j l C I:Value):aH w ((((w.setCell ⟨B,0,none⟩ j).setCell ⟨B,1,none⟩ l).setCell ⟨B,2,none⟩ C).setCell ⟨B,3,none⟩ I) [B]:=(((aG w B 0 j).setCell 1 l).setCell 2 C).setCell 3 I
section
attribute [local go_sem ↓] Go.wp_at_zero Go.wp_at_succ
theorem cY.shape{w:World}{v:Value}{m:cj}(h:cY w v m):∃C I j l,v=r9 C I j l m:=by obtain⟨sv,ev,rfl,⟨C,I,rfl,_⟩,⟨j,l,rfl,_⟩⟩:=h;exact⟨C,I,j,l,rfl⟩
theorem Gb(w:World)(a b:Obj):ZW w ((w.alloc a).alloc b):=(ag _ _).trans ((ag _ _).mono (by simp))
theorem dW{q:Bool}{m:cj}{s:Int}(j:iN s 0 ((m.ai.length:Int)-1)=q)(v:Value)(w:World)(I:cY w v m):Calls Tryz.prog 170 #[v,.int .i64 s] w fun e w'=>e=.returned (.bool q)/\ZW w w':=by
 have P:m.ai.length<=4294967296:=by obtain⟨sv,ev,rfl,J,he⟩:=I;exact J.iF
 obtain⟨sa,sc,T,U,rfl⟩:=I.shape;clear I;unfold r9;have R:=aa j;by_cases C:0<=s;·
  by_cases h1:s<(m.ai.length:Int);·have l:Hid (q=true):=aa (by rw[<-j];simp[iN,C];omega);clear j;go_in;go_wp2;go_ret;exact⟨aD l.out,ag _ _⟩
  ·have l:Hid (q=false):=aa (by rw[<-j];simp[iN,C];omega);clear j;go_in;go_wp2;go_ret;exact⟨aD l.out,ag _ _⟩
 ·have l:Hid (q=false):=aa (by rw[<-j];simp[iN,C]);clear j;go_in;go_wp2;go_ret;exact⟨aD l.out,ag _ _⟩
theorem rT{q:Bool}{x:aP}(j:(x.kind==0)=q)(w:World):Calls Tryz.prog 126 #[x.val] w fun e w'=>e=.returned (.bool q)/\ZW w w':=by unfold aP.val;cases q;all_goals go_in;go_wp2;go_ret;exact⟨aD (by first|exact j.symm|rfl),ag _ _⟩
theorem Gf{q:Bool}{n:Int}(j:iN n 0 2=q)(w:World):Calls Tryz.prog 211 #[.int .i64 n] w fun e w'=>e=.returned (.bool q)/\w'=w:=by have l:=aa j;clear j;by_cases h:0<=n;all_goals go_in;go_wp2;go_ret;exact⟨aD (by rw[<-l.out];simp[iN, *];try omega),rfl⟩
theorem ow{q:Bool}{s:ByteArray}(h:ct s=q)(j:s.size<=maxLen)(w:World):Calls Tryz.prog 207 #[.string s] w fun e w'=>e=.returned (.bool q)/\w'=w:=by subst h;exact lX s w j
theorem qx{q:Bool}{x:aP}(hq:lu x=q)(hp:x.peer.size<=maxLen)(w:World):Calls Tryz.prog 185 #[x.val] w fun e w'=>e=.returned (.bool q)/\ZW w w':=by
 have HP:=aa hp;obtain⟨nb,j⟩:∃nb,ct x.peer=nb:=⟨_,rfl⟩;have P:=aa j;obtain⟨C,l⟩:∃C,(x.kind==0)=C:=⟨_,rfl⟩;obtain⟨I,R⟩:∃I,(x.kind==1)=I:=⟨_,rfl⟩;obtain⟨J,T⟩:∃J,(x.kind==2)=J:=⟨_,rfl⟩;obtain⟨pe,U⟩:∃pe,(x.peer.toList==[])=pe:=⟨_,rfl⟩;have HQ:Hid (q=if C then pe else nb&&(I||J)):=aa (by
  rw[<-hq,lu,l,U,j];cases C;·
   have:iN x.kind 0 2=(I||J):=by rw[<-R,<-T,iN,Bool.eq_iff_iff];simp at l|-;omega
   simp[this]
  ·rfl);clear hq hp j;unfold aP.val;cases C;all_goals cases I
 all_goals cases J
 all_goals go_in;go_wp2_with(go_at_call 207;refine(ow P.out HP.out _).mono ?_;rintro e w'⟨rfl,rfl⟩);go_ret;exact⟨aD (by rw[HQ.out];simp[*]),ag _ _⟩
end
theorem qi:∀x:List UInt8,Op.bytesLess x x=false|[]=>rfl|a::x=>by simp[Op.bytesLess,qi x]
theorem qj:∀x y z:List UInt8,Op.bytesLess x y=true->Op.bytesLess y z=true->Op.bytesLess x z=true
 |_,[],_,h,_=>by simp[Op.bytesLess]at h|_,_::_,[],_,h=>by simp[Op.bytesLess]at h|[],_::_,_::_,_,_=>rfl|a::x,b::y,c::z,j,h2=>by
  simp only[Op.bytesLess,Bool.or_eq_true,Bool.and_eq_true,decide_eq_true_eq,beq_iff_eq]at j h2|-;rcases j with j|⟨rfl,j⟩;·
   rcases h2 with h2|⟨rfl,h2⟩;·exact .inl (UInt8.lt_trans j h2)
   ·exact .inl j
  ·rcases h2 with h2|⟨rfl,h2⟩;·exact .inl h2
   ·exact .inr ⟨rfl,qj x y z j h2⟩
theorem xr{a b c:aC}(l:bS a b=true)(j:bS b c=true):bS a c=true:=by
 simp only[bS,Bool.or_eq_true,Bool.and_eq_true,decide_eq_true_eq,beq_iff_eq]at l j|-;rcases l with l|⟨I,l⟩;·
  rcases j with j|⟨C,j⟩;·exact .inl (by omega)
  ·exact .inl (by omega)
 ·rcases j with j|⟨C,j⟩;·exact .inl (by omega)
  ·exact .inr ⟨by omega,qj _ _ _ l j⟩
theorem xo{a b:aC}(h:bS a b=true)(l:a.src=b.src)(j:a.label=b.label):False:=by
 simp only[bS,Bool.or_eq_true,Bool.and_eq_true,decide_eq_true_eq,beq_iff_eq]at h;rcases h with h|⟨_,h⟩;·omega
 ·rw[j,qi]at h;cases h
theorem tD{m:cj}(h:cG m=true)(i:Nat)(hi:i+1<m.aI.length):bS m.aI[i] m.aI[i+1]=true:=by simp only[cG,Bool.and_eq_true]at h;have j:=List.all_eq_true.1 h.2.2 (i+1) (List.mem_range.2 hi);rw[gT,List.getElem?_eq_getElem hi]at j;simp only[Nat.add_sub_cancel,Bool.and_eq_true]at j;have l:=j.2;rw[List.getElem?_eq_getElem (by omega)]at l;exact l
theorem mP{m:cj}(h:cG m=true)(i:Nat):∀d(hi:i+d+1<m.aI.length),bS (m.aI[i]'(by omega)) m.aI[i+d+1]=true|0,hi=>tD h i hi|d+1,hi=>xr (mP h i d (by omega)) (tD h (i+d+1) hi)
theorem Bq{m:cj}(h:cG m=true)(i j:Nat)(hi:i<m.aI.length)(I:j<m.aI.length)(C:m.aI[i].src=m.aI[j].src)(l:m.aI[i].label=m.aI[j].label):i=j:=by
 rcases Nat.lt_trichotomy i j with h1|h1|h1;·
  exfalso;have:=mP h i (j-i-1) (by omega);have e:i+(j-i-1)+1=j:=by omega
  simp only[e]at this;exact xo this C l
 ·exact h1
 ·exfalso;have:=mP h j (i-j-1) (by omega);have e:j+(i-j-1)+1=i:=by omega
  simp only[e]at this;exact xo this C.symm l.symm
theorem Dk{m:cj}(h:cG m=true){e:aC}(l:e∈m.aI):tj m e=true:=by simp only[cG,Bool.and_eq_true]at h;obtain⟨i,hi,rfl⟩:=List.getElem_of_mem l;have j:=List.all_eq_true.1 h.2.2 i (List.mem_range.2 hi);rw[gT,List.getElem?_eq_getElem hi]at j;simp only[Bool.and_eq_true]at j;exact j.1
theorem gB{m:cj}(h:cG m=true){e:aC}(j:e∈m.aI):0<=e.src/\e.src<(m.ai.length:Int)/\0<=e.dst/\e.dst<(m.ai.length:Int)/\0<=e.sort/\e.sort<=2:=by have:=Dk h j;simp[tj,iN]at this;omega
theorem kN{m:cj}(h:cG m=true):1<=m.ai.length/\m.ai.length<=40:=by simp[cG,mC,iN]at h;omega
theorem sT{m:cj}(h:cG m=true)(s:Int):0<=(dI m s).kind/\(dI m s).kind<=2:=by
 unfold dI;cases C:m.ai[s.toNat]? with
  |none=>simp|some x=>
   simp only[cG,Bool.and_eq_true]at h;have j:=List.all_eq_true.1 h.2.1 x (List.mem_of_getElem? C);simp only[lu]at j;simp only[Option.getD_some];split at j;·rename_i l;simp at l;omega
   ·simp[iN]at j;omega
def iE(a b:b8):Bool:=a.kind==b.kind&&(a.peer.toList==b.peer.toList&&(a.label.toList==b.label.toList&&a.sort==b.sort))
theorem sY{a b:ByteArray}(h:a.toList=b.toList):a=b:=by rw[Go.ByteArray.toList_eq,Go.ByteArray.toList_eq]at h;apply ByteArray.ext;exact Array.ext' h
theorem oT{a b:b8}:iE a b=true↔a=b:=by
 constructor;·intro h;simp only[iE,Bool.and_eq_true,beq_iff_eq]at h;obtain⟨j,l,C,I⟩:=h;cases a;cases b;simp at j l C I;rw[j,sY l,sY C,I]
 ·rintro rfl;simp[iE]
def dt(m:cj)(s:Int)(a:b8):Int:=match m.aI.find? (fun e=>e.src==s&&iE a (fl m s e))with|some e=>e.dst|none=>-1
theorem sV{m:cj}(h:cG m=true){s:Int}{a:b8}{e:aC}(P:e∈m.aI)(R:e.src=s)(J:fl m s e=a):dt m s a=e.dst:=by
 unfold dt;cases C:m.aI.find? (fun e=>e.src==s&&iE a (fl m s e))with
  |none=>have:=List.find?_eq_none.1 C e P;simp[R,oT,J]at this|some e'=>
   have l:=List.find?_some C;have T:=List.mem_of_find?_eq_some C;simp only[Bool.and_eq_true,beq_iff_eq,oT]at l;obtain⟨i,hi,rfl⟩:=List.getElem_of_mem P;obtain⟨j,U,rfl⟩:=List.getElem_of_mem T;have hl:m.aI[i].label=m.aI[j].label:=by have:=J.trans l.2;simp only[fl,b8.mk.injEq]at this;exact this.2.2.1
   have I:=Bq h i j hi U (R.trans l.1.symm) hl;subst I;rfl
theorem zn{m:cj}{s:Int}{a:b8}(h:∀e∈m.aI,¬(e.src=s/\fl m s e=a)):dt m s a=-1:=by
 unfold dt;have:m.aI.find? (fun e=>e.src==s&&iE a (fl m s e))=none:=by rw[List.find?_eq_none];intro e j h2;simp only[Bool.and_eq_true,beq_iff_eq,oT]at h2;exact h e j ⟨h2.1,h2.2.symm⟩
 rw[this]
section
attribute [local go_sem ↓] Go.wp_at_zero Go.wp_at_succ
theorem kL{q:Bool}{m:cj}{x:aC}(hq:tj m x=q)(hl:x.label.size<=maxLen)(v:Value)(w:World)(hv:cY w v m):Calls Tryz.prog 186 #[v,x.val] w fun e w'=>e=.returned (.bool q)/\ZW w w':=by
 have HL:=aa hl;have HV:Hid (∀W,ZW w W->∀g:Grown W,cY g.val v m):=aa (fun W hb g=>(hv.carry hb).carry g.bel);have HS:Hid (iN x.src 0 ((m.ai.length:Int)-1)=true->∃b o sa sc R T s,v=r9 sa sc R T m/\sa=some ⟨b,o,none⟩/\(s:aP).kind=pj m x.src/\∀W,ZW w W->W.cell? ⟨b,o+x.src.toNat*2,none⟩=some (.int .i64 s.kind)/\W.cell? ⟨b,o+x.src.toNat*2+1,none⟩=some (.string s.peer)):=aa (fun a3=>by
  obtain⟨sv,ev,rfl,hs,he⟩:=hv;obtain⟨sa,sc,rfl,_,_,a4⟩:=hs;obtain⟨R,T,rfl,_⟩:=he;have ao:0<=x.src/\x.src<(m.ai.length:Int):=by simp[iN]at a3;omega
  obtain⟨b,o,rfl,a2,ax⟩:=a4 (by intro h;rw[h]at ao;simp at ao;omega);have av:x.src.toNat<m.ai.length:=by omega
  have:=ax.get x.src.toNat av;exact⟨b,o,_,sc,R,T,m.ai[x.src.toNat],rfl,rfl,by rw[pj,List.getElem?_eq_getElem av],fun W hb=>this.carry a2 hb⟩);have a7:m.ai.length<=4294967296:=by obtain⟨sv,ev,rfl,hs,he⟩:=hv;exact hs.iF
 obtain⟨sa,sc,R,T,az⟩:=hv.shape;have a6:=aa az;clear hv;obtain⟨q1,ab⟩:∃q1,iN x.src 0 ((m.ai.length:Int)-1)=q1:=⟨_,rfl⟩;obtain⟨q2,ac⟩:∃q2,iN x.dst 0 ((m.ai.length:Int)-1)=q2:=⟨_,rfl⟩;obtain⟨q3,ad⟩:∃q3,ct x.label=q3:=⟨_,rfl⟩;obtain⟨q4,af⟩:∃q4,iN x.sort 0 2=q4:=⟨_,rfl⟩;obtain⟨q5,ah⟩:∃q5,(pj m x.src==0)=q5:=⟨_,rfl⟩;have HQ:Hid (q=(q1&&(q2&&(q3&&(q4&&!q5))))):=aa (by rw[<-hq,tj,ab,ac,ad,af,ah]);have J:=aa ab;have an:=aa ac;have aL:=aa ad;have aM:=aa af;have aN:=aa ah;clear ab ac ad af ah hq;have al:Hid (∀W A B,W=(w.alloc A).alloc B->ZW w W):=aa (fun W A B l=>by rw[l];exact Gb _ _ _);subst az;cases q1;·unfold r9 aC.val;go_in;go_wp2_with(refine dM 5 (fun W l=>?_);have U:=bo W;have f0:=au (w:=W) (b:=w.heap.size) (o:=0) (v:=.slice sa m.ai.length sc) (by rw[l];simp);have f1:=au (w:=W) (b:=w.heap.size) (o:=1) (v:=.slice R m.aI.length T) (by rw[l];simp);have f2:=au (w:=W) (b:=w.heap.size) (o:=2) (v:=.int .i64 m.start) (by rw[l];simp);have g0:=au (w:=W) (b:=w.heap.size+1) (o:=0) (v:=.int .i64 x.src) (by rw[l];simp);have g1:=au (w:=W) (b:=w.heap.size+1) (o:=1) (v:=.string x.label) (by rw[l];simp);have g2:=au (w:=W) (b:=w.heap.size+1) (o:=2) (v:=.int .i64 x.sort) (by rw[l];simp);have g3:=au (w:=W) (b:=w.heap.size+1) (o:=3) (v:=.int .i64 x.dst) (by rw[l];simp);have j:=aa (al.out W _ _ l);clear l;(repeat(go_big_quiet_step(first|(go_at_call_of 170 x.src;exact bj (dW J.out _ _ (HV.out _ j.out _)))|(go_at_call_of 170 x.dst;exact bj (dW an.out _ _ (HV.out _ j.out _))))));refine wpQuiet_nil ?_;intro w1 I;have P:=aa I;clear I U f0 f1 f2 g0 g1 g2 g3);go_ret;exact⟨aD (by rw[HQ.out];simp),j.out.trans (P.out.mono j.out.size)⟩
 ·obtain⟨b,o,bb,a5,a0,a1,st,C,rfl,aq,ay⟩:=HS.out J.out;obtain⟨rfl,rfl,rfl,rfl⟩:sa=some ⟨b,o,none⟩/\sc=a5/\R=a0/\T=a1:=by simp[r9]at C;exact⟨C.1.1,C.1.2,C.2.1,C.2.2⟩
  have HK:Hid ((st.kind==0)=q5):=aa (by rw[aq];exact aN.out);have aR:=aa ay;have hx:0<=x.src/\x.src<(m.ai.length:Int):=by have:=J.out;simp[iN]at this;omega
  obtain⟨a8,a9⟩:=hx;clear C aq ay;unfold r9 aC.val;cases q2;case' true=>cases q5;case' false=>cases q3;case' true=>cases q4
  all_goals go_in;go_wp2_with(refine dM 5 (fun W l=>?_);have U:=bo W;have f0:=au (w:=W) (b:=w.heap.size) (o:=0) (v:=.slice (some ⟨b,o,none⟩) m.ai.length sc) (by rw[l];simp);have f1:=au (w:=W) (b:=w.heap.size) (o:=1) (v:=.slice R m.aI.length T) (by rw[l];simp);have f2:=au (w:=W) (b:=w.heap.size) (o:=2) (v:=.int .i64 m.start) (by rw[l];simp);have g0:=au (w:=W) (b:=w.heap.size+1) (o:=0) (v:=.int .i64 x.src) (by rw[l];simp);have g1:=au (w:=W) (b:=w.heap.size+1) (o:=1) (v:=.string x.label) (by rw[l];simp);have g2:=au (w:=W) (b:=w.heap.size+1) (o:=2) (v:=.int .i64 x.sort) (by rw[l];simp);have g3:=au (w:=W) (b:=w.heap.size+1) (o:=3) (v:=.int .i64 x.dst) (by rw[l];simp);have j:=aa (al.out W _ _ l);obtain⟨e0,e1⟩:=aR.out W j.out;have f8:=au e0;have f9:=au e1;clear e0 e1;clear l;(repeat(go_big_quiet_step(first|(go_at_call_of 170 x.src;exact bj (dW J.out _ _ (HV.out _ j.out _)))|(go_at_call_of 170 x.dst;exact bj (dW an.out _ _ (HV.out _ j.out _)))|(go_at_call 126;exact bj (rT (x:=st) HK.out _))|(go_at_call 207;exact rF (ow aL.out HL.out _))|(go_at_call 211;exact rF (Gf aM.out _)))));refine wpQuiet_nil ?_;intro w1 I;have P:=aa I;clear I U f0 f1 f2 g0 g1 g2 g3 f8 f9);go_ret;exact⟨aD (by rw[HQ.out];simp),j.out.trans (P.out.mono j.out.size)⟩
end
theorem Ba(a b:b8)(W:World):(Op.equalIn 10000 104 (.agg #[.int .i64 a.kind,.string a.peer,.string a.label,.int .i64 a.sort]) (.agg #[.int .i64 b.kind,.string b.peer,.string b.label,.int .i64 b.sort])).run Tryz.prog W=.ok (iE a b) W:=by
 by_cases j:a.kind=b.kind;·
  by_cases l:a.peer.toList=b.peer.toList;·
   by_cases C:a.label.toList=b.label.toList;·by_cases I:a.sort=b.sort;all_goals go_simp;simp[iE,j,l,C,I]
   ·go_simp;simp[iE,j,l,C]
  ·go_simp;simp[iE,j,l]
 ·go_simp;simp[iE,j]
section
attribute [local go_sem ↓] Go.wp_at_zero Go.wp_at_succ
theorem Da(a b:aC):decide (0<=oW a b)=!bS a b:=by
 unfold oW I6 nW bS;by_cases j:a.src<b.src;·simp[j]
 ·by_cases l:b.src<a.src;·
   have:¬a.src=b.src:=by omega
   simp[j,l,this]
  ·have:a.src=b.src:=by omega
   simp[this,nX];cases C:Op.bytesLess a.label.toList b.label.toList;·cases I:(a.label.toList==b.label.toList)<;>simp_all
   ·simp
theorem fW{c:Int}{a b:aC}(h:oW a b=c)(w:World):Calls Tryz.prog 187 #[a.val,b.val] w fun e w'=>e=.returned (.int .i64 c)/\ZW w w':=by subst h;exact tg a b w
theorem ti(m:cj)(v:Value)(w:World)(hf:m.fit)(hv:cY w v m):Calls Tryz.prog 137 #[v] w fun e w'=>e=.returned (.bool (cG m))/\ZW w w':=by
 have HF:=aa hf;have HV:Hid (∀W,ZW w W->∀g:Grown W,cY g.val v m):=aa (fun W hb g=>(hv.carry hb).carry g.bel);have cf:=aa hv;obtain⟨sv,ev,rfl,hs,he⟩:=hv;have cq:=hs.iF;have cl:=he.iF;obtain⟨sa,sc,rfl,cn,cp,bL⟩:=hs;obtain⟨ea,ec,rfl,cg,ch,bx⟩:=he;have b5:=aa bL;have bR:=aa bx;clear bL bx hf;have az:Hid (∀W A,W=w.alloc A->ZW w W):=aa (fun W A l=>by rw[l];exact ag _ _);obtain⟨i2,bz⟩:∃i2,iN m.start 0 ((m.ai.length:Int)-1)=i2:=⟨_,rfl⟩;have an:=aa bz;clear bz;by_cases z:m.ai.length=0;·
  have z1:((m.ai.length:Int)==0)=true:=by simp[z]
  have HZ:=aa z;clear z;have HM:Hid (cG m=false):=aa (by rw[cG,mC];simp[iN,HZ.out]);go_in;go_wp2_with(refine dM 7 (fun W l=>?_);have R:=bo W;have f0:=au (w:=W) (b:=w.heap.size) (o:=0) (v:=.slice sa m.ai.length sc) (by rw[l];simp);have f1:=au (w:=W) (b:=w.heap.size) (o:=1) (v:=.slice ea m.aI.length ec) (by rw[l];simp);have f2:=au (w:=W) (b:=w.heap.size) (o:=2) (v:=.int .i64 m.start) (by rw[l];simp);have C:=aa (az.out W _ l);have ab:=aa l;clear l;(repeat(go_big_quiet_step(first|(go_at_call 170;exact bj (dW an.out _ _ (HV.out _ C.out _))))));refine wpQuiet_nil ?_;intro w1 I;have T:=aa I;clear I R f0 f1 f2);go_ret;exact⟨aD HM.out,C.out.trans (T.out.mono C.out.size)⟩
 ·have z1:((m.ai.length:Int)==0)=false:=by simp[z]
  by_cases y:40<m.ai.length;·
   have y1:decide (40<(m.ai.length:Int))=true:=by simp;omega
   have HM:Hid (cG m=false):=aa (by rw[cG,mC];have:iN (m.ai.length:Int) 1 40=false:=(by simp[iN];omega);simp[this]);go_in;go_wp2_with(refine dM 7 (fun W l=>?_);have R:=bo W;have f0:=au (w:=W) (b:=w.heap.size) (o:=0) (v:=.slice sa m.ai.length sc) (by rw[l];simp);have f1:=au (w:=W) (b:=w.heap.size) (o:=1) (v:=.slice ea m.aI.length ec) (by rw[l];simp);have f2:=au (w:=W) (b:=w.heap.size) (o:=2) (v:=.int .i64 m.start) (by rw[l];simp);have C:=aa (az.out W _ l);have ab:=aa l;clear l;(repeat(go_big_quiet_step(first|(go_at_call 170;exact bj (dW an.out _ _ (HV.out _ C.out _))))));refine wpQuiet_nil ?_;intro w1 I;have T:=aa I;clear I R f0 f1 f2);go_ret;exact⟨aD HM.out,C.out.trans (T.out.mono C.out.size)⟩
  ·have y1:decide (40<(m.ai.length:Int))=false:=by simp;omega
   have b4:Hid (iN (m.ai.length:Int) 1 40=true):=aa (by simp[iN];omega);by_cases x:80<m.aI.length;·
    have x1:decide (80<(m.aI.length:Int))=true:=by simp;omega
    have HM:Hid (cG m=false):=aa (by rw[cG,mC];have:decide (m.aI.length<=80)=false:=(by simp;omega);simp[this]);go_in;go_wp2_with(refine dM 7 (fun W l=>?_);have R:=bo W;have f0:=au (w:=W) (b:=w.heap.size) (o:=0) (v:=.slice sa m.ai.length sc) (by rw[l];simp);have f1:=au (w:=W) (b:=w.heap.size) (o:=1) (v:=.slice ea m.aI.length ec) (by rw[l];simp);have f2:=au (w:=W) (b:=w.heap.size) (o:=2) (v:=.int .i64 m.start) (by rw[l];simp);have C:=aa (az.out W _ l);have ab:=aa l;clear l;(repeat(go_big_quiet_step(first|(go_at_call 170;exact bj (dW an.out _ _ (HV.out _ C.out _))))));refine wpQuiet_nil ?_;intro w1 I;have T:=aa I;clear I R f0 f1 f2);go_ret;exact⟨aD HM.out,C.out.trans (T.out.mono C.out.size)⟩
   ·have x1:decide (80<(m.aI.length:Int))=false:=by simp;omega
    cases i2;·have HM:Hid (cG m=false):=aa (by rw[cG,mC];simp[an.out]);go_in;go_wp2_with(refine dM 7 (fun W l=>?_);have R:=bo W;have f0:=au (w:=W) (b:=w.heap.size) (o:=0) (v:=.slice sa m.ai.length sc) (by rw[l];simp);have f1:=au (w:=W) (b:=w.heap.size) (o:=1) (v:=.slice ea m.aI.length ec) (by rw[l];simp);have f2:=au (w:=W) (b:=w.heap.size) (o:=2) (v:=.int .i64 m.start) (by rw[l];simp);have C:=aa (az.out W _ l);have ab:=aa l;clear l;(repeat(go_big_quiet_step(first|(go_at_call 170;exact bj (dW an.out _ _ (HV.out _ C.out _))))));refine wpQuiet_nil ?_;intro w1 I;have T:=aa I;clear I R f0 f1 f2);go_ret;exact⟨aD HM.out,C.out.trans (T.out.mono C.out.size)⟩
    ·have b3:Hid (mC m=true):=aa (by rw[mC,b4.out,an.out];simp;omega);clear z y x;go_in;go_wp2_with(first|(refine dM 7 (fun W l=>?_);have R:=bo W;have f0:=au (w:=W) (b:=w.heap.size) (o:=0) (v:=.slice sa m.ai.length sc) (by rw[l];simp);have f1:=au (w:=W) (b:=w.heap.size) (o:=1) (v:=.slice ea m.aI.length ec) (by rw[l];simp);have f2:=au (w:=W) (b:=w.heap.size) (o:=2) (v:=.int .i64 m.start) (by rw[l];simp);have C:=aa (az.out W _ l);have ca:w.heap.size<W.heap.size:=(by rw[l];simp);clear l;(repeat(go_big_quiet_step(first|(go_at_call 170;exact bj (dW an.out _ _ (HV.out _ C.out _))))));refine wpQuiet_nil ?_;intro w1 I;have b0:=f0 ⟨w1,I⟩;have b1:=f1 ⟨w1,I⟩;have b2:=f2 ⟨w1,I⟩;have U:w.heap.size<w1.heap.size:=Nat.lt_of_lt_of_le ca I.size;have bv:Hid (ZW w w1):=aa (C.out.trans (I.mono C.out.size));dsimp only at b0 b1 b2;have T:=aa I;clear I R f0 f1 f2));go_loopw[33](fun i wr=>∃k:Nat,k<=m.ai.length/\i=.int .i64 k/\(m.ai.take k).all lu=true/\ZW w1 wr)(fun i _=>m.ai.length-(intOf i).toNat);case atStart=>exact⟨0,Nat.zero_le _,rfl,rfl,Below.refl _ _⟩
     case round=>
      obtain⟨k,hk,rfl,bb,P⟩:=hrel;have HA:=aa bb;have ac:=aa P;have c0:=(P.cell (p:=⟨w.heap.size,0,none⟩) U).trans b0;have c1:=(P.cell (p:=⟨w.heap.size,1,none⟩) U).trans b1;have c2:=(P.cell (p:=⟨w.heap.size,2,none⟩) U).trans b2;have ax:w.heap.size<wr.heap.size:=Nat.lt_of_lt_of_le U P.size;have HW:Hid (ZW w wr):=aa (bv.out.trans (P.mono (Nat.le_of_lt U)));clear bb P;by_cases ay:k<m.ai.length;·
       obtain⟨b,o,rfl,a9,ah⟩:=b5.out (by intro h;simp[h]at ay);have af:=(ah.get k ay).carry a9 HW.out;obtain⟨x1,a2⟩:∃x1,x1=m.ai[k]:=⟨_,rfl⟩;rw[<-a2]at af;have HP:=aa (show x1.peer.size<=maxLen by rw[a2];exact Nat.le_trans (HF.out.1 _ (List.getElem_mem ay)) (by unfold maxLen;omega));have aq:Hid (lu x1=false->cG m=false):=aa (fun h=>by
        rw[cG];have:m.ai.all lu=false:=by rw[<-Bool.not_eq_true];intro h2;have:=List.all_eq_true.1 h2 x1 (by rw[a2];exact List.getElem_mem ay);rw[h]at this;cases this
        rw[this];simp);have a5:Hid (lu x1=true->(m.ai.take (k+1)).all lu=true):=aa (fun h=>by rw[List.take_succ_eq_append_getElem ay,List.all_append,HA.out,<-a2];simp[h]);clear a2 ah;obtain⟨d0,d1⟩:=af;obtain⟨sq,bM⟩:∃sq,lu x1=sq:=⟨_,rfl⟩;have a8:=aa bM;clear bM;cases sq;·go_wp2_with(go_at_call 185;refine(qx (x:=x1) a8.out HP.out _).mono ?_;rintro e w2⟨rfl,a1⟩;have bf:=aa a1;clear a1);go_ret;exact⟨aD (aq.out a8.out),HW.out.trans (((ag _ _).trans (bf.out.mono (by simp))).mono HW.out.size)⟩
       ·go_wp2_with(go_at_call 185;refine(qx (x:=x1) a8.out HP.out _).mono ?_;rintro e w2⟨rfl,a1⟩;have bf:=aa a1;clear a1);go_roundw;case rel=>exact⟨k+1,ay,by go_num,a5.out a8.out,ac.out.trans (((ag _ _).trans (bf.out.mono (by simp))).mono ac.out.size)⟩
        case measure=>simp[intOf];omega
      ·have br:Hid (m.ai.all lu=true):=aa (by have:=HA.out;rwa[List.take_of_length_le (by omega)]at this);clear c0 c2 HA;go_wp2;go_loopw[44](fun i cc=>∃k2:Nat,k2<=m.aI.length/\i=.int .i64 k2/\(List.range k2).all (gT m)=true/\ZW w1 cc)(fun i _=>m.aI.length-(intOf i).toNat);case atStart=>exact⟨0,Nat.zero_le _,rfl,rfl,ac.out⟩
       case round=>
        clear c1 ac HW ax;obtain⟨k2,cm,rfl,a0,P⟩:=hrel;have bp:=aa a0;have ac:=aa P;have c0:=(P.cell (p:=⟨w.heap.size,0,none⟩) U).trans b0;have c1:=(P.cell (p:=⟨w.heap.size,1,none⟩) U).trans b1;have c2:=(P.cell (p:=⟨w.heap.size,2,none⟩) U).trans b2;have ax:w.heap.size<wr.heap.size:=Nat.lt_of_lt_of_le U P.size;have HW:Hid (ZW w wr):=aa (bv.out.trans (P.mono (Nat.le_of_lt U)));clear a0 P;by_cases ad:k2<m.aI.length;·
         obtain⟨b,o,rfl,a9,ah⟩:=bR.out (by intro h;simp[h]at ad);have af:=(ah.get k2 ad).carry a9 HW.out;have bs:Hid (∀j(hj:j<m.aI.length),fR wr b (o+j*4) m.aI[j]):=aa (fun j hj=>(ah.get j hj).carry a9 HW.out);obtain⟨J,al⟩:∃J,J=m.aI[k2]:=⟨_,rfl⟩;rw[<-al]at af;have HN:=aa al;have a4:=aa (show J.label.size<=maxLen by rw[al];exact Nat.le_trans (HF.out.2.1 _ (List.getElem_mem ad)) (by unfold maxLen;omega));have aq:Hid (gT m k2=false->cG m=false):=aa (fun h=>by
          rw[cG];have:(List.range m.aI.length).all (gT m)=false:=by rw[<-Bool.not_eq_true];intro h2;have:=List.all_eq_true.1 h2 k2 (List.mem_range.2 ad);rw[h]at this;cases this
          rw[this];simp);have a5:Hid (gT m k2=true->(List.range (k2+1)).all (gT m)=true):=aa (fun h=>by rw[List.range_succ,List.all_append,bp.out];simp[h]);have bi:Hid (gT m k2=(tj m J&&(match k2,m.aI[k2-1]? with|0,_=>true|_+1,some e'=>bS e' J|_+1,none=>true))):=aa (by rw[gT,List.getElem?_eq_getElem ad,<-al];first|done|rfl);clear al ah;obtain⟨d0,d1,d2,d3⟩:=af;have b7:b<wr.heap.size:=World.block_lt_of_cell? wr _ d0;obtain⟨q1,bB⟩:∃q1,tj m J=q1:=⟨_,rfl⟩;have ao:=aa bB;clear bB;have av:Hid (∀W,W=wr.alloc (.cells #[.int .i64 J.src,.string J.label,.int .i64 J.sort,.int .i64 J.dst] 213)->ZW w W):=aa (fun W l=>by rw[l];exact HW.out.trans ((ag _ _).mono (Nat.le_of_lt ax)));have a3:Hid (∀W,W=wr.alloc (.cells #[.int .i64 J.src,.string J.label,.int .i64 J.sort,.int .i64 J.dst] 213)->ZW w1 W):=aa (fun W l=>by rw[l];exact ac.out.trans ((ag _ _).mono ac.out.size));have FM:Hid (∀W,W=wr.alloc (.cells #[.int .i64 J.src,.string J.label,.int .i64 J.sort,.int .i64 J.dst] 213)->W.cell? ⟨w.heap.size,0,none⟩=some (.slice sa m.ai.length sc)/\W.cell? ⟨w.heap.size,1,none⟩=some (.slice (some ⟨b,o,none⟩) m.aI.length ec)/\W.cell? ⟨w.heap.size,2,none⟩=some (.int .i64 m.start)):=aa (fun W l=>by rw[l];exact⟨((ag wr _).cell (p:=⟨w.heap.size,0,none⟩) ax).trans c0,((ag wr _).cell (p:=⟨w.heap.size,1,none⟩) ax).trans c1,((ag wr _).cell (p:=⟨w.heap.size,2,none⟩) ax).trans c2⟩);cases q1;·go_wp2_with(refine bg (by kernel_rfl) (by kernel_rfl) (fun W l=>?_);have R:=bo W;have f0:=au (FM.out W l).1;have f1:=au (FM.out W l).2.1;have f2:=au (FM.out W l).2.2;have g0:=au (w:=W) (b:=wr.heap.size) (o:=0) (v:=.int .i64 J.src) (by rw[l];simp);have g1:=au (w:=W) (b:=wr.heap.size) (o:=1) (v:=.string J.label) (by rw[l];simp);have g2:=au (w:=W) (b:=wr.heap.size) (o:=2) (v:=.int .i64 J.sort) (by rw[l];simp);have g3:=au (w:=W) (b:=wr.heap.size) (o:=3) (v:=.int .i64 J.dst) (by rw[l];simp);have C:=aa (av.out W l);have ab:=aa (a3.out W l);clear l;(repeat(go_big_quiet_step(first|(go_at_call 186;exact bj (kL (x:=J) ao.out a4.out _ _ (HV.out _ C.out _)))|(go_at_call 187;exact bj (fW (a:=e0) (b:=J) a7.out _)))));refine wpQuiet_nil ?_;intro w1 I;have T:=aa I;clear I R f0 f1 f2 g0 g1 g2 g3);go_ret;exact⟨aD (aq.out (by rw[bi.out,ao.out];rfl)),C.out.trans (T.out.mono C.out.size)⟩
         ·by_cases cd:0<k2;rotate_left;·
           have a6:Hid (gT m k2=true):=aa (by rw[bi.out,ao.out,show k2=0 by omega];rfl);go_wp2_with(refine bg (by kernel_rfl) (by kernel_rfl) (fun W l=>?_);have R:=bo W;have f0:=au (FM.out W l).1;have f1:=au (FM.out W l).2.1;have f2:=au (FM.out W l).2.2;have g0:=au (w:=W) (b:=wr.heap.size) (o:=0) (v:=.int .i64 J.src) (by rw[l];simp);have g1:=au (w:=W) (b:=wr.heap.size) (o:=1) (v:=.string J.label) (by rw[l];simp);have g2:=au (w:=W) (b:=wr.heap.size) (o:=2) (v:=.int .i64 J.sort) (by rw[l];simp);have g3:=au (w:=W) (b:=wr.heap.size) (o:=3) (v:=.int .i64 J.dst) (by rw[l];simp);have C:=aa (av.out W l);have ab:=aa (a3.out W l);clear l;(repeat(go_big_quiet_step(first|(go_at_call 186;exact bj (kL (x:=J) ao.out a4.out _ _ (HV.out _ C.out _)))|(go_at_call 187;exact bj (fW (a:=e0) (b:=J) a7.out _)))));refine wpQuiet_nil ?_;intro w1 I;have T:=aa I;clear I R f0 f1 f2 g0 g1 g2 g3);go_roundw;case rel=>exact⟨_,ad,by go_num,a5.out (a6.out),ab.out.trans (T.out.mono (by have:=ab.out.size;omega))⟩
           case measure=>simp[intOf];omega
          ·obtain⟨j,rfl⟩:∃j,k2=j+1:=⟨k2-1,by omega⟩;obtain⟨e0,bk⟩:∃e0,e0=m.aI[j]'(by omega):=⟨_,rfl⟩;have bl:=bs.out j (by omega);rw[<-bk]at bl;have bN:Hid (m.aI[j+1-1]?=some e0):=aa (by rw[Nat.add_sub_cancel,List.getElem?_eq_getElem (by omega),<-bk]);have FE:Hid (∀W,W=wr.alloc (.cells #[.int .i64 J.src,.string J.label,.int .i64 J.sort,.int .i64 J.dst] 213)->fR W b (o+j*4) e0):=aa (fun W l=>by rw[l];exact bl.carry b7 (ag wr _));clear bk bl;obtain⟨q5,bm⟩:∃q5,oW e0 J=q5:=⟨_,rfl⟩;have a7:=aa bm;obtain⟨q6,cb⟩:∃q6,decide (0<=q5)=q6:=⟨_,rfl⟩;have a6:Hid (gT m (j+1)=!q6):=aa (by rw[bi.out,ao.out,bN.out,<-cb,<-bm,Da,Bool.not_not];rfl);clear bm;cases q6;·
            go_wp2_with(refine bg (by kernel_rfl) (by kernel_rfl) (fun W l=>?_);have R:=bo W;have f0:=au (FM.out W l).1;have f1:=au (FM.out W l).2.1;have f2:=au (FM.out W l).2.2;have g0:=au (w:=W) (b:=wr.heap.size) (o:=0) (v:=.int .i64 J.src) (by rw[l];simp);have g1:=au (w:=W) (b:=wr.heap.size) (o:=1) (v:=.string J.label) (by rw[l];simp);have g2:=au (w:=W) (b:=wr.heap.size) (o:=2) (v:=.int .i64 J.sort) (by rw[l];simp);have g3:=au (w:=W) (b:=wr.heap.size) (o:=3) (v:=.int .i64 J.dst) (by rw[l];simp);have C:=aa (av.out W l);have ab:=aa (a3.out W l);obtain⟨aL,aM,aN,aR⟩:=FE.out W l;have k0:=au aL;have k1:=au aM;have bn:=au aN;have k3:=au aR;clear aL aM aN aR;clear l;(repeat(go_big_quiet_step(first|(go_at_call 186;exact bj (kL (x:=J) ao.out a4.out _ _ (HV.out _ C.out _)))|(go_at_call 187;exact bj (fW (a:=e0) (b:=J) a7.out _)))));refine wpQuiet_nil ?_;intro w1 I;have T:=aa I;clear I R f0 f1 f2 g0 g1 g2 g3 k0 k1 bn k3);go_roundw;case rel=>exact⟨_,ad,by go_num,a5.out (a6.out),ab.out.trans (T.out.mono (by have:=ab.out.size;omega))⟩
            case measure=>simp[intOf];omega
           ·go_wp2_with(refine bg (by kernel_rfl) (by kernel_rfl) (fun W l=>?_);have R:=bo W;have f0:=au (FM.out W l).1;have f1:=au (FM.out W l).2.1;have f2:=au (FM.out W l).2.2;have g0:=au (w:=W) (b:=wr.heap.size) (o:=0) (v:=.int .i64 J.src) (by rw[l];simp);have g1:=au (w:=W) (b:=wr.heap.size) (o:=1) (v:=.string J.label) (by rw[l];simp);have g2:=au (w:=W) (b:=wr.heap.size) (o:=2) (v:=.int .i64 J.sort) (by rw[l];simp);have g3:=au (w:=W) (b:=wr.heap.size) (o:=3) (v:=.int .i64 J.dst) (by rw[l];simp);have C:=aa (av.out W l);have ab:=aa (a3.out W l);obtain⟨aL,aM,aN,aR⟩:=FE.out W l;have k0:=au aL;have k1:=au aM;have bn:=au aN;have k3:=au aR;clear aL aM aN aR;clear l;(repeat(go_big_quiet_step(first|(go_at_call 186;exact bj (kL (x:=J) ao.out a4.out _ _ (HV.out _ C.out _)))|(go_at_call 187;exact bj (fW (a:=e0) (b:=J) a7.out _)))));refine wpQuiet_nil ?_;intro w1 I;have T:=aa I;clear I R f0 f1 f2 g0 g1 g2 g3 k0 k1 bn k3);go_ret;exact⟨aD (aq.out a6.out),C.out.trans (T.out.mono C.out.size)⟩
        ·have HM:Hid (cG m=true):=aa (by rw[cG,b3.out,br.out];have:=bp.out;rw[show k2=m.aI.length by omega]at this;rw[this];rfl);go_wp2;go_ret;exact⟨aD HM.out,HW.out⟩
end
