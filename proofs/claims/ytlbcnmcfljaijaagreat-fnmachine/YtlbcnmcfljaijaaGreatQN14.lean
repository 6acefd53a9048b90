import Derived.Test.YtlbcnmcfljaijaaGreatQN10
import Derived.Deep.DrawnRows
import Derived.Deep.RegionWith
import Derived.Deep.RegionLaw
import Derived.Deep.DeepCutAuto
import Derived.Test.YtlbcnmcfljaijaaGreatQN00
namespace Go.Proofs.YtlbcnmcfljaijaaGreat
open Go.RowKit
set_option linter.unusedSimpArgs false
set_option linter.unusedVariables false
set_option maxHeartbeats 1000000
set_option maxRecDepth 100000
section
attribute [local go_sem ↓] Go.wp_at_zero Go.wp_at_succ
structure gr(w:World)(rb:Nat)(t:ByteArray)(a c:Int):Prop where
 has:∃s:Int,0≤s∧s≤8000∧(c=0→s=a)∧w.cell? ⟨rb,1,none⟩=some (.int .i64 s)
 c0:w.cell? ⟨rb,0,none⟩=some (.string t)
 c2:w.cell? ⟨rb,2,none⟩=some (.bool (decide (c≠0)))
 f1:w.frozen? ⟨rb,1,none⟩=false
 f2:w.frozen? ⟨rb,2,none⟩=false
theorem gr.lt{w:World}{rb:Nat}{t:ByteArray}{a c:Int}(h:gr w rb t a c):rb<w.heap.size:=World.block_lt_of_cell? w _ h.c0
structure ig(w:World)(b:Nat)(x0 x1 x2:Value):Prop where
 k0:w.cell? ⟨b,0,none⟩=some x0
 k1:w.cell? ⟨b,1,none⟩=some x1
 k2:w.cell? ⟨b,2,none⟩=some x2
 q0:w.frozen? ⟨b,0,none⟩=false
 q1:w.frozen? ⟨b,1,none⟩=false
 q2:w.frozen? ⟨b,2,none⟩=false
theorem uQ{W J:World}{l C I:Value}{T:TypeId}(j:Below (W.alloc (.cells #[l,C,I] T)).heap.size (W.alloc (.cells #[l,C,I] T)) J):ig J W.heap.size l C I:=by
 refine⟨?_,?_,?_,?_,?_,?_⟩;·exact(j.cell (p:=⟨W.heap.size,0,none⟩) (by simp)).trans (by simp)
 ·exact(j.cell (p:=⟨W.heap.size,1,none⟩) (by simp)).trans (by simp)
 ·exact(j.cell (p:=⟨W.heap.size,2,none⟩) (by simp)).trans (by simp)
 ·exact(j.frozen (p:=⟨W.heap.size,0,none⟩) (by simp)).trans (by simp[World.frozen?_alloc_at])
 ·exact(j.frozen (p:=⟨W.heap.size,1,none⟩) (by simp)).trans (by simp[World.frozen?_alloc_at])
 ·exact(j.frozen (p:=⟨W.heap.size,2,none⟩) (by simp)).trans (by simp[World.frozen?_alloc_at])
theorem o4(w:World)(j l C:Value)(T:TypeId):ig (w.alloc (.cells #[j,l,C] T)) w.heap.size j l C:=by refine⟨?_,?_,?_,?_,?_,?_⟩;all_goals simp
theorem AW{w:World}{b:Nat}{x0 x1 x2:Value}(h:ig w b x0 x1 x2)(j l C:Value):ig (((w.setCell ⟨b,0,none⟩ j).setCell ⟨b,1,none⟩ l).setCell ⟨b,2,none⟩ C) b j l C:=by
 obtain⟨I,J,P,R,T,U⟩:=h;refine⟨?_,?_,?_,?_,?_,?_⟩;·rw[World.cell?_setCell_other _ _ _ _ (by simp),World.cell?_setCell_other _ _ _ _ (by simp)];exact World.cell?_setCell_same _ _ _ I
 ·rw[World.cell?_setCell_other _ _ _ _ (by simp)];exact World.cell?_setCell_same _ _ _ ((World.cell?_setCell_other _ _ _ _ (by simp)).trans J)
 ·exact World.cell?_setCell_same _ _ _ (((World.cell?_setCell_other _ _ _ _ (by simp)).trans (World.cell?_setCell_other _ _ _ _ (by simp))).trans P)
 ·simp[World.frozen?_setCell,R]
 ·simp[World.frozen?_setCell,T]
 ·simp[World.frozen?_setCell,U]
theorem gr.keep{w w':World}{rb:Nat}{t:ByteArray}{a c:Int}{l:List Nat}(h:gr w rb t a c)(j:aw w w' l)(C:rb∉l):gr w' rb t a c:=by obtain⟨⟨s,s0,s8,se,P⟩,J,R,T,U⟩:=h;have I:rb<w.heap.size:=World.block_lt_of_cell? w _ J;exact⟨⟨s,s0,s8,se,j.bN P C⟩,j.bN J C,j.bN R C,j.eB I T C,j.eB I U C⟩
theorem Iq{w:World}{rb:Nat}{t:ByteArray}{a c p:Int}(h:gr w rb t a c)(P:0≤p)(R:p≤8000):gr (w.setCell ⟨rb,1,none⟩ (.int .i64 p)) rb t p c∧aw w (w.setCell ⟨rb,1,none⟩ (.int .i64 p)) [rb]:=by
 obtain⟨⟨s,T,U,se,l⟩,j,C,I,J⟩:=h;refine⟨⟨⟨p,P,R,fun _=>rfl,World.cell?_setCell_same _ _ _ l⟩,?_,?_,?_,?_⟩,aA w rb 1 _⟩;·rw[World.cell?_setCell_other _ _ _ _ (by simp)];exact j
 ·rw[World.cell?_setCell_other _ _ _ _ (by simp)];exact C
 ·rw[World.frozen?_setCell];exact I
 ·rw[World.frozen?_setCell];exact J
theorem tx{w:World}{rb:Nat}{t:ByteArray}{a c a' c':Int}(h:gr w rb t a c)(j:c'≠0):gr (w.setCell ⟨rb,2,none⟩ (.bool true)) rb t a' c'∧aw w (w.setCell ⟨rb,2,none⟩ (.bool true)) [rb]:=by
 obtain⟨⟨s,R,T,U,C⟩,l,I,J,P⟩:=h;refine⟨⟨⟨s,R,T,fun e=>absurd e j,?_⟩,?_,?_,?_,?_⟩,aA w rb 2 _⟩;·rw[World.cell?_setCell_other _ _ _ _ (by simp)];exact C
 ·rw[World.cell?_setCell_other _ _ _ _ (by simp)];exact l
 ·rw[show decide (c'≠0)=true from decide_eq_true j];exact World.cell?_setCell_same _ _ _ I
 ·rw[World.frozen?_setCell];exact J
 ·rw[World.frozen?_setCell];exact P
theorem EV(t:ByteArray)(a c:Int)(rb:Nat)(w:World)(hs:t.size≤8000)(h:gr w rb t a c):Calls Tryz.prog 89 #[.pointer (some ⟨rb,0,none⟩)] w fun e w'=>e=.returned (.int .i64 (aZ t a c).1)∧gr w' rb t (aZ t a c).2.1 (aZ t a c).2.2∧aw w w' [rb]:=by
 have HH:=aa h;have ab:=h.lt;have ag:rb≠w.heap.size:=by omega
 obtain⟨⟨s,s0,s8,se,c1⟩,c0,c2,f1,f2⟩:=h;have HC:Hid (∀w,Calls Tryz.prog 123 #[.string t,.int .i64 s] w fun e w'=>e=.returned (.agg #[.int .i64 (aY t s).1,.int .i64 (aY t s).2.1,.int .i64 (aY t s).2.2])∧Below w.heap.size w w'):=aa (fun w=>yw t s w (by unfold maxLen;omega) (by omega));go_enter Tryz.func89,Tryz.ntmps89;go_wp2_with fail;go_cut[3](fun s3 wx=>∃b,s3=.pointer (some ⟨b,0,none⟩)∧ig wx b (.int .i64 (aY t s).1) (.int .i64 (aY t s).2.1) (.int .i64 (aY t s).2.2)∧w.heap.size≤b∧Below w.heap.size w wx);case first=>go_region_with(go_at_call 123;refine(HC.out _).mono ?_;rintro e w2⟨rfl,I⟩;have l:Hid (Below w.heap.size w w2):=aa (by first|exact(Below.refl _ _).drew.trans I|exact((Below.refl _ _).drew.trans (ai _ _)).trans (I.mono (by simp)));(try(have ac:ig w2 w.heap.size (.int .i64 0) (.int .i64 0) (.int .i64 0):=uQ (W:=w.drew) I;have U:=aa ac;obtain⟨k0,k1,k2,q0,q1,q2⟩:=ac));clear I);all_goals go_wp2_with fail;go_meet;first|(have hz:=AW U.out (.int .i64 (aY t s).1) (.int .i64 (aY t s).2.1) (.int .i64 (aY t s).2.2);exact⟨_,rfl,hz,Nat.le_refl _,(((l.out).setCell (Nat.le_refl _) _).setCell (Nat.le_refl _) _).setCell (Nat.le_refl _) _⟩)|((fail_if_success(have:=U));exact⟨_,rfl,o4 w2 _ _ _ _,l.out.size,l.out.alloc l.out.size _⟩)|fail
 case rest=>
  obtain⟨b,rfl,ad,af,hw⟩:=hcut;have C:=aa (ak hw);have HS:=aa (HH.out.keep C.out (by simp));obtain⟨k0,k1,k2,q0,q1,q2⟩:=ad;have d0:=C.out.bN c0 (by simp);have d1:=C.out.bN c1 (by simp);have d2:=C.out.bN c2 (by simp);have g1:=C.out.eB ab f1 (by simp);have g2:=C.out.eB ab f2 (by simp);clear c0 c1 c2 f1 f2 hw HC;have J:=gv t s;by_cases hc:c=0;·
   obtain rfl:=se hc;subst hc;have j:aZ t s 0=aY t s:=by rw[aZ,if_pos rfl]
   have HN:=aa j;have P:=aa J;clear j;have e0:decide ((0:Int)≠0)=false:=rfl;rw[e0]at d2;by_cases T:(aY t s).2.2=0;·rw[T]at k2;have R:=aa T;clear T J;go_wp2_with fail;go_ret;rw[HN.out,R.out];obtain⟨r1,r2⟩:=Iq (p:=(aY t s).2.1) HS.out (by have:=P.out;omega) (by have:=P.out;omega);exact⟨rfl,r1,by have:=C.out.trans r2;simpa using this⟩
   ·have e1:((aY t s).2.2==0)=false:=by simpa using T
    have R:=aa T;clear T J;go_wp2_with fail;go_ret;rw[HN.out];obtain⟨r1,r2⟩:=tx (a':=(aY t s).2.1) (c':=(aY t s).2.2) HS.out R.out;refine⟨?_,r1,by have:=C.out.trans r2;simpa using this⟩;have:=P.out;have:=R.out;rw[show(aY t s).1=0 by omega];rfl
  ·have j:aZ t a c=(0,a,c):=by rw[aZ,if_neg hc]
   have HN:=aa j;have R:=aa hc;clear j hc;have e0:decide (c≠0)=true:=decide_eq_true R.out;rw[e0]at d2;clear e0 J;go_wp2_with fail;go_ret;rw[HN.out];obtain⟨r1,r2⟩:=tx (a':=a) (c':=c) HS.out R.out;exact⟨rfl,r1,by have:=C.out.trans r2;simpa using this⟩
theorem za(t:ByteArray)(a:Int):((dd t a).2.2=0∧0≤(dd t a).2.1∧(dd t a).2.1≤8000)∨((dd t a).1=⟨#[]⟩∧(dd t a).2.1=0∧(dd t a).2.2≠0):=by
 have j:=gv t a;unfold dd;by_cases l:(aY t a).2.2≠0;·rw[if_pos l];right;exact⟨rfl,rfl,l⟩
 ·rw[if_neg l];by_cases C:(aY t a).1<0∨8000<(aY t a).1;·rw[if_pos C];right;simp
  ·rw[if_neg C];by_cases I:(t.size:Int)-(aY t a).2.1<(aY t a).1;·rw[if_pos I];right;simp
   ·rw[if_neg I];left;exact⟨rfl,(by show 0≤(aY t a).2.1+(aY t a).1;omega),(by show(aY t a).2.1+(aY t a).1≤8000;rcases j with j|j;omega;exact absurd j.2.2.1 (by omega))⟩
theorem He(t:ByteArray)(a c:Int)(rb:Nat)(w:World)(hs:t.size≤8000)(h:gr w rb t a c):Calls Tryz.prog 90 #[.pointer (some ⟨rb,0,none⟩)] w fun e w'=>e=.returned (.string (bP t a c).1)∧gr w' rb t (bP t a c).2.1 (bP t a c).2.2∧aw w w' [rb]:=by
 have HH:=aa h;have ab:=h.lt;have ag:rb≠w.heap.size:=by omega
 obtain⟨⟨s,s0,s8,se,c1⟩,c0,c2,f1,f2⟩:=h;have HC:Hid (∀w,Calls Tryz.prog 124 #[.string t,.int .i64 s] w fun e w'=>e=.returned (.agg #[.string (dd t s).1,.int .i64 (dd t s).2.1,.int .i64 (dd t s).2.2])∧Below w.heap.size w w'):=aa (fun w=>tT t s w (by unfold maxLen;omega) (by omega));go_enter Tryz.func90,Tryz.ntmps90;go_wp2_with fail;go_cut[3](fun s3 wx=>∃b,s3=.pointer (some ⟨b,0,none⟩)∧ig wx b (.string (dd t s).1) (.int .i64 (dd t s).2.1) (.int .i64 (dd t s).2.2)∧w.heap.size≤b∧Below w.heap.size w wx);case first=>go_region_with(go_at_call 124;refine(HC.out _).mono ?_;rintro e w2⟨rfl,J⟩;have l:Hid (Below w.heap.size w w2):=aa (by first|exact(Below.refl _ _).drew.trans J|exact((Below.refl _ _).drew.trans (ai _ _)).trans (J.mono (by simp)));(try(have ac:ig w2 w.heap.size (.string ⟨#[]⟩) (.int .i64 0) (.int .i64 0):=uQ (W:=w.drew) J;have U:=aa ac;obtain⟨k0,k1,k2,q0,q1,q2⟩:=ac));clear J);all_goals go_wp2_with fail;go_meet;first|(have hz:=AW U.out (.string (dd t s).1) (.int .i64 (dd t s).2.1) (.int .i64 (dd t s).2.2);exact⟨_,rfl,hz,Nat.le_refl _,(((l.out).setCell (Nat.le_refl _) _).setCell (Nat.le_refl _) _).setCell (Nat.le_refl _) _⟩)|((fail_if_success(have:=U));exact⟨_,rfl,o4 w2 _ _ _ _,l.out.size,l.out.alloc l.out.size _⟩)|fail
 case rest=>
  obtain⟨b,rfl,ad,af,hw⟩:=hcut;have I:=aa (ak hw);have HS:=aa (HH.out.keep I.out (by simp));obtain⟨k0,k1,k2,q0,q1,q2⟩:=ad;have d0:=I.out.bN c0 (by simp);have d1:=I.out.bN c1 (by simp);have d2:=I.out.bN c2 (by simp);have g1:=I.out.eB ab f1 (by simp);have g2:=I.out.eB ab f2 (by simp);clear c0 c1 c2 f1 f2 hw HC;have P:=za t s;by_cases hc:c=0;·
   obtain rfl:=se hc;subst hc;have j:bP t s 0=dd t s:=by rw[bP,if_pos rfl]
   have HN:=aa j;have C:=aa P;clear j;have e0:decide ((0:Int)≠0)=false:=rfl;rw[e0]at d2;by_cases T:(dd t s).2.2=0;·rw[T]at k2;have R:=aa T;clear T P;go_wp2_with fail;go_ret;rw[HN.out,R.out];obtain⟨r1,r2⟩:=Iq (p:=(dd t s).2.1) HS.out (by have:=C.out;omega) (by have:=C.out;omega);exact⟨rfl,r1,by have:=I.out.trans r2;simpa using this⟩
   ·have e1:((dd t s).2.2==0)=false:=by simpa using T
    have R:=aa T;clear T P;go_wp2_with fail;go_ret;rw[HN.out];obtain⟨r1,r2⟩:=tx (a':=(dd t s).2.1) (c':=(dd t s).2.2) HS.out R.out;refine⟨?_,r1,by have:=I.out.trans r2;simpa using this⟩;have:=C.out;have:=R.out;rw[show(dd t s).1=⟨#[]⟩by rcases C.out with h|h<;>first|exact h.1|omega];rfl
  ·have j:bP t a c=(⟨#[]⟩,a,c):=by rw[bP,if_neg hc]
   have HN:=aa j;have R:=aa hc;clear j hc;have e0:decide (c≠0)=true:=decide_eq_true R.out;rw[e0]at d2;clear e0 P;go_wp2_with fail;go_ret;rw[HN.out];obtain⟨r1,r2⟩:=tx (a':=a) (c':=c) HS.out R.out;exact⟨rfl,r1,by have:=I.out.trans r2;simpa using this⟩
theorem ig.lt{w:World}{b:Nat}{j l C:Value}(h:ig w b j l C):b<w.heap.size:=World.block_lt_of_cell? w _ h.k0
theorem ig.keep{w w':World}{b:Nat}{I J P:Value}{l:List Nat}(h:ig w b I J P)(j:aw w w' l)(C:b∉l):ig w' b I J P:=⟨j.bN h.k0 C,j.bN h.k1 C,j.bN h.k2 C,j.eB h.lt h.q0 C,j.eB h.lt h.q1 C,j.eB h.lt h.q2 C⟩
theorem xP{w:World}{b:Nat}{C j l:Value}(h:ig w b C j l)(y:Value):ig (w.setCell ⟨b,0,none⟩ y) b y j l:=by
 refine⟨World.cell?_setCell_same _ _ _ h.k0,?_,?_,?_,?_,?_⟩;·rw[World.cell?_setCell_other _ _ _ _ (by simp)];exact h.k1
 ·rw[World.cell?_setCell_other _ _ _ _ (by simp)];exact h.k2
 ·rw[World.frozen?_setCell];exact h.q0
 ·rw[World.frozen?_setCell];exact h.q1
 ·rw[World.frozen?_setCell];exact h.q2
theorem xQ{w:World}{b:Nat}{j C l:Value}(h:ig w b j C l)(y:Value):ig (w.setCell ⟨b,1,none⟩ y) b j y l:=by
 refine⟨?_,World.cell?_setCell_same _ _ _ h.k1,?_,?_,?_,?_⟩;·rw[World.cell?_setCell_other _ _ _ _ (by simp)];exact h.k0
 ·rw[World.cell?_setCell_other _ _ _ _ (by simp)];exact h.k2
 ·rw[World.frozen?_setCell];exact h.q0
 ·rw[World.frozen?_setCell];exact h.q1
 ·rw[World.frozen?_setCell];exact h.q2
def FF(w:World):World:=(w.alloc (.cells #[.slice none 0 0,.slice none 0 0,.int .i64 0] 28)).alloc (.cells #[.slice none 0 0,.slice none 0 0,.int .i64 0] 28)
theorem pk(w:World):ig (FF w) w.heap.size (.slice none 0 0) (.slice none 0 0) (.int .i64 0)∧ig (FF w) (w.heap.size+1) (.slice none 0 0) (.slice none 0 0) (.int .i64 0)∧Below w.heap.size w (FF w)∧(FF w).heap.size=w.heap.size+2:=by
 refine⟨?_,?_,((Below.refl _ _).alloc (Nat.le_refl _) _).alloc (by simp) _,by simp[FF]⟩;·exact(o4 w _ _ _ 28).keep (ak (ai _ _)) (by simp)
 ·have:=o4 (w.alloc (.cells #[.slice none 0 0,.slice none 0 0,.int .i64 0] 28)) (.slice none 0 0) (.slice none 0 0) (.int .i64 0) 28;simpa[FF]using this
structure nB(w0 w:World)(rb:Nat)(t:ByteArray)(a c:Int)(sv ev:Value)(ls:List aB)(le:List ar):Prop where
 rd:gq w rb t a c
 ra:0≤a∧a≤8000
 res:ig w w0.heap.size (.slice none 0 0) (.slice none 0 0) (.int .i64 0)
 box:ig w (w0.heap.size+1) sv ev (.int .i64 0)
 st:aV w (w0.heap.size+2) sv ls
 ed:aO w (w0.heap.size+2) ev le
 q8:∀b∈an sv,b∉an ev
 sz:w0.heap.size+2≤w.heap.size
 ap:aw w0 w [rb]
theorem nB.oq{J w w':World}{rb:Nat}{t:ByteArray}{a c a' c':Int}{sv ev:Value}{ls:List aB}{P:List ar}(h:nB J w rb t a c sv ev ls P)(T:rb<J.heap.size)(R:gq w' rb t a' c')(I:0≤a'∧a'≤8000)(j:aw w w' [rb]):nB J w' rb t a' c' sv ev ls P:=⟨R,I,h.res.keep j (by simp;omega),h.box.keep j (by simp;omega),h.st.keep j (fun b l C=>by have:=h.st.fresh.lo b l;simp at C;omega),h.ed.keep j (fun b l C=>by have:=h.ed.fresh.lo b l;simp at C;omega),h.q8,Nat.le_trans h.sz j.size,h.ap.lW j⟩
theorem nB.drew{l w:World}{rb:Nat}{t:ByteArray}{a c:Int}{sv ev:Value}{ls:List aB}{C:List ar}(h:nB l w rb t a c sv ev ls C)(j:rb<l.heap.size):nB l w.drew rb t a c sv ev ls C:=h.oq j (h.rd.keep (aw.refl _).drew (by simp)) h.ra (aw.qk (aw.refl _).drew)
theorem EI{P w3 U:World}{rb:Nat}{t:ByteArray}{a c:Int}{sv ev T:Value}{ls:List aB}{le:List ar}(h:nB P w3 rb t a c sv ev ls le)(af:rb<P.heap.size)(x:aB)(o:Obj)(I:U.ownsRow (P.heap.size+2) 75 2 T (ls.length+1) (ls.flatMap aB.cells++x.cells))(hg:(w3.alloc o).grownBy U sv.ownBlock)(ab:T.ownBlock=sv.ownBlock∨T.ownBlock=some (w3.alloc o).heap.size):nB P (U.setCell ⟨P.heap.size+1,0,none⟩ T) rb t a c T ev (ls++[x]) le:=by
 obtain⟨p,cp,rfl⟩:=aq h.st;obtain⟨p4,c4,rfl⟩:=aq I;obtain⟨p5,c5,rfl⟩:=aq h.ed;have hA:aw w3 U (an (.slice p ls.length cp)):=by have:=(ak (ai w3 o)).trans (aE hg);rwa[List.nil_append]at this
 have lo:=h.st.fresh.lo;have ad:=h.ed.fresh.lo;have ac:=(au I).lo;have hS:=aA U (P.heap.size+1) 0 (.slice p4 (ls.length+1) c4);have C:=hA.trans hS;have R:∀b,(b∈an (.slice p ls.length cp)++[P.heap.size+1])→P.heap.size+1≤b:=fun b j=>by
  rw[List.mem_append]at j;rcases j with j|j;·have:=lo b j;omega
  ·simp at j;omega
 refine⟨h.rd.keep C (fun j=>by have:=R _ j;omega),h.ra,h.res.keep C (fun j=>by have:=R _ j;omega),xP (h.box.keep hA (fun j=>by have:=lo _ j;omega)) _,?_,?_,?_,?_,?_⟩;·exact aV.snoc (aJ I hS (fun b j l=>by have:=ac b j;simp at l;omega))
 ·exact h.ed.keep C (fun b j l=>by
   rw[List.mem_append]at l;rcases l with l|l;·exact h.q8 b l j
   ·have:=ad b j;simp at l;omega)
 ·intro b j l;have J:=(bh rfl).2 j;rcases ab with e|e;·rw[e]at J;exact h.q8 b ((bh rfl).1 J) l
  ·rw[e]at J;have:=h.ed.fresh.hi b l;simp at J;omega
 ·have:=h.sz;have:=C.size;omega
 ·have:=h.ap.trans C;exact⟨this.os,this.tape,this.output,this.size,fun b j hn=>this.block b j (fun l=>by
   rw[List.mem_append]at l;rcases l with l|l;·exact hn l
   ·have:=R _ l;omega)⟩
theorem EJ{P w3 w4:World}{rb:Nat}{t:ByteArray}{a c:Int}{sv ev U:Value}{ls:List aB}{T:List ar}(h:nB P w3 rb t a c sv ev ls T)(af:rb<P.heap.size)(x:ar)(o:Obj)(I:w4.ownsRow (P.heap.size+2) 61 4 U (T.length+1) (T.flatMap ar.cells++x.cells))(hg:(w3.alloc o).grownBy w4 ev.ownBlock)(ab:U.ownBlock=ev.ownBlock∨U.ownBlock=some (w3.alloc o).heap.size):nB P (w4.setCell ⟨P.heap.size+1,1,none⟩ U) rb t a c sv U ls (T++[x]):=by
 obtain⟨p,cp,rfl⟩:=aq h.ed;obtain⟨p4,c4,rfl⟩:=aq I;obtain⟨p5,c5,rfl⟩:=aq h.st;have hA:aw w3 w4 (an (.slice p T.length cp)):=by have:=(ak (ai w3 o)).trans (aE hg);rwa[List.nil_append]at this
 have lo:=h.ed.fresh.lo;have ad:=h.st.fresh.lo;have ac:=(au I).lo;have hS:=aA w4 (P.heap.size+1) 1 (.slice p4 (T.length+1) c4);have C:=hA.trans hS;have R:∀b,(b∈an (.slice p T.length cp)++[P.heap.size+1])→P.heap.size+1≤b:=fun b j=>by
  rw[List.mem_append]at j;rcases j with j|j;·have:=lo b j;omega
  ·simp at j;omega
 refine⟨h.rd.keep C (fun j=>by have:=R _ j;omega),h.ra,h.res.keep C (fun j=>by have:=R _ j;omega),xQ (h.box.keep hA (fun j=>by have:=lo _ j;omega)) _,?_,?_,?_,?_,?_⟩;·
  exact h.st.keep C (fun b j l=>by
   rw[List.mem_append]at l;rcases l with l|l;·exact h.q8 b j l
   ·have:=ad b j;simp at l;omega)
 ·exact aO.snoc (aJ I hS (fun b j l=>by have:=ac b j;simp at l;omega))
 ·intro b l j;have J:=(bh rfl).2 j;rcases ab with e|e;·rw[e]at J;exact h.q8 b l ((bh rfl).1 J)
  ·rw[e]at J;have:=h.st.fresh.hi b l;simp at J;omega
 ·have:=h.sz;have:=C.size;omega
 ·have:=h.ap.trans C;exact⟨this.os,this.tape,this.output,this.size,fun b j hn=>this.block b j (fun l=>by
   rw[List.mem_append]at l;rcases l with l|l;·exact hn l
   ·have:=R _ l;omega)⟩
theorem Ir(n j hi:Int)(w:World):Calls Tryz.prog 59 #[.int .i64 n,.int .i64 j,.int .i64 hi] w fun e w'=>e=.returned (.bool (decide (j≤n)&&decide (n≤hi)))∧w'=w:=by by_cases h:j≤n;all_goals go_enter Tryz.func59,Tryz.ntmps59;go_wp2_with fail;go_ret;refine⟨aF ?_,rfl⟩;simp[*];try omega
theorem Hd(t:ByteArray)(a c most:Int)(rb:Nat)(w:World)(hs:t.size≤8000)(h:gr w rb t a c):Calls Tryz.prog 88 #[.pointer (some ⟨rb,0,none⟩),.int .i64 most] w fun e w'=>e=.returned (.int .i64 (cj t a c most).1)∧gr w' rb t (cj t a c most).2.1 (cj t a c most).2.2∧aw w w' [rb]:=by
 have HC:Hid (Calls Tryz.prog 89 #[.pointer (some ⟨rb,0,none⟩)] w fun e w'=>e=.returned (.int .i64 (aZ t a c).1)∧gr w' rb t (aZ t a c).2.1 (aZ t a c).2.2∧aw w w' [rb]):=aa (EV t a c rb w hs h);have R:Hid (cj t a c most=if(aZ t a c).1<0∨most<(aZ t a c).1 then(0,(aZ t a c).2.1,3)else((aZ t a c).1,(aZ t a c).2.1,(aZ t a c).2.2)):=aa rfl;clear h hs;generalize(aZ t a c).1=n at*;generalize(aZ t a c).2.1=p at*;generalize(aZ t a c).2.2=k at*;by_cases T:n<0∨most<n;·have I:=aa (R.out.trans (if_pos T));have U:Hid (∀w,Calls Tryz.prog 59 #[.int .i64 n,.int .i64 0,.int .i64 most] w fun e w'=>e=.returned (.bool false)∧w'=w):=aa (fun w=>by have:=Ir n 0 most w;rw[show(decide (0≤n)&&decide (n≤most))=false by simp;omega]at this;exact this);clear T R;go_enter Tryz.func88,Tryz.ntmps88;go_wp2_with(first|(go_at_call 89;refine HC.out.mono ?_;rintro e w1⟨rfl,l,j⟩;have J:=aa l;have C:=aa j;obtain⟨-,d0,d2,g1,g2⟩:=l;clear j)|(go_at_call 59;refine(U.out _).mono ?_;rintro e w2⟨rfl,P⟩;subst P));go_ret;obtain⟨r1,r2⟩:=tx (a':=p) (c':=3) J.out (by omega);rw[I.out];exact⟨rfl,r1,C.out.lW r2⟩
 ·have I:=aa (R.out.trans (if_neg T));have U:Hid (∀w,Calls Tryz.prog 59 #[.int .i64 n,.int .i64 0,.int .i64 most] w fun e w'=>e=.returned (.bool true)∧w'=w):=aa (fun w=>by have:=Ir n 0 most w;rw[show(decide (0≤n)&&decide (n≤most))=true by simp;omega]at this;exact this);clear T R;go_enter Tryz.func88,Tryz.ntmps88;go_wp2_with(first|(go_at_call 89;refine HC.out.mono ?_;rintro e w1⟨rfl,l,j⟩;have J:=aa l;have C:=aa j;obtain⟨-,d0,d2,g1,g2⟩:=l;clear j)|(go_at_call 59;refine(U.out _).mono ?_;rintro e w2⟨rfl,P⟩;subst P));go_ret;rw[I.out];exact⟨rfl,J.out,C.out⟩
end
end Go.Proofs.YtlbcnmcfljaijaaGreat
