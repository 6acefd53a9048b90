import Derived.Test.YtlbcnmcfljaijaaGreatQN22
import Derived.WalkSmall
import Derived.Laws.OwnMore
namespace Go.Proofs.YtlbcnmcfljaijaaGreat
open Go.RowKit
set_option linter.unusedSimpArgs false
set_option linter.unusedVariables false
set_option maxHeartbeats 2000000
set_option maxRecDepth 100000
section
attribute [local go_sem ↓] Go.wp_at_zero Go.wp_at_succ
theorem kr(w:World)(l:List Value)(t:TypeId)(b:Nat)(C:b=w.heap.size)(j:Nat)(u:Value)(h:l[j]?=some u):(w.alloc (.cells l.toArray t)).cell? (Addr.add ⟨b,0,none⟩ j)=some u:=by subst C;exact dh w l t j u h
theorem vE(e:ar)(w:World)(xb base:Nat)(h:vd w xb base (.slice none 0 0) []):Calls Tryz.prog 121 #[.pointer (some ⟨xb,0,none⟩),e.val] w fun r w'=>∃ax,r=.returned (.tuple #[])∧aO w' w.heap.size ax (fA e [])∧w'.cell? ⟨xb,2,none⟩=some ax∧Iy w w' xb:=by
 have H:=aa h;obtain⟨i1,ay,az,a0,a1⟩:=info_parts Tryz.kn;have HJ:=aa (And.intro ay (And.intro az (And.intro a0 a1)));have c2:=h.c2;have a8:xb<w.heap.size:=Nat.lt_of_lt_of_le h.lo h.sz;have ao:=aa a8;obtain⟨I,C,J,dst⟩:=e;clear h ay az a0 a1;unfold ar.val;go_enter Tryz.func121,Tryz.ntmps121;go_wp2_with fail;go_loopw[4](fun i wr=>i=.int .i64 0∧wr.cell? ⟨w.heap.size,0,none⟩=some (.int .i64 I)∧wr.cell? ⟨w.heap.size,1,none⟩=some (.string C)∧wr.cell? ⟨w.heap.size,2,none⟩=some (.int .i64 J)∧wr.cell? ⟨w.heap.size,3,none⟩=some (.int .i64 dst)∧w.heap.size<wr.heap.size∧Below w.heap.size w wr)(fun _ _=>0);case atStart=>exact⟨rfl,by simp,by simp,by simp,by simp,by simp,ai w _⟩
 case round=>
  obtain⟨rfl,e0,e1,e2,e3,bb,R⟩:=hrel;have T:=aa R;have HE:=aa (H.out.below R);have g2:=HE.out.c2;clear R;go_wp2_with fail;refine aK (by kernel_rfl) (by kernel_rfl) (fun V hV=>?_);have a4:=aH V;have k2:=ae (w:=V) (by rw[hV];exact g2);have ah:=aa hV;clear hV;repeat(go_big_quiet_step(fail))
  refine wpQuiet_nil ?_;intro w3 af;rw[ah.out]at af;have ab:=aa af;clear af a4 k2 ah;have a3:=aa (HE.out.below ab.out);have av:Hid (wr.heap.size≤w3.heap.size):=aa ab.out.size;have P:=aa (iO.cT ab.out);have ba:∀o:Obj,(w3.alloc o).cell? ⟨xb,2,none⟩=some (.slice none 0 0):=fun o=>(a3.out.below (ai w3 o)).c2;have n0:=fun o:Obj=>(P.out.alloc o).cell e0;have n1:=fun o:Obj=>(P.out.alloc o).cell e1;have n2:=fun o:Obj=>(P.out.alloc o).cell e2;have n3:=fun o:Obj=>(P.out.alloc o).cell e3;have ag:Hid ((w3.alloc (.cells #[] 61)).ownsRow w3.heap.size 61 4 (.slice (some ⟨w3.heap.size,0,none⟩) 0 0) 0 []):=aa (dJ _ _ _ _ _ (Nat.le_refl _) (bY _ _ _ rfl));go_wp2_with(first|((fail_if_success(have:=a2));at_builtin;refine wpList_append_own_none rfl (.tmp 28) (.tmp 35) 26 rfl w3.heap.size 61 i1 4 Tryz.underlying26 HJ.out.1 (.slice (some ⟨w3.heap.size,0,none⟩) 0 0) 0 [] rfl ag.out rfl ?_;have a2:Hid True:=aa trivial)|((fail_if_success(have:=ad));at_builtin;refine wpList_append_own _ rfl (.tmp 37) (.tmp 39) 26 rfl w3.heap.size 61 i1 (.agg #[.int .i64 0,.string ByteArray.empty,.int .i64 0,.int .i64 0]) 4 40 Tryz.underlying26 HJ.out.1 HJ.out.2.1 HJ.out.2.2.1 HJ.out.2.2.2 rfl (by decide) (.slice (some ⟨w3.heap.size,0,none⟩) 0 0) 0 [] rfl (aL ag.out (ai _ _)) ⟨w3.heap.size+1,0,none⟩ 1 1 (ar.cells ⟨I,C,J,dst⟩) rfl rfl (fun j u hj=>kr (w3.alloc (.cells #[] 61)) _ _ (w3.heap.size+1) (by simp) j u hj) (ar.cells_one _) (by unfold maxLen;omega) (by omega) (by simp;omega) ?_;intro v5 w5 l U _;obtain⟨p5,c5,rfl⟩:=aq l;have ad:=aa l;have ac:Hid (iO wr w5):=aa (((P.out.alloc _).alloc _).grow (aE U) (by have:=av.out;simp[an,aG];exact this));have s4:=ac.out.cell g2;have yz:=(ac.out.ed HE.out).fz;clear l U)|(at_builtin;refine wpList_append_own_none rfl (.tmp 42) (.tmp 49) 26 rfl w3.heap.size 61 i1 4 Tryz.underlying26 HJ.out.1 (.slice p5 (0+1) c5) (0+1) ([]++ar.cells ⟨I,C,J,dst⟩) rfl ad.out rfl ?_));go_end0;have hS:=aA w5 xb 2 (.slice p5 1 c5);have a9:=ao.out;have be:=T.out.size;have bf:=av.out;refine⟨.slice p5 1 c5,rfl,?_,World.cell?_setCell_same _ _ _ s4,Av _ ao.out T.out ac.out⟩;have ho:=ad.out;have hi:fA ⟨I,C,J,dst⟩ []=[⟨I,C,J,dst⟩]:=rfl;rw[hi];have a5:w5.ownsRow w3.heap.size 61 4 (.slice p5 1 c5) 1 (ar.cells ⟨I,C,J,dst⟩):=by simpa using ho
  have h1:aO w5 w3.heap.size (.slice p5 1 c5) [⟨I,C,J,dst⟩]:=by unfold aO;simpa using a5
  exact bo (base:=w3.heap.size) (h1.keep hS (fun b hb hm=>by have:=h1.fresh.lo b hb;simp at hm;omega)) (by omega)
theorem GA(e:ar)(w:World)(xb base:Nat)(ev:Value)(eds:List ar)(J:eds.length≤1000)(h:vd w xb base ev eds):Calls Tryz.prog 121 #[.pointer (some ⟨xb,0,none⟩),e.val] w fun r w'=>∃j,r=.returned (.tuple #[])∧aO w' w.heap.size j (fA e eds)∧w'.cell? ⟨xb,2,none⟩=some j∧Iy w w' xb:=by
 have P:=h.ed;rcases P.2 with⟨rfl,C⟩|⟨g,cap,l,rfl,_,_,I,_⟩;·have:eds=[]:=List.length_eq_zero_iff.1 C;subst this;exact vE e w xb base h
 ·exact vF e w xb base g cap eds J I h
def j3(ns:List ByteArray):List Value:=ns.map Value.string
def jU(fis:List Int):List Value:=fis.map (Value.int .i64)
structure KR(sv ev nv fv:Value):Prop where
 se:∀b∈an sv,b∉an ev
 sn:∀b∈an sv,b∉an nv
 sf:∀b∈an sv,b∉an fv
 en:∀b∈an ev,b∉an nv
 ef:∀b∈an ev,b∉an fv
 nf:∀b∈an nv,b∉an fv
structure da(w:World)(xb B base:Nat)(v sv ev:Value)(z:Int)(nv fv:Value)(all:List Nd)(sts:List aB)(eds:List ar)(ns:List ByteArray)(fis:List Int):Prop where
 box:bA w xb [v,sv,ev,.int .i64 z,nv,fv]
 sl:bR w B v all
 st:aV w base sv sts
 ed:aO w base ev eds
 nm:w.ownsRow base 9 1 nv ns.length (j3 ns)
 fi:w.ownsRow base 2 1 fv fis.length (jU fis)
 four:KR sv ev nv fv
 low:B≤xb∧xb<base
 sz:base≤w.heap.size
theorem da.sA{w w':World}{xb B base:Nat}{v sv ev:Value}{z:Int}{nv fv:Value}{all:List Nd}{sts:List aB}{eds:List ar}{ns:List ByteArray}{fis:List Int}(h:da w xb B base v sv ev z nv fv all sts eds ns fis)(j:iO w w'):da w' xb B base v sv ev z nv fv all sts eds ns fis:=by have l:=h.low;have C:=h.sz;refine⟨h.box.keep j.ap (by simp),h.sl.carry ⟨j.ap.os,j.ap.tape,j.ap.output,j.ap.size,fun k I=>j.ap.block k (by omega) (by simp)⟩,h.st.keep j.ap (fun _ _=>by simp),h.ed.keep j.ap (fun _ _=>by simp),aJ h.nm j.ap (fun _ _=>by simp),aJ h.fi j.ap (fun _ _=>by simp),h.four,l,Nat.le_trans C j.ap.size⟩
theorem da.Li{w:World}{xb B base:Nat}{v sv ev:Value}{z:Int}{nv fv:Value}{all:List Nd}{sts:List aB}{eds:List ar}{ns:List ByteArray}{fis:List Int}(h:da w xb B base v sv ev z nv fv all sts eds ns fis):vd w xb base ev eds:=⟨h.box.cell 2 _ rfl,h.box.fz 2,h.ed,h.low.2,h.sz⟩
theorem da.DC{w:World}{xb B base:Nat}{v sv ev:Value}{z:Int}{nv fv:Value}{all:List Nd}{sts:List aB}{eds:List ar}{ns:List ByteArray}{fis:List Int}(h:da w xb B base v sv ev z nv fv all sts eds ns fis):qm w xb w.heap.size all ns fis:=by
 have hl:=h.low;have hs:=h.sz;refine⟨⟨v,h.box.cell 0 _ rfl,?_⟩,?_,?_,h.box.lt⟩;·obtain⟨ao,cap,e,h1,h2,h3⟩:=h.sl;refine⟨ao,cap,e,h1,h2,fun T=>?_⟩;obtain⟨b,o,e1,e2,e3⟩:=h3 T;exact⟨b,o,e1,by omega,e3⟩
 ·obtain⟨p,c,e⟩:=aq h.nm;have I:=h.box.cell 4 _ rfl;rw[e]at I;refine⟨p,c,I,fun j R=>?_⟩;have J:=h.nm;rcases J.2 with⟨C,h0⟩|⟨g,cap,P,C,hg,l,_⟩;·omega
  ·refine⟨g,0,?_,(Array.getElem?_eq_some_iff.1 l).1,?_⟩;·rw[e]at C;injection C
   ·rw[Nat.zero_add];have U:(j3 ns)[j]?=some (.string ns[j]):=by simp[j3,R]
    exact bF J C j _ U
 ·obtain⟨p,c,e⟩:=aq h.fi;have I:=h.box.cell 5 _ rfl;rw[e]at I;refine⟨p,c,I,fun j R=>?_⟩;have J:=h.fi;rcases J.2 with⟨C,h0⟩|⟨g,cap,P,C,hg,l,_⟩;·omega
  ·refine⟨g,0,?_,(Array.getElem?_eq_some_iff.1 l).1,?_⟩;·rw[e]at C;injection C
   ·rw[Nat.zero_add];have U:(jU fis)[j]?=some (.int .i64 fis[j]):=by simp[jU,R]
    exact bF J C j _ U
structure eJ(w w':World)(base xb:Nat):Prop where
 os:w'.os=w.os
 tape:w'.tape=w.tape
 output:w'.output=w.output
 size:w.heap.size≤w'.heap.size
 block:∀b,b<base→b≠xb→w'.heap[b]?=w.heap[b]?
theorem eJ.refl(w:World)(base xb:Nat):eJ w w base xb:=⟨rfl,rfl,rfl,Nat.le_refl _,fun _ _ _=>rfl⟩
theorem eJ.trans{a b c:World}{base xb:Nat}(h:eJ a b base xb)(j:eJ b c base xb):eJ a c base xb:=⟨j.os.trans h.os,j.tape.trans h.tape,j.output.trans h.output,Nat.le_trans h.size j.size,fun k l C=>(j.block k l C).trans (h.block k l C)⟩
theorem aw.jB{w w':World}{l:List Nat}{base xb:Nat}(h:aw w w' l)(C:base≤w.heap.size)(I:∀b∈l,b=xb∨base≤b):eJ w w' base xb:=⟨h.os,h.tape,h.output,h.size,fun b j P=>h.block b (Nat.lt_of_lt_of_le j C) (fun J=>by rcases I b J with q|q;exact P q;omega)⟩
theorem eJ.sl{w w':World}{base xb B:Nat}{v:Value}{ns:List Nd}(h:eJ w w' base xb)(l:B≤xb)(I:xb<base)(j:bR w B v ns):bR w' B v ns:=j.carry ⟨h.os,h.tape,h.output,h.size,fun k C=>h.block k (by omega) (by omega)⟩
theorem kR{v l u:Value}{p U:Option Addr}{n T c c' P:Nat}(ev:v=.slice p n c)(C:l=.slice U T c')(h:∀b∈an v,b∉an u)(I:l.ownBlock=v.ownBlock∨l.ownBlock=some P)(hu:∀b∈an u,b<P):∀b∈an l,b∉an u:=by
 intro b R J;have j:=(bh C).2 R;rcases I with e|e;·rw[e]at j;exact h b ((bh ev).1 j) J
 ·rw[e]at j;have:=hu b J;simp at j;omega
theorem xJ{w3 R:World}{xb B base:Nat}{v sv ev P:Value}{z:Int}{nv fv:Value}{all:List Nd}{sts:List aB}{eds:List ar}{ns:List ByteArray}{fis:List Int}(h:da w3 xb B base v sv ev z nv fv all sts eds ns fis)(x:aB)(o:Obj)(C:R.ownsRow base 75 2 P (sts.length+1) (sts.flatMap aB.cells++x.cells))(hg:(w3.alloc o).grownBy R sv.ownBlock)(J:P.ownBlock=sv.ownBlock∨P.ownBlock=some (w3.alloc o).heap.size):da (R.setCell ⟨xb,1,none⟩ P) xb B base v P ev z nv fv all (sts++[x]) eds ns fis∧eJ w3 (R.setCell ⟨xb,1,none⟩ P) base xb:=by
 obtain⟨p,T,rfl⟩:=aq h.st;obtain⟨p4,c4,rfl⟩:=aq C;have hA:aw w3 R (an (.slice p sts.length T)):=by have:=(ak (ai w3 o)).trans (aE hg);rwa[List.nil_append]at this
 have lo:=h.st.fresh.lo;have ab:=(au C).lo;have hl:=h.low;have hS:=aA R xb 1 (.slice p4 (sts.length+1) c4);have l:=hA.trans hS;have U:∀b,(b∈an (.slice p sts.length T)++[xb])→b=xb∨base≤b:=fun b j=>by
  rw[List.mem_append]at j;rcases j with j|j;·exact .inr (lo b j)
  ·simp at j;exact .inl j
 have hK:=l.jB h.sz U;have off:∀{u:Value},(∀b∈an u,base≤b)→(∀b∈an (.slice p sts.length T),b∉an u)→∀b∈an u,b∉an (.slice p sts.length T)++[xb]:=fun hu hd b j I=>by
  rw[List.mem_append]at I;rcases I with I|I;·exact hd b I j
  ·have:=hu b j;simp at I;omega
 have up:∀{u:Value},(∀b∈an u,b<w3.heap.size)→∀b∈an u,b<(w3.alloc o).heap.size:=fun hu b j=>by have:=hu b j;simp;omega
 refine⟨⟨?_,hK.sl hl.1 hl.2 h.sl,?_,?_,?_,?_,?_,hl,?_⟩,hK⟩;·exact(h.box.keep hA (fun j=>by have:=lo _ j;omega)).set 1 (by simp) _
 ·exact aV.snoc (aJ C hS (fun b j I=>by have:=ab b j;simp at I;omega))
 ·exact h.ed.keep l (off h.ed.fresh.lo h.four.se)
 ·exact aJ h.nm l (off (au h.nm).lo h.four.sn)
 ·exact aJ h.fi l (off (au h.fi).lo h.four.sf)
 ·exact⟨kR rfl rfl h.four.se J (up h.ed.fresh.hi),kR rfl rfl h.four.sn J (up (au h.nm).hi),kR rfl rfl h.four.sf J (up (au h.fi).hi),h.four.en,h.four.ef,h.four.nf⟩
 ·exact Nat.le_trans h.sz l.size
structure kI(w w':World)(xb:Nat)(R R':List Nat):Prop where
 size:w.heap.size≤w'.heap.size
 block:∀b,b<w.heap.size→b≠xb→b∉R→w'.heap[b]?=w.heap[b]?
 rows:∀b∈R',b∈R∨w.heap.size≤b
def db(sv ev nv fv:Value):List Nat:=an sv++(an ev++(an nv++an fv))
theorem iQ{sv ev nv fv:Value}{b:Nat}:b∈db sv ev nv fv↔b∈an sv∨b∈an ev∨b∈an nv∨b∈an fv:=by simp[db]
theorem kI.trans{a b c:World}{xb:Nat}{R R' j:List Nat}(h:kI a b xb R R')(C:kI b c xb R' j):kI a c xb R j:=⟨Nat.le_trans h.size C.size,fun k l J I=>(C.block k (Nat.lt_of_lt_of_le l h.size) J (fun P=>by rcases h.rows k P with q|q;exact I q;omega)).trans (h.block k l J I),fun k l=>by
 rcases C.rows k l with q|q;·exact h.rows k q
 ·have:=h.size;exact .inr (by omega)⟩
theorem kI.sA{w w':World}{xb:Nat}{R:List Nat}(h:iO w w'):kI w w' xb R R:=⟨h.ap.size,fun b j _ _=>h.ap.block b j (by simp),fun _ j=>.inl j⟩
theorem kI.apart{w w':World}{xb:Nat}{R R' L:List Nat}(h:aw w w' L)(j:∀b∈L,b=xb∨b∈R)(l:∀b∈R',b∈R∨w.heap.size≤b):kI w w' xb R R':=⟨h.size,fun b C P J=>h.block b C (fun I=>by rcases j b I with q|q;exact P q;exact J q),l⟩
theorem kI.push{w3 I:World}{xb k:Nat}{v l:Value}{p p4:Option Addr}{n n4 c c4:Nat}(T:v=.slice p n c)(U:l=.slice p4 n4 c4)(o:Obj)(hg:(w3.alloc o).grownBy I v.ownBlock)(P:l.ownBlock=v.ownBlock∨l.ownBlock=some (w3.alloc o).heap.size){R R':List Nat}(hR:∀b∈an v,b∈R)(J:∀b∈R',b∈R∨b∈an l):kI w3 (I.setCell ⟨xb,k,none⟩ l) xb R R':=by
 have hA:aw w3 I (an v):=by rw[T]at hg;have:=(ak (ai w3 o)).trans (aE hg);rw[List.nil_append]at this;rw[T];exact this
 refine kI.apart (hA.trans (aA I xb k l)) (fun b j=>?_) (fun b j=>?_);·
  rw[List.mem_append]at j;rcases j with j|j;·exact .inr (hR b j)
  ·simp at j;exact .inl j
 ·rcases J b j with q|q;·exact .inl q
  ·have C:=(bh U).2 q;rcases P with e|e;·rw[e]at C;exact .inl (hR b ((bh T).1 C))
   ·rw[e]at C;simp at C;exact .inr (by omega)
def Made(w w':World)(xb B base:Nat)(v:Value)(z:Int)(R:List Nat)(all:List Nd)(ns:List ByteArray)(fis:List Int)(e:Ending)(o:List Nd×List aB×List ar):Prop:=∃I j C l,e=.returned (.int .i64 ((all.length-o.1.length:Nat):Int))∧da w' xb B base v I j z C l all o.2.1 o.2.2 ns fis∧eJ w w' base xb∧kI w w' xb R (db I j C l)
def mK(f:Nat):Prop:=∀(st all r:List Nd)(pos:Nat)(w:World)(xb B base:Nat)(v sv ev:Value)(z:Int)(nv fv:Value)(sts:List aB)(eds:List ar)(ns:List ByteArray)(fis:List Int),ahead (aQ true) f st (all.drop pos)=some r→all.length≤40→pos<all.length→fis.length=ns.length→ns.length+f≤100→jy all pos=sts.length→eds.length+(all.length-pos)≤900→da w xb B base v sv ev z nv fv all sts eds ns fis→Calls Tryz.prog 85 #[.pointer (some ⟨xb,0,none⟩),.int .i64 (pos:Int)] w fun e w'=>Made w w' xb B base v z (db sv ev nv fv) all ns fis e (Go.Proofs.YtlbcnmcfljaijaaGreat.sv f ns fis (all.drop pos) (sts,eds))
theorem xG(all:List Nd)(j:Nat)(w:World)(xb B base:Nat)(v sv ev:Value)(z:Int)(nv fv:Value)(sts:List aB)(eds:List ar)(ns:List ByteArray)(fis:List Int)(R:all.length≤40)(C:j<all.length)(J:all[j].op=1)(h:da w xb B base v sv ev z nv fv all sts eds ns fis):Calls Tryz.prog 85 #[.pointer (some ⟨xb,0,none⟩),.int .i64 (j:Int)] w fun e w'=>Made w w' xb B base v z (db sv ev nv fv) all ns fis e (all.drop (j+1),sts,eds):=by have H:=aa h;have c0:=h.box.cell 0 _ rfl;have ad:=h.box.lt;obtain⟨ao,cap,rfl,ab,ac,T⟩:=h.sl;obtain⟨b,o,rfl,hb,I⟩:=T (by rintro rfl;simp at C);have l:=I.get j C;obtain⟨x1,P⟩:∃x,x=all[j]:=⟨_,rfl⟩;rw[←P]at l J;obtain⟨op,name,U,many,sort⟩:=x1;dsimp only at J;subst J;obtain⟨d0,d1,d2,d3,d4⟩:=l;dsimp only at d0 d1 d2 d3 d4;have HL:Hid (((all.length-(all.drop (j+1)).length:Nat):Int)=(j:Int)+1):=aa (by rw[List.length_drop];omega);clear h P I T;go_enter Tryz.func85,Tryz.ntmps85;go_wp2_with fail;go_ret;exact⟨sv,ev,nv,fv,aU HL.out,H.out.sA ((iO.cT (Below.refl _ _)).alloc _),(iO.cT (ai w _)).ap.jB H.out.sz (by simp),kI.sA (iO.cT (ai w _))⟩
theorem xF(all:List Nd)(l:Nat)(w:World)(xb B base:Nat)(v sv ev:Value)(z:Int)(nv fv:Value)(sts:List aB)(eds:List ar)(ns:List ByteArray)(fis:List Int)(a1:all.length≤40)(T:l<all.length)(ad:all[l].op=0)(a4:sts.length≤1000)(h:da w xb B base v sv ev z nv fv all sts eds ns fis):Calls Tryz.prog 85 #[.pointer (some ⟨xb,0,none⟩),.int .i64 (l:Int)] w fun e w'=>Made w w' xb B base v z (db sv ev nv fv) all ns fis e (all.drop (l+1),sts++[⟨0,ByteArray.empty⟩],eds):=by have H:=aa h;have c0:=h.box.cell 0 _ rfl;have c1:=h.box.cell 1 _ rfl;have cz:=h.box.fz;have a5:=h.box.lt;obtain⟨i0,hi,ax,ay,az⟩:=info_parts Tryz.jz;have HI:=aa (And.intro hi (And.intro ax (And.intro ay az)));obtain⟨ps,cs,rfl⟩:=aq h.st;obtain⟨ao,cap,rfl,a2,a3,hr⟩:=h.sl;obtain⟨b,o,rfl,hb,U⟩:=hr (by rintro rfl;simp at T);have P:=U.get l T;obtain⟨x1,av⟩:∃x,x=all[l]:=⟨_,rfl⟩;rw[←av]at P ad;obtain⟨op,name,ab,many,sort⟩:=x1;dsimp only at ad;subst ad;obtain⟨d0,d1,d2,d3,d4⟩:=P;dsimp only at d0 d1 d2 d3 d4;have HL:Hid (((all.length-(all.drop (l+1)).length:Nat):Int)=(l:Int)+1):=aa (by rw[List.length_drop];omega);have ac:Hid (∀ob:Obj,da (w.alloc ob) xb B base (.slice (some ⟨b,o,none⟩) all.length cap) (.slice ps sts.length cs) ev z nv fv all sts eds ns fis):=aa (fun ob=>H.out.sA ((iO.cT (Below.refl _ _)).alloc ob));clear h av U hr hi ax ay az;go_enter Tryz.func85,Tryz.ntmps85;go_wp2_with(at_builtin;refine wpList_append_own_at _ rfl (.tmp 28) (.tmp 30) 25 rfl base 75 i0 (.agg #[.int .i64 0,.string ByteArray.empty]) 2 24 Tryz.underlying25 HI.out.1 HI.out.2.1 HI.out.2.2.1 HI.out.2.2.2 rfl (by decide) (.slice ps sts.length cs) sts.length (sts.flatMap aB.cells) rfl ((ac.out _).st.below (ai _ _)) ⟨w.heap.size+1,0,none⟩ 1 1 (aB.cells ⟨0,ByteArray.empty⟩) rfl rfl (fun j u hj=>kr (w.alloc (.cells #[.int .i64 0,.string name,.string ab,.int .i64 many,.int .i64 sort] 108)) _ _ (w.heap.size+1) (by simp) j u hj) (aB.cells_one _) (by unfold maxLen;omega) (by omega) (by have:=H.out.sz;simp;omega) ?_;intro v4 w4 C I _ J;have ag:=aa (xJ (ac.out _) ⟨0,ByteArray.empty⟩ _ C I J);obtain⟨p4,c4,ah⟩:=aq C;have a0:=aa (kI.push (xb:=xb) (k:=1) rfl ah _ I J (R:=db (.slice ps sts.length cs) ev nv fv) (R':=db v4 ev nv fv) (fun b hb=>iQ.2 (.inl hb)) (fun b hb=>(iQ.1 hb).elim .inr (fun q=>.inl (iQ.2 (.inr q)))));have af:=aa ((ac.out (.cells #[.int .i64 0,.string name,.string ab,.int .i64 many,.int .i64 sort] 108)).box.keep ((ak (ai _ _)).trans (aE I)) (fun hm=>by rw[List.nil_append]at hm;have:=H.out.st.fresh.lo _ hm;have:=H.out.low;omega));have l1:=af.out.cell 1 _ rfl;have lz:=af.out.fz;subst ah;clear C I J);go_ret;exact⟨_,ev,nv,fv,aU HL.out,ag.out.1,((iO.cT (ai w _)).ap.jB H.out.sz (by simp)).trans ag.out.2,(kI.sA (iO.cT (ai w _))).trans a0.out⟩
end
theorem El{w3 R:World}{xb B base:Nat}{v sv ev T:Value}{z:Int}{nv fv:Value}{all:List Nd}{sts:List aB}{eds:List ar}{ns:List ByteArray}{fis:List Int}(h:da w3 xb B base v sv ev z nv fv all sts eds ns fis)(x:ByteArray)(o:Obj)(I:R.ownsRow base 9 1 T (ns.length+1) (j3 ns++[.string x]))(hg:(w3.alloc o).grownBy R nv.ownBlock)(P:T.ownBlock=nv.ownBlock∨T.ownBlock=some (w3.alloc o).heap.size):da (R.setCell ⟨xb,4,none⟩ T) xb B base v sv ev z T fv all sts eds (ns++[x]) fis∧eJ w3 (R.setCell ⟨xb,4,none⟩ T) base xb:=by
 obtain⟨p,cp,hp⟩:=aq h.nm;obtain⟨p4,c4,rfl⟩:=aq I;subst hp;have hA:aw w3 R (an (.slice p ns.length cp)):=by have:=(ak (ai w3 o)).trans (aE hg);rwa[List.nil_append]at this
 have lo:=(au h.nm).lo;have ac:=(au I).lo;have hl:=h.low;have hS:=aA R xb 4 (.slice p4 (ns.length+1) c4);have C:=hA.trans hS;have ab:∀b,(b∈an (.slice p ns.length cp)++[xb])→b=xb∨base≤b:=fun b j=>by
  rw[List.mem_append]at j;rcases j with j|j;·exact .inr (lo b j)
  ·simp at j;exact .inl j
 have hK:=C.jB h.sz ab;have off:∀{u:Value},(∀b∈an u,base≤b)→(∀b∈an u,b∉an (.slice p ns.length cp))→∀b∈an u,b∉an (.slice p ns.length cp)++[xb]:=fun hu hd b j J=>by
  rw[List.mem_append]at J;rcases J with J|J;·exact hd b j J
  ·have:=hu b j;simp at J;omega
 have up:∀{u:Value},(∀b∈an u,b<w3.heap.size)→∀b∈an u,b<(w3.alloc o).heap.size:=fun hu b j=>by have:=hu b j;simp;omega
 have l:∀{a u:Value},(∀b∈an a,b∉an u)→∀b∈an u,b∉an a:=fun hh b j J=>hh b J j;have U:(R.setCell ⟨xb,4,none⟩ (.slice p4 (ns.length+1) c4)).ownsRow base 9 1 (.slice p4 (ns.length+1) c4) (ns++[x]).length (j3 (ns++[x])):=by
  rw[List.length_append,List.length_singleton];have e:j3 (ns++[x])=j3 ns++[.string x]:=by simp[j3]
  rw[e];exact aJ I hS (fun b j J=>by have:=ac b j;simp at J;omega)
 refine⟨⟨(h.box.keep hA (fun j=>by have:=lo _ j;omega)).set 4 (by simp) _,hK.sl hl.1 hl.2 h.sl,h.st.keep C (off h.st.fresh.lo h.four.sn),h.ed.keep C (off h.ed.fresh.lo h.four.en),U,aJ h.fi C (off (au h.fi).lo (l h.four.nf)),⟨h.four.se,l (kR rfl rfl (l h.four.sn) P (up h.st.fresh.hi)),h.four.sf,l (kR rfl rfl (l h.four.en) P (up h.ed.fresh.hi)),h.four.ef,kR rfl rfl h.four.nf P (up (au h.fi).hi)⟩,hl,Nat.le_trans h.sz C.size⟩,hK⟩
theorem Ek{w3 R:World}{xb B base:Nat}{v sv ev T:Value}{z:Int}{nv fv:Value}{all:List Nd}{sts:List aB}{eds:List ar}{ns:List ByteArray}{fis:List Int}(h:da w3 xb B base v sv ev z nv fv all sts eds ns fis)(x:Int)(o:Obj)(I:R.ownsRow base 2 1 T (fis.length+1) (jU fis++[.int .i64 x]))(hg:(w3.alloc o).grownBy R fv.ownBlock)(P:T.ownBlock=fv.ownBlock∨T.ownBlock=some (w3.alloc o).heap.size):da (R.setCell ⟨xb,5,none⟩ T) xb B base v sv ev z nv T all sts eds ns (fis++[x])∧eJ w3 (R.setCell ⟨xb,5,none⟩ T) base xb:=by
 obtain⟨p,cp,hp⟩:=aq h.fi;obtain⟨p4,c4,rfl⟩:=aq I;subst hp;have hA:aw w3 R (an (.slice p fis.length cp)):=by have:=(ak (ai w3 o)).trans (aE hg);rwa[List.nil_append]at this
 have lo:=(au h.fi).lo;have ac:=(au I).lo;have hl:=h.low;have hS:=aA R xb 5 (.slice p4 (fis.length+1) c4);have C:=hA.trans hS;have ab:∀b,(b∈an (.slice p fis.length cp)++[xb])→b=xb∨base≤b:=fun b l=>by
  rw[List.mem_append]at l;rcases l with l|l;·exact .inr (lo b l)
  ·simp at l;exact .inl l
 have hK:=C.jB h.sz ab;have off:∀{u:Value},(∀b∈an u,base≤b)→(∀b∈an u,b∉an (.slice p fis.length cp))→∀b∈an u,b∉an (.slice p fis.length cp)++[xb]:=fun hu hd b l J=>by
  rw[List.mem_append]at J;rcases J with J|J;·exact hd b l J
  ·have:=hu b l;simp at J;omega
 have up:∀{u:Value},(∀b∈an u,b<w3.heap.size)→∀b∈an u,b<(w3.alloc o).heap.size:=fun hu b l=>by have:=hu b l;simp;omega
 have j:∀{a u:Value},(∀b∈an a,b∉an u)→∀b∈an u,b∉an a:=fun hh b l J=>hh b J l;have U:(R.setCell ⟨xb,5,none⟩ (.slice p4 (fis.length+1) c4)).ownsRow base 2 1 (.slice p4 (fis.length+1) c4) (fis++[x]).length (jU (fis++[x])):=by
  rw[List.length_append,List.length_singleton];have e:jU (fis++[x])=jU fis++[.int .i64 x]:=by simp[jU]
  rw[e];exact aJ I hS (fun b l J=>by have:=ac b l;simp at J;omega)
 refine⟨⟨(h.box.keep hA (fun l=>by have:=lo _ l;omega)).set 5 (by simp) _,hK.sl hl.1 hl.2 h.sl,h.st.keep C (off h.st.fresh.lo h.four.sf),h.ed.keep C (off h.ed.fresh.lo h.four.ef),aJ h.nm C (off (au h.nm).lo h.four.nf),U,⟨h.four.se,h.four.sn,j (kR rfl rfl (j h.four.sf) P (up h.st.fresh.hi)),h.four.en,j (kR rfl rfl (j h.four.ef) P (up h.ed.fresh.hi)),j (kR rfl rfl (j h.four.nf) P (up (au h.nm).hi))⟩,hl,Nat.le_trans h.sz C.size⟩,hK⟩
theorem zQ(ns:List ByteArray)(x:ByteArray):j3 (ns++[x])=j3 ns++[.string x]:=by simp[j3]
theorem ll(fis:List Int)(x:Int):jU (fis++[x])=jU fis++[.int .i64 x]:=by simp[jU]
theorem kx(fis:List Int):(jU fis).length=fis.length:=by simp[jU]
theorem CL(ns:List ByteArray):(j3 ns).length=ns.length:=by simp[j3]
theorem GD{w:World}{xb B base:Nat}{v sv ev:Value}{z:Int}{nv:Value}{g cap:Nat}{all:List Nd}{sts:List aB}{eds:List ar}{ns:List ByteArray}{fis:List Int}{y:Int}(h:da w xb B base v sv ev z nv (.slice (some ⟨g,0,none⟩) (fis.length+1) cap) all sts eds ns (fis++[y]))(x:Int):da (w.setCell ⟨g,fis.length,none⟩ (.int .i64 x)) xb B base v sv ev z nv (.slice (some ⟨g,0,none⟩) (fis.length+1) cap) all sts eds ns (fis++[x])∧eJ w (w.setCell ⟨g,fis.length,none⟩ (.int .i64 x)) base xb:=by
 have j:=h.fi;rw[List.length_append,List.length_singleton]at j;have J:=h.low;have T:=(au j).lo g (by simp[an,aG]);have l:=aA w g fis.length (.int .i64 x);have I:g∈an (.slice (some ⟨g,0,none⟩) (fis.length+1) cap):=by simp[an,aG]
 have P:=l.jB h.sz (xb:=xb) (fun b C=>by simp at C;subst C;exact .inr T);have off:∀{u:Value},(∀b∈an u,b∉an (.slice (some ⟨g,0,none⟩) (fis.length+1) cap))→∀b∈an u,b∉[g]:=fun hd b C R=>by simp at R;subst R;exact hd b C I
 refine⟨⟨h.box.keep l (by simp;omega),P.sl J.1 J.2 h.sl,h.st.keep l (off h.four.sf),h.ed.keep l (off h.four.ef),aJ h.nm l (off h.four.nf),?_,h.four,J,Nat.le_trans h.sz l.size⟩,P⟩;have:=(World.ownsRow.stored j fis.length (.int .i64 x)).1;rw[List.length_append,List.length_singleton,ll];rw[ll,List.set_append_right _ _ (by rw[kx];exact Nat.le_refl _),kx,Nat.sub_self]at this;exact this
theorem GC{w:World}{xb B base:Nat}{v sv ev:Value}{z:Int}{fv:Value}{g cap:Nat}{all:List Nd}{sts:List aB}{eds:List ar}{ns:List ByteArray}{fis:List Int}{y:ByteArray}(h:da w xb B base v sv ev z (.slice (some ⟨g,0,none⟩) (ns.length+1) cap) fv all sts eds (ns++[y]) fis):da (w.setCell ⟨xb,4,none⟩ (.slice (some ⟨g,0,none⟩) ns.length cap)) xb B base v sv ev z (.slice (some ⟨g,0,none⟩) ns.length cap) fv all sts eds ns fis∧eJ w (w.setCell ⟨xb,4,none⟩ (.slice (some ⟨g,0,none⟩) ns.length cap)) base xb:=by
 have l:=h.nm;rw[List.length_append,List.length_singleton,zQ]at l;have I:=h.low;have j:=aA w xb 4 (.slice (some ⟨g,0,none⟩) ns.length cap);have J:=j.jB h.sz (xb:=xb) (fun b C=>by simp at C;exact .inl C);have off:∀{u:Value},iB base w u→∀b∈an u,b∉[xb]:=fun hd b C R=>by simp at R;have:=hd.lo b C;omega
 have P:=ownsRow_pop (by rw[CL,Nat.mul_one]) l;exact⟨⟨h.box.set 4 (by simp) _,J.sl I.1 I.2 h.sl,h.st.keep j (off h.st.fresh),h.ed.keep j (off h.ed.fresh),aJ P j (off (au P)),aJ h.fi j (off (au h.fi)),⟨h.four.se,h.four.sn,h.four.sf,h.four.en,h.four.ef,h.four.nf⟩,I,Nat.le_trans h.sz j.size⟩,J⟩
theorem GB{w:World}{xb B base:Nat}{v sv ev:Value}{z:Int}{nv:Value}{g cap:Nat}{all:List Nd}{sts:List aB}{eds:List ar}{ns:List ByteArray}{fis:List Int}{y:Int}(h:da w xb B base v sv ev z nv (.slice (some ⟨g,0,none⟩) (fis.length+1) cap) all sts eds ns (fis++[y])):da (w.setCell ⟨xb,5,none⟩ (.slice (some ⟨g,0,none⟩) fis.length cap)) xb B base v sv ev z nv (.slice (some ⟨g,0,none⟩) fis.length cap) all sts eds ns fis∧eJ w (w.setCell ⟨xb,5,none⟩ (.slice (some ⟨g,0,none⟩) fis.length cap)) base xb:=by
 have l:=h.fi;rw[List.length_append,List.length_singleton,ll]at l;have I:=h.low;have j:=aA w xb 5 (.slice (some ⟨g,0,none⟩) fis.length cap);have J:=j.jB h.sz (xb:=xb) (fun b C=>by simp at C;exact .inl C);have off:∀{u:Value},iB base w u→∀b∈an u,b∉[xb]:=fun hd b C R=>by simp at R;have:=hd.lo b C;omega
 have P:=ownsRow_pop (by rw[kx,Nat.mul_one]) l;exact⟨⟨h.box.set 5 (by simp) _,J.sl I.1 I.2 h.sl,h.st.keep j (off h.st.fresh),h.ed.keep j (off h.ed.fresh),aJ h.nm j (off (au h.nm)),aJ P j (off (au P)),⟨h.four.se,h.four.sn,h.four.sf,h.four.en,h.four.ef,h.four.nf⟩,I,Nat.le_trans h.sz j.size⟩,J⟩
theorem da.KG{w:World}{xb B base:Nat}{v sv ev:Value}{z:Int}{nv fv:Value}{all:List Nd}{sts:List aB}{eds:List ar}{ns:List ByteArray}{fis:List Int}(h:da w xb B base v sv ev z nv fv all sts eds ns fis)(P:0<ns.length):∃g cap,nv=.slice (some ⟨g,0,none⟩) ns.length cap∧ns.length≤cap∧cap≤maxLen:=by
 rcases h.nm.2 with⟨_,J⟩|⟨g,cap,j,I,_,_,l,C,_⟩;·omega
 ·exact⟨g,cap,I,l,C⟩
theorem da.KF{w:World}{xb B base:Nat}{v sv ev:Value}{z:Int}{nv fv:Value}{all:List Nd}{sts:List aB}{eds:List ar}{ns:List ByteArray}{fis:List Int}(h:da w xb B base v sv ev z nv fv all sts eds ns fis)(T:0<fis.length):∃g cap,fv=.slice (some ⟨g,0,none⟩) fis.length cap∧fis.length≤cap∧cap≤maxLen∧g<w.heap.size∧base≤g:=by
 rcases h.fi.2 with⟨_,R⟩|⟨g,cap,l,P,I,j,C,J,_⟩;·omega
 ·exact⟨g,cap,P,C,J,(Array.getElem?_eq_some_iff.1 j).1,I⟩
theorem da.Jx{w:World}{xb B base:Nat}{v sv ev:Value}{z:Int}{nv fv:Value}{all:List Nd}{sts:List aB}{eds:List ar}{ns:List ByteArray}{fis:List Int}{y:ByteArray}(h:da w xb B base v sv ev z nv fv all sts eds (ns++[y]) fis):∃g cap,nv=.slice (some ⟨g,0,none⟩) (ns.length+1) cap∧ns.length+1≤cap∧cap≤maxLen:=by have:=h.KG (by simp);rwa[List.length_append,List.length_singleton]at this
theorem da.zG{w:World}{xb B base:Nat}{v sv ev:Value}{z:Int}{nv fv:Value}{all:List Nd}{sts:List aB}{eds:List ar}{ns:List ByteArray}{fis:List Int}{y:Int}(h:da w xb B base v sv ev z nv fv all sts eds ns (fis++[y])):∃g cap,fv=.slice (some ⟨g,0,none⟩) (fis.length+1) cap∧fis.length+1≤cap∧cap≤maxLen∧w.cell? ⟨g,fis.length,none⟩=some (.int .i64 y)∧∀j,w.frozen? ⟨g,j,none⟩=false:=by have H:=h.fi;obtain⟨g,cap,rfl,l,C,I,J⟩:=h.KF (by simp);rw[List.length_append,List.length_singleton]at*;refine⟨g,cap,rfl,l,C,bF H rfl _ _ ?_,fun j=>(au H).free g (by simp[an,aG]) j⟩;rw[ll,List.getElem?_append_right (by rw[kx];exact Nat.le_refl _),kx,Nat.sub_self];rfl
theorem Ko{w3 P:World}{xb:Nat}{sv ev fv l:Value}{p:Option Addr}{n c e size m:Nat}{base:Nat}{T:List Value}(j:P.ownsRow base e size l m T)(o:Obj)(R:(w3.alloc o).grownBy P (Value.slice p n c).ownBlock)(C:l.ownBlock=(Value.slice p n c).ownBlock∨l.ownBlock=some (w3.alloc o).heap.size):kI w3 (P.setCell ⟨xb,4,none⟩ l) xb (db sv ev (.slice p n c) fv) (db sv ev l fv):=by
 obtain⟨p4,U,J⟩:=aq j;refine kI.push rfl J o R C (fun b I=>iQ.2 (.inr (.inr (.inl I)))) (fun b I=>?_);rcases iQ.1 I with q|q|q|q;·exact .inl (iQ.2 (.inl q))
 ·exact .inl (iQ.2 (.inr (.inl q)))
 ·exact .inr q
 ·exact .inl (iQ.2 (.inr (.inr (.inr q))))
theorem Kn{w3 P:World}{xb:Nat}{sv ev nv l:Value}{p:Option Addr}{n c e size m:Nat}{base:Nat}{T:List Value}(j:P.ownsRow base e size l m T)(o:Obj)(R:(w3.alloc o).grownBy P (Value.slice p n c).ownBlock)(C:l.ownBlock=(Value.slice p n c).ownBlock∨l.ownBlock=some (w3.alloc o).heap.size):kI w3 (P.setCell ⟨xb,5,none⟩ l) xb (db sv ev nv (.slice p n c)) (db sv ev nv l):=by
 obtain⟨p4,U,J⟩:=aq j;refine kI.push rfl J o R C (fun b I=>iQ.2 (.inr (.inr (.inr I)))) (fun b I=>?_);rcases iQ.1 I with q|q|q|q;·exact .inl (iQ.2 (.inl q))
 ·exact .inl (iQ.2 (.inr (.inl q)))
 ·exact .inl (iQ.2 (.inr (.inr (.inl q))))
 ·exact .inr q
theorem Kp{w3 P:World}{xb:Nat}{ev nv fv l:Value}{p:Option Addr}{n c e size m:Nat}{base:Nat}{T:List Value}(j:P.ownsRow base e size l m T)(o:Obj)(R:(w3.alloc o).grownBy P (Value.slice p n c).ownBlock)(C:l.ownBlock=(Value.slice p n c).ownBlock∨l.ownBlock=some (w3.alloc o).heap.size):kI w3 (P.setCell ⟨xb,1,none⟩ l) xb (db (.slice p n c) ev nv fv) (db l ev nv fv):=by
 obtain⟨p4,U,J⟩:=aq j;refine kI.push rfl J o R C (fun b I=>iQ.2 (.inl I)) (fun b I=>?_);rcases iQ.1 I with q|q|q|q;·exact .inr q
 ·exact .inl (iQ.2 (.inr (.inl q)))
 ·exact .inl (iQ.2 (.inr (.inr (.inl q))))
 ·exact .inl (iQ.2 (.inr (.inr (.inr q))))
theorem B9{go:List Nd→Option (List Nd)}{m:Nat}{ls:List ByteArray}{l r:List Nd}(h:aS go (m+1) ls l=some r):∃c l' j,l=c::l'∧jL c=false∧go l'=some j∧aS go m (ls++[c.name]) j=some r:=by
 cases l with
  |nil=>cases h|cons c l'=>
   rw[aS]at h;split at h;·
    rename_i I;split at h;·cases h
    ·rename_i j C;refine⟨c,l',j,rfl,?_,C,h⟩;simp only[cI,Bool.and_eq_true,beq_iff_eq]at I;unfold jL;rw[I.1.1.1.1.1];rfl
   ·cases h
theorem kI.cell{w w':World}{xb:Nat}{R R':List Nat}(h:kI w w' xb R R'){b o:Nat}{x:Value}(j:w.cell? ⟨b,o,none⟩=some x)(C:b≠xb)(l:b∉R):w'.cell? ⟨b,o,none⟩=some x:=(World.cell?_of_block (a:=⟨b,o,none⟩) (h.block b (World.block_lt_of_cell? w _ j) C l)).trans j
theorem Ej{w3 T:World}{xb B base:Nat}{v sv ev l:Value}{z:Int}{nv fv:Value}{all:List Nd}{sts:List aB}{eds I:List ar}{ns:List ByteArray}{fis:List Int}(h:da w3 xb B base v sv ev z nv fv all sts eds ns fis)(ho:aO T w3.heap.size l I)(hc:T.cell? ⟨xb,2,none⟩=some l)(he:Iy w3 T xb):da T xb B base v sv l z nv fv all sts I ns fis∧eJ w3 T base xb∧kI w3 T xb (db sv ev nv fv) (db sv l nv fv):=by
 have hl:=h.low;have R:=he.ap;have hK:=R.jB h.sz (xb:=xb) (fun b C=>by simp at C;exact .inl C);have off:∀{u:Value},iB base w3 u→∀b∈an u,b∉[xb]:=fun hd b C U=>by simp at U;have:=hd.lo b C;omega
 have new:∀{u:Value},iB base w3 u→∀b∈an u,b∉an l:=fun hd b C U=>by have:=hd.hi b C;have:=ho.fresh.lo b U;omega
 have P:∀{u:Value},iB base w3 u→∀b∈an l,b∉an u:=fun hd b C U=>new hd b U C;refine⟨⟨⟨fun i x J=>?_,fun o=>he.fz o (h.box.fz o),Nat.lt_of_lt_of_le h.box.lt R.size⟩,hK.sl hl.1 hl.2 h.sl,h.st.keep R (off h.st.fresh),bo ho h.sz,aJ h.nm R (off (au h.nm)),aJ h.fi R (off (au h.fi)),⟨new h.st.fresh,h.four.sn,h.four.sf,P (au h.nm),P (au h.fi),h.four.nf⟩,hl,Nat.le_trans h.sz R.size⟩,hK,kI.apart R (fun b C=>by simp at C;exact .inl C) (fun b C=>?_)⟩;·
  by_cases hi:i=2;·subst hi;simp at J;subst J;exact hc
  ·refine he.LP i x hi (h.box.cell i x ?_);match i,hi with|0,_=>exact J|1,_=>exact J|3,_=>exact J|4,_=>exact J|5,_=>exact J|j+6,_=>simp at J
 ·rcases iQ.1 C with q|q|q|q;·exact .inl (iQ.2 (.inl q))
  ·exact .inr (ho.fresh.lo b q)
  ·exact .inl (iQ.2 (.inr (.inr (.inl q))))
  ·exact .inl (iQ.2 (.inr (.inr (.inr q))))
theorem EN{w:World}{xb B base:Nat}{v sv ev:Value}{z:Int}{nv fv:Value}{all:List Nd}{sts:List aB}{eds:List ar}{ns:List ByteArray}{fis:List Int}(h:da w xb B base v sv ev z nv fv all sts eds ns fis):∀b∈db sv ev nv fv,b<w.heap.size:=fun b j=>by
 rcases iQ.1 j with q|q|q|q;·exact h.st.fresh.hi b q
 ·exact h.ed.fresh.hi b q
 ·exact(au h.nm).hi b q
 ·exact(au h.fi).hi b q
structure Af(w0 wn w:World)(xb B base:Nat)(v:Value)(z:Int)(R:List Nat)(all:List Nd)(ns:List ByteArray)(fis:List Int)(go:List Nd→List aB×List ar→List Nd×List aB×List ar)(ka:List Nd→Option (List Nd))(s:Int)(r:List Nd)(fin:List Nd×List aB×List ar)(m pos:Nat)(sts:List aB)(eds:List ar)(sv ev nv fv:Value):Prop where
 ma:da w xb B base v sv ev z nv fv all sts eds ns fis
 ah:∃ls,aS ka m ls (all.drop pos)=some r
 le:pos≤all.length
 jx:jy all pos=sts.length
 ed:eds.length+(all.length-pos)≤900
 same:dK go (fun l k=>bq ns fis k l) s m (all.drop pos) (sts,eds)=fin
 kept:eJ w0 w base xb
 four:kI wn w xb R (db sv ev nv fv)
theorem Jv{w:World}{B b o n cap:Nat}{all:List Nd}(h:bR w B (.slice (some ⟨b,o,none⟩) n cap) all)(I:all≠[]):bO w b o all:=by obtain⟨U,T,P,-,-,J⟩:=h;obtain⟨b',o',C,-,l⟩:=J I;subst C;injection P with j _ _;injection j with j;injection j with j R;subst j;subst R;exact l
theorem uu{w w':World}{xb B base:Nat}{v sv ev:Value}{z:Int}{nv fv:Value}{all:List Nd}{sts:List aB}{eds:List ar}{ns:List ByteArray}{fis:List Int}(h:da w xb B base v sv ev z nv fv all sts eds ns fis)(j:Below w.heap.size w w'):da w' xb B base v sv ev z nv fv all sts eds ns fis:=h.sA (iO.cT j)
theorem zU{f:Nat}{st:List Nd}{w0 wn wr:World}{xb B base:Nat}{v:Value}{z:Int}{R:List Nat}{all:List Nd}{ns:List ByteArray}{fis:List Int}{s:Int}{r:List Nd}{a2:List Nd×List aB×List ar}{m j:Nat}{C:List aB}{I:List ar}{ab a1 U T:Value}(h:Af w0 wn wr xb B base v z R all ns fis (Go.Proofs.YtlbcnmcfljaijaaGreat.sv f ns fis) (ahead (aQ true) f st) s r a2 (m+1) j C I ab a1 U T)(hf:mK f)(a0:fis.length=ns.length)(a3:all.length≤40)(bm:ns.length+(f+1)≤100):∃(ad:j<all.length)(J:Int)(O:List Nd×List aB×List ar),(∀W,Below wr.heap.size wr W→Calls Tryz.prog 84 #[.pointer (some ⟨xb,0,none⟩),.int .i64 ((j:Int)+1)] W fun e w'=>e=.returned (.int .i64 J)∧Below W.heap.size W w')∧(∀W P,da W xb B base v ab P z U T all C (fA ⟨s,all[j].name,all[j].sort,J⟩ I) ns fis→Calls Tryz.prog 85 #[.pointer (some ⟨xb,0,none⟩),.int .i64 ((j:Int)+1)] W fun e w'=>Made W w' xb B base v z (db ab P U T) all ns fis e O)∧(∀W W' P ax af av ag,eJ wr W base xb→kI wr W xb (db ab a1 U T) (db ab P U T)→da W' xb B base v ax af z av ag all O.2.1 O.2.2 ns fis→eJ W W' base xb→kI W W' xb (db ab P U T) (db ax af av ag)→Af w0 wn W' xb B base v z R all ns fis (Go.Proofs.YtlbcnmcfljaijaaGreat.sv f ns fis) (ahead (aQ true) f st) s r a2 m (all.length-O.1.length) O.2.1 O.2.2 ax af av ag)∧I.length≤900:=by
 obtain⟨ls,bb⟩:=h.ah;obtain⟨c,l',r1,ao,bf,ac,ba⟩:=B9 bb;have ad:j<all.length:=by
  rcases Nat.lt_or_ge j all.length with h1|h1;·exact h1
  ·rw[List.drop_eq_nil_of_le h1]at ao;cases ao
 rw[List.drop_eq_getElem_cons ad]at ao;injection ao with e1 e2;subst e2;subst e1;have ay:jy all (j+1)=C.length:=by rw[kj ad,bf,←h.jx];rfl
 have a5:¬(∀n∈all.drop (j+1),n.op=2):=jN _ _ _ _ ac;have a4:j+1<all.length:=by
  rcases Nat.lt_or_ge (j+1) all.length with h1|h1;·exact h1
  ·rw[List.drop_eq_nil_of_le h1]at ac;cases f<;>cases ac
 obtain⟨J,az⟩:∃x,bq ns fis C.length (all.drop (j+1))=x:=⟨_,rfl⟩;have bk:=h.ed;have hg:=KI f st (all.drop (j+1)) r1 ns fis (C,fA ⟨s,all[j].name,all[j].sort,J⟩ I) ac;obtain⟨O,hO⟩:∃O,Go.Proofs.YtlbcnmcfljaijaaGreat.sv f ns fis (all.drop (j+1)) (C,fA ⟨s,all[j].name,all[j].sort,J⟩ I)=O:=⟨_,rfl⟩;rw[hO]at hg;refine⟨ad,J,O,fun W hb=>?_,fun W P hW=>?_,fun W W' P ax af av ag a8 bg be a9 bi=>?_,by omega⟩;·have:=mf all ns fis a0 (by omega) (by omega) _ (j+1) xb W.heap.size W rfl a5 (uu h.ma hb).DC (Nat.le_refl _);rw[ay,az]at this;rw[show(j:Int)+1=((j+1:Nat):Int)by omega];exact this
 ·have:=hf st all r1 (j+1) W xb B base v ab P z U T C _ ns fis ac a3 a4 a0 (by omega) ay (by rw[sK];omega) hW;rw[hO]at this;rw[show(j:Int)+1=((j+1:Nat):Int)by omega];exact this
 ·have hl:=Gq (dn _ _ _ _ _ ac);obtain rfl:O.1=r1:=hg.rest;have h1:=hg.sts;have h2:=hg.eds;have h3:=uf all (j+1);have h4:=uf all (all.length-O.1.length);rw[←hl.1]at h4;rw[List.length_drop,sK]at h2;dsimp only at h1;refine⟨be,⟨_,by rw[←hl.1];exact ba⟩,by omega,by omega,by omega,?_,(h.kept.trans a8).trans a9,(h.four.trans bg).trans bi⟩;rw[←hl.1,←h.same,List.drop_eq_getElem_cons ad];have e:dK (Go.Proofs.YtlbcnmcfljaijaaGreat.sv f ns fis) (fun l k=>bq ns fis k l) s (m+1) (all[j]::all.drop (j+1)) (C,I)=dK (Go.Proofs.YtlbcnmcfljaijaaGreat.sv f ns fis) (fun l k=>bq ns fis k l) s m (Go.Proofs.YtlbcnmcfljaijaaGreat.sv f ns fis (all.drop (j+1)) (C,fA ⟨s,all[j].name,all[j].sort,bq ns fis C.length (all.drop (j+1))⟩ I)).1 (Go.Proofs.YtlbcnmcfljaijaaGreat.sv f ns fis (all.drop (j+1)) (C,fA ⟨s,all[j].name,all[j].sort,bq ns fis C.length (all.drop (j+1))⟩ I)).2:=rfl;rw[e,az,hO]
end Go.Proofs.YtlbcnmcfljaijaaGreat
