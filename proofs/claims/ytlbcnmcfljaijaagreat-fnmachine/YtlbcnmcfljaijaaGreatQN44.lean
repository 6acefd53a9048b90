import Derived.Test.YtlbcnmcfljaijaaGreatQN40
import Derived.Test.YtlbcnmcfljaijaaGreatQN30
import Derived.Test.YtlbcnmcfljaijaaGreatQN32
import Derived.BigQuiet
import Derived.Test.YtlbcnmcfljaijaaGreatQN00
import Derived.Test.YtlbcnmcfljaijaaGreatQN12
import Derived.Test.YtlbcnmcfljaijaaGreatQN39
import Derived.Test.YtlbcnmcfljaijaaGreatQN42
import Derived.Test.YtlbcnmcfljaijaaGreatQN20
import Derived.Test.YtlbcnmcfljaijaaGreatQN28
namespace Go.Proofs.YtlbcnmcfljaijaaGreat
open Go.RowKit
set_option linter.unusedSimpArgs false
set_option linter.unusedVariables false
set_option maxHeartbeats 8000000
set_option maxRecDepth 100000
theorem Ht{j:Bool}{ns:List Nd}(h:cL j ns=true):(bH 10 ns).1.toList≠[]:=by
 intro e;have C:=ly h;rw[e]at C;have J:ew j 11 ⟨[],[],false⟩=⟨[],[⟨1,ba [],bt,0,0⟩],false⟩:=by rw[ew];cases j<;>simp[tU,kD,nO,gY]
 rw[J]at C;have P:[(⟨1,ba [],bt,0,0⟩:Nd)]=ns:=congrArg Ss.l C;rw[←P]at h;simp only[cL,Bool.and_eq_true]at h;have I:=h.2.1;rw[ahead]at I;simp[dH]at I
theorem G2{j:Bool}{t:ByteArray}{a:Nat}{l:List Nd}{b:Bool}(h:ew j 11 (iT t 0 [] false)=iT t a l b)(ns:List Nd)(C:eC j t ns):l=ns∧b=false∧t.toList≠[]∧kH j l=t:=by
 have I:=ly C.1;have e:(⟨(bH 10 ns).1.toList,[],false⟩:Ss)=iT t 0 [] false:=by rw[C.2];rfl
 rw[e,h]at I;have J:l=ns:=congrArg Ss.l I;have P:b=false:=congrArg Ss.bad I;refine⟨J,P,?_,?_⟩;·rw[←C.2];exact Ht C.1
 ·rw[J,kH,C.1];exact C.2
theorem Fz{j:Bool}{t:ByteArray}{l:List Nd}(h:kH j l=t)(C:t.toList≠[]):eC j t l:=by
 unfold kH at h;split at h;·rename_i I;exact⟨I,h⟩
 ·exfalso;rw[←h]at C;exact C (by rw[Go.ByteArray.toList_eq];rfl)
def LL(j:Bool)(t:ByteArray)(w w':World)(e:Ending):Prop:=∃p n c l q,e=.returned (.tuple #[.slice p n c,.bool q])∧Below w.heap.size w w'∧((q=true∧bV w' w.heap.size (.slice p n c) l∧eC j t l)∨(q=false∧∀ns,¬eC j t ns))
def CW(t:ByteArray)(j:Bool):Obj:=.cells #[.string t,.int .i64 0,.slice none 0 0,.bool j,.bool false] 198
theorem Jy(w:World)(t:ByteArray)(j:Bool):cB (w.alloc (CW t j)) w.heap.size (w.heap.size+1) t j 0 (.slice none 0 0) [] false:=⟨bA.new w [.string t,.int .i64 0,.slice none 0 0,.bool j,.bool false] 198,World.ownsRow_nil _ _ _ _,Nat.zero_le _,by omega,by simp⟩
theorem Ju{w W w':World}(j:Below w.heap.size w W)(h:fQ W w' (w.heap.size+1) w.heap.size):Below w.heap.size w w':=⟨h.os.trans j.os,h.tape.trans j.tape,h.output.trans j.output,Nat.le_trans j.size h.size,fun b l=>(h.block b (by omega) (by omega)).trans (j.block b l)⟩
theorem Jr(j:Bool)(t:ByteArray)(w:World)(ht:t.size≤8000):Calls Tryz.prog 132 #[.string t,.bool j] w fun e w'=>LL j t w w' e:=by
 have HO:=aa (Jz j t ht 11 w.heap.size (w.heap.size+1) 0 1 (.slice none 0 0) [] false (w.alloc (CW t j)) rfl (by simp) (Jy w t j));have P:=aa (Cm j ht);obtain⟨S,hS⟩:∃x,ew j 11 (iT t 0 [] false)=x:=⟨_,rfl⟩;rw[hS]at HO P;have ah:=aa hS;clear hS;go_enter Tryz.func132,Tryz.ntmps132;go_wp2_with(first|(go_at_call 157;refine HO.out.mono ?_;rintro e w2⟨rfl,a9,av,C,b9,rfl,I,ad⟩;obtain⟨p9,c9,rfl⟩:=aq I.row;have U:=aa I;have l:=aa (Ju (ai _ _) ad);have d2:=I.box.cell 2 _ rfl;have d4:=I.box.cell 4 _ rfl;clear I ad));have J:Hid (∀ns,eC j t ns→C=ns∧b9=false∧t.toList≠[]∧kH j C=t):=aa (G2 ah.out);cases b9;·
  cases R:(t.toList==[]);·
   have HW:Hid (∀W,Below w2.heap.size w2 W→Calls Tryz.prog 158 #[.slice p9 C.length c9,.bool j] W fun e w'=>e=.returned (.string (kH j C))∧Below W.heap.size W w'):=aa (fun W hb=>Hb j C _ W (P.out.f rfl) (o8 (U.out.row.below hb) (by have:C.length≤42:=P.out.n;omega)));have ab:Hid (kH j C=t→eC j t C):=aa (fun h=>Fz h (by intro e;rw[e]at R;simp at R));obtain⟨TV,ac⟩:∃x,kH j C=x:=⟨_,rfl⟩;rw[ac]at HW ab J;clear ac;refine aK (by kernel_rfl) (by kernel_rfl) (fun W hW=>?_);subst hW;have ao:=aH W;have f2:=ae d2;have f4:=ae d4;repeat(go_big_quiet_step((go_at_call 158;exact aD (HW.out _ (Grown.dN _)))))
   refine wpQuiet_nil ?_;intro w3 af;have T:=aa af;clear af ao f2 f4;have ag:=aa (U.out.keep (ak T.out));go_wp2_with fail;go_ret2;refine⟨p9,C.length,c9,C,_,rfl,l.out.trans (T.out.mono l.out.size),?_⟩;cases hq:(TV.toList==t.toList);·exact .inr ⟨rfl,fun ns hn=>by have:=(J.out ns hn).2.2.2;rw[this]at hq;simp at hq⟩
   ·exact .inl ⟨rfl,bo ag.out.row (by omega),ab.out (iw (eq_of_beq hq))⟩
  ·go_quiet(fail);go_wp2_with fail;go_ret2;refine⟨p9,C.length,c9,C,_,rfl,⟨l.out.os,l.out.tape,l.out.output,l.out.size,l.out.block⟩,.inr ⟨rfl,fun ns hn=>?_⟩⟩;have:=(J.out ns hn).2.2.1;rw[eq_of_beq R]at this;exact this rfl
 ·go_quiet(fail);go_wp2_with fail;go_ret2;refine⟨p9,C.length,c9,C,_,rfl,⟨l.out.os,l.out.tape,l.out.output,l.out.size,l.out.block⟩,.inr ⟨rfl,fun ns hn=>?_⟩⟩;have:=(J.out ns hn).2.1;cases this
theorem Ja{j:Bool}{s:ByteArray}{l ns:List Nd}(h:eC j s l)(J:eC j s ns):l=ns:=by have C:=ly h.1;have I:=ly J.1;rw[h.2]at C;rw[J.2,C]at I;exact congrArg Ss.l I
theorem zC(s:ByteArray)(w:World)(J:s.size≤maxLen):Calls Tryz.prog 95 #[.string s] w fun e w'=>JY false s w w' e:=by
 unfold maxLen at J;by_cases hs:8000<s.size;·go_enter Tryz.func95,Tryz.ntmps95;go_wp2_with fail;refine bodyPost_ret (v:=.agg #[.slice none 0 0,.int .i64 2]) (by simp[results,Tryz.results95,go_sem]) rfl ?_;exact⟨_,[],2,rfl,World.ownsRow_nil _ _ _ _,ai _ _,⟨fun _=>⟨rfl,rfl⟩,fun h=>by omega,fun h=>by omega⟩⟩
 ·have HR:=aa (Jr false s (w.alloc Kv) (by omega));have HO:Hid (bA (w.alloc Kv) w.heap.size [.slice none 0 0,.int .i64 0]):=aa (bA.new w [.slice none 0 0,.int .i64 0] 136);go_enter Tryz.func95,Tryz.ntmps95;go_wp2_with(first|(go_at_call 132;refine HR.out.mono ?_;rintro e w2⟨a2,n2,c2,L,q2,rfl,I,j⟩;have l:=aa I;have C:=aa (HO.out.keep (ak I) (by simp));have T:=C.out.cell 0 _ rfl;have U:=C.out.cell 1 _ rfl;have bz:=C.out.fz;clear I;rcases j with⟨rfl,j⟩|⟨rfl,j⟩));·refine bodyPost_ret (v:=.agg #[.slice a2 n2 c2,.int .i64 0]) (by simp[results,Tryz.results95,go_sem,T,U]) rfl ?_;have hb:=l.out.size;have ha:=LN w2 w.heap.size (.slice a2 n2 c2) (.int .i64 0);refine⟨_,L,0,rfl,?_,KE ((ai _ _).trans (l.out.mono (by simp))) _ _,⟨fun h=>by omega,fun _ ns P=>⟨Ja j.2 P,rfl⟩,fun _ R=>absurd j.2 (R L)⟩⟩;refine aJ (bo j.1 (by simp)) ha (fun b hb J=>?_);have:=(au j.1).lo b hb;simp at this J;omega
  ·refine bodyPost_ret (v:=.agg #[.slice none 0 0,.int .i64 3]) (by simp[results,Tryz.results95,go_sem,T,U]) rfl ?_;exact⟨_,[],3,rfl,World.ownsRow_nil _ _ _ _,KE ((ai _ _).trans (l.out.mono (by simp))) _ _,⟨fun h=>by omega,fun _ ns P=>absurd P (j ns),fun _ _=>⟨rfl,rfl⟩⟩⟩
section
attribute [local go_sem ↓] Go.wp_at_zero Go.wp_at_succ
def Lo(l:List Nd):Bool:=l.all fun n=>Et n.name&&Et n.peer
theorem ln{l:List Nd}(h:Lo l=true):∀n∈l,nj n:=fun n j=>by have:=List.all_eq_true.1 h n j;rw[Bool.and_eq_true]at this;exact sg this.1 this.2
theorem Au{x:ByteArray}(h:x∈tN):x.size≤8000∧∃ns,eC false x ns∧ns.length≤14∧∀n∈ns,nj n:=by
 simp only[tN,List.mem_cons,List.not_mem_nil,or_false]at h;rcases h with rfl|rfl|rfl|rfl|rfl|rfl|rfl|rfl|rfl;·exact⟨by decide,J6,IQ,by decide,ln (by decide)⟩
 ·exact⟨by decide,J7,IU,by decide,ln (by decide)⟩
 ·exact⟨by decide,J8,IV,by decide,ln (by decide)⟩
 ·exact⟨by decide,J9,IW,by decide,ln (by decide)⟩
 ·exact⟨by decide,Ka,IX,by decide,ln (by decide)⟩
 ·exact⟨by decide,Kb,IY,by decide,ln (by decide)⟩
 ·exact⟨by decide,Kc,IZ,by decide,ln (by decide)⟩
 ·exact⟨by decide,Kd,I0,by decide,ln (by decide)⟩
 ·exact⟨by decide,Ke,I1,by decide,ln (by decide)⟩
theorem xa(u:Value)(n:Nd)(i:Nat)(hi:i<5):∀(l:List Nd)(k:Nat)(j:k<l.length),n.cells=(l[k]).cells.set i u→(l.set k n).flatMap Nd.cells=(l.flatMap Nd.cells).set (k*5+i) u|a::l,0,_,h=>by simp only[List.getElem_cons_zero]at h;simp only[List.set_cons_zero,List.flatMap_cons,Nat.zero_mul,Nat.zero_add];rw[List.set_append_left _ _ (by rw[Nd.aR];exact hi),h]|a::l,k+1,j,h=>by simp only[List.getElem_cons_succ]at h;simp only[List.set_cons_succ,List.flatMap_cons];rw[List.set_append_right _ _ (by rw[Nd.aR];omega),xa u n i hi l k (by simpa using j) h,Nd.aR];congr 2;omega
theorem Gy{l:List Nd}(h:∀n∈l,nj n)(k:Nat){n:Nd}(C:nj n):∀m∈l.set k n,nj m:=fun m j=>by
 rcases List.mem_or_eq_of_mem_set j with j|rfl;·exact h m j
 ·exact C
theorem fU.lo{w wr:World}{C:Nat}{j:Option Addr}{len cap g n c:Nat}{l:List Nd}(h:fU w wr C j len cap (.slice (some ⟨g,0,none⟩) n c) l):w.heap.size≤g:=(au h.own).lo g (by simp[an,aG])
theorem fU.KX{w wr:World}{P:Nat}{I:Option Addr}{len cap g c:Nat}{l:List Nd}(h:fU w wr P I len cap (.slice (some ⟨g,0,none⟩) l.length c) l):l.length≤c:=by
 rcases h.own.2 with⟨j,_⟩|⟨T,C,J,j,U,h2,h3,_⟩;·simp at j
 ·injection j with e1 _ R;omega
theorem fU.put{w wr:World}{I:Nat}{J:Option Addr}{len cap g c:Nat}{l:List Nd}(h:fU w wr I J len cap (.slice (some ⟨g,0,none⟩) l.length c) l)(ab:I<w.heap.size)(k i j:Nat)(R:k<l.length)(hi:i<5)(P:j=k*5+i)(n:Nd)(u:Value)(U:n.cells=(l[k]).cells.set i u)(hd:nj n):fU w (wr.setCell ⟨g,j,none⟩ u) I J len cap (.slice (some ⟨g,0,none⟩) l.length c) (l.set k n):=by subst P;have T:=h.lo;refine⟨?_,Gy h.ok k hd,h.src.apart (aA wr g (k*5+i) u) (fun b C=>by simp at C;omega),h.ap.new (aA wr g (k*5+i) u) (fun b C=>by simp at C;omega)⟩;unfold bV;rw[List.length_set,xa u n i hi l k R U];exact(World.ownsRow.stored h.own _ u).1
theorem fU.cut{w wr:World}{U:Nat}{P:Option Addr}{len cap g c:Nat}{l:List Nd}(h:fU w wr U P len cap (.slice (some ⟨g,0,none⟩) l.length c) l)(k:Nat)(T:k≤l.length):fU w wr U P len cap (.slice (some ⟨g,0,none⟩) k c) (l.take k):=by
 refine⟨?_,fun n hn=>h.ok n (List.mem_of_mem_take hn),h.src,h.ap⟩;have j:(l.take k).length=k:=by rw[List.length_take];omega
 have J:∀l:List Nd,(l.flatMap Nd.cells).length=l.length*5:=fun l=>by induction l with|nil=>rfl|cons a l ih=>rw[List.flatMap_cons,List.length_append,ih,Nd.aR,List.length_cons];omega
 have ht:(l.flatMap Nd.cells).take (k*5)=(l.take k).flatMap Nd.cells:=by
  conv=>lhs;rw[←List.take_append_drop k l,List.flatMap_append]
  rw[List.take_append_of_le_length (by rw[J,j];exact Nat.le_refl _),List.take_of_length_le (by rw[J,j];exact Nat.le_refl _)]
 unfold bV;rw[j];refine⟨by rw[J,j],?_⟩;rcases h.own.2 with⟨I,_⟩|⟨g',R,C,I,h1,h2,h3,h4,h5,h6⟩;·simp at I
 ·injection I with e1 _ e3;injection e1 with e1;injection e1 with e1;subst e1 e3;refine .inr ⟨g,c,C,rfl,h1,h2,Nat.le_trans T h3,h4,h5,?_⟩;rw[←ht,←h6,List.take_take,Nat.min_eq_left (Nat.mul_le_mul_right 5 T)]
theorem fU.up{w J P:World}{j:Nat}{C:Option Addr}{len cap:Nat}{v:Value}{l:List Nd}(h:fU J P j C len cap v l)(I:aw w J [j]):fU w P j C len cap v l:=⟨bo h.own I.size,h.ok,h.src,(I.trans h.ap).sub (by simp)⟩
theorem fU.cells{w wr:World}{P:Nat}{I:Option Addr}{len cap g c:Nat}{l:List Nd}(h:fU w wr P I len cap (.slice (some ⟨g,0,none⟩) l.length c) l)(k:Nat)(J:k<l.length):(wr.cell? ⟨g,k*5,none⟩=some (.int .i64 l[k].op)∧wr.cell? ⟨g,k*5+1,none⟩=some (.string l[k].name)∧wr.cell? ⟨g,k*5+3,none⟩=some (.int .i64 l[k].many)∧wr.cell? ⟨g,k*5+4,none⟩=some (.int .i64 l[k].sort))∧∀j,wr.frozen? ⟨g,j,none⟩=false:=by have C:∀i(hi:i<5)(u:Value),l[k].cells[i]?=some u→wr.cell? ⟨g,k*5+i,none⟩=some u:=fun i hi u hu=>bF h.own rfl _ _ ((eE Nd.cells 5 Nd.aR l k J i hi).trans hu);exact⟨⟨C 0 (by omega) _ rfl,C 1 (by omega) _ rfl,C 3 (by omega) _ rfl,C 4 (by omega) _ rfl⟩,fun j=>(au h.own).free g (by simp[an,aG]) j⟩
theorem Gx{w j w3:World}{I:Nat}{J:Option Addr}{len cap:Nat}{v:Value}{ns:List Nd}{C:Int}{x:ByteArray}(P:aw w j [I])(hs:eI j I J len cap)(hx:x∈tN)(how:bV w3 j.heap.size v ns)(R:Below j.heap.size j w3)(hr:Ic false x ns C):fU w w3 I J len cap v ns∧ns.length≤14:=by obtain⟨h8,l,T,U,h3⟩:=Au hx;obtain⟨rfl,-⟩:=hr.Lk h8 l T;exact⟨⟨bo how P.size,h3,hs.apart (ak R) (by simp),P.then R⟩,U⟩
def JU(w w':World)(e:Ending)(C:Nat)(j:Option Addr)(len cap:Nat):Prop:=∃v l,e=.returned v∧l.length≤14∧fU w w' C j len cap v l
def GR:List ByteArray:=[⟨#[]⟩,⟨#[97]⟩,⟨#[120]⟩,⟨#[101,110,100]⟩,⟨#[108]⟩]
def Ls:Obj:=.cells #[.string ⟨#[]⟩,.string ⟨#[97]⟩,.string ⟨#[120]⟩,.string ⟨#[101,110,100]⟩,.string ⟨#[108]⟩] 9
theorem Kz(W:World):bB (W.alloc Ls) (.slice (some ⟨W.heap.size,0,none⟩) 5 5) GR:=bS (ls:=GR) (World.ownsRow_lit (e:=9) (size:=1) (base:=W.heap.size) W (GR.map Value.string).toArray 5 (Nat.le_refl _) (by simp[maxLen]) rfl) (by simp[GR])
theorem KA{x:ByteArray}(h:x∈GR):Et x=true:=by simp only[GR,List.mem_cons,List.not_mem_nil,or_false]at h;rcases h with rfl|rfl|rfl|rfl|rfl<;>decide
theorem yY(p:Option Addr)(n c:Nat)(C:Int)(W:World):Sem.run Tryz.prog (Instr.field 136 (.agg #[.slice p n c,.int .i64 C]) 0) W=.ok (.slice p n c) W:=by kernel_rfl
theorem x7(T:Nat)(ao:Option Addr)(len cap:Nat)(w:World)(hl:len≤1048576)(h:eI w T ao len cap):Calls Tryz.prog 64 #[.pointer (some ⟨T,0,none⟩)] w fun e w'=>JU w w' e T ao len cap:=by
 have P:=h.lt;have HH:=aa h;have HO:Hid (∀(m:Int)w1,1<m→m≤100→eI w1 T ao len cap→Calls Tryz.prog 66 #[.pointer (some ⟨T,0,none⟩),.int .i64 m] w1 fun e w'=>∃b:Bool,e=.returned (.bool b)∧eI w' T ao len cap∧w1.grownBy w' (some T)):=aa (fun m w1 h1 h2 j=>qL T ao len cap m w1 h1 (by omega) hl j);have HN:Hid (∀(m:Int)w1,1≤m→m≤100→eI w1 T ao len cap→Calls Tryz.prog 33 #[.pointer (some ⟨T,0,none⟩),.int .i64 m] w1 fun e w'=>∃r:Int,e=.returned (.int .i64 r)∧0≤r∧r<m∧eI w' T ao len cap∧w1.grownBy w' (some T)):=aa (fun m w1 h1 h2 j=>qM T ao len cap m w1 h1 (by omega) hl j);have HT:=aa (zA w);clear h;go_enter Tryz.func64,Tryz.ntmps64;go_upto_if 11 with(first|(go_at_call 96;refine HT.out.mono ?_;rintro e w1⟨v1,rfl,how,hb⟩;obtain⟨p1,c1,rfl⟩:=aq how;have av:=aa how;have az:=aa hb;have a0:=aa (HH.out.apart (ak hb) (by simp));clear how hb HH HT)|(go_at_call 67;refine(iJ T ao len cap tN _ w1 hl (by simp[tN]) (by simp[tN]) (bS (ls:=tN) av.out (by simp[tN])) (fun hm=>by have:=(au av.out).lo _ hm;omega) a0.out).mono ?_;rintro e w2⟨x,hx,rfl,j,J⟩;have HX:=aa hx;have a1:=aa j;have ay:=aa (((ak az.out).trans (aw.grown J)).sub (l':=[T]) (by simp));clear hx j J av az a0)|(go_at_call 95;refine(zC x w2 (Nat.le_trans (Au HX.out).1 (by unfold maxLen;omega))).mono ?_;rintro e w3⟨v3,ns,C,rfl,ad,a3,a4⟩;have af:=aa (Gx ay.out a1.out HX.out ad a3 a4);obtain⟨p3,c3,rfl⟩:=aq ad;have bn:=yY p3 ns.length c3 C;clear ad a3 a4 HX a1 ay)|(go_at_call 66;refine(HO.out 3 _ (by omega) (by omega) af.out.1.src).mono ?_;rintro e w4⟨b4,rfl,j,J⟩;have ag:=aa (af.out.1.drawn P j J);clear j J));go_cut[3](fun lv wx=>∃l:List Nd,l.length≤14∧fU w wx T ao len cap lv l);case first=>
  cases b4;·go_wp2_with fail;go_meet;exact⟨ns,af.out.2,ag.out⟩
  ·go_wp2_with(go_at_call 97;refine(Ec T ao len cap w4 hl ag.out.src).mono ?_;rintro e w5⟨v5,l5,rfl,br,ax⟩;have a8:=aa (ax.up ag.out.ap);obtain⟨p5,c5,rfl⟩:=aq ax.own;clear ax);go_meet;exact⟨l5,by omega,a8.out⟩
 case rest=>
  obtain⟨l,U,ab⟩:=hcut;clear af ag;have HM:=aa ab;by_cases bb:l.length=0;·obtain rfl:l=[]:=List.length_eq_zero_iff.1 bb;obtain⟨p,c,rfl⟩:=aq ab.own;clear ab;go_wp2_with(first|(go_at_call 66;refine(HO.out 12 _ (by omega) (by omega) HM.out.src).mono ?_;rintro e w6⟨b6,rfl,j,J⟩;have ac:=aa (HM.out.drawn P j J);clear j J;cases b6));all_goals go_ret;exact⟨_,_,rfl,by simp,ac.out⟩
  ·obtain⟨g,c,rfl,-⟩:=ab.own.at_ (by omega);have bs:=ab.KX;clear ab;go_wp2_with(first|(go_at_call 66;refine(HO.out 12 _ (by omega) (by omega) HM.out.src).mono ?_;rintro e w6⟨b6,rfl,j,J⟩;have ac:=aa (HM.out.drawn P j J);clear j J;cases b6)|(go_at_call 33;(fail_if_success(have:=ah));refine(HN.out (l.length:Int) _ (by omega) (by omega) ac.out.src).mono ?_;rintro e w7⟨r7,rfl,ba,bf,j,J⟩;have ah:=aa (ac.out.drawn P j J);obtain⟨k,rfl⟩:∃k:Nat,r7=(k:Int):=⟨r7.toNat,by omega⟩;have hk:k<l.length:=(by omega);have bp:k≤c:=(by omega);clear j J ba)|(go_at_call 33;have be:=ah;(fail_if_success(have:=R));refine(HN.out 5 _ (by omega) (by omega) ah.out.src).mono ?_;rintro e w8⟨r8,rfl,bg,bi,j,J⟩;have R:=aa (ah.out.drawn P j J);clear j J;obtain rfl|rfl|rfl|rfl|rfl:r8=0∨r8=1∨r8=2∨r8=3∨r8=4:=(by omega))|(go_at_call 33;have a9:=R;refine Calls.mono (HN.out _ _ (by omega) (by omega) R.out.src) ?_;rintro e w9⟨r9,rfl,bk,bm,j,J⟩;have I:=aa (R.out.drawn P j J);obtain⟨⟨d0,d1,d3,d4⟩,df⟩:=I.out.cells k hk;clear j J)|(go_at_call 67;have a9:=R;refine(iJ T ao len cap GR (.slice (some ⟨w8.heap.size,0,none⟩) 5 5) (w8.alloc Ls) hl (by simp[GR]) (by simp[GR]) (Kz w8) (by have:=R.out.ap.size;simp[an,aG];omega) (R.out.below (ai _ _)).src).mono ?_;rintro e w9⟨xp,a5,rfl,j,J⟩;have I:=aa ((R.out.below (ai _ Ls)).drawn P j J);have a2:=aa (KA a5);obtain⟨⟨d0,d1,d3,d4⟩,df⟩:=I.out.cells k hk;clear j J a5));·go_ret;exact⟨_,_,rfl,U,ac.out⟩
   ·go_ret;have hd:=I.out.ok _ (List.getElem_mem hk);exact⟨_,l.set k {l[k]with op:=r9},rfl,by rw[List.length_set];exact U,I.out.put P k 0 _ hk (by omega) (by omega) _ _ rfl ⟨hd.n1,hd.n2,hd.n3,hd.n4⟩⟩
   ·go_ret;have hd:=I.out.ok _ (List.getElem_mem hk);exact⟨_,l.set k {l[k]with many:=r9},rfl,by rw[List.length_set];exact U,I.out.put P k 3 _ hk (by omega) (by omega) _ _ rfl ⟨hd.n1,hd.n2,hd.n3,hd.n4⟩⟩
   ·go_ret;have hd:=I.out.ok _ (List.getElem_mem hk);exact⟨_,l.set k {l[k]with name:=xp},rfl,by rw[List.length_set];exact U,I.out.put P k 1 _ hk (by omega) (by omega) _ _ rfl ⟨(pW a2.out).1,hd.n2,(pW a2.out).2,hd.n4⟩⟩
   ·go_ret;have hd:=I.out.ok _ (List.getElem_mem hk);exact⟨_,l.set k {l[k]with sort:=r9-1},rfl,by rw[List.length_set];exact U,I.out.put P k 4 _ hk (by omega) (by omega) _ _ rfl ⟨hd.n1,hd.n2,hd.n3,hd.n4⟩⟩
   ·go_ret;exact⟨_,_,rfl,by rw[List.length_take];omega,R.out.cut k (by omega)⟩
theorem nj.fits{n:Nd}(h:nj n):n.fit:=⟨Nat.le_trans h.n1 (by omega),Nat.le_trans h.n2 (by omega)⟩
end
structure fm(w wr:World)(sb:Nat)(ao:Option Addr)(len cap:Nat)(sv ev:Value)(m:aN):Prop where
 so:aV wr w.heap.size sv m.aj
 eo:aO wr w.heap.size ev m.al
 sf:∀x∈m.aj,x.fit
 ef:∀x∈m.al,x.fit
 sl:m.aj.length≤40
 el:m.al.length≤40
 ds:∀b∈an sv,b∉an ev
 src:eI wr sb ao len cap
 ap:aw w wr [sb]
theorem fm.drawn{w wr P:World}{j:Nat}{l:Option Addr}{len cap:Nat}{sv ev:Value}{m:aN}(h:fm w wr j l len cap sv ev m)(T:j<w.heap.size)(R:eI P j l len cap)(I:wr.grownBy P (some j)):fm w P j l len cap sv ev m:=⟨aJ h.so (aw.grown I) (fun b C J=>by simp at J;have:=(au h.so).lo b C;omega),aJ h.eo (aw.grown I) (fun b C J=>by simp at J;have:=(au h.eo).lo b C;omega),h.sf,h.ef,h.sl,h.el,h.ds,R,(h.ap.trans (aw.grown I)).sub (by simp)⟩
theorem fm.below{w wr I:World}{C:Nat}{l:Option Addr}{len cap:Nat}{sv ev:Value}{m:aN}(h:fm w wr C l len cap sv ev m)(j:Below wr.heap.size wr I):fm w I C l len cap sv ev m:=⟨aL h.so j,aL h.eo j,h.sf,h.ef,h.sl,h.el,h.ds,h.src.apart (ak j) (by simp),h.ap.then j⟩
theorem fm.fit{w wr:World}{l:Nat}{j:Option Addr}{len cap:Nat}{sv ev:Value}{m:aN}(h:fm w wr l j len cap sv ev m):m.fit:=⟨h.sf,h.ef,by have:=h.sl;omega,by have:=h.el;omega⟩
theorem fm.at_{w wr:World}{l:Nat}{j:Option Addr}{len cap:Nat}{sv ev:Value}{m:aN}(h:fm w wr l j len cap sv ev m):bu wr (.agg #[sv,ev,.int .i64 m.start]) m:=⟨sv,ev,rfl,h.so.sl (by have:=h.sl;omega),h.eo.sl (by have:=h.el;omega)⟩
theorem AQ{ns:List Nd}(h:∀n∈ns,n.fit):(∀x∈(uM ns).aj,x.fit)∧(∀x∈(uM ns).al,x.fit)∧(uM ns).aj.length≤ns.length∧(uM ns).al.length≤ns.length:=by
 unfold uM;split;·exact⟨fun x j=>(by cases j),fun x j=>(by cases j),Nat.zero_le _,Nat.zero_le _⟩
 ·split;·exact Cb h
  ·exact⟨fun x j=>(by cases j),fun x j=>(by cases j),Nat.zero_le _,Nat.zero_le _⟩
section
attribute [local go_sem ↓] Go.wp_at_zero Go.wp_at_succ
structure JV(w w':World)(v:Value)(l:List Nd):Prop where
 own:bV w' w.heap.size v l
 ok:∀n∈l,nj n
 len:l.length≤14
 dN:Below w.heap.size w w'
theorem JV.sl{w w':World}{v:Value}{l:List Nd}(h:JV w w' v l):bR w' w'.heap.size v l:=o8 h.own (by have:=h.len;omega)
end
end Go.Proofs.YtlbcnmcfljaijaaGreat
