import Derived.Test.YtdiiiijkhpdcbaaGreatDoorRV22
import Derived.Laws.AppendOwnNone
namespace Go.Proofs.YtdiiiijkhpdcbaaGreatDoor
open Go.RowKit
set_option linter.unusedSimpArgs false
set_option linter.unusedVariables false
set_option maxHeartbeats 4000000
set_option maxRecDepth 100000
section
attribute [local go_sem ↓] Go.wp_at_zero Go.wp_at_succ
def pM(w w':World)(e:Ending)(l:List Nd):Prop:=∃j,e=.returned j/\bX w' w.heap.size j l/\Below w.heap.size w w'
def k6(v:Value)(w:World)(l:List Nd):Prop:=∃T a K,v=.iface T a/\(∀W:World,(Go.method 536 T a "loop.example/g00574/impl.row").run Tryz.prog W=.ok (K,a) W)/\(∀W:World,(callFunc K #[a]).run Tryz.prog W=.ok (.enter K #[a]) W)/\∀W,Below w.heap.size w W->Calls Tryz.prog K #[a] W fun e w'=>pM W w' e l
def iv(n:Nat)(p:Pn n):Prop:=∀(v:Value)(w:World),cJ w (lo w.heap.size) n p v->(aw n p).length<=1000->k6 v w (aw n p)
theorem Gi(v:Value)(w:World)(h:jP none v):k6 v w (bO none):=by refine⟨_,_,344,h,fun W=>by kernel_rfl,fun W=>by kernel_rfl,fun W _=>?_⟩;go_enter Tryz.func344,Tryz.ntmps344;go_wp2_with fail;go_ret;exact⟨_,rfl,fw _ ⟨0,df,df,0,0⟩ _ _ (by simp) (by simp),(ae _ _).trans ((ae _ _).mono (by simp))⟩
theorem Gm(x:ByteArray)(v:Value)(w:World)(h:jP (some x) v):k6 v w (bO (some x)):=by refine⟨_,_,341,h,fun W=>by kernel_rfl,fun W=>by kernel_rfl,fun W _=>?_⟩;go_enter Tryz.func341,Tryz.ntmps341;go_wp2_with fail;go_ret;exact⟨_,rfl,fw _ ⟨1,x,df,0,0⟩ _ _ (by simp) (by simp),(ae _ _).trans ((ae _ _).mono (by simp))⟩
theorem vO{α:Type}{f:α->List Nd}{l:List (Br α)}{k:Nat}{b:Br α}(I:l[k]?=some b):aV f (l.take (k+1))=aV f (l.take k)++[⟨4,b.l,df,0,b.s⟩]++f b.p:=by obtain⟨j,C⟩:=List.getElem?_eq_some_iff.1 I;rw[List.take_succ_eq_append_getElem j,iT,C,cC];simp[aV]
theorem nI{α:Type}{f:α->List Nd}(l:List (Br α))(k:Nat):(aV f (l.take k)).length<=(aV f l).length:=by
 conv=>rhs;rw[<-List.take_append_drop k l,iT,List.length_append]
 omega
theorem sI(n:Nat)(l:List (Br (Pn n)))(bf:∀b∈l,iv n b.p)(op:Int)(a b:ByteArray)(m s:Int)(sl:Value)(w:World)(hs:qx w (lo w.heap.size) sl l)(aN:(aV (aw n) l).length<=999):Calls Tryz.prog 343 #[.agg #[.int .i64 op,.string a,.string b,.int .i64 m,.int .i64 s],sl] w fun e w'=>pM w w' e (⟨op,a,b,(l.length:Int),s⟩::aV (aw n) l):=by
 obtain⟨i0,hi,bm,bn,br⟩:=info_parts Tryz.oS;have HI:=aa (And.intro hi (And.intro bm (And.intro bn br)));have bz:=aa bf;have HS:=aa hs;have az:=aa aN;obtain⟨ao,cap,rfl,bL,bM,hr⟩:=hs;have HR:=aa hr;obtain⟨L,hL⟩:∃L,l.length=L:=⟨_,rfl⟩;rw[hL]at bL|-;have aR:=aa hL;unfold maxLen at bM;clear hi bm bn br bf hr aN hL;go_enter Tryz.func343,Tryz.ntmps343;go_wp2_with fail;go_loopw[5,15](fun lv i wr=>∃k:Nat,k<=L/\i=.int .i64 k/\bX wr w.heap.size lv (⟨op,a,b,(L:Int),s⟩::aV (aw n) (l.take k))/\Below w.heap.size w wr)(fun _ i _=>L-(intOf i).toNat);case atStart=>
  refine⟨0,Nat.zero_le _,rfl,?_,?_⟩;·exact fw _ ⟨op,a,b,(L:Int),s⟩ _ _ (by simp) (by simp)
  ·exact((ae w _).trans ((ae _ _).mono (by simp)))
 case round=>
  obtain⟨k,hk,rfl,aq,C⟩:=hrel;have ah:=aa aq;have ay:=aa C;have bN:=C.size;obtain⟨p,c,hp⟩:=ar aq;obtain⟨X,hX⟩:∃X,(⟨op,a,b,(L:Int),s⟩::aV (aw n) (l.take k):List Nd)=X:=⟨_,rfl⟩;have bB:Hid (X.length<=1000):=aa (by rw[<-hX,List.length_cons];have:=nI (f:=aw n) l k;have:=az.out;omega);rw[hX]at hp ah;obtain⟨I,ab⟩:∃c,X.length=c:=⟨_,rfl⟩;rw[ab]at hp;have a7:=aa ab;have b1:I<=1000:=by rw[<-ab];exact bB.out
  subst hp;have HX:=aa hX;clear aq hX ab;by_cases bi:k<L;·
   obtain⟨g,o,rfl,hg,U⟩:=HR.out (by rintro rfl;have:=aR.out;simp at this;omega);obtain⟨b0,al⟩:∃b0,l[k]?=some b0:=⟨l[k]'(by rw[aR.out];exact bi),List.getElem?_eq_getElem _⟩;obtain⟨k1,k2,u,k3,k4⟩:=U k b0 al;have a4:(aw n b0.p).length<=1000:=by have:=(kF (f:=aw n) al).1;have:=az.out;omega
   obtain⟨T,av,K,rfl,hm,bR,an⟩:=bz.out b0 (List.mem_of_getElem? al) u w k4 a4;have af:=aa an;have bv:=aa al;have b2:g<w.heap.size:=hg;have e1:=(C.cell (p:=⟨g,o+k*3,none⟩) hg).trans k1;have e2:=(C.cell (p:=⟨g,o+k*3+1,none⟩) hg).trans k2;have e3:=(C.cell (p:=⟨g,o+k*3+2,none⟩) hg).trans k3;have a5:=dc n b0.p;obtain⟨N,hN⟩:∃N,aw n b0.p=N:=⟨_,rfl⟩;rw[hN]at a4 a5 af;have HN:=aa hN;obtain⟨bl,bs,bp⟩:=b0;dsimp only at e1 e2;have J:Hid (wr.ownsRow w.heap.size 156 5 (.slice p I c) I (X.flatMap Nd.cells)):=aa (by have:=ah.out;unfold bX at this;rw[a7.out]at this;exact this);obtain⟨RL,a2⟩:∃RL,N.length=RL:=⟨_,rfl⟩;rw[a2]at a4 a5;have ac:=aa a2;clear U an k4 al hN C a2;go_wp2_with(first|((fail_if_success(have:=a0));at_builtin;refine wpList_append_own _ rfl (.tmp 19) (.tmp 25) 28 rfl w.heap.size 156 i0 (.agg #[.int .i64 0,.string ByteArray.empty,.string ByteArray.empty,.int .i64 0,.int .i64 0]) 5 56 Tryz.underlying28 HI.out.1 HI.out.2.1 HI.out.2.2.1 HI.out.2.2.2 rfl (by decide) (.slice p I c) I (X.flatMap Nd.cells) rfl (aQ J.out ((ae wr _).trans ((ae _ _).mono (by simp)))) ⟨wr.heap.size+1,0,none⟩ 1 1 (Nd.cells ⟨4,bl,df,0,bs⟩) rfl rfl (fun j u hj=>fO _ _ _ _ (by simp) j u hj) (Nd.cells_one _) (by unfold maxLen;omega) (by omega) (by simp;omega) ?_;intro v4 w4 P aL _;have a0:=aa P;have a6:Hid (aG (wr.alloc (.cells #[.string bl,.int .i64 bs,.iface T av] 341)) w4 (ag (.slice p I c))):=aa (by have:=(aj (ae _ _)).trans (aD aL);rwa[List.nil_append]at this);have x2:w4.cell? ⟨wr.heap.size,2,none⟩=some (.iface T av):=a6.out.eS (by simp) (fun hm=>absurd ((ak J.out).hi _ hm) (by omega));have ad:Hid (Below w.heap.size w w4):=aa ((ay.out.trans ((ae wr _).mono bN)).trans (a6.out.below (by simp;omega) (ak J.out).lo));obtain⟨p4,c4,rfl⟩:=ar P;clear P aL)|((fail_if_success(have:=a8));refine(af.out w4 ad.out).mono ?_;rintro e w5⟨v5,rfl,a3,bb⟩;have a8:=aa a3;have ax:=aa bb;obtain⟨g5,c5,bk,-,-⟩:=a3.at_ (by rw[ac.out];exact a5);rw[ac.out]at bk;subst bk;clear a3 bb)|((fail_if_success(have:=a9));at_builtin;refine wpList_append_own _ rfl (.tmp 27) (.tmp 30) 28 rfl w.heap.size 156 i0 (.agg #[.int .i64 0,.string ByteArray.empty,.string ByteArray.empty,.int .i64 0,.int .i64 0]) 5 56 Tryz.underlying28 HI.out.1 HI.out.2.1 HI.out.2.2.1 HI.out.2.2.2 rfl (by decide) (.slice p4 (I+1) c4) (I+1) (X.flatMap Nd.cells++Nd.cells ⟨4,bl,df,0,bs⟩) rfl (aQ a0.out ax.out) ⟨g5,0,none⟩ RL c5 (N.flatMap Nd.cells) rfl (by rw[dY Nd.cells 5 Nd.bg,ac.out]) (fun j u hj=>by have:=a8.out;unfold bX at this;rw[ac.out]at this;exact bX.cell (l:=N) (c:=c5) (base:=w4.heap.size) (by unfold bX;rw[ac.out];exact this) j u hj) (iu N) (by unfold maxLen;omega) (by omega) (by have:=ax.out.size;have:=ad.out.size;omega) ?_;intro v6 w6 R aM _;have a9:=aa R;have bx:Hid (Below w.heap.size w w6):=aa ((ad.out.trans (ax.out.mono ad.out.size)).trans ((aD aM).below (by have:=ax.out.size;have:=ad.out.size;omega) (ak a0.out).lo));obtain⟨p6,c6,rfl⟩:=ar R;clear R aM));go_roundw;case rel=>refine⟨k+1,bi,by go_num,?_,bx.out⟩;have e:=vO (f:=aw n) bv.out;rw[HN.out]at e;rw[e,<-List.cons_append,<-List.cons_append,HX.out];refine bX.snoc ?_;rw[List.length_append,List.length_singleton,a7.out,ac.out,List.flatMap_append];simpa using a9.out
   case measure=>simp[intOf];omega
  ·obtain rfl:k=L:=by omega
   have HE:Hid (X=⟨op,a,b,(k:Int),s⟩::aV (aw n) l):=aa (by rw[<-HX.out,List.take_of_length_le (by rw[aR.out];exact Nat.le_refl _)]);have a1:Hid (bX wr w.heap.size (.slice p I c) X):=aa (by have:=ah.out;exact this);go_wp2_with fail;go_ret;rw[<-HE.out];exact⟨_,rfl,a1.out,ay.out⟩
theorem Gj(n:Nat)(l:List (Br (Pn n)))(J:∀b∈l,iv n b.p)(a b:ByteArray)(sl:Value)(w:World)(R:qx w (lo w.heap.size) sl l)(C:(aV (aw n) l).length<=999):k6 (uf ⟨3,a,b⟩ sl) w (aw (n+1) (.cU ⟨3,a,b⟩ l)):=by refine⟨_,_,342,rfl,fun W=>by kernel_rfl,fun W=>by kernel_rfl,fun W hW=>?_⟩;rw[bI];have U:Hid (∀(o:Obj),Calls Tryz.prog 343 #[.agg #[.int .i64 3,.string a,.string b,.int .i64 0,.int .i64 0],sl] (W.alloc o) fun e w'=>pM (W.alloc o) w' e (⟨3,a,b,(l.length:Int),0⟩::aV (aw n) l)):=aa (fun o=>sI n l J 3 a b 0 0 sl _ ((R.on hW).on (ae W o)) C);obtain⟨ao,cap,rfl,-⟩:=R;go_enter Tryz.func342,Tryz.ntmps342;go_wp2_with(go_at_call 343;refine(U.out _).mono ?_;rintro e w2⟨v2,rfl,P,j⟩;have T:=aa P;have I:=aa j;clear P j);go_ret;exact⟨v2,rfl,bH T.out (by simp),(ae W _).trans (I.out.mono (by simp))⟩
theorem Gl(n:Nat)(l:List (Br (Pn n)))(J:∀b∈l,iv n b.p)(b:ByteArray)(sl:Value)(w:World)(R:qx w (lo w.heap.size) sl l)(C:(aV (aw n) l).length<=999):k6 (uf ⟨5,df,b⟩ sl) w (aw (n+1) (.cU ⟨5,df,b⟩ l)):=by refine⟨_,_,345,rfl,fun W=>by kernel_rfl,fun W=>by kernel_rfl,fun W hW=>?_⟩;rw[bI];have U:Hid (∀(o:Obj),Calls Tryz.prog 343 #[.agg #[.int .i64 5,.string df,.string b,.int .i64 0,.int .i64 0],sl] (W.alloc o) fun e w'=>pM (W.alloc o) w' e (⟨5,df,b,(l.length:Int),0⟩::aV (aw n) l)):=aa (fun o=>sI n l J 5 df b 0 0 sl _ ((R.on hW).on (ae W o)) C);obtain⟨ao,cap,rfl,-⟩:=R;go_enter Tryz.func345,Tryz.ntmps345;go_wp2_with(go_at_call 343;refine(U.out _).mono ?_;rintro e w2⟨v2,rfl,P,j⟩;have T:=aa P;have I:=aa j;clear P j);go_ret;exact⟨v2,rfl,bH T.out (by simp),(ae W _).trans (I.out.mono (by simp))⟩
theorem Gk(n:Nat)(l:List (Br (Pn n)))(J:∀b∈l,iv n b.p)(b:ByteArray)(sl:Value)(w:World)(R:qx w (lo w.heap.size) sl l)(C:(aV (aw n) l).length<=999):k6 (uf ⟨6,df,b⟩ sl) w (aw (n+1) (.cU ⟨6,df,b⟩ l)):=by refine⟨_,_,346,rfl,fun W=>by kernel_rfl,fun W=>by kernel_rfl,fun W hW=>?_⟩;rw[bI];have U:Hid (∀(o:Obj),Calls Tryz.prog 343 #[.agg #[.int .i64 6,.string df,.string b,.int .i64 0,.int .i64 0],sl] (W.alloc o) fun e w'=>pM (W.alloc o) w' e (⟨6,df,b,(l.length:Int),0⟩::aV (aw n) l)):=aa (fun o=>sI n l J 6 df b 0 0 sl _ ((R.on hW).on (ae W o)) C);obtain⟨ao,cap,rfl,-⟩:=R;go_enter Tryz.func346,Tryz.ntmps346;go_wp2_with(go_at_call 343;refine(U.out _).mono ?_;rintro e w2⟨v2,rfl,P,j⟩;have T:=aa P;have I:=aa j;clear P j);go_ret;exact⟨v2,rfl,bH T.out (by simp),(ae W _).trans (I.out.mono (by simp))⟩
theorem An(n:Nat)(q:Pn n)(ax:iv n q)(x:ByteArray)(u:Value)(w:World)(hs:cJ w (lo w.heap.size) n q u)(ac:(aw n q).length<=999):k6 (.iface 297 (.agg #[.string x,u])) w (aw (n+1) (.loop x q)):=by
 refine⟨_,_,302,rfl,fun W=>by kernel_rfl,fun W=>by kernel_rfl,fun W hW=>?_⟩;rw[cO];obtain⟨i0,hi,az,aL,aM⟩:=info_parts Tryz.oS;have HI:=aa (And.intro hi (And.intro az (And.intro aL aM)));obtain⟨T,av,K,rfl,hm,aR,R⟩:=ax u w hs (by omega);have an:=dc n q;obtain⟨N,hN⟩:∃N,aw n q=N:=⟨_,rfl⟩;rw[hN]at an ac R|-;obtain⟨RL,ah⟩:∃RL,N.length=RL:=⟨_,rfl⟩;rw[ah]at an ac;have J:=aa ah;have ad:Hid (∀V,Below W.heap.size W V->Calls Tryz.prog K #[av] V fun e w'=>pM V w' e N):=aa (fun V hV=>R V (hW.trans (hV.mono hW.size)));clear hi az aL aM hN ah R ax hs hW;go_enter Tryz.func302,Tryz.ntmps302;go_wp2_with fail;go_region_law(first|(go_simp;(fail_if_success(have:=af));refine Calls.mono (ad.out _ (by first|exact(ae W _).drew|exact(ae W _).drew.trans ((ae _ _).mono (by simp)))) ?_;rintro e w5⟨v5,rfl,al,ab⟩;have af:=aa al;have aN:=aa ab;have I:Hid (Below W.heap.size W w5):=aa (by first|exact(ae W _).drew.trans (ab.mono (by simp))|exact((ae W _).drew.trans ((ae _ _).mono (by simp))).trans (ab.mono (by simp;omega)));have y0:w5.cell? ⟨W.heap.size,0,none⟩=some (.string x):=(by rw[ab.cell (p:=⟨W.heap.size,0,none⟩) (by first|(simp;done)|(simp;omega))];simp);obtain⟨g5,c5,ay,-,-⟩:=al.at_ (by rw[J.out];exact an);rw[J.out]at ay;subst ay;clear al ab)|(refine gh rfl (.tmp 6) (.tmp 9) 28 rfl W.heap.size 156 i0 (.agg #[.int .i64 0,.string ByteArray.empty,.string ByteArray.empty,.int .i64 0,.int .i64 0]) 5 56 Tryz.underlying28 HI.out.1 HI.out.2.1 HI.out.2.2.1 HI.out.2.2.2 rfl (by decide) (.slice (some ⟨W.heap.size+1,0,none⟩) 1 1) 1 (Nd.cells ⟨2,x,df,0,0⟩) (by simp[Act.eval]) (by have:=aQ (fw (W.alloc (.cells #[.string x,.iface T av] 297)).drew ⟨2,x,df,0,0⟩ W.heap.size (W.heap.size+1) (by simp) (by simp)) aN.out;exact this) ⟨g5,0,none⟩ RL c5 (N.flatMap Nd.cells) (by simp[Act.eval]) (by rw[dY Nd.cells 5 Nd.bg,J.out]) (fun j u hj=>by have:=af.out;unfold bX at this;rw[J.out]at this;exact bX.cell (l:=N) (c:=c5) (by unfold bX;rw[J.out];exact this) j u hj) (iu N) (by unfold maxLen;omega) (by omega) (by have:=I.out.size;simp;omega) ?_;intro v6 w6 C P U;have aq:=aa C;have ao:Hid (Below W.heap.size W w6):=aa (I.out.trans ((aD P).below I.out.size (by simp[ag,aJ])));obtain⟨p6,c6,rfl⟩:=ar C;clear C P U)|(refine gh rfl (.tmp 6) (.tmp 9) 28 rfl W.heap.size 156 i0 (.agg #[.int .i64 0,.string ByteArray.empty,.string ByteArray.empty,.int .i64 0,.int .i64 0]) 5 56 Tryz.underlying28 HI.out.1 HI.out.2.1 HI.out.2.2.1 HI.out.2.2.2 rfl (by decide) (.slice (some ⟨w5.heap.size,0,none⟩) 1 1) 1 (Nd.cells ⟨2,x,df,0,0⟩) (by simp[Act.eval]) (by have:=fw w5 ⟨2,x,df,0,0⟩ W.heap.size w5.heap.size rfl I.out.size;exact this) ⟨g5,0,none⟩ RL c5 (N.flatMap Nd.cells) (by simp[Act.eval]) (by rw[dY Nd.cells 5 Nd.bg,J.out]) (fun j u hj=>by have:=af.out.below (ae w5 (.cells #[.int .i64 2,.string x,.string df,.int .i64 0,.int .i64 0] 156));unfold bX at this;rw[J.out]at this;exact bX.cell (l:=N) (c:=c5) (by unfold bX;rw[J.out];exact this) j u hj) (iu N) (by unfold maxLen;omega) (by omega) (by have:=I.out.size;simp;omega) ?_;intro v6 w6 C P U;have aq:=aa C;have ao:Hid (Below W.heap.size W w6):=aa ((I.out.trans ((ae w5 _).mono I.out.size)).trans ((aD P).below (by have:=I.out.size;simp;omega) (by have:=I.out.size;simp[ag,aJ];omega)));obtain⟨p6,c6,rfl⟩:=ar C;clear C P U)|fail);all_goals
  go_wp2_with fail;go_ret;refine⟨_,rfl,?_,ao.out⟩;have:=aq.out;unfold bX;have e:(⟨2,x,df,0,0⟩::N:List Nd).length=1+RL:=by rw[List.length_cons,J.out,Nat.add_comm]
  rw[e,List.flatMap_cons];exact this
end
def sZ(t:Tk):Prop:=t.op=3\/((t.op=5\/t.op=6)/\t.a=df)
def bJ:(n:Nat)->Pn n->Prop|0,_=>True|n+1,p=>p.by (fun _=>True) (fun _ q=>bJ n q) (fun t l=>sZ t/\l≠[]/\∀b∈l,bJ n b.p)
theorem kP:∀(n:Nat)(p:Pn n),bY n p->bJ n p:=by intro n;induction n with|zero=>intro p _;trivial|succ n ih=>intro p;refine Pn.cases (P:=fun p=>bY (n+1) p->bJ (n+1) p) (fun x _=>trivial) (fun x q C=>ih q C) (fun t l C=>?_) p;have j:t.op=3/\(t.a.toList==t.b.toList)=false/\1<=l.length/\l.length<=4/\∀b∈l,bY n b.p:=C;exact⟨.inl j.1,(fun h=>by have:=j.2.2.1;rw[h]at this;simp at this),fun b I=>ih b.p (j.2.2.2.2 b I)⟩
theorem EP:∀(n:Nat)(p:Pn n),bJ n p->bJ (n+1) (nF n p):=by intro n;induction n with|zero=>intro p _;trivial|succ n ih=>intro p;refine Pn.cases (P:=fun p=>bJ (n+1) p->bJ (n+2) (nF (n+1) p)) (fun x _=>trivial) (fun x q C=>ih q C) (fun t l C=>?_) p;have j:sZ t/\l≠[]/\∀b∈l,bJ n b.p:=C;refine⟨j.1,(fun h=>j.2.1 (List.map_eq_nil_iff.1 h)),fun b I=>?_⟩;obtain⟨c,J,rfl⟩:=List.mem_map.1 I;exact ih c.p (j.2.2 c J)
theorem kf{α:Type}:∀{l:List α}{i:Nat}{x y:α},y∈l.set i x->y∈l\/y=x
 |[],i,x,y,h=>by simp at h|a::l,0,x,y,h=>by
  rw[List.set_cons_zero,List.mem_cons]at h;rcases h with h|h;·exact .inr h
  ·exact .inl (by simp[h])|a::l,i+1,x,y,h=>by
  rw[List.set_cons_succ,List.mem_cons]at h;rcases h with h|h;·exact .inl (by simp[h])
  ·rcases kf h with q|q;·exact .inl (by simp[q])
   ·exact .inr q
theorem fM{α:Type}{Q:α->Prop}{mg:α->α->Option α}(I:∀x y z,Q x->Q y->mg x y=some z->Q z):∀(ds C l:List (Br α)),(∀b∈C,Q b.p)->(∀b∈ds,Q b.p)->bP mg C ds=some l->∀b∈l,Q b.p
 |[],C,l,J,_,h=>by rw[bP]at h;injection h with h;subst h;exact J|d::ds,C,l,J,hd,h=>by
  rw[bP]at h;split at h;·exact fM I ds _ l (fun b j=>by rw[List.mem_append]at j;rcases j with j|j;exact J b j;simp at j;subst j;exact hd b (by simp)) (fun b j=>hd b (by simp[j])) h
  ·rename_i i hi;split at h;·cases h
   ·rename_i b j;split at h;·cases h
    ·rename_i q R;split at h;·
      refine fM I ds _ l (fun c P=>?_) (fun b j=>hd b (by simp[j])) h;rcases kf P with P|P;·exact J c P
      ·subst P;exact I b.p d.p q (J b (List.mem_of_getElem? j)) (hd d (by simp)) R
     ·cases h
theorem ni{α:Type}{mg:α->α->Option α}:∀(ds j l:List (Br α)),j≠[]->bP mg j ds=some l->l≠[]
 |[],j,l,C,h=>by rw[bP]at h;injection h with h;subst h;exact C|d::ds,j,l,C,h=>by
  rw[bP]at h;split at h;·exact ni ds _ l (by simp) h
  ·split at h;·cases h
   ·split at h;·cases h
    ·split at h;·exact ni ds _ l (fun e=>C (by have:=congrArg List.length e;rw[List.length_set]at this;exact List.length_eq_zero_iff.1 this)) h
     ·cases h
theorem iA:∀(n:Nat)(x y z:Pn n),bJ n x->bJ n y->aU n x y=some z->bJ n z:=by
 intro n;induction n with
  |zero=>intro x y z _ _ _;trivial|succ n ih=>
   intro x y z I P h;rw[aU]at h;split at h;·injection h with h;subst h;exact I
   ·split at h;·
     rename_i a cs b ds ex J;split at h;·
      split at h;·
       rename_i l hl;split at h;·injection h with h;subst h;obtain⟨R,rfl⟩:=eU ex;obtain⟨T,rfl⟩:=eU J;have j:sZ ⟨6,R,a⟩/\cs≠[]/\∀b∈cs,bJ n b.p:=I;have C:sZ ⟨6,T,b⟩/\ds≠[]/\∀b∈ds,bJ n b.p:=P;exact⟨.inr ⟨.inr rfl,rfl⟩,ni ds cs l j.2.1 hl,fM (Q:=bJ n) ih ds cs l j.2.2 C.2.2 hl⟩
       ·cases h
      ·cases h
     ·cases h
    ·cases h
theorem iU{α:Type}{Q:α->Prop}{mg:α->α->Option α}(j:∀x y z,Q x->Q y->mg x y=some z->Q z):∀(r:List (Br α))(x z:α),Q x->(∀b∈r,Q b.p)->bF mg x r=some z->Q z
 |[],x,z,l,_,h=>by rw[bF]at h;injection h with h;subst h;exact l|b::r,x,z,l,C,h=>by
  rw[bF]at h;split at h;·cases h
  ·rename_i q J;exact iU j r q z (j x b.p q l (C b (by simp)) J) (fun c I=>C c (by simp[I])) h
theorem ph{α:Type}{Q R:α->Prop}{g:α->Option α}(J:∀x y,Q x->g x=some y->R y):∀(l r:List (Br α)),(∀b∈l,Q b.p)->bt g l=some r->∀b∈r,R b.p
 |[],r,_,h=>by rw[bt]at h;injection h with h;subst h;intro b j;cases j|c::l,r,P,h=>by
  rw[bt]at h;split at h;·cases h
  ·rename_i q C;split at h;·cases h
   ·rename_i r' I;injection h with h;subst h;intro b j;rw[List.mem_cons]at j;rcases j with rfl|j;·exact J c.p q (P c (by simp)) C
    ·exact ph J l r' (fun c T=>P c (by simp[T])) I b j
theorem jq(role:ByteArray):∀(n:Nat)(p q:Pn n),bY n p->ba role n p=some q->bJ n q:=by
 intro n;induction n with
  |zero=>intro p q _ _;trivial|succ n ih=>
   intro p;refine Pn.cases (P:=fun p=>∀q,bY (n+1) p->ba role (n+1) p=some q->bJ (n+1) q) (fun x q _ h=>?_) (fun x p q U h=>?_) (fun t l q U h=>?_) p;·have j:some (Pn.leaf x)=some q:=h;injection j with j;subst j;trivial
   ·have j:(if j9 role (aw (n+1) (.loop x p))then some (Pn.leaf none)else(ba role n p).map (Pn.loop x))=some q:=h;have I:bY n p:=U;split at j;·injection j with j;subst j;trivial
    ·cases hq:ba role n p with|none=>rw[hq]at j;cases j|some q'=>rw[hq]at j;simp only[Option.map_some,Option.some.injEq]at j;subst j;exact ih p q' I hq
   ·have j:(match bt (ba role n) l with|none=>none|some r=>if role.toList==t.a.toList then some (Pn.cU ⟨5,df,t.b⟩ r)else if role.toList==t.b.toList then some (.cU ⟨6,df,t.a⟩ r)else match r with|[]=>none|c::r=>(bF (aU n) c.p r).map (nF n))=some q:=h;have I:t.op=3/\(t.a.toList==t.b.toList)=false/\1<=l.length/\l.length<=4/\∀b∈l,bY n b.p:=U;split at j;·cases j
    ·rename_i r hr;have C:=ph (Q:=bY n) (R:=bJ n) (fun x y hx hy=>ih x y hx hy) l r I.2.2.2.2 hr;have J:r≠[]:=fun e=>by have:=(lI (f:=aw n) (Q:=bY n) (fun x y hx hy=>gS role n x y hx hy) l r I.2.2.2.2 hr).2;rw[e]at this;have:=I.2.2.1;simp at*;omega
     split at j;·injection j with j;subst j;exact⟨.inr ⟨.inl rfl,rfl⟩,J,C⟩
     ·split at j;·injection j with j;subst j;exact⟨.inr ⟨.inr rfl,rfl⟩,J,C⟩
      ·split at j;·cases j
       ·rename_i c r;cases T:bF (aU n) c.p r with|none=>rw[T]at j;cases j|some z=>rw[T]at j;simp only[Option.map_some,Option.some.injEq]at j;subst j;exact EP n z (iU (Q:=bJ n) (iA n) r c.p z (C c (by simp)) (fun b hb=>C b (by simp[hb])) T)
theorem qg(x:Option ByteArray)(v:Value)(w:World)(h:jP x v):k6 v w (bO x):=by cases x with|none=>exact Gi v w h|some x=>exact Gm x v w h
theorem ua:∀(n:Nat)(p:Pn n),bJ n p->iv n p:=by
 intro n;induction n with
  |zero=>intro p _ v w h _;exact qg p v w h|succ n ih=>
   intro p;refine Pn.cases (P:=fun p=>bJ (n+1) p->iv (n+1) p) (fun x _ v w h _=>qg x v w h) (fun x q hq v w h hl=>?_) (fun t l hp v w h hl=>?_) p;·obtain⟨u,rfl,h⟩:=h;rw[cO]at hl;exact An n q (ih q hq) x u w h (by simp only[List.length_cons]at hl;omega)
   ·obtain⟨sl,rfl,h⟩:=h;have I:sZ t/\l≠[]/\∀b∈l,bJ n b.p:=hp;have j:∀b∈l,iv n b.p:=fun b hb=>ih b.p (I.2.2 b hb);rw[bI]at hl;have C:(aV (aw n) l).length<=999:=by simp only[List.length_cons]at hl;omega
    obtain⟨op,a,b⟩:=t;rcases I.1 with R|⟨T|U,J⟩;·dsimp only at R;subst R;exact Gj n l j a b sl w h C
    ·dsimp only at T J;subst T;subst J;exact Gl n l j b sl w h C
    ·dsimp only at U J;subst U;subst J;exact Gk n l j b sl w h C
abbrev Sk:=List (Option ByteArray)
def nA(st:List Nd):Sk:=st.map fun n=>if n.op==2 then some n.name else none
def wB(sk:Sk)(x:ByteArray):Bool:=sk.any fun o=>match o with|some y=>y.toList==x.toList|none=>false
def bB(j:Bool):Sk->ByteArray->Bool|[],_=>false|some y::sk,x=>if y.toList==x.toList then j else bB j sk x|none::sk,x=>bB true sk x
theorem pH:∀(st:List Nd)(x:ByteArray),bW st x=wB (nA st) x
 |[],_=>rfl|n::st,x=>by
  have ih:=pH st x;unfold bW wB nA at*;rw[List.map_cons,List.any_cons,List.any_cons,ih];cases h:(n.op==2);·simp
  ·simp
theorem ur:∀(st:List Nd)(s:Bool)(x:ByteArray),eR s st x=bB s (nA st) x
 |[],_,_=>rfl|n::st,s,x=>by
  have ih:=ur st;rw[eR];show _=bB s ((if n.op==2 then some n.name else none)::nA st) x;cases h:(n.op==2);·simp only[Bool.false_eq_true,if_false];exact ih true x
  ·simp only[if_true];rw[bB,ih]
def rO{α:Type}(l:List (Br α)):Prop:=(l.map (·.l)).Nodup/\∀b∈l,cX b.l=true/\la b.s=true
def tF(sk:Sk):Option ByteArray->Prop|none=>True|some x=>bB false sk x=true
def gP(A:Tk->Prop):(n:Nat)->Sk->Pn n->Prop|0,sk,x=>tF sk x|n+1,sk,p=>p.by (tF sk) (fun x q=>cX x=true/\wB sk x=false/\gP A n (some x::sk) q) (fun t l=>A t/\1<=l.length/\l.length<=4/\rO l/\∀b∈l,gP A n (none::sk) b.p)
def zS(sk:Sk):Option ByteArray->Prop|none=>True|some x=>wB sk x=true
def gH(A:Tk->Prop):(n:Nat)->Sk->Pn n->Prop|0,sk,x=>zS sk x|n+1,sk,p=>p.by (zS sk) (fun x q=>cX x=true/\wB sk x=false/\gH A n (some x::sk) q) (fun t l=>A t/\1<=l.length/\l.length<=4/\rO l/\∀b∈l,gP A n (none::sk) b.p)
theorem DR:(df.toList==[])=true:=by rw[Go.ByteArray.toList_eq];rfl
theorem tK{l:List ByteArray}{x:ByteArray}(h:l.Nodup)(C:x∉l):(l++[x]).Nodup:=by rw[List.nodup_append];exact⟨h,by simp,fun a ha b j e=>C (by simp at j;rw[<-j,<-e];exact ha)⟩
theorem Du{n:Nat}{A:Tk->Prop}{sk:Sk}{go:List Nd->Option (List Nd)}{Q:Pn n->Prop}(I:∀(p:Pn n)r r',Q p->go (aw n p++r)=some r'->gP A n sk p/\r'=r):∀(l:List (Br (Pn n)))(ls:List ByteArray)(r r':List Nd),(∀b∈l,Q b.p)->ls.Nodup->bA go l.length ls (aV (aw n) l++r)=some r'->(ls++l.map (·.l)).Nodup/\(∀b∈l,(cX b.l=true/\la b.s=true)/\gP A n sk b.p)/\r'=r
 |[],ls,r,r',_,P,h=>by rw[List.length_nil,bA]at h;injection h with h;exact⟨by simpa using P,fun b hb=>(by cases hb),h.symm⟩|b::l,ls,r,r',T,P,h=>by
  rw[cC,List.length_cons,List.cons_append,bA]at h;split at h;·
   rename_i R;rw[Bool.and_eq_true]at R;obtain⟨j,C⟩:=R;split at h;·cases h
   ·rename_i r1 J;rw[List.append_assoc]at J;obtain⟨hg,rfl⟩:=I b.p _ _ (T b List.mem_cons_self) J;have hx:b.l∉ls:=fun hm=>by rw[jF.2 hm]at C;cases C
    obtain⟨U,h2,h3⟩:=Du I l (ls++[b.l]) r r' (fun d hd=>T d (List.mem_cons_of_mem _ hd)) (tK P hx) h;refine⟨by rw[List.map_cons];simpa using U,fun d hd=>?_,h3⟩;rcases List.mem_cons.1 hd with rfl|hd;·simp only[eE,Bool.and_eq_true]at j;exact⟨⟨j.1.2,j.2⟩,hg⟩
    ·exact h2 d hd
  ·cases h
theorem Db{n:Nat}{A:Tk->Prop}{sk:Sk}{go:List Nd->Option (List Nd)}(j:∀(p:Pn n)r,gP A n sk p->go (aw n p++r)=some r):∀(l:List (Br (Pn n)))(ls:List ByteArray)(r:List Nd),(ls++l.map (·.l)).Nodup->(∀b∈l,(cX b.l=true/\la b.s=true)/\gP A n sk b.p)->bA go l.length ls (aV (aw n) l++r)=some r
 |[],ls,r,_,_=>by rw[List.length_nil,bA];rfl|b::l,ls,r,C,h=>by
  obtain⟨⟨hw,U⟩,P⟩:=h b (List.mem_cons_self);have hx:b.l∉ls:=fun T=>by rw[List.nodup_append]at C;exact C.2.2 _ T b.l (by simp) rfl
  have J:(eE (⟨4,b.l,df,0,b.s⟩:Nd)&&!cw ls b.l)=true:=by
   have I:cw ls b.l=false:=by cases R:cw ls b.l with|false=>rfl|true=>exact absurd (jF.1 R) hx
   rw[I];simp only[eE,Bool.and_eq_true];refine⟨⟨⟨⟨⟨by rfl,DR⟩,by rfl⟩,hw⟩,U⟩,by rfl⟩
  rw[cC,List.length_cons,List.cons_append,bA,if_pos J,List.append_assoc,j b.p _ P];exact Db j l (ls++[b.l]) r (by rw[List.map_cons]at C;simpa using C) (fun d hd=>h d (List.mem_cons_of_mem _ hd))
def vm(t:Tk):Prop:=t.op=3/\cX t.a=true/\cX t.b=true/\(t.a.toList==t.b.toList)=false
def pG(t:Tk):Prop:=(t.op=5\/t.op=6)/\t.a=df/\cX t.b=true
theorem yd:∀(n:Nat)(p:Pn n)(st r r':List Nd),bY n p->ahead (bC false) n st (aw n p++r)=some r'->gP vm n (nA st) p/\r'=r:=by
 have leaf:∀(n:Nat)(x:Option ByteArray)(st r r':List Nd),ahead (bC false) n st (bO x++r)=some r'->tF (nA st) x/\r'=r:=by
  intro n x st r r' h;cases x with
   |none=>rw[bO,List.singleton_append,db rfl]at h;rw[if_pos (by simp[ic])]at h;injection h with h;exact⟨trivial,h.symm⟩|some x=>
    rw[bO,List.singleton_append,dr rfl]at h;split at h;·rename_i j;rw[Bool.and_eq_true,ur]at j;injection h with h;exact⟨j.2,h.symm⟩
    ·cases h
 intro n;induction n with
  |zero=>intro p st r r' _ h;exact leaf 0 p st r r' h|succ n ih=>
   intro p;refine Pn.cases (P:=fun p=>∀(st r r':List Nd),bY (n+1) p->ahead (bC false) (n+1) st (aw (n+1) p++r)=some r'->gP vm (n+1) (nA st) p/\r'=r) (fun x=>?_) (fun x q=>?_) (fun t l=>?_) p;·intro st r r' _ h;exact leaf (n+1) x st r r' h
   ·intro st r r' U h;rw[cO,List.cons_append,dA rfl]at h;split at h;·rename_i j;rw[Bool.and_eq_true,pH]at j;obtain⟨h1,h2⟩:=ih q _ r r' U h;simp only[iJ,Bool.and_eq_true]at j;exact⟨⟨j.1.2,by simpa using j.2,h1⟩,h2⟩
    ·cases h
   ·intro st r r' U h;obtain⟨h3,T,J,R,I⟩:=U;obtain⟨op,a,b⟩:=t;dsimp only at h3;subst h3;rw[bI,List.cons_append,fA (show(3:Int)≠0 by decide) (show(3:Int)≠1 by decide) (show(3:Int)≠2 by decide)]at h;split at h;·
     rename_i j;simp only[bC,Bool.and_eq_true,Bool.false_eq_true,if_false]at j;have hm:((l.length:Int)).toNat=l.length:=by omega
     dsimp only at h;rw[hm]at h;obtain⟨k1,k2,k3⟩:=Du (A:=vm) (sk:=none::nA st) (Q:=bY n) (fun p r r' hq hh=>ih p (⟨3,a,b,(l.length:Int),0⟩::st) r r' hq hh) l [] r r' I List.nodup_nil h;exact⟨⟨⟨rfl,j.2.1.2,j.1.1.1,T⟩,J,R,⟨by simpa using k1,fun b C=>(k2 b C).1⟩,fun b C=>(k2 b C).2⟩,k3⟩
    ·cases h
theorem xU:∀(n:Nat)(p:Pn n)(st r:List Nd),gP pG n (nA st) p->ahead (bC true) n st (aw n p++r)=some r:=by
 have leaf:∀(n:Nat)(x:Option ByteArray)(st r:List Nd),tF (nA st) x->ahead (bC true) n st (bO x++r)=some r:=by intro n x st r h;cases x with|none=>rw[bO,List.singleton_append,db rfl,if_pos (by simp[ic])]|some x=>rw[bO,List.singleton_append,dr rfl,if_pos];rw[Bool.and_eq_true,ur];exact⟨by simp[oG],h⟩
 intro n;induction n with
  |zero=>intro p st r h;exact leaf 0 p st r h|succ n ih=>
   intro p;refine Pn.cases (P:=fun p=>∀(st r:List Nd),gP pG (n+1) (nA st) p->ahead (bC true) (n+1) st (aw (n+1) p++r)=some r) (fun x=>?_) (fun x q=>?_) (fun t l=>?_) p;·intro st r h;exact leaf (n+1) x st r h
   ·intro st r h;obtain⟨J,I,h3⟩:=h;rw[cO,List.cons_append,dA rfl,if_pos];·exact ih q (⟨2,x,df,0,0⟩::st) r h3
    ·rw[Bool.and_eq_true,pH];exact⟨by simp[iJ,J],by simp[I]⟩
   ·intro st r h;obtain⟨⟨C,T,hw⟩,ab,ac,j,R⟩:=h;obtain⟨op,a,b⟩:=t;dsimp only at C T hw;subst T;have h0:op≠0:=by omega
    have J:op≠1:=by omega
    have I:op≠2:=by omega
    have hm:((l.length:Int)).toNat=l.length:=by omega
    rw[bI,List.cons_append,fA h0 J I,if_pos];·
     dsimp only;rw[hm];refine Db (A:=pG) (sk:=none::nA st) (fun p r hp=>?_) l [] r (by simpa using j.1) (fun b U=>⟨j.2 b U,R b U⟩);have e:none::nA st=nA (⟨op,df,b,(l.length:Int),0⟩::st):=by show _=(if op==2 then some df else none)::nA st;rw[if_neg (by simpa using I)]
     rw[e]at hp;exact ih p _ r hp
    ·simp only[bC,jJ,Bool.and_eq_true,if_true,decide_eq_true_eq,Bool.or_eq_true,beq_iff_eq];exact⟨⟨⟨hw,by omega,by omega⟩,trivial⟩,by simp,C⟩
section
attribute [local go_sem ↓] Go.wp_at_zero Go.wp_at_succ
def GY{α:Type}(t:ByteArray)(l:List (Br α)):Int:=match gI t l with|none=>-1|some i=>(i:Int)
theorem oQ{α:Type}{t:ByteArray}:∀{l:List (Br α)}{k:Nat}{b:Br α},(∀j c,l[j]?=some c->j<k->(c.l.toList==t.toList)=false)->l[k]?=some b->(b.l.toList==t.toList)=true->gI t l=some k|[],k,b,_,C,_=>by simp at C|c::l,0,b,_,C,h=>by simp at C;subst C;rw[gI,if_pos h]|c::l,k+1,b,I,C,h=>by have J:=I 0 c rfl (by omega);rw[gI,J];rw[List.getElem?_cons_succ]at C;rw[oQ (fun j d P R=>I (j+1) d (by rw[List.getElem?_cons_succ];exact P) (by omega)) C h];rfl
theorem oP{α:Type}{t:ByteArray}:∀{l:List (Br α)},(∀(j:Nat)(c:Br α),l[j]?=some c->(c.l.toList==t.toList)=false)->gI t l=none|[],_=>rfl|c::l,C=>by rw[gI,C 0 c rfl,oP (fun j d I=>C (j+1) d (by rw[List.getElem?_cons_succ];exact I))];rfl
theorem AU(n:Nat)(t:ByteArray)(S:Nat->Prop)(l:List (Br (Pn n)))(v:Value)(w:World)(hs:qx w S v l)(hl:l.length<=1000):Calls Tryz.prog 323 #[v,.string t] w fun e w'=>e=.returned (.int .i64 (GY t l))/\Below w.heap.size w w':=by
 obtain⟨ao,cap,rfl,aq,av,hr⟩:=hs;have HR:=aa hr;obtain⟨L,hL⟩:∃L,l.length=L:=⟨_,rfl⟩;rw[hL]at aq hl|-;have R:=aa hL;clear hr hL;go_enter Tryz.func323,Tryz.ntmps323;go_wp2_with fail;go_loopw[9](fun i wr=>∃k:Nat,k<=L/\i=.int .i64 k/\(∀j c,l[j]?=some c->j<k->(c.l.toList==t.toList)=false)/\Below w.heap.size w wr)(fun i _=>L-(intOf i).toNat);case atStart=>exact⟨0,Nat.zero_le _,rfl,fun j _ _ h=>absurd h (by omega),Below.refl _ _⟩
 case round=>
  obtain⟨k,hk,rfl,al,C⟩:=hrel;have U:=aa al;have J:=aa C;have an:=C.size;clear al;by_cases ah:k<L;·
   obtain⟨g,o,rfl,hg,I⟩:=HR.out (by rintro rfl;have:=R.out;simp at this;omega);obtain⟨b0,ab⟩:∃b0,l[k]?=some b0:=⟨l[k]'(by rw[R.out];exact ah),List.getElem?_eq_getElem _⟩;obtain⟨k1,k2,u,k3,k4⟩:=I k b0 ab;obtain⟨T,a,rfl⟩:=k4.shape;have ac:g<w.heap.size:=World.block_lt_of_cell? w _ k1;have e1:=(C.cell (p:=⟨g,o+k*3,none⟩) ac).trans k1;have e2:=(C.cell (p:=⟨g,o+k*3+1,none⟩) ac).trans k2;have e3:=(C.cell (p:=⟨g,o+k*3+2,none⟩) ac).trans k3;have ad:=aa ab;obtain⟨bl,bs,bp⟩:=b0;dsimp only at e1 e2;clear I k1 k2 k3 k4 ab C;cases heq:(bl.toList==t.toList);·
    go_wp2_with fail;go_roundw;case rel=>
     refine⟨k+1,ah,by go_num,fun j c P ax=>?_,J.out.trans ((ae _ _).mono an)⟩;by_cases af:j=k;·subst af;rw[ad.out]at P;injection P with P;subst P;exact heq
     ·exact U.out j c P (by omega)
    case measure=>simp[intOf];omega
   ·go_wp2_with fail;go_ret;refine⟨aY ?_,J.out.trans ((ae _ _).mono an)⟩;rw[GY,oQ U.out ad.out heq]
  ·go_wp2_with fail;go_ret;refine⟨aY ?_,J.out⟩;rw[GY,oP (fun j c P=>U.out j c P (by have:=(List.getElem?_eq_some_iff.1 P).1;rw[R.out]at this;omega))]
theorem xa(a b:Nd)(W:World):(Op.equalIn 10000 156 (.agg #[.int .i64 a.op,.string a.name,.string a.peer,.int .i64 a.many,.int .i64 a.sort]) (.agg #[.int .i64 b.op,.string b.name,.string b.peer,.int .i64 b.many,.int .i64 b.sort])).run Tryz.prog W=.ok (oe a b) W:=by
 by_cases j:a.op=b.op;·
  by_cases l:a.name.toList=b.name.toList;·
   by_cases C:a.peer.toList=b.peer.toList;·
    by_cases I:a.many=b.many;·by_cases J:a.sort=b.sort;all_goals go_simp;simp[oe,j,l,C,I,J]
    ·go_simp;simp[oe,j,l,C,I]
   ·go_simp;simp[oe,j,l,C]
  ·go_simp;simp[oe,j,l]
 ·go_simp;simp[oe,j]
theorem py:∀{x y:List Nd},x.length≠y.length->fC x y=false|[],[],h=>absurd rfl h|[],_::_,_=>rfl|_::_,[],_=>rfl|a::l,b::r,h=>by rw[fC,py (fun e=>h (by simp[e])),Bool.and_false]
theorem sy:∀{x y:List Nd}{k:Nat}(j:k<x.length)(C:k<y.length),oe x[k] y[k]=false->fC x y=false|a::l,b::r,0,_,_,h=>by simp only[List.getElem_cons_zero]at h;rw[fC,h,Bool.false_and]|a::l,b::r,k+1,j,C,h=>by simp only[List.getElem_cons_succ]at h;rw[fC,sy (by simpa using j) (by simpa using C) h,Bool.and_false]
theorem pz:∀{x y:List Nd},x.length=y.length->(∀k(I:k<x.length)(J:k<y.length),oe x[k] y[k]=true)->fC x y=true|[],[],_,_=>rfl|[],_::_,h,_=>by simp at h|_::_,[],h,_=>by simp at h|a::l,b::r,h,j=>by have C:=j 0 (by simp) (by simp);simp only[List.getElem_cons_zero]at C;rw[fC,C,pz (by simpa using h) (fun k I J=>by have:=j (k+1) (by simpa using I) (by simpa using J);simpa using this)];rfl
def vq(w:World)(v:Value)(l:List Nd):Prop:=∃j cap,v=.slice j l.length cap/\l.length<=1000/\(l≠[]->∃g o,j=some ⟨g,o,none⟩/\g<w.heap.size/\cV w g o l)
theorem yJ(w:World)(g:Nat):∀(l:List Nd)(o:Nat),(∀j(C:j<l.length),cZ w g (o+j*5) l[j])->cV w g o l|[],_,_=>trivial|x::l,o,I=>by refine⟨by have:=I 0 (by simp);simpa using this,yJ w g l (o+5) (fun j C=>?_)⟩;have:=I (j+1) (by simpa using C);rw[show o+(j+1)*5=o+5+j*5 by omega]at this;simpa using this
theorem bX.rd{w:World}{base:Nat}{v:Value}{l:List Nd}(h:bX w base v l)(J:l.length<=1000):vq w v l:=by
 have H:=h;obtain⟨_,T⟩:=h;rcases T with⟨rfl,R⟩|⟨I,cap,P,rfl,hg,C,hc,hm,_⟩;·have:l=[]:=List.length_eq_zero_iff.1 R;subst this;exact⟨none,0,rfl,J,fun h=>absurd rfl h⟩
 ·refine⟨_,cap,rfl,J,fun _=>⟨I,0,rfl,(Array.getElem?_eq_some_iff.1 C).1,yJ w I l 0 (fun j U=>?_)⟩⟩;rw[Nat.zero_add];have e:=fun i(hi:i<5)(x:Value)(hx:(l[j].cells)[i]?=some x)=>cQ H rfl (j*5+i) x ((dQ Nd.cells 5 Nd.bg l j U i hi).trans hx);exact⟨e 0 (by omega) _ rfl,e 1 (by omega) _ rfl,e 2 (by omega) _ rfl,e 3 (by omega) _ rfl,e 4 (by omega) _ rfl⟩
theorem vq.on{w w':World}{v:Value}{l:List Nd}(h:vq w v l)(I:Below w.heap.size w w'):vq w' v l:=by obtain⟨J,cap,e,T,U⟩:=h;refine⟨J,cap,e,T,fun j=>?_⟩;obtain⟨g,o,P,C,R⟩:=U j;exact⟨g,o,P,Nat.lt_of_lt_of_le C I.size,R.carry C I⟩
theorem BA(x y:List Nd)(v u:Value)(w:World)(hx:vq w v x)(hy:vq w u y):Calls Tryz.prog 317 #[v,u] w fun e w'=>e=.returned (.bool (fC x y))/\Below w.heap.size w w':=by
 obtain⟨ax,cx,rfl,a1,aL⟩:=hx;obtain⟨ay,cy,rfl,a2,aM⟩:=hy;have aN:=aa aL;have aR:=aa aM;obtain⟨L,hL⟩:∃L,x.length=L:=⟨_,rfl⟩;obtain⟨M,hM⟩:∃M,y.length=M:=⟨_,rfl⟩;rw[hL]at a1|-;rw[hM]at a2|-;have HL:=aa hL;have HM:=aa hM;clear aL aM hL hM;by_cases az:L=M;·
  subst az;go_enter Tryz.func317,Tryz.ntmps317;go_wp2_with fail;go_loopw[13](fun i wr=>∃k:Nat,k<=L/\i=.int .i64 k/\(∀j(h1:j<x.length)(h2:j<y.length),j<k->oe x[j] y[j]=true)/\Below w.heap.size w wr)(fun i _=>L-(intOf i).toNat);case atStart=>exact⟨0,Nat.zero_le _,rfl,fun j _ _ h=>absurd h (by omega),Below.refl _ _⟩
  case round=>
   obtain⟨k,hk,rfl,R,C⟩:=hrel;have HA:=aa R;have l:=aa C;clear R;by_cases ab:k<L;·
    have J:k<x.length:=by rw[HL.out];exact ab
    have P:k<y.length:=by rw[HM.out];exact ab
    obtain⟨b,o,rfl,a0,T⟩:=aN.out (by intro h;rw[h]at J;simp at J);obtain⟨b',o',rfl,an,I⟩:=aR.out (by intro h;rw[h]at P;simp at P);have aq:=(T.get k J).carry a0 C;have av:=(I.get k P).carry an C;obtain⟨U,ac⟩:∃U,x[k]=U:=⟨_,rfl⟩;obtain⟨y1,ad⟩:∃y1,y[k]=y1:=⟨_,rfl⟩;rw[ac]at aq;rw[ad]at av;obtain⟨c0,c1,c2,c3,c4⟩:=aq;obtain⟨d0,d1,d2,d3,d4⟩:=av;obtain⟨r,hr⟩:∃r,oe U y1=r:=⟨_,rfl⟩;have heq:∀W,(Op.equalIn 10000 156 (.agg #[.int .i64 U.op,.string U.name,.string U.peer,.int .i64 U.many,.int .i64 U.sort]) (.agg #[.int .i64 y1.op,.string y1.name,.string y1.peer,.int .i64 y1.many,.int .i64 y1.sort])).run Tryz.prog W=.ok r W:=fun W=>by rw[xa,hr]
    have af:=aa hr;have ah:=aa ac;have al:=aa ad;clear T I hr ac ad C;cases r;·go_wp2_with fail;go_region;go_wp2_with fail;all_goals go_ret;exact⟨aC (sy J P (by rw[ah.out,al.out];exact af.out)),by first|exact l.out|exact l.out.drew⟩
    ·go_wp2_with fail;go_region;go_wp2_with fail;all_goals
      go_roundw;case rel=>
       refine⟨k+1,ab,by go_num,fun j h1 h2 a3=>?_,by first|exact l.out|exact l.out.drew⟩;by_cases ao:j=k;·subst ao;rw[ah.out,al.out];exact af.out
       ·exact HA.out j h1 h2 (by omega)
      case measure=>simp[intOf];omega
   ·go_wp2_with fail;go_ret;exact⟨aC (pz (by rw[HL.out,HM.out]) (fun j h1 h2=>HA.out j h1 h2 (by rw[HL.out]at h1;omega))),l.out⟩
 ·have HF:Hid (fC x y=false):=aa (py (by rw[HL.out,HM.out];exact az));have hq:((L:Int)==(M:Int))=false:=beq_eq_false_iff_ne.2 (by omega);go_enter Tryz.func317,Tryz.ntmps317;go_wp2_with fail;go_ret;exact⟨aC HF.out,Below.refl _ _⟩
def plus(S:Nat->Prop)(a m:Nat):Nat->Prop:=fun b=>S b\/(a<=b/\b<m)
def sK(S:Nat->Prop)(a m:Nat)(v:Value):Nat->Prop:=fun b=>plus S a m b/\b∉ag v
section
variable {n : Nat}
structure zi(S:Nat->Prop)(a:Nat)(w:World)(base:Nat)(v:Value)(l:List (BV n)):Prop where
 own:w.ownsRow base 341 3 v l.length (l.flatMap BV.cells)
 E0:∀x∈l,cJ w (sK S a w.heap.size v) n x.b.p x.u
 low:∀g,S g->g<a
 ab:a<=base
 qj:a<=w.heap.size
theorem eH{S:Nat->Prop}{a m g:Nat}(j:∀g,S g->g<a)(l:a<=m)(h:plus S a m g):g<m:=by
 rcases h with h|h;·have:=j g h;omega
 ·exact h.2
theorem gq{S:Nat->Prop}{a m j g:Nat}(l:m<=j)(h:plus S a m g):plus S a j g:=by
 rcases h with h|h;·exact .inl h
 ·exact .inr ⟨h.1,by omega⟩
variable {S : Nat -> Prop} {a : Nat}
theorem zi.aB{w w':World}{base:Nat}{v:Value}{l:List (BV n)}(h:zi S a w base v l)(j:Below w.heap.size w w'):zi S a w' base v l:=⟨aQ h.own j,fun x I=>cJ.carry (fun g C=>j.block g (eH h.low h.qj C.1)) (fun _ C=>⟨gq j.size C.1,C.2⟩) _ _ _ (h.E0 x I),h.low,h.ab,Nat.le_trans h.qj j.size⟩
theorem zi.sl{w:World}{base:Nat}{v:Value}{l:List (BV n)}(h:zi S a w base v l):qx w (plus S a w.heap.size) v (l.map BV.b):=by
 rcases h.own.2 with⟨rfl,h0⟩|⟨g,cap,ac,rfl,R,I,hc,hm,_⟩;·have e:l=[]:=List.length_eq_zero_iff.1 h0;subst e;exact⟨none,0,rfl,Nat.le_refl _,Nat.zero_le _,fun T=>absurd rfl T⟩
 ·refine⟨some ⟨g,0,none⟩,cap,by rw[List.length_map],by rw[List.length_map];exact hc,hm,fun _=>⟨g,0,rfl,.inr ⟨Nat.le_trans h.ab R,(Array.getElem?_eq_some_iff.1 I).1⟩,fun i b C=>?_⟩⟩;rw[List.getElem?_map]at C;cases U:l[i]? with|none=>rw[U]at C;cases C|some x=>rw[U]at C;simp only[Option.map_some,Option.some.injEq]at C;subst C;obtain⟨J,P⟩:=List.getElem?_eq_some_iff.1 U;have e:=fun j(hj:j<3)(y:Value)(hy:(x.cells)[j]?=some y)=>cQ h.own rfl (i*3+j) y ((dQ BV.cells 3 BV.bg l i J j hj).trans (by rw[P];exact hy));rw[Nat.zero_add];exact⟨e 0 (by omega) _ rfl,e 1 (by omega) _ rfl,x.u,e 2 (by omega) _ rfl,(h.E0 x (by rw[<-P];exact List.getElem_mem J)).up (fun _ R=>R.1)⟩
theorem vK{w P:World}{base:Nat}{v R:Value}{l:List (BV n)}(h:zi S a w base v l)(x:BV n)(hx:cJ w (sK S a w.heap.size v) n x.b.p x.u)(o:Obj)(I:P.ownsRow base 341 3 R (l.length+1) (l.flatMap BV.cells++x.cells))(j:(w.alloc o).grownBy P v.ownBlock)(U:R.ownBlock=v.ownBlock\/R.ownBlock=some (w.alloc o).heap.size):zi S a P base R (l++[x])/\aG w P (ag v):=by
 obtain⟨p,c,hv⟩:=ar h.own;obtain⟨p',c',ac⟩:=ar I;have T:aG w P (ag v):=by rw[hv]at j|-;have:=(aj (ae w o)).trans (aD j);rwa[List.nil_append]at this
 have key:∀{q:Pn n}{u:Value},cJ w (sK S a w.heap.size v) n q u->cJ P (sK S a P.heap.size R) n q u:=fun hq=>cJ.carry (fun g j=>T.block g (eH h.low h.qj j.1) j.2) (fun g j=>⟨gq T.size j.1,fun hm=>by
  have C:=(aS ac).2 hm;rcases U with e|e;·rw[e]at C;exact j.2 ((aS hv).1 C)
  ·rw[e]at C;have:=eH h.low h.qj j.1;simp at C;omega⟩) _ _ _ hq;refine⟨⟨?_,fun y J=>?_,h.low,h.ab,Nat.le_trans h.qj T.size⟩,T⟩;·rw[List.length_append,List.length_singleton,List.flatMap_append];simpa using I
 ·rw[List.mem_append]at J;rcases J with J|J;·exact key (h.E0 y J)
  ·simp at J;subst J;exact key hx
theorem tz:∀(l:List (BV n))(i:Nat)(x:BV n)(u:Value),l[i]?=some x->(l.flatMap BV.cells).set (i*3+2) u=(l.set i ⟨x.b,u⟩).flatMap BV.cells
 |[],i,x,u,h=>by simp at h|a::l,0,x,u,h=>by simp at h;subst h;rfl|a::l,i+1,x,u,h=>by
  rw[List.getElem?_cons_succ]at h;rw[List.set_cons_succ,List.flatMap_cons,List.flatMap_cons,<-tz l i x u h];have e:(i+1)*3+2=a.cells.length+(i*3+2):=by rw[BV.bg];omega
  rw[e,List.set_append_right _ _ (by omega),Nat.add_sub_cancel_left]
theorem Fj{w:World}{base g cap:Nat}{l:List (BV n)}(h:zi S a w base (.slice (some ⟨g,0,none⟩) l.length cap) l){i:Nat}{x:BV n}(hi:l[i]?=some x)(q:Pn n)(u:Value)(hu:cJ w (sK S a w.heap.size (.slice (some ⟨g,0,none⟩) l.length cap)) n q u):zi S a (w.setCell ⟨g,i*3+2,none⟩ u) base (.slice (some ⟨g,0,none⟩) l.length cap) (l.set i ⟨⟨x.b.l,x.b.s,q⟩,u⟩)/\aG w (w.setCell ⟨g,i*3+2,none⟩ u) [g]:=by
 have j:=aI w g (i*3+2) u;have key:∀{q:Pn n}{J:Value},cJ w (sK S a w.heap.size (.slice (some ⟨g,0,none⟩) l.length cap)) n q J->cJ (w.setCell ⟨g,i*3+2,none⟩ u) (sK S a (w.setCell ⟨g,i*3+2,none⟩ u).heap.size (.slice (some ⟨g,0,none⟩) l.length cap)) n q J:=fun R=>cJ.carry (fun b C=>j.block b (eH h.low h.qj C.1) (fun P=>C.2 (by simpa[ag,aJ]using P))) (fun b C=>⟨gq j.size C.1,C.2⟩) _ _ _ R;refine⟨⟨?_,fun y I=>?_,h.low,h.ab,Nat.le_trans h.qj j.size⟩,j⟩;·
  have:=(World.ownsRow.stored h.own (i*3+2) u).1;rw[tz l i x u hi]at this;rw[List.length_set];have e:(l.set i ⟨x.b,u⟩).flatMap BV.cells=(l.set i ⟨⟨x.b.l,x.b.s,q⟩,u⟩).flatMap BV.cells:=by clear hi this hu h j key;induction l generalizing i with|nil=>rfl|cons a l ih=>cases i with|zero=>rfl|succ i=>rw[List.set_cons_succ,List.set_cons_succ,List.flatMap_cons,List.flatMap_cons,ih]
  rw[<-e];exact this
 ·rcases kf I with I|I;·exact key (h.E0 y I)
  ·subst I;exact key hu
end
theorem Hu{n:Nat}{w:World}{S:Nat->Prop}{g o:Nat}:∀(l:List (Br (Pn n))),(∀(i:Nat)(b:Br (Pn n)),l[i]?=some b->w.cell? ⟨g,o+i*3,none⟩=some (.string b.l)/\w.cell? ⟨g,o+i*3+1,none⟩=some (.int .i64 b.s)/\∃u,w.cell? ⟨g,o+i*3+2,none⟩=some u/\cJ w S n b.p u)->∃L:List (BV n),L.map BV.b=l/\(∀x∈L,cJ w S n x.b.p x.u)/\∀j u,(L.flatMap BV.cells)[j]?=some u->w.cell? ⟨g,o+j,none⟩=some u:=by
 intro l;induction l generalizing o with
  |nil=>exact fun _=>⟨[],rfl,(fun x I=>by cases I),(fun j u C=>by simp at C)⟩|cons b l ih=>
   intro h;obtain⟨J,P,u,R,h4⟩:=h 0 b rfl;obtain⟨L,T,U,e3⟩:=ih (o:=o+3) (fun i c hc=>by have:=h (i+1) c (by rw[List.getElem?_cons_succ];exact hc);rw[show o+(i+1)*3=o+3+i*3 by omega]at this;exact this);refine⟨⟨b,u⟩::L,by rw[List.map_cons,T],fun x I=>?_,fun j y C=>?_⟩;·
    rw[List.mem_cons]at I;rcases I with rfl|I;·exact h4
    ·exact U x I
   ·rw[List.flatMap_cons]at C;simp only[Nat.zero_mul,Nat.add_zero]at J P R;match j,C with|0,C=>simp[BV.cells]at C;subst C;exact J|1,C=>simp[BV.cells]at C;subst C;exact P|2,C=>simp[BV.cells]at C;subst C;exact R|j+3,C=>rw[List.getElem?_append_right (by rw[BV.bg];omega),BV.bg,Nat.add_sub_cancel]at C;rw[show o+(j+3)=o+3+j by omega];exact e3 j y C
theorem CI(n:Nat)(S:Nat->Prop)(a:Nat)(l:List (Br (Pn n)))(v:Value)(w:World)(hS:∀g,S g->g<a)(ha:a<=w.heap.size)(hs:qx w S v l)(hl:l.length<=1000)(ay:l≠[]):Calls Tryz.prog 322 #[v] w fun e w'=>∃v' L,e=.returned v'/\L.map BV.b=l/\zi S a w' w.heap.size v' (L:List (BV n))/\Below w.heap.size w w':=by
 obtain⟨i0,hi,af,ah,al⟩:=info_parts Tryz.uD;have HI:=aa (And.intro hi (And.intro af (And.intro ah al)));obtain⟨ao,cap,rfl,ax,aL,hr⟩:=hs;obtain⟨g,o,rfl,hg,I⟩:=hr ay;obtain⟨L,e1,e2,e3⟩:=Hu l I;have U:L.length=l.length:=by rw[<-e1,List.length_map]
 have an:=aa e1;have ab:=aa e2;have aq:=aa e3;have HG:Hid (g<w.heap.size):=aa (Nat.lt_of_lt_of_le (hS g hg) ha);have HS:=aa hS;have J:=aa ha;obtain⟨M,hM⟩:∃M,l.length=M:=⟨_,rfl⟩;rw[hM]at hl U ax|-;have ac:=aa U;have qT:∀(w:World)(a:Option Addr)(n c n' c':Nat),(binOp .eql 298 (.slice a n c) (.slice none n' c')).run Tryz.prog w=.ok (.bool a.isNone) w:=fun w a n c n' c'=>Lib.run_eql_slice_nil w _ _ a n c n' c' Tryz.underlying298;clear hi af ah al hr I e1 e2 e3 U hM;go_enter Tryz.func322,Tryz.ntmps322;go_wp2_with(at_builtin;refine wpList_append_own_at _ rfl (.tmp 5) (.tmp 6) 298 rfl w.heap.size 341 i0 (.agg #[.string ByteArray.empty,.int .i64 0,.nilIface]) 3 40 Tryz.underlying298 HI.out.1 HI.out.2.1 HI.out.2.2.1 HI.out.2.2.2 rfl (by decide) (.slice (some ⟨w.heap.size,0,none⟩) 0 0) 0 [] rfl (dE _ _ _ _ _ (Nat.le_refl _) (b6 _ _ _ rfl)) ⟨g,o,none⟩ M cap (L.flatMap BV.cells) rfl (by rw[dY BV.cells 3 BV.bg,ac.out]) (fun j u hj=>by rw[show Addr.add ⟨g,o,none⟩ j=⟨g,o+j,none⟩by(by_cases h:j=0;(subst h;simp[Addr.add]);simp[Addr.add,h])];exact((ae w _).cell (p:=⟨g,o+j,none⟩) HG.out).trans (aq.out j u hj)) (fun u hu=>by obtain⟨x,hx,hu⟩:=List.mem_flatMap.1 hu;exact uv (ab.out x hx) u hu) (by unfold maxLen;omega) (by omega) (by simp) ?_;intro v4 w4 C T _ R;have ad:=aa C;have av:Hid (aG (w.alloc (.cells #[] 341)) w4 [w.heap.size]):=aa (aG.grown T);have az:=aa R;obtain⟨p4,c4,rfl⟩:=ar C;clear C T R);go_ret;have hb:Below w.heap.size w w4:=(ae w _).trans (av.out.below (by simp) (by simp));refine⟨_,L,rfl,an.out,⟨?_,fun x hx=>?_,HS.out,J.out,Nat.le_trans J.out hb.size⟩,hb⟩;·have:=ad.out;rw[Nat.zero_add,List.nil_append]at this;rw[ac.out];simpa using this
 ·refine cJ.carry (fun b P=>hb.block b (Nat.lt_of_lt_of_le (HS.out b P) J.out)) (fun b P=>⟨.inl P,fun hm=>?_⟩) _ _ _ (ab.out x hx);have:=(ak ad.out).lo b (by simpa using hm);have:=HS.out b P;have:=J.out;omega
end
section
attribute [local go_sem ↓] Go.wp_at_zero Go.wp_at_succ
def mn(v:Value)(s:ByteArray)(p:Option Addr)(l c:Nat)(j:Bool):Prop:=∀W:World,(Instr.typeAssert v 245 344 true).run Tryz.prog W=.ok (.tuple #[.agg #[.string s,.slice p l c],.bool j]) W
theorem mD{x:Option ByteArray}{v:Value}(h:jP x v):mn v ByteArray.empty none 0 0 false:=by cases x with|none=>rw[show v=_ from h];intro W;kernel_rfl|some x=>rw[show v=_ from h];intro W;kernel_rfl
theorem kD(a:ByteArray)(p:Option Addr)(l c:Nat):mn (.iface 344 (.agg #[.string a,.slice p l c])) a p l c true:=by intro W;kernel_rfl
theorem xV(x:ByteArray)(u:Value):mn (.iface 297 (.agg #[.string x,u])) ByteArray.empty none 0 0 false:=by intro W;kernel_rfl
theorem AN(a b:ByteArray)(sl:Value):mn (.iface 302 (.agg #[.string a,.string b,sl])) ByteArray.empty none 0 0 false:=by intro W;kernel_rfl
theorem AO(b:ByteArray)(sl:Value):mn (.iface 343 (.agg #[.string b,sl])) ByteArray.empty none 0 0 false:=by intro W;kernel_rfl
theorem CA{n:Nat}{w:World}{S:Nat->Prop}:∀{p:Pn (n+1)}{v:Value},bJ (n+1) p->cJ w S (n+1) p v->(j7 p=none/\mn v ByteArray.empty none 0 0 false)\/∃a l sp j,j7 p=some (a,l)/\v=.iface 344 (.agg #[.string a,.slice sp l.length j])/\qx w S (.slice sp l.length j) l:=by
 intro p v;refine Pn.cases (P:=fun p=>bJ (n+1) p->cJ w S (n+1) p v->(j7 p=none/\mn v ByteArray.empty none 0 0 false)\/∃a l sp j,j7 p=some (a,l)/\v=.iface 344 (.agg #[.string a,.slice sp l.length j])/\qx w S (.slice sp l.length j) l) (fun x _ h=>.inl ⟨rfl,mD h⟩) (fun x q _ h=>?_) (fun t l hp h=>?_) p;·obtain⟨u,rfl,_⟩:=h;exact .inl ⟨rfl,xV x u⟩
 ·obtain⟨sl,rfl,h⟩:=h;have I:sZ t/\l≠[]/\∀b∈l,bJ n b.p:=hp;obtain⟨op,a,b⟩:=t;rcases I.1 with J|⟨R|T,C⟩;·dsimp only at J;subst J;exact .inl ⟨rfl,AN a b sl⟩
  ·dsimp only at R C;subst R;subst C;exact .inl ⟨rfl,AO b sl⟩
  ·dsimp only at T C;subst T;subst C;have h':=h;obtain⟨U,cap,rfl,_⟩:=h';exact .inr ⟨b,l,U,cap,rfl,rfl,h⟩
def Ka(q:Value):Prop:=q=.nilIface\/∃t a,q=.iface t a
def eP(n:Nat)(S:Nat->Prop)(w w':World)(e:Ending)(o:Option (Pn n)):Prop:=∃q,e=.returned (.tuple #[q,.bool o.isSome])/\(∀z,o=some z->cJ w' (plus S w.heap.size w'.heap.size) n z q)/\Below w.heap.size w w'/\Ka q
def pj{α:Type}(r k:Bool)(x:α)(o:Option α):Option α:=if r then some x else if k then o else none
theorem kg(n:Nat)(S:Nat->Prop)(x y:Pn n)(u v:Value)(w:World)(hx:k6 u w (aw n x))(hy:k6 v w (aw n y))(ab:(aw n x).length<=1000)(ac:(aw n y).length<=1000)(hS:∀g,S g->g<w.heap.size)(aM:cJ w S n x u)(s1 s2:ByteArray)(p1 p2:Option Addr)(l1 c1 l2 c2:Nat)(J P:Bool)(aq:mn u s1 p1 l1 c1 J)(av:mn v s2 p2 l2 c2 P)(o:Option (Pn n))(ho:aU n x y=pj (fC (aw n x) (aw n y)) (J&&P&&(s1.toList==s2.toList)) x o)(hc:(J&&P&&(s1.toList==s2.toList))=true->∀W,Below w.heap.size w W->Calls Tryz.prog 318 #[.agg #[.string s1,.slice p1 l1 c1],.agg #[.string s2,.slice p2 l2 c2]] W fun e w'=>eP n S W w' e o):Calls Tryz.prog 304 #[u,v] w fun e w'=>eP n S w w' e (aU n x y):=by
 obtain⟨T1,a1,K1,rfl,bk,bf,j⟩:=hx;obtain⟨T2,a2,K2,rfl,bl,bi,l⟩:=hy;have a8:Hid (∀W,Below w.heap.size w W->cJ W (plus S w.heap.size W.heap.size) n x (.iface T1 a1)):=aa (fun W hW=>cJ.carry (fun g hg=>hW.block g (hS g hg)) (fun g hg=>.inl hg) n x _ aM);obtain⟨X,hX⟩:∃X,aw n x=X:=⟨_,rfl⟩;obtain⟨Y,hY⟩:∃Y,aw n y=Y:=⟨_,rfl⟩;obtain⟨r,hr⟩:∃r,fC X Y=r:=⟨_,rfl⟩;rw[hX]at ab j ho;rw[hY]at ac l ho;rw[hr]at ho;have a3:=aa j;have a4:=aa l;have a6:=aa ab;have a7:=aa ac;have HR:=aa hr;have HO:=aa ho;have HC:=aa hc;have a9:=aq;have bb:=av;unfold mn at a9 bb;clear j l ab ac hr ho hc aM hX hY aq av;obtain⟨q,hq⟩:∃q,(s1.toList==s2.toList)=q:=⟨_,rfl⟩;rw[hq]at HO HC;have I:Hid (∀(w3:World)(o1 o2:Obj),Below w.heap.size w w3->Below w.heap.size w ((w3.alloc o1).alloc o2)):=aa (fun w3 o1 o2 h=>h.trans (((ae w3 o1).trans ((ae _ o2).mono (by simp))).mono h.size));cases J;all_goals cases P
 all_goals cases q
 all_goals
  go_enter Tryz.func304,Tryz.ntmps304;go_wp2_with(first|(go_at_call 318;refine(HC.out rfl _ (I.out w3 _ _ C.out)).mono ?_;rintro e w5⟨q5,rfl,an,ao,R⟩;have a5:=aa R;clear R;have aN:Hid (∀z,o=some z->cJ w5 (plus S w.heap.size w5.heap.size) n z q5):=aa (fun z hz=>(an z hz).up (fun g hg=>hg.elim .inl (fun k=>.inr ⟨Nat.le_trans (I.out w3 _ _ C.out).size k.1,k.2⟩)));have a0:Hid (Below w.heap.size w w5):=aa ((I.out w3 _ _ C.out).trans (ao.mono (I.out w3 _ _ C.out).size));clear an ao)|(go_at_call 317;refine(BA X Y _ _ _ ((af.out.rd a6.out).on aR.out) (ah.out.rd a7.out)).mono ?_;rw[HR.out];rintro e w3⟨rfl,ay⟩;have C:Hid (Below w.heap.size w w3):=aa (al.out.trans (ay.mono al.out.size));clear ay;cases r)|((fail_if_success(have:=af));refine Calls.mono (a3.out w (Below.refl _ _)) ?_;rintro e w1⟨v1,rfl,az,ax⟩;have af:=aa az;have T:=aa ax;clear az ax)|((fail_if_success(have:=ah));refine Calls.mono (a4.out w1 T.out) ?_;rintro e w2⟨v2,rfl,aL,U⟩;have ah:=aa aL;have aR:=aa U;have al:Hid (Below w.heap.size w w2):=aa (T.out.trans (U.mono T.out.size));clear aL U));all_goals go_ret2
  all_goals rw[HO.out]
  all_goals first|exact⟨_,rfl,(fun z hz=>by have ad:some x=some z:=hz;injection ad with ad;subst ad;exact a8.out w3 C.out),C.out,(by first|exact .inl rfl|exact .inr ⟨_,_,rfl⟩)⟩|exact⟨_,rfl,(fun z hz=>absurd (show(none:Option (Pn n))=some z from hz) (by simp)),I.out w3 _ _ C.out,(by first|exact .inl rfl|exact .inr ⟨_,_,rfl⟩)⟩|exact⟨_,rfl,aN.out,a0.out,a5.out⟩
def nV(n:Nat)(a:ByteArray)(r:Option (List (Br (Pn n)))):Option (Pn (n+1)):=match r with|some l=>if l.length<=4 then some (.cU ⟨6,df,a⟩ l)else none|none=>none
theorem fV{α:Type}(f:α->List Nd):∀l:List (Br α),l.length<=(aV f l).length|[]=>Nat.le_refl _|b::l=>by rw[cC];have:=fV f l;simp only[List.length_cons,List.length_append];omega
theorem vZ{α:Type}{t:ByteArray}:∀{l:List (Br α)}{i:Nat},gI t l=some i->∃b,l[i]?=some b
 |[],i,h=>by cases h|c::l,i,h=>by
  rw[gI]at h;split at h;·injection h with h;subst h;exact⟨c,rfl⟩
  ·cases C:gI t l with|none=>rw[C]at h;cases h|some j=>rw[C]at h;simp only[Option.map_some,Option.some.injEq]at h;subst h;obtain⟨b,I⟩:=vZ C;exact⟨b,by rw[List.getElem?_cons_succ];exact I⟩
theorem fq{q:Value}{a b:Bool}(h:b=a):Ending.returned (.tuple #[q,.bool a])=.returned (.tuple #[q,.bool b]):=by rw[h]
structure xR(n:Nat)(S:Nat->Prop)(w wr:World)(a:ByteArray)(cs ds:List (Br (Pn n)))(cv:Value)(k:Nat)(acc:List (BV n)):Prop where
 same:bP (aU n) (acc.map BV.b) (ds.drop k)=bP (aU n) cs ds
 own:zi S w.heap.size wr (w.heap.size+2) cv acc
 sz:(aV (aw n) (acc.map BV.b)).length+(aV (aw n) (ds.drop k)).length<=898
 BW:∀x∈acc,bJ n x.b.p
 bU:Below w.heap.size w wr
 box:wr.cell? ⟨w.heap.size,0,none⟩=some (.string a)
 qj:w.heap.size+2<=wr.heap.size
def qR(n:Nat):Prop:=∀(S:Nat->Prop)(x y:Pn n)(u v:Value)(w:World),(∀g,S g->g<w.heap.size)->bJ n x->bJ n y->(aw n x).length+(aw n y).length<=900->cJ w S n x u->cJ w S n y v->Calls Tryz.prog 304 #[u,v] w fun e w'=>eP n S w w' e (aU n x y)
theorem xB{n:Nat}{S:Nat->Prop}{w wr:World}{a:ByteArray}{cs ds:List (Br (Pn n))}{J:Value}{k:Nat}{j:List (BV n)}(h:xR n S w wr a cs ds J k j){d:Br (Pn n)}(hd:ds[k]?=some d)(P:gI d.l (j.map BV.b)=none):bP (aU n) (j.map BV.b++[d]) (ds.drop (k+1))=bP (aU n) cs ds:=by have I:=(List.getElem?_eq_some_iff.1 hd).1;have C:ds[k]=d:=(List.getElem?_eq_some_iff.1 hd).2;rw[<-h.same,List.drop_eq_getElem_cons I,C,bP,P]
theorem xC{n:Nat}{S:Nat->Prop}{w wr:World}{a:ByteArray}{cs ds:List (Br (Pn n))}{J:Value}{k i:Nat}{j:List (BV n)}(h:xR n S w wr a cs ds J k j){d:Br (Pn n)}{x:BV n}(hd:ds[k]?=some d)(P:gI d.l (j.map BV.b)=some i)(T:j[i]?=some x):bP (aU n) cs ds=match aU n x.b.p d.p with|none=>none|some q=>if x.b.s==d.s then bP (aU n) ((j.map BV.b).set i ⟨x.b.l,x.b.s,q⟩) (ds.drop (k+1))else none:=by
 have I:=(List.getElem?_eq_some_iff.1 hd).1;have C:ds[k]=d:=(List.getElem?_eq_some_iff.1 hd).2;have R:(j.map BV.b)[i]?=some x.b:=by rw[List.getElem?_map,T];rfl
 rw[<-h.same,List.drop_eq_getElem_cons I,C,bP,P];simp only[R];cases aU n x.b.p d.p<;>rfl
theorem gE{n:Nat}{ds:List (Br (Pn n))}{k:Nat}{d:Br (Pn n)}(hd:ds[k]?=some d):(aV (aw n) (ds.drop k)).length=1+(aw n d.p).length+(aV (aw n) (ds.drop (k+1))).length:=by have l:=(List.getElem?_eq_some_iff.1 hd).1;have j:ds[k]=d:=(List.getElem?_eq_some_iff.1 hd).2;rw[List.drop_eq_getElem_cons l,j,cC];simp only[List.length_cons,List.length_append];omega
theorem yt(n:Nat)(S:Nat->Prop)(cr:qR n)(a b:ByteArray)(cs ds:List (Br (Pn n)))(cf:∀x∈cs,bJ n x.p)(cl:∀x∈ds,bJ n x.p)(a5:(aV (aw n) cs).length+(aV (aw n) ds).length<=898)(d6:cs≠[])(bb cM:Value)(w:World)(hS:∀g,S g->g<w.heap.size)(h1:qx w S bb cs)(h2:qx w S cM ds):Calls Tryz.prog 318 #[.agg #[.string a,bb],.agg #[.string b,cM]] w fun e w'=>eP (n+1) S w w' e (nV n a (bP (aU n) cs ds)):=by
 obtain⟨i0,hi,cI,cL,b3⟩:=info_parts Tryz.uD;have HI:=aa (And.intro hi (And.intro cI (And.intro cL b3)));have c0:=aa cr;have bB:=aa hS;have cS:=aa cf;have cT:=aa cl;have c6:=aa a5;have c9:cs.length<=1000:=by have:=fV (aw n) cs;omega
 have d4:ds.length<=1000:=by have:=fV (aw n) ds;omega
 have cR:Hid (∀o1 o2:Obj,Calls Tryz.prog 322 #[bb] ((w.alloc o1).alloc o2) fun e w'=>∃v' L,e=.returned v'/\L.map BV.b=cs/\zi S w.heap.size w' (w.heap.size+2) v' (L:List (BV n))/\Below (w.heap.size+2) ((w.alloc o1).alloc o2) w'):=aa (fun o1 o2=>by have C:Below w.heap.size w ((w.alloc o1).alloc o2):=(ae w o1).trans ((ae _ o2).mono (by simp));have:=CI n S w.heap.size cs bb ((w.alloc o1).alloc o2) hS (by simp;omega) (h1.carry (fun g hg=>C.block g (hS g hg)) (fun g hg=>hg)) c9 d6;simpa using this);obtain⟨ep,ec,rfl,-⟩:=h1;obtain⟨er,ed,rfl,-,el,cx⟩:=h2;have c3:=aa cx;obtain⟨D,hD⟩:∃D,ds.length=D:=⟨_,rfl⟩;rw[hD]at d4|-;have HD:=aa hD;clear hi cI cL b3 cx cr cf cl a5 hD;go_enter Tryz.func318,Tryz.ntmps318;go_wp2_with(go_at_call 322;refine(cR.out _ _).mono ?_;rintro e w1⟨es,L1,rfl,e1,cu,a3⟩;have br:=aa e1;have c2:=aa cu;have cN:=aa a3;have x0:=(a3.cell (p:=⟨w.heap.size,0,none⟩) (by simp));have y1:=(a3.cell (p:=⟨w.heap.size+1,1,none⟩) (by simp));simp at x0 y1;have c7:Hid (w.heap.size+2<=w1.heap.size):=aa (by have:=a3.size;simpa using this);clear e1 cu a3);go_loopw[6,18](fun cv i wr=>∃(k:Nat)(J:List (BV n)),k<=D/\i=.int .i64 k/\xR n S w wr a cs ds cv k J)(fun _ i _=>D-(intOf i).toNat);case atStart=>refine⟨0,L1,Nat.zero_le _,rfl,⟨by rw[br.out];rfl,c2.out,by rw[br.out];exact c6.out,fun x hx=>cS.out x.b (by rw[<-br.out];exact List.mem_map_of_mem hx),?_,x0,c7.out⟩⟩;exact((ae w _).trans ((ae _ _).mono (by simp))).trans (cN.out.mono (by omega))
 case round=>
  obtain⟨k,J,hk,rfl,hR⟩:=hrel;have P:=aa hR;have aN:=hR.bU.size;have b3:=hR.qj;have c8:J.length<=898:=by have:=fV (aw n) (J.map BV.b);rw[List.length_map]at this;have:=hR.sz;omega
  obtain⟨cp,cc,ch⟩:=ar hR.own.own;obtain⟨A,hA⟩:∃A,J.length=A:=⟨_,rfl⟩;rw[hA]at c8 ch;have HA:=aa hA;subst ch;have bx:=hR.box;clear hR hA;by_cases bN:k<D;·
   obtain⟨g,o,rfl,hg,aL⟩:=c3.out (by rintro rfl;have:=HD.out;simp at this;omega);obtain⟨d,hd⟩:∃d,ds[k]?=some d:=⟨ds[k]'(by rw[HD.out];exact bN),List.getElem?_eq_getElem _⟩;obtain⟨k1,k2,u,k3,k4⟩:=aL k d hd;have b7:=aa hd;have bM:g<w.heap.size:=bB.out g hg;have e1:=(P.out.bU.cell (p:=⟨g,o+k*3,none⟩) bM).trans k1;have e2:=(P.out.bU.cell (p:=⟨g,o+k*3+1,none⟩) bM).trans k2;have e3:=(P.out.bU.cell (p:=⟨g,o+k*3+2,none⟩) bM).trans k3;have HU:Hid (∀W,Below w.heap.size w W->cJ W (sK S w.heap.size W.heap.size (.slice cp A cc)) n d.p u):=aa (fun W hW=>cJ.carry (fun b hb=>hW.block b (bB.out b hb)) (fun b hb=>⟨.inl hb,fun hm=>by have:=(ak P.out.own.own).lo b hm;have al:=bB.out b hb;omega⟩) _ _ _ k4);have aR:Hid (bJ n d.p):=aa (cT.out d (List.mem_of_getElem? hd));have bp:=aa (gE hd);obtain⟨T,av,rfl⟩:=k4.shape;obtain⟨dl,U,dp⟩:=d;dsimp only at e1 e2;have aM:Hid (∀W,Below wr.heap.size wr W->Calls Tryz.prog 323 #[.slice cp A cc,.string dl] W fun e w'=>e=.returned (.int .i64 (GY dl (J.map BV.b)))/\Below W.heap.size W w'):=aa (fun W hW=>AU n dl _ (J.map BV.b) _ W ((P.out.own.aB hW).sl) (by rw[List.length_map,HA.out];omega));clear aL k1 k2 k3 k4 hd;cases hf:gI dl (J.map BV.b)with
    |none=>
     have bn:Hid (GY dl (J.map BV.b)=-1):=aa (by rw[GY,hf]);rw[bn.out]at aM;have c1:=aa (xB P.out b7.out hf);clear hf;go_wp2_with(first|(go_at_call 323;refine(aM.out _ (ae _ _)).mono ?_;rintro e w2⟨rfl,C⟩;have I:Hid (Below wr.heap.size wr w2):=aa ((ae wr _).trans (C.mono (by simp)));have z0:=(C.cell (p:=⟨wr.heap.size,0,none⟩) (by simp));have z1:=(C.cell (p:=⟨wr.heap.size,1,none⟩) (by simp));have z2:=(C.cell (p:=⟨wr.heap.size,2,none⟩) (by simp));simp at z0 z1 z2;have ca:=aa (P.out.own.aB I.out);clear C)|(at_builtin;refine wpList_append_own_at _ rfl (.tmp 28) (.tmp 30) 298 rfl (w.heap.size+2) 341 i0 (.agg #[.string ByteArray.empty,.int .i64 0,.nilIface]) 3 40 Tryz.underlying298 HI.out.1 HI.out.2.1 HI.out.2.2.1 HI.out.2.2.2 rfl (by decide) (.slice cp A cc) A (J.flatMap BV.cells) rfl (by have:=ca.out.own;rw[HA.out]at this;exact aQ this (ae _ _)) ⟨w2.heap.size,0,none⟩ 1 1 (BV.cells (n:=n) ⟨⟨dl,U,dp⟩,.iface T (.agg av)⟩) rfl rfl (fun j u hj=>fO w2 _ _ _ rfl j u hj) (uv (HU.out w (Below.refl _ _))) (by unfold maxLen;omega) (by omega) (by have:=I.out.size;simp;omega) ?_;intro v4 w4 ay bk _ bf;have bv:=aa (vK ca.out ⟨⟨dl,U,dp⟩,.iface T (.agg av)⟩ (HU.out w2 (P.out.bU.trans (I.out.mono aN))) _ (by rw[HA.out];exact ay) bk bf);obtain⟨p4,c4,rfl⟩:=ar ay;clear ay bk bf));go_roundw;case rel=>
      have cn:=(ak P.out.own.own).lo;have C:=I.out;have cd:Below w.heap.size w2 w4:=bv.out.2.below (by have:=C.size;omega) (fun b hb=>by have:=cn b hb;omega);have d0:(aV (aw n) [(⟨dl,U,dp⟩:Br (Pn n))]).length=1+(aw n dp).length:=by rw[cC];simp[aV];omega
      have a8:=bp.out;have a5:=P.out.sz;refine⟨k+1,J++[⟨⟨dl,U,dp⟩,.iface T (.agg av)⟩],bN,by go_num,⟨by rw[List.map_append];exact c1.out,bv.out.1,?_,fun x hx=>?_,(P.out.bU.trans (C.mono aN)).trans cd,?_,?_⟩⟩;·rw[List.map_append,iT,List.length_append];have e:(aV (aw n) (List.map BV.b [(⟨⟨dl,U,dp⟩,.iface T (.agg av)⟩:BV n)])).length=1+(aw n dp).length:=d0;omega
      ·rw[List.mem_append]at hx;rcases hx with hx|hx;·exact P.out.BW x hx
       ·simp at hx;subst hx;exact aR.out
      ·exact bv.out.2.eS ((C.cell (p:=⟨w.heap.size,0,none⟩) (by show w.heap.size<wr.heap.size;omega)).trans bx) (fun hm=>by have:=cn _ hm;omega)
      ·have:=C.size;have:=cd.size;omega
     case measure=>simp[intOf];omega|some i=>
     obtain⟨b',al⟩:=vZ hf;obtain⟨x,hx,d9⟩:∃x,J[i]?=some x/\x.b=b':=by rw[List.getElem?_map]at al;cases h:J[i]? with|none=>rw[h]at al;cases al|some x=>rw[h]at al;simp at al;exact⟨x,rfl,al⟩
     subst d9;have ex:i<A:=by have:=(List.getElem?_eq_some_iff.1 hx).1;rw[HA.out]at this;exact this
     have bs:=aa (xC P.out b7.out hf hx);have bn:Hid (GY dl (J.map BV.b)=(i:Int)):=aa (by rw[GY,hf]);rw[bn.out]at aM;have a9:x∈J:=List.mem_of_getElem? hx;obtain⟨cg,dn⟩:∃cg,cp=some ⟨cg,0,none⟩:=by
      rcases P.out.own.own.2 with⟨h0,h1⟩|⟨g',eb,ee,b0,_⟩;·rw[HA.out]at h1;omega
      ·injection b0 with b0 _ _;exact⟨g',b0⟩
     subst dn;obtain⟨T1,a1,b2⟩:=(P.out.own.E0 x a9).shape;have ah:Hid (∀W,Below wr.heap.size wr W->W.cell? ⟨cg,i*3+1,none⟩=some (.int .i64 x.b.s)/\W.cell? ⟨cg,i*3+2,none⟩=some (.iface T1 (.agg a1))):=aa (fun W hW=>by have hw:=(P.out.own.aB hW).own;obtain⟨cq,ea⟩:=List.getElem?_eq_some_iff.1 hx;have e:=fun j(hj:j<3)(y:Value)(hy:(x.cells)[j]?=some y)=>cQ hw (g:=cg) (c:=cc) (by rw[HA.out]) (i*3+j) y ((dQ BV.cells 3 BV.bg J i cq j hj).trans (by rw[ea];exact hy));exact⟨e 1 (by omega) _ rfl,e 2 (by omega) _ (by rw[<-b2];rfl)⟩);have a6:Hid (∀W,Below wr.heap.size wr W->∀j,W.frozen? ⟨cg,j,none⟩=false):=aa (fun W hW j=>(ak (P.out.own.aB hW).own).free cg (by simp[ag,aJ]) j);have a7:Hid (∀W,Below wr.heap.size wr W->Calls Tryz.prog 304 #[.iface T1 (.agg a1),.iface T (.agg av)] W fun e w'=>eP n (sK S w.heap.size W.heap.size (.slice (some ⟨cg,0,none⟩) A cc)) W w' e (aU n x.b.p dp)):=aa (fun W hW=>by have hw:=P.out.own.aB hW;have em:=(kF (f:=aw n) (show(J.map BV.b)[i]?=some x.b by rw[List.getElem?_map,hx];rfl)).1;have a8:=bp.out;have a5:=P.out.sz;have:=c0.out (sK S w.heap.size W.heap.size (.slice (some ⟨cg,0,none⟩) A cc)) x.b.p dp x.u (.iface T (.agg av)) W (fun g hg=>eH hw.low hw.qj hg.1) (P.out.BW x a9) aR.out (by dsimp only at a8;omega) (by have:=hw.E0 x a9;exact this) (HU.out W (P.out.bU.trans (hW.mono aN)));rw[b2]at this;exact this);obtain⟨om,bR⟩:∃om,aU n x.b.p dp=om:=⟨_,rfl⟩;obtain⟨rq,cy⟩:∃rq,(x.b.s==U)=rq:=⟨_,rfl⟩;obtain⟨xs,b1⟩:∃xs,x.b.s=xs:=⟨_,rfl⟩;have a2:=aa bR;have cb:=aa cy;rw[bR]at a7;rw[b1]at ah cy;have bL:=aa hx;have en:=aa b1;clear hf al hx b2 bR b1 a9;cases om with
      |none=>
       have a0:Hid (bP (aU n) cs ds=none):=aa (by rw[bs.out];dsimp only;rw[a2.out]);go_wp2_with(go_at_call 323;refine(aM.out _ (ae _ _)).mono ?_;rintro e w2⟨rfl,C⟩;have I:Hid (Below wr.heap.size wr w2):=aa ((ae wr _).trans (C.mono (by simp)));have z0:=(C.cell (p:=⟨wr.heap.size,0,none⟩) (by simp));have z1:=(C.cell (p:=⟨wr.heap.size,1,none⟩) (by simp));have z2:=(C.cell (p:=⟨wr.heap.size,2,none⟩) (by simp));simp at z0 z1 z2;obtain⟨f1,f2⟩:=ah.out w2 I.out;have ax:wr.heap.size<w2.heap.size:=(by have:=C.size;simp at this;omega);clear C);go_region_law(go_simp;go_at_call 304;refine(a7.out _ I.out.drew).mono ?_;rintro e w3⟨q3,rfl,af,ac,an⟩;clear an;have bm:=aa af;have ab:Hid (Below wr.heap.size wr w3):=aa (I.out.drew.trans (ac.mono I.out.drew.size));obtain⟨t1,t2⟩:=ah.out w3 ab.out;have y1:w3.cell? ⟨wr.heap.size,1,none⟩=some (.int .i64 U):=(ac.cell (p:=⟨wr.heap.size,1,none⟩) ax).trans z1;have cm:=a6.out w3 ab.out;clear af ac);all_goals
        go_wp2_with fail;refine be (by kernel_rfl) (by kernel_rfl) (fun V hV=>?_);simp only[Act.put,List.getElem_toArray,List.getElem_cons_succ,List.getElem_cons_zero,List.setIfInBounds_toArray,List.set_cons_zero,List.set_cons_succ];have ao:=bj V;have g1:=au (w:=V) (by rw[hV];exact t1);have g2:=au (w:=V) (by rw[hV];exact y1);have HV:=aa hV;clear hV;repeat(go_big_quiet_step(fail))
        refine wpQuiet_nil ?_;intro w4 R;rw[HV.out]at R;have ad:Hid (Below wr.heap.size wr w4):=aa (ab.out.trans (R.mono ab.out.size));have az:=aa R;clear R ao g1 g2 HV;go_wp2_with fail;go_ret2;rw[a0.out];exact⟨_,rfl,(fun z hz=>by cases hz),P.out.bU.trans (ad.out.mono aN),(by first|exact .inl rfl|exact .inr ⟨_,_,rfl⟩)⟩|some q=>
       cases rq with
        |false=>
         have a0:Hid (bP (aU n) cs ds=none):=aa (by rw[bs.out];dsimp only;rw[a2.out,cb.out];rfl);go_wp2_with(go_at_call 323;refine(aM.out _ (ae _ _)).mono ?_;rintro e w2⟨rfl,C⟩;have I:Hid (Below wr.heap.size wr w2):=aa ((ae wr _).trans (C.mono (by simp)));have z0:=(C.cell (p:=⟨wr.heap.size,0,none⟩) (by simp));have z1:=(C.cell (p:=⟨wr.heap.size,1,none⟩) (by simp));have z2:=(C.cell (p:=⟨wr.heap.size,2,none⟩) (by simp));simp at z0 z1 z2;obtain⟨f1,f2⟩:=ah.out w2 I.out;have ax:wr.heap.size<w2.heap.size:=(by have:=C.size;simp at this;omega);clear C);go_region_law(go_simp;go_at_call 304;refine(a7.out _ I.out.drew).mono ?_;rintro e w3⟨q3,rfl,af,ac,an⟩;clear an;have bm:=aa af;have ab:Hid (Below wr.heap.size wr w3):=aa (I.out.drew.trans (ac.mono I.out.drew.size));obtain⟨t1,t2⟩:=ah.out w3 ab.out;have y1:w3.cell? ⟨wr.heap.size,1,none⟩=some (.int .i64 U):=(ac.cell (p:=⟨wr.heap.size,1,none⟩) ax).trans z1;have cm:=a6.out w3 ab.out;clear af ac);all_goals
          go_wp2_with fail;refine be (by kernel_rfl) (by kernel_rfl) (fun V hV=>?_);simp only[Act.put,List.getElem_toArray,List.getElem_cons_succ,List.getElem_cons_zero,List.setIfInBounds_toArray,List.set_cons_zero,List.set_cons_succ];have ao:=bj V;have g1:=au (w:=V) (by rw[hV];exact t1);have g2:=au (w:=V) (by rw[hV];exact y1);have HV:=aa hV;clear hV;repeat(go_big_quiet_step(fail))
          refine wpQuiet_nil ?_;intro w4 R;rw[HV.out]at R;have ad:Hid (Below wr.heap.size wr w4):=aa (ab.out.trans (R.mono ab.out.size));have az:=aa R;clear R ao g1 g2 HV;go_wp2_with fail;go_ret2;rw[a0.out];exact⟨_,rfl,(fun z hz=>by cases hz),P.out.bU.trans (ad.out.mono aN),(by first|exact .inl rfl|exact .inr ⟨_,_,rfl⟩)⟩|true=>
         go_wp2_with(go_at_call 323;refine(aM.out _ (ae _ _)).mono ?_;rintro e w2⟨rfl,C⟩;have I:Hid (Below wr.heap.size wr w2):=aa ((ae wr _).trans (C.mono (by simp)));have z0:=(C.cell (p:=⟨wr.heap.size,0,none⟩) (by simp));have z1:=(C.cell (p:=⟨wr.heap.size,1,none⟩) (by simp));have z2:=(C.cell (p:=⟨wr.heap.size,2,none⟩) (by simp));simp at z0 z1 z2;obtain⟨f1,f2⟩:=ah.out w2 I.out;have ax:wr.heap.size<w2.heap.size:=(by have:=C.size;simp at this;omega);clear C);go_region_law(go_simp;go_at_call 304;refine(a7.out _ I.out.drew).mono ?_;rintro e w3⟨q3,rfl,af,ac,an⟩;clear an;have bm:=aa (af q rfl);obtain⟨Tq,aq,rfl⟩:=(af q rfl).shape;have b4:Hid (w2.heap.size<=w3.heap.size):=aa (by have:=ac.size;simpa using this);have ab:Hid (Below wr.heap.size wr w3):=aa (I.out.drew.trans (ac.mono I.out.drew.size));obtain⟨t1,t2⟩:=ah.out w3 ab.out;have y1:w3.cell? ⟨wr.heap.size,1,none⟩=some (.int .i64 U):=(ac.cell (p:=⟨wr.heap.size,1,none⟩) ax).trans z1;have cm:=a6.out w3 ab.out;clear af ac);all_goals
          go_wp2_with fail;refine be (by kernel_rfl) (by kernel_rfl) (fun V hV=>?_);simp only[Act.put,List.getElem_toArray,List.getElem_cons_succ,List.getElem_cons_zero,List.setIfInBounds_toArray,List.set_cons_zero,List.set_cons_succ];have ao:=bj V;have g1:=au (w:=V) (by rw[hV];exact t1);have g2:=au (w:=V) (by rw[hV];exact y1);have HV:=aa hV;clear hV;repeat(go_big_quiet_step(fail))
          refine wpQuiet_nil ?_;intro w4 R;rw[HV.out]at R;have ad:Hid (Below wr.heap.size wr w4):=aa (ab.out.trans (R.mono ab.out.size));have az:=aa R;clear R ao g1 g2 HV;have ev:=a6.out w4 ad.out;obtain⟨v1,v2⟩:=ah.out w4 ad.out;go_wp2_with fail;go_roundw;case rel=>
           have R:=P.out.own.aB ad.out;have ej:cg<wr.heap.size:=(ak P.out.own.own).hi cg (by simp[ag,aJ]);have eg:w.heap.size+2<=cg:=(ak P.out.own.own).lo cg (by simp[ag,aJ]);have ef:=I.out.size;have bi:=az.out.size;have d7:cJ w4 (sK S w.heap.size w4.heap.size (.slice (some ⟨cg,0,none⟩) A cc)) n q (.iface Tq (.agg aq)):=cJ.carry (fun g hg=>az.out.block g (by
            rcases hg with hg|hg;·have:=eH (P.out.own.aB I.out).low (P.out.own.aB I.out).qj hg.1;have et:=ab.out.size;have:w2.heap.size<=w3.heap.size:=b4.out;omega
            ·exact hg.2)) (fun g hg=>by
            rcases hg with hg|hg;·exact⟨gq (Nat.le_trans b4.out bi) hg.1,hg.2⟩
            ·refine⟨.inr ⟨by have:=hg.1;simp at this;omega,Nat.lt_of_lt_of_le hg.2 bi⟩,fun hm=>?_⟩;simp[ag,aJ]at hm;have:=hg.1;simp at this;omega) _ _ _ bm.out;have a4:=Fj (g:=cg) (cap:=cc) (by rw[HA.out];exact R) bL.out q (.iface Tq (.agg aq)) (by rw[HA.out];exact d7);rw[HA.out]at a4;have d5:(J.map BV.b)[i]?=some x.b:=by rw[List.getElem?_map,bL.out];rfl
           have d8:=(uu (f:=aw n) ⟨x.b.l,x.b.s,q⟩ d5).1;have ey:=(lG n x.b.p dp q a2.out).1;have a8:=bp.out;have a5:=P.out.sz;have bl:(J.set i ⟨⟨x.b.l,x.b.s,q⟩,.iface Tq (.agg aq)⟩).map BV.b=(J.map BV.b).set i ⟨x.b.l,x.b.s,q⟩:=by rw[List.map_set]
           have cz:Below w.heap.size w w4:=P.out.bU.trans (ad.out.mono aN);refine⟨k+1,J.set i ⟨⟨x.b.l,x.b.s,q⟩,.iface Tq (.agg aq)⟩,bN,by go_num,⟨?_,a4.1,?_,fun y hy=>?_,cz.trans (a4.2.below cz.size (by simp;omega)),?_,?_⟩⟩;·rw[bl,bs.out,a2.out];show _=if(x.b.s==U)=true then _ else none;rw[cb.out];rfl
           ·rw[bl];dsimp only at d8 a8;omega
           ·rcases kf hy with hy|hy;·exact P.out.BW y hy
            ·subst hy;exact iA n x.b.p dp q (P.out.BW x (List.mem_of_getElem? bL.out)) aR.out a2.out
           ·rw[World.cell?_setCell_other _ _ _ _ (by intro e;injection e with e1 _;omega)];exact(ad.out.cell (p:=⟨w.heap.size,0,none⟩) (by show w.heap.size<wr.heap.size;omega)).trans bx
           ·rw[World.size_setCell];have:=ad.out.size;omega
          case measure=>simp[intOf];omega
  ·obtain rfl:k=D:=by omega
   have bz:=aa P.out.same;rw[List.drop_of_length_le (by rw[HD.out];exact Nat.le_refl _),bP]at bz;have b5:Hid ((J.map BV.b).length=A):=aa (by rw[List.length_map,HA.out]);have c5:=aa P.out.own.sl;by_cases h4:A<=4;·go_wp2_with fail;go_ret2;rw[<-bz.out,nV,if_pos (by rw[b5.out];exact h4)];exact⟨_,fq (by simp;omega),(fun z hz=>by injection hz with hz;subst hz;exact⟨_,rfl,c5.out⟩),P.out.bU,(by first|exact .inl rfl|exact .inr ⟨_,_,rfl⟩)⟩
   ·go_wp2_with fail;go_ret2;rw[<-bz.out,nV,if_neg (by rw[b5.out];exact h4)];exact⟨_,fq (by simp;omega),(fun z hz=>by cases hz),P.out.bU,(by first|exact .inl rfl|exact .inr ⟨_,_,rfl⟩)⟩
end
theorem sA{n:Nat}{p:Pn n}{S:Nat->Prop}{w:World}{u:Value}(C:bJ n p)(hS:∀g,S g->g<w.heap.size)(h:cJ w S n p u)(l:(aw n p).length<=1000):k6 u w (aw n p):=ua n p C u w (h.up (fun g j=>hS g j)) l
theorem rr{n:Nat}{p:Pn (n+1)}{a:ByteArray}{l:List (Br (Pn n))}(C:bJ (n+1) p)(h:j7 p=some (a,l)):l≠[]/\(∀b∈l,bJ n b.p)/\(aw (n+1) p).length=(aV (aw n) l).length+1:=by obtain⟨b,rfl⟩:=eU h;have j:sZ ⟨6,b,a⟩/\l≠[]/\∀b∈l,bJ n b.p:=C;exact⟨j.2.1,j.2.2,by rw[bI];rfl⟩
theorem wW:∀n:Nat,qR n:=by
 intro n;induction n with
  |zero=>intro S x y u v w hS J C hl hu l;refine kg 0 S x y u v w (sA J hS hu (by omega)) (sA C hS l (by omega)) (by omega) (by omega) hS hu _ _ _ _ _ _ _ _ _ _ (mD hu) (mD l) none ?_ (fun h=>by simp at h);rw[aU];unfold pj;simp|succ n ih=>
   intro S x y u v w hS J C hl hu l;have P:=sA J hS hu (by omega);have R:=sA C hS l (by omega);rcases CA J hu with⟨nx,ax⟩|⟨a,cs,sp,sc,U,rfl,bx⟩;·
    rcases CA C l with⟨ny,T⟩|⟨b,ds,tp,tc,ey,rfl,I⟩;·refine kg (n+1) S x y u v w P R (by omega) (by omega) hS hu _ _ _ _ _ _ _ _ _ _ ax T none ?_ (fun h=>by simp at h);rw[aU,nx];unfold pj;simp
    ·refine kg (n+1) S x y u _ w P R (by omega) (by omega) hS hu _ _ _ _ _ _ _ _ _ _ ax (kD b tp ds.length tc) none ?_ (fun h=>by simp at h);rw[aU,nx];unfold pj;simp
   ·rcases CA C l with⟨ny,T⟩|⟨b,ds,tp,tc,ey,rfl,I⟩;·refine kg (n+1) S x y _ v w P R (by omega) (by omega) hS hu _ _ _ _ _ _ _ _ _ _ (kD a sp cs.length sc) T none ?_ (fun h=>by simp at h);rw[aU,U,ny];unfold pj;simp
    ·obtain⟨h1,h2,h3⟩:=rr J U;obtain⟨h4,h5,h6⟩:=rr C ey;refine kg (n+1) S x y _ _ w P R (by omega) (by omega) hS hu _ _ _ _ _ _ _ _ _ _ (kD a sp cs.length sc) (kD b tp ds.length tc) (nV n a (bP (aU n) cs ds)) ?_ (fun _ W hW=>?_);·
      rw[aU,U,ey];unfold pj nV;cases fC (aw (n+1) x) (aw (n+1) y);·simp only[Bool.false_eq_true,if_false,Bool.true_and];cases(a.toList==b.toList)<;>cases bP (aU n) cs ds<;>rfl
      ·rfl
     ·exact yt n S ih a b cs ds h2 h5 (by omega) h1 _ _ W (fun g j=>Nat.lt_of_lt_of_le (hS g j) hW.size) (bx.carry (fun g j=>hW.block g (hS g j)) (fun g j=>j)) (I.carry (fun g j=>hW.block g (hS g j)) (fun g j=>j))
section
attribute [local go_sem ↓] Go.wp_at_zero Go.wp_at_succ
structure Cn(n:Nat)(S:Nat->Prop)(w wr:World)(l:List (Br (Pn n)))(x0:Pn n)(av:Value)(k:Nat)(x:Pn n):Prop where
 same:bF (aU n) x (l.drop k)=bF (aU n) x0 l
 at_:cJ wr (plus S w.heap.size wr.heap.size) n x av
 sz:(aw n x).length+(aV (aw n) (l.drop k)).length<=900
 BW:bJ n x
 bU:Below w.heap.size w wr
theorem Bx(n:Nat)(S:Nat->Prop)(c:Br (Pn n))(l:List (Br (Pn n)))(aL:∀b∈c::l,bJ n b.p)(ab:(aV (aw n) (c::l)).length<=900)(v:Value)(w:World)(hS:∀g,S g->g<w.heap.size)(h:qx w S v (c::l)):Calls Tryz.prog 285 #[v] w fun e w'=>eP n S w w' e (bF (aU n) c.p l):=by
 have a1:=aa aL;have ah:=aa hS;have bm:=aa ab;obtain⟨ao,cap,rfl,a3,bb,hr⟩:=h;obtain⟨g,o,rfl,j,C⟩:=hr (by simp);obtain⟨k1,k2,u0,k3,k4⟩:=C 0 c rfl;simp only[Nat.zero_mul,Nat.add_zero]at k1 k2 k3;obtain⟨T0,a0,rfl⟩:=k4.shape;have ay:g<w.heap.size:=hS g j;have af:=aa C;have bi:l.length<=900:=by have:=fV (aw n) (c::l);simp only[List.length_cons]at this;omega
 have a2:Hid (Cn n S w w l c.p (.iface T0 (.agg a0)) 0 c.p):=aa ⟨rfl,k4.up (fun g j=>.inl j),by rw[cC]at ab;simp only[List.length_cons,List.length_append,List.drop_zero]at*;omega,aL c (by simp),Below.refl _ _⟩;simp only[List.length_cons]at a3|-;obtain⟨L,hL⟩:∃L,l.length=L:=⟨_,rfl⟩;rw[hL]at a3 bi|-;have HL:=aa hL;unfold maxLen at bb;clear hr C k4 hL aL ab hS;by_cases a4:cap=1;·
  subst a4;obtain rfl:L=0:=by omega
  have HN:Hid (l=[]):=aa (List.length_eq_zero_iff.1 HL.out);go_enter Tryz.func285,Tryz.ntmps285;go_wp2_with fail;go_loopw[4,16](fun av i wr=>av=.iface T0 (.agg a0)/\i=.int .i64 0/\wr=w)(fun _ _ _=>0);case atStart=>exact⟨rfl,rfl,rfl⟩
  case round=>obtain⟨rfl,rfl,rfl⟩:=hrel;go_wp2_with fail;go_ret2;rw[HN.out];exact⟨_,rfl,(fun z hz=>by have aM:some c.p=some z:=hz;injection aM with aM;subst aM;exact a2.out.at_),Below.refl _ _,(by first|exact .inl rfl|exact .inr ⟨_,_,rfl⟩)⟩
 ·go_enter Tryz.func285,Tryz.ntmps285;go_wp2_with fail;go_loopw[4,16](fun av i wr=>∃(k:Nat)(x:Pn n),k<=L/\i=.int .i64 k/\Cn n S w wr l c.p av k x)(fun _ i _=>L-(intOf i).toNat);case atStart=>exact⟨0,c.p,Nat.zero_le _,rfl,a2.out⟩
  case round=>
   obtain⟨k,x,hk,rfl,hR⟩:=hrel;have R:=aa hR;have ac:=hR.bU.size;obtain⟨Tx,ax,rfl⟩:=hR.at_.shape;by_cases a5:k<L;·
    obtain⟨d,hd⟩:∃d,l[k]?=some d:=⟨l[k]'(by rw[HL.out];exact a5),List.getElem?_eq_getElem _⟩;obtain⟨m1,m2,u,m3,m4⟩:=af.out (k+1) d (by rw[List.getElem?_cons_succ];exact hd);obtain⟨T,av,rfl⟩:=m4.shape;have e1:=(hR.bU.cell (p:=⟨g,o+(k+1)*3,none⟩) ay).trans m1;have e2:=(hR.bU.cell (p:=⟨g,o+(k+1)*3+1,none⟩) ay).trans m2;have e3:=(hR.bU.cell (p:=⟨g,o+(k+1)*3+2,none⟩) ay).trans m3;rw[show o+(k+1)*3=o+3+k*3 by omega]at e1 e2 e3;have aN:=aa (gE hd);have aq:d∈l:=List.mem_of_getElem? hd;have aR:Hid (bF (aU n) c.p l=match aU n x d.p with|none=>none|some q=>bF (aU n) q (l.drop (k+1))):=aa (by have a6:=(List.getElem?_eq_some_iff.1 hd).1;have bf:l[k]=d:=(List.getElem?_eq_some_iff.1 hd).2;rw[<-hR.same,List.drop_eq_getElem_cons a6,bf,bF];cases aU n x d.p<;>rfl);have an:Hid (∀W,Below wr.heap.size wr W->Calls Tryz.prog 304 #[.iface Tx (.agg ax),.iface T (.agg av)] W fun e w'=>eP n (plus S w.heap.size wr.heap.size) W w' e (aU n x d.p)):=aa (fun W hW=>by have a9:=aN.out;have ab:=R.out.sz;refine wW n (plus S w.heap.size wr.heap.size) x d.p _ _ W (fun g j=>Nat.lt_of_lt_of_le (eH ah.out ac j) hW.size) R.out.BW (a1.out d (by simp[aq])) (by omega) (cJ.carry (fun g j=>hW.block g (eH ah.out ac j)) (fun g j=>j) _ _ _ R.out.at_) (cJ.carry (fun g j=>(hW.block g (Nat.lt_of_lt_of_le (ah.out g j) ac)).trans (R.out.bU.block g (ah.out g j))) (fun g j=>.inl j) _ _ _ m4));obtain⟨om,az⟩:∃om,aU n x d.p=om:=⟨_,rfl⟩;have P:=aa az;have a8:Hid (bJ n d.p):=aa (a1.out d (by simp[aq]));rw[az]at an;obtain⟨dl,bk,dp⟩:=d;dsimp only at e1 e2;clear m1 m2 m3 m4 hd aq hR az;cases om with
     |none=>have J:Hid (bF (aU n) c.p l=none):=aa (by rw[aR.out];dsimp only at P|-;rw[P.out]);go_wp2_with(go_at_call 304;refine(an.out _ (ae _ _)).mono ?_;rintro e w3⟨q3,rfl,al,I,U⟩;clear U;have ad:Hid (Below wr.heap.size wr w3):=aa ((ae wr _).trans (I.mono (by simp)));clear al I);go_ret2;rw[J.out];exact⟨_,rfl,(fun z hz=>by cases hz),R.out.bU.trans (ad.out.mono ac),(by first|exact .inl rfl|exact .inr ⟨_,_,rfl⟩)⟩|some q=>
      go_wp2_with(go_at_call 304;refine(an.out _ (ae _ _)).mono ?_;rintro e w3⟨q3,rfl,al,I,U⟩;clear U;have a7:=aa (al q rfl);have ad:Hid (Below wr.heap.size wr w3):=aa ((ae wr _).trans (I.mono (by simp)));have bl:=aa I.size;clear al I);go_roundw;case rel=>
       have bn:=(lG n x dp q P.out).1;have a9:=aN.out;have ab:=R.out.sz;refine⟨k+1,q,a5,by go_num,⟨?_,a7.out.up (fun g j=>?_),by omega,iA n x dp q R.out.BW a8.out P.out,R.out.bU.trans (ad.out.mono ac)⟩⟩;·rw[aR.out,P.out]
       ·rcases j with j|j;·exact gq ad.out.size j
        ·exact .inr ⟨by have:=j.1;simp at this;omega,j.2⟩
      case measure=>simp[intOf];omega
   ·obtain rfl:k=L:=by omega
    have J:Hid (bF (aU n) c.p l=some x):=aa (by have:=R.out.same;rw[List.drop_of_length_le (by rw[HL.out];exact Nat.le_refl _),bF]at this;exact this.symm);go_wp2_with fail;go_ret2;rw[J.out];exact⟨_,rfl,(fun z hz=>by injection hz with hz;subst hz;exact R.out.at_),R.out.bU,(by first|exact .inl rfl|exact .inr ⟨_,_,rfl⟩)⟩
def oI(role:ByteArray)(n:Nat):Prop:=∀(S:Nat->Prop)(p:Pn n)(u:Value)(w:World),(∀g,S g->g<w.heap.size)->bY n p->(aw n p).length<=40->gJ (aw n p)->cJ w S n p u->Calls Tryz.prog 209 #[u,.string role] w fun e w'=>eP n S w w' e (ba role n p)
def mo{α:Type}(l:List α):Option (List α)->Option (List α)|none=>none|some r=>some (l++r)
def sH(role:ByteArray)(n:Nat)(a b:ByteArray)(r:Option (List (Br (Pn n)))):Option (Pn (n+1)):=match r with|none=>none|some r=>if role.toList==a.toList then some (.cU ⟨5,df,b⟩ r)else if role.toList==b.toList then some (.cU ⟨6,df,a⟩ r)else match r with|[]=>none|c::r=>(bF (aU n) c.p r).map (nF n)
theorem pg(role:ByteArray)(n:Nat)(a b:ByteArray)(l:List (Br (Pn n))):ba role (n+1) (.cU ⟨3,a,b⟩ l)=sH role n a b (bt (ba role n) l):=by show(match bt (ba role n) l with|none=>none|some r=>if role.toList==a.toList then some (Pn.cU ⟨5,df,b⟩ r)else if role.toList==b.toList then some (.cU ⟨6,df,a⟩ r)else match r with|[]=>none|c::r=>(bF (aU n) c.p r).map (nF n))=_;unfold sH;cases bt (ba role n) l<;>rfl
structure Cq(role:ByteArray)(n:Nat)(S:Nat->Prop)(w wr:World)(a b:ByteArray)(l:List (Br (Pn n)))(cv:Value)(k:Nat)(acc:List (BV n)):Prop where
 same:mo (acc.map BV.b) (bt (ba role n) (l.drop k))=bt (ba role n) l
 own:zi S w.heap.size wr (w.heap.size+1) cv acc
 sz:(aV (aw n) (acc.map BV.b)).length+(aV (aw n) (l.drop k)).length<=799
 BW:∀x∈acc,bJ n x.b.p
 len:acc.length=k
 bU:Below w.heap.size w wr
 b0:wr.cell? ⟨w.heap.size,0,none⟩=some (.string a)
 b1:wr.cell? ⟨w.heap.size,1,none⟩=some (.string b)
 qj:w.heap.size+1<=wr.heap.size
theorem xD{role:ByteArray}{n:Nat}{S:Nat->Prop}{w wr:World}{a b:ByteArray}{l:List (Br (Pn n))}{J:Value}{k:Nat}{j:List (BV n)}(h:Cq role n S w wr a b l J k j){d:Br (Pn n)}(hd:l[k]?=some d):bt (ba role n) l=match ba role n d.p with|none=>none|some q=>mo (j.map BV.b++[⟨d.l,d.s,q⟩]) (bt (ba role n) (l.drop (k+1))):=by have I:=(List.getElem?_eq_some_iff.1 hd).1;have C:l[k]=d:=(List.getElem?_eq_some_iff.1 hd).2;rw[<-h.same,List.drop_eq_getElem_cons I,C,bt];cases ba role n d.p with|none=>rfl|some q=>cases bt (ba role n) (l.drop (k+1))with|none=>rfl|some r=>simp[mo]
theorem Fi{n:Nat}{S:Nat->Prop}{a:Nat}(w:World)(base:Nat)(hS:∀g,S g->g<a)(j:a<=base)(l:a<=w.heap.size):zi S a w base (.slice none 0 0) ([]:List (BV n)):=⟨de _ _ _ _,(fun x C=>by cases C),hS,j,l⟩
theorem uN(role:ByteArray)(n:Nat)(bM:oI role n)(S:Nat->Prop)(a b:ByteArray)(l:List (Br (Pn n)))(bN:bY (n+1) (.cU ⟨3,a,b⟩ l))(al:(aV (aw n) l).length<=39)(a4:gJ (aV (aw n) l))(sl:Value)(w:World)(hS:∀g,S g->g<w.heap.size)(h:qx w S sl l):Calls Tryz.prog 250 #[.agg #[.string a,.string b,sl],.string role] w fun e w'=>eP (n+1) S w w' e (sH role n a b (bt (ba role n) l)):=by
 have bR:(3:Int)=3/\(a.toList==b.toList)=false/\1<=l.length/\l.length<=4/\∀b∈l,bY n b.p:=bN;obtain⟨-,-,cr,cs,aM⟩:=bR;obtain⟨i0,hi,b3,b4,bk⟩:=info_parts Tryz.uD;have HI:=aa (And.intro hi (And.intro b3 (And.intro b4 bk)));have cf:=aa bM;have U:=aa hS;have cg:=aa aM;have bs:=aa al;have ca:=aa a4;obtain⟨ao,cap,rfl,cn,cz,hr⟩:=h;have ch:=aa hr;obtain⟨D,hD⟩:∃D,l.length=D:=⟨_,rfl⟩;rw[hD]at cr cs cn|-;have HD:=aa hD;clear hi b3 b4 bk hr bM hS aM al a4 hD bN;go_enter Tryz.func250,Tryz.ntmps250;go_wp2_with fail;go_loopw[6,14](fun cv i wr=>∃(k:Nat)(P:List (BV n)),k<=D/\i=.int .i64 k/\Cq role n S w wr a b l cv k P)(fun _ i _=>D-(intOf i).toNat);case atStart=>refine⟨0,[],Nat.zero_le _,rfl,⟨?_,Fi _ _ U.out (by omega) (by simp),by have:=bs.out;simp[aV]at this|-;omega,(fun x hx=>by cases hx),rfl,ae w _,by simp,by simp,by simp⟩⟩;rw[List.drop_zero];cases bt (ba role n) l<;>rfl
 case round=>
  obtain⟨k,P,hk,rfl,hR⟩:=hrel;have J:=aa hR;have ad:=hR.bU.size;have bk:=hR.qj;have a9:=hR.len;obtain⟨cp,cc,bB⟩:=ar hR.own.own;rw[a9]at bB;subst bB;have aN:=aa a9;have cl:=hR.b0;have cm:=hR.b1;clear hR a9;by_cases bL:k<D;·
   obtain⟨g,o,rfl,I,ah⟩:=ch.out (by rintro rfl;have:=HD.out;simp at this;omega);obtain⟨d,hd⟩:∃d,l[k]?=some d:=⟨l[k]'(by rw[HD.out];exact bL),List.getElem?_eq_getElem _⟩;obtain⟨k1,k2,u,k3,k4⟩:=ah k d hd;have bb:g<w.heap.size:=U.out g I;have e1:=(J.out.bU.cell (p:=⟨g,o+k*3,none⟩) bb).trans k1;have e2:=(J.out.bU.cell (p:=⟨g,o+k*3+1,none⟩) bb).trans k2;have e3:=(J.out.bU.cell (p:=⟨g,o+k*3+2,none⟩) bb).trans k3;have a8:Hid (bY n d.p):=aa (cg.out d (List.mem_of_getElem? hd));have b7:=aa (gE hd);have bn:=aa (kF (f:=aw n) hd);have bp:=aa (xD J.out hd);obtain⟨T,av,rfl⟩:=k4.shape;have a7:Hid (∀W,Below wr.heap.size wr W->Calls Tryz.prog 209 #[.iface T (.agg av),.string role] W fun e w'=>eP n S W w' e (ba role n d.p)):=aa (fun W hW=>by exact cf.out S d.p _ W (fun g I=>Nat.lt_of_lt_of_le (U.out g I) (Nat.le_trans ad hW.size)) a8.out (by have:=bn.out.1;have:=bs.out;omega) (bn.out.2 ca.out).2 (cJ.carry (fun g I=>(hW.block g (Nat.lt_of_lt_of_le (U.out g I) ad)).trans (J.out.bU.block g (U.out g I))) (fun g I=>I) _ _ _ k4));obtain⟨om,bi⟩:∃om,ba role n d.p=om:=⟨_,rfl⟩;have a0:=aa bi;rw[bi]at a7;obtain⟨dl,R,dp⟩:=d;dsimp only at e1 e2;clear ah k1 k2 k3 k4 hd bi;cases om with
    |none=>have ax:Hid (bt (ba role n) l=none):=aa (by rw[bp.out,a0.out]);go_wp2_with(go_at_call 209;refine(a7.out _ (ae _ _)).mono ?_;rintro e w3⟨q3,rfl,ay,ab,aL⟩;clear aL;have an:Hid (Below wr.heap.size wr w3):=aa ((ae wr _).trans (ab.mono (by simp)));clear ay ab);go_ret2;rw[ax.out];exact⟨_,rfl,(fun z hz=>by cases hz),J.out.bU.trans (an.out.mono ad),(by first|exact .inl rfl|exact .inr ⟨_,_,rfl⟩)⟩|some q=>
     go_wp2_with(first|(go_at_call 209;refine(a7.out _ (ae _ _)).mono ?_;rintro e w3⟨q3,rfl,ay,ab,aL⟩;clear aL;have bl:=aa (ay q rfl);obtain⟨Tq,aq,rfl⟩:=(ay q rfl).shape;have an:Hid (Below wr.heap.size wr w3):=aa ((ae wr _).trans (ab.mono (by simp)));have z0:=(ab.cell (p:=⟨wr.heap.size,0,none⟩) (by simp));have z1:=(ab.cell (p:=⟨wr.heap.size,1,none⟩) (by simp));simp at z0 z1;have br:=aa (J.out.own.aB an.out);clear ay ab)|(at_builtin;refine wpList_append_own_at _ rfl (.tmp 27) (.tmp 34) 298 rfl (w.heap.size+1) 341 i0 (.agg #[.string ByteArray.empty,.int .i64 0,.nilIface]) 3 40 Tryz.underlying298 HI.out.1 HI.out.2.1 HI.out.2.2.1 HI.out.2.2.2 rfl (by decide) (.slice cp k cc) k (P.flatMap BV.cells) rfl (by have:=br.out.own;rw[aN.out]at this;exact aQ this (ae _ _)) ⟨w3.heap.size,0,none⟩ 1 1 (BV.cells (n:=n) ⟨⟨dl,R,q⟩,.iface Tq (.agg aq)⟩) rfl rfl (fun j u hj=>fO w3 _ _ _ rfl j u hj) (uv bl.out) (by unfold maxLen;omega) (by omega) (by have:=an.out.size;simp;omega) ?_;intro v4 w4 ac a5 _ a3;have aR:=aa (vK br.out ⟨⟨dl,R,q⟩,.iface Tq (.agg aq)⟩ (bl.out.up (fun g I=>⟨I.elim .inl (fun k=>.inr ⟨by have:=k.1;simp at this;omega,k.2⟩),fun hm=>(by have h1:=(ak J.out.own.own).lo g hm;have h2:=(ak J.out.own.own).hi g hm;rcases I with I|I;(have:=U.out g I;omega);(have:=I.1;simp at this;omega))⟩)) _ (by rw[aN.out];exact ac) a5 a3);obtain⟨p4,c4,rfl⟩:=ar ac;clear ac a5 a3));go_roundw;case rel=>
      have bf:=(ak J.out.own.own).lo;have az:=an.out;have bz:Below w.heap.size w3 w4:=aR.out.2.below (by have:=az.size;omega) (fun b hb=>by have:=bf b hb;omega);have cI:=(gS role n dp q a8.out a0.out).1;have cq:(aV (aw n) [(⟨dl,R,q⟩:Br (Pn n))]).length=1+(aw n q).length:=by rw[cC];simp[aV];omega
      have cy:=b7.out;have al:=J.out.sz;refine⟨k+1,P++[⟨⟨dl,R,q⟩,.iface Tq (.agg aq)⟩],bL,by go_num,⟨?_,aR.out.1,?_,fun x hx=>?_,by rw[List.length_append,aN.out];rfl,(J.out.bU.trans (az.mono ad)).trans bz,?_,?_,?_⟩⟩;·rw[bp.out,a0.out,List.map_append];rfl
      ·rw[List.map_append,iT,List.length_append];have e:(aV (aw n) (List.map BV.b [(⟨⟨dl,R,q⟩,.iface Tq (.agg aq)⟩:BV n)])).length=1+(aw n q).length:=cq;omega
      ·rw[List.mem_append]at hx;rcases hx with hx|hx;·exact J.out.BW x hx
       ·simp at hx;subst hx;exact jq role n dp q a8.out a0.out
      ·exact aR.out.2.eS ((az.cell (p:=⟨w.heap.size,0,none⟩) (by show w.heap.size<wr.heap.size;omega)).trans cl) (fun hm=>by have:=bf _ hm;omega)
      ·exact aR.out.2.eS ((az.cell (p:=⟨w.heap.size,1,none⟩) (by show w.heap.size<wr.heap.size;omega)).trans cm) (fun hm=>by have:=bf _ hm;omega)
      ·have:=az.size;have:=bz.size;omega
     case measure=>simp[intOf];omega
  ·obtain rfl:k=D:=by omega
   have ax:Hid (bt (ba role n) l=some (P.map BV.b)):=aa (by have:=J.out.same;rw[List.drop_of_length_le (by rw[HD.out];exact Nat.le_refl _),bt]at this;rw[<-this];simp[mo]);have a1:=aa J.out.own.sl;obtain⟨q1,cu⟩:∃q1,(role.toList==a.toList)=q1:=⟨_,rfl⟩;obtain⟨q2,cx⟩:∃q2,(role.toList==b.toList)=q2:=⟨_,rfl⟩;have a2:Hid (sH role n a b (bt (ba role n) l)=if q1 then some (.cU ⟨5,df,b⟩ (P.map BV.b))else if q2 then some (.cU ⟨6,df,a⟩ (P.map BV.b))else match P.map BV.b with|[]=>none|c::r=>(bF (aU n) c.p r).map (nF n)):=aa (by rw[ax.out];unfold sH;simp only[cu,cx]);cases q1;·
    cases q2;·
     cases af:P with
      |nil=>have:=aN.out;rw[af]at this;simp at this;omega|cons y rest=>
       rw[af]at a2 a1;have cd:Hid (Calls Tryz.prog 285 #[.slice cp k cc] wr fun e w'=>eP n (plus S w.heap.size wr.heap.size) wr w' e (bF (aU n) y.b.p (rest.map BV.b))):=aa (by
        have hs:=J.out.BW;have al:=J.out.sz;rw[af]at hs al;refine Bx n _ y.b (rest.map BV.b) (fun b hb=>?_) (by simp only[List.map_cons]at al;omega) _ wr (fun g I=>eH U.out ad I) a1.out;rw[List.mem_cons]at hb;rcases hb with rfl|hb;·exact hs y (by simp)
        ·obtain⟨z,hz,rfl⟩:=List.mem_map.1 hb;exact hs z (by simp[hz]));clear af;go_wp2_with(go_at_call 285;refine cd.out.mono ?_;rintro e w5⟨q5,rfl,bv,bx,a6⟩;have cb:=aa a6;clear a6;have b5:=aa bv;have bm:=aa bx;clear bv bx);go_ret2;rw[a2.out];have b2:=bm.out.size;refine⟨q5,?_,fun z hz=>?_,J.out.bU.trans (bm.out.mono ad),cb.out⟩;·refine fq ?_;show((bF (aU n) y.b.p (rest.map BV.b)).map (nF n)).isSome=_;cases bF (aU n) y.b.p (rest.map BV.b)<;>rfl
       ·have C:(bF (aU n) y.b.p (rest.map BV.b)).map (nF n)=some z:=hz;cases hm:bF (aU n) y.b.p (rest.map BV.b)with
         |none=>rw[hm]at C;cases C|some z'=>
          rw[hm]at C;simp only[Option.map_some,Option.some.injEq]at C;subst C;refine JB n z' q5 ((b5.out z' hm).up (fun g I=>?_));rcases I with I|I;·exact gq b2 I
          ·exact .inr ⟨Nat.le_trans ad I.1,I.2⟩
    ·go_wp2_with fail;go_ret2;rw[a2.out];exact⟨_,rfl,(fun z hz=>by have C:some _=some z:=hz;injection C with C;subst C;exact⟨_,rfl,a1.out⟩),J.out.bU,(by first|exact .inl rfl|exact .inr ⟨_,_,rfl⟩)⟩
   ·go_wp2_with fail;go_ret2;rw[a2.out];exact⟨_,rfl,(fun z hz=>by have C:some _=some z:=hz;injection C with C;subst C;exact⟨_,rfl,a1.out⟩),J.out.bU,(by first|exact .inl rfl|exact .inr ⟨_,_,rfl⟩)⟩
structure Hl(w wr:World)(row:List Nd)(nv:Value)(k:Nat)(ns:List ByteArray):Prop where
 same:bZ ns (row.drop k)=bZ [] row
 own:wr.ownsRow w.heap.size 9 1 nv ns.length (ns.map Value.string)
 len:ns.length<=k
 bU:Below w.heap.size w wr
theorem uw(row:List Nd)(v:Value)(w:World)(hv:vq w v row):Calls Tryz.prog 303 #[v] w fun e w'=>e=.returned (.bool (bZ [] row))/\Below w.heap.size w w':=by
 obtain⟨i0,hi,ax,ay,az⟩:=info_parts Tryz.rE;have HI:=aa (And.intro hi (And.intro ax (And.intro ay az)));obtain⟨ao,cap,rfl,hl,hr⟩:=hv;have HR:=aa hr;obtain⟨L,hL⟩:∃L,row.length=L:=⟨_,rfl⟩;rw[hL]at hl|-;have HL:=aa hL;clear hr hL hi ax ay az;go_enter Tryz.func303,Tryz.ntmps303;go_wp2_with fail;go_loopw[3,8](fun nv i wr=>∃(k:Nat)(ns:List ByteArray),k<=L/\i=.int .i64 k/\Hl w wr row nv k ns)(fun _ i _=>L-(intOf i).toNat);case atStart=>exact⟨0,[],Nat.zero_le _,rfl,⟨rfl,de _ _ _ _,Nat.le_refl _,Below.refl _ _⟩⟩
 case round=>
  obtain⟨k,ns,hk,rfl,hR⟩:=hrel;have I:=aa hR;have J:=hR.bU.size;have aN:=hR.len;obtain⟨np,nc,av⟩:=ar hR.own;obtain⟨M,hM⟩:∃M,ns.length=M:=⟨_,rfl⟩;rw[hM]at av aN;have P:=aa hM;subst av;by_cases U:k<L;·
   have T:k<row.length:=by rw[HL.out];exact U
   obtain⟨b,o,rfl,an,ac⟩:=HR.out (by intro h;rw[h]at T;simp at T);have aq:=(ac.get k T).carry an hR.bU;have al:Hid (∀x,row[k]=x->bZ [] row=if x.op==2 then bZ (ns++[x.name]) (row.drop (k+1))else if x.op==1&&!cw ns x.name then false else bZ ns (row.drop (k+1))):=aa (fun x hx=>by rw[<-hR.same,List.drop_eq_getElem_cons T,hx,bZ]);obtain⟨x1,ad⟩:∃x1,row[k]=x1:=⟨_,rfl⟩;rw[ad]at aq;have R:=aa (al.out x1 ad);obtain⟨op,name,aL,many,sort⟩:=x1;obtain⟨c0,c1,c2,c3,c4⟩:=aq;dsimp only at c0 c1 c2 c3 c4;have l:Hid (wr.ownsRow w.heap.size 9 1 (.slice np M nc) M (ns.map Value.string)):=aa (by have:=hR.own;rw[P.out]at this;exact this);have a0:b<wr.heap.size:=Nat.lt_of_lt_of_le an J;clear ac ad hR hM al;by_cases h2:op=2;·
    subst h2;go_wp2_with(at_builtin;refine wpList_append_own _ rfl (.tmp 15) (.tmp 18) 42 rfl w.heap.size 9 i0 (.string ByteArray.empty) 1 16 Tryz.underlying42 HI.out.1 HI.out.2.1 HI.out.2.2.1 HI.out.2.2.2 rfl (by decide) (.slice np M nc) M (ns.map Value.string) rfl (aQ l.out ((ae wr _).trans ((ae _ _).mono (by simp)))) ⟨wr.heap.size+1,0,none⟩ 1 1 [.string name] rfl rfl (fun j u hj=>fO _ _ _ _ (by simp) j u hj) (by intro u hu;simp at hu;subst hu;rfl) (by unfold maxLen;omega) (by omega) (by simp;omega) ?_;intro v4 w4 C ab _;have aM:=aa C;have af:Hid (aG (wr.alloc (.cells #[.int .i64 2,.string name,.string aL,.int .i64 many,.int .i64 sort] 156)) w4 (ag (.slice np M nc))):=aa (by have:=(aj (ae _ _)).trans (aD ab);rwa[List.nil_append]at this);have x0:w4.cell? ⟨wr.heap.size,0,none⟩=some (.int .i64 2):=af.out.eS (by simp) (fun hm=>absurd ((ak l.out).hi _ hm) (by omega));obtain⟨p4,aR,rfl⟩:=ar C;clear C ab);go_roundw;case rel=>
     refine⟨k+1,ns++[name],U,by go_num,⟨?_,?_,by rw[List.length_append,P.out];simp;omega,(I.out.bU.trans ((ae wr _).mono J)).trans (af.out.below (by simp;omega) (ak l.out).lo)⟩⟩;·rw[R.out];rfl
     ·rw[List.length_append,List.length_singleton,P.out,List.map_append];exact aM.out
    case measure=>simp[intOf];omega
   ·have e2:(op==2)=false:=by simpa using h2
    by_cases h1:op=1;·
     subst h1;obtain⟨q,hq⟩:∃q,cw ns name=q:=⟨_,rfl⟩;have HQ:=aa hq;have ah:Hid (∀W,Below wr.heap.size wr W->Calls Tryz.prog 184 #[.slice np M nc,.string name] W fun e w'=>e=.returned (.bool q)/\w'=W):=aa (fun W hW=>by have:=il ns name (.slice np M nc) W (eA (base:=w.heap.size) (e:=9) (by rw[P.out];exact aQ l.out hW) (by rw[P.out];omega));rw[hq]at this;exact this);clear hq;cases q;·go_wp2_with(go_at_call 184;refine(ah.out _ (ae _ _)).mono ?_;rintro e w'⟨rfl,rfl⟩);go_ret;refine⟨aC ?_,I.out.bU.trans ((ae wr _).mono J)⟩;rw[R.out];simp[HQ.out]
     ·go_wp2_with(go_at_call 184;refine(ah.out _ (ae _ _)).mono ?_;rintro e w'⟨rfl,rfl⟩);go_roundw;case rel=>refine⟨k+1,ns,U,by go_num,⟨?_,by rw[P.out];exact aQ l.out (ae _ _),by rw[P.out];omega,I.out.bU.trans ((ae wr _).mono J)⟩⟩;rw[R.out];simp[HQ.out]
      case measure=>simp[intOf];omega
    ·have e1:(op==1)=false:=by simpa using h1
     go_wp2_with fail;go_roundw;case rel=>refine⟨k+1,ns,U,by go_num,⟨?_,by rw[P.out];exact aQ l.out (ae _ _),by rw[P.out];omega,I.out.bU.trans ((ae wr _).mono J)⟩⟩;rw[R.out];simp[e1,e2]
     case measure=>simp[intOf];omega
  ·have HT:Hid (bZ [] row=true):=aa (by rw[<-I.out.same,List.drop_of_length_le (by rw[HL.out];omega),bZ]);go_wp2_with fail;go_ret;exact⟨aC HT.out,I.out.bU⟩
end
theorem Di(j:ky)(ns:List Nd)(v:Value)(w:World)(R:∀n∈ns,n.fit)(P:vq w v ns)(I:ns.length<=40):Calls Tryz.prog 205 #[v] w fun e w'=>∃l,e=.returned l/\w'.ownsRow w.heap.size 9 1 l (dU ns).length ((dU ns).map Value.string)/\Below w.heap.size w w':=by obtain⟨C,cap,rfl,T,J⟩:=P;exact wE j ns C cap w R J I
theorem oF{a b:ByteArray}(h:(a.toList==b.toList)=true):a=b:=by have h:=beq_iff_eq.1 h;rw[Go.ByteArray.toList_eq,Go.ByteArray.toList_eq]at h;apply ByteArray.ext;exact Array.ext' h
theorem FC(j:List ByteArray)(t r:ByteArray):cw (gY j t) r=(cw j r||t.toList==r.toList):=by
 unfold gY;split;·
  rename_i h;cases l:(t.toList==r.toList);·rw[Bool.or_false]
  ·rw[Bool.or_true];have e:t=r:=oF l;rw[<-e];exact h
 ·simp[cw]
theorem wj(r:ByteArray):∀(ts j:List ByteArray),cw (ts.foldl gY j) r=(cw j r||ts.any fun t=>t.toList==r.toList)|[],j=>by simp|t::ts,j=>by rw[List.foldl_cons,wj r ts,FC,List.any_cons,Bool.or_assoc]
theorem Bd(r:ByteArray)(row:List Nd)(h:∀n∈row,n.op≠5/\n.op≠6):cw (dU row) r=di r row:=by
 rw[ko,wj];have j:cw [] r=false:=rfl;rw[j,Bool.false_or];clear j;induction row with
  |nil=>rfl|cons n l ih=>
   rw[List.flatMap_cons,List.any_append,ih (fun m R=>h m (by simp[R]))];unfold di;rw[List.any_cons];congr 1;obtain⟨J,P⟩:=h n (by simp);have C:(n.op==5)=false:=by simpa using J
   have I:(n.op==6)=false:=by simpa using P
   unfold bT;cases T:(n.op==3);·simp[C,I]
   ·simp
section
attribute [local go_sem ↓] Go.wp_at_zero Go.wp_at_succ
theorem DA(n:Nat)(q:Pn n)(hq:bJ n q)(x:ByteArray)(u:Value)(S:Nat->Prop)(w W:World)(hS:∀g,S g->g<w.heap.size)(h:cJ w S n q u)(C:(aw n q).length<=999)(R:Below w.heap.size w W):Calls Tryz.prog 302 #[.agg #[.string x,u]] W fun e w'=>pM W w' e (aw (n+1) (.loop x q)):=by
 obtain⟨T,a,K,e,hm,_,j⟩:=An n q (ua n q hq) x u w (h.up (fun g U=>hS g U)) C;injection e with I J;subst I;subst J;have l:=hm w;have P:(Go.method 536 297 (.agg #[.string x,u]) "loop.example/g00574/impl.row").run Tryz.prog w=.ok (302,.agg #[.string x,u]) w:=by kernel_rfl
 rw[P]at l;injection l with l _;injection l with l _;rw[l];exact j W R
theorem D7:∀(n:Nat)(p:Pn n),bY n p->∀m∈aw n p,m.op≠5/\m.op≠6:=by
 have C:∀x,∀m∈bO x,m.op≠5/\m.op≠6:=by intro x m j;cases x<;>simp[bO]at j<;>subst j<;>exact⟨by simp,by simp⟩
 intro n;induction n with
  |zero=>intro p _ m j;exact C p m j|succ n ih=>
   intro p;refine Pn.cases (P:=fun p=>bY (n+1) p->∀m∈aw (n+1) p,m.op≠5/\m.op≠6) (fun x _ m j=>C x m j) (fun x q T m j=>?_) (fun t l R m j=>?_) p;·
    rw[cO,List.mem_cons]at j;rcases j with rfl|j;·exact⟨by simp,by simp⟩
    ·exact ih q T m j
   ·have I:t.op=3/\(t.a.toList==t.b.toList)=false/\1<=l.length/\l.length<=4/\∀b∈l,bY n b.p:=R;rw[bI,List.mem_cons]at j;rcases j with rfl|j;·rw[I.1];exact⟨by simp,by simp⟩
    ·rw[aV,List.mem_flatMap]at j;obtain⟨b,J,j⟩:=j;rw[List.mem_cons]at j;rcases j with rfl|j;·exact⟨by simp,by simp⟩
     ·exact ih b.p (I.2.2.2.2 b J) m j
theorem Bp(role:ByteArray)(n:Nat)(q:Pn n)(hq:bY n q)(x:ByteArray)(u:Value)(S:Nat->Prop)(w W:World)(hS:∀g,S g->g<w.heap.size)(h:cJ w S n q u)(j:(aw (n+1) (.loop x q)).length<=40)(I:gJ (aw (n+1) (.loop x q)))(hW:Below w.heap.size w W):Calls Tryz.prog 284 #[.agg #[.string x,u],.string role] W fun e w'=>e=.returned (.bool (j9 role (aw (n+1) (.loop x q))))/\Below W.heap.size W w':=by
 have al:Hid (∀V,Below W.heap.size W V->Calls Tryz.prog 302 #[.agg #[.string x,u]] V fun e w'=>pM V w' e (aw (n+1) (.loop x q))):=aa (fun V hV=>DA n q (kP n q hq) x u S w V hS h (by rw[cO]at j;simp only[List.length_cons]at j;omega) (hW.trans (hV.mono hW.size)));have ab:=aa (D7 (n+1) (.loop x q) hq);obtain⟨T,av,rfl⟩:=h.shape;obtain⟨R,hR⟩:∃R,aw (n+1) (.loop x q)=R:=⟨_,rfl⟩;rw[hR]at al ab j I|-;have U:=aa j;have af:=aa I;obtain⟨q1,ac⟩:∃q1,cw (dU R) role=q1:=⟨_,rfl⟩;obtain⟨q2,ad⟩:∃q2,bZ [] R=q2:=⟨_,rfl⟩;have HI:Hid (j9 role R=(!q1&&q2)):=aa (by rw[j9,<-Bd role R ab.out,ac,ad]);have aL:=aa ac;have aM:=aa ad;have aN:Hid ((dU R).length<=4294967296):=aa (by
  have:∀(l P:List ByteArray),(l.foldl gY P).length<=P.length+l.length:=by intro l;induction l with|nil=>intro P;simp|cons t l ih=>intro P;rw[List.foldl_cons];refine Nat.le_trans (ih _) ?_;unfold gY;split<;>simp only[List.length_cons,List.length_append,List.length_nil]<;>omega
  have h1:=this (R.flatMap bT) [];rw[<-ko]at h1;have h2:∀l:List Nd,(l.flatMap bT).length<=2*l.length:=by intro l;induction l with|nil=>simp|cons m l ih=>rw[List.flatMap_cons,List.length_append,List.length_cons];have:=lN m;omega
  have h3:=h2 R;rw[List.length_nil,Nat.zero_add]at h1;omega);clear ac ad hR j I h hq;cases q1;all_goals go_enter Tryz.func284,Tryz.ntmps284;go_wp2_with(first|(go_at_call 302;refine(al.out _ (ae _ _)).mono ?_;rintro e w1⟨v1,rfl,ax,an⟩;have ah:=aa (ax.rd (by have:=U.out;omega));have C:Hid (Below W.heap.size W w1):=aa ((ae W _).trans (an.mono (by simp)));clear ax an)|(go_at_call 205;refine(Di e8 R _ w1 af.out ah.out U.out).mono ?_;rintro e w2⟨v2,rfl,ay,ao⟩;have aR:=aa (eA ay aN.out);have J:=aa ao;clear ay ao)|(go_at_call 184;refine(il (dU R) role _ _ aR.out).mono ?_;rw[aL.out];rintro e w3⟨rfl,rfl⟩)|(go_at_call 303;refine(uw R _ _ (ah.out.on J.out)).mono ?_;rw[aM.out];rintro e w4⟨rfl,aq⟩;have az:=aa aq;clear aq));go_ret;first|exact⟨aC (by rw[HI.out];simp),(C.out.trans (J.out.mono C.out.size)).trans (az.out.mono (Nat.le_trans C.out.size J.out.size))⟩|exact⟨aC (by rw[HI.out];simp),C.out.trans (J.out.mono C.out.size)⟩
theorem r8(role:ByteArray)(v:Value)(w:World)(j:∀W:World,(Instr.typeAssert v 245 297 true).run Tryz.prog W=.ok (.tuple #[.agg #[.string ByteArray.empty,.nilIface],.bool false]) W)(l:∀W:World,(Instr.typeAssert v 245 302 true).run Tryz.prog W=.ok (.tuple #[.agg #[.string ByteArray.empty,.string ByteArray.empty,.slice none 0 0],.bool false]) W):Calls Tryz.prog 209 #[v,.string role] w fun e w'=>e=.returned (.tuple #[v,.bool true])/\Below w.heap.size w w':=by go_enter Tryz.func209,Tryz.ntmps209;go_wp2_with fail;go_ret2;exact⟨rfl,Below.refl _ _⟩
theorem BG(role:ByteArray)(x:Option ByteArray)(v:Value)(w:World)(h:jP x v):Calls Tryz.prog 209 #[v,.string role] w fun e w'=>e=.returned (.tuple #[v,.bool true])/\Below w.heap.size w w':=by cases x with|none=>rw[show v=_ from h];exact r8 role _ w (fun W=>by kernel_rfl) (fun W=>by kernel_rfl)|some x=>rw[show v=_ from h];exact r8 role _ w (fun W=>by kernel_rfl) (fun W=>by kernel_rfl)
theorem BH(role:ByteArray)(n:Nat)(S:Nat->Prop)(o:Option (Pn (n+1)))(x:ByteArray)(T:TypeId)(I:Array Value)(w:World)(U:∀W,Below w.heap.size w W->Calls Tryz.prog 249 #[.agg #[.string x,.iface T (.agg I)],.string role] W fun e w'=>eP (n+1) S W w' e o):Calls Tryz.prog 209 #[.iface 297 (.agg #[.string x,.iface T (.agg I)]),.string role] w fun e w'=>eP (n+1) S w w' e o:=by
 have HC:=aa U;have t1:∀W:World,(Instr.typeAssert (.iface 297 (.agg #[.string x,.iface T (.agg I)])) 245 297 true).run Tryz.prog W=.ok (.tuple #[.agg #[.string x,.iface T (.agg I)],.bool true]) W:=fun W=>by kernel_rfl
 clear U;go_enter Tryz.func209,Tryz.ntmps209;go_wp2_with(go_at_call 249;refine(HC.out _ (ae _ _)).mono ?_;rintro e w1⟨q1,rfl,l,C,j⟩;have R:=aa j;clear j;have J:=aa l;have P:Hid (Below w.heap.size w w1):=aa ((ae w _).trans (C.mono (by simp)));clear l C);go_ret2;exact⟨q1,rfl,(fun z hz=>(J.out z hz).up (fun g hg=>hg.elim .inl (fun k=>.inr ⟨by have:=k.1;simp at this;omega,k.2⟩))),P.out,R.out⟩
theorem DY(role:ByteArray)(n:Nat)(S:Nat->Prop)(o:Option (Pn (n+1)))(a b:ByteArray)(p:Option Addr)(l c:Nat)(w:World)(T:∀W,Below w.heap.size w W->Calls Tryz.prog 250 #[.agg #[.string a,.string b,.slice p l c],.string role] W fun e w'=>eP (n+1) S W w' e o):Calls Tryz.prog 209 #[.iface 302 (.agg #[.string a,.string b,.slice p l c]),.string role] w fun e w'=>eP (n+1) S w w' e o:=by
 have U:=aa T;have t1:∀W:World,(Instr.typeAssert (.iface 302 (.agg #[.string a,.string b,.slice p l c])) 245 297 true).run Tryz.prog W=.ok (.tuple #[.agg #[.string ByteArray.empty,.nilIface],.bool false]) W:=fun W=>by kernel_rfl
 have t2:∀W:World,(Instr.typeAssert (.iface 302 (.agg #[.string a,.string b,.slice p l c])) 245 302 true).run Tryz.prog W=.ok (.tuple #[.agg #[.string a,.string b,.slice p l c],.bool true]) W:=fun W=>by kernel_rfl
 clear T;go_enter Tryz.func209,Tryz.ntmps209;go_wp2_with(go_at_call 250;refine(U.out _ (ae _ _)).mono ?_;rintro e w1⟨q1,rfl,C,I,j⟩;have R:=aa j;clear j;have J:=aa C;have P:Hid (Below w.heap.size w w1):=aa ((ae w _).trans (I.mono (by simp)));clear C I);go_ret2;exact⟨q1,rfl,(fun z hz=>(J.out z hz).up (fun g hg=>hg.elim .inl (fun k=>.inr ⟨by have:=k.1;simp at this;omega,k.2⟩))),P.out,R.out⟩
theorem Bq(role:ByteArray)(n:Nat)(ah:oI role n)(S:Nat->Prop)(x:ByteArray)(q:Pn n)(hq:bY n q)(I:(aw (n+1) (.loop x q)).length<=40)(C:gJ (aw (n+1) (.loop x q)))(u:Value)(w:World)(hS:∀g,S g->g<w.heap.size)(h:cJ w S n q u):Calls Tryz.prog 249 #[.agg #[.string x,u],.string role] w fun e w'=>eP (n+1) S w w' e (ba role (n+1) (.loop x q)):=by
 have P:Hid (∀W,Below w.heap.size w W->Calls Tryz.prog 284 #[.agg #[.string x,u],.string role] W fun e w'=>e=.returned (.bool (j9 role (aw (n+1) (.loop x q))))/\Below W.heap.size W w'):=aa (fun W hW=>Bp role n q hq x u S w W hS h I C hW);rw[cO]at I C;have ac:Hid (∀W,Below w.heap.size w W->Calls Tryz.prog 209 #[u,.string role] W fun e w'=>eP n S W w' e (ba role n q)):=aa (fun W hW=>ah S q u W (fun g U=>Nat.lt_of_lt_of_le (hS g U) hW.size) hq (by simp only[List.length_cons]at I;omega) (dt.1 C).2 (cJ.carry (fun g U=>hW.block g (hS g U)) (fun g U=>U) _ _ _ h));obtain⟨T,av,rfl⟩:=h.shape;obtain⟨i,hi⟩:∃i,j9 role (aw (n+1) (.loop x q))=i:=⟨_,rfl⟩;obtain⟨om,ab⟩:∃om,ba role n q=om:=⟨_,rfl⟩;have HP:Hid (ba role (n+1) (.loop x q)=if i then some (.leaf none)else om.map (Pn.loop x)):=aa (by show(if j9 role (aw (n+1) (.loop x q))then some (Pn.leaf none)else(ba role n q).map (Pn.loop x))=_;rw[hi,ab]);rw[hi]at P;rw[ab]at ac;clear hi ab I C h ah;cases i;·
  go_enter Tryz.func249,Tryz.ntmps249;go_wp2_with(first|(go_at_call 284;refine(P.out _ (ae _ _)).mono ?_;rintro e w1⟨rfl,j⟩;have J:Hid (Below w.heap.size w w1):=aa ((ae w _).trans (j.mono (by simp)));have z0:=(j.cell (p:=⟨w.heap.size,0,none⟩) (by simp));have z1:=(j.cell (p:=⟨w.heap.size,1,none⟩) (by simp));simp at z0 z1;have ao:w.heap.size<w1.heap.size:=(by have:=j.size;simp at this;omega);clear j)|(go_at_call 209;refine(ac.out _ J.out).mono ?_;rintro e w2⟨q2,rfl,ad,R,af⟩;have al:=aa ad;have an:Hid (Below w.heap.size w w2):=aa (J.out.trans (R.mono J.out.size));have y0:=(R.cell (p:=⟨w.heap.size,0,none⟩) ao).trans z0;have HZ:=aa J.out.size;clear ad R;rcases af with rfl|⟨t2,a2,rfl⟩));all_goals
   go_ret2;rw[HP.out];refine⟨_,fq ?_,fun z hz=>?_,an.out,(by first|exact .inl rfl|exact .inr ⟨_,_,rfl⟩)⟩;·show(om.map (Pn.loop x)).isSome=_;cases om<;>rfl
   ·have l:om.map (Pn.loop x)=some z:=hz;cases om with|none=>cases l|some y=>simp only[Option.map_some,Option.some.injEq]at l;subst l;exact⟨_,rfl,(al.out y rfl).up (fun g U=>U.elim .inl (fun k=>.inr ⟨Nat.le_trans HZ.out k.1,k.2⟩))⟩
 ·go_enter Tryz.func249,Tryz.ntmps249;go_wp2_with(go_at_call 284;refine(P.out _ (ae _ _)).mono ?_;rintro e w1⟨rfl,j⟩;have J:Hid (Below w.heap.size w w1):=aa ((ae w _).trans (j.mono (by simp)));clear j);go_ret2;rw[HP.out];exact⟨_,rfl,(fun z hz=>by have l:some (Pn.leaf none)=some z:=hz;injection l with l;subst l;exact rfl),J.out,(by first|exact .inl rfl|exact .inr ⟨_,_,rfl⟩)⟩
theorem pW{role:ByteArray}{n:Nat}{S:Nat->Prop}{x:Option ByteArray}{l:Pn n}{v:Value}{w:World}(h:jP x v)(I:∀W,cJ W (plus S w.heap.size W.heap.size) n l v):Calls Tryz.prog 209 #[v,.string role] w fun e w'=>eP n S w w' e (some l):=by refine(BG role x v w h).mono ?_;rintro e w'⟨rfl,C⟩;obtain⟨t,a,rfl⟩:=mZ h;exact⟨_,rfl,(fun z j=>by injection j with j;subst j;exact I w'),C,.inr ⟨_,_,rfl⟩⟩
theorem yB(role:ByteArray):∀n:Nat,oI role n:=by
 intro n;induction n with
  |zero=>intro S p u w hS J hl I h;exact pW (x:=p) h (fun W=>h)|succ n ih=>
   intro S p;refine Pn.cases (P:=fun p=>∀(u:Value)(w:World),(∀g,S g->g<w.heap.size)->bY (n+1) p->(aw (n+1) p).length<=40->gJ (aw (n+1) p)->cJ w S (n+1) p u->Calls Tryz.prog 209 #[u,.string role] w fun e w'=>eP (n+1) S w w' e (ba role (n+1) p)) (fun x u w hS J hl I h=>?_) (fun x q u w hS J hl I h=>?_) (fun t l u w hS J hl I h=>?_) p;·exact pW (x:=x) h (fun W=>h)
   ·obtain⟨u',rfl,h⟩:=h;have U:=h.shape;obtain⟨T,av,rfl⟩:=U;refine BH role n S _ x T av w (fun W C=>Bq role n ih S x q J hl I _ W (fun g j=>Nat.lt_of_lt_of_le (hS g j) C.size) (cJ.carry (fun g j=>C.block g (hS g j)) (fun g j=>j) _ _ _ h))
   ·obtain⟨op,a,b⟩:=t;have R:op=3/\(a.toList==b.toList)=false/\1<=l.length/\l.length<=4/\∀b∈l,bY n b.p:=J;obtain⟨rfl,-⟩:=R;obtain⟨sl,rfl,h⟩:=h;rw[bI]at hl I;have h':=h;obtain⟨ao,cap,rfl,-⟩:=h';rw[pg];refine DY role n S _ a b ao l.length cap w (fun W C=>uN role n ih S a b l J (by simp only[List.length_cons]at hl;omega) (dt.1 I).2 _ W (fun g j=>Nat.lt_of_lt_of_le (hS g j) C.size) (h.carry (fun g j=>C.block g (hS g j)) (fun g j=>j) (fun b _ u hu=>cJ.carry (fun g j=>C.block g (hS g j)) (fun g j=>j) _ _ _ hu)))
end
def eM:(n:Nat)->Pn n->Prop|0,_=>True|n+1,p=>p.by (fun _=>True) (fun _ q=>eM n q) (fun _ l=>l.length<=4/\∀b∈l,eM n b.p)
theorem GL:∀(n:Nat)(p:Pn n),eM n p->eM (n+1) (nF n p):=by intro n;induction n with|zero=>intro p _;trivial|succ n ih=>intro p;refine Pn.cases (P:=fun p=>eM (n+1) p->eM (n+2) (nF (n+1) p)) (fun x _=>trivial) (fun x q C=>ih q C) (fun t l C=>?_) p;have j:l.length<=4/\∀b∈l,eM n b.p:=C;refine⟨by rw[List.length_map];exact j.1,fun b I=>?_⟩;obtain⟨c,J,rfl⟩:=List.mem_map.1 I;exact ih c.p (j.2 c J)
theorem nj:∀(n:Nat)(x y z:Pn n),eM n x->eM n y->aU n x y=some z->eM n z:=by
 intro n;induction n with
  |zero=>intro x y z _ _ _;trivial|succ n ih=>
   intro x y z I R h;rw[aU]at h;split at h;·injection h with h;subst h;exact I
   ·split at h;·
     rename_i a cs b ds ex J;split at h;·
      split at h;·
       rename_i l hl;split at h;·rename_i P;injection h with h;subst h;obtain⟨T,rfl⟩:=eU ex;obtain⟨U,rfl⟩:=eU J;have j:cs.length<=4/\∀b∈cs,eM n b.p:=I;have C:ds.length<=4/\∀b∈ds,eM n b.p:=R;exact⟨P,fM (Q:=eM n) ih ds cs l j.2 C.2 hl⟩
       ·cases h
      ·cases h
     ·cases h
    ·cases h
theorem o9(role:ByteArray):∀(n:Nat)(p q:Pn n),bY n p->ba role n p=some q->eM n q:=by
 intro n;induction n with
  |zero=>intro p q _ _;trivial|succ n ih=>
   intro p;refine Pn.cases (P:=fun p=>∀q,bY (n+1) p->ba role (n+1) p=some q->eM (n+1) q) (fun x q _ h=>?_) (fun x p q hp h=>?_) (fun t l q hp h=>?_) p;·have j:some (Pn.leaf x)=some q:=h;injection j with j;subst j;trivial
   ·have j:(if j9 role (aw (n+1) (.loop x p))then some (Pn.leaf none)else(ba role n p).map (Pn.loop x))=some q:=h;have I:bY n p:=hp;split at j;·injection j with j;subst j;trivial
    ·cases hq:ba role n p with|none=>rw[hq]at j;cases j|some q'=>rw[hq]at j;simp only[Option.map_some,Option.some.injEq]at j;subst j;exact ih p q' I hq
   ·have j:(match bt (ba role n) l with|none=>none|some r=>if role.toList==t.a.toList then some (Pn.cU ⟨5,df,t.b⟩ r)else if role.toList==t.b.toList then some (.cU ⟨6,df,t.a⟩ r)else match r with|[]=>none|c::r=>(bF (aU n) c.p r).map (nF n))=some q:=h;have I:t.op=3/\(t.a.toList==t.b.toList)=false/\1<=l.length/\l.length<=4/\∀b∈l,bY n b.p:=hp;split at j;·cases j
    ·rename_i r hr;have C:=ph (Q:=bY n) (R:=eM n) (fun x y T U=>ih x y T U) l r I.2.2.2.2 hr;have J:r.length<=4:=by have:=(lI (f:=aw n) (Q:=bY n) (fun x y T U=>gS role n x y T U) l r I.2.2.2.2 hr).2;omega
     split at j;·injection j with j;subst j;exact⟨J,C⟩
     ·split at j;·injection j with j;subst j;exact⟨J,C⟩
      ·split at j;·cases j
       ·rename_i c r;cases hm:bF (aU n) c.p r with|none=>rw[hm]at j;cases j|some z=>rw[hm]at j;simp only[Option.map_some,Option.some.injEq]at j;subst j;exact GL n z (iU (Q:=eM n) (fun x y z T U h=>nj n x y z T U h) r c.p z (C c (by simp)) (fun b hb=>C b (by simp[hb])) hm)
def gW{α:Type}(mg:α->α->Option α)(j:List (Br α))(d:Br α):Option (List (Br α)):=match gI d.l j with|none=>if j.length<4 then some (j++[d])else none|some i=>match j[i]? with|none=>none|some b=>match mg b.p d.p with|none=>none|some q=>if b.s==d.s then some (j.set i ⟨b.l,b.s,q⟩)else none
def fl{α:Type}(mg:α->α->Option α):List (Br α)->List (Br α)->Option (List (Br α))|j,[]=>some j|j,d::ds=>match gW mg j d with|none=>none|some l=>fl mg l ds
def zG{α:Type}:Option (List α)->Option (List α)|none=>none|some l=>if l.length<=4 then some l else none
theorem iz{α:Type}{mg:α->α->Option α}:∀(ds j l:List (Br α)),bP mg j ds=some l->j.length<=l.length
 |[],j,l,h=>by rw[bP]at h;injection h with h;subst h;exact Nat.le_refl _|d::ds,j,l,h=>by
  rw[bP]at h;split at h;·have:=iz ds _ l h;simp at this;omega
  ·split at h;·cases h
   ·split at h;·cases h
    ·split at h;·have:=iz ds _ l h;simpa using this
     ·cases h
theorem lL{α:Type}{mg:α->α->Option α}:∀(ds j:List (Br α)),j.length<=4->fl mg j ds=zG (bP mg j ds)
 |[],j,h=>by rw[fl,bP,zG,if_pos h]|d::ds,j,h=>by
  rw[fl,bP,gW];cases J:gI d.l j with
   |none=>
    dsimp only;by_cases C:j.length<4;·rw[if_pos C];exact lL ds (j++[d]) (by simp;omega)
    ·rw[if_neg C];dsimp only;cases I:bP mg (j++[d]) ds with|none=>rfl|some l=>have:=iz ds _ l I;simp at this;rw[zG,if_neg (by omega)]
   |some i=>dsimp only;cases j[i]? with|none=>rfl|some b=>dsimp only;cases mg b.p d.p with|none=>rfl|some q=>dsimp only;cases P:(b.s==d.s)with|false=>rfl|true=>simp only[if_true];exact lL ds _ (by rw[List.length_set];exact h)
theorem y8{n:Nat}(a:ByteArray)(cs ds:List (Br (Pn n)))(h:cs.length<=4):(fl (aU n) cs ds).map (Pn.cU ⟨6,df,a⟩)=nV n a (bP (aU n) cs ds):=by rw[lL ds cs h];cases bP (aU n) cs ds with|none=>rfl|some l=>rw[zG,nV];split<;>rfl
section
attribute [local go_sem ↓] Go.wp_at_zero Go.wp_at_succ
def fS(w:World)(S:Nat->Prop)(v:Value)(l:List Nd):Prop:=∃j cap,v=.slice j l.length cap/\l.length<=cap/\cap<=maxLen/\l.length<=2000/\(l≠[]->∃g o,j=some ⟨g,o,none⟩/\S g/\cV w g o l)
theorem cV.block{w w':World}{g:Nat}(j:w'.heap[g]?=w.heap[g]?):∀{l:List Nd}{o:Nat},cV w g o l->cV w' g o l|[],_,_=>trivial|_::_,_,⟨⟨C,I,J,P,R⟩,T⟩=>⟨⟨(World.cell?_of_block (a:=⟨g,_,none⟩) j).trans C,(World.cell?_of_block (a:=⟨g,_,none⟩) j).trans I,(World.cell?_of_block (a:=⟨g,_,none⟩) j).trans J,(World.cell?_of_block (a:=⟨g,_,none⟩) j).trans P,(World.cell?_of_block (a:=⟨g,_,none⟩) j).trans R⟩,cV.block j T⟩
theorem fS.carry{w w':World}{S S':Nat->Prop}{v:Value}{l:List Nd}(h:fS w S v l)(hb:∀g,S g->w'.heap[g]?=w.heap[g]?)(hS:∀g,S g->S' g):fS w' S' v l:=by obtain⟨I,cap,e,R,T,U,h4⟩:=h;refine⟨I,cap,e,R,T,U,fun j=>?_⟩;obtain⟨g,o,J,C,P⟩:=h4 j;exact⟨g,o,J,hS g C,P.block (hb g C)⟩
theorem fS.up{w:World}{S S':Nat->Prop}{v:Value}{l:List Nd}(h:fS w S v l)(hS:∀g,S g->S' g):fS w S' v l:=h.carry (fun _ _=>rfl) hS
theorem fS.on{w w':World}{S:Nat->Prop}{v:Value}{l:List Nd}(h:fS w S v l)(hS:∀g,S g->g<w.heap.size)(C:Below w.heap.size w w'):fS w' S v l:=h.carry (fun g j=>C.block g (hS g j)) (fun _ j=>j)
theorem eo{all post:List Nd}{j:Nat}{x:Nd}{r:List Nd}(h:all.drop j=x::r++post):∃C:j<all.length,all[j]=x/\all.drop (j+1)=r++post:=by
 have C:j<all.length:=by
  rcases Nat.lt_or_ge j all.length with l|l;·exact l
  ·rw[List.drop_of_length_le l]at h;cases h
 rw[List.drop_eq_getElem_cons C,List.cons_append]at h;injection h with h1 h2;exact⟨C,h1,h2⟩
theorem ra{all j post:List Nd}{l:Nat}(h:all.drop l=j++post)(C:j≠[]):l+j.length+post.length=all.length:=by have:=congrArg List.length h;rw[List.length_drop,List.length_append]at this;have:0<j.length:=List.length_pos_iff.2 C;omega
theorem oO{all j post:List Nd}{l:Nat}(h:all.drop l=j++post):all.drop (l+j.length)=post:=by rw[<-List.drop_drop,h,List.drop_left]
def lp(n:Nat):Prop:=∀(p:Pn n)(all post:List Nd)(pos:Nat)(v:Value)(w:World)(S:Nat->Prop),(∀g,S g->g<w.heap.size)->bJ n p->all.length<=1000->all.drop pos=aw n p++post->fS w S v all->Calls Tryz.prog 233 #[v,.int .i64 pos] w fun e w'=>e=.returned (.int .i64 ((pos+(aw n p).length:Nat):Int))/\Below w.heap.size w w'
theorem pP(x:Option ByteArray)(all post:List Nd)(j:Nat)(v:Value)(w:World)(S:Nat->Prop)(hS:∀g,S g->g<w.heap.size)(hl:all.length<=1000)(h:all.drop j=bO x++post)(hv:fS w S v all):Calls Tryz.prog 233 #[v,.int .i64 j] w fun e w'=>e=.returned (.int .i64 ((j+(bO x).length:Nat):Int))/\Below w.heap.size w w':=by
 obtain⟨R,hr,P,C⟩:∃R,bO x=[R]/\(R.op=0\/R.op=1)/\R.many=0:=by cases x with|none=>exact⟨_,rfl,.inl rfl,rfl⟩|some x=>exact⟨_,rfl,.inr rfl,rfl⟩
 rw[hr]at h|-;obtain⟨T,hn,-⟩:=eo h;obtain⟨ao,cap,rfl,hc,hm,-,l⟩:=hv;obtain⟨g,o,rfl,hg,l⟩:=l (fun e=>by rw[e]at T;simp at T);have I:=l.get j T;rw[hn]at I;obtain⟨op,name,J,many,sort⟩:=R;dsimp only at C P;subst C;obtain⟨c0,c1,c2,c3,c4⟩:=I;dsimp only at c0 c1 c2 c3 c4;have HL:Hid (([⟨op,name,J,0,sort⟩]:List Nd).length=1):=aa rfl;have e2:(op==2)=false:=by rcases P with rfl|rfl<;>rfl
 have ab:=hS g hg;obtain⟨M,U⟩:∃M,all.length=M:=⟨_,rfl⟩;rw[U]at T hl hc|-;clear l hn hr h hS U P;go_enter Tryz.func233,Tryz.ntmps233;go_wp2_with fail;go_loopw[1,6](fun av kv wr=>av=.int .i64 ((j:Int)+1)/\kv=.int .i64 0/\wr=w.alloc (.cells #[.int .i64 op,.string name,.string J,.int .i64 0,.int .i64 sort] 156))(fun _ _ _=>0);case atStart=>exact⟨by go_num,rfl,rfl⟩
 case round=>obtain⟨rfl,rfl,rfl⟩:=hrel;go_wp2_with fail;go_ret;refine⟨?_,ae w _⟩;show Ending.returned (.int .i64 ((j:Int)+1))=.returned (.int .i64 ((j+1:Nat):Int));rw[Int.natCast_add];rfl
theorem vF(n:Nat)(ih:lp n)(x:ByteArray)(q:Pn n)(hq:bJ n q)(all post:List Nd)(j:Nat)(v:Value)(w:World)(S:Nat->Prop)(hS:∀g,S g->g<w.heap.size)(hl:all.length<=1000)(h:all.drop j=aw (n+1) (.loop x q)++post)(hv:fS w S v all):Calls Tryz.prog 233 #[v,.int .i64 j] w fun e w'=>e=.returned (.int .i64 ((j+(aw (n+1) (.loop x q)).length:Nat):Int))/\Below w.heap.size w w':=by rw[cO]at h|-;obtain⟨P,hn,U⟩:=eo h;have I:Hid (∀W,Below w.heap.size w W->Calls Tryz.prog 233 #[v,.int .i64 ((j+1:Nat):Int)] W fun e w'=>e=.returned (.int .i64 ((j+1+(aw n q).length:Nat):Int))/\Below W.heap.size W w'):=aa (fun W hW=>ih q all post (j+1) v W S (fun g T=>Nat.lt_of_lt_of_le (hS g T) hW.size) hq hl U (hv.on hS hW));obtain⟨ao,cap,rfl,hc,hm,-,l⟩:=hv;obtain⟨g,o,rfl,T,l⟩:=l (fun e=>by rw[e]at P;simp at P);have C:=l.get j P;rw[hn]at C;obtain⟨c0,c1,c2,c3,c4⟩:=C;dsimp only at c0 c1 c2 c3 c4;have ab:=hS g T;obtain⟨M,hM⟩:∃M,all.length=M:=⟨_,rfl⟩;rw[hM]at P hl hc I|-;clear l hn h U hS hM ih;go_enter Tryz.func233,Tryz.ntmps233;go_wp2_with(go_at_call 233;refine(I.out _ (ae _ _)).mono ?_;rintro e w1⟨rfl,J⟩;have R:Hid (Below w.heap.size w w1):=aa ((ae w _).trans (J.mono (by simp)));clear J);go_ret;refine⟨?_,R.out⟩;show Ending.returned (.int .i64 ((j+1+(aw n q).length:Nat):Int))=.returned (.int .i64 ((j+((aw n q).length+1):Nat):Int));rw[show j+1+(aw n q).length=j+((aw n q).length+1)by omega]
theorem vG(n:Nat)(ih:lp n)(t:Tk)(l:List (Br (Pn n)))(ht:t.op≠2)(aq:∀b∈l,bJ n b.p)(all post:List Nd)(j:Nat)(v:Value)(w:World)(S:Nat->Prop)(hS:∀g,S g->g<w.heap.size)(hl:all.length<=1000)(h:all.drop j=aw (n+1) (.cU t l)++post)(hv:fS w S v all):Calls Tryz.prog 233 #[v,.int .i64 j] w fun e w'=>e=.returned (.int .i64 ((j+(aw (n+1) (.cU t l)).length:Nat):Int))/\Below w.heap.size w w':=by
 rw[bI]at h|-;obtain⟨hp,hn,h1⟩:=eo h;have ad:Hid (∀(k p:Nat)(b:Br (Pn n)),l[k]?=some b->all.drop p=aV (aw n) (l.drop k)++post->(all.drop (p+1+(aw n b.p).length)=aV (aw n) (l.drop (k+1))++post/\p+1<all.length)/\∀W,Below w.heap.size w W->Calls Tryz.prog 233 #[v,.int .i64 ((p:Int)+1)] W fun e w'=>e=.returned (.int .i64 ((p+1+(aw n b.p).length:Nat):Int))/\Below W.heap.size W w'):=aa (fun k p b R hd=>by
  have P:=(List.getElem?_eq_some_iff.1 R).1;have ay:l[k]=b:=(List.getElem?_eq_some_iff.1 R).2;rw[List.drop_eq_getElem_cons P,ay,cC,List.cons_append,List.append_assoc]at hd;obtain⟨aM,a2,h2⟩:=eo (r:=aw n b.p++aV (aw n) (l.drop (k+1))) (post:=post) (by rw[hd,List.cons_append,List.append_assoc]);rw[List.append_assoc]at h2;refine⟨⟨oO h2,?_⟩,fun W hW=>?_⟩;·
   rcases Nat.lt_or_ge (p+1) all.length with h'|h';·exact h'
   ·rw[List.drop_of_length_le h']at h2;have:=congrArg List.length h2;rw[List.length_append]at this;have:=dc n b.p;simp at*;omega
  ·exact ih b.p all _ (p+1) v W S (fun g hg=>Nat.lt_of_lt_of_le (hS g hg) hW.size) (aq b (List.mem_of_getElem? R)) hl h2 (hv.on hS hW));obtain⟨ao,cap,rfl,hc,hm,-,C⟩:=hv;obtain⟨g,o,rfl,hg,C⟩:=C (fun e=>by rw[e]at hp;simp at hp);have J:=C.get j hp;rw[hn]at J;obtain⟨op,a,b⟩:=t;dsimp only at ht;obtain⟨c0,c1,c2,c3,c4⟩:=J;dsimp only at c0 c1 c2 c3 c4;have a1:=hS g hg;have e2:(op==2)=false:=by simpa using ht
 have az:l.length<=1000:=by have ab:=congrArg List.length h1;rw[List.length_drop,List.length_append]at ab;have:=fV (aw n) l;omega
 have HH:=aa h1;have U:Hid (∀p,all.drop p=aV (aw n) (l.drop l.length)++post->p<=all.length->p=j+((aV (aw n) l).length+1)):=aa (fun p hd aR=>by have ab:=congrArg List.length h1;have ah:=congrArg List.length hd;rw[List.drop_length]at ah;simp only[List.length_drop,List.length_append,aV,List.flatMap_nil,List.length_nil]at ab ah;have:j<all.length:=hp;unfold aV;omega);obtain⟨K,hK⟩:∃K,l.length=K:=⟨_,rfl⟩;obtain⟨M,hM⟩:∃M,all.length=M:=⟨_,rfl⟩;rw[hM]at hp hl hc ad U|-;rw[hK]at c3 az U;have HK:=aa hK;have HM:=aa hM;clear C hn h h1 hS hM hK ih aq ht;go_enter Tryz.func233,Tryz.ntmps233;go_wp2_with fail;go_loopw[1,6](fun av kv wr=>∃k p:Nat,k<=K/\p<=M/\av=.int .i64 p/\kv=.int .i64 k/\all.drop p=aV (aw n) (l.drop k)++post/\Below (w.heap.size+1) (w.alloc (.cells #[.int .i64 op,.string a,.string b,.int .i64 (K:Int),.int .i64 0] 156)) wr)(fun _ kv _=>K-(intOf kv).toNat);case atStart=>exact⟨0,j+1,Nat.zero_le _,hp,by go_num,rfl,HH.out,Below.refl _ _⟩
 case round=>
  obtain⟨k,p,hk,aN,rfl,rfl,hd,R⟩:=hrel;have HD:=aa hd;have HB:=aa R;have m3:wr.cell? ⟨w.heap.size,3,none⟩=some (.int .i64 (K:Int)):=(R.cell (p:=⟨w.heap.size,3,none⟩) (by simp)).trans (by simp);have T:Hid (Below w.heap.size w wr):=aa ((ae w _).trans (R.mono (by omega)));have a3:=T.out.size;clear hd R;by_cases P:k<K;·
   obtain⟨d,ac⟩:∃d,l[k]?=some d:=⟨l[k]'(by rw[HK.out];exact P),List.getElem?_eq_getElem _⟩;obtain⟨⟨an,aM⟩,I⟩:=ad.out k p d ac HD.out;have HC:=aa I;have af:=aa an;have aL:p+1+(aw n d.p).length<=M:=by have:=congrArg List.length af.out;have h0:=congrArg List.length HD.out;rw[List.length_drop]at this;rw[List.length_drop]at h0;have a0:=gE ac;simp only[List.length_append,HM.out]at this h0;omega
   clear I an ac;go_wp2_with(go_at_call 233;refine(HC.out _ T.out).mono ?_;rintro e w1⟨rfl,al⟩;have ax:=aa al;clear al);go_roundw;case rel=>exact⟨k+1,p+1+(aw n d.p).length,P,aL,rfl,by go_num,af.out,HB.out.trans (ax.out.mono (by have:=HB.out.size;simpa using this))⟩
   case measure=>simp[intOf];omega
  ·obtain rfl:k=K:=by omega
   have HE:=aa (U.out p HD.out aN);go_wp2_with fail;go_ret;refine⟨?_,T.out⟩;rw[<-HE.out];rfl
theorem iS:∀n:Nat,lp n:=by intro n;induction n with|zero=>intro p all post pos v w S hS _ hl h j;exact pP p all post pos v w S hS hl h j|succ n ih=>intro p;refine Pn.cases (P:=fun p=>∀(all post:List Nd)(pos:Nat)(v:Value)(w:World)(S:Nat->Prop),(∀g,S g->g<w.heap.size)->bJ (n+1) p->all.length<=1000->all.drop pos=aw (n+1) p++post->fS w S v all->Calls Tryz.prog 233 #[v,.int .i64 pos] w fun e w'=>e=.returned (.int .i64 ((pos+(aw (n+1) p).length:Nat):Int))/\Below w.heap.size w w') (fun x all post pos v w S hS _ hl h j=>pP x all post pos v w S hS hl h j) (fun x q all post pos v w S hS I hl h j=>vF n ih x q I all post pos v w S hS hl h j) (fun t l all post pos v w S hS I hl h j=>?_) p;have C:sZ t/\l≠[]/\∀b∈l,bJ n b.p:=I;refine vG n ih t l (fun e=>?_) C.2.2 all post pos v w S hS hl h j;rcases C.1 with J|⟨R|T,_⟩<;>omega
def Bl(role:ByteArray)(n:Nd):Bool:=n.op==3&&(n.name.toList==role.toList||n.peer.toList==role.toList)
theorem qF(role:ByteArray)(l:List Nd):di role l=l.any (Bl role):=rfl
theorem zZ{all j post:List Nd}{C k:Nat}(h:all.drop C=j++post)(J:k<j.length):∃P:C+k<all.length,all[C+k]=j[k]:=by have I:=congrArg (fun l=>l[k]?) h;rw[List.getElem?_drop,List.getElem?_append_left J,List.getElem?_eq_getElem J]at I;exact List.getElem?_eq_some_iff.1 I
theorem Gu(role:ByteArray)(all l post:List Nd)(P:Nat)(v:Value)(w:World)(S:Nat->Prop)(hS:∀g,S g->g<w.heap.size)(hl:all.length<=1000)(an:P<=1000)(h:all.drop P=l++post)(hv:fS w S v all):Calls Tryz.prog 234 #[v,.int .i64 P,.int .i64 ((P+l.length:Nat):Int),.string role] w fun e w'=>e=.returned (.bool (di role l))/\Below w.heap.size w w':=by
 obtain⟨ao,cap,rfl,hc,hm,-,C⟩:=hv;have HR:=aa C;have HH:=aa h;have HS:=aa hS;have ah:l.length<=1000:=by have:=congrArg List.length h;rw[List.length_drop,List.length_append]at this;omega
 obtain⟨M,hM⟩:∃M,l.length=M:=⟨_,rfl⟩;obtain⟨L,hL⟩:∃L,all.length=L:=⟨_,rfl⟩;rw[hM]at ah|-;rw[hL]at hl hc|-;have HM:=aa hM;have HL:=aa hL;clear C h hS hM hL;go_enter Tryz.func234,Tryz.ntmps234;go_wp2_with fail;go_loopw[9](fun i wr=>∃k:Nat,k<=M/\i=.int .i64 ((P+k:Nat):Int)/\(∀j(hj:j<l.length),j<k->Bl role l[j]=false)/\Below w.heap.size w wr)(fun i _=>P+M-(intOf i).toNat);case atStart=>exact⟨0,Nat.zero_le _,rfl,fun j _ h=>absurd h (by omega),Below.refl _ _⟩
 case round=>
  obtain⟨k,hk,rfl,ab,hb⟩:=hrel;have HA:=aa ab;have HB:=aa hb;clear ab hb;by_cases ad:k<M;·
   have af:k<l.length:=by rw[HM.out];exact ad
   obtain⟨U,ac⟩:=zZ HH.out af;obtain⟨g,o,rfl,hg,C⟩:=HR.out (fun e=>by rw[e]at U;simp at U);have J:=(C.get (P+k) U).carry (HS.out g hg) HB.out;rw[ac]at J;obtain⟨x,hx⟩:∃x,l[k]=x:=⟨_,rfl⟩;rw[hx]at J;have HX:=aa hx;obtain⟨op,name,I,many,sort⟩:=x;obtain⟨c0,c1,c2,c3,c4⟩:=J;dsimp only at c0 c1 c2 c3 c4;rw[HL.out]at U;clear C ac hx;have T:Hid (Bl role ⟨op,name,I,many,sort⟩=false->∀j(hj:j<l.length),j<k+1->Bl role l[j]=false):=aa (fun h0 j hj al=>by
    by_cases e:j=k;·subst e;rw[HX.out];exact h0
    ·exact HA.out j hj (by omega));have R:Hid (Bl role ⟨op,name,I,many,sort⟩=true->di role l=true):=aa (fun h0=>by rw[qF,List.any_eq_true];exact⟨l[k],List.getElem_mem af,by rw[HX.out];exact h0⟩);have hI:Bl role ⟨op,name,I,many,sort⟩=((op==3)&&(name.toList==role.toList||I.toList==role.toList)):=rfl;rw[hI]at T R;obtain⟨q3,h3⟩:∃q,(op==3)=q:=⟨_,rfl⟩;obtain⟨q1,h1⟩:∃q,(name.toList==role.toList)=q:=⟨_,rfl⟩;obtain⟨q2,h2⟩:∃q,(I.toList==role.toList)=q:=⟨_,rfl⟩;rw[h3,h1,h2]at T R;clear hI;cases q3;·
    go_wp2_with fail;go_roundw;case rel=>exact⟨k+1,ad,by go_num,T.out rfl,HB.out⟩
    case measure=>simp[intOf];omega
   ·cases q1;·
     cases q2;·
      go_wp2_with fail;go_roundw;case rel=>exact⟨k+1,ad,by go_num,T.out rfl,HB.out⟩
      case measure=>simp[intOf];omega
     ·go_wp2_with fail;go_ret;exact⟨aC (R.out rfl),HB.out⟩
    ·go_wp2_with fail;go_ret;exact⟨aC (R.out (by cases q2<;>rfl)),HB.out⟩
  ·obtain rfl:k=M:=by omega
   have HF:Hid (di role l=false):=aa (by rw[qF,List.any_eq_false];intro x hx;obtain⟨j,hj,rfl⟩:=List.getElem_of_mem hx;rw[HA.out j hj (by rw[<-HM.out];exact hj)];simp);go_wp2_with fail;go_ret;exact⟨aC HF.out,HB.out⟩
theorem Es(x y:List Nd)(v u:Value)(w:World)(S:Nat->Prop)(hS:∀g,S g->g<w.heap.size)(hx:fS w S v x)(hy:fS w S u y):Calls Tryz.prog 291 #[v,u] w fun e w'=>e=.returned (.bool (fC x y))/\Below w.heap.size w w':=by
 obtain⟨ax,cx,rfl,a1,a6,a3,aL⟩:=hx;obtain⟨ay,cy,rfl,a2,a7,a4,aM⟩:=hy;have aN:=aa aL;have aR:=aa aM;have HS:=aa hS;obtain⟨L,hL⟩:∃L,x.length=L:=⟨_,rfl⟩;obtain⟨M,hM⟩:∃M,y.length=M:=⟨_,rfl⟩;rw[hL]at a3 a1|-;rw[hM]at a4 a2|-;have HL:=aa hL;have HM:=aa hM;clear aL aM hL hM hS;by_cases az:L=M;·
  subst az;go_enter Tryz.func291,Tryz.ntmps291;go_wp2_with fail;go_loopw[5](fun i wr=>∃k:Nat,k<=L/\i=.int .i64 k/\(∀j(h1:j<x.length)(h2:j<y.length),j<k->oe x[j] y[j]=true)/\Below w.heap.size w wr)(fun i _=>L-(intOf i).toNat);case atStart=>exact⟨0,Nat.zero_le _,rfl,fun j _ _ h=>absurd h (by omega),Below.refl _ _⟩
  case round=>
   obtain⟨k,hk,rfl,R,C⟩:=hrel;have HA:=aa R;have l:=aa C;clear R;by_cases ab:k<L;·
    have J:k<x.length:=by rw[HL.out];exact ab
    have P:k<y.length:=by rw[HM.out];exact ab
    obtain⟨b,o,rfl,a0,T⟩:=aN.out (by intro h;rw[h]at J;simp at J);obtain⟨b',o',rfl,an,I⟩:=aR.out (by intro h;rw[h]at P;simp at P);have aq:=(T.get k J).carry (HS.out b a0) C;have av:=(I.get k P).carry (HS.out b' an) C;obtain⟨U,ac⟩:∃U,x[k]=U:=⟨_,rfl⟩;obtain⟨y1,ad⟩:∃y1,y[k]=y1:=⟨_,rfl⟩;rw[ac]at aq;rw[ad]at av;obtain⟨c0,c1,c2,c3,c4⟩:=aq;obtain⟨d0,d1,d2,d3,d4⟩:=av;obtain⟨r,hr⟩:∃r,oe U y1=r:=⟨_,rfl⟩;have heq:∀W,(Op.equalIn 10000 156 (.agg #[.int .i64 U.op,.string U.name,.string U.peer,.int .i64 U.many,.int .i64 U.sort]) (.agg #[.int .i64 y1.op,.string y1.name,.string y1.peer,.int .i64 y1.many,.int .i64 y1.sort])).run Tryz.prog W=.ok r W:=fun W=>by rw[xa,hr]
    have af:=aa hr;have ah:=aa ac;have al:=aa ad;clear T I hr ac ad C;cases r;·go_wp2_with fail;go_region;go_wp2_with fail;all_goals go_ret;exact⟨aC (sy J P (by rw[ah.out,al.out];exact af.out)),by first|exact l.out|exact l.out.drew⟩
    ·go_wp2_with fail;go_region;go_wp2_with fail;all_goals
      go_roundw;case rel=>
       refine⟨k+1,ab,by go_num,fun j h1 h2 a5=>?_,by first|exact l.out|exact l.out.drew⟩;by_cases ao:j=k;·subst ao;rw[ah.out,al.out];exact af.out
       ·exact HA.out j h1 h2 (by omega)
      case measure=>simp[intOf];omega
   ·go_wp2_with fail;go_ret;exact⟨aC (pz (by rw[HL.out,HM.out]) (fun j h1 h2=>HA.out j h1 h2 (by rw[HL.out]at h1;omega))),l.out⟩
 ·have HF:Hid (fC x y=false):=aa (py (by rw[HL.out,HM.out];exact az));have hq:((L:Int)==(M:Int))=false:=beq_eq_false_iff_ne.2 (by omega);go_enter Tryz.func291,Tryz.ntmps291;go_wp2_with fail;go_ret;exact⟨aC HF.out,Below.refl _ _⟩
end
def rB:List Nd->Option ByteArray|[]=>none|n::l=>if n.op==2 then rB l else if n.op==1 then some n.name else none
def BX:List Nd->List ByteArray|[]=>[]|n::l=>if n.op==2 then n.name::BX l else[]
def tU:List Nd->List ByteArray|[]=>[]|n::l=>if n.op==2 then n.name::tU l else tU l
theorem mG:∀(l r:List Nd)(ns:List ByteArray),bZ ns (l++r)=(bZ ns l&&bZ (ns++tU l) r)
 |[],r,ns=>by simp[bZ,tU]|n::l,r,ns=>by
  rw[List.cons_append,bZ,bZ,tU];cases h:(n.op==2);·
   simp only[Bool.false_eq_true,if_false];cases h1:(n.op==1&&!cw ns n.name);·simp only[Bool.false_eq_true,if_false];exact mG l r ns
   ·simp
  ·simp only[if_true];rw[mG l r (ns++[n.name]),List.append_assoc];rfl
theorem Ek(role:ByteArray)(l r:List Nd):di role (l++r)=(di role l||di role r):=by simp[di]
theorem pw(role:ByteArray)(n:Nd)(l:List Nd):di role (n::l)=((n.op==3&&(n.name.toList==role.toList||n.peer.toList==role.toList))||di role l):=by rw[di,List.any_cons];rfl
theorem sB:∀{l r:List Nd},fC l r=true->l=r|[],[],_=>rfl|[],_::_,h=>by cases h|_::_,[],h=>by cases h|a::l,b::r,h=>by rw[fC,Bool.and_eq_true]at h;obtain⟨R,T⟩:=h;rw[sB T];simp only[oe,Bool.and_eq_true,beq_iff_eq]at R;obtain⟨⟨⟨⟨j,C⟩,I⟩,J⟩,P⟩:=R;obtain⟨o,n,p,m,s⟩:=a;obtain⟨o',n',p',U,s'⟩:=b;dsimp only at j C I J P;rw[j,jT C,jT I,J,P]
theorem DF:∀(n:Nat)(u v z:Pn n)(x:ByteArray),aU n u v=some z->rB (aw n z)=some x->z=u/\rB (aw n v)=some x:=by
 intro n;cases n with
  |zero=>
   intro u v z x h j;rw[aU]at h;split at h;·rename_i l;injection h with h;subst h;exact⟨rfl,by rw[<-sB l];exact j⟩
   ·cases h|succ n=>
   intro u v z x h j;rw[aU]at h;split at h;·rename_i l;injection h with h;subst h;exact⟨rfl,by rw[<-sB l];exact j⟩
   ·split at h;·
     split at h;·
      split at h;·
       split at h;·injection h with h;subst h;rw[bI]at j;simp[rB]at j
       ·cases h
      ·cases h
     ·cases h
    ·cases h
theorem Cz{n:Nat}{x:ByteArray}:∀(r:List (Br (Pn n)))(u z:Pn n),bF (aU n) u r=some z->rB (aw n z)=some x->z=u/\∀b∈r,rB (aw n b.p)=some x
 |[],u,z,h,j=>by rw[bF]at h;injection h with h;exact⟨h.symm,fun b P=>(by cases P)⟩|b::r,u,z,h,j=>by
  rw[bF]at h;split at h;·cases h
  ·rename_i q R;obtain⟨l,C⟩:=Cz r q z h j;subst l;obtain⟨I,J⟩:=DF n u b.p z x R j;refine⟨I,fun d hd=>?_⟩;rcases List.mem_cons.1 hd with rfl|hd;·exact J
   ·exact C d hd
theorem kO{α:Type}{g:α->Option α}:∀(l r:List (Br α)),bt g l=some r->r.map (·.l)=l.map (·.l)/\(∀c∈r,∃b∈l,g b.p=some c.p/\c.l=b.l/\c.s=b.s)/\∀b∈l,∃c∈r,g b.p=some c.p
 |[],r,h=>by rw[bt]at h;injection h with h;subst h;exact⟨rfl,fun c j=>(by cases j),fun c j=>(by cases j)⟩|b::l,r,h=>by
  rw[bt]at h;split at h;·cases h
  ·rename_i q I;split at h;·cases h
   ·rename_i r' C;injection h with h;subst h;obtain⟨J,P,R⟩:=kO l r' C;refine⟨by rw[List.map_cons,List.map_cons,J],fun c j=>?_,fun d hd=>?_⟩;·
     rcases List.mem_cons.1 j with rfl|j;·exact⟨b,List.mem_cons_self,I,rfl,rfl⟩
     ·obtain⟨d,hd,e⟩:=P c j;exact⟨d,List.mem_cons_of_mem _ hd,e⟩
    ·rcases List.mem_cons.1 hd with rfl|hd;·exact⟨_,List.mem_cons_self,I⟩
     ·obtain⟨c,j,e⟩:=R d hd;exact⟨c,List.mem_cons_of_mem _ j,e⟩
theorem mH{n:Nat}{role x:ByteArray}:∀(l:List (Br (Pn n)))(ns:List ByteArray),(∀b∈l,di role (aw n b.p)=false/\∀ns,x∈ns->bZ ns (aw n b.p)=true)->x∈ns->di role (aV (aw n) l)=false/\bZ ns (aV (aw n) l)=true
 |[],ns,_,_=>⟨rfl,rfl⟩|b::l,ns,h,j=>by
  rw[cC];obtain⟨C,I⟩:=h b List.mem_cons_self;obtain⟨J,P⟩:=mH l (ns++tU (aw n b.p)) (fun d hd=>h d (List.mem_cons_of_mem _ hd)) (List.mem_append_left _ j);refine⟨?_,?_⟩;·rw[pw,Ek,C,J];rfl
  ·rw[bZ];simp only[show((4:Int)==2)=false from rfl,show((4:Int)==1)=false from rfl,Bool.false_and,Bool.false_eq_true,if_false];rw[mG,I ns j,P];rfl
theorem Ae(role:ByteArray):∀(n:Nat)(p q:Pn n)(x:ByteArray),bY n p->ba role n p=some q->rB (aw n q)=some x->di role (aw n p)=false/\(∀ns,x∈ns->bZ ns (aw n p)=true)/\x∉BX (aw n q):=by
 have leaf:∀(y:Option ByteArray)(x:ByteArray),rB (bO y)=some x->di role (bO y)=false/\(∀ns,x∈ns->bZ ns (bO y)=true)/\x∉BX (bO y):=by intro y x h;cases y with|none=>cases h|some y=>injection h with h;dsimp only at h;subst h;refine⟨rfl,fun ns J=>?_,by simp[bO,BX]⟩;simp[bO,bZ,jF.2 J]
 intro n;induction n with
  |zero=>intro p q x _ h C;injection h with h;subst h;exact leaf p x C|succ n ih=>
   intro p;refine Pn.cases (P:=fun p=>∀(q:Pn (n+1))(x:ByteArray),bY (n+1) p->ba role (n+1) p=some q->rB (aw (n+1) q)=some x->di role (aw (n+1) p)=false/\(∀ns,x∈ns->bZ ns (aw (n+1) p)=true)/\x∉BX (aw (n+1) q)) (fun y=>?_) (fun y T=>?_) (fun t l=>?_) p;·intro q x _ h C;have j:some (Pn.leaf y)=some q:=h;injection j with j;subst j;exact leaf y x C
   ·intro q x hp h C;have j:(if j9 role (aw (n+1) (.loop y T))then some (.leaf none)else(ba role n T).map (Pn.loop y))=some q:=h;split at j;·injection j with j;subst j;cases C
    ·rename_i ac;cases hq:ba role n T with
      |none=>rw[hq]at j;cases j|some q'=>
       rw[hq]at j;injection j with j;subst j;rw[cO]at C|-;have an:rB (aw n q')=some x:=by simpa[rB]using C
       obtain⟨h1,h2,h3⟩:=ih T q' x hp hq an;have hr:di role (aw (n+1) (.loop y T))=false:=by rw[cO];rw[pw,h1];rfl
       have hc:∀ns,x∈ns++[y]->bZ ns (aw (n+1) (.loop y T))=true:=fun ns J=>by rw[cO,bZ];simp only[show((2:Int)==2)=true from rfl,if_true];exact h2 _ J
       refine⟨hr,fun ns J=>hc ns (List.mem_append_left _ J),?_⟩;rw[cO];simp only[BX,show((2:Int)==2)=true from rfl,if_true,List.mem_cons,not_or];refine⟨fun e=>ac ?_,h3⟩;rw[j9,hr,hc [] (by simp[e])];rfl
   ·intro q x hp h C;obtain⟨af,-,-,-,ab⟩:=hp;have j:(match bt (ba role n) l with|none=>none|some r=>if role.toList==t.a.toList then some (.cU ⟨5,df,t.b⟩ r)else if role.toList==t.b.toList then some (.cU ⟨6,df,t.a⟩ r)else match r with|[]=>none|c::r=>(bF (aU n) c.p r).map (nF n))=some q:=h;split at j;·cases j
    ·rename_i r hr;split at j;·injection j with j;subst j;rw[bI]at C;simp[rB]at C
     ·rename_i ha;split at j;·injection j with j;subst j;rw[bI]at C;simp[rB]at C
      ·rename_i I;cases r with
        |nil=>cases j|cons c r=>
         dsimp only at j;cases hz:bF (aU n) c.p r with
          |none=>rw[hz]at j;cases j|some z=>
           rw[hz]at j;injection j with j;subst j;rw[zh]at C|-;obtain⟨R,U⟩:=Cz r c.p z hz C;obtain⟨-,-,ad⟩:=kO l (c::r) hr;have each:∀b∈l,∃d:Pn n,ba role n b.p=some d/\rB (aw n d)=some x:=fun b I=>by
            obtain⟨d,hd,e⟩:=ad b I;rcases List.mem_cons.1 hd with rfl|hd;·exact⟨d.p,e,by rw[<-R];exact C⟩
            ·exact⟨d.p,e,U d hd⟩
           have hk:∀b∈l,di role (aw n b.p)=false/\∀ns,x∈ns->bZ ns (aw n b.p)=true:=fun b I=>by obtain⟨d,e,hd⟩:=each b I;obtain⟨k1,k2,-⟩:=ih b.p d x (ab b I) e hd;exact⟨k1,k2⟩
           rw[bI];have ah:(t.a.toList==role.toList)=false:=by cases e:(t.a.toList==role.toList)with|false=>rfl|true=>exact absurd (by rw[beq_iff_eq]at e|-;exact e.symm) ha
           have al:(t.b.toList==role.toList)=false:=by cases e:(t.b.toList==role.toList)with|false=>rfl|true=>exact absurd (by rw[beq_iff_eq]at e|-;exact e.symm) I
           refine⟨?_,fun ns J=>?_,?_⟩;·rw[pw];dsimp only;rw[ah,al,(mH l [x] hk (by simp)).1];simp
           ·rw[bZ];simp only[af,show((3:Int)==2)=false from rfl,show((3:Int)==1)=false from rfl,Bool.false_and,Bool.false_eq_true,if_false];exact(mH l ns hk J).2
           ·obtain⟨b,I,e,-,-⟩:=(kO l (c::r) hr).2.1 c List.mem_cons_self;rw[R];exact(ih b.p c.p x (ab b I) e (by rw[<-R];exact C)).2.2
section
theorem zE{α:Type}{t:ByteArray}:∀{l:List (Br α)},gI t l=none->∀b∈l,b.l≠t
 |[],_,b,j=>by cases j|a::l,h,b,j=>by
  rw[gI]at h;split at h;·cases h
  ·rename_i I;rcases List.mem_cons.1 j with rfl|j;·intro e;exact I (by rw[e];simp)
   ·cases C:gI t l with|none=>exact zE C b j|some i=>rw[C]at h;cases h
theorem Bn{α:Type}{l:List (Br α)}{d:Br α}(h:rO l)(hd:cX d.l=true/\la d.s=true)(I:∀b∈l,b.l≠d.l):rO (l++[d]):=by
 refine⟨?_,fun b j=>?_⟩;·rw[List.map_append];exact tK h.1 (fun C=>by obtain⟨b,j,e⟩:=List.mem_map.1 C;exact I b j e)
 ·rcases List.mem_append.1 j with j|j;·exact h.2 b j
  ·simp at j;subst j;exact hd
theorem Dv{α:Type}{l:List (Br α)}{i:Nat}{b:Br α}(q:α)(h:rO l)(C:l[i]?=some b):rO (l.set i ⟨b.l,b.s,q⟩):=by
 have P:b∈l:=List.mem_of_getElem? C;refine⟨?_,fun c I=>?_⟩;·
  rw[List.map_set];have:(l.map (·.l)).set i b.l=l.map (·.l):=by
   apply List.ext_getElem?;intro j;by_cases e:i=j;·subst e;have J:=(List.getElem?_eq_some_iff.1 C).1;rw[List.getElem?_set_self (by simpa using J),List.getElem?_map,C];rfl
   ·rw[List.getElem?_set_ne e]
  dsimp only;rw[this];exact h.1
 ·rcases kf I with I|rfl;·exact h.2 c I
  ·exact h.2 b P
theorem iV{α:Type}{mg:α->α->Option α}:∀(ds j l:List (Br α)),rO j->rO ds->bP mg j ds=some l->rO l
 |[],j,l,I,_,h=>by rw[bP]at h;injection h with h;subst h;exact I|d::ds,j,l,I,hd,h=>by
  have P:cX d.l=true/\la d.s=true:=hd.2 d List.mem_cons_self;have C:rO ds:=⟨(List.nodup_cons.1 hd.1).2,fun b J=>hd.2 b (List.mem_cons_of_mem _ J)⟩;rw[bP]at h;split at h;·rename_i R;exact iV ds _ l (Bn I P (zE R)) C h
  ·split at h;·cases h
   ·rename_i b J;split at h;·cases h
    ·split at h;·exact iV ds _ l (Dv _ I J) C h
     ·cases h
section
variable {B : Tk -> Prop}
theorem FL(J:∀a b,B ⟨6,b,a⟩->B ⟨6,df,a⟩):∀(n:Nat)(sk:Sk)(u v z:Pn n),gP B n sk u->gP B n sk v->aU n u v=some z->gP B n sk z:=by
 intro n;induction n with
  |zero=>
   intro sk u v z hu _ h;rw[aU]at h;split at h;·injection h with h;subst h;exact hu
   ·cases h|succ n ih=>
   intro sk u v z hu P h;rw[aU]at h;split at h;·injection h with h;subst h;exact hu
   ·split at h;·
     rename_i a cs b ds j C;split at h;·
      split at h;·
       rename_i l hl;split at h;·rename_i I;injection h with h;subst h;obtain⟨xb,rfl⟩:=eU j;obtain⟨yb,rfl⟩:=eU C;obtain⟨T,U,u3,u4,u5⟩:=hu;obtain⟨v1,v2,v3,v4,v5⟩:=P;exact⟨J _ _ T,Nat.le_trans U (iz ds cs l hl),I,iV ds cs l u4 v4 hl,fM (Q:=gP B n (none::sk)) (fun x y z j C R=>ih _ x y z j C R) ds cs l u5 v5 hl⟩
       ·cases h
      ·cases h
     ·cases h
    ·cases h
theorem DE(I:∀a b,B ⟨6,b,a⟩->B ⟨6,df,a⟩)(n:Nat)(sk:Sk)(u v z:Pn n)(hu:gH B n sk u)(P:gH B n sk v)(h:aU n u v=some z):gH B n sk z:=by
 cases n with
  |zero=>
   rw[aU]at h;split at h;·injection h with h;subst h;exact hu
   ·cases h|succ n=>
   rw[aU]at h;split at h;·injection h with h;subst h;exact hu
   ·split at h;·
     rename_i a cs b ds j C;split at h;·
      split at h;·
       rename_i l hl;split at h;·rename_i J;injection h with h;subst h;obtain⟨xb,rfl⟩:=eU j;obtain⟨yb,rfl⟩:=eU C;obtain⟨T,U,u3,u4,u5⟩:=hu;obtain⟨v1,v2,v3,v4,v5⟩:=P;exact⟨I _ _ T,Nat.le_trans U (iz ds cs l hl),J,iV ds cs l u4 v4 hl,fM (Q:=gP B n (none::sk)) (fun x y z j C R=>FL I n _ x y z j C R) ds cs l u5 v5 hl⟩
       ·cases h
      ·cases h
     ·cases h
    ·cases h
theorem J0:∀(n:Nat)(sk:Sk)(q:Pn n),gP B n sk q->gP B (n+1) sk (nF n q):=by
 intro n;induction n with
  |zero=>intro sk q h;exact h|succ n ih=>
   intro sk q;refine Pn.cases (P:=fun q=>gP B (n+1) sk q->gP B (n+1+1) sk (nF (n+1) q)) (fun x h=>h) (fun x q h=>?_) (fun t l h=>?_) q;·exact⟨h.1,h.2.1,ih _ q h.2.2⟩
   ·obtain⟨J,R,T,I,U⟩:=h;refine⟨J,by rw[List.length_map];exact R,by rw[List.length_map];exact T,⟨by rw[List.map_map];exact I.1,fun b j=>?_⟩,fun b j=>?_⟩;·obtain⟨c,C,rfl⟩:=List.mem_map.1 j;exact I.2 c C
    ·obtain⟨c,C,rfl⟩:=List.mem_map.1 j;exact ih _ c.p (U c C)
theorem JC:∀(n:Nat)(sk:Sk)(q:Pn n),gH B n sk q->gH B (n+1) sk (nF n q):=by
 intro n;induction n with
  |zero=>intro sk q h;exact h|succ n ih=>
   intro sk q;refine Pn.cases (P:=fun q=>gH B (n+1) sk q->gH B (n+1+1) sk (nF (n+1) q)) (fun x h=>h) (fun x q h=>?_) (fun t l h=>?_) q;·exact⟨h.1,h.2.1,ih _ q h.2.2⟩
   ·obtain⟨J,R,T,I,U⟩:=h;refine⟨J,by rw[List.length_map];exact R,by rw[List.length_map];exact T,⟨by rw[List.map_map];exact I.1,fun b j=>?_⟩,fun b j=>?_⟩;·obtain⟨c,C,rfl⟩:=List.mem_map.1 j;exact I.2 c C
    ·obtain⟨c,C,rfl⟩:=List.mem_map.1 j;exact J0 _ _ c.p (U c C)
theorem qB:∀(sk:Sk)(x:ByteArray),bB true sk x=wB sk x|[],_=>rfl|some y::sk,x=>by rw[bB,qB sk x];show _=((y.toList==x.toList)||wB sk x);cases(y.toList==x.toList)<;>rfl|none::sk,x=>by rw[bB,qB sk x];show _=(false||wB sk x);rfl
theorem I5:∀(sk:Sk)(x:ByteArray),bB false sk x=true->wB sk x=true
 |some y::sk,x,h=>by
  rw[bB]at h;split at h;·cases h
  ·show((y.toList==x.toList)||wB sk x)=true;rw[I5 sk x h,Bool.or_true]|none::sk,x,h=>by rw[bB,qB]at h;show(false||wB sk x)=true;rw[h];rfl
theorem G6:∀(n:Nat)(sk:Sk)(q:Pn n),gH B n sk q->(∀x,rB (aw n q)=some x->x∉BX (aw n q)/\bB false sk x=true)->gP B n sk q:=by
 have leaf:∀(y:Option ByteArray)(sk:Sk),(∀x,rB (bO y)=some x->x∉BX (bO y)/\bB false sk x=true)->tF sk y:=by intro y sk h;cases y with|none=>trivial|some y=>exact(h y rfl).2
 intro n;induction n with|zero=>intro sk q _ h;exact leaf q sk h|succ n ih=>intro sk q;refine Pn.cases (P:=fun q=>gH B (n+1) sk q->(∀x,rB (aw (n+1) q)=some x->x∉BX (aw (n+1) q)/\bB false sk x=true)->gP B (n+1) sk q) (fun y _ h=>leaf y sk h) (fun y q h I=>?_) (fun t l h _=>h) q;refine⟨h.1,h.2.1,ih _ q h.2.2 (fun x C=>?_)⟩;have j:=I x (by rw[cO];simpa[rB]using C);rw[cO]at j;simp only[BX,show((2:Int)==2)=true from rfl,if_true,List.mem_cons,not_or]at j;refine⟨j.1.2,?_⟩;rw[bB,if_neg (fun e=>j.1.1 (jT (beq_iff_eq.1 e)).symm)];exact j.2
theorem wh(J:∀t,B t->t.op≠1/\t.op≠2):∀(n:Nat)(sk:Sk)(q:Pn n)(x:ByteArray),gH B n sk q->rB (aw n q)=some x->x∉BX (aw n q)->wB sk x=true:=by
 have leaf:∀(y:Option ByteArray)(sk:Sk)(x:ByteArray),zS sk y->rB (bO y)=some x->wB sk x=true:=by intro y sk x h j;cases y with|none=>cases j|some y=>injection j with j;dsimp only at j;subst j;exact h
 intro n;induction n with
  |zero=>intro sk q x h j _;exact leaf q sk x h j|succ n ih=>
   intro sk q x;refine Pn.cases (P:=fun q=>gH B (n+1) sk q->rB (aw (n+1) q)=some x->x∉BX (aw (n+1) q)->wB sk x=true) (fun y h j _=>leaf y sk x h j) (fun y q h j I=>?_) (fun t l h j _=>?_) q;·
    rw[cO]at j I;simp only[BX,show((2:Int)==2)=true from rfl,if_true,List.mem_cons,not_or]at I;have:=ih _ q x h.2.2 (by simpa[rB]using j) I.2;have C:((y.toList==x.toList)||wB sk x)=true:=this;rw[Bool.or_eq_true]at C;rcases C with C|C;·exact absurd (jT (beq_iff_eq.1 C)).symm I.1
    ·exact C
   ·obtain⟨R,C⟩:=J t h.1;rw[bI]at j;simp[rB,R,C]at j
theorem Hs(j:∀a b,B ⟨6,b,a⟩->B ⟨6,df,a⟩)(n:Nat)(sk:Sk):∀(r:List (Br (Pn n)))(u z:Pn n),gH B n sk u->(∀b∈r,gH B n sk b.p)->bF (aU n) u r=some z->gH B n sk z:=fun r u z hu l h=>iU (Q:=gH B n sk) (fun x y z C I J=>DE j n sk x y z C I J) r u z hu l h
theorem vP{a b:ByteArray}(h:a.toList=b.toList):a=b:=by rw[Go.ByteArray.toList_eq,Go.ByteArray.toList_eq]at h;cases a;cases b;simpa using h
theorem F7{A:Tk->Prop}(role:ByteArray)(hA:∀t,A t->(t.a=role->B ⟨5,df,t.b⟩)/\(t.b=role->B ⟨6,df,t.a⟩))(hB:∀a b,B ⟨6,b,a⟩->B ⟨6,df,a⟩)(ac:∀t,B t->t.op≠1/\t.op≠2):∀(n:Nat)(sk j:Sk)(p q:Pn n),(∀x,wB j x=wB sk x)->gP A n sk p->bY n p->ba role n p=some q->gH B n j q:=by
 have leaf:∀(y:Option ByteArray)(sk j:Sk),(∀x,wB j x=wB sk x)->tF sk y->zS j y:=by intro y sk j I h;cases y with|none=>trivial|some y=>exact(I y).trans (I5 sk y h)
 intro n;induction n with
  |zero=>intro sk j p q I J _ h;injection h with h;subst h;exact leaf p sk j I J|succ n ih=>
   intro sk j p;refine Pn.cases (P:=fun p=>∀q:Pn (n+1),(∀x,wB j x=wB sk x)->gP A (n+1) sk p->bY (n+1) p->ba role (n+1) p=some q->gH B (n+1) j q) (fun y=>?_) (fun y p'=>?_) (fun t l=>?_) p;·intro q I J _ h;have C:some (Pn.leaf y)=some q:=h;injection C with C;subst C;exact leaf y sk j I J
   ·intro q I J hp h;have C:(if j9 role (aw (n+1) (.loop y p'))then some (.leaf none)else(ba role n p').map (Pn.loop y))=some q:=h;split at C;·injection C with C;subst C;exact trivial
    ·cases hq:ba role n p' with|none=>rw[hq]at C;cases C|some q'=>rw[hq]at C;injection C with C;subst C;refine⟨J.1,(I y).trans J.2.1,ih (some y::sk) (some y::j) p' q' (fun x=>?_) J.2.2 hp hq⟩;show((y.toList==x.toList)||wB j x)=((y.toList==x.toList)||wB sk x);rw[I]
   ·intro q I J hp h;obtain⟨ah,-,-,-,U⟩:=hp;obtain⟨g1,g2,g3,g4,g5⟩:=J;have C:(match bt (ba role n) l with|none=>none|some r=>if role.toList==t.a.toList then some (.cU ⟨5,df,t.b⟩ r)else if role.toList==t.b.toList then some (.cU ⟨6,df,t.a⟩ r)else match r with|[]=>none|c::r=>(bF (aU n) c.p r).map (nF n))=some q:=h;split at C;·cases C
    ·rename_i r hr;obtain⟨e1,e2,-⟩:=kO l r hr;have el:r.length=l.length:=by have:=congrArg List.length e1;simpa using this
     have T:rO r:=⟨by rw[e1];exact g4.1,fun c hc=>by obtain⟨b,R,-,e3,e4⟩:=e2 c hc;rw[e3,e4];exact g4.2 b R⟩;have ab:∀c∈r,gP B n (none::j) c.p:=fun c hc=>by obtain⟨b,R,e,-,-⟩:=e2 c hc;have hH:=ih (none::sk) (none::j) b.p c.p (fun x=>by show(false||wB j x)=(false||wB sk x);rw[I]) (g5 b R) (U b R) e;refine G6 n _ c.p hH (fun x hx=>?_);have hs:=(Ae role n b.p c.p x (U b R) e hx).2.2;refine⟨hs,?_⟩;rw[bB,qB];have:=wh ac n _ c.p x hH hx hs;exact this
     split at C;·rename_i ad;injection C with C;subst C;exact⟨(hA t g1).1 (vP (eq_of_beq ad)).symm,by omega,by omega,T,ab⟩
     ·split at C;·rename_i af;injection C with C;subst C;exact⟨(hA t g1).2 (vP (eq_of_beq af)).symm,by omega,by omega,T,ab⟩
      ·cases r with
        |nil=>cases C|cons c r=>
         dsimp only at C;cases hz:bF (aU n) c.p r with
          |none=>rw[hz]at C;cases C|some z=>
           rw[hz]at C;injection C with C;subst C;have out:∀d∈c::r,gH B n j d.p:=fun d hd=>by obtain⟨b,R,e,-,-⟩:=e2 d hd;exact ih (none::sk) j b.p d.p (fun x=>(I x).trans (by show _=(false||wB sk x);rfl)) (g5 b R) (U b R) e
           exact JC n j z (Hs hB n j r c.p z (out c List.mem_cons_self) (fun d hd=>out d (List.mem_cons_of_mem _ hd)) hz)
theorem Iw{A:Tk->Prop}(role:ByteArray)(J:∀t,A t->(t.a=role->B ⟨5,df,t.b⟩)/\(t.b=role->B ⟨6,df,t.a⟩))(P:∀a b,B ⟨6,b,a⟩->B ⟨6,df,a⟩)(j:∀t,B t->t.op≠1/\t.op≠2)(n:Nat)(p q:Pn n)(R:gP A n [] p)(C:bY n p)(h:ba role n p=some q):gP B n [] q:=by have l:=F7 role J P j n [] [] p q (fun _=>rfl) R C h;refine G6 n [] q l (fun x I=>?_);have T:=(Ae role n p q x C h I).2.2;have:=wh j n [] q x l I T;cases this
end
end
