import Derived.RangeFuncNested
import Derived.OrdersIn
import Derived.Test.YtdiiiijkhpdcbaaGreatDoorRV04
import Derived.Test.YtdiiiijkhpdcbaaGreatDoorRV08
namespace Go.Proofs.YtdiiiijkhpdcbaaGreatDoor
open Go.RowKit
set_option linter.unusedSimpArgs false
set_option linter.unusedVariables false
structure aA where
 src:Int
 label:ByteArray
 sort:Int
 dst:Int
def aA.val(x:aA):Value:=.agg #[.int .i64 x.src,.string x.label,.int .i64 x.sort,.int .i64 x.dst]
def aA.ok(x:aA):Prop:=x.label.size<=maxLen
def aA.fit(x:aA):Prop:=x.label.size<=1048576
def fR(w:World)(b o:Nat)(x:aA):Prop:=w.cell? ⟨b,o,none⟩=some (.int .i64 x.src)/\w.cell? ⟨b,o+1,none⟩=some (.string x.label)/\w.cell? ⟨b,o+2,none⟩=some (.int .i64 x.sort)/\w.cell? ⟨b,o+3,none⟩=some (.int .i64 x.dst)
def fE(w:World)(b:Nat):Nat->List aA->Prop|_,[]=>True|o,x::l=>fR w b o x/\fE w b (o+4) l
theorem fR.carry{w w':World}{b o:Nat}{x:aA}(h:fR w b o x){B:Nat}(j:b<B)(l:Below B w w'):fR w' b o x:=by obtain⟨I,J,R,T⟩:=h;exact⟨(l.cell (p:=⟨b,_,none⟩) j).trans I,(l.cell (p:=⟨b,_,none⟩) j).trans J,(l.cell (p:=⟨b,_,none⟩) j).trans R,(l.cell (p:=⟨b,_,none⟩) j).trans T⟩
theorem fR.lt{w:World}{b o:Nat}{x:aA}(h:fR w b o x):b<w.heap.size:=World.block_lt_of_cell? w _ h.1
theorem fE.carry{w w':World}{b B:Nat}(j:b<B)(I:Below B w w'):∀{l:List aA}{o:Nat},fE w b o l->fE w' b o l|[],_,_=>trivial|_::_,_,h=>⟨h.1.carry j I,fE.carry j I h.2⟩
theorem fE.get{w:World}{b:Nat}:∀{l:List aA}{o:Nat},fE w b o l->∀i(h:i<l.length),fR w b (o+i*4) l[i]|_::_,_,h,0,_=>by simpa using h.1|_::l,o,h,i+1,hi=>by have:=h.2.get i (by simpa using hi);rw[show o+4+i*4=o+(i+1)*4 from by omega]at this;simpa using this
theorem fE.of(w:World)(g:Nat):∀(l:List aA)(o:Nat),(∀j(h:j<l.length),fR w g (o+j*4) l[j])->fE w g o l|[],_,_=>trivial|x::l,o,h=>⟨by have:=h 0 (by simp);simpa only[Nat.zero_mul,Nat.add_zero,List.getElem_cons_zero]using this,fE.of w g l (o+4) (fun j I=>by have:=h (j+1) (by simpa using I);rw[show o+(j+1)*4=o+4+j*4 from by omega]at this;simpa only[List.getElem_cons_succ]using this)⟩
def dG(w:World)(B:Nat)(v:Value)(l:List aA):Prop:=∃j cap,v=.slice j l.length cap/\l.length<=cap/\l.length<=4294967296/\(l≠[]->∃b o,j=some ⟨b,o,none⟩/\b<B/\fE w b o l)
theorem dG.carry{w w':World}{B:Nat}{v:Value}{l:List aA}(h:dG w B v l)(hb:Below B w w'):dG w' B v l:=by obtain⟨J,cap,R,T,U,h4⟩:=h;refine⟨J,cap,R,T,U,fun I=>?_⟩;obtain⟨b,o,e,j,hr⟩:=h4 I;exact⟨b,o,e,j,hr.carry j hb⟩
theorem dG.up{w:World}{B I:Nat}{v:Value}{l:List aA}(h:dG w B v l)(hB:B<=I):dG w I v l:=by obtain⟨J,cap,R,T,U,h4⟩:=h;refine⟨J,cap,R,T,U,fun j=>?_⟩;obtain⟨b,o,e,ab,hr⟩:=h4 j;exact⟨b,o,e,by omega,hr⟩
theorem fR.block{w w':World}{b o:Nat}{x:aA}(h:fR w b o x)(j:w'.heap[b]?=w.heap[b]?):fR w' b o x:=by obtain⟨l,I,J,R⟩:=h;exact⟨(World.cell?_of_block (a:=⟨b,_,none⟩) j).trans l,(World.cell?_of_block (a:=⟨b,_,none⟩) j).trans I,(World.cell?_of_block (a:=⟨b,_,none⟩) j).trans J,(World.cell?_of_block (a:=⟨b,_,none⟩) j).trans R⟩
theorem fE.block{w w':World}{b:Nat}(j:w'.heap[b]?=w.heap[b]?):∀{l:List aA}{o:Nat},fE w b o l->fE w' b o l|[],_,_=>trivial|_::_,_,h=>⟨h.1.block j,fE.block j h.2⟩
theorem dG.aB{w w':World}{B J:Nat}{v:Value}{l:List aA}(h:dG w B v l)(hB:B<=J)(hk:∀b,v.ownBlock=some b->b<B->w'.heap[b]?=w.heap[b]?):dG w' J v l:=by obtain⟨R,cap,rfl,T,U,h4⟩:=h;refine⟨R,cap,rfl,T,U,fun I=>?_⟩;obtain⟨b,o,rfl,j,hr⟩:=h4 I;exact⟨b,o,rfl,by omega,hr.block (hk b rfl j)⟩
theorem dG.ix{w:World}{B:Nat}{v:Value}{l:List aA}(h:dG w B v l):l.length<=4294967296:=by obtain⟨j,cap,_,I,J,_⟩:=h;omega
theorem Tryz.oT:(Tryz.prog.info? 213).map (fun i=>(i.zero,i.size,i.bytes))=some (some (.agg #[.int .i64 0,.string ByteArray.empty,.int .i64 0,.int .i64 0]),4,40):=by kernel_rfl
def Cl(P:Program)(gf:Nat)(lb:Array Value)(N:Nat)(Y:Nat->Array Value->World->World->Prop)(K:World->Prop):Prop:=∀(l:Nat)(J:Nat->List Nat->World->Prop)(X:List Nat)(W:World),(∀k X j T,J k X j->Below j.heap.size j T->J k X T)->(∀k X j,J k X j->K j/\∀b∈X,b<j.heap.size)->(∀k args X R j,k<N->J k X R->Below R.heap.size R j->Y k args R j->YieldAt Fence.wide 0 P l args j fun e I=>e=.returned (.bool true)/\∃U,J (k+1) U I/\aG j I X/\∀b∈U,b∈X\/j.heap.size<=b)->J 0 X W->CallsIn Fence.wide 0 P gf (#[.func (.yield l) #[] #[]]++lb) W fun e I=>(∃v,e=.returned v)/\∃X,J N X I
theorem td{w w':World}{l l':List Nat}(h:aG w w' l)(R:∀b∈l,b∈l'):aG w w' l':=⟨h.os,h.tape,h.output,h.size,fun b j J=>h.block b j (fun I=>J (R b I))⟩
theorem i6(w:World)(l:Nat)(o:Obj):aG w (w.putObj l o) [l]:=⟨rfl,rfl,rfl,by simp,fun b _ j=>World.putObj_heap_other (by intro e;exact j (by simp[e]))⟩
def IA(I:Nat->List Nat->World->Prop)(k B:Nat)(X:List Nat)(W:World):Exit->Act->World->Prop|.normal,_,j=>aG W j X/\∃l,I (k+1) l j/\∀b∈l,b∈X\/B<=b|_,_,_=>False
theorem EX{P:Program}{g:Operand}{ps:Array Tmp}{assign body:Code}{Q:Exit->Act->World->Prop}{a:Act}{w:World}{gf:Nat}{lb:Array Value}{N:Nat}{Y:Nat->Array Value->World->World->Prop}{K:World->Prop}(hg:a.eval g=.func (.func gf) #[] lb)(eg:∀args w,(callFunc gf args).run P w=.ok (.enter gf args) w)(a7:Cl P gf lb N Y K)(bf:∀k args j W,Y k args j W->args.size=ps.size)(I:Nat->List Nat->World->Prop)(aL:∀k X W1 W2,I k X W1->Below W1.heap.size W1 W2->I k X W2)(aM:∀k X W W',I k X W->w.heap.size∉X->w.heap.size+1∉X->W.heap.size=W'.heap.size->aG W W' [w.heap.size+1]->I k X W')(af:∀k X W,I k X W->K W/\∀b∈X,b<W.heap.size)(X0:List Nat)(h0:I 0 X0 w)(al:∀k args X j W,k<N->I k X j->w.heap.size+2<=j.heap.size->w.heap.size∉X->w.heap.size+1∉X->Below j.heap.size j W->Y k args j W->assign.wpIn (Fence.wide.inRound (w.heap.size+1)) 0 P (Exit.then (fun a₁ W₁=>Below W.heap.size W W₁/\∀W₂,aG W₁ W₂ [w.heap.size+1]->W₂.heap.size=W₁.heap.size->body.wpIn (Fence.wide.inRound (w.heap.size+1)) 0 P (IA I k W.heap.size X W₂) a₁ W₂) (fun _ _ _=>False)) {tmps:=(ps.zip args).foldl (fun t(p,v)=>t.setIfInBounds p v) a.tmps,defers:=[]} W)(ax:∀X W,I N X W->w.heap.size∉X->w.heap.size+1∉X->w.heap.size+2<=W.heap.size->W.heap[w.heap.size]?=some (.deferred (some []))->Q .normal {a with defers:={target:=.collected w.heap.size,args:=#[]}::a.defers} W):(Code.rangeFunc g ps assign body).wpIn Fence.wide 0 P Q a w:=by
 refine wpIn_rangeFunc ?_;intro fn bi;obtain⟨U,l⟩:∃U:Loop,U={state:=.ready,pending:=none,fn:=fn,tmps:=a.tmps,params:=ps,assign:=assign,body:=body,defers:=w.heap.size}:=⟨_,rfl⟩;have hB:Below w.heap.size w ((w.alloc (.deferred (some []))).alloc (.loop U)):=((Below.refl _ w).alloc (Nat.le_refl _) _).alloc (by simp) _;have a0:((w.alloc (.deferred (some []))).alloc (.loop U)).heap[w.heap.size+1]?=some (.loop U):=by have:=World.alloc_heap_new (w.alloc (.deferred (some []))) (.loop U);rwa[World.size_alloc]at this
 have aR:((w.alloc (.deferred (some []))).alloc (.loop U)).heap[w.heap.size]?=some (.deferred (some [])):=(Below.heap_alloc _ _ _ (by simp)).trans (World.alloc_heap_new w _);obtain⟨j,aN⟩:∃j,j=(w.alloc (.deferred (some []))).alloc (.loop U):=⟨_,rfl⟩;rw[<-aN]at hB a0 aR;refine⟨w.heap.size+1,[{target:=.collected w.heap.size,args:=#[]}],j,{target:=.fn (.func gf) lb,args:=#[.func (.yield (w.heap.size+1)) #[] #[]]},j,gf,#[.func (.yield (w.heap.size+1)) #[] #[]]++lb,j,?_,?_,fun _ _=>trivial,?_,fun h=>by simp[Fence.wide]at h,?_⟩;·rw[aN,l];exact run_enterLoop_outer _ _ _ _ _
 ·simp only[resolve,hg];simp[go_sem]
 ·simp[invoke,go_sem,eg]
 ·refine(a7 (w.heap.size+1) (fun k X W=>∃J,X=(w.heap.size+1)::J/\I k J W/\(w.heap.size∉J/\w.heap.size+1∉J)/\W.heap[w.heap.size+1]?=some (.loop U)/\W.heap[w.heap.size]?=some (.deferred (some []))) ((w.heap.size+1)::X0) j ?_ ?_ ?_ ⟨X0,rfl,aL 0 X0 w j h0 hB,⟨fun hm=>absurd ((af 0 X0 w h0).2 _ hm) (by omega),fun hm=>absurd ((af 0 X0 w h0).2 _ hm) (by omega)⟩,a0,aR⟩).mono ?_;·rintro k X W1 W2⟨J,e,hi,T,hl,hd⟩R;exact⟨J,e,aL k J W1 W2 hi R,T,(R.block _ (Array.getElem?_eq_some_iff.1 hl).1).trans hl,(R.block _ (Array.getElem?_eq_some_iff.1 hd).1).trans hd⟩
  ·rintro k X W1⟨J,rfl,hi,T,hl,hd⟩;refine⟨(af k J W1 hi).1,fun b R=>?_⟩;rcases List.mem_cons.1 R with rfl|R;·exact(Array.getElem?_eq_some_iff.1 hl).1
   ·exact(af k J W1 hi).2 b R
  ·rintro k args X W1 W hk⟨J,rfl,hi,T,hl,hd⟩ah hy;have ay:=(Array.getElem?_eq_some_iff.1 hl).1;have a6:w.heap.size+1<W.heap.size:=Nat.lt_of_lt_of_le ay ah.size;have a4:W.heap[w.heap.size+1]?=some (.loop U):=(ah.block _ ay).trans hl;have a9:W.heap[w.heap.size]?=some (.deferred (some [])):=(ah.block _ (by omega)).trans hd;refine⟨fn,_,assign,body,by have:=run_yield (P:=P) (args:=args) a4 (by rw[l];exact bf k args W1 W hy);rw[l]at this;exact this,roundIn_of_wpIn trivial ?_⟩;refine wpIn_mono (al k args J W1 W hk hi (by omega) T.1 T.2 ah hy) ?_;intro e a1 W2 hq;cases e with
    |normal=>
     obtain⟨aq,av⟩:=hq;have a2:W2.heap[w.heap.size+1]?=some (.loop U):=(aq.block _ a6).trans a4;have a8:W2.heap[w.heap.size]?=some (.deferred (some [])):=(aq.block _ (by omega)).trans a9;have an:=(Array.getElem?_eq_some_iff.1 a2).1;refine⟨_,run_beginRound a2 (by rw[l]),wpIn_mono (av _ (i6 _ _ _) (by simp)) ?_⟩;intro e3 a3 W3 h3;cases e3 with
      |normal=>
       obtain⟨ao,ad,bb,az⟩:=h3;have ab:w.heap.size+1<(W2.putObj (w.heap.size+1) (.loop {U with state:=.busy})).heap.size:=by simpa using an
       have e2:=(ao.block _ ab T.2).trans (World.putObj_heap_same an);have e1:=(ao.block _ (Nat.lt_trans (by omega) ab) T.1).trans ((World.putObj_heap_other (by omega)).trans a8);have a5:=(Array.getElem?_eq_some_iff.1 e2).1;have ac:w.heap.size∉ad/\w.heap.size+1∉ad:=⟨fun hm=>by rcases az _ hm with h|h;exact T.1 h;omega,fun hm=>by rcases az _ hm with h|h;exact T.2 h;omega⟩;refine⟨_,_,run_endRound none e2,rfl,(w.heap.size+1)::ad,⟨ad,rfl,aM _ _ _ _ bb ac.1 ac.2 (by simp) (i6 _ _ _),ac,?_,(World.putObj_heap_other (by omega)).trans e1⟩,?_,?_⟩;·rw[World.putObj_heap_same a5,l];rfl
       ·refine td ((aj aq).trans ((i6 W2 (w.heap.size+1) (.loop {U with state:=.busy})).trans (ao.trans (i6 W3 (w.heap.size+1) _)))) (fun b R=>?_);simp only[List.nil_append,List.mem_append,List.mem_cons,List.not_mem_nil,or_false]at R;rcases R with h|h|h;·rw[h];exact List.mem_cons_self
        ·exact List.mem_cons_of_mem _ h
        ·rw[h];exact List.mem_cons_self
       ·intro b R;rcases List.mem_cons.1 R with rfl|R;·exact .inl List.mem_cons_self
        ·rcases az b R with h|h;·exact .inl (List.mem_cons_of_mem _ h)
         ·exact .inr h|_=>exact h3.elim
    |_=>exact hq.elim
  ·rintro e W2⟨⟨v,rfl⟩,X,J,rfl,hi,T,hl,hd⟩;have ay:=(Array.getElem?_eq_some_iff.1 hl).1;refine⟨none,_,by have:=run_endLoop (P:=P) hl (by rw[l];simp);rw[l]at this;exact this,ax J _ (aM _ _ _ _ hi T.1 T.2 (by simp) (i6 _ _ _)) T.1 T.2 (by simp;omega) ((World.putObj_heap_other (by omega)).trans hd)⟩
theorem F4{P:Program}{ops:Array Oper}{Q:Exit->Act->World->Prop}{K K':Act->World->Prop}{i l:Nat}{a:Act}{w:World}(R:∀(o:Oper)(c:Call),ops[i]?=some o->o.op≠.defer c)(J:¬LetsOut Q)(j:∀a w,K a w->K' a w)(h:wpOp P ops Q i K a w):wpOpIn (Fence.wide.inRound l) 0 P ops Q i K' a w:=by
 unfold wpOp at h;unfold wpOpIn;cases T:ops[i]? with
  |none=>simp only[T]at h|-;exact j _ _ h|some o=>
   simp only[T]at h|-;split;·
    rename_i U;rw[if_pos U]at h;rcases h with h|⟨-,h⟩;·
     refine⟨fun _ _=>trivial,?_⟩;have e:o.semAt (Fence.wide.inRound l).round a.eval=execOp a.eval o:=Oper.semAt_some l _ o (fun c=>R o c T);rw[e];unfold Oper.wp at h;cases hr:(execOp a.eval o).run P w with
      |ok x w'=>
       rw[hr]at h;cases x with
        |value v=>exact j _ _ h|skip=>exact j _ _ h|defer d=>exact j _ _ h|enter f args=>refine⟨fun h=>by simp[Fence.wide,Fence.inRound]at h,CallsIn.inRound l (callsIn_wide.2 ?_)⟩;refine Calls.mono h fun e ab I=>?_;cases e with|returned v=>exact j _ _ I|panicked c=>exact I|outgrown=>exact I
        |row r args=>exact⟨fun h=>by simp[Fence.wide,Fence.inRound]at h,fun c cs _=>let⟨v,w',r,s⟩:=h c cs;⟨v,w',j _ _ r,stepsIn_wide.2 s⟩⟩|round l f tmps assign body=>exact h.elim|_=>exact h.elim
      |halt x w'=>rw[hr]at h;cases x<;>exact h
    ·exact absurd h J
   ·rename_i U;rw[if_neg U]at h;exact⟨fun _ _=>trivial,j _ _ h⟩
theorem vB{P:Program}{md:Region.Mode}{ops:Array Oper}{Q:Exit->Act->World->Prop}{l:Nat}(I:∀(i:Nat)(o:Oper)(c:Call),ops[i]?=some o->o.op≠.defer c)(j:¬LetsOut Q):∀(fuel:Nat)(listed:Array Bool)(a:Act)(w:World),wpAny P md ops Q fuel listed a w->wpAnyIn (Fence.wide.inRound l) 0 P md ops Q fuel listed a w|0,_,_,_,h=>h|fuel+1,_,_,_,h=>⟨h.1,fun i hi=>F4 (I i) j (fun J w' R=>vB I j fuel _ J w' R) (h.2 i hi)⟩
def uR(ops:Array Oper):Bool:=ops.all fun o=>match o.op with|.defer _=>false|_=>true
theorem uS{ops:Array Oper}(h:uR ops=true):∀(i:Nat)(o:Oper)(c:Call),ops[i]?=some o->o.op≠.defer c:=by intro i o c hi l;unfold uR at h;rw[Array.all_eq_true]at h;obtain⟨j,rfl⟩:=Array.getElem?_eq_some_iff.1 hi;have:=h i j;rw[l]at this;cases this
theorem u6{P:Program}{R l:Nat}{ops:Array Oper}{Q:Exit->Act->World->Prop}{a:Act}{w:World}(J:P.follows .mixedOrders=true)(I:uR ops=true)(j:¬LetsOut Q)(h:wpAny P .any ops Q ops.size (Array.replicate ops.size false) a w.drew):(Code.region R ops true).wpIn (Fence.wide.inRound l) 0 P Q a w:=wpIn_region_any J (vB (uS I) j _ _ _ _ h)
section
section
variable {P : Program} {ops : Array Oper} {md : Region.Mode} {C : World -> Prop}
def vi(md:Region.Mode)(ops:Array Oper)(n:Nat):Bool:=(List.range n).all fun i=>i==0||(List.range (n+1)).any fun j=>decide (i<j)&&Region.waitsFor md ops j i
theorem qo{n:Nat}{l:Array Bool}(hs:vi md ops n=true)(hc:Region.chainB md ops n=true)(hn:n<ops.size)(ab:HeadInv md ops n l):∀(d i:Nat),n-i=d->0<i->i<n->l.getD i true=false->∀t,n<=t->t∉Region.ready md ops l:=by
 intro d;induction d using Nat.strongRecOn with
  |_ d ih=>
   intro i hd ax hi ah t ht hr;obtain⟨_,ot,U,T⟩:=mem_ready.1 hr;have af:t<ops.size:=(Array.getElem?_eq_some_iff.1 U).1;by_cases aq:t=n;·
    subst aq;have I:=List.all_eq_true.1 hs i (List.mem_range.2 hi);rw[Bool.or_eq_true]at I;rcases I with I|I;·simp at I;omega
    obtain⟨j,hj,ac⟩:=List.any_eq_true.1 I;simp only[Bool.and_eq_true,decide_eq_true_eq]at ac;obtain⟨oj,ad,e,he,hb,J⟩:=Region.waitsFor_spec ac.2;have av:j<=t:=by have:=List.mem_range.1 hj;omega
    by_cases an:j=t;·subst an;have:oj=ot:=Option.some.inj (ad.symm.trans U);subst this;have R:=T e he hb;rw[J,getD_both ah]at R;cases R
    ·cases hl:l.getD j false with
      |true=>have R:=ab.closed j oj ad hl e he hb;rw[J,getD_both ah]at R;cases R|false=>
       have al:j<l.size:=by rw[ab.size];omega
       exact ih (t-j) (by omega) j rfl (by omega) (by omega) (getD_in al hl) t (Nat.le_refl _) hr
   ·have I:=List.all_eq_true.1 hc t (List.mem_range.2 af);simp only[Bool.or_eq_true,decide_eq_true_eq]at I;rcases I with I|I;·omega
    ·obtain⟨o',ao,e,he,hb,J⟩:=Region.waitsFor_spec I;have:o'=ot:=Option.some.inj (ao.symm.trans U);subst this;have R:=T e he hb;rw[J,getD_both (ab.tail (t-1) (by omega) (by omega))]at R;cases R
theorem uA{n i:Nat}{oi:Oper}{v:Value}{L:Array Bool->Act->Prop}(hi:ops[i]?=some oi)(ab:∀(j:Nat)(o:Oper)cs b,ops[j]?=some o->o.op≠.select cs b)(hs:vi md ops n=true)(hc:Region.chainB md ops n=true)(hn:n<ops.size)(ah:0<i)(al:i<n)(ac:∀listed a,L listed a->∀j∈Region.ready md ops listed,n<=j)(f:Nat):∀(listed:Array Bool)(a:Act),HeadInv md ops n listed->(∀j oj,ops[j]?=some oj->j≠i->listed.getD j true=false->(∀e∈oj.after,Region.binds md e=true->e.on≠i)->oi.apart ops oj=true)->i∈Region.ready md ops listed->YieldsIn P ops C oi v a->pU P md ops C n L f (listed.setIfInBounds i true) (a.put oi.dst v)->pU P md ops C n L (f+1) listed a:=by
 induction f with
  |zero=>
   intro listed a R _ U hy H;refine⟨fun h=>(by rw[h]at U;cases U),fun j hj=>?_⟩;have J:j<n:=Nat.lt_of_not_le fun h=>qo hs hc hn R _ i rfl ah al (mem_ready.1 U).1 j h hj;refine⟨J,?_⟩;by_cases l:j=i;·subst l;exact hy.qOp hi H
   ·exact absurd (ac _ _ H j (ready_mono hj l)) (by omega)|succ f ih=>
   intro listed a R I U hy H;refine⟨fun h=>(by rw[h]at U;cases U),fun j hj=>?_⟩;have aq:=(mem_ready.1 U).1;have J:j<n:=Nat.lt_of_not_le fun h=>qo hs hc hn R _ i rfl ah al aq j h hj;refine⟨J,?_⟩;by_cases l:j=i;·subst l;exact hy.qOp hi H
   ·obtain⟨T,oj,ad,af⟩:=mem_ready.1 hj;have ao:∀e∈oj.after,Region.binds md e=true->e.on≠i:=fun e he hb heq=>by have h1:=af e he hb;rw[heq,getD_both aq]at h1;cases h1
    have h2:=qOp_put ad (I j oj ad l T ao) (fun cs b=>ab i oi cs b hi) (fun cs b=>ab j oj cs b ad) hy (H.2 j (ready_mono hj l)).2;refine qOp_mono (fun a' h3=>ih (listed.setIfInBounds j true) a' (R.set hj J) (fun k ok hk ax av ay=>?_) (ready_mono U (Ne.symm l)) h3.1 ?_) h2;·
     refine I k ok hk ax ?_ ay;by_cases an:j=k;·subst an;exact T
     ·rwa[getD_set_ne true an]at av
    ·rw[Array.setIfInBounds_comm _ _ l];exact h3.2
theorem rp{n g:Nat}{Lq:Act->Prop}(J:Region.noSelect ops=true)(hs:vi md ops n=true)(hc:Region.chainB md ops n=true)(hn:n<ops.size):∀(l:List Oper)(k:Nat)(listed:Array Bool)(a:Act),0<k->(∀j,j<l.length->l[j]?=ops[k+j]?)->k+l.length=n->HeadInv md ops n listed->Region.lexHead md ops g l.length k listed=true->wpQuiet P ops C Lq l a->pU P md ops C n (fun I a'=>Region.seqB md ops g n I=true/\Lq a') l.length listed a
 |[],k,listed,a,_,_,hk,_,R,h=>by
  have e:k=n:=by simpa using hk
  subst e;exact⟨by simpa[Region.lexHead]using R,h⟩|o::l,k,listed,a,ab,hl,hk,U,R,h=>by
  have h0:ops[k]?=some o:=by simpa using(hl 0 (by simp)).symm
  simp only[List.length_cons,Region.lexHead,Bool.and_eq_true]at R;have T:k<n:=by simp only[List.length_cons]at hk;omega
  have hr:k∈Region.ready md ops listed:=by simpa using R.1.1
  obtain⟨v,hy,hK⟩:=yieldsIn_of_qOp h0 (show qOp P ops C k (wpQuiet P ops C Lq l) a by unfold qOp;simp only[h0];exact h);exact uA h0 (Region.noSelect_spec J) hs hc hn ab T (fun _ _ hL=>seqB_ready hL.1) l.length listed a U (Region.free_spec h0 R.1.2) hr hy (rp J hs hc hn l (k+1) _ _ (by omega) (fun j hj=>by have:=hl (j+1) (by simp;omega);simpa[Nat.add_assoc,Nat.add_comm 1 j]using this) (by simp only[List.length_cons]at hk;omega) (U.set hr T) R.2 hK)
end
def EG(ops:Array Oper)(n:Nat):Bool:=Region.noSelect ops&&decide (n+1<ops.size)&&vi .any ops (n+1)&&Region.chainB .any ops (n+1)&&(Region.ready .any ops (Array.replicate ops.size false)).contains 0&&Region.free .any ops (Array.replicate ops.size false) 0&&Region.lexHead .any ops (ops.size-(n+1)) n 1 ((Array.replicate ops.size false).setIfInBounds 0 true)
theorem qw{P:Program}{id:Nat}{Q:Exit->Act->World->Prop}{a:Act}{w:World}{I:Oper}{l:List Oper}(n:Nat)(x:Operand)(v0:Value)(ay:a.eval x=v0)(av:I.op=.move x)(hg:I.guard=none)(hm:P.follows .mixedOrders=true)(hB:EG (I::l).toArray n=true)(an:∀c v a w,Q (.panic c) (a.put I.dst v) w->Q (.panic c) a w)(h:∀W,W=w->wpQuiet P (I::l).toArray (fun w'=>∃g:Grown W,w'=g.val) (fun a'=>∀w',Below W.heap.size W w'->wpList P (I::l).toArray Q (l.drop n) a' w') (l.take n) (a.put I.dst v0)):(Code.region id (I::l).toArray true).wp P Q a w:=by
 subst ay;simp only[EG,Bool.and_eq_true,decide_eq_true_eq]at hB;obtain⟨⟨⟨⟨⟨⟨R,hn⟩,hs⟩,hc⟩,ad⟩,ao⟩,ac⟩:=hB;have az:n<l.length:=by simp at hn;exact hn
 have J:(l.take n).length=n:=by simp;omega
 have ab:(l.drop n).length=(I::l).toArray.size-(n+1):=by simp
 have al:(I::l).toArray[0]?=some I:=by simp
 have af:0∈Region.ready .any (I::l).toArray (Array.replicate (I::l).toArray.size false):=by simpa using ad
 have U:HeadInv .any (I::l).toArray (n+1) (Array.replicate (I::l).toArray.size false):=⟨by simp,fun j oj _ hl=>(by rw[getD_replicate_false]at hl;cases hl),fun t _ ht=>getD_in (by simpa using ht) (getD_replicate_false _ _)⟩;have ah:=U.set af (by omega);have H:=rp (md:=.any) (C:=fun w'=>∃g:Grown w,w'=g.val) (g:=(I::l).toArray.size-(n+1)) R hs hc hn (l.take n) 1 _ _ (by omega) (fun j hj=>by
  have aq:j<n:=by rw[J]at hj;exact hj
  simp[aq,Nat.add_comm 1 j]) (by rw[J];omega) ah (by rw[J];exact ac) (h w rfl);refine wp_region_any hm ?_;have K:=kB (Q':=Q) (g:=(I::l).toArray.size-(n+1)) (fun listed a' w' hw hL=>by obtain⟨g,rfl⟩:=hw;have:=wpAny_of_seq (md:=.any) (Q':=Q) (l.drop n) (n+1) listed a' g.val (fun j=>by rw[List.getElem?_drop,show n+1+j=(n+j)+1 by omega];simp) (by rw[ab];exact hL.1) (hL.2 _ g.bU);rwa[ab]at this) _ _ _ {w with drawn:=w.drawn+1} ⟨⟨_,(Below.refl _ _).drew⟩,rfl⟩ H;have ax:(I::l).toArray.size=(l.take n).length+((I::l).toArray.size-(n+1))+1:=by rw[J];simp;omega
 have T:=wpAny_take (md:=.any) (Q:=Q) (v:=a.eval x) al R ao ad (fun c a w=>an c _ a w) (.inl ⟨by unfold Region.wanted;rw[hg],fun w=>by simp[execOp,av]⟩) K;rw[<-ax]at T;exact T
end
section
open Go.RowKit Go.ChangeShapes Go.WideShapes
end
theorem dG.sep{w w':World}{v:Value}{x:List aA}{l:List Nat}(h:dG w w.heap.size v x)(I:aG w w' l)(hd:∀b∈ag v,b∉l):dG w' w'.heap.size v x:=by have H:=h;obtain⟨R,T,rfl,_⟩:=h;exact H.aB I.size (fun b J j=>I.block b j (hd b ((aS rfl).1 J)))
theorem dG.tu{w w':World}{v:Value}{x:List aA}{l:List Nat}(h:dG w w.heap.size v x)(I:aG w w' l)(hd:∀b∈l,w.heap.size<=b):dG w' w'.heap.size v x:=by have H:=h;obtain⟨R,T,rfl,_⟩:=h;exact H.aB I.size (fun b U j=>I.block b j (fun J=>absurd (hd b J) (by omega)))
theorem dG.shape{w:World}{B:Nat}{v:Value}{x:List aA}(h:dG w B v x):∃p c,v=.slice p x.length c:=by obtain⟨j,l,e,_⟩:=h;exact⟨j,l,e⟩
def aA.cells(x:aA):List Value:=[.int .i64 x.src,.string x.label,.int .i64 x.sort,.int .i64 x.dst]
theorem aA.bg(x:aA):x.cells.length=4:=rfl
theorem aA.cells_one(x:aA):∀u∈x.cells,u.oneCell'=true:=by intro u hu;simp[aA.cells]at hu;rcases hu with rfl|rfl|rfl|rfl<;>rfl
def bD(w:World)(base:Nat)(v:Value)(l:List aA):Prop:=w.ownsRow base 213 4 v l.length (l.flatMap aA.cells)
theorem bD.sl{w:World}{base:Nat}{v:Value}{l:List aA}(h:bD w base v l)(hl:l.length<=4294967296):dG w w.heap.size v l:=by
 have H:=h;obtain⟨_,hh⟩:=h;rcases hh with⟨rfl,T⟩|⟨J,cap,R,rfl,hg,I,U,_⟩;·have:l=[]:=List.length_eq_zero_iff.1 T;subst this;exact⟨none,0,rfl,Nat.le_refl _,by simp,fun h=>absurd rfl h⟩
 ·refine⟨_,_,rfl,U,hl,fun _=>⟨J,0,rfl,(Array.getElem?_eq_some_iff.1 I).1,fE.of w J l 0 (fun j hj=>?_)⟩⟩;rw[Nat.zero_add];have e:=fun i(hi:i<4)(x:Value)(hx:(l[j].cells)[i]?=some x)=>cQ H rfl (j*4+i) x ((dQ aA.cells 4 aA.bg l j hj i hi).trans hx);exact⟨e 0 (by omega) _ rfl,e 1 (by omega) _ rfl,e 2 (by omega) _ rfl,e 3 (by omega) _ rfl⟩
theorem bD.aB{w w':World}{base:Nat}{v:Value}{x:List aA}{l:List Nat}(h:bD w base v x)(j:aG w w' l)(hd:∀b∈ag v,b∉l):bD w' base v x:=aK h j hd
theorem bD.below{w w':World}{base:Nat}{v:Value}{x:List aA}(h:bD w base v x)(j:Below w.heap.size w w'):bD w' base v x:=aQ h j
theorem bD.fresh{w:World}{base:Nat}{v:Value}{x:List aA}(h:bD w base v x):dy base w v:=ak h
theorem bD.nil(w:World)(base:Nat):bD w base (.slice none 0 0) []:=de w base _ _
theorem bD.snoc{w:World}{base:Nat}{v:Value}{l:List aA}{x:aA}(h:w.ownsRow base 213 4 v (l.length+1) (l.flatMap aA.cells++x.cells)):bD w base v (l++[x]):=by unfold bD;rw[List.length_append,List.length_singleton,List.flatMap_append];simpa using h
