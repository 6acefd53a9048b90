import Derived.WalkSpells
import Derived.WalkLawsBesides
import Derived.Test.YtdiiiijkhpdcbaaGreatDoorProg
import Derived.Deep.LoopGhost
import Derived.Deep.Slices
import Derived.BigQuiet
import Derived.Lib.BufferWrite
import Derived.Laws.CopyOwn
import Derived.StillTail
import Derived.Stop.Asserts
import Derived.RowKitTokens
import Derived.Deep.RegionHeld
namespace Go.Proofs.YtdiiiijkhpdcbaaGreatDoor
open Go.RowKit
set_option linter.unusedSimpArgs false
set_option linter.unusedVariables false
set_option maxHeartbeats 1000000
set_option maxRecDepth 100000
abbrev ZW(v w:World):Prop:=Below v.heap.size v w
abbrev ZC(f:Nat)(a:Array Value)(w:World)(Q:Ending->World->Prop):Prop:=Calls Tryz.prog f a w Q
theorem aa{p:Prop}(h:p):Hid p:=h
theorem bw{p:Prop}(h:Hid p):p:=h
theorem aD{a b:Bool}(h:b=a):Ending.returned (.bool a)=.returned (.bool b):=by rw[h]
theorem bc{k:IntKind}{a b:Int}(h:b=a):Ending.returned (.int k a)=.returned (.int k b):=by rw[h]
theorem GK{a b:ByteArray}(h:b=a):Ending.returned (.string a)=.returned (.string b):=by rw[h]
theorem ag(w:World)(o:Obj):ZW w (w.alloc o):=(Below.refl _ _).alloc (Nat.le_refl _) o
theorem bZ(W:World)(o:Obj)(k:Nat)(h:k=W.heap.size):(W.alloc o).heap[k]?=some o:=by subst h;show(W.heap.push o)[W.heap.size]?=_;simp
theorem eU(W:World)(o:Obj)(k:Nat)(h:k<W.heap.size):(W.alloc o).heap[k]?=W.heap[k]?:=Below.heap_alloc W o k h
structure nQ(B:Nat)(w:World)(v:Value):Prop where free:∀b,v.ownBlock=some b->B<=b/\b<w.heap.size/\∀j,w.frozen? ⟨b,j,none⟩=false
theorem nQ.carry{B:Nat}{w w':World}{v:Value}(h:nQ B w v)(l:ZW w w'):nQ B w' v:=⟨fun b e=>⟨(h.free b e).1,Nat.lt_of_lt_of_le (h.free b e).2.1 l.size,fun j=>(l.frozen (p:=⟨b,j,none⟩) (h.free b e).2.1).trans ((h.free b e).2.2 j)⟩⟩
theorem oD{α:Type}{l:List α}{j:Nat}{v:α}(h:(l.drop j).take 1=[v]):l[j]?=some v:=by
 have I:((l.drop j).take 1)[0]?=some v:=by rw[h];rfl
 rw[List.getElem?_take,if_pos (by omega),List.getElem?_drop]at I;simpa using I
structure Grown(w:World)where
 val:World
 bel:ZW w val
theorem bo(w:World):Nonempty (Grown w):=⟨⟨w,Below.refl _ _⟩⟩
theorem Grown.cell{w:World}(g:Grown w){p:Addr}(h:p.block<w.heap.size):g.val.cell? p=w.cell? p:=g.bel.cell h
theorem au{w:World}{b o:Nat}{v:Value}(h:w.cell? ⟨b,o,none⟩=some v):∀g:Grown w,g.val.cell? ⟨b,o,none⟩=some v:=fun g=>(g.bel.cell (p:=⟨b,o,none⟩) (World.block_lt_of_cell? w _ h)).trans h
theorem bg{P:Program}{id:Nat}{Q:Exit->Act->World->Prop}{a:Act}{w:World}{l:List Oper}(U:P.follows .mixedOrders=true)(J:Region.lexB .any l.toArray=true)(h:∀W,W=w->wpQuiet P l.toArray (fun w'=>∃g:Grown W,w'=g.val) (fun j=>∀w',ZW W w'->Q .normal j w') l a):(Code.region id l.toArray true).wp P Q a w:=by
 refine wp_region_quiet (C:=fun w'=>∃g:Grown w,w'=g.val) U J ⟨⟨_,(Below.refl _ _).drew⟩,rfl⟩ ?_;have I:=h w rfl;have e:(fun j=>∀w',(∃g:Grown w,w'=g.val)->Q .normal j w')=(fun j=>∀w',ZW w w'->Q .normal j w'):=by funext j;refine propext ⟨fun h w' R=>h w' ⟨⟨w',R⟩,rfl⟩,fun h w'⟨g,T⟩=>?_⟩;rw[T];exact h _ g.bel
 rw[e];simpa using I
theorem k6{P:Program}{ops:Array Oper}{C:World->Prop}{Q:Exit->Act->World->Prop}:∀(l:List Oper)(a:Act)(w:World),C w->wpQuiet P ops C (fun J=>∀w',C w'->Q .normal J w') l a->wpList P ops Q l a w
 |[],_,w,I,h=>h w I|o::rest,a,w,I,h=>by
  unfold wpList;unfold wpQuiet at h;split;·rename_i j;rw[if_pos j]at h;exact .inl (Oper.wp_of_quiet I (fun J w' R T=>k6 rest J w' R T) h)
  ·rename_i j;rw[if_neg j]at h;exact k6 rest _ w I h
theorem dM(d:Nat){P:Program}{ops:Array Oper}{Q:Exit->Act->World->Prop}{a:Act}{w:World}{R:Op}{T:TypeId}{l:String}{I:Array Edge}{J:Option (Nat×Bool)}{rest:List Oper}(h:∀W,W=w->wpQuiet P ops (fun w'=>∃g:Grown W,w'=g.val) (fun j=>∀w',ZW W w'->Q .normal j w') (⟨some d,R,T,l,I,J⟩::rest) a):wpList P ops Q (⟨some d,R,T,l,I,J⟩::rest) a w:=by
 refine k6 (C:=fun w'=>∃g:Grown w,w'=g.val) _ _ _ ⟨⟨w,Below.refl _ _⟩,rfl⟩ ?_;have U:=h w rfl;have e:(fun j=>∀w',(∃g:Grown w,w'=g.val)->Q .normal j w')=(fun j=>∀w',ZW w w'->Q .normal j w'):=by funext j;refine propext ⟨fun h w' hb=>h w' ⟨⟨w',hb⟩,rfl⟩,fun h w'⟨g,hg⟩=>?_⟩;rw[hg];exact h _ g.bel
 rw[e];exact U
theorem rF{P:Program}{f:FuncId}{args:Array Value}{w:World}{g:Grown w}{v:Value}(h:Calls P f args g.val fun e w'=>e=.returned v/\w'=g.val):Calls P f args g.val fun e j=>e=.returned v/\∃l:Grown w,j=l.val:=h.mono fun _ _⟨I,J⟩=>⟨I,g,J⟩
theorem bj{P:Program}{f:FuncId}{args:Array Value}{w:World}{g:Grown w}{v:Value}(h:Calls P f args g.val fun e w'=>e=.returned v/\Below g.val.heap.size g.val w'):Calls P f args g.val fun e j=>e=.returned v/\∃l:Grown w,j=l.val:=h.mono fun _ w'⟨I,J⟩=>⟨I,⟨w',g.bel.trans (J.mono g.bel.size)⟩,rfl⟩
structure aF where
 cD:ByteArray
 to:ByteArray
 label:ByteArray
 sort:Int
def aF.val(x:aF):Value:=.agg #[.string x.cD,.string x.to,.string x.label,.int .i64 x.sort]
def aF.ok(x:aF):Prop:=x.cD.size<=maxLen/\x.to.size<=maxLen/\x.label.size<=maxLen
def aF.fit(x:aF):Prop:=x.cD.size<=1048576/\x.to.size<=1048576/\x.label.size<=1048576
def dU(w:World)(b o:Nat)(x:aF):Prop:=w.cell? ⟨b,o,none⟩=some (.string x.cD)/\w.cell? ⟨b,o+1,none⟩=some (.string x.to)/\w.cell? ⟨b,o+2,none⟩=some (.string x.label)/\w.cell? ⟨b,o+3,none⟩=some (.int .i64 x.sort)
def dE(w:World)(b:Nat):Nat->List aF->Prop|_,[]=>True|o,x::l=>dU w b o x/\dE w b (o+4) l
theorem dU.carry{w w':World}{b o:Nat}{x:aF}(h:dU w b o x){B:Nat}(j:b<B)(l:Below B w w'):dU w' b o x:=by obtain⟨I,J,R,T⟩:=h;exact⟨(l.cell (p:=⟨b,_,none⟩) j).trans I,(l.cell (p:=⟨b,_,none⟩) j).trans J,(l.cell (p:=⟨b,_,none⟩) j).trans R,(l.cell (p:=⟨b,_,none⟩) j).trans T⟩
theorem dU.lt{w:World}{b o:Nat}{x:aF}(h:dU w b o x):b<w.heap.size:=World.block_lt_of_cell? w _ h.1
theorem dE.carry{w w':World}{b B:Nat}(j:b<B)(I:Below B w w'):∀{l:List aF}{o:Nat},dE w b o l->dE w' b o l|[],_,_=>trivial|_::_,_,h=>⟨h.1.carry j I,dE.carry j I h.2⟩
theorem dE.get{w:World}{b:Nat}:∀{l:List aF}{o:Nat},dE w b o l->∀i(h:i<l.length),dU w b (o+i*4) l[i]|_::_,_,h,0,_=>by simpa using h.1|_::l,o,h,i+1,hi=>by have:=h.2.get i (by simpa using hi);rw[show o+4+i*4=o+(i+1)*4 from by omega]at this;simpa using this
theorem dE.of(w:World)(g:Nat):∀(l:List aF)(o:Nat),(∀j(h:j<l.length),dU w g (o+j*4) l[j])->dE w g o l|[],_,_=>trivial|x::l,o,h=>⟨by have:=h 0 (by simp);simpa only[Nat.zero_mul,Nat.add_zero,List.getElem_cons_zero]using this,dE.of w g l (o+4) (fun j I=>by have:=h (j+1) (by simpa using I);rw[show o+(j+1)*4=o+4+j*4 from by omega]at this;simpa only[List.getElem_cons_succ]using this)⟩
def bt(w:World)(B:Nat)(v:Value)(l:List aF):Prop:=∃j cap,v=.slice j l.length cap/\l.length<=cap/\l.length<=4294967296/\(l≠[]->∃b o,j=some ⟨b,o,none⟩/\b<B/\dE w b o l)
theorem bt.carry{w w':World}{B:Nat}{v:Value}{l:List aF}(h:bt w B v l)(hb:Below B w w'):bt w' B v l:=by obtain⟨J,cap,R,T,U,h4⟩:=h;refine⟨J,cap,R,T,U,fun I=>?_⟩;obtain⟨b,o,e,j,hr⟩:=h4 I;exact⟨b,o,e,j,hr.carry j hb⟩
theorem bt.up{w:World}{B I:Nat}{v:Value}{l:List aF}(h:bt w B v l)(hB:B<=I):bt w I v l:=by obtain⟨J,cap,R,T,U,h4⟩:=h;refine⟨J,cap,R,T,U,fun j=>?_⟩;obtain⟨b,o,e,ab,hr⟩:=h4 j;exact⟨b,o,e,by omega,hr⟩
theorem dU.block{w w':World}{b o:Nat}{x:aF}(h:dU w b o x)(j:w'.heap[b]?=w.heap[b]?):dU w' b o x:=by obtain⟨l,I,J,R⟩:=h;exact⟨(World.cell?_of_block (a:=⟨b,_,none⟩) j).trans l,(World.cell?_of_block (a:=⟨b,_,none⟩) j).trans I,(World.cell?_of_block (a:=⟨b,_,none⟩) j).trans J,(World.cell?_of_block (a:=⟨b,_,none⟩) j).trans R⟩
theorem dE.block{w w':World}{b:Nat}(j:w'.heap[b]?=w.heap[b]?):∀{l:List aF}{o:Nat},dE w b o l->dE w' b o l|[],_,_=>trivial|_::_,_,h=>⟨h.1.block j,dE.block j h.2⟩
theorem bt.aA{w w':World}{B J:Nat}{v:Value}{l:List aF}(h:bt w B v l)(hB:B<=J)(hk:∀b,v.ownBlock=some b->b<B->w'.heap[b]?=w.heap[b]?):bt w' J v l:=by obtain⟨R,cap,rfl,T,U,h4⟩:=h;refine⟨R,cap,rfl,T,U,fun I=>?_⟩;obtain⟨b,o,rfl,j,hr⟩:=h4 I;exact⟨b,o,rfl,by omega,hr.block (hk b rfl j)⟩
theorem bt.iF{w:World}{B:Nat}{v:Value}{l:List aF}(h:bt w B v l):l.length<=4294967296:=by obtain⟨j,cap,_,I,J,_⟩:=h;omega
theorem Tryz.fK:(Tryz.prog.info? 158).map (fun i=>(i.zero,i.size,i.bytes))=some (some (.agg #[.string .empty,.string .empty,.string .empty,.int .i64 0]),4,56):=by kernel_rfl
theorem Jp(x:aF)(w:World):Calls Tryz.prog 110 #[x.val] w fun e w'=>e=.returned x.val/\ZW w w':=by
 have hi:(Tryz.prog.info? 158).map (·.size)=some 4:=by obtain⟨I,hi,_,j,_⟩:=info_parts Tryz.fK;rw[hi];simp[j]
 have l:=aa hi;clear hi;unfold aF.val;go_in;go_wp2;refine bodyPost_ret_by (results_cell_row rfl _ _ (w.heap.size+1) 158 #[.string x.cD,.string x.to,.string x.label,.int .i64 x.sort] (0,0) _ rfl ?_ Tryz.underlying158 rfl l.out) rfl ⟨rfl,((ag _ _).trans ((ag _ _).mono (by simp))).trans ((ag _ _).mono (by simp;omega))⟩;rw[eU _ _ _ (by simp),bZ _ _ _ (by simp)]
def iQ(w:World)(g p:Nat)(x:aF):World:=(((w.setCell ⟨g,p,none⟩ (.string x.cD)).setCell ⟨g,p+1,none⟩ (.string x.to)).setCell ⟨g,p+2,none⟩ (.string x.label)).setCell ⟨g,p+3,none⟩ (.int .i64 x.sort)
theorem vh(w:World)(g p:Nat)(x:aF)(a:Addr)(h:∀i,i<4->a≠⟨g,p+i,none⟩):(iQ w g p x).cell? a=w.cell? a:=by unfold iQ;rw[World.cell?_setCell_other _ _ _ _ (Ne.symm (h 3 (by omega))),World.cell?_setCell_other _ _ _ _ (Ne.symm (h 2 (by omega))),World.cell?_setCell_other _ _ _ _ (Ne.symm (h 1 (by omega))),World.cell?_setCell_other _ ⟨g,p,none⟩ _ _ (Ne.symm (h 0 (by omega)))]
theorem uj(w:World)(g p:Nat)(x:aF)(j:∀i,i<4->∃y,w.cell? ⟨g,p+i,none⟩=some y):dU (iQ w g p x) g p x:=by
 obtain⟨y0,l⟩:=j 0 (by omega);obtain⟨T,I⟩:=j 1 (by omega);obtain⟨U,J⟩:=j 2 (by omega);obtain⟨y3,R⟩:=j 3 (by omega);unfold iQ;refine⟨?_,?_,?_,?_⟩;·rw[World.cell?_setCell_other _ _ _ _ (by simp),World.cell?_setCell_other _ _ _ _ (by simp),World.cell?_setCell_other _ _ _ _ (by simp)];exact World.cell?_setCell_same _ _ _ l
 ·rw[World.cell?_setCell_other _ _ _ _ (by simp),World.cell?_setCell_other _ _ _ _ (by simp)];exact World.cell?_setCell_same _ _ _ (u:=T) (by rw[World.cell?_setCell_other _ _ _ _ (by simp)];exact I)
 ·rw[World.cell?_setCell_other _ _ _ _ (by simp)];exact World.cell?_setCell_same _ _ _ (u:=U) (by rw[World.cell?_setCell_other _ _ _ _ (by simp),World.cell?_setCell_other _ _ _ _ (by simp)];exact J)
 ·exact World.cell?_setCell_same _ _ _ (u:=y3) (by rw[World.cell?_setCell_other _ _ _ _ (by simp),World.cell?_setCell_other _ _ _ _ (by simp),World.cell?_setCell_other _ _ _ _ (by simp)];exact R)
theorem oH{B:Nat}{a w:World}(h:Below B a w){g:Nat}(j:B<=g)(p:Nat)(x:aF):Below B a (iQ w g p x):=((((h.setCell (p:=⟨g,p,none⟩) j _).setCell (p:=⟨g,p+1,none⟩) j _).setCell (p:=⟨g,p+2,none⟩) j _).setCell (p:=⟨g,p+3,none⟩) j _)
theorem xJ(w:World)(g p:Nat)(x:aF):(iQ w g p x).heap.size=w.heap.size:=by simp[iQ]
theorem tl(w:World)(g p:Nat)(x:aF)(a:Addr):(iQ w g p x).frozen? a=w.frozen? a:=by simp[iQ]
theorem IK(x:aF)(w:World):Calls Tryz.prog 121 #[x.val,x.val] w fun e w'=>e=.returned (.bool true)/\ZW w w':=by unfold aF.val;go_in;go_wp2;go_ret;exact⟨rfl,(ag _ _).trans ((ag _ _).mono (by simp))⟩
theorem FX(l:List aF)(v u:Value)(w:World)(hv:bt w w.heap.size v l)(hu:bt w w.heap.size u l):Calls Tryz.prog 62 #[v,u] w fun e w'=>e=.returned (.bool true)/\ZW w w':=by
 obtain⟨ao,cap,rfl,hc,hm,hr⟩:=hv;obtain⟨ay,ax,rfl,az,aL,al⟩:=hu;have HR:=aa hr;have aq:=aa al;clear hr al;go_in;go_wp2;go_loopw[5](fun i wr=>∃k:Nat,k<=l.length/\i=.int .i64 k/\ZW w wr)(fun i _=>l.length-(intOf i).toNat);case atStart=>exact⟨0,Nat.zero_le _,rfl,Below.refl _ _⟩
 case round=>
  obtain⟨k,hk,rfl,J⟩:=hrel;have j:=aa J;have U:=J.size;clear J;by_cases ab:k<l.length;·
   obtain⟨b,o,rfl,av,ac⟩:=HR.out (by intro h;simp[h]at ab);obtain⟨b',o',rfl,ah,T⟩:=aq.out (by intro h;simp[h]at ab);have R:=(ac.get k ab).carry av j.out;have I:=(T.get k ab).carry ah j.out;obtain⟨x1,an⟩:∃x1,x1=l[k]:=⟨_,rfl⟩;rw[<-an]at R I;clear an ac T;obtain⟨c0,c1,c2,c3⟩:=R;obtain⟨d0,d1,d2,d3⟩:=I;go_wp2;go_region_with(go_at_call 121;refine(IK x1 _).mono ?_;rintro e w1⟨rfl,af⟩;have ad:=aa af;clear af);go_wp2;all_goals
    go_roundw;case rel=>exact⟨k+1,by omega,by go_num,by first|exact j.out.trans (ad.out.mono U)|exact j.out.drew.trans (ad.out.mono U)|exact j.out.drew.drew.trans (ad.out.mono U)⟩
    case measure=>simp[intOf];omega
  ·go_wp2;go_ret;exact⟨rfl,j.out⟩
def bv(l:List UInt8):List Value:=l.map fun b=>Value.int .u8 (b.toNat:Int)
def Laid(W:World)(g T:Nat)(l:List UInt8):Prop:=∃j:Array Value,W.heap[g]?=some (.cells j 5 (0,0))/\j.size=T/\j.toList.take l.length=bv l
theorem Laid.empty{W:World}{g T:Nat}{l:List UInt8}(h:Laid W g T l)(s:ByteArray)(j:s.size=0):Laid W g T (l++s.data.toList):=by have:s.data.toList=[]:=List.eq_nil_of_length_eq_zero j;rw[this,List.append_nil];exact h
theorem Laid.conv{W:World}{g T:Nat}{l:List UInt8}(h:Laid W g T l)(hl:l.length=T):(convert 172 9 (.slice (some ⟨g,0,none⟩) T T)).run Tryz.prog W=.ok (.string ⟨l.toArray⟩) W:=by
 obtain⟨I,hg,ab,ht⟩:=h;subst hl;refine run_convert_bytes_back (P:=Tryz.prog) W 172 9 5 ⟨g,0,none⟩ l.length l Tryz.underlying172 Tryz.underlying5 Tryz.underlying9 (fun j J=>?_);have R:(⟨g,0,none⟩:Addr).add j=⟨g,j,none⟩:=by unfold Addr.add;split<;>simp_all
 have U:W.cell? ⟨g,j,none⟩=I[j]?:=by simp[World.cell?,hg]
 rw[R,U];have hm:I.toList[j]?=(bv l)[j]?:=by rw[<-ht,List.getElem?_take,if_pos J]
 rw[<-Array.getElem?_toList,hm];simp[bv,J]
theorem dF{a b c:World}(j:ZW a b)(l:ZW b c):ZW a c:=j.trans (l.mono j.size)
def th:Nat->Nat->ByteArray->ByteArray|0,_,out=>out|f+1,k,out=>if k=0 then out else th f (k/10) (ByteArray.mk #[UInt8.ofNat (48+k%10)]++out)
def fL(k:Nat):ByteArray:=ByteArray.mk #[109]++th 7 k ByteArray.empty
def rp(j:Nat):UInt8:=UInt8.ofNat (48+j%10)
theorem yx(j:Nat)(W:World):(convert 172 9 (.slice (some ⟨W.heap.size,0,none⟩) 1 1)).run Tryz.prog (W.alloc (.cells #[.int .u8 (48+(j:Int)%10)] 5))=.ok (.string ⟨[rp j].toArray⟩) (W.alloc (.cells #[.int .u8 (48+(j:Int)%10)] 5)):=by
 refine run_convert_bytes_back (P:=Tryz.prog) _ 172 9 5 ⟨W.heap.size,0,none⟩ 1 [rp j] Tryz.underlying172 Tryz.underlying5 Tryz.underlying9 (fun i hi=>?_);match i,hi with
  |0,_=>
   have e:((rp j).toNat:Int)=48+(j:Int)%10:=by
    have:(rp j).toNat=48+j%10:=by rw[rp,UInt8.toNat_ofNat'];omega
    omega
   simp[Addr.add,e]
theorem Dg(f j:Nat)(o:ByteArray)(h:0<j):th (f+1) j o=th f (j/10) (ByteArray.mk [rp j].toArray++o):=by rw[th,if_neg (by omega)];rfl
theorem Dh(f:Nat)(o:ByteArray):th f 0 o=o:=by cases f<;>simp[th]
theorem BW(k:Nat)(w:World)(h1:1<=k)(hk:k<6000001):Calls Tryz.prog 71 #[.int .i64 k] w fun e w'=>e=.returned (.string (fL k))/\ZW w w':=by
 go_in;go_wp2;go_loopw[0,3](fun kv out wr=>∃(f j:Nat)(o:ByteArray),kv=.int .i64 j/\out=.string o/\j<10^f/\f<=7/\o.size<=7-f/\th f j o=th 7 k ByteArray.empty/\ZW w wr)(fun kv _ _=>(intOf kv).toNat);case atStart=>exact⟨7,k,ByteArray.empty,rfl,rfl,by omega,Nat.le_refl _,Nat.le_refl _,rfl,Below.refl _ _⟩
 case round=>
  obtain⟨f,j,o,rfl,rfl,hj,hf,ad,hd,l⟩:=hrel;have HD:=aa hd;have I:=aa l;have U:=l.size;have HJ:=aa hj;clear hd l hj;by_cases hz:j=0;·
   subst hz;have HO:=aa (show th 7 k ByteArray.empty=o by rw[<-HD.out,Dh]);have R:o.size<=7:=by omega
   go_wp2;go_ret;refine⟨GK ?_,I.out⟩;rw[fL,HO.out]
  ·have T:0<j:=by omega
   have HP:=aa T;have ab:j<10000000:=Nat.lt_of_lt_of_le HJ.out (Nat.le_trans (Nat.pow_le_pow_right (by omega) hf) (by decide));have ac:=yx j wr;have R:o.size<=7:=by omega
   obtain⟨f',rfl⟩:∃f',f=f'+1:=⟨f-1,by
    rcases Nat.eq_zero_or_pos f with h|h;·have:=HJ.out;rw[h]at this;omega
    ·omega⟩;have J:ByteArray.size ⟨[rp j].toArray⟩=1:=rfl;clear hz;go_wp2;go_roundw;case rel=>
    refine⟨f',j/10,_,by go_num,rfl,?_,by omega,?_,?_,I.out.trans ((ag _ _).mono U)⟩;·have:=HJ.out;rw[Nat.pow_succ]at this;omega
    ·rw[ByteArray.size_append,J];omega
    ·rw[<-HD.out,Dg f' j o HP.out]
   case measure=>simp[intOf];omega
theorem cJ(k:Nat)(z:Int)(w:World)(I:z=k)(j:1<=k)(l:k<6000001):Calls Tryz.prog 71 #[.int .i64 z] w fun e w'=>e=.returned (.string (fL k))/\ZW w w':=by subst I;exact BW k w j l
theorem e8{w wr R:World}{row:Option Nat}(j:w.grownBy wr row)(l:ZW wr R):w.grownBy R row:=⟨l.os.trans j.os,l.tape.trans j.tape,l.output.trans j.output,Nat.le_trans j.size l.size,fun k J I=>(l.block k (Nat.lt_of_lt_of_le J j.size)).trans (j.block k J I)⟩
theorem dQ{w wr:World}{g:Nat}(j:w.grownBy wr (some g))(o:Nat)(x:Value):w.grownBy (wr.setCell ⟨g,o,none⟩ x) (some g):=⟨j.os,j.tape,j.output,by simp;exact j.size,fun k I l=>(Below.heap_setCell wr ⟨g,o,none⟩ x k (fun h=>l (by rw[h]))).trans (j.block k I l)⟩
theorem gC(w:World)(row:Option Nat):w.grownBy w row:=⟨rfl,rfl,rfl,Nat.le_refl _,fun _ _ _=>rfl⟩
def aJ:Value->List Nat|.slice (some a) _ _=>[a.block]|_=>[]
def ae:Value->List Nat|.agg cs=>cs.toList.flatMap aJ|v=>aJ v
structure dk(lo:Nat)(w:World)(v:Value):Prop where
 lo:∀b∈ae v,lo<=b
 hi:∀b∈ae v,b<w.heap.size
 free:∀b∈ae v,∀j,w.frozen? ⟨b,j,none⟩=false
 nodup:(ae v).Nodup
structure aH(w w':World)(l:List Nat):Prop where
 os:w'.os=w.os
 tape:w'.tape=w.tape
 output:w'.output=w.output
 size:w.heap.size<=w'.heap.size
 block:∀b,b<w.heap.size->b∉l->w'.heap[b]?=w.heap[b]?
theorem aH.refl(w:World):aH w w []:=⟨rfl,rfl,rfl,Nat.le_refl _,fun _ _ _=>rfl⟩
theorem aj{w w':World}(h:ZW w w'):aH w w' []:=⟨h.os,h.tape,h.output,h.size,fun b j _=>h.block b j⟩
theorem aH.trans{a b c:World}{l l':List Nat}(h:aH a b l)(j:aH b c l'):aH a c (l++l'):=⟨j.os.trans h.os,j.tape.trans h.tape,j.output.trans h.output,Nat.le_trans h.size j.size,fun k J I=>by rw[List.mem_append,not_or]at I;exact(j.block k (Nat.lt_of_lt_of_le J h.size) I.2).trans (h.block k J I.1)⟩
theorem aH.then{a b c:World}{l:List Nat}(h:aH a b l)(j:ZW b c):aH a c l:=by have:=h.trans (aj j);rwa[List.append_nil]at this
theorem aH.drew{a b:World}{l:List Nat}(h:aH a b l):aH a b.drew l:=⟨h.os,h.tape,h.output,h.size,h.block⟩
theorem aH.below{w w':World}{l:List Nat}(h:aH w w' l){B:Nat}(j:B<=w.heap.size)(J:∀b∈l,B<=b):Below B w w':=⟨h.os,h.tape,h.output,h.size,fun k I=>h.block k (Nat.lt_of_lt_of_le I j) (fun R=>absurd (J k R) (by omega))⟩
theorem aH.cell{w w':World}{l:List Nat}(h:aH w w' l){b o:Nat}{x:Value}(j:w.cell? ⟨b,o,none⟩=some x)(I:∀k∈l,b<k):w'.cell? ⟨b,o,none⟩=some x:=(World.cell?_of_block (a:=⟨b,o,none⟩) (h.block b (World.block_lt_of_cell? w _ j) (fun J=>absurd (I b J) (by omega)))).trans j
theorem aH.grown{w w':World}{b:Nat}(h:w.grownBy w' (some b)):aH w w' [b]:=⟨h.os,h.tape,h.output,h.size,fun k j l=>h.block k j (fun e=>l (by simp at e;simp[e]))⟩
theorem aH.gv{w w':World}(h:w.grownBy w' none):aH w w' []:=⟨h.os,h.tape,h.output,h.size,fun k j _=>h.block k j (by simp)⟩
theorem aE{w w':World}{p:Option Addr}{n c:Nat}(h:w.grownBy w' (Value.slice p n c).ownBlock):aH w w' (ae (.slice p n c)):=by cases p with|none=>exact aH.gv h|some a=>exact aH.grown h
theorem dk.aA{lo:Nat}{w w':World}{v:Value}{l:List Nat}(h:dk lo w v)(J:aH w w' l)(hd:∀b∈ae v,b∉l):dk lo w' v:=⟨h.lo,fun b I=>Nat.lt_of_lt_of_le (h.hi b I) J.size,fun b I j=>(World.frozen?_of_block (a:=⟨b,j,none⟩) (J.block b (h.hi b I) (hd b I))).trans (h.free b I j),h.nodup⟩
theorem jL{lo n c:Nat}{w:World}{p:Option Addr}(h:nQ lo w (.slice p n c)):dk lo w (.slice p n c):=by cases p with|none=>exact⟨by simp[ae,aJ],by simp[ae,aJ],by simp[ae,aJ],by simp[ae,aJ]⟩|some a=>have j:=h.free a.block rfl;exact⟨by simp[ae,aJ];exact j.1,by simp[ae,aJ];exact j.2.1,by simp[ae,aJ];exact j.2.2,by simp[ae,aJ]⟩
theorem dk.own{lo n c:Nat}{w:World}{p:Option Addr}(h:dk lo w (.slice p n c)):nQ lo w (.slice p n c):=by cases p with|none=>exact⟨fun b j=>by cases j⟩|some a=>exact⟨fun b j=>by simp[Value.ownBlock]at j;subst j;exact⟨h.lo _ (by simp[ae,aJ]),h.hi _ (by simp[ae,aJ]),h.free _ (by simp[ae,aJ])⟩⟩
theorem aS{v:Value}{p:Option Addr}{n c:Nat}(e:v=.slice p n c){b:Nat}:v.ownBlock=some b↔b∈ae v:=by subst e;cases p with|none=>simp[Value.ownBlock,ae,aJ]|some a=>simp[Value.ownBlock,ae,aJ];exact⟨fun h=>h.symm,fun h=>h.symm⟩
theorem dk.IG{J l:Nat}{w1 w2:World}{R T:Value}(U:dk J w1 R)(h2:dk l w2 T)(h:w1.heap.size<=l):(∀b∈ae R,b∉ae T)/\(∀b∈ae T,b∉ae R):=⟨fun b I j=>absurd (U.hi b I) (by have:=h2.lo b j;omega),fun b I j=>absurd (U.hi b j) (by have:=h2.lo b I;omega)⟩
section
section
variable {P : Program} {ops : Array Oper} {md : Region.Mode} {C : World -> Prop}
def qd(P:Program)(md:Region.Mode)(ops:Array Oper)(C:World->Prop)(n:Nat)(L:Array Bool->Act->Prop):Nat->Array Bool->Act->Prop|0,listed,a=>L listed a|f+1,listed,a=>Region.ready md ops listed≠[]/\∀i∈Region.ready md ops listed,i<n/\qOp P ops C i (qd P md ops C n L f (listed.setIfInBounds i true)) a
theorem kF{n g:Nat}{L:Array Bool->Act->Prop}{Q':Exit->Act->World->Prop}(I:∀listed a w,C w->L listed a->wpAny P md ops Q' g listed a w):∀(f:Nat)(listed:Array Bool)(a:Act)(w:World),C w->qd P md ops C n L f listed a->wpAny P md ops Q' (f+g) listed a w|0,listed,a,w,j,h=>by rw[Nat.zero_add];exact I _ _ _ j h|f+1,listed,a,w,j,h=>by rw[show f+1+g=(f+g)+1 by omega];exact⟨fun T=>absurd T h.1,fun i hi=>wpOp_of_qOp j (fun J w' l R=>kF I f _ J w' l R) (h.2 i hi).2⟩
theorem wM{n i:Nat}{oi:Oper}{v:Value}{L:Array Bool->Act->Prop}(hi:ops[i]?=some oi)(ab:∀(j:Nat)(o:Oper)cs b,ops[j]?=some o->o.op≠.select cs b)(hs:Region.sinkB md ops n=true)(hc:Region.chainB md ops n=true)(hn:n<ops.size)(ah:i<n)(ac:∀listed a,L listed a->∀j∈Region.ready md ops listed,n<=j)(f:Nat):∀(listed:Array Bool)(a:Act),HeadInv md ops n listed->(∀j oj,ops[j]?=some oj->j≠i->listed.getD j true=false->(∀e∈oj.after,Region.binds md e=true->e.on≠i)->oi.apart ops oj=true)->i∈Region.ready md ops listed->YieldsIn P ops C oi v a->qd P md ops C n L f (listed.setIfInBounds i true) (a.put oi.dst v)->qd P md ops C n L (f+1) listed a:=by
 induction f with
  |zero=>
   intro listed a R _ U hy H;refine⟨fun h=>(by rw[h]at U;cases U),fun j hj=>?_⟩;have J:j<n:=Nat.lt_of_not_le fun h=>tail_waits hs hc hn R _ i rfl ah (mem_ready.1 U).1 j h hj;refine⟨J,?_⟩;by_cases l:j=i;·subst l;exact hy.qOp hi H
   ·exact absurd (ac _ _ H j (ready_mono hj l)) (by omega)|succ f ih=>
   intro listed a R I U hy H;refine⟨fun h=>(by rw[h]at U;cases U),fun j hj=>?_⟩;have ao:=(mem_ready.1 U).1;have J:j<n:=Nat.lt_of_not_le fun h=>tail_waits hs hc hn R _ i rfl ah ao j h hj;refine⟨J,?_⟩;by_cases l:j=i;·subst l;exact hy.qOp hi H
   ·obtain⟨T,oj,ad,af⟩:=mem_ready.1 hj;have an:∀e∈oj.after,Region.binds md e=true->e.on≠i:=fun e he hb heq=>by have h1:=af e he hb;rw[heq,getD_both ao]at h1;cases h1
    have h2:=qOp_put ad (I j oj ad l T an) (fun cs b=>ab i oi cs b hi) (fun cs b=>ab j oj cs b ad) hy (H.2 j (ready_mono hj l)).2;refine qOp_mono (fun a' h3=>ih (listed.setIfInBounds j true) a' (R.set hj J) (fun k ok hk av aq ax=>?_) (ready_mono U (Ne.symm l)) h3.1 ?_) h2;·
     refine I k ok hk av ?_ ax;by_cases al:j=k;·subst al;exact T
     ·rwa[getD_set_ne true al]at aq
    ·rw[Array.setIfInBounds_comm _ _ l];exact h3.2
theorem tV{n g:Nat}{Lq:Act->Prop}(J:Region.noSelect ops=true)(hs:Region.sinkB md ops n=true)(hc:Region.chainB md ops n=true)(hn:n<ops.size):∀(l:List Oper)(k:Nat)(listed:Array Bool)(a:Act),(∀j,j<l.length->l[j]?=ops[k+j]?)->k+l.length=n->HeadInv md ops n listed->Region.lexHead md ops g l.length k listed=true->wpQuiet P ops C Lq l a->qd P md ops C n (fun I a'=>Region.seqB md ops g n I=true/\Lq a') l.length listed a
 |[],k,listed,a,_,hk,_,R,h=>by
  have e:k=n:=by simpa using hk
  subst e;exact⟨by simpa[Region.lexHead]using R,h⟩|o::l,k,listed,a,hl,hk,U,R,h=>by
  have h0:ops[k]?=some o:=by simpa using(hl 0 (by simp)).symm
  simp only[List.length_cons,Region.lexHead,Bool.and_eq_true]at R;have T:k<n:=by simp only[List.length_cons]at hk;omega
  have hr:k∈Region.ready md ops listed:=by simpa using R.1.1
  obtain⟨v,hy,hK⟩:=yieldsIn_of_qOp h0 (show qOp P ops C k (wpQuiet P ops C Lq l) a by unfold qOp;simp only[h0];exact h);exact wM h0 (Region.noSelect_spec J) hs hc hn T (fun _ _ hL=>seqB_ready hL.1) l.length listed a U (Region.free_spec h0 R.1.2) hr hy (tV J hs hc hn l (k+1) _ _ (fun j hj=>by have:=hl (j+1) (by simp;omega);simpa[Nat.add_assoc,Nat.add_comm 1 j]using this) (by simp only[List.length_cons]at hk;omega) (U.set hr T) R.2 hK)
end
theorem jB{P:Program}{id:Nat}{Q:Exit->Act->World->Prop}{a:Act}{w:World}{l:List Oper}(n:Nat)(hm:P.follows .mixedOrders=true)(hB:Region.lexTailB .any l.toArray n=true)(h:∀W,W=w->wpQuiet P l.toArray (fun w'=>∃g:Grown W,w'=g.val) (fun a'=>∀w',ZW W w'->wpList P l.toArray Q (l.drop n) a' w') (l.take n) a):(Code.region id l.toArray true).wp P Q a w:=by
 simp only[Region.lexTailB,Bool.and_eq_true,decide_eq_true_eq]at hB;obtain⟨⟨⟨⟨T,hn⟩,hs⟩,hc⟩,R⟩:=hB;have I:(l.take n).length=n:=by
  have:n<l.length:=by simpa using hn
  simp;omega
 have J:(l.drop n).length=l.toArray.size-n:=by simp
 have U:HeadInv .any l.toArray n (Array.replicate l.toArray.size false):=⟨by simp,fun j oj _ hl=>(by rw[getD_replicate_false]at hl;cases hl),fun t _ ht=>getD_in (by simpa using ht) (getD_replicate_false _ _)⟩;have H:=tV (md:=.any) (C:=fun w'=>∃g:Grown w,w'=g.val) (g:=l.toArray.size-n) T hs hc hn (l.take n) 0 _ a (fun j hj=>by
  have ab:j<n:=by rw[I]at hj;exact hj
  simp[ab]) (by simpa using I) U (by rw[I];exact R) (h w rfl);refine wp_region_any hm ?_;have K:=kF (Q':=Q) (g:=l.toArray.size-n) (fun listed a' w' hw hL=>by obtain⟨g,rfl⟩:=hw;have:=wpAny_of_seq (md:=.any) (Q':=Q) (l.drop n) n listed a' g.val (fun j=>by simp[List.getElem?_drop]) (by rw[J];exact hL.1) (hL.2 _ g.bel);rwa[J]at this) _ _ _ {w with drawn:=w.drawn+1} ⟨⟨_,(Below.refl _ _).drew⟩,rfl⟩ H;rw[I,show n+(l.toArray.size-n)=l.toArray.size by omega]at K;exact K
end
section
open Go.RowKit Go.Extern.Stop Go.Stop Go.Extern
theorem Tryz.wU(v:Value)(w:World):(Extern.ReflectliteType.typeOf #[.iface 398 v]).run Tryz.prog w=.ok (.iface 385 (.agg #[.pointer (some ⟨4,398,none⟩)])) w:=by kernel_rfl
def yw : Array Value -> Sem Value := Extern.ReflectliteType.method fun t => do
 Extern.Rtype.noPackHeld "Comparable" t;
 pure (.bool (<- typeInfo t).comparable)
theorem Tryz.oB(w:World):(yw #[.agg #[.pointer (some ⟨4,398,none⟩)]]).run Tryz.prog w=.ok (.bool true) w:=by kernel_rfl
theorem Tryz.jq(v:Value)(w:World):(Go.method 536 385 v "Comparable").run Tryz.prog w=.ok (350,v) w:=by kernel_rfl
theorem Tryz.DN:(Tryz.prog.info? 398).map (·.comparable)=some true:=by kernel_rfl
theorem Tryz.DO:(Tryz.prog.info? 424).map (·.size)=some 1:=by kernel_rfl
theorem Tryz.JU(v:Value)(j:TypeId)(w:World):(Instr.typeAssert (.iface 398 v) j 387 true).run Tryz.prog w=.ok (.tuple #[.nilIface,.bool false]) w:=run_typeAssert_lacksB Tryz.underlying387 (by kernel_rfl) (by kernel_rfl) v j w
theorem Tryz.B6(v:Value)(j:TypeId)(w:World):(Instr.typeAssert (.iface 398 v) j 390 true).run Tryz.prog w=.ok (.tuple #[.nilIface,.bool false]) w:=run_typeAssert_lacksB Tryz.underlying390 (by kernel_rfl) (by kernel_rfl) v j w
theorem Tryz.yR(v:Value)(j:TypeId)(w:World):(Instr.typeAssert (.iface 398 v) j 392 true).run Tryz.prog w=.ok (.tuple #[.nilIface,.bool false]) w:=run_typeAssert_lacksB Tryz.underlying392 (by kernel_rfl) (by kernel_rfl) v j w
theorem uU(a:Addr)(w:World):Calls Tryz.prog 289 #[.iface 398 (.pointer (some a)),.iface 398 (.pointer (some a))] w fun e w'=>e=.returned (.bool true)/\w'=w:=by obtain⟨i,hi,l⟩:=Option.map_eq_some_iff.1 Tryz.DN;obtain⟨j,J,R⟩:=Option.map_eq_some_iff.1 Tryz.DO;have U:=@run_callFunc_extern Tryz.prog 314 _ Extern.ReflectliteType.typeOf Tryz.func314 (by kernel_rfl) (by kernel_rfl) (by kernel_rfl) (by kernel_rfl);have I:=@run_callFunc_extern Tryz.prog 350 _ yw Tryz.func350 (by kernel_rfl) (by kernel_rfl) (by kernel_rfl) (by kernel_rfl);have tT:=Tryz.wU;have T:=Tryz.oB;have mR:=Tryz.jq;have heq:=run_eql_iface_ptr_same (P:=Tryz.prog) w a Tryz.underlying256 Tryz.underlying398 hi l J;go_in;go_wp2;refine wp_loop_rounds 1 ?_;rw[rounds_succ];go_wp2;go_ret;exact⟨rfl,rfl⟩
theorem km(a b:Addr)(R T:Array Value)(ta tb:TypeId)(w:World)(J:a≠b)(ha:w.heap[a.block]?=some (.cells R ta (0,0)))(hb:w.heap[b.block]?=some (.cells T tb (0,0))):Calls Tryz.prog 289 #[.iface 398 (.pointer (some a)),.iface 398 (.pointer (some b))] w fun e w'=>e=.returned (.bool false)/\w'=w:=by obtain⟨i,hi,l⟩:=Option.map_eq_some_iff.1 Tryz.DN;obtain⟨j,hj,I⟩:=Option.map_eq_some_iff.1 Tryz.DO;have h8:=@run_callFunc_extern Tryz.prog 314 _ Extern.ReflectliteType.typeOf Tryz.func314 (by kernel_rfl) (by kernel_rfl) (by kernel_rfl) (by kernel_rfl);have U:=@run_callFunc_extern Tryz.prog 350 _ yw Tryz.func350 (by kernel_rfl) (by kernel_rfl) (by kernel_rfl) (by kernel_rfl);have tT:=Tryz.wU;have cT:=Tryz.oB;have mR:=Tryz.jq;have nE:=Tryz.JU;have uE:=Tryz.B6;have vE:=Tryz.yR;have heq:=run_eql_iface_ptr_other (P:=Tryz.prog) w Tryz.underlying256 Tryz.underlying398 hi l hj (by rw[I];decide) J ha hb;go_in;go_wp2;refine wp_loop_rounds 1 ?_;rw[rounds_succ];go_wp2;go_ret;exact⟨rfl,rfl⟩
structure jU where
 aN:Addr
 aL:Addr
 aR:Addr
 aM:Addr
structure dS(w:World)(E:jU):Prop where
 gN:w.cell? ⟨3,0,none⟩=some (.iface 398 (.pointer (some E.aN)))
 gL:w.cell? ⟨0,0,none⟩=some (.iface 398 (.pointer (some E.aL)))
 gR:w.cell? ⟨1,0,none⟩=some (.iface 398 (.pointer (some E.aR)))
 gM:w.cell? ⟨2,0,none⟩=some (.iface 398 (.pointer (some E.aM)))
 bN:∃c t,w.heap[E.aN.block]?=some (.cells c t (0,0))
 bL:∃c t,w.heap[E.aL.block]?=some (.cells c t (0,0))
 bR:∃c t,w.heap[E.aR.block]?=some (.cells c t (0,0))
 bM:∃c t,w.heap[E.aM.block]?=some (.cells c t (0,0))
 nL:E.aN≠E.aL
 nR:E.aN≠E.aR
 nM:E.aN≠E.aM
 lR:E.aL≠E.aR
 lM:E.aL≠E.aM
 rM:E.aR≠E.aM
theorem dS.carry{w w':World}{E:jU}(h:dS w E)(J:ZW w w'):dS w' E:=by have l:∀{p:Addr}{v:Value},w.cell? p=some v->w'.cell? p=some v:=fun{p v}j=>(J.cell (World.block_lt_of_cell? w _ j)).trans j;have I:∀{b:Nat},(∃c t,w.heap[b]?=some (.cells c t (0,0)))->∃c t,w'.heap[b]?=some (.cells c t (0,0)):=fun{b}⟨c,t,j⟩=>⟨c,t,(J.block b (Array.getElem?_eq_some_iff.1 j).1).trans j⟩;exact⟨l h.gN,l h.gL,l h.gR,l h.gM,I h.bN,I h.bL,I h.bR,I h.bM,h.nL,h.nR,h.nM,h.lR,h.lM,h.rM⟩
abbrev yk:=CallKind
def yk.code:yk->Int|.normal=>0|.deferred=>6|.wrapped=>2|.report=>1|.early=>9
def iW(E:jU):yk->Value|.normal=>.nilIface|.deferred=>.iface 398 (.pointer (some E.aN))|.wrapped=>.iface 398 (.pointer (some E.aL))|.report=>.iface 398 (.pointer (some E.aR))|.early=>.iface 398 (.pointer (some E.aM))
end
def Jy(v:Nat):Prop:=v<18446744073709551616
theorem Jy.lt{v:Nat}(h:Jy v):v<18446744073709551616:=h
def kC:Nat->Nat->Nat|0,_=>0|f+1,u=>if u<128 then 0 else kC f (u/128)+1
section
section
variable {P : Program} {ops : Array Oper} {Q : Exit -> Act -> World -> Prop} {S : World -> Prop}
theorem JK(i d:Nat)(v:Value){I:Oper}{fuel:Nat}{j:Array Bool}{a:Act}{w:World}(hi:ops[i]?=some I)(hd:I.dst=some d)(l:(Region.noSelect ops&&Region.free .any ops j i&&(Region.ready .any ops j).contains i)=true)(R:Region.wanted I (yielded ops a.tmps)=true)(J:∀c a w,Q (.panic c) (a.put (some d) v) w->Q (.panic c) a w)(hS:S w)(T:∀W,S W->(execOp a.eval I).run P W=.ok (.value v) W)(h:wpAnyH P .any ops Q S fuel (j.setIfInBounds i true) (a.put (some d) v) w):wpAnyH P .any ops Q S (fuel+1) j a w:=by simp only[Bool.and_eq_true]at l;rw[<-hd]at J h;exact wpAnyH_take hi l.1.1 l.1.2 l.2 J (Or.inl ⟨R,T⟩) hS h
theorem bq:(∀(α:Type)(l:List α)(i:Nat)(h:i<l.toArray.size),l.toArray[i]'h=l[i]'(by simpa using h))/\(∀(α:Type)(a:α)(l:List α)(h:0<(a::l).length),(a::l)[0]'h=a)/\∀(α:Type)(a:α)(l:List α)(i:Nat)(h:i+1<(a::l).length),(a::l)[i+1]'h=l[i]'(by simpa using h):=⟨fun _ _ _ _=>rfl,fun _ _ _ _=>rfl,fun _ _ _ _ _=>rfl⟩
theorem aX:(∀t ds d v,Act.put ⟨t,ds⟩ (some d) v=⟨t.setIfInBounds d v,ds⟩)/\(∀(α:Type)(l:List α)(i:Nat)(a:α),l.toArray.setIfInBounds i a=(l.set i a).toArray)/\(∀(α:Type)(a b:α)(l:List α),(a::l).set 0 b=b::l)/\∀(α:Type)(a b:α)(l:List α)(i:Nat),(a::l).set (i+1) b=a::l.set i b:=⟨fun _ _ _ _=>rfl,fun _ _ _ _=>by simp,fun _ _ _ _=>rfl,fun _ _ _ _ _=>rfl⟩
theorem dK(i d:Nat)(v:Value){l:Oper}{fuel:Nat}{j:Array Bool}{a:Act}{w:World}(hi:ops[i]?=some l)(hS:S w)(T:∀W,S W->(execOp a.eval l).run P W=.ok (.value v) W)(h:wpAnyH P .any ops Q S fuel (j.setIfInBounds i true) (a.put (some d) v) w)(hd:l.dst=some d:=by rfl)(I:(Region.noSelect ops&&Region.free .any ops j i&&(Region.ready .any ops j).contains i)=true:=by kernel_rfl)(R:Region.wanted l (yielded ops a.tmps)=true:=by rfl)(J:∀c a w,Q (.panic c) (a.put (some d) v) w->Q (.panic c) a w:=by exact fun _ _ _ h=>h):wpAnyH P .any ops Q S (fuel+1) j a w:=JK i d v hi hd I R J hS T h
theorem bG(i d:Nat)(v:Value){l:Oper}{fuel:Nat}{j:Array Bool}{a:Act}{w:World}(hi:ops[i]?=some l)(hS:S w)(h:wpAnyH P .any ops Q S fuel (j.setIfInBounds i true) (a.put (some d) v) w)(T:∀W,S W->(execOp a.eval l).run P W=.ok (.value v) W:=by intro W U;simp only[bq];go_simp)(hd:l.dst=some d:=by rfl)(I:(Region.noSelect ops&&Region.free .any ops j i&&(Region.ready .any ops j).contains i)=true:=by kernel_rfl)(R:Region.wanted l (yielded ops a.tmps)=true:=by rfl)(J:∀c a w,Q (.panic c) (a.put (some d) v) w->Q (.panic c) a w:=by exact fun _ _ _ h=>h):wpAnyH P .any ops Q S (fuel+1) j a w:=JK i d v hi hd I R J hS T h
theorem fo(i:Nat){l:Oper}{fuel:Nat}{j:Array Bool}{a:Act}{w:World}(hi:ops[i]?=some l)(h:∀I:Act->World->Prop,Shut (∀a w,S w->(S w->wpAnyH P .any ops Q S fuel (j.setIfInBounds i true) a w)->I a w)->if Region.wanted l (yielded ops a.tmps)=true then Oper.wp P l a w I Q else I (a.put l.dst undef) w)(J:Region.ready .any ops j=[i]:=by kernel_rfl):wpAnyH P .any ops Q S (fuel+1) j a w:=wpAnyH_ready J (by simp) (AllReadyH.cons hi h AllReadyH.nil)
theorem rK(i j:Nat){J R:Oper}{fuel:Nat}{l:Array Bool}{a:Act}{w:World}(hi:ops[i]?=some J)(U:ops[j]?=some R)(h:∀I:Act->World->Prop,Shut (∀a w,S w->(S w->wpAnyH P .any ops Q S fuel (l.setIfInBounds i true) a w)->I a w)->if Region.wanted J (yielded ops a.tmps)=true then Oper.wp P J a w I Q else I (a.put J.dst undef) w)(T:∀I:Act->World->Prop,Shut (∀a w,S w->(S w->wpAnyH P .any ops Q S fuel (l.setIfInBounds j true) a w)->I a w)->if Region.wanted R (yielded ops a.tmps)=true then Oper.wp P R a w I Q else I (a.put R.dst undef) w)(hr:Region.ready .any ops l=[i,j]:=by kernel_rfl):wpAnyH P .any ops Q S (fuel+1) l a w:=wpAnyH_ready hr (by simp) (AllReadyH.cons hi h (AllReadyH.cons U T AllReadyH.nil))
end
end
section
open Go.RowKit Go.ChangeShapes Go.WideShapes
theorem Tryz.Ku:Tryz.prog.cellsOf 2=1:=by kernel_rfl
theorem Tryz.KS:Tryz.prog.cellsOf 9=1:=by kernel_rfl
end
theorem qy{P:Program}{ops:Array Oper}{o:Oper}{a:Act}{w:World}{K:Act->World->Prop}{Q:Exit->Act->World->Prop}{E:Prop}(hg:o.guard=none)(s x:Operand)(t:TypeId)(ac:o.op=Op.call {callee:=Callee.builtin Builtin.append,args:=#[s,x],argTypes:=#[t,t]})(e:TypeId)(i:TypeInfo)(z:Value)(size bytes:Nat)(h1:P.underlying t=some (.slice e))(h2:P.info? e=some i)(h3:i.zero=some z)(h4:i.size=size)(h5:i.bytes=bytes)(h6:z.cells.size=size)(h7:0<size)(b:Addr)(n cap:Nat)(I:List Value)(hs:a.eval s=.slice (some b) n cap)(ab:I.length=n*size)(holds:∀j u,I[j]?=some u->w.cell? (b.add j)=some u)(U:Addr)(m c:Nat)(l:List Value)(hx:a.eval x=.slice (some U) m c)(hn:l.length=m*size)(hc:∀j u,l[j]?=some u->w.cell? (U.add j)=some u)(J:cap<n+m)(b1:n+m<=maxLen)(b2:(n+m)*bytes<=140737488355328)(hK:∀T w',w'.ownsRow w.heap.size e size T (n+m) (I++l)->w.grownBy w' none->K (a.put o.dst T) w'):if Region.wanted o (yielded ops a.tmps)=true then Oper.wp P o a w K Q else E:=by
 have hw:Region.wanted o (yielded ops a.tmps)=true:=by simp[Region.wanted,hg]
 rw[if_pos hw];obtain⟨T,w',R,r1,r2⟩:=run_append_arg_grows (P:=P) w t o.type e i z size bytes h1 h2 h3 h4 h5 h6 h7 b n cap I ab holds U m c l hn hc J b1 b2;unfold Oper.wp;simp[execOp,ac,resolve,invoke,builtin,hs,hx,R,Result.andThen];exact hK T w' r1 r2
theorem fX{P:Program}{ops:Array Oper}{o:Oper}{a:Act}{w:World}{K:Act->World->Prop}{Q:Exit->Act->World->Prop}{E:Prop}(hg:o.guard=none)(s x:Operand)(t:TypeId)(ac:o.op=Op.call {callee:=Callee.builtin Builtin.append,args:=#[s,x],argTypes:=#[t,t]})(base:Nat)(e:TypeId)(i:TypeInfo)(z:Value)(size bytes:Nat)(h1:P.underlying t=some (.slice e))(h2:P.info? e=some i)(h3:i.zero=some z)(h4:i.size=size)(h5:i.bytes=bytes)(h6:z.cells.size=size)(h7:0<size)(v:Value)(n:Nat)(xs:List Value)(hs:a.eval s=v)(J:w.ownsRow base e size v n xs)(U:Addr)(m c:Nat)(l:List Value)(hx:a.eval x=.slice (some U) m c)(hn:l.length=m*size)(hc:∀j u,l[j]?=some u->w.cell? (U.add j)=some u)(ab:∀u∈l,u.oneCell'=true)(b1:n+m<=maxLen)(b2:(n+m)*bytes<=140737488355328)(I:base<=w.heap.size)(hK:∀T w',w'.ownsRow base e size T (n+m) (xs++l)->w.grownBy w' v.ownBlock->K (a.put o.dst T) w'):if Region.wanted o (yielded ops a.tmps)=true then Oper.wp P o a w K Q else E:=by
 have hw:Region.wanted o (yielded ops a.tmps)=true:=by simp[Region.wanted,hg]
 rw[if_pos hw];obtain⟨T,w',R,r1,r2,_⟩:=run_append_own (P:=P) w base t o.type e i z size bytes h1 h2 h3 h4 h5 h6 h7 v n xs J U m c l hn hc ab b1 b2 I;unfold Oper.wp;simp[execOp,ac,resolve,invoke,builtin,hs,hx,R,Result.andThen];exact hK T w' r1 r2
theorem Ic(n lo hi:Int)(w:World):Calls Tryz.prog 105 #[.int .i64 n,.int .i64 lo,.int .i64 hi] w fun e w'=>e=.returned (.bool (decide (lo<=n)&&decide (n<=hi)))/\w'=w:=by by_cases h:lo<=n;all_goals go_in;go_wp2;go_ret;refine⟨aD ?_,rfl⟩;simp[*];try omega
theorem aH.ek{w w':World}{l:List Nat}(h:aH w w' l){b o:Nat}{x:Value}(j:w.cell? ⟨b,o,none⟩=some x)(I:b∉l):w'.cell? ⟨b,o,none⟩=some x:=(World.cell?_of_block (a:=⟨b,o,none⟩) (h.block b (World.block_lt_of_cell? w _ j) I)).trans j
theorem aH.og{w w':World}{l:List Nat}(h:aH w w' l){b o:Nat}{x:Bool}(j:b<w.heap.size)(I:w.frozen? ⟨b,o,none⟩=x)(J:b∉l):w'.frozen? ⟨b,o,none⟩=x:=(World.frozen?_of_block (a:=⟨b,o,none⟩) (h.block b j J)).trans I
theorem aH.Kd{w w':World}{l:List Nat}(h:aH w w' []):aH w w' l:=⟨h.os,h.tape,h.output,h.size,fun b j _=>h.block b j (by simp)⟩
theorem aH.same{w w':World}{b:Nat}(h:aH w w' ([b]++[b])):aH w w' [b]:=⟨h.os,h.tape,h.output,h.size,fun k l j=>h.block k l (by simp at j;simp[j])⟩
theorem aH.setCell{w w':World}{b:Nat}(h:aH w w' [b])(o:Nat)(x:Value):aH w (w'.setCell ⟨b,o,none⟩ x) [b]:=⟨h.os,h.tape,h.output,by simp;exact h.size,fun k l j=>(Below.heap_setCell w' ⟨b,o,none⟩ x k (fun e=>j (by simp[e]))).trans (h.block k l j)⟩
section
open Go.RowKit Go.ChangeShapes Go.WideShapes
def rf(w:World)(b o:Nat)(l:List Int):Prop:=∀j(h:j<l.length),w.cell? ⟨b,o+j,none⟩=some (.int .i64 l[j])
theorem rf.carry{w w':World}{b B o:Nat}{l:List Int}(h:rf w b o l)(I:b<B)(J:Below B w w'):rf w' b o l:=fun j R=>(J.cell (p:=⟨b,o+j,none⟩) I).trans (h j R)
def di(w:World)(B:Nat)(v:Value)(l:List Int):Prop:=∃j cap,v=.slice j l.length cap/\l.length<=cap/\l.length<=4294967296/\(l≠[]->∃b o,j=some ⟨b,o,none⟩/\b<B/\rf w b o l)
theorem di.carry{w w':World}{B:Nat}{v:Value}{l:List Int}(h:di w B v l)(hb:Below B w w'):di w' B v l:=by obtain⟨J,cap,R,T,U,h4⟩:=h;refine⟨J,cap,R,T,U,fun I=>?_⟩;obtain⟨b,o,e,j,hr⟩:=h4 I;exact⟨b,o,e,j,hr.carry j hb⟩
theorem di.up{w:World}{B I:Nat}{v:Value}{l:List Int}(h:di w B v l)(hB:B<=I):di w I v l:=by obtain⟨J,cap,R,T,U,h4⟩:=h;refine⟨J,cap,R,T,U,fun j=>?_⟩;obtain⟨b,o,e,ab,hr⟩:=h4 j;exact⟨b,o,e,by omega,hr⟩
theorem di.on{w w':World}{v:Value}{l:List Int}(h:di w w.heap.size v l)(j:ZW w w'):di w' w'.heap.size v l:=(h.carry j).up j.size
theorem di.shape{w:World}{B:Nat}{v:Value}{l:List Int}(h:di w B v l):∃p c,v=.slice p l.length c:=by obtain⟨j,cap,I,_⟩:=h;exact⟨j,cap,I⟩
theorem Tryz.qO:(Tryz.prog.info? 2).map (fun i=>(i.zero,i.size,i.bytes))=some (some (.int .i64 0),1,8):=by kernel_rfl
end
theorem dT{α β:Type}(f:α->List β)(n:Nat)(I:∀x,(f x).length=n):∀(l:List α)(j:Nat)(J:j<l.length)(i:Nat),i<n->(l.flatMap f)[j*n+i]?=(f l[j])[i]?|x::l,0,_,i,hi=>by rw[List.flatMap_cons,List.getElem?_append_left (by rw[I];omega)];simp|x::l,j+1,J,i,hi=>by rw[List.flatMap_cons,List.getElem?_append_right (by rw[I,Nat.succ_mul];omega),I,show(j+1)*n+i-n=j*n+i by rw[Nat.succ_mul];omega];exact dT f n I l j (by simpa using J) i hi
theorem dX{α β:Type}(f:α->List β)(n:Nat)(j:∀x,(f x).length=n):∀(l:List α),(l.flatMap f).length=l.length*n|[]=>by simp|x::l=>by rw[List.flatMap_cons,List.length_append,j,dX f n j l,List.length_cons,Nat.succ_mul,Nat.add_comm]
theorem cQ{w:World}{base e size n:Nat}{v:Value}{T:List Value}(h:w.ownsRow base e size v n T){g c:Nat}(R:v=.slice (some ⟨g,0,none⟩) n c)(k:Nat)(x:Value)(I:T[k]?=some x):w.cell? ⟨g,k,none⟩=some x:=by
 obtain⟨hl,hh⟩:=h;rcases hh with⟨rfl,_⟩|⟨g',cap,U,rfl,_,j,_,_,_,l⟩;·cases R
 ·injection R with h1 _ h3;injection h1 with h1;injection h1 with h1;subst h1;have J:k<n*size:=by rw[<-hl];exact(List.getElem?_eq_some_iff.1 I).1
  rw[<-l,List.getElem?_take,if_pos J]at I;simp only[World.cell?,j];simpa using I
theorem ak{w:World}{base e size n:Nat}{v:Value}{U:List Value}(h:w.ownsRow base e size v n U):dk base w v:=by
 obtain⟨_,T⟩:=h;rcases T with⟨rfl,_⟩|⟨g,cap,J,rfl,R,l,_⟩;·exact⟨by simp[ae,aJ],by simp[ae,aJ],by simp[ae,aJ],by simp[ae,aJ]⟩
 ·refine⟨by simp[ae,aJ];exact R,by simp[ae,aJ];exact(Array.getElem?_eq_some_iff.1 l).1,?_,by simp[ae,aJ]⟩;intro b I j;simp[ae,aJ]at I;subst I;simp[World.frozen?,l]
theorem ar{w:World}{base e size n:Nat}{v:Value}{J:List Value}(h:w.ownsRow base e size v n J):∃p c,v=.slice p n c:=by
 obtain⟨_,I⟩:=h;rcases I with⟨rfl,l⟩|⟨R,cap,j,rfl,_⟩;·exact⟨none,0,by rw[l]⟩
 ·exact⟨_,_,rfl⟩
theorem dd(w:World)(base e size:Nat):w.ownsRow base e size (.slice none 0 0) 0 []:=⟨by simp,.inl ⟨rfl,rfl⟩⟩
theorem dH(w:World)(base e size g:Nat)(l:base<=g)(j:w.heap[g]?=some (.cells #[] e (0,0))):w.ownsRow base e size (.slice (some ⟨g,0,none⟩) 0 0) 0 []:=⟨by simp,.inr ⟨g,0,#[],rfl,l,j,Nat.le_refl _,by simp[maxLen],by simp,by simp⟩⟩
theorem aK{w w':World}{base e size n:Nat}{v:Value}{R:List Value}{l:List Nat}(h:w.ownsRow base e size v n R)(T:aH w w' l)(hd:∀b∈ae v,b∉l):w'.ownsRow base e size v n R:=by
 obtain⟨hl,J⟩:=h;refine⟨hl,?_⟩;rcases J with J|⟨g,cap,I,rfl,U,j,hr⟩;·exact .inl J
 ·exact .inr ⟨g,cap,I,rfl,U,(T.block g (Array.getElem?_eq_some_iff.1 j).1 (hd g (by simp[ae,aJ]))).trans j,hr⟩
theorem aT{w w':World}{base e size n:Nat}{v:Value}{j:List Value}(h:w.ownsRow base e size v n j)(l:ZW w w'):w'.ownsRow base e size v n j:=aK h (aj l) (fun _ _=>by simp)
