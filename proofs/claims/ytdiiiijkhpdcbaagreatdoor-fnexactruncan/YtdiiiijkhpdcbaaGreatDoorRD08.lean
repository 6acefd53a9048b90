import Derived.Test.YtdiiiijkhpdcbaaGreatDoorProg
import Derived.Test.YtdiiiijkhpdcbaaGreatDoorRD00
import Derived.OpenShut
import Derived.Deep.RegionLaw
import Derived.Deep.DrawnRows
import Derived.Laws.AppendOwn
import Derived.Maps.AppendAt
namespace Go.Proofs.YtdiiiijkhpdcbaaGreatDoor
open Go.RowKit
set_option linter.unusedSimpArgs false
set_option linter.unusedVariables false
set_option maxHeartbeats 2000000
set_option maxRecDepth 100000
theorem aP(w:World)(b o:Nat)(x:Value):aI w (w.setCell ⟨b,o,none⟩ x) [b]:=aI.setCell ⟨rfl,rfl,rfl,Nat.le_refl _,fun _ _ _=>rfl⟩ o x
theorem bu{w:World}{base j e size n:Nat}{v:Value}{I:List Value}(h:w.ownsRow base e size v n I)(P:j≤base):w.ownsRow j e size v n I:=by
 obtain⟨J,C⟩:=h;refine⟨J,?_⟩;rcases C with C|⟨g,cap,l,a,b,c⟩;·exact .inl C
 ·exact .inr ⟨g,cap,l,a,Nat.le_trans P b,c⟩
theorem fY{P:Program}{T:Array Oper}{o:Oper}{a:Act}{w:World}{K:Act→World→Prop}{Q:Exit→Act→World→Prop}{E:Prop}(hg:o.guard=none)(s x:Operand)(t:TypeId)(ac:o.op=Op.call {callee:=Callee.builtin Builtin.append,args:=#[s,x],argTypes:=#[t,t]})(base:Nat)(e:TypeId)(i:TypeInfo)(z:Value)(size bytes:Nat)(h1:P.underlying t=some (.slice e))(h2:P.info? e=some i)(h3:i.zero=some z)(h4:i.size=size)(h5:i.bytes=bytes)(h6:z.cells.size=size)(h7:0<size)(v:Value)(n:Nat)(xs:List Value)(hs:a.eval s=v)(J:w.ownsRow base e size v n xs)(U:Addr)(m c:Nat)(l:List Value)(hx:a.eval x=.slice (some U) m c)(hn:l.length=m*size)(hc:∀j u,l[j]?=some u→w.cell? (U.add j)=some u)(ab:∀u∈l,u.oneCell'=true)(b1:n+m≤maxLen)(b2:(n+m)*bytes≤140737488355328)(C:base≤w.heap.size)(hK:∀I w',w'.ownsRow base e size I (n+m) (xs++l)→w.grownBy w' v.ownBlock→(I.ownBlock=v.ownBlock∨I.ownBlock=some w.heap.size)→K (a.put o.dst I) w'):if Region.wanted o (yielded T a.tmps)=true then Oper.wp P o a w K Q else E:=by
 have hw:Region.wanted o (yielded T a.tmps)=true:=by simp[Region.wanted,hg]
 rw[if_pos hw];obtain⟨I,w',R,r1,r2,_,r3⟩:=run_append_own_at (P:=P) w base t o.type e i z size bytes h1 h2 h3 h4 h5 h6 h7 v n xs J U m c l hn hc ab b1 b2 C;unfold Oper.wp;simp[execOp,ac,resolve,invoke,builtin,hs,hx,R,Result.andThen];exact hK I w' r1 r2 r3
theorem aI.sub{w w':World}{l l':List Nat}(h:aI w w' l)(J:∀b∈l,b∈l'):aI w w' l':=⟨h.os,h.tape,h.output,h.size,fun b j I=>h.block b j (fun C=>I (J b C))⟩
structure ba(w:World)(b:Nat)(vs:List Value):Prop where
 cell:∀i v,vs[i]?=some v→w.cell? ⟨b,i,none⟩=some v
 fz:∀o,w.frozen? ⟨b,o,none⟩=false
 lt:b<w.heap.size
theorem ba.aD{w w':World}{b:Nat}{I:List Value}{l:List Nat}(h:ba w b I)(j:aI w w' l)(C:b∉l):ba w' b I:=⟨fun i v J=>j.fV (h.cell i v J) C,fun o=>j.nw h.lt (h.fz o) C,Nat.lt_of_lt_of_le h.lt j.size⟩
theorem ba.set{w:World}{b:Nat}{l:List Value}(h:ba w b l)(k:Nat)(C:k<l.length)(y:Value):ba (w.setCell ⟨b,k,none⟩ y) b (l.set k y):=by
 refine⟨fun i v j=>?_,fun o=>(World.frozen?_setCell ..).trans (h.fz o),by rw[World.size_setCell];exact h.lt⟩;by_cases hi:k=i;·subst hi;rw[List.getElem?_set_self C]at j;injection j with j;subst j;exact World.cell?_setCell_same _ _ _ (h.cell k l[k] (by simp[C]))
 ·rw[List.getElem?_set_ne hi]at j;rw[World.cell?_setCell_other _ _ _ _ (by intro e;injection e with _ I;exact hi I)];exact h.cell i v j
theorem ba.new(w:World)(j:List Value)(T:TypeId):ba (w.alloc (.cells j.toArray T)) w.heap.size j:=by refine⟨fun i v I=>?_,fun o=>by simp,by simp⟩;obtain⟨l,C⟩:=List.getElem?_eq_some_iff.1 I;simp[l,C]
theorem dI(w:World)(l:List Value)(t:TypeId)(j:Nat)(u:Value)(h:l[j]?=some u):(w.alloc (.cells l.toArray t)).cell? (Addr.add ⟨w.heap.size,0,none⟩ j)=some u:=by
 have e:(w.alloc (.cells l.toArray t)).heap[w.heap.size]?=some (.cells l.toArray t):=bV _ _ _ rfl;have C:Addr.add ⟨w.heap.size,0,none⟩ j=⟨w.heap.size,j,none⟩:=by unfold Addr.add;split<;>simp_all
 rw[C];simp only[World.cell?];rw[e];simpa using h
theorem Tryz.lj:(Tryz.prog.info? 9).map (fun i=>(i.zero,i.size,i.bytes))=some (some (.string ByteArray.empty),1,16):=by kernel_rfl
def si(l:List ByteArray):List Value:=l.map Value.string
theorem xe(l:List ByteArray):∀u∈si l,u.oneCell'=true:=by intro u hu;simp only[si,List.mem_map]at hu;obtain⟨x,_,rfl⟩:=hu;rfl
section
open Go.RowKit Go.ChangeShapes Go.WideShapes
theorem FR(l:List Int)(ao:Option Addr)(cap:Nat)(w:World)(hl:l.length≤1048576)(hr:l≠[]→∃b o,ao=some ⟨b,o,none⟩∧b<w.heap.size∧va w b o l):Calls Tryz.prog 25 #[.slice ao l.length cap] w fun e w'=>∃v',e=.returned v'∧eh w' w'.heap.size v' l∧qB w.heap.size w' v'∧Below w.heap.size w w':=by
 have HR:=aa hr;obtain⟨i0,hi,aq,av,ax⟩:=info_parts Tryz.qi;obtain⟨M,hM⟩:∃M,M=madeCells (Value.int .i64 0).cells (l.length*1):=⟨_,rfl⟩;have an:M.size=l.length*1:=by rw[hM,size_madeCells]
 have aN:∀W:World,(Instr.makeSlice 23 (.int .i64 (l.length:Int)) (.int .i64 (l.length:Int))).run Tryz.prog W=.ok (.slice (some ⟨W.heap.size,0,none⟩) l.length l.length) (W.alloc (.cells M 2)):=fun W=>by have h:=run_make (P:=Tryz.prog) W 23 2 i0 _ Tryz.underlying23 hi aq .i64 .i64 (l.length:Int) (l.length:Int) (by omega) (by omega) (by rw[ax];omega) (by omega);rw[av]at h;simp only[Int.toNat_natCast]at h;rw[←hM]at h;exact h
 have ay:=aa an;clear hr hM an hi aq av ax;go_enter Tryz.func25,Tryz.ntmps25;go_wp2_with fail;go_loopw[4](fun i wr=>∃k:Nat,k≤l.length∧i=.int .i64 k∧(∀j(h:j<l.length),j<k→wr.cell? ⟨w.heap.size,j,none⟩=some (.int .i64 l[j]))∧(∀j,j<l.length→∃y,wr.cell? ⟨w.heap.size,j,none⟩=some y)∧(∀j,wr.frozen? ⟨w.heap.size,j,none⟩=false)∧w.heap.size<wr.heap.size∧Below w.heap.size w wr)(fun i _=>l.length-(intOf i).toNat);case atStart=>
  refine⟨0,Nat.zero_le _,rfl,fun j _ h=>absurd h (by omega),fun j hj=>?_,fun j=>?_,by simp,ae _ _⟩;·
   have aL:j<M.size:=by rw[ay.out];omega
   exact⟨M[j],by simp[aL]⟩
  ·simp
 case round=>
  obtain⟨k,hk,rfl,T,C,J,af,U⟩:=hrel;have HA:=aa T;have HC:=aa C;have al:=aa J;have I:=aa U;clear T U;by_cases ac:k<l.length;·
   obtain⟨b,o,rfl,az,ab⟩:=HR.out (by intro h;simp[h]at ac);have ad:=(ab.carry az I.out) k ac;obtain⟨x1,ah⟩:∃x1,x1=l[k]:=⟨_,rfl⟩;rw[←ah]at ad;have HN:=aa ah;clear ah ab;obtain⟨y0,g0⟩:=C k ac;have f0:=J k;clear C J;go_wp2_with fail;all_goals
    go_roundw;case rel=>
     refine⟨k+1,by omega,by go_num,fun j hj aM=>?_,fun j hj=>?_,fun j=>?_,?_,?_⟩;·
      by_cases R:j=k;·subst R;rw[←HN.out];exact World.cell?_setCell_same _ _ _ g0
      ·rw[World.cell?_setCell_other _ _ _ _ (by intro e;injection e with _ e2;omega)];exact HA.out j hj (by omega)
     ·by_cases R:j=k;·subst R;exact⟨_,World.cell?_setCell_same _ _ _ g0⟩
      ·obtain⟨y,hy⟩:=HC.out j hj;exact⟨y,by rw[World.cell?_setCell_other _ _ _ _ (by intro e;injection e with _ e2;omega)];exact hy⟩
     ·rw[World.frozen?_setCell];exact al.out j
     ·rw[World.size_setCell];exact af
     ·first|exact I.out.setCell (p:=⟨w.heap.size,k,none⟩) (Nat.le_refl _) _|exact I.out.drew.setCell (p:=⟨w.heap.size,k,none⟩) (Nat.le_refl _) _
    case measure=>simp[intOf];omega
  ·go_wp2_with fail;go_ret;refine⟨_,rfl,⟨_,_,rfl,Nat.le_refl _,by omega,fun aR=>⟨w.heap.size,0,rfl,af,fun j hj=>?_⟩⟩,⟨fun b hb=>by simp[Value.ownBlock]at hb;subst hb;exact⟨Nat.le_refl _,af,al.out⟩⟩,I.out⟩;rw[Nat.zero_add];exact HA.out j hj (by omega)
theorem EG(l:List Int)(v u:Value)(w:World)(hv:eh w w.heap.size v l)(hu:eh w w.heap.size u l):Calls Tryz.prog 27 #[v,u] w fun e w'=>e=.returned (.bool true)∧Below w.heap.size w w':=by
 obtain⟨ao,cap,rfl,hc,hm,hr⟩:=hv;obtain⟨ah,ad,rfl,al,an,T⟩:=hu;have HR:=aa hr;have ab:=aa T;clear hr T;go_enter Tryz.func27,Tryz.ntmps27;go_wp2_with fail;go_loopw[5](fun i wr=>∃k:Nat,k≤l.length∧i=.int .i64 k∧Below w.heap.size w wr)(fun i _=>l.length-(intOf i).toNat);case atStart=>exact⟨0,Nat.zero_le _,rfl,Below.refl _ _⟩
 case round=>
  obtain⟨k,hk,rfl,C⟩:=hrel;have j:=aa C;have af:=C.size;clear C;by_cases J:k<l.length;·
   obtain⟨b,o,rfl,ac,P⟩:=HR.out (by intro h;simp[h]at J);obtain⟨b',o',rfl,R,I⟩:=ab.out (by intro h;simp[h]at J);have c0:=(P.carry ac j.out) k J;have d0:=(I.carry R j.out) k J;obtain⟨x1,U⟩:∃x1,x1=l[k]:=⟨_,rfl⟩;rw[←U]at c0 d0;clear U P I;go_wp2_with fail;go_region;go_wp2_with fail;all_goals
    go_roundw;case rel=>exact⟨k+1,by omega,by go_num,by first|exact j.out|exact j.out.drew|exact j.out.drew.drew⟩
    case measure=>simp[intOf];omega
  ·go_wp2_with fail;go_ret;exact⟨rfl,j.out⟩
theorem A4{H:Type}{enc:TypeId×Value→H}{w:World}{base:Nat}{spare:Nat→Bool}{held:Bool}{fuel:Nat}{a0:Option Addr}{l P:Nat}{x:DataW H×List MemPlace}(h:DataW.trod enc Tryz.prog w base spare held fuel 23 [.slice a0 l P]=some x):∃ns:List Int,ns.length=l∧(∀z∈ns,-9223372036854775808≤z∧z≤9223372036854775807)∧ns.length≤maxLen∧(ns≠[]→∃b o,a0=some ⟨b,o,none⟩∧b<w.heap.size∧va w b o ns):=by
 rcases Go.Deep.open_slice Tryz.underlying23 h with⟨I,_⟩|⟨a,len,cap,m,n,D,Pl,T,hb,hl,hm,al,hx,U⟩;·simp at I;obtain⟨rfl,rfl,rfl⟩:=I;exact⟨[],rfl,by simp,Nat.zero_le _,fun h=>absurd rfl h⟩
 ·simp at T;obtain⟨rfl,rfl,rfl⟩:=T;have ao:l≤m:=by rw[al];split<;>omega
  have each:∀i,i<l→∃z:Int,(-9223372036854775808≤z∧z≤9223372036854775807)∧∀b o,a=⟨b,o,none⟩→w.cell? ⟨b,o+i,none⟩=some (.int .i64 z):=by
   intro i hi;obtain⟨af,R,h2⟩:=U i (by omega);rw[Tryz.I9]at R;obtain⟨_,ab,C⟩:=World.cells?_some R;obtain⟨z,e0,_,hw⟩:=DataW.trod_int Tryz.underlying2 h2;refine⟨z,by simp[Lit.wf,IntKind.min,IntKind.max,IntKind.signed,IntKind.bits]at hw;exact hw,fun b o ah=>?_⟩;subst ah;have pl:((⟨b,o,none⟩:Addr).add (i*1)).add 0=⟨b,o+i,none⟩:=by rw[Go.Deep.add_add];unfold Addr.add;split<;>simp_all
   have:=C 0 (by omega);rw[pl,e0]at this;exact this
  obtain⟨q,hq⟩:=Go.Deep.choose_lt each;refine⟨(List.range l).map q,by simp,?_,by simp;omega,fun an=>?_⟩;·intro x hx;obtain⟨i,hi,rfl⟩:=List.mem_map.1 hx;exact(hq i (List.mem_range.1 hi)).1
  ·have ac:0<l:=by
    rcases Nat.eq_zero_or_pos l with I|I;·subst I;simp at an
    ·exact I
   obtain⟨b,o,s⟩:=a;have J:s=none:=by obtain⟨af,R,h2⟩:=U 0 (by omega);rw[Tryz.I9]at R;obtain⟨_,ab,C⟩:=World.cells?_some R;obtain⟨z,e0,_⟩:=DataW.trod_int Tryz.underlying2 h2;have I:=C 0 (by omega);rw[e0]at I;have:=World.cell?_spot I;simpa[Addr.add]using this
   subst J;have ad:va w b o ((List.range l).map q):=fun j hj=>by simp only[List.getElem_map,List.getElem_range];exact(hq j (by simpa using hj)).2 b o rfl
   refine⟨b,o,rfl,?_,ad⟩;have:=(hq 0 ac).2 b o rfl;exact World.block_lt_of_cell? w _ this
end
theorem An{w:World}{b:Nat}{j C I:Value}{l:List Value}(h:ba w b (j::C::I::l)):w.cell? ⟨b,0,none⟩=some j∧w.cell? ⟨b,1,none⟩=some C∧w.cell? ⟨b,2,none⟩=some I:=⟨h.cell 0 _ rfl,h.cell 1 _ rfl,h.cell 2 _ rfl⟩
theorem jO{w:World}{b:Nat}{j C I J:Value}{l:List Value}(h:ba w b (j::C::I::J::l)):w.cell? ⟨b,0,none⟩=some j∧w.cell? ⟨b,1,none⟩=some C∧w.cell? ⟨b,2,none⟩=some I∧w.cell? ⟨b,3,none⟩=some J:=⟨h.cell 0 _ rfl,h.cell 1 _ rfl,h.cell 2 _ rfl,h.cell 3 _ rfl⟩
theorem xj{w:World}{b:Nat}{j C I J P R:Value}{l:List Value}(h:ba w b (j::C::I::J::P::R::l)):w.cell? ⟨b,0,none⟩=some j∧w.cell? ⟨b,1,none⟩=some C∧w.cell? ⟨b,2,none⟩=some I∧w.cell? ⟨b,3,none⟩=some J∧w.cell? ⟨b,4,none⟩=some P∧w.cell? ⟨b,5,none⟩=some R:=⟨h.cell 0 _ rfl,h.cell 1 _ rfl,h.cell 2 _ rfl,h.cell 3 _ rfl,h.cell 4 _ rfl,h.cell 5 _ rfl⟩
theorem uZ{w:World}{b:Nat}{j C I J:Value}{l:List Value}(h:ba w b (j::C::I::J::l)):w.cell? ⟨b,0,none⟩=some j∧w.cell? ⟨b,1,none⟩=some C∧w.cell? ⟨b,2,none⟩=some I∧w.cell? ⟨b,3,none⟩=some J∧∀o,w.frozen? ⟨b,o,none⟩=false:=⟨h.cell 0 _ rfl,h.cell 1 _ rfl,h.cell 2 _ rfl,h.cell 3 _ rfl,h.fz⟩
theorem pk{w:World}{b:Nat}{j C I J P R:Value}{l:List Value}(h:ba w b (j::C::I::J::P::R::l)):w.cell? ⟨b,0,none⟩=some j∧w.cell? ⟨b,1,none⟩=some C∧w.cell? ⟨b,2,none⟩=some I∧w.cell? ⟨b,3,none⟩=some J∧w.cell? ⟨b,4,none⟩=some P∧w.cell? ⟨b,5,none⟩=some R∧∀o,w.frozen? ⟨b,o,none⟩=false:=⟨h.cell 0 _ rfl,h.cell 1 _ rfl,h.cell 2 _ rfl,h.cell 3 _ rfl,h.cell 4 _ rfl,h.cell 5 _ rfl,h.fz⟩
section
attribute [local go_sem ↓] Go.wp_at_zero Go.wp_at_succ
def tz(k n:Nat):List Int:=(List.range n).map fun i=>((k+i:Nat):Int)
theorem lH(k n:Nat):(tz k n).length=n:=by simp[tz]
theorem AQ(k n i:Nat)(h:i<(tz k n).length):(tz k n)[i]=((k+i:Nat):Int):=by simp[tz]
theorem AU(U:Nat)(l:List Int)(v:Value)(w:World)(B:Nat)(hk:U+l.length≤5900000)(hv:eh w w.heap.size v l)(R:qB B w v):Calls Tryz.prog 28 #[v,.int .i64 U] w fun e w'=>e=.returned (.int .i64 ((U+l.length:Nat):Int))∧eh w' w'.heap.size v (tz U l.length)∧aI w w' (aj v):=by
 obtain⟨ao,cap,rfl,hc,hm,hr⟩:=hv;have HR:=aa hr;have HO:=aa R;obtain⟨n,hn⟩:∃n,l.length=n:=⟨_,rfl⟩;rw[hn]at hc hk hm⊢;have HN:=aa hn;clear hr R hn;by_cases ah:n=0;·
  subst ah;go_enter Tryz.func28,Tryz.ntmps28;go_wp2_with fail;go_loopw[1,5](fun kv i wr=>i=.int .i64 0∧kv=.int .i64 (U:Int)∧wr=w)(fun _ _ _=>0);case atStart=>exact⟨rfl,rfl,rfl⟩
  case round=>obtain⟨rfl,rfl,rfl⟩:=hrel;go_wp2_with fail;go_ret;exact⟨bd rfl,⟨_,_,rfl,Nat.zero_le _,Nat.zero_le _,fun h=>absurd rfl h⟩,(aI.refl _).sub (by simp)⟩
 ·have av:l≠[]:=fun h=>ah (by rw[←HN.out,h];rfl);obtain⟨b,o,rfl,aq,T⟩:=HR.out av;obtain⟨hB,-,af⟩:=HO.out.free b rfl;have al:Hid (∀i,i<n→∃y,w.cell? ⟨b,o+i,none⟩=some y):=aa (fun i hi=>⟨_,T i (by rw[HN.out];exact hi)⟩);have an:=aa af;clear T af;go_enter Tryz.func28,Tryz.ntmps28;go_wp2_with fail;go_loopw[1,5](fun kv i wr=>∃k:Nat,k≤n∧i=.int .i64 k∧kv=.int .i64 ((U+k:Nat):Int)∧(∀j,j<k→wr.cell? ⟨b,o+j,none⟩=some (.int .i64 ((U+j:Nat):Int)))∧(∀j,j<n→∃y,wr.cell? ⟨b,o+j,none⟩=some y)∧(∀j,wr.frozen? ⟨b,j,none⟩=false)∧aI w wr [b])(fun _ i _=>n-(intOf i).toNat);case atStart=>exact⟨0,Nat.zero_le _,rfl,rfl,fun j h=>absurd h (by omega),al.out,an.out,(aI.refl _).sub (by simp)⟩
  case round=>
   obtain⟨k,az,rfl,rfl,C,J,I,ab⟩:=hrel;have HD:=aa C;have HE:=aa J;have HF:=aa I;have HA:=aa ab;by_cases P:k<n;·
    obtain⟨y,hy⟩:=J k P;have ax:=I (o+k);obtain⟨kk,ac⟩:∃kk,U+k=kk:=⟨_,rfl⟩;rw[ac];have ay:kk<5900001:=by omega
    have ad:=aa ac;clear C J I ab ac;go_wp2_with fail;go_roundw;case rel=>
     refine⟨k+1,P,by go_num,by have:=ad.out;congr 1;omega,fun j hj=>?_,fun j hj=>?_,fun j=>?_,?_⟩;·
      by_cases e:j=k;·subst e;rw[ad.out];exact World.cell?_setCell_same _ _ _ hy
      ·rw[World.cell?_setCell_other _ _ _ _ (by intro e;injection e with _ e2;omega)];exact HD.out j (by omega)
     ·by_cases e:j=k;·subst e;exact⟨_,World.cell?_setCell_same _ _ _ hy⟩
      ·obtain⟨z,hz⟩:=HE.out j hj;exact⟨z,by rw[World.cell?_setCell_other _ _ _ _ (by intro e;injection e with _ e2;omega)];exact hz⟩
     ·rw[World.frozen?_setCell];exact HF.out j
     ·exact(HA.out.trans (aP wr b (o+k) _)).sub (by simp)
    case measure=>simp[intOf];omega
   ·obtain rfl:k=n:=by omega
    clear C J I ab;go_wp2_with fail;go_ret;refine⟨bd rfl,⟨_,_,by rw[lH],by rw[lH];exact hc,by rw[lH];exact hm,fun _=>⟨b,o,rfl,Nat.lt_of_lt_of_le aq HA.out.size,fun j hj=>?_⟩⟩,HA.out.sub (by simp[aj,aG])⟩;rw[AQ];rw[lH]at hj;exact HD.out j hj
end
end Go.Proofs.YtdiiiijkhpdcbaaGreatDoor
