import Derived.WalkSpells
import Derived.WalkLawsBesides
import Derived.Test.YtdiiiijkhpdcbaaGreatDoorProg
import Derived.Deep.LoopGhost
import Derived.Deep.Slices
import Derived.BigQuiet
import Derived.Deep.RegionHeld
namespace Go.Proofs.YtdiiiijkhpdcbaaGreatDoor
open Go.RowKit
set_option linter.unusedSimpArgs false
set_option linter.unusedVariables false
theorem aa{p:Prop}(h:p):Hid p:=h
theorem bw{p:Prop}(h:Hid p):p:=h
theorem aC{a b:Bool}(h:b=a):Ending.returned (.bool a)=.returned (.bool b):=by rw[h]
theorem aY{k:IntKind}{a b:Int}(h:b=a):Ending.returned (.int k a)=.returned (.int k b):=by rw[h]
theorem Gf{a b:ByteArray}(h:b=a):Ending.returned (.string a)=.returned (.string b):=by rw[h]
theorem ae(w:World)(o:Obj):Below w.heap.size w (w.alloc o):=(Below.refl _ _).alloc (Nat.le_refl _) o
theorem b6(W:World)(o:Obj)(k:Nat)(h:k=W.heap.size):(W.alloc o).heap[k]?=some o:=by subst h;show(W.heap.push o)[W.heap.size]?=_;simp
theorem eV(W:World)(o:Obj)(k:Nat)(h:k<W.heap.size):(W.alloc o).heap[k]?=W.heap[k]?:=Below.heap_alloc W o k h
structure oH(B:Nat)(w:World)(v:Value):Prop where free:∀b,v.ownBlock=some b->B<=b/\b<w.heap.size/\∀j,w.frozen? ⟨b,j,none⟩=false
theorem oH.carry{B:Nat}{w w':World}{v:Value}(h:oH B w v)(l:Below w.heap.size w w'):oH B w' v:=⟨fun b e=>⟨(h.free b e).1,Nat.lt_of_lt_of_le (h.free b e).2.1 l.size,fun j=>(l.frozen (p:=⟨b,j,none⟩) (h.free b e).2.1).trans ((h.free b e).2.2 j)⟩⟩
theorem n9{α:Type}{l:List α}{j:Nat}{v:α}(h:(l.drop j).take 1=[v]):l[j]?=some v:=by
 have C:((l.drop j).take 1)[0]?=some v:=by rw[h];rfl
 rw[List.getElem?_take,if_pos (by omega),List.getElem?_drop]at C;simpa using C
structure Grown(w:World)where
 val:World
 bU:Below w.heap.size w val
theorem bj(w:World):Nonempty (Grown w):=⟨⟨w,Below.refl _ _⟩⟩
theorem Grown.cell{w:World}(g:Grown w){p:Addr}(h:p.block<w.heap.size):g.val.cell? p=w.cell? p:=g.bU.cell h
theorem au{w:World}{b o:Nat}{v:Value}(h:w.cell? ⟨b,o,none⟩=some v):∀g:Grown w,g.val.cell? ⟨b,o,none⟩=some v:=fun g=>(g.bU.cell (p:=⟨b,o,none⟩) (World.block_lt_of_cell? w _ h)).trans h
theorem be{P:Program}{id:Nat}{Q:Exit->Act->World->Prop}{a:Act}{w:World}{l:List Oper}(U:P.follows .mixedOrders=true)(J:Region.lexB .any l.toArray=true)(h:∀W,W=w->wpQuiet P l.toArray (fun w'=>∃g:Grown W,w'=g.val) (fun j=>∀w',Below W.heap.size W w'->Q .normal j w') l a):(Code.region id l.toArray true).wp P Q a w:=by
 refine wp_region_quiet (C:=fun w'=>∃g:Grown w,w'=g.val) U J ⟨⟨_,(Below.refl _ _).drew⟩,rfl⟩ ?_;have I:=h w rfl;have e:(fun j=>∀w',(∃g:Grown w,w'=g.val)->Q .normal j w')=(fun j=>∀w',Below w.heap.size w w'->Q .normal j w'):=by funext j;refine propext ⟨fun h w' R=>h w' ⟨⟨w',R⟩,rfl⟩,fun h w'⟨g,T⟩=>?_⟩;rw[T];exact h _ g.bU
 rw[e];simpa using I
theorem kX{P:Program}{ops:Array Oper}{C:World->Prop}{Q:Exit->Act->World->Prop}:∀(l:List Oper)(a:Act)(w:World),C w->wpQuiet P ops C (fun J=>∀w',C w'->Q .normal J w') l a->wpList P ops Q l a w
 |[],_,w,I,h=>h w I|o::rest,a,w,I,h=>by
  unfold wpList;unfold wpQuiet at h;split;·rename_i j;rw[if_pos j]at h;exact .inl (Oper.wp_of_quiet I (fun J w' R T=>kX rest J w' R T) h)
  ·rename_i j;rw[if_neg j]at h;exact kX rest _ w I h
theorem dI(d:Nat){P:Program}{ops:Array Oper}{Q:Exit->Act->World->Prop}{a:Act}{w:World}{R:Op}{T:TypeId}{l:String}{I:Array Edge}{J:Option (Nat×Bool)}{rest:List Oper}(h:∀W,W=w->wpQuiet P ops (fun w'=>∃g:Grown W,w'=g.val) (fun j=>∀w',Below W.heap.size W w'->Q .normal j w') (⟨some d,R,T,l,I,J⟩::rest) a):wpList P ops Q (⟨some d,R,T,l,I,J⟩::rest) a w:=by
 refine kX (C:=fun w'=>∃g:Grown w,w'=g.val) _ _ _ ⟨⟨w,Below.refl _ _⟩,rfl⟩ ?_;have U:=h w rfl;have e:(fun j=>∀w',(∃g:Grown w,w'=g.val)->Q .normal j w')=(fun j=>∀w',Below w.heap.size w w'->Q .normal j w'):=by funext j;refine propext ⟨fun h w' hb=>h w' ⟨⟨w',hb⟩,rfl⟩,fun h w'⟨g,hg⟩=>?_⟩;rw[hg];exact h _ g.bU
 rw[e];exact U
theorem rm{P:Program}{f:FuncId}{args:Array Value}{w:World}{g:Grown w}{v:Value}(h:Calls P f args g.val fun e w'=>e=.returned v/\w'=g.val):Calls P f args g.val fun e j=>e=.returned v/\∃l:Grown w,j=l.val:=h.mono fun _ _⟨C,I⟩=>⟨C,g,I⟩
theorem bh{P:Program}{f:FuncId}{args:Array Value}{w:World}{g:Grown w}{v:Value}(h:Calls P f args g.val fun e w'=>e=.returned v/\Below g.val.heap.size g.val w'):Calls P f args g.val fun e j=>e=.returned v/\∃l:Grown w,j=l.val:=h.mono fun _ w'⟨C,I⟩=>⟨C,⟨w',g.bU.trans (I.mono g.bU.size)⟩,rfl⟩
theorem dC{a b c:World}(j:Below a.heap.size a b)(l:Below b.heap.size b c):Below a.heap.size a c:=j.trans (l.mono j.size)
def I2(v:Nat):Prop:=v<18446744073709551616
theorem I2.lt{v:Nat}(h:I2 v):v<18446744073709551616:=h
def kx:Nat->Nat->Nat|0,_=>0|f+1,u=>if u<128 then 0 else kx f (u/128)+1
section
section
variable {P : Program} {ops : Array Oper} {Q : Exit -> Act -> World -> Prop} {S : World -> Prop}
theorem Je(i d:Nat)(v:Value){C:Oper}{fuel:Nat}{j:Array Bool}{a:Act}{w:World}(hi:ops[i]?=some C)(hd:C.dst=some d)(l:(Region.noSelect ops&&Region.free .any ops j i&&(Region.ready .any ops j).contains i)=true)(J:Region.wanted C (yielded ops a.tmps)=true)(I:∀c a w,Q (.panic c) (a.put (some d) v) w->Q (.panic c) a w)(hS:S w)(R:∀W,S W->(execOp a.eval C).run P W=.ok (.value v) W)(h:wpAnyH P .any ops Q S fuel (j.setIfInBounds i true) (a.put (some d) v) w):wpAnyH P .any ops Q S (fuel+1) j a w:=by simp only[Bool.and_eq_true]at l;rw[<-hd]at I h;exact wpAnyH_take hi l.1.1 l.1.2 l.2 I (Or.inl ⟨J,R⟩) hS h
theorem bE:(∀(α:Type)(l:List α)(i:Nat)(h:i<l.toArray.size),l.toArray[i]'h=l[i]'(by simpa using h))/\(∀(α:Type)(a:α)(l:List α)(h:0<(a::l).length),(a::l)[0]'h=a)/\∀(α:Type)(a:α)(l:List α)(i:Nat)(h:i+1<(a::l).length),(a::l)[i+1]'h=l[i]'(by simpa using h):=⟨fun _ _ _ _=>rfl,fun _ _ _ _=>rfl,fun _ _ _ _ _=>rfl⟩
theorem aZ:(∀t ds d v,Act.put ⟨t,ds⟩ (some d) v=⟨t.setIfInBounds d v,ds⟩)/\(∀(α:Type)(l:List α)(i:Nat)(a:α),l.toArray.setIfInBounds i a=(l.set i a).toArray)/\(∀(α:Type)(a b:α)(l:List α),(a::l).set 0 b=b::l)/\∀(α:Type)(a b:α)(l:List α)(i:Nat),(a::l).set (i+1) b=a::l.set i b:=⟨fun _ _ _ _=>rfl,fun _ _ _ _=>by simp,fun _ _ _ _=>rfl,fun _ _ _ _ _=>rfl⟩
theorem dW(i d:Nat)(v:Value){l:Oper}{fuel:Nat}{j:Array Bool}{a:Act}{w:World}(hi:ops[i]?=some l)(hS:S w)(R:∀W,S W->(execOp a.eval l).run P W=.ok (.value v) W)(h:wpAnyH P .any ops Q S fuel (j.setIfInBounds i true) (a.put (some d) v) w)(hd:l.dst=some d:=by rfl)(C:(Region.noSelect ops&&Region.free .any ops j i&&(Region.ready .any ops j).contains i)=true:=by kernel_rfl)(J:Region.wanted l (yielded ops a.tmps)=true:=by rfl)(I:∀c a w,Q (.panic c) (a.put (some d) v) w->Q (.panic c) a w:=by exact fun _ _ _ h=>h):wpAnyH P .any ops Q S (fuel+1) j a w:=Je i d v hi hd C J I hS R h
theorem cj(i d:Nat)(v:Value){l:Oper}{fuel:Nat}{j:Array Bool}{a:Act}{w:World}(hi:ops[i]?=some l)(hS:S w)(h:wpAnyH P .any ops Q S fuel (j.setIfInBounds i true) (a.put (some d) v) w)(R:∀W,S W->(execOp a.eval l).run P W=.ok (.value v) W:=by intro W T;simp only[bE];go_simp)(hd:l.dst=some d:=by rfl)(C:(Region.noSelect ops&&Region.free .any ops j i&&(Region.ready .any ops j).contains i)=true:=by kernel_rfl)(J:Region.wanted l (yielded ops a.tmps)=true:=by rfl)(I:∀c a w,Q (.panic c) (a.put (some d) v) w->Q (.panic c) a w:=by exact fun _ _ _ h=>h):wpAnyH P .any ops Q S (fuel+1) j a w:=Je i d v hi hd C J I hS R h
theorem gB(i:Nat){l:Oper}{fuel:Nat}{j:Array Bool}{a:Act}{w:World}(hi:ops[i]?=some l)(h:∀C:Act->World->Prop,Shut (∀a w,S w->(S w->wpAnyH P .any ops Q S fuel (j.setIfInBounds i true) a w)->C a w)->if Region.wanted l (yielded ops a.tmps)=true then Oper.wp P l a w C Q else C (a.put l.dst undef) w)(I:Region.ready .any ops j=[i]:=by kernel_rfl):wpAnyH P .any ops Q S (fuel+1) j a w:=wpAnyH_ready I (by simp) (AllReadyH.cons hi h AllReadyH.nil)
theorem wu(i j:Nat){I J:Oper}{fuel:Nat}{l:Array Bool}{a:Act}{w:World}(hi:ops[i]?=some I)(T:ops[j]?=some J)(h:∀C:Act->World->Prop,Shut (∀a w,S w->(S w->wpAnyH P .any ops Q S fuel (l.setIfInBounds i true) a w)->C a w)->if Region.wanted I (yielded ops a.tmps)=true then Oper.wp P I a w C Q else C (a.put I.dst undef) w)(R:∀C:Act->World->Prop,Shut (∀a w,S w->(S w->wpAnyH P .any ops Q S fuel (l.setIfInBounds j true) a w)->C a w)->if Region.wanted J (yielded ops a.tmps)=true then Oper.wp P J a w C Q else C (a.put J.dst undef) w)(U:Region.ready .any ops l=[i,j]:=by kernel_rfl):wpAnyH P .any ops Q S (fuel+1) l a w:=wpAnyH_ready U (by simp) (AllReadyH.cons hi h (AllReadyH.cons T R AllReadyH.nil))
end
end
section
open Go.RowKit Go.ChangeShapes Go.WideShapes
theorem Tryz.JU:Tryz.prog.cellsOf 2=1:=by kernel_rfl
theorem Tryz.Kh:Tryz.prog.cellsOf 9=1:=by kernel_rfl
end
theorem G9(n lo hi:Int)(w:World):Calls Tryz.prog 105 #[.int .i64 n,.int .i64 lo,.int .i64 hi] w fun e w'=>e=.returned (.bool (decide (lo<=n)&&decide (n<=hi)))/\w'=w:=by by_cases h:lo<=n;all_goals go_enter Tryz.func105,Tryz.ntmps105;go_wp2_with fail;go_ret;refine⟨aC ?_,rfl⟩;simp[*];try omega
