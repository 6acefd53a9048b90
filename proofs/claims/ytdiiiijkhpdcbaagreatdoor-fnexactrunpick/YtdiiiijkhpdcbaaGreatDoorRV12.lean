import Derived.Test.YtdiiiijkhpdcbaaGreatDoorRV05
import Derived.OpenShut
import Derived.Test.YtdiiiijkhpdcbaaGreatDoorRV08
import Derived.Test.YtdiiiijkhpdcbaaGreatDoorRV04
namespace Go.Proofs.YtdiiiijkhpdcbaaGreatDoor
open Go.RowKit
set_option linter.unusedSimpArgs false
set_option linter.unusedVariables false
structure aP where
 kind:Int
 peer:ByteArray
def aP.val(x:aP):Value:=.agg #[.int .i64 x.kind,.string x.peer]
def aP.ok(x:aP):Prop:=x.peer.size<=maxLen
def aP.fit(x:aP):Prop:=x.peer.size<=1048576
def fF(w:World)(b o:Nat)(x:aP):Prop:=w.cell? ⟨b,o,none⟩=some (.int .i64 x.kind)/\w.cell? ⟨b,o+1,none⟩=some (.string x.peer)
def dZ(w:World)(b:Nat):Nat->List aP->Prop|_,[]=>True|o,x::l=>fF w b o x/\dZ w b (o+2) l
theorem fF.carry{w w':World}{b o:Nat}{x:aP}(h:fF w b o x){B:Nat}(j:b<B)(l:Below B w w'):fF w' b o x:=by obtain⟨C,I⟩:=h;exact⟨(l.cell (p:=⟨b,_,none⟩) j).trans C,(l.cell (p:=⟨b,_,none⟩) j).trans I⟩
theorem fF.lt{w:World}{b o:Nat}{x:aP}(h:fF w b o x):b<w.heap.size:=World.block_lt_of_cell? w _ h.1
theorem dZ.carry{w w':World}{b B:Nat}(j:b<B)(C:Below B w w'):∀{l:List aP}{o:Nat},dZ w b o l->dZ w' b o l|[],_,_=>trivial|_::_,_,h=>⟨h.1.carry j C,dZ.carry j C h.2⟩
theorem dZ.get{w:World}{b:Nat}:∀{l:List aP}{o:Nat},dZ w b o l->∀i(h:i<l.length),fF w b (o+i*2) l[i]|_::_,_,h,0,_=>by simpa using h.1|_::l,o,h,i+1,hi=>by have:=h.2.get i (by simpa using hi);rw[show o+2+i*2=o+(i+1)*2 from by omega]at this;simpa using this
theorem dZ.of(w:World)(g:Nat):∀(l:List aP)(o:Nat),(∀j(h:j<l.length),fF w g (o+j*2) l[j])->dZ w g o l|[],_,_=>trivial|x::l,o,h=>⟨by have:=h 0 (by simp);simpa only[Nat.zero_mul,Nat.add_zero,List.getElem_cons_zero]using this,dZ.of w g l (o+2) (fun j C=>by have:=h (j+1) (by simpa using C);rw[show o+(j+1)*2=o+2+j*2 from by omega]at this;simpa only[List.getElem_cons_succ]using this)⟩
def dd(w:World)(B:Nat)(v:Value)(l:List aP):Prop:=∃j cap,v=.slice j l.length cap/\l.length<=cap/\l.length<=4294967296/\(l≠[]->∃b o,j=some ⟨b,o,none⟩/\b<B/\dZ w b o l)
theorem dd.carry{w w':World}{B:Nat}{v:Value}{l:List aP}(h:dd w B v l)(U:Below B w w'):dd w' B v l:=by obtain⟨I,cap,J,P,R,T⟩:=h;refine⟨I,cap,J,P,R,fun C=>?_⟩;obtain⟨b,o,e,j,hr⟩:=T C;exact⟨b,o,e,j,hr.carry j U⟩
theorem dd.up{w:World}{B C:Nat}{v:Value}{l:List aP}(h:dd w B v l)(hB:B<=C):dd w C v l:=by obtain⟨I,cap,J,P,R,T⟩:=h;refine⟨I,cap,J,P,R,fun j=>?_⟩;obtain⟨b,o,e,U,hr⟩:=T j;exact⟨b,o,e,by omega,hr⟩
theorem fF.block{w w':World}{b o:Nat}{x:aP}(h:fF w b o x)(j:w'.heap[b]?=w.heap[b]?):fF w' b o x:=by obtain⟨l,C⟩:=h;exact⟨(World.cell?_of_block (a:=⟨b,_,none⟩) j).trans l,(World.cell?_of_block (a:=⟨b,_,none⟩) j).trans C⟩
theorem dZ.block{w w':World}{b:Nat}(j:w'.heap[b]?=w.heap[b]?):∀{l:List aP}{o:Nat},dZ w b o l->dZ w' b o l|[],_,_=>trivial|_::_,_,h=>⟨h.1.block j,dZ.block j h.2⟩
theorem dd.aB{w w':World}{B I:Nat}{v:Value}{l:List aP}(h:dd w B v l)(hB:B<=I)(U:∀b,v.ownBlock=some b->b<B->w'.heap[b]?=w.heap[b]?):dd w' I v l:=by obtain⟨J,cap,rfl,P,R,T⟩:=h;refine⟨J,cap,rfl,P,R,fun C=>?_⟩;obtain⟨b,o,rfl,j,hr⟩:=T C;exact⟨b,o,rfl,by omega,hr.block (U b rfl j)⟩
theorem dd.ix{w:World}{B:Nat}{v:Value}{l:List aP}(h:dd w B v l):l.length<=4294967296:=by obtain⟨j,cap,_,C,I,_⟩:=h;omega
theorem Tryz.mV:(Tryz.prog.info? 152).map (fun i=>(i.zero,i.size,i.bytes))=some (some (.agg #[.int .i64 0,.string ByteArray.empty]),2,24):=by kernel_rfl
section
open Go.RowKit Go.ChangeShapes Go.WideShapes
end
theorem dd.sep{w w':World}{v:Value}{x:List aP}{l:List Nat}(h:dd w w.heap.size v x)(C:aG w w' l)(hd:∀b∈ag v,b∉l):dd w' w'.heap.size v x:=by have H:=h;obtain⟨J,P,rfl,_⟩:=h;exact H.aB C.size (fun b I j=>C.block b j (hd b ((aS rfl).1 I)))
theorem dd.tu{w w':World}{v:Value}{x:List aP}{l:List Nat}(h:dd w w.heap.size v x)(C:aG w w' l)(hd:∀b∈l,w.heap.size<=b):dd w' w'.heap.size v x:=by have H:=h;obtain⟨J,P,rfl,_⟩:=h;exact H.aB C.size (fun b R j=>C.block b j (fun I=>absurd (hd b I) (by omega)))
theorem dd.shape{w:World}{B:Nat}{v:Value}{x:List aP}(h:dd w B v x):∃p c,v=.slice p x.length c:=by obtain⟨j,l,e,_⟩:=h;exact⟨j,l,e⟩
def aP.cells(x:aP):List Value:=[.int .i64 x.kind,.string x.peer]
theorem aP.bg(x:aP):x.cells.length=2:=rfl
theorem aP.cells_one(x:aP):∀u∈x.cells,u.oneCell'=true:=by intro u hu;simp[aP.cells]at hu;rcases hu with rfl|rfl<;>rfl
def cF(w:World)(base:Nat)(v:Value)(l:List aP):Prop:=w.ownsRow base 152 2 v l.length (l.flatMap aP.cells)
theorem cF.sl{w:World}{base:Nat}{v:Value}{l:List aP}(h:cF w base v l)(hl:l.length<=4294967296):dd w w.heap.size v l:=by
 have H:=h;obtain⟨_,T⟩:=h;rcases T with⟨rfl,P⟩|⟨I,cap,J,rfl,hg,C,R,_⟩;·have:l=[]:=List.length_eq_zero_iff.1 P;subst this;exact⟨none,0,rfl,Nat.le_refl _,by simp,fun h=>absurd rfl h⟩
 ·refine⟨_,_,rfl,R,hl,fun _=>⟨I,0,rfl,(Array.getElem?_eq_some_iff.1 C).1,dZ.of w I l 0 (fun j U=>?_)⟩⟩;rw[Nat.zero_add];have e:=fun i(hi:i<2)(x:Value)(hx:(l[j].cells)[i]?=some x)=>cQ H rfl (j*2+i) x ((dQ aP.cells 2 aP.bg l j U i hi).trans hx);exact⟨e 0 (by omega) _ rfl,e 1 (by omega) _ rfl⟩
theorem cF.aB{w w':World}{base:Nat}{v:Value}{x:List aP}{l:List Nat}(h:cF w base v x)(j:aG w w' l)(hd:∀b∈ag v,b∉l):cF w' base v x:=aK h j hd
theorem cF.below{w w':World}{base:Nat}{v:Value}{x:List aP}(h:cF w base v x)(j:Below w.heap.size w w'):cF w' base v x:=aQ h j
theorem cF.fresh{w:World}{base:Nat}{v:Value}{x:List aP}(h:cF w base v x):dy base w v:=ak h
theorem cF.nil(w:World)(base:Nat):cF w base (.slice none 0 0) []:=de w base _ _
theorem cF.snoc{w:World}{base:Nat}{v:Value}{l:List aP}{x:aP}(h:w.ownsRow base 152 2 v (l.length+1) (l.flatMap aP.cells++x.cells)):cF w base v (l++[x]):=by unfold cF;rw[List.length_append,List.length_singleton,List.flatMap_append];simpa using h
