import Derived.Test.YtdiiiijkhpdcbaaGreatDoorRD00
import Derived.Maps.OwnSet
import Derived.DeepKeys4
namespace Go.Proofs.YtdiiiijkhpdcbaaGreatDoor
open Go.RowKit
set_option linter.unusedSimpArgs false
set_option linter.unusedVariables false
set_option maxRecDepth 10000
structure cj where
 kind:Int
 peer:ByteArray
 label:ByteArray
 sort:Int
def cj.val(x:cj):Value:=.agg #[.int .i64 x.kind,.string x.peer,.string x.label,.int .i64 x.sort]
def cj.ok(x:cj):Prop:=x.peer.size≤maxLen∧x.label.size≤maxLen
def cj.fit(x:cj):Prop:=x.peer.size≤1048576∧x.label.size≤1048576
def ja(w:World)(b o:Nat)(x:cj):Prop:=w.cell? ⟨b,o,none⟩=some (.int .i64 x.kind)∧w.cell? ⟨b,o+1,none⟩=some (.string x.peer)∧w.cell? ⟨b,o+2,none⟩=some (.string x.label)∧w.cell? ⟨b,o+3,none⟩=some (.int .i64 x.sort)
def iN(w:World)(b:Nat):Nat→List cj→Prop|_,[]=>True|o,x::l=>ja w b o x∧iN w b (o+4) l
theorem ja.carry{w w':World}{b o:Nat}{x:cj}(h:ja w b o x){B:Nat}(j:b<B)(l:Below B w w'):ja w' b o x:=by obtain⟨C,I,J,P⟩:=h;exact⟨(l.cell (p:=⟨b,_,none⟩) j).trans C,(l.cell (p:=⟨b,_,none⟩) j).trans I,(l.cell (p:=⟨b,_,none⟩) j).trans J,(l.cell (p:=⟨b,_,none⟩) j).trans P⟩
theorem ja.lt{w:World}{b o:Nat}{x:cj}(h:ja w b o x):b<w.heap.size:=World.block_lt_of_cell? w _ h.1
theorem iN.carry{w w':World}{b B:Nat}(j:b<B)(C:Below B w w'):∀{l:List cj}{o:Nat},iN w b o l→iN w' b o l|[],_,_=>trivial|_::_,_,h=>⟨h.1.carry j C,iN.carry j C h.2⟩
theorem iN.get{w:World}{b:Nat}:∀{l:List cj}{o:Nat},iN w b o l→∀i(h:i<l.length),ja w b (o+i*4) l[i]|_::_,_,h,0,_=>by simpa using h.1|_::l,o,h,i+1,hi=>by have:=h.2.get i (by simpa using hi);rw[show o+4+i*4=o+(i+1)*4 from by omega]at this;simpa using this
theorem iN.of(w:World)(g:Nat):∀(l:List cj)(o:Nat),(∀j(h:j<l.length),ja w g (o+j*4) l[j])→iN w g o l|[],_,_=>trivial|x::l,o,h=>⟨by have:=h 0 (by simp);simpa only[Nat.zero_mul,Nat.add_zero,List.getElem_cons_zero]using this,iN.of w g l (o+4) (fun j C=>by have:=h (j+1) (by simpa using C);rw[show o+(j+1)*4=o+4+j*4 from by omega]at this;simpa only[List.getElem_cons_succ]using this)⟩
def eR(w:World)(B:Nat)(v:Value)(l:List cj):Prop:=∃j cap,v=.slice j l.length cap∧l.length≤cap∧l.length≤4294967296∧(l≠[]→∃b o,j=some ⟨b,o,none⟩∧b<B∧iN w b o l)
theorem eR.carry{w w':World}{B:Nat}{v:Value}{l:List cj}(h:eR w B v l)(U:Below B w w'):eR w' B v l:=by obtain⟨I,cap,J,P,R,T⟩:=h;refine⟨I,cap,J,P,R,fun C=>?_⟩;obtain⟨b,o,e,j,hr⟩:=T C;exact⟨b,o,e,j,hr.carry j U⟩
theorem eR.up{w:World}{B C:Nat}{v:Value}{l:List cj}(h:eR w B v l)(hB:B≤C):eR w C v l:=by obtain⟨I,cap,J,P,R,T⟩:=h;refine⟨I,cap,J,P,R,fun j=>?_⟩;obtain⟨b,o,e,U,hr⟩:=T j;exact⟨b,o,e,by omega,hr⟩
theorem ja.block{w w':World}{b o:Nat}{x:cj}(h:ja w b o x)(j:w'.heap[b]?=w.heap[b]?):ja w' b o x:=by obtain⟨l,C,I,J⟩:=h;exact⟨(World.cell?_of_block (a:=⟨b,_,none⟩) j).trans l,(World.cell?_of_block (a:=⟨b,_,none⟩) j).trans C,(World.cell?_of_block (a:=⟨b,_,none⟩) j).trans I,(World.cell?_of_block (a:=⟨b,_,none⟩) j).trans J⟩
theorem iN.block{w w':World}{b:Nat}(j:w'.heap[b]?=w.heap[b]?):∀{l:List cj}{o:Nat},iN w b o l→iN w' b o l|[],_,_=>trivial|_::_,_,h=>⟨h.1.block j,iN.block j h.2⟩
theorem eR.aD{w w':World}{B I:Nat}{v:Value}{l:List cj}(h:eR w B v l)(hB:B≤I)(U:∀b,v.ownBlock=some b→b<B→w'.heap[b]?=w.heap[b]?):eR w' I v l:=by obtain⟨J,cap,rfl,P,R,T⟩:=h;refine⟨J,cap,rfl,P,R,fun C=>?_⟩;obtain⟨b,o,rfl,j,hr⟩:=T C;exact⟨b,o,rfl,by omega,hr.block (U b rfl j)⟩
theorem eR.iJ{w:World}{B:Nat}{v:Value}{l:List cj}(h:eR w B v l):l.length≤4294967296:=by obtain⟨j,cap,_,C,I,_⟩:=h;omega
theorem eR.sep{w w':World}{v:Value}{x:List cj}{l:List Nat}(h:eR w w.heap.size v x)(C:aI w w' l)(hd:∀b∈aj v,b∉l):eR w' w'.heap.size v x:=by have H:=h;obtain⟨J,P,rfl,_⟩:=h;exact H.aD C.size (fun b I j=>C.block b j (hd b ((aW rfl).1 I)))
theorem eR.tk{w w':World}{v:Value}{x:List cj}{l:List Nat}(h:eR w w.heap.size v x)(C:aI w w' l)(hd:∀b∈l,w.heap.size≤b):eR w' w'.heap.size v x:=by have H:=h;obtain⟨J,P,rfl,_⟩:=h;exact H.aD C.size (fun b R j=>C.block b j (fun I=>absurd (hd b I) (by omega)))
theorem eR.shape{w:World}{B:Nat}{v:Value}{x:List cj}(h:eR w B v x):∃p c,v=.slice p x.length c:=by obtain⟨j,l,e,_⟩:=h;exact⟨j,l,e⟩
section
open Go.RowKit Go.ChangeShapes Go.WideShapes
end
section
open Go.RowKit Go.Maps
def kg(f:Int)(a:cj):Value:=.agg #[.int .i64 f,.int .i64 a.kind,.string a.peer,.string a.label,.int .i64 a.sort]
def re(z:Int):Prop:=-9223372036854775808≤z∧z≤9223372036854775807
def cj.Eg(a:cj):Prop:=re a.kind∧re a.sort
theorem ur{z:Int}(h:re z):(Lit.int .i64 z).wf=true:=by simp[Lit.wf,IntKind.min,IntKind.max,IntKind.signed,IntKind.bits];exact h
theorem Tryz.CM:laidOutB Tryz.prog=true:=by kernel_rfl
theorem Tryz.FT:(316:TypeId)<Tryz.prog.types.size:=of_decide_eq_true (by kernel_rfl)
theorem Tryz.ub:Tryz.prog.cellsOf 316=5:=by kernel_rfl
theorem Tryz.BN:Tryz.prog.cellsOf 104=4:=by kernel_rfl
theorem Tryz.Cw:Tryz.prog.cellsOf 2=1:=by kernel_rfl
theorem Tryz.strCells:Tryz.prog.cellsOf 9=1:=by kernel_rfl
theorem Tryz.DW:Tryz.prog.keyType 316=true:=by kernel_rfl
theorem jq:Keyed Tryz.prog 316:=Keyed.of_law (deep_law_laid Tryz.CM (m:=4) (by omega) Tryz.FT (by kernel_rfl) (by kernel_rfl))
theorem Tryz.DY:2<Tryz.prog.types.size:=of_decide_eq_true (by kernel_rfl)
theorem Tryz.BB:∃d,Tryz.prog.types.size+1=d+3:=by have h:=Tryz.DY;generalize Tryz.prog.types.size=n at h;exact⟨n-2,by omega⟩
theorem xi(f:Int)(a:cj)(R:re f)(C:a.Eg)(l:a.ok):∃T,keyOf Tryz.prog 316 (kg f a)=some T:=by
 obtain⟨d,hd⟩:=Tryz.BB;have I:=ur R;have J:=ur C.1;have P:=ur C.2;have j:(kg f a).formed Tryz.prog 316=true:=by simp[Value.formed,kg,Tryz.underlying316,Tryz.ub]
 unfold keyOf;rw[Tryz.underlying316];simp only[];rw[if_pos (by rw[Tryz.DW,j];rfl),hd];simp+decide[Program.keyLits,kg,Value.cells,Tryz.underlying316,Tryz.underlying2,Tryz.underlying104,Tryz.underlying9,Tryz.ub,Tryz.BN,Tryz.Cw,Tryz.strCells,I,J,P,l.1,l.2]
end
def cj.cells(x:cj):List Value:=[.int .i64 x.kind,.string x.peer,.string x.label,.int .i64 x.sort]
theorem cj.bg(x:cj):x.cells.length=4:=rfl
theorem cj.cells_one(x:cj):∀u∈x.cells,u.oneCell'=true:=by intro u hu;simp[cj.cells]at hu;rcases hu with rfl|rfl|rfl|rfl<;>rfl
def cY(w:World)(base:Nat)(v:Value)(l:List cj):Prop:=w.ownsRow base 104 4 v l.length (l.flatMap cj.cells)
theorem cY.sl{w:World}{base:Nat}{v:Value}{l:List cj}(h:cY w base v l)(hl:l.length≤4294967296):eR w w.heap.size v l:=by
 have H:=h;obtain⟨_,T⟩:=h;rcases T with⟨rfl,P⟩|⟨I,cap,J,rfl,hg,C,R,_⟩;·have:l=[]:=List.length_eq_zero_iff.1 P;subst this;exact⟨none,0,rfl,Nat.le_refl _,by simp,fun h=>absurd rfl h⟩
 ·refine⟨_,_,rfl,R,hl,fun _=>⟨I,0,rfl,(Array.getElem?_eq_some_iff.1 C).1,iN.of w I l 0 (fun j U=>?_)⟩⟩;rw[Nat.zero_add];have e:=fun i(hi:i<4)(x:Value)(hx:(l[j].cells)[i]?=some x)=>cX H rfl (j*4+i) x ((dV cj.cells 4 cj.bg l j U i hi).trans hx);exact⟨e 0 (by omega) _ rfl,e 1 (by omega) _ rfl,e 2 (by omega) _ rfl,e 3 (by omega) _ rfl⟩
theorem cY.aD{w w':World}{base:Nat}{v:Value}{x:List cj}{l:List Nat}(h:cY w base v x)(j:aI w w' l)(hd:∀b∈aj v,b∉l):cY w' base v x:=aQ h j hd
theorem cY.below{w w':World}{base:Nat}{v:Value}{x:List cj}(h:cY w base v x)(j:Below w.heap.size w w'):cY w' base v x:=aJ h j
theorem cY.fresh{w:World}{base:Nat}{v:Value}{x:List cj}(h:cY w base v x):eu base w v:=au h
theorem cY.nil(w:World)(base:Nat):cY w base (.slice none 0 0) []:=dQ w base _ _
theorem cY.snoc{w:World}{base:Nat}{v:Value}{l:List cj}{x:cj}(h:w.ownsRow base 104 4 v (l.length+1) (l.flatMap cj.cells++x.cells)):cY w base v (l++[x]):=by unfold cY;rw[List.length_append,List.length_singleton,List.flatMap_append];simpa using h
theorem df.sep{w w':World}{v:Value}{x:List aK}{l:List Nat}(h:df w w.heap.size v x)(C:aI w w' l)(hd:∀b∈aj v,b∉l):df w' w'.heap.size v x:=by have H:=h;obtain⟨J,P,rfl,_⟩:=h;exact H.aD C.size (fun b I j=>C.block b j (hd b ((aW rfl).1 I)))
theorem df.tk{w w':World}{v:Value}{x:List aK}{l:List Nat}(h:df w w.heap.size v x)(C:aI w w' l)(hd:∀b∈l,w.heap.size≤b):df w' w'.heap.size v x:=by have H:=h;obtain⟨J,P,rfl,_⟩:=h;exact H.aD C.size (fun b R j=>C.block b j (fun I=>absurd (hd b I) (by omega)))
theorem df.shape{w:World}{B:Nat}{v:Value}{x:List aK}(h:df w B v x):∃p c,v=.slice p x.length c:=by obtain⟨j,l,e,_⟩:=h;exact⟨j,l,e⟩
def aK.cells(x:aK):List Value:=[.int .i64 x.kind,.string x.peer]
theorem aK.bg(x:aK):x.cells.length=2:=rfl
theorem aK.cells_one(x:aK):∀u∈x.cells,u.oneCell'=true:=by intro u hu;simp[aK.cells]at hu;rcases hu with rfl|rfl<;>rfl
def cF(w:World)(base:Nat)(v:Value)(l:List aK):Prop:=w.ownsRow base 152 2 v l.length (l.flatMap aK.cells)
theorem cF.sl{w:World}{base:Nat}{v:Value}{l:List aK}(h:cF w base v l)(hl:l.length≤4294967296):df w w.heap.size v l:=by
 have H:=h;obtain⟨_,T⟩:=h;rcases T with⟨rfl,P⟩|⟨I,cap,J,rfl,hg,C,R,_⟩;·have:l=[]:=List.length_eq_zero_iff.1 P;subst this;exact⟨none,0,rfl,Nat.le_refl _,by simp,fun h=>absurd rfl h⟩
 ·refine⟨_,_,rfl,R,hl,fun _=>⟨I,0,rfl,(Array.getElem?_eq_some_iff.1 C).1,dY.of w I l 0 (fun j U=>?_)⟩⟩;rw[Nat.zero_add];have e:=fun i(hi:i<2)(x:Value)(hx:(l[j].cells)[i]?=some x)=>cX H rfl (j*2+i) x ((dV aK.cells 2 aK.bg l j U i hi).trans hx);exact⟨e 0 (by omega) _ rfl,e 1 (by omega) _ rfl⟩
theorem cF.aD{w w':World}{base:Nat}{v:Value}{x:List aK}{l:List Nat}(h:cF w base v x)(j:aI w w' l)(hd:∀b∈aj v,b∉l):cF w' base v x:=aQ h j hd
theorem cF.below{w w':World}{base:Nat}{v:Value}{x:List aK}(h:cF w base v x)(j:Below w.heap.size w w'):cF w' base v x:=aJ h j
theorem cF.fresh{w:World}{base:Nat}{v:Value}{x:List aK}(h:cF w base v x):eu base w v:=au h
theorem cF.nil(w:World)(base:Nat):cF w base (.slice none 0 0) []:=dQ w base _ _
theorem cF.snoc{w:World}{base:Nat}{v:Value}{l:List aK}{x:aK}(h:w.ownsRow base 152 2 v (l.length+1) (l.flatMap aK.cells++x.cells)):cF w base v (l++[x]):=by unfold cF;rw[List.length_append,List.length_singleton,List.flatMap_append];simpa using h
end Go.Proofs.YtdiiiijkhpdcbaaGreatDoor
