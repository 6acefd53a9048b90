import Derived.Test.YtdiiiijkhpdcbaaGreatDoorRD00
import Derived.Test.YtdiiiijkhpdcbaaGreatDoorRows
import Derived.Stop.LaidTwo
import Derived.ChangeVars
import Derived.OpenShut
namespace Go.Proofs.YtdiiiijkhpdcbaaGreatDoor
open Go.RowKit
set_option linter.unusedSimpArgs false
set_option linter.unusedVariables false
structure aA where
 src:Int
 label:ByteArray
 sort:Int
 dst:Int
def aA.val(x:aA):Value:=.agg #[.int .i64 x.src,.string x.label,.int .i64 x.sort,.int .i64 x.dst]
def aA.ok(x:aA):Prop:=x.label.size≤maxLen
def aA.fit(x:aA):Prop:=x.label.size≤1048576
def fK(w:World)(b o:Nat)(x:aA):Prop:=w.cell? ⟨b,o,none⟩=some (.int .i64 x.src)∧w.cell? ⟨b,o+1,none⟩=some (.string x.label)∧w.cell? ⟨b,o+2,none⟩=some (.int .i64 x.sort)∧w.cell? ⟨b,o+3,none⟩=some (.int .i64 x.dst)
def fx(w:World)(b:Nat):Nat→List aA→Prop|_,[]=>True|o,x::l=>fK w b o x∧fx w b (o+4) l
theorem fK.carry{w w':World}{b o:Nat}{x:aA}(h:fK w b o x){B:Nat}(j:b<B)(l:Below B w w'):fK w' b o x:=by obtain⟨C,I,J,P⟩:=h;exact⟨(l.cell (p:=⟨b,_,none⟩) j).trans C,(l.cell (p:=⟨b,_,none⟩) j).trans I,(l.cell (p:=⟨b,_,none⟩) j).trans J,(l.cell (p:=⟨b,_,none⟩) j).trans P⟩
theorem fK.lt{w:World}{b o:Nat}{x:aA}(h:fK w b o x):b<w.heap.size:=World.block_lt_of_cell? w _ h.1
theorem fx.carry{w w':World}{b B:Nat}(j:b<B)(C:Below B w w'):∀{l:List aA}{o:Nat},fx w b o l→fx w' b o l|[],_,_=>trivial|_::_,_,h=>⟨h.1.carry j C,fx.carry j C h.2⟩
theorem fx.get{w:World}{b:Nat}:∀{l:List aA}{o:Nat},fx w b o l→∀i(h:i<l.length),fK w b (o+i*4) l[i]|_::_,_,h,0,_=>by simpa using h.1|_::l,o,h,i+1,hi=>by have:=h.2.get i (by simpa using hi);rw[show o+4+i*4=o+(i+1)*4 from by omega]at this;simpa using this
theorem fx.of(w:World)(g:Nat):∀(l:List aA)(o:Nat),(∀j(h:j<l.length),fK w g (o+j*4) l[j])→fx w g o l|[],_,_=>trivial|x::l,o,h=>⟨by have:=h 0 (by simp);simpa only[Nat.zero_mul,Nat.add_zero,List.getElem_cons_zero]using this,fx.of w g l (o+4) (fun j C=>by have:=h (j+1) (by simpa using C);rw[show o+(j+1)*4=o+4+j*4 from by omega]at this;simpa only[List.getElem_cons_succ]using this)⟩
def dG(w:World)(B:Nat)(v:Value)(l:List aA):Prop:=∃j cap,v=.slice j l.length cap∧l.length≤cap∧l.length≤4294967296∧(l≠[]→∃b o,j=some ⟨b,o,none⟩∧b<B∧fx w b o l)
theorem dG.carry{w w':World}{B:Nat}{v:Value}{l:List aA}(h:dG w B v l)(U:Below B w w'):dG w' B v l:=by obtain⟨I,cap,J,P,R,T⟩:=h;refine⟨I,cap,J,P,R,fun C=>?_⟩;obtain⟨b,o,e,j,hr⟩:=T C;exact⟨b,o,e,j,hr.carry j U⟩
theorem dG.up{w:World}{B C:Nat}{v:Value}{l:List aA}(h:dG w B v l)(hB:B≤C):dG w C v l:=by obtain⟨I,cap,J,P,R,T⟩:=h;refine⟨I,cap,J,P,R,fun j=>?_⟩;obtain⟨b,o,e,U,hr⟩:=T j;exact⟨b,o,e,by omega,hr⟩
theorem fK.block{w w':World}{b o:Nat}{x:aA}(h:fK w b o x)(j:w'.heap[b]?=w.heap[b]?):fK w' b o x:=by obtain⟨l,C,I,J⟩:=h;exact⟨(World.cell?_of_block (a:=⟨b,_,none⟩) j).trans l,(World.cell?_of_block (a:=⟨b,_,none⟩) j).trans C,(World.cell?_of_block (a:=⟨b,_,none⟩) j).trans I,(World.cell?_of_block (a:=⟨b,_,none⟩) j).trans J⟩
theorem fx.block{w w':World}{b:Nat}(j:w'.heap[b]?=w.heap[b]?):∀{l:List aA}{o:Nat},fx w b o l→fx w' b o l|[],_,_=>trivial|_::_,_,h=>⟨h.1.block j,fx.block j h.2⟩
theorem dG.aD{w w':World}{B I:Nat}{v:Value}{l:List aA}(h:dG w B v l)(hB:B≤I)(U:∀b,v.ownBlock=some b→b<B→w'.heap[b]?=w.heap[b]?):dG w' I v l:=by obtain⟨J,cap,rfl,P,R,T⟩:=h;refine⟨J,cap,rfl,P,R,fun C=>?_⟩;obtain⟨b,o,rfl,j,hr⟩:=T C;exact⟨b,o,rfl,by omega,hr.block (U b rfl j)⟩
theorem dG.iJ{w:World}{B:Nat}{v:Value}{l:List aA}(h:dG w B v l):l.length≤4294967296:=by obtain⟨j,cap,_,C,I,_⟩:=h;omega
theorem Tryz.oq:(Tryz.prog.info? 213).map (fun i=>(i.zero,i.size,i.bytes))=some (some (.agg #[.int .i64 0,.string ByteArray.empty,.int .i64 0,.int .i64 0]),4,40):=by kernel_rfl
section
open Go.RowKit Go.ChangeShapes Go.WideShapes
end
section
open Go.RowKit Go.ChangeShapes
theorem Tryz.zh:Tryz.prog.globalNamed "loop.example/g00574/impl.errNothing"=some 3:=by kernel_rfl
theorem Tryz.zi:Tryz.prog.globalNamed "loop.example/g00574/impl.errTooLong"=some 0:=by kernel_rfl
theorem Tryz.zj:Tryz.prog.globalNamed "loop.example/g00574/impl.errNotRight"=some 1:=by kernel_rfl
theorem Tryz.zk:Tryz.prog.globalNamed "loop.example/g00574/impl.errNoRoom"=some 2:=by kernel_rfl
theorem Tryz.GP:(Tryz.prog.globals[3]?).map (·.type)=some 256:=by kernel_rfl
theorem Tryz.GQ:(Tryz.prog.globals[0]?).map (·.type)=some 256:=by kernel_rfl
theorem Tryz.GR:(Tryz.prog.globals[1]?).map (·.type)=some 256:=by kernel_rfl
theorem Tryz.GS:(Tryz.prog.globals[2]?).map (·.type)=some 256:=by kernel_rfl
theorem Tryz.tj:Tryz.prog.cellsOf 424=1:=by kernel_rfl
theorem Tryz.tY:Tryz.prog.cellsOf 9=1:=by kernel_rfl
theorem Tryz.Gj: "*"++ "errors.errorString"= "*errors.errorString":=by decide
theorem Tryz.zc(u:TypeId)(h:Tryz.prog.typeName? 3 u=some "*errors.errorString"):u=398:=typeName_ptr_named (nm:= "errors.errorString") (by rw[Tryz.Gj];kernel_rfl) (by kernel_rfl) (by decide) u (by rw[Tryz.Gj];exact h)
theorem kn{W:World}{a b:Addr}{s t:ByteArray}{x y:List UInt8}(C:W.cell? a=some (.string s))(j:W.cell? b=some (.string t))(I:s.data.toList=x)(J:t.data.toList=y)(l:x≠y):a≠b:=by rintro rfl;rw[C]at j;injection j with j;injection j with j;exact l (by rw[←I,←J,j])
theorem uR{W:World}(h:laidMet Tryz.prog [("loop.example/g00574/impl.errTooLong",Rows.laid_loop_example_g00574_impl_errTooLong),("loop.example/g00574/impl.errNotRight",Rows.laid_loop_example_g00574_impl_errNotRight),("loop.example/g00574/impl.errNothing",Rows.laid_loop_example_g00574_impl_errNothing),("loop.example/g00574/impl.errNoRoom",Rows.laid_loop_example_g00574_impl_errNoRoom)] W):∃E,eI W E:=by
 have h2:=h.tail.tail;unfold Rows.laid_loop_example_g00574_impl_errTooLong Rows.laid_loop_example_g00574_impl_errNotRight at h;unfold Rows.laid_loop_example_g00574_impl_errNothing Rows.laid_loop_example_g00574_impl_errNoRoom at h2;obtain⟨aL,aR,sL,sR,cL,cR,tL,tR,vL,vR,j,J,-,I,T,-,U,bL,bR⟩:=laid_sentinels2 h Tryz.zi Tryz.GQ Tryz.zj Tryz.GR Tryz.underlying256 Tryz.zc Tryz.underlying398 Tryz.underlying424 rfl rfl Tryz.underlying9 Tryz.tj Tryz.tY;obtain⟨aN,aM,sN,sM,cN,cM,tN,tM,vN,vM,C,R,-,l,P,-,ab,bN,bM⟩:=laid_sentinels2 h2 Tryz.zh Tryz.GP Tryz.zk Tryz.GS Tryz.underlying256 Tryz.zc Tryz.underlying398 Tryz.underlying424 rfl rfl Tryz.underlying9 Tryz.tj Tryz.tY;refine⟨⟨aN,aL,aR,aM⟩,?_,?_,?_,?_,⟨_,_,bN⟩,⟨_,_,bL⟩,⟨_,_,bR⟩,⟨_,_,bM⟩,?_,?_,ab,U,?_,?_⟩;·simpa using World.var?_cell Tryz.zh vN 0
 ·simpa using World.var?_cell Tryz.zi vL 0
 ·simpa using World.var?_cell Tryz.zj vR 0
 ·simpa using World.var?_cell Tryz.zk vM 0
 ·exact kn C j R J (by decide)
 ·exact kn C I R T (by decide)
 ·exact kn j l J P (by decide)
 ·exact kn I l T P (by decide)
theorem BE{H:Type}{enc:TypeId×Value→H}{P:Program}{w:World}{spare:Nat→Bool}{a b c d:String}{j:List (DataW H)}{l:List MemPlace}(h:DataW.TrodVars enc P w spare [a,b,c,d] j l):∃g1 g2 g3 g4,j=[g1,g2,g3,g4]:=by cases j with|nil=>exact h.elim|cons g1 j=>obtain⟨_,_,_,_,_,_,_,_,_,_,h,_⟩:=h;cases j with|nil=>exact h.elim|cons g2 j=>obtain⟨_,_,_,_,_,_,_,_,_,_,h,_⟩:=h;obtain⟨_,_,_,_,g3,_,_,_,_,_,g4,_,rfl,_⟩:=trodVars_two h;exact⟨g1,g2,g3,g4,rfl⟩
end
theorem dG.sep{w w':World}{v:Value}{x:List aA}{l:List Nat}(h:dG w w.heap.size v x)(C:aI w w' l)(hd:∀b∈aj v,b∉l):dG w' w'.heap.size v x:=by have H:=h;obtain⟨J,P,rfl,_⟩:=h;exact H.aD C.size (fun b I j=>C.block b j (hd b ((aW rfl).1 I)))
theorem dG.tk{w w':World}{v:Value}{x:List aA}{l:List Nat}(h:dG w w.heap.size v x)(C:aI w w' l)(hd:∀b∈l,w.heap.size≤b):dG w' w'.heap.size v x:=by have H:=h;obtain⟨J,P,rfl,_⟩:=h;exact H.aD C.size (fun b R j=>C.block b j (fun I=>absurd (hd b I) (by omega)))
theorem dG.shape{w:World}{B:Nat}{v:Value}{x:List aA}(h:dG w B v x):∃p c,v=.slice p x.length c:=by obtain⟨j,l,e,_⟩:=h;exact⟨j,l,e⟩
def aA.cells(x:aA):List Value:=[.int .i64 x.src,.string x.label,.int .i64 x.sort,.int .i64 x.dst]
theorem aA.bg(x:aA):x.cells.length=4:=rfl
theorem aA.cells_one(x:aA):∀u∈x.cells,u.oneCell'=true:=by intro u hu;simp[aA.cells]at hu;rcases hu with rfl|rfl|rfl|rfl<;>rfl
def bC(w:World)(base:Nat)(v:Value)(l:List aA):Prop:=w.ownsRow base 213 4 v l.length (l.flatMap aA.cells)
theorem bC.sl{w:World}{base:Nat}{v:Value}{l:List aA}(h:bC w base v l)(hl:l.length≤4294967296):dG w w.heap.size v l:=by
 have H:=h;obtain⟨_,T⟩:=h;rcases T with⟨rfl,P⟩|⟨I,cap,J,rfl,hg,C,R,_⟩;·have:l=[]:=List.length_eq_zero_iff.1 P;subst this;exact⟨none,0,rfl,Nat.le_refl _,by simp,fun h=>absurd rfl h⟩
 ·refine⟨_,_,rfl,R,hl,fun _=>⟨I,0,rfl,(Array.getElem?_eq_some_iff.1 C).1,fx.of w I l 0 (fun j U=>?_)⟩⟩;rw[Nat.zero_add];have e:=fun i(hi:i<4)(x:Value)(hx:(l[j].cells)[i]?=some x)=>cX H rfl (j*4+i) x ((dV aA.cells 4 aA.bg l j U i hi).trans hx);exact⟨e 0 (by omega) _ rfl,e 1 (by omega) _ rfl,e 2 (by omega) _ rfl,e 3 (by omega) _ rfl⟩
theorem bC.aD{w w':World}{base:Nat}{v:Value}{x:List aA}{l:List Nat}(h:bC w base v x)(j:aI w w' l)(hd:∀b∈aj v,b∉l):bC w' base v x:=aQ h j hd
theorem bC.below{w w':World}{base:Nat}{v:Value}{x:List aA}(h:bC w base v x)(j:Below w.heap.size w w'):bC w' base v x:=aJ h j
theorem bC.fresh{w:World}{base:Nat}{v:Value}{x:List aA}(h:bC w base v x):eu base w v:=au h
theorem bC.nil(w:World)(base:Nat):bC w base (.slice none 0 0) []:=dQ w base _ _
theorem bC.snoc{w:World}{base:Nat}{v:Value}{l:List aA}{x:aA}(h:w.ownsRow base 213 4 v (l.length+1) (l.flatMap aA.cells++x.cells)):bC w base v (l++[x]):=by unfold bC;rw[List.length_append,List.length_singleton,List.flatMap_append];simpa using h
end Go.Proofs.YtdiiiijkhpdcbaaGreatDoor
