import Derived.Test.YtdiiiijkhpdcbaaGreatDoorRV00
import Derived.Stop.Asserts
import Derived.RowKitTokens
namespace Go.Proofs.YtdiiiijkhpdcbaaGreatDoor
open Go.RowKit
set_option linter.unusedSimpArgs false
set_option linter.unusedVariables false
set_option maxRecDepth 100000
section
open Go.RowKit Go.Extern.Stop Go.Stop Go.Extern
theorem Tryz.wG(v:Value)(w:World):(Extern.ReflectliteType.typeOf #[.iface 398 v]).run Tryz.prog w=.ok (.iface 385 (.agg #[.pointer (some ⟨4,398,none⟩)])) w:=by kernel_rfl
def xY : Array Value -> Sem Value := Extern.ReflectliteType.method fun t => do
 Extern.Rtype.noPackHeld "Comparable" t;
 pure (.bool (<- typeInfo t).comparable)
theorem Tryz.nY(w:World):(xY #[.agg #[.pointer (some ⟨4,398,none⟩)]]).run Tryz.prog w=.ok (.bool true) w:=by kernel_rfl
theorem Tryz.ji(v:Value)(w:World):(Go.method 536 385 v "Comparable").run Tryz.prog w=.ok (350,v) w:=by kernel_rfl
theorem Tryz.Dq:(Tryz.prog.info? 398).map (·.comparable)=some true:=by kernel_rfl
theorem Tryz.Dr:(Tryz.prog.info? 424).map (·.size)=some 1:=by kernel_rfl
theorem Tryz.Jn(v:Value)(j:TypeId)(w:World):(Instr.typeAssert (.iface 398 v) j 387 true).run Tryz.prog w=.ok (.tuple #[.nilIface,.bool false]) w:=run_typeAssert_lacksB Tryz.underlying387 (by kernel_rfl) (by kernel_rfl) v j w
theorem Tryz.BC(v:Value)(j:TypeId)(w:World):(Instr.typeAssert (.iface 398 v) j 390 true).run Tryz.prog w=.ok (.tuple #[.nilIface,.bool false]) w:=run_typeAssert_lacksB Tryz.underlying390 (by kernel_rfl) (by kernel_rfl) v j w
theorem Tryz.yw(v:Value)(j:TypeId)(w:World):(Instr.typeAssert (.iface 398 v) j 392 true).run Tryz.prog w=.ok (.tuple #[.nilIface,.bool false]) w:=run_typeAssert_lacksB Tryz.underlying392 (by kernel_rfl) (by kernel_rfl) v j w
theorem uH(a:Addr)(w:World):Calls Tryz.prog 289 #[.iface 398 (.pointer (some a)),.iface 398 (.pointer (some a))] w fun e w'=>e=.returned (.bool true)/\w'=w:=by obtain⟨i,hi,l⟩:=Option.map_eq_some_iff.1 Tryz.Dq;obtain⟨j,I,J⟩:=Option.map_eq_some_iff.1 Tryz.Dr;have T:=@run_callFunc_extern Tryz.prog 314 _ Extern.ReflectliteType.typeOf Tryz.func314 (by kernel_rfl) (by kernel_rfl) (by kernel_rfl) (by kernel_rfl);have C:=@run_callFunc_extern Tryz.prog 350 _ xY Tryz.func350 (by kernel_rfl) (by kernel_rfl) (by kernel_rfl) (by kernel_rfl);have tT:=Tryz.wG;have R:=Tryz.nY;have U:=Tryz.ji;have heq:=run_eql_iface_ptr_same (P:=Tryz.prog) w a Tryz.underlying256 Tryz.underlying398 hi l I;go_enter Tryz.func289,Tryz.ntmps289;go_wp2;refine wp_loop_rounds 1 ?_;rw[rounds_succ];go_wp2;go_ret;exact⟨rfl,rfl⟩
theorem kb(a b:Addr)(J R:Array Value)(ta tb:TypeId)(w:World)(I:a≠b)(U:w.heap[a.block]?=some (.cells J ta (0,0)))(hb:w.heap[b.block]?=some (.cells R tb (0,0))):Calls Tryz.prog 289 #[.iface 398 (.pointer (some a)),.iface 398 (.pointer (some b))] w fun e w'=>e=.returned (.bool false)/\w'=w:=by obtain⟨i,hi,l⟩:=Option.map_eq_some_iff.1 Tryz.Dq;obtain⟨j,hj,C⟩:=Option.map_eq_some_iff.1 Tryz.Dr;have h8:=@run_callFunc_extern Tryz.prog 314 _ Extern.ReflectliteType.typeOf Tryz.func314 (by kernel_rfl) (by kernel_rfl) (by kernel_rfl) (by kernel_rfl);have T:=@run_callFunc_extern Tryz.prog 350 _ xY Tryz.func350 (by kernel_rfl) (by kernel_rfl) (by kernel_rfl) (by kernel_rfl);have tT:=Tryz.wG;have cT:=Tryz.nY;have mR:=Tryz.ji;have nE:=Tryz.Jn;have uE:=Tryz.BC;have vE:=Tryz.yw;have heq:=run_eql_iface_ptr_other (P:=Tryz.prog) w Tryz.underlying256 Tryz.underlying398 hi l hj (by rw[C];decide) I U hb;go_enter Tryz.func289,Tryz.ntmps289;go_wp2;refine wp_loop_rounds 1 ?_;rw[rounds_succ];go_wp2;go_ret;exact⟨rfl,rfl⟩
structure jU where
 aN:Addr
 aL:Addr
 aR:Addr
 aM:Addr
structure dS(w:World)(E:jU):Prop where
 gN:w.cell? ⟨3,0,none⟩=some (.iface 398 (.pointer (some E.aN)))
 gL:w.cell? ⟨0,0,none⟩=some (.iface 398 (.pointer (some E.aL)))
 gR:w.cell? ⟨1,0,none⟩=some (.iface 398 (.pointer (some E.aR)))
 gM:w.cell? ⟨2,0,none⟩=some (.iface 398 (.pointer (some E.aM)))
 bN:∃c t,w.heap[E.aN.block]?=some (.cells c t (0,0))
 bL:∃c t,w.heap[E.aL.block]?=some (.cells c t (0,0))
 bR:∃c t,w.heap[E.aR.block]?=some (.cells c t (0,0))
 bM:∃c t,w.heap[E.aM.block]?=some (.cells c t (0,0))
 nL:E.aN≠E.aL
 nR:E.aN≠E.aR
 nM:E.aN≠E.aM
 lR:E.aL≠E.aR
 lM:E.aL≠E.aM
 rM:E.aR≠E.aM
theorem dS.carry{w w':World}{E:jU}(h:dS w E)(I:Below w.heap.size w w'):dS w' E:=by have l:∀{p:Addr}{v:Value},w.cell? p=some v->w'.cell? p=some v:=fun{p v}j=>(I.cell (World.block_lt_of_cell? w _ j)).trans j;have C:∀{b:Nat},(∃c t,w.heap[b]?=some (.cells c t (0,0)))->∃c t,w'.heap[b]?=some (.cells c t (0,0)):=fun{b}⟨c,t,j⟩=>⟨c,t,(I.block b (Array.getElem?_eq_some_iff.1 j).1).trans j⟩;exact⟨l h.gN,l h.gL,l h.gR,l h.gM,C h.bN,C h.bL,C h.bR,C h.bM,h.nL,h.nR,h.nM,h.lR,h.lM,h.rM⟩
abbrev xS:=CallKind
def xS.code:xS->Int|.normal=>0|.deferred=>6|.wrapped=>2|.report=>1|.early=>9
def iN(E:jU):xS->Value|.normal=>.nilIface|.deferred=>.iface 398 (.pointer (some E.aN))|.wrapped=>.iface 398 (.pointer (some E.aL))|.report=>.iface 398 (.pointer (some E.aR))|.early=>.iface 398 (.pointer (some E.aM))
end
section
open Go.RowKit Go.ChangeShapes Go.WideShapes
def vr(w:World)(b o:Nat)(l:List Int):Prop:=∀j(h:j<l.length),w.cell? ⟨b,o+j,none⟩=some (.int .i64 l[j])
theorem vr.carry{w w':World}{b B o:Nat}{l:List Int}(h:vr w b o l)(C:b<B)(I:Below B w w'):vr w' b o l:=fun j J=>(I.cell (p:=⟨b,o+j,none⟩) C).trans (h j J)
def dM(w:World)(B:Nat)(v:Value)(l:List Int):Prop:=∃j cap,v=.slice j l.length cap/\l.length<=cap/\l.length<=4294967296/\(l≠[]->∃b o,j=some ⟨b,o,none⟩/\b<B/\vr w b o l)
theorem dM.carry{w w':World}{B:Nat}{v:Value}{l:List Int}(h:dM w B v l)(U:Below B w w'):dM w' B v l:=by obtain⟨I,cap,J,P,R,T⟩:=h;refine⟨I,cap,J,P,R,fun C=>?_⟩;obtain⟨b,o,e,j,hr⟩:=T C;exact⟨b,o,e,j,hr.carry j U⟩
theorem dM.up{w:World}{B C:Nat}{v:Value}{l:List Int}(h:dM w B v l)(hB:B<=C):dM w C v l:=by obtain⟨I,cap,J,P,R,T⟩:=h;refine⟨I,cap,J,P,R,fun j=>?_⟩;obtain⟨b,o,e,U,hr⟩:=T j;exact⟨b,o,e,by omega,hr⟩
theorem dM.on{w w':World}{v:Value}{l:List Int}(h:dM w w.heap.size v l)(j:Below w.heap.size w w'):dM w' w'.heap.size v l:=(h.carry j).up j.size
theorem dM.shape{w:World}{B:Nat}{v:Value}{l:List Int}(h:dM w B v l):∃p c,v=.slice p l.length c:=by obtain⟨j,cap,C,_⟩:=h;exact⟨j,cap,C⟩
theorem Tryz.qI:(Tryz.prog.info? 2).map (fun i=>(i.zero,i.size,i.bytes))=some (some (.int .i64 0),1,8):=by kernel_rfl
end
