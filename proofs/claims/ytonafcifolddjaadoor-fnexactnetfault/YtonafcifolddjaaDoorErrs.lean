/- Why not: the four errors, as the program's variables hold them; errors.Is of them. -/
import Derived.Test.YtonafcifolddjaaDoorRows
import Derived.Test.YtonafcifolddjaaDoorBase
import Derived.Test.YtonafcifolddjaaDoorMem
import Derived.LaidEql
import Derived.Stop.Asserts
import Derived.RowKitTokens
namespace Go.Proofs.YtonafcifolddjaaDoor
open Go.RowKit Go.Extern.Stop Go.Stop Go.Extern

theorem Tryd.isTypeOf (v : Value) (w : World) : (Extern.ReflectliteType.typeOf #[.iface 92 v]).run Tryd.prog w = .ok (.iface 82 (.agg #[.pointer (some ⟨4, 92, none⟩)])) w := by kernel_rfl
def cmpExt : Array Value → Sem Value := Extern.ReflectliteType.method fun t => do Extern.Rtype.noPackHeld "Comparable" t; pure (.bool (← typeInfo t).comparable)
theorem Tryd.isComparable (w : World) : (cmpExt #[.agg #[.pointer (some ⟨4, 92, none⟩)]]).run Tryd.prog w = .ok (.bool true) w := by kernel_rfl
theorem Tryd.isMethodComparable (v : Value) (w : World) : (Go.method 229 82 v "Comparable").run Tryd.prog w = .ok (82, v) w := by kernel_rfl
theorem Tryd.isComp : (Tryd.prog.info? 92).map (·.comparable) = some true := by kernel_rfl
theorem Tryd.isSize : (Tryd.prog.info? 117).map (·.size) = some 1 := by kernel_rfl
theorem Tryd.noIsE (v : Value) (xT : TypeId) (w : World) : (Instr.typeAssert (.iface 92 v) xT 84 true).run Tryd.prog w = .ok (.tuple #[.nilIface, .bool false]) w := run_typeAssert_lacksB Tryd.underlying84 (by kernel_rfl) (by kernel_rfl) v xT w
theorem Tryd.noUnwrapE (v : Value) (xT : TypeId) (w : World) : (Instr.typeAssert (.iface 92 v) xT 87 true).run Tryd.prog w = .ok (.tuple #[.nilIface, .bool false]) w := run_typeAssert_lacksB Tryd.underlying87 (by kernel_rfl) (by kernel_rfl) v xT w
theorem Tryd.noUnwrapsE (v : Value) (xT : TypeId) (w : World) : (Instr.typeAssert (.iface 92 v) xT 89 true).run Tryd.prog w = .ok (.tuple #[.nilIface, .bool false]) w := run_typeAssert_lacksB Tryd.underlying89 (by kernel_rfl) (by kernel_rfl) v xT w

set_option maxRecDepth 100000 in
theorem is_same (a : Addr) (w : World) :
    Calls Tryd.prog 60 #[.iface 92 (.pointer (some a)), .iface 92 (.pointer (some a))] w fun e w' => e = .returned (.bool true) ∧ w' = w := by
  obtain ⟨i, hi, hcmp⟩ := Option.map_eq_some_iff.1 Tryd.isComp
  obtain ⟨j, hj, hjs⟩ := Option.map_eq_some_iff.1 Tryd.isSize
  have h8 := @run_callFunc_extern Tryd.prog 62 _ Extern.ReflectliteType.typeOf Tryd.func62 (by kernel_rfl) (by kernel_rfl) (by kernel_rfl) (by kernel_rfl)
  have h32 := @run_callFunc_extern Tryd.prog 82 _ cmpExt Tryd.func82 (by kernel_rfl) (by kernel_rfl) (by kernel_rfl) (by kernel_rfl)
  have tT := Tryd.isTypeOf
  have cT := Tryd.isComparable
  have mR := Tryd.isMethodComparable
  have heq := run_eql_iface_ptr_same (P := Tryd.prog) w a Tryd.underlying47 Tryd.underlying92 hi hcmp hj
  go_enter Tryd.func60, Tryd.ntmps60
  go_wp2
  refine wp_loop_rounds 1 ?_
  rw [rounds_succ]
  go_wp2
  go_ret
  exact ⟨rfl, rfl⟩
set_option maxRecDepth 100000 in
theorem is_other (a b : Addr) (ca cb : Array Value) (ta tb : TypeId) (w : World) (hne : a ≠ b) (ha : w.heap[a.block]? = some (.cells ca ta (0, 0))) (hb : w.heap[b.block]? = some (.cells cb tb (0, 0))) :
    Calls Tryd.prog 60 #[.iface 92 (.pointer (some a)), .iface 92 (.pointer (some b))] w fun e w' => e = .returned (.bool false) ∧ w' = w := by
  obtain ⟨i, hi, hcmp⟩ := Option.map_eq_some_iff.1 Tryd.isComp
  obtain ⟨j, hj, hjs⟩ := Option.map_eq_some_iff.1 Tryd.isSize
  have h8 := @run_callFunc_extern Tryd.prog 62 _ Extern.ReflectliteType.typeOf Tryd.func62 (by kernel_rfl) (by kernel_rfl) (by kernel_rfl) (by kernel_rfl)
  have h32 := @run_callFunc_extern Tryd.prog 82 _ cmpExt Tryd.func82 (by kernel_rfl) (by kernel_rfl) (by kernel_rfl) (by kernel_rfl)
  have tT := Tryd.isTypeOf
  have cT := Tryd.isComparable
  have mR := Tryd.isMethodComparable
  have nE := Tryd.noIsE
  have uE := Tryd.noUnwrapE
  have vE := Tryd.noUnwrapsE
  have heq := run_eql_iface_ptr_other (P := Tryd.prog) w Tryd.underlying47 Tryd.underlying92 hi hcmp hj (by rw [hjs]; decide) hne ha hb
  go_enter Tryd.func60, Tryd.ntmps60
  go_wp2
  refine wp_loop_rounds 1 ?_
  rw [rounds_succ]
  go_wp2
  go_ret
  exact ⟨rfl, rfl⟩

/-- where the four errors are: nothing, too long, not right, no room -/
structure Errs where
  aN : Addr
  aL : Addr
  aR : Addr
  aM : Addr
structure SentAt (w : World) (E : Errs) : Prop where
  gN : w.cell? ⟨0, 0, none⟩ = some (.iface 92 (.pointer (some E.aN)))
  gL : w.cell? ⟨1, 0, none⟩ = some (.iface 92 (.pointer (some E.aL)))
  gR : w.cell? ⟨2, 0, none⟩ = some (.iface 92 (.pointer (some E.aR)))
  gM : w.cell? ⟨3, 0, none⟩ = some (.iface 92 (.pointer (some E.aM)))
  bN : ∃ c t, w.heap[E.aN.block]? = some (.cells c t (0, 0))
  bL : ∃ c t, w.heap[E.aL.block]? = some (.cells c t (0, 0))
  bR : ∃ c t, w.heap[E.aR.block]? = some (.cells c t (0, 0))
  bM : ∃ c t, w.heap[E.aM.block]? = some (.cells c t (0, 0))
  nL : E.aN ≠ E.aL
  nR : E.aN ≠ E.aR
  nM : E.aN ≠ E.aM
  lR : E.aL ≠ E.aR
  lM : E.aL ≠ E.aM
  rM : E.aR ≠ E.aM
theorem SentAt.carry {w w' : World} {E : Errs} (h : SentAt w E) (hb : Below w.heap.size w w') : SentAt w' E := by
  have hc : ∀ {p : Addr} {v : Value}, w.cell? p = some v → w'.cell? p = some v := fun {p v} hv => (hb.cell (World.block_lt_of_cell? w _ hv)).trans hv
  have hk : ∀ {b : Nat}, (∃ c t, w.heap[b]? = some (.cells c t (0, 0))) → ∃ c t, w'.heap[b]? = some (.cells c t (0, 0)) := fun {b} ⟨c, t, hv⟩ => ⟨c, t, (hb.block b (Array.getElem?_eq_some_iff.1 hv).1).trans hv⟩
  exact ⟨hc h.gN, hc h.gL, hc h.gR, hc h.gM, hk h.bN, hk h.bL, hk h.bR, hk h.bM, h.nL, h.nR, h.nM, h.lR, h.lM, h.rM⟩

/-- why not -/
abbrev Why := CallKind
def Why.code : Why → Int
  | .normal => 0
  | .deferred => 6
  | .wrapped => 2
  | .report => 1
  | .early => 9
def whyV (E : Errs) : Why → Value
  | .normal => .nilIface
  | .deferred => .iface 92 (.pointer (some E.aN))
  | .wrapped => .iface 92 (.pointer (some E.aL))
  | .report => .iface 92 (.pointer (some E.aR))
  | .early => .iface 92 (.pointer (some E.aM))
end Go.Proofs.YtonafcifolddjaaDoor
