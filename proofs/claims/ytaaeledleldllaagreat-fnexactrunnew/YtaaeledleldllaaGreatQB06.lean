import Derived.Test.YtaaeledleldllaaGreatQB04
import Derived.Test.YtaaeledleldllaaGreatQB05
import Derived.Test.YtaaeledleldllaaGreatQB01
namespace Go.Proofs.YtaaeledleldllaaGreat
open Go.RowKit

theorem c3_2 (w : World) (A B : Obj) (cs : Array Value) (t : TypeId) (off : Nat) (v : Value) (h : cs[off]? = some v) : (((w.alloc A).alloc B).alloc (.cells cs t)).cell? ⟨w.heap.size + 1 + 1, off, none⟩ = some v := by
  have e : (((w.alloc A).alloc B).alloc (.cells cs t)).heap[w.heap.size + 1 + 1]? = some (.cells cs t) := mheap_new _ _ _ (by simp)
  simp only [World.cell?]
  rw [e]
  simpa using h
structure Mach where
  states : List RState
  edges : List REdge
  start : Int
def MachAt (w : World) (v : Value) (m : Mach) : Prop :=
  ∃ sv ev, v = .agg #[sv, ev, .int .i64 m.start] ∧ RStateSl w w.heap.size sv m.states ∧ REdgeSl w w.heap.size ev m.edges
theorem MachAt.carry {w w' : World} {v : Value} {m : Mach} (h : MachAt w v m) (hb : Below w.heap.size w w') : MachAt w' v m := by
  obtain ⟨sv, ev, e, h1, h2⟩ := h
  exact ⟨sv, ev, e, (h1.carry hb).up hb.size, (h2.carry hb).up hb.size⟩
def Mach.fit (m : Mach) : Prop := (∀ x ∈ m.states, x.fit) ∧ (∀ x ∈ m.edges, x.fit) ∧ m.states.length ≤ 1048576 ∧ m.edges.length ≤ 1048576
structure MachArg (w : World) (sa : Option Addr) (sc : Nat) (ea : Option Addr) (ec : Nat) (m : Mach) : Prop where
  sok : ∀ x ∈ m.states, x.ok
  eok : ∀ x ∈ m.edges, x.ok
  sl : m.states.length ≤ maxLen
  el : m.edges.length ≤ maxLen
  sr : m.states ≠ [] → ∃ b o, sa = some ⟨b, o, none⟩ ∧ b < w.heap.size ∧ RStates w b o m.states
  er : m.edges ≠ [] → ∃ b o, ea = some ⟨b, o, none⟩ ∧ b < w.heap.size ∧ REdges w b o m.edges
theorem MachArg.carry {w w' : World} {sa : Option Addr} {sc : Nat} {ea : Option Addr} {ec : Nat} {m : Mach} (h : MachArg w sa sc ea ec m) (hb : Below w.heap.size w w') : MachArg w' sa sc ea ec m := by
  refine ⟨h.sok, h.eok, h.sl, h.el, fun hne => ?_, fun hne => ?_⟩
  · obtain ⟨b, o, e, hlt, hr⟩ := h.sr hne
    exact ⟨b, o, e, Nat.lt_of_lt_of_le hlt hb.size, hr.carry hlt hb⟩
  · obtain ⟨b, o, e, hlt, hr⟩ := h.er hne
    exact ⟨b, o, e, Nat.lt_of_lt_of_le hlt hb.size, hr.carry hlt hb⟩
def machV (sa : Option Addr) (sc : Nat) (ea : Option Addr) (ec : Nat) (m : Mach) : Value := .agg #[.slice sa m.states.length sc, .slice ea m.edges.length ec, .int .i64 m.start]

end Go.Proofs.YtaaeledleldllaaGreat
