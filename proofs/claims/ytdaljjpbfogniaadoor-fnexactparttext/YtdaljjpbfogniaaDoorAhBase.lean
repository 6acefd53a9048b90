/- rowAhead: at every row of Nodes and place. -/
import Derived.Test.YtdaljjpbfogniaaDoorPlan
namespace Go.Proofs.YtdaljjpbfogniaaDoor
open Go.RowKit

theorem ahead_0 {T : Nd → Bool} {f : Nat} {st l : List Nd} {n : Nd} (h : n.op = 0) : ahead T f st (n :: l) = if endB n then some l else none := by
  cases f <;> simp [ahead, h]
theorem ahead_1 {T : Nd → Bool} {f : Nat} {st l : List Nd} {n : Nd} (h : n.op = 1) : ahead T f st (n :: l) = if varB n && backB false st n.name then some l else none := by
  cases f <;> simp [ahead, h]
theorem ahead_2 {T : Nd → Bool} {f : Nat} {st l : List Nd} {n : Nd} (h : n.op = 2) : ahead T (f + 1) st (n :: l) = if recB n && !withinB st n.name then ahead T f (n :: st) l else none := by
  simp [ahead, h]
theorem ahead_20 {T : Nd → Bool} {st l : List Nd} {n : Nd} (h : n.op = 2) : ahead T 0 st (n :: l) = none := by
  simp [ahead, h]
theorem ahead_t {T : Nd → Bool} {f : Nat} {st l : List Nd} {n : Nd} (h0 : n.op ≠ 0) (h1 : n.op ≠ 1) (h2 : n.op ≠ 2) : ahead T (f + 1) st (n :: l) = if T n then kidsBy (ahead T f (n :: st)) n.many.toNat [] l else none := by
  simp [ahead, h0, h1, h2]
theorem ahead_t0 {T : Nd → Bool} {st l : List Nd} {n : Nd} (h0 : n.op ≠ 0) (h1 : n.op ≠ 1) : ahead T 0 st (n :: l) = none := by
  simp [ahead, h0, h1]
theorem ahead_x {T : Nd → Bool} {f : Nat} {st l : List Nd} {n : Nd} (h0 : n.op ≠ 0) (h1 : n.op ≠ 1) (h2 : n.op ≠ 2) (h3 : T n = false) : ahead T f st (n :: l) = none := by
  cases f <;> simp [ahead, h0, h1, h2, h3]

theorem told_leaf {w w' : World} {B : Nat} {v : Value} {x : Bool} {r : Option (List Nd)} {l1 : List Nd} (hs : SlAt w B v l1) (hB : B ≤ w.heap.size) (hb : Below w.heap.size w w') (hx : r = if x then some l1 else none) : Told w' B (.returned (.tuple #[v, .bool x])) r ∧ Below w.heap.size w w' := by
  refine ⟨⟨v, ?_, ?_⟩, hb⟩
  · cases x <;> simp [hx]
  · intro l hl
    cases x
    · simp [hx] at hl
    · simp [hx] at hl
      subst hl
      exact hs.carry (hb.mono hB)
theorem told_none {w w' : World} {B : Nat} {v : Value} {r : Option (List Nd)} (hb : Below w.heap.size w w') (hx : r = none) : Told w' B (.returned (.tuple #[v, .bool false])) r ∧ Below w.heap.size w w' := by
  refine ⟨⟨v, by rw [hx]; rfl, ?_⟩, hb⟩
  rw [hx]; intro l hl; cases hl
theorem told_on {w w1 w' : World} {B : Nat} {e : Ending} {r r' : Option (List Nd)} (h : Told w' B e r') (hb1 : Below w.heap.size w w1) (hb2 : Below w1.heap.size w1 w') (hr : r = r') : Told w' B e r ∧ Below w.heap.size w w' :=
  ⟨hr ▸ h, hb1.trans (hb2.mono hb1.size)⟩
theorem boxed (w : World) (n : Nd) (t : TypeId) : NodeAt (w.alloc (.cells #[.int .i64 n.op, .string n.name, .string n.peer, .int .i64 n.many, .int .i64 n.sort] t)).drew w.heap.size 0 n := by
  simp [NodeAt]
end Go.Proofs.YtdaljjpbfogniaaDoor
