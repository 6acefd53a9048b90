/- Rows of Edges that one makes oneself. -/
import Derived.Test.YthaomohoiginnaaQMachineOf25
import Derived.Test.YthaomohoiginnaaQMachineOf21
import Derived.Test.YthaomohoiginnaaQMachineOf23
import Derived.Test.YthaomohoiginnaaQMachineOf24
namespace Go.Proofs.Ythaomohoiginnaa
open Go.RowKit

def REdge.cells (x : REdge) : List Value := [.int .i64 x.src, .string x.label, .int .i64 x.sort, .int .i64 x.dst]
theorem REdge.cells_len (x : REdge) : x.cells.length = 4 := rfl
theorem REdge.cells_one (x : REdge) : ∀ u ∈ x.cells, u.oneCell' = true := by
  intro u hu
  simp [REdge.cells] at hu
  rcases hu with rfl | rfl | rfl | rfl <;> rfl
def REdgeOwn (w : World) (base : Nat) (v : Value) (l : List REdge) : Prop := w.ownsRow base 100 4 v l.length (l.flatMap REdge.cells)
theorem REdgeOwn.sl {w : World} {base : Nat} {v : Value} {l : List REdge} (h : REdgeOwn w base v l) (hl : l.length ≤ 4294967296) : REdgeSl w w.heap.size v l := by
  have H := h
  obtain ⟨_, hh⟩ := h
  rcases hh with ⟨rfl, h0⟩ | ⟨gb, cap, cur, rfl, hg, hblk, hc, _⟩
  · have : l = [] := List.length_eq_zero_iff.1 h0
    subst this
    exact ⟨none, 0, rfl, Nat.le_refl _, by simp, fun h => absurd rfl h⟩
  · refine ⟨_, _, rfl, hc, hl, fun _ => ⟨gb, 0, rfl, (Array.getElem?_eq_some_iff.1 hblk).1, REdges.of w gb l 0 (fun j hj => ?_)⟩⟩
    rw [Nat.zero_add]
    have e := fun i (hi : i < 4) (x : Value) (hx : (l[j].cells)[i]? = some x) => owns_cell H rfl (j * 4 + i) x ((flat_get REdge.cells 4 REdge.cells_len l j hj i hi).trans hx)
    exact ⟨e 0 (by omega) _ rfl, e 1 (by omega) _ rfl, e 2 (by omega) _ rfl, e 3 (by omega) _ rfl⟩
theorem REdgeOwn.keep {w w' : World} {base : Nat} {v : Value} {x : List REdge} {l : List Nat} (h : REdgeOwn w base v x) (ha : Apart w w' l) (hd : ∀ b ∈ vblocks v, b ∉ l) : REdgeOwn w' base v x := owns_keep h ha hd
theorem REdgeOwn.below {w w' : World} {base : Nat} {v : Value} {x : List REdge} (h : REdgeOwn w base v x) (hb : Below w.heap.size w w') : REdgeOwn w' base v x := owns_below h hb
theorem REdgeOwn.fresh {w : World} {base : Nat} {v : Value} {x : List REdge} (h : REdgeOwn w base v x) : Fresh base w v := owns_fresh h
theorem REdgeOwn.nil (w : World) (base : Nat) : REdgeOwn w base (.slice none 0 0) [] := owns_nil w base _ _
theorem REdgeOwn.snoc {w : World} {base : Nat} {v : Value} {l : List REdge} {x : REdge} (h : w.ownsRow base 100 4 v (l.length + 1) (l.flatMap REdge.cells ++ x.cells)) : REdgeOwn w base v (l ++ [x]) := by
  unfold REdgeOwn
  rw [List.length_append, List.length_singleton, List.flatMap_append]
  simpa using h
end Go.Proofs.Ythaomohoiginnaa
/- What MachineRead and MachineOf answer. -/
namespace Go.Proofs.Ythaomohoiginnaa
open Go.RowKit

def noMach : Mach := ⟨[], [], 0⟩
def moV (sv ev : Value) (m : Mach) (c : Int) : Value := .agg #[sv, ev, .int .i64 m.start, .int .i64 c]
def outM : Obj := .cells #[.slice none 0 0, .slice none 0 0, .int .i64 0, .int .i64 0] 50
structure MrAns (w w' : World) (e : Ending) (m : Mach) (c : Int) : Prop where
  ans : ∃ sv ev, e = .returned (moV sv ev m c) ∧ RStateOwn w' w.heap.size sv m.states ∧ REdgeOwn w' w.heap.size ev m.edges ∧ (∀ b ∈ vblocks sv, b ∉ vblocks ev)
  bel : Below w.heap.size w w'
theorem set4 {B : Nat} {a w : World} (h : Below B a w) (y0 y1 y2 y3 : Value) : Below B a ((((w.setCell ⟨B, 0, none⟩ y0).setCell ⟨B, 1, none⟩ y1).setCell ⟨B, 2, none⟩ y2).setCell ⟨B, 3, none⟩ y3) :=
  (((h.setCell (p := ⟨B, 0, none⟩) (Nat.le_refl _) _).setCell (p := ⟨B, 1, none⟩) (Nat.le_refl _) _).setCell (p := ⟨B, 2, none⟩) (Nat.le_refl _) _).setCell (p := ⟨B, 3, none⟩) (Nat.le_refl _) _
theorem ap4 (w : World) (B : Nat) (y0 y1 y2 y3 : Value) : Apart w ((((w.setCell ⟨B, 0, none⟩ y0).setCell ⟨B, 1, none⟩ y1).setCell ⟨B, 2, none⟩ y2).setCell ⟨B, 3, none⟩ y3) [B] :=
  (((setCell_apart w B 0 y0).setCell 1 y1).setCell 2 y2).setCell 3 y3
end Go.Proofs.Ythaomohoiginnaa
