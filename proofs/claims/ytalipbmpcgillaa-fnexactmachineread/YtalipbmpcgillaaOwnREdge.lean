/- Rows of Edges that one makes oneself. -/
import Derived.Test.YtalipbmpcgillaaSzEdge
import Derived.Test.YtalipbmpcgillaaFlatRow
namespace Go.Proofs.Ytalipbmpcgillaa
open Go.RowKit

def REdge.cells (x : REdge) : List Value := [.int .i64 x.src, .string x.label, .int .i64 x.sort, .int .i64 x.dst]
theorem REdge.cells_len (x : REdge) : x.cells.length = 4 := rfl
theorem REdge.cells_one (x : REdge) : ∀ u ∈ x.cells, u.oneCell' = true := by
  intro u hu
  simp [REdge.cells] at hu
  rcases hu with rfl | rfl | rfl | rfl <;> rfl
def REdgeOwn (w : World) (base : Nat) (v : Value) (l : List REdge) : Prop := w.ownsRow base 95 4 v l.length (l.flatMap REdge.cells)
theorem REdgeOwn.sl {w : World} {base : Nat} {v : Value} {l : List REdge} (h : REdgeOwn w base v l) (hl : l.length ≤ 4294967296) : REdgeSl w w.heap.size v l := by
  have H := h
  obtain ⟨_, hh⟩ := h
  rcases hh with ⟨rfl, h0⟩ | ⟨gb, cap, cur, rfl, hg, hblk, hc, _⟩
  · have : l = [] := List.length_eq_zero_iff.1 h0
    subst this
    exact ⟨none, 0, rfl, Nat.le_refl _, by simp, fun h => absurd rfl h⟩
  · refine ⟨_, _, rfl, hc, hl, fun _ => ⟨gb, 0, rfl, (Array.getElem?_eq_some_iff.1 hblk).1, REdges.of w gb l 0 (fun j hj => ?_)⟩⟩
    rw [Nat.zero_add]
    have e := fun i (hi : i < 4) (x : Value) (hx : (l[j].cells)[i]? = some x) => owns_cell H rfl (j * 4 + i) x ((flat_get REdge.cells 4 REdge.cells_len l j hj i hi).trans hx)
    exact ⟨e 0 (by omega) _ rfl, e 1 (by omega) _ rfl, e 2 (by omega) _ rfl, e 3 (by omega) _ rfl⟩
theorem REdgeOwn.keep {w w' : World} {base : Nat} {v : Value} {x : List REdge} {l : List Nat} (h : REdgeOwn w base v x) (ha : Apart w w' l) (hd : ∀ b ∈ vblocks v, b ∉ l) : REdgeOwn w' base v x := owns_keep h ha hd
theorem REdgeOwn.below {w w' : World} {base : Nat} {v : Value} {x : List REdge} (h : REdgeOwn w base v x) (hb : Below w.heap.size w w') : REdgeOwn w' base v x := owns_below h hb
theorem REdgeOwn.fresh {w : World} {base : Nat} {v : Value} {x : List REdge} (h : REdgeOwn w base v x) : Fresh base w v := owns_fresh h
theorem REdgeOwn.nil (w : World) (base : Nat) : REdgeOwn w base (.slice none 0 0) [] := owns_nil w base _ _
theorem REdgeOwn.snoc {w : World} {base : Nat} {v : Value} {l : List REdge} {x : REdge} (h : w.ownsRow base 95 4 v (l.length + 1) (l.flatMap REdge.cells ++ x.cells)) : REdgeOwn w base v (l ++ [x]) := by
  unfold REdgeOwn
  rw [List.length_append, List.length_singleton, List.flatMap_append]
  simpa using h
end Go.Proofs.Ytalipbmpcgillaa
