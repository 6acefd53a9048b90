/- Rows of States that one makes oneself. -/
import Derived.Test.YtalipbmpcgillaaSzState
import Derived.Test.YtalipbmpcgillaaFlatRow
namespace Go.Proofs.Ytalipbmpcgillaa
open Go.RowKit

def RState.cells (x : RState) : List Value := [.int .i64 x.kind, .string x.peer]
theorem RState.cells_len (x : RState) : x.cells.length = 2 := rfl
theorem RState.cells_one (x : RState) : ∀ u ∈ x.cells, u.oneCell' = true := by
  intro u hu
  simp [RState.cells] at hu
  rcases hu with rfl | rfl <;> rfl
def RStateOwn (w : World) (base : Nat) (v : Value) (l : List RState) : Prop := w.ownsRow base 93 2 v l.length (l.flatMap RState.cells)
theorem RStateOwn.sl {w : World} {base : Nat} {v : Value} {l : List RState} (h : RStateOwn w base v l) (hl : l.length ≤ 4294967296) : RStateSl w w.heap.size v l := by
  have H := h
  obtain ⟨_, hh⟩ := h
  rcases hh with ⟨rfl, h0⟩ | ⟨gb, cap, cur, rfl, hg, hblk, hc, _⟩
  · have : l = [] := List.length_eq_zero_iff.1 h0
    subst this
    exact ⟨none, 0, rfl, Nat.le_refl _, by simp, fun h => absurd rfl h⟩
  · refine ⟨_, _, rfl, hc, hl, fun _ => ⟨gb, 0, rfl, (Array.getElem?_eq_some_iff.1 hblk).1, RStates.of w gb l 0 (fun j hj => ?_)⟩⟩
    rw [Nat.zero_add]
    have e := fun i (hi : i < 2) (x : Value) (hx : (l[j].cells)[i]? = some x) => owns_cell H rfl (j * 2 + i) x ((flat_get RState.cells 2 RState.cells_len l j hj i hi).trans hx)
    exact ⟨e 0 (by omega) _ rfl, e 1 (by omega) _ rfl⟩
theorem RStateOwn.keep {w w' : World} {base : Nat} {v : Value} {x : List RState} {l : List Nat} (h : RStateOwn w base v x) (ha : Apart w w' l) (hd : ∀ b ∈ vblocks v, b ∉ l) : RStateOwn w' base v x := owns_keep h ha hd
theorem RStateOwn.below {w w' : World} {base : Nat} {v : Value} {x : List RState} (h : RStateOwn w base v x) (hb : Below w.heap.size w w') : RStateOwn w' base v x := owns_below h hb
theorem RStateOwn.fresh {w : World} {base : Nat} {v : Value} {x : List RState} (h : RStateOwn w base v x) : Fresh base w v := owns_fresh h
theorem RStateOwn.nil (w : World) (base : Nat) : RStateOwn w base (.slice none 0 0) [] := owns_nil w base _ _
theorem RStateOwn.snoc {w : World} {base : Nat} {v : Value} {l : List RState} {x : RState} (h : w.ownsRow base 93 2 v (l.length + 1) (l.flatMap RState.cells ++ x.cells)) : RStateOwn w base v (l ++ [x]) := by
  unfold RStateOwn
  rw [List.length_append, List.length_singleton, List.flatMap_append]
  simpa using h
end Go.Proofs.Ytalipbmpcgillaa
