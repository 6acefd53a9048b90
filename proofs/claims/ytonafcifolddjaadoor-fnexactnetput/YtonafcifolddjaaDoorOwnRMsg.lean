/- Rows of Msgs that one makes oneself. -/
import Derived.Test.YtonafcifolddjaaDoorSzMsg
import Derived.Test.YtonafcifolddjaaDoorFlatRow
namespace Go.Proofs.YtonafcifolddjaaDoor
open Go.RowKit

def RMsg.cells (x : RMsg) : List Value := [.string x.frm, .string x.to, .string x.label, .int .i64 x.sort]
theorem RMsg.cells_len (x : RMsg) : x.cells.length = 4 := rfl
theorem RMsg.cells_one (x : RMsg) : ∀ u ∈ x.cells, u.oneCell' = true := by
  intro u hu
  simp [RMsg.cells] at hu
  rcases hu with rfl | rfl | rfl | rfl <;> rfl
def RMsgOwn (w : World) (base : Nat) (v : Value) (l : List RMsg) : Prop := w.ownsRow base 28 4 v l.length (l.flatMap RMsg.cells)
theorem RMsgOwn.sl {w : World} {base : Nat} {v : Value} {l : List RMsg} (h : RMsgOwn w base v l) (hl : l.length ≤ 4294967296) : RMsgSl w w.heap.size v l := by
  have H := h
  obtain ⟨_, hh⟩ := h
  rcases hh with ⟨rfl, h0⟩ | ⟨gb, cap, cur, rfl, hg, hblk, hc, _⟩
  · have : l = [] := List.length_eq_zero_iff.1 h0
    subst this
    exact ⟨none, 0, rfl, Nat.le_refl _, by simp, fun h => absurd rfl h⟩
  · refine ⟨_, _, rfl, hc, hl, fun _ => ⟨gb, 0, rfl, (Array.getElem?_eq_some_iff.1 hblk).1, RMsgs.of w gb l 0 (fun j hj => ?_)⟩⟩
    rw [Nat.zero_add]
    have e := fun i (hi : i < 4) (x : Value) (hx : (l[j].cells)[i]? = some x) => owns_cell H rfl (j * 4 + i) x ((flat_get RMsg.cells 4 RMsg.cells_len l j hj i hi).trans hx)
    exact ⟨e 0 (by omega) _ rfl, e 1 (by omega) _ rfl, e 2 (by omega) _ rfl, e 3 (by omega) _ rfl⟩
theorem RMsgOwn.keep {w w' : World} {base : Nat} {v : Value} {x : List RMsg} {l : List Nat} (h : RMsgOwn w base v x) (ha : Apart w w' l) (hd : ∀ b ∈ vblocks v, b ∉ l) : RMsgOwn w' base v x := owns_keep h ha hd
theorem RMsgOwn.below {w w' : World} {base : Nat} {v : Value} {x : List RMsg} (h : RMsgOwn w base v x) (hb : Below w.heap.size w w') : RMsgOwn w' base v x := owns_below h hb
theorem RMsgOwn.fresh {w : World} {base : Nat} {v : Value} {x : List RMsg} (h : RMsgOwn w base v x) : Fresh base w v := owns_fresh h
theorem RMsgOwn.nil (w : World) (base : Nat) : RMsgOwn w base (.slice none 0 0) [] := owns_nil w base _ _
theorem RMsgOwn.snoc {w : World} {base : Nat} {v : Value} {l : List RMsg} {x : RMsg} (h : w.ownsRow base 28 4 v (l.length + 1) (l.flatMap RMsg.cells ++ x.cells)) : RMsgOwn w base v (l ++ [x]) := by
  unfold RMsgOwn
  rw [List.length_append, List.length_singleton, List.flatMap_append]
  simpa using h
end Go.Proofs.YtonafcifolddjaaDoor
