/- Rows of Acts that one makes oneself. -/
import Derived.Test.YthaomohoiginnaaSzAct
import Derived.Test.YthaomohoiginnaaFlatRow
namespace Go.Proofs.Ythaomohoiginnaa
open Go.RowKit

def RAct.cells (x : RAct) : List Value := [.int .i64 x.kind, .string x.peer, .string x.label, .int .i64 x.sort]
theorem RAct.cells_len (x : RAct) : x.cells.length = 4 := rfl
theorem RAct.cells_one (x : RAct) : ∀ u ∈ x.cells, u.oneCell' = true := by
  intro u hu
  simp [RAct.cells] at hu
  rcases hu with rfl | rfl | rfl | rfl <;> rfl
def RActOwn (w : World) (base : Nat) (v : Value) (l : List RAct) : Prop := w.ownsRow base 58 4 v l.length (l.flatMap RAct.cells)
theorem RActOwn.sl {w : World} {base : Nat} {v : Value} {l : List RAct} (h : RActOwn w base v l) (hl : l.length ≤ 4294967296) : RActSl w w.heap.size v l := by
  have H := h
  obtain ⟨_, hh⟩ := h
  rcases hh with ⟨rfl, h0⟩ | ⟨gb, cap, cur, rfl, hg, hblk, hc, _⟩
  · have : l = [] := List.length_eq_zero_iff.1 h0
    subst this
    exact ⟨none, 0, rfl, Nat.le_refl _, by simp, fun h => absurd rfl h⟩
  · refine ⟨_, _, rfl, hc, hl, fun _ => ⟨gb, 0, rfl, (Array.getElem?_eq_some_iff.1 hblk).1, RActs.of w gb l 0 (fun j hj => ?_)⟩⟩
    rw [Nat.zero_add]
    have e := fun i (hi : i < 4) (x : Value) (hx : (l[j].cells)[i]? = some x) => owns_cell H rfl (j * 4 + i) x ((flat_get RAct.cells 4 RAct.cells_len l j hj i hi).trans hx)
    exact ⟨e 0 (by omega) _ rfl, e 1 (by omega) _ rfl, e 2 (by omega) _ rfl, e 3 (by omega) _ rfl⟩
theorem RActOwn.keep {w w' : World} {base : Nat} {v : Value} {x : List RAct} {l : List Nat} (h : RActOwn w base v x) (ha : Apart w w' l) (hd : ∀ b ∈ vblocks v, b ∉ l) : RActOwn w' base v x := owns_keep h ha hd
theorem RActOwn.below {w w' : World} {base : Nat} {v : Value} {x : List RAct} (h : RActOwn w base v x) (hb : Below w.heap.size w w') : RActOwn w' base v x := owns_below h hb
theorem RActOwn.fresh {w : World} {base : Nat} {v : Value} {x : List RAct} (h : RActOwn w base v x) : Fresh base w v := owns_fresh h
theorem RActOwn.nil (w : World) (base : Nat) : RActOwn w base (.slice none 0 0) [] := owns_nil w base _ _
theorem RActOwn.snoc {w : World} {base : Nat} {v : Value} {l : List RAct} {x : RAct} (h : w.ownsRow base 58 4 v (l.length + 1) (l.flatMap RAct.cells ++ x.cells)) : RActOwn w base v (l ++ [x]) := by
  unfold RActOwn
  rw [List.length_append, List.length_singleton, List.flatMap_append]
  simpa using h
end Go.Proofs.Ythaomohoiginnaa
