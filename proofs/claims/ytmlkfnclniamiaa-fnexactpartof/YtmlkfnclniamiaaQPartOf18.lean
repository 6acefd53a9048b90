/- Marks: see MarkT. -/
import Derived.Test.YtmlkfnclniamiaaQPartOf16
import Derived.Test.YtmlkfnclniamiaaQPartOf17
/- Rows of one's own: what may be written; what a store leaves as it was. -/
namespace Go.Proofs.Ytmlkfnclniamiaa
open Go.RowKit

/-- what a slice lies in is new, and may be written to -/
structure OwnAt (B : Nat) (w : World) (v : Value) : Prop where
  free : ∀ b, v.ownBlock = some b → B ≤ b ∧ b < w.heap.size ∧ ∀ j, w.frozen? ⟨b, j, none⟩ = false
theorem OwnAt.carry {B : Nat} {w w' : World} {v : Value} (h : OwnAt B w v) (hb : Below w.heap.size w w') : OwnAt B w' v :=
  ⟨fun b e => ⟨(h.free b e).1, Nat.lt_of_lt_of_le (h.free b e).2.1 hb.size, fun j => (hb.frozen (p := ⟨b, j, none⟩) (h.free b e).2.1).trans ((h.free b e).2.2 j)⟩⟩
theorem own_at {B e size : Nat} {w : World} {v : Value} {n : Nat} {xs : List Value} (h : w.ownsRow B e size v n xs) : OwnAt B w v := by
  refine ⟨fun b hb => ?_⟩
  obtain ⟨_, hv⟩ := h
  rcases hv with ⟨rfl, _⟩ | ⟨g, cap, cur, rfl, hg, hh, _⟩
  · cases hb
  · simp [Value.ownBlock] at hb
    subst hb
    exact ⟨hg, (Array.getElem?_eq_some_iff.1 hh).1, fun j => by simp [World.frozen?, hh]⟩

end Go.Proofs.Ytmlkfnclniamiaa
