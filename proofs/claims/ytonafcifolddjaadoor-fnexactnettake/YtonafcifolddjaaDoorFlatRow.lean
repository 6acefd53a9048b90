/- Rows of structs as rows of cells. -/
import Derived.Test.YtonafcifolddjaaDoorSep
import Derived.Laws.AppendOwn
import Derived.Maps.AppendAt
namespace Go.Proofs.YtonafcifolddjaaDoor
open Go.RowKit

theorem flat_get {α β : Type} (f : α → List β) (n : Nat) (hf : ∀ x, (f x).length = n) : ∀ (l : List α) (j : Nat) (hj : j < l.length) (i : Nat), i < n → (l.flatMap f)[j * n + i]? = (f l[j])[i]?
  | x :: l, 0, _, i, hi => by
    rw [List.flatMap_cons, List.getElem?_append_left (by rw [hf]; omega)]
    simp
  | x :: l, j + 1, hj, i, hi => by
    rw [List.flatMap_cons, List.getElem?_append_right (by rw [hf, Nat.succ_mul]; omega), hf, show (j + 1) * n + i - n = j * n + i by rw [Nat.succ_mul]; omega]
    exact flat_get f n hf l j (by simpa using hj) i hi
theorem flat_len {α β : Type} (f : α → List β) (n : Nat) (hf : ∀ x, (f x).length = n) : ∀ (l : List α), (l.flatMap f).length = l.length * n
  | [] => by simp
  | x :: l => by rw [List.flatMap_cons, List.length_append, hf, flat_len f n hf l, List.length_cons, Nat.succ_mul, Nat.add_comm]
/-- the cells of a row that one has made -/
theorem owns_cell {w : World} {base e size n : Nat} {v : Value} {xs : List Value} (h : w.ownsRow base e size v n xs) {g c : Nat} (hv : v = .slice (some ⟨g, 0, none⟩) n c) (k : Nat) (x : Value) (hk : xs[k]? = some x) : w.cell? ⟨g, k, none⟩ = some x := by
  obtain ⟨hl, hh⟩ := h
  rcases hh with ⟨rfl, _⟩ | ⟨g', cap, cur, rfl, _, hblk, _, _, _, hcur⟩
  · cases hv
  · injection hv with h1 _ h3
    injection h1 with h1
    injection h1 with h1
    subst h1
    have hkl : k < n * size := by
      rw [← hl]
      exact (List.getElem?_eq_some_iff.1 hk).1
    rw [← hcur, List.getElem?_take, if_pos hkl] at hk
    simp only [World.cell?, hblk]
    simpa using hk
theorem owns_fresh {w : World} {base e size n : Nat} {v : Value} {xs : List Value} (h : w.ownsRow base e size v n xs) : Fresh base w v := by
  obtain ⟨_, hh⟩ := h
  rcases hh with ⟨rfl, _⟩ | ⟨g, cap, cur, rfl, hg, hblk, _⟩
  · exact ⟨by simp [vblocks, cellBlocks], by simp [vblocks, cellBlocks], by simp [vblocks, cellBlocks], by simp [vblocks, cellBlocks]⟩
  · refine ⟨by simp [vblocks, cellBlocks]; exact hg, by simp [vblocks, cellBlocks]; exact (Array.getElem?_eq_some_iff.1 hblk).1, ?_, by simp [vblocks, cellBlocks]⟩
    intro b hb j
    simp [vblocks, cellBlocks] at hb
    subst hb
    simp [World.frozen?, hblk]
theorem owns_shape {w : World} {base e size n : Nat} {v : Value} {xs : List Value} (h : w.ownsRow base e size v n xs) : ∃ p c, v = .slice p n c := by
  obtain ⟨_, hh⟩ := h
  rcases hh with ⟨rfl, h0⟩ | ⟨gb, cap, cur, rfl, _⟩
  · exact ⟨none, 0, by rw [h0]⟩
  · exact ⟨_, _, rfl⟩
theorem owns_nil (w : World) (base e size : Nat) : w.ownsRow base e size (.slice none 0 0) 0 [] := ⟨by simp, .inl ⟨rfl, rfl⟩⟩
theorem owns_empty (w : World) (base e size g : Nat) (hg : base ≤ g) (hb : w.heap[g]? = some (.cells #[] e (0, 0))) : w.ownsRow base e size (.slice (some ⟨g, 0, none⟩) 0 0) 0 [] :=
  ⟨by simp, .inr ⟨g, 0, #[], rfl, hg, hb, Nat.le_refl _, by simp [maxLen], by simp, by simp⟩⟩
/-- kept by whatever leaves its block as it was -/
theorem owns_keep {w w' : World} {base e size n : Nat} {v : Value} {xs : List Value} {l : List Nat} (h : w.ownsRow base e size v n xs) (ha : Apart w w' l) (hd : ∀ b ∈ vblocks v, b ∉ l) : w'.ownsRow base e size v n xs := by
  obtain ⟨hl, hh⟩ := h
  refine ⟨hl, ?_⟩
  rcases hh with hh | ⟨g, cap, cur, rfl, hg, hblk, hr⟩
  · exact .inl hh
  · exact .inr ⟨g, cap, cur, rfl, hg, (ha.block g (Array.getElem?_eq_some_iff.1 hblk).1 (hd g (by simp [vblocks, cellBlocks]))).trans hblk, hr⟩
theorem owns_below {w w' : World} {base e size n : Nat} {v : Value} {xs : List Value} (h : w.ownsRow base e size v n xs) (hb : Below w.heap.size w w') : w'.ownsRow base e size v n xs :=
  owns_keep h (below_apart hb) (fun _ _ => by simp)
end Go.Proofs.YtonafcifolddjaaDoor
