import Derived.Test.YtaaeledleldllaaGreatQB24
import Derived.Test.YtaaeledleldllaaGreatQB22
namespace Go.Proofs.YtaaeledleldllaaGreat
open Go.RowKit

theorem rowat_block {w w' : World} {g : Nat} (hb : w'.heap[g]? = w.heap[g]?) : ∀ {l : List Nd} {o : Nat}, RowAt w g o l → RowAt w' g o l
  | [], _, _ => trivial
  | _ :: _, _, ⟨⟨h0, h1, h2, h3, h4⟩, hr⟩ => ⟨⟨(World.cell?_of_block (a := ⟨g, _, none⟩) hb).trans h0, (World.cell?_of_block (a := ⟨g, _, none⟩) hb).trans h1, (World.cell?_of_block (a := ⟨g, _, none⟩) hb).trans h2, (World.cell?_of_block (a := ⟨g, _, none⟩) hb).trans h3, (World.cell?_of_block (a := ⟨g, _, none⟩) hb).trans h4⟩, rowat_block hb hr⟩
theorem slat_keep {w w' : World} {B : Nat} {v : Value} {ns : List Nd} {l : List Nat} (h : SlAt w B v ns) (ha : Apart w w' l) (hd : ∀ b ∈ vblocks v, b ∉ l) (hB : B ≤ w.heap.size) : SlAt w' B v ns := by
  obtain ⟨ao, cap, rfl, hc, hm, hr⟩ := h
  refine ⟨ao, cap, rfl, hc, hm, fun hne => ?_⟩
  obtain ⟨b, o, rfl, hlt, hrow⟩ := hr hne
  exact ⟨b, o, rfl, hlt, rowat_block (ha.block b (Nat.lt_of_lt_of_le hlt hB) (hd b (by simp [vblocks, cellBlocks]))) hrow⟩
end Go.Proofs.YtaaeledleldllaaGreat
