/- What a call leaves, apart from the blocks it writes. -/
import Derived.Test.YthghhccikgngjaaGreatDoorMem
import Derived.Test.YthghhccikgngjaaGreatDoorSep
namespace Go.Proofs.YthghhccikgngjaaGreatDoor
open Go.RowKit
theorem Apart.cell' {w w' : World} {l : List Nat} (h : Apart w w' l) {b o : Nat} {x : Value} (hc : w.cell? ⟨b, o, none⟩ = some x) (hl : b ∉ l) : w'.cell? ⟨b, o, none⟩ = some x :=
  (World.cell?_of_block (a := ⟨b, o, none⟩) (h.block b (World.block_lt_of_cell? w _ hc) hl)).trans hc
theorem Apart.frozen' {w w' : World} {l : List Nat} (h : Apart w w' l) {b o : Nat} {x : Bool} (hb : b < w.heap.size) (hc : w.frozen? ⟨b, o, none⟩ = x) (hl : b ∉ l) : w'.frozen? ⟨b, o, none⟩ = x :=
  (World.frozen?_of_block (a := ⟨b, o, none⟩) (h.block b hb hl)).trans hc
theorem Apart.weak {w w' : World} {l : List Nat} (h : Apart w w' []) : Apart w w' l := ⟨h.os, h.tape, h.output, h.size, fun b hb _ => h.block b hb (by simp)⟩
theorem Apart.same {w w' : World} {b : Nat} (h : Apart w w' ([b] ++ [b])) : Apart w w' [b] := ⟨h.os, h.tape, h.output, h.size, fun k hk hn => h.block k hk (by simp at hn; simp [hn])⟩
theorem Apart.setCell {w w' : World} {b : Nat} (h : Apart w w' [b]) (o : Nat) (x : Value) : Apart w (w'.setCell ⟨b, o, none⟩ x) [b] :=
  ⟨h.os, h.tape, h.output, by simp; exact h.size, fun k hk hn => (Below.heap_setCell w' ⟨b, o, none⟩ x k (fun e => hn (by simp [e]))).trans (h.block k hk hn)⟩
end Go.Proofs.YthghhccikgngjaaGreatDoor
