/- slices.Sort, slices.Compact, slices.Contains over a row of numbers that the call owns. -/
import Derived.Test.YtcdlceldokhnbaaFarS
import Derived.Test.YtcdlceldokhnbaaShelfI
namespace Go.Proofs.Ytcdlceldokhnbaa
open Go.RowKit Go.Sort

theorem putRow_at {w : World} {g n : Nat} {os : Array Obj} {cur : Array Value} {e : TypeId} {fr : Nat × Nat} (d : Array Int) (hb : w.heap[g]? = some (.cells cur e fr)) :
    (grow (putRow (Value.int .i64) (Sort.ahead w n) g 0 d) os).heap[g]? = some (.cells (putCells (Value.int .i64) 0 d cur) e fr) := by
  rw [heap_grow_old _ _ (by simpa [putRow, mapBlock, Sort.ahead] using (Array.getElem?_eq_some_iff.1 hb).1)]
  simp [putRow, mapBlock, Sort.ahead, Array.getElem?_modify, hb, onCells]
theorem putRow_apart {w : World} {g n : Nat} {os : Array Obj} (d : Array Int) : Apart w (grow (putRow (Value.int .i64) (Sort.ahead w n) g 0 d) os) [g] := by
  refine ⟨rfl, rfl, rfl, by simp, fun k hk hne => ?_⟩
  rw [heap_grow_old _ _ (by simpa using hk)]
  have : g ≠ k := fun e => hne (by simp [e])
  simp [putRow, mapBlock, Sort.ahead, Array.getElem?_modify, this]
theorem putCells_take (cur : Array Value) (l : List Int) (n : Nat) (hn : n ≤ l.length) (h : l.length ≤ cur.size) : (putCells (Value.int .i64) 0 l.toArray cur).toList.take n = intV (l.take n) := by
  apply List.ext_getElem?
  intro j
  by_cases hj : j < n
  · rw [List.getElem?_take_of_lt hj, Array.getElem?_toList]
    simp [putCells, intV, show j < l.length by omega, show j < cur.size by omega, hj]
  · rw [List.getElem?_take_eq_none (by omega), List.getElem?_eq_none (by simp [intV]; omega)]
theorem block_holds {w : World} {g : Nat} {cur : Array Value} {e : TypeId} {l : List Int} (hb : w.heap[g]? = some (.cells cur e (0, 0))) (ht : cur.toList.take l.length = intV l) : Holds (Value.int .i64) w g 0 l.toArray := by
  intro j hj
  have hj' : j < l.length := by simpa using hj
  refine ⟨?_, by simp [World.frozen?, hb]⟩
  have h1 : (cur.toList.take l.length)[j]? = (intV l)[j]? := by rw [ht]
  rw [List.getElem?_take_of_lt hj', Array.getElem?_toList] at h1
  simp [World.cell?, hb, h1, intV, hj']
theorem sort_ints (l : List Int) (v : Value) (w : World) (base : Nat) (hown : w.ownsRow base 2 1 v l.length (intV l)) (hl : l.length ≤ 1000) :
    Calls Try.prog 170 #[v] w fun e w' => e = .returned (.tuple #[]) ∧ ∃ l', l'.Perm l ∧ w'.ownsRow base 2 1 v l'.length (intV l') ∧ Apart w w' (vblocks v) := by
  obtain ⟨hxl, hv⟩ := hown
  rcases hv with ⟨rfl, h0⟩ | ⟨g, cap, cur, rfl, hg, hh, hn, hcap, hsz, htake⟩
  · obtain rfl : l = [] := List.length_eq_zero_iff.1 h0
    refine (Try.slices_Sort_int_none none 0 w).mono ?_
    rintro e w' ⟨rfl, rfl⟩
    exact ⟨rfl, [], List.Perm.refl _, World.ownsRow_nil _ _ _ _, Apart.refl _⟩
  · have hlt : g < w.heap.size := (Array.getElem?_eq_some_iff.1 hh).1
    refine (Try.slices_Sort_int g 0 cap l w (block_holds hh (by simpa using htake)) hlt (by omega)).mono ?_
    rintro e w' ⟨rfl, n, os, rfl⟩
    have hlen : (l.mergeSort fun x y => decide (x ≤ y)).length = l.length := List.length_mergeSort _
    refine ⟨rfl, l.mergeSort fun x y => decide (x ≤ y), List.mergeSort_perm _ _, ⟨by simp [intV], .inr ⟨g, cap, _, by rw [hlen], hg, putRow_at _ hh, by rw [hlen]; exact hn, hcap, by simp [putCells, hsz], ?_⟩⟩, ?_⟩
    · rw [Nat.mul_one, putCells_take cur _ _ (Nat.le_refl _) (by omega), List.take_length]
    · simpa [vblocks, cellBlocks] using putRow_apart (w := w) (g := g) (n := n) (os := os) _
theorem mem_compact (l : List Int) (x : Int) : x ∈ Lib.compact l ↔ x ∈ l := by
  have hget : ∀ j, j < l.length → (l.toArray[j]! ∈ Lib.compact l) := by
    intro j
    induction j with
    | zero => intro hj; simp only [Lib.compact, Lib.compactUpTo, List.mem_map, List.mem_filter, List.mem_range]; exact ⟨0, ⟨hj, by simp [Lib.keeps]⟩, rfl⟩
    | succ j ih =>
      intro hj
      by_cases hk : Lib.keeps l.toArray (j + 1) = true
      · simp only [Lib.compact, Lib.compactUpTo, List.mem_map, List.mem_filter, List.mem_range]
        exact ⟨j + 1, ⟨hj, hk⟩, rfl⟩
      · have hk' : l.toArray[j + 1]! = l.toArray[j]! := by
          unfold Lib.keeps at hk
          simpa using hk
        rw [hk']
        exact ih (by omega)
  constructor
  · intro h
    simp only [Lib.compact, Lib.compactUpTo, List.mem_map, List.mem_filter, List.mem_range] at h
    obtain ⟨j, ⟨hj, -⟩, rfl⟩ := h
    simp [hj]
  · intro h
    obtain ⟨j, hj, rfl⟩ := List.getElem_of_mem h
    have := hget j hj
    simpa [hj] using this
theorem compact_ints (l : List Int) (v : Value) (w : World) (base : Nat) (hown : w.ownsRow base 2 1 v l.length (intV l)) (hl : l.length ≤ 1000) :
    Calls Try.prog 171 #[v] w fun e w' => ∃ v' l', e = .returned v' ∧ (∀ x, x ∈ l' ↔ x ∈ l) ∧ l'.length ≤ l.length ∧ w'.ownsRow base 2 1 v' l'.length (intV l') ∧ Apart w w' (vblocks v) := by
  obtain ⟨hxl, hv⟩ := hown
  rcases hv with ⟨rfl, h0⟩ | ⟨g, cap, cur, rfl, hg, hh, hn, hcap, hsz, htake⟩
  · obtain rfl : l = [] := List.length_eq_zero_iff.1 h0
    refine (Try.slices_Compact_int_empty none 0 w).mono ?_
    rintro e w' ⟨rfl, rfl⟩
    exact ⟨_, [], rfl, fun _ => Iff.rfl, Nat.le_refl _, World.ownsRow_nil _ _ _ _, Apart.refl _⟩
  · refine (Try.slices_Compact_int g 0 cap l w (block_holds hh (by simpa using htake)) (by omega) hn).mono ?_
    rintro e w' ⟨rfl, q, rfl⟩
    have hle : (Lib.compact l).length ≤ l.length := by
      unfold Lib.compact Lib.compactUpTo
      rw [List.length_map]
      exact Nat.le_trans (List.length_filter_le _ _) (by simp)
    have hpl : (Lib.compact l ++ List.replicate (l.length - (Lib.compact l).length) (0 : Int)).length = l.length := by simp; omega
    have hb := putRow_at (n := q) (os := #[]) (Lib.compact l ++ List.replicate (l.length - (Lib.compact l).length) 0).toArray hh
    have ha := putRow_apart (w := w) (g := g) (n := q) (os := #[]) (Lib.compact l ++ List.replicate (l.length - (Lib.compact l).length) 0).toArray
    rw [grow_empty] at hb ha
    refine ⟨_, Lib.compact l, rfl, mem_compact l, hle, ⟨by simp [intV], .inr ⟨g, cap, _, rfl, hg, hb, by omega, hcap, by simp [putCells, hsz], ?_⟩⟩, by simpa [vblocks, cellBlocks] using ha⟩
    rw [Nat.mul_one, putCells_take cur _ _ (by omega) (by omega)]
    simp
theorem contains_ints (l : List Int) (x : Int) (v : Value) (w : World) (base : Nat) (hown : w.ownsRow base 2 1 v l.length (intV l)) (hl : l.length ≤ 1000) :
    Calls Try.prog 152 #[v, .int .i64 x] w fun e w' => e = .returned (.bool (l.contains x)) ∧ w' = w := by
  have H := hown
  obtain ⟨hxl, hv⟩ := hown
  rcases hv with ⟨rfl, h0⟩ | ⟨g, cap, cur, rfl, hg, hh, hn, hcap, hsz, htake⟩
  · obtain rfl : l = [] := List.length_eq_zero_iff.1 h0
    exact Try.slices_Contains_int_empty none 0 x w
  · have := Try.slices_Contains_int g 0 l.length cap l x w (Nat.le_refl _) (by omega) (fun j hj => by
      have := owns_cell H rfl j (.int .i64 (l.getD j 0)) (by simp [intV, hj])
      simpa using this)
    rwa [List.take_length] at this
end Go.Proofs.Ytcdlceldokhnbaa
