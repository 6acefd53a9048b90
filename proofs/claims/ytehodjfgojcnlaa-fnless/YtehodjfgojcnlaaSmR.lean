/- Rows of rows of numbers that are read; how great the smaller ones of a tape are. -/
import Derived.Test.YtehodjfgojcnlaaSmS
namespace Go.Proofs.Ytehodjfgojcnlaa
open Go.RowKit

theorem NumOwn.sl {w : World} {base : Nat} {v : Value} {l : List Int} (h : NumOwn w base v l) (hl : l.length ≤ 4294967296) : NumSl w w.heap.size v l := by
  have H := h
  rcases h.2 with ⟨rfl, h0⟩ | ⟨g, cap, cur, rfl, hg, hblk, hc, hm, _⟩
  · have : l = [] := List.length_eq_zero_iff.1 h0
    subst this
    exact ⟨none, 0, rfl, Nat.le_refl _, Nat.zero_le _, fun h => absurd rfl h⟩
  · refine ⟨_, cap, rfl, hc, hl, fun _ => ⟨g, 0, rfl, (Array.getElem?_eq_some_iff.1 hblk).1, fun j hj => ?_⟩⟩
    rw [Nat.zero_add]
    exact owns_cell H rfl j _ (numV_at hj)
/-- rows of numbers that are read -/
structure RRR (w : World) (v : Value) (us : List Value) (ls : List (List Int)) : Prop where
  out : ∃ p c, v = .slice p us.length c ∧ us.length ≤ 1000 ∧ (us ≠ [] → ∃ g, p = some ⟨g, 0, none⟩ ∧ g < w.heap.size ∧ ∀ (j : Nat) (u : Value), us[j]? = some u → w.cell? ⟨g, j, none⟩ = some u)
  len : us.length = ls.length
  rows : ∀ (j : Nat) (u : Value) (l : List Int), us[j]? = some u → ls[j]? = some l → NumSl w w.heap.size u l
theorem RRR.on {w w' : World} {v : Value} {us : List Value} {ls : List (List Int)} (h : RRR w v us ls) (hb : Below w.heap.size w w') : RRR w' v us ls := by
  obtain ⟨p, c, e, h1, h2⟩ := h.out
  refine ⟨⟨p, c, e, h1, fun hne => ?_⟩, h.len, fun j u l hu hl => (h.rows j u l hu hl).on hb⟩
  obtain ⟨g, e2, hg, hc⟩ := h2 hne
  exact ⟨g, e2, Nat.lt_of_lt_of_le hg hb.size, fun j u hu => (hb.cell (p := ⟨g, j, none⟩) hg).trans (hc j u hu)⟩
theorem RRO.rd {w : World} {base : Nat} {v : Value} {us : List Value} {ls : List (List Int)} (h : RRO w base v us ls) (hn : us.length ≤ 1000) (hl : ∀ l ∈ ls, l.length ≤ 4294967296) : RRR w v us ls := by
  refine ⟨?_, h.len, fun j u l hu hll => (h.rows j u l hu hll).sl (hl l (List.mem_of_getElem? hll))⟩
  have H := h.own
  rcases h.own.2 with ⟨rfl, h0⟩ | ⟨g, cap, cur, rfl, hg, hblk, hc, hm, _⟩
  · exact ⟨none, 0, by rw [h0], hn, fun hne => absurd (List.length_eq_zero_iff.1 h0) hne⟩
  · exact ⟨_, cap, rfl, hn, fun _ => ⟨g, rfl, (Array.getElem?_eq_some_iff.1 hblk).1, fun j u hu => owns_cell H rfl j u hu⟩⟩
theorem flat_bound {c : Nat} : ∀ {ls : List (List Int)}, (∀ l ∈ ls, l.length ≤ c) → ls.flatten.length ≤ ls.length * c
  | [], _ => by simp
  | l :: ls, h => by
    rw [List.flatten_cons, List.length_append, List.length_cons, Nat.add_mul]
    have h1 := h l (by simp)
    have h2 := flat_bound (ls := ls) (fun x hx => h x (by simp [hx]))
    omega
theorem one_row {n k : Nat} {t l : List Int} (h : l ∈ oneP n t k) : l.length ≤ t.length := by
  unfold oneP at h
  split at h
  · cases h
  · rename_i x hx
    split at h
    · cases h
    · rename_i ins hins
      simp at h
      subst h
      have h1 := pick_len hins
      have h2 := (List.getElem?_eq_some_iff.1 hx).1
      unfold turnT
      simp
      omega
theorem small_row {n : Nat} {t l : List Int} (h : l ∈ smallTo t n) : l.length ≤ t.length := by
  unfold smallTo passTo at h
  obtain ⟨p, _, hp⟩ := List.mem_flatMap.1 h
  obtain ⟨k, _, hk⟩ := List.mem_flatMap.1 hp
  exact one_row hk
theorem small_sz (t : List Int) : (smallB t).length ≤ 48 ∧ (smallB t).flatten.length ≤ 576 := by
  unfold smallB
  split
  · rename_i h
    have h12 := tape_len h
    have h1 := small_len t 4
    have h2 : (smallTo t 4).length ≤ 48 := by omega
    refine ⟨h2, ?_⟩
    have h3 := flat_bound (c := 12) (ls := smallTo t 4) (fun l hl => by have := small_row hl; omega)
    omega
  · simp
theorem small_rows (t : List Int) : ∀ l ∈ smallB t, l.length ≤ 4294967296 := fun l hl => by
  unfold smallB at hl
  split at hl
  · rename_i h
    have := small_row hl
    have := tape_len h
    omega
  · cases hl
theorem RRO.read {w : World} {base : Nat} {v : Value} {us : List Value} {t : List Int} (h : RRO w base v us (smallB t)) : RRR w v us (smallB t) := h.rd (by rw [h.len]; have := (small_sz t).1; omega) (small_rows t)
end Go.Proofs.Ytehodjfgojcnlaa
