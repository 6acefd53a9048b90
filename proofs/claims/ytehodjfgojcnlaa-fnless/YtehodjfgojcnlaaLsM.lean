/- The smaller ones of a tape are right, and less; of two that are not the same just one is less. -/
import Derived.Test.YtehodjfgojcnlaaSmM
namespace Go.Proofs.Ytehodjfgojcnlaa
open Go.RowKit

theorem lex_irr : ∀ a : List Int, lexL a a = false
  | [] => rfl
  | x :: l => by rw [lexL, if_pos rfl]; exact lex_irr l
theorem lex_anti : ∀ {a b : List Int}, a.length = b.length → a ≠ b → lexL a b = !lexL b a
  | [], [], _, h => absurd rfl h
  | [], _ :: _, h, _ => by simp at h
  | _ :: _, [], h, _ => by simp at h
  | x :: l, y :: r, h, hne => by
    rw [lexL, lexL]
    by_cases e : x = y
    · subst e
      rw [if_pos rfl, if_pos rfl]
      exact lex_anti (by simpa using h) (fun e => hne (by rw [e]))
    · rw [if_neg e, if_neg (fun h => e h.symm)]
      by_cases hl : x < y
      · have h2 : ¬ y < x := by omega
        simp [hl, h2]
      · have h2 : y < x := by omega
        simp [hl, h2]
theorem less_anti {a b : List Int} (hne : a ≠ b) : lessB a b = !lessB b a := by
  unfold lessB
  by_cases h : a.length = b.length
  · rw [if_pos h, if_pos h.symm]
    exact lex_anti h hne
  · rw [if_neg h, if_neg (fun e => h e.symm)]
    by_cases hl : a.length < b.length
    · have h2 : ¬ b.length < a.length := by omega
      simp [hl, h2]
    · have h2 : b.length < a.length := by omega
      simp [hl, h2]
theorem tl_anti {a b : List Int} (ha : tapeB a = true) (hb : tapeB b = true) (hne : a ≠ b) : (tlB a b == tlB b a) = false := by
  unfold tlB
  rw [ha, hb, less_anti hne]
  cases lessB b a <;> rfl
theorem lex_turn : ∀ (t : List Int) (k : Nat) (x y : Int), t[k]? = some x → y < x → lexL (t.take k ++ (y :: t.drop (k + 1))) t = true
  | [], k, x, y, h, _ => by simp at h
  | z :: t, 0, x, y, h, hlt => by
    simp at h
    subst h
    show lexL (y :: _) (z :: t) = true
    rw [lexL, if_neg (by omega)]
    simp [hlt]
  | z :: t, k + 1, x, y, h, hlt => by
    rw [List.getElem?_cons_succ] at h
    show lexL (z :: (t.take k ++ (y :: t.drop (k + 1)))) (z :: t) = true
    rw [lexL, if_pos rfl]
    exact lex_turn t k x y h hlt
theorem num_of {t : List Int} (h : tapeB t = true) {x : Int} (hx : x ∈ t) : numB x = true := by
  unfold tapeB at h
  simp only [Bool.and_eq_true, List.all_eq_true] at h
  exact h.2 x hx
theorem turn_right {t : List Int} (h : tapeB t = true) {k : Nat} (hk : k < t.length) {ins : List Int} (hl : ins.length ≤ 1) (hi : ∀ y ∈ ins, numB y = true) : tapeB (turnT t k ins) = true := by
  have h12 : t.length ≤ 12 := by unfold tapeB at h; simp only [Bool.and_eq_true, decide_eq_true_eq] at h; exact h.1
  unfold tapeB
  rw [Bool.and_eq_true, decide_eq_true_eq, List.all_eq_true]
  refine ⟨by unfold turnT; simp; omega, fun y hy => ?_⟩
  unfold turnT at hy
  rw [List.mem_append, List.mem_append] at hy
  rcases hy with hy | hy | hy
  · exact num_of h (List.mem_of_mem_take hy)
  · exact hi y hy
  · exact num_of h (List.mem_of_mem_drop hy)
theorem numB_iff (y : Int) : numB y = true ↔ 0 ≤ y ∧ y ≤ 399 := by unfold numB; simp
theorem less_turn {t : List Int} {k : Nat} {x : Int} (hx : t[k]? = some x) {ins : List Int} (h : ins = [] ∨ ∃ y, ins = [y] ∧ y < x) : lessB (turnT t k ins) t = true := by
  have hk := (List.getElem?_eq_some_iff.1 hx).1
  rcases h with rfl | ⟨y, rfl, hy⟩
  · unfold lessB
    have hl : (turnT t k []).length = t.length - 1 := by unfold turnT; simp; omega
    rw [if_neg (by omega), decide_eq_true_eq]
    omega
  · unfold lessB
    have hl : (turnT t k [y]).length = t.length := by unfold turnT; simp; omega
    rw [if_pos hl]
    exact lex_turn t k x y hx hy
theorem small_less {t l : List Int} (h : l ∈ smallB t) : tapeB l = true ∧ tlB l t = true := by
  unfold smallB at h
  split at h
  · rename_i ht
    unfold smallTo passTo at h
    obtain ⟨n, hn, h⟩ := List.mem_flatMap.1 h
    obtain ⟨k, _, h⟩ := List.mem_flatMap.1 h
    have hn4 : n < 4 := List.mem_range.1 hn
    unfold oneP at h
    split at h
    · cases h
    · rename_i x hx
      split at h
      · cases h
      · rename_i ins hins
        simp at h
        subst h
        have hk := (List.getElem?_eq_some_iff.1 hx).1
        have hxn := (numB_iff x).1 (num_of ht (List.mem_of_getElem? hx))
        have key : (∀ y ∈ ins, numB y = true) ∧ (ins = [] ∨ ∃ y, ins = [y] ∧ y < x) := by
          match n, hins with
          | 0, hins =>
            rw [pickP] at hins
            split at hins
            · injection hins with hins; subst hins; exact ⟨fun y hy => (by cases hy), .inl rfl⟩
            · cases hins
          | 1, hins =>
            rw [pickP] at hins
            split at hins
            · injection hins with hins; subst hins; exact ⟨fun y hy => (by simp at hy; subst hy; rfl), .inr ⟨0, rfl, by omega⟩⟩
            · cases hins
          | 2, hins =>
            rw [pickP] at hins
            split at hins
            · injection hins with hins; subst hins; exact ⟨fun y hy => (by simp at hy; subst hy; exact (numB_iff _).2 (by omega)), .inr ⟨_, rfl, by omega⟩⟩
            · cases hins
          | 3, hins =>
            rw [pickP] at hins
            split at hins
            · injection hins with hins; subst hins; exact ⟨fun y hy => (by simp at hy; subst hy; exact (numB_iff _).2 (by omega)), .inr ⟨_, rfl, by omega⟩⟩
            · cases hins
          | n + 4, hins => cases hins
        have h1 := turn_right ht hk (pick_len hins) key.1
        refine ⟨h1, ?_⟩
        unfold tlB
        rw [h1, ht, less_turn hx key.2]
        rfl
  · cases h
end Go.Proofs.Ytehodjfgojcnlaa
