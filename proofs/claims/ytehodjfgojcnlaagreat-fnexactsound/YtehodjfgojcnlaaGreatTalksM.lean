/- TalksIn, of the program and of the specification. -/
import Derived.Test.YtehodjfgojcnlaaGreatRolesOfM
namespace Go.Proofs.YtehodjfgojcnlaaGreat
open Go.RowKit

theorem STexts.texts {w : World} {v : Value} {ls : List ByteArray} (h : STexts w v ls) (hl : ls.length ≤ 4294967296) : TextsAt w v ls := by
  obtain ⟨b, o, cap, rfl, h1, h2, h3⟩ := h
  exact ⟨_, _, rfl, h1, hl, fun _ => ⟨b, o, rfl, h3⟩⟩
theorem word_len {t : ByteArray} (h : wordB t = true) : t.size ≤ 20 := by
  simp only [wordB, nameB, Bool.and_eq_true, decide_eq_true_eq] at h
  exact h.1.1.2
theorem talker_word {n : Nd} (h : nodeB (talkS false) n = true) : ∀ t ∈ talkers n, wordB t = true := by
  intro t ht
  simp only [nodeB, Bool.or_eq_true] at h
  rcases h with (((h | h) | h) | h) | h
  · simp only [endB, Bool.and_eq_true, beq_iff_eq] at h
    simp [talkers, h] at ht
  · simp only [varB, Bool.and_eq_true, beq_iff_eq] at h
    simp [talkers, h] at ht
  · simp only [recB, Bool.and_eq_true, beq_iff_eq] at h
    simp [talkers, h] at ht
  · simp only [caseB, Bool.and_eq_true, beq_iff_eq] at h
    simp [talkers, h] at ht
  · simp only [Bool.and_eq_true] at h
    have hs := h.2
    simp only [talkS, Bool.and_eq_true] at hs
    simp at hs
    simp [talkers, hs] at ht
    rcases ht with h | h
    · rw [h]; exact hs.2.1.2
    · rw [h]; exact hs.1.1.1
theorem fold_mem {ts : List ByteArray} : ∀ {acc : List ByteArray} {t : ByteArray}, t ∈ ts.foldl addI acc → t ∈ acc ∨ t ∈ ts := by
  induction ts with
  | nil => intro acc t h; exact .inl h
  | cons s ts ih =>
    intro acc t h
    rcases ih h with h | h
    · rw [addI] at h
      split at h
      · exact .inl h
      · rcases List.mem_append.1 h with h | h
        · exact .inl h
        · simp at h; exact .inr (by simp [h])
    · exact .inr (List.mem_cons_of_mem _ h)
theorem role_word {ns : List Nd} (h : rightB false ns = true) : ∀ t ∈ rolesS ns, wordB t = true := by
  intro t ht
  have hp := (roles_perm (right_nodes h)).2
  have h1 := hp.mem_iff.2 ht
  rw [rolesI_eq] at h1
  rcases fold_mem h1 with h2 | h2
  · cases h2
  · obtain ⟨n, hn, hnt⟩ := List.mem_flatMap.1 h2
    exact talker_word (right_nodes h n hn) t hnt

def talksV (ns : List Nd) (role : ByteArray) : Bool := hasB (rolesV ns) role
theorem roles_le4 (ns : List Nd) : (rolesV ns).length ≤ 4 := by
  rw [rolesV]
  split
  · rename_i h; exact right_roles h
  · simp

theorem talks_long {ns : List Nd} {role : ByteArray} (h : 8000 < role.size) : talksV ns role = false := by
  rw [← Bool.not_eq_true]
  intro ht
  rw [talksV, has_iff, rolesV] at ht
  split at ht
  · rename_i hr
    have := word_len (role_word hr role ht)
    omega
  · cases ht

end Go.Proofs.YtehodjfgojcnlaaGreat
