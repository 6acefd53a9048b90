/- TalksIn, of the program and of the specification. -/
import Derived.Test.YtdaljjpbfogniaaRolesOf
namespace Go.Proofs.Ytdaljjpbfogniaa
open Go.RowKit

theorem STexts.texts {w : World} {v : Value} {ls : List ByteArray} (h : STexts w v ls) (hl : ls.length ≤ 4294967296) : TextsAt w v ls := by
  obtain ⟨b, o, cap, rfl, h1, h2, h3⟩ := h
  exact ⟨_, _, rfl, h1, hl, fun _ => ⟨b, o, rfl, h3⟩⟩
theorem word_len {t : ByteArray} (h : wordB t = true) : t.size ≤ 20 := by
  simp only [wordB, nameB, Bool.and_eq_true, decide_eq_true_eq] at h
  exact h.1.1.2
theorem talker_word {n : Nd} (h : nodeB (talkS false) n = true) : ∀ t ∈ talkers n, wordB t = true := by
  intro t ht
  simp only [nodeB, Bool.or_eq_true] at h
  rcases h with (((h | h) | h) | h) | h
  · simp only [endB, Bool.and_eq_true, beq_iff_eq] at h
    simp [talkers, h] at ht
  · simp only [varB, Bool.and_eq_true, beq_iff_eq] at h
    simp [talkers, h] at ht
  · simp only [recB, Bool.and_eq_true, beq_iff_eq] at h
    simp [talkers, h] at ht
  · simp only [caseB, Bool.and_eq_true, beq_iff_eq] at h
    simp [talkers, h] at ht
  · simp only [Bool.and_eq_true] at h
    have hs := h.2
    simp only [talkS, Bool.and_eq_true] at hs
    simp at hs
    simp [talkers, hs] at ht
    rcases ht with h | h
    · rw [h]; exact hs.2.1.2
    · rw [h]; exact hs.1.1.1
theorem fold_mem {ts : List ByteArray} : ∀ {acc : List ByteArray} {t : ByteArray}, t ∈ ts.foldl addI acc → t ∈ acc ∨ t ∈ ts := by
  induction ts with
  | nil => intro acc t h; exact .inl h
  | cons s ts ih =>
    intro acc t h
    rcases ih h with h | h
    · rw [addI] at h
      split at h
      · exact .inl h
      · rcases List.mem_append.1 h with h | h
        · exact .inl h
        · simp at h; exact .inr (by simp [h])
    · exact .inr (List.mem_cons_of_mem _ h)
theorem role_word {ns : List Nd} (h : rightB false ns = true) : ∀ t ∈ rolesS ns, wordB t = true := by
  intro t ht
  have hp := (roles_perm (right_nodes h)).2
  have h1 := hp.mem_iff.2 ht
  rw [rolesI_eq] at h1
  rcases fold_mem h1 with h2 | h2
  · cases h2
  · obtain ⟨n, hn, hnt⟩ := List.mem_flatMap.1 h2
    exact talker_word (right_nodes h n hn) t hnt

def talksV (ns : List Nd) (role : ByteArray) : Bool := hasB (rolesV ns) role
theorem roles_le4 (ns : List Nd) : (rolesV ns).length ≤ 4 := by
  rw [rolesV]
  split
  · rename_i h; exact right_roles h
  · simp

theorem talks_in (ns : List Nd) (role : ByteArray) (v : Value) (w : World) (fit : ∀ n ∈ ns, n.fit) (hv : SlAt w w.heap.size v ns) :
    Calls Try.prog 21 #[v, .string role] w fun e w' => e = .returned (.bool (talksV ns role)) ∧ Below w.heap.size w w' := by
  have HV := hide hv
  have HF := hide fit
  obtain ⟨ao, cap, rfl, hc, hm, hr⟩ := hv
  clear hr fit hc hm
  go_enter Try.func21, Try.ntmps21
  go_wp2_with (first | (go_at_call 15; refine (roles_of ns _ _ HF.out HV.out).mono ?_; rintro e w1 ⟨v1, rfl, ho1, hb1⟩; have HO1 := hide ho1; have HB1 := hide hb1; clear hb1 ho1) | (go_at_call 42; refine (s_contains (rolesV ns) role _ _ (texts_own HO1.out (by have := roles_le4 ns; omega))).mono ?_; rintro e w2 ⟨rfl, rfl⟩))
  go_ret
  exact ⟨ret_bool rfl, HB1.out⟩

theorem talks_long {ns : List Nd} {role : ByteArray} (h : 8000 < role.size) : talksV ns role = false := by
  rw [← Bool.not_eq_true]
  intro ht
  rw [talksV, has_iff, rolesV] at ht
  split at ht
  · rename_i hr
    have := word_len (role_word hr role ht)
    omega
  · cases ht

set_option maxHeartbeats 400000 in
theorem s_talksIn (ns : List Nd) (role : ByteArray) (v : Value) (w : World) (fit : ∀ n ∈ ns, n.fit) (hro : role.size ≤ maxLen) (hv : SlAt w w.heap.size v ns) :
    Calls Try.prog 20 #[v, .string role] w fun e w' => e = .returned (.bool (talksV ns role)) ∧ Below w.heap.size w w' := by
  have HV := hide hv
  have HF := hide fit
  have hlm := hv.lenm
  unfold maxLen at hro
  obtain ⟨ao, cap, rfl, hc, hm, hr⟩ := hv
  obtain ⟨rb, hrb⟩ : ∃ rb, rightB false ns = rb := ⟨_, rfl⟩
  have HRB := hide hrb
  clear hr fit hrb
  by_cases h400 : ns.length ≤ 400
  · by_cases h8 : role.size ≤ 8000
    · cases rb
      · have HE : Hid (talksV ns role = false) := hide (by rw [talksV, rolesV, HRB.out]; rfl)
        go_enter Try.func20, Try.ntmps20
        go_wp2_with (go_at_call 10; refine (s_planRight ns _ _ HF.out HV.out).mono ?_; rintro e w1 ⟨rfl, hb1⟩; rw [HRB.out]; have HB1 := hide hb1; clear hb1)
        go_ret
        exact ⟨ret_bool HE.out, HB1.out⟩
      · have HE : Hid (talksV ns role = hasB (rolesS ns) role) := hide (by rw [talksV, rolesV, HRB.out]; rfl)
        have HLE := hide (right_len HRB.out)
        have HL4 := hide (right_roles HRB.out)
        go_enter Try.func20, Try.ntmps20
        go_wp2_with (first | (go_at_call 10; refine (s_planRight ns _ _ HF.out HV.out).mono ?_; rintro e w1 ⟨rfl, hb1⟩; rw [HRB.out]; have HB1 := hide hb1; clear hb1) | (go_at_call 37; refine (s_roles ns _ _ ((HV.out.carry HB1.out).up HB1.out.size) HLE.out).mono ?_; rintro e w2 ⟨v2, rfl, hs2, hb2⟩; have HS2 := hide hs2; have HB2 := hide hb2; clear hs2 hb2) | (go_at_call 41; refine (s_among (rolesS ns) role _ _ (HS2.out.texts (by have := HL4.out; omega))).mono ?_; rintro e w3 ⟨rfl, rfl⟩))
        go_ret
        exact ⟨ret_bool HE.out, HB1.out.trans (HB2.out.mono HB1.out.size)⟩
    · have HE : Hid (talksV ns role = false) := hide (talks_long (by omega))
      go_enter Try.func20, Try.ntmps20
      go_wp2_with fail
      go_ret
      exact ⟨ret_bool HE.out, Below.refl _ _⟩
  · have HE : Hid (talksV ns role = false) := hide (by
      cases rb
      · rw [talksV, rolesV, HRB.out]; rfl
      · have := right_len HRB.out; omega)
    go_enter Try.func20, Try.ntmps20
    go_wp2_with fail
    go_ret
    exact ⟨ret_bool HE.out, Below.refl _ _⟩
end Go.Proofs.Ytdaljjpbfogniaa
