/- Sound: what both answer. -/
import Derived.Test.YtehodjfgojcnlaaGreatQSound26
import Derived.Test.YtehodjfgojcnlaaGreatTalksM
namespace Go.Proofs.YtehodjfgojcnlaaGreat
open Go.RowKit

def sndP (p : Pn 10) (rs : List ByteArray) : Bool := rs.all (fun r => (partN r 10 p).isSome)
/-- what Sound tells -/
def Snd (ns : List Nd) (q : Bool) : Prop := (rightB false ns = false ∧ q = false) ∨ (rightB false ns = true ∧ ∃ p : Pn 10, ns = rowN 10 p ∧ planN 10 p ∧ ns.length ≤ 40 ∧ q = sndP p (rolesS ns))
theorem snd_ex (ns : List Nd) : ∃ q, Snd ns q := by
  cases hr : rightB false ns with
  | false => exact ⟨false, .inl ⟨hr, rfl⟩⟩
  | true =>
    obtain ⟨ha, h40⟩ := plan_ahead hr
    obtain ⟨p, e, hp⟩ := parse 10 [] ns [] ha
    rw [List.append_nil] at e
    exact ⟨_, .inr ⟨hr, p, e, hp, h40, rfl⟩⟩
theorem snd_no {p : Pn 10} {rs : List ByteArray} {k : Nat} (hk : k < rs.length) (h : (partN rs[k] 10 p).isSome = false) : sndP p rs = false := by
  unfold sndP
  rw [List.all_eq_false]
  exact ⟨rs[k], List.getElem_mem hk, by rw [h]; simp⟩
theorem snd_all {p : Pn 10} {rs : List ByteArray} (h : ∀ j (hj : j < rs.length), (partN rs[j] 10 p).isSome = true) : sndP p rs = true := by
  unfold sndP
  rw [List.all_eq_true]
  intro x hx
  obtain ⟨j, hj, rfl⟩ := List.getElem_of_mem hx
  exact h j hj
theorem role_name {ns : List Nd} (h : rightB false ns = true) {t : ByteArray} (ht : t ∈ rolesS ns) : nameB t = true ∧ t.size ≤ 20 := by
  have hw := role_word h t ht
  refine ⟨?_, word_len hw⟩
  simp only [wordB, Bool.and_eq_true] at hw
  first | exact hw.1 | exact hw.2
end Go.Proofs.YtehodjfgojcnlaaGreat
