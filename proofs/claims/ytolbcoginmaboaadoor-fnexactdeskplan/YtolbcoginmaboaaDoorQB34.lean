/- l02Text, a step: the Node at hand is of this kind. -/
import Derived.Test.YtolbcoginmaboaaDoorQB31
import Derived.Test.YtolbcoginmaboaaDoorQB32
import Derived.Test.YtolbcoginmaboaaDoorQB33
import Derived.Test.YtolbcoginmaboaaDoorQB23
namespace Go.Proofs.YtolbcoginmaboaaDoor
open Go.RowKit

theorem stext_calls (part : Bool) (f : Nat) : STextCalls part f := by
  induction f with
  | zero =>
    intro st all r pos a v w hlen hst ha hpos h40 hr hx
    subst ha
    have hpl : pos < all.length := by
      rcases Nat.lt_or_ge pos all.length with h | h
      · exact h
      · rw [List.drop_of_length_le h] at hr; cases hr
    cases hn : all[pos] with
    | mk op name peer many sort =>
      by_cases o0 : op = 0
      · subst o0; exact stext0 part 0 st all r pos v w hst hpl h40 many sort name peer hn hr hx
      · by_cases o1 : op = 1
        · subst o1; exact stext1 part 0 st all r pos v w hst hpl h40 many sort name peer hn hr hx
        · rw [drop_cons hpl, hn, ahead_t0 o0 o1] at hr; cases hr
  | succ f ih =>
    intro st all r pos a v w hlen hst ha hpos h40 hr hx
    subst ha
    have hpl : pos < all.length := by
      rcases Nat.lt_or_ge pos all.length with h | h
      · exact h
      · rw [List.drop_of_length_le h] at hr; cases hr
    cases hn : all[pos] with
    | mk op name peer many sort =>
      by_cases o0 : op = 0
      · subst o0; exact stext0 part (f + 1) st all r pos v w hst hpl h40 many sort name peer hn hr hx
      · by_cases o1 : op = 1
        · subst o1; exact stext1 part (f + 1) st all r pos v w hst hpl h40 many sort name peer hn hr hx
        · by_cases o2 : op = 2
          · subst o2; exact stext2 part f ih st all r pos v w hlen hst hpl h40 many sort name peer hn hr hx
          · by_cases o3 : op = 3
            · subst o3; exact stext3 part f ih st all r pos v w hlen hst hpl h40 many sort name peer hn hr hx
            · by_cases o5 : op = 5
              · subst o5; exact stext5 part f ih st all r pos v w hlen hst hpl h40 many sort name peer hn hr hx
              · by_cases o6 : op = 6
                · subst o6; exact stext6 part f ih st all r pos v w hlen hst hpl h40 many sort name peer hn hr hx
                · exfalso
                  rw [drop_cons hpl, hn, ahead_x o0 o1 o2 (by cases part <;> simp [talkS, o3, o5, o6])] at hr
                  cases hr
end Go.Proofs.YtolbcoginmaboaaDoor
/- Reading: how long its rows and texts get. -/
namespace Go.Proofs.YtolbcoginmaboaaDoor
open Go.RowKit

def mzB (ms : List ByteArray) : Prop := ∀ m ∈ ms, m.size ≤ 8000
def lzB (l : List Nd) : Prop := ∀ n ∈ l, n.name.size ≤ 8000 ∧ n.peer.size ≤ 8000
theorem mz_tail {ms : List ByteArray} (h : mzB ms) : mzB ms.tail := fun m hm => h m (List.mem_of_mem_tail hm)
theorem mz_sk {t : List UInt8} {ms ms' : List ByteArray} (h : mzB ms) (hs : skM t ms = some ms') : mzB ms' := fun m hm => h m (by rw [skM_some hs]; exact List.mem_cons_of_mem _ hm)
theorem mz_hd {ms : List ByteArray} (h : mzB ms) : (hdM ms).size ≤ 8000 := by
  cases ms with
  | nil => exact Nat.zero_le _
  | cons a ms => exact h a List.mem_cons_self
theorem noT_sz : noT.size ≤ 8000 := Nat.zero_le _
theorem lz_snoc {l : List Nd} (h : lzB l) {n : Nd} (h1 : n.name.size ≤ 8000) (h2 : n.peer.size ≤ 8000) : lzB (l ++ [n]) := fun x hx => by
  rcases List.mem_append.1 hx with hx | hx
  · exact h x hx
  · simp at hx; subst hx; exact ⟨h1, h2⟩
theorem lz_bump {l : List Nd} (h : lzB l) (i : Nat) : lzB (bump l i) := fun x hx => by
  obtain ⟨j, hj, rfl⟩ := List.getElem_of_mem hx
  have hj' : j < l.length := by rwa [bump_len] at hj
  rw [bump_get l i j hj']
  split
  · exact h l[j] (List.getElem_mem hj')
  · exact h l[j] (List.getElem_mem hj')
theorem start_sz {ms : List ByteArray} {l : List Nd} {op : List Nat} {s' : Rs} (hm : mzB ms) (hl : lzB l) (h : startS ms l op = .inr s') : mzB s'.ms ∧ lzB s'.l := by
  have key : ∀ ms2 n, mzB ms2 → n.name.size ≤ 8000 → n.peer.size ≤ 8000 → talkTo ms2 l op n = .inr s' → mzB s'.ms ∧ lzB s'.l := fun ms2 n h1 h2 h3 h4 => by
    unfold talkTo at h4
    split at h4
    · rename_i ms3 h5
      injection h4 with h4
      subst h4
      exact ⟨mz_sk h1 h5, lz_snoc hl h2 h3⟩
    · cases h4
  unfold startS at h
  split at h
  · injection h with h
    subst h
    exact ⟨mz_tail hm, lz_snoc hl noT_sz noT_sz⟩
  · split at h
    · rename_i ms2 h2
      split at h2
      · split at h
        · rename_i ms3 h3
          injection h with h
          subst h
          exact ⟨mz_sk (mz_tail (mz_sk (mz_tail hm) h2)) h3, lz_snoc hl (mz_hd (mz_sk (mz_tail hm) h2)) noT_sz⟩
        · cases h
      · cases h2
    · split at h
      · rename_i ms2 h2
        exact key _ _ (mz_tail (mz_sk (mz_tail hm) h2)) (mz_hd hm) (mz_hd (mz_sk (mz_tail hm) h2)) h
      · split at h
        · rename_i ms2 h2
          exact key _ _ (mz_sk (mz_tail hm) h2) noT_sz (mz_hd hm) h
        · split at h
          · rename_i ms2 h2
            exact key _ _ (mz_sk (mz_tail hm) h2) noT_sz (mz_hd hm) h
          · injection h with h
            subst h
            exact ⟨mz_tail hm, lz_snoc hl (mz_hd hm) noT_sz⟩
theorem label_sz {ms : List ByteArray} {l : List Nd} {op : List Nat} {s' : Rs} (hm : mzB ms) (hl : lzB l) (h : labelS ms l op = .inr s') : mzB s'.ms ∧ lzB s'.l := by
  unfold labelS at h
  split at h
  · rename_i ms2 h2
    split at h
    · rename_i ms3 h3
      split at h
      · rename_i ms4 h4
        injection h with h
        subst h
        exact ⟨mz_sk (mz_sk (mz_tail (mz_sk (mz_tail hm) h2)) h3) h4, lz_snoc (lz_bump hl _) (mz_hd hm) noT_sz⟩
      · cases h
    · cases h
  · cases h
/-- what holds of the reading all the way -/
structure RwP (s : Rs) : Prop where
  ok : OkR s
  l1 : s.l.length + measR s ≤ 30000
  l2 : s.op.length + measR s ≤ 30000
  mz : mzB s.ms
  lz : lzB s.l
  mn : ∀ n ∈ s.l, 0 ≤ n.many ∧ n.many + (measR s : Int) ≤ 30000
theorem next_len {k : Nat} {op : List Nat} {n : Nd} : (nextO k op n).length ≤ op.length + 1 := by
  unfold nextO
  split
  · omega
  · split
    · omega
    · split
      · omega
      · simp
theorem rwp_step {s s' : Rs} (h : RwP s) (hs : stepR s = .inr s') : RwP s' := by
  have hm := step_meas hs
  have hok := ok_step h.ok hs
  have h1 := h.l1
  have h2 := h.l2
  by_cases h0 : s.pos = 0
  · rw [step_start h0] at hs
    obtain ⟨n, hn0, -, hl, hp, ho, -⟩ := start_tok hs
    obtain ⟨z1, z2⟩ := start_sz h.mz h.lz hs
    refine ⟨hok, by rw [hl, List.length_append]; simp; omega, ?_, z1, z2, fun x hx => ?_⟩
    · have := next_len (k := s.l.length) (op := s.op) (n := n)
      rw [ho]
      omega
    · rw [hl] at hx
      rcases List.mem_append.1 hx with hx | hx
      · have := h.mn x hx; omega
      · simp at hx; subst hx; omega
  · by_cases h1' : s.pos = 1
    · rw [step_label h1'] at hs
      obtain ⟨n, -, hn0, hl, hp, ho, -⟩ := label_tok hs
      obtain ⟨z1, z2⟩ := label_sz h.mz h.lz hs
      refine ⟨hok, by rw [hl, List.length_append, bump_len]; simp; omega, by rw [ho]; omega, z1, z2, fun x hx => ?_⟩
      rw [hl] at hx
      rcases List.mem_append.1 hx with hx | hx
      · obtain ⟨j, hj, rfl⟩ := List.getElem_of_mem hx
        have hj' : j < s.l.length := by rwa [bump_len] at hj
        have := h.mn s.l[j] (List.getElem_mem hj')
        rw [bump_get s.l _ j hj']
        split
        · dsimp only; omega
        · omega
      · simp at hx; subst hx; omega
    · rw [step_behind h0 h1'] at hs
      obtain ⟨o, op', e, h' | h'⟩ := behind_inr hs
      · have hz : mzB s'.ms := fun m hm => h.mz m (by rw [h'.1]; exact List.mem_cons_of_mem _ hm)
        have e1 : s'.l = s.l := by rw [h'.2]
        have e2 : s'.op = s.op := by rw [h'.2]
        exact ⟨hok, by rw [e1]; omega, by rw [e2]; omega, hz, by rw [e1]; exact h.lz, fun x hx => by rw [e1] at hx; have := h.mn x hx; omega⟩
      · have hz : mzB s'.ms := fun m hm => h.mz m (by rw [h'.1]; exact List.mem_cons_of_mem _ hm)
        have e1 : s'.l = s.l := by rw [h'.2]
        have e2 : s'.op = op' := by rw [h'.2]
        have e3 : op'.length ≤ s.op.length := by rw [e]; simp
        exact ⟨hok, by rw [e1]; omega, by rw [e2]; omega, hz, by rw [e1]; exact h.lz, fun x hx => by rw [e1] at hx; have := h.mn x hx; omega⟩
end Go.Proofs.YtolbcoginmaboaaDoor
