/- How reading goes on: as long as nothing was wrong, by what has been read; else no machine can be read. -/
import Derived.Test.YtalipbmpcgillaaRdI
import Derived.Test.YtalipbmpcgillaaRdM
namespace Go.Proofs.Ytalipbmpcgillaa
open Go.RowKit

theorem getT_at (t : ByteArray) (a : Int) : 0 ≤ (getT t a).2.1 ∧ (getT t a).2.1 ≤ 8000 := by
  unfold getT
  have h := getN_facts t a
  split
  · simp
  · split
    · simp
    · split
      · simp
      · simp only; omega
theorem numI_at {t : ByteArray} {a c : Int} (h : 0 ≤ a ∧ a ≤ 8000) : 0 ≤ (numI t a c).2.1 ∧ (numI t a c).2.1 ≤ 8000 := by
  unfold numI
  split
  · have := getN_at t a; omega
  · exact h
theorem wordI_at {t : ByteArray} {a c : Int} (h : 0 ≤ a ∧ a ≤ 8000) : 0 ≤ (wordI t a c).2.1 ∧ (wordI t a c).2.1 ≤ 8000 := by
  unfold wordI
  split
  · exact getT_at t a
  · exact h
theorem cntI_at {t : ByteArray} {a c most : Int} (h : 0 ≤ a ∧ a ≤ 8000) : 0 ≤ (cntI t a c most).2.1 ∧ (cntI t a c most).2.1 ≤ 8000 := by
  unfold cntI
  split
  · exact numI_at h
  · exact numI_at h
theorem numI_good {t : ByteArray} {a c : Int} (h : (numI t a c).2.2 = 0) : c = 0 ∧ gN t a = some ((numI t a c).1, (numI t a c).2.1) := by
  unfold numI at h ⊢
  split at h
  · rename_i hc
    rw [if_pos hc]
    exact ⟨hc, by rw [gN, if_pos h]⟩
  · rename_i hc; exact absurd h hc
theorem numI_bad {t : ByteArray} {a : Int} (h : (numI t a 0).2.2 ≠ 0) : gN t a = none ∧ (numI t a 0).1 = 0 := by
  have hf := getN_facts t a
  unfold numI at h ⊢
  rw [if_pos rfl] at h ⊢
  exact ⟨by rw [gN, if_neg h], by omega⟩
theorem wordI_good {t : ByteArray} {a c : Int} (h : (wordI t a c).2.2 = 0) : c = 0 ∧ gT t a = some ((wordI t a c).1, (wordI t a c).2.1) := by
  unfold wordI at h ⊢
  split at h
  · rename_i hc
    rw [if_pos hc]
    exact ⟨hc, by rw [gT, if_pos h]⟩
  · rename_i hc; exact absurd h hc
theorem wordI_bad {t : ByteArray} {a : Int} (h : (wordI t a 0).2.2 ≠ 0) : gT t a = none := by
  unfold wordI at h
  rw [if_pos rfl] at h
  rw [gT, if_neg h]
theorem numI_on {t : ByteArray} {a c : Int} (h : c ≠ 0) : numI t a c = (0, a, c) := by rw [numI, if_neg h]
theorem wordI_on {t : ByteArray} {a c : Int} (h : c ≠ 0) : wordI t a c = (⟨#[]⟩, a, c) := by rw [wordI, if_neg h]
theorem cntI_on {t : ByteArray} {a c most : Int} (h : c ≠ 0) (hm : 0 ≤ most) : cntI t a c most = (0, a, c) := by
  unfold cntI
  rw [numI_on h, if_neg (by simp only; omega)]
theorem cntI_good {t : ByteArray} {a c most : Int} (h : (cntI t a c most).2.2 = 0) : c = 0 ∧ (0 ≤ (cntI t a c most).1 ∧ (cntI t a c most).1 ≤ most) ∧ gCnt t a most = some ((cntI t a c most).1.toNat, (cntI t a c most).2.1) := by
  unfold cntI at h ⊢
  split at h
  · simp at h
  · rename_i hr
    rw [if_neg hr]
    obtain ⟨h1, h2⟩ := numI_good h
    refine ⟨h1, by omega, ?_⟩
    rw [gCnt, h2]
    simp only [Option.bind_some]
    rw [if_pos (by omega)]
theorem cntI_bad {t : ByteArray} {a most : Int} (h : (cntI t a 0 most).2.2 ≠ 0) : gCnt t a most = none ∧ (cntI t a 0 most).1 = 0 := by
  unfold cntI at h ⊢
  split at h
  · rename_i hr
    rw [if_pos hr]
    refine ⟨?_, rfl⟩
    by_cases hk : (numI t a 0).2.2 = 0
    · have h2 := (numI_good hk).2
      rw [gCnt, h2]
      simp only [Option.bind_some]
      rw [if_neg (by omega)]
    · rw [gCnt, (numI_bad hk).1]; rfl
  · rename_i hr
    rw [if_neg hr]
    obtain ⟨h1, h2⟩ := numI_bad h
    exact ⟨by rw [gCnt, h1]; rfl, h2⟩
theorem cntI_range {t : ByteArray} {a c most : Int} (hm : 0 ≤ most) : 0 ≤ (cntI t a c most).1 ∧ (cntI t a c most).1 ≤ most := by
  by_cases hc : c = 0
  · subst hc
    by_cases h : (cntI t a 0 most).2.2 = 0
    · exact (cntI_good h).2.1
    · rw [(cntI_bad h).2]; omega
  · rw [cntI_on hc hm]; simp only; omega

/- a state, an edge -/
def stI (t : ByteArray) (a c : Int) : RState × Int × Int := (⟨(numI t a c).1, (wordI t (numI t a c).2.1 (numI t a c).2.2).1⟩, (wordI t (numI t a c).2.1 (numI t a c).2.2).2)
theorem stI_good {t : ByteArray} {a c : Int} (h : (stI t a c).2.2 = 0) : c = 0 ∧ gSt1 t a = some ((stI t a c).1, (stI t a c).2.1) := by
  obtain ⟨h1, h2⟩ := wordI_good h
  obtain ⟨h3, h4⟩ := numI_good h1
  refine ⟨h3, ?_⟩
  rw [gSt1, h4]
  simp only [Option.bind_some]
  rw [h2]
  rfl
theorem stI_bad {t : ByteArray} {a : Int} (h : (stI t a 0).2.2 ≠ 0) : gSt1 t a = none := by
  by_cases h1 : (numI t a 0).2.2 = 0
  · have h2 := (numI_good h1).2
    have h' : (wordI t (numI t a 0).2.1 (numI t a 0).2.2).2.2 ≠ 0 := h
    rw [h1] at h'
    rw [gSt1, h2]
    simp only [Option.bind_some]
    rw [wordI_bad h']; rfl
  · rw [gSt1, (numI_bad h1).1]; rfl
theorem stI_on {t : ByteArray} {a c : Int} (h : c ≠ 0) : (stI t a c).2.2 ≠ 0 := by
  unfold stI
  rw [numI_on h, wordI_on h]
  exact h
def edI (t : ByteArray) (a c : Int) : REdge × Int × Int :=
  (⟨(numI t a c).1, (wordI t (numI t a c).2.1 (numI t a c).2.2).1,
    (numI t (wordI t (numI t a c).2.1 (numI t a c).2.2).2.1 (wordI t (numI t a c).2.1 (numI t a c).2.2).2.2).1,
    (numI t (numI t (wordI t (numI t a c).2.1 (numI t a c).2.2).2.1 (wordI t (numI t a c).2.1 (numI t a c).2.2).2.2).2.1 (numI t (wordI t (numI t a c).2.1 (numI t a c).2.2).2.1 (wordI t (numI t a c).2.1 (numI t a c).2.2).2.2).2.2).1⟩,
    (numI t (numI t (wordI t (numI t a c).2.1 (numI t a c).2.2).2.1 (wordI t (numI t a c).2.1 (numI t a c).2.2).2.2).2.1 (numI t (wordI t (numI t a c).2.1 (numI t a c).2.2).2.1 (wordI t (numI t a c).2.1 (numI t a c).2.2).2.2).2.2).2)
theorem edI_good {t : ByteArray} {a c : Int} (h : (edI t a c).2.2 = 0) : c = 0 ∧ gEd1 t a = some ((edI t a c).1, (edI t a c).2.1) := by
  obtain ⟨h1, h2⟩ := numI_good h
  obtain ⟨h3, h4⟩ := numI_good h1
  obtain ⟨h5, h6⟩ := wordI_good h3
  obtain ⟨h7, h8⟩ := numI_good h5
  refine ⟨h7, ?_⟩
  rw [gEd1, h8]
  simp only [Option.bind_some]
  rw [h6]
  simp only [Option.bind_some]
  rw [h4]
  simp only [Option.bind_some]
  rw [h2]
  rfl
theorem edI_bad {t : ByteArray} {a : Int} (h : (edI t a 0).2.2 ≠ 0) : gEd1 t a = none := by
  by_cases h1 : (numI t a 0).2.2 = 0
  · have g1 := (numI_good h1).2
    rw [gEd1, g1]
    simp only [Option.bind_some]
    by_cases h2 : (wordI t (numI t a 0).2.1 (numI t a 0).2.2).2.2 = 0
    · have g2 := (wordI_good h2).2
      rw [g2]
      simp only [Option.bind_some]
      by_cases h3 : (numI t (wordI t (numI t a 0).2.1 (numI t a 0).2.2).2.1 (wordI t (numI t a 0).2.1 (numI t a 0).2.2).2.2).2.2 = 0
      · have g3 := (numI_good h3).2
        rw [g3]
        simp only [Option.bind_some]
        have h' : (numI t (numI t (wordI t (numI t a 0).2.1 (numI t a 0).2.2).2.1 (wordI t (numI t a 0).2.1 (numI t a 0).2.2).2.2).2.1 (numI t (wordI t (numI t a 0).2.1 (numI t a 0).2.2).2.1 (wordI t (numI t a 0).2.1 (numI t a 0).2.2).2.2).2.2).2.2 ≠ 0 := h
        rw [h3] at h'
        rw [(numI_bad h').1]; rfl
      · rw [h2] at h3
        rw [(numI_bad h3).1]; rfl
    · rw [h1] at h2
      rw [show numI t a 0 = ((numI t a 0).1, (numI t a 0).2.1, (numI t a 0).2.2) from rfl] at *
      rw [wordI_bad h2]; rfl
  · rw [gEd1, (numI_bad h1).1]; rfl
theorem edI_on {t : ByteArray} {a c : Int} (h : c ≠ 0) : (edI t a c).2.2 ≠ 0 := by
  unfold edI
  rw [numI_on h, wordI_on h, numI_on h, numI_on h]
  exact h
theorem stI_at {t : ByteArray} {a c : Int} (h : 0 ≤ a ∧ a ≤ 8000) : 0 ≤ (stI t a c).2.1 ∧ (stI t a c).2.1 ≤ 8000 := wordI_at (numI_at h)
theorem edI_at {t : ByteArray} {a c : Int} (h : 0 ≤ a ∧ a ≤ 8000) : 0 ≤ (edI t a c).2.1 ∧ (edI t a c).2.1 ≤ 8000 := numI_at (numI_at (wordI_at (numI_at h)))

/- where the loops stand -/
def Rd1 (t : ByteArray) (n : Nat) (a1 : Int) (k : Nat) (l : List RState) (a c : Int) : Prop :=
  (c = 0 ∧ gCnt t 0 40 = some (n, a1) ∧ gRow (gSt1 t) a1 k = some (l, a)) ∨ (c ≠ 0 ∧ gMach t = none)
theorem rd1_start {t : ByteArray} : Rd1 t (cntI t 0 0 40).1.toNat (cntI t 0 0 40).2.1 0 [] (cntI t 0 0 40).2.1 (cntI t 0 0 40).2.2 := by
  by_cases h : (cntI t 0 0 40).2.2 = 0
  · exact .inl ⟨h, (cntI_good h).2.2, rfl⟩
  · refine .inr ⟨h, ?_⟩
    rw [gMach, (cntI_bad h).1]; rfl
theorem rd1_step {t : ByteArray} {n : Nat} {a1 a c : Int} {k : Nat} {l : List RState} (h : Rd1 t n a1 k l a c) (hk : k < n) : Rd1 t n a1 (k + 1) (l ++ [(stI t a c).1]) (stI t a c).2.1 (stI t a c).2.2 := by
  rcases h with ⟨rfl, h1, h2⟩ | ⟨h1, h2⟩
  · by_cases hc : (stI t a 0).2.2 = 0
    · have h3 := (stI_good hc).2
      exact .inl ⟨hc, h1, by rw [gRow, h2]; simp only [Option.bind_some]; rw [h3]; rfl⟩
    · have h3 := stI_bad hc
      have h4 : gRow (gSt1 t) a1 (k + 1) = none := by rw [gRow, h2]; simp only [Option.bind_some]; rw [h3]; rfl
      have h5 := gRow_none h4 (n - (k + 1))
      rw [show k + 1 + (n - (k + 1)) = n by omega] at h5
      refine .inr ⟨hc, ?_⟩
      rw [gMach, h1]
      simp only [Option.bind_some]
      rw [h5]; rfl
  · exact .inr ⟨stI_on h1, h2⟩
def Rd2 (t : ByteArray) (ls : List RState) (n : Nat) (a3 : Int) (k : Nat) (le : List REdge) (a c : Int) : Prop :=
  (c = 0 ∧ ∃ n1 a1 a2, gCnt t 0 40 = some (n1, a1) ∧ gRow (gSt1 t) a1 n1 = some (ls, a2) ∧ gCnt t a2 80 = some (n, a3) ∧ gRow (gEd1 t) a3 k = some (le, a)) ∨ (c ≠ 0 ∧ gMach t = none)
theorem rd2_start {t : ByteArray} {n : Nat} {a1 a c : Int} {l : List RState} (h : Rd1 t n a1 n l a c) : Rd2 t l (cntI t a c 80).1.toNat (cntI t a c 80).2.1 0 [] (cntI t a c 80).2.1 (cntI t a c 80).2.2 := by
  rcases h with ⟨rfl, h1, h2⟩ | ⟨h1, h2⟩
  · by_cases hc : (cntI t a 0 80).2.2 = 0
    · exact .inl ⟨hc, n, a1, a, h1, h2, (cntI_good hc).2.2, rfl⟩
    · refine .inr ⟨hc, ?_⟩
      rw [gMach, h1]
      simp only [Option.bind_some]
      rw [h2]
      simp only [Option.bind_some]
      rw [(cntI_bad hc).1]; rfl
  · rw [cntI_on h1 (by omega)]
    exact .inr ⟨h1, h2⟩
theorem rd2_step {t : ByteArray} {ls : List RState} {n : Nat} {a3 a c : Int} {k : Nat} {l : List REdge} (h : Rd2 t ls n a3 k l a c) (hk : k < n) : Rd2 t ls n a3 (k + 1) (l ++ [(edI t a c).1]) (edI t a c).2.1 (edI t a c).2.2 := by
  rcases h with ⟨rfl, n1, a1, a2, h1, h2, h3, h4⟩ | ⟨h1, h2⟩
  · by_cases hc : (edI t a 0).2.2 = 0
    · have h5 := (edI_good hc).2
      exact .inl ⟨hc, n1, a1, a2, h1, h2, h3, by rw [gRow, h4]; simp only [Option.bind_some]; rw [h5]; rfl⟩
    · have h5 := edI_bad hc
      have h6 : gRow (gEd1 t) a3 (k + 1) = none := by rw [gRow, h4]; simp only [Option.bind_some]; rw [h5]; rfl
      have h7 := gRow_none h6 (n - (k + 1))
      rw [show k + 1 + (n - (k + 1)) = n by omega] at h7
      refine .inr ⟨hc, ?_⟩
      rw [gMach, h1]
      simp only [Option.bind_some]
      rw [h2]
      simp only [Option.bind_some]
      rw [h3]
      simp only [Option.bind_some]
      rw [h7]; rfl
  · exact .inr ⟨edI_on h1, h2⟩
def Rd3 (t : ByteArray) (m : Mach) (a c : Int) : Prop := (c = 0 ∧ gMach t = some (m, a)) ∨ (c ≠ 0 ∧ gMach t = none)
theorem rd3_end {t : ByteArray} {ls : List RState} {n : Nat} {a3 a c : Int} {l : List REdge} (h : Rd2 t ls n a3 n l a c) : Rd3 t ⟨ls, l, (numI t a c).1⟩ (numI t a c).2.1 (numI t a c).2.2 := by
  rcases h with ⟨rfl, n1, a1, a2, h1, h2, h3, h4⟩ | ⟨h1, h2⟩
  · by_cases hc : (numI t a 0).2.2 = 0
    · refine .inl ⟨hc, ?_⟩
      rw [gMach, h1]
      simp only [Option.bind_some]
      rw [h2]
      simp only [Option.bind_some]
      rw [h3]
      simp only [Option.bind_some]
      rw [h4]
      simp only [Option.bind_some]
      rw [(numI_good hc).2]; rfl
    · refine .inr ⟨hc, ?_⟩
      rw [gMach, h1]
      simp only [Option.bind_some]
      rw [h2]
      simp only [Option.bind_some]
      rw [h3]
      simp only [Option.bind_some]
      rw [h4]
      simp only [Option.bind_some]
      rw [(numI_bad hc).1]; rfl
  · rw [numI_on h1]
    exact .inr ⟨h1, h2⟩
end Go.Proofs.Ytalipbmpcgillaa
