/- Texts read from bytes: the plain part, and readText, walked. -/
import Derived.Test.YtalipbmpcgillaaRRead
import Derived.Test.YtalipbmpcgillaaBText
namespace Go.Proofs.Ytalipbmpcgillaa
open Go.RowKit

theorem getR_facts (s : ByteArray) (a : Nat) : ∀ f k, ((getR s a f k).2.2 = 0 ∧ 1 ≤ (getR s a f k).2.1 ∧ (getR s a f k).2.1 ≤ (s.size : Int)) ∨ ((getR s a f k).1 = 0 ∧ (getR s a f k).2.1 = 0 ∧ 1 ≤ (getR s a f k).2.2 ∧ (getR s a f k).2.2 ≤ 4) := by
  intro f
  induction f with
  | zero => intro k; right; simp [getR]
  | succ f ih =>
    intro k
    unfold getR
    split
    · right; simp
    · split
      · right; simp
      · split
        · split
          · right; simp
          · left; refine ⟨rfl, ?_, ?_⟩ <;> simp <;> omega
        · exact ih (k + 1)
theorem getN_facts (s : ByteArray) (a : Int) : ((getN s a).2.2 = 0 ∧ 1 ≤ (getN s a).2.1 ∧ (getN s a).2.1 ≤ (s.size : Int) ∧ s.size ≤ 8000) ∨ ((getN s a).1 = 0 ∧ (getN s a).2.1 = 0 ∧ 1 ≤ (getN s a).2.2 ∧ (getN s a).2.2 ≤ 4) := by
  unfold getN
  split
  · right; simp
  · split
    · right; simp
    · rcases getR_facts s a.toNat 10 0 with h | h
      · left; exact ⟨h.1, h.2.1, h.2.2, by omega⟩
      · right; exact h

/-- What GetText tells: the text, the place, the code. -/
def getT (s : ByteArray) (a : Int) : ByteArray × Int × Int :=
  if (getN s a).2.2 ≠ 0 then (⟨#[]⟩, 0, (getN s a).2.2)
  else if (getN s a).1 < 0 ∨ 8000 < (getN s a).1 then (⟨#[]⟩, 0, 3)
  else if (s.size : Int) - (getN s a).2.1 < (getN s a).1 then (⟨#[]⟩, 0, 4)
  else (s.extract (getN s a).2.1.toNat ((getN s a).2.1.toNat + (getN s a).1.toNat), (getN s a).2.1 + (getN s a).1, 0)

theorem tup_ret {r : ByteArray × Int × Int} {x : ByteArray} {y z : Int} {v : Value} (h : r = (x, y, z)) (hv : v = errV z) : Ending.returned (.tuple #[.string x, .int .i64 y, v]) = .returned (.tuple #[.string r.1, .int .i64 r.2.1, errV r.2.2]) := by rw [h, hv]

set_option maxRecDepth 100000 in
set_option maxHeartbeats 2000000 in
theorem read_text (s : ByteArray) (a : Int) (w : World) (hs : s.size ≤ maxLen) (ha : a ≤ 9223372036854775807) :
    Calls Try.prog 148 #[.string s, .int .i64 a] w fun e w' => e = .returned (.tuple #[.string (getT s a).1, .int .i64 (getT s a).2.1, errV (getT s a).2.2]) ∧ Below w.heap.size w w' := by
  have HR : Hid (∀ w, Calls Try.prog 184 #[.string s, .int .i64 a] w fun e w' => e = .returned (.tuple #[.int .i64 (getN s a).1, .int .i64 (getN s a).2.1, errV (getN s a).2.2]) ∧ w' = w) := fun w => read_num s a w hs ha
  have hfa := getN_facts s a
  have HT : Hid (getT s a = if (getN s a).2.2 ≠ 0 then (⟨#[]⟩, 0, (getN s a).2.2) else if (getN s a).1 < 0 ∨ 8000 < (getN s a).1 then (⟨#[]⟩, 0, 3) else if (s.size : Int) - (getN s a).2.1 < (getN s a).1 then (⟨#[]⟩, 0, 4) else (s.extract (getN s a).2.1.toNat ((getN s a).2.1.toNat + (getN s a).1.toNat), (getN s a).2.1 + (getN s a).1, 0)) := rfl
  clear ha
  generalize (getN s a).1 = N at *
  generalize (getN s a).2.1 = B at *
  generalize (getN s a).2.2 = C at *
  unfold maxLen at hs
  rcases hfa with ⟨rfl, h1, h2, h8⟩ | ⟨rfl, rfl, h1, h4⟩
  · have HE : Hid (errV 0 = .nilIface) := if_pos rfl
    rw [HE.out] at HR
    by_cases hr : N < 0 ∨ 8000 < N
    · have HZ : Hid (getT s a = (⟨#[]⟩, 0, 3)) := by show _ = _; rw [HT.out, if_neg (by simp), if_pos hr]
      clear HT
      have hcase : (decide (N < 0) = true) ∨ (decide (N < 0) = false ∧ 8000 < N) := by
        rcases hr with h | h
        · exact .inl (decide_eq_true h)
        · exact .inr ⟨decide_eq_false (by omega), h⟩
      clear hr
      rcases hcase with g | ⟨g, g2⟩
      all_goals
        go_enter Try.func148, Try.ntmps148
        go_wp2_with (go_at_call 184; refine (HR.out _).mono ?_; rintro e w1 ⟨rfl, hw⟩; obtain rfl : w = w1 := hw.symm; clear hw)
        go_ret3
        exact ⟨tup_ret HZ.out (by rw [errV, if_neg (by omega)]; rfl), Below.refl _ _⟩
    · have n0 : 0 ≤ N := by omega
      have n8 : N ≤ 8000 := by omega
      by_cases hsh : (s.size : Int) - B < N
      · have HZ : Hid (getT s a = (⟨#[]⟩, 0, 4)) := by show _ = _; rw [HT.out, if_neg (by simp), if_neg hr, if_pos hsh]
        clear HT hr
        go_enter Try.func148, Try.ntmps148
        go_wp2_with (go_at_call 184; refine (HR.out _).mono ?_; rintro e w1 ⟨rfl, hw⟩; obtain rfl : w = w1 := hw.symm; clear hw)
        go_ret3
        exact ⟨tup_ret HZ.out (by rw [errV, if_neg (by omega)]; rfl), Below.refl _ _⟩
      · obtain ⟨b, rfl⟩ := Int.eq_ofNat_of_zero_le (show 0 ≤ B by omega)
        obtain ⟨n, rfl⟩ := Int.eq_ofNat_of_zero_le n0
        have HZ : Hid (getT s a = (s.extract b (b + n), (b : Int) + (n : Int), 0)) := by show _ = _; rw [HT.out, if_neg (by simp), if_neg hr, if_neg hsh]; rfl
        have HX : Hid ((s.extract b (b + n)).size ≤ 1000000) := by show _ ≤ _; simp; omega
        clear HT hr
        go_enter Try.func148, Try.ntmps148
        go_wp2_with (go_at_call 184; refine (HR.out _).mono ?_; rintro e w1 ⟨rfl, hw⟩; obtain rfl : w = w1 := hw.symm; clear hw)
        refine (join1 (s.extract b (b + n)) _ _ _ (by simp) (by simp) HX.out).mono ?_
        rintro e w2 ⟨rfl, hb2⟩
        rw [join_one]
        have HB := hide hb2
        clear hb2
        go_wp2
        go_ret3
        exact ⟨tup_ret HZ.out HE.out.symm, ((Below.refl _ _).alloc (Nat.le_refl _) _).trans (HB.out.mono (by simp))⟩
  · have HZ : Hid (getT s a = (⟨#[]⟩, 0, C)) := by show _ = _; rw [HT.out, if_pos (by omega)]
    have HE : Hid (errV C = .iface 199 (.agg #[.int .i64 C])) := if_neg (by omega)
    rw [HE.out] at HR
    clear HT
    go_enter Try.func148, Try.ntmps148
    go_wp2_with (go_at_call 184; refine (HR.out _).mono ?_; rintro e w1 ⟨rfl, hw⟩; obtain rfl : w = w1 := hw.symm; clear hw)
    go_ret3
    exact ⟨tup_ret HZ.out HE.out.symm, Below.refl _ _⟩
end Go.Proofs.Ytalipbmpcgillaa
