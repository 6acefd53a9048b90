/- Numbers and texts come back from their bytes: the plain part. -/
import Derived.Test.YtonafcifolddjaaGreatDoorQB19
import Derived.Lib.Strings
namespace Go.Proofs.YtonafcifolddjaaGreatDoor
open Go.RowKit

theorem ba_ext {a b : ByteArray} (h : a.data.toList = b.data.toList) : a = b := by
  apply ByteArray.ext
  exact Array.toList_inj.1 h
theorem getR_run (s : ByteArray) (a : Nat) : ∀ j, j ≤ 9 → (∀ i, i < j → a + i < s.size ∧ 128 ≤ bAt s (a + i)) → getR s a 10 0 = getR s a (10 - j) j := by
  intro j
  induction j with
  | zero => intro _ _; rfl
  | succ j ih =>
    intro hj h
    rw [ih (by omega) (fun i hi => h i (by omega)), show 10 - j = (9 - j) + 1 from by omega]
    have := h j (by omega)
    rw [getR_more (by omega) (by omega) (by omega), show 9 - j = 10 - (j + 1) from by omega]

theorem bAt_list {s : ByteArray} {i : Nat} {b : UInt8} (h : s.data.toList[i]? = some b) : i < s.size ∧ bAt s i = b.toNat := by
  have hi : i < s.data.toList.length := by
    rcases Nat.lt_or_ge i s.data.toList.length with h' | h'
    · exact h'
    · rw [List.getElem?_eq_none h'] at h; cases h
  have hs : i < s.size := by rw [Lib.size_eq]; exact hi
  refine ⟨hs, ?_⟩
  rw [bAt_lt hs]
  rw [List.getElem?_eq_getElem hi] at h
  have e : s[i] = s.data.toList[i] := rfl
  rw [e, Option.some.inj h]

/-- The bytes of u lie in s from place a on: k that go on, and, where 'whole' says so, the last one. -/
structure Lies (s : ByteArray) (a u k : Nat) : Prop where
  k9 : k ≤ 9
  more : ∀ i, i < k → 128 ≤ u / 128 ^ i
  digs : ∀ i, i < k → s.data.toList[a + i]? = some (dig u i)
theorem Lies.byte {s : ByteArray} {a u k : Nat} (h : Lies s a u k) (i : Nat) (hi : i < k) : a + i < s.size ∧ bAt s (a + i) = u / 128 ^ i % 128 + 128 := by
  obtain ⟨h1, h2⟩ := bAt_list (h.digs i hi)
  refine ⟨h1, ?_⟩
  have := dig_toNat u i
  omega
theorem Lies.sum {s : ByteArray} {a u k : Nat} (h : Lies s a u k) : ∀ j, j ≤ k → uTo s a j = u % 128 ^ j
  | 0, _ => by simp [uTo, Nat.mod_one]
  | j + 1, hj => by
    rw [uTo, h.sum j (by omega), (h.byte j (by omega)).2, Nat.pow_succ, Nat.mod_mul]
    have e : (u / 128 ^ j % 128 + 128) % 128 = u / 128 ^ j % 128 := by omega
    rw [e, Nat.mul_comm (u / 128 ^ j % 128)]
theorem Lies.run {s : ByteArray} {a u k : Nat} (h : Lies s a u k) : getR s a 10 0 = getR s a (10 - k) k :=
  getR_run s a k h.k9 (fun i hi => by have := h.byte i hi; omega)
theorem Lies.short {s : ByteArray} {a u k : Nat} (h : Lies s a u k) (he : s.size ≤ a + k) : getR s a 10 0 = (0, 0, 4) := by
  rw [h.run, show 10 - k = (9 - k) + 1 from by have := h.k9; omega, getR_short he]
theorem Lies.whole {s : ByteArray} {a u k : Nat} (h : Lies s a u k) (hu : U64b u) (hl : u / 128 ^ k < 128) (hb : s.data.toList[a + k]? = some (lastB u k)) : getR s a 10 0 = (unfoldZ u, ((a + k + 1 : Nat) : Int), 0) := by
  obtain ⟨h1, h2⟩ := bAt_list hb
  have h3 := lastB_toNat hl
  have hv : bAt s (a + k) = u / 128 ^ k := by omega
  have h9 : ¬ (k = 9 ∧ 1 < bAt s (a + k)) := by
    rintro ⟨rfl, h⟩
    have := hu.lt
    have e9 : (128 : Nat) ^ 9 = 9223372036854775808 := by decide
    rw [hv, e9] at h
    omega
  have hz : ¬ (bAt s (a + k) = 0 ∧ 0 < k) := by
    rintro ⟨hz, hk⟩
    have hm := h.more (k - 1) (by omega)
    have e := div_pow_succ u (k - 1)
    rw [show k - 1 + 1 = k from by omega] at e
    omega
  have hs : uTo s a (k + 1) = u := by
    rw [uTo, h.sum k (Nat.le_refl _), hv, Nat.mod_eq_of_lt hl, Nat.mul_comm]
    exact Nat.mod_add_div u (128 ^ k)
  rw [h.run, show 10 - k = (9 - k) + 1 from by have := h.k9; omega, getR_last (by omega) h9 (by omega), if_neg hz, hs]

theorem unfold_fold {n : Int} : unfoldZ (foldN n) = n := by
  unfold unfoldZ foldN
  split <;> split <;> omega
/-- How many bytes go on. -/
theorem cnt_facts (u : Nat) (hu : U64b u) : ∃ k, k ≤ 9 ∧ (∀ i, i < k → 128 ≤ u / 128 ^ i) ∧ u / 128 ^ k < 128 ∧ putL u = putK u k := by
  have key : ∀ m, ∃ k, k ≤ m ∧ (∀ i, i < k → 128 ≤ u / 128 ^ i) ∧ (u / 128 ^ k < 128 ∨ k = m) := by
    intro m
    induction m with
    | zero => exact ⟨0, by omega, fun i hi => absurd hi (by omega), .inr rfl⟩
    | succ m ih =>
      obtain ⟨k, h1, h2, h3⟩ := ih
      by_cases h : u / 128 ^ k < 128
      · exact ⟨k, by omega, h2, .inl h⟩
      · have hk : k = m := by omega
        subst hk
        refine ⟨k + 1, by omega, fun i hi => ?_, .inr rfl⟩
        by_cases e : i = k
        · subst e; omega
        · exact h2 i (by omega)
  obtain ⟨k, h1, h2, h3⟩ := key 9
  have hl : u / 128 ^ k < 128 := by
    rcases h3 with h | rfl
    · exact h
    · exact div_pow_lt hu
  exact ⟨k, h1, h2, hl, putL_eq h1 h2 hl⟩

theorem lies_of {s : ByteArray} {pre post : List UInt8} {u k : Nat} (k9 : k ≤ 9) (hm : ∀ i, i < k → 128 ≤ u / 128 ^ i) (hs : s.data.toList = pre ++ (putK u k ++ post)) : Lies s pre.length u k := by
  refine ⟨k9, hm, fun i hi => ?_⟩
  rw [hs, List.getElem?_append_right (by omega), Nat.add_sub_cancel_left, List.getElem?_append_left (by rw [putK_length]; omega)]
  exact putK_lt hi
theorem num_back {n : Int} (h0 : -9223372036854775808 ≤ n) (h1 : n ≤ 9223372036854775807) {s : ByteArray} {pre post : List UInt8} (hs : s.data.toList = pre ++ (putL (foldN n) ++ post)) (hz : s.size ≤ 8000) :
    getN s (pre.length : Int) = (n, (pre.length : Int) + ((putL (foldN n)).length : Int), 0) := by
  have hu := foldN_u64 h0 h1
  obtain ⟨k, k9, hm, hl, e⟩ := cnt_facts _ hu
  rw [e] at hs
  have hL := lies_of k9 hm hs
  have hb : s.data.toList[pre.length + k]? = some (lastB (foldN n) k) := by
    rw [hs, List.getElem?_append_right (by omega), Nat.add_sub_cancel_left, List.getElem?_append_left (by rw [putK_length]; omega)]
    exact putK_last _ _
  rw [getN, if_neg (by omega), if_neg (by omega), Int.toNat_natCast, hL.whole hu hl hb, unfold_fold, e, putK_length]
  refine Prod.ext rfl (Prod.ext ?_ rfl)
  simp only
  omega
theorem num_cut {n : Int} (h0 : -9223372036854775808 ≤ n) (h1 : n ≤ 9223372036854775807) {s : ByteArray} (hs : s.data.toList = (putL (foldN n)).take ((putL (foldN n)).length - 1)) : getN s 0 = (0, 0, 4) := by
  have hu := foldN_u64 h0 h1
  obtain ⟨k, k9, hm, hl, e⟩ := cnt_facts _ hu
  rw [e, putK_length, Nat.add_sub_cancel] at hs
  have hz : s.size = k := by rw [Lib.size_eq, hs, List.length_take, putK_length]; omega
  have hL : Lies s 0 (foldN n) k := ⟨k9, hm, fun i hi => by rw [hs, Nat.zero_add, List.getElem?_take, if_pos hi]; exact putK_lt hi⟩
  rw [getN, if_neg (by omega), if_neg (by omega), Int.toNat_zero, hL.short (by omega)]

theorem text_data {u : ByteArray} (h : u.size ≤ 8000) : (textS u).data.toList = putL (foldN (u.size : Int)) ++ u.data.toList := by
  rw [textS_yes h, join_two]
  simp [ByteArray.data_append, putS]
theorem putS_data (n : Int) : (putS n).data.toList = putL (foldN n) := rfl
theorem text_back {u s : ByteArray} {pre : List UInt8} (h : u.size ≤ 8000) (hs : s.data.toList = pre ++ (textS u).data.toList) (hz : s.size ≤ 8000) : getT s (pre.length : Int) = (u, (s.size : Int), 0) := by
  rw [text_data h] at hs
  have hn := num_back (n := (u.size : Int)) (by omega) (by omega) hs hz
  have hsz : s.size = pre.length + (putL (foldN (u.size : Int))).length + u.size := by
    rw [Lib.size_eq, hs, List.length_append, List.length_append, ← Lib.size_eq]; omega
  rw [getT, hn]
  simp only
  rw [if_neg (by simp), if_neg (by omega), if_neg (by omega)]
  refine Prod.ext ?_ (Prod.ext ?_ rfl)
  · apply ba_ext
    rw [Lib.extract_data, hs]
    rw [show ((pre.length : Int) + ((putL (foldN (u.size : Int))).length : Int)).toNat = pre.length + (putL (foldN (u.size : Int))).length from by omega, Int.toNat_natCast, ← List.append_assoc, List.drop_left' (by simp), List.take_of_length_le (by rw [← Lib.size_eq]; omega)]
  · simp only; omega
theorem text_cut {u s : ByteArray} (h : u.size ≤ 8000) (hs : s.data.toList = (textS u).data.toList.take ((textS u).size - 1)) (hz : s.size ≤ 8000) : getT s 0 = (⟨#[]⟩, 0, 4) := by
  have hlen : (textS u).size = (putL (foldN (u.size : Int))).length + u.size := by rw [Lib.size_eq, text_data h, List.length_append, ← Lib.size_eq]
  rw [text_data h, hlen] at hs
  have hp := putL_length (foldN (u.size : Int))
  by_cases h0 : u.size = 0
  · have hd : u.data.toList = [] := List.eq_nil_of_length_eq_zero (by rw [← Lib.size_eq]; exact h0)
    rw [hd, List.append_nil, h0, Nat.add_zero] at hs
    have hn := num_cut (n := ((0 : Nat) : Int)) (by omega) (by omega) hs
    rw [getT, hn]
    simp
  · have hs2 : s.data.toList = [] ++ (putL (foldN (u.size : Int)) ++ u.data.toList.take (u.size - 1)) := by
      rw [hs, List.take_append, List.take_of_length_le (by omega), List.nil_append]
      congr 2
      omega
    have hn := num_back (n := (u.size : Int)) (by omega) (by omega) hs2 hz
    have hsz : s.size = (putL (foldN (u.size : Int))).length + (u.size - 1) := by
      rw [Lib.size_eq, hs2, List.nil_append, List.length_append, List.length_take, ← Lib.size_eq]; omega
    have hn' : getN s 0 = ((u.size : Int), ((putL (foldN (u.size : Int))).length : Int), 0) := by
      have e := hn
      simp only [List.length_nil] at e
      rw [show ((0 : Nat) : Int) = (0 : Int) from rfl, Int.zero_add] at e
      exact e
    rw [getT, hn']
    simp only
    rw [if_neg (by simp), if_neg (by omega), if_pos (by omega)]
end Go.Proofs.YtonafcifolddjaaGreatDoor
