/- Numbers read from bytes: the plain part. -/
import Derived.Test.YtalipbmpcgillaaBNum
namespace Go.Proofs.Ytalipbmpcgillaa
open Go.RowKit

def bAt (s : ByteArray) (i : Nat) : Nat := if h : i < s.size then s[i].toNat else 0
theorem bAt_lt {s : ByteArray} {i : Nat} (h : i < s.size) : bAt s i = s[i].toNat := by simp [bAt, h]
theorem bAt_256 (s : ByteArray) (i : Nat) : bAt s i < 256 := by
  unfold bAt; split
  · exact UInt8.toNat_lt _
  · omega
/-- What the first k bytes from place a on add up to. -/
def uTo (s : ByteArray) (a : Nat) : Nat → Nat
  | 0 => 0
  | k + 1 => uTo s a k + bAt s (a + k) % 128 * 128 ^ k
theorem uTo_lt (s : ByteArray) (a : Nat) : ∀ k, uTo s a k < 128 ^ k
  | 0 => by simp [uTo]
  | k + 1 => by
    have ih := uTo_lt s a k
    have hm : bAt s (a + k) % 128 ≤ 127 := by omega
    have := Nat.mul_le_mul_right (128 ^ k) hm
    rw [uTo, Nat.pow_succ]
    omega
def unfoldZ (u : Nat) : Int := if u % 2 = 1 then -((u / 2 : Nat) : Int) - 1 else ((u / 2 : Nat) : Int)

def getR (s : ByteArray) (a : Nat) : Nat → Nat → Int × Int × Int
  | 0, _ => (0, 0, 3)
  | f + 1, k =>
    if s.size ≤ a + k then (0, 0, 4)
    else if k = 9 ∧ 1 < bAt s (a + k) then (0, 0, 3)
    else if bAt s (a + k) < 128 then (if bAt s (a + k) = 0 ∧ 0 < k then (0, 0, 3) else (unfoldZ (uTo s a (k + 1)), ((a + k + 1 : Nat) : Int), 0))
    else getR s a f (k + 1)
def getN (s : ByteArray) (at0 : Int) : Int × Int × Int := if 8000 < s.size then (0, 0, 2) else if at0 < 0 then (0, 0, 1) else getR s at0.toNat 10 0

theorem getR_short {s : ByteArray} {a f k : Nat} (h : s.size ≤ a + k) : getR s a (f + 1) k = (0, 0, 4) := by
  rw [getR, if_pos h]
theorem getR_big {s : ByteArray} {a f k : Nat} (h : ¬ s.size ≤ a + k) (h9 : k = 9) (hb : 1 < bAt s (a + k)) : getR s a (f + 1) k = (0, 0, 3) := by
  rw [getR, if_neg h, if_pos ⟨h9, hb⟩]
theorem getR_last {s : ByteArray} {a f k : Nat} (h : ¬ s.size ≤ a + k) (h9 : ¬ (k = 9 ∧ 1 < bAt s (a + k))) (hb : bAt s (a + k) < 128) :
    getR s a (f + 1) k = if bAt s (a + k) = 0 ∧ 0 < k then (0, 0, 3) else (unfoldZ (uTo s a (k + 1)), ((a + k + 1 : Nat) : Int), 0) := by
  rw [getR, if_neg h, if_neg h9, if_pos hb]
theorem getR_more {s : ByteArray} {a f k : Nat} (h : ¬ s.size ≤ a + k) (h9 : ¬ k = 9) (hb : ¬ bAt s (a + k) < 128) : getR s a (f + 1) k = getR s a f (k + 1) := by
  rw [getR, if_neg h, if_neg (fun x => h9 x.1), if_neg hb]

theorem pow7 (k : Nat) : (2 : Nat) ^ (7 * k) = 128 ^ k := by rw [Nat.pow_mul]

/-- A sum of digits up to the tenth, whose last is at most 1, fits in. -/
theorem uTo_u64 {s : ByteArray} {a k : Nat} (hk : k ≤ 9) (h9 : ¬ (k = 9 ∧ 1 < bAt s (a + k))) : U64 (uTo s a (k + 1)) := by
  by_cases e : k = 9
  · subst e
    have h := uTo_lt s a 9
    have hb : bAt s (a + 9) ≤ 1 := by omega
    have e9 : (128 : Nat) ^ 9 = 9223372036854775808 := by decide
    unfold U64
    rw [uTo]
    rw [e9] at h ⊢
    omega
  · have h := uTo_lt s a (k + 1)
    have : (128 : Nat) ^ (k + 1) ≤ 128 ^ 9 := Nat.pow_le_pow_right (by omega) (by omega)
    have e9 : (128 : Nat) ^ 9 = 9223372036854775808 := by decide
    unfold U64
    omega

/-- or of a sum below 128^k with a digit at place k: their sum. -/
theorem or_digit {U k d : Nat} (hU : U < 128 ^ k) (hu : U64 (U + d * 128 ^ k)) : bits .or .u64 (U : Int) ((d * 128 ^ k : Nat) : Int) = ((U + d * 128 ^ k : Nat) : Int) := by
  have h := hu.lt
  rw [bits_or_u64_nat U (d * 128 ^ k) (by omega) (by omega)]
  rw [← pow7] at *
  rw [Nat.or_comm, Nat.mul_comm d, ← Nat.two_pow_add_eq_or_of_lt hU d]
  congr 1
  omega
end Go.Proofs.Ytalipbmpcgillaa
