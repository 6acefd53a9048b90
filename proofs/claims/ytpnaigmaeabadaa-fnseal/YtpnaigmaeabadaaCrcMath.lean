/- The CRC as arithmetic: no two registers meet; a byte that is turned is seen; it goes on from text to text. -/
import Derived.Test.YtpnaigmaeabadaaSeal
namespace Go.Proofs.Ytpnaigmaeabadaa
open Go.RowKit

theorem xor_nat (a b : Nat) (ha : a < 4294967296) (hb : b < 4294967296) : bits .xor .u32 (a : Int) (b : Int) = ((a ^^^ b : Nat) : Int) := by
  have key : (BitVec.ofInt 32 (a : Int) ^^^ BitVec.ofInt 32 (b : Int)).toNat = a ^^^ b := by
    rw [BitVec.toNat_xor]
    simp
    rw [Nat.mod_eq_of_lt ha, Nat.mod_eq_of_lt hb]
  show IntKind.u32.wrap ((BitVec.ofInt 32 (a : Int) ^^^ BitVec.ofInt 32 (b : Int)).toNat : Nat) = _
  rw [key]
  have hx : a ^^^ b < 2 ^ 32 := Nat.xor_lt_two_pow ha hb
  simp [IntKind.wrap, IntKind.bits, IntKind.signed]
  omega
theorem and_one (a : Nat) (_ha : a < 4294967296) : bits .and .u32 (a : Int) 1 = ((a % 2 : Nat) : Int) := by
  have key : (BitVec.ofInt 32 (a : Int) &&& BitVec.ofInt 32 1).toNat = a % 2 := by
    rw [BitVec.toNat_and]
    simp
  show IntKind.u32.wrap ((BitVec.ofInt 32 (a : Int) &&& BitVec.ofInt 32 1).toNat : Nat) = _
  rw [key]
  simp [IntKind.wrap, IntKind.bits, IntKind.signed]
  omega
theorem xor_left {a b c : Nat} (h : a ^^^ b = a ^^^ c) : b = c := by
  have h2 : a ^^^ (a ^^^ b) = a ^^^ (a ^^^ c) := by rw [h]
  rwa [← Nat.xor_assoc, ← Nat.xor_assoc, Nat.xor_self, Nat.zero_xor, Nat.zero_xor] at h2
theorem xor_right {a b c : Nat} (h : b ^^^ a = c ^^^ a) : b = c := xor_left (a := a) (by rw [Nat.xor_comm a b, Nat.xor_comm a c]; exact h)

def stepN (y : Nat) : Nat := if y % 2 = 1 then (y / 2) ^^^ 3988292384 else y / 2
theorem stepN_lt {y : Nat} (h : y < 4294967296) : stepN y < 4294967296 := by
  unfold stepN; split
  · exact Nat.xor_lt_two_pow (n := 32) (by omega) (by omega)
  · omega
theorem step_nat {y : Nat} (h : y < 4294967296) : crcStep (y : Int) = (stepN y : Int) := by
  unfold crcStep stepN
  rw [and_one y h]
  by_cases h1 : y % 2 = 1
  · rw [if_pos (by rw [h1]; rfl), if_pos h1, show (y : Int) / 2 = ((y / 2 : Nat) : Int) from by omega, show (3988292384 : Int) = ((3988292384 : Nat) : Int) from rfl, xor_nat _ _ (by omega) (by omega)]
  · rw [if_neg (by rw [show y % 2 = 0 by omega]; decide), if_neg h1]; omega
theorem stepN_odd_even {y z : Nat} (hy : y < 4294967296) (hz : z < 4294967296) : (y / 2) ^^^ 3988292384 ≠ z / 2 := by
  intro h
  have h1 : ((y / 2) ^^^ 3988292384).testBit 31 = (z / 2).testBit 31 := by rw [h]
  rw [Nat.testBit_xor, Nat.testBit_lt_two_pow (x := y / 2) (by omega), Nat.testBit_lt_two_pow (x := z / 2) (by omega)] at h1
  revert h1
  decide
theorem stepN_inj {y z : Nat} (hy : y < 4294967296) (hz : z < 4294967296) (h : stepN y = stepN z) : y = z := by
  unfold stepN at h
  by_cases h1 : y % 2 = 1
  · by_cases h2 : z % 2 = 1
    · rw [if_pos h1, if_pos h2] at h
      have := xor_right h
      omega
    · rw [if_pos h1, if_neg h2] at h
      exact absurd h (stepN_odd_even hy hz)
  · by_cases h2 : z % 2 = 1
    · rw [if_neg h1, if_pos h2] at h
      exact absurd h.symm (stepN_odd_even hz hy)
    · rw [if_neg h1, if_neg h2] at h
      omega
def roundsN : Nat → Nat → Nat
  | 0, y => y
  | k + 1, y => stepN (roundsN k y)
theorem roundsN_lt {y : Nat} (h : y < 4294967296) : ∀ k, roundsN k y < 4294967296
  | 0 => h
  | k + 1 => stepN_lt (roundsN_lt h k)
theorem rounds_nat {y : Nat} (h : y < 4294967296) : ∀ k, crcRounds k (y : Int) = (roundsN k y : Int)
  | 0 => rfl
  | k + 1 => by rw [crcRounds, rounds_nat h k, step_nat (roundsN_lt h k)]; rfl
theorem roundsN_inj {y z : Nat} (hy : y < 4294967296) (hz : z < 4294967296) : ∀ k, roundsN k y = roundsN k z → y = z
  | 0, h => h
  | k + 1, h => roundsN_inj hy hz k (stepN_inj (roundsN_lt hy k) (roundsN_lt hz k) h)
def byteN (r b : Nat) : Nat := roundsN 8 (r ^^^ b)
theorem byteN_lt {r b : Nat} (hr : r < 4294967296) (hb : b < 256) : byteN r b < 4294967296 := roundsN_lt (Nat.xor_lt_two_pow (n := 32) hr (by omega)) 8
theorem byte_nat {r b : Nat} (hr : r < 4294967296) (hb : b < 256) : crcB (r : Int) (b : Int) = (byteN r b : Int) := by
  unfold crcB byteN
  rw [xor_nat r b hr (by omega), rounds_nat (Nat.xor_lt_two_pow (n := 32) hr (by omega))]
def runN (r : Nat) (l : List UInt8) : Nat := l.foldl (fun r c => byteN r c.toNat) r
theorem runN_lt {r : Nat} (hr : r < 4294967296) (l : List UInt8) : runN r l < 4294967296 := by
  induction l generalizing r with
  | nil => exact hr
  | cons c l ih => exact ih (byteN_lt hr (UInt8.toNat_lt c))
theorem run_nat {r : Nat} (hr : r < 4294967296) (l : List UInt8) : crcRun (r : Int) l = (runN r l : Int) := by
  induction l generalizing r with
  | nil => rfl
  | cons c l ih =>
    show crcRun (crcB (r : Int) (c.toNat : Int)) l = _
    rw [byte_nat hr (UInt8.toNat_lt c), ih (byteN_lt hr (UInt8.toNat_lt c))]
    rfl
theorem runN_inj {r q : Nat} (hr : r < 4294967296) (hq : q < 4294967296) (l : List UInt8) (h : runN r l = runN q l) : r = q := by
  induction l generalizing r q with
  | nil => exact h
  | cons c l ih =>
    have h1 := ih (byteN_lt hr (UInt8.toNat_lt c)) (byteN_lt hq (UInt8.toNat_lt c)) h
    have hc := UInt8.toNat_lt c
    exact xor_right (roundsN_inj (Nat.xor_lt_two_pow (n := 32) hr (by omega)) (Nat.xor_lt_two_pow (n := 32) hq (by omega)) 8 h1)
theorem runN_append (r : Nat) (a b : List UInt8) : runN r (a ++ b) = runN (runN r a) b := by simp [runN]
/-- A byte that is turned is seen. -/
theorem runN_turned {r : Nat} (hr : r < 4294967296) (a c : List UInt8) (x y : UInt8) (h : runN r (a ++ x :: c) = runN r (a ++ y :: c)) : x = y := by
  rw [runN_append, runN_append] at h
  have hx := UInt8.toNat_lt x
  have hy := UInt8.toNat_lt y
  have h1 := runN_inj (byteN_lt (runN_lt hr a) hx) (byteN_lt (runN_lt hr a) hy) c h
  have h2 := roundsN_inj (Nat.xor_lt_two_pow (n := 32) (runN_lt hr a) (by omega)) (Nat.xor_lt_two_pow (n := 32) (runN_lt hr a) (by omega)) 8 h1
  exact UInt8.toNat_inj.1 (xor_left h2)

/-- The CRC as a number. -/
def crcN (c : Nat) (l : List UInt8) : Nat := 4294967295 ^^^ runN (4294967295 ^^^ c) l
theorem crcOf_nat (c : Nat) (hc : c < 4294967296) (s : ByteArray) : crcOf (c : Int) s = (crcN c s.data.toList : Int) := by
  unfold crcOf crcTo crcN
  rw [take_all s s.size (Nat.le_refl _), show (4294967295 : Int) = ((4294967295 : Nat) : Int) from rfl, xor_nat _ _ (by omega) hc, run_nat (Nat.xor_lt_two_pow (n := 32) (by omega) hc), xor_nat _ _ (by omega) (runN_lt (Nat.xor_lt_two_pow (n := 32) (by omega) hc) _)]
theorem crcN_lt (c : Nat) (hc : c < 4294967296) (l : List UInt8) : crcN c l < 4294967296 := Nat.xor_lt_two_pow (n := 32) (by omega) (runN_lt (Nat.xor_lt_two_pow (n := 32) (by omega) hc) l)
theorem crcN_more (c : Nat) (a b : List UInt8) : crcN (crcN c a) b = crcN c (a ++ b) := by
  unfold crcN
  rw [← Nat.xor_assoc, Nat.xor_self, Nat.zero_xor, runN_append]
theorem crcN_turned (a c : List UInt8) (x y : UInt8) (h : crcN 0 (a ++ x :: c) = crcN 0 (a ++ y :: c)) : x = y :=
  runN_turned (Nat.xor_lt_two_pow (n := 32) (by omega) (by omega)) a c x y (xor_left h)
/-- The four bytes tell the number. -/
theorem fourL_inj {c d : Nat} (hc : c < 4294967296) (hd : d < 4294967296) (h : fourL (c : Int) = fourL (d : Int)) : c = d := by
  have e0 := congrArg (fun l : List UInt8 => (((l.getD 0 0).toNat : Nat) : Int)) h
  have e1 := congrArg (fun l : List UInt8 => (((l.getD 1 0).toNat : Nat) : Int)) h
  have e2 := congrArg (fun l : List UInt8 => (((l.getD 2 0).toNat : Nat) : Int)) h
  have e3 := congrArg (fun l : List UInt8 => (((l.getD 3 0).toNat : Nat) : Int)) h
  simp only [fourL, List.getD_cons_zero, List.getD_cons_succ, byteOf_toNat] at e0 e1 e2 e3
  simp at e0 e1 e2 e3
  omega
end Go.Proofs.Ytpnaigmaeabadaa
