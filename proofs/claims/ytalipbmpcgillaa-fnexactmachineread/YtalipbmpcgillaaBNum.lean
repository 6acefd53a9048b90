/- Numbers in bytes: the plain part: digits of seven bits, how many there are, the folded sign. -/
import Derived.Test.YtalipbmpcgillaaRows
import Derived.Test.YtalipbmpcgillaaBase
import Derived.WalkKit
import Derived.WalkSpells
import Derived.WalkLawsBesides
namespace Go.Proofs.Ytalipbmpcgillaa
open Go.RowKit

/-- A number that fits in 64 bits (kept behind a name). -/
def U64 (v : Nat) : Prop := v < 18446744073709551616
theorem U64.lt {v : Nat} (h : U64 v) : v < 18446744073709551616 := h

def dig (u i : Nat) : UInt8 := UInt8.ofNat (u / 128 ^ i % 128 + 128)
def lastB (u k : Nat) : UInt8 := UInt8.ofNat (u / 128 ^ k)
def cnt : Nat → Nat → Nat
  | 0, _ => 0
  | f + 1, u => if u < 128 then 0 else cnt f (u / 128) + 1
def putL (u : Nat) : List UInt8 := (List.range (cnt 9 u)).map (dig u) ++ [lastB u (cnt 9 u)]
def foldN (n : Int) : Nat := if n < 0 then (-2 * n - 1).toNat else (2 * n).toNat
def putS (n : Int) : ByteArray := ⟨(putL (foldN n)).toArray⟩

theorem div_pow_succ (u k : Nat) : u / 128 ^ (k + 1) = u / 128 ^ k / 128 := by
  rw [Nat.pow_succ, Nat.div_div_eq_div_mul]
theorem div_pow_succ' (u k : Nat) : u / 128 ^ (k + 1) = u / 128 / 128 ^ k := by
  rw [Nat.pow_succ, Nat.mul_comm, Nat.div_div_eq_div_mul]

theorem cnt_eq : ∀ (f u k : Nat), k ≤ f → (∀ i, i < k → 128 ≤ u / 128 ^ i) → (u / 128 ^ k < 128 ∨ k = f) → cnt f u = k := by
  intro f
  induction f with
  | zero => intro u k h _ _; simp [cnt]; omega
  | succ f ih =>
    intro u k hk h1 h2
    unfold cnt
    cases k with
    | zero =>
      have : u < 128 := by simpa using h2
      simp [this]
    | succ k =>
      have h0 := h1 0 (by omega)
      simp at h0
      rw [if_neg (by omega), ih (u / 128) k (by omega) (fun i hi => by rw [← div_pow_succ']; exact h1 (i + 1) (by omega)) (by rw [← div_pow_succ']; omega)]

theorem foldN_u64 {n : Int} (h0 : -9223372036854775808 ≤ n) (h1 : n ≤ 9223372036854775807) : U64 (foldN n) := by
  unfold U64 foldN; split <;> omega

theorem div_pow_lt {u : Nat} (h : U64 u) : u / 128 ^ 9 < 128 := by
  have := h.lt
  have e : (128 : Nat) ^ 9 = 9223372036854775808 := by decide
  rw [e]; omega

theorem U64.div {u : Nat} (h : U64 u) (k : Nat) : U64 (u / 128 ^ k) := Nat.lt_of_le_of_lt (Nat.div_le_self _ _) h

theorem and_127 (v : Nat) (h : U64 v) : bits .and .u64 (v : Int) 127 = ((v % 128 : Nat) : Int) := by
  rw [show (127 : Int) = ((127 : Nat) : Int) from rfl, bits_and_u64_nat v 127 h.lt (by decide)]
  rw [show v &&& 127 = v % 128 from Nat.and_two_pow_sub_one_eq_mod v 7]
theorem more_byte (v : Nat) (h : U64 v) : bits .or .u8 (bits .and .u64 (v : Int) 127 % 256) 128 = ((v % 128 + 128 : Nat) : Int) := by
  rw [and_127 v h, show ((v % 128 : Nat) : Int) % 256 = ((v % 128 : Nat) : Int) from by omega, u8_or128_right _ (by omega) (by omega)]
  omega
theorem not_u64 (x : Nat) (h : x < 18446744073709551616) : bits .xor .u64 IntKind.u64.max (x : Int) = 18446744073709551615 - (x : Int) := by
  have e : (BitVec.ofInt 64 IntKind.u64.max ^^^ BitVec.ofInt 64 (x : Int)) = ~~~ (BitVec.ofNat 64 x) := by
    rw [show BitVec.ofInt 64 IntKind.u64.max = BitVec.allOnes 64 from by decide]
    rw [show BitVec.ofInt 64 (x : Int) = BitVec.ofNat 64 x from by simp]
    exact BitVec.allOnes_xor
  show IntKind.u64.wrap ((BitVec.ofInt 64 IntKind.u64.max ^^^ BitVec.ofInt 64 (x : Int)).toNat : Nat) = _
  rw [e, BitVec.toNat_not, BitVec.toNat_ofNat, IntKind.wrap_u64]
  omega
theorem fold_neg {n : Int} (h : n < 0) (h0 : -9223372036854775808 ≤ n) :
    bits .xor .u64 IntKind.u64.max (IntKind.u64.wrap (IntKind.u64.wrap n * 2)) = (foldN n : Int) := by
  have e : IntKind.u64.wrap (IntKind.u64.wrap n * 2) = (((2 * n + 18446744073709551616).toNat : Nat) : Int) := by
    rw [IntKind.wrap_u64, IntKind.wrap_u64]; omega
  rw [e, not_u64 _ (by omega)]
  unfold foldN
  rw [if_pos h]; omega
theorem foldN_neg {n : Int} (h : n < 0) : (foldN n : Int) = 2 * -(n + 1) + 1 := by
  unfold foldN; rw [if_pos h]; omega
theorem foldN_pos {n : Int} (h : ¬ n < 0) : (foldN n : Int) = 2 * n := by
  unfold foldN; rw [if_neg h]; omega
theorem foldN_pos' {n : Int} (h : ¬ n < 0) : (foldN n : Int) = n * 2 := by
  rw [foldN_pos h]; omega

theorem dig_toNat (u i : Nat) : ((dig u i).toNat : Int) = ((u / 128 ^ i % 128 + 128 : Nat) : Int) := by
  unfold dig; rw [UInt8.toNat_ofNat']
  omega
theorem lastB_toNat {u k : Nat} (h : u / 128 ^ k < 128) : ((lastB u k).toNat : Int) = ((u / 128 ^ k : Nat) : Int) := by
  unfold lastB
  generalize u / 128 ^ k = v at *
  rw [UInt8.toNat_ofNat']
  omega

/-- The bytes with k digits that go on. -/
def putK (u k : Nat) : List UInt8 := (List.range k).map (dig u) ++ [lastB u k]
theorem putK_length (u k : Nat) : (putK u k).length = k + 1 := by simp [putK]
theorem putK_lt {u k i : Nat} (h : i < k) : (putK u k)[i]? = some (dig u i) := by
  unfold putK
  rw [List.getElem?_append_left (by simpa using h)]
  simp [h]
theorem putK_last (u k : Nat) : (putK u k)[k]? = some (lastB u k) := by
  unfold putK
  rw [List.getElem?_append_right (by simp)]
  simp
theorem putL_eq {u k : Nat} (hk : k ≤ 9) (h1 : ∀ i, i < k → 128 ≤ u / 128 ^ i) (h2 : u / 128 ^ k < 128) : putL u = putK u k := by
  unfold putL putK
  rw [cnt_eq 9 u k hk h1 (.inl h2)]
theorem putL_length (u : Nat) : 1 ≤ (putL u).length ∧ (putL u).length ≤ 10 := by
  have : ∀ f u, cnt f u ≤ f := by
    intro f
    induction f with
    | zero => intro u; simp [cnt]
    | succ f ih => intro u; unfold cnt; split; omega; have := ih (u / 128); omega
  have := this 9 u
  simp [putL]; omega
end Go.Proofs.Ytalipbmpcgillaa
