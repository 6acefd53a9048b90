/- Crc, CrcMore: the register's steps, both functions, both laws, walked. -/
import Derived.Test.YtonafcifolddjaaGreatDoorRows
import Derived.Test.YtonafcifolddjaaGreatDoorQB00
namespace Go.Proofs.YtonafcifolddjaaGreatDoor
open Go.RowKit

theorem xor_swap (a b : Int) : bits .xor .u32 a b = bits .xor .u32 b a := by
  unfold bits
  simp only [BitVec.xor_comm]

def crcStep (y : Int) : Int := if bits .and .u32 y 1 == 1 then bits .xor .u32 (y / 2) 3988292384 else y / 2
def crcRounds : Nat → Int → Int
  | 0, y => y
  | k + 1, y => crcStep (crcRounds k y)
def crcB (r b : Int) : Int := crcRounds 8 (bits .xor .u32 r b)
def crcRun (r : Int) (l : List UInt8) : Int := l.foldl (fun r c => crcB r (c.toNat : Int)) r

theorem xor_lo (a b : Int) : 0 ≤ bits .xor .u32 a b := bits_lo_u32 _ _ _
theorem xor_hi (a b : Int) : bits .xor .u32 a b < 4294967296 := by have := bits_hi_u32 .xor a b; omega
theorem crcStep_range {y : Int} (h0 : 0 ≤ y) (h1 : y < 4294967296) : 0 ≤ crcStep y ∧ crcStep y < 4294967296 := by
  unfold crcStep
  split
  · exact ⟨xor_lo _ _, xor_hi _ _⟩
  · omega
theorem crcRounds_range {y : Int} (h0 : 0 ≤ y) (h1 : y < 4294967296) (k : Nat) : 0 ≤ crcRounds k y ∧ crcRounds k y < 4294967296 := by
  induction k with
  | zero => exact ⟨h0, h1⟩
  | succ k ih => exact crcStep_range ih.1 ih.2
theorem crcB_range (r b : Int) : 0 ≤ crcB r b ∧ crcB r b < 4294967296 := crcRounds_range (xor_lo _ _) (xor_hi _ _) 8
theorem crcRun_range {r : Int} (h0 : 0 ≤ r) (h1 : r < 4294967296) (l : List UInt8) : 0 ≤ crcRun r l ∧ crcRun r l < 4294967296 := by
  induction l generalizing r with
  | nil => exact ⟨h0, h1⟩
  | cons c l ih => exact ih (crcB_range _ _).1 (crcB_range _ _).2
theorem crcRun_snoc (r : Int) (l : List UInt8) (c : UInt8) : crcRun r (l ++ [c]) = crcB (crcRun r l) (c.toNat : Int) := by
  simp [crcRun]
theorem take_snoc (s : ByteArray) (k : Nat) (h : k < s.size) : s.data.toList.take (k + 1) = s.data.toList.take k ++ [s[k]] := by
  rw [List.take_succ_eq_append_getElem (by simpa using h)]; rfl
theorem take_all (s : ByteArray) (k : Nat) (h : s.size ≤ k) : s.data.toList.take k = s.data.toList := List.take_of_length_le (by simpa using h)
/-- The register behind the first k bytes. -/
def crcTo (r : Int) (s : ByteArray) (k : Nat) : Int := crcRun r (s.data.toList.take k)
theorem crcTo_zero (r : Int) (s : ByteArray) : crcTo r s 0 = r := rfl
theorem crcTo_succ (r : Int) (s : ByteArray) (k : Nat) (h : k < s.size) : crcTo r s (k + 1) = crcB (crcTo r s k) (s[k].toNat : Int) := by
  rw [crcTo, take_snoc s k h, crcRun_snoc]; rfl
theorem crcTo_range {r : Int} (h0 : 0 ≤ r) (h1 : r < 4294967296) (s : ByteArray) (k : Nat) : 0 ≤ crcTo r s k ∧ crcTo r s k < 4294967296 := crcRun_range h0 h1 _
/-- The CRC that goes on with crc. -/
def crcOf (crc : Int) (s : ByteArray) : Int := bits .xor .u32 4294967295 (crcTo (bits .xor .u32 4294967295 crc) s s.size)
theorem crcOf_range (crc : Int) (s : ByteArray) : 0 ≤ crcOf crc s ∧ crcOf crc s < 4294967296 := ⟨xor_lo _ _, xor_hi _ _⟩

theorem crcOf_eq (crc : Int) (s : ByteArray) : bits .xor .u32 (crcTo (bits .xor .u32 crc 4294967295) s s.size) 4294967295 = crcOf crc s := by
  rw [xor_swap, xor_swap crc]; rfl
theorem wrap64_small {n : Int} (h0 : 0 ≤ n) (h1 : n ≤ 9223372036854775807) : wrap64 n = n := by
  unfold wrap64; omega
theorem step_yes {y : Int} (h : (bits .and .u32 y 1 == 1) = true) : crcStep y = bits .xor .u32 (y / 2) 3988292384 := by
  unfold crcStep; rw [h]; rfl
theorem step_no {y : Int} (h : (bits .and .u32 y 1 == 1) = false) : crcStep y = y / 2 := by
  unfold crcStep; rw [h]; rfl

set_option maxRecDepth 100000 in
set_option maxHeartbeats 400000 in
theorem crc_byte (r b : Int) (w : World) (_h0 : 0 ≤ r) (_h1 : r < 4294967296) (_h2 : 0 ≤ b) (_h3 : b < 256) :
    Calls Tryz.prog 99 #[.int .u32 r, .int .u8 b] w fun e w' => e = .returned (.int .u32 (crcB r b)) ∧ w' = w := by
  go_enter Tryz.func99, Tryz.ntmps99
  go_wp2
  go_loop [0, 5, 10] (fun x _ i => ∃ k : Nat, k ≤ 8 ∧ i = .int .i64 k ∧ x = .int .u32 (crcRounds k (bits .xor .u32 r b))) (fun _ _ i => 8 - (intOf i).toNat)
  case atStart => exact ⟨0, by omega, rfl, rfl⟩
  case round =>
    obtain ⟨k, hk, rfl, rfl⟩ := hrel
    obtain ⟨g0, g1⟩ := crcRounds_range (xor_lo r b) (xor_hi r b) k
    by_cases hlt : k < 8
    · have HS : Hid (crcRounds (k + 1) (bits .xor .u32 r b) = crcStep (crcRounds k (bits .xor .u32 r b))) := rfl
      cases ht : (bits .and .u32 (crcRounds k (bits .xor .u32 r b)) 1 == 1)
      · have HT := hide (step_no ht)
        go_wp2
        go_round
        case rel => exact ⟨k + 1, by omega, by go_num, by rw [HS.out, HT.out]⟩
        case measure => simp [intOf]; omega
      · have HT := hide (step_yes ht)
        go_wp2
        go_round
        case rel => exact ⟨k + 1, by omega, by go_num, by rw [HS.out, HT.out]⟩
        case measure => simp [intOf]; omega
    · go_wp2
      go_ret
      exact ⟨ret_int (by rw [show k = 8 from by omega]; rfl), rfl⟩

set_option maxRecDepth 100000 in
set_option maxHeartbeats 400000 in
theorem spec_crc (crc : Int) (s : ByteArray) (w : World) (hs : s.size ≤ maxLen) (h0 : 0 ≤ crc) (h1 : crc ≤ 4294967295) :
    Calls Tryz.prog 84 #[.int .i64 crc, .string s] w fun e w' => e = .returned (.int .i64 (crcOf crc s)) ∧ w' = w := by
  unfold maxLen at hs
  have g0 := xor_lo crc 4294967295
  have g1 := xor_hi crc 4294967295
  have HG := hide (crcOf_eq crc s)
  go_enter Tryz.func84, Tryz.ntmps84
  go_wp2
  generalize bits .xor .u32 crc 4294967295 = G at *
  go_loop [5, 6, 7] (fun x i _ => ∃ k : Nat, k ≤ s.size ∧ i = .int .i64 k ∧ x = .int .u32 (crcTo G s k)) (fun _ i _ => s.size - (intOf i).toNat)
  case atStart => exact ⟨0, Nat.zero_le _, rfl, rfl⟩
  case round =>
    obtain ⟨k, hk, rfl, rfl⟩ := hrel
    obtain ⟨e0, e1⟩ := crcTo_range g0 g1 s k
    by_cases hlt : k < s.size
    · have HC := hide (crcTo_succ G s k hlt)
      have hb0 : 0 ≤ (s[k].toNat : Int) := by omega
      have hb1 : (s[k].toNat : Int) < 256 := by have := s[k].toNat_lt; omega
      go_wp2
      generalize (s[k].toNat : Int) = B at *
      generalize crcTo G s k = R at *
      have x0 := xor_lo R B
      have x1 := xor_hi R B
      have HX : Hid (crcB R B = crcRounds 8 (bits .xor .u32 R B)) := rfl
      generalize bits .xor .u32 R B = X at *
      go_loop [5, 7] (fun x i => ∃ j : Nat, j ≤ 8 ∧ i = .int .i64 j ∧ x = .int .u32 (crcRounds j X)) (fun _ i => 8 - (intOf i).toNat)
      case atStart => exact ⟨0, by omega, rfl, rfl⟩
      case round =>
        obtain ⟨j, hj, rfl, rfl⟩ := hrel
        obtain ⟨f0, f1⟩ := crcRounds_range x0 x1 j
        by_cases hjt : j < 8
        · have HS : Hid (crcRounds (j + 1) X = crcStep (crcRounds j X)) := rfl
          cases ht : (bits .and .u32 (crcRounds j X) 1 == 1)
          · have HT := hide (step_no ht)
            go_wp2
            go_round
            case rel => exact ⟨j + 1, by omega, by go_num, by rw [HS.out, HT.out]⟩
            case measure => simp [intOf]; omega
          · have HT := hide (step_yes ht)
            go_wp2
            go_round
            case rel => exact ⟨j + 1, by omega, by go_num, by rw [HS.out, HT.out]⟩
            case measure => simp [intOf]; omega
        · go_wp2
          go_round
          case rel => exact ⟨k + 1, by omega, by go_num, by rw [HC.out, HX.out, show j = 8 from by omega]⟩
          case measure => simp [intOf]; omega
    · obtain rfl : k = s.size := by omega
      have z0 := xor_lo (crcTo G s s.size) 4294967295
      have z1 := xor_hi (crcTo G s s.size) 4294967295
      have HZ := hide (wrap64_small z0 (by omega : bits .xor .u32 (crcTo G s s.size) 4294967295 ≤ 9223372036854775807))
      clear z0 z1
      go_wp2
      go_ret
      exact ⟨ret_int (by rw [HZ.out, HG.out]), rfl⟩

set_option maxRecDepth 100000 in
set_option maxHeartbeats 400000 in
theorem impl_more (crc : Int) (s : ByteArray) (w : World) (hs : s.size ≤ 8000) (h0 : 0 ≤ crc) (h1 : crc ≤ 4294967295) :
    Calls Tryz.prog 98 #[.int .i64 crc, .string s] w fun e w' => e = .returned (.int .i64 (crcOf crc s)) ∧ w' = w := by
  have d0 : decide (8000 < (s.size : Int)) = false := decide_eq_false (by omega)
  have d1 : decide (crc < 0) = false := decide_eq_false (by omega)
  have d2 : decide (4294967295 < crc) = false := decide_eq_false (by omega)
  go_enter Tryz.func98, Tryz.ntmps98
  go_wp2
  have g0 := xor_lo IntKind.u32.max crc
  have g1 := xor_hi IntKind.u32.max crc
  have HG : Hid (bits .xor .u32 IntKind.u32.max (crcTo (bits .xor .u32 IntKind.u32.max crc) s s.size) = crcOf crc s) := rfl
  generalize bits .xor .u32 IntKind.u32.max crc = G at *
  go_loop [5, 6] (fun x i => ∃ k : Nat, k ≤ s.size ∧ i = .int .i64 k ∧ x = .int .u32 (crcTo G s k)) (fun _ i => s.size - (intOf i).toNat)
  case atStart => exact ⟨0, Nat.zero_le _, rfl, rfl⟩
  case round =>
    obtain ⟨k, hk, rfl, rfl⟩ := hrel
    obtain ⟨e0, e1⟩ := crcTo_range g0 g1 s k
    by_cases hlt : k < s.size
    · have HC := hide (crcTo_succ G s k hlt)
      have hb0 : 0 ≤ (s[k].toNat : Int) := by omega
      have hb1 : (s[k].toNat : Int) < 256 := by have := s[k].toNat_lt; omega
      go_wp2_with (go_at_call 99; refine (crc_byte _ _ _ e0 e1 hb0 hb1).mono ?_; rintro e w' ⟨rfl, rfl⟩)
      go_round
      case rel => exact ⟨k + 1, by omega, by go_num, by rw [HC.out]⟩
      case measure => simp [intOf]; omega
    · obtain rfl : k = s.size := by omega
      have z0 := xor_lo IntKind.u32.max (crcTo G s s.size)
      have z1 := xor_hi IntKind.u32.max (crcTo G s s.size)
      have HZ := hide (wrap64_small z0 (by omega : bits .xor .u32 IntKind.u32.max (crcTo G s s.size) ≤ 9223372036854775807))
      clear z0 z1
      go_wp2
      go_ret
      exact ⟨ret_int (by rw [HZ.out, HG.out]), rfl⟩

def moreB (crc : Int) (s : ByteArray) : Int := if s.size ≤ 8000 ∧ 0 ≤ crc ∧ crc ≤ 4294967295 then crcOf crc s else 0
theorem moreB_yes {crc : Int} {s : ByteArray} (h : s.size ≤ 8000) (h0 : 0 ≤ crc) (h1 : crc ≤ 4294967295) : moreB crc s = crcOf crc s := if_pos ⟨h, h0, h1⟩
theorem moreB_no {crc : Int} {s : ByteArray} (h : ¬ (s.size ≤ 8000 ∧ 0 ≤ crc ∧ crc ≤ 4294967295)) : moreB crc s = 0 := if_neg h

set_option maxRecDepth 100000 in
set_option maxHeartbeats 400000 in
theorem impl_more_any (crc : Int) (s : ByteArray) (w : World) (hs : s.size ≤ maxLen) :
    Calls Tryz.prog 98 #[.int .i64 crc, .string s] w fun e w' => e = .returned (.int .i64 (moreB crc s)) ∧ w' = w := by
  by_cases h : s.size ≤ 8000 ∧ 0 ≤ crc ∧ crc ≤ 4294967295
  · obtain ⟨a, b, c⟩ := h
    rw [moreB_yes a b c]
    exact impl_more crc s w a b c
  · have HM := hide (moreB_no h)
    unfold maxLen at hs
    by_cases a : 8000 < s.size
    · go_enter Tryz.func98, Tryz.ntmps98
      go_wp2
      go_ret
      exact ⟨ret_int HM.out, rfl⟩
    · by_cases b : crc < 0
      · go_enter Tryz.func98, Tryz.ntmps98
        go_wp2
        go_ret
        exact ⟨ret_int HM.out, rfl⟩
      · have c : 4294967295 < crc := by omega
        clear h
        go_enter Tryz.func98, Tryz.ntmps98
        go_wp2
        go_ret
        exact ⟨ret_int HM.out, rfl⟩

set_option maxRecDepth 100000 in
set_option maxHeartbeats 400000 in
theorem impl_crc (s : ByteArray) (w : World) (hs : s.size ≤ maxLen) :
    Calls Tryz.prog 95 #[.string s] w fun e w' => e = .returned (.int .i64 (moreB 0 s)) ∧ w' = w := by
  go_enter Tryz.func95, Tryz.ntmps95
  go_wp2_with (go_at_call 98; refine (impl_more_any _ _ _ hs).mono ?_; rintro e w' ⟨rfl, rfl⟩)
  go_ret
  exact ⟨rfl, rfl⟩

end Go.Proofs.YtonafcifolddjaaGreatDoor
