/- Seal: both functions and the law, walked. -/
import Derived.Test.YtpbaljoindljnaaRows
import Derived.Test.YtpbaljoindljnaaBase
import Derived.Test.YtpbaljoindljnaaBCrc
import Derived.Test.YtpbaljoindljnaaBText
namespace Go.Proofs.Ytpbaljoindljnaa
open Go.RowKit

/-- Byte i of a number, the lowest first. -/
def byteOf (c : Int) (i : Nat) : UInt8 := UInt8.ofNat (c / 2 ^ (8 * i) % 256).toNat
def fourL (c : Int) : List UInt8 := [byteOf c 0, byteOf c 1, byteOf c 2, byteOf c 3]
def fourS (c : Int) : ByteArray := ⟨(fourL c).toArray⟩
theorem byteOf_toNat (c : Int) (i : Nat) : ((byteOf c i).toNat : Int) = c / 2 ^ (8 * i) % 256 := by
  unfold byteOf
  generalize c / 2 ^ (8 * i) = v
  rw [UInt8.toNat_ofNat']
  omega
theorem fourL_at (c : Int) : ∀ j, j < 4 → (fourL c)[j]? = some (byteOf c j)
  | 0, _ => rfl
  | 1, _ => rfl
  | 2, _ => rfl
  | 3, _ => rfl
theorem fourL_length (c : Int) : (fourL c).length = 4 := rfl

/-- string(b) of a new row. -/
theorem conv_new (w : World) (arr : Array Value) (T : TypeId) (l : List UInt8) (cap : Nat) (h : ∀ j (hj : j < l.length), arr[j]? = some (.int .u8 (l[j].toNat : Int))) :
    (convert 77 9 (.slice (some ⟨w.heap.size, 0, none⟩) l.length cap)).run Try.prog (w.alloc (.cells arr T)) = .ok (.string ⟨l.toArray⟩) (w.alloc (.cells arr T)) := by
  refine run_convert_bytes_back (P := Try.prog) (w.alloc (.cells arr T)) 77 9 5 ⟨w.heap.size, 0, none⟩ cap l Try.underlying77 Try.underlying5 Try.underlying9 (fun j hj => ?_)
  have ea : (⟨w.heap.size, 0, none⟩ : Addr).add j = ⟨w.heap.size, j, none⟩ := by unfold Addr.add; split <;> simp_all
  rw [ea, World.cell?_alloc_at _ _ _ _ rfl]
  exact h j hj

theorem conv_four (w : World) (arr : Array Value) (T : TypeId) (c : Int) (h : ∀ j, j < 4 → arr[j]? = some (.int .u8 (c / 2 ^ (8 * j) % 256))) :
    (convert 77 9 (.slice (some ⟨w.heap.size, 0, none⟩) 4 4)).run Try.prog (w.alloc (.cells arr T)) = .ok (.string (fourS c)) (w.alloc (.cells arr T)) :=
  conv_new w arr T (fourL c) 4 (fun j hj => by
    rw [fourL_length] at hj
    have := fourL_at c j hj
    rw [List.getElem?_eq_getElem (by rw [fourL_length]; exact hj)] at this
    rw [Option.some.inj this, byteOf_toNat]
    exact h j hj)

theorem four_cells (c : Int) (h0 : 0 ≤ c) (h1 : c < 4294967296) : ∀ j, j < 4 → (#[Value.int .u8 (c % 256), .int .u8 (c / 256 % 256), .int .u8 (c / 65536 % 256), .int .u8 (c / 16777216)] : Array Value)[j]? = some (.int .u8 (c / 2 ^ (8 * j) % 256))
  | 0, _ => by simp
  | 1, _ => by simp
  | 2, _ => by simp
  | 3, _ => by simp; omega

set_option maxRecDepth 100000 in
set_option maxHeartbeats 400000 in
theorem spec_four (c : Int) (w : World) (h0 : 0 ≤ c) (h1 : c < 4294967296) :
    Calls Try.prog 52 #[.int .i64 c] w fun e w' => e = .returned (.string (fourS c)) ∧ Below w.heap.size w w' := by
  have hcv := conv_four w _ 5 c (four_cells c h0 h1)
  go_enter Try.func52, Try.ntmps52
  go_wp2
  go_ret
  exact ⟨rfl, (Below.refl _ _).alloc (Nat.le_refl _) _⟩

set_option maxRecDepth 100000 in
set_option maxHeartbeats 400000 in
theorem impl_sum (s : ByteArray) (w : World) (hs : s.size ≤ 8000) :
    Calls Try.prog 62 #[.string s] w fun e w' => e = .returned (.string (fourS (crcOf 0 s))) ∧ Below w.heap.size w w' := by
  have hm : s.size ≤ maxLen := by unfold maxLen; omega
  obtain ⟨h0, h1⟩ := crcOf_range 0 s
  have HM := hide hm
  have HC := hide (moreB_yes (crc := 0) hs (by omega) (by omega))
  clear hm
  generalize crcOf 0 s = C at *
  go_enter Try.func62, Try.ntmps62
  go_wp2_with (go_at_call 64; refine (impl_crc s _ HM.out).mono ?_; rintro e w1 ⟨rfl, hw⟩; obtain rfl : w = w1 := hw.symm; clear hw; rw [HC.out])
  go_loopw [5, 8] (fun _ i wr => ∃ (k : Nat) (arr : Array Value), k ≤ 4 ∧ i = .int .i64 k ∧ arr.size = 4 ∧ (∀ j, j < k → arr[j]? = some (.int .u8 (C / 2 ^ (8 * j) % 256))) ∧ wr = w.alloc (.cells arr 94)) (fun _ i _ => 4 - (intOf i).toNat)
  case atStart => exact ⟨0, _, by omega, rfl, rfl, fun j hj => absurd hj (by omega), rfl⟩
  case round =>
    obtain ⟨k, arr, hk, rfl, hsz, hall, rfl⟩ := hrel
    have HA := hide hall
    have HZ := hide hsz
    clear hall
    by_cases hlt : k < 4
    · obtain ⟨old, hold⟩ : ∃ old, arr[k]? = some old := ⟨_, Array.getElem?_eq_getElem (by omega)⟩
      clear hsz
      go_wp2
      go_roundw
      case rel =>
        refine ⟨k + 1, _, by omega, by go_num, by simpa using HZ.out, fun j hj => ?_, rfl⟩
        rw [Array.getElem?_setIfInBounds]
        by_cases e : k = j
        · subst e; rw [if_pos rfl, if_pos (by rw [HZ.out]; exact hlt)]
        · rw [if_neg e]; exact HA.out j (by omega)
      case measure => simp [intOf]; omega
    · have hcv := conv_four w arr 94 C (fun j hj => HA.out j (by omega))
      clear hsz
      go_wp2
      go_ret
      exact ⟨rfl, (Below.refl _ _).alloc (Nat.le_refl _) _⟩

def sealS (s : ByteArray) : ByteArray := if s.size ≤ 7996 then s ++ fourS (crcOf 0 s) else ByteArray.empty
theorem sealS_yes {s : ByteArray} (h : s.size ≤ 7996) : sealS s = s ++ fourS (crcOf 0 s) := if_pos h
theorem sealS_no {s : ByteArray} (h : 7996 < s.size) : sealS s = ByteArray.empty := if_neg (by omega)
theorem fourS_size (c : Int) : (fourS c).size = 4 := rfl

set_option maxRecDepth 100000 in
set_option maxHeartbeats 400000 in
theorem impl_seal (s : ByteArray) (w : World) (hs : s.size ≤ maxLen) :
    Calls Try.prog 55 #[.string s] w fun e w' => e = .returned (.string (sealS s)) ∧ Below w.heap.size w w' := by
  unfold maxLen at hs
  by_cases h : 7996 < s.size
  · have HM := hide (sealS_no h)
    go_enter Try.func55, Try.ntmps55
    go_wp2_with fail
    go_ret
    exact ⟨ret_str HM.out, Below.refl _ _⟩
  · have HM := hide (sealS_yes (s := s) (by omega))
    have HN := hide (fourS_size (crcOf 0 s))
    have HF : Hid (∀ w, Calls Try.prog 62 #[.string s] w fun e w' => e = .returned (.string (fourS (crcOf 0 s))) ∧ Below w.heap.size w w') := fun w => impl_sum s w (by omega)
    generalize fourS (crcOf 0 s) = F at *
    go_enter Try.func55, Try.ntmps55
    go_wp2_with (first | (go_at_call 62; refine (HF.out _).mono ?_; rintro e w1 ⟨rfl, hb1⟩; have HB1 := hide hb1; clear hb1))
    refine (join2 s F _ _ _ (by simp) ?_ ?_ ?_).mono ?_
    · simp
    · simp
    · have := HN.out; omega
    rintro e w2 ⟨rfl, hb2⟩
    have HB2 := hide hb2
    clear hb2
    go_wp2
    go_ret
    exact ⟨ret_str (by rw [HM.out, join_two]), (HB1.out.alloc HB1.out.size _).trans (HB2.out.mono (by simp; have := HB1.out.size; omega))⟩
set_option maxRecDepth 100000 in
set_option maxHeartbeats 400000 in
theorem spec_seal (s : ByteArray) (w : World) (hs : s.size ≤ maxLen) :
    Calls Try.prog 32 #[.string s] w fun e w' => e = .returned (.string (sealS s)) ∧ Below w.heap.size w w' := by
  have HS := hide hs
  unfold maxLen at hs
  by_cases h : 7996 < s.size
  · have HM := hide (sealS_no h)
    go_enter Try.func32, Try.ntmps32
    go_wp2_with fail
    go_ret
    exact ⟨ret_str HM.out, Below.refl _ _⟩
  · have HM := hide (sealS_yes (s := s) (by omega))
    have HF : Hid (∀ w, Calls Try.prog 52 #[.int .i64 (crcOf 0 s)] w fun e w' => e = .returned (.string (fourS (crcOf 0 s))) ∧ Below w.heap.size w w') := fun w => spec_four _ w (crcOf_range 0 s).1 (crcOf_range 0 s).2
    have hN := fourS_size (crcOf 0 s)
    go_enter Try.func32, Try.ntmps32
    go_wp2_with (first | (go_at_call 53; refine (spec_crc 0 s _ HS.out (by omega) (by omega)).mono ?_; rintro e w1 ⟨rfl, hw⟩; obtain rfl : w = w1 := hw.symm; clear hw) | (go_at_call 52; refine (HF.out _).mono ?_; rintro e w2 ⟨rfl, hb1⟩; have HB1 := hide hb1; clear hb1))
    go_ret
    exact ⟨ret_str (by rw [HM.out]), HB1.out⟩

end Go.Proofs.Ytpbaljoindljnaa
