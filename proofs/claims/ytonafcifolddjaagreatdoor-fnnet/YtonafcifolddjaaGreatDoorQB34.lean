/- Unseal: both functions and the law, walked. -/
import Derived.Test.YtonafcifolddjaaGreatDoorQB17
import Derived.Deep.RegionWith
import Derived.Lib.Strings
namespace Go.Proofs.YtonafcifolddjaaGreatDoor
open Go.RowKit

/-- What Unseal tells: a text and a code. -/
def unT (s : ByteArray) : ByteArray := if s.size ≤ 8000 ∧ 4 ≤ s.size ∧ (sealS (s.extract 0 (s.size - 4))).toList = s.toList then s.extract 0 (s.size - 4) else ⟨#[]⟩
def unC (s : ByteArray) : Int := if 8000 < s.size then 2 else if s.size < 4 then 4 else if (sealS (s.extract 0 (s.size - 4))).toList = s.toList then 0 else 5
def unV (s : ByteArray) : Value := .agg #[.string (unT s), .int .i64 0, .int .i64 (unC s)]

theorem unV_long {s : ByteArray} (h : 8000 < s.size) : unV s = .agg #[.string ⟨#[]⟩, .int .i64 0, .int .i64 2] := by
  unfold unV unT unC; rw [if_neg (by omega), if_pos h]
theorem unV_short {s : ByteArray} (h : s.size < 4) : unV s = .agg #[.string ⟨#[]⟩, .int .i64 0, .int .i64 4] := by
  unfold unV unT unC; rw [if_neg (by omega), if_neg (by omega), if_pos h]
theorem unV_sum {s : ByteArray} (h : s.size ≤ 8000) (h4 : 4 ≤ s.size) (hn : ((sealS (s.extract 0 (s.size - 4))).toList == s.toList) = false) : unV s = .agg #[.string ⟨#[]⟩, .int .i64 0, .int .i64 5] := by
  have hn' : ¬ (sealS (s.extract 0 (s.size - 4))).toList = s.toList := by simpa using hn
  unfold unV unT unC; rw [if_neg (fun x => hn' x.2.2), if_neg (by omega), if_neg (by omega), if_neg hn']
theorem unV_ok {s : ByteArray} (h : s.size ≤ 8000) (h4 : 4 ≤ s.size) (hn : ((sealS (s.extract 0 (s.size - 4))).toList == s.toList) = true) : unV s = .agg #[.string (s.extract 0 (s.size - 4)), .int .i64 0, .int .i64 0] := by
  have hn' : (sealS (s.extract 0 (s.size - 4))).toList = s.toList := by simpa using hn
  unfold unV unT unC; rw [if_pos ⟨h, h4, hn'⟩, if_neg (by omega), if_neg (by omega), if_pos hn']
theorem ret_val {a b : Value} (h : b = a) : Ending.returned a = .returned b := by rw [h]

set_option maxRecDepth 100000 in
set_option maxHeartbeats 1000000 in
theorem impl_unseal (s : ByteArray) (w : World) (hs : s.size ≤ maxLen) :
    Calls Tryz.prog 80 #[.string s] w fun e w' => e = .returned (unV s) ∧ Below w.heap.size w w' := by
  unfold maxLen at hs
  by_cases h : 8000 < s.size
  · have HU := hide (unV_long h)
    go_enter Tryz.func80, Tryz.ntmps80
    go_wp2_with fail
    exact bodyPost_ret (v := .agg #[.string ⟨#[]⟩, .int .i64 0, .int .i64 2]) (by simp [results, Tryz.results80, go_sem]) rfl ⟨ret_val HU.out, (Below.refl _ _).alloc (Nat.le_refl _) _⟩
  · by_cases h4 : s.size < 4
    · have HU := hide (unV_short h4)
      go_enter Tryz.func80, Tryz.ntmps80
      go_wp2_with fail
      exact bodyPost_ret (v := .agg #[.string ⟨#[]⟩, .int .i64 0, .int .i64 4]) (by simp [results, Tryz.results80, go_sem]) rfl ⟨ret_val HU.out, (Below.refl _ _).alloc (Nat.le_refl _) _⟩
    · have HS := hide (show (s.extract 0 (s.size - 4)).size ≤ maxLen by simp [maxLen]; omega)
      have HZ := hide (show (s.extract 0 (s.size - 4)).size ≤ 1000000 by simp; omega)
      cases hb : ((sealS (s.extract 0 (s.size - 4))).toList == s.toList)
      · have HU := hide (unV_sum (by omega) (by omega) hb)
        go_enter Tryz.func80, Tryz.ntmps80
        go_wp2_with (go_at_call 78; refine (impl_seal _ _ HS.out).mono ?_; rintro e w1 ⟨rfl, hb1⟩; obtain ⟨hc, hf⟩ := bcell hb1; have hz : w.heap.size < w1.heap.size := (by have := hb1.size; simp at this; omega); have HB1 := hide hb1; clear hb1)
        exact bodyPost_ret (v := .agg #[.string ⟨#[]⟩, .int .i64 0, .int .i64 5]) (by simp [results, Tryz.results80, go_sem, hc]) rfl ⟨ret_val HU.out, ((((((Below.refl _ _).alloc (Nat.le_refl _) _).trans (HB1.out.mono (by simp))).setCell (Nat.le_refl _) _).setCell (Nat.le_refl _) _).setCell (Nat.le_refl _) _)⟩
      · have HU := hide (unV_ok (by omega) (by omega) hb)
        go_enter Tryz.func80, Tryz.ntmps80
        go_wp2_with (go_at_call 78; refine (impl_seal _ _ HS.out).mono ?_; rintro e w1 ⟨rfl, hb1⟩; obtain ⟨hc, hf⟩ := bcell hb1; have hz : w.heap.size < w1.heap.size := (by have := hb1.size; simp at this; omega); have HB1 := hide hb1; clear hb1)
        refine (join1 (s.extract 0 (s.size - 4)) _ _ _ (by simp) (by simp) HZ.out).mono ?_
        rintro e w2 ⟨rfl, hb2⟩
        rw [join_one]
        have hb12 : Below (w.heap.size + 1) (w.alloc (Obj.cells #[Value.string ⟨#[]⟩, Value.int IntKind.i64 0, Value.int IntKind.i64 0] 86)) w2 :=
          ((HB1.out.mono (by simp)).alloc (by omega) _).trans (hb2.mono (by simp; omega))
        clear hc hf hb2 hz HB1
        have hc0 : w2.cell? ⟨w.heap.size, 0, none⟩ = some (.string ⟨#[]⟩) := (hb12.cell (p := ⟨w.heap.size, 0, none⟩) (by simp)).trans (by simp)
        have hc1 : w2.cell? ⟨w.heap.size, 1, none⟩ = some (.int .i64 0) := (hb12.cell (p := ⟨w.heap.size, 1, none⟩) (by simp)).trans (by simp)
        have hc2 : w2.cell? ⟨w.heap.size, 2, none⟩ = some (.int .i64 0) := (hb12.cell (p := ⟨w.heap.size, 2, none⟩) (by simp)).trans (by simp)
        have hf0 : ∀ o, w2.frozen? ⟨w.heap.size, o, none⟩ = false := fun o => (hb12.frozen (p := ⟨w.heap.size, o, none⟩) (by simp)).trans (by simp [World.frozen?_alloc_at])
        have hz2 : w.heap.size < w2.heap.size := by have := hb12.size; simp at this; omega
        have HB := hide hb12
        clear hb12
        go_wp2
        exact bodyPost_ret (v := .agg #[.string (s.extract 0 (s.size - 4)), .int .i64 0, .int .i64 0]) (by simp [results, Tryz.results80, go_sem, hc0, hc1, hc2]) rfl ⟨ret_val HU.out, ((((((Below.refl _ _).alloc (Nat.le_refl _) _).trans (HB.out.mono (by omega))).setCell (Nat.le_refl _) _).setCell (Nat.le_refl _) _).setCell (Nat.le_refl _) _)⟩
end Go.Proofs.YtonafcifolddjaaGreatDoor
/- Unseal: the other function and the law, walked. -/
namespace Go.Proofs.YtonafcifolddjaaGreatDoor
open Go.RowKit

theorem app_toList (a b : ByteArray) : (a ++ b).toList = a.toList ++ b.toList := by
  rw [ByteArray.toList_eq, ByteArray.toList_eq, ByteArray.toList_eq]
  simp [ByteArray.data_append]
theorem cut_toList (s : ByteArray) (k : Nat) : s.toList = (s.extract 0 k).toList ++ (s.extract k s.size).toList := by
  rw [Lib.extract_toList, Lib.extract_toList, ByteArray.toList_eq]
  simp
  rw [List.take_of_length_le (i := s.size - k) (by rw [List.length_drop, ← Lib.size_eq]; exact Nat.le_refl _)]
  exact (List.take_append_drop k _).symm
theorem unseal_eq {s : ByteArray} (h : s.size ≤ 8000) :
    ((sealS (s.extract 0 (s.size - 4))).toList == s.toList) = ((fourS (crcOf 0 (s.extract 0 (s.size - 4)))).toList == (s.extract (s.size - 4) s.size).toList) := by
  rw [sealS_yes (by simp; omega), app_toList]
  conv => lhs; rw [cut_toList s (s.size - 4)]
  rw [Bool.eq_iff_iff, beq_iff_eq, beq_iff_eq]
  rw [List.append_cancel_left_eq]

set_option maxRecDepth 100000 in
set_option maxHeartbeats 1000000 in
theorem spec_unseal_long (s : ByteArray) (w : World) (h : s.size ≤ 8000) (h4 : 4 ≤ s.size) (b : Bool) (hq : ((fourS (crcOf 0 (s.extract 0 (s.size - 4)))).toList == (s.extract (s.size - 4) s.size).toList) = b)
    (hv : unV s = .agg #[.string (if b then s.extract 0 (s.size - 4) else ⟨#[]⟩), .int .i64 0, .int .i64 (if b then 0 else 5)]) :
    Calls Tryz.prog 64 #[.string s] w fun e w' => e = .returned (unV s) ∧ Below w.heap.size w w' := by
  have HS := hide (show (s.extract 0 (s.size - 4)).size ≤ maxLen by simp [maxLen]; omega)
  have HF : Hid (∀ w, Calls Tryz.prog 83 #[.int .i64 (crcOf 0 (s.extract 0 (s.size - 4)))] w fun e w' => e = .returned (.string (fourS (crcOf 0 (s.extract 0 (s.size - 4))))) ∧ Below w.heap.size w w') := fun w => spec_four _ w (crcOf_range 0 _).1 (crcOf_range 0 _).2
  have HCr : Hid (∀ w, Calls Tryz.prog 84 #[.int .i64 0, .string (s.extract 0 (s.size - 4))] w fun e w' => e = .returned (.int .i64 (crcOf 0 (s.extract 0 (s.size - 4)))) ∧ w' = w) := fun w => spec_crc 0 _ w HS.out (by omega) (by omega)
  have HV := hide hv
  clear hv
  have hsl : ∀ W, (Instr.slice 9 (.string s) (some (.int .i64 ((s.size : Int) - 4))) none none).run Tryz.prog W = .ok (.string (s.extract (s.size - 4) s.size)) W := fun W => by
    rw [run_slice_string_from_if W 9 s .i64 _ Tryz.underlying9, if_pos (by omega)]
    rw [show ((s.size : Int) - 4).toNat = s.size - 4 from by omega]
  have hwr : IntKind.i64.wrap ((s.size : Int) - 4) = (s.size : Int) - 4 := by rw [IntKind.wrap_i64]; omega
  go_enter Tryz.func64, Tryz.ntmps64
  go_wp2_with fail
  go_region_with (first | (go_at_call 84; refine (HCr.out _).mono ?_; rintro e w1 ⟨rfl, hw⟩; subst hw) | (go_at_call 83; refine (HF.out _).mono ?_; rintro e w2 ⟨rfl, hb1⟩; have HB1 := hide hb1; clear hb1))
  have hb12 : Below (w.heap.size + 1) (w.alloc (Obj.cells #[Value.string ⟨#[]⟩, Value.int IntKind.i64 0, Value.int IntKind.i64 0] 86)) w2 :=
    ((Below.refl _ _).drew).trans (HB1.out.mono (by simp))
  have hc0 : w2.cell? ⟨w.heap.size, 0, none⟩ = some (.string ⟨#[]⟩) := (hb12.cell (p := ⟨w.heap.size, 0, none⟩) (by simp)).trans (by simp)
  have hc1 : w2.cell? ⟨w.heap.size, 1, none⟩ = some (.int .i64 0) := (hb12.cell (p := ⟨w.heap.size, 1, none⟩) (by simp)).trans (by simp)
  have hc2 : w2.cell? ⟨w.heap.size, 2, none⟩ = some (.int .i64 0) := (hb12.cell (p := ⟨w.heap.size, 2, none⟩) (by simp)).trans (by simp)
  have hf0 : ∀ o, w2.frozen? ⟨w.heap.size, o, none⟩ = false := fun o => (hb12.frozen (p := ⟨w.heap.size, o, none⟩) (by simp)).trans (by simp [World.frozen?_alloc_at])
  have hz2 : w.heap.size < w2.heap.size := by have := hb12.size; simp at this; omega
  have HB := hide hb12
  clear hb12 HB1 hsl hwr
  cases b
  · go_wp2
    exact bodyPost_ret (v := .agg #[.string ⟨#[]⟩, .int .i64 0, .int .i64 5]) (by simp [results, Tryz.results64, go_sem, hc0, hc1, hc2]) rfl ⟨ret_val HV.out, ((((((Below.refl _ _).alloc (Nat.le_refl _) _).trans (HB.out.mono (by omega))).setCell (Nat.le_refl _) _).setCell (Nat.le_refl _) _).setCell (Nat.le_refl _) _)⟩
  · go_wp2
    exact bodyPost_ret (v := .agg #[.string (s.extract 0 (s.size - 4)), .int .i64 0, .int .i64 0]) (by simp [results, Tryz.results64, go_sem, hc0, hc1, hc2]) rfl ⟨ret_val HV.out, ((((((Below.refl _ _).alloc (Nat.le_refl _) _).trans (HB.out.mono (by omega))).setCell (Nat.le_refl _) _).setCell (Nat.le_refl _) _).setCell (Nat.le_refl _) _)⟩

set_option maxRecDepth 100000 in
set_option maxHeartbeats 1000000 in
theorem spec_unseal (s : ByteArray) (w : World) (hs : s.size ≤ maxLen) :
    Calls Tryz.prog 64 #[.string s] w fun e w' => e = .returned (unV s) ∧ Below w.heap.size w w' := by
  unfold maxLen at hs
  by_cases h : 8000 < s.size
  · have HU := hide (unV_long h)
    go_enter Tryz.func64, Tryz.ntmps64
    go_wp2_with fail
    exact bodyPost_ret (v := .agg #[.string ⟨#[]⟩, .int .i64 0, .int .i64 2]) (by simp [results, Tryz.results64, go_sem]) rfl ⟨ret_val HU.out, (Below.refl _ _).alloc (Nat.le_refl _) _⟩
  · by_cases h4 : s.size < 4
    · have HU := hide (unV_short h4)
      go_enter Tryz.func64, Tryz.ntmps64
      go_wp2_with fail
      exact bodyPost_ret (v := .agg #[.string ⟨#[]⟩, .int .i64 0, .int .i64 4]) (by simp [results, Tryz.results64, go_sem]) rfl ⟨ret_val HU.out, (Below.refl _ _).alloc (Nat.le_refl _) _⟩
    · have he := unseal_eq (s := s) (by omega)
      cases hb : ((sealS (s.extract 0 (s.size - 4))).toList == s.toList)
      · exact spec_unseal_long s w (by omega) (by omega) false (he ▸ hb) (unV_sum (by omega) (by omega) hb)
      · exact spec_unseal_long s w (by omega) (by omega) true (he ▸ hb) (unV_ok (by omega) (by omega) hb)
end Go.Proofs.YtonafcifolddjaaGreatDoor
