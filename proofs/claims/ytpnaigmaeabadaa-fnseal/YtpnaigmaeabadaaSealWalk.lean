/- FnSeal, walked. -/
import Derived.Test.YtpnaigmaeabadaaSealMath
import Derived.Test.YtpnaigmaeabadaaLw
import Derived.Deep.RegionWith
namespace Go.Proofs.Ytpnaigmaeabadaa
open Go.RowKit

theorem neg1 (x : ByteArray) (h : x.toList ≠ []) : x.toList.isEmpty = false := by cases hx : x.toList <;> simp_all

theorem xor8_nat (a b : Nat) (ha : a < 256) (hb : b < 256) : bits .xor .u8 (a : Int) (b : Int) = ((a ^^^ b : Nat) : Int) := by
  have key : (BitVec.ofInt 8 (a : Int) ^^^ BitVec.ofInt 8 (b : Int)).toNat = a ^^^ b := by
    rw [BitVec.toNat_xor]
    simp
    rw [Nat.mod_eq_of_lt ha, Nat.mod_eq_of_lt hb]
  show IntKind.u8.wrap ((BitVec.ofInt 8 (a : Int) ^^^ BitVec.ofInt 8 (b : Int)).toNat : Nat) = _
  rw [key]
  have hx : a ^^^ b < 2 ^ 8 := Nat.xor_lt_two_pow ha hb
  simp [IntKind.wrap, IntKind.bits, IntKind.signed]
  omega
theorem turnB (X : UInt8) (q : Int) (q0 : 0 ≤ q) (q1 : q < 255) : ∃ y : UInt8, y ≠ X ∧ bits .xor .u8 (X.toNat : Int) (IntKind.u8.wrap (IntKind.i64.wrap (1 + q))) = (y.toNat : Int) := by
  have e : IntKind.u8.wrap (IntKind.i64.wrap (1 + q)) = (((1 + q).toNat : Nat) : Int) := by
    rw [IntKind.wrap_i64]
    simp [IntKind.wrap, IntKind.bits, IntKind.signed]
    omega
  have hX := UInt8.toNat_lt X
  have hk : (1 + q).toNat < 256 := by omega
  have hx : X.toNat ^^^ (1 + q).toNat < 2 ^ 8 := Nat.xor_lt_two_pow hX hk
  rw [e, xor8_nat _ _ hX hk]
  refine ⟨UInt8.ofNat (X.toNat ^^^ (1 + q).toNat), ?_, ?_⟩
  · intro h
    have h1 : (UInt8.ofNat (X.toNat ^^^ (1 + q).toNat)).toNat = X.toNat := by rw [h]
    rw [UInt8.toNat_ofNat', Nat.mod_eq_of_lt hx] at h1
    have h2 : X.toNat ^^^ (1 + q).toNat = X.toNat ^^^ 0 := by rw [h1, Nat.xor_zero]
    have := xor_left h2
    omega
  · rw [UInt8.toNat_ofNat', Nat.mod_eq_of_lt hx]
/-- string(b) with one byte turned. -/
theorem conv_turned {wB wC w5 : World} {B C i : Nat} {S : ByteArray} {y : UInt8} (hi : i < S.data.size)
    (hcl : ∀ j (hj : j < S.data.size), wB.cell? ⟨B, j, none⟩ = some (.int .u8 (S.data[j].toNat : Int))) (hT : Turned wB wC B i (.int .u8 (y.toNat : Int))) (hz : B < wC.heap.size) (hb : Below wC.heap.size wC w5) :
    (convert 22 9 (.slice (some ⟨B, 0, none⟩) S.size C)).run Try.prog w5 = .ok (.string ⟨(S.data.toList.set i y).toArray⟩) w5 := by
  have e := run_convert_bytes_back (P := Try.prog) w5 22 9 5 ⟨B, 0, none⟩ C (S.data.toList.set i y) Try.underlying22 Try.underlying5 Try.underlying9 (fun j hj => by
    rw [List.length_set, Array.length_toList] at hj
    have ea : (⟨B, 0, none⟩ : Addr).add j = ⟨B, j, none⟩ := by unfold Addr.add; split <;> simp_all
    rw [ea, hb.cell (p := ⟨B, j, none⟩) hz]
    by_cases ej : j = i
    · subst ej
      rw [hT.same]
      simp
    · rw [hT.other j ej, hcl j hj]
      simp [Ne.symm ej])
  rw [List.length_set, Array.length_toList] at e
  exact e

set_option maxRecDepth 100000 in
set_option maxHeartbeats 4000000 in
theorem law_fnseal (a0 a1 : Option Addr) (len0 cap0 len1 cap1 : Nat) (w : World) (hl0 : len0 ≤ 1048576) (hl1 : len1 ≤ 1048576) (h0 : ArgRow w a0 len0) (h1 : ArgRow w a1 len1) :
    Calls Try.prog 3 #[.slice a0 len0 cap0, .slice a1 len1 cap1] w fun e w' => e = .returned (.bool true) ∧ Below w.heap.size w w' := by
  have HL0 := hide hl0
  have HL1 := hide hl1
  have H0 := hide h0
  have H1 := hide h1
  have g0 : decide (1048576 < (len0 : Int)) = false := decide_eq_false (by omega)
  have g1 : decide (1048576 < (len1 : Int)) = false := decide_eq_false (by omega)
  clear h0 h1 hl0 hl1
  go_enter Try.func3, Try.ntmps3
  go_wp2_with fail
  refine (draw_seal a0 len0 cap0 _ HL0.out H0.out).mono ?_
  rintro e w1 ⟨t, rfl, ht, hb1⟩
  have HB1 := hide hb1
  clear hb1
  go_wp2_with fail
  refine (impl_seal t _ (by unfold maxLen; omega)).mono ?_
  rintro e w2 ⟨rfl, hb2⟩
  have HB2 := hide (HB1.out.trans (hb2.mono HB1.out.size))
  clear hb2 HB1
  go_wp2_with fail
  refine (spec_seal t _ (by unfold maxLen; omega)).mono ?_
  rintro e w3 ⟨rfl, hb3⟩
  have HB3 := hide (HB2.out.trans (hb3.mono HB2.out.size))
  clear hb3 HB2
  by_cases h7 : t.size ≤ 7996
  · have HSz := hide (seal_size h7)
    have HV := hide (seal_value h7)
    have HTu := hide (fun i hi y hy S' hS => turned_refused (S' := S') h7 (i := i) hi y hy hS)
    have hne : (sealS t).toList.isEmpty = false := neg1 _ (fun e => by
      have := congrArg List.length e
      rw [ByteArray.toList_eq, ← Lib.size_eq, HSz.out] at this
      simp at this)
    generalize hS : sealS t = S at *
    clear hS
    have hcv := run_bytes_of_string (P := Try.prog) w3 9 22 5 S Try.underlying9 Try.underlying22 Try.underlying5
    go_wp2_with fail
    have hblk : w.heap.size ≤ w3.heap.size := HB3.out.size
    have hcl : ∀ j (hj : j < S.data.size), (w3.alloc (Obj.cells (bytesRow S (grownCap w3 S.size 0 5)) 5 ((bytesRow S (grownCap w3 S.size 0 5)).size, (bytesRow S (grownCap w3 S.size 0 5)).size + 1))).drew.cell? ⟨w3.heap.size, j, none⟩ = some (.int .u8 (S.data[j].toNat : Int)) := fun j hj =>
      (World.cell?_alloc_mark w3 _ _ _ j).trans (bytesRow_at S _ j hj)
    have hfl : ∀ j, j < S.data.size → (w3.alloc (Obj.cells (bytesRow S (grownCap w3 S.size 0 5)) 5 ((bytesRow S (grownCap w3 S.size 0 5)).size, (bytesRow S (grownCap w3 S.size 0 5)).size + 1))).drew.frozen? ⟨w3.heap.size, j, none⟩ = false := fun j hj =>
      (World.frozen?_alloc_mark w3 _ _ _ _ j).trans (by have hN : S.data.size ≤ (bytesRow S (grownCap w3 S.size 0 5)).size := by simp [bytesRow]
                                                        rw [decide_eq_false (by omega)]; rfl)
    have HBB := hide ((HB3.out.alloc HB3.out.size (Obj.cells (bytesRow S (grownCap w3 S.size 0 5)) 5 ((bytesRow S (grownCap w3 S.size 0 5)).size, (bytesRow S (grownCap w3 S.size 0 5)).size + 1))).drew)
    have hzB : w3.heap.size < (w3.alloc (Obj.cells (bytesRow S (grownCap w3 S.size 0 5)) 5 ((bytesRow S (grownCap w3 S.size 0 5)).size, (bytesRow S (grownCap w3 S.size 0 5)).size + 1))).drew.heap.size := by simp
    clear hcv
    generalize (w3.alloc (Obj.cells (bytesRow S (grownCap w3 S.size 0 5)) 5 ((bytesRow S (grownCap w3 S.size 0 5)).size, (bytesRow S (grownCap w3 S.size 0 5)).size + 1))).drew = wB at *
    generalize grownCap w3 S.size 0 5 = C at *
    generalize w3.heap.size = B at *
    have HCL := hide hcl
    have HFL := hide hfl
    clear hcl hfl
    have hSz : (S.size : Int) = (t.size : Int) + 4 := by have := HSz.out; omega
    have HSi := hide hSz
    clear hSz
    refine (lwat_any a1 len1 cap1 0 (S.size : Int) _ HL1.out (H1.out.below HBB.out) (by omega) (by have := HSi.out; omega) (by have := HSi.out; omega)).mono ?_
    rintro e wB1 ⟨r, rfl, r0, r1, hw⟩
    obtain rfl : wB = wB1 := hw.symm
    clear hw
    obtain ⟨i, rfl⟩ := Int.eq_ofNat_of_zero_le r0
    have hi : i < S.data.size := by have : (i : Int) < S.size := r1; have e : S.size = S.data.size := rfl; omega
    have ci := HCL.out i hi
    have fi := HFL.out i hi
    have hb0 : 0 ≤ (S.data[i].toNat : Int) := by omega
    have hb1 : (S.data[i].toNat : Int) < 256 := by have := S.data[i].toNat_lt; omega
    generalize hX : S.data[i] = X at *
    have HX := hide hX
    clear hX
    go_wp2_with fail
    have HQ : Hid (∀ W, Below w.heap.size w W → Calls Try.prog 14 #[.slice a1 len1 cap1, .int .i64 1, .int .i64 255] W fun e w' => ∃ r : Int, e = .returned (.int .i64 r) ∧ 0 ≤ r ∧ r < 255 ∧ w' = W) := fun W hW => lwat_any a1 len1 cap1 1 255 W HL1.out (H1.out.below hW) (by omega) (by omega) (by omega)
    have hwi : IntKind.i64.wrap (S.size : Int) = (S.size : Int) := by rw [IntKind.wrap_i64]; have := HSi.out; omega
    go_region_with (go_at_call 14; refine (HQ.out _ (by first | exact HBB.out | exact HBB.out.drew)).mono ?_; rintro e w4 ⟨q, rfl, q0, q1, hw⟩; subst hw)
    all_goals
      obtain ⟨y, hy, ey⟩ := turnB X q q0 q1
      rw [ey]
      have hT := (turned wB B i (.int .u8 (y.toNat : Int)) _ ci).drew
      have HBC := hide ((HBB.out.setCell (p := ⟨B, i, none⟩) hblk (.int .u8 (y.toNat : Int))).drew)
      have hzC : B < (wB.setCell ⟨B, i, none⟩ (.int .u8 (y.toNat : Int))).drew.heap.size := by simp [World.setCell]; exact hzB
      generalize (wB.setCell ⟨B, i, none⟩ (.int .u8 (y.toNat : Int))).drew = wC at *
      have HT := hide hT
      have HY := hide hy
      clear hT ci fi hy ey q0 q1 hwi HQ hb0 hb1
      go_wp2_with fail
      refine (impl_unseal S _ (by unfold maxLen; have := HSi.out; omega)).mono ?_
      rintro e w5 ⟨rfl, hb5⟩
      rw [HV.out]
      have hcv2 := conv_turned (S := S) (C := C) (y := y) (i := i) hi HCL.out HT.out hzC hb5
      have HB5 := hide (HBC.out.trans (hb5.mono HBC.out.size))
      clear hb5
      go_wp2_with fail
      have hV5 : unV ⟨(S.data.toList.set i y).toArray⟩ = .agg #[.string ⟨#[]⟩, .int .i64 0, .int .i64 5] := HTu.out i (by have := HSz.out; have e : S.size = S.data.size := rfl; omega) y (by
        rw [List.getElem?_eq_getElem (by simpa using hi)]
        intro e
        have e' := Option.some.inj e
        simp only [Array.getElem_toList] at e'
        exact HY.out (by rw [← e', HX.out])) _ rfl
      refine (impl_unseal ⟨(S.data.toList.set i y).toArray⟩ _ (by show (S.data.toList.set i y).toArray.size ≤ maxLen; unfold maxLen; have := HSi.out; have e : S.size = S.data.size := rfl; simp; omega)).mono ?_
      rintro e w6 ⟨rfl, hb6⟩
      rw [hV5]
      have HB6 := hide (HB5.out.trans (hb6.mono HB5.out.size))
      clear hb6 hV5 hcv2
      have hfd : ∀ W, (Instr.field 27 (.agg #[.string ⟨#[]⟩, .int .i64 0, .int .i64 5]) 2).run Try.prog W = .ok (.int .i64 5) W := fun _ => by kernel_rfl
      go_wp2_with fail
      refine (draw_more a1 len1 cap1 _ HL1.out (H1.out.below HB6.out)).mono ?_
      rintro e w9 ⟨c, u, rfl, hu, hb9⟩
      have HB9 := hide (HB6.out.trans (hb9.mono HB6.out.size))
      clear hb9
      by_cases h8 : 8000 < t.size + u.size
      · go_wp2_with fail
        go_ret
        exact ⟨rfl, HB9.out⟩
      · have HM := hide (more_more (t := t) (u := u) (by omega))
        have hm1 : u.size ≤ maxLen := by unfold maxLen; omega
        have hm2 : t.size ≤ maxLen := by unfold maxLen; omega
        have hm3 : (t ++ u).size ≤ maxLen := by unfold maxLen; simp; omega
        have HM1 := hide hm1
        have HM2 := hide hm2
        have HM3 := hide hm3
        clear hm1 hm2 hm3
        go_wp2_with fail
        refine (impl_more_any c u _ HM1.out).mono ?_
        rintro e w10 ⟨rfl, hw⟩
        subst hw
        have e1 : (moreB c u == moreB c u) = true := by simp
        go_wp2_with fail
        refine (spec_more_any c u _ HM1.out).mono ?_
        rintro e w11 ⟨rfl, hw⟩
        subst hw
        go_wp2_with fail
        refine (impl_crc t _ HM2.out).mono ?_
        rintro e w12 ⟨rfl, hw⟩
        subst hw
        go_wp2_with fail
        refine (impl_more_any (moreB 0 t) u _ HM1.out).mono ?_
        rintro e w13 ⟨rfl, hw⟩
        subst hw
        go_wp2_with fail
        refine (impl_crc (t ++ u) _ HM3.out).mono ?_
        rintro e w14 ⟨rfl, hw⟩
        subst hw
        rw [HM.out]
        have e2 : (moreB 0 (t ++ u) == moreB 0 (t ++ u)) = true := by simp
        go_wp2
        go_ret
        exact ⟨rfl, HB9.out⟩
  · have HE := hide (sealS_no (s := t) (by omega))
    rw [HE.out]
    go_wp2_with fail
    refine (draw_more a1 len1 cap1 _ HL1.out (H1.out.below HB3.out)).mono ?_
    rintro e w9 ⟨c, u, rfl, hu, hb9⟩
    have HB9 := hide (HB3.out.trans (hb9.mono HB3.out.size))
    clear hb9
    by_cases h8 : 8000 < t.size + u.size
    · go_wp2_with fail
      go_ret
      exact ⟨rfl, HB9.out⟩
    · have HM := hide (more_more (t := t) (u := u) (by omega))
      have hm1 : u.size ≤ maxLen := by unfold maxLen; omega
      have hm2 : t.size ≤ maxLen := by unfold maxLen; omega
      have hm3 : (t ++ u).size ≤ maxLen := by unfold maxLen; simp; omega
      have HM1 := hide hm1
      have HM2 := hide hm2
      have HM3 := hide hm3
      clear hm1 hm2 hm3
      go_wp2_with fail
      refine (impl_more_any c u _ HM1.out).mono ?_
      rintro e w10 ⟨rfl, hw⟩
      subst hw
      have e1 : (moreB c u == moreB c u) = true := by simp
      go_wp2_with fail
      refine (spec_more_any c u _ HM1.out).mono ?_
      rintro e w11 ⟨rfl, hw⟩
      subst hw
      go_wp2_with fail
      refine (impl_crc t _ HM2.out).mono ?_
      rintro e w12 ⟨rfl, hw⟩
      subst hw
      go_wp2_with fail
      refine (impl_more_any (moreB 0 t) u _ HM1.out).mono ?_
      rintro e w13 ⟨rfl, hw⟩
      subst hw
      go_wp2_with fail
      refine (impl_crc (t ++ u) _ HM3.out).mono ?_
      rintro e w14 ⟨rfl, hw⟩
      subst hw
      rw [HM.out]
      have e2 : (moreB 0 (t ++ u) == moreB 0 (t ++ u)) = true := by simp
      go_wp2
      go_ret
      exact ⟨rfl, HB9.out⟩
end Go.Proofs.Ytpnaigmaeabadaa
