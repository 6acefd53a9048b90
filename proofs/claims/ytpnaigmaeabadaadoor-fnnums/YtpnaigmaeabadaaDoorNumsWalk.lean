/- FnNums, walked. -/
import Derived.Test.YtpnaigmaeabadaaDoorDraw3
import Derived.Test.YtpnaigmaeabadaaDoorNumsMath
namespace Go.Proofs.YtpnaigmaeabadaaDoor
open Go.RowKit
set_option maxRecDepth 100000 in
set_option maxHeartbeats 4000000 in
theorem law_fnnums (a0 a1 : Option Addr) (len0 cap0 len1 cap1 : Nat) (w : World) (hl0 : len0 ≤ 1048576) (hl1 : len1 ≤ 1048576) (h0 : ArgRow w a0 len0) (h1 : ArgRow w a1 len1) (hg : Handle w) :
    Calls Tryd.prog 3 #[.slice a0 len0 cap0, .slice a1 len1 cap1] w fun e w' => e = .returned (.bool true) ∧ Below w.heap.size w w' := by
  have HL0 := hide hl0
  have HL1 := hide hl1
  have H0 := hide h0
  have H1 := hide h1
  have HG := hide hg
  have g0 : decide (1048576 < (len0 : Int)) = false := decide_eq_false (by omega)
  have g1 : decide (1048576 < (len1 : Int)) = false := decide_eq_false (by omega)
  clear h0 h1 hl0 hl1 hg
  go_enter Tryd.func3, Tryd.ntmps3
  go_wp2_with fail
  refine (draw_num a0 len0 cap0 _ HL0.out H0.out).mono ?_
  rintro e w1 ⟨n, rfl, n0, n1, hb1⟩
  have HB1 := hide hb1
  have HN0 := hide n0
  have HN1 := hide n1
  clear hb1 n0 n1
  go_wp2_with fail
  refine (impl_put n _ HN0.out HN1.out).mono ?_
  rintro e w2 ⟨rfl, hb2⟩
  have HB2 := hide (HB1.out.trans (hb2.mono HB1.out.size))
  clear hb2 HB1
  go_wp2_with fail
  refine (spec_put n _ HN0.out HN1.out).mono ?_
  rintro e w3 ⟨rfl, hb3⟩
  have HB3 := hide (HB2.out.trans (hb3.mono HB2.out.size))
  clear hb3 HB2
  have hsz : 1 ≤ (putS n).size ∧ (putS n).size ≤ 10 := putL_length _
  obtain ⟨s1, s2⟩ := hsz
  have HD := hide (putS_data n)
  have HK : Hid (∀ s : ByteArray, s.data.toList = [120, 121] ++ ((putS n).data.toList ++ [122]) → s.size ≤ 8000 → getN s 2 = (n, ((putS n).size : Int) + 2, 0)) := fun s hs hz => by
    have := num_back (pre := [120, 121]) (post := [122]) HN0.out HN1.out hs hz
    rw [show ((([120, 121] : List UInt8).length : Nat) : Int) = 2 from rfl] at this
    rw [this]
    refine Prod.ext rfl (Prod.ext ?_ rfl)
    show (2 : Int) + ((putL (foldN n)).length : Int) = ((putL (foldN n)).length : Int) + 2
    omega
  have HC : Hid (∀ s : ByteArray, s.data.toList = (putS n).data.toList.take ((putS n).size - 1) → getN s 0 = (0, 0, 4)) := fun s hs => num_cut HN0.out HN1.out hs
  generalize putS n = T at *
  go_wp2_with fail
  have hX : (({ data := #[120, 121] } : ByteArray) ++ T ++ ({ data := #[122] } : ByteArray)).data.toList = [120, 121] ++ (T.data.toList ++ [122]) := by simp [ByteArray.data_append]
  have hXz : (({ data := #[120, 121] } : ByteArray) ++ T ++ ({ data := #[122] } : ByteArray)).size ≤ 8000 := by
    rw [Lib.size_eq, hX, List.length_append, List.length_append, ← Lib.size_eq]; simp; omega
  refine (impl_get _ 2 _ (Nat.le_trans hXz (by unfold maxLen; omega)) (by omega) (HG.out.below HB3.out)).mono ?_
  rintro e w4 ⟨rfl, hb4⟩
  rw [HK.out _ hX hXz]
  have HB4 := hide (HB3.out.trans (hb4.mono HB3.out.size))
  clear hb4 hX hXz HB3 HK
  have hn1 : (n != n) = false := by simp
  have hfd : ∀ W, (Instr.field 26 (.agg #[.int .i64 0, .int .i64 0, .int .i64 4]) 2).run Tryd.prog W = .ok (.int .i64 4) W := fun _ => by kernel_rfl
  go_wp2_with fail
  have HB5 := hide (HB4.out.alloc HB4.out.size (Obj.cells #[Value.int IntKind.i64 n, Value.int IntKind.i64 ((T.size : Int) + 2), Value.int IntKind.i64 0] 26))
  have hX2 : (T.extract 0 (T.size - 1)).data.toList = T.data.toList.take (T.size - 1) := by rw [Lib.extract_data]; simp
  have hX2z : (T.extract 0 (T.size - 1)).size ≤ maxLen := by unfold maxLen; simp; omega
  refine (impl_get _ 0 _ hX2z (by omega) (HG.out.below HB5.out)).mono ?_
  rintro e w5 ⟨rfl, hb5⟩
  rw [HC.out _ hX2]
  have HB6 := hide (HB5.out.trans (hb5.mono HB5.out.size))
  clear hb5 hX2 hX2z HB4 HB5 HC hn1
  go_wp2_with fail
  refine (draw_text a1 len1 cap1 _ HL1.out (H1.out.below HB6.out)).mono ?_
  rintro e w6 ⟨u, rfl, hu, hb6⟩
  have HB7 := hide (HB6.out.trans (hb6.mono HB6.out.size))
  clear hb6 HB6 hfd
  have hum : u.size ≤ maxLen := by unfold maxLen; omega
  have HUM := hide hum
  clear hum
  go_wp2_with fail
  refine (impl_text u _ HUM.out).mono ?_
  rintro e w7 ⟨rfl, hb7⟩
  have HB8 := hide (HB7.out.trans (hb7.mono HB7.out.size))
  clear hb7 HB7
  go_wp2_with fail
  refine (spec_text u _ HUM.out).mono ?_
  rintro e w8 ⟨rfl, hb8⟩
  have HB9 := hide (HB8.out.trans (hb8.mono HB8.out.size))
  clear hb8 HB8
  by_cases hbig : 8000 < u.size
  · have HE := hide (textS_no hbig)
    rw [HE.out]
    go_wp2_with fail
    refine (spec_text u _ HUM.out).mono ?_
    rintro e w9 ⟨rfl, hb9⟩
    have HB10 := hide (HB9.out.trans (hb9.mono HB9.out.size))
    clear hb9
    rw [HE.out]
    go_wp2
    go_ret
    exact ⟨rfl, HB10.out⟩
  · have hu8 : u.size ≤ 8000 := by omega
    have hpz : (textS u).size = (putL (foldN (u.size : Int))).length + u.size := by rw [Lib.size_eq, text_data hu8, List.length_append, ← Lib.size_eq]
    have hpl := putL_length (foldN (u.size : Int))
    have p1 : 1 ≤ (textS u).size := by omega
    have p2 : (textS u).size ≤ 8010 := by omega
    have HBk : Hid (∀ s : ByteArray, s.data.toList = [120] ++ (textS u).data.toList → s.size ≤ 8000 → getT s 1 = (u, (s.size : Int), 0)) := fun s hs hz => text_back (pre := [120]) hu8 hs hz
    have HCt : Hid (∀ s : ByteArray, s.data.toList = (textS u).data.toList.take ((textS u).size - 1) → s.size ≤ 8000 → getT s 0 = (⟨#[]⟩, 0, 4)) := fun s hs hz => text_cut hu8 hs hz
    clear hpz hpl
    generalize textS u = P at *
    have hne : P.toList.isEmpty = false := by
      cases hx : P.toList with
      | nil => have := congrArg List.length hx; rw [ByteArray.toList_eq, ← Lib.size_eq] at this; have h0 : P.size = 0 := this; omega
      | cons a b => rfl
    by_cases h8 : 8000 < P.size + 1
    · go_wp2_with fail
      go_ret
      exact ⟨rfl, HB9.out⟩
    · go_wp2_with fail
      have hX3 : (({ data := #[120] } : ByteArray) ++ P).data.toList = [120] ++ P.data.toList := by simp [ByteArray.data_append]
      have hX3z : (({ data := #[120] } : ByteArray) ++ P).size = P.size + 1 := by rw [Lib.size_eq, hX3, List.length_append, ← Lib.size_eq]; simp; omega
      refine (impl_get_text _ 1 _ (by unfold maxLen; omega) (by omega) (HG.out.below HB9.out)).mono ?_
      rintro e w9 ⟨rfl, hb9⟩
      rw [HBk.out _ hX3 (by omega), hX3z]
      have HB10 := hide (HB9.out.trans (hb9.mono HB9.out.size))
      clear hb9 hX3 hX3z HBk
      simp only [show ((P.size + 1 : Nat) : Int) = (P.size : Int) + 1 from by omega]
      have hfd : ∀ W, (Instr.field 31 (.agg #[.string ⟨#[]⟩, .int .i64 0, .int .i64 4]) 2).run Tryd.prog W = .ok (.int .i64 4) W := fun _ => by kernel_rfl
      go_wp2_with fail
      have hX4 : (P.extract 0 (P.size - 1)).data.toList = P.data.toList.take (P.size - 1) := by rw [Lib.extract_data]; simp
      have hX4z : (P.extract 0 (P.size - 1)).size ≤ 8000 := by simp; omega
      refine (impl_get_text _ 0 _ (Nat.le_trans hX4z (by unfold maxLen; omega)) (by omega) (HG.out.below HB10.out)).mono ?_
      rintro e w10 ⟨rfl, hb10⟩
      rw [HCt.out _ hX4 hX4z]
      have HB11 := hide (HB10.out.trans (hb10.mono HB10.out.size))
      clear hb10 hX4 hX4z HCt
      go_wp2
      go_ret
      exact ⟨rfl, HB11.out⟩
end Go.Proofs.YtpnaigmaeabadaaDoor
