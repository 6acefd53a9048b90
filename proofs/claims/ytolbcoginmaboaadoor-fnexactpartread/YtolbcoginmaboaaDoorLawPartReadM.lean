/- The law of PartRead, walked. -/
import Derived.Test.YtolbcoginmaboaaDoorQB48
import Derived.Test.YtolbcoginmaboaaDoorQB49
namespace Go.Proofs.YtolbcoginmaboaaDoor
open Go.RowKit

set_option maxRecDepth 100000 in
set_option maxHeartbeats 8000000 in
theorem law_PartRead (s : ByteArray) (w : World) (hs : s.size ≤ maxLen) (hsw : SortW w) :
    Calls Tryd.prog 6 #[.string s] w fun e w' => e = .returned (.bool true) ∧ Below w.heap.size w w' := by
  have HSZ := hide hs
  have HSW := hide hsw
  have HT : Hid (∀ (w1 w2 : World), Below w.heap.size w w1 → Below w1.heap.size w1 w2 → Below w.heap.size w w2) := hide (fun w1 w2 h1 h2 => h1.trans (h2.mono h1.size))
  obtain ⟨T, C, hTL, hu⟩ := rd_ex true s
  have HU := hide hu
  have HML : Hid (T.length ≤ 100000) := hide (by omega)
  have HLEN : Hid (1 + T.length * 5 ≤ 5900000) := hide (by omega)
  unfold maxLen at hs
  clear hsw hu hTL
  by_cases h20 : 1048576 < s.size
  · go_enter Tryd.func6, Tryd.ntmps6
    go_wp2_with fail
    go_ret
    exact ⟨rfl, Below.refl _ _⟩
  · go_enter Tryd.func6, Tryd.ntmps6
    go_wp2_with (first
      | (go_at_call 24; (fail_if_success (have := HW16)); have HM15 := HW15; refine (held_partOut 1 T.length C (.slice ps5 T.length cs5) w15 (by omega) HLEN.out ((HMT.out.carry HB15.out).up HB15.out.size)).mono ?_; rintro e w16 ⟨rfl, hb16⟩; have HW16 := hide (HT.out _ _ HW15.out hb16); clear hb16)
      | (go_at_call 22; (fail_if_success (have := HW15)); have HM14 := HX14b; refine (eq_partOut T C (.slice ps14 T.length cs14) (.slice ps3 T.length cs3) (w14.alloc (.cells #[.slice ps14 T.length cs14, .int .i64 C] 36)) (own_slat (NdOwn.below HS14.out (malloc1 _ _)) HML.out) ((HM3.out.carry HX14b.out).up HX14b.out.size)).mono ?_; rintro e w15 ⟨rfl, hb15⟩; have HW15 := hide (HT.out _ _ HW14b.out hb15); have HB15 : Hid (Below w11.heap.size w11 w15) := hide (HB14b.out.trans (hb15.mono HB14b.out.size)); have p0 := (HG11.out.keep (below_apart HB15.out) (by simp)).cell 0 _ rfl; have p1 := (HG11.out.keep (below_apart HB15.out) (by simp)).cell 1 _ rfl; clear hb15)
      | (go_at_call 21; (fail_if_success (have := HB14b)); have HM12 := HB12; refine (i_partRead s w12 HSZ.out (HSW.out.carry HW12.out)).mono ?_; rintro e w14 ⟨v14, T14, C14, rfl, hs14, hb14, hr14⟩; obtain ⟨e14, f14⟩ := HU.out _ _ hr14; subst e14 f14; obtain ⟨ps14, cs14, rfl⟩ := owns_shape hs14; clear hr14; have HS14 := hide hs14; have HB14b : Hid (Below w11.heap.size w11 (w14.alloc (.cells #[.slice ps14 T.length cs14, .int .i64 C] 36))) := hide ((HB12.out.trans (hb14.mono HB12.out.size)).trans ((malloc1 _ _).mono (by have := HB12.out.size; have := hb14.size; omega))); have HX14b : Hid (Below w3.heap.size w3 (w14.alloc (.cells #[.slice ps14 T.length cs14, .int .i64 C] 36))) := hide (HX11.out.trans (HB14b.out.mono HX11.out.size)); have HW14b := hide (HT.out _ _ HW11.out HB14b.out); have a0 := (HA11.out.keep (below_apart HB14b.out) (by simp)).cell 0 _ rfl; have a1 := (HA11.out.keep (below_apart HB14b.out) (by simp)).cell 1 _ rfl; clear hb14 hs14)
      | (go_at_call 24; (fail_if_success (have := HB12)); refine (held_partOut 1 T.length C (.slice ps5 T.length cs5) w11 (by omega) HLEN.out HMT.out).mono ?_; rintro e w12 ⟨rfl, hb12⟩; have HB12 := hide hb12; have HW12 := hide (HT.out _ _ HW11.out hb12); clear hb12)
      | (go_at_call 23; refine (mark_partOut 1 T C (.slice ps5 T.length cs5) w6 (w3.heap.size + 1) (by omega) HLEN.out (own_slat HS6.out HML.out) (own_at HS6.out)).mono ?_; rintro e w11 ⟨rfl, hs11, W11, hw11, hg11⟩; have ha11 : Apart w6 w11 (vblocks (.slice ps5 T.length cs5)) := (by have := (below_apart hw11).trans (grownBy_apart hg11); rwa [List.nil_append] at this); have HMT := hide hs11; have HF6 := hide (owns_fresh HS6.out); have HX11 : Hid (Below w3.heap.size w3 w11) := hide (HX6.out.trans (ha11.below HX6.out.size (fun b hb => by have := HF6.out.lo b hb; omega))); have HW11 := hide (HW6.out.trans (ha11.below HW6.out.size (fun b hb => by have := HF6.out.lo b hb; have := HW3.out.size; omega))); have HG11 := hide (HG6.out.keep ha11 (fun h => absurd (HF5.out.hi _ h) (by omega))); have HA11 := hide (HA6.out.keep ha11 (fun h => absurd (HF6.out.lo _ h) (by omega))); have g0 := (HG11.out).cell 0 _ rfl; have g1 := (HG11.out).cell 1 _ rfl; clear hs11 ha11 hw11 hg11)
      | (go_at_call 22; (fail_if_success (have := HW6)); refine (eq_partOut T C (.slice ps5 T.length cs5) (.slice ps3 T.length cs3) (w5.alloc (.cells #[.slice ps5 T.length cs5, .int .i64 C] 36)) (own_slat (NdOwn.below HS5.out (malloc1 _ _)) HML.out) ((HM3.out.carry HX5b.out).up HX5b.out.size)).mono ?_; rintro e w6 ⟨rfl, hb6⟩; have HB56 : Hid (Below w5.heap.size w5 w6) := hide ((malloc1 _ _).trans (hb6.mono (by simp))); have HS6 := hide (NdOwn.below HS5.out HB56.out); have HX6 := hide (HX5b.out.trans (hb6.mono HX5b.out.size)); have HW6 := hide (HT.out _ _ HW5b.out hb6); have HG6 := hide (HG5.out.keep (below_apart hb6) (by simp)); have HA6 := hide (HA5b.out.keep (below_apart hb6) (by simp)); have g0 := (HG6.out).cell 0 _ rfl; have g1 := (HG6.out).cell 1 _ rfl; clear hb6)
      | (go_at_call 21; (fail_if_success (have := HX5b)); refine (i_partRead s (w3.alloc (.cells #[.slice ps3 T.length cs3, .int .i64 C] 36)) HSZ.out (HSW.out.carry HW3b.out)).mono ?_; rintro e w5 ⟨v5, T5, C5, rfl, hs5, hb5, hr5⟩; obtain ⟨e5, f5⟩ := HU.out _ _ hr5; subst e5 f5; obtain ⟨ps5, cs5, rfl⟩ := owns_shape hs5; clear hr5; have HS5 : Hid (NdOwn w5 (w3.heap.size + 1) (.slice ps5 T.length cs5) T) := hide (by have := hs5; simpa using this); have hl5 : w3.heap.size + 1 ≤ w5.heap.size := (by have := hb5.size; simpa using this); have HF5 := hide (owns_fresh HS5.out); have HX5b : Hid (Below w3.heap.size w3 (w5.alloc (.cells #[.slice ps5 T.length cs5, .int .i64 C] 36))) := hide (((malloc1 _ _).trans (hb5.mono (by simp))).trans ((malloc1 _ _).mono (by omega))); have HW5b := hide (HT.out _ _ (HT.out _ _ HW3b.out hb5) (malloc1 w5 (.cells #[.slice ps5 T.length cs5, .int .i64 C] 36))); have HG5 := hide (BoxL.new w5 [.slice ps5 T.length cs5, .int .i64 C] 36); have HA5b := hide ((HA3.out.keep (below_apart hb5) (by simp)).keep (below_apart (malloc1 w5 (.cells #[.slice ps5 T.length cs5, .int .i64 C] 36))) (by simp)); have a0 := (HA5b.out).cell 0 _ rfl; have a1 := (HA5b.out).cell 1 _ rfl; clear hb5 hs5)
      | (go_at_call 20; refine (s_partRead s w HSZ.out).mono ?_; rintro e w3 ⟨v3, T3, C3, rfl, hs3, hb3, hr3⟩; obtain ⟨e3, f3⟩ := HU.out _ _ hr3; subst e3 f3; obtain ⟨ps3, cs3, rfl⟩ := owns_shape hs3; clear hr3; have HM3 := hide (own_slat hs3 HML.out); have HW3 := hide hb3; have HW3b := hide (HT.out _ _ HW3.out (malloc1 w3 (.cells #[.slice ps3 T.length cs3, .int .i64 C] 36))); have HA3 := hide (BoxL.new w3 [.slice ps3 T.length cs3, .int .i64 C] 36); clear hb3 hs3))
    go_ret
    exact ⟨rfl, HW16.out⟩
end Go.Proofs.YtolbcoginmaboaaDoor
