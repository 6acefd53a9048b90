/- DeskPlan, both sides, and its law. -/
import Derived.Test.YtolbcoginmaboaaDoorQB48
import Derived.Test.YtolbcoginmaboaaDoorQB49
namespace Go.Proofs.YtolbcoginmaboaaDoor
open Go.RowKit
set_option linter.unusedSimpArgs false
set_option linter.unusedVariables false

/-- the desk's plan as a text -/
def deskT : ByteArray := ba [114, 101, 99, 32, 120, 46, 97, 62, 98, 123, 97, 115, 107, 40, 105, 110, 116, 41, 46, 98, 62, 99, 123, 97, 115, 107, 40, 105, 110, 116, 41, 46, 99, 62, 98, 123, 115, 97, 121, 40, 116, 101, 120, 116, 41, 46, 98, 62, 97, 123, 115, 97, 121, 40, 116, 101, 120, 116, 41, 46, 120, 125, 125, 125, 44, 115, 116, 111, 112, 40, 110, 111, 110, 101, 41, 46, 98, 62, 99, 123, 115, 116, 111, 112, 40, 110, 111, 110, 101, 41, 46, 101, 110, 100, 125, 125]
theorem deskT_sz : deskT.size ≤ maxLen := by unfold deskT; rw [sz_ba]; simp [maxLen]
theorem plan_field (p : Option Addr) (n c : Nat) (C : Int) (W : World) : (Instr.field 30 (.agg #[.slice p n c, .int .i64 C]) 0).run Tryd.prog W = .ok (.slice p n c) W := by kernel_rfl
set_option maxRecDepth 100000 in
theorem i_deskPlan (w : World) (hsw : SortW w) : Calls Tryd.prog 26 #[] w fun e w' => ∃ v ns C, e = .returned v ∧ NdOwn w' w.heap.size v ns ∧ Below w.heap.size w w' ∧ RdAns false deskT ns C := by
  have HC := hide (i_planRead deskT w deskT_sz hsw)
  clear hsw
  have hfd := plan_field
  go_enter Tryd.func26, Tryd.ntmps26
  go_wp2_with (first | (go_at_call 14; go_must (refine Calls.mono HC.out ?_; rintro e w1 ⟨v, ns, C, rfl, h1⟩; obtain ⟨p1, c1, rfl⟩ := owns_shape h1.1; have H1 := hide h1; clear h1)))
  go_ret
  exact ⟨_, ns, C, rfl, H1.out⟩
set_option maxRecDepth 100000 in
theorem s_deskPlan (w : World) : Calls Tryd.prog 25 #[] w fun e w' => ∃ v ns C, e = .returned v ∧ NdOwn w' w.heap.size v ns ∧ Below w.heap.size w w' ∧ RdAns false deskT ns C := by
  have HC := hide (s_planRead deskT w deskT_sz)
  have hfd := plan_field
  go_enter Tryd.func25, Tryd.ntmps25
  go_wp2_with (first | (go_at_call 13; go_must (refine Calls.mono HC.out ?_; rintro e w1 ⟨v, ns, C, rfl, h1⟩; obtain ⟨p1, c1, rfl⟩ := owns_shape h1.1; have H1 := hide h1; clear h1)))
  go_ret
  exact ⟨_, ns, C, rfl, H1.out⟩
set_option maxRecDepth 100000 in
set_option maxHeartbeats 8000000 in
theorem law_DeskPlan (w : World) (hsw : SortW w) :
    Calls Tryd.prog 7 #[] w fun e w' => e = .returned (.bool true) ∧ Below w.heap.size w w' := by
  have HSW := hide hsw
  have HT : Hid (∀ (w1 w2 : World), Below w.heap.size w w1 → Below w1.heap.size w1 w2 → Below w.heap.size w w2) := hide (fun w1 w2 h1 h2 => h1.trans (h2.mono h1.size))
  obtain ⟨T, C, hTL, hu⟩ := rd_ex false deskT
  have HU := hide hu
  have HML : Hid (T.length ≤ 100000) := hide (by omega)
  have HLEN : Hid (1 + T.length * 5 ≤ 5900000) := hide (by omega)
  clear hsw hu hTL
  go_enter Tryd.func7, Tryd.ntmps7
  go_wp2_with (first
    | (go_at_call 28; (fail_if_success (have := HW16)); have HM15 := HW15; refine (held_nodes 1 T.length (.slice ps5 T.length cs5) w15 (by omega) HLEN.out ((HMT.out.carry HB15.out).up HB15.out.size)).mono ?_; rintro e w16 ⟨rfl, hb16⟩; have HW16 := hide (HT.out _ _ HW15.out hb16); clear hb16)
    | (go_at_call 12; (fail_if_success (have := HW15)); have HM14 := HX14; refine (eq_nodes T (.slice ps14 T.length cs14) (.slice ps3 T.length cs3) w14 (own_slat HS14.out HML.out) ((HM3.out.carry HX14.out).up HX14.out.size)).mono ?_; rintro e w15 ⟨rfl, hb15⟩; have HW15 := hide (HT.out _ _ HW14.out hb15); have HB15 : Hid (Below w11.heap.size w11 w15) := hide (HB14.out.trans (hb15.mono HB14.out.size)); clear hb15)
    | (go_at_call 26; (fail_if_success (have := HB14)); have HM12 := HB12; refine (i_deskPlan w12 (HSW.out.carry HW12.out)).mono ?_; rintro e w14 ⟨v14, T14, C14, rfl, hs14, hb14, hr14⟩; obtain ⟨e14, f14⟩ := HU.out _ _ hr14; subst e14 f14; obtain ⟨ps14, cs14, rfl⟩ := owns_shape hs14; clear hr14; have HS14 := hide hs14; have HB14 : Hid (Below w11.heap.size w11 w14) := hide (HB12.out.trans (hb14.mono HB12.out.size)); have HX14 : Hid (Below w3.heap.size w3 w14) := hide (HX11.out.trans (HB14.out.mono HX11.out.size)); have HW14 := hide (HT.out _ _ HW11.out HB14.out); clear hb14 hs14)
    | (go_at_call 28; (fail_if_success (have := HB12)); refine (held_nodes 1 T.length (.slice ps5 T.length cs5) w11 (by omega) HLEN.out HMT.out).mono ?_; rintro e w12 ⟨rfl, hb12⟩; have HB12 := hide hb12; have HW12 := hide (HT.out _ _ HW11.out hb12); clear hb12)
    | (go_at_call 27; refine (mark_nodes 1 T (.slice ps5 T.length cs5) w6 w3.heap.size (by omega) HLEN.out (own_slat HS6.out HML.out) (own_at HS6.out)).mono ?_; rintro e w11 ⟨rfl, hs11, hg11⟩; have ha11 : Apart w6 w11 (vblocks (.slice ps5 T.length cs5)) := grownBy_apart hg11; have HMT := hide hs11; have HF6 := hide (owns_fresh HS6.out); have HX11 : Hid (Below w3.heap.size w3 w11) := hide (HX6.out.trans (ha11.below HX6.out.size (fun b hb => by have := HF6.out.lo b hb; omega))); have HW11 := hide (HW6.out.trans (ha11.below HW6.out.size (fun b hb => by have := HF6.out.lo b hb; have := HW3.out.size; omega))); clear hs11 ha11 hg11)
    | (go_at_call 12; (fail_if_success (have := HW6)); refine (eq_nodes T (.slice ps5 T.length cs5) (.slice ps3 T.length cs3) w5 (own_slat HS5.out HML.out) ((HM3.out.carry HX5.out).up HX5.out.size)).mono ?_; rintro e w6 ⟨rfl, hb6⟩; have HS6 := hide (NdOwn.below HS5.out hb6); have HX6 := hide (HX5.out.trans (hb6.mono HX5.out.size)); have HW6 := hide (HT.out _ _ HW5.out hb6); clear hb6)
    | (go_at_call 26; (fail_if_success (have := HX5)); refine (i_deskPlan w3 (HSW.out.carry HW3.out)).mono ?_; rintro e w5 ⟨v5, T5, C5, rfl, hs5, hb5, hr5⟩; obtain ⟨e5, f5⟩ := HU.out _ _ hr5; subst e5 f5; obtain ⟨ps5, cs5, rfl⟩ := owns_shape hs5; clear hr5; have HS5 := hide hs5; have HX5 := hide hb5; have HW5 := hide (HT.out _ _ HW3.out hb5); clear hb5 hs5)
    | (go_at_call 25; refine (s_deskPlan w).mono ?_; rintro e w3 ⟨v3, T3, C3, rfl, hs3, hb3, hr3⟩; obtain ⟨e3, f3⟩ := HU.out _ _ hr3; subst e3 f3; obtain ⟨ps3, cs3, rfl⟩ := owns_shape hs3; clear hr3; have HM3 := hide (own_slat hs3 HML.out); have HW3 := hide hb3; clear hb3 hs3))
  go_ret
  exact ⟨rfl, HW16.out⟩
end Go.Proofs.YtolbcoginmaboaaDoor
