/- The law of DeskWords, walked. -/
import Derived.Test.YthghhccikgngjaaGreatDoorDwM
namespace Go.Proofs.YthghhccikgngjaaGreatDoor
open Go.RowKit

set_option maxRecDepth 100000 in
set_option maxHeartbeats 4000000 in
theorem law_DeskWords (w : World) :
    Calls Tryz.prog 7 #[] w fun e w' => e = .returned (.bool true) ∧ Below w.heap.size w w' := by
  have HT : Hid (∀ (w1 w2 : World), Below w.heap.size w w1 → Below w1.heap.size w1 w2 → Below w.heap.size w w2) := hide (fun w1 w2 h1 h2 => h1.trans (h2.mono h1.size))
  go_enter Tryz.func7, Tryz.ntmps7
  go_wp2_with (first
    | (go_at_call 22; (fail_if_success (have := HW16)); have HM15 := HW15; refine (held_texts 1 8 _ _ (by omega) (by omega) (HMT.out.carry HB15.out)).mono ?_; rintro e w16 ⟨rfl, hb16⟩; have HW16 := hide (HT.out _ _ HW15.out hb16); clear hb16)
    | (go_at_call 20; (fail_if_success (have := HW15)); have HM14 := HX14; refine (eq_texts deskW _ _ _ (texts_own HO14.out (by simp [deskW])) (HTW.out.carry HX14.out)).mono ?_; rintro e w15 ⟨rfl, hb15⟩; have HW15 := hide (HT.out _ _ HW14.out hb15); have HB15 : Hid (Below w11.heap.size w11 w15) := hide (HB14.out.trans (hb15.mono HB14.out.size)); clear hb15)
    | (go_at_call 19; (fail_if_success (have := HB14)); have HM12 := HB12; refine (i_deskWords w12).mono ?_; rintro e w14 ⟨v14, rfl, ho14, hb14⟩; have HO14 := hide ho14; have HB14 : Hid (Below w11.heap.size w11 w14) := hide (HB12.out.trans (hb14.mono HB12.out.size)); have HX14 : Hid (Below w3.heap.size w3 w14) := hide (HX11.out.trans (HB14.out.mono HX11.out.size)); have HW14 := hide (HT.out _ _ HW11.out HB14.out); clear hb14 ho14)
    | (go_at_call 22; (fail_if_success (have := HB12)); refine (held_texts 1 8 _ _ (by omega) (by omega) HMT.out).mono ?_; rintro e w12 ⟨rfl, hb12⟩; have HB12 := hide hb12; have HW12 := hide (HT.out _ _ HW11.out hb12); clear hb12)
    | (go_at_call 21; refine (mark_texts 1 deskW _ _ w3.heap.size (by omega) (by simp [deskW]) (texts_own HO6.out (by simp [deskW])) (own_at HO6.out)).mono ?_; rintro e w11 ⟨rfl, ht11, hg11⟩; have HMT : Hid (TextsAt w11 v5 (marks 1 8)) := hide ht11; have HX11 : Hid (Below w3.heap.size w3 w11) := hide (HX6.out.grown hg11 HX6.out.size (fun k hk => own_row HO6.out k hk)); have HW11 : Hid (Below w.heap.size w w11) := hide (HW6.out.grown hg11 HW6.out.size (fun k hk => Nat.le_trans HW3.out.size (own_row HO6.out k hk))); clear ht11 hg11)
    | (go_at_call 20; (fail_if_success (have := HW6)); refine (eq_texts deskW _ _ _ (texts_own HO5.out (by simp [deskW])) (HTW.out.carry HX5.out)).mono ?_; rintro e w6 ⟨rfl, hb6⟩; have HO6 := hide (own_below HO5.out hb6); have HX6 := hide (HX5.out.trans (hb6.mono HX5.out.size)); have HW6 := hide (HT.out _ _ HW5.out hb6); clear hb6)
    | (go_at_call 19; (fail_if_success (have := HX5)); refine (i_deskWords w3).mono ?_; rintro e w5 ⟨v5, rfl, ho5, hb5⟩; have HO5 := hide ho5; have HX5 := hide hb5; have HW5 := hide (HT.out _ _ HW3.out hb5); clear hb5 ho5)
    | (go_at_call 18; refine (s_deskWords w).mono ?_; rintro e w3 ⟨v3, rfl, ho3, hb3⟩; have HTW := hide (texts_own (ls := deskW) ho3 (by simp [deskW])); have HW3 := hide hb3; clear hb3 ho3))
  go_ret
  exact ⟨rfl, HW16.out⟩
end Go.Proofs.YthghhccikgngjaaGreatDoor
