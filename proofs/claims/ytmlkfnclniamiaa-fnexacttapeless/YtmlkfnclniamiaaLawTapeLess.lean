/- The law of TapeLess, walked. -/
import Derived.Test.YtmlkfnclniamiaaTlI
import Derived.Deep.RegionWith
namespace Go.Proofs.Ytmlkfnclniamiaa
open Go.RowKit

set_option maxRecDepth 100000 in
set_option maxHeartbeats 4000000 in
theorem law_TapeLess (l : List Int) (la : Option Addr) (lc : Nat) (m : List Int) (ma : Option Addr) (mc : Nat) (w : World) (_ : ∀ z ∈ l, -9223372036854775808 ≤ z ∧ z ≤ 9223372036854775807) (hll : l.length ≤ maxLen) (hlr : l ≠ [] → ∃ b o, la = some ⟨b, o, none⟩ ∧ b < w.heap.size ∧ Nums w b o l) (_ : ∀ z ∈ m, -9223372036854775808 ≤ z ∧ z ≤ 9223372036854775807) (hml : m.length ≤ maxLen) (hmr : m ≠ [] → ∃ b o, ma = some ⟨b, o, none⟩ ∧ b < w.heap.size ∧ Nums w b o m) :
    Calls Try.prog 8 #[.slice la l.length lc, .slice ma m.length mc] w fun e w' => e = .returned (.bool true) ∧ Below w.heap.size w w' := by
  have HLR : Hid (∀ w', Below w.heap.size w w' → l ≠ [] → ∃ b o, la = some ⟨b, o, none⟩ ∧ b < w'.heap.size ∧ Nums w' b o l) := hide (fun w' hb hne => by
    obtain ⟨b, o, e, hlt, hr⟩ := hlr hne
    exact ⟨b, o, e, Nat.lt_of_lt_of_le hlt hb.size, hr.carry hlt hb⟩)
  have HMR : Hid (∀ w', Below w.heap.size w w' → m ≠ [] → ∃ b o, ma = some ⟨b, o, none⟩ ∧ b < w'.heap.size ∧ Nums w' b o m) := hide (fun w' hb hne => by
    obtain ⟨b, o, e, hlt, hr⟩ := hmr hne
    exact ⟨b, o, e, Nat.lt_of_lt_of_le hlt hb.size, hr.carry hlt hb⟩)
  have HL : Hid (∀ (w1 w2 : World), Below w.heap.size w w1 → Below w1.heap.size w1 w2 → Below w.heap.size w w2) := hide (fun w1 w2 h1 h2 => h1.trans (h2.mono h1.size))
  have hl2 : l.length ≤ 9223372036854775807 := by unfold maxLen at hll; omega
  have hm2 : m.length ≤ 9223372036854775807 := by unfold maxLen at hml; omega
  clear hlr hll hmr hml
  obtain ⟨q, hq⟩ : ∃ q, tlB l m = q := ⟨_, rfl⟩
  have HSP : Hid (∀ (u v : Value) (W : World), NumSl W W.heap.size u l → NumSl W W.heap.size v m → Calls Try.prog 32 #[u, v] W fun e w' => e = .returned (.bool q) ∧ Below W.heap.size W w') := hide (fun u v W hu hv => by rw [← hq]; exact s_tapeLess l m u v W hu hv)
  have HIM : Hid (∀ (u v : Value) (W : World), NumSl W W.heap.size u l → NumSl W W.heap.size v m → Calls Try.prog 33 #[u, v] W fun e w' => e = .returned (.bool q) ∧ Below W.heap.size W w') := hide (fun u v W hu hv => by rw [← hq]; exact i_tapeLess l m u v W hu hv)
  clear hq
  by_cases hbig : 1048576 < l.length
  · go_enter Try.func8, Try.ntmps8
    go_wp2_with fail
    go_ret
    exact ⟨rfl, Below.refl _ _⟩
  by_cases hbig2 : 1048576 < m.length
  · go_enter Try.func8, Try.ntmps8
    go_wp2_with fail
    go_ret
    exact ⟨rfl, Below.refl _ _⟩
  have hll : l.length ≤ 1048576 := by omega
  have hml : m.length ≤ 1048576 := by omega
  go_enter Try.func8, Try.ntmps8
  go_wp2_with (first
    | (go_at_call 31; (fail_if_success (have := HW10)); refine (eq_nums m _ _ _ ((((HS5.out.on HB6.out).on HB7.out).on HB8.out).on HB9.out) HS9.out).mono ?_; rintro e w10 ⟨rfl, hb10⟩; have HW10 := hide (HL.out _ _ HW9.out hb10); clear hb10)
    | (go_at_call 29; (fail_if_success (have := HW9)); refine (to_nums m ma mc _ hml (HMR.out _ HW8.out)).mono ?_; rintro e w9 ⟨v9, rfl, hs9, -, hb9⟩; have HS9 := hide hs9; obtain ⟨p9, c9, rfl⟩ := hs9.shape; have HB9 := hide hb9; have HW9 := hide (HL.out _ _ HW8.out hb9); clear hb9 hs9)
    | (go_at_call 31; (fail_if_success (have := HW8)); refine (eq_nums l _ _ _ (((HS4.out.on HB5.out).on HB6.out).on HB7.out) HS7.out).mono ?_; rintro e w8 ⟨rfl, hb8⟩; have HB8 := hide hb8; have HW8 := hide (HL.out _ _ HW7.out hb8); clear hb8)
    | (go_at_call 29; (fail_if_success (have := HW7)); refine (to_nums l la lc _ hll (HLR.out _ HW6.out)).mono ?_; rintro e w7 ⟨v7, rfl, hs7, -, hb7⟩; have HS7 := hide hs7; obtain ⟨p7, c7, rfl⟩ := hs7.shape; have HB7 := hide hb7; have HW7 := hide (HL.out _ _ HW6.out hb7); clear hb7 hs7)
    | (go_at_call 33; refine (HIM.out _ _ _ (HS4.out.on HB5.out) HS5.out).mono ?_; rintro e w6 ⟨rfl, hb6⟩; have HB6 := hide hb6; have HW6 := hide (HL.out _ _ HW5.out hb6); clear hb6)
    | (go_at_call 29; (fail_if_success (have := HW5)); refine (to_nums m ma mc _ hml (HMR.out _ HW4.out)).mono ?_; rintro e w5 ⟨v5, rfl, hs5, -, hb5⟩; have HS5 := hide hs5; obtain ⟨p5, c5, rfl⟩ := hs5.shape; have HB5 := hide hb5; have HW5 := hide (HL.out _ _ HW4.out hb5); clear hb5 hs5)
    | (go_at_call 29; (fail_if_success (have := HW4)); refine (to_nums l la lc _ hll (HLR.out _ HW3.out)).mono ?_; rintro e w4 ⟨v4, rfl, hs4, -, hb4⟩; have HS4 := hide hs4; obtain ⟨p4, c4, rfl⟩ := hs4.shape; have HW4 := hide (HL.out _ _ HW3.out hb4); clear hb4 hs4)
    | (go_at_call 32; refine (HSP.out _ _ _ (HS1.out.on HB2.out) HS2.out).mono ?_; rintro e w3 ⟨rfl, hb3⟩; have HW3 := hide (HL.out _ _ HW2.out hb3); clear hb3)
    | (go_at_call 29; (fail_if_success (have := HW2)); refine (to_nums m ma mc _ hml (HMR.out _ HW1.out)).mono ?_; rintro e w2 ⟨v2, rfl, hs2, -, hb2⟩; have HS2 := hide hs2; obtain ⟨p2, c2, rfl⟩ := hs2.shape; have HB2 := hide hb2; have HW2 := hide (HL.out _ _ HW1.out hb2); clear hb2 hs2)
    | (go_at_call 29; (fail_if_success (have := HW1)); refine (to_nums l la lc _ hll (HLR.out _ (Below.refl _ _))).mono ?_; rintro e w1 ⟨v1, rfl, hs1, -, hb1⟩; have HS1 := hide hs1; obtain ⟨p1, c1, rfl⟩ := hs1.shape; have HW1 := hide hb1; clear hb1 hs1))
  go_ret
  exact ⟨rfl, HW10.out⟩
end Go.Proofs.Ytmlkfnclniamiaa
