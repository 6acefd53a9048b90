/- The law of promise 11, walked. -/
import Derived.Test.YtehodjfgojcnlaaDrU
import Derived.Test.YtehodjfgojcnlaaLsM
import Derived.Deep.RegionWith
namespace Go.Proofs.Ytehodjfgojcnlaa
open Go.RowKit
attribute [local go_sem ↓] Go.wp_at_zero Go.wp_at_succ

set_option maxRecDepth 100000 in
set_option maxHeartbeats 40000000 in
theorem law_Less (ao : Option Addr) (len cap : Nat) (mo : Option Addr) (mlen mcap : Nat) (w : World) (hlm : len ≤ maxLen) (hmm : mlen ≤ maxLen) (hr : ArgRow w ao len) (hmr : ArgRow w mo mlen) :
    Calls Try.prog 3 #[.slice ao len cap, .slice mo mlen mcap] w fun e w' => e = .returned (.bool true) ∧ Below w.heap.size w w' := by
  have HR := hide hr
  have HMR := hide hmr
  have hl2 : len ≤ 9223372036854775807 := by unfold maxLen at hlm; omega
  have hm2 : mlen ≤ 9223372036854775807 := by unfold maxLen at hmm; omega
  have HL : Hid (∀ (w1 w2 : World), Below w.heap.size w w1 → Below w1.heap.size w1 w2 → Below w.heap.size w w2) := hide (fun w1 w2 h1 h2 => h1.trans (h2.mono h1.size))
  clear hr hmr hlm hmm
  by_cases hb1 : 1048576 < len
  · go_enter Try.func3, Try.ntmps3
    go_wp2_with fail
    go_ret
    exact ⟨rfl, Below.refl _ _⟩
  by_cases hb2 : 1048576 < mlen
  · go_enter Try.func3, Try.ntmps3
    go_wp2_with fail
    go_ret
    exact ⟨rfl, Below.refl _ _⟩
  have hl : len ≤ 1048576 := by omega
  have hml : mlen ≤ 1048576 := by omega
  have hd1 : decide (1048576 < (len : Int)) = false := by simp; omega
  have hd2 : decide (1048576 < (mlen : Int)) = false := by simp; omega
  go_enter Try.func3, Try.ntmps3
  go_wp2_with (first
    | (go_at_call 4; refine (draw_less ao len cap _ hl HR.out).mono ?_; rintro e w1 ⟨u1, v1, a, b, rfl, hu1, hv1, ha, hb, hw1⟩; have HU1 := hide hu1; have HV1 := hide hv1; have HW1 := hide hw1; obtain ⟨pa, ca, rfl⟩ := hu1.shape; obtain ⟨pb, cb, rfl⟩ := hv1.shape; clear hu1 hv1 hw1)
    | (go_at_call 5; refine (draw_small mo mlen mcap _ hml (HMR.out.below HW1.out)).mono ?_; rintro e w2 ⟨v2, t, rfl, hs2, ht2, hw2⟩; have HT2 := hide hs2; have HX2 := hide hw2; have HW2 := hide (HL.out _ _ HW1.out hw2); obtain ⟨pt, ct, rfl⟩ := hs2.shape; clear hs2 hw2)
    | (go_at_call 6; refine (i_smallerOf t _ _ HT2.out).mono ?_; rintro e w3 ⟨v3, us, rfl, hs3, hw3⟩; have HS3 := hide hs3.read; have HX3 := hide hw3; have HW3 := hide (HL.out _ _ HW2.out hw3); obtain ⟨p3, c3, rfl⟩ := owns_shape hs3.own; clear hs3 hw3)
    | (go_at_call 7; refine (s_smallerOf t _ _ (HT2.out.on HX3.out)).mono ?_; rintro e w4 ⟨v4, ws, rfl, hs4, hw4⟩; have HS4 := hide hs4.read; have HX4 := hide hw4; have HW4 := hide (HL.out _ _ HW3.out hw4); obtain ⟨p4, c4, rfl⟩ := owns_shape hs4.own; clear hs4 hw4))
  have hX14 : Below w1.heap.size w1 w4 := (HX2.out.trans (HX3.out.mono HX2.out.size)).trans (HX4.out.mono (by have := HX2.out.size; have := HX3.out.size; omega))
  have hX24 : Below w2.heap.size w2 w4 := HX3.out.trans (HX4.out.mono HX3.out.size)
  have hA4 := HU1.out.on hX14
  have hB4 := HV1.out.on hX14
  have hT4 := HT2.out.on hX24
  have HR3 := hide (HS3.out.on HX4.out)
  obtain ⟨q, hq⟩ : ∃ q, tlB a b = q := ⟨_, rfl⟩
  obtain ⟨q', hq'⟩ : ∃ q, tlB b a = q := ⟨_, rfl⟩
  obtain ⟨qa, hqa⟩ : ∃ q, tapeB a = q := ⟨_, rfl⟩
  obtain ⟨qb, hqb⟩ : ∃ q, tapeB b = q := ⟨_, rfl⟩
  obtain ⟨sm, hsm⟩ : ∃ q, sameB a b = q := ⟨_, rfl⟩
  have HAB : Hid (∀ W, Below w4.heap.size w4 W → Calls Try.prog 8 #[.slice pa a.length ca, .slice pb b.length cb] W fun e w' => e = .returned (.bool q) ∧ Below W.heap.size W w') := hide (fun W hW => by rw [← hq]; exact i_tapeLess a b _ _ W (hA4.on hW) (hB4.on hW))
  have HBA : Hid (∀ W, Below w4.heap.size w4 W → Calls Try.prog 8 #[.slice pb b.length cb, .slice pa a.length ca] W fun e w' => e = .returned (.bool q') ∧ Below W.heap.size W w') := hide (fun W hW => by rw [← hq']; exact i_tapeLess b a _ _ W (hB4.on hW) (hA4.on hW))
  have HSB : Hid (∀ W, Below w4.heap.size w4 W → Calls Try.prog 9 #[.slice pa a.length ca, .slice pb b.length cb] W fun e w' => e = .returned (.bool q) ∧ Below W.heap.size W w') := hide (fun W hW => by rw [← hq]; exact s_tapeLess a b _ _ W (hA4.on hW) (hB4.on hW))
  have HRA : Hid (∀ W, Below w4.heap.size w4 W → Calls Try.prog 10 #[.slice pa a.length ca] W fun e w' => e = .returned (.bool qa) ∧ Below W.heap.size W w') := hide (fun W hW => by rw [← hqa]; exact s_tape a _ W (hA4.on hW))
  have HRB : Hid (∀ W, Below w4.heap.size w4 W → Calls Try.prog 10 #[.slice pb b.length cb] W fun e w' => e = .returned (.bool qb) ∧ Below W.heap.size W w') := hide (fun W hW => by rw [← hqb]; exact s_tape b _ W (hB4.on hW))
  have HLW : Hid (∀ W, Below w4.heap.size w4 W → Calls Try.prog 11 #[.slice pa a.length ca, .slice pb b.length cb] W fun e w' => e = .returned (.bool sm) ∧ Below W.heap.size W w') := hide (fun W hW => by rw [← hsm]; exact lw_nums a b _ _ W (by omega) (by omega) (hA4.on hW) (hB4.on hW))
  have HAN : Hid (qa = true → qb = true → sm = false → (q == q') = false) := hide (fun h1 h2 h3 => by
    rw [← hq, ← hq']
    refine tl_anti (by rw [hqa]; exact h1) (by rw [hqb]; exact h2) (fun e => ?_)
    rw [← hsm] at h3
    unfold sameB at h3
    rw [decide_eq_false_iff_not] at h3
    exact h3 e)
  have HT4 := hide hT4
  obtain ⟨K, hK⟩ : ∃ K, us.length = K := ⟨_, rfl⟩
  have hK2 : ws.length = K := by rw [HS4.out.len, ← HR3.out.len]; exact hK
  obtain ⟨p3', c3', e3, hK9, ho3⟩ := HR3.out.out
  obtain ⟨p4', c4', e4, -, ho4⟩ := HS4.out.out
  injection e3 with e31 _ e33
  injection e4 with e41 _ e43
  subst e31
  subst e33
  subst e41
  subst e43
  have HO3 := hide ho3
  have HO4 := hide ho4
  have HB : Hid (Below w4.heap.size w4 w4) := hide (Below.refl _ _)
  rw [hK] at hK9
  rw [hK, hK2]
  have HK := hide hK
  have HK2 := hide hK2
  clear hX14 hX24 hA4 hB4 hT4 hq hq' hqa hqb hsm ho3 ho4 hK hK2
  have hself : (q != q) = false := by simp
  have HCS : Hid (qa = false ∨ (qa = true ∧ qb = false) ∨ (qa = true ∧ qb = true ∧ sm = true) ∨ (qa = true ∧ qb = true ∧ sm = false ∧ (q == q') = false)) := hide (by
    cases qa
    · exact .inl rfl
    · cases qb
      · exact .inr (.inl ⟨rfl, rfl⟩)
      · cases sm
        · exact .inr (.inr (.inr ⟨rfl, rfl, rfl, HAN.out rfl rfl rfl⟩))
        · exact .inr (.inr (.inl ⟨rfl, rfl, rfl⟩)))
  clear HAN
  rcases HCS.out with rfl | ⟨rfl, rfl⟩ | ⟨rfl, rfl, rfl⟩ | ⟨rfl, rfl, rfl, hqq⟩
  all_goals clear HCS
  all_goals
    go_wp2_with (first
      | ((fail_if_success (have := HM1)); go_at_call 8; refine (HAB.out _ HB.out).mono ?_; rintro e wn ⟨rfl, hbn⟩; have HB := hide (HB.out.trans (hbn.mono HB.out.size)); clear hbn; have HM1 : Hid True := hide trivial)
      | (go_at_call 9; refine (HSB.out _ HB.out).mono ?_; rintro e wn ⟨rfl, hbn⟩; have HB := hide (HB.out.trans (hbn.mono HB.out.size)); clear hbn)
      | ((fail_if_success (have := HM2)); go_at_call 10; refine (HRA.out _ HB.out).mono ?_; rintro e wn ⟨rfl, hbn⟩; have HB := hide (HB.out.trans (hbn.mono HB.out.size)); clear hbn; have HM2 : Hid True := hide trivial)
      | (go_at_call 10; refine (HRB.out _ HB.out).mono ?_; rintro e wn ⟨rfl, hbn⟩; have HB := hide (HB.out.trans (hbn.mono HB.out.size)); clear hbn)
      | (go_at_call 11; refine (HLW.out _ HB.out).mono ?_; rintro e wn ⟨rfl, hbn⟩; have HB := hide (HB.out.trans (hbn.mono HB.out.size)); clear hbn)
      | ((fail_if_success (have := HM3)); go_at_call 8; refine (HAB.out _ HB.out).mono ?_; rintro e wn ⟨rfl, hbn⟩; have HB := hide (HB.out.trans (hbn.mono HB.out.size)); clear hbn; have HM3 : Hid True := hide trivial)
      | (go_at_call 8; refine (HBA.out _ HB.out).mono ?_; rintro e wn ⟨rfl, hbn⟩; have HB := hide (HB.out.trans (hbn.mono HB.out.size)); clear hbn))
    go_loopw [10] (fun i wr => ∃ k : Nat, k ≤ K ∧ i = .int .i64 k ∧ Below w4.heap.size w4 wr) (fun i _ => K - (intOf i).toNat)
    case atStart => exact ⟨0, Nat.zero_le _, rfl, HB.out⟩
    case round =>
      obtain ⟨k, hk, rfl, hbel⟩ := hrel
      have HC := hide hbel
      clear hbel
      by_cases hlt : k < K
      · have hk1 : k < us.length := by rw [HK.out]; exact hlt
        have hk2 : k < ws.length := by rw [HK2.out]; exact hlt
        obtain ⟨x, hx⟩ : ∃ x, us[k]? = some x := ⟨us[k], List.getElem?_eq_getElem hk1⟩
        obtain ⟨y, hy⟩ : ∃ y, ws[k]? = some y := ⟨ws[k], List.getElem?_eq_getElem hk2⟩
        obtain ⟨l, hll⟩ : ∃ l, (smallB t)[k]? = some l := ⟨(smallB t)[k]'(by rw [← HR3.out.len]; exact hk1), List.getElem?_eq_getElem _⟩
        obtain ⟨g1, rfl, hg1, hc1⟩ := HO3.out (by intro h; rw [h] at hk1; simp at hk1)
        obtain ⟨g2, rfl, hg2, hc2⟩ := HO4.out (by intro h; rw [h] at hk2; simp at hk2)
        have HC1 : Hid (∀ W, Below w4.heap.size w4 W → W.cell? ⟨g1, k, none⟩ = some x ∧ W.cell? ⟨g2, k, none⟩ = some y) := hide (fun W hW => ⟨(hW.cell (p := ⟨g1, k, none⟩) hg1).trans (hc1 k x hx), (hW.cell (p := ⟨g2, k, none⟩) hg2).trans (hc2 k y hy)⟩)
        have hs1 := HR3.out.rows k x l hx hll
        have hs2 := HS4.out.rows k y l hy hll
        obtain ⟨hr1, hr2⟩ := small_less (List.mem_of_getElem? hll)
        have hl12 := tape_len hr1
        have HE1 : Hid (∀ W, Below w4.heap.size w4 W → Calls Try.prog 11 #[x, y] W fun e w' => e = .returned (.bool true) ∧ Below W.heap.size W w') := hide (fun W hW => by
          have := lw_nums l l x y W (by omega) (by omega) (hs1.on hW) (hs2.on hW)
          rw [show sameB l l = true by unfold sameB; simp] at this
          exact this)
        have HE2 : Hid (∀ W, Below w4.heap.size w4 W → Calls Try.prog 8 #[x, .slice pt t.length ct] W fun e w' => e = .returned (.bool true) ∧ Below W.heap.size W w') := hide (fun W hW => by
          have := i_tapeLess l t x _ W (hs1.on hW) (HT4.out.on hW)
          rw [hr2] at this
          exact this)
        have HE3 : Hid (∀ W, Below w4.heap.size w4 W → Calls Try.prog 10 #[x] W fun e w' => e = .returned (.bool true) ∧ Below W.heap.size W w') := hide (fun W hW => by
          have := s_tape l x W (hs1.on hW)
          rw [hr1] at this
          exact this)
        obtain ⟨px, cx, hxe⟩ := hs1.shape
        obtain ⟨py, cy, hye⟩ := hs2.shape
        obtain ⟨Nl, hNl⟩ : ∃ N, l.length = N := ⟨_, rfl⟩
        rw [hNl] at hxe hye
        subst hxe
        subst hye
        obtain ⟨c1, c2⟩ := HC1.out wr HC.out
        clear hs1 hs2 hx hy hll hc1 hc2 hr1 hr2 hNl hl12
        go_wp2_with fail
        go_region_law (first
          | (go_simp; go_at_call 11; refine (HE1.out _ (by first | exact HC.out | exact HC.out.drew | exact HC.out.drew.drew)).mono ?_; rintro e wa ⟨rfl, hba⟩; have HC := hide (show Below w4.heap.size w4 wa from Below.trans (by first | exact HC.out | exact HC.out.drew | exact HC.out.drew.drew) (hba.mono (by simpa using HC.out.size))); obtain ⟨d1, d2⟩ := HC1.out wa HC.out; clear hba)
          | (go_simp; go_at_call 8; refine (HE2.out _ (by first | exact HC.out | exact HC.out.drew | exact HC.out.drew.drew)).mono ?_; rintro e wa ⟨rfl, hba⟩; have HC := hide (show Below w4.heap.size w4 wa from Below.trans (by first | exact HC.out | exact HC.out.drew | exact HC.out.drew.drew) (hba.mono (by simpa using HC.out.size))); obtain ⟨d1, d2⟩ := HC1.out wa HC.out; clear hba)
          | (go_simp; go_at_call 10; refine (HE3.out _ (by first | exact HC.out | exact HC.out.drew | exact HC.out.drew.drew)).mono ?_; rintro e wa ⟨rfl, hba⟩; have HC := hide (show Below w4.heap.size w4 wa from Below.trans (by first | exact HC.out | exact HC.out.drew | exact HC.out.drew.drew) (hba.mono (by simpa using HC.out.size))); clear hba))
        all_goals
          go_wp2_with fail
          go_roundw
          case rel => exact ⟨k + 1, hlt, by go_num, HC.out⟩
          case measure => simp [intOf]; omega
      · go_wp2_with fail
        go_ret
        exact ⟨rfl, HL.out _ _ HW4.out HC.out⟩
end Go.Proofs.Ytehodjfgojcnlaa
