/- The law of SmallerOf, walked. -/
import Derived.Test.YtmlkfnclniamiaaSmP
import Derived.Deep.RegionWith
namespace Go.Proofs.Ytmlkfnclniamiaa
open Go.RowKit

theorem flat_bound {c : Nat} : ∀ {ls : List (List Int)}, (∀ l ∈ ls, l.length ≤ c) → ls.flatten.length ≤ ls.length * c
  | [], _ => by simp
  | l :: ls, h => by
    rw [List.flatten_cons, List.length_append, List.length_cons, Nat.add_mul]
    have h1 := h l (by simp)
    have h2 := flat_bound (ls := ls) (fun x hx => h x (by simp [hx]))
    omega
theorem one_row {n k : Nat} {t l : List Int} (h : l ∈ oneP n t k) : l.length ≤ t.length := by
  unfold oneP at h
  split at h
  · cases h
  · rename_i x hx
    split at h
    · cases h
    · rename_i ins hins
      simp at h
      subst h
      have h1 := pick_len hins
      have h2 := (List.getElem?_eq_some_iff.1 hx).1
      unfold turnT
      simp
      omega
theorem small_row {n : Nat} {t l : List Int} (h : l ∈ smallTo t n) : l.length ≤ t.length := by
  unfold smallTo passTo at h
  obtain ⟨p, _, hp⟩ := List.mem_flatMap.1 h
  obtain ⟨k, _, hk⟩ := List.mem_flatMap.1 hp
  exact one_row hk
theorem small_sz (t : List Int) : (smallB t).length ≤ 48 ∧ (smallB t).flatten.length ≤ 576 := by
  unfold smallB
  split
  · rename_i h
    have h12 := tape_len h
    have h1 := small_len t 4
    have h2 : (smallTo t 4).length ≤ 48 := by omega
    refine ⟨h2, ?_⟩
    have h3 := flat_bound (c := 12) (ls := smallTo t 4) (fun l hl => by have := small_row hl; omega)
    omega
  · simp
theorem small_rows (t : List Int) : ∀ l ∈ smallB t, l.length ≤ 4294967296 := fun l hl => by
  obtain ⟨j, hj, rfl⟩ := List.getElem_of_mem hl
  have := row_le (List.getElem?_eq_getElem hj)
  have := (small_sz t).2
  omega
theorem RRO.read {w : World} {base : Nat} {v : Value} {us : List Value} {t : List Int} (h : RRO w base v us (smallB t)) : RRR w v us (smallB t) := h.rd (by rw [h.len]; have := (small_sz t).1; omega) (small_rows t)
set_option maxRecDepth 100000 in
set_option maxHeartbeats 8000000 in
theorem law_SmallerOf (l : List Int) (la : Option Addr) (lc : Nat) (w : World) (_ : ∀ z ∈ l, -9223372036854775808 ≤ z ∧ z ≤ 9223372036854775807) (hll : l.length ≤ maxLen) (hlr : l ≠ [] → ∃ b o, la = some ⟨b, o, none⟩ ∧ b < w.heap.size ∧ Nums w b o l) :
    Calls Try.prog 9 #[.slice la l.length lc] w fun e w' => e = .returned (.bool true) ∧ Below w.heap.size w w' := by
  have HLR : Hid (∀ w', Below w.heap.size w w' → l ≠ [] → ∃ b o, la = some ⟨b, o, none⟩ ∧ b < w'.heap.size ∧ Nums w' b o l) := hide (fun w' hb hne => by
    obtain ⟨b, o, e, hlt, hr⟩ := hlr hne
    exact ⟨b, o, e, Nat.lt_of_lt_of_le hlt hb.size, hr.carry hlt hb⟩)
  have HL : Hid (∀ (w1 w2 : World), Below w.heap.size w w1 → Below w1.heap.size w1 w2 → Below w.heap.size w w2) := hide (fun w1 w2 h1 h2 => h1.trans (h2.mono h1.size))
  have hl2 : l.length ≤ 9223372036854775807 := by unfold maxLen at hll; omega
  have HSZ := hide (small_sz l)
  obtain ⟨F, hF⟩ : ∃ F, (smallB l).flatten.length = F := ⟨_, rfl⟩
  have hF9 : F ≤ 576 := by rw [← hF]; exact HSZ.out.2
  have HF := hide hF
  clear hlr hll hF
  by_cases hbig : 1048576 < l.length
  · go_enter Try.func9, Try.ntmps9
    go_wp2_with fail
    go_ret
    exact ⟨rfl, Below.refl _ _⟩
  have hll : l.length ≤ 1048576 := by omega
  go_enter Try.func9, Try.ntmps9
  go_wp2_with (first
    | (go_at_call 39; (fail_if_success (have := HW15)); refine (held_numss 1 (smallB l) _ us4 _ (by rw [HF.out]; omega) (HM10.out.on HB1014.out)).mono ?_; rw [HF.out]; rintro e w15 ⟨rfl, hb15⟩; have HW15 := hide (HL.out _ _ HW14.out hb15); clear hb15)
    | (go_at_call 36; (fail_if_success (have := HW14)); refine (eq_numss (smallB l) _ _ us13 us2 _ HS13.out.read (HR2.out.on HX13.out)).mono ?_; rintro e w14 ⟨rfl, hb14⟩; have HB1014 : Hid (Below w10.heap.size w10 w14) := hide (HB1013.out.trans (hb14.mono HB1013.out.size)); have HW14 := hide (HL.out _ _ HW13.out hb14); clear hb14)
    | (go_at_call 35; (fail_if_success (have := HW13)); refine (i_smallerOf l _ _ HS12.out).mono ?_; rintro e w13 ⟨v13, us13, rfl, hs13, hb13⟩; have HS13 := hide hs13; obtain ⟨p13, c13, rfl⟩ := owns_shape hs13.own; have HB1013 : Hid (Below w10.heap.size w10 w13) := hide (HB1012.out.trans (hb13.mono HB1012.out.size)); have HX13 : Hid (Below w2.heap.size w2 w13) := hide (HX12.out.trans (hb13.mono HX12.out.size)); have HW13 := hide (HL.out _ _ HW12.out hb13); clear hb13 hs13)
    | (go_at_call 29; (fail_if_success (have := HW12)); refine (to_nums l la lc _ hll (HLR.out _ HW11.out)).mono ?_; rintro e w12 ⟨v12, rfl, hs12, -, hb12⟩; have HS12 := hide hs12; obtain ⟨p12, c12, rfl⟩ := hs12.shape; have HB1012 : Hid (Below w10.heap.size w10 w12) := hide (HB1011.out.trans (hb12.mono HB1011.out.size)); have HX12 : Hid (Below w2.heap.size w2 w12) := hide (HX11.out.trans (hb12.mono HX11.out.size)); have HW12 := hide (HL.out _ _ HW11.out hb12); clear hb12 hs12)
    | (go_at_call 39; (fail_if_success (have := HW11)); refine (held_numss 1 (smallB l) _ us4 _ (by rw [HF.out]; omega) HM10.out).mono ?_; rw [HF.out]; rintro e w11 ⟨rfl, hb11⟩; have HB1011 := hide hb11; have HX11 : Hid (Below w2.heap.size w2 w11) := hide (HX10.out.trans (hb11.mono HX10.out.size)); have HW11 := hide (HL.out _ _ HW10.out hb11); clear hb11)
    | (go_at_call 38; refine (mark_numss 1 (smallB l) _ us4 _ w3.heap.size (by rw [HF.out]; omega) (by rw [HS9.out.len]; have := HSZ.out.1; omega) HS9.out).mono ?_; rw [HF.out]; rintro e w10 ⟨rfl, hm10, ha10⟩; have HM10 := hide hm10; have HLO : Hid (∀ b ∈ us4.flatMap vblocks, w3.heap.size ≤ b) := hide (fun b hb => by obtain ⟨u', hu', hb'⟩ := List.mem_flatMap.1 hb; obtain ⟨j', hj', e'⟩ := List.getElem_of_mem hu'; obtain ⟨l', _, hr'⟩ := HS9.out.row (List.getElem?_eq_some_iff.2 ⟨hj', e'⟩); exact (owns_fresh hr').lo b hb'); have HX10 : Hid (Below w2.heap.size w2 w10) := hide (HX9.out.trans (ha10.below HX9.out.size (fun b hb => Nat.le_trans HZ23.out (HLO.out b hb)))); have HW10 : Hid (Below w.heap.size w w10) := hide (HW9.out.trans (ha10.below HW9.out.size (fun b hb => Nat.le_trans (Nat.le_trans HZ02.out HZ23.out) (HLO.out b hb)))); clear hm10 ha10)
    | (go_at_call 36; (fail_if_success (have := HW9)); refine (eq_numss (smallB l) _ _ us4 us2 _ HS8.out.read (HR2.out.on HX8.out)).mono ?_; rintro e w9 ⟨rfl, hb9⟩; have HS9 := hide (HS8.out.keep hb9); have HX9 : Hid (Below w2.heap.size w2 w9) := hide (HX8.out.trans (hb9.mono HX8.out.size)); have HW9 := hide (HL.out _ _ HW8.out hb9); clear hb9)
    | (go_at_call 37; refine (mark_nums 1 l _ _ w2.heap.size (by omega) (HS3.out.on HB37.out) (HO3.out.carry HB37.out)).mono ?_; rintro e w8 ⟨rfl, -, ha8⟩; have HV3 : Hid (∀ b ∈ vblocks (.slice p3 l.length c3), w2.heap.size ≤ b ∧ b < w3.heap.size) := hide (fun b hb => ⟨(HO3.out.free b ((own_blocks rfl).2 hb)).1, (HO3.out.free b ((own_blocks rfl).2 hb)).2.1⟩); have HS8 := hide (HS7.out.apart ha8 (fun b hb hm => absurd (HV3.out b hm).2 (by have := (owns_fresh HS7.out.own).lo b hb; omega)) (fun j u hu b hb hm => absurd (HV3.out b hm).2 (by obtain ⟨l', _, hr'⟩ := HS7.out.row hu; have := (owns_fresh hr').lo b hb; omega))); have HX8 : Hid (Below w2.heap.size w2 w8) := hide (HX7.out.trans (ha8.below HX7.out.size (fun b hb => (HV3.out b hb).1))); have HW8 : Hid (Below w.heap.size w w8) := hide (HW7.out.trans (ha8.below HW7.out.size (fun b hb => Nat.le_trans HZ02.out (HV3.out b hb).1))); clear ha8)
    | (go_at_call 31; (fail_if_success (have := HW7)); refine (eq_nums l _ _ _ (HS3.out.on HB36.out) HS6.out).mono ?_; rintro e w7 ⟨rfl, hb7⟩; have HB37 : Hid (Below w3.heap.size w3 w7) := hide (HB36.out.trans (hb7.mono HB36.out.size)); have HS7 := hide (HS6r.out.keep hb7); have HX7 : Hid (Below w2.heap.size w2 w7) := hide (HX6.out.trans (hb7.mono HX6.out.size)); have HW7 := hide (HL.out _ _ HW6.out hb7); clear hb7)
    | (go_at_call 29; (fail_if_success (have := HW6)); refine (to_nums l la lc _ hll (HLR.out _ HW5.out)).mono ?_; rintro e w6 ⟨v6, rfl, hs6, -, hb6⟩; have HS6 := hide hs6; obtain ⟨p6, c6, rfl⟩ := hs6.shape; have HB36 : Hid (Below w3.heap.size w3 w6) := hide (HB35.out.trans (hb6.mono HB35.out.size)); have HS6r := hide (HS5.out.keep hb6); have HX6 : Hid (Below w2.heap.size w2 w6) := hide (HX5.out.trans (hb6.mono HX5.out.size)); have HW6 := hide (HL.out _ _ HW5.out hb6); clear hb6 hs6)
    | (go_at_call 36; (fail_if_success (have := HW5)); refine (eq_numss (smallB l) _ _ us4 us2 _ HS4.out.read (HR2.out.on HX4.out)).mono ?_; rintro e w5 ⟨rfl, hb5⟩; have HB35 : Hid (Below w3.heap.size w3 w5) := hide (HB34.out.trans (hb5.mono HB34.out.size)); have HS5 := hide (HS4.out.keep hb5); have HX5 : Hid (Below w2.heap.size w2 w5) := hide (HX4.out.trans (hb5.mono HX4.out.size)); have HW5 := hide (HL.out _ _ HW4.out hb5); clear hb5)
    | (go_at_call 35; (fail_if_success (have := HW4)); refine (i_smallerOf l _ _ HS3.out).mono ?_; rintro e w4 ⟨v4, us4, rfl, hs4, hb4⟩; have HS4 := hide hs4; obtain ⟨p4, c4, rfl⟩ := owns_shape hs4.own; have HB34 := hide hb4; have HX4 : Hid (Below w2.heap.size w2 w4) := hide (HX3.out.trans (hb4.mono HX3.out.size)); have HW4 := hide (HL.out _ _ HW3.out hb4); clear hb4 hs4)
    | (go_at_call 29; (fail_if_success (have := HW3)); refine (to_nums l la lc _ hll (HLR.out _ HW2.out)).mono ?_; rintro e w3 ⟨v3, rfl, hs3, ho3, hb3⟩; have HS3 := hide hs3; have HO3 := hide ho3; obtain ⟨p3, c3, rfl⟩ := hs3.shape; have HX3 := hide hb3; have HZ23 := hide hb3.size; have HW3 := hide (HL.out _ _ HW2.out hb3); clear hb3 hs3 ho3)
    | (go_at_call 34; refine (s_smallerOf l _ _ HS1.out).mono ?_; rintro e w2 ⟨v2, us2, rfl, hs2, hb2⟩; have HR2 := hide hs2.read; obtain ⟨p2, c2, rfl⟩ := owns_shape hs2.own; have HW2 := hide (HL.out _ _ HW1.out hb2); have HZ02 := hide HW2.out.size; clear hb2 hs2)
    | (go_at_call 29; (fail_if_success (have := HW1)); refine (to_nums l la lc _ hll (HLR.out _ (Below.refl _ _))).mono ?_; rintro e w1 ⟨v1, rfl, hs1, -, hb1⟩; have HS1 := hide hs1; obtain ⟨p1, c1, rfl⟩ := hs1.shape; have HW1 := hide hb1; clear hb1 hs1))
  go_ret
  exact ⟨rfl, HW15.out⟩
end Go.Proofs.Ytmlkfnclniamiaa
