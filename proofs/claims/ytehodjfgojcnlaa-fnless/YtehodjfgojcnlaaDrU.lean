/- The draws: what TapeLess and SmallerOf are asked; tapes held against each other. -/
import Derived.Test.YtehodjfgojcnlaaDrT
import Derived.Test.YtehodjfgojcnlaaGrown
import Derived.Test.YtehodjfgojcnlaaSmR
namespace Go.Proofs.Ytehodjfgojcnlaa
open Go.RowKit
attribute [local go_sem ↓] Go.wp_at_zero Go.wp_at_succ

theorem src_cases {w : World} {base : Nat} {v : Value} {l : List Int} (h : NumOwn w base v l) : (v = .slice none 0 0 ∧ l = []) ∨ ∃ M b o c, v = .slice (some ⟨b, o, none⟩) M c ∧ l.length = M := by
  rcases h.src with h | ⟨b, o, c, e, -, -⟩
  · exact .inl h
  · exact .inr ⟨l.length, b, o, c, e, rfl⟩
set_option maxRecDepth 100000 in
set_option maxHeartbeats 1000000 in
theorem draw_small (ao : Option Addr) (len cap : Nat) (w : World) (hl : len ≤ 1048576) (hr : ArgRow w ao len) :
    Calls Try.prog 5 #[.slice ao len cap] w fun e w' => ∃ (v : Value) (l : List Int), e = .returned v ∧ NumSl w' w'.heap.size v l ∧ l.length ≤ 14 ∧ Below w.heap.size w w' := by
  have HR := hide hr
  clear hr
  go_enter Try.func5, Try.ntmps5
  go_wp2_with (first
    | (go_at_call 12; refine (source_any ao len cap _ hl HR.out).mono ?_; rintro e w1 ⟨rfl, hs1, hb1⟩; have HS1 := hide hs1; have HB1 := hide hb1; clear hs1 hb1)
    | (go_at_call 13; refine (tape_any _ ao len cap _ hl HS1.out).mono ?_; rintro e w2 ⟨v2, l2, rfl, ho2, hl2, -, ha2⟩; have HO2 := hide ho2; have HB2 : Hid (Below w.heap.size w w2) := hide (HB1.out.trans (ha2.below HB1.out.size (by simp))); obtain ⟨p2, c2, rfl⟩ := owns_shape ho2; clear ho2 ha2))
  go_ret
  exact ⟨_, l2, rfl, HO2.out.sl (by omega), hl2, HB2.out⟩
set_option maxRecDepth 100000 in
set_option maxHeartbeats 4000000 in
theorem draw_less (ao : Option Addr) (len cap : Nat) (w : World) (hl : len ≤ 1048576) (hr : ArgRow w ao len) :
    Calls Try.prog 4 #[.slice ao len cap] w fun e w' => ∃ (u v : Value) (a b : List Int), e = .returned (.tuple #[u, v]) ∧ NumSl w' w'.heap.size u a ∧ NumSl w' w'.heap.size v b ∧ a.length ≤ 14 ∧ b.length ≤ 14 ∧ Below w.heap.size w w' := by
  obtain ⟨i0, hi, hz0, hz1, hz2⟩ := info_parts Try.infoI64
  have HI := hide (And.intro hi (And.intro hz0 (And.intro hz1 hz2)))
  have HR := hide hr
  clear hr hi hz0 hz1 hz2
  go_enter Try.func4, Try.ntmps4
  go_wp2_with (first
    | (go_at_call 12; refine (source_any ao len cap _ hl HR.out).mono ?_; rintro e w1 ⟨rfl, hs1, hb1⟩; have HS1 := hide hs1; have HB1 := hide hb1; have HZ1 : Hid (w.heap.size < w1.heap.size) := hide hs1.lt; clear hs1 hb1)
    | ((fail_if_success (have := HO2)); go_at_call 13; refine (tape_any _ ao len cap _ hl HS1.out).mono ?_; rintro e w2 ⟨v2, l2, rfl, ho2, hl2, hs2, ha2⟩; have HO2 := hide ho2; have HS2 := hide hs2; have HB2 : Hid (Below w.heap.size w w2) := hide (HB1.out.trans (ha2.below HB1.out.size (by simp))); have hsr := src_cases ho2; clear ho2 ha2 hs2; rcases hsr with ⟨rfl, rfl⟩ | ⟨M, b2, o2, c2, rfl, hM⟩))
  · go_wp2_with (first
      | (go_at_call 14; refine (n_one _ ao len cap _ _ (by omega) (by omega) hl HS2.out).mono ?_; rintro e w3 ⟨b, rfl, hs, hg⟩; have HO3 : Hid (NumOwn w3 w1.heap.size (.slice none 0 0) []) := hide (owns_keep HO2.out (Apart.grown hg) (fun b hb hm => by simp at hm; have := (owns_fresh HO2.out).lo b hb; have := HZ1.out; omega)); have HS3 := hide hs; have HB3 : Hid (Below w.heap.size w w3) := hide (HB2.out.trans ((Apart.grown hg).below HB2.out.size (by simp))); clear hs hg; cases b)
      | (go_at_call 13; refine (tape_any _ ao len cap _ hl HS3.out).mono ?_; rintro e w4 ⟨v4, l4, rfl, ho4, hl4, hs4, ha4⟩; have HO4 := hide ho4; have HO4a : Hid (NumOwn w4 w1.heap.size (.slice none 0 0) []) := hide (owns_keep HO3.out ha4 (fun b hb hm => by simp at hm; have := (owns_fresh HO3.out).lo b hb; have := HZ1.out; omega)); have HB4 : Hid (Below w.heap.size w w4) := hide (HB3.out.trans (ha4.below HB3.out.size (by simp))); obtain ⟨p4, c4, rfl⟩ := owns_shape ho4; clear ho4 ha4 hs4)
      | (at_builtin; refine wpList_append_own_none rfl (.tmp 13) (.tmp 14) 23 rfl w3.heap.size 2 i0 1 Try.underlying23 HI.out.1 (.slice (some ⟨w3.heap.size, 0, none⟩) 0 0) 0 [] rfl (owns_empty _ _ _ _ _ (Nat.le_refl _) (mheap_new _ _ _ rfl)) rfl ?_))
    · go_ret2
      exact ⟨_, _, [], l4, rfl, HO4a.out.sl (by simp), HO4.out.sl (by omega), by simp, hl4, HB4.out⟩
    · go_ret2
      exact ⟨.slice none 0 0, .slice (some ⟨w3.heap.size, 0, none⟩) 0 0, [], [], rfl, ⟨none, 0, rfl, Nat.le_refl _, Nat.zero_le _, fun h => absurd rfl h⟩, ⟨_, 0, rfl, Nat.le_refl _, Nat.zero_le _, fun h => absurd rfl h⟩, by simp, by simp, HB3.out.trans ((malloc1 w3 _).mono HB3.out.size)⟩
  · rw [hM] at hl2
    have HM := hide hM
    clear hM
    have HNU : Hid (∀ W, NumOwn W w1.heap.size (.slice (some ⟨b2, o2, none⟩) M c2) l2 → b2 < W.heap.size ∧ Nums W b2 o2 l2) := hide (fun W hW => by
      rcases hW.src with ⟨h, _⟩ | ⟨b, o, c, h, hb, hn⟩
      · injection h with h1 _ _; cases h1
      · injection h with h1 _ _
        injection h1 with h1
        injection h1 with h1 h2 _
        subst h1
        subst h2
        exact ⟨hb, hn⟩)
    go_wp2_with (first
      | (go_at_call 14; refine (n_one _ ao len cap _ _ (by omega) (by omega) hl HS2.out).mono ?_; rintro e w3 ⟨b, rfl, hs, hg⟩; have HO3 : Hid (NumOwn w3 w1.heap.size (.slice (some ⟨b2, o2, none⟩) M c2) l2) := hide (owns_keep HO2.out (Apart.grown hg) (fun b hb hm => by simp at hm; have := (owns_fresh HO2.out).lo b hb; have := HZ1.out; omega)); have HS3 := hide hs; have HB3 : Hid (Below w.heap.size w w3) := hide (HB2.out.trans ((Apart.grown hg).below HB2.out.size (by simp))); clear hs hg; cases b)
      | (go_at_call 13; refine (tape_any _ ao len cap _ hl HS3.out).mono ?_; rintro e w4 ⟨v4, l4, rfl, ho4, hl4, hs4, ha4⟩; have HO4 := hide ho4; have HO4a : Hid (NumOwn w4 w1.heap.size (.slice (some ⟨b2, o2, none⟩) M c2) l2) := hide (owns_keep HO3.out ha4 (fun b hb hm => by simp at hm; have := (owns_fresh HO3.out).lo b hb; have := HZ1.out; omega)); have HB4 : Hid (Below w.heap.size w w4) := hide (HB3.out.trans (ha4.below HB3.out.size (by simp))); obtain ⟨p4, c4, rfl⟩ := owns_shape ho4; clear ho4 ha4 hs4)
      | (at_builtin; refine wpList_append_own _ rfl (.tmp 13) (.tmp 14) 23 rfl w3.heap.size 2 i0 (.int .i64 0) 1 8 Try.underlying23 HI.out.1 HI.out.2.1 HI.out.2.2.1 HI.out.2.2.2 rfl (by decide) (.slice (some ⟨w3.heap.size, 0, none⟩) 0 0) 0 [] rfl (owns_empty _ _ _ _ _ (Nat.le_refl _) (mheap_new _ _ _ rfl)) ⟨b2, o2, none⟩ M c2 (numV l2) rfl (by rw [numV_len, HM.out]) (fun j u hj => by obtain ⟨hj', e⟩ := numV_get hj; rw [addr_to, e]; exact ((HNU.out _ HO3.out).2.carry (HNU.out _ HO3.out).1 (malloc1 w3 _)) j hj') (numV_one _) (by unfold maxLen; omega) (by omega) (by simp) ?_; intro v5 w5 hown5 hgr5 _; have HO5 : Hid (NumOwn w5 w3.heap.size v5 l2) := hide (by have := hown5; rw [Nat.zero_add, List.nil_append] at this; unfold NumOwn; rw [HM.out]; exact this); have HE5 : Hid (Below w3.heap.size w3 w5) := hide ((malloc1 w3 _).trans ((grownBy_apart hgr5).below (by simp) (by simp [vblocks, cellBlocks]))); have hw5 := hown5; rw [Nat.zero_add, List.nil_append] at hw5; obtain ⟨p5, c5, rfl⟩ := owns_shape hw5; clear hown5 hgr5 hw5; by_cases hM0 : 0 < M)
      | (go_at_call 15; refine (n_any _ ao len cap _ _ (by omega) (by omega) hl (HS3.out.apart (below_apart HE5.out) (by simp))).mono ?_; rintro e w6 ⟨r, rfl, hr0, hr1, hs, hg⟩; have HO6 : Hid (NumOwn w6 w3.heap.size (.slice p5 M c5) l2) := hide (owns_keep HO5.out (Apart.grown hg) (fun b hb hm => by simp at hm; have := (owns_fresh HO5.out).lo b hb; have := HS3.out.lt; omega)); have HO6a : Hid (NumOwn w6 w1.heap.size (.slice (some ⟨b2, o2, none⟩) M c2) l2) := hide (owns_keep (owns_below HO3.out HE5.out) (Apart.grown hg) (fun b hb hm => by simp at hm; have := (owns_fresh HO3.out).lo b hb; have := HZ1.out; omega)); have HB6 : Hid (Below w.heap.size w w6) := hide ((HB3.out.trans (HE5.out.mono HB3.out.size)).trans ((Apart.grown hg).below (by have := HE5.out.size; have := HB3.out.size; omega) (by simp))); obtain ⟨g5, hg5, hlo5⟩ : ∃ g5, p5 = some ⟨g5, 0, none⟩ ∧ w3.heap.size ≤ g5 := (by rcases HO6.out.2 with ⟨_, h1⟩ | ⟨g', cap', cur', hv', hb', _⟩; (rw [HM.out] at h1; omega); (injection hv' with hv' _ _; exact ⟨g', hv', hb'⟩)); subst hg5; have d1 : w6.cell? ⟨g5, M - 1, none⟩ = some (.int .i64 (l2[M - 1]'(by rw [HM.out]; omega))) := owns_cell HO6.out (by rw [HM.out]) (M - 1) _ (numV_at (by rw [HM.out]; omega)); have hfz := fun j => (owns_fresh HO6.out).free g5 (by simp [vblocks, cellBlocks]) j; clear hs hg))
    · go_ret2
      exact ⟨_, _, l2, l4, rfl, HO4a.out.sl (by rw [HM.out]; omega), HO4.out.sl (by omega), by rw [HM.out]; exact hl2, hl4, HB4.out⟩
    · go_ret2
      have hst := (World.ownsRow.stored (by have := HO6.out; unfold NumOwn at this; rw [HM.out] at this; exact this) (M - 1) (.int .i64 r)).1
      have e : (numV l2).set (M - 1) (.int .i64 r) = numV (l2.set (M - 1) r) := by unfold numV; rw [List.map_set]
      rw [e] at hst
      have hb : NumOwn (w6.setCell ⟨g5, M - 1, none⟩ (.int .i64 r)) w3.heap.size (.slice (some ⟨g5, 0, none⟩) M c5) (l2.set (M - 1) r) := by unfold NumOwn; rw [List.length_set, HM.out]; exact hst
      have ha : NumOwn (w6.setCell ⟨g5, M - 1, none⟩ (.int .i64 r)) w1.heap.size (.slice (some ⟨b2, o2, none⟩) M c2) l2 := owns_keep HO6a.out (setCell_apart w6 g5 (M - 1) (.int .i64 r)) (fun b hb hm => by
        simp at hm
        have := (owns_fresh HO3.out).hi b hb
        omega)
      exact ⟨_, _, l2, l2.set (M - 1) r, rfl, ha.sl (by rw [HM.out]; omega), hb.sl (by rw [List.length_set, HM.out]; omega), by rw [HM.out]; exact hl2, by rw [List.length_set, HM.out]; exact hl2, HB6.out.setCell (p := ⟨g5, M - 1, none⟩) (by have := HB3.out.size; show w.heap.size ≤ g5; omega) _⟩
    · go_ret2
      exact ⟨_, _, l2, l2, rfl, (show NumOwn w5 w1.heap.size (.slice (some ⟨b2, o2, none⟩) M c2) l2 from owns_below HO3.out HE5.out).sl (by rw [HM.out]; omega), HO5.out.sl (by rw [HM.out]; omega), by rw [HM.out]; exact hl2, by rw [HM.out]; exact hl2, HB3.out.trans (HE5.out.mono HB3.out.size)⟩
def sameB (a b : List Int) : Bool := decide (a = b)
theorem same_no {a b : List Int} {k : Nat} (h1 : k < a.length) (h2 : k < b.length) (h : a[k] ≠ b[k]) : sameB a b = false := by
  unfold sameB
  rw [decide_eq_false_iff_not]
  intro e
  subst e
  exact h rfl
theorem same_len {a b : List Int} (h : a.length ≠ b.length) : sameB a b = false := by
  unfold sameB
  rw [decide_eq_false_iff_not]
  intro e
  exact h (by rw [e])
theorem same_yes {a b : List Int} (h : a.length = b.length) (hall : ∀ j (h1 : j < a.length) (h2 : j < b.length), a[j] = b[j]) : sameB a b = true := by
  unfold sameB
  rw [decide_eq_true_eq]
  exact List.ext_getElem h (fun j h1 h2 => hall j h1 h2)
set_option maxRecDepth 100000 in
set_option maxHeartbeats 1000000 in
theorem lw_nums (a b : List Int) (u v : Value) (w : World) (_ha : a.length ≤ 1000) (_hb : b.length ≤ 1000) (hu : NumSl w w.heap.size u a) (hv : NumSl w w.heap.size v b) :
    Calls Try.prog 11 #[u, v] w fun e w' => e = .returned (.bool (sameB a b)) ∧ Below w.heap.size w w' := by
  obtain ⟨ax, cx, rfl, hcx, hmx, hrx⟩ := hu
  obtain ⟨ay, cy, rfl, hcy, hmy, hry⟩ := hv
  have HRX := hide hrx
  have HRY := hide hry
  by_cases hL : a.length = b.length
  · obtain ⟨L, hA⟩ : ∃ L, a.length = L := ⟨_, rfl⟩
    have hB : b.length = L := by rw [← hL]; exact hA
    rw [hA] at hcx hmx ⊢
    rw [hB] at hcy ⊢
    have HL := hide hA
    have HM := hide hB
    clear hrx hry hA hB hL
    go_enter Try.func11, Try.ntmps11
    go_wp2_with fail
    go_loopw [5] (fun i wr => ∃ k : Nat, k ≤ L ∧ i = .int .i64 k ∧ (∀ j (h1 : j < a.length) (h2 : j < b.length), j < k → a[j] = b[j]) ∧ Below w.heap.size w wr) (fun i _ => L - (intOf i).toNat)
    case atStart => exact ⟨0, Nat.zero_le _, rfl, fun j _ _ h => absurd h (by omega), Below.refl _ _⟩
    case round =>
      obtain ⟨k, hk, rfl, hall, hbel⟩ := hrel
      have HA := hide hall
      have HBEL := hide hbel
      clear hall hbel
      by_cases hlt : k < L
      · have hkx : k < a.length := by rw [HL.out]; exact hlt
        have hky : k < b.length := by rw [HM.out]; exact hlt
        obtain ⟨g, o, rfl, hgB, hrow⟩ := HRX.out (by intro h; rw [h] at hkx; simp at hkx)
        obtain ⟨g', o', rfl, hgB', hrow'⟩ := HRY.out (by intro h; rw [h] at hky; simp at hky)
        have c0 := (hrow.carry hgB HBEL.out) k hkx
        have d0 := (hrow'.carry hgB' HBEL.out) k hky
        obtain ⟨x, hx⟩ : ∃ x, a[k] = x := ⟨_, rfl⟩
        obtain ⟨y, hy⟩ : ∃ y, b[k] = y := ⟨_, rfl⟩
        rw [hx] at c0
        rw [hy] at d0
        have HXX := hide hx
        have HYY := hide hy
        clear hrow hrow' hx hy
        by_cases hxy : x = y
        · subst hxy
          go_wp2_with fail
          go_region
          go_wp2_with fail
          all_goals
            go_roundw
            case rel =>
              refine ⟨k + 1, hlt, by go_num, fun j h1 h2 hjk => ?_, by first | exact HBEL.out | exact HBEL.out.drew⟩
              by_cases e : j = k
              · subst e; rw [HXX.out, HYY.out]
              · exact HA.out j h1 h2 (by omega)
            case measure => simp [intOf]; omega
        · have HNO : Hid (sameB a b = false) := hide (same_no hkx hky (by rw [HXX.out, HYY.out]; exact hxy))
          have hne : (x == y) = false := beq_eq_false_iff_ne.2 hxy
          go_wp2_with fail
          go_region
          go_wp2_with fail
          all_goals
            go_ret
            exact ⟨ret_bool HNO.out, by first | exact HBEL.out | exact HBEL.out.drew⟩
      · obtain rfl : L = k := by omega
        have HY : Hid (sameB a b = true) := hide (same_yes (by rw [HL.out, HM.out]) (fun j h1 h2 => HA.out j h1 h2 (by rw [HL.out] at h1; exact h1)))
        go_wp2_with fail
        go_ret
        exact ⟨ret_bool HY.out, HBEL.out⟩
  · have HNO : Hid (sameB a b = false) := hide (same_len hL)
    obtain ⟨A, hA⟩ : ∃ A, a.length = A := ⟨_, rfl⟩
    obtain ⟨B, hB⟩ : ∃ B, b.length = B := ⟨_, rfl⟩
    rw [hA, hB] at hL
    rw [hA] at hmx ⊢
    rw [hB] at hmy ⊢
    have hne : ((A : Int) == (B : Int)) = false := beq_eq_false_iff_ne.2 (by omega)
    clear hA hB hrx hry
    go_enter Try.func11, Try.ntmps11
    go_wp2_with fail
    go_ret
    exact ⟨ret_bool HNO.out, Below.refl _ _⟩
end Go.Proofs.Ytehodjfgojcnlaa
