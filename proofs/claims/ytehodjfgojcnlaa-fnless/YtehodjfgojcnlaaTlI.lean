/- TapeLess of the program and of the specification. -/
import Derived.Test.YtehodjfgojcnlaaTapeI
import Derived.Test.YtehodjfgojcnlaaGrown
namespace Go.Proofs.Ytehodjfgojcnlaa
open Go.RowKit

/-- of tapes of one length: which is less -/
def lexL : List Int → List Int → Bool
  | x :: l, y :: r => if x = y then lexL l r else decide (x < y)
  | _, _ => false
def lessB (a b : List Int) : Bool := if a.length = b.length then lexL a b else decide (a.length < b.length)
def tlB (a b : List Int) : Bool := tapeB a && (tapeB b && lessB a b)
theorem lex_same : ∀ {a b : List Int}, a.length = b.length → (∀ j (h1 : j < a.length) (h2 : j < b.length), a[j] = b[j]) → lexL a b = false
  | [], [], _, _ => rfl
  | [], _ :: _, h, _ => by simp at h
  | _ :: _, [], h, _ => by simp at h
  | x :: l, y :: r, h, hall => by
    have h0 : x = y := hall 0 (by simp) (by simp)
    rw [lexL, if_pos h0]
    exact lex_same (by simpa using h) (fun j h1 h2 => by have := hall (j + 1) (by simpa using h1) (by simpa using h2); simpa using this)
theorem lex_at : ∀ {a b : List Int} {k : Nat} (h1 : k < a.length) (h2 : k < b.length), (∀ j (h1 : j < a.length) (h2 : j < b.length), j < k → a[j] = b[j]) → a[k] ≠ b[k] → lexL a b = decide (a[k] < b[k])
  | x :: l, y :: r, 0, _, _, _, hne => by
    have hne' : x ≠ y := hne
    rw [lexL, if_neg hne']
    rfl
  | x :: l, y :: r, k + 1, h1, h2, hall, hne => by
    have h0 : x = y := hall 0 (by simp) (by simp) (by omega)
    rw [lexL, if_pos h0]
    have := lex_at (a := l) (b := r) (k := k) (by simpa using h1) (by simpa using h2) (fun j h1 h2 hj => by have := hall (j + 1) (by simpa using h1) (by simpa using h2) (by omega); simpa using this) (by simpa using hne)
    rw [this]
    rfl
theorem i_isNaN (x : Int) (w : World) : Calls Try.prog 31 #[.int .i64 x] w fun e w' => e = .returned (.bool false) ∧ w' = w := by
  go_enter Try.func31, Try.ntmps31
  go_wp2_with fail
  go_ret
  exact ⟨ret_bool (by simp), rfl⟩
def cmpZ (x y : Int) : Int := if x < y then -1 else if y < x then 1 else 0
theorem i_cmp (x y : Int) (w : World) : Calls Try.prog 29 #[.int .i64 x, .int .i64 y] w fun e w' => e = .returned (.int .i64 (cmpZ x y)) ∧ w' = w := by
  obtain ⟨z, hz⟩ : ∃ z, cmpZ x y = z := ⟨_, rfl⟩
  have HZ := hide hz
  rw [hz]
  clear hz
  by_cases h1 : x < y
  · go_enter Try.func29, Try.ntmps29
    go_wp2_with (go_at_call 31; refine (i_isNaN _ _).mono ?_; rintro e w' ⟨rfl, hw'⟩; subst w')
    go_ret
    exact ⟨by rw [← HZ.out, cmpZ, if_pos h1]; rfl, rfl⟩
  · by_cases h2 : y < x
    · go_enter Try.func29, Try.ntmps29
      go_wp2_with (go_at_call 31; refine (i_isNaN _ _).mono ?_; rintro e w' ⟨rfl, hw'⟩; subst w')
      go_ret
      exact ⟨by rw [← HZ.out, cmpZ, if_neg (by omega), if_pos (by omega)]; rfl, rfl⟩
    · go_enter Try.func29, Try.ntmps29
      go_wp2_with (go_at_call 31; refine (i_isNaN _ _).mono ?_; rintro e w' ⟨rfl, hw'⟩; subst w')
      go_ret
      exact ⟨by rw [← HZ.out, cmpZ, if_neg (by omega), if_neg (by omega)]; rfl, rfl⟩
set_option maxRecDepth 100000 in
set_option maxHeartbeats 1000000 in
theorem i_compare (a b : List Int) (u v : Value) (w : World) (hlen : a.length = b.length) (h12 : a.length ≤ 12) (hu : NumSl w w.heap.size u a) (hv : NumSl w w.heap.size v b) :
    Calls Try.prog 20 #[u, v] w fun e w' => ∃ c : Int, e = .returned (.int .i64 c) ∧ decide (c < 0) = lexL a b ∧ Below w.heap.size w w' := by
  obtain ⟨ax, cx, rfl, hcx, hmx, hrx⟩ := hu
  obtain ⟨ay, cy, rfl, hcy, hmy, hry⟩ := hv
  have HRX := hide hrx
  have HRY := hide hry
  obtain ⟨L, hL⟩ : ∃ L, a.length = L := ⟨_, rfl⟩
  have hM : b.length = L := by rw [← hlen]; exact hL
  rw [hL] at h12 hcx ⊢
  rw [hM] at hcy ⊢
  have HL := hide hL
  have HM := hide hM
  clear hrx hry hL hM hlen
  go_enter Try.func20, Try.ntmps20
  go_wp2_with fail
  go_loopw [11] (fun i wr => ∃ k : Nat, k ≤ L ∧ i = .int .i64 k ∧ (∀ j (h1 : j < a.length) (h2 : j < b.length), j < k → a[j] = b[j]) ∧ Below w.heap.size w wr) (fun i _ => L - (intOf i).toNat)
  case atStart => exact ⟨0, Nat.zero_le _, rfl, fun j _ _ h => absurd h (by omega), Below.refl _ _⟩
  case round =>
    obtain ⟨k, hk, rfl, hall, hbel⟩ := hrel
    have HA := hide hall
    have HBEL := hide hbel
    clear hall hbel
    by_cases hlt : k < L
    · have hkx : k < a.length := by rw [HL.out]; exact hlt
      have hky : k < b.length := by rw [HM.out]; exact hlt
      obtain ⟨g, o, rfl, hgB, hrow⟩ := HRX.out (by intro h; rw [h] at hkx; simp at hkx)
      obtain ⟨g', o', rfl, hgB', hrow'⟩ := HRY.out (by intro h; rw [h] at hky; simp at hky)
      have c0 := (hrow.carry hgB HBEL.out) k hkx
      have d0 := (hrow'.carry hgB' HBEL.out) k hky
      obtain ⟨x, hx⟩ : ∃ x, a[k] = x := ⟨_, rfl⟩
      obtain ⟨y, hy⟩ : ∃ y, b[k] = y := ⟨_, rfl⟩
      rw [hx] at c0
      rw [hy] at d0
      have HXX := hide hx
      have HYY := hide hy
      clear hrow hrow' hx hy
      by_cases hxy : x = y
      · subst hxy
        have hz : cmpZ x x = 0 := by unfold cmpZ; simp
        go_wp2_with (go_at_call 29; refine (i_cmp x x _).mono ?_; rw [hz]; rintro e w' ⟨rfl, hw'⟩; subst w')
        go_roundw
        case rel =>
          refine ⟨k + 1, hlt, by go_num, fun j h1 h2 hjk => ?_, HBEL.out⟩
          by_cases e : j = k
          · subst e; rw [HXX.out, HYY.out]
          · exact HA.out j h1 h2 (by omega)
        case measure => simp [intOf]; omega
      · have HLX : Hid (lexL a b = decide (x < y)) := hide (by
          have := lex_at hkx hky HA.out (by rw [HXX.out, HYY.out]; exact hxy)
          rw [HXX.out, HYY.out] at this
          exact this)
        obtain ⟨z, hz⟩ : ∃ z, cmpZ x y = z := ⟨_, rfl⟩
        have hz0 : ¬ z = 0 := by rw [← hz]; unfold cmpZ; split; omega; split; omega; omega
        have HZ : Hid (decide (z < 0) = decide (x < y)) := hide (by
          rw [← hz]
          unfold cmpZ
          by_cases h : x < y
          · rw [if_pos h]; simp [h]
          · rw [if_neg h, if_pos (by omega)]; simp; omega)
        go_wp2_with (go_at_call 29; refine (i_cmp x y _).mono ?_; rw [hz]; rintro e w' ⟨rfl, hw'⟩; subst w')
        go_ret
        exact ⟨z, rfl, by rw [HLX.out, HZ.out], HBEL.out⟩
    · obtain rfl : k = L := by omega
      have HLX : Hid (lexL a b = false) := hide (lex_same (by rw [HL.out, HM.out]) (fun j h1 h2 => HA.out j h1 h2 (by rw [HL.out] at h1; exact h1)))
      go_wp2_with fail
      go_ret
      exact ⟨0, rfl, by rw [HLX.out]; rfl, HBEL.out⟩
theorem tape_len {l : List Int} (h : tapeB l = true) : l.length ≤ 12 := by
  unfold tapeB at h
  simp only [Bool.and_eq_true, decide_eq_true_eq] at h
  exact h.1
set_option maxRecDepth 100000 in
set_option maxHeartbeats 1000000 in
theorem i_tapeLess (a b : List Int) (u v : Value) (w : World) (hu : NumSl w w.heap.size u a) (hv : NumSl w w.heap.size v b) :
    Calls Try.prog 8 #[u, v] w fun e w' => e = .returned (.bool (tlB a b)) ∧ Below w.heap.size w w' := by
  obtain ⟨q1, hq1⟩ : ∃ q, tapeB a = q := ⟨_, rfl⟩
  obtain ⟨q2, hq2⟩ : ∃ q, tapeB b = q := ⟨_, rfl⟩
  have HR1 : Hid (Calls Try.prog 16 #[u] w fun e w' => e = .returned (.bool q1) ∧ Below w.heap.size w w') := hide (by rw [← hq1]; exact i_tape a u w hu)
  have HR2 : Hid (∀ W, Below w.heap.size w W → Calls Try.prog 16 #[v] W fun e w' => e = .returned (.bool q2) ∧ Below W.heap.size W w') := hide (fun W hW => by rw [← hq2]; exact i_tape b v W (hv.on hW))
  have HT : Hid (tlB a b = (q1 && (q2 && lessB a b))) := hide (by unfold tlB; rw [hq1, hq2])
  have HU := hide hu
  have HV := hide hv
  obtain ⟨p1, c1, rfl⟩ := hu.shape
  obtain ⟨p2, c2, rfl⟩ := hv.shape
  cases q1
  · go_enter Try.func8, Try.ntmps8
    go_wp2_with (go_at_call 16; refine HR1.out.mono ?_; rintro e w1 ⟨rfl, hb1⟩; have HB1 := hide hb1; clear hb1)
    go_ret
    exact ⟨ret_bool HT.out, HB1.out⟩
  · have ha := tape_len hq1
    cases q2
    · go_enter Try.func8, Try.ntmps8
      go_wp2_with (first
        | ((fail_if_success (have := HB1)); go_at_call 16; refine HR1.out.mono ?_; rintro e w1 ⟨rfl, hb1⟩; have HB1 := hide hb1; clear hb1)
        | (go_at_call 16; refine (HR2.out _ HB1.out).mono ?_; rintro e w2 ⟨rfl, hb2⟩; have HB2 : Hid (Below w.heap.size w w2) := hide (HB1.out.trans (hb2.mono HB1.out.size)); clear hb2))
      go_ret
      exact ⟨ret_bool HT.out, HB2.out⟩
    · have hb := tape_len hq2
      by_cases hL : a.length = b.length
      · have HLS : Hid (lessB a b = lexL a b) := hide (by unfold lessB; rw [if_pos hL])
        have HCM : Hid (∀ W, Below w.heap.size w W → Calls Try.prog 20 #[.slice p1 a.length c1, .slice p2 b.length c2] W fun e w' => ∃ c : Int, e = .returned (.int .i64 c) ∧ decide (c < 0) = lexL a b ∧ Below W.heap.size W w') := hide (fun W hW => i_compare a b _ _ W hL ha (HU.out.on hW) (HV.out.on hW))
        obtain ⟨A, hA⟩ : ∃ A, a.length = A := ⟨_, rfl⟩
        have hB : b.length = A := by rw [← hL]; exact hA
        rw [hA] at HR1 HCM ha ⊢
        rw [hB] at HR2 HCM ⊢
        clear hA hB hL hb hu hv
        go_enter Try.func8, Try.ntmps8
        go_wp2_with (first
          | ((fail_if_success (have := HB1)); go_at_call 16; refine HR1.out.mono ?_; rintro e w1 ⟨rfl, hb1⟩; have HB1 := hide hb1; clear hb1)
          | (go_at_call 16; refine (HR2.out _ HB1.out).mono ?_; rintro e w2 ⟨rfl, hb2⟩; have HB2 : Hid (Below w.heap.size w w2) := hide (HB1.out.trans (hb2.mono HB1.out.size)); clear hb2)
          | (go_at_call 20; refine (HCM.out _ HB2.out).mono ?_; rintro e w3 ⟨c, rfl, hc3, hb3⟩; have HC3 := hide hc3; have HB3 : Hid (Below w.heap.size w w3) := hide (HB2.out.trans (hb3.mono HB2.out.size)); clear hb3 hc3))
        go_ret
        exact ⟨ret_bool (by rw [HT.out, HLS.out, ← HC3.out]; rfl), HB3.out⟩
      · have HLS : Hid (lessB a b = decide (a.length < b.length)) := hide (by unfold lessB; rw [if_neg hL])
        obtain ⟨A, hA⟩ : ∃ A, a.length = A := ⟨_, rfl⟩
        obtain ⟨B, hB⟩ : ∃ B, b.length = B := ⟨_, rfl⟩
        rw [hA, hB] at hL HLS
        rw [hA] at HR1 ha ⊢
        rw [hB] at HR2 hb ⊢
        have hne : ((A : Int) == (B : Int)) = false := beq_eq_false_iff_ne.2 (by omega)
        clear hA hB hu hv
        go_enter Try.func8, Try.ntmps8
        go_wp2_with (first
          | ((fail_if_success (have := HB1)); go_at_call 16; refine HR1.out.mono ?_; rintro e w1 ⟨rfl, hb1⟩; have HB1 := hide hb1; clear hb1)
          | (go_at_call 16; refine (HR2.out _ HB1.out).mono ?_; rintro e w2 ⟨rfl, hb2⟩; have HB2 : Hid (Below w.heap.size w w2) := hide (HB1.out.trans (hb2.mono HB1.out.size)); clear hb2))
        go_ret
        exact ⟨ret_bool (by rw [HT.out, HLS.out]; simp), HB2.out⟩
set_option maxRecDepth 100000 in
set_option maxHeartbeats 1000000 in
theorem s_l08Less (a b : List Int) (u v : Value) (w : World) (ha : a.length ≤ 12) (_hb : b.length ≤ 12) (hu : NumSl w w.heap.size u a) (hv : NumSl w w.heap.size v b) :
    Calls Try.prog 21 #[u, v] w fun e w' => e = .returned (.bool (lessB a b)) ∧ Below w.heap.size w w' := by
  obtain ⟨ax, cx, rfl, hcx, hmx, hrx⟩ := hu
  obtain ⟨ay, cy, rfl, hcy, hmy, hry⟩ := hv
  have HRX := hide hrx
  have HRY := hide hry
  by_cases hL : a.length = b.length
  · have HLS : Hid (lessB a b = lexL a b) := hide (by unfold lessB; rw [if_pos hL])
    obtain ⟨L, hA⟩ : ∃ L, a.length = L := ⟨_, rfl⟩
    have hB : b.length = L := by rw [← hL]; exact hA
    rw [hA] at ha hcx ⊢
    rw [hB] at hcy ⊢
    have HL := hide hA
    have HM := hide hB
    clear hrx hry hA hB hL
    go_enter Try.func21, Try.ntmps21
    go_wp2_with fail
    go_loopw [5] (fun i wr => ∃ k : Nat, k ≤ L ∧ i = .int .i64 k ∧ (∀ j (h1 : j < a.length) (h2 : j < b.length), j < k → a[j] = b[j]) ∧ Below w.heap.size w wr) (fun i _ => L - (intOf i).toNat)
    case atStart => exact ⟨0, Nat.zero_le _, rfl, fun j _ _ h => absurd h (by omega), Below.refl _ _⟩
    case round =>
      obtain ⟨k, hk, rfl, hall, hbel⟩ := hrel
      have HA := hide hall
      have HBEL := hide hbel
      clear hall hbel
      by_cases hlt : k < L
      · have hkx : k < a.length := by rw [HL.out]; exact hlt
        have hky : k < b.length := by rw [HM.out]; exact hlt
        obtain ⟨g, o, rfl, hgB, hrow⟩ := HRX.out (by intro h; rw [h] at hkx; simp at hkx)
        obtain ⟨g', o', rfl, hgB', hrow'⟩ := HRY.out (by intro h; rw [h] at hky; simp at hky)
        have c0 := (hrow.carry hgB HBEL.out) k hkx
        have d0 := (hrow'.carry hgB' HBEL.out) k hky
        obtain ⟨x, hx⟩ : ∃ x, a[k] = x := ⟨_, rfl⟩
        obtain ⟨y, hy⟩ : ∃ y, b[k] = y := ⟨_, rfl⟩
        rw [hx] at c0
        rw [hy] at d0
        have HXX := hide hx
        have HYY := hide hy
        clear hrow hrow' hx hy
        by_cases hxy : x = y
        · subst hxy
          go_wp2_with fail
          go_region
          go_wp2_with fail
          all_goals
            go_roundw
            case rel =>
              refine ⟨k + 1, hlt, by go_num, fun j h1 h2 hjk => ?_, by first | exact HBEL.out | exact HBEL.out.drew⟩
              by_cases e : j = k
              · subst e; rw [HXX.out, HYY.out]
              · exact HA.out j h1 h2 (by omega)
            case measure => simp [intOf]; omega
        · have HLX : Hid (lexL a b = decide (x < y)) := hide (by
            have := lex_at hkx hky HA.out (by rw [HXX.out, HYY.out]; exact hxy)
            rw [HXX.out, HYY.out] at this
            exact this)
          have hne : (x == y) = false := beq_eq_false_iff_ne.2 hxy
          go_wp2_with fail
          go_region
          go_wp2_with fail
          all_goals
            go_region
            go_wp2_with fail
            all_goals
              go_ret
              exact ⟨ret_bool (by rw [HLS.out, HLX.out]), by first | exact HBEL.out | exact HBEL.out.drew | exact HBEL.out.drew.drew⟩
      · obtain rfl : k = L := by omega
        have HLX : Hid (lexL a b = false) := hide (lex_same (by rw [HL.out, HM.out]) (fun j h1 h2 => HA.out j h1 h2 (by rw [HL.out] at h1; exact h1)))
        go_wp2_with fail
        go_ret
        exact ⟨ret_bool (by rw [HLS.out, HLX.out]), HBEL.out⟩
  · have HLS : Hid (lessB a b = decide (a.length < b.length)) := hide (by unfold lessB; rw [if_neg hL])
    obtain ⟨A, hA⟩ : ∃ A, a.length = A := ⟨_, rfl⟩
    obtain ⟨B, hB⟩ : ∃ B, b.length = B := ⟨_, rfl⟩
    rw [hA, hB] at hL HLS
    rw [hA] at ha ⊢
    rw [hB]
    have hne : ((A : Int) == (B : Int)) = false := beq_eq_false_iff_ne.2 (by omega)
    clear hA hB hrx hry
    go_enter Try.func21, Try.ntmps21
    go_wp2_with fail
    go_ret
    exact ⟨ret_bool (by rw [HLS.out]), Below.refl _ _⟩
set_option maxRecDepth 100000 in
set_option maxHeartbeats 1000000 in
theorem s_tapeLess (a b : List Int) (u v : Value) (w : World) (hu : NumSl w w.heap.size u a) (hv : NumSl w w.heap.size v b) :
    Calls Try.prog 9 #[u, v] w fun e w' => e = .returned (.bool (tlB a b)) ∧ Below w.heap.size w w' := by
  obtain ⟨q1, hq1⟩ : ∃ q, tapeB a = q := ⟨_, rfl⟩
  obtain ⟨q2, hq2⟩ : ∃ q, tapeB b = q := ⟨_, rfl⟩
  obtain ⟨q3, hq3⟩ : ∃ q, lessB a b = q := ⟨_, rfl⟩
  have HR1 : Hid (Calls Try.prog 10 #[u] w fun e w' => e = .returned (.bool q1) ∧ Below w.heap.size w w') := hide (by rw [← hq1]; exact s_tape a u w hu)
  have HR2 : Hid (∀ W, Below w.heap.size w W → Calls Try.prog 10 #[v] W fun e w' => e = .returned (.bool q2) ∧ Below W.heap.size W w') := hide (fun W hW => by rw [← hq2]; exact s_tape b v W (hv.on hW))
  have HT : Hid (tlB a b = (q1 && (q2 && q3))) := hide (by unfold tlB; rw [hq1, hq2, hq3])
  have HU := hide hu
  have HV := hide hv
  have ha' : ∀ {l : List Int}, 400 < l.length → tapeB l = false := fun h => tape_long (by omega)
  have HNO : Hid ((400 < a.length ∨ 400 < b.length) → tlB a b = false) := hide (fun h => by
    unfold tlB
    rcases h with h | h
    · rw [ha' h]; rfl
    · rw [ha' h]; simp)
  have HLE : Hid (q1 = true → q2 = true → ∀ W, Below w.heap.size w W → Calls Try.prog 21 #[u, v] W fun e w' => e = .returned (.bool q3) ∧ Below W.heap.size W w') := hide (fun h1 h2 W hW => by rw [← hq3]; exact s_l08Less a b u v W (tape_len (by rw [hq1]; exact h1)) (tape_len (by rw [hq2]; exact h2)) (hu.on hW) (hv.on hW))
  obtain ⟨p1, c1, rfl⟩ := hu.shape
  obtain ⟨p2, c2, rfl⟩ := hv.shape
  obtain ⟨A, hA⟩ : ∃ A, a.length = A := ⟨_, rfl⟩
  obtain ⟨B, hB⟩ : ∃ B, b.length = B := ⟨_, rfl⟩
  have hAm : A ≤ 9223372036854775807 := by obtain ⟨_, cap, e, h1, h2, _⟩ := HU.out; rw [← hA]; omega
  have hBm : B ≤ 9223372036854775807 := by obtain ⟨_, cap, e, h1, h2, _⟩ := HV.out; rw [← hB]; omega
  rw [hA] at HR1 HLE HNO ⊢
  rw [hB] at HR2 HLE HNO ⊢
  clear hA hB hu hv hq1 hq2 hq3 ha'
  by_cases hA4 : 400 < A
  · go_enter Try.func9, Try.ntmps9
    go_wp2_with fail
    go_ret
    exact ⟨ret_bool (HNO.out (.inl hA4)), Below.refl _ _⟩
  · by_cases hB4 : 400 < B
    · go_enter Try.func9, Try.ntmps9
      go_wp2_with fail
      go_ret
      exact ⟨ret_bool (HNO.out (.inr hB4)), Below.refl _ _⟩
    · cases q1
      · go_enter Try.func9, Try.ntmps9
        go_wp2_with (go_at_call 10; refine HR1.out.mono ?_; rintro e w1 ⟨rfl, hb1⟩; have HB1 := hide hb1; clear hb1)
        go_ret
        exact ⟨ret_bool HT.out, HB1.out⟩
      · cases q2
        · go_enter Try.func9, Try.ntmps9
          go_wp2_with (first
            | ((fail_if_success (have := HB1)); go_at_call 10; refine HR1.out.mono ?_; rintro e w1 ⟨rfl, hb1⟩; have HB1 := hide hb1; clear hb1)
            | (go_at_call 10; refine (HR2.out _ HB1.out).mono ?_; rintro e w2 ⟨rfl, hb2⟩; have HB2 : Hid (Below w.heap.size w w2) := hide (HB1.out.trans (hb2.mono HB1.out.size)); clear hb2))
          go_ret
          exact ⟨ret_bool HT.out, HB2.out⟩
        · go_enter Try.func9, Try.ntmps9
          go_wp2_with (first
            | ((fail_if_success (have := HB1)); go_at_call 10; refine HR1.out.mono ?_; rintro e w1 ⟨rfl, hb1⟩; have HB1 := hide hb1; clear hb1)
            | (go_at_call 10; refine (HR2.out _ HB1.out).mono ?_; rintro e w2 ⟨rfl, hb2⟩; have HB2 : Hid (Below w.heap.size w w2) := hide (HB1.out.trans (hb2.mono HB1.out.size)); clear hb2)
            | (go_at_call 21; refine (HLE.out (by simp) (by simp) _ HB2.out).mono ?_; rintro e w3 ⟨rfl, hb3⟩; have HB3 : Hid (Below w.heap.size w w3) := hide (HB2.out.trans (hb3.mono HB2.out.size)); clear hb3))
          go_ret
          exact ⟨ret_bool HT.out, HB3.out⟩
end Go.Proofs.Ytehodjfgojcnlaa
