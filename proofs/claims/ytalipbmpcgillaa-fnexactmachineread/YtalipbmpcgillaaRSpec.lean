/- spec.GetNum, walked. -/
import Derived.Test.YtalipbmpcgillaaRRead
namespace Go.Proofs.Ytalipbmpcgillaa
open Go.RowKit
theorem sacc_eq {s : ByteArray} {A k : Nat} (hk : k ≤ 9) (hb : A + k < s.size) (h9 : ¬ (k = 9 ∧ 1 < bAt s (A + k))) :
    IntKind.u64.wrap ((uTo s A k : Int) + IntKind.u64.wrap ((s[A + k].toNat : Int) % 128 * 2 ^ (7 * k))) = (uTo s A (k + 1) : Int) := by
  have hl := (uTo_u64 (s := s) (a := A) hk h9).lt
  rw [uTo] at hl
  have e2 : (s[A + k].toNat : Int) % 128 * 2 ^ (7 * k) = ((bAt s (A + k) % 128 * 128 ^ k : Nat) : Int) := by
    rw [← pow7, Int.natCast_mul, Int.natCast_pow, bAt_lt hb]; rfl
  rw [e2, IntKind.wrap_u64, IntKind.wrap_u64, Int.emod_eq_of_lt (by omega) (by omega), Int.emod_eq_of_lt (by omega) (by omega)]
  rfl

theorem agg_ret {r : Int × Int × Int} {x y z : Int} (h : r = (x, y, z)) : Ending.returned (.agg #[.int .i64 x, .int .i64 y, .int .i64 z]) = .returned (.agg #[.int .i64 r.1, .int .i64 r.2.1, .int .i64 r.2.2]) := by rw [h]

theorem spec_odd {U A k : Nat} {r : Int × Int × Int} (hU : U64 U) (hp : ((U : Int) % 2 == 1) = true) (h : r = (unfoldZ U, ((A + k + 1 : Nat) : Int), 0)) : r = (wrap64 (wrap64 (-wrap64 (IntKind.u64.wrap ((U : Int) / 2))) - 1), (A : Int) + (k : Int) + 1, 0) := by
  have hl := hU.lt
  have hp' : (U : Int) % 2 = 1 := by simpa using hp
  have e : unfoldZ U = wrap64 (wrap64 (-wrap64 (IntKind.u64.wrap ((U : Int) / 2))) - 1) := by
    rw [unfoldZ, if_pos (by omega), IntKind.wrap_u64]
    unfold wrap64
    omega
  rw [h, e]
  rfl
theorem spec_even {U A k : Nat} {r : Int × Int × Int} (hU : U64 U) (hp : ((U : Int) % 2 == 1) = false) (h : r = (unfoldZ U, ((A + k + 1 : Nat) : Int), 0)) : r = (wrap64 (IntKind.u64.wrap ((U : Int) / 2)), (A : Int) + (k : Int) + 1, 0) := by
  have hl := hU.lt
  have hp' : ¬ (U : Int) % 2 = 1 := by simpa using hp
  have e : unfoldZ U = wrap64 (IntKind.u64.wrap ((U : Int) / 2)) := by
    rw [unfoldZ, if_neg (by omega), IntKind.wrap_u64]
    unfold wrap64
    omega
  rw [h, e]
  rfl

set_option maxRecDepth 100000 in
set_option maxHeartbeats 4000000 in
theorem spec_get_at (s : ByteArray) (A : Nat) (w : World) (hs : s.size ≤ 8000) (hA : (A : Int) ≤ 9223372036854775807) :
    Calls Try.prog 144 #[.string s, .int .i64 (A : Int)] w fun e w' => e = .returned (.agg #[.int .i64 (getN s (A : Int)).1, .int .i64 (getN s (A : Int)).2.1, .int .i64 (getN s (A : Int)).2.2]) ∧ Below w.heap.size w w' := by
  have HN : Hid (getN s (A : Int) = getR s A 10 0) := by show _ = _; rw [getN, if_neg (by omega), if_neg (by omega), Int.toNat_natCast]
  go_enter Try.func144, Try.ntmps144
  go_wp2
  go_loop [5, 6, 7, 8] (fun x i _ _ => ∃ k : Nat, k ≤ 9 ∧ i = .int .i64 k ∧ x = .int .u64 (uTo s A k : Int) ∧ getN s (A : Int) = getR s A (10 - k) k) (fun _ i _ _ => 20 - (intOf i).toNat)
  case atStart => exact ⟨0, by omega, rfl, rfl, HN.out⟩
  case round =>
    obtain ⟨k, hk, rfl, rfl, hN⟩ := hrel
    have HN' := hide hN
    clear hN HN
    by_cases hlt : s.size ≤ A + k
    · have HZ : Hid (getN s (A : Int) = (0, 0, 4)) := by
        show _ = _
        rw [HN'.out, show 10 - k = (9 - k) + 1 from by omega, getR_short (by omega)]
      go_wp2
      exact bodyPost_ret (v := .agg #[.int .i64 0, .int .i64 0, .int .i64 4]) (by simp [results, Try.results144, go_sem]) rfl ⟨agg_ret HZ.out, (Below.refl _ _).alloc (Nat.le_refl _) _⟩
    · have hb : A + k < s.size := by omega
      have hB := hide (bAt_lt hb)
      have h256 : (s[A + k].toNat : Int) < 256 := by have := s[A + k].toNat_lt; omega
      by_cases h9 : k = 9 ∧ 1 < s[A + k].toNat
      · have HZ : Hid (getN s (A : Int) = (0, 0, 3)) := by
          show _ = _
          rw [HN'.out, show 10 - k = (9 - k) + 1 from by omega, getR_big (by omega) h9.1 (by rw [hB.out]; exact h9.2)]
        have g : ((k : Int) == 9) = true := beq_iff_eq.2 (by omega)
        have g2 := h9.2
        clear h9
        go_wp2
        exact bodyPost_ret (v := .agg #[.int .i64 0, .int .i64 0, .int .i64 3]) (by simp [results, Try.results144, go_sem]) rfl ⟨agg_ret HZ.out, (Below.refl _ _).alloc (Nat.le_refl _) _⟩
      · have hacc := sacc_eq hk hb (by rw [hB.out]; exact h9)
        have hU := uTo_u64 (s := s) (a := A) hk (by rw [hB.out]; exact h9)
        by_cases h128 : s[A + k].toNat < 128
        · have HL := hide (show getN s (A : Int) = if bAt s (A + k) = 0 ∧ 0 < k then (0, 0, 3) else (unfoldZ (uTo s A (k + 1)), ((A + k + 1 : Nat) : Int), 0) by rw [HN'.out, show 10 - k = (9 - k) + 1 from by omega, getR_last (by omega) (by rw [hB.out]; exact h9) (by rw [hB.out]; exact h128)])
          rw [hB.out] at HL
          clear HN'
          have hcase : (((k : Int) == 9) = true ∧ decide (1 < (s[A + k].toNat : Int)) = false) ∨ (((k : Int) == 9) = false ∧ True) := by
            by_cases e9 : k = 9
            · exact .inl ⟨beq_iff_eq.2 (by omega), decide_eq_false (by omega)⟩
            · exact .inr ⟨beq_eq_false_iff_ne.2 (by omega), trivial⟩
          clear h9
          by_cases hz : s[A + k].toNat = 0 ∧ 0 < k
          · have HZ : Hid (getN s (A : Int) = (0, 0, 3)) := by show _ = _; rw [HL.out, if_pos hz]
            have gz : ((s[A + k].toNat : Int) == 0) = true := beq_iff_eq.2 (by omega)
            have gk : 0 < k := hz.2
            clear hz HL hacc hU
            rcases hcase with ⟨gA, g1⟩ | ⟨gA, g1⟩
            all_goals
              go_wp2
              exact bodyPost_ret (v := .agg #[.int .i64 0, .int .i64 0, .int .i64 3]) (by simp [results, Try.results144, go_sem]) rfl ⟨agg_ret HZ.out, (Below.refl _ _).alloc (Nat.le_refl _) _⟩
          · have HZ : Hid (getN s (A : Int) = (unfoldZ (uTo s A (k + 1)), ((A + k + 1 : Nat) : Int), 0)) := by show _ = _; rw [HL.out, if_neg hz]
            clear HL
            have hcase2 : (((s[A + k].toNat : Int) == 0) = true ∧ decide ((0 : Int) < (k : Int)) = false) ∨ (((s[A + k].toNat : Int) == 0) = false ∧ True) := by
              by_cases e0 : s[A + k].toNat = 0
              · exact .inl ⟨beq_iff_eq.2 (by omega), decide_eq_false (by omega)⟩
              · exact .inr ⟨beq_eq_false_iff_ne.2 (by omega), trivial⟩
            clear hz
            generalize uTo s A (k + 1) = U at *
            rcases hcase with ⟨gA, g1⟩ | ⟨gA, g1⟩
            all_goals
              rcases hcase2 with ⟨gB, g2⟩ | ⟨gB, g2⟩
              all_goals
                go_wp2
                all_goals
                  first
                    | (have hk0 : 0 < k := by assumption
                       exact absurd hk0 (by have := of_decide_eq_false g2; omega))
                    | (have hp : ((U : Int) % 2 == 1) = true := by assumption
                       exact bodyPost_ret (v := .agg #[.int .i64 (wrap64 (wrap64 (-wrap64 (IntKind.u64.wrap ((U : Int) / 2))) - 1)), .int .i64 ((A : Int) + (k : Int) + 1), .int .i64 0]) (by simp [results, Try.results144, go_sem]) rfl ⟨agg_ret (spec_odd hU hp HZ.out), (Below.refl _ _).alloc (Nat.le_refl _) _⟩)
                    | (have hp : ((U : Int) % 2 == 1) = false := by assumption
                       exact bodyPost_ret (v := .agg #[.int .i64 (wrap64 (IntKind.u64.wrap ((U : Int) / 2))), .int .i64 ((A : Int) + (k : Int) + 1), .int .i64 0]) (by simp [results, Try.results144, go_sem]) rfl ⟨agg_ret (spec_even hU hp HZ.out), (Below.refl _ _).alloc (Nat.le_refl _) _⟩)
        · have g : ((k : Int) == 9) = false := beq_eq_false_iff_ne.2 (by omega)
          have HM := hide (show getN s (A : Int) = getR s A (10 - (k + 1)) (k + 1) by rw [HN'.out, show 10 - k = (9 - k) + 1 from by omega, getR_more (by omega) (by omega) (by rw [hB.out]; exact h128), show 9 - k = 10 - (k + 1) from by omega])
          have HA := hide hacc
          clear hacc hU
          go_wp2
          go_round
          case rel => exact ⟨k + 1, by omega, by go_num, by rw [HA.out], HM.out⟩
          case measure => simp [intOf]; omega

set_option maxRecDepth 100000 in
set_option maxHeartbeats 2000000 in
theorem spec_get (s : ByteArray) (a : Int) (w : World) (hs : s.size ≤ maxLen) (ha : a ≤ 9223372036854775807) :
    Calls Try.prog 144 #[.string s, .int .i64 a] w fun e w' => e = .returned (.agg #[.int .i64 (getN s a).1, .int .i64 (getN s a).2.1, .int .i64 (getN s a).2.2]) ∧ Below w.heap.size w w' := by
  by_cases h8 : 8000 < s.size
  · have HZ : Hid (getN s a = (0, 0, 2)) := by show _ = _; rw [getN, if_pos h8]
    unfold maxLen at hs
    clear ha
    go_enter Try.func144, Try.ntmps144
    go_wp2_with fail
    exact bodyPost_ret (v := .agg #[.int .i64 0, .int .i64 0, .int .i64 2]) (by simp [results, Try.results144, go_sem]) rfl ⟨agg_ret HZ.out, (Below.refl _ _).alloc (Nat.le_refl _) _⟩
  · by_cases h0 : a < 0
    · have HZ : Hid (getN s a = (0, 0, 1)) := by show _ = _; rw [getN, if_neg h8, if_pos h0]
      unfold maxLen at hs
      clear ha
      go_enter Try.func144, Try.ntmps144
      go_wp2_with fail
      exact bodyPost_ret (v := .agg #[.int .i64 0, .int .i64 0, .int .i64 1]) (by simp [results, Try.results144, go_sem]) rfl ⟨agg_ret HZ.out, (Below.refl _ _).alloc (Nat.le_refl _) _⟩
    · obtain ⟨A, rfl⟩ := Int.eq_ofNat_of_zero_le (show 0 ≤ a by omega)
      exact spec_get_at s A w (by omega) ha
end Go.Proofs.Ytalipbmpcgillaa
