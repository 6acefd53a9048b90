/- readNum: the loop of goto from state to state, walked. -/
import Derived.Test.YtonafcifolddjaaGreatDoorQB07
import Derived.Test.YtonafcifolddjaaGreatDoorQB05
import Derived.Test.YtonafcifolddjaaGreatDoorQB09
import Derived.Laws.DeepNot64
namespace Go.Proofs.YtonafcifolddjaaGreatDoor
open Go.RowKit

theorem place_code (s : ByteArray) (a : Int) (w : World) (hs : s.size ≤ maxLen) : Calls Tryz.prog 96 #[.string s, .int .i64 a] w fun e w' => e = .returned (.int .i64 (if 8000 < s.size then 2 else if a < 0 then 1 else 0)) ∧ w' = w := by
  unfold maxLen at hs
  by_cases h : 8000 < s.size
  · go_enter Tryz.func96, Tryz.ntmps96
    go_wp2
    go_ret
    exact ⟨rfl, rfl⟩
  · by_cases h1 : a < 0
    · go_enter Tryz.func96, Tryz.ntmps96
      go_wp2
      go_ret
      exact ⟨rfl, rfl⟩
    · go_enter Tryz.func96, Tryz.ntmps96
      go_wp2
      go_ret
      exact ⟨rfl, rfl⟩

theorem wrap64_smallR {n : Int} (h0 : 0 ≤ n) (h1 : n ≤ 9223372036854775807) : wrap64 n = n := by
  unfold wrap64; omega
set_option maxHeartbeats 400000 in
theorem unfold_any (u : Nat) (w : World) (hu : U64b u) : Calls Tryz.prog 97 #[.int .u64 (u : Int)] w fun e w' => e = .returned (.int .i64 (unfoldZ u)) ∧ w' = w := by
  have hb : bits .and .u64 (u : Int) 1 = ((u % 2 : Nat) : Int) := by
    rw [show (1 : Int) = ((1 : Nat) : Int) from rfl, bits_and_u64_nat u 1 hu.lt (by decide), Nat.and_one_is_mod]
  have hu' := hu.lt
  by_cases h : u % 2 = 1
  · have g : (((u % 2 : Nat) : Int) == 1) = true := by rw [h]; rfl
    have HW : Hid (unfoldZ u = bits .xor .i64 (-1) (wrap64 ((u : Int) / 2))) := by
      show _ = _
      rw [show (u : Int) / 2 = ((u / 2 : Nat) : Int) from by omega, wrap64_smallR (by omega) (by omega), i64_not _ (by omega), unfoldZ, if_pos h]
      omega
    clear hu'
    go_enter Tryz.func97, Tryz.ntmps97
    go_wp2
    go_ret
    exact ⟨ret_int HW.out, rfl⟩
  · have g : (((u % 2 : Nat) : Int) == 1) = false := by
      rw [show u % 2 = 0 by omega]; rfl
    have HW : Hid (unfoldZ u = wrap64 ((u : Int) / 2)) := by
      show _ = _
      rw [show (u : Int) / 2 = ((u / 2 : Nat) : Int) from by omega, wrap64_smallR (by omega) (by omega), unfoldZ, if_neg h]
    clear hu'
    go_enter Tryz.func97, Tryz.ntmps97
    go_wp2
    go_ret
    exact ⟨ret_int HW.out, rfl⟩

theorem and_7f (b : Nat) (_h : b < 256) : bits .and .u8 (b : Int) 127 = ((b % 128 : Nat) : Int) := by
  have key : (BitVec.ofInt 8 (b : Int) &&& BitVec.ofInt 8 127).toNat = b % 128 := by
    rw [BitVec.toNat_and, BitVec.toNat_ofInt, show (BitVec.ofInt 8 127).toNat = 2 ^ 7 - 1 from by decide, Nat.and_two_pow_sub_one_eq_mod]
    omega
  show IntKind.u8.wrap ((BitVec.ofInt 8 (b : Int) &&& BitVec.ofInt 8 127).toNat : Nat) = _
  rw [key]
  simp [IntKind.wrap, IntKind.bits, IntKind.signed]
  omega
theorem acc_eq {s : ByteArray} {A k : Nat} (hk : k ≤ 9) (hb : A + k < s.size) (h9 : ¬ (k = 9 ∧ 1 < bAt s (A + k))) :
    bits .or .u64 (uTo s A k : Int) (IntKind.u64.wrap (IntKind.u64.wrap (bits .and .u8 (s[A + k].toNat : Int) 127) * 2 ^ (7 * k))) = (uTo s A (k + 1) : Int) := by
  have hu := uTo_u64 (s := s) (a := A) hk h9
  have hl := hu.lt
  rw [uTo] at hl
  have e1 : IntKind.u64.wrap (bits .and .u8 (s[A + k].toNat : Int) 127) = ((bAt s (A + k) % 128 : Nat) : Int) := by
    rw [and_7f _ (UInt8.toNat_lt _), IntKind.wrap_u64, bAt_lt hb]; omega
  have e2 : ((bAt s (A + k) % 128 : Nat) : Int) * 2 ^ (7 * k) = ((bAt s (A + k) % 128 * 128 ^ k : Nat) : Int) := by
    rw [← pow7, Int.natCast_mul, Int.natCast_pow]; rfl
  rw [e1, e2, IntKind.wrap_u64, Int.emod_eq_of_lt (by omega) (by omega), or_digit (uTo_lt s A k) (by rw [uTo] at hu; exact hu)]
  rfl
theorem acc_nine {s : ByteArray} {A : Nat} (hb : A + 9 < s.size) (h9 : ¬ 1 < bAt s (A + 9)) :
    bits .or .u64 (uTo s A 9 : Int) (IntKind.u64.wrap (IntKind.u64.wrap (bits .and .u8 (s[A + 9].toNat : Int) 127) * 9223372036854775808)) = (uTo s A (9 + 1) : Int) := by
  have := acc_eq (s := s) (A := A) (k := 9) (by omega) hb (fun x => h9 x.2)
  rwa [show (2 : Int) ^ (7 * 9) = 9223372036854775808 from by decide] at this
theorem acc_zero {s : ByteArray} {A : Nat} (hb : A < s.size) :
    bits .or .u64 0 (IntKind.u64.wrap (IntKind.u64.wrap (bits .and .u8 (s[A].toNat : Int) 127))) = (uTo s A (0 + 1) : Int) := by
  have := acc_eq (s := s) (A := A) (k := 0) (by omega) hb (by omega)
  simpa [uTo] using this

def errV (c : Int) : Value := if c = 0 then .nilIface else .iface 102 (.agg #[.int .i64 c])

def ReadJ (s : ByteArray) (A : Nat) (w : World) (l : Nat) (a' : Act) (w' : World) : Prop :=
  w' = w ∧ (
    (l = 1 ∧ ∃ (k : Nat) (z : Int) (u11 u12 u13 u14 u15 u16 u17 u18 u19 u20 u21 u22 u23 u24 u25 u26 u27 u28 u29 u30 u31 u32 u33 u34 u35 u36 u37 u38 u39 u40 u41 u42 u43 u44 u45 u46 u47 u48 u49 u50 u51 u52 u53 : Value), 1 ≤ k ∧ k ≤ 9 ∧ a' = { tmps := #[.string s, .int .i64 ((A : Int) + (k : Int)), undef, undef, .int .i64 0, .int .i64 0, .nilIface, .int .u64 (uTo s A k : Int), .int .u8 z, .int .i64 ((7 * k : Nat) : Int), .int .i64 0, u11, u12, u13, u14, u15, u16, u17, u18, u19, u20, u21, u22, u23, u24, u25, u26, u27, u28, u29, u30, u31, u32, u33, u34, u35, u36, u37, u38, u39, u40, u41, u42, u43, u44, u45, u46, u47, u48, u49, u50, u51, u52, u53], defers := [] } ∧ getN s (A : Int) = getR s A (10 - k) k) ∨
    (l = 2 ∧ ∃ (k : Nat) (u11 u12 u13 u14 u15 u16 u17 u18 u19 u20 u21 u22 u23 u24 u25 u26 u27 u28 u29 u30 u31 u32 u33 u34 u35 u36 u37 u38 u39 u40 u41 u42 u43 u44 u45 u46 u47 u48 u49 u50 u51 u52 u53 : Value), k ≤ 9 ∧ a' = { tmps := #[.string s, .int .i64 ((A : Int) + (k : Int) + 1), undef, undef, .int .i64 0, .int .i64 0, .nilIface, .int .u64 (uTo s A (k + 1) : Int), .int .u8 (bAt s (A + k) : Int), .int .i64 ((7 * k : Nat) : Int), .int .i64 0, u11, u12, u13, u14, u15, u16, u17, u18, u19, u20, u21, u22, u23, u24, u25, u26, u27, u28, u29, u30, u31, u32, u33, u34, u35, u36, u37, u38, u39, u40, u41, u42, u43, u44, u45, u46, u47, u48, u49, u50, u51, u52, u53], defers := [] } ∧ U64b (uTo s A (k + 1)) ∧ getN s (A : Int) = if bAt s (A + k) = 0 ∧ 0 < k then (0, 0, 3) else (unfoldZ (uTo s A (k + 1)), (A : Int) + (k : Int) + 1, 0)) ∨
    (l = 0 ∧ ∃ (c x y z t : Int) (u11 u12 u13 u14 u15 u16 u17 u18 u19 u20 u21 u22 u23 u24 u25 u26 u27 u28 u29 u30 u31 u32 u33 u34 u35 u36 u37 u38 u39 u40 u41 u42 u43 u44 u45 u46 u47 u48 u49 u50 u51 u52 u53 : Value), (c = 1 ∨ c = 2 ∨ c = 3 ∨ c = 4) ∧ a' = { tmps := #[.string s, .int .i64 x, undef, undef, .int .i64 0, .int .i64 0, .nilIface, .int .u64 y, .int .u8 z, .int .i64 t, .int .i64 c, u11, u12, u13, u14, u15, u16, u17, u18, u19, u20, u21, u22, u23, u24, u25, u26, u27, u28, u29, u30, u31, u32, u33, u34, u35, u36, u37, u38, u39, u40, u41, u42, u43, u44, u45, u46, u47, u48, u49, u50, u51, u52, u53], defers := [] } ∧ getN s (A : Int) = (0, 0, c)))

theorem readJ_wrong {s : ByteArray} {A : Nat} {w : World} {c x y z t : Int} {u11 u12 u13 u14 u15 u16 u17 u18 u19 u20 u21 u22 u23 u24 u25 u26 u27 u28 u29 u30 u31 u32 u33 u34 u35 u36 u37 u38 u39 u40 u41 u42 u43 u44 u45 u46 u47 u48 u49 u50 u51 u52 u53 : Value} (hc : c = 1 ∨ c = 2 ∨ c = 3 ∨ c = 4) (hN : getN s (A : Int) = (0, 0, c)) : ReadJ s A w 0 { tmps := #[.string s, .int .i64 x, undef, undef, .int .i64 0, .int .i64 0, .nilIface, .int .u64 y, .int .u8 z, .int .i64 t, .int .i64 c, u11, u12, u13, u14, u15, u16, u17, u18, u19, u20, u21, u22, u23, u24, u25, u26, u27, u28, u29, u30, u31, u32, u33, u34, u35, u36, u37, u38, u39, u40, u41, u42, u43, u44, u45, u46, u47, u48, u49, u50, u51, u52, u53], defers := [] } w :=
  ⟨rfl, .inr (.inr ⟨rfl, c, x, y, z, t, u11, u12, u13, u14, u15, u16, u17, u18, u19, u20, u21, u22, u23, u24, u25, u26, u27, u28, u29, u30, u31, u32, u33, u34, u35, u36, u37, u38, u39, u40, u41, u42, u43, u44, u45, u46, u47, u48, u49, u50, u51, u52, u53, hc, rfl, hN⟩)⟩
theorem readJ_more {s : ByteArray} {A : Nat} {w : World} {x y z t : Int} {u11 u12 u13 u14 u15 u16 u17 u18 u19 u20 u21 u22 u23 u24 u25 u26 u27 u28 u29 u30 u31 u32 u33 u34 u35 u36 u37 u38 u39 u40 u41 u42 u43 u44 u45 u46 u47 u48 u49 u50 u51 u52 u53 : Value} (k : Nat) (h1 : 1 ≤ k) (hk : k ≤ 9) (hx : x = (A : Int) + (k : Int)) (hy : y = (uTo s A k : Int)) (ht : t = ((7 * k : Nat) : Int)) (hN : getN s (A : Int) = getR s A (10 - k) k) : ReadJ s A w 1 { tmps := #[.string s, .int .i64 x, undef, undef, .int .i64 0, .int .i64 0, .nilIface, .int .u64 y, .int .u8 z, .int .i64 t, .int .i64 0, u11, u12, u13, u14, u15, u16, u17, u18, u19, u20, u21, u22, u23, u24, u25, u26, u27, u28, u29, u30, u31, u32, u33, u34, u35, u36, u37, u38, u39, u40, u41, u42, u43, u44, u45, u46, u47, u48, u49, u50, u51, u52, u53], defers := [] } w := by
  subst hx; subst hy; subst ht
  exact ⟨rfl, .inl ⟨rfl, k, z, u11, u12, u13, u14, u15, u16, u17, u18, u19, u20, u21, u22, u23, u24, u25, u26, u27, u28, u29, u30, u31, u32, u33, u34, u35, u36, u37, u38, u39, u40, u41, u42, u43, u44, u45, u46, u47, u48, u49, u50, u51, u52, u53, h1, hk, rfl, hN⟩⟩
theorem readJ_last {s : ByteArray} {A : Nat} {w : World} {x y z t : Int} {u11 u12 u13 u14 u15 u16 u17 u18 u19 u20 u21 u22 u23 u24 u25 u26 u27 u28 u29 u30 u31 u32 u33 u34 u35 u36 u37 u38 u39 u40 u41 u42 u43 u44 u45 u46 u47 u48 u49 u50 u51 u52 u53 : Value} (k : Nat) (hk : k ≤ 9) (hx : x = (A : Int) + (k : Int) + 1) (hy : y = (uTo s A (k + 1) : Int)) (hz : z = (bAt s (A + k) : Int)) (ht : t = ((7 * k : Nat) : Int)) (hu : U64b (uTo s A (k + 1))) (hN : getN s (A : Int) = if bAt s (A + k) = 0 ∧ 0 < k then (0, 0, 3) else (unfoldZ (uTo s A (k + 1)), (A : Int) + (k : Int) + 1, 0)) : ReadJ s A w 2 { tmps := #[.string s, .int .i64 x, undef, undef, .int .i64 0, .int .i64 0, .nilIface, .int .u64 y, .int .u8 z, .int .i64 t, .int .i64 0, u11, u12, u13, u14, u15, u16, u17, u18, u19, u20, u21, u22, u23, u24, u25, u26, u27, u28, u29, u30, u31, u32, u33, u34, u35, u36, u37, u38, u39, u40, u41, u42, u43, u44, u45, u46, u47, u48, u49, u50, u51, u52, u53], defers := [] } w := by
  subst hx; subst hy; subst hz; subst ht
  exact ⟨rfl, .inr (.inl ⟨rfl, k, u11, u12, u13, u14, u15, u16, u17, u18, u19, u20, u21, u22, u23, u24, u25, u26, u27, u28, u29, u30, u31, u32, u33, u34, u35, u36, u37, u38, u39, u40, u41, u42, u43, u44, u45, u46, u47, u48, u49, u50, u51, u52, u53, hk, rfl, hu, hN⟩)⟩

theorem hN'_wrong {s : ByteArray} {A k : Nat} {r : Int × Int × Int} (hz : bAt s (A + k) = 0 ∧ 0 < k) (h : getN s (A : Int) = if bAt s (A + k) = 0 ∧ 0 < k then (0, 0, 3) else r) : getN s (A : Int) = (0, 0, 3) := by
  rw [h, if_pos hz]

set_option maxRecDepth 100000 in
set_option maxHeartbeats 2000000 in
theorem read_num_at (s : ByteArray) (A : Nat) (w : World) (hs : s.size ≤ 8000) (hA : (A : Int) ≤ 9223372036854775807) :
    Calls Tryz.prog 92 #[.string s, .int .i64 (A : Int)] w fun e w' => e = .returned (.tuple #[.int .i64 (getN s (A : Int)).1, .int .i64 (getN s (A : Int)).2.1, errV (getN s (A : Int)).2.2]) ∧ w' = w := by
  have HP : Hid (∀ w, Calls Tryz.prog 96 #[.string s, .int .i64 (A : Int)] w fun e w' => e = .returned (.int .i64 0) ∧ w' = w) := fun w => by
    have := place_code s (A : Int) w (by unfold maxLen; omega)
    rwa [if_neg (by omega), if_neg (by omega)] at this
  have HN : Hid (getN s (A : Int) = getR s A 10 0) := by show _ = _; rw [getN, if_neg (by omega), if_neg (by omega), Int.toNat_natCast]
  go_enter Tryz.func92, Tryz.ntmps92
  go_wp2
  refine wp_scope_labels (ReadJ s A w) (fun l a' _ => if l = 1 then 102 - (intOf (a'.tmps.getD 9 undef)).toNat else if l = 2 then 1 else 0) ?_ ?_
  · go_wp2_with (go_at_call 96; refine (HP.out _).mono ?_; rintro e w1 ⟨rfl, hw⟩; obtain rfl : w = w1 := hw.symm; clear hw)
    go_step3
    by_cases hlt : s.size ≤ A
    · go_wp2
      go_step3
      exact readJ_wrong (by omega) (by rw [HN.out, getR_short (by omega)])
    · have hb : A < s.size := by omega
      have hB := hide (bAt_lt hb)
      by_cases h128 : s[A].toNat < 128
      · go_wp2
        go_step3
        exact readJ_last 0 (by omega) (by omega) (acc_zero hb) (by rw [← hB.out]; rfl) rfl (uTo_u64 (by omega) (by omega)) (by rw [HN.out, getR_last (by omega) (by omega) (by rw [Nat.add_zero, hB.out]; omega)]; rfl)
      · go_wp2
        go_step3
        exact readJ_more 1 (by omega) (by omega) (by omega) (acc_zero hb) rfl (by rw [HN.out, getR_more (by omega) (by omega) (by rw [Nat.add_zero, hB.out]; omega)])
  · intro l a' w' h
    obtain ⟨rfl, ⟨rfl, k, z, u11, u12, u13, u14, u15, u16, u17, u18, u19, u20, u21, u22, u23, u24, u25, u26, u27, u28, u29, u30, u31, u32, u33, u34, u35, u36, u37, u38, u39, u40, u41, u42, u43, u44, u45, u46, u47, u48, u49, u50, u51, u52, u53, hk1, hk9, rfl, hN⟩ | ⟨rfl, k, u11, u12, u13, u14, u15, u16, u17, u18, u19, u20, u21, u22, u23, u24, u25, u26, u27, u28, u29, u30, u31, u32, u33, u34, u35, u36, u37, u38, u39, u40, u41, u42, u43, u44, u45, u46, u47, u48, u49, u50, u51, u52, u53, hk9, rfl, hu, hN⟩ | ⟨rfl, c, x, y, z, t, u11, u12, u13, u14, u15, u16, u17, u18, u19, u20, u21, u22, u23, u24, u25, u26, u27, u28, u29, u30, u31, u32, u33, u34, u35, u36, u37, u38, u39, u40, u41, u42, u43, u44, u45, u46, u47, u48, u49, u50, u51, u52, u53, hc, rfl, hN⟩⟩ := h
    · refine ⟨_, rfl, ?_⟩
      have HN' := hide hN
      clear hN HN HP
      by_cases hlt : s.size ≤ A + k
      · go_wp2
        go_step3
        refine ⟨readJ_wrong (by omega) (by rw [HN'.out, show 10 - k = (9 - k) + 1 from by omega, getR_short (by omega)]), ?_⟩
        simp [intOf]; omega
      · have hb : A + k < s.size := by omega
        have hB := hide (bAt_lt hb)
        by_cases e9 : k = 9
        · subst e9
          by_cases hone : 1 < s[A + 9].toNat
          · go_wp2
            go_step3
            refine ⟨readJ_wrong (by omega) (by rw [HN'.out, getR_big (by omega) rfl (by rw [hB.out]; exact hone)]), ?_⟩
            simp [intOf]
          · go_wp2
            go_step3
            refine ⟨readJ_last 9 (by omega) (by omega) (acc_nine hb (by rw [hB.out]; exact hone)) (by rw [hB.out]) rfl (uTo_u64 (by omega) (by rw [hB.out]; omega)) (by rw [HN'.out, getR_last (by omega) (by rw [hB.out]; omega) (by rw [hB.out]; omega)]; rfl), ?_⟩
            simp [intOf]
        · have g : ((7 * (k : Int)) == 63) = false := beq_eq_false_iff_ne.2 (by omega)
          by_cases h128 : s[A + k].toNat < 128
          · go_wp2
            go_step3
            refine ⟨readJ_last k (by omega) (by omega) (acc_eq (by omega) hb (fun x => e9 x.1)) (by rw [hB.out]) (by omega) (uTo_u64 (by omega) (fun x => e9 x.1)) (by rw [HN'.out, show 10 - k = (9 - k) + 1 from by omega, getR_last (by omega) (fun x => e9 x.1) (by rw [hB.out]; omega)]; rfl), ?_⟩
            simp [intOf]; omega
          · go_wp2
            go_step3
            refine ⟨readJ_more (k + 1) (by omega) (by omega) (by omega) (acc_eq (by omega) hb (fun x => e9 x.1)) (by omega) (by rw [HN'.out, show 10 - k = (9 - k) + 1 from by omega, getR_more (by omega) e9 (by rw [hB.out]; omega), show 9 - k = 10 - (k + 1) from by omega]), ?_⟩
            simp [intOf]; omega
    · refine ⟨_, rfl, ?_⟩
      have HN' := hide hN
      have HU := hide hu
      clear hN HN HP hu
      by_cases hz : bAt s (A + k) = 0 ∧ 0 < k
      · have g : ((bAt s (A + k) : Int) == 0) = true := beq_iff_eq.2 (by omega)
        have g2 : decide ((0 : Int) < 7 * (k : Int)) = true := decide_eq_true (by omega)
        have HZ := hide (hN'_wrong hz HN'.out)
        clear hz
        go_wp2_with fail
        go_step3
        refine ⟨readJ_wrong (by omega) HZ.out, ?_⟩
        simp
      · have HZ : Hid (getN s (A : Int) = (unfoldZ (uTo s A (k + 1)), (A : Int) + (k : Int) + 1, 0)) := by
          show _ = _
          rw [HN'.out, if_neg hz]
        by_cases hk0 : bAt s (A + k) = 0
        · have g : ((bAt s (A + k) : Int) == 0) = true := beq_iff_eq.2 (by omega)
          obtain rfl : k = 0 := by omega
          clear hz hk0
          go_wp2_with (go_at_call 97; refine (unfold_any _ _ HU.out).mono ?_; rintro e w1 ⟨rfl, hw⟩; subst hw)
          all_goals
            simp only [jumpAll]
            go_ret3
            exact ⟨by rw [HZ.out]; rfl, rfl⟩
        · have g : ((bAt s (A + k) : Int) == 0) = false := beq_eq_false_iff_ne.2 (by omega)
          clear hz hk0
          go_wp2_with (go_at_call 97; refine (unfold_any _ _ HU.out).mono ?_; rintro e w1 ⟨rfl, hw⟩; subst hw)
          simp only [jumpAll]
          go_ret3
          exact ⟨by rw [HZ.out]; rfl, rfl⟩
    · refine ⟨_, rfl, ?_⟩
      have HN' := hide hN
      clear hN HN HP
      have HE : Hid (errV c = .iface 102 (.agg #[.int .i64 c])) := if_neg (by omega)
      go_wp2
      simp only [jumpAll]
      go_ret3
      exact ⟨by rw [HN'.out, HE.out]; rfl, rfl⟩

set_option maxRecDepth 100000 in
set_option maxHeartbeats 2000000 in
theorem read_num_bad (s : ByteArray) (a : Int) (c : Int) (w : World) (hc : c = 1 ∨ c = 2) (hp : ∀ w, Calls Tryz.prog 96 #[.string s, .int .i64 a] w fun e w' => e = .returned (.int .i64 c) ∧ w' = w) :
    Calls Tryz.prog 92 #[.string s, .int .i64 a] w fun e w' => e = .returned (.tuple #[.int .i64 0, .int .i64 0, errV c]) ∧ w' = w := by
  have HP := hide hp
  have HE : Hid (errV c = .iface 102 (.agg #[.int .i64 c])) := if_neg (by omega)
  have g : (c != 0) = true := by rw [bne_iff_ne]; omega
  clear hp
  go_enter Tryz.func92, Tryz.ntmps92
  go_wp2
  refine wp_scope_labels (fun l a' w' => w' = w ∧ l = 0 ∧ ∃ (x y z t : Int) (u11 u12 u13 u14 u15 u16 u17 u18 u19 u20 u21 u22 u23 u24 u25 u26 u27 u28 u29 u30 u31 u32 u33 u34 u35 u36 u37 u38 u39 u40 u41 u42 u43 u44 u45 u46 u47 u48 u49 u50 u51 u52 u53 : Value), a' = { tmps := #[.string s, .int .i64 x, undef, undef, .int .i64 0, .int .i64 0, .nilIface, .int .u64 y, .int .u8 z, .int .i64 t, .int .i64 c, u11, u12, u13, u14, u15, u16, u17, u18, u19, u20, u21, u22, u23, u24, u25, u26, u27, u28, u29, u30, u31, u32, u33, u34, u35, u36, u37, u38, u39, u40, u41, u42, u43, u44, u45, u46, u47, u48, u49, u50, u51, u52, u53], defers := [] }) (fun _ _ _ => 0) ?_ ?_
  · go_wp2_with (go_at_call 96; refine (HP.out _).mono ?_; rintro e w1 ⟨rfl, hw⟩; obtain rfl : w = w1 := hw.symm; clear hw)
    go_step3
    exact ⟨rfl, rfl, _, _, _, _, _, _, _, _, _, _, _, _, _, _, _, _, _, _, _, _, _, _, _, _, _, _, _, _, _, _, _, _, _, _, _, _, _, _, _, _, _, _, _, _, _, _, _, rfl⟩
  · intro l a' w' h
    obtain ⟨rfl, rfl, x, y, z, t, u11, u12, u13, u14, u15, u16, u17, u18, u19, u20, u21, u22, u23, u24, u25, u26, u27, u28, u29, u30, u31, u32, u33, u34, u35, u36, u37, u38, u39, u40, u41, u42, u43, u44, u45, u46, u47, u48, u49, u50, u51, u52, u53, rfl⟩ := h
    refine ⟨_, rfl, ?_⟩
    go_wp2
    simp only [jumpAll]
    go_ret3
    exact ⟨by rw [HE.out]; rfl, rfl⟩

theorem read_num (s : ByteArray) (a : Int) (w : World) (hs : s.size ≤ maxLen) (ha : a ≤ 9223372036854775807) :
    Calls Tryz.prog 92 #[.string s, .int .i64 a] w fun e w' => e = .returned (.tuple #[.int .i64 (getN s a).1, .int .i64 (getN s a).2.1, errV (getN s a).2.2]) ∧ w' = w := by
  by_cases h8 : 8000 < s.size
  · have e : getN s a = (0, 0, 2) := by rw [getN, if_pos h8]
    rw [e]
    exact read_num_bad s a 2 w (by omega) (fun w => by have := place_code s a w hs; rwa [if_pos h8] at this)
  · by_cases h0 : a < 0
    · have e : getN s a = (0, 0, 1) := by rw [getN, if_neg h8, if_pos h0]
      rw [e]
      exact read_num_bad s a 1 w (by omega) (fun w => by have := place_code s a w hs; rwa [if_neg h8, if_pos h0] at this)
    · obtain ⟨A, rfl⟩ := Int.eq_ofNat_of_zero_le (show 0 ≤ a by omega)
      exact read_num_at s A w (by omega) ha
end Go.Proofs.YtonafcifolddjaaGreatDoor
