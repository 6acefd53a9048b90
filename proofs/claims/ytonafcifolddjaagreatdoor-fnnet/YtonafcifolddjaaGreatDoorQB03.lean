/- NameRight: what a name is; both functions and the law, walked. -/
import Derived.Test.YtonafcifolddjaaGreatDoorRows
import Derived.Test.YtonafcifolddjaaGreatDoorQB00
namespace Go.Proofs.YtonafcifolddjaaGreatDoor
open Go.RowKit

def okC (first : Bool) (c : Int) : Bool := (decide (97 ≤ c) && decide (c ≤ 122)) || (!first && ((decide (48 ≤ c) && decide (c ≤ 57)) || c == 95))
def byteAt (s : ByteArray) (j : Nat) : Int := if h : j < s.size then (s[j].toNat : Int) else 0
def nameB (s : ByteArray) : Bool := decide (1 ≤ s.size) && decide (s.size ≤ 20) && (List.range s.size).all fun j => okC (j == 0) (byteAt s j)

theorem nameB_short {s : ByteArray} (h : s.size < 1 ∨ 20 < s.size) : nameB s = false := by
  unfold nameB; rcases h with h | h
  · have : decide (1 ≤ s.size) = false := decide_eq_false (by omega)
    simp [this]
  · have : decide (s.size ≤ 20) = false := decide_eq_false (by omega)
    simp [this]
theorem nameB_no {s : ByteArray} (j : Nat) (h : j < s.size) (hc : okC (j == 0) (byteAt s j) = false) : nameB s = false := by
  unfold nameB
  have : (List.range s.size).all (fun j => okC (j == 0) (byteAt s j)) = false := by
    rw [List.all_eq_false]; exact ⟨j, by simpa using h, by simpa using hc⟩
  simp [this]
theorem nameB_yes {s : ByteArray} (h1 : 1 ≤ s.size) (h2 : s.size ≤ 20) (h : ∀ j, j < s.size → okC (j == 0) (byteAt s j) = true) : nameB s = true := by
  unfold nameB
  have : (List.range s.size).all (fun j => okC (j == 0) (byteAt s j)) = true := by
    rw [List.all_eq_true]; intro j hj; exact h j (by simpa using hj)
  simp [this, h1, h2]

theorem okC_iff (f : Bool) (c : Int) : okC f c = true ↔ (97 ≤ c ∧ c ≤ 122) ∨ (f = false ∧ ((48 ≤ c ∧ c ≤ 57) ∨ c = 95)) := by
  simp [okC]
theorem okC_not (f : Bool) (c : Int) : okC f c = false ↔ ¬ ((97 ≤ c ∧ c ≤ 122) ∨ (f = false ∧ ((48 ≤ c ∧ c ≤ 57) ∨ c = 95))) := by
  rw [← okC_iff]; simp
theorem byteAt_lt {s : ByteArray} {k : Nat} (h : k < s.size) : byteAt s k = (s[k].toNat : Int) := by simp [byteAt, h]
theorem ok_next {s : ByteArray} {k : Nat} (h : ∀ j, j < k → okC (j == 0) (byteAt s j) = true) (hk : okC (k == 0) (byteAt s k) = true) : ∀ j, j < k + 1 → okC (j == 0) (byteAt s j) = true := by
  intro j hj
  by_cases e : j = k
  · subst e; exact hk
  · exact h j (by omega)

set_option maxHeartbeats 1000000 in
theorem spec_name (s : ByteArray) (w : World) (hs : s.size ≤ maxLen) :
    Calls Tryz.prog 71 #[.string s] w fun e w' => e = .returned (.bool (nameB s)) ∧ w' = w := by
  unfold maxLen at hs
  by_cases h : s.size < 1 ∨ 20 < s.size
  · have hf := hide (nameB_short h)
    rcases h with h | h
    all_goals
      go_enter Tryz.func71, Tryz.ntmps71
      go_wp2
      go_ret
      exact ⟨ret_bool (unhide hf), rfl⟩
  · have h1 : 1 ≤ s.size := by omega
    have h2 : s.size ≤ 20 := by omega
    clear h
    go_enter Tryz.func71, Tryz.ntmps71
    go_wp2
    go_loop [3] (fun i => ∃ k : Nat, k ≤ s.size ∧ i = .int .i64 k ∧ ∀ j, j < k → okC (j == 0) (byteAt s j) = true) (fun i => s.size - (intOf i).toNat)
    case atStart => exact ⟨0, Nat.zero_le _, rfl, fun j h => absurd h (by omega)⟩
    case round =>
      obtain ⟨k, hk, rfl, hall⟩ := hrel
      have HA := hide hall
      clear hall
      by_cases hlt : k < s.size
      · have HB := hide (byteAt_lt hlt)
        by_cases c1 : 97 ≤ (s[k].toNat : Int) ∧ (s[k].toNat : Int) ≤ 122
        · have HO : Hid (okC (k == 0) (byteAt s k) = true) := by
            show okC _ _ = true
            rw [okC_iff, byteAt_lt hlt]; exact .inl c1
          obtain ⟨c2, c3⟩ := c1
          go_wp2
          go_round
          case rel => exact ⟨k + 1, by omega, by go_num, ok_next (unhide HA) (unhide HO)⟩
          case measure => simp [intOf]; omega
        · by_cases k0 : k = 0
          · have HO := hide (nameB_no k hlt (by rw [okC_not, byteAt_lt hlt]; subst k0; simpa using c1))
            subst k0
            by_cases c2 : 97 ≤ (s[0].toNat : Int)
            · have c3 : ¬ (s[0].toNat : Int) ≤ 122 := by omega
              clear c1
              go_wp2
              go_ret
              exact ⟨ret_bool (unhide HO), rfl⟩
            · clear c1
              go_wp2
              go_ret
              exact ⟨ret_bool (unhide HO), rfl⟩
          · have k1 : ((k : Int) == 0) = false := by simp; omega
            have k2 : (k == 0) = false := by simp [k0]
            have hcase : ((s[k].toNat : Int) < 48) ∨ (48 ≤ (s[k].toNat : Int) ∧ (s[k].toNat : Int) ≤ 57) ∨ (57 < (s[k].toNat : Int) ∧ (s[k].toNat : Int) < 97 ∧ (s[k].toNat : Int) ≠ 95) ∨ (s[k].toNat : Int) = 95 ∨ 122 < (s[k].toNat : Int) := by omega
            rcases hcase with c | c | c | c | c
            · have HO := hide (nameB_no k hlt (by rw [okC_not, byteAt_lt hlt]; omega))
              have c4 : ((s[k].toNat : Int) != 95) = true := by simp; omega
              clear c1 k2
              go_wp2
              go_ret
              exact ⟨ret_bool (unhide HO), rfl⟩
            · have HO : Hid (okC (k == 0) (byteAt s k) = true) := hide (by rw [okC_iff, byteAt_lt hlt]; exact .inr ⟨k2, .inl c⟩)
              obtain ⟨c2, c3⟩ := c
              clear c1 k2
              go_wp2
              go_round
              case rel => exact ⟨k + 1, by omega, by go_num, ok_next (unhide HA) (unhide HO)⟩
              case measure => simp [intOf]; omega
            · have HO := hide (nameB_no k hlt (by rw [okC_not, byteAt_lt hlt]; omega))
              have c4 : ((s[k].toNat : Int) != 95) = true := by simp; omega
              obtain ⟨c2, c3, -⟩ := c
              have c7 : decide ((s[k].toNat : Int) ≤ 57) = false := decide_eq_false (by omega)
              clear c1 k2
              go_wp2
              go_ret
              exact ⟨ret_bool (unhide HO), rfl⟩
            · have HO : Hid (okC (k == 0) (byteAt s k) = true) := hide (by rw [okC_iff, byteAt_lt hlt]; exact .inr ⟨k2, .inr c⟩)
              have c4 : ((s[k].toNat : Int) != 95) = false := by simp; omega
              have c5 : 57 < (s[k].toNat : Int) := by omega
              have c6 : (s[k].toNat : Int) < 97 := by omega
              clear c1 k2 c
              go_wp2
              go_round
              case rel => exact ⟨k + 1, by omega, by go_num, ok_next (unhide HA) (unhide HO)⟩
              case measure => simp [intOf]; omega
            · have HO := hide (nameB_no k hlt (by rw [okC_not, byteAt_lt hlt]; omega))
              have c4 : ((s[k].toNat : Int) != 95) = true := by simp; omega
              have c7 : decide ((s[k].toNat : Int) ≤ 57) = false := decide_eq_false (by omega)
              have c8 : decide ((s[k].toNat : Int) ≤ 122) = false := decide_eq_false (by omega)
              clear c1 k2
              go_wp2
              go_ret
              exact ⟨ret_bool (unhide HO), rfl⟩
      · go_wp2
        go_ret
        exact ⟨ret_bool (nameB_yes h1 h2 (fun j hj => unhide HA j (by omega))), rfl⟩

def letB (c : Int) : Bool := decide (97 ≤ c) && decide (c ≤ 122)
def digB (c : Int) : Bool := decide (48 ≤ c) && decide (c ≤ 57)
theorem is_letter (c : Int) (w : World) : Calls Tryz.prog 87 #[.int .u8 c] w fun e w' => e = .returned (.bool (letB c)) ∧ w' = w := by
  by_cases h1 : 97 ≤ c
  · by_cases h2 : c ≤ 122
    all_goals
      go_enter Tryz.func87, Tryz.ntmps87
      go_wp2
      go_ret
      exact ⟨ret_bool (by simp [letB, h1, h2]), rfl⟩
  · go_enter Tryz.func87, Tryz.ntmps87
    go_wp2
    go_ret
    exact ⟨ret_bool (by rw [letB, decide_eq_false (show ¬ 97 ≤ c by omega)]; rfl), rfl⟩
theorem is_digit (c : Int) (w : World) : Calls Tryz.prog 88 #[.int .u8 c] w fun e w' => e = .returned (.bool (digB c)) ∧ w' = w := by
  by_cases h1 : 48 ≤ c
  · by_cases h2 : c ≤ 57
    all_goals
      go_enter Tryz.func88, Tryz.ntmps88
      go_wp2
      go_ret
      exact ⟨ret_bool (by simp [digB, h1, h2]), rfl⟩
  · go_enter Tryz.func88, Tryz.ntmps88
    go_wp2
    go_ret
    exact ⟨ret_bool (by rw [digB, decide_eq_false (show ¬ 48 ≤ c by omega)]; rfl), rfl⟩
theorem okC_eq (f : Bool) (c : Int) : okC f c = (letB c || (!f && (digB c || c == 95))) := rfl

set_option maxHeartbeats 1000000 in
theorem impl_name (s : ByteArray) (w : World) (hs : s.size ≤ maxLen) :
    Calls Tryz.prog 69 #[.string s] w fun e w' => e = .returned (.bool (nameB s)) ∧ w' = w := by
  unfold maxLen at hs
  by_cases h : s.size < 1 ∨ 20 < s.size
  · have hf := hide (nameB_short h)
    rcases h with h | h
    · have g : ((s.size : Int) == 0) = true := beq_iff_eq.2 (by omega)
      go_enter Tryz.func69, Tryz.ntmps69
      go_wp2_with fail
      go_ret
      exact ⟨ret_bool (unhide hf), rfl⟩
    · have g : ((s.size : Int) == 0) = false := beq_eq_false_iff_ne.2 (by omega)
      go_enter Tryz.func69, Tryz.ntmps69
      go_wp2_with fail
      go_ret
      exact ⟨ret_bool (unhide hf), rfl⟩
  · have h1 : 1 ≤ s.size := by omega
    have h2 : s.size ≤ 20 := by omega
    have g : ((s.size : Int) == 0) = false := beq_eq_false_iff_ne.2 (by omega)
    have g2 : decide (20 < (s.size : Int)) = false := decide_eq_false (by omega)
    have g3 : 0 < s.size := by omega
    clear h
    cases hl : letB (s[0].toNat : Int)
    · have HO := hide (nameB_no (s := s) 0 g3 (by rw [okC_eq, byteAt_lt g3, hl]; rfl))
      have HL := hide hl
      clear hl
      go_enter Tryz.func69, Tryz.ntmps69
      go_wp2_with (go_at_call 87; refine (is_letter _ _).mono ?_; rintro e w' ⟨rfl, rfl⟩; rw [unhide HL])
      go_ret
      exact ⟨ret_bool (unhide HO), rfl⟩
    · have HL := hide hl
      have HO : Hid (okC (0 == 0) (byteAt s 0) = true) := hide (by rw [okC_eq, byteAt_lt g3, hl]; rfl)
      clear hl
      go_enter Tryz.func69, Tryz.ntmps69
      go_wp2_with (go_at_call 87; refine (is_letter _ _).mono ?_; rintro e w' ⟨rfl, rfl⟩; rw [unhide HL])
      go_loop [3] (fun i => ∃ k : Nat, 1 ≤ k ∧ k ≤ s.size ∧ i = .int .i64 k ∧ ∀ j, j < k → okC (j == 0) (byteAt s j) = true) (fun i => s.size - (intOf i).toNat)
      case atStart => exact ⟨1, Nat.le_refl _, h1, rfl, fun j h => by rw [show j = 0 from by omega]; exact unhide HO⟩
      case round =>
        obtain ⟨k, hk1, hk, rfl, hall⟩ := hrel
        have HA := hide hall
        clear hall HO HL
        by_cases hlt : k < s.size
        · have k2 : (k == 0) = false := beq_eq_false_iff_ne.2 (by omega)
          cases hl : letB (s[k].toNat : Int)
          · cases hd : digB (s[k].toNat : Int)
            · cases hu : ((s[k].toNat : Int) == 95)
              · have HO := hide (nameB_no (s := s) k hlt (by rw [okC_eq, byteAt_lt hlt, hl, hd, hu, k2]; rfl))
                have HL := hide hl
                have HD := hide hd
                have c4 : ((s[k].toNat : Int) != 95) = true := by rw [bne, hu]; rfl
                clear hl hd hu k2
                go_wp2_with (first | (go_at_call 87; refine (is_letter _ _).mono ?_; rintro e w' ⟨rfl, rfl⟩; rw [unhide HL]) | (go_at_call 88; refine (is_digit _ _).mono ?_; rintro e w' ⟨rfl, rfl⟩; rw [unhide HD]))
                go_ret
                exact ⟨ret_bool (unhide HO), rfl⟩
              · have HO : Hid (okC (k == 0) (byteAt s k) = true) := hide (by rw [okC_eq, byteAt_lt hlt, hl, hd, hu, k2]; rfl)
                have HL := hide hl
                have HD := hide hd
                have c4 : ((s[k].toNat : Int) != 95) = false := by rw [bne, hu]; rfl
                clear hl hd hu k2
                go_wp2_with (first | (go_at_call 87; refine (is_letter _ _).mono ?_; rintro e w' ⟨rfl, rfl⟩; rw [unhide HL]) | (go_at_call 88; refine (is_digit _ _).mono ?_; rintro e w' ⟨rfl, rfl⟩; rw [unhide HD]))
                go_round
                case rel => exact ⟨k + 1, by omega, by omega, by go_num, ok_next (unhide HA) (unhide HO)⟩
                case measure => simp [intOf]; omega
            · have HO : Hid (okC (k == 0) (byteAt s k) = true) := hide (by rw [okC_eq, byteAt_lt hlt, hl, hd, k2]; rfl)
              have HL := hide hl
              have HD := hide hd
              clear hl hd k2
              go_wp2_with (first | (go_at_call 87; refine (is_letter _ _).mono ?_; rintro e w' ⟨rfl, rfl⟩; rw [unhide HL]) | (go_at_call 88; refine (is_digit _ _).mono ?_; rintro e w' ⟨rfl, rfl⟩; rw [unhide HD]))
              go_round
              case rel => exact ⟨k + 1, by omega, by omega, by go_num, ok_next (unhide HA) (unhide HO)⟩
              case measure => simp [intOf]; omega
          · have HO : Hid (okC (k == 0) (byteAt s k) = true) := hide (by rw [okC_eq, byteAt_lt hlt, hl]; rfl)
            have HL := hide hl
            clear hl k2
            go_wp2_with (first | (go_at_call 87; refine (is_letter _ _).mono ?_; rintro e w' ⟨rfl, rfl⟩; rw [unhide HL]))
            go_round
            case rel => exact ⟨k + 1, by omega, by omega, by go_num, ok_next (unhide HA) (unhide HO)⟩
            case measure => simp [intOf]; omega
        · go_wp2
          go_ret
          exact ⟨ret_bool (nameB_yes h1 h2 (fun j hj => unhide HA j (by omega))), rfl⟩

end Go.Proofs.YtonafcifolddjaaGreatDoor
