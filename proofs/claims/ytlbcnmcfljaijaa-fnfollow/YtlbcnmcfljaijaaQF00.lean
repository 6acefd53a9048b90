import Derived.WalkKit
import Derived.WalkSpells
import Derived.WalkLawsBesides
import Derived.Test.YtlbcnmcfljaijaaRows
import Derived.Deep.RegionWith
import Derived.Deep.LoopGhost
import Derived.Laws.Rows
import Derived.Laws.MakeOwn
import Derived.Deep.Slices
import Derived.ChangeArms
import Derived.ChangeSame
import Derived.BigQuiet
import Derived.Below
import Derived.Lib.BufferWrite
import Derived.Laws.CopyOwn
import Derived.Test.YtlbcnmcfljaijaaProg
import Derived.Shelf.Strings.OnBuilder
import Derived.Lib.AppendIntMem
import Derived.Shelf.Strconv.Clone
namespace Go.Proofs.Ytlbcnmcfljaijaa
open Go.RowKit

theorem hide {p : Prop} (h : p) : Hid p := h
theorem unhide {p : Prop} (h : Hid p) : p := h
theorem ret_bool {a b : Bool} (h : b = a) : Ending.returned (.bool a) = .returned (.bool b) := by rw [h]
theorem ret_int {k : IntKind} {a b : Int} (h : b = a) : Ending.returned (.int k a) = .returned (.int k b) := by rw [h]
theorem ret_str {a b : ByteArray} (h : b = a) : Ending.returned (.string a) = .returned (.string b) := by rw [h]

end Go.Proofs.Ytlbcnmcfljaijaa
namespace Go.Proofs.Ytlbcnmcfljaijaa
open Go.RowKit

theorem malloc1 (w : World) (o : Obj) : Below w.heap.size w (w.alloc o) := (Below.refl _ _).alloc (Nat.le_refl _) o
theorem mheap_new (W : World) (o : Obj) (k : Nat) (h : k = W.heap.size) : (W.alloc o).heap[k]? = some o := by
  subst h; show (W.heap.push o)[W.heap.size]? = _; simp
theorem mheap_old (W : World) (o : Obj) (k : Nat) (h : k < W.heap.size) : (W.alloc o).heap[k]? = W.heap[k]? := Below.heap_alloc W o k h
structure MOwn (B : Nat) (w : World) (v : Value) : Prop where
  free : ∀ b, v.ownBlock = some b → B ≤ b ∧ b < w.heap.size ∧ ∀ j, w.frozen? ⟨b, j, none⟩ = false
theorem MOwn.carry {B : Nat} {w w' : World} {v : Value} (h : MOwn B w v) (hb : Below w.heap.size w w') : MOwn B w' v :=
  ⟨fun b e => ⟨(h.free b e).1, Nat.lt_of_lt_of_le (h.free b e).2.1 hb.size, fun j => (hb.frozen (p := ⟨b, j, none⟩) (h.free b e).2.1).trans ((h.free b e).2.2 j)⟩⟩
end Go.Proofs.Ytlbcnmcfljaijaa
namespace Go.Proofs.Ytlbcnmcfljaijaa
open Go.RowKit

def okC (first : Bool) (c : Int) : Bool := (decide (97 ≤ c) && decide (c ≤ 122)) || (!first && ((decide (48 ≤ c) && decide (c ≤ 57)) || c == 95))
def byteAt (s : ByteArray) (j : Nat) : Int := if h : j < s.size then (s[j].toNat : Int) else 0
def nameB (s : ByteArray) : Bool := decide (1 ≤ s.size) && decide (s.size ≤ 20) && (List.range s.size).all fun j => okC (j == 0) (byteAt s j)

theorem nameB_short {s : ByteArray} (h : s.size < 1 ∨ 20 < s.size) : nameB s = false := by
  unfold nameB; rcases h with h | h
  · have : decide (1 ≤ s.size) = false := decide_eq_false (by omega)
    simp [this]
  · have : decide (s.size ≤ 20) = false := decide_eq_false (by omega)
    simp [this]
theorem nameB_no {s : ByteArray} (j : Nat) (h : j < s.size) (hc : okC (j == 0) (byteAt s j) = false) : nameB s = false := by
  unfold nameB
  have : (List.range s.size).all (fun j => okC (j == 0) (byteAt s j)) = false := by
    rw [List.all_eq_false]; exact ⟨j, by simpa using h, by simpa using hc⟩
  simp [this]
theorem nameB_yes {s : ByteArray} (h1 : 1 ≤ s.size) (h2 : s.size ≤ 20) (h : ∀ j, j < s.size → okC (j == 0) (byteAt s j) = true) : nameB s = true := by
  unfold nameB
  have : (List.range s.size).all (fun j => okC (j == 0) (byteAt s j)) = true := by
    rw [List.all_eq_true]; intro j hj; exact h j (by simpa using hj)
  simp [this, h1, h2]

theorem okC_iff (f : Bool) (c : Int) : okC f c = true ↔ (97 ≤ c ∧ c ≤ 122) ∨ (f = false ∧ ((48 ≤ c ∧ c ≤ 57) ∨ c = 95)) := by
  simp [okC]
theorem okC_not (f : Bool) (c : Int) : okC f c = false ↔ ¬ ((97 ≤ c ∧ c ≤ 122) ∨ (f = false ∧ ((48 ≤ c ∧ c ≤ 57) ∨ c = 95))) := by
  rw [← okC_iff]; simp
theorem byteAt_lt {s : ByteArray} {k : Nat} (h : k < s.size) : byteAt s k = (s[k].toNat : Int) := by simp [byteAt, h]
theorem ok_next {s : ByteArray} {k : Nat} (h : ∀ j, j < k → okC (j == 0) (byteAt s j) = true) (hk : okC (k == 0) (byteAt s k) = true) : ∀ j, j < k + 1 → okC (j == 0) (byteAt s j) = true := by
  intro j hj
  by_cases e : j = k
  · subst e; exact hk
  · exact h j (by omega)

set_option maxHeartbeats 1000000 in
theorem spec_name (s : ByteArray) (w : World) (hs : s.size ≤ maxLen) :
    Calls Try.prog 23 #[.string s] w fun e w' => e = .returned (.bool (nameB s)) ∧ w' = w := by
  unfold maxLen at hs
  by_cases h : s.size < 1 ∨ 20 < s.size
  · have hf := hide (nameB_short h)
    rcases h with h | h
    all_goals
      go_enter Try.func23, Try.ntmps23
      go_wp2
      go_ret
      exact ⟨ret_bool (unhide hf), rfl⟩
  · have h1 : 1 ≤ s.size := by omega
    have h2 : s.size ≤ 20 := by omega
    clear h
    go_enter Try.func23, Try.ntmps23
    go_wp2
    go_loop [3] (fun i => ∃ k : Nat, k ≤ s.size ∧ i = .int .i64 k ∧ ∀ j, j < k → okC (j == 0) (byteAt s j) = true) (fun i => s.size - (intOf i).toNat)
    case atStart => exact ⟨0, Nat.zero_le _, rfl, fun j h => absurd h (by omega)⟩
    case round =>
      obtain ⟨k, hk, rfl, hall⟩ := hrel
      have HA := hide hall
      clear hall
      by_cases hlt : k < s.size
      · have HB := hide (byteAt_lt hlt)
        by_cases c1 : 97 ≤ (s[k].toNat : Int) ∧ (s[k].toNat : Int) ≤ 122
        · have HO : Hid (okC (k == 0) (byteAt s k) = true) := by
            show okC _ _ = true
            rw [okC_iff, byteAt_lt hlt]; exact .inl c1
          obtain ⟨c2, c3⟩ := c1
          go_wp2
          go_round
          case rel => exact ⟨k + 1, by omega, by go_num, ok_next (unhide HA) (unhide HO)⟩
          case measure => simp [intOf]; omega
        · by_cases k0 : k = 0
          · have HO := hide (nameB_no k hlt (by rw [okC_not, byteAt_lt hlt]; subst k0; simpa using c1))
            subst k0
            by_cases c2 : 97 ≤ (s[0].toNat : Int)
            · have c3 : ¬ (s[0].toNat : Int) ≤ 122 := by omega
              clear c1
              go_wp2
              go_ret
              exact ⟨ret_bool (unhide HO), rfl⟩
            · clear c1
              go_wp2
              go_ret
              exact ⟨ret_bool (unhide HO), rfl⟩
          · have k1 : ((k : Int) == 0) = false := by simp; omega
            have k2 : (k == 0) = false := by simp [k0]
            have hcase : ((s[k].toNat : Int) < 48) ∨ (48 ≤ (s[k].toNat : Int) ∧ (s[k].toNat : Int) ≤ 57) ∨ (57 < (s[k].toNat : Int) ∧ (s[k].toNat : Int) < 97 ∧ (s[k].toNat : Int) ≠ 95) ∨ (s[k].toNat : Int) = 95 ∨ 122 < (s[k].toNat : Int) := by omega
            rcases hcase with c | c | c | c | c
            · have HO := hide (nameB_no k hlt (by rw [okC_not, byteAt_lt hlt]; omega))
              have c4 : ((s[k].toNat : Int) != 95) = true := by simp; omega
              clear c1 k2
              go_wp2
              go_ret
              exact ⟨ret_bool (unhide HO), rfl⟩
            · have HO : Hid (okC (k == 0) (byteAt s k) = true) := hide (by rw [okC_iff, byteAt_lt hlt]; exact .inr ⟨k2, .inl c⟩)
              obtain ⟨c2, c3⟩ := c
              clear c1 k2
              go_wp2
              go_round
              case rel => exact ⟨k + 1, by omega, by go_num, ok_next (unhide HA) (unhide HO)⟩
              case measure => simp [intOf]; omega
            · have HO := hide (nameB_no k hlt (by rw [okC_not, byteAt_lt hlt]; omega))
              have c4 : ((s[k].toNat : Int) != 95) = true := by simp; omega
              obtain ⟨c2, c3, -⟩ := c
              have c7 : decide ((s[k].toNat : Int) ≤ 57) = false := decide_eq_false (by omega)
              clear c1 k2
              go_wp2
              go_ret
              exact ⟨ret_bool (unhide HO), rfl⟩
            · have HO : Hid (okC (k == 0) (byteAt s k) = true) := hide (by rw [okC_iff, byteAt_lt hlt]; exact .inr ⟨k2, .inr c⟩)
              have c4 : ((s[k].toNat : Int) != 95) = false := by simp; omega
              have c5 : 57 < (s[k].toNat : Int) := by omega
              have c6 : (s[k].toNat : Int) < 97 := by omega
              clear c1 k2 c
              go_wp2
              go_round
              case rel => exact ⟨k + 1, by omega, by go_num, ok_next (unhide HA) (unhide HO)⟩
              case measure => simp [intOf]; omega
            · have HO := hide (nameB_no k hlt (by rw [okC_not, byteAt_lt hlt]; omega))
              have c4 : ((s[k].toNat : Int) != 95) = true := by simp; omega
              have c7 : decide ((s[k].toNat : Int) ≤ 57) = false := decide_eq_false (by omega)
              have c8 : decide ((s[k].toNat : Int) ≤ 122) = false := decide_eq_false (by omega)
              clear c1 k2
              go_wp2
              go_ret
              exact ⟨ret_bool (unhide HO), rfl⟩
      · go_wp2
        go_ret
        exact ⟨ret_bool (nameB_yes h1 h2 (fun j hj => unhide HA j (by omega))), rfl⟩

def letB (c : Int) : Bool := decide (97 ≤ c) && decide (c ≤ 122)
def digB (c : Int) : Bool := decide (48 ≤ c) && decide (c ≤ 57)
theorem is_letter (c : Int) (w : World) : Calls Try.prog 62 #[.int .u8 c] w fun e w' => e = .returned (.bool (letB c)) ∧ w' = w := by
  by_cases h1 : 97 ≤ c
  · by_cases h2 : c ≤ 122
    all_goals
      go_enter Try.func62, Try.ntmps62
      go_wp2
      go_ret
      exact ⟨ret_bool (by simp [letB, h1, h2]), rfl⟩
  · go_enter Try.func62, Try.ntmps62
    go_wp2
    go_ret
    exact ⟨ret_bool (by rw [letB, decide_eq_false (show ¬ 97 ≤ c by omega)]; rfl), rfl⟩
theorem is_digit (c : Int) (w : World) : Calls Try.prog 63 #[.int .u8 c] w fun e w' => e = .returned (.bool (digB c)) ∧ w' = w := by
  by_cases h1 : 48 ≤ c
  · by_cases h2 : c ≤ 57
    all_goals
      go_enter Try.func63, Try.ntmps63
      go_wp2
      go_ret
      exact ⟨ret_bool (by simp [digB, h1, h2]), rfl⟩
  · go_enter Try.func63, Try.ntmps63
    go_wp2
    go_ret
    exact ⟨ret_bool (by rw [digB, decide_eq_false (show ¬ 48 ≤ c by omega)]; rfl), rfl⟩
theorem okC_eq (f : Bool) (c : Int) : okC f c = (letB c || (!f && (digB c || c == 95))) := rfl

set_option maxHeartbeats 1000000 in
theorem impl_name (s : ByteArray) (w : World) (hs : s.size ≤ maxLen) :
    Calls Try.prog 47 #[.string s] w fun e w' => e = .returned (.bool (nameB s)) ∧ w' = w := by
  unfold maxLen at hs
  by_cases h : s.size < 1 ∨ 20 < s.size
  · have hf := hide (nameB_short h)
    rcases h with h | h
    · have g : ((s.size : Int) == 0) = true := beq_iff_eq.2 (by omega)
      go_enter Try.func47, Try.ntmps47
      go_wp2_with fail
      go_ret
      exact ⟨ret_bool (unhide hf), rfl⟩
    · have g : ((s.size : Int) == 0) = false := beq_eq_false_iff_ne.2 (by omega)
      go_enter Try.func47, Try.ntmps47
      go_wp2_with fail
      go_ret
      exact ⟨ret_bool (unhide hf), rfl⟩
  · have h1 : 1 ≤ s.size := by omega
    have h2 : s.size ≤ 20 := by omega
    have g : ((s.size : Int) == 0) = false := beq_eq_false_iff_ne.2 (by omega)
    have g2 : decide (20 < (s.size : Int)) = false := decide_eq_false (by omega)
    have g3 : 0 < s.size := by omega
    clear h
    cases hl : letB (s[0].toNat : Int)
    · have HO := hide (nameB_no (s := s) 0 g3 (by rw [okC_eq, byteAt_lt g3, hl]; rfl))
      have HL := hide hl
      clear hl
      go_enter Try.func47, Try.ntmps47
      go_wp2_with (go_at_call 62; refine (is_letter _ _).mono ?_; rintro e w' ⟨rfl, rfl⟩; rw [unhide HL])
      go_ret
      exact ⟨ret_bool (unhide HO), rfl⟩
    · have HL := hide hl
      have HO : Hid (okC (0 == 0) (byteAt s 0) = true) := hide (by rw [okC_eq, byteAt_lt g3, hl]; rfl)
      clear hl
      go_enter Try.func47, Try.ntmps47
      go_wp2_with (go_at_call 62; refine (is_letter _ _).mono ?_; rintro e w' ⟨rfl, rfl⟩; rw [unhide HL])
      go_loop [3] (fun i => ∃ k : Nat, 1 ≤ k ∧ k ≤ s.size ∧ i = .int .i64 k ∧ ∀ j, j < k → okC (j == 0) (byteAt s j) = true) (fun i => s.size - (intOf i).toNat)
      case atStart => exact ⟨1, Nat.le_refl _, h1, rfl, fun j h => by rw [show j = 0 from by omega]; exact unhide HO⟩
      case round =>
        obtain ⟨k, hk1, hk, rfl, hall⟩ := hrel
        have HA := hide hall
        clear hall HO HL
        by_cases hlt : k < s.size
        · have k2 : (k == 0) = false := beq_eq_false_iff_ne.2 (by omega)
          cases hl : letB (s[k].toNat : Int)
          · cases hd : digB (s[k].toNat : Int)
            · cases hu : ((s[k].toNat : Int) == 95)
              · have HO := hide (nameB_no (s := s) k hlt (by rw [okC_eq, byteAt_lt hlt, hl, hd, hu, k2]; rfl))
                have HL := hide hl
                have HD := hide hd
                have c4 : ((s[k].toNat : Int) != 95) = true := by rw [bne, hu]; rfl
                clear hl hd hu k2
                go_wp2_with (first | (go_at_call 62; refine (is_letter _ _).mono ?_; rintro e w' ⟨rfl, rfl⟩; rw [unhide HL]) | (go_at_call 63; refine (is_digit _ _).mono ?_; rintro e w' ⟨rfl, rfl⟩; rw [unhide HD]))
                go_ret
                exact ⟨ret_bool (unhide HO), rfl⟩
              · have HO : Hid (okC (k == 0) (byteAt s k) = true) := hide (by rw [okC_eq, byteAt_lt hlt, hl, hd, hu, k2]; rfl)
                have HL := hide hl
                have HD := hide hd
                have c4 : ((s[k].toNat : Int) != 95) = false := by rw [bne, hu]; rfl
                clear hl hd hu k2
                go_wp2_with (first | (go_at_call 62; refine (is_letter _ _).mono ?_; rintro e w' ⟨rfl, rfl⟩; rw [unhide HL]) | (go_at_call 63; refine (is_digit _ _).mono ?_; rintro e w' ⟨rfl, rfl⟩; rw [unhide HD]))
                go_round
                case rel => exact ⟨k + 1, by omega, by omega, by go_num, ok_next (unhide HA) (unhide HO)⟩
                case measure => simp [intOf]; omega
            · have HO : Hid (okC (k == 0) (byteAt s k) = true) := hide (by rw [okC_eq, byteAt_lt hlt, hl, hd, k2]; rfl)
              have HL := hide hl
              have HD := hide hd
              clear hl hd k2
              go_wp2_with (first | (go_at_call 62; refine (is_letter _ _).mono ?_; rintro e w' ⟨rfl, rfl⟩; rw [unhide HL]) | (go_at_call 63; refine (is_digit _ _).mono ?_; rintro e w' ⟨rfl, rfl⟩; rw [unhide HD]))
              go_round
              case rel => exact ⟨k + 1, by omega, by omega, by go_num, ok_next (unhide HA) (unhide HO)⟩
              case measure => simp [intOf]; omega
          · have HO : Hid (okC (k == 0) (byteAt s k) = true) := hide (by rw [okC_eq, byteAt_lt hlt, hl]; rfl)
            have HL := hide hl
            clear hl k2
            go_wp2_with (first | (go_at_call 62; refine (is_letter _ _).mono ?_; rintro e w' ⟨rfl, rfl⟩; rw [unhide HL]))
            go_round
            case rel => exact ⟨k + 1, by omega, by omega, by go_num, ok_next (unhide HA) (unhide HO)⟩
            case measure => simp [intOf]; omega
        · go_wp2
          go_ret
          exact ⟨ret_bool (nameB_yes h1 h2 (fun j hj => unhide HA j (by omega))), rfl⟩

end Go.Proofs.Ytlbcnmcfljaijaa
namespace Go.Proofs.Ytlbcnmcfljaijaa
open Go.RowKit

structure Grown (w : World) where
  val : World
  bel : Below w.heap.size w val
theorem grown_some (w : World) : Nonempty (Grown w) := ⟨⟨w, Below.refl _ _⟩⟩
theorem Grown.cell {w : World} (g : Grown w) {p : Addr} (h : p.block < w.heap.size) : g.val.cell? p = w.cell? p := g.bel.cell h
theorem grown_cell {w : World} {b o : Nat} {v : Value} (h : w.cell? ⟨b, o, none⟩ = some v) : ∀ g : Grown w, g.val.cell? ⟨b, o, none⟩ = some v :=
  fun g => (g.bel.cell (p := ⟨b, o, none⟩) (World.block_lt_of_cell? w _ h)).trans h
theorem wp_region_grown {P : Program} {id : Nat} {Q : Exit → Act → World → Prop} {a : Act} {w : World} {l : List Oper} (hm : P.follows .mixedOrders = true) (hB : Region.lexB .any l.toArray = true)
    (h : ∀ W, W = w → wpQuiet P l.toArray (fun w' => ∃ g : Grown W, w' = g.val) (fun a' => ∀ w', Below W.heap.size W w' → Q .normal a' w') l a) : (Code.region id l.toArray true).wp P Q a w := by
  refine wp_region_quiet (C := fun w' => ∃ g : Grown w, w' = g.val) hm hB ⟨⟨_, (Below.refl _ _).drew⟩, rfl⟩ ?_
  have h0 := h w rfl
  have e : (fun a' => ∀ w', (∃ g : Grown w, w' = g.val) → Q .normal a' w') = (fun a' => ∀ w', Below w.heap.size w w' → Q .normal a' w') := by
    funext a'
    refine propext ⟨fun h w' hb => h w' ⟨⟨w', hb⟩, rfl⟩, fun h w' ⟨g, hg⟩ => ?_⟩
    rw [hg]; exact h _ g.bel
  rw [e]
  simpa using h0
theorem wpList_quiet {P : Program} {ops : Array Oper} {C : World → Prop} {Q : Exit → Act → World → Prop} : ∀ (l : List Oper) (a : Act) (w : World), C w → wpQuiet P ops C (fun a' => ∀ w', C w' → Q .normal a' w') l a → wpList P ops Q l a w
  | [], _, w, hw, h => h w hw
  | o :: rest, a, w, hw, h => by
    unfold wpList
    unfold wpQuiet at h
    split
    · rename_i hwant
      rw [if_pos hwant] at h
      exact .inl (Oper.wp_of_quiet hw (fun a' w' hw' h' => wpList_quiet rest a' w' hw' h') h)
    · rename_i hwant
      rw [if_neg hwant] at h
      exact wpList_quiet rest _ w hw h
theorem wp_text_from (d : Nat) {P : Program} {ops : Array Oper} {Q : Exit → Act → World → Prop} {a : Act} {w : World} {op : Op} {ty : TypeId} {pos : String} {af : Array Edge} {gu : Option (Nat × Bool)} {rest : List Oper}
    (h : ∀ W, W = w → wpQuiet P ops (fun w' => ∃ g : Grown W, w' = g.val) (fun a' => ∀ w', Below W.heap.size W w' → Q .normal a' w') (⟨some d, op, ty, pos, af, gu⟩ :: rest) a) : wpList P ops Q (⟨some d, op, ty, pos, af, gu⟩ :: rest) a w := by
  refine wpList_quiet (C := fun w' => ∃ g : Grown w, w' = g.val) _ _ _ ⟨⟨w, Below.refl _ _⟩, rfl⟩ ?_
  have h0 := h w rfl
  have e : (fun a' => ∀ w', (∃ g : Grown w, w' = g.val) → Q .normal a' w') = (fun a' => ∀ w', Below w.heap.size w w' → Q .normal a' w') := by
    funext a'
    refine propext ⟨fun h w' hb => h w' ⟨⟨w', hb⟩, rfl⟩, fun h w' ⟨g, hg⟩ => ?_⟩
    rw [hg]; exact h _ g.bel
  rw [e]
  exact h0
theorem grown_same {P : Program} {f : FuncId} {args : Array Value} {w : World} {g : Grown w} {v : Value}
    (h : Calls P f args g.val fun e w' => e = .returned v ∧ w' = g.val) : Calls P f args g.val fun e w'' => e = .returned v ∧ ∃ g' : Grown w, w'' = g'.val :=
  h.mono fun _ _ ⟨he, hm⟩ => ⟨he, g, hm⟩
theorem grown_more {P : Program} {f : FuncId} {args : Array Value} {w : World} {g : Grown w} {v : Value}
    (h : Calls P f args g.val fun e w' => e = .returned v ∧ Below g.val.heap.size g.val w') : Calls P f args g.val fun e w'' => e = .returned v ∧ ∃ g' : Grown w, w'' = g'.val :=
  h.mono fun _ w' ⟨he, hm⟩ => ⟨he, ⟨w', g.bel.trans (hm.mono g.bel.size)⟩, rfl⟩
end Go.Proofs.Ytlbcnmcfljaijaa
namespace Go.Proofs.Ytlbcnmcfljaijaa
open Go.RowKit

def bv (l : List UInt8) : List Value := l.map fun b => Value.int .u8 (b.toNat : Int)
def Laid (W : World) (g T : Nat) (l : List UInt8) : Prop := ∃ cur : Array Value, W.heap[g]? = some (.cells cur 5 (0, 0)) ∧ cur.size = T ∧ cur.toList.take l.length = bv l

theorem Laid.copy {W : World} {g T : Nat} {l : List UInt8} (h : Laid W g T l) (s : ByteArray) (hT : l.length + s.size ≤ T) :
    ∃ W', (Builtin.copy_ #[22, 9] 3 #[.slice (some ⟨g, l.length, none⟩) (T - l.length) (T - l.length), .string s]).run Try.prog W = .ok (.int .i64 (s.size : Int)) W' ∧ Laid W' g T (l ++ s.data.toList) ∧ (∀ B w0, Below B w0 W → B ≤ g → Below B w0 W') := by
  obtain ⟨cur, hg, hsz, ht⟩ := h
  have e := Lib.run_copy_row_string (P := Try.prog) W 22 9 3 5 g l.length (T - l.length) (T - l.length) s cur 5 Try.underlying22 (by kernel_rfl) hg (by omega) (by omega)
  refine ⟨_, e, ⟨_, setRow_heap W g cur _ 5 (0, 0) hg, ?_, ?_⟩, fun B w0 hb hB => below_setRow hb hB _⟩
  · have hb : (Lib.byteCells s.data.toList).length = s.size := by rw [Lib.byteCells_length]; rfl
    simp [hb]; omega
  · have hb : (Lib.byteCells s.data.toList).length = s.size := by rw [Lib.byteCells_length]; rfl
    have hl : (bv l).length = l.length := by simp [bv]
    have hsl : (s.data.toList).length = s.size := rfl
    rw [List.length_append, hsl, ht]
    show List.take (l.length + s.size) (bv l ++ Lib.byteCells s.data.toList ++ cur.toList.drop (l.length + s.size)) = bv (l ++ s.data.toList)
    rw [List.take_append_of_le_length (by rw [List.length_append, hl, hb]; exact Nat.le_refl _), List.take_of_length_le (by rw [List.length_append, hl, hb]; exact Nat.le_refl _)]
    simp [bv, Lib.byteCells]

theorem Laid.empty {W : World} {g T : Nat} {l : List UInt8} (h : Laid W g T l) (s : ByteArray) (hs : s.size = 0) : Laid W g T (l ++ s.data.toList) := by
  have : s.data.toList = [] := List.eq_nil_of_length_eq_zero hs
  rw [this, List.append_nil]; exact h

theorem Laid.step {W : World} {g T : Nat} {l : List UInt8} (h : Laid W g T l) (s : ByteArray) (hT : l.length + s.size ≤ T) :
    ∃ W', (Builtin.copy_ #[22, 9] 3 #[.slice (some (if T = l.length then ⟨g, 0, none⟩ else ⟨g, l.length, none⟩)) (T - l.length) (T - l.length), .string s]).run Try.prog W = .ok (.int .i64 (s.size : Int)) W' ∧ Laid W' g T (l ++ s.data.toList) ∧ (∀ B w0, Below B w0 W → B ≤ g → Below B w0 W') := by
  by_cases e : T = l.length
  · rw [if_pos e]
    have hs : s.size = 0 := by omega
    refine ⟨W, ?_, h.empty s hs, fun _ _ hb _ => hb⟩
    rw [Lib.run_copy_empty_string (P := Try.prog) W 22 9 3 5 _ _ _ s Try.underlying22 (by kernel_rfl) hs, hs]
    rfl
  · rw [if_neg e]
    exact h.copy s hT

theorem Laid.conv {W : World} {g T : Nat} {l : List UInt8} (h : Laid W g T l) (hl : l.length = T) :
    (convert 22 9 (.slice (some ⟨g, 0, none⟩) T T)).run Try.prog W = .ok (.string ⟨l.toArray⟩) W := by
  obtain ⟨cur, hg, hsz, ht⟩ := h
  subst hl
  refine run_convert_bytes_back (P := Try.prog) W 22 9 5 ⟨g, 0, none⟩ l.length l Try.underlying22 Try.underlying5 Try.underlying9 (fun j hj => ?_)
  have ea : (⟨g, 0, none⟩ : Addr).add j = ⟨g, j, none⟩ := by unfold Addr.add; split <;> simp_all
  have hc : W.cell? ⟨g, j, none⟩ = cur[j]? := by simp [World.cell?, hg]
  rw [ea, hc]
  have hm : cur.toList[j]? = (bv l)[j]? := by rw [← ht, List.getElem?_take, if_pos hj]
  rw [← Array.getElem?_toList, hm]
  simp [bv, hj]

end Go.Proofs.Ytlbcnmcfljaijaa

namespace Go.Proofs.Ytlbcnmcfljaijaa
open Go.RowKit

end Go.Proofs.Ytlbcnmcfljaijaa


