import Derived.WalkKit
import Derived.WalkSpells
import Derived.WalkLawsBesides
import Derived.Test.YtmjlblbhakppfaaGreatDoorRows
import Derived.Deep.RegionWith
import Derived.Deep.LoopGhost
import Derived.Laws.Rows
import Derived.Laws.MakeOwn
import Derived.Deep.Slices
import Derived.ChangeArms
import Derived.ChangeSame
import Derived.BigQuiet
import Derived.Below
import Derived.Lib.BufferWrite
import Derived.Laws.CopyOwn
import Derived.Shelf.Strings.Builder1
import Derived.Shelf.Strings.Builder2
import Derived.Shelf.Strings.OnBuilder
import Derived.Shelf.LaysM
import Derived.Shelf.Strconv.Clone
import Derived.Shelf.Sort.Plain
import Derived.Shelf.Slices.In.SortNone
import Derived.Test.YtmjlblbhakppfaaGreatDoorProg
namespace Go.Proofs.YtmjlblbhakppfaaGreatDoor
open Go.RowKit

theorem hide {p : Prop} (h : p) : Hid p := h
theorem unhide {p : Prop} (h : Hid p) : p := h
theorem ret_bool {a b : Bool} (h : b = a) : Ending.returned (.bool a) = .returned (.bool b) := by rw [h]
theorem ret_int {k : IntKind} {a b : Int} (h : b = a) : Ending.returned (.int k a) = .returned (.int k b) := by rw [h]
theorem ret_str {a b : ByteArray} (h : b = a) : Ending.returned (.string a) = .returned (.string b) := by rw [h]

end Go.Proofs.YtmjlblbhakppfaaGreatDoor
namespace Go.Proofs.YtmjlblbhakppfaaGreatDoor
open Go.RowKit

theorem malloc1 (w : World) (o : Obj) : Below w.heap.size w (w.alloc o) := (Below.refl _ _).alloc (Nat.le_refl _) o
theorem mheap_new (W : World) (o : Obj) (k : Nat) (h : k = W.heap.size) : (W.alloc o).heap[k]? = some o := by
  subst h; show (W.heap.push o)[W.heap.size]? = _; simp
structure MOwn (B : Nat) (w : World) (v : Value) : Prop where
  free : ∀ b, v.ownBlock = some b → B ≤ b ∧ b < w.heap.size ∧ ∀ j, w.frozen? ⟨b, j, none⟩ = false
theorem MOwn.carry {B : Nat} {w w' : World} {v : Value} (h : MOwn B w v) (hb : Below w.heap.size w w') : MOwn B w' v :=
  ⟨fun b e => ⟨(h.free b e).1, Nat.lt_of_lt_of_le (h.free b e).2.1 hb.size, fun j => (hb.frozen (p := ⟨b, j, none⟩) (h.free b e).2.1).trans ((h.free b e).2.2 j)⟩⟩
theorem m_one_of {α : Type} {l : List α} {j : Nat} {v : α} (h : (l.drop j).take 1 = [v]) : l[j]? = some v := by
  have h1 : ((l.drop j).take 1)[0]? = some v := by rw [h]; rfl
  rw [List.getElem?_take, if_pos (by omega), List.getElem?_drop] at h1
  simpa using h1
end Go.Proofs.YtmjlblbhakppfaaGreatDoor
namespace Go.Proofs.YtmjlblbhakppfaaGreatDoor
open Go.RowKit

def okC (first : Bool) (c : Int) : Bool := (decide (97 ≤ c) && decide (c ≤ 122)) || (!first && ((decide (48 ≤ c) && decide (c ≤ 57)) || c == 95))
def byteAt (s : ByteArray) (j : Nat) : Int := if h : j < s.size then (s[j].toNat : Int) else 0
def nameB (s : ByteArray) : Bool := decide (1 ≤ s.size) && decide (s.size ≤ 20) && (List.range s.size).all fun j => okC (j == 0) (byteAt s j)

theorem nameB_short {s : ByteArray} (h : s.size < 1 ∨ 20 < s.size) : nameB s = false := by
  unfold nameB; rcases h with h | h
  · have : decide (1 ≤ s.size) = false := decide_eq_false (by omega)
    simp [this]
  · have : decide (s.size ≤ 20) = false := decide_eq_false (by omega)
    simp [this]
theorem nameB_no {s : ByteArray} (j : Nat) (h : j < s.size) (hc : okC (j == 0) (byteAt s j) = false) : nameB s = false := by
  unfold nameB
  have : (List.range s.size).all (fun j => okC (j == 0) (byteAt s j)) = false := by
    rw [List.all_eq_false]; exact ⟨j, by simpa using h, by simpa using hc⟩
  simp [this]
theorem nameB_yes {s : ByteArray} (h1 : 1 ≤ s.size) (h2 : s.size ≤ 20) (h : ∀ j, j < s.size → okC (j == 0) (byteAt s j) = true) : nameB s = true := by
  unfold nameB
  have : (List.range s.size).all (fun j => okC (j == 0) (byteAt s j)) = true := by
    rw [List.all_eq_true]; intro j hj; exact h j (by simpa using hj)
  simp [this, h1, h2]

theorem okC_iff (f : Bool) (c : Int) : okC f c = true ↔ (97 ≤ c ∧ c ≤ 122) ∨ (f = false ∧ ((48 ≤ c ∧ c ≤ 57) ∨ c = 95)) := by
  simp [okC]
theorem okC_not (f : Bool) (c : Int) : okC f c = false ↔ ¬ ((97 ≤ c ∧ c ≤ 122) ∨ (f = false ∧ ((48 ≤ c ∧ c ≤ 57) ∨ c = 95))) := by
  rw [← okC_iff]; simp
theorem byteAt_lt {s : ByteArray} {k : Nat} (h : k < s.size) : byteAt s k = (s[k].toNat : Int) := by simp [byteAt, h]
theorem ok_next {s : ByteArray} {k : Nat} (h : ∀ j, j < k → okC (j == 0) (byteAt s j) = true) (hk : okC (k == 0) (byteAt s k) = true) : ∀ j, j < k + 1 → okC (j == 0) (byteAt s j) = true := by
  intro j hj
  by_cases e : j = k
  · subst e; exact hk
  · exact h j (by omega)

set_option maxHeartbeats 1000000 in
theorem spec_name (s : ByteArray) (w : World) (hs : s.size ≤ maxLen) :
    Calls Tryz.prog 61 #[.string s] w fun e w' => e = .returned (.bool (nameB s)) ∧ w' = w := by
  unfold maxLen at hs
  by_cases h : s.size < 1 ∨ 20 < s.size
  · have hf := hide (nameB_short h)
    rcases h with h | h
    all_goals
      go_enter Tryz.func61, Tryz.ntmps61
      go_wp2
      go_ret
      exact ⟨ret_bool (unhide hf), rfl⟩
  · have h1 : 1 ≤ s.size := by omega
    have h2 : s.size ≤ 20 := by omega
    clear h
    go_enter Tryz.func61, Tryz.ntmps61
    go_wp2
    go_loop [3] (fun i => ∃ k : Nat, k ≤ s.size ∧ i = .int .i64 k ∧ ∀ j, j < k → okC (j == 0) (byteAt s j) = true) (fun i => s.size - (intOf i).toNat)
    case atStart => exact ⟨0, Nat.zero_le _, rfl, fun j h => absurd h (by omega)⟩
    case round =>
      obtain ⟨k, hk, rfl, hall⟩ := hrel
      have HA := hide hall
      clear hall
      by_cases hlt : k < s.size
      · have HB := hide (byteAt_lt hlt)
        by_cases c1 : 97 ≤ (s[k].toNat : Int) ∧ (s[k].toNat : Int) ≤ 122
        · have HO : Hid (okC (k == 0) (byteAt s k) = true) := by
            show okC _ _ = true
            rw [okC_iff, byteAt_lt hlt]; exact .inl c1
          obtain ⟨c2, c3⟩ := c1
          go_wp2
          go_round
          case rel => exact ⟨k + 1, by omega, by go_num, ok_next (unhide HA) (unhide HO)⟩
          case measure => simp [intOf]; omega
        · by_cases k0 : k = 0
          · have HO := hide (nameB_no k hlt (by rw [okC_not, byteAt_lt hlt]; subst k0; simpa using c1))
            subst k0
            by_cases c2 : 97 ≤ (s[0].toNat : Int)
            · have c3 : ¬ (s[0].toNat : Int) ≤ 122 := by omega
              clear c1
              go_wp2
              go_ret
              exact ⟨ret_bool (unhide HO), rfl⟩
            · clear c1
              go_wp2
              go_ret
              exact ⟨ret_bool (unhide HO), rfl⟩
          · have k1 : ((k : Int) == 0) = false := by simp; omega
            have k2 : (k == 0) = false := by simp [k0]
            have hcase : ((s[k].toNat : Int) < 48) ∨ (48 ≤ (s[k].toNat : Int) ∧ (s[k].toNat : Int) ≤ 57) ∨ (57 < (s[k].toNat : Int) ∧ (s[k].toNat : Int) < 97 ∧ (s[k].toNat : Int) ≠ 95) ∨ (s[k].toNat : Int) = 95 ∨ 122 < (s[k].toNat : Int) := by omega
            rcases hcase with c | c | c | c | c
            · have HO := hide (nameB_no k hlt (by rw [okC_not, byteAt_lt hlt]; omega))
              have c4 : ((s[k].toNat : Int) != 95) = true := by simp; omega
              clear c1 k2
              go_wp2
              go_ret
              exact ⟨ret_bool (unhide HO), rfl⟩
            · have HO : Hid (okC (k == 0) (byteAt s k) = true) := hide (by rw [okC_iff, byteAt_lt hlt]; exact .inr ⟨k2, .inl c⟩)
              obtain ⟨c2, c3⟩ := c
              clear c1 k2
              go_wp2
              go_round
              case rel => exact ⟨k + 1, by omega, by go_num, ok_next (unhide HA) (unhide HO)⟩
              case measure => simp [intOf]; omega
            · have HO := hide (nameB_no k hlt (by rw [okC_not, byteAt_lt hlt]; omega))
              have c4 : ((s[k].toNat : Int) != 95) = true := by simp; omega
              obtain ⟨c2, c3, -⟩ := c
              have c7 : decide ((s[k].toNat : Int) ≤ 57) = false := decide_eq_false (by omega)
              clear c1 k2
              go_wp2
              go_ret
              exact ⟨ret_bool (unhide HO), rfl⟩
            · have HO : Hid (okC (k == 0) (byteAt s k) = true) := hide (by rw [okC_iff, byteAt_lt hlt]; exact .inr ⟨k2, .inr c⟩)
              have c4 : ((s[k].toNat : Int) != 95) = false := by simp; omega
              have c5 : 57 < (s[k].toNat : Int) := by omega
              have c6 : (s[k].toNat : Int) < 97 := by omega
              clear c1 k2 c
              go_wp2
              go_round
              case rel => exact ⟨k + 1, by omega, by go_num, ok_next (unhide HA) (unhide HO)⟩
              case measure => simp [intOf]; omega
            · have HO := hide (nameB_no k hlt (by rw [okC_not, byteAt_lt hlt]; omega))
              have c4 : ((s[k].toNat : Int) != 95) = true := by simp; omega
              have c7 : decide ((s[k].toNat : Int) ≤ 57) = false := decide_eq_false (by omega)
              have c8 : decide ((s[k].toNat : Int) ≤ 122) = false := decide_eq_false (by omega)
              clear c1 k2
              go_wp2
              go_ret
              exact ⟨ret_bool (unhide HO), rfl⟩
      · go_wp2
        go_ret
        exact ⟨ret_bool (nameB_yes h1 h2 (fun j hj => unhide HA j (by omega))), rfl⟩

def letB (c : Int) : Bool := decide (97 ≤ c) && decide (c ≤ 122)
def digB (c : Int) : Bool := decide (48 ≤ c) && decide (c ≤ 57)
theorem is_letter (c : Int) (w : World) : Calls Tryz.prog 86 #[.int .u8 c] w fun e w' => e = .returned (.bool (letB c)) ∧ w' = w := by
  by_cases h1 : 97 ≤ c
  · by_cases h2 : c ≤ 122
    all_goals
      go_enter Tryz.func86, Tryz.ntmps86
      go_wp2
      go_ret
      exact ⟨ret_bool (by simp [letB, h1, h2]), rfl⟩
  · go_enter Tryz.func86, Tryz.ntmps86
    go_wp2
    go_ret
    exact ⟨ret_bool (by rw [letB, decide_eq_false (show ¬ 97 ≤ c by omega)]; rfl), rfl⟩
theorem is_digit (c : Int) (w : World) : Calls Tryz.prog 87 #[.int .u8 c] w fun e w' => e = .returned (.bool (digB c)) ∧ w' = w := by
  by_cases h1 : 48 ≤ c
  · by_cases h2 : c ≤ 57
    all_goals
      go_enter Tryz.func87, Tryz.ntmps87
      go_wp2
      go_ret
      exact ⟨ret_bool (by simp [digB, h1, h2]), rfl⟩
  · go_enter Tryz.func87, Tryz.ntmps87
    go_wp2
    go_ret
    exact ⟨ret_bool (by rw [digB, decide_eq_false (show ¬ 48 ≤ c by omega)]; rfl), rfl⟩
theorem okC_eq (f : Bool) (c : Int) : okC f c = (letB c || (!f && (digB c || c == 95))) := rfl

set_option maxHeartbeats 1000000 in
theorem impl_name (s : ByteArray) (w : World) (hs : s.size ≤ maxLen) :
    Calls Tryz.prog 57 #[.string s] w fun e w' => e = .returned (.bool (nameB s)) ∧ w' = w := by
  unfold maxLen at hs
  by_cases h : s.size < 1 ∨ 20 < s.size
  · have hf := hide (nameB_short h)
    rcases h with h | h
    · have g : ((s.size : Int) == 0) = true := beq_iff_eq.2 (by omega)
      go_enter Tryz.func57, Tryz.ntmps57
      go_wp2_with fail
      go_ret
      exact ⟨ret_bool (unhide hf), rfl⟩
    · have g : ((s.size : Int) == 0) = false := beq_eq_false_iff_ne.2 (by omega)
      go_enter Tryz.func57, Tryz.ntmps57
      go_wp2_with fail
      go_ret
      exact ⟨ret_bool (unhide hf), rfl⟩
  · have h1 : 1 ≤ s.size := by omega
    have h2 : s.size ≤ 20 := by omega
    have g : ((s.size : Int) == 0) = false := beq_eq_false_iff_ne.2 (by omega)
    have g2 : decide (20 < (s.size : Int)) = false := decide_eq_false (by omega)
    have g3 : 0 < s.size := by omega
    clear h
    cases hl : letB (s[0].toNat : Int)
    · have HO := hide (nameB_no (s := s) 0 g3 (by rw [okC_eq, byteAt_lt g3, hl]; rfl))
      have HL := hide hl
      clear hl
      go_enter Tryz.func57, Tryz.ntmps57
      go_wp2_with (go_at_call 86; refine (is_letter _ _).mono ?_; rintro e w' ⟨rfl, rfl⟩; rw [unhide HL])
      go_ret
      exact ⟨ret_bool (unhide HO), rfl⟩
    · have HL := hide hl
      have HO : Hid (okC (0 == 0) (byteAt s 0) = true) := hide (by rw [okC_eq, byteAt_lt g3, hl]; rfl)
      clear hl
      go_enter Tryz.func57, Tryz.ntmps57
      go_wp2_with (go_at_call 86; refine (is_letter _ _).mono ?_; rintro e w' ⟨rfl, rfl⟩; rw [unhide HL])
      go_loop [3] (fun i => ∃ k : Nat, 1 ≤ k ∧ k ≤ s.size ∧ i = .int .i64 k ∧ ∀ j, j < k → okC (j == 0) (byteAt s j) = true) (fun i => s.size - (intOf i).toNat)
      case atStart => exact ⟨1, Nat.le_refl _, h1, rfl, fun j h => by rw [show j = 0 from by omega]; exact unhide HO⟩
      case round =>
        obtain ⟨k, hk1, hk, rfl, hall⟩ := hrel
        have HA := hide hall
        clear hall HO HL
        by_cases hlt : k < s.size
        · have k2 : (k == 0) = false := beq_eq_false_iff_ne.2 (by omega)
          cases hl : letB (s[k].toNat : Int)
          · cases hd : digB (s[k].toNat : Int)
            · cases hu : ((s[k].toNat : Int) == 95)
              · have HO := hide (nameB_no (s := s) k hlt (by rw [okC_eq, byteAt_lt hlt, hl, hd, hu, k2]; rfl))
                have HL := hide hl
                have HD := hide hd
                have c4 : ((s[k].toNat : Int) != 95) = true := by rw [bne, hu]; rfl
                clear hl hd hu k2
                go_wp2_with (first | (go_at_call 86; refine (is_letter _ _).mono ?_; rintro e w' ⟨rfl, rfl⟩; rw [unhide HL]) | (go_at_call 87; refine (is_digit _ _).mono ?_; rintro e w' ⟨rfl, rfl⟩; rw [unhide HD]))
                go_ret
                exact ⟨ret_bool (unhide HO), rfl⟩
              · have HO : Hid (okC (k == 0) (byteAt s k) = true) := hide (by rw [okC_eq, byteAt_lt hlt, hl, hd, hu, k2]; rfl)
                have HL := hide hl
                have HD := hide hd
                have c4 : ((s[k].toNat : Int) != 95) = false := by rw [bne, hu]; rfl
                clear hl hd hu k2
                go_wp2_with (first | (go_at_call 86; refine (is_letter _ _).mono ?_; rintro e w' ⟨rfl, rfl⟩; rw [unhide HL]) | (go_at_call 87; refine (is_digit _ _).mono ?_; rintro e w' ⟨rfl, rfl⟩; rw [unhide HD]))
                go_round
                case rel => exact ⟨k + 1, by omega, by omega, by go_num, ok_next (unhide HA) (unhide HO)⟩
                case measure => simp [intOf]; omega
            · have HO : Hid (okC (k == 0) (byteAt s k) = true) := hide (by rw [okC_eq, byteAt_lt hlt, hl, hd, k2]; rfl)
              have HL := hide hl
              have HD := hide hd
              clear hl hd k2
              go_wp2_with (first | (go_at_call 86; refine (is_letter _ _).mono ?_; rintro e w' ⟨rfl, rfl⟩; rw [unhide HL]) | (go_at_call 87; refine (is_digit _ _).mono ?_; rintro e w' ⟨rfl, rfl⟩; rw [unhide HD]))
              go_round
              case rel => exact ⟨k + 1, by omega, by omega, by go_num, ok_next (unhide HA) (unhide HO)⟩
              case measure => simp [intOf]; omega
          · have HO : Hid (okC (k == 0) (byteAt s k) = true) := hide (by rw [okC_eq, byteAt_lt hlt, hl]; rfl)
            have HL := hide hl
            clear hl k2
            go_wp2_with (first | (go_at_call 86; refine (is_letter _ _).mono ?_; rintro e w' ⟨rfl, rfl⟩; rw [unhide HL]))
            go_round
            case rel => exact ⟨k + 1, by omega, by omega, by go_num, ok_next (unhide HA) (unhide HO)⟩
            case measure => simp [intOf]; omega
        · go_wp2
          go_ret
          exact ⟨ret_bool (nameB_yes h1 h2 (fun j hj => unhide HA j (by omega))), rfl⟩

end Go.Proofs.YtmjlblbhakppfaaGreatDoor
namespace Go.Proofs.YtmjlblbhakppfaaGreatDoor
open Go.RowKit

structure Grown (w : World) where
  val : World
  bel : Below w.heap.size w val
theorem grown_some (w : World) : Nonempty (Grown w) := ⟨⟨w, Below.refl _ _⟩⟩
theorem Grown.cell {w : World} (g : Grown w) {p : Addr} (h : p.block < w.heap.size) : g.val.cell? p = w.cell? p := g.bel.cell h
theorem grown_cell {w : World} {b o : Nat} {v : Value} (h : w.cell? ⟨b, o, none⟩ = some v) : ∀ g : Grown w, g.val.cell? ⟨b, o, none⟩ = some v :=
  fun g => (g.bel.cell (p := ⟨b, o, none⟩) (World.block_lt_of_cell? w _ h)).trans h
theorem wp_region_grown {P : Program} {id : Nat} {Q : Exit → Act → World → Prop} {a : Act} {w : World} {l : List Oper} (hm : P.follows .mixedOrders = true) (hB : Region.lexB .any l.toArray = true)
    (h : ∀ W, W = w → wpQuiet P l.toArray (fun w' => ∃ g : Grown W, w' = g.val) (fun a' => ∀ w', Below W.heap.size W w' → Q .normal a' w') l a) : (Code.region id l.toArray true).wp P Q a w := by
  refine wp_region_quiet (C := fun w' => ∃ g : Grown w, w' = g.val) hm hB ⟨⟨_, (Below.refl _ _).drew⟩, rfl⟩ ?_
  have h0 := h w rfl
  have e : (fun a' => ∀ w', (∃ g : Grown w, w' = g.val) → Q .normal a' w') = (fun a' => ∀ w', Below w.heap.size w w' → Q .normal a' w') := by
    funext a'
    refine propext ⟨fun h w' hb => h w' ⟨⟨w', hb⟩, rfl⟩, fun h w' ⟨g, hg⟩ => ?_⟩
    rw [hg]; exact h _ g.bel
  rw [e]
  simpa using h0
theorem grown_more {P : Program} {f : FuncId} {args : Array Value} {w : World} {g : Grown w} {v : Value}
    (h : Calls P f args g.val fun e w' => e = .returned v ∧ Below g.val.heap.size g.val w') : Calls P f args g.val fun e w'' => e = .returned v ∧ ∃ g' : Grown w, w'' = g'.val :=
  h.mono fun _ w' ⟨he, hm⟩ => ⟨he, ⟨w', g.bel.trans (hm.mono g.bel.size)⟩, rfl⟩
end Go.Proofs.YtmjlblbhakppfaaGreatDoor
namespace Go.Proofs.YtmjlblbhakppfaaGreatDoor
open Go.RowKit

theorem Tryz.infoU8 : (Tryz.prog.info? 5).map (fun i => (i.zero, i.size, i.bytes)) = some (some (.int .u8 0), 1, 1) := by kernel_rfl
def bv (l : List UInt8) : List Value := l.map fun b => Value.int .u8 (b.toNat : Int)
def totTo (ss : List ByteArray) (k : Nat) : Nat := ((ss.take k).map ByteArray.size).sum
def flatTo (ss : List ByteArray) (k : Nat) : List UInt8 := (ss.take k).flatMap (fun s => s.data.toList)
def joinS (ss : List ByteArray) : ByteArray := ⟨(flatTo ss ss.length).toArray⟩

theorem totTo_succ {ss : List ByteArray} {k : Nat} (h : k < ss.length) : totTo ss (k + 1) = totTo ss k + ss[k].size := by
  unfold totTo
  rw [List.take_succ_eq_append_getElem h, List.map_append, List.sum_append]
  rfl
theorem flatTo_succ {ss : List ByteArray} {k : Nat} (h : k < ss.length) : flatTo ss (k + 1) = flatTo ss k ++ ss[k].data.toList := by
  unfold flatTo
  rw [List.take_succ_eq_append_getElem h, List.flatMap_append]
  simp only [List.flatMap_cons, List.flatMap_nil, List.append_nil]
theorem totTo_le {ss : List ByteArray} : ∀ {k : Nat}, k ≤ ss.length → totTo ss k ≤ totTo ss ss.length := by
  intro k hk
  obtain ⟨d, hd⟩ : ∃ d, k + d = ss.length := ⟨ss.length - k, by omega⟩
  induction d generalizing k with
  | zero => have : k = ss.length := by omega
            subst this; exact Nat.le_refl _
  | succ d ih =>
    have := ih (k := k + 1) (by omega) (by omega)
    rw [totTo_succ (by omega)] at this
    omega
theorem flatTo_length (ss : List ByteArray) (k : Nat) : (flatTo ss k).length = totTo ss k := by
  unfold flatTo totTo
  rw [List.length_flatMap]
  rfl

theorem make_run (w : World) (T : Nat) (h : T ≤ 1000000000) :
    (Instr.makeSlice 22 (.int .i64 (T : Int)) (.int .i64 (T : Int))).run Tryz.prog w = .ok (.slice (some ⟨w.heap.size, 0, none⟩) T T) (w.alloc (.cells (madeCells #[.int .u8 0] T) 5)) := by
  obtain ⟨i0, hi, hz0, hz1, hz2⟩ := info_parts Tryz.infoU8
  have := run_make (P := Tryz.prog) w 22 5 i0 (.int .u8 0) Tryz.underlying22 hi hz0 .i64 .i64 (T : Int) (T : Int) (by omega) (by omega) (by rw [hz2]; omega) (by omega)
  rw [hz1] at this
  simpa [Value.cells] using this

def Laid (W : World) (g T : Nat) (l : List UInt8) : Prop := ∃ cur : Array Value, W.heap[g]? = some (.cells cur 5 (0, 0)) ∧ cur.size = T ∧ cur.toList.take l.length = bv l

theorem Laid.copy {W : World} {g T : Nat} {l : List UInt8} (h : Laid W g T l) (s : ByteArray) (hT : l.length + s.size ≤ T) :
    ∃ W', (Builtin.copy_ #[22, 9] 3 #[.slice (some ⟨g, l.length, none⟩) (T - l.length) (T - l.length), .string s]).run Tryz.prog W = .ok (.int .i64 (s.size : Int)) W' ∧ Laid W' g T (l ++ s.data.toList) ∧ (∀ B w0, Below B w0 W → B ≤ g → Below B w0 W') := by
  obtain ⟨cur, hg, hsz, ht⟩ := h
  have e := Lib.run_copy_row_string (P := Tryz.prog) W 22 9 3 5 g l.length (T - l.length) (T - l.length) s cur 5 Tryz.underlying22 (by kernel_rfl) hg (by omega) (by omega)
  refine ⟨_, e, ⟨_, setRow_heap W g cur _ 5 (0, 0) hg, ?_, ?_⟩, fun B w0 hb hB => below_setRow hb hB _⟩
  · have hb : (Lib.byteCells s.data.toList).length = s.size := by rw [Lib.byteCells_length]; rfl
    simp [hb]; omega
  · have hb : (Lib.byteCells s.data.toList).length = s.size := by rw [Lib.byteCells_length]; rfl
    have hl : (bv l).length = l.length := by simp [bv]
    have hsl : (s.data.toList).length = s.size := rfl
    rw [List.length_append, hsl, ht]
    show List.take (l.length + s.size) (bv l ++ Lib.byteCells s.data.toList ++ cur.toList.drop (l.length + s.size)) = bv (l ++ s.data.toList)
    rw [List.take_append_of_le_length (by rw [List.length_append, hl, hb]; exact Nat.le_refl _), List.take_of_length_le (by rw [List.length_append, hl, hb]; exact Nat.le_refl _)]
    simp [bv, Lib.byteCells]

theorem Laid.empty {W : World} {g T : Nat} {l : List UInt8} (h : Laid W g T l) (s : ByteArray) (hs : s.size = 0) : Laid W g T (l ++ s.data.toList) := by
  have : s.data.toList = [] := List.eq_nil_of_length_eq_zero hs
  rw [this, List.append_nil]; exact h

theorem Laid.step {W : World} {g T : Nat} {l : List UInt8} (h : Laid W g T l) (s : ByteArray) (hT : l.length + s.size ≤ T) :
    ∃ W', (Builtin.copy_ #[22, 9] 3 #[.slice (some (if T = l.length then ⟨g, 0, none⟩ else ⟨g, l.length, none⟩)) (T - l.length) (T - l.length), .string s]).run Tryz.prog W = .ok (.int .i64 (s.size : Int)) W' ∧ Laid W' g T (l ++ s.data.toList) ∧ (∀ B w0, Below B w0 W → B ≤ g → Below B w0 W') := by
  by_cases e : T = l.length
  · rw [if_pos e]
    have hs : s.size = 0 := by omega
    refine ⟨W, ?_, h.empty s hs, fun _ _ hb _ => hb⟩
    rw [Lib.run_copy_empty_string (P := Tryz.prog) W 22 9 3 5 _ _ _ s Tryz.underlying22 (by kernel_rfl) hs, hs]
    rfl
  · rw [if_neg e]
    exact h.copy s hT

theorem laid_new (w : World) (T : Nat) : Laid (w.alloc (.cells (madeCells #[.int .u8 0] T) 5)) w.heap.size T [] :=
  ⟨_, heap_alloc_new w _, size_madeCells _ _, rfl⟩

theorem Laid.conv {W : World} {g T : Nat} {l : List UInt8} (h : Laid W g T l) (hl : l.length = T) :
    (convert 22 9 (.slice (some ⟨g, 0, none⟩) T T)).run Tryz.prog W = .ok (.string ⟨l.toArray⟩) W := by
  obtain ⟨cur, hg, hsz, ht⟩ := h
  subst hl
  refine run_convert_bytes_back (P := Tryz.prog) W 22 9 5 ⟨g, 0, none⟩ l.length l Tryz.underlying22 Tryz.underlying5 Tryz.underlying9 (fun j hj => ?_)
  have ea : (⟨g, 0, none⟩ : Addr).add j = ⟨g, j, none⟩ := by unfold Addr.add; split <;> simp_all
  have hc : W.cell? ⟨g, j, none⟩ = cur[j]? := by simp [World.cell?, hg]
  rw [ea, hc]
  have hm : cur.toList[j]? = (bv l)[j]? := by rw [← ht, List.getElem?_take, if_pos hj]
  rw [← Array.getElem?_toList, hm]
  simp [bv, hj]

set_option maxRecDepth 100000 in
set_option maxHeartbeats 1000000 in
theorem join_any (ss : List ByteArray) (b cap : Nat) (w : World) (hb : b < w.heap.size) (hc : ∀ i (h : i < ss.length), w.cell? ⟨b, i, none⟩ = some (.string ss[i])) (hT : totTo ss ss.length ≤ 1000000) (hn : ss.length ≤ 1000) :
    Calls Tryz.prog 66 #[.slice (some ⟨b, 0, none⟩) ss.length cap] w fun e w' => e = .returned (.string (joinS ss)) ∧ Below w.heap.size w w' := by
  have HC := hide hc
  clear hc
  go_enter Tryz.func66, Tryz.ntmps66
  go_wp2
  go_loop [3, 5, 12] (fun z _ i => ∃ k : Nat, k ≤ ss.length ∧ i = .int .i64 k ∧ z = .int .i64 (totTo ss k : Int)) (fun _ _ i => ss.length - (intOf i).toNat)
  case atStart => exact ⟨0, by omega, rfl, rfl⟩
  case round =>
    obtain ⟨k, hk, rfl, rfl⟩ := hrel
    have hle := totTo_le hk
    by_cases hlt : k < ss.length
    · have HS := hide (totTo_succ hlt)
      have hck := HC.out k hlt
      have hsz : ss[k].size ≤ 1000000 := by have := totTo_le (show k + 1 ≤ ss.length by omega); rw [HS.out] at this; omega
      generalize ss[k] = s at *
      go_wp2
      go_round
      case rel => exact ⟨k + 1, by omega, by go_num, by rw [HS.out]; go_num⟩
      case measure => simp [intOf]; omega
    · obtain rfl : k = ss.length := by omega
      have hmk := make_run w (totTo ss ss.length) (by omega)
      go_wp2
      have HT : Hid (∀ k, k ≤ ss.length → totTo ss k ≤ totTo ss ss.length) := hide (fun k hk => totTo_le hk)
      have HE : Hid ((flatTo ss ss.length).length = totTo ss ss.length) := hide (flatTo_length ss _)
      have HL := hide (laid_new w (totTo ss ss.length))
      clear hmk hle hk hlt
      generalize totTo ss ss.length = T at *
      go_loopw [7, 9, 25] (fun a _ i wr => ∃ k : Nat, k ≤ ss.length ∧ i = .int .i64 k ∧ a = .int .i64 (totTo ss k : Int) ∧ Laid wr w.heap.size T (flatTo ss k) ∧ Below w.heap.size w wr) (fun _ _ i _ => ss.length - (intOf i).toNat)
      case atStart => exact ⟨0, by omega, rfl, rfl, HL.out, (Below.refl _ _).alloc (Nat.le_refl _) _⟩
      case round =>
        obtain ⟨k, hk, rfl, rfl, hlaid, hbel⟩ := hrel
        have hle := HT.out k hk
        by_cases hlt : k < ss.length
        · have HS := hide (totTo_succ hlt)
          have HF := hide (flatTo_succ hlt)
          have hck := (hbel.cell (p := ⟨b, k, none⟩) hb).trans (HC.out k hlt)
          have hsz : totTo ss k + ss[k].size ≤ T := by have := HT.out (k + 1) (by omega); rw [HS.out] at this; omega
          have hstep := hlaid.step ss[k] (by rw [flatTo_length]; exact hsz)
          rw [flatTo_length] at hstep
          obtain ⟨W', hcp, hl', hb'⟩ := hstep
          rw [← HF.out] at hl'
          have HLa := hide hl'
          have HBe := hide (hb' _ _ hbel (Nat.le_refl _))
          clear hl' hb' hlaid hbel HF
          generalize totTo ss k = a at *
          generalize ss[k] = s at *
          by_cases e : T = a
          · subst e
            rw [if_pos rfl, Nat.sub_self] at hcp
            go_wp2
            go_roundw
            case rel => exact ⟨k + 1, by omega, by go_num, by rw [HS.out]; go_num, HLa.out, HBe.out⟩
            case measure => simp [intOf]; omega
          · rw [if_neg e] at hcp
            have hlt' : a < T := by omega
            go_wp2
            go_roundw
            case rel => exact ⟨k + 1, by omega, by go_num, by rw [HS.out]; go_num, HLa.out, HBe.out⟩
            case measure => simp [intOf]; omega
        · obtain rfl : k = ss.length := by omega
          have hcv := hlaid.conv HE.out
          have HBe := hide hbel
          clear hlaid hbel
          go_wp2
          go_ret
          exact ⟨rfl, HBe.out⟩
end Go.Proofs.YtmjlblbhakppfaaGreatDoor
namespace Go.Proofs.YtmjlblbhakppfaaGreatDoor
open Go.Shelf Go.Proofs
def Tryz.lays156_ren : Go.Shelf.Ren := ⟨fun | 156 => 96 | 165 => 128 | 166 => 129 | 169 => 130 | 240 => 148 | 241 => 149 | 276 => 154 | 277 => 155 | n => n, fun | 31 => 30 | 9 => 9 | 3 => 3 | 4 => 4 | 0 => 0 | 20 => 20 | 72 => 157 | 76 => 160 | 70 => 155 | 37 => 22 | 75 => 159 | 127 => 162 | 164 => 184 | 5 => 5 | 80 => 66 | n => n, fun | n => n⟩
theorem Tryz.lays156 : Go.Proofs.Lays.n156 Tryz.prog Tryz.lays156_ren := {
  mixed := by kernel_rfl
  f156 := Tryz.func96.trans (congrArg some (by kernel_rfl))
  f165 := Tryz.func128.trans (congrArg some (by kernel_rfl))
  f166 := Tryz.func129.trans (congrArg some (by kernel_rfl))
  f169 := Tryz.func130.trans (congrArg some (by kernel_rfl))
  f240 := Tryz.func148.trans (congrArg some (by kernel_rfl))
  f241 := Tryz.func149.trans (congrArg some (by kernel_rfl))
  f276 := Tryz.func154.trans (congrArg some (by kernel_rfl))
  f277 := Tryz.func155.trans (congrArg some (by kernel_rfl))
  t0 := Tryz.underlying0
  a0 := Tryz.isAgg0
  z0 := Tryz.sizeOf0
  v0 := Tryz.zeroValue0
  t3 := Tryz.underlying3
  a3 := Tryz.isAgg3
  z3 := Tryz.sizeOf3
  v3 := Tryz.zeroValue3
  t4 := Tryz.underlying4
  a4 := Tryz.isAgg4
  z4 := Tryz.sizeOf4
  v4 := Tryz.zeroValue4
  t9 := Tryz.underlying9
  a9 := Tryz.isAgg9
  z9 := Tryz.sizeOf9
  v9 := Tryz.zeroValue9
  t20 := Tryz.underlying20
  a20 := Tryz.isAgg20
  z20 := Tryz.sizeOf20
  v20 := Tryz.zeroValue20
  t31 := Tryz.underlying30
  a31 := Tryz.isAgg30
  z31 := Tryz.sizeOf30
  v31 := Tryz.zeroValue30
  t37 := Tryz.underlying22
  a37 := Tryz.isAgg22
  z37 := Tryz.sizeOf22
  v37 := Tryz.zeroValue22
  t70 := Tryz.underlying155
  a70 := Tryz.isAgg155
  z70 := Tryz.sizeOf155
  v70 := Tryz.zeroValue155
  t72 := Tryz.underlying157
  a72 := Tryz.isAgg157
  z72 := Tryz.sizeOf157
  v72 := Tryz.zeroValue157
  t75 := Tryz.underlying159
  a75 := Tryz.isAgg159
  z75 := Tryz.sizeOf159
  v75 := Tryz.zeroValue159
  t76 := Tryz.underlying160
  a76 := Tryz.isAgg160
  z76 := Tryz.sizeOf160
  v76 := Tryz.zeroValue160
  t127 := Tryz.underlying162
  a127 := Tryz.isAgg162
  z127 := Tryz.sizeOf162
  v127 := Tryz.zeroValue162
  t164 := Tryz.underlying184
  a164 := Tryz.isAgg184
  z164 := Tryz.sizeOf184
  v164 := Tryz.zeroValue184 }
theorem Tryz.Builder_Extra_156 : Builder.Extra Tryz.prog Tryz.lays156_ren := {
  sizeBuilder := by kernel_rfl
  liesBuilder := by kernel_rfl
  t5 := Tryz.underlying5
  a5 := Tryz.isAgg5
  z5 := Tryz.sizeOf5
  v5 := Tryz.zeroValue5
  infoByte := by kernel_rfl
  cellsByte := by kernel_rfl
  sizeByte := by kernel_rfl
  neB5 := by decide }
open Go.RowKit in
theorem Tryz.strings_Join (bk o c : Nat) (xs : List ByteArray) (sep : ByteArray) (w : World) (hcells : ∀ (j : Nat) x, xs[j]? = some x → w.cell? ⟨bk, o + j, none⟩ = some (.string x)) (hbk : bk < w.heap.size) (hN : xs.length ≤ 140737488355328) (hcap : xs.length ≤ c) (hlen : (Lib.join (xs.map (·.data.toList)) sep.data.toList).length ≤ 140737488355328) :
    Calls Tryz.prog 96 #[.slice (some ⟨bk, o, none⟩) xs.length c, .string sep] w fun e w' => e = .returned (.string ⟨(Lib.join (xs.map (·.data.toList)) sep.data.toList).toArray⟩) ∧ Below w.heap.size w w' := Any.strings_Join Tryz.lays156 Tryz.Builder_Extra_156 bk o c xs sep w hcells hbk hN hcap hlen
end Go.Proofs.YtmjlblbhakppfaaGreatDoor
namespace Go.Proofs.YtmjlblbhakppfaaGreatDoor
open Go.RowKit

def jumpAll (J : Nat → Act → World → Prop) (Q : Exit → Act → World → Prop) : Exit → Act → World → Prop
  | .goto l, a, w => J l a w
  | e, a, w => Q e a w

theorem wp_scope_labels {P : Program} {a : Act} {w : World} {Q : Exit → Act → World → Prop} {c : Code} (J : Nat → Act → World → Prop) (m : Nat → Act → World → Nat)
    (first : c.wp P (jumpAll J Q) a w)
    (pass : ∀ l a w, J l a w → ∃ rest, findLabel c l = some rest ∧ rest.wp P (jumpAll (fun l' a' w' => J l' a' w' ∧ m l' a' w' < m l a w) Q) a w) : (Code.scope c).wp P Q a w := by
  intro b k cs
  have key : ∀ n l a w, m l a w = n → J l a w → ∃ rest, findLabel c l = some rest ∧ ∃ e a' w', Q e a' w' ∧ Arrives P (lone (b.at a (.code rest :: .inScope c :: k)) cs w) b k cs e a' w' := by
    intro n
    induction n using Nat.strongRecOn with
    | _ n ih =>
      intro l a w hn hJ
      obtain ⟨rest, hf, hw⟩ := pass l a w hJ
      refine ⟨rest, hf, ?_⟩
      obtain ⟨e, a1, w1, hq, harr⟩ := hw b (.inScope c :: k) cs
      cases e with
      | normal => exact ⟨.normal, a1, w1, hq, Steps.trans harr (.one step_inScope)⟩
      | exit id => exact ⟨.exit id, a1, w1, hq, fun k' hk => harr k' (by simp [exitTo, hk])⟩
      | goto l' =>
        obtain ⟨hJ', hlt⟩ := hq
        obtain ⟨rest', hf', e2, a2, w2, hq2, harr2⟩ := ih _ (by omega) l' a1 w1 rfl hJ'
        exact ⟨e2, a2, w2, hq2, .of_steps (harr _ (by simp [gotoIn, hf'])) harr2⟩
      | ret => exact ⟨_, a1, w1, hq, harr⟩
      | panic ch => exact ⟨_, a1, w1, hq, harr⟩
      | outgrown => exact ⟨_, a1, w1, hq, harr⟩
  obtain ⟨e, a1, w1, hq, harr⟩ := first b (.inScope c :: k) cs
  cases e with
  | normal => exact ⟨.normal, a1, w1, hq, .head step_scope (Steps.trans harr (.one step_inScope))⟩
  | exit id => exact ⟨.exit id, a1, w1, hq, fun k' hk => .head step_scope (harr k' (by simp [exitTo, hk]))⟩
  | goto l' =>
    obtain ⟨rest', hf', e2, a2, w2, hq2, harr2⟩ := key _ l' a1 w1 rfl hq
    exact ⟨e2, a2, w2, hq2, .of_steps (.head step_scope (harr _ (by simp [gotoIn, hf']))) harr2⟩
  | ret => exact ⟨_, a1, w1, hq, .of_steps (.one step_scope) harr⟩
  | panic ch => exact ⟨_, a1, w1, hq, .of_steps (.one step_scope) harr⟩
  | outgrown => exact ⟨_, a1, w1, hq, .of_steps (.one step_scope) harr⟩
end Go.Proofs.YtmjlblbhakppfaaGreatDoor
namespace Go.Proofs.YtmjlblbhakppfaaGreatDoor
open Go.Shelf Go.Proofs
def Tryz.laysM316_ren : Go.Shelf.Ren := ⟨fun | 316 => 97 | n => n, fun | 9 => 9 | 3 => 3 | 4 => 4 | 37 => 22 | 0 => 0 | 127 => 162 | 5 => 5 | n => n, fun | n => n⟩
theorem Tryz.laysM316 : Go.Proofs.LaysM.n316 Tryz.prog Tryz.laysM316_ren := {
  mixed := by kernel_rfl
  f316 := Tryz.func97.trans (congrArg some (by kernel_rfl))
  t0 := Tryz.underlying0
  a0 := Tryz.isAgg0
  z0 := Tryz.sizeOf0
  v0 := Tryz.zeroValue0
  t3 := Tryz.underlying3
  a3 := Tryz.isAgg3
  z3 := Tryz.sizeOf3
  v3 := Tryz.zeroValue3
  t4 := Tryz.underlying4
  a4 := Tryz.isAgg4
  z4 := Tryz.sizeOf4
  v4 := Tryz.zeroValue4
  t9 := Tryz.underlying9
  a9 := Tryz.isAgg9
  z9 := Tryz.sizeOf9
  v9 := Tryz.zeroValue9
  t37 := Tryz.underlying22
  a37 := Tryz.isAgg22
  z37 := Tryz.sizeOf22
  v37 := Tryz.zeroValue22
  t127 := Tryz.underlying162
  a127 := Tryz.isAgg162
  z127 := Tryz.sizeOf162
  v127 := Tryz.zeroValue162
  t5 := Tryz.underlying5
  a5 := Tryz.isAgg5
  z5 := Tryz.sizeOf5
  v5 := Tryz.zeroValue5
  i0 := by kernel_rfl
  i3 := by kernel_rfl
  i4 := by kernel_rfl
  i5 := by kernel_rfl
  i9 := by kernel_rfl
  i37 := by kernel_rfl
  i127 := by kernel_rfl }
open Go.RowKit in
theorem Tryz.stringslite_Clone (s : ByteArray) (w : World) (hlim : s.size ≤ 281474976710656) :
    Calls Tryz.prog 97 #[.string s] w fun e w' => e = .returned (.string s) ∧ Below w.heap.size w w' := Any.stringslite_Clone Tryz.laysM316 s w hlim
end Go.Proofs.YtmjlblbhakppfaaGreatDoor
namespace Go.Proofs.YtmjlblbhakppfaaGreatDoor
open Go.Shelf Go.Proofs
def Tryz.lays190_ren : Go.Shelf.Ren := ⟨fun | 190 => 45 | 125 => 78 | 258 => 77 | 128 => 107 | 129 => 108 | 302 => 98 | 303 => 99 | 304 => 100 | 305 => 101 | 306 => 102 | 307 => 103 | 308 => 104 | 309 => 105 | 310 => 106 | 333 => 131 | 329 => 132 | 330 => 133 | 334 => 134 | 335 => 135 | 336 => 136 | 344 => 150 | n => n, fun | 31 => 30 | 9 => 9 | 3 => 3 | 46 => 83 | 0 => 0 | 51 => 137 | 53 => 76 | 4 => 4 | 183 => 129 | 182 => 128 | 131 => 134 | 5 => 5 | 218 => 163 | 222 => 167 | 228 => 179 | 229 => 180 | n => n, fun | n => n⟩
theorem Tryz.lays190 : Go.Proofs.Lays.n190 Tryz.prog Tryz.lays190_ren := {
  mixed := by kernel_rfl
  f125 := Tryz.func78.trans (congrArg some (by kernel_rfl))
  f128 := Tryz.func107.trans (congrArg some (by kernel_rfl))
  f129 := Tryz.func108.trans (congrArg some (by kernel_rfl))
  f190 := Tryz.func45.trans (congrArg some (by kernel_rfl))
  f258 := Tryz.func77.trans (congrArg some (by kernel_rfl))
  f302 := Tryz.func98.trans (congrArg some (by kernel_rfl))
  f303 := Tryz.func99.trans (congrArg some (by kernel_rfl))
  f304 := Tryz.func100.trans (congrArg some (by kernel_rfl))
  f305 := Tryz.func101.trans (congrArg some (by kernel_rfl))
  f306 := Tryz.func102.trans (congrArg some (by kernel_rfl))
  f307 := Tryz.func103.trans (congrArg some (by kernel_rfl))
  f308 := Tryz.func104.trans (congrArg some (by kernel_rfl))
  f309 := Tryz.func105.trans (congrArg some (by kernel_rfl))
  f310 := Tryz.func106.trans (congrArg some (by kernel_rfl))
  f329 := Tryz.func132.trans (congrArg some (by kernel_rfl))
  f330 := Tryz.func133.trans (congrArg some (by kernel_rfl))
  f333 := Tryz.func131.trans (congrArg some (by kernel_rfl))
  f334 := Tryz.func134.trans (congrArg some (by kernel_rfl))
  f335 := Tryz.func135.trans (congrArg some (by kernel_rfl))
  f336 := Tryz.func136.trans (congrArg some (by kernel_rfl))
  f344 := Tryz.func150.trans (congrArg some (by kernel_rfl))
  t0 := Tryz.underlying0
  a0 := Tryz.isAgg0
  z0 := Tryz.sizeOf0
  v0 := Tryz.zeroValue0
  t3 := Tryz.underlying3
  a3 := Tryz.isAgg3
  z3 := Tryz.sizeOf3
  v3 := Tryz.zeroValue3
  t4 := Tryz.underlying4
  a4 := Tryz.isAgg4
  z4 := Tryz.sizeOf4
  v4 := Tryz.zeroValue4
  t5 := Tryz.underlying5
  a5 := Tryz.isAgg5
  z5 := Tryz.sizeOf5
  v5 := Tryz.zeroValue5
  t9 := Tryz.underlying9
  a9 := Tryz.isAgg9
  z9 := Tryz.sizeOf9
  v9 := Tryz.zeroValue9
  t31 := Tryz.underlying30
  a31 := Tryz.isAgg30
  z31 := Tryz.sizeOf30
  v31 := Tryz.zeroValue30
  t46 := Tryz.underlying83
  a46 := Tryz.isAgg83
  z46 := Tryz.sizeOf83
  v46 := Tryz.zeroValue83
  t51 := Tryz.underlying137
  a51 := Tryz.isAgg137
  z51 := Tryz.sizeOf137
  v51 := Tryz.zeroValue137
  t53 := Tryz.underlying76
  a53 := Tryz.isAgg76
  z53 := Tryz.sizeOf76
  v53 := Tryz.zeroValue76
  t131 := Tryz.underlying134
  a131 := Tryz.isAgg134
  z131 := Tryz.sizeOf134
  v131 := Tryz.zeroValue134
  t182 := Tryz.underlying128
  a182 := Tryz.isAgg128
  z182 := Tryz.sizeOf128
  v182 := Tryz.zeroValue128
  t183 := Tryz.underlying129
  a183 := Tryz.isAgg129
  z183 := Tryz.sizeOf129
  v183 := Tryz.zeroValue129
  t218 := Tryz.underlying163
  a218 := Tryz.isAgg163
  z218 := Tryz.sizeOf163
  v218 := Tryz.zeroValue163
  t222 := Tryz.underlying167
  a222 := Tryz.isAgg167
  z222 := Tryz.sizeOf167
  v222 := Tryz.zeroValue167
  t228 := Tryz.underlying179
  a228 := Tryz.isAgg179
  z228 := Tryz.sizeOf179
  v228 := Tryz.zeroValue179
  t229 := Tryz.underlying180
  a229 := Tryz.isAgg180
  z229 := Tryz.sizeOf180
  v229 := Tryz.zeroValue180 }
open Go.Sort Go.RowKit in
theorem Tryz.slices_Sort_string (blk off cap : Nat) (ss : List (List UInt8)) (w : World) (hH : Holds encStr w blk off ss.toArray) (hblk : blk < w.heap.size) (hsz : ss.length < 4611686018427387904) :
    Calls Tryz.prog 45 #[.slice (some ⟨blk, off, none⟩) ss.length cap] w fun e w' =>
      e = .returned (.tuple #[]) ∧ ∃ n os, w' = grow (putRow encStr (Sort.ahead w n) blk off (ss.mergeSort fun x y => decide (x ≤ y)).toArray) os := Any.slices_Sort_string Tryz.lays190 blk off cap ss w hH hblk hsz
open Go.RowKit Go.Sort in
theorem Tryz.slices_Sort_string_none (p : Option Addr) (cap : Nat) (w : World) :
    Calls Tryz.prog 45 #[.slice p 0 cap] w fun e w' => e = .returned (.tuple #[]) ∧ w' = w := Any.slices_Sort_string_none Tryz.lays190 p cap w
end Go.Proofs.YtmjlblbhakppfaaGreatDoor
