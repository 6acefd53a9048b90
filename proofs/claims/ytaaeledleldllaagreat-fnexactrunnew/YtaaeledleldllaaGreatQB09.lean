import Derived.Test.YtaaeledleldllaaGreatQB02
import Derived.Test.YtaaeledleldllaaGreatQB04
import Derived.Test.YtaaeledleldllaaGreatQB06
import Derived.Test.YtaaeledleldllaaGreatQB08
import Derived.Test.YtaaeledleldllaaGreatQB01
import Derived.Deep.RegionHeld3
import Derived.Deep.DrawnRows
namespace Go.Proofs.YtaaeledleldllaaGreat
open Go.RowKit

theorem ahead_0 {T : Nd → Bool} {f : Nat} {st l : List Nd} {n : Nd} (h : n.op = 0) : ahead T f st (n :: l) = if endB n then some l else none := by
  cases f <;> simp [ahead, h]
theorem ahead_1 {T : Nd → Bool} {f : Nat} {st l : List Nd} {n : Nd} (h : n.op = 1) : ahead T f st (n :: l) = if varB n && backB false st n.name then some l else none := by
  cases f <;> simp [ahead, h]
theorem ahead_2 {T : Nd → Bool} {f : Nat} {st l : List Nd} {n : Nd} (h : n.op = 2) : ahead T (f + 1) st (n :: l) = if recB n && !withinB st n.name then ahead T f (n :: st) l else none := by
  simp [ahead, h]
theorem ahead_20 {T : Nd → Bool} {st l : List Nd} {n : Nd} (h : n.op = 2) : ahead T 0 st (n :: l) = none := by
  simp [ahead, h]
theorem ahead_t {T : Nd → Bool} {f : Nat} {st l : List Nd} {n : Nd} (h0 : n.op ≠ 0) (h1 : n.op ≠ 1) (h2 : n.op ≠ 2) : ahead T (f + 1) st (n :: l) = if T n then kidsBy (ahead T f (n :: st)) n.many.toNat [] l else none := by
  simp [ahead, h0, h1, h2]
theorem ahead_t0 {T : Nd → Bool} {st l : List Nd} {n : Nd} (h0 : n.op ≠ 0) (h1 : n.op ≠ 1) : ahead T 0 st (n :: l) = none := by
  simp [ahead, h0, h1]
theorem ahead_x {T : Nd → Bool} {f : Nat} {st l : List Nd} {n : Nd} (h0 : n.op ≠ 0) (h1 : n.op ≠ 1) (h2 : n.op ≠ 2) (h3 : T n = false) : ahead T f st (n :: l) = none := by
  cases f <;> simp [ahead, h0, h1, h2, h3]

theorem told_leaf {w w' : World} {B : Nat} {v : Value} {x : Bool} {r : Option (List Nd)} {l1 : List Nd} (hs : SlAt w B v l1) (hB : B ≤ w.heap.size) (hb : Below w.heap.size w w') (hx : r = if x then some l1 else none) : Told w' B (.returned (.tuple #[v, .bool x])) r ∧ Below w.heap.size w w' := by
  refine ⟨⟨v, ?_, ?_⟩, hb⟩
  · cases x <;> simp [hx]
  · intro l hl
    cases x
    · simp [hx] at hl
    · simp [hx] at hl
      subst hl
      exact hs.carry (hb.mono hB)
theorem told_none {w w' : World} {B : Nat} {v : Value} {r : Option (List Nd)} (hb : Below w.heap.size w w') (hx : r = none) : Told w' B (.returned (.tuple #[v, .bool false])) r ∧ Below w.heap.size w w' := by
  refine ⟨⟨v, by rw [hx]; rfl, ?_⟩, hb⟩
  rw [hx]; intro l hl; cases hl
theorem told_on {w w1 w' : World} {B : Nat} {e : Ending} {r r' : Option (List Nd)} (h : Told w' B e r') (hb1 : Below w.heap.size w w1) (hb2 : Below w1.heap.size w1 w') (hr : r = r') : Told w' B e r ∧ Below w.heap.size w w' :=
  ⟨hr ▸ h, hb1.trans (hb2.mono hb1.size)⟩
theorem boxed (w : World) (n : Nd) (t : TypeId) : NodeAt (w.alloc (.cells #[.int .i64 n.op, .string n.name, .string n.peer, .int .i64 n.many, .int .i64 n.sort] t)).drew w.heap.size 0 n := by
  simp [NodeAt]
end Go.Proofs.YtaaeledleldllaaGreat
namespace Go.Proofs.YtaaeledleldllaaGreat
open Go.RowKit

theorem two_blocks {p1 p2 : Option Addr} {n1 c1 n2 c2 : Nat} {z : Int} : vblocks (.agg #[.slice p1 n1 c1, .slice p2 n2 c2, .int .i64 z]) = vblocks (.slice p1 n1 c1) ++ vblocks (.slice p2 n2 c2) := by
  cases p1 <;> cases p2 <;> simp [vblocks, cellBlocks]
theorem mach_sep {w w' : World} {v : Value} {m : Mach} {l : List Nat} (h : MachAt w v m) (ha : Apart w w' l) (hd : ∀ b ∈ vblocks v, b ∉ l) : MachAt w' v m := by
  obtain ⟨sv, ev, rfl, h1, h2⟩ := h
  have H1 := h1
  have H2 := h2
  obtain ⟨a1, c1, rfl, _⟩ := h1
  obtain ⟨a2, c2, rfl, _⟩ := h2
  rw [two_blocks] at hd
  exact ⟨_, _, rfl, H1.keep ha.size (fun b hb hlt => ha.block b hlt (hd b (List.mem_append_left _ ((own_blocks rfl).1 hb)))), H2.keep ha.size (fun b hb hlt => ha.block b hlt (hd b (List.mem_append_right _ ((own_blocks rfl).1 hb))))⟩

end Go.Proofs.YtaaeledleldllaaGreat
namespace Go.Proofs.YtaaeledleldllaaGreat
open Go.RowKit
attribute [local go_sem ↓] Go.wp_at_zero Go.wp_at_succ

def cmpI (a b : Int) : Int := if a < b then -1 else if b < a then 1 else 0
def cmpS (a b : ByteArray) : Int := if Op.bytesLess a.toList b.toList then -1 else if a.toList == b.toList then 0 else 1
theorem is_nan_int (a : Int) (w : World) : Calls Tryz.prog 186 #[.int .i64 a] w fun e w' => e = .returned (.bool false) ∧ w' = w := by
  go_enter Tryz.func186, Tryz.ntmps186
  go_wp2_with fail
  go_ret
  exact ⟨ret_bool (by simp), rfl⟩
theorem is_nan_str (a : ByteArray) (w : World) : Calls Tryz.prog 187 #[.string a] w fun e w' => e = .returned (.bool false) ∧ w' = w := by
  go_enter Tryz.func187, Tryz.ntmps187
  go_wp2_with fail
  go_ret
  exact ⟨ret_bool (by simp), rfl⟩
theorem compare_int (a b : Int) (w : World) : Calls Tryz.prog 150 #[.int .i64 a, .int .i64 b] w fun e w' => e = .returned (.int .i64 (cmpI a b)) ∧ w' = w := by
  by_cases h1 : a < b
  · have HE : Hid (cmpI a b = -1) := hide (by rw [cmpI, if_pos h1])
    go_enter Tryz.func150, Tryz.ntmps150
    go_wp2_with (go_at_call 186; refine (is_nan_int _ _).mono ?_; rintro e w' ⟨rfl, rfl⟩)
    go_ret
    exact ⟨ret_int HE.out, rfl⟩
  · by_cases h2 : b < a
    · have HE : Hid (cmpI a b = 1) := hide (by rw [cmpI, if_neg h1, if_pos h2])
      go_enter Tryz.func150, Tryz.ntmps150
      go_wp2_with (go_at_call 186; refine (is_nan_int _ _).mono ?_; rintro e w' ⟨rfl, rfl⟩)
      go_ret
      exact ⟨ret_int HE.out, rfl⟩
    · have HE : Hid (cmpI a b = 0) := hide (by rw [cmpI, if_neg h1, if_neg h2])
      go_enter Tryz.func150, Tryz.ntmps150
      go_wp2_with (go_at_call 186; refine (is_nan_int _ _).mono ?_; rintro e w' ⟨rfl, rfl⟩)
      go_ret
      exact ⟨ret_int HE.out, rfl⟩
theorem compare_str (a b : ByteArray) (w : World) : Calls Tryz.prog 151 #[.string a, .string b] w fun e w' => e = .returned (.int .i64 (cmpS a b)) ∧ w' = w := by
  cases h1 : Op.bytesLess a.toList b.toList
  · cases h2 : (a.toList == b.toList)
    · have HE : Hid (cmpS a b = 1) := hide (by simp [cmpS, h1, h2])
      go_enter Tryz.func151, Tryz.ntmps151
      go_wp2_with (go_at_call 187; refine (is_nan_str _ _).mono ?_; rintro e w' ⟨rfl, rfl⟩)
      go_ret
      exact ⟨ret_int HE.out, rfl⟩
    · have HE : Hid (cmpS a b = 0) := hide (by simp [cmpS, h1, h2])
      go_enter Tryz.func151, Tryz.ntmps151
      go_wp2_with (go_at_call 187; refine (is_nan_str _ _).mono ?_; rintro e w' ⟨rfl, rfl⟩)
      go_ret
      exact ⟨ret_int HE.out, rfl⟩
  · have HE : Hid (cmpS a b = -1) := hide (by simp [cmpS, h1])
    go_enter Tryz.func151, Tryz.ntmps151
    go_wp2_with (go_at_call 187; refine (is_nan_str _ _).mono ?_; rintro e w' ⟨rfl, rfl⟩)
    go_ret
    exact ⟨ret_int HE.out, rfl⟩
def orI (a b : Int) : Int := if a = 0 then b else a
set_option maxHeartbeats 400000 in
theorem cmp_or (a b : Int) (g : Nat) (w : World) (h0 : w.cell? ⟨g, 0, none⟩ = some (.int .i64 a)) (h1 : w.cell? ⟨g, 1, none⟩ = some (.int .i64 b)) :
    Calls Tryz.prog 149 #[.slice (some ⟨g, 0, none⟩) 2 2] w fun e w' => e = .returned (.int .i64 (orI a b)) ∧ w' = w := by
  have HE : Hid (orI a b = if a = 0 then b else a) := hide rfl
  go_enter Tryz.func149, Tryz.ntmps149
  go_wp2_with fail
  go_loop [8] (fun i => i = .int .i64 0 ∨ (i = .int .i64 1 ∧ a = 0) ∨ (i = .int .i64 2 ∧ a = 0 ∧ b = 0)) (fun i => 2 - (intOf i).toNat)
  case atStart => exact .inl rfl
  case round =>
    rcases hrel with rfl | ⟨rfl, ha⟩ | ⟨rfl, ha, hb⟩
    · by_cases ha : a = 0
      · have ha' : (a != 0) = false := by simp [ha]
        have HA := hide ha
        clear ha
        go_wp2_with fail
        go_round
        case rel => exact .inr (.inl ⟨rfl, HA.out⟩)
        case measure => simp [intOf]
      · have ha' : (a != 0) = true := by simp [ha]
        have HA := hide ha
        clear ha
        go_wp2_with fail
        go_ret
        exact ⟨ret_int (by rw [HE.out, if_neg HA.out]), rfl⟩
    · have HA := hide ha
      clear ha
      by_cases hb : b = 0
      · have hb' : (b != 0) = false := by simp [hb]
        have HB := hide hb
        clear hb
        go_wp2_with fail
        go_round
        case rel => exact .inr (.inr ⟨rfl, HA.out, HB.out⟩)
        case measure => simp [intOf]
      · have hb' : (b != 0) = true := by simp [hb]
        clear hb
        go_wp2_with fail
        go_ret
        exact ⟨ret_int (by rw [HE.out, if_pos HA.out]), rfl⟩
    · have HA := hide ha
      have HB := hide hb
      clear ha hb
      go_wp2_with fail
      go_ret
      exact ⟨ret_int (by rw [HE.out, if_pos HA.out, HB.out]), rfl⟩
def cmpE (a b : REdge) : Int := orI (cmpI a.src b.src) (cmpS a.label b.label)
end Go.Proofs.YtaaeledleldllaaGreat
namespace Go.Proofs.YtaaeledleldllaaGreat
open Go.RowKit
attribute [local go_sem ↓] Go.wp_at_zero Go.wp_at_succ

theorem MachAt.shape {w : World} {v : Value} {m : Mach} (h : MachAt w v m) : ∃ sa sc ea ec, v = machV sa sc ea ec m := by
  obtain ⟨sv, ev, rfl, ⟨sa, sc, rfl, _⟩, ⟨ea, ec, rfl, _⟩⟩ := h
  exact ⟨sa, sc, ea, ec, rfl⟩
set_option maxHeartbeats 400000 in
theorem has_state {q : Bool} {m : Mach} {s : Int} (hq : inB s 0 ((m.states.length : Int) - 1) = q) (v : Value) (w : World) (hv : MachAt w v m) :
    Calls Tryz.prog 110 #[v, .int .i64 s] w fun e w' => e = .returned (.bool q) ∧ Below w.heap.size w w' := by
  have hsl : m.states.length ≤ 4294967296 := by obtain ⟨sv, ev, rfl, hs, he⟩ := hv; exact hs.lenm
  obtain ⟨sa, sc, ea, ec, rfl⟩ := hv.shape
  clear hv
  unfold machV
  have HQ := hide hq
  by_cases h0 : 0 ≤ s
  · by_cases h1 : s < (m.states.length : Int)
    · have HT : Hid (q = true) := hide (by rw [← hq]; simp [inB, h0]; omega)
      clear hq
      go_enter Tryz.func110, Tryz.ntmps110
      go_wp2_with fail
      go_ret
      exact ⟨ret_bool HT.out, malloc1 _ _⟩
    · have HT : Hid (q = false) := hide (by rw [← hq]; simp [inB, h0]; omega)
      clear hq
      go_enter Tryz.func110, Tryz.ntmps110
      go_wp2_with fail
      go_ret
      exact ⟨ret_bool HT.out, malloc1 _ _⟩
  · have HT : Hid (q = false) := hide (by rw [← hq]; simp [inB, h0])
    clear hq
    go_enter Tryz.func110, Tryz.ntmps110
    go_wp2_with fail
    go_ret
    exact ⟨ret_bool HT.out, malloc1 _ _⟩

theorem is_end {q : Bool} {x : RState} (hq : (x.kind == 0) = q) (w : World) :
    Calls Tryz.prog 99 #[x.val] w fun e w' => e = .returned (.bool q) ∧ Below w.heap.size w w' := by
  unfold RState.val
  cases q
  all_goals
    go_enter Tryz.func99, Tryz.ntmps99
    go_wp2_with fail
    go_ret
    exact ⟨ret_bool (by first | exact hq.symm | rfl), malloc1 _ _⟩

end Go.Proofs.YtaaeledleldllaaGreat
