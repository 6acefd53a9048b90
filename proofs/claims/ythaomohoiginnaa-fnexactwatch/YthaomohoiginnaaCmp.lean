/- Edges compared: cmp.Compare, cmp.Or, compareEdges. -/
import Derived.Test.YthaomohoiginnaaMachM
import Derived.Test.YthaomohoiginnaaGrown
import Derived.Deep.RegionHeld3
import Derived.Deep.DrawnRows
namespace Go.Proofs.Ythaomohoiginnaa
open Go.RowKit
attribute [local go_sem ↓] Go.wp_at_zero Go.wp_at_succ

def cmpI (a b : Int) : Int := if a < b then -1 else if b < a then 1 else 0
def cmpS (a b : ByteArray) : Int := if Op.bytesLess a.toList b.toList then -1 else if a.toList == b.toList then 0 else 1
theorem is_nan_int (a : Int) (w : World) : Calls Try.prog 166 #[.int .i64 a] w fun e w' => e = .returned (.bool false) ∧ w' = w := by
  go_enter Try.func166, Try.ntmps166
  go_wp2_with fail
  go_ret
  exact ⟨ret_bool (by simp), rfl⟩
theorem is_nan_str (a : ByteArray) (w : World) : Calls Try.prog 167 #[.string a] w fun e w' => e = .returned (.bool false) ∧ w' = w := by
  go_enter Try.func167, Try.ntmps167
  go_wp2_with fail
  go_ret
  exact ⟨ret_bool (by simp), rfl⟩
theorem compare_int (a b : Int) (w : World) : Calls Try.prog 123 #[.int .i64 a, .int .i64 b] w fun e w' => e = .returned (.int .i64 (cmpI a b)) ∧ w' = w := by
  by_cases h1 : a < b
  · have HE : Hid (cmpI a b = -1) := hide (by rw [cmpI, if_pos h1])
    go_enter Try.func123, Try.ntmps123
    go_wp2_with (go_at_call 166; refine (is_nan_int _ _).mono ?_; rintro e w' ⟨rfl, rfl⟩)
    go_ret
    exact ⟨ret_int HE.out, rfl⟩
  · by_cases h2 : b < a
    · have HE : Hid (cmpI a b = 1) := hide (by rw [cmpI, if_neg h1, if_pos h2])
      go_enter Try.func123, Try.ntmps123
      go_wp2_with (go_at_call 166; refine (is_nan_int _ _).mono ?_; rintro e w' ⟨rfl, rfl⟩)
      go_ret
      exact ⟨ret_int HE.out, rfl⟩
    · have HE : Hid (cmpI a b = 0) := hide (by rw [cmpI, if_neg h1, if_neg h2])
      go_enter Try.func123, Try.ntmps123
      go_wp2_with (go_at_call 166; refine (is_nan_int _ _).mono ?_; rintro e w' ⟨rfl, rfl⟩)
      go_ret
      exact ⟨ret_int HE.out, rfl⟩
theorem compare_str (a b : ByteArray) (w : World) : Calls Try.prog 124 #[.string a, .string b] w fun e w' => e = .returned (.int .i64 (cmpS a b)) ∧ w' = w := by
  cases h1 : Op.bytesLess a.toList b.toList
  · cases h2 : (a.toList == b.toList)
    · have HE : Hid (cmpS a b = 1) := hide (by simp [cmpS, h1, h2])
      go_enter Try.func124, Try.ntmps124
      go_wp2_with (go_at_call 167; refine (is_nan_str _ _).mono ?_; rintro e w' ⟨rfl, rfl⟩)
      go_ret
      exact ⟨ret_int HE.out, rfl⟩
    · have HE : Hid (cmpS a b = 0) := hide (by simp [cmpS, h1, h2])
      go_enter Try.func124, Try.ntmps124
      go_wp2_with (go_at_call 167; refine (is_nan_str _ _).mono ?_; rintro e w' ⟨rfl, rfl⟩)
      go_ret
      exact ⟨ret_int HE.out, rfl⟩
  · have HE : Hid (cmpS a b = -1) := hide (by simp [cmpS, h1])
    go_enter Try.func124, Try.ntmps124
    go_wp2_with (go_at_call 167; refine (is_nan_str _ _).mono ?_; rintro e w' ⟨rfl, rfl⟩)
    go_ret
    exact ⟨ret_int HE.out, rfl⟩
def orI (a b : Int) : Int := if a = 0 then b else a
set_option maxHeartbeats 400000 in
theorem cmp_or (a b : Int) (g : Nat) (w : World) (h0 : w.cell? ⟨g, 0, none⟩ = some (.int .i64 a)) (h1 : w.cell? ⟨g, 1, none⟩ = some (.int .i64 b)) :
    Calls Try.prog 122 #[.slice (some ⟨g, 0, none⟩) 2 2] w fun e w' => e = .returned (.int .i64 (orI a b)) ∧ w' = w := by
  have HE : Hid (orI a b = if a = 0 then b else a) := hide rfl
  go_enter Try.func122, Try.ntmps122
  go_wp2_with fail
  go_loop [8] (fun i => i = .int .i64 0 ∨ (i = .int .i64 1 ∧ a = 0) ∨ (i = .int .i64 2 ∧ a = 0 ∧ b = 0)) (fun i => 2 - (intOf i).toNat)
  case atStart => exact .inl rfl
  case round =>
    rcases hrel with rfl | ⟨rfl, ha⟩ | ⟨rfl, ha, hb⟩
    · by_cases ha : a = 0
      · have ha' : (a != 0) = false := by simp [ha]
        have HA := hide ha
        clear ha
        go_wp2_with fail
        go_round
        case rel => exact .inr (.inl ⟨rfl, HA.out⟩)
        case measure => simp [intOf]
      · have ha' : (a != 0) = true := by simp [ha]
        have HA := hide ha
        clear ha
        go_wp2_with fail
        go_ret
        exact ⟨ret_int (by rw [HE.out, if_neg HA.out]), rfl⟩
    · have HA := hide ha
      clear ha
      by_cases hb : b = 0
      · have hb' : (b != 0) = false := by simp [hb]
        have HB := hide hb
        clear hb
        go_wp2_with fail
        go_round
        case rel => exact .inr (.inr ⟨rfl, HA.out, HB.out⟩)
        case measure => simp [intOf]
      · have hb' : (b != 0) = true := by simp [hb]
        clear hb
        go_wp2_with fail
        go_ret
        exact ⟨ret_int (by rw [HE.out, if_pos HA.out]), rfl⟩
    · have HA := hide ha
      have HB := hide hb
      clear ha hb
      go_wp2_with fail
      go_ret
      exact ⟨ret_int (by rw [HE.out, if_pos HA.out, HB.out]), rfl⟩
def cmpE (a b : REdge) : Int := orI (cmpI a.src b.src) (cmpS a.label b.label)
set_option maxHeartbeats 1000000 in
theorem compare_edges (a b : REdge) (w : World) :
    Calls Try.prog 79 #[a.val, b.val] w fun e w' => e = .returned (.int .i64 (cmpE a b)) ∧ Below w.heap.size w w' := by
  have HE : Hid (cmpE a b = orI (cmpI a.src b.src) (cmpS a.label b.label)) := hide rfl
  unfold REdge.val
  go_enter Try.func79, Try.ntmps79
  go_wp2_with fail
  have hwb : Below w.heap.size w ((w.alloc (.cells #[.int .i64 a.src, .string a.label, .int .i64 a.sort, .int .i64 a.dst] 100)).alloc (.cells #[.int .i64 b.src, .string b.label, .int .i64 b.sort, .int .i64 b.dst] 100)) := (malloc1 _ _).trans ((malloc1 _ _).mono (by simp))
  have HWB := hide hwb
  clear hwb
  go_region_held3 (fun w' => w'.cell? ⟨w.heap.size, 0, none⟩ = some (.int .i64 a.src) ∧ w'.cell? ⟨w.heap.size, 1, none⟩ = some (.string a.label) ∧ w'.cell? ⟨w.heap.size + 1, 0, none⟩ = some (.int .i64 b.src) ∧ w'.cell? ⟨w.heap.size + 1, 1, none⟩ = some (.string b.label)) (go_keep)
    (first | (go_at_call 123; refine (compare_int _ _ _).mono ?_; rintro e w' ⟨rfl, rfl⟩) | (go_at_call 124; refine (compare_str _ _ _).mono ?_; rintro e w' ⟨rfl, rfl⟩) | (go_at_call 122; refine (cmp_or (cmpI a.src b.src) (cmpS a.label b.label) _ _ (by exact c3_2 _ _ _ _ _ _ _ rfl) (by exact c3_2 _ _ _ _ _ _ _ rfl)).mono ?_; rintro e w' ⟨rfl, rfl⟩))
  all_goals
    go_wp2_with fail
    go_ret
    exact ⟨ret_int HE.out, by first | exact HWB.out.trans ((malloc1 _ _).mono HWB.out.size) | exact HWB.out.drew.trans ((malloc1 _ _).mono HWB.out.drew.size) | exact (HWB.out.trans ((malloc1 _ _).mono HWB.out.size)).drew⟩
end Go.Proofs.Ythaomohoiginnaa
