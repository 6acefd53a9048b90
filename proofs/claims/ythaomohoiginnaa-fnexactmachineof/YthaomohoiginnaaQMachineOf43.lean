/- Edges compared: cmp.Compare, cmp.Or, compareEdges. -/
import Derived.Test.YthaomohoiginnaaQMachineOf28
import Derived.Test.YthaomohoiginnaaQMachineOf17
import Derived.Deep.RegionHeld3
import Derived.Deep.DrawnRows
import Derived.Shelf.SlSortCmp.WholeK
import Derived.Shelf.SlSortCmp.NoneTotal
import Derived.Test.YthaomohoiginnaaProg
namespace Go.Proofs.Ythaomohoiginnaa
open Go.RowKit
attribute [local go_sem ↓] Go.wp_at_zero Go.wp_at_succ

def cmpI (a b : Int) : Int := if a < b then -1 else if b < a then 1 else 0
def cmpS (a b : ByteArray) : Int := if Op.bytesLess a.toList b.toList then -1 else if a.toList == b.toList then 0 else 1
theorem is_nan_int (a : Int) (w : World) : Calls Try.prog 166 #[.int .i64 a] w fun e w' => e = .returned (.bool false) ∧ w' = w := by
  go_enter Try.func166, Try.ntmps166
  go_wp2_with fail
  go_ret
  exact ⟨ret_bool (by simp), rfl⟩
theorem is_nan_str (a : ByteArray) (w : World) : Calls Try.prog 167 #[.string a] w fun e w' => e = .returned (.bool false) ∧ w' = w := by
  go_enter Try.func167, Try.ntmps167
  go_wp2_with fail
  go_ret
  exact ⟨ret_bool (by simp), rfl⟩
theorem compare_int (a b : Int) (w : World) : Calls Try.prog 123 #[.int .i64 a, .int .i64 b] w fun e w' => e = .returned (.int .i64 (cmpI a b)) ∧ w' = w := by
  by_cases h1 : a < b
  · have HE : Hid (cmpI a b = -1) := hide (by rw [cmpI, if_pos h1])
    go_enter Try.func123, Try.ntmps123
    go_wp2_with (go_at_call 166; refine (is_nan_int _ _).mono ?_; rintro e w' ⟨rfl, rfl⟩)
    go_ret
    exact ⟨ret_int HE.out, rfl⟩
  · by_cases h2 : b < a
    · have HE : Hid (cmpI a b = 1) := hide (by rw [cmpI, if_neg h1, if_pos h2])
      go_enter Try.func123, Try.ntmps123
      go_wp2_with (go_at_call 166; refine (is_nan_int _ _).mono ?_; rintro e w' ⟨rfl, rfl⟩)
      go_ret
      exact ⟨ret_int HE.out, rfl⟩
    · have HE : Hid (cmpI a b = 0) := hide (by rw [cmpI, if_neg h1, if_neg h2])
      go_enter Try.func123, Try.ntmps123
      go_wp2_with (go_at_call 166; refine (is_nan_int _ _).mono ?_; rintro e w' ⟨rfl, rfl⟩)
      go_ret
      exact ⟨ret_int HE.out, rfl⟩
theorem compare_str (a b : ByteArray) (w : World) : Calls Try.prog 124 #[.string a, .string b] w fun e w' => e = .returned (.int .i64 (cmpS a b)) ∧ w' = w := by
  cases h1 : Op.bytesLess a.toList b.toList
  · cases h2 : (a.toList == b.toList)
    · have HE : Hid (cmpS a b = 1) := hide (by simp [cmpS, h1, h2])
      go_enter Try.func124, Try.ntmps124
      go_wp2_with (go_at_call 167; refine (is_nan_str _ _).mono ?_; rintro e w' ⟨rfl, rfl⟩)
      go_ret
      exact ⟨ret_int HE.out, rfl⟩
    · have HE : Hid (cmpS a b = 0) := hide (by simp [cmpS, h1, h2])
      go_enter Try.func124, Try.ntmps124
      go_wp2_with (go_at_call 167; refine (is_nan_str _ _).mono ?_; rintro e w' ⟨rfl, rfl⟩)
      go_ret
      exact ⟨ret_int HE.out, rfl⟩
  · have HE : Hid (cmpS a b = -1) := hide (by simp [cmpS, h1])
    go_enter Try.func124, Try.ntmps124
    go_wp2_with (go_at_call 167; refine (is_nan_str _ _).mono ?_; rintro e w' ⟨rfl, rfl⟩)
    go_ret
    exact ⟨ret_int HE.out, rfl⟩
def orI (a b : Int) : Int := if a = 0 then b else a
set_option maxHeartbeats 400000 in
theorem cmp_or (a b : Int) (g : Nat) (w : World) (h0 : w.cell? ⟨g, 0, none⟩ = some (.int .i64 a)) (h1 : w.cell? ⟨g, 1, none⟩ = some (.int .i64 b)) :
    Calls Try.prog 122 #[.slice (some ⟨g, 0, none⟩) 2 2] w fun e w' => e = .returned (.int .i64 (orI a b)) ∧ w' = w := by
  have HE : Hid (orI a b = if a = 0 then b else a) := hide rfl
  go_enter Try.func122, Try.ntmps122
  go_wp2_with fail
  go_loop [8] (fun i => i = .int .i64 0 ∨ (i = .int .i64 1 ∧ a = 0) ∨ (i = .int .i64 2 ∧ a = 0 ∧ b = 0)) (fun i => 2 - (intOf i).toNat)
  case atStart => exact .inl rfl
  case round =>
    rcases hrel with rfl | ⟨rfl, ha⟩ | ⟨rfl, ha, hb⟩
    · by_cases ha : a = 0
      · have ha' : (a != 0) = false := by simp [ha]
        have HA := hide ha
        clear ha
        go_wp2_with fail
        go_round
        case rel => exact .inr (.inl ⟨rfl, HA.out⟩)
        case measure => simp [intOf]
      · have ha' : (a != 0) = true := by simp [ha]
        have HA := hide ha
        clear ha
        go_wp2_with fail
        go_ret
        exact ⟨ret_int (by rw [HE.out, if_neg HA.out]), rfl⟩
    · have HA := hide ha
      clear ha
      by_cases hb : b = 0
      · have hb' : (b != 0) = false := by simp [hb]
        have HB := hide hb
        clear hb
        go_wp2_with fail
        go_round
        case rel => exact .inr (.inr ⟨rfl, HA.out, HB.out⟩)
        case measure => simp [intOf]
      · have hb' : (b != 0) = true := by simp [hb]
        clear hb
        go_wp2_with fail
        go_ret
        exact ⟨ret_int (by rw [HE.out, if_pos HA.out]), rfl⟩
    · have HA := hide ha
      have HB := hide hb
      clear ha hb
      go_wp2_with fail
      go_ret
      exact ⟨ret_int (by rw [HE.out, if_pos HA.out, HB.out]), rfl⟩
def cmpE (a b : REdge) : Int := orI (cmpI a.src b.src) (cmpS a.label b.label)
set_option maxHeartbeats 1000000 in
theorem compare_edges (a b : REdge) (w : World) :
    Calls Try.prog 79 #[a.val, b.val] w fun e w' => e = .returned (.int .i64 (cmpE a b)) ∧ Below w.heap.size w w' := by
  have HE : Hid (cmpE a b = orI (cmpI a.src b.src) (cmpS a.label b.label)) := hide rfl
  unfold REdge.val
  go_enter Try.func79, Try.ntmps79
  go_wp2_with fail
  have hwb : Below w.heap.size w ((w.alloc (.cells #[.int .i64 a.src, .string a.label, .int .i64 a.sort, .int .i64 a.dst] 100)).alloc (.cells #[.int .i64 b.src, .string b.label, .int .i64 b.sort, .int .i64 b.dst] 100)) := (malloc1 _ _).trans ((malloc1 _ _).mono (by simp))
  have HWB := hide hwb
  clear hwb
  go_region_held3 (fun w' => w'.cell? ⟨w.heap.size, 0, none⟩ = some (.int .i64 a.src) ∧ w'.cell? ⟨w.heap.size, 1, none⟩ = some (.string a.label) ∧ w'.cell? ⟨w.heap.size + 1, 0, none⟩ = some (.int .i64 b.src) ∧ w'.cell? ⟨w.heap.size + 1, 1, none⟩ = some (.string b.label)) (go_keep)
    (first | (go_at_call 123; refine (compare_int _ _ _).mono ?_; rintro e w' ⟨rfl, rfl⟩) | (go_at_call 124; refine (compare_str _ _ _).mono ?_; rintro e w' ⟨rfl, rfl⟩) | (go_at_call 122; refine (cmp_or (cmpI a.src b.src) (cmpS a.label b.label) _ _ (by exact c3_2 _ _ _ _ _ _ _ rfl) (by exact c3_2 _ _ _ _ _ _ _ rfl)).mono ?_; rintro e w' ⟨rfl, rfl⟩))
  all_goals
    go_wp2_with fail
    go_ret
    exact ⟨ret_int HE.out, by first | exact HWB.out.trans ((malloc1 _ _).mono HWB.out.size) | exact HWB.out.drew.trans ((malloc1 _ _).mono HWB.out.drew.size) | exact (HWB.out.trans ((malloc1 _ _).mono HWB.out.size)).drew⟩
end Go.Proofs.Ythaomohoiginnaa
/-
  slices.SortFunc at this dump, in plain words (laid by the kit's lay-plain.mjs).
-/
namespace Go.Proofs.Ythaomohoiginnaa
open Go.Shelf Go.Proofs
def Try.sortEd_ren : Go.Shelf.Ren := ⟨fun | 6 => 84 | 15 => 132 | 14 => 131 | 28 => 178 | 29 => 179 | 20 => 170 | 21 => 171 | 22 => 172 | 23 => 173 | 24 => 174 | 25 => 175 | 26 => 176 | 27 => 177 | 46 => 195 | 47 => 196 | 48 => 197 | 49 => 198 | 50 => 199 | 57 => 204 | n => n, fun | 22 => 43 | 24 => 100 | 25 => 108 | 3 => 3 | 39 => 184 | 0 => 0 | 53 => 223 | 55 => 192 | 4 => 4 | 46 => 216 | 45 => 215 | 50 => 220 | 5 => 5 | 9 => 9 | 66 => 248 | 70 => 252 | 76 => 258 | 77 => 259 | n => n, fun | n => n⟩
theorem Try.sortEd : Go.Proofs.SlLaysF0.n6 Try.prog Try.sortEd_ren := {
  mixed := by kernel_rfl
  f6 := ⟨Try.f84.name, by decide, Try.func84.trans (congrArg some (by kernel_rfl))⟩
  f14 := ⟨Try.f131.name, by decide, Try.func131.trans (congrArg some (by kernel_rfl))⟩
  f15 := Try.func132.trans (congrArg some (by kernel_rfl))
  f20 := ⟨Try.f170.name, by decide, Try.func170.trans (congrArg some (by kernel_rfl))⟩
  f21 := ⟨Try.f171.name, by decide, Try.func171.trans (congrArg some (by kernel_rfl))⟩
  f22 := ⟨Try.f172.name, by decide, Try.func172.trans (congrArg some (by kernel_rfl))⟩
  f23 := ⟨Try.f173.name, by decide, Try.func173.trans (congrArg some (by kernel_rfl))⟩
  f24 := ⟨Try.f174.name, by decide, Try.func174.trans (congrArg some (by kernel_rfl))⟩
  f25 := ⟨Try.f175.name, by decide, Try.func175.trans (congrArg some (by kernel_rfl))⟩
  f26 := ⟨Try.f176.name, by decide, Try.func176.trans (congrArg some (by kernel_rfl))⟩
  f27 := ⟨Try.f177.name, by decide, Try.func177.trans (congrArg some (by kernel_rfl))⟩
  f28 := Try.func178.trans (congrArg some (by kernel_rfl))
  f29 := Try.func179.trans (congrArg some (by kernel_rfl))
  f46 := ⟨Try.f195.name, by decide, Try.func195.trans (congrArg some (by kernel_rfl))⟩
  f47 := Try.func196.trans (congrArg some (by kernel_rfl))
  f48 := Try.func197.trans (congrArg some (by kernel_rfl))
  f49 := ⟨Try.f198.name, by decide, Try.func198.trans (congrArg some (by kernel_rfl))⟩
  f50 := ⟨Try.f199.name, by decide, Try.func199.trans (congrArg some (by kernel_rfl))⟩
  f57 := ⟨Try.f204.name, by decide, Try.func204.trans (congrArg some (by kernel_rfl))⟩
  t0 := Try.underlying0
  a0 := Try.isAgg0
  z0 := Try.sizeOf0
  v0 := Try.zeroValue0
  t3 := Try.underlying3
  a3 := Try.isAgg3
  z3 := Try.sizeOf3
  v3 := Try.zeroValue3
  t4 := Try.underlying4
  a4 := Try.isAgg4
  z4 := Try.sizeOf4
  v4 := Try.zeroValue4
  t5 := Try.underlying5
  a5 := Try.isAgg5
  z5 := Try.sizeOf5
  v5 := Try.zeroValue5
  t9 := Try.underlying9
  a9 := Try.isAgg9
  z9 := Try.sizeOf9
  v9 := Try.zeroValue9
  t22 := Try.underlying43
  a22 := Try.isAgg43
  z22 := Try.sizeOf43
  v22 := Try.zeroValue43
  t25 := Try.underlying108
  a25 := Try.isAgg108
  z25 := Try.sizeOf108
  v25 := Try.zeroValue108
  t39 := Try.underlying184
  a39 := Try.isAgg184
  z39 := Try.sizeOf184
  v39 := Try.zeroValue184
  t45 := Try.underlying215
  a45 := Try.isAgg215
  z45 := Try.sizeOf215
  v45 := Try.zeroValue215
  t46 := Try.underlying216
  a46 := Try.isAgg216
  z46 := Try.sizeOf216
  v46 := Try.zeroValue216
  t50 := Try.underlying220
  a50 := Try.isAgg220
  z50 := Try.sizeOf220
  v50 := Try.zeroValue220
  t53 := Try.underlying223
  a53 := Try.isAgg223
  z53 := Try.sizeOf223
  v53 := Try.zeroValue223
  t55 := Try.underlying192
  a55 := Try.isAgg192
  z55 := Try.sizeOf192
  v55 := Try.zeroValue192
  t66 := Try.underlying248
  a66 := Try.isAgg248
  z66 := Try.sizeOf248
  v66 := Try.zeroValue248
  t70 := Try.underlying252
  a70 := Try.isAgg252
  z70 := Try.sizeOf252
  v70 := Try.zeroValue252
  t76 := Try.underlying258
  a76 := Try.isAgg258
  z76 := Try.sizeOf258
  v76 := Try.zeroValue258
  t77 := Try.underlying259
  a77 := Try.isAgg259
  z77 := Try.sizeOf259
  v77 := Try.zeroValue259 }
open Go.RowKit Go.Lib Go.Sort in
theorem Try.sortEd_none (p : Option Addr) (cap : Nat) (fv : Value) (w : World) :
    Calls Try.prog 84 #[.slice p 0 cap, fv] w fun e w' => e = .returned (.tuple #[]) ∧ w' = w := AnyF.slices_SortFunc_none { Try.sortEd with } p cap fv w
end Go.Proofs.Ythaomohoiginnaa
