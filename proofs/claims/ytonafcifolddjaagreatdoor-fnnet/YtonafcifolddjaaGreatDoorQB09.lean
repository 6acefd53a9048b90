/- PutNum: both functions and the law, walked. -/
import Derived.Test.YtonafcifolddjaaGreatDoorRows
import Derived.Test.YtonafcifolddjaaGreatDoorQB00
import Derived.Test.YtonafcifolddjaaGreatDoorQB01
import Derived.OpenShut
namespace Go.Proofs.YtonafcifolddjaaGreatDoor
open Go.RowKit

set_option maxHeartbeats 400000 in
theorem spec_fold (n : Int) (w : World) (h0 : -9223372036854775808 ≤ n) (h1 : n ≤ 9223372036854775807) :
    Calls Tryz.prog 82 #[.int .i64 n] w fun e w' => e = .returned (.int .u64 (foldN n : Int)) ∧ w' = w := by
  by_cases h : n < 0
  · go_enter Tryz.func82, Tryz.ntmps82
    go_wp2
    go_ret
    exact ⟨ret_int (foldN_neg (by omega)), rfl⟩
  · go_enter Tryz.func82, Tryz.ntmps82
    go_wp2
    go_ret
    exact ⟨ret_int (foldN_pos (by omega)), rfl⟩
set_option maxHeartbeats 400000 in
theorem impl_fold (n : Int) (w : World) (h0 : -9223372036854775808 ≤ n) (h1 : n ≤ 9223372036854775807) :
    Calls Tryz.prog 77 #[.int .i64 n] w fun e w' => e = .returned (.int .u64 (foldN n : Int)) ∧ w' = w := by
  by_cases h : n < 0
  · go_enter Tryz.func77, Tryz.ntmps77
    go_wp2
    go_ret
    exact ⟨ret_int (fold_neg (by omega) (by omega)).symm, rfl⟩
  · go_enter Tryz.func77, Tryz.ntmps77
    go_wp2
    go_ret
    exact ⟨ret_int (foldN_pos' (by omega)), rfl⟩

theorem slice_room (w : World) (b : Nat) (k : Nat) (h1 : k < 10) :
    (Instr.sliceAt 99 (.pointer (some ⟨b, 0, none⟩)) none (some (.int .i64 ((k : Int) + 1))) none).run Tryz.prog w = .ok (.slice (some ⟨b, 0, none⟩) (k + 1) 10) w := by
  have ht : Tryz.prog.underlying 99 = some (.array (Tryz.prog.arrayLen 99) (Tryz.prog.elem 99)) := by kernel_rfl
  have hl : Tryz.prog.arrayLen 99 = 10 := by kernel_rfl
  have hz : ∀ w, (sizeOf (Tryz.prog.elem 99)).run Tryz.prog w = .ok 1 w := fun w => by kernel_rfl
  rw [run_sliceAt_array_h w 99 _ ht .i64 ((k : Int) + 1) (by omega) (by rw [hl]; omega), hz, hl]
  have e : ((k : Int) + 1).toNat = k + 1 := by omega
  simp only [slicedAt, Result.andThen, e]
  rfl

/-- The room behind k digits. -/
def Room (u k : Nat) (arr : Array Value) : Prop := arr.size = 10 ∧ ∀ i, i < k → arr[i]? = some (.int .u8 ((dig u i).toNat : Int))

theorem Room.store {u k : Nat} {arr : Array Value} (h : Room u k arr) (hk : k < 10) {x : Int} (hx : x = ((dig u k).toNat : Int)) : Room u (k + 1) (arr.setIfInBounds k (.int .u8 x)) := by
  refine ⟨by simpa using h.1, fun i hi => ?_⟩
  rw [Array.getElem?_setIfInBounds]
  by_cases e : k = i
  · subst e; rw [if_pos rfl, if_pos (by rw [h.1]; exact hk), hx]
  · rw [if_neg e]; exact h.2 i (by omega)

theorem conv_room {u k : Nat} {arr : Array Value} (w : World) (h : Room u k arr) (hk : k < 10) {x : Int} (hx : x = ((lastB u k).toNat : Int)) :
    (convert 22 9 (.slice (some ⟨w.heap.size, 0, none⟩) (k + 1) 10)).run Tryz.prog (w.alloc (.cells (arr.setIfInBounds k (.int .u8 x)) 99)) = .ok (.string ⟨(putK u k).toArray⟩) (w.alloc (.cells (arr.setIfInBounds k (.int .u8 x)) 99)) := by
  have e := run_convert_bytes_back (P := Tryz.prog) (w.alloc (.cells (arr.setIfInBounds k (.int .u8 x)) 99)) 22 9 5 ⟨w.heap.size, 0, none⟩ 10 (putK u k) Tryz.underlying22 Tryz.underlying5 Tryz.underlying9 (fun j hj => by
    rw [putK_length] at hj
    have ea : (⟨w.heap.size, 0, none⟩ : Addr).add j = ⟨w.heap.size, j, none⟩ := by unfold Addr.add; split <;> simp_all
    rw [ea, World.cell?_alloc_at _ _ _ _ rfl, Array.getElem?_setIfInBounds]
    by_cases ej : k = j
    · subst ej
      rw [if_pos rfl, if_pos (by rw [h.1]; exact hk), hx]
      have := putK_last u k
      rw [List.getElem?_eq_getElem (by rw [putK_length]; omega)] at this
      rw [Option.some.inj this]
    · rw [if_neg ej, h.2 j (by omega)]
      have := putK_lt (u := u) (k := k) (i := j) (by omega)
      rw [List.getElem?_eq_getElem (by rw [putK_length]; omega)] at this
      rw [Option.some.inj this])
  rw [putK_length] at e
  exact e

set_option maxRecDepth 100000 in
set_option maxHeartbeats 400000 in
theorem impl_put (n : Int) (w : World) (h0 : -9223372036854775808 ≤ n) (h1 : n ≤ 9223372036854775807) :
    Calls Tryz.prog 43 #[.int .i64 n] w fun e w' => e = .returned (.string (putS n)) ∧ Below w.heap.size w w' := by
  have hU := foldN_u64 h0 h1
  have HF : Hid (∀ w, Calls Tryz.prog 77 #[.int .i64 n] w fun e w' => e = .returned (.int .u64 (foldN n : Int)) ∧ w' = w) := fun w => impl_fold n w h0 h1
  have HP : Hid (putS n = ⟨(putL (foldN n)).toArray⟩) := rfl
  clear h0 h1
  generalize foldN n = U at *
  go_enter Tryz.func43, Tryz.ntmps43
  go_wp2_with (go_at_call 77; refine (HF.out _).mono ?_; rintro e w' ⟨rfl, rfl⟩)
  go_loopw [4, 5] (fun x i wr => ∃ (k v : Nat) (arr : Array Value), k ≤ 9 ∧ v = U / 128 ^ k ∧ i = .int .i64 k ∧ x = .int .u64 (v : Int) ∧ Room U k arr ∧ (∀ i, i < k → 128 ≤ U / 128 ^ i) ∧ wr = w.alloc (.cells arr 99)) (fun _ i _ => 9 - (intOf i).toNat)
  case atStart => exact ⟨0, U, _, by omega, by simp, rfl, rfl, ⟨rfl, fun i hi => absurd hi (by omega)⟩, fun i hi => absurd hi (by omega), rfl⟩
  case round =>
    obtain ⟨k, v, arr, hk, hv, rfl, rfl, hR, hall, rfl⟩ := hrel
    have HV := hide hv
    have HR := hide hR
    have HA := hide hall
    have hv9 : k = 9 → v < 128 := by intro e; subst e; rw [hv]; exact div_pow_lt hU
    have hV : U64b v := by rw [hv]; exact hU.div k
    clear hv hall
    by_cases ht : 128 ≤ v
    · have hk9 : k < 9 := by omega
      obtain ⟨old, hold⟩ : ∃ old, arr[k]? = some old := ⟨_, Array.getElem?_eq_getElem (by rw [hR.1]; omega)⟩
      clear hR hv9
      go_wp2
      go_roundw
      case rel =>
        refine ⟨k + 1, v / 128, _, by omega, by rw [HV.out, div_pow_succ], by go_num, by go_num, HR.out.store (by omega) ?_, ?_, rfl⟩
        · rw [more_byte v hV, dig_toNat, ← HV.out]
        · intro i hi
          by_cases e : i = k
          · subst e; rw [← HV.out]; exact ht
          · exact HA.out i (by omega)
      case measure => simp [intOf]; omega
    · have hk9 : k < 10 := by omega
      obtain ⟨old, hold⟩ : ∃ old, arr[k]? = some old := ⟨_, Array.getElem?_eq_getElem (by rw [hR.1]; omega)⟩
      have hlt : U / 128 ^ k < 128 := by rw [← HV.out]; omega
      have HL := hide (putL_eq hk HA.out hlt)
      have hsl := fun W => slice_room W w.heap.size k hk9
      have hcv := conv_room w hR hk9 (x := (v : Int)) (by rw [lastB_toNat hlt, ← HV.out])
      clear hR hv9 hlt
      go_wp2
      go_ret
      exact ⟨ret_str (by rw [HP.out, HL.out]), (Below.refl _ _).alloc (Nat.le_refl _) _⟩

theorem Tryz.infoB5 : (Tryz.prog.info? 5).map (fun i => (i.zero, i.size, i.bytes)) = some (some (.int .u8 0), 1, 1) := by kernel_rfl

/-- Bytes as cells. -/
def bv (l : List UInt8) : List Value := l.map fun b => Value.int .u8 (b.toNat : Int)

/-- string(b) of a slice of bytes that the call owns. -/
theorem conv_own {W : World} {base : Nat} {v : Value} {n : Nat} {l : List UInt8} (h : W.ownsRow base 5 1 v n (bv l)) (hn : n = l.length) :
    (convert 22 9 v).run Tryz.prog W = .ok (.string ⟨l.toArray⟩) W := by
  rcases h.2 with ⟨rfl, h0⟩ | ⟨g, cap, cur, rfl, _, hg, _, _, _, ht⟩
  · have : l = [] := by cases l with
      | nil => rfl
      | cons a b => simp at hn; omega
    subst this
    exact run_convert_bytes_nil W 22 5 Tryz.underlying22 Tryz.underlying5 0 0 9 Tryz.underlying9
  · subst hn
    refine run_convert_bytes_back (P := Tryz.prog) W 22 9 5 ⟨g, 0, none⟩ cap l Tryz.underlying22 Tryz.underlying5 Tryz.underlying9 (fun j hj => ?_)
    exact h.cells (g := g) rfl j _ (by simp [bv, hj])

theorem bv_snoc (l : List UInt8) (b : UInt8) : bv (l ++ [b]) = bv l ++ [Value.int .u8 (b.toNat : Int)] := by simp [bv]
theorem digs_succ (u k : Nat) : (List.range (k + 1)).map (dig u) = (List.range k).map (dig u) ++ [dig u k] := by simp [List.range_succ]

theorem own_more {w1 : World} {base n : Nat} {v' : Value} {l : List UInt8} {b : UInt8} {x : Int} (hx : x = (b.toNat : Int))
    (h : w1.ownsRow base 5 1 v' (n + 1) (bv l ++ [Value.int .u8 x])) : w1.ownsRow base 5 1 v' (n + 1) (bv (l ++ [b])) := by
  rw [bv_snoc, ← hx]; exact h

theorem below_append {B : Nat} {w0 W w1 : World} {e : TypeId} {size : Nat} {v : Value} {n : Nat} {xs : List Value} (hb : Below B w0 W) (hB : B ≤ W.heap.size) (o : Obj) (hown : (W.alloc o).ownsRow B e size v n xs) (hg : (W.alloc o).grownBy w1 v.ownBlock) : Below B w0 w1 :=
  (hb.alloc hB o).grown hg (by simp; omega) (fun k hk => (hown.lt k hk).1)

set_option maxRecDepth 100000 in
set_option maxHeartbeats 1000000 in
theorem spec_put (n : Int) (w : World) (h0 : -9223372036854775808 ≤ n) (h1 : n ≤ 9223372036854775807) :
    Calls Tryz.prog 60 #[.int .i64 n] w fun e w' => e = .returned (.string (putS n)) ∧ Below w.heap.size w w' := by
  have hU := foldN_u64 h0 h1
  have HF : Hid (∀ w, Calls Tryz.prog 82 #[.int .i64 n] w fun e w' => e = .returned (.int .u64 (foldN n : Int)) ∧ w' = w) := fun w => spec_fold n w h0 h1
  have HP : Hid (putS n = ⟨(putL (foldN n)).toArray⟩) := rfl
  clear h0 h1
  generalize foldN n = U at *
  obtain ⟨i0, hi, hz0, hz1, hz2⟩ := info_parts Tryz.infoB5
  go_enter Tryz.func60, Tryz.ntmps60
  go_wp2_with (go_at_call 82; refine (HF.out _).mono ?_; rintro e w1 ⟨rfl, hw⟩; obtain rfl : w = w1 := hw.symm; clear hw)
  go_loopw [3, 4] (fun x b wr => ∃ (k v : Nat), k ≤ 9 ∧ v = U / 128 ^ k ∧ x = .int .u64 (v : Int) ∧ wr.ownsRow w.heap.size 5 1 b k (bv ((List.range k).map (dig U))) ∧ (∀ i, i < k → 128 ≤ U / 128 ^ i) ∧ Below w.heap.size w wr) (fun x _ _ => (intOf x).toNat)
  case atStart => exact ⟨0, U, by omega, by simp, rfl, World.ownsRow_made w #[] 0 (Nat.le_refl _) (by simp) (by simp), fun i hi => absurd hi (by omega), (Below.refl _ _).alloc (Nat.le_refl _) _⟩
  case round =>
    obtain ⟨k, v, hk, hv, rfl, hown, hall, hbel⟩ := hrel
    have HV := hide hv
    have HA := hide hall
    have hv9 : k = 9 → v < 128 := by intro e; subst e; rw [hv]; exact div_pow_lt hU
    have hV : U64b v := by rw [hv]; exact hU.div k
    clear hv hall
    by_cases ht : 128 ≤ v
    · have hk9 : k < 9 := by omega
      have hq : IntKind.u64.wrap ((v : Int) / 128) = (v : Int) / 128 := by rw [IntKind.wrap_u64]; have := hV.lt; omega
      clear hv9
      go_wp2_with (at_builtin; refine wpList_append_own _ rfl (.tmp 10) (.tmp 15) 22 rfl w.heap.size 5 i0 (.int .u8 0) 1 1 Tryz.underlying22 hi hz0 hz1 hz2 rfl (by decide) _ _ _ rfl (hown.alloc _) ⟨wr.heap.size, 0, none⟩ 1 1 [.int .u8 ((v : Int) % 128 + 128)] rfl rfl ?c1 ?c2 ?c3 ?c4 ?c5 ?_)
      case c1 => exact cell_one_new _ _ _
      case c2 => intro u hu; simp at hu; subst hu; rfl
      case c3 => unfold maxLen; omega
      case c4 => omega
      case c5 => have := hbel.size; simp; omega
      intro v' w1 hown' hgrow _
      have hb1 := below_append hbel (by have := hbel.size; omega) _ (hown.alloc _) hgrow
      have ho1 := own_more (b := dig U k) (by rw [dig_toNat, ← HV.out]; omega) hown'
      rw [← digs_succ] at ho1
      clear hown' hgrow hown hbel
      have HO := hide ho1
      have HB := hide hb1
      clear ho1 hb1
      go_wp2
      go_roundw
      case rel =>
        refine ⟨k + 1, v / 128, by omega, by rw [HV.out, div_pow_succ], by go_num, HO.out, ?_, HB.out⟩
        intro i hi
        by_cases e : i = k
        · subst e; rw [← HV.out]; exact ht
        · exact HA.out i (by omega)
      case measure => simp [intOf]; omega
    · have hlt : U / 128 ^ k < 128 := by rw [← HV.out]; omega
      have HL := hide (putL_eq hk HA.out hlt)
      have HT := hide hlt
      have hm : (v : Int) % 256 = (v : Int) := by omega
      clear hv9 hlt
      go_wp2_with (at_builtin; refine wpList_append_own _ rfl (.tmp 19) (.tmp 22) 22 rfl w.heap.size 5 i0 (.int .u8 0) 1 1 Tryz.underlying22 hi hz0 hz1 hz2 rfl (by decide) _ _ _ rfl (hown.alloc _) ⟨wr.heap.size, 0, none⟩ 1 1 [.int .u8 (v : Int)] rfl rfl ?c1 ?c2 ?c3 ?c4 ?c5 ?_)
      case c1 => exact cell_one_new _ _ _
      case c2 => intro u hu; simp at hu; subst hu; rfl
      case c3 => unfold maxLen; omega
      case c4 => omega
      case c5 => have := hbel.size; simp; omega
      intro v' w1 hown' hgrow _
      have hb1 := below_append hbel (by have := hbel.size; omega) _ (hown.alloc _) hgrow
      have ho1 := own_more (b := lastB U k) (by rw [lastB_toNat HT.out, ← HV.out]) hown'
      have hcv := conv_own ho1 (by simp)
      have HB := hide hb1
      clear hown' hgrow hown hbel ho1 hb1
      go_wp2
      go_ret
      exact ⟨ret_str (by rw [HP.out, HL.out]; rfl), HB.out⟩
end Go.Proofs.YtonafcifolddjaaGreatDoor
