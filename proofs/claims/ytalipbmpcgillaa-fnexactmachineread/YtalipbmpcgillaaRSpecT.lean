/- GetText, and its law, walked. -/
import Derived.Test.YtalipbmpcgillaaRText
import Derived.Test.YtalipbmpcgillaaRSpec
import Derived.RegionTactic
import Derived.BigRegion
namespace Go.Proofs.Ytalipbmpcgillaa
open Go.RowKit

theorem aggT_ret {r : ByteArray × Int × Int} {x : ByteArray} {y z : Int} (h : r = (x, y, z)) : Ending.returned (.agg #[.string x, .int .i64 y, .int .i64 z]) = .returned (.agg #[.string r.1, .int .i64 r.2.1, .int .i64 r.2.2]) := by rw [h]

set_option maxRecDepth 100000 in
set_option maxHeartbeats 4000000 in
theorem spec_get_text (s : ByteArray) (a : Int) (w : World) (hs : s.size ≤ maxLen) (ha : a ≤ 9223372036854775807) :
    Calls Try.prog 143 #[.string s, .int .i64 a] w fun e w' => e = .returned (.agg #[.string (getT s a).1, .int .i64 (getT s a).2.1, .int .i64 (getT s a).2.2]) ∧ Below w.heap.size w w' := by
  have HR : Hid (∀ w, Calls Try.prog 144 #[.string s, .int .i64 a] w fun e w' => e = .returned (.agg #[.int .i64 (getN s a).1, .int .i64 (getN s a).2.1, .int .i64 (getN s a).2.2]) ∧ Below w.heap.size w w') := fun w => spec_get s a w hs ha
  have hfa := getN_facts s a
  have HT : Hid (getT s a = if (getN s a).2.2 ≠ 0 then (⟨#[]⟩, 0, (getN s a).2.2) else if (getN s a).1 < 0 ∨ 8000 < (getN s a).1 then (⟨#[]⟩, 0, 3) else if (s.size : Int) - (getN s a).2.1 < (getN s a).1 then (⟨#[]⟩, 0, 4) else (s.extract (getN s a).2.1.toNat ((getN s a).2.1.toNat + (getN s a).1.toNat), (getN s a).2.1 + (getN s a).1, 0)) := rfl
  clear ha
  generalize (getN s a).1 = N at *
  generalize (getN s a).2.1 = B at *
  generalize (getN s a).2.2 = C at *
  unfold maxLen at hs
  rcases hfa with ⟨rfl, h1, h2, h8⟩ | ⟨rfl, rfl, h1, h4⟩
  · by_cases hr : N < 0 ∨ 8000 < N
    · have HZ : Hid (getT s a = (⟨#[]⟩, 0, 3)) := by show _ = _; rw [HT.out, if_neg (by simp), if_pos hr]
      clear HT
      have hcase : (decide (N < 0) = true) ∨ (decide (N < 0) = false ∧ 8000 < N) := by
        rcases hr with h | h
        · exact .inl (decide_eq_true h)
        · exact .inr ⟨decide_eq_false (by omega), h⟩
      clear hr
      rcases hcase with g | ⟨g, g2⟩
      all_goals
        go_enter Try.func143, Try.ntmps143
        go_wp2_with (go_at_call 144; refine (HR.out _).mono ?_; rintro e w1 ⟨rfl, hb1⟩; obtain ⟨hc, hf⟩ := bcell hb1; have hz : w.heap.size < w1.heap.size := (by have := hb1.size; simp at this; omega); have HB1 := hide hb1; clear hb1)
        exact bodyPost_ret (v := .agg #[.string ⟨#[]⟩, .int .i64 0, .int .i64 3]) (by simp [results, Try.results143, go_sem, hc, hz]) rfl ⟨aggT_ret HZ.out, (((((((Below.refl _ _).alloc (Nat.le_refl _) _).trans (HB1.out.mono (by simp))).setCell (Nat.le_refl _) _).setCell (Nat.le_refl _) _).setCell (Nat.le_refl _) _).alloc (by simp [World.setCell]; omega) _)⟩
    · have n0 : 0 ≤ N := by omega
      have n8 : N ≤ 8000 := by omega
      by_cases hsh : (s.size : Int) - B < N
      · have HZ : Hid (getT s a = (⟨#[]⟩, 0, 4)) := by show _ = _; rw [HT.out, if_neg (by simp), if_neg hr, if_pos hsh]
        have hsh' : (s.size : Int) - N < B := by omega
        clear HT hr hsh
        go_enter Try.func143, Try.ntmps143
        go_wp2_with (go_at_call 144; refine (HR.out _).mono ?_; rintro e w1 ⟨rfl, hb1⟩; obtain ⟨hc, hf⟩ := bcell hb1; have hz : w.heap.size < w1.heap.size := (by have := hb1.size; simp at this; omega); have HB1 := hide hb1; clear hb1)
        exact bodyPost_ret (v := .agg #[.string ⟨#[]⟩, .int .i64 0, .int .i64 4]) (by simp [results, Try.results143, go_sem, hc, hz]) rfl ⟨aggT_ret HZ.out, (((((((Below.refl _ _).alloc (Nat.le_refl _) _).trans (HB1.out.mono (by simp))).setCell (Nat.le_refl _) _).setCell (Nat.le_refl _) _).setCell (Nat.le_refl _) _).alloc (by simp [World.setCell]; omega) _)⟩
      · obtain ⟨b, rfl⟩ := Int.eq_ofNat_of_zero_le (show 0 ≤ B by omega)
        obtain ⟨n, rfl⟩ := Int.eq_ofNat_of_zero_le n0
        have HZ : Hid (getT s a = (s.extract b (b + n), (b : Int) + (n : Int), 0)) := by show _ = _; rw [HT.out, if_neg (by simp), if_neg hr, if_neg hsh]; rfl
        have hsh' : ¬ (s.size : Int) - (n : Int) < (b : Int) := by omega
        clear HT hr hsh
        go_enter Try.func143, Try.ntmps143
        go_wp2_with (go_at_call 144; refine (HR.out _).mono ?_; rintro e w1 ⟨rfl, hb1⟩; obtain ⟨hc, hf⟩ := bcell hb1; have hz : w.heap.size < w1.heap.size := (by have := hb1.size; simp at this; omega); have HB1 := hide hb1; clear hb1)
        have hwr : IntKind.i64.wrap ((b : Int) + (n : Int)) = (b : Int) + (n : Int) := by rw [IntKind.wrap_i64]; omega
        have hsl : ∀ W, (Instr.slice 9 (.string s) (some (.int .i64 (b : Int))) (some (.int .i64 ((b : Int) + (n : Int)))) none).run Try.prog W = .ok (.string (s.extract b (b + n))) W := fun W => by
          rw [run_slice_string W 9 s .i64 .i64 (b : Int) ((b : Int) + (n : Int)) Try.underlying9 (by omega) (by omega) (by omega)]
          rfl
        clear hsh'
        go_region
        go_wp2
        exact bodyPost_ret (v := .agg #[.string (s.extract b (b + n)), .int .i64 ((b : Int) + (n : Int)), .int .i64 0]) (by simp [results, Try.results143, go_sem, hc, hz]) rfl ⟨aggT_ret HZ.out, (((((((Below.refl _ _).alloc (Nat.le_refl _) _).trans (HB1.out.mono (by simp))).setCell (Nat.le_refl _) _).setCell (Nat.le_refl _) _).setCell (Nat.le_refl _) _).alloc (by simp [World.setCell]; omega) _).drew⟩
  · have HZ : Hid (getT s a = (⟨#[]⟩, 0, C)) := by show _ = _; rw [HT.out, if_pos (by omega)]
    have g : (C != 0) = true := by rw [bne_iff_ne]; omega
    clear HT
    go_enter Try.func143, Try.ntmps143
    go_wp2_with (go_at_call 144; refine (HR.out _).mono ?_; rintro e w1 ⟨rfl, hb1⟩; obtain ⟨hc, hf⟩ := bcell hb1; have hz : w.heap.size < w1.heap.size := (by have := hb1.size; simp at this; omega); have HB1 := hide hb1; clear hb1)
    exact bodyPost_ret (v := .agg #[.string ⟨#[]⟩, .int .i64 0, .int .i64 C]) (by simp [results, Try.results143, go_sem, hc, hz]) rfl ⟨aggT_ret HZ.out, (((((((Below.refl _ _).alloc (Nat.le_refl _) _).trans (HB1.out.mono (by simp))).setCell (Nat.le_refl _) _).setCell (Nat.le_refl _) _).setCell (Nat.le_refl _) _).alloc (by simp [World.setCell]; omega) _)⟩
end Go.Proofs.Ytalipbmpcgillaa
