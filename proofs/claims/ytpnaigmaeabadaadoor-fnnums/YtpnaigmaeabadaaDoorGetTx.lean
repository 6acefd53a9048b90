/- GetText, and its law, walked. -/
import Derived.Test.YtpnaigmaeabadaaDoorRows
import Derived.Test.YtpnaigmaeabadaaDoorGText
import Derived.RegionTactic
import Derived.BigRegion
namespace Go.Proofs.YtpnaigmaeabadaaDoor
open Go.RowKit

set_option maxRecDepth 100000 in
set_option maxHeartbeats 2000000 in
theorem impl_get_text (s : ByteArray) (a : Int) (w : World) (hs : s.size ≤ maxLen) (ha : a ≤ 9223372036854775807) (hg : Handle w) :
    Calls Tryd.prog 13 #[.string s, .int .i64 a] w fun e w' => e = .returned (.agg #[.string (getT s a).1, .int .i64 (getT s a).2.1, .int .i64 (getT s a).2.2]) ∧ Below w.heap.size w w' := by
  have HR : Hid (∀ w, Calls Tryd.prog 28 #[.string s, .int .i64 a] w fun e w' => e = .returned (.tuple #[.string (getT s a).1, .int .i64 (getT s a).2.1, errV (getT s a).2.2]) ∧ Below w.heap.size w w') := fun w => read_text s a w hs ha
  have HG := hide hg
  clear hg hs ha
  generalize (getT s a).1 = N at *
  generalize (getT s a).2.1 = B at *
  generalize (getT s a).2.2 = C at *
  go_enter Tryd.func13, Tryd.ntmps13
  go_wp2_with (go_at_call 28; refine (HR.out _).mono ?_; rintro e w1 ⟨rfl, hb1⟩; have HB1 := hide hb1; clear hb1)
  refine (code_any C _ ((HG.out.alloc _).below HB1.out)).mono ?_
  rintro e w2 ⟨rfl, hb2'⟩
  have hb2 : Below (w.heap.size + 1) (w.alloc (Obj.cells #[Value.string ⟨#[]⟩, Value.int IntKind.i64 0, Value.int IntKind.i64 0] 31)) w2 :=
    (HB1.out.mono (by simp)).trans (hb2'.mono (by have := HB1.out.size; simp at this; omega))
  clear hb2'
  have hc0 : w2.cell? ⟨w.heap.size, 0, none⟩ = some (.string ⟨#[]⟩) := (hb2.cell (p := ⟨w.heap.size, 0, none⟩) (by simp)).trans (by simp)
  have hc1 : w2.cell? ⟨w.heap.size, 1, none⟩ = some (.int .i64 0) := (hb2.cell (p := ⟨w.heap.size, 1, none⟩) (by simp)).trans (by simp)
  have hc2 : w2.cell? ⟨w.heap.size, 2, none⟩ = some (.int .i64 0) := (hb2.cell (p := ⟨w.heap.size, 2, none⟩) (by simp)).trans (by simp)
  have hf0 : ∀ o, w2.frozen? ⟨w.heap.size, o, none⟩ = false := fun o => (hb2.frozen (p := ⟨w.heap.size, o, none⟩) (by simp)).trans (by simp [World.frozen?_alloc_at])
  have hz2 : w.heap.size < w2.heap.size := by have := hb2.size; simp at this; omega
  have HB := hide hb2
  clear hb2
  go_wp2
  exact bodyPost_ret (v := .agg #[.string N, .int .i64 B, .int .i64 C]) (by simp [results, Tryd.results13, go_sem, hc0, hc1, hc2]) rfl ⟨rfl, ((((((Below.refl _ _).alloc (Nat.le_refl _) _).trans (HB.out.mono (by simp))).setCell (Nat.le_refl _) _).setCell (Nat.le_refl _) _).setCell (Nat.le_refl _) _)⟩

theorem aggT_ret {r : ByteArray × Int × Int} {x : ByteArray} {y z : Int} (h : r = (x, y, z)) : Ending.returned (.agg #[.string x, .int .i64 y, .int .i64 z]) = .returned (.agg #[.string r.1, .int .i64 r.2.1, .int .i64 r.2.2]) := by rw [h]

set_option maxRecDepth 100000 in
set_option maxHeartbeats 4000000 in
theorem spec_get_text (s : ByteArray) (a : Int) (w : World) (hs : s.size ≤ maxLen) (ha : a ≤ 9223372036854775807) :
    Calls Tryd.prog 16 #[.string s, .int .i64 a] w fun e w' => e = .returned (.agg #[.string (getT s a).1, .int .i64 (getT s a).2.1, .int .i64 (getT s a).2.2]) ∧ Below w.heap.size w w' := by
  have HR : Hid (∀ w, Calls Tryd.prog 14 #[.string s, .int .i64 a] w fun e w' => e = .returned (.agg #[.int .i64 (getN s a).1, .int .i64 (getN s a).2.1, .int .i64 (getN s a).2.2]) ∧ Below w.heap.size w w') := fun w => spec_get s a w hs ha
  have hfa := getN_facts s a
  have HT : Hid (getT s a = if (getN s a).2.2 ≠ 0 then (⟨#[]⟩, 0, (getN s a).2.2) else if (getN s a).1 < 0 ∨ 8000 < (getN s a).1 then (⟨#[]⟩, 0, 3) else if (s.size : Int) - (getN s a).2.1 < (getN s a).1 then (⟨#[]⟩, 0, 4) else (s.extract (getN s a).2.1.toNat ((getN s a).2.1.toNat + (getN s a).1.toNat), (getN s a).2.1 + (getN s a).1, 0)) := rfl
  clear ha
  generalize (getN s a).1 = N at *
  generalize (getN s a).2.1 = B at *
  generalize (getN s a).2.2 = C at *
  unfold maxLen at hs
  rcases hfa with ⟨rfl, h1, h2, h8⟩ | ⟨rfl, rfl, h1, h4⟩
  · by_cases hr : N < 0 ∨ 8000 < N
    · have HZ : Hid (getT s a = (⟨#[]⟩, 0, 3)) := by show _ = _; rw [HT.out, if_neg (by simp), if_pos hr]
      clear HT
      have hcase : (decide (N < 0) = true) ∨ (decide (N < 0) = false ∧ 8000 < N) := by
        rcases hr with h | h
        · exact .inl (decide_eq_true h)
        · exact .inr ⟨decide_eq_false (by omega), h⟩
      clear hr
      rcases hcase with g | ⟨g, g2⟩
      all_goals
        go_enter Tryd.func16, Tryd.ntmps16
        go_wp2_with (go_at_call 14; refine (HR.out _).mono ?_; rintro e w1 ⟨rfl, hb1⟩; obtain ⟨hc, hf⟩ := bcell hb1; have hz : w.heap.size < w1.heap.size := (by have := hb1.size; simp at this; omega); have HB1 := hide hb1; clear hb1)
        exact bodyPost_ret (v := .agg #[.string ⟨#[]⟩, .int .i64 0, .int .i64 3]) (by simp [results, Tryd.results16, go_sem, hc, hz]) rfl ⟨aggT_ret HZ.out, (((((((Below.refl _ _).alloc (Nat.le_refl _) _).trans (HB1.out.mono (by simp))).setCell (Nat.le_refl _) _).setCell (Nat.le_refl _) _).setCell (Nat.le_refl _) _).alloc (by simp [World.setCell]; omega) _)⟩
    · have n0 : 0 ≤ N := by omega
      have n8 : N ≤ 8000 := by omega
      by_cases hsh : (s.size : Int) - B < N
      · have HZ : Hid (getT s a = (⟨#[]⟩, 0, 4)) := by show _ = _; rw [HT.out, if_neg (by simp), if_neg hr, if_pos hsh]
        have hsh' : (s.size : Int) - N < B := by omega
        clear HT hr hsh
        go_enter Tryd.func16, Tryd.ntmps16
        go_wp2_with (go_at_call 14; refine (HR.out _).mono ?_; rintro e w1 ⟨rfl, hb1⟩; obtain ⟨hc, hf⟩ := bcell hb1; have hz : w.heap.size < w1.heap.size := (by have := hb1.size; simp at this; omega); have HB1 := hide hb1; clear hb1)
        exact bodyPost_ret (v := .agg #[.string ⟨#[]⟩, .int .i64 0, .int .i64 4]) (by simp [results, Tryd.results16, go_sem, hc, hz]) rfl ⟨aggT_ret HZ.out, (((((((Below.refl _ _).alloc (Nat.le_refl _) _).trans (HB1.out.mono (by simp))).setCell (Nat.le_refl _) _).setCell (Nat.le_refl _) _).setCell (Nat.le_refl _) _).alloc (by simp [World.setCell]; omega) _)⟩
      · obtain ⟨b, rfl⟩ := Int.eq_ofNat_of_zero_le (show 0 ≤ B by omega)
        obtain ⟨n, rfl⟩ := Int.eq_ofNat_of_zero_le n0
        have HZ : Hid (getT s a = (s.extract b (b + n), (b : Int) + (n : Int), 0)) := by show _ = _; rw [HT.out, if_neg (by simp), if_neg hr, if_neg hsh]; rfl
        have hsh' : ¬ (s.size : Int) - (n : Int) < (b : Int) := by omega
        clear HT hr hsh
        go_enter Tryd.func16, Tryd.ntmps16
        go_wp2_with (go_at_call 14; refine (HR.out _).mono ?_; rintro e w1 ⟨rfl, hb1⟩; obtain ⟨hc, hf⟩ := bcell hb1; have hz : w.heap.size < w1.heap.size := (by have := hb1.size; simp at this; omega); have HB1 := hide hb1; clear hb1)
        have hwr : IntKind.i64.wrap ((b : Int) + (n : Int)) = (b : Int) + (n : Int) := by rw [IntKind.wrap_i64]; omega
        have hsl : ∀ W, (Instr.slice 9 (.string s) (some (.int .i64 (b : Int))) (some (.int .i64 ((b : Int) + (n : Int)))) none).run Tryd.prog W = .ok (.string (s.extract b (b + n))) W := fun W => by
          rw [run_slice_string W 9 s .i64 .i64 (b : Int) ((b : Int) + (n : Int)) Tryd.underlying9 (by omega) (by omega) (by omega)]
          rfl
        clear hsh'
        go_region
        go_wp2
        exact bodyPost_ret (v := .agg #[.string (s.extract b (b + n)), .int .i64 ((b : Int) + (n : Int)), .int .i64 0]) (by simp [results, Tryd.results16, go_sem, hc, hz]) rfl ⟨aggT_ret HZ.out, (((((((Below.refl _ _).alloc (Nat.le_refl _) _).trans (HB1.out.mono (by simp))).setCell (Nat.le_refl _) _).setCell (Nat.le_refl _) _).setCell (Nat.le_refl _) _).alloc (by simp [World.setCell]; omega) _).drew⟩
  · have HZ : Hid (getT s a = (⟨#[]⟩, 0, C)) := by show _ = _; rw [HT.out, if_pos (by omega)]
    have g : (C != 0) = true := by rw [bne_iff_ne]; omega
    clear HT
    go_enter Tryd.func16, Tryd.ntmps16
    go_wp2_with (go_at_call 14; refine (HR.out _).mono ?_; rintro e w1 ⟨rfl, hb1⟩; obtain ⟨hc, hf⟩ := bcell hb1; have hz : w.heap.size < w1.heap.size := (by have := hb1.size; simp at this; omega); have HB1 := hide hb1; clear hb1)
    exact bodyPost_ret (v := .agg #[.string ⟨#[]⟩, .int .i64 0, .int .i64 C]) (by simp [results, Tryd.results16, go_sem, hc, hz]) rfl ⟨aggT_ret HZ.out, (((((((Below.refl _ _).alloc (Nat.le_refl _) _).trans (HB1.out.mono (by simp))).setCell (Nat.le_refl _) _).setCell (Nat.le_refl _) _).setCell (Nat.le_refl _) _).alloc (by simp [World.setCell]; omega) _)⟩

set_option maxRecDepth 100000 in
set_option maxHeartbeats 1000000 in
theorem eq_textD (x y : ByteArray) (a b c d : Int) (w : World) (hx : (x.toList == y.toList) = true) (ha : (a != b) = false) (hc : (c != d) = false) :
    Calls Tryd.prog 17 #[.agg #[.string x, .int .i64 a, .int .i64 c], .agg #[.string y, .int .i64 b, .int .i64 d]] w fun e w' => e = .returned (.bool true) ∧ Below w.heap.size w w' := by
  go_enter Tryd.func17, Tryd.ntmps17
  go_wp2
  go_ret
  exact ⟨rfl, ((Below.refl _ _).alloc (Nat.le_refl _) _).alloc (by simp) _⟩

set_option maxRecDepth 100000 in
set_option maxHeartbeats 2000000 in
theorem law_get_text (s : ByteArray) (a : Int) (w : World) (hs : s.size ≤ maxLen) (ha : a ≤ 9223372036854775807) (hg : Handle w) :
    Calls Tryd.prog 5 #[.string s, .int .i64 a] w fun e w' => e = .returned (.bool true) ∧ Below w.heap.size w w' := by
  have HS : Hid (∀ w, Calls Tryd.prog 16 #[.string s, .int .i64 a] w fun e w' => e = .returned (.agg #[.string (getT s a).1, .int .i64 (getT s a).2.1, .int .i64 (getT s a).2.2]) ∧ Below w.heap.size w w') := fun w => spec_get_text s a w hs ha
  have HI : Hid (∀ w, Handle w → Calls Tryd.prog 13 #[.string s, .int .i64 a] w fun e w' => e = .returned (.agg #[.string (getT s a).1, .int .i64 (getT s a).2.1, .int .i64 (getT s a).2.2]) ∧ Below w.heap.size w w') := fun w hg => impl_get_text s a w hs ha hg
  have HG := hide hg
  clear hg ha
  unfold maxLen at hs
  generalize (getT s a).1 = N at *
  generalize (getT s a).2.1 = B at *
  generalize (getT s a).2.2 = C at *
  by_cases h : 1048576 < s.size
  · go_enter Tryd.func5, Tryd.ntmps5
    go_wp2_with fail
    go_ret
    exact ⟨rfl, Below.refl _ _⟩
  · go_enter Tryd.func5, Tryd.ntmps5
    go_wp2_with (first | (go_at_call 16; refine (HS.out _).mono ?_; rintro e w1 ⟨rfl, hb1⟩; have HB1 := hide hb1; clear hb1))
    refine (HI.out _ ((HG.out.below HB1.out).alloc _)).mono ?_
    rintro e w2 ⟨rfl, hb2⟩
    obtain ⟨hc, hf⟩ := bcell hb2
    have hz : w1.heap.size < w2.heap.size := by have := hb2.size; simp at this; omega
    have HB2 := hide hb2
    clear hb2
    go_wp2_with fail
    refine (eq_textD N N B B C C _ (by simp) (by simp) (by simp)).mono ?_
    rintro e w3 ⟨rfl, hb3⟩
    have HB3 := hide hb3
    clear hb3 hc hf
    go_wp2
    go_ret
    exact ⟨rfl, ((((HB1.out.alloc HB1.out.size _).trans (HB2.out.mono (by simp; have := HB1.out.size; omega))).alloc (by have := HB1.out.size; omega) _).trans (HB3.out.mono (by simp; have := HB1.out.size; omega)))⟩
end Go.Proofs.YtpnaigmaeabadaaDoor
