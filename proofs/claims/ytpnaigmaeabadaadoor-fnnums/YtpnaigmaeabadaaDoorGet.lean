/- GetNum, and its law, walked. -/
import Derived.Test.YtpnaigmaeabadaaDoorRows
import Derived.Test.YtpnaigmaeabadaaDoorRead
import Derived.Test.YtpnaigmaeabadaaDoorSpec
namespace Go.Proofs.YtpnaigmaeabadaaDoor
open Go.RowKit

/-- The one listed variable's cell. -/
def Handle (w : World) : Prop := w.cell? ⟨0, 0, none⟩ = some (.iface 78 (.agg #[.pointer (some ⟨1, 45, none⟩)]))
theorem Handle.pos {w : World} (h : Handle w) : 0 < w.heap.size := by
  rcases Nat.eq_zero_or_pos w.heap.size with h0 | h'
  · simp [Handle, World.cell?, h0] at h
  · exact h'
theorem Handle.below {w w' : World} (h : Handle w) (hb : Below w.heap.size w w') : Handle w' := (hb.cell (p := ⟨0, 0, none⟩) h.pos).trans h
theorem Handle.alloc {w : World} (h : Handle w) (o : Obj) : Handle (w.alloc o) := h.below ((Below.refl _ _).alloc (Nat.le_refl _) _)

theorem code_any (c : Int) (w : World) (hg : Handle w) : Calls Tryd.prog 23 #[errV c] w fun e w' => e = .returned (.int .i64 c) ∧ Below w.heap.size w w' := by
  by_cases h : c = 0
  · subst h
    rw [errV, if_pos rfl]
    exact code_nil w
  · rw [errV, if_neg h]
    exact code_fault c w hg

set_option maxRecDepth 100000 in
set_option maxHeartbeats 2000000 in
theorem impl_get (s : ByteArray) (a : Int) (w : World) (hs : s.size ≤ maxLen) (ha : a ≤ 9223372036854775807) (hg : Handle w) :
    Calls Tryd.prog 9 #[.string s, .int .i64 a] w fun e w' => e = .returned (.agg #[.int .i64 (getN s a).1, .int .i64 (getN s a).2.1, .int .i64 (getN s a).2.2]) ∧ Below w.heap.size w w' := by
  have HR : Hid (∀ w, Calls Tryd.prog 22 #[.string s, .int .i64 a] w fun e w' => e = .returned (.tuple #[.int .i64 (getN s a).1, .int .i64 (getN s a).2.1, errV (getN s a).2.2]) ∧ w' = w) := fun w => read_num s a w hs ha
  have HG := hide hg
  clear hg hs ha
  generalize (getN s a).1 = N at *
  generalize (getN s a).2.1 = B at *
  generalize (getN s a).2.2 = C at *
  go_enter Tryd.func9, Tryd.ntmps9
  go_wp2_with (go_at_call 22; refine (HR.out _).mono ?_; rintro e w1 ⟨rfl, hw⟩; subst hw)
  refine (code_any C _ (HG.out.alloc _)).mono ?_
  rintro e w2 ⟨rfl, hb2⟩
  have hc0 : w2.cell? ⟨w.heap.size, 0, none⟩ = some (.int .i64 0) := (hb2.cell (p := ⟨w.heap.size, 0, none⟩) (by simp)).trans (by simp)
  have hc1 : w2.cell? ⟨w.heap.size, 1, none⟩ = some (.int .i64 0) := (hb2.cell (p := ⟨w.heap.size, 1, none⟩) (by simp)).trans (by simp)
  have hc2 : w2.cell? ⟨w.heap.size, 2, none⟩ = some (.int .i64 0) := (hb2.cell (p := ⟨w.heap.size, 2, none⟩) (by simp)).trans (by simp)
  have hf0 : ∀ o, w2.frozen? ⟨w.heap.size, o, none⟩ = false := fun o => (hb2.frozen (p := ⟨w.heap.size, o, none⟩) (by simp)).trans (by simp [World.frozen?_alloc_at])
  have hz2 : w.heap.size < w2.heap.size := by have := hb2.size; simp at this; omega
  have HB := hide hb2
  clear hb2
  go_wp2
  exact bodyPost_ret (v := .agg #[.int .i64 N, .int .i64 B, .int .i64 C]) (by simp [results, Tryd.results9, go_sem, hc0, hc1, hc2]) rfl ⟨rfl, ((((((Below.refl _ _).alloc (Nat.le_refl _) _).trans (HB.out.mono (by simp))).setCell (Nat.le_refl _) _).setCell (Nat.le_refl _) _).setCell (Nat.le_refl _) _)⟩

set_option maxRecDepth 100000 in
set_option maxHeartbeats 1000000 in
theorem eq_num (x y a b c d : Int) (w : World) (hx : (x != y) = false) (ha : (a != b) = false) (hc : (c != d) = false) :
    Calls Tryd.prog 15 #[.agg #[.int .i64 x, .int .i64 a, .int .i64 c], .agg #[.int .i64 y, .int .i64 b, .int .i64 d]] w fun e w' => e = .returned (.bool true) ∧ Below w.heap.size w w' := by
  go_enter Tryd.func15, Tryd.ntmps15
  go_wp2
  go_ret
  exact ⟨rfl, ((Below.refl _ _).alloc (Nat.le_refl _) _).alloc (by simp) _⟩

set_option maxRecDepth 100000 in
set_option maxHeartbeats 2000000 in
theorem law_get (s : ByteArray) (a : Int) (w : World) (hs : s.size ≤ maxLen) (ha : a ≤ 9223372036854775807) (hg : Handle w) :
    Calls Tryd.prog 4 #[.string s, .int .i64 a] w fun e w' => e = .returned (.bool true) ∧ Below w.heap.size w w' := by
  have HS : Hid (∀ w, Calls Tryd.prog 14 #[.string s, .int .i64 a] w fun e w' => e = .returned (.agg #[.int .i64 (getN s a).1, .int .i64 (getN s a).2.1, .int .i64 (getN s a).2.2]) ∧ Below w.heap.size w w') := fun w => spec_get s a w hs ha
  have HI : Hid (∀ w, Handle w → Calls Tryd.prog 9 #[.string s, .int .i64 a] w fun e w' => e = .returned (.agg #[.int .i64 (getN s a).1, .int .i64 (getN s a).2.1, .int .i64 (getN s a).2.2]) ∧ Below w.heap.size w w') := fun w hg => impl_get s a w hs ha hg
  have HG := hide hg
  clear hg ha
  unfold maxLen at hs
  generalize (getN s a).1 = N at *
  generalize (getN s a).2.1 = B at *
  generalize (getN s a).2.2 = C at *
  by_cases h : 1048576 < s.size
  · go_enter Tryd.func4, Tryd.ntmps4
    go_wp2_with fail
    go_ret
    exact ⟨rfl, Below.refl _ _⟩
  · go_enter Tryd.func4, Tryd.ntmps4
    go_wp2_with (first | (go_at_call 14; refine (HS.out _).mono ?_; rintro e w1 ⟨rfl, hb1⟩; have HB1 := hide hb1; clear hb1))
    refine (HI.out _ ((HG.out.below HB1.out).alloc _)).mono ?_
    rintro e w2 ⟨rfl, hb2⟩
    obtain ⟨hc, hf⟩ := bcell hb2
    have hz : w1.heap.size < w2.heap.size := by have := hb2.size; simp at this; omega
    have HB2 := hide hb2
    clear hb2
    go_wp2_with fail
    refine (eq_num N N B B C C _ (by simp) (by simp) (by simp)).mono ?_
    rintro e w3 ⟨rfl, hb3⟩
    have HB3 := hide hb3
    clear hb3 hc hf
    go_wp2
    go_ret
    exact ⟨rfl, ((((HB1.out.alloc HB1.out.size _).trans (HB2.out.mono (by simp; have := HB1.out.size; omega))).alloc (by have := HB1.out.size; omega) _).trans (HB3.out.mono (by simp; have := HB1.out.size; omega)))⟩
end Go.Proofs.YtpnaigmaeabadaaDoor
