/- Unseal: the law, walked. -/
import Derived.Test.YtpnaigmaeabadaaRows
import Derived.Test.YtpnaigmaeabadaaUnsealB
namespace Go.Proofs.Ytpnaigmaeabadaa
open Go.RowKit

set_option maxRecDepth 100000 in
set_option maxHeartbeats 1000000 in
theorem eq_text (x y : ByteArray) (a b c d : Int) (w : World) (hx : (x.toList == y.toList) = true) (ha : (a != b) = false) (hc : (c != d) = false) :
    Calls Try.prog 28 #[.agg #[.string x, .int .i64 a, .int .i64 c], .agg #[.string y, .int .i64 b, .int .i64 d]] w fun e w' => e = .returned (.bool true) ∧ Below w.heap.size w w' := by
  go_enter Try.func28, Try.ntmps28
  go_wp2
  go_ret
  exact ⟨rfl, ((Below.refl _ _).alloc (Nat.le_refl _) _).alloc (by simp) _⟩

set_option maxRecDepth 100000 in
set_option maxHeartbeats 1000000 in
theorem law_unseal (s : ByteArray) (w : World) (hs : s.size ≤ maxLen) :
    Calls Try.prog 10 #[.string s] w fun e w' => e = .returned (.bool true) ∧ Below w.heap.size w w' := by
  have HS := hide hs
  unfold maxLen at hs
  by_cases h : 1048576 < s.size
  · go_enter Try.func10, Try.ntmps10
    go_wp2_with fail
    go_ret
    exact ⟨rfl, Below.refl _ _⟩
  · have HI : Hid (∀ w, Calls Try.prog 15 #[.string s] w fun e w' => e = .returned (.agg #[.string (unT s), .int .i64 0, .int .i64 (unC s)]) ∧ Below w.heap.size w w') := fun w => impl_unseal s w HS.out
    have HP : Hid (∀ w, Calls Try.prog 27 #[.string s] w fun e w' => e = .returned (.agg #[.string (unT s), .int .i64 0, .int .i64 (unC s)]) ∧ Below w.heap.size w w') := fun w => spec_unseal s w HS.out
    generalize unT s = T at *
    generalize unC s = C at *
    go_enter Try.func10, Try.ntmps10
    go_wp2_with (first | (go_at_call 27; refine (HP.out _).mono ?_; rintro e w1 ⟨rfl, hb1⟩; have HB1 := hide hb1; clear hb1))
    refine (HI.out _).mono ?_
    rintro e w2 ⟨rfl, hb2⟩
    obtain ⟨hc, hf⟩ := bcell hb2
    have hz : w1.heap.size < w2.heap.size := by have := hb2.size; simp at this; omega
    have HB2 := hide hb2
    clear hb2
    go_wp2_with fail
    refine (eq_text T T 0 0 C C _ (by simp) (by simp) (by simp)).mono ?_
    rintro e w3 ⟨rfl, hb3⟩
    have HB3 := hide hb3
    clear hb3 hc hf
    go_wp2
    go_ret
    exact ⟨rfl, ((((HB1.out.alloc HB1.out.size _).trans (HB2.out.mono (by simp; have := HB1.out.size; omega))).alloc (by have := HB1.out.size; omega) _).trans (HB3.out.mono (by simp; have := HB1.out.size; omega)))⟩
end Go.Proofs.Ytpnaigmaeabadaa
