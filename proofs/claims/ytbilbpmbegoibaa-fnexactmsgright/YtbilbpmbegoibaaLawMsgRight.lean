/- The law of MsgRight, walked. -/
import Derived.Test.YtbilbpmbegoibaaMsgI
import Derived.Test.YtbilbpmbegoibaaOpenMsgR
import Derived.Deep.RegionWith
namespace Go.Proofs.Ytbilbpmbegoibaa
open Go.RowKit

set_option maxRecDepth 100000 in
set_option maxHeartbeats 2000000 in
theorem law_MsgRight (m : RMsg) (w : World) (hm : m.ok ∧ m.rng) :
    Calls Try.prog 4 #[m.val] w fun e w' => e = .returned (.bool true) ∧ Below w.heap.size w w' := by
  have HOK := hide hm.1
  have HC : Hid (∀ w', Below (w.heap.size + 1) (w.alloc (.cells #[.string m.frm, .string m.to, .string m.label, .int .i64 m.sort] 33)) w' → w'.cell? ⟨w.heap.size, 0, none⟩ = some (.string m.frm) ∧ w'.cell? ⟨w.heap.size, 1, none⟩ = some (.string m.to) ∧ w'.cell? ⟨w.heap.size, 2, none⟩ = some (.string m.label) ∧ w'.cell? ⟨w.heap.size, 3, none⟩ = some (.int .i64 m.sort) ∧ Below w.heap.size w w' ∧ w.heap.size < w'.heap.size) := hide (fun w' hb => by
    refine ⟨?_, ?_, ?_, ?_, (malloc1 _ _).trans (hb.mono (by simp)), by have := hb.size; simp at this; omega⟩
    · exact (hb.cell (p := ⟨w.heap.size, 0, none⟩) (by simp)).trans (by simp)
    · exact (hb.cell (p := ⟨w.heap.size, 1, none⟩) (by simp)).trans (by simp)
    · exact (hb.cell (p := ⟨w.heap.size, 2, none⟩) (by simp)).trans (by simp)
    · exact (hb.cell (p := ⟨w.heap.size, 3, none⟩) (by simp)).trans (by simp))
  have HL : Hid (∀ (w1 w2 : World), Below (w.heap.size + 1) (w.alloc (.cells #[.string m.frm, .string m.to, .string m.label, .int .i64 m.sort] 33)) w1 → Below w1.heap.size w1 w2 → Below (w.heap.size + 1) (w.alloc (.cells #[.string m.frm, .string m.to, .string m.label, .int .i64 m.sort] 33)) w2) := hide (fun w1 w2 h1 h2 => h1.trans (h2.mono (by have := h1.size; simp at this; omega)))
  clear hm
  obtain ⟨q, hq⟩ : ∃ q, msgB m = q := ⟨_, rfl⟩
  have HQ := hide hq
  clear hq
  unfold RMsg.val
  go_enter Try.func4, Try.ntmps4
  go_wp2_with (go_at_call 13; refine (sz_msg m 1048576 _ HOK.out (by omega) (by omega)).mono ?_; rintro e w1 ⟨r, rfl, -, hrf, hb1⟩; have HW1 := hide (HL.out _ _ (Below.refl _ _) hb1); obtain ⟨x0, x1, x2, x3, -, -⟩ := HC.out _ HW1.out; clear hrf hb1; by_cases hneg : r < 0)
  · go_ret
    exact ⟨rfl, (HC.out _ HW1.out).2.2.2.2.1⟩
  · go_wp2_with (first
      | (go_at_call 14; refine (s_msg (m := m) HQ.out HOK.out _).mono ?_; rintro e w3 ⟨rfl, hb3⟩; have HW3 := hide (HL.out _ _ HW2.out hb3); obtain ⟨z0, z1, z2, z3, -, -⟩ := HC.out _ HW3.out; clear hb3)
      | (go_at_call 16; refine (i_msg (m := m) HQ.out HOK.out _).mono ?_; rintro e w5 ⟨rfl, hb5⟩; have HW5 := hide (HL.out _ _ HW4.out hb5); obtain ⟨u0, u1, u2, u3, -, -⟩ := HC.out _ HW5.out; clear hb5)
      | (go_at_call 15; refine (to_msg m _).mono ?_; rintro e w4 ⟨rfl, hb4⟩; have HW4 := hide (HL.out _ _ HW3.out hb4); obtain ⟨t0, t1, t2, t3, -, -⟩ := HC.out _ HW4.out; clear hb4)
      | (go_at_call 15; refine (to_msg m _).mono ?_; rintro e w2 ⟨rfl, hb2⟩; have HW2 := hide (HL.out _ _ HW1.out hb2); obtain ⟨y0, y1, y2, y3, -, -⟩ := HC.out _ HW2.out; clear hb2))
    all_goals go_ret
    all_goals exact ⟨rfl, (HC.out _ HW5.out).2.2.2.2.1⟩
end Go.Proofs.Ytbilbpmbegoibaa
