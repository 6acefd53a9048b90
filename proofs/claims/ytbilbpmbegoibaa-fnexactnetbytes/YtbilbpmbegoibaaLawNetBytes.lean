/- The law of NetBytes, walked. -/
import Derived.Test.YtbilbpmbegoibaaNetBJ
import Derived.Test.YtbilbpmbegoibaaOpenMsgR
import Derived.Deep.RegionWith
namespace Go.Proofs.Ytbilbpmbegoibaa
open Go.RowKit

set_option maxRecDepth 100000 in
set_option maxHeartbeats 2000000 in
theorem law_NetBytes (l : List RMsg) (ao : Option Addr) (cap : Nat) (w : World) (hok : ∀ n ∈ l, n.ok ∧ n.rng) (hlm : l.length ≤ maxLen) (hrow : l ≠ [] → ∃ b o, ao = some ⟨b, o, none⟩ ∧ b < w.heap.size ∧ RMsgs w b o l) :
    Calls Try.prog 6 #[.slice ao l.length cap] w fun e w' => e = .returned (.bool true) ∧ Below w.heap.size w w' := by
  have HOK := hide (fun n hn => (hok n hn).1)
  have HRNG := hide (fun n hn => (hok n hn).2)
  have HROW : Hid (∀ w', Below w.heap.size w w' → (l ≠ [] → ∃ b o, ao = some ⟨b, o, none⟩ ∧ b < w'.heap.size ∧ RMsgs w' b o l)) := hide (fun w' hb hne => by
    obtain ⟨b, o, e, h1, h2⟩ := hrow hne
    exact ⟨b, o, e, Nat.lt_of_lt_of_le h1 hb.size, h2.carry h1 hb⟩)
  have HT : Hid (∀ (w1 w2 : World), Below w.heap.size w w1 → Below w1.heap.size w1 w2 → Below w.heap.size w w2) := hide (fun w1 w2 h1 h2 => h1.trans (h2.mono h1.size))
  clear hok hrow
  go_enter Try.func6, Try.ntmps6
  go_wp2_with (go_at_call 17; refine (sz_msgs l 1048576 ao cap _ HOK.out hlm (by omega) (by omega) (HROW.out _ (Below.refl _ _))).mono ?_; rintro e w1 ⟨r, rfl, -, hrf, hb1⟩; have HRF := hide hrf; have HW1 := hide (HT.out _ _ (Below.refl _ _) hb1); clear hrf hb1; by_cases hneg : r < 0)
  · go_ret
    exact ⟨rfl, HW1.out⟩
  · have HFIT := hide (HRF.out (by omega)).2
    have hlen := (HRF.out (by omega)).1
    go_wp2_with (first
      | (go_at_call 22; refine (s_netBytes l _ _ HOK.out HS2.out).mono ?_; rintro e w3 ⟨rfl, hb3⟩; have HW3 := hide (HT.out _ _ HW2.out hb3); clear hb3)
      | (go_at_call 23; refine (i_netBytes l _ _ HOK.out HS4.out).mono ?_; rintro e w5 ⟨rfl, hb5⟩; have HB5 := hide hb5; have HW5 := hide (HT.out _ _ HW4.out hb5); clear hb5)
      | (go_at_call 21; refine (eq_msgs l _ _ _ (((HS4.out.carry HB5.out).up HB5.out.size).carry HB6.out |>.up HB6.out.size) HS6.out).mono ?_; rintro e w7 ⟨rfl, hb7⟩; have HW7 := hide (HT.out _ _ HW6.out hb7); clear hb7)
      | (go_at_call 19; refine (to_msgs l ao cap w5 hlen (HROW.out _ HW5.out)).mono ?_; rintro e w6 ⟨v6, rfl, hs6, -, hb6⟩; have HS6 := hide hs6; obtain ⟨a6, c6, rfl, -⟩ := hs6; have HW6 := hide (HT.out _ _ HW5.out hb6); have HB6 : Hid (Below w5.heap.size w5 w6) := hide hb6; clear hb6)
      | (go_at_call 19; refine (to_msgs l ao cap _ hlen (HROW.out _ HW3.out)).mono ?_; rintro e w4 ⟨v4, rfl, hs4, -, hb4⟩; have HS4 := hide hs4; obtain ⟨a4, c4, rfl, -⟩ := hs4; have HW4 := hide (HT.out _ _ HW3.out hb4); clear hb4)
      | (go_at_call 19; refine (to_msgs l ao cap _ hlen (HROW.out _ HW1.out)).mono ?_; rintro e w2 ⟨v2, rfl, hs2, -, hb2⟩; have HS2 := hide hs2; obtain ⟨a2, c2, rfl, -⟩ := hs2; have HW2 := hide (HT.out _ _ HW1.out hb2); clear hb2))
    all_goals
      go_ret
      exact ⟨rfl, HW7.out⟩
end Go.Proofs.Ytbilbpmbegoibaa
