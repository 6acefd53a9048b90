/- The law of Sound, walked. -/
import Derived.Test.YtehodjfgojcnlaaGreatQSound37
import Derived.Test.YtehodjfgojcnlaaGreatSndSM
import Derived.Test.YtehodjfgojcnlaaGreatSndIM
namespace Go.Proofs.YtehodjfgojcnlaaGreat
open Go.RowKit

set_option maxHeartbeats 1000000 in
theorem law_Sound (ns : List Nd) (ao : Option Addr) (cap : Nat) (w : World) (ok : ∀ n ∈ ns, n.ok) (hl : ns.length ≤ maxLen) (hr : ns ≠ [] → ∃ b o, ao = some ⟨b, o, none⟩ ∧ b < w.heap.size ∧ RowAt w b o ns) :
    Calls Tryz.prog 3 #[.slice ao ns.length cap] w fun e w' => e = .returned (.bool true) ∧ Below w.heap.size w w' := by
  have HRC : Hid (∀ w', Below w.heap.size w w' → ns ≠ [] → ∃ b o, ao = some ⟨b, o, none⟩ ∧ b < w'.heap.size ∧ RowAt w' b o ns) := hide (fun w' hb hne => by
    obtain ⟨b, o, e, hlt, hrow⟩ := hr hne
    exact ⟨b, o, e, Nat.lt_of_lt_of_le hlt hb.size, hrow.carry hlt hb⟩)
  obtain ⟨q, hq⟩ := snd_ex ns
  have HQ := hide hq
  clear hq
  have HR := hide hr
  have HOK := hide ok
  have HL := hide hl
  have hl2 : ns.length ≤ 9223372036854775807 := by unfold maxLen at hl; omega
  clear hr ok hl
  go_enter Tryz.func3, Tryz.ntmps3
  go_wp2_with (go_at_call 4; refine (sz_nodes ns ao cap _ HOK.out HL.out HR.out).mono ?_; rintro e w1 ⟨r, rfl, hrf, hb1⟩; have HRF := hide hrf; have HB1 := hide hb1; clear hrf hb1; by_cases hneg : r < 0)
  · go_ret
    exact ⟨rfl, HB1.out⟩
  · have HFIT := hide (HRF.out (by omega))
    have hlen : ns.length ≤ 1048576 := HFIT.out.1
    go_wp2_with (first
      | (go_at_call 8; refine (eq_nodes ns _ _ _ ((HS3.out.carry (HB4.out.trans (HB5.out.mono HB4.out.size))).up (HB4.out.trans (HB5.out.mono HB4.out.size)).size) HS5.out).mono ?_; rintro e w6 ⟨rfl, hb6⟩; have HB6 : Hid (Below w.heap.size w w6) := hide (HW5.out.trans (hb6.mono HW5.out.size)); clear hb6)
      | (go_at_call 5; refine (s_sound ns q HQ.out _ _ HFIT.out.2 HS2.out).mono ?_; rintro e w2' ⟨rfl, hb2'⟩; have HW2 : Hid (Below w.heap.size w w2') := hide (HB2.out.trans (hb2'.mono HB2.out.size)); clear hb2')
      | (go_at_call 7; refine (i_sound ns q HQ.out _ _ HFIT.out.2 HS3.out).mono ?_; rintro e w4 ⟨rfl, hb4⟩; have HB4 := hide hb4; have HW4 : Hid (Below w.heap.size w w4) := hide (HW3.out.trans (hb4.mono HW3.out.size)); clear hb4)
      | (go_at_call 6; refine (to_nodes ns ao cap _ hlen (HRC.out _ HW4.out)).mono ?_; rintro e w5 ⟨v5, rfl, hs5, hb5⟩; have HS5 := hide hs5; obtain ⟨ao5, cap5, rfl, -⟩ := hs5; have HB5 := hide hb5; have HW5 : Hid (Below w.heap.size w w5) := hide (HW4.out.trans (hb5.mono HW4.out.size)); clear hb5)
      | (go_at_call 6; refine (to_nodes ns ao cap _ hlen (HRC.out _ HW2.out)).mono ?_; rintro e w3 ⟨v3, rfl, hs3, hb3⟩; have HS3 := hide hs3; obtain ⟨ao3, cap3, rfl, -⟩ := hs3; have HW3 : Hid (Below w.heap.size w w3) := hide (HW2.out.trans (hb3.mono HW2.out.size)); clear hb3)
      | (go_at_call 6; refine (to_nodes ns ao cap _ hlen (HRC.out _ HB1.out)).mono ?_; rintro e w2 ⟨v2, rfl, hs2, hb2⟩; have HS2 := hide hs2; obtain ⟨ao2, cap2, rfl, -⟩ := hs2; have HB2 : Hid (Below w.heap.size w w2) := hide (HB1.out.trans (hb2.mono HB1.out.size)); clear hb2))
    go_ret
    exact ⟨rfl, HB6.out⟩
end Go.Proofs.YtehodjfgojcnlaaGreat
