/- The law of TapeRight, walked. -/
import Derived.Test.YthaomohoiginnaaTapeI
import Derived.Deep.RegionWith
namespace Go.Proofs.Ythaomohoiginnaa
open Go.RowKit

set_option maxRecDepth 100000 in
set_option maxHeartbeats 2000000 in
theorem law_TapeRight (l : List Int) (la : Option Addr) (lc : Nat) (w : World) (_ : ∀ z ∈ l, -9223372036854775808 ≤ z ∧ z ≤ 9223372036854775807) (hll : l.length ≤ maxLen) (hlr : l ≠ [] → ∃ b o, la = some ⟨b, o, none⟩ ∧ b < w.heap.size ∧ Nums w b o l) :
    Calls Try.prog 11 #[.slice la l.length lc] w fun e w' => e = .returned (.bool true) ∧ Below w.heap.size w w' := by
  have HLR : Hid (∀ w', Below w.heap.size w w' → l ≠ [] → ∃ b o, la = some ⟨b, o, none⟩ ∧ b < w'.heap.size ∧ Nums w' b o l) := hide (fun w' hb hne => by
    obtain ⟨b, o, e, hlt, hr⟩ := hlr hne
    exact ⟨b, o, e, Nat.lt_of_lt_of_le hlt hb.size, hr.carry hlt hb⟩)
  have HL : Hid (∀ (w1 w2 : World), Below w.heap.size w w1 → Below w1.heap.size w1 w2 → Below w.heap.size w w2) := hide (fun w1 w2 h1 h2 => h1.trans (h2.mono h1.size))
  have hl2 : l.length ≤ 9223372036854775807 := by unfold maxLen at hll; omega
  clear hlr hll
  obtain ⟨q, hq⟩ : ∃ q, tapeB l = q := ⟨_, rfl⟩
  have HSP : Hid (∀ (v : Value) (W : World), NumSl W W.heap.size v l → Calls Try.prog 47 #[v] W fun e w' => e = .returned (.bool q) ∧ Below W.heap.size W w') := hide (fun v W hv => by rw [← hq]; exact s_tape l v W hv)
  have HIM : Hid (∀ (v : Value) (W : World), NumSl W W.heap.size v l → Calls Try.prog 49 #[v] W fun e w' => e = .returned (.bool q) ∧ Below W.heap.size W w') := hide (fun v W hv => by rw [← hq]; exact i_tape l v W hv)
  clear hq
  by_cases hbig : 1048576 < l.length
  · go_enter Try.func11, Try.ntmps11
    go_wp2_with fail
    go_ret
    exact ⟨rfl, Below.refl _ _⟩
  · have hll : l.length ≤ 1048576 := by omega
    go_enter Try.func11, Try.ntmps11
    go_wp2_with (first
      | (go_at_call 50; refine (eq_nums l _ _ _ ((HS3.out.on HB4.out).on HB5.out) HS5.out).mono ?_; rintro e w6 ⟨rfl, hb6⟩; have HW6 := hide (HL.out _ _ HW5.out hb6); clear hb6)
      | (go_at_call 48; (fail_if_success (have := HW5)); refine (to_nums l la lc _ hll (HLR.out _ HW4.out)).mono ?_; rintro e w5 ⟨v5, rfl, hs5, -, hb5⟩; have HS5 := hide hs5; obtain ⟨p5, c5, rfl⟩ := hs5.shape; have HB5 := hide hb5; have HW5 := hide (HL.out _ _ HW4.out hb5); clear hb5 hs5)
      | (go_at_call 49; refine (HIM.out _ _ HS3.out).mono ?_; rintro e w4 ⟨rfl, hb4⟩; have HB4 := hide hb4; have HW4 := hide (HL.out _ _ HW3.out hb4); clear hb4)
      | (go_at_call 48; (fail_if_success (have := HW3)); refine (to_nums l la lc _ hll (HLR.out _ HW2.out)).mono ?_; rintro e w3 ⟨v3, rfl, hs3, -, hb3⟩; have HS3 := hide hs3; obtain ⟨p3, c3, rfl⟩ := hs3.shape; have HW3 := hide (HL.out _ _ HW2.out hb3); clear hb3 hs3)
      | (go_at_call 47; refine (HSP.out _ _ HS1.out).mono ?_; rintro e w2 ⟨rfl, hb2⟩; have HW2 := hide (HL.out _ _ HW1.out hb2); clear hb2)
      | (go_at_call 48; (fail_if_success (have := HW1)); refine (to_nums l la lc _ hll (HLR.out _ (Below.refl _ _))).mono ?_; rintro e w1 ⟨v1, rfl, hs1, -, hb1⟩; have HS1 := hide hs1; obtain ⟨p1, c1, rfl⟩ := hs1.shape; have HW1 := hide hb1; clear hb1 hs1))
    go_ret
    exact ⟨rfl, HW6.out⟩
end Go.Proofs.Ythaomohoiginnaa
