/- The law of RolesOf, walked. -/
import Derived.Test.YtdaljjpbfogniaaMarkN
import Derived.Test.YtdaljjpbfogniaaTalks
namespace Go.Proofs.Ytdaljjpbfogniaa
open Go.RowKit

theorem apart_of {B : Nat} {w4 w5 : World} {v4 v5 : Value} {e size n : Nat} {xs : List Value} (h4 : OwnAt B w4 v4) (h5 : w5.ownsRow w4.heap.size e size v5 n xs) : v5.ownBlock = none ∨ v5.ownBlock ≠ v4.ownBlock := by
  cases hv : v5.ownBlock with
  | none => exact .inl rfl
  | some k =>
    refine .inr (fun h => ?_)
    have h1 := own_row h5 k hv
    have h2 := (h4.free k h.symm).2.1
    omega

set_option maxRecDepth 100000 in
set_option maxHeartbeats 2000000 in
theorem law_RolesOf (ns : List Nd) (ao : Option Addr) (cap : Nat) (w : World) (ok : ∀ n ∈ ns, n.ok) (hl : ns.length ≤ maxLen) (hr : ns ≠ [] → ∃ b o, ao = some ⟨b, o, none⟩ ∧ b < w.heap.size ∧ RowAt w b o ns) :
    Calls Try.prog 4 #[.slice ao ns.length cap] w fun e w' => e = .returned (.bool true) ∧ Below w.heap.size w w' := by
  have HRC : Hid (∀ w', Below w.heap.size w w' → ns ≠ [] → ∃ b o, ao = some ⟨b, o, none⟩ ∧ b < w'.heap.size ∧ RowAt w' b o ns) := hide (fun w' hb hne => by
    obtain ⟨b, o, e, hlt, hrow⟩ := hr hne
    exact ⟨b, o, e, Nat.lt_of_lt_of_le hlt hb.size, hrow.carry hlt hb⟩)
  have HR := hide hr
  have HOK := hide ok
  have HL := hide hl
  have HR4 := hide (roles_le4 ns)
  have hl2 : ns.length ≤ 9223372036854775807 := by unfold maxLen at hl; omega
  clear hr ok hl
  go_enter Try.func4, Try.ntmps4
  go_wp2_with (go_at_call 9; refine (sz_nodes ns ao cap _ HOK.out HL.out HR.out).mono ?_; rintro e w1 ⟨r, rfl, hrf, hb1⟩; have HRF := hide hrf; have HB1 := hide hb1; clear hrf hb1; by_cases hneg : r < 0)
  · go_ret
    exact ⟨rfl, HB1.out⟩
  · have HFIT := hide (HRF.out (by omega))
    have hlen : ns.length ≤ 1048576 := HFIT.out.1
    obtain ⟨nr, hnr⟩ : ∃ nr, (rolesV ns).length = nr := ⟨_, rfl⟩
    have HNR := hide hnr
    have hnr4 : nr ≤ 4 := by rw [← hnr]; exact HR4.out
    have HR32 : Hid ((rolesV ns).length ≤ 4294967296) := hide (by have := HR4.out; omega)
    clear hnr
    go_wp2_with (first
      | (go_at_call 19; refine (held_texts 1 nr _ _ (by omega) (by omega) (HMT.out.carry HB15.out)).mono ?_; rintro e w16 ⟨rfl, hb16⟩; have HW16 : Hid (Below w.heap.size w w16) := hide (HW15.out.trans (hb16.mono HW15.out.size)); clear hb16)
      | (go_at_call 16; refine (eq_texts (rolesV ns) _ _ _ (texts_own HO14.out HR32.out) (HTW.out.carry HX14.out)).mono ?_; rintro e w15 ⟨rfl, hb15⟩; have HW15 : Hid (Below w.heap.size w w15) := hide (HW14.out.trans (hb15.mono HW14.out.size)); have HB15 : Hid (Below w11.heap.size w11 w15) := hide (HB14.out.trans (hb15.mono HB14.out.size)); clear hb15)
      | (go_at_call 15; refine (roles_of ns _ _ HFIT.out.2 HS13.out).mono ?_; rintro e w14 ⟨v14, rfl, ho14, hb14⟩; have HO14 := hide ho14; have HB14 : Hid (Below w11.heap.size w11 w14) := hide (HB13.out.trans (hb14.mono HB13.out.size)); have HW14 : Hid (Below w.heap.size w w14) := hide (HW11.out.trans (HB14.out.mono HW11.out.size)); have HX14 : Hid (Below w3.heap.size w3 w14) := hide (HX11.out.trans (HB14.out.mono HX11.out.size)); clear hb14 ho14)
      | (go_at_call 11; refine (to_nodes ns ao cap _ hlen (HRC.out _ HW12.out)).mono ?_; rintro e w13 ⟨v13, rfl, hs13, hb13⟩; have HS13 := hide hs13; have HB13 : Hid (Below w11.heap.size w11 w13) := hide (HB12.out.trans (hb13.mono HB12.out.size)); clear hb13 hs13)
      | (go_at_call 19; refine (held_texts 1 nr _ _ (by omega) (by omega) HMT.out).mono ?_; rintro e w12 ⟨rfl, hb12⟩; have HB12 := hide hb12; have HW12 : Hid (Below w.heap.size w w12) := hide (HW11.out.trans (hb12.mono HW11.out.size)); clear hb12)
      | (go_at_call 18; refine (mark_texts 1 (rolesV ns) _ _ w4.heap.size (by omega) (by have := HR4.out; omega) (texts_own HO10.out HR32.out) (own_at HO10.out)).mono ?_; rintro e w11 ⟨rfl, ht11, hg11⟩; rw [HNR.out] at ht11 ⊢; have HMT := hide ht11; have HX11 : Hid (Below w3.heap.size w3 w11) := hide (HX10.out.grown hg11 HX10.out.size (fun k hk => Nat.le_trans HZ34.out (own_row HO10.out k hk))); have HW11 : Hid (Below w.heap.size w w11) := hide (HW10.out.grown hg11 HW10.out.size (fun k hk => Nat.le_trans HZ04.out (own_row HO10.out k hk))); clear ht11 hg11)
      | (go_at_call 16; refine (eq_texts (rolesV ns) _ _ _ (texts_own HO9.out HR32.out) (HTW.out.carry HX9.out)).mono ?_; rintro e w10 ⟨rfl, hb10⟩; have HO10 := hide (own_below HO9.out hb10); have HX10 : Hid (Below w3.heap.size w3 w10) := hide (HX9.out.trans (hb10.mono HX9.out.size)); have HW10 : Hid (Below w.heap.size w w10) := hide (HW9.out.trans (hb10.mono HW9.out.size)); clear hb10)
      | (go_at_call 17; refine (mark_nodes 1 ns _ _ w3.heap.size (by omega) (by omega) ((HS4.out.carry HB48.out).up HB48.out.size) (HOA4.out.carry HB48.out)).mono ?_; rintro e w9 ⟨rfl, -, hg9⟩; have HO9 := hide (World.ownsRow.kept HO8.out hg9 (HNE.out)); have HX9 : Hid (Below w3.heap.size w3 w9) := hide (HX8.out.grown hg9 HX8.out.size (fun k hk => (HOA4.out.free k hk).1)); have HW9 : Hid (Below w.heap.size w w9) := hide (HW8.out.grown hg9 HW8.out.size (fun k hk => Nat.le_trans HZ03.out (HOA4.out.free k hk).1)); clear hg9)
      | (go_at_call 13; refine (eq_nodes ns _ _ _ ((HS4.out.carry HB47.out).up HB47.out.size) HS7.out).mono ?_; rintro e w8 ⟨rfl, hb8⟩; have HB48 : Hid (Below w4.heap.size w4 w8) := hide (HB47.out.trans (hb8.mono HB47.out.size)); have HO8 := hide (own_below HO7.out hb8); have HX8 : Hid (Below w3.heap.size w3 w8) := hide (HX7.out.trans (hb8.mono HX7.out.size)); have HW8 : Hid (Below w.heap.size w w8) := hide (HW7.out.trans (hb8.mono HW7.out.size)); clear hb8)
      | (go_at_call 11; refine (to_nodes ns ao cap _ hlen (HRC.out _ HW6.out)).mono ?_; rintro e w7 ⟨v7, rfl, hs7, hb7⟩; have HS7 := hide hs7; have HO7 := hide (own_below HO6.out hb7); have HB47 : Hid (Below w4.heap.size w4 w7) := hide (HB46.out.trans (hb7.mono HB46.out.size)); have HX7 : Hid (Below w3.heap.size w3 w7) := hide (HX6.out.trans (hb7.mono HX6.out.size)); have HW7 : Hid (Below w.heap.size w w7) := hide (HW6.out.trans (hb7.mono HW6.out.size)); clear hb7 hs7)
      | (go_at_call 16; refine (eq_texts (rolesV ns) _ _ _ (texts_own HO5.out HR32.out) (HTW.out.carry HX5.out)).mono ?_; rintro e w6 ⟨rfl, hb6⟩; have HO6 := hide (own_below HO5.out hb6); have HB46 : Hid (Below w4.heap.size w4 w6) := hide (HB45.out.trans (hb6.mono HB45.out.size)); have HX6 : Hid (Below w3.heap.size w3 w6) := hide (HX5.out.trans (hb6.mono HX5.out.size)); have HW6 : Hid (Below w.heap.size w w6) := hide (HW5.out.trans (hb6.mono HW5.out.size)); clear hb6)
      | (go_at_call 15; refine (roles_of ns _ _ HFIT.out.2 HS4.out).mono ?_; rintro e w5 ⟨v5, rfl, ho5, hb5⟩; have HO5 := hide ho5; have HB45 := hide hb5; have HX5 : Hid (Below w3.heap.size w3 w5) := hide (HX4.out.trans (hb5.mono HX4.out.size)); have HW5 : Hid (Below w.heap.size w w5) := hide (HW4.out.trans (hb5.mono HW4.out.size)); have HNE := hide (apart_of HOA4.out ho5); clear hb5 ho5)
      | (go_at_call 11; refine (to_nodes_own ns ao cap _ hlen (HRC.out _ HW3.out)).mono ?_; rintro e w4 ⟨v4, rfl, hs4, hoa4, hb4⟩; have HS4 := hide hs4; have HOA4 := hide hoa4; have HX4 := hide hb4; have HW4 : Hid (Below w.heap.size w w4) := hide (HW3.out.trans (hb4.mono HW3.out.size)); have HZ34 := hide hb4.size; have HZ04 := hide HW4.out.size; have HZ03 := hide HW3.out.size; clear hb4 hs4 hoa4)
      | (go_at_call 14; refine (s_rolesOf ns _ _ HFIT.out.2 HS2.out).mono ?_; rintro e w3 ⟨v3, rfl, hs3, hb3⟩; have HTW := hide (hs3.texts HR32.out); have HW3 : Hid (Below w.heap.size w w3) := hide (HB2.out.trans (hb3.mono HB2.out.size)); clear hb3 hs3)
      | (go_at_call 11; refine (to_nodes ns ao cap _ hlen (HRC.out _ HB1.out)).mono ?_; rintro e w2 ⟨v2, rfl, hs2, hb2⟩; have HS2 := hide hs2; have HB2 : Hid (Below w.heap.size w w2) := hide (HB1.out.trans (hb2.mono HB1.out.size)); clear hb2 hs2))
    go_ret
    exact ⟨rfl, HW16.out⟩
end Go.Proofs.Ytdaljjpbfogniaa
