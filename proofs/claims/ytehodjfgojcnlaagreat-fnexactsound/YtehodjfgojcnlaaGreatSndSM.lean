/- Sound of the specification. -/
import Derived.Test.YtehodjfgojcnlaaGreatSndMM
namespace Go.Proofs.YtehodjfgojcnlaaGreat
open Go.RowKit

set_option maxRecDepth 100000 in
set_option maxHeartbeats 1000000 in
theorem s_l03Sound (ns : List Nd) (p : Pn 10) (hrb : rightB false ns = true) (hp : ns = rowN 10 p) (hpl : planN 10 p) (h40 : ns.length ≤ 40) (v : Value) (w : World) (hv : SlAt w w.heap.size v ns) :
    Calls Tryz.prog 11 #[v] w fun e w' => e = .returned (.bool (sndP p (rolesS ns))) ∧ Below w.heap.size w w' := by
  have HV := hide hv
  have hlm := hv.lenm
  obtain ⟨ao, cap, rfl, hc, hm, hr⟩ := hv
  have HOF : Hid (∀ (role : ByteArray) W, Below w.heap.size w W → Calls Tryz.prog 19 #[.slice ao ns.length cap, .int .i64 0, .string role] W fun e w' => OfAns 10 (rowN 10 p).length W w' e (partN role 10 p)) := hide (fun role W hb => by
    have hs : RdS w (fun g => g < w.heap.size) (.slice ao ns.length cap) ns := ⟨ao, cap, rfl, hc, by unfold maxLen; omega, by omega, hr⟩
    exact of_calls role 10 p ns [] 0 (.slice ao ns.length cap) W (fun g => g < w.heap.size) (fun g hg => Nat.lt_of_lt_of_le hg hb.size) hpl h40 (by rw [List.drop_zero, List.append_nil]; exact hp) (hs.on (fun g hg => hg) hb))
  have HL4 := hide (right_roles hrb)
  have HSR : Hid (∀ W, Below w.heap.size w W → Calls Tryz.prog 18 #[.slice ao ns.length cap] W fun e w' => ∃ v', e = .returned v' ∧ STexts w' v' (rolesS ns) ∧ Below W.heap.size W w') := hide (fun W hw => s_roles ns _ W ((HV.out.carry hw).up hw.size) h40)
  obtain ⟨rs, hrs⟩ : ∃ rs, rolesS ns = rs := ⟨_, rfl⟩
  rw [hrs] at HL4 HSR ⊢
  clear hrs hp hrb hr
  go_enter Tryz.func11, Tryz.ntmps11
  go_wp2_with (go_at_call 18; refine (HSR.out _ (Below.refl _ _)).mono ?_; rintro e w2 ⟨v2, rfl, hs2, hb2⟩; obtain ⟨b2, o2, cap2, rfl, hc2, hm2, hr2⟩ := hs2; have HR2 := hide hr2; have HB2 := hide hb2; clear hb2 hr2)
  have hl4 : rs.length ≤ 4 := HL4.out
  go_loopw [4] (fun i wr => ∃ k : Nat, k ≤ rs.length ∧ i = .int .i64 k ∧ (∀ j (h : j < rs.length), j < k → (partN rs[j] 10 p).isSome = true) ∧ Below w2.heap.size w2 wr) (fun i _ => rs.length - (intOf i).toNat)
  case atStart => exact ⟨0, Nat.zero_le _, rfl, fun j _ h => absurd h (by omega), Below.refl _ _⟩
  case round =>
    obtain ⟨k, hk, rfl, hall, hbel⟩ := hrel
    have HA := hide hall
    have HBEL := hide hbel
    clear hall hbel
    by_cases hlt : k < rs.length
    · have c0 := (HBEL.out.cell (p := ⟨b2, _, none⟩) (World.block_lt_of_cell? w2 _ (HR2.out k hlt))).trans (HR2.out k hlt)
      obtain ⟨x1, hx1⟩ : ∃ x1, x1 = rs[k] := ⟨_, rfl⟩
      have HC : Hid (∀ W : World, Below w.heap.size w W → Calls Tryz.prog 19 #[.slice ao ns.length cap, .int .i64 0, .string x1] W fun e w' => ∃ u, e = .returned (.tuple #[u, .bool (partN x1 10 p).isSome]) ∧ Below W.heap.size W w') := hide (fun W hw => (HOF.out x1 W hw).mono (by rintro e w' ⟨u, r, rfl, -, -, -, -, hb⟩; exact ⟨u, rfl, hb⟩))
      obtain ⟨bb, hbb⟩ : ∃ bb, (partN x1 10 p).isSome = bb := ⟨_, rfl⟩
      rw [← hx1] at c0
      rw [hbb] at HC
      have HBB := hide hbb
      have HX := hide hx1
      clear hx1 hbb
      cases bb
      · go_wp2_with (go_at_call 19; refine (HC.out _ (HB2.out.trans (HBEL.out.mono HB2.out.size))).mono ?_; rintro e w3 ⟨u, rfl, hb3⟩; have HB3 := hide hb3; clear hb3)
        go_ret
        exact ⟨ret_bool (snd_no hlt (by rw [← HX.out]; exact HBB.out)), (HB2.out.trans (HBEL.out.mono HB2.out.size)).trans (HB3.out.mono (Nat.le_trans HB2.out.size HBEL.out.size))⟩
      · go_wp2_with (go_at_call 19; refine (HC.out _ (HB2.out.trans (HBEL.out.mono HB2.out.size))).mono ?_; rintro e w3 ⟨u, rfl, hb3⟩; have HB3 := hide hb3; clear hb3)
        go_roundw
        case rel =>
          refine ⟨k + 1, hlt, by go_num, fun j hj hjk => ?_, HBEL.out.trans (HB3.out.mono HBEL.out.size)⟩
          by_cases hjk' : j = k
          · subst hjk'; rw [← HX.out]; exact HBB.out
          · exact HA.out j hj (by omega)
        case measure => simp [intOf]; omega
    · go_wp2_with fail
      go_ret
      exact ⟨ret_bool (snd_all (fun j hj => HA.out j hj (by omega))), HB2.out.trans (HBEL.out.mono HB2.out.size)⟩

set_option maxRecDepth 100000 in
set_option maxHeartbeats 1000000 in
theorem s_sound (ns : List Nd) (q : Bool) (hq : Snd ns q) (v : Value) (w : World) (fit : ∀ n ∈ ns, n.fit) (hv : SlAt w w.heap.size v ns) :
    Calls Tryz.prog 5 #[v] w fun e w' => e = .returned (.bool q) ∧ Below w.heap.size w w' := by
  have HV := hide hv
  have HF := hide fit
  have hlm := hv.lenm
  obtain ⟨ao, cap, rfl, hc, hm, hr⟩ := hv
  clear hr fit
  rcases hq with ⟨hrb, rfl⟩ | ⟨hrb, p, hp, hpl, h40, rfl⟩
  · have HRB := hide hrb
    clear hrb
    by_cases h400 : ns.length ≤ 400
    · go_enter Tryz.func5, Tryz.ntmps5
      go_wp2_with (go_at_call 10; refine (s_planRight ns _ _ HF.out HV.out).mono ?_; rintro e w1 ⟨rfl, hb1⟩; rw [HRB.out]; have HB1 := hide hb1; clear hb1)
      go_ret
      exact ⟨rfl, HB1.out⟩
    · go_enter Tryz.func5, Tryz.ntmps5
      go_wp2_with fail
      go_ret
      exact ⟨rfl, Below.refl _ _⟩
  · have HRB := hide hrb
    have h400 : ns.length ≤ 400 := by omega
    have HSO : Hid (∀ W, Below w.heap.size w W → Calls Tryz.prog 11 #[.slice ao ns.length cap] W fun e w' => e = .returned (.bool (sndP p (rolesS ns))) ∧ Below W.heap.size W w') := hide (fun W hw => s_l03Sound ns p hrb hp hpl h40 _ W ((HV.out.carry hw).up hw.size))
    obtain ⟨q, hq⟩ : ∃ q, sndP p (rolesS ns) = q := ⟨_, rfl⟩
    rw [hq] at HSO ⊢
    clear hp hrb hq
    go_enter Tryz.func5, Tryz.ntmps5
    go_wp2_with (first
      | (go_at_call 10; refine (s_planRight ns _ _ HF.out HV.out).mono ?_; rintro e w1 ⟨rfl, hb1⟩; rw [HRB.out]; have HB1 := hide hb1; clear hb1)
      | (go_at_call 11; refine (HSO.out _ HB1.out).mono ?_; rintro e w2 ⟨rfl, hb2⟩; have HB2 := hide hb2; clear hb2))
    go_ret
    exact ⟨rfl, HB1.out.trans (HB2.out.mono HB1.out.size)⟩
end Go.Proofs.YtehodjfgojcnlaaGreat
