/- The law of NetTake, walked. -/
import Derived.Test.YtonafcifolddjaaDoorTakeT
import Derived.Test.YtonafcifolddjaaDoorOutM
import Derived.Test.YtonafcifolddjaaDoorOpenMsgR
import Derived.Test.YtonafcifolddjaaDoorBoxM
import Derived.Deep.RegionWith
namespace Go.Proofs.YtonafcifolddjaaDoor
open Go.RowKit

set_option maxRecDepth 100000 in
set_option maxHeartbeats 8000000 in
theorem law_NetTake {E : Errs} (l : List RMsg) (ao : Option Addr) (cap : Nat) (f t : ByteArray) (w : World) (hok : ∀ n ∈ l, n.ok ∧ n.rng) (hlm : l.length ≤ maxLen) (hrow : l ≠ [] → ∃ b o, ao = some ⟨b, o, none⟩ ∧ b < w.heap.size ∧ RMsgs w b o l) (hf : f.size ≤ maxLen) (ht : t.size ≤ maxLen) (hsent : SentAt w E) :
    Calls Tryd.prog 5 #[.slice ao l.length cap, .string f, .string t] w fun e w' => e = .returned (.bool true) ∧ Below w.heap.size w w' := by
  have HS := hide hsent
  have HOK := hide (fun n hn => (hok n hn).1)
  have HROW : Hid (∀ w', Below w.heap.size w w' → (l ≠ [] → ∃ b o, ao = some ⟨b, o, none⟩ ∧ b < w'.heap.size ∧ RMsgs w' b o l)) := hide (fun w' hb hne => by
    obtain ⟨b, o, e, h1, h2⟩ := hrow hne
    exact ⟨b, o, e, Nat.lt_of_lt_of_le h1 hb.size, h2.carry h1 hb⟩)
  have HT : Hid (∀ (w1 w2 : World), Below w.heap.size w w1 → Below w1.heap.size w1 w2 → Below w.heap.size w w2) := hide (fun w1 w2 h1 h2 => h1.trans (h2.mono h1.size))
  have HF := hide hf
  have HTT := hide ht
  unfold maxLen at hf ht
  obtain ⟨L, hLL⟩ : ∃ L, pickL true l f t = L := ⟨_, rfl⟩
  obtain ⟨M, hMM⟩ : ∃ M, pickM l f t = M := ⟨_, rfl⟩
  obtain ⟨C, hCC⟩ : ∃ C, (findW l f t).code = C := ⟨_, rfl⟩
  have HLE0 : Hid (L.length ≤ l.length + 1) := hide (by rw [← hLL]; exact Nat.le_succ_of_le (pickL_len true l f t))
  have HLL := hide hLL
  have HMM := hide hMM
  have HCC := hide hCC
  clear hok hrow hsent hLL hMM hCC
  by_cases h20 : 1048576 < f.size
  · go_enter Tryd.func5, Tryd.ntmps5
    go_wp2_with fail
    go_ret
    exact ⟨rfl, Below.refl _ _⟩
  by_cases h21 : 1048576 < t.size
  · go_enter Tryd.func5, Tryd.ntmps5
    go_wp2_with fail
    go_ret
    exact ⟨rfl, Below.refl _ _⟩
  go_enter Tryd.func5, Tryd.ntmps5
  go_wp2_with (go_at_call 7; refine (sz_msgs l 1048576 ao cap _ HOK.out hlm (by omega) (by omega) (HROW.out _ (Below.refl _ _))).mono ?_; rintro e w1 ⟨r, rfl, -, hrf, hb1⟩; have HRF := hide hrf; have HW1 := hide (HT.out _ _ (Below.refl _ _) hb1); clear hrf hb1; by_cases hneg : r < 0)
  · go_ret
    exact ⟨rfl, HW1.out⟩
  · have HFIT := hide (HRF.out (by omega)).2
    have hlen := (HRF.out (by omega)).1
    have HLEN : Hid (L.length ≤ 1048577) := hide (by have := HLE0.out; omega)
    have HL32 : Hid (L.length ≤ 4294967296) := hide (by have := HLE0.out; omega)
    have HOF := hide (fun m hm => And.intro (HOK.out m hm) (HFIT.out m hm))
    go_wp2_with (first
      | (go_at_call 17; refine (held_netOut 1 L.length M C _ _ (by omega) (by have := HLEN.out; omega) ((HMT.out.carry HB16.out).up HB16.out.size)).mono ?_; rintro e w16 ⟨rfl, hb16⟩; have HW16 := hide (HT.out _ _ HW15.out hb16); clear hb16)
      | (go_at_call 13; refine (eq_netOut L M C _ _ _ ((HO14.out.below (malloc1 _ _)).sl HL32.out) ((HS3.out.carry HX14b.out).up HX14b.out.size)).mono ?_; rintro e w15 ⟨rfl, hb15⟩; have HW15 := hide (HT.out _ _ HW14b.out hb15); have HB16 : Hid (Below w11.heap.size w11 w15) := hide (HB14b.out.trans (hb15.mono HB14b.out.size)); obtain ⟨p0, p1, p2, p3, p4, p5⟩ := (HG11.out.carry HB16.out); clear hb15)
      | (go_at_call 21; refine (i_take (E := E) f t l _ _ HF.out HTT.out HOF.out HS13.out (HS.out.carry HW13.out)).mono ?_; rw [HLL.out, HMM.out, HCC.out]; rintro e w14 ⟨v14, rfl, ho14, hb14⟩; have HO14 := hide ho14; obtain ⟨p14, c14, rfl⟩ := owns_shape ho14; have HB14b : Hid (Below w11.heap.size w11 (w14.alloc (.cells #[(.slice p14 L.length c14), .string M.frm, .string M.to, .string M.label, .int .i64 M.sort, .int .i64 C] 30))) := hide ((HB13.out.trans (hb14.mono HB13.out.size)).trans ((malloc1 _ _).mono (by have := HB13.out.size; have := hb14.size; omega))); have HX14b := hide (HX11.out.trans (HB14b.out.mono HX11.out.size)); have HW14b := hide (HT.out _ _ (HT.out _ _ HW13.out hb14) (malloc1 w14 (.cells #[(.slice p14 L.length c14), .string M.frm, .string M.to, .string M.label, .int .i64 M.sort, .int .i64 C] 30))); have HBX := hide (box_new w14 (.slice p14 L.length c14) M C); obtain ⟨a0, a1, a2, a3, a4, a5⟩ := HA11.out.carry HB14b.out; obtain ⟨h0, h1, h2, h3, h4, h5⟩ := HBX.out; clear hb14 ho14; unfold netV)
      | (go_at_call 10; refine (msgs_to l ao cap w12 hlen (HROW.out _ HW12.out)).mono ?_; rintro e w13 ⟨v13, rfl, hs13, -, hb13⟩; have HS13 := hide hs13; obtain ⟨p13, c13, rfl⟩ := hs13.shape; have HB13 : Hid (Below w11.heap.size w11 w13) := hide (HB12.out.trans (hb13.mono HB12.out.size)); have HW13 := hide (HT.out _ _ HW12.out hb13); clear hb13)
      | (go_at_call 17; refine (held_netOut 1 L.length M C _ w11 (by omega) (by have := HLEN.out; omega) HMT.out).mono ?_; rintro e w12 ⟨rfl, hb12⟩; have HB12 := hide hb12; have HW12 := hide (HT.out _ _ HW11.out hb12); obtain ⟨g0, g1, g2, g3, g4, g5⟩ := HG11.out.carry hb12; obtain ⟨a0, a1, a2, a3, a4, a5⟩ := HA11.out.carry hb12; clear hb12)
      | (go_at_call 16; refine (out_mark 1 L M C p5 L.length c5 w10 w4.heap.size (by omega) (by have := HLEN.out; omega) (HO10.out.sl HL32.out) HO10.out.fresh).mono ?_; rintro e w11 ⟨rfl, hs11, ha11⟩; have HMT := hide hs11; have HX11 : Hid (Below w3.heap.size w3 w11) := hide (below_markM HX10.out ha11 HO10.out.fresh (Nat.le_trans (Nat.le_of_lt hl3) hl4) (Nat.le_refl _)); have HW11 := hide (below_markM HW10.out ha11 HO10.out.fresh (Nat.le_trans HW3.out.size (Nat.le_trans (Nat.le_of_lt hl3) hl4)) (Nat.le_refl _)); have HG11 := hide (HG10.out.keep ha11 (fun h => absurd (HO5.out.fresh.hi _ h) (by omega))); have HA11 := hide (HA10.out.keep ha11 (fun h => absurd (HO5.out.fresh.lo _ h) (by omega))); obtain ⟨g0, g1, g2, g3, g4, g5⟩ := HG11.out; obtain ⟨a0, a1, a2, a3, a4, a5⟩ := HA11.out; clear hs11 ha11)
      | (go_at_call 13; refine (eq_netOut L M C _ _ w9 (HO9.out.sl HL32.out) ((HS3.out.carry HX9.out).up HX9.out.size)).mono ?_; rintro e w10 ⟨rfl, hb10⟩; have HO10 := hide (HO9.out.below hb10); have HX10 : Hid (Below w3.heap.size w3 w10) := hide (HX9.out.trans (hb10.mono HX9.out.size)); have HW10 := hide (HT.out _ _ HW9.out hb10); have HG10 := hide (HG9.out.carry hb10); have HA10 := hide (HA9.out.carry hb10); obtain ⟨g0, g1, g2, g3, g4, g5⟩ := HG10.out; obtain ⟨a0, a1, a2, a3, a4, a5⟩ := HA10.out; clear hb10)
      | (go_at_call 15; refine (msgs_mark 1 l _ w8 (w3.heap.size + 1) (by omega) (by omega) HS8.out HF8.out).mono ?_; rintro e w9 ⟨rfl, -, ha9⟩; have HO9 := hide (HO8.out.keep ha9 HDJ.out.2); have HX9 : Hid (Below w3.heap.size w3 w9) := hide (below_markM HX8.out ha9 HF8.out (by omega) (Nat.le_refl _)); have HW9 := hide (below_markM HW8.out ha9 HF8.out (Nat.le_trans HW3.out.size (by omega)) (Nat.le_refl _)); have HG9 := hide (HG8.out.keep ha9 (fun h => absurd (HF4.out.hi _ h) (by omega))); have HA9 := hide (HA8.out.keep ha9 (fun h => absurd (HF4.out.lo _ h) (by omega))); obtain ⟨g0, g1, g2, g3, g4, g5⟩ := HG9.out; obtain ⟨a0, a1, a2, a3, a4, a5⟩ := HA9.out; clear ha9)
      | (go_at_call 14; refine (eq_msgs l _ _ w7 ((HS6.out.carry HB7.out).up HB7.out.size) HS7.out).mono ?_; rintro e w8 ⟨rfl, hb8⟩; have HB8 : Hid (Below w6.heap.size w6 w8) := hide (HB7.out.trans (hb8.mono HB7.out.size)); have HS8 := hide ((HS6.out.carry HB8.out).up HB8.out.size); have HF8 := hide (HF6.out.keep (below_apart HB8.out) (fun _ _ => by simp)); have HO8 := hide (HO6.out.below HB8.out); have HX8 := hide (HX6.out.trans (HB8.out.mono HX6.out.size)); have HW8 := hide (HT.out _ _ HW7.out hb8); have HG8 := hide (HG6.out.carry HB8.out); have HA8 := hide (HA6.out.carry HB8.out); obtain ⟨g0, g1, g2, g3, g4, g5⟩ := HG8.out; obtain ⟨a0, a1, a2, a3, a4, a5⟩ := HA8.out; clear hb8)
      | (go_at_call 10; refine (msgs_to l ao cap w6 hlen (HROW.out _ HW6.out)).mono ?_; rintro e w7 ⟨v7, rfl, hs7, -, hb7⟩; have HS7 := hide hs7; obtain ⟨p7, c7, rfl⟩ := hs7.shape; have HB7 := hide hb7; have HW7 := hide (HT.out _ _ HW6.out hb7); obtain ⟨g0, g1, g2, g3, g4, g5⟩ := HG6.out.carry hb7; obtain ⟨a0, a1, a2, a3, a4, a5⟩ := HA6.out.carry hb7; clear hb7)
      | (go_at_call 13; refine (eq_netOut L M C _ _ (w5.alloc (.cells #[(.slice p5 L.length c5), .string M.frm, .string M.to, .string M.label, .int .i64 M.sort, .int .i64 C] 30)) ((HO5.out.below (malloc1 _ _)).sl HL32.out) ((HS3.out.carry HX5b.out).up HX5b.out.size)).mono ?_; rintro e w6 ⟨rfl, hb6⟩; have HB6 : Hid (Below w5.heap.size w5 w6) := hide ((malloc1 _ _).trans (hb6.mono (by simp))); have HB46 : Hid (Below w4.heap.size w4 w6) := hide (HB45.out.trans (HB6.out.mono HB45.out.size)); have HS6 := hide ((HS4.out.carry HB46.out).up HB46.out.size); have HF6 := hide (HF4.out.keep (below_apart HB46.out) (fun _ _ => by simp)); have HO6 := hide (HO5.out.below HB6.out); have HX6 : Hid (Below w3.heap.size w3 w6) := hide (HX5b.out.trans (hb6.mono HX5b.out.size)); have HW6 := hide (HT.out _ _ HW5b.out hb6); have HG6 := hide (HG5.out.carry hb6); have HA6 := hide (HA4.out.carry HB46.out); obtain ⟨g0, g1, g2, g3, g4, g5⟩ := HG6.out; obtain ⟨a0, a1, a2, a3, a4, a5⟩ := HA6.out; clear hb6)
      | (go_at_call 21; refine (i_take (E := E) f t l _ _ HF.out HTT.out HOF.out HS4.out (HS.out.carry HW4.out)).mono ?_; rw [HLL.out, HMM.out, HCC.out]; rintro e w5 ⟨v5, rfl, ho5, hb5⟩; have HO5 := hide ho5; obtain ⟨p5, c5, rfl⟩ := owns_shape ho5; have HB45 := hide hb5; have hl45 := hb5.size; have HX5b : Hid (Below w3.heap.size w3 (w5.alloc (.cells #[(.slice p5 L.length c5), .string M.frm, .string M.to, .string M.label, .int .i64 M.sort, .int .i64 C] 30))) := hide ((HX4.out.trans (hb5.mono HX4.out.size)).trans ((malloc1 _ _).mono (by omega))); have HW5b := hide (HT.out _ _ (HT.out _ _ HW4.out hb5) (malloc1 w5 (.cells #[(.slice p5 L.length c5), .string M.frm, .string M.to, .string M.label, .int .i64 M.sort, .int .i64 C] 30))); have HG5 := hide (box_new w5 (.slice p5 L.length c5) M C); have HDJ := hide (HF4.out.disj ho5.fresh (Nat.le_refl _)); obtain ⟨g0, g1, g2, g3, g4, g5⟩ := HG5.out; obtain ⟨a0, a1, a2, a3, a4, a5⟩ := (HA4.out.carry hb5).carry (malloc1 _ (.cells #[(.slice p5 L.length c5), .string M.frm, .string M.to, .string M.label, .int .i64 M.sort, .int .i64 C] 30)); clear hb5 ho5; unfold netV)
      | (go_at_call 10; refine (msgs_to l ao cap (w3.alloc (.cells #[(.slice p3 L.length c3), .string M.frm, .string M.to, .string M.label, .int .i64 M.sort, .int .i64 C] 30)) hlen (HROW.out _ HW3b.out)).mono ?_; rintro e w4 ⟨v4, rfl, hs4, hf4, hb4⟩; have HS4 := hide hs4; obtain ⟨p4, c4, rfl⟩ := hs4.shape; have HF4 : Hid (Fresh (w3.heap.size + 1) w4 (.slice p4 l.length c4)) := hide (by have := hf4; simpa using this); have hl3 : w3.heap.size < w3.heap.size + 1 := Nat.lt_succ_self _; have hl4 : w3.heap.size + 1 ≤ w4.heap.size := (by have := hb4.size; simpa using this); have HX4 : Hid (Below w3.heap.size w3 w4) := hide ((malloc1 _ _).trans (hb4.mono (by simp))); have HW4 := hide (HT.out _ _ HW3b.out hb4); have HA4 := hide (HA3.out.carry hb4); obtain ⟨a0, a1, a2, a3, a4, a5⟩ := HA4.out; clear hb4 hf4)
      | (go_at_call 20; refine (s_take f t l _ _ HF.out HTT.out HOK.out HS2.out).mono ?_; rw [HLL.out, HMM.out, HCC.out]; rintro e w3 ⟨v3, rfl, ho3, hb3⟩; have HS3 := hide (ho3.sl HL32.out); obtain ⟨p3, c3, rfl⟩ := owns_shape ho3; have HW3 := hide (HT.out _ _ HW2.out hb3); have HW3b := hide (HT.out _ _ HW3.out (malloc1 w3 (.cells #[(.slice p3 L.length c3), .string M.frm, .string M.to, .string M.label, .int .i64 M.sort, .int .i64 C] 30))); have HA3 := hide (box_new w3 (.slice p3 L.length c3) M C); obtain ⟨a0, a1, a2, a3, a4, a5⟩ := HA3.out; clear hb3 ho3; unfold netV)
      | (go_at_call 10; refine (msgs_to l ao cap w1 hlen (HROW.out _ HW1.out)).mono ?_; rintro e w2 ⟨v2, rfl, hs2, -, hb2⟩; have HS2 := hide hs2; obtain ⟨p2, c2, rfl⟩ := hs2.shape; have HW2 := hide (HT.out _ _ HW1.out hb2); clear hb2))
    go_ret
    exact ⟨rfl, HW16.out⟩
end Go.Proofs.YtonafcifolddjaaDoor
