/- The law of NetPut, walked. -/
import Derived.Test.YtonafcifolddjaaDoorNetPutS
import Derived.Test.YtonafcifolddjaaDoorToM2
import Derived.Test.YtonafcifolddjaaDoorBoxZ
import Derived.Test.YtonafcifolddjaaDoorOpenMsgR
import Derived.Deep.RegionWith
import Derived.Deep.DeepCutAuto
namespace Go.Proofs.YtonafcifolddjaaDoor
open Go.RowKit

set_option maxRecDepth 100000 in
set_option maxHeartbeats 64000000 in
theorem law_NetPut {E : Errs} (l : List RMsg) (ao : Option Addr) (cap : Nat) (m : RMsg) (w : World) (hok : ∀ n ∈ l, n.ok ∧ n.rng) (hlm : l.length ≤ maxLen) (hrow : l ≠ [] → ∃ b o, ao = some ⟨b, o, none⟩ ∧ b < w.heap.size ∧ RMsgs w b o l) (hmm : m.ok ∧ m.rng) (hsent : SentAt w E) :
    Calls Tryd.prog 3 #[.slice ao l.length cap, m.val] w fun e w' => e = .returned (.bool true) ∧ Below w.heap.size w w' := by
  have HS : Hid (SentAt (w.alloc (.cells #[.string m.frm, .string m.to, .string m.label, .int .i64 m.sort] 24)) E) := hide (hsent.carry (malloc1 _ _))
  have HOK := hide (fun n hn => (hok n hn).1)
  have HROW : Hid (∀ w', Below (w.alloc (.cells #[.string m.frm, .string m.to, .string m.label, .int .i64 m.sort] 24)).heap.size (w.alloc (.cells #[.string m.frm, .string m.to, .string m.label, .int .i64 m.sort] 24)) w' → (l ≠ [] → ∃ b o, ao = some ⟨b, o, none⟩ ∧ b < w'.heap.size ∧ RMsgs w' b o l)) := hide (fun w' hb hne => by
    obtain ⟨b, o, e, h1, h2⟩ := hrow hne
    have hb' := (malloc1 w _).trans (hb.mono (by simp))
    exact ⟨b, o, e, Nat.lt_of_lt_of_le h1 hb'.size, h2.carry h1 hb'⟩)
  have HT : Hid (∀ (w1 w2 : World), Below (w.alloc (.cells #[.string m.frm, .string m.to, .string m.label, .int .i64 m.sort] 24)).heap.size (w.alloc (.cells #[.string m.frm, .string m.to, .string m.label, .int .i64 m.sort] 24)) w1 → Below w1.heap.size w1 w2 → Below (w.alloc (.cells #[.string m.frm, .string m.to, .string m.label, .int .i64 m.sort] 24)).heap.size (w.alloc (.cells #[.string m.frm, .string m.to, .string m.label, .int .i64 m.sort] 24)) w2) := hide (fun w1 w2 h1 h2 => h1.trans (h2.mono h1.size))
  have HMO := hide hmm.1
  have HCM : Hid (∀ W, Below (w.alloc (.cells #[.string m.frm, .string m.to, .string m.label, .int .i64 m.sort] 24)).heap.size (w.alloc (.cells #[.string m.frm, .string m.to, .string m.label, .int .i64 m.sort] 24)) W → W.cell? ⟨w.heap.size, 0, none⟩ = some (.string m.frm) ∧ W.cell? ⟨w.heap.size, 1, none⟩ = some (.string m.to) ∧ W.cell? ⟨w.heap.size, 2, none⟩ = some (.string m.label) ∧ W.cell? ⟨w.heap.size, 3, none⟩ = some (.int .i64 m.sort)) := hide (fun W hb => ⟨(hb.cell (p := ⟨w.heap.size, 0, none⟩) (by simp)).trans (by simp), (hb.cell (p := ⟨w.heap.size, 1, none⟩) (by simp)).trans (by simp), (hb.cell (p := ⟨w.heap.size, 2, none⟩) (by simp)).trans (by simp), (hb.cell (p := ⟨w.heap.size, 3, none⟩) (by simp)).trans (by simp)⟩)
  obtain ⟨L, hLL⟩ : ∃ L, putR l m = L := ⟨_, rfl⟩
  obtain ⟨M, hMM⟩ : ∃ M, noMsg = M := ⟨_, rfl⟩
  obtain ⟨C, hCC⟩ : ∃ C, (putW l m).code = C := ⟨_, rfl⟩
  have HLE0 : Hid (L.length ≤ l.length + 1) := hide (by rw [← hLL]; exact putR_len l m)
  have HLL := hide hLL
  have HMM := hide hMM
  have HCC := hide hCC
  clear hok hrow hsent hLL hMM hCC hmm
  unfold RMsg.val
  go_enter Tryd.func3, Tryd.ntmps3
  go_wp2_with (first
    | (go_at_call 8; refine (sz2_msg m r _ HMO.out (by omega) (by omega)).mono ?_; rintro e w1 ⟨r2, rfl, -, hrf2, hb1'⟩; have HRF2 := hide hrf2; have HW1 := hide (HT.out _ _ HW0.out hb1'); have hlw1 : w.heap.size < w1.heap.size := (by have := HW1.out.size; simp at this; omega); obtain ⟨m0, m1, m2, m3⟩ := HCM.out _ HW1.out; clear hrf2 hb1'; by_cases hneg2 : r2 < 0)
    | (go_at_call 7; refine (sz2_msgs l 1048576 ao cap _ HOK.out hlm (by omega) (by omega) (HROW.out _ (Below.refl _ _))).mono ?_; rintro e w0 ⟨r, rfl, hr1, hrf, hb1⟩; have HRF := hide hrf; have HW0 := hide (HT.out _ _ (Below.refl _ _) hb1); obtain ⟨m0, m1, m2, m3⟩ := HCM.out _ HW0.out; clear hrf hb1; by_cases hneg : r < 0))
  · go_ret
    exact ⟨rfl, (malloc1 _ _).trans (HW0.out.mono (by simp))⟩
  · go_ret
    exact ⟨rfl, (malloc1 _ _).trans (HW1.out.mono (by simp))⟩
  · have HFIT := hide (HRF.out (by omega)).2
    have hlen : l.length ≤ 1048576 := by have := (HRF.out (by omega)).1; omega
    have HMF := hide (HRF2.out (by omega)).2
    have HLEN : Hid (L.length ≤ 1048577) := hide (by have := HLE0.out; omega)
    have HL32 : Hid (L.length ≤ 4294967296) := hide (by have := HLE0.out; omega)
    have HOF := hide (fun m hm => And.intro (HOK.out m hm) (HFIT.out m hm))
    go_cut [6] (fun s6 wx => ∃ b0 p3 c3, s6 = .pointer (some ⟨b0, 0, none⟩) ∧ BoxAt wx b0 (.slice p3 L.length c3) M C ∧ RMsgSl wx wx.heap.size (.slice p3 L.length c3) L ∧ Below (w.alloc (.cells #[.string m.frm, .string m.to, .string m.label, .int .i64 m.sort] 24)).heap.size (w.alloc (.cells #[.string m.frm, .string m.to, .string m.label, .int .i64 m.sort] 24)) wx)
    case first =>
      go_region_with (first
        | (go_at_call 9; refine (s_netPut l m g2 0 l.length _ HOK.out HMO.out (by first | exact HS2m.out | exact (HS2m.out.carry (malloc1 _ _)).up (malloc1 _ _).size)).mono ?_; rw [HLL.out, HMM.out, HCC.out]; rintro e w3 ⟨v3, rfl, ho3, hb3⟩; have HO3 : Hid (RMsgOwn w3 w2m.heap.size v3 L) := hide (by first | exact ho3 | exact ho3.mono (by simp)); have HB3 : Hid (Below w2m.heap.size w2m w3) := hide (by first | exact hb3 | exact (malloc1 _ _).trans (hb3.mono (by simp))); have HW3 := hide (HT.out _ _ HW2m.out HB3.out); (first | (have HN3 := hide (not_early HO3.out HZ2m.out.lt); have HZ3 := hide (HZ2m.out.carry HB3.out); obtain ⟨y0, y1, y2, y3, y4, y5, u0, u1, u2, u3, u4, u5, z0, z1, z2, z3, z4, z5⟩ := HZ3.out.cells) | (have HN3 : Hid (w2m.heap.size ∉ vblocks v3) := hide (not_early ho3 (by simp)); have HZ3 : Hid (ZBox w3 w2m.heap.size) := hide ((zbox_new w2m).carry hb3); obtain ⟨y0, y1, y2, y3, y4, y5, u0, u1, u2, u3, u4, u5, z0, z1, z2, z3, z4, z5⟩ := HZ3.out.cells) | skip); obtain ⟨p3, c3, rfl⟩ := owns_shape HO3.out; clear ho3 hb3; unfold netV)
        | (go_at_call 11; refine (to_msg m _).mono ?_; rintro e w2m ⟨rfl, hb2m⟩; have HB2m : Hid (Below w2.heap.size w2 w2m) := hide (by first | exact hb2m | exact (malloc1 _ _).trans (hb2m.mono (by simp))); have HS2m := hide ((HS2.out.carry HB2m.out).up HB2m.out.size); have HW2m := hide (HT.out _ _ HW2.out HB2m.out); (first | (have HZ2m := hide (HZ2.out.carry HB2m.out)) | (have HZ2m : Hid (ZBox w2m w2.heap.size) := hide ((zbox_new w2).carry hb2m)) | skip); clear hb2m; unfold RMsg.val)
        | (go_at_call 10; refine (msgs_to2 l ao cap _ hlen (HROW.out _ (by first | exact HW1.out.drew | exact HT.out _ _ HW1.out.drew (malloc1 _ _)))).mono ?_; rintro e w2 ⟨v2, rfl, ⟨g2, rfl⟩, hs2, -, hb2⟩; have HS2 := hide hs2; have HBx2 : Hid (Below w1.heap.size w1 w2) := hide (by first | exact (Below.refl _ _).drew.trans hb2 | exact ((Below.refl _ _).drew.trans (malloc1 _ _)).trans (hb2.mono (by simp))); have HW2 := hide (HT.out _ _ HW1.out HBx2.out); have hlw2 : w.heap.size < w2.heap.size := (by have := HW2.out.size; simp at this; omega); obtain ⟨m0, m1, m2, m3⟩ := HCM.out _ HW2.out; (try (have HZ2 : Hid (ZBox w2 w1.heap.size) := hide ((zbox_new w1.drew).carry hb2))); clear hs2 hb2))
      all_goals
        go_wp2_with fail
        go_meet
        first
          | (have hz : ZBox w3 w1.heap.size := HZ3.out; have h := ans_in (b := w1.heap.size) M C (Nat.le_refl _) HO3.out HW3.out hz (HW1.out.size) HN3.out; exact ⟨w1.heap.size, p3, c3, rfl, h.1, h.2.1.sl HL32.out, h.2.2.2⟩)
          | (have hz : ZBox w3 w2.heap.size := HZ3.out; have h := ans_in (b := w2.heap.size) M C (Nat.le_refl _) HO3.out HW3.out hz (HW2.out.size) HN3.out; exact ⟨w2.heap.size, p3, c3, rfl, h.1, h.2.1.sl HL32.out, h.2.2.2⟩)
          | (have hz : ZBox w3 w2m.heap.size := HZ3.out; have h := ans_in (b := w2m.heap.size) M C (Nat.le_refl _) HO3.out HW3.out hz (HW2m.out.size) HN3.out; exact ⟨w2m.heap.size, p3, c3, rfl, h.1, h.2.1.sl HL32.out, h.2.2.2⟩)
          | ((fail_if_success (have := HZ3)); exact ⟨w3.heap.size, p3, c3, rfl, box_new w3 _ M C, (HO3.out.below (malloc1 _ _)).sl HL32.out, HW3.out.trans ((malloc1 _ _).mono HW3.out.size)⟩)
          | fail
    case rest =>
      obtain ⟨b0, p3, c3, rfl, hA3, hS3, hW3⟩ := hcut
      have HA3 := hide hA3
      have HS3 := hide hS3
      have HW3 := hide hW3
      have hb0 := hA3.lt
      generalize wc = w3 at *
      clear hA3 hS3 hW3 m0 m1 m2 m3
      obtain ⟨a0, a1, a2, a3, a4, a5⟩ := HA3.out
      go_wp2_with (first
        | (go_at_call 17; refine (held_netOut 1 L.length M C _ w11 (by omega) (by have := HLEN.out; omega) HMT.out).mono ?_; rintro e w12 ⟨rfl, hb12⟩; have HB12 := hide hb12; have HW12 := hide (HT.out _ _ HW11.out hb12); obtain ⟨g0, g1, g2, g3, g4, g5⟩ := HG11.out.carry hb12; obtain ⟨a0, a1, a2, a3, a4, a5⟩ := HA11.out.carry hb12; have hlw12 : w.heap.size < w12.heap.size := (by have := HW12.out.size; simp at this; omega); obtain ⟨m0, m1, m2, m3⟩ := HCM.out _ HW12.out; clear hb12)
        | (go_at_call 16; refine (out_mark 1 L M C p5 L.length c5 w10 w4.heap.size (by omega) (by have := HLEN.out; omega) (HO10.out.sl HL32.out) HO10.out.fresh).mono ?_; rintro e w11 ⟨rfl, hs11, ha11⟩; have HMT := hide hs11; have HX11 : Hid (Below w3.heap.size w3 w11) := hide (below_markM HX10.out ha11 HO10.out.fresh hl4 (Nat.le_refl _)); have HW11 := hide (below_markM HW10.out ha11 HO10.out.fresh (Nat.le_trans HW3.out.size hl4) (Nat.le_refl _)); have HG11 := hide (HG10.out.keep ha11 HNB.out); have HA11 := hide (HA10.out.keep ha11 (fun h => absurd (HO5.out.fresh.lo _ h) (by omega))); obtain ⟨g0, g1, g2, g3, g4, g5⟩ := HG11.out; obtain ⟨a0, a1, a2, a3, a4, a5⟩ := HA11.out; clear hs11 ha11)
        | (go_at_call 13; refine (eq_netOut L M C _ _ w9 (HO9.out.sl HL32.out) ((HS3.out.carry HX9.out).up HX9.out.size)).mono ?_; rintro e w10 ⟨rfl, hb10⟩; have HO10 := hide (HO9.out.below hb10); have HX10 : Hid (Below w3.heap.size w3 w10) := hide (HX9.out.trans (hb10.mono HX9.out.size)); have HW10 := hide (HT.out _ _ HW9.out hb10); have HG10 := hide (HG9.out.carry hb10); have HA10 := hide (HA9.out.carry hb10); obtain ⟨g0, g1, g2, g3, g4, g5⟩ := HG10.out; obtain ⟨a0, a1, a2, a3, a4, a5⟩ := HA10.out; clear hb10)
        | (go_at_call 15; refine (msgs_mark 1 l _ w8 w3.heap.size (by omega) (by omega) HS8.out HF8.out).mono ?_; rintro e w9 ⟨rfl, -, ha9⟩; have HO9 := hide (HO8.out.keep ha9 HDJ.out.2); have HX9 : Hid (Below w3.heap.size w3 w9) := hide (below_markM HX8.out ha9 HF8.out (Nat.le_refl _) (Nat.le_refl _)); have HW9 := hide (below_markM HW8.out ha9 HF8.out HW3.out.size (Nat.le_refl _)); have HG9 := hide (HG8.out.keep ha9 (fun h => absurd (HF4.out.hi _ h) (by omega))); have HA9 := hide (HA8.out.keep ha9 (fun h => absurd (HF4.out.lo _ h) (by omega))); obtain ⟨g0, g1, g2, g3, g4, g5⟩ := HG9.out; obtain ⟨a0, a1, a2, a3, a4, a5⟩ := HA9.out; clear ha9)
        | (go_at_call 14; refine (eq_msgs l _ _ w7 ((HS6.out.carry HB7.out).up HB7.out.size) HS7.out).mono ?_; rintro e w8 ⟨rfl, hb8⟩; have HB8 : Hid (Below w6.heap.size w6 w8) := hide (HB7.out.trans (hb8.mono HB7.out.size)); have HS8 := hide ((HS6.out.carry HB8.out).up HB8.out.size); have HF8 := hide (HF6.out.keep (below_apart HB8.out) (fun _ _ => by simp)); have HO8 := hide (HO6.out.below HB8.out); have HX8 := hide (HX6.out.trans (HB8.out.mono HX6.out.size)); have HW8 := hide (HT.out _ _ HW7.out hb8); have HG8 := hide (HG6.out.carry HB8.out); have HA8 := hide (HA6.out.carry HB8.out); obtain ⟨g0, g1, g2, g3, g4, g5⟩ := HG8.out; obtain ⟨a0, a1, a2, a3, a4, a5⟩ := HA8.out; clear hb8)
        | (go_at_call 10; refine (msgs_to l ao cap w6 hlen (HROW.out _ HW6.out)).mono ?_; rintro e w7 ⟨v7, rfl, hs7, -, hb7⟩; have HS7 := hide hs7; obtain ⟨p7, c7, rfl⟩ := hs7.shape; have HB7 := hide hb7; have HW7 := hide (HT.out _ _ HW6.out hb7); obtain ⟨g0, g1, g2, g3, g4, g5⟩ := HG6.out.carry hb7; obtain ⟨a0, a1, a2, a3, a4, a5⟩ := HA6.out.carry hb7; clear hb7)
        | (go_at_call 13; refine (eq_netOut L M C _ _ (w5.alloc (.cells #[.slice p5 L.length c5, .string M.frm, .string M.to, .string M.label, .int .i64 M.sort, .int .i64 C] 30)) ((HO5.out.below (malloc1 _ _)).sl HL32.out) ((HS3.out.carry HX5.out).up HX5.out.size)).mono ?_; rintro e w6 ⟨rfl, hb6⟩; have HB46 : Hid (Below w4.heap.size w4 w6) := hide (HB45.out.trans (hb6.mono HB45.out.size)); have HS6 := hide ((HS4.out.carry HB46.out).up HB46.out.size); have HF6 := hide (HF4.out.keep (below_apart HB46.out) (fun _ _ => by simp)); have HO6 := hide ((HO5.out.below (malloc1 _ _)).below hb6); have HX6 : Hid (Below w3.heap.size w3 w6) := hide (HX5.out.trans (hb6.mono HX5.out.size)); have HW6 := hide (HT.out _ _ HW5.out hb6); have HG6 := hide (HG5.out.carry hb6); have HA6 := hide (HA4.out.carry HB46.out); obtain ⟨g0, g1, g2, g3, g4, g5⟩ := HG6.out; obtain ⟨a0, a1, a2, a3, a4, a5⟩ := HA6.out; clear hb6)
        | (go_at_call 12; refine (i_netPut (E := E) l m g4 0 l.length _ HOF.out ⟨HMO.out, HMF.out⟩ HS4m.out (HS.out.carry HW4m.out)).mono ?_; rw [HLL.out, HMM.out, HCC.out]; rintro e w5 ⟨v5, rfl, ho5, hb5⟩; have HO5 := hide (ho5.mono HB4m.out.size); obtain ⟨p5, c5, rfl⟩ := owns_shape ho5; have HNB := hide (not_late ho5 (Nat.le_refl _)); have hl5 : w4.heap.size ≤ w5.heap.size := Nat.le_trans HB4m.out.size hb5.size; have HB45 : Hid (Below w4.heap.size w4 (w5.alloc (.cells #[.slice p5 L.length c5, .string M.frm, .string M.to, .string M.label, .int .i64 M.sort, .int .i64 C] 30))) := hide ((HB4m.out.trans (hb5.mono HB4m.out.size)).trans ((malloc1 _ _).mono hl5)); have HX5 := hide (HX4.out.trans (HB45.out.mono HX4.out.size)); have HW5 := hide (HT.out _ _ HW4.out HB45.out); have HG5 := hide (box_new w5 (.slice p5 L.length c5) M C); have HDJ := hide (HF4.out.disj HO5.out.fresh (Nat.le_refl _)); obtain ⟨g0, g1, g2, g3, g4, g5⟩ := HG5.out; obtain ⟨a0, a1, a2, a3, a4, a5⟩ := HA4.out.carry HB45.out; clear ho5 hb5; unfold netV)
        | (go_at_call 11; refine (to_msg m _).mono ?_; rintro e w4m ⟨rfl, hb4m⟩; have HB4m := hide hb4m; have HS4m := hide ((HS4.out.carry hb4m).up hb4m.size); have HW4m := hide (HT.out _ _ HW4.out hb4m); clear hb4m; unfold RMsg.val)
        | (go_at_call 10; refine (msgs_to2 l ao cap w3 hlen (HROW.out _ HW3.out)).mono ?_; rintro e w4 ⟨v4, rfl, ⟨g4, rfl⟩, hs4, hf4, hb4⟩; have HS4 := hide hs4; have HF4 := hide hf4; have hl4 : w3.heap.size ≤ w4.heap.size := hb4.size; have HX4 := hide hb4; have HW4 := hide (HT.out _ _ HW3.out hb4); have HA4 := hide (HA3.out.carry hb4); obtain ⟨a0, a1, a2, a3, a4, a5⟩ := HA4.out; have hlw4 : w.heap.size < w4.heap.size := (by have := HW4.out.size; simp at this; omega); obtain ⟨m0, m1, m2, m3⟩ := HCM.out _ HW4.out; clear hs4 hf4 hb4))
      go_cut [12] (fun s12 wx => ∃ bh p14 c14, s12 = .pointer (some ⟨bh, 0, none⟩) ∧ BoxAt wx bh (.slice p14 L.length c14) M C ∧ RMsgSl wx wx.heap.size (.slice p14 L.length c14) L ∧ Below w11.heap.size w11 wx)
      case first =>
          go_region_with (first
            | (go_at_call 12; refine (i_netPut (E := E) l m g13 0 l.length _ HOF.out ⟨HMO.out, HMF.out⟩ (by first | exact HS13m.out | exact (HS13m.out.carry (malloc1 _ _)).up (malloc1 _ _).size) (by first | exact HS.out.carry HW13m.out | exact (HS.out.carry HW13m.out).carry (malloc1 _ _))).mono ?_; rw [HLL.out, HMM.out, HCC.out]; rintro e w14 ⟨v14, rfl, ho14, hb14⟩; have HO14 : Hid (RMsgOwn w14 w13m.heap.size v14 L) := hide (by first | exact ho14 | exact ho14.mono (by simp)); have HB14 : Hid (Below w13m.heap.size w13m w14) := hide (by first | exact hb14 | exact (malloc1 _ _).trans (hb14.mono (by simp))); have HW14 := hide (HT.out _ _ HW13m.out HB14.out); (first | (have HN14 := hide (not_early HO14.out HZ13m.out.lt); have HZ14 := hide (HZ13m.out.carry HB14.out); obtain ⟨y0, y1, y2, y3, y4, y5, u0, u1, u2, u3, u4, u5, z0, z1, z2, z3, z4, z5⟩ := HZ14.out.cells) | (have HN14 : Hid (w13m.heap.size ∉ vblocks v14) := hide (not_early ho14 (by simp)); have HZ14 : Hid (ZBox w14 w13m.heap.size) := hide ((zbox_new w13m).carry hb14); obtain ⟨y0, y1, y2, y3, y4, y5, u0, u1, u2, u3, u4, u5, z0, z1, z2, z3, z4, z5⟩ := HZ14.out.cells) | skip); obtain ⟨p14, c14, rfl⟩ := owns_shape HO14.out; clear ho14 hb14; unfold netV)
            | (go_at_call 11; refine (to_msg m _).mono ?_; rintro e w13m ⟨rfl, hb13m⟩; have HB13m : Hid (Below w13.heap.size w13 w13m) := hide (by first | exact hb13m | exact (malloc1 _ _).trans (hb13m.mono (by simp))); have HS13m := hide ((HS13.out.carry HB13m.out).up HB13m.out.size); have HW13m := hide (HT.out _ _ HW13.out HB13m.out); (first | (have HZ13m := hide (HZ13.out.carry HB13m.out)) | (have HZ13m : Hid (ZBox w13m w13.heap.size) := hide ((zbox_new w13).carry hb13m)) | skip); clear hb13m; unfold RMsg.val)
            | (go_at_call 10; refine (msgs_to2 l ao cap _ hlen (HROW.out _ (by first | exact HW12.out.drew | exact HT.out _ _ HW12.out.drew (malloc1 _ _)))).mono ?_; rintro e w13 ⟨v13, rfl, ⟨g13, rfl⟩, hs13, -, hb13⟩; have HS13 := hide hs13; have HBx13 : Hid (Below w12.heap.size w12 w13) := hide (by first | exact (Below.refl _ _).drew.trans hb13 | exact ((Below.refl _ _).drew.trans (malloc1 _ _)).trans (hb13.mono (by simp))); have HW13 := hide (HT.out _ _ HW12.out HBx13.out); have hlw13 : w.heap.size < w13.heap.size := (by have := HW13.out.size; simp at this; omega); obtain ⟨m0, m1, m2, m3⟩ := HCM.out _ HW13.out; (try (have HZ13 : Hid (ZBox w13 w12.heap.size) := hide ((zbox_new w12.drew).carry hb13))); clear hs13 hb13))
          all_goals
            go_wp2_with fail
            go_meet
            first
          | (have hz : ZBox w14 w12.heap.size := HZ14.out; have h := ans_in (b := w12.heap.size) M C (Nat.le_refl _) HO14.out (((HB12.out.trans (HBx13.out.mono HB12.out.size)).trans (HB13m.out.mono (HB12.out.trans (HBx13.out.mono HB12.out.size)).size)).trans (HB14.out.mono ((HB12.out.trans (HBx13.out.mono HB12.out.size)).trans (HB13m.out.mono (HB12.out.trans (HBx13.out.mono HB12.out.size)).size)).size)) hz (HB12.out.size) HN14.out; exact ⟨w12.heap.size, p14, c14, rfl, h.1, h.2.1.sl HL32.out, h.2.2.2⟩)
          | (have hz : ZBox w14 w13.heap.size := HZ14.out; have h := ans_in (b := w13.heap.size) M C (Nat.le_refl _) HO14.out (((HB12.out.trans (HBx13.out.mono HB12.out.size)).trans (HB13m.out.mono (HB12.out.trans (HBx13.out.mono HB12.out.size)).size)).trans (HB14.out.mono ((HB12.out.trans (HBx13.out.mono HB12.out.size)).trans (HB13m.out.mono (HB12.out.trans (HBx13.out.mono HB12.out.size)).size)).size)) hz ((HB12.out.trans (HBx13.out.mono HB12.out.size)).size) HN14.out; exact ⟨w13.heap.size, p14, c14, rfl, h.1, h.2.1.sl HL32.out, h.2.2.2⟩)
          | (have hz : ZBox w14 w13m.heap.size := HZ14.out; have h := ans_in (b := w13m.heap.size) M C (Nat.le_refl _) HO14.out (((HB12.out.trans (HBx13.out.mono HB12.out.size)).trans (HB13m.out.mono (HB12.out.trans (HBx13.out.mono HB12.out.size)).size)).trans (HB14.out.mono ((HB12.out.trans (HBx13.out.mono HB12.out.size)).trans (HB13m.out.mono (HB12.out.trans (HBx13.out.mono HB12.out.size)).size)).size)) hz (((HB12.out.trans (HBx13.out.mono HB12.out.size)).trans (HB13m.out.mono (HB12.out.trans (HBx13.out.mono HB12.out.size)).size)).size) HN14.out; exact ⟨w13m.heap.size, p14, c14, rfl, h.1, h.2.1.sl HL32.out, h.2.2.2⟩)
          | ((fail_if_success (have := HZ14)); exact ⟨w14.heap.size, p14, c14, rfl, box_new w14 _ M C, (HO14.out.below (malloc1 _ _)).sl HL32.out, (((HB12.out.trans (HBx13.out.mono HB12.out.size)).trans (HB13m.out.mono (HB12.out.trans (HBx13.out.mono HB12.out.size)).size)).trans (HB14.out.mono ((HB12.out.trans (HBx13.out.mono HB12.out.size)).trans (HB13m.out.mono (HB12.out.trans (HBx13.out.mono HB12.out.size)).size)).size)).trans ((malloc1 _ _).mono (((HB12.out.trans (HBx13.out.mono HB12.out.size)).trans (HB13m.out.mono (HB12.out.trans (HBx13.out.mono HB12.out.size)).size)).trans (HB14.out.mono ((HB12.out.trans (HBx13.out.mono HB12.out.size)).trans (HB13m.out.mono (HB12.out.trans (HBx13.out.mono HB12.out.size)).size)).size)).size)⟩)
          | fail
      case rest =>
          obtain ⟨bh, p14, c14, rfl, hH, hS14, hB14⟩ := hcut
          have HS14 := hide hS14
          have HB14 := hide hB14
          generalize wc = w14 at *
          have HX14 : Hid (Below w3.heap.size w3 w14) := hide (HX11.out.trans (HB14.out.mono HX11.out.size))
          have HW14 := hide (HT.out _ _ HW11.out HB14.out)
          clear m0 m1 m2 m3 g0 g1 g2 g3 g4 g5 a0 a1 a2 a3 a4 a5
          obtain ⟨h0, h1, h2, h3, h4, h5⟩ := hH
          obtain ⟨a0, a1, a2, a3, a4, a5⟩ := HA11.out.carry HB14.out
          obtain ⟨g0, g1, g2, g3, g4, g5⟩ := HG11.out.carry HB14.out
          clear hS14 hB14
          go_wp2_with (first
            | (go_at_call 17; refine (held_netOut 1 L.length M C _ w15 (by omega) (by have := HLEN.out; omega) ((HMT.out.carry HB16.out).up HB16.out.size)).mono ?_; rintro e w16 ⟨rfl, hb16⟩; have HW16 := hide (HT.out _ _ HW15.out hb16); clear hb16)
            | (go_at_call 13; refine (eq_netOut L M C _ _ w14 HS14.out ((HS3.out.carry HX14.out).up HX14.out.size)).mono ?_; rintro e w15 ⟨rfl, hb15⟩; have HW15 := hide (HT.out _ _ HW14.out hb15); have HB16 : Hid (Below w11.heap.size w11 w15) := hide (HB14.out.trans (hb15.mono HB14.out.size)); obtain ⟨p0, p1, p2, p3, p4, p5⟩ := (HG11.out.carry HB16.out); clear hb15))
          go_ret
          exact ⟨rfl, (malloc1 _ _).trans (HW16.out.mono (by simp))⟩
end Go.Proofs.YtonafcifolddjaaDoor
