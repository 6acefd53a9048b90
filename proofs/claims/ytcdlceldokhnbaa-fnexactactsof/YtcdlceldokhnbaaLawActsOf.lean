/- The law of ActsOf, walked. -/
import Derived.Test.YtcdlceldokhnbaaActsJ
import Derived.Test.YtcdlceldokhnbaaOpenMach
import Derived.Deep.RegionWith
namespace Go.Proofs.Ytcdlceldokhnbaa
open Go.RowKit

theorem below_mark {B : Nat} {w0 w1 w2 : World} {v : Value} {lo : Nat} (h1 : Below B w0 w1) (ha : Apart w1 w2 (vblocks v)) (hf : Fresh lo w1 v) (hl : B ≤ lo) (hB : B ≤ w0.heap.size) : Below B w0 w2 :=
  h1.trans (ha.below (Nat.le_trans hB h1.size) (fun b hb => Nat.le_trans hl (hf.lo b hb)))

set_option maxRecDepth 100000 in
set_option maxHeartbeats 4000000 in
theorem law_ActsOf (m : Mach) (sa : Option Addr) (sc : Nat) (ea : Option Addr) (ec : Nat) (s : Int) (w : World) (h : MachArg w sa sc ea ec m) (_hsr : -9223372036854775808 ≤ s ∧ s ≤ 9223372036854775807) :
    Calls Try.prog 6 #[machV sa sc ea ec m, .int .i64 s] w fun e w' => e = .returned (.bool true) ∧ Below w.heap.size w w' := by
  have HC : Hid (∀ w', Below (w.heap.size + 1) (w.alloc (.cells #[.slice sa m.states.length sc, .slice ea m.edges.length ec, .int .i64 m.start] 37)) w' → w'.cell? ⟨w.heap.size, 0, none⟩ = some (.slice sa m.states.length sc) ∧ w'.cell? ⟨w.heap.size, 1, none⟩ = some (.slice ea m.edges.length ec) ∧ w'.cell? ⟨w.heap.size, 2, none⟩ = some (.int .i64 m.start) ∧ Below w.heap.size w w' ∧ w.heap.size + 1 ≤ w'.heap.size) := hide (fun w' hb => ⟨(hb.cell (p := ⟨w.heap.size, 0, none⟩) (by simp)).trans (by simp), (hb.cell (p := ⟨w.heap.size, 1, none⟩) (by simp)).trans (by simp), (hb.cell (p := ⟨w.heap.size, 2, none⟩) (by simp)).trans (by simp), (malloc1 _ _).trans (hb.mono (by omega)), by have := hb.size; simpa using this⟩)
  have H : Hid (∀ w', Below (w.heap.size + 1) (w.alloc (.cells #[.slice sa m.states.length sc, .slice ea m.edges.length ec, .int .i64 m.start] 37)) w' → MachArg w' sa sc ea ec m) := hide (fun w' hb => h.carry (HC.out w' hb).2.2.2.1)
  have HL : Hid (∀ (w1 w2 : World), Below (w.heap.size + 1) (w.alloc (.cells #[.slice sa m.states.length sc, .slice ea m.edges.length ec, .int .i64 m.start] 37)) w1 → Below w1.heap.size w1 w2 → Below (w.heap.size + 1) (w.alloc (.cells #[.slice sa m.states.length sc, .slice ea m.edges.length ec, .int .i64 m.start] 37)) w2) := hide (fun w1 w2 h1 h2 => h1.trans (h2.mono (by have := h1.size; simpa using this)))
  have HM : Hid (∀ (w1 w2 : World) (v : Value) (lo : Nat), Below (w.heap.size + 1) (w.alloc (.cells #[.slice sa m.states.length sc, .slice ea m.edges.length ec, .int .i64 m.start] 37)) w1 → Apart w1 w2 (vblocks v) → Fresh lo w1 v → w.heap.size + 1 ≤ lo → Below (w.heap.size + 1) (w.alloc (.cells #[.slice sa m.states.length sc, .slice ea m.edges.length ec, .int .i64 m.start] 37)) w2) := hide (fun w1 w2 v lo h1 h2 h3 h4 => below_mark h1 h2 h3 h4 (by simp))
  have HLEN := hide (actsR_len80 m s)
  have HL32 : Hid ((actsR m s).length ≤ 4294967296) := hide (by have := HLEN.out; omega)
  obtain ⟨nr, hnr⟩ : ∃ nr, (actsR m s).length = nr := ⟨_, rfl⟩
  have hnr80 : nr ≤ 80 := by rw [← hnr]; exact HLEN.out
  have HNR := hide hnr
  clear h hnr
  unfold machV
  go_enter Try.func6, Try.ntmps6
  go_wp2_with (go_at_call 21; refine (sz2_machine m 1048576 (by omega) (by omega) sa sc ea ec _ (H.out _ (Below.refl _ _))).mono ?_; rintro e w1 ⟨r, rfl, hr1, hrf, hb1⟩; have HRF := hide hrf; have HW1 := hide (HL.out _ _ (Below.refl _ _) hb1); obtain ⟨x0, x1, x2, -, -⟩ := HC.out _ HW1.out; clear hrf hb1; by_cases hneg : r < 0)
  · go_ret
    exact ⟨rfl, (HC.out _ HW1.out).2.2.2.1⟩
  · have HFIT := hide (HRF.out (by omega)).1
    have HSUM : Hid (machN m + 1 ≤ 5900000) := hide (by have := (HRF.out (by omega)).2; unfold machN; omega)
    obtain ⟨nm, hnm⟩ : ∃ nm, 1 + machN m = nm := ⟨_, rfl⟩
    have HNM := hide hnm
    clear hnm
    go_wp2_with (first
      | (go_at_call 33; refine (eq_acts (actsR m s) _ _ _ (HO5.out.sl HL32.out) ((HS3.out.carry (HX4.out.trans (HB5.out.mono HX4.out.size))).up (HX4.out.trans (HB5.out.mono HX4.out.size)).size)).mono ?_; rintro e w6 ⟨rfl, hb6⟩; have HB56 := hide hb6; have HW6 := hide (HL.out _ _ HW5.out hb6); obtain ⟨a60, a61, a62, -, -⟩ := HC.out _ HW6.out; have k0 := (hb6.cell (p := ⟨w4.heap.size, 0, none⟩) hl45).trans q0; have k1 := (hb6.cell (p := ⟨w4.heap.size, 1, none⟩) hl45).trans q1; have k2 := (hb6.cell (p := ⟨w4.heap.size, 2, none⟩) hl45).trans q2; have hl46 : w4.heap.size < w6.heap.size := Nat.lt_of_lt_of_le hl45 hb6.size; clear hb6)
      | (go_at_call 32; refine (acts_of m s _ _ HFIT.out (HS4.out.carry (malloc1 _ _))).mono ?_; rintro e w5 ⟨v5, rfl, ho5, hb5⟩; have HO5 := hide ho5; have HB5 : Hid (Below w4.heap.size w4 w5) := hide ((malloc1 _ _).trans (hb5.mono (by simp))); have HW5 := hide (HL.out _ _ (HL.out _ _ HW4.out (malloc1 _ _)) hb5); have hl45 : w4.heap.size < w5.heap.size := (by have := hb5.size; simp at this; omega); have q0 := (hb5.cell (p := ⟨w4.heap.size, 0, none⟩) (by simp)); have q1 := (hb5.cell (p := ⟨w4.heap.size, 1, none⟩) (by simp)); have q2 := (hb5.cell (p := ⟨w4.heap.size, 2, none⟩) (by simp)); simp at q0 q1 q2; obtain ⟨a50, a51, a52, -, -⟩ := HC.out _ HW5.out; clear hb5 ho5)
      | (go_at_call 23; refine (mach_to m sa sc ea ec _ (H.out _ HW3.out) HFIT.out).mono ?_; rintro e w4 ⟨v4, rfl, hs4, hf4, hb4⟩; have HS4 := hide hs4; have HF4 := hide hf4; obtain ⟨sv4, ev4, rfl, ⟨sa4, sc4, rfl, -⟩, ⟨ea4, ec4, rfl, -⟩⟩ := hs4; have HX4 := hide hb4; have HW4 := hide (HL.out _ _ HW3.out hb4); obtain ⟨a40, a41, a42, -, -⟩ := HC.out _ HW4.out; clear hb4 hf4)
      | (go_at_call 31; refine (s_actsOf m s _ _ HFIT.out HS2.out).mono ?_; rintro e w3 ⟨v3, rfl, ho3, hb3⟩; have HS3 := hide (ho3.sl HL32.out); have HW3 := hide (HL.out _ _ HW2.out hb3); obtain ⟨a30, a31, a32, -, hz3⟩ := HC.out _ HW3.out; clear hb3 ho3)
      | (go_at_call 23; refine (mach_to m sa sc ea ec _ (H.out _ HW1.out) HFIT.out).mono ?_; rintro e w2 ⟨v2, rfl, hs2, -, hb2⟩; have HS2 := hide hs2; obtain ⟨sv2, ev2, rfl, ⟨sa2, sc2, rfl, -⟩, ⟨ea2, ec2, rfl, -⟩⟩ := hs2; have HW2 := hide (HL.out _ _ HW1.out hb2); clear hb2))
    go_region_with (first
      | (go_at_call 23; refine (mach_to m sa sc ea ec _ (H.out _ HW6.out.drew) HFIT.out).mono ?_; rintro e w7 ⟨v7, rfl, hs7, -, hb7⟩; have HS7 := hide hs7; obtain ⟨sv7, ev7, rfl, ⟨sa7, sc7, rfl, -⟩, ⟨ea7, ec7, rfl, -⟩⟩ := hs7; have HB7 : Hid (Below w6.heap.size w6 w7) := hide ((Below.refl _ _).drew.trans hb7); have y0 := (HB7.out.cell (p := ⟨w4.heap.size, 0, none⟩) hl46).trans k0; have y1 := (HB7.out.cell (p := ⟨w4.heap.size, 1, none⟩) hl46).trans k1; have y2 := (HB7.out.cell (p := ⟨w4.heap.size, 2, none⟩) hl46).trans k2; have HW7 := hide (HL.out _ _ HW6.out HB7.out); clear hb7)
      | (go_at_call 25; refine (eq_machine m _ _ _ (((HS4.out.carry HB5.out).carry HB56.out).carry HB7.out) HS7.out).mono ?_; rintro e w8 ⟨rfl, hb8⟩; have HB8 : Hid (Below w6.heap.size w6 w8) := hide (HB7.out.trans (hb8.mono HB7.out.size)); have HW8 := hide (HL.out _ _ HW7.out hb8); have z0 := (HB8.out.cell (p := ⟨w4.heap.size, 0, none⟩) hl46).trans k0; have z1 := (HB8.out.cell (p := ⟨w4.heap.size, 1, none⟩) hl46).trans k1; have z2 := (HB8.out.cell (p := ⟨w4.heap.size, 2, none⟩) hl46).trans k2; clear hb8))
    all_goals
      have HB48 : Hid (Below w4.heap.size w4 w8) := hide (HB5.out.trans ((HB56.out.trans (HB8.out.mono HB56.out.size)).mono HB5.out.size))
      have HB58 : Hid (Below w5.heap.size w5 w8) := hide (HB56.out.trans (HB8.out.mono HB56.out.size))
      have HX8 : Hid (Below w3.heap.size w3 w8) := hide (HX4.out.trans (HB48.out.mono HX4.out.size))
      have HF8 : Hid (Fresh w3.heap.size w8 (.agg #[.slice sa4 m.states.length sc4, .slice ea4 m.edges.length ec4, .int .i64 m.start])) := hide (HF4.out.keep (below_apart HB48.out) (fun _ _ => by simp))
      have HO8 := hide (HO5.out.below HB58.out)
      have HDJ := hide (HF4.out.disj HO5.out.fresh (by simp))
      go_wp2_with (first
        | (go_at_call 36; refine (held_acts 1 nr _ _ (by omega) (by omega) ((HMT.out.carry HB15.out).up HB15.out.size)).mono ?_; rintro e w16 ⟨rfl, hb16⟩; have HW16 := hide (HL.out _ _ HW15.out hb16); clear hb16)
        | (go_at_call 33; refine (eq_acts (actsR m s) _ _ _ (HO14.out.sl HL32.out) ((HS3.out.carry HX14.out).up HX14.out.size)).mono ?_; rintro e w15 ⟨rfl, hb15⟩; have HW15 := hide (HL.out _ _ HW14.out hb15); have HB15 : Hid (Below w11.heap.size w11 w15) := hide (HB14.out.trans (hb15.mono HB14.out.size)); clear hb15)
        | (go_at_call 32; refine (acts_of m s _ _ HFIT.out HS13.out).mono ?_; rintro e w14 ⟨v14, rfl, ho14, hb14⟩; have HO14 := hide ho14; have HB14 : Hid (Below w11.heap.size w11 w14) := hide (HB13.out.trans (hb14.mono HB13.out.size)); have HX14 : Hid (Below w3.heap.size w3 w14) := hide (HX11.out.trans (HB14.out.mono HX11.out.size)); have HW14 := hide (HL.out _ _ HW13.out hb14); clear hb14 ho14)
        | (go_at_call 23; refine (mach_to m sa sc ea ec _ (H.out _ HW12.out) HFIT.out).mono ?_; rintro e w13 ⟨v13, rfl, hs13, -, hb13⟩; have HS13 := hide hs13; obtain ⟨sv13, ev13, rfl, ⟨sa13, sc13, rfl, -⟩, ⟨ea13, ec13, rfl, -⟩⟩ := hs13; have HB13 : Hid (Below w11.heap.size w11 w13) := hide (HB12.out.trans (hb13.mono HB12.out.size)); have HW13 := hide (HL.out _ _ HW12.out hb13); clear hb13)
        | (go_at_call 36; refine (held_acts 1 nr _ _ (by omega) (by omega) HMT.out).mono ?_; rintro e w12 ⟨rfl, hb12⟩; have HB12 := hide hb12; have HW12 := hide (HL.out _ _ HW11.out hb12); obtain ⟨a120, a121, a122, -, -⟩ := HC.out _ HW12.out; clear hb12)
        | (go_at_call 35; refine (acts_mark 1 (actsR m s) _ _ _ (by omega) (by have := HLEN.out; omega) (HO10.out.sl HL32.out) HO10.out.fresh).mono ?_; rintro e w11 ⟨rfl, hs11, ha11⟩; rw [HNR.out] at hs11 ⊢; have HMT := hide hs11; have HX11 : Hid (Below w3.heap.size w3 w11) := hide (below_mark HX10.out ha11 HO10.out.fresh (Nat.le_trans HX4.out.size (by simp)) (Nat.le_refl _)); have HW11 := hide (HM.out _ _ _ _ HW10.out ha11 HO10.out.fresh (by have := HX4.out.size; simp; omega)); clear hs11 ha11)
        | (go_at_call 33; refine (eq_acts (actsR m s) _ _ _ (HO9.out.sl HL32.out) ((HS3.out.carry HX9.out).up HX9.out.size)).mono ?_; rintro e w10 ⟨rfl, hb10⟩; have HO10 := hide (HO9.out.below hb10); have HX10 : Hid (Below w3.heap.size w3 w10) := hide (HX9.out.trans (hb10.mono HX9.out.size)); have HW10 := hide (HL.out _ _ HW9.out hb10); clear hb10)
        | (go_at_call 34; refine (mach_mark 1 m _ _ _ (by omega) (by have := HSUM.out; omega) (HS4.out.carry HB48.out) HF8.out).mono ?_; rintro e w9 ⟨rfl, -, ha9⟩; rw [HNM.out]; have HO9 := hide (HO8.out.keep ha9 HDJ.out.2); have HX9 : Hid (Below w3.heap.size w3 w9) := hide (below_mark HX8.out ha9 HF8.out (Nat.le_refl _) (Nat.le_refl _)); have HW9 := hide (HM.out _ _ _ _ HW8.out ha9 HF8.out hz3); clear ha9))
      go_ret
      exact ⟨rfl, (HC.out _ HW16.out).2.2.2.1⟩
end Go.Proofs.Ytcdlceldokhnbaa
