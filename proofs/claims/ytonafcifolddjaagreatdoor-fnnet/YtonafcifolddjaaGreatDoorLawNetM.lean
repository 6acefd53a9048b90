/- The law of promise 7, walked. -/
import Derived.Test.YtonafcifolddjaaGreatDoorNnSM
import Derived.Test.YtonafcifolddjaaGreatDoorNnTM
import Derived.Test.YtonafcifolddjaaGreatDoorNnRM
import Derived.Deep.RegionHeld3
import Derived.Deep.RegionWith
import Derived.Deep.DeepCutAuto
namespace Go.Proofs.YtonafcifolddjaaGreatDoor
open Go.RowKit
set_option linter.unusedSimpArgs false
set_option linter.unusedVariables false
attribute [local go_sem ↓] Go.wp_at_zero Go.wp_at_succ

set_option maxRecDepth 100000 in
set_option maxHeartbeats 8000000 in
theorem law_Net {E : Errs} (ao : Option Addr) (len cap : Nat) (mo : Option Addr) (mlen mcap : Nat) (w : World) (hlm : len ≤ maxLen) (hmm : mlen ≤ maxLen) (hr : ArgRow w ao len) (hmr : ArgRow w mo mlen) (hsent : SentAt w E) :
    Calls Tryz.prog 3 #[.slice ao len cap, .slice mo mlen mcap] w fun e w' => e = .returned (.bool true) ∧ Below w.heap.size w w' := by
  have HR := hide hr
  have HMR := hide hmr
  have HSE := hide hsent
  have hl2 : len ≤ 9223372036854775807 := by unfold maxLen at hlm; omega
  have hm2 : mlen ≤ 9223372036854775807 := by unfold maxLen at hmm; omega
  clear hr hmr hlm hmm hsent
  by_cases hb1 : 1048576 < len
  · go_enter Tryz.func3, Tryz.ntmps3
    go_wp2_with fail
    go_ret
    exact ⟨rfl, Below.refl _ _⟩
  by_cases hb2 : 1048576 < mlen
  · go_enter Tryz.func3, Tryz.ntmps3
    go_wp2_with fail
    go_ret
    exact ⟨rfl, Below.refl _ _⟩
  have hl : len ≤ 1048576 := by omega
  have hml : mlen ≤ 1048576 := by omega
  have hd1 : decide (1048576 < (len : Int)) = false := by simp; omega
  have hd2 : decide (1048576 < (mlen : Int)) = false := by simp; omega
  go_enter Tryz.func3, Tryz.ntmps3
  go_upto_region 14 with (first
    | (go_at_call 4; refine (draw_netPut ao len cap _ hl HR.out).mono ?_; rintro e w1 ⟨v1, l, m, rfl, hdm, hp⟩; have HD := hide hdm; have HOL := hide hp.ok; have hll := hp.len; obtain ⟨g1, c1, rfl⟩ := hp.adr; have HL1 := hide ((stays hp.sl).alloc (.cells #[.string m.frm, .string m.to, .string m.label, .int .i64 m.sort] 25)); have HW1 := hide (bel_next hp.bel (malloc1 _ (.cells #[.string m.frm, .string m.to, .string m.label, .int .i64 m.sort] 25))); have HM1 := hide (box4 w1 m); unfold RMsg.val; clear hp hdm)
    | (go_at_call 5; obtain ⟨X2, hX2⟩ : ∃ x, putR l m = x := ⟨_, rfl⟩; obtain ⟨C2, hC2⟩ : ∃ x, (putW l m).code = x := ⟨_, rfl⟩; obtain ⟨M0, hM0⟩ : ∃ x, noMsg = x := ⟨_, rfl⟩; refine (i_netPut (E := E) l m g1 0 c1 _ (fun x hx => (HOL.out x hx).fits) HD.out.fits HL1.out.now (HSE.out.carry HW1.out)).mono ?_; rw [hX2, hC2, hM0]; have HX2 := hide hX2; have HC2 := hide hC2; have HM0 := hide hM0; have hx2 : X2.length ≤ 10 := (by have := putR_len l m; rw [hX2] at this; omega); clear hX2 hC2 hM0; rintro e w2 ⟨v2, rfl, ho, hb⟩; obtain ⟨p2, c2, rfl⟩ := owns_shape ho; unfold netV; have hk := bel_next hb (malloc1 w2 (.cells #[(.slice p2 X2.length c2), .string M0.frm, .string M0.to, .string M0.label, .int .i64 M0.sort, .int .i64 C2] 29)); have HL2 := hide (HL1.out.go hk); have HW2 := hide (bel_next HW1.out hk); have HM2 := hide (HM1.out.go hk); have HX2s := hide ((stays (ho.sl (by omega))).alloc (.cells #[(.slice p2 X2.length c2), .string M0.frm, .string M0.to, .string M0.label, .int .i64 M0.sort, .int .i64 C2] 29)); have HX2b := hide (box6 w2 (.slice p2 X2.length c2) M0 C2); clear ho hb hk HL1 HW1 HM1)
    | (go_at_call 6; refine (draw_netSee mo mlen mcap _ hml (HMR.out.below HW2.out)).mono ?_; rintro e w3 ⟨v3, l3, f3, t3, rfl, hf3, ht3, hp⟩; have HO3 := hide hp.ok; have hl3 := hp.len; obtain ⟨g3, c3, rfl⟩ := hp.adr; have hk := hp.bel; have HL3 := hide (HL2.out.go hk); have HW3 := hide (bel_next HW2.out hk); have HM3 := hide (HM2.out.go hk); have HX3s := hide (HX2s.out.go hk); have HX3b := hide (HX2b.out.go hk); have HS3 := hide (stays hp.sl); have HF3 : Hid (f3.size ≤ maxLen) := hide (by unfold maxLen; omega); have HT3 : Hid (t3.size ≤ maxLen) := hide (by unfold maxLen; omega); clear hp hk hf3 ht3 HL2 HW2 HM2 HX2s HX2b)
    | (go_at_call 7; obtain ⟨Y4, hY4⟩ : ∃ x, pickL false l3 f3 t3 = x := ⟨_, rfl⟩; obtain ⟨M4, hM4⟩ : ∃ x, pickM l3 f3 t3 = x := ⟨_, rfl⟩; obtain ⟨C4, hC4⟩ : ∃ x, (findW l3 f3 t3).code = x := ⟨_, rfl⟩; refine (i_see (E := E) f3 t3 l3 _ _ HF3.out HT3.out (fun x hx => (HO3.out x hx).fits) HS3.out.now (HSE.out.carry HW3.out)).mono ?_; rw [hY4, hM4, hC4]; have HY4 := hide hY4; have HM4 := hide hM4; have HC4 := hide hC4; have hy4 : Y4.length ≤ 9 := (by have := pickL_len false l3 f3 t3; rw [hY4] at this; omega); clear hY4 hM4 hC4; rintro e w4 ⟨v4, rfl, ho, hb⟩; obtain ⟨p4, c4, rfl⟩ := owns_shape ho; unfold netV; have hk := bel_next hb (malloc1 w4 (.cells #[(.slice p4 Y4.length c4), .string M4.frm, .string M4.to, .string M4.label, .int .i64 M4.sort, .int .i64 C4] 29)); have HL4 := hide (HL3.out.go hk); have HW4 := hide (bel_next HW3.out hk); have HMB4 := hide (HM3.out.go hk); have HX4s := hide (HX3s.out.go hk); have HX4b := hide (HX3b.out.go hk); have HS4 := hide (HS3.out.go hk); have HY4s := hide ((stays (ho.sl (by omega))).alloc (.cells #[(.slice p4 Y4.length c4), .string M4.frm, .string M4.to, .string M4.label, .int .i64 M4.sort, .int .i64 C4] 29)); have HY4b := hide (box6 w4 (.slice p4 Y4.length c4) M4 C4); clear ho hb hk HL3 HW3 HM3 HX3s HX3b HS3)
    | (go_at_call 8; have MK4 := HY4b; obtain ⟨Z5, hZ5⟩ : ∃ x, pickL true l3 f3 t3 = x := ⟨_, rfl⟩; refine (i_take (E := E) f3 t3 l3 _ _ HF3.out HT3.out (fun x hx => (HO3.out x hx).fits) HS4.out.now (HSE.out.carry HW4.out)).mono ?_; rw [hZ5, HM4.out, HC4.out]; have HZ5 := hide hZ5; have hz5 : Z5.length ≤ 9 := (by have := pickL_len true l3 f3 t3; rw [hZ5] at this; omega); clear hZ5; rintro e w5 ⟨v5, rfl, ho, hb⟩; obtain ⟨p5, c5, rfl⟩ := owns_shape ho; unfold netV; have hk := bel_next hb (malloc1 w5 (.cells #[(.slice p5 Z5.length c5), .string M4.frm, .string M4.to, .string M4.label, .int .i64 M4.sort, .int .i64 C4] 29)); have HL5 := hide (HL4.out.go hk); have HW5 := hide (bel_next HW4.out hk); have HMB5 := hide (HMB4.out.go hk); have HX5s := hide (HX4s.out.go hk); have HX5b := hide (HX4b.out.go hk); have HS5 := hide (HS4.out.go hk); have HY5s := hide (HY4s.out.go hk); have HY5b := hide (HY4b.out.go hk); have HZ5s := hide ((stays (ho.sl (by omega))).alloc (.cells #[(.slice p5 Z5.length c5), .string M4.frm, .string M4.to, .string M4.label, .int .i64 M4.sort, .int .i64 C4] 29)); have HZ5b := hide (box6 w5 (.slice p5 Z5.length c5) M4 C4); clear ho hb hk MK4 HL4 HW4 HMB4 HX4s HX4b HS4 HY4s HY4b)
    | (go_at_call 9; refine (draw_netFault ao len cap _ hl (HR.out.below HW5.out)).mono ?_; rintro e w6 ⟨v6, l6, a6, n6, rfl, ha60, ha61, hn60, hn61, hp⟩; have HO6 := hide hp.ok; have hl6 := hp.len; obtain ⟨g6, c6, rfl⟩ := hp.adr; have hk := hp.bel; have HF6 := hide (stays hp.sl); clear hp; have HL6 := hide (HL5.out.go hk); have HMB6 := hide (HMB5.out.go hk); have HX6s := hide (HX5s.out.go hk); have HX6b := hide (HX5b.out.go hk); have HS6 := hide (HS5.out.go hk); have HY6s := hide (HY5s.out.go hk); have HY6b := hide (HY5b.out.go hk); have HZ6s := hide (HZ5s.out.go hk); have HZ6b := hide (HZ5b.out.go hk); have HW6 := hide (bel_next HW5.out hk); clear hk HW5 HL5 HMB5 HX5s HX5b HS5 HY5s HY5b HZ5s HZ5b)
    | (go_at_call 10; obtain ⟨V7, hV7⟩ : ∃ x, faultR l6 a6 n6 = x := ⟨_, rfl⟩; obtain ⟨C7, hC7⟩ : ∃ x, (faultW l6 a6 n6).code = x := ⟨_, rfl⟩; refine (i_netFault (E := E) l6 a6 n6 g6 0 c6 _ (fun x hx => (HO6.out x hx).fits) HF6.out.now (HSE.out.carry HW6.out)).mono ?_; rw [hV7, hC7, HM0.out]; have HV7 := hide hV7; have HC7 := hide hC7; have hv7 : V7.length ≤ 10 := (by have := faultR_len l6 a6 n6; rw [hV7] at this; omega); clear hV7 hC7; rintro e w7 ⟨v7, rfl, ho, hb⟩; obtain ⟨p7, c7, rfl⟩ := owns_shape ho; unfold netV; have hk := bel_next hb (malloc1 w7 (.cells #[(.slice p7 V7.length c7), .string M0.frm, .string M0.to, .string M0.label, .int .i64 M0.sort, .int .i64 C7] 29)); have HF7 := hide (HF6.out.go hk); have HV7s := hide ((stays (ho.sl (by omega))).alloc (.cells #[(.slice p7 V7.length c7), .string M0.frm, .string M0.to, .string M0.label, .int .i64 M0.sort, .int .i64 C7] 29)); have HV7b := hide (box6 w7 (.slice p7 V7.length c7) M0 C7); clear ho hb HF6; have HL7 := hide (HL6.out.go hk); have HMB7 := hide (HMB6.out.go hk); have HX7s := hide (HX6s.out.go hk); have HX7b := hide (HX6b.out.go hk); have HS7 := hide (HS6.out.go hk); have HY7s := hide (HY6s.out.go hk); have HY7b := hide (HY6b.out.go hk); have HZ7s := hide (HZ6s.out.go hk); have HZ7b := hide (HZ6b.out.go hk); have HW7 := hide (bel_next HW6.out hk); clear hk HW6 HL6 HMB6 HX6s HX6b HS6 HY6s HY6b HZ6s HZ6b)
    | (go_at_call 11; refine (draw_netBytes mo mlen mcap _ hml (HMR.out.below HW7.out)).mono ?_; rintro e w8 ⟨v8, l8, rfl, hp⟩; have HO8 := hide hp.ok; have hl8 := hp.len; obtain ⟨g8, c8, rfl⟩ := hp.adr; have hk := hp.bel; have HB8 := hide (stays hp.sl); clear hp; have HL8 := hide (HL7.out.go hk); have HMB8 := hide (HMB7.out.go hk); have HX8s := hide (HX7s.out.go hk); have HX8b := hide (HX7b.out.go hk); have HS8 := hide (HS7.out.go hk); have HY8s := hide (HY7s.out.go hk); have HY8b := hide (HY7b.out.go hk); have HZ8s := hide (HZ7s.out.go hk); have HZ8b := hide (HZ7b.out.go hk); have HF8 := hide (HF7.out.go hk); have HV8s := hide (HV7s.out.go hk); have HV8b := hide (HV7b.out.go hk); have HW8 := hide (bel_next HW7.out hk); clear hk HW7 HL7 HMB7 HX7s HX7b HS7 HY7s HY7b HZ7s HZ7b HF7 HV7s HV7b)
    | (go_at_call 12; obtain ⟨T, hT⟩ : ∃ x, netS l8 = x := ⟨_, rfl⟩; refine (i_netBytes l8 _ _ (fun x hx => (HO8.out x hx).fits.1) HB8.out.now).mono ?_; rw [hT]; have HT := hide hT; clear hT; rintro e w9 ⟨rfl, hk⟩; have HB9 := hide (HB8.out.go hk); clear HB8; have HL9 := hide (HL8.out.go hk); have HMB9 := hide (HMB8.out.go hk); have HX9s := hide (HX8s.out.go hk); have HX9b := hide (HX8b.out.go hk); have HS9 := hide (HS8.out.go hk); have HY9s := hide (HY8s.out.go hk); have HY9b := hide (HY8b.out.go hk); have HZ9s := hide (HZ8s.out.go hk); have HZ9b := hide (HZ8b.out.go hk); have HF9 := hide (HF8.out.go hk); have HV9s := hide (HV8s.out.go hk); have HV9b := hide (HV8b.out.go hk); have HW9 := hide (bel_next HW8.out hk); clear hk HW8 HL8 HMB8 HX8s HX8b HS8 HY8s HY8b HZ8s HZ8b HF8 HV8s HV8b)
    | (go_at_call 13; refine (draw_netRead mo mlen mcap _ hml (HMR.out.below HW9.out)).mono ?_; rintro e w10 ⟨u, rfl, hu, hk⟩; have HU : Hid (u.size ≤ maxLen) := hide (by unfold maxLen; omega); have HL10 := hide (HL9.out.go hk); have HMB10 := hide (HMB9.out.go hk); have HX10s := hide (HX9s.out.go hk); have HX10b := hide (HX9b.out.go hk); have HS10 := hide (HS9.out.go hk); have HY10s := hide (HY9s.out.go hk); have HY10b := hide (HY9b.out.go hk); have HZ10s := hide (HZ9s.out.go hk); have HZ10b := hide (HZ9b.out.go hk); have HF10 := hide (HF9.out.go hk); have HV10s := hide (HV9s.out.go hk); have HV10b := hide (HV9b.out.go hk); have HB10 := hide (HB9.out.go hk); have HW10 := hide (bel_next HW9.out hk); clear hk HW9 HL9 HMB9 HX9s HX9b HS9 HY9s HY9b HZ9s HZ9b HF9 HV9s HV9b HB9)
    | (go_at_call 14; have MKU := HU; obtain ⟨R, hR⟩ : ∃ x, netL u = x := ⟨_, rfl⟩; obtain ⟨C11, hC11⟩ : ∃ x, netC u = x := ⟨_, rfl⟩; refine (i_netRead_any u _ HU.out).mono ?_; rw [hR, hC11, show noRMsg = noMsg from rfl, HM0.out]; have HRR := hide hR; have HC11 := hide hC11; have hr11 : R.length ≤ 36 := (by have := netL_len u; rw [hR] at this; omega); clear hR hC11; rintro e w11 ⟨v11, rfl, ho, hb⟩; obtain ⟨p11, c11, rfl⟩ := owns_shape ho; unfold netV; have hk := bel_next hb (malloc1 w11 (.cells #[(.slice p11 R.length c11), .string M0.frm, .string M0.to, .string M0.label, .int .i64 M0.sort, .int .i64 C11] 29)); have HR11s := hide ((stays (ho.sl (by omega))).alloc (.cells #[(.slice p11 R.length c11), .string M0.frm, .string M0.to, .string M0.label, .int .i64 M0.sort, .int .i64 C11] 29)); have HR11b := hide (box6 w11 (.slice p11 R.length c11) M0 C11); clear ho hb MKU; have HL11 := hide (HL10.out.go hk); have HMB11 := hide (HMB10.out.go hk); have HX11s := hide (HX10s.out.go hk); have HX11b := hide (HX10b.out.go hk); have HS11 := hide (HS10.out.go hk); have HY11s := hide (HY10s.out.go hk); have HY11b := hide (HY10b.out.go hk); have HZ11s := hide (HZ10s.out.go hk); have HZ11b := hide (HZ10b.out.go hk); have HF11 := hide (HF10.out.go hk); have HV11s := hide (HV10s.out.go hk); have HV11b := hide (HV10b.out.go hk); have HB11 := hide (HB10.out.go hk); have HW11 := hide (bel_next HW10.out hk); clear hk HW10 HL10 HMB10 HX10s HX10b HS10 HY10s HY10b HZ10s HZ10b HF10 HV10s HV10b HB10))
  obtain ⟨wz, hwz⟩ : ∃ x, (w11.alloc (.cells #[(.slice p11 R.length c11), .string M0.frm, .string M0.to, .string M0.label, .int .i64 M0.sort, .int .i64 C11] 29)) = x := ⟨_, rfl⟩
  rw [hwz] at HL11 HMB11 HX11s HX11b HS11 HY11s HY11b HZ11s HZ11b HF11 HV11s HV11b HB11 HR11s HR11b HW11 ⊢
  clear hwz
  obtain ⟨bm, hbm⟩ : ∃ x, w1.heap.size = x := ⟨_, rfl⟩
  obtain ⟨bx, hbx⟩ : ∃ x, w2.heap.size = x := ⟨_, rfl⟩
  obtain ⟨byy, hby⟩ : ∃ x, w4.heap.size = x := ⟨_, rfl⟩
  obtain ⟨bz, hbz⟩ : ∃ x, w5.heap.size = x := ⟨_, rfl⟩
  obtain ⟨bv, hbv⟩ : ∃ x, w7.heap.size = x := ⟨_, rfl⟩
  obtain ⟨br, hbr⟩ : ∃ x, w11.heap.size = x := ⟨_, rfl⟩
  rw [hbm] at HMB11 ⊢
  rw [hbx] at HX11b ⊢
  rw [hby] at HY11b ⊢
  rw [hbz] at HZ11b ⊢
  rw [hbv] at HV11b ⊢
  rw [hbr] at HR11b ⊢
  clear hbm hbx hby hbz hbv hbr
  have HNX : Hid (∀ W W' : World, Below wz.heap.size wz W → Below W.heap.size W W' → Below wz.heap.size wz W') := hide (fun W W' h1 h2 => bel_next h1 h2)
  have HCX : Hid (C2 = 0 → netB X2 = true) := hide (fun h => by have := why_zero (HC2.out.trans h); rw [← HX2.out, (put_net this).1]; exact (put_net this).2.1)
  have HCY : Hid (C4 = 0 → netB Y4 = true) := hide (fun h => by rw [← HY4.out]; exact pick_net false (why_zero (HC4.out.trans h)))
  have HCZ : Hid (C4 = 0 → netB Z5 = true) := hide (fun h => by rw [← HZ5.out]; exact pick_net true (why_zero (HC4.out.trans h)))
  have HCV : Hid (C7 = 0 → netB V7 = true) := hide (fun h => by rw [← HV7.out]; exact (fault_net (why_zero (HC7.out.trans h))).1)
  have HCR : Hid (C11 = 0 → netB R = true) := hide (fun h => by rw [← HRR.out]; exact (net_told (HC11.out.trans h)).2)
  have HOX : Hid (∀ x ∈ X2, x.ok) := hide (fun x hx => by
    rw [← HX2.out] at hx
    by_cases h : putW l m = .normal
    · rw [putR_yes h] at hx
      rcases insL_mem hx with hx | rfl
      · exact (HOL.out x hx).fits.1
      · exact HD.out.fits.1
    · rw [putR_no h] at hx; cases hx)
  have HOP : Hid (∀ took, ∀ x ∈ pickL took l3 f3 t3, x ∈ l3) := hide (fun took x hx => by
    unfold pickL at hx
    split at hx
    · split at hx
      · exact (List.eraseIdx_sublist _ _).subset hx
      · exact hx
    · cases hx)
  have HOY : Hid (∀ x ∈ Y4, x.ok) := hide (fun x hx => (HO3.out x (HOP.out false x (by rw [HY4.out]; exact hx))).fits.1)
  have HOZ : Hid (∀ x ∈ Z5, x.ok) := hide (fun x hx => (HO3.out x (HOP.out true x (by rw [HZ5.out]; exact hx))).fits.1)
  have HOV : Hid (∀ x ∈ V7, x.ok) := hide (fun x hx => by
    rw [← HV7.out] at hx
    exact (HO6.out x (fault_mem hx)).fits.1)
  have HOR : Hid (∀ x ∈ R, x.ok) := hide (fun x hx => by rw [← HRR.out] at hx; exact netL_ok u x hx)
  clear HOP
  have HL := HL11
  have HMB := HMB11
  have HX := HX11s
  have HXB := HX11b
  have HS := HS11
  have HY := HY11s
  have HYB := HY11b
  have HZ := HZ11s
  have HZB := HZ11b
  have HF := HF11
  have HV := HV11s
  have HVB := HV11b
  have HB := HB11
  have HRS := HR11s
  have HRB := HR11b
  have HW := HW11
  clear HL11 HMB11 HX11s HX11b HS11 HY11s HY11b HZ11s HZ11b HF11 HV11s HV11b HB11 HR11s HR11b HW11
  have HSZ : Hid (∀ W, Below wz.heap.size wz W → SentAt W E) := hide (fun W hb => HSE.out.carry (bel_next HW.out hb))
  have HCS : Hid (∀ W, Below wz.heap.size wz W → RMsgAt W bm 0 m ∧ BoxAt W bx (.slice p2 X2.length c2) M0 C2 ∧ BoxAt W byy (.slice p4 Y4.length c4) M4 C4 ∧ BoxAt W bz (.slice p5 Z5.length c5) M4 C4 ∧ BoxAt W bv (.slice p7 V7.length c7) M0 C7 ∧ BoxAt W br (.slice p11 R.length c11) M0 C11) := hide (fun W hb => ⟨HMB.out W hb, HXB.out W hb, HYB.out W hb, HZB.out W hb, HVB.out W hb, HRB.out W hb⟩)
  clear HMB HXB HYB HZB HVB HRB HSE
  obtain ⟨nb8, hnb8⟩ : ∃ q, netB l8 = q := ⟨_, rfl⟩
  have HNB := hide hnb8
  obtain ⟨mg, hmg⟩ : ∃ q, msgB m = q := ⟨_, rfl⟩
  have HMG := hide hmg
  clear hnb8 hmg
  have HK : Hid (Below wz.heap.size wz wz.drew) := hide (Below.refl _ _).drew
  obtain ⟨⟨m0, m1, m2, m3⟩, ⟨x0, x1, x2, x3, x4, x5⟩, ⟨y0, y1, y2, y3, y4, y5⟩, ⟨z0, z1, z2, z3, z4, z5⟩, ⟨v0, v1, v2, v3, v4, v5⟩, ⟨r0, r1, r2, r3, r4, r5⟩⟩ := HCS.out _ (Below.refl _ _)
  go_cut [130] (fun s130 wx => s130 = .bool false ∧ Below wz.heap.size wz wx)
  case first =>
    clear m0 m1 m2 m3 x0 x1 x2 x3 x4 x5 y0 y1 y2 y3 y4 y5 z0 z1 z2 z3 z4 z5 v0 v1 v2 v3 v4 v5 r0 r1 r2 r3 r4 r5
    refine wp_only ?_
    have hcc : Tryz.f3.body.bind (regOf 14) = some _ := rfl
    have HRG := fun K => @reg14 _ hcc K E
    change Code.wp Tryz.prog _ (OnlyN _) ⟨(_ :: _ :: _ :: _ :: _ :: (.slice (some ⟨g1, 0, none⟩) l.length c1) :: (.pointer (some ⟨bm, 0, none⟩)) :: (.pointer (some ⟨bx, 0, none⟩)) :: (.slice (some ⟨g3, 0, none⟩) l3.length c3) :: (.string f3) :: (.string t3) :: (.pointer (some ⟨byy, 0, none⟩)) :: (.pointer (some ⟨bz, 0, none⟩)) :: (.slice (some ⟨g6, 0, none⟩) l6.length c6) :: (.int .i64 a6) :: (.int .i64 n6) :: (.pointer (some ⟨bv, 0, none⟩)) :: (.slice (some ⟨g8, 0, none⟩) l8.length c8) :: (.string T) :: (.string u) :: (.pointer (some ⟨br, 0, none⟩)) :: _ :: _ :: _ :: _ :: _ :: _ :: _ :: _ :: _ :: _ :: _ :: _ :: _ :: _ :: _ :: _ :: _ :: _ :: _ :: _ :: _ :: _ :: _ :: _ :: _ :: _ :: _ :: _ :: _ :: _ :: _ :: _ :: _ :: _ :: _ :: _ :: _ :: _ :: _ :: _ :: _ :: _ :: _ :: _ :: _ :: _ :: _ :: _ :: _ :: _ :: _ :: _ :: _ :: _ :: _ :: _ :: _ :: _ :: _ :: _ :: _ :: _ :: _ :: _ :: _ :: _ :: _ :: _ :: _ :: _ :: _ :: _ :: _ :: _ :: _ :: _ :: _ :: _ :: _ :: _ :: _ :: _ :: _ :: _ :: _ :: _ :: _ :: _ :: _ :: _ :: _ :: _ :: _ :: _ :: _ :: _ :: _ :: _ :: _ :: _ :: _ :: _ :: _ :: _ :: _ :: _ :: _ :: _ :: _ :: _ :: _ :: _ :: _ :: _ :: _ :: _ :: _ :: _ :: _ :: _ :: _ :: _ :: _ :: _ :: _ :: _ :: _ :: _ :: _ :: _ :: _ :: _ :: _ :: _ :: _ :: _ :: _ :: _ :: _ :: _ :: _ :: _ :: _ :: _ :: _ :: _ :: _ :: _ :: _ :: _ :: _ :: _ :: _ :: _ :: _ :: _ :: _ :: _ :: _ :: _ :: _ :: _ :: _ :: _ :: _ :: _ :: _ :: _ :: _ :: _ :: _ :: _ :: _ :: _ :: _ :: _ :: _ :: _ :: _ :: _ :: _ :: _ :: _ :: _ :: _ :: _ :: _ :: _ :: _ :: _ :: _ :: _ :: _ :: _ :: _ :: _ :: _ :: _ :: _ :: _ :: _ :: _ :: _ :: _ :: []).toArray, []⟩ _
    refine HRG _ HL HX HS HY HZ HF HV HB HRS HCS HCX HCY HCZ HCV HCR HOX HOY HOZ HOV HOR HD HOL HO3 HO6 HO8 HX2 HC2 HM0 HY4 HM4 HC4 HZ5 HV7 HC7 HT HU HRR HC11 HF3 HT3 hx2 hy4 hz5 hv7 hr11 hl8 ?_
    intro x71 x72 x73 x74 x75 x76 x77 x78 x79 x80 x81 x82 x83 x84 x85 x86 x87 x88 x89 x90 x91 x92 x93 x94 x95 x96 x97 x98 x99 x100 x101 x102 x103 x104 x105 x106 x107 x108 x109 x110 x111 x112 x113 x114 x115 x116 x117 x118 x119 x120 x121 x122 x123 x124 x125 x126 x127 x128 x129 s130 wk hs hb
    subst hs
    have HK := hide hb
    go_wp2_with fail
    go_meet
    exact ⟨rfl, HK.out⟩
  case rest =>
    obtain ⟨rfl, hbc⟩ := hcut
    have HK := hide hbc
    clear hbc m0 m1 m2 m3 x0 x1 x2 x3 x4 x5 y0 y1 y2 y3 y4 y5 z0 z1 z2 z3 z4 z5 v0 v1 v2 v3 v4 v5 r0 r1 r2 r3 r4 r5
    obtain ⟨⟨m0, m1, m2, m3⟩, ⟨x0, x1, x2, x3, x4, x5⟩, ⟨y0, y1, y2, y3, y4, y5⟩, ⟨z0, z1, z2, z3, z4, z5⟩, ⟨v0, v1, v2, v3, v4, v5⟩, ⟨r0, r1, r2, r3, r4, r5⟩⟩ := HCS.out _ HK.out
    have hTs : T.size ≤ 4440 := by rw [← HT.out]; exact netS_small l8
    have HTM : Hid (T.size ≤ maxLen) := hide (by unfold maxLen; omega)
    have heq := ms_self M4
    go_upto_region 16 with fail
    go_cut [166] (fun s166 wx => s166 = .bool false ∧ Below wz.heap.size wz wx)
    case first =>
      clear m0 m1 m2 m3 x0 x1 x2 x3 x4 x5 y0 y1 y2 y3 y4 y5 z0 z1 z2 z3 z4 z5 v0 v1 v2 v3 v4 v5 r0 r1 r2 r3 r4 r5
      refine wp_only ?_
      have hcc : Tryz.f3.body.bind (regOf 16) = some _ := rfl
      have HRG := fun K => @reg16 _ hcc K E
      change Code.wp Tryz.prog _ (OnlyN _) ⟨(_ :: _ :: _ :: _ :: _ :: (.slice (some ⟨g1, 0, none⟩) l.length c1) :: (.pointer (some ⟨bm, 0, none⟩)) :: (.pointer (some ⟨bx, 0, none⟩)) :: (.slice (some ⟨g3, 0, none⟩) l3.length c3) :: (.string f3) :: (.string t3) :: (.pointer (some ⟨byy, 0, none⟩)) :: (.pointer (some ⟨bz, 0, none⟩)) :: (.slice (some ⟨g6, 0, none⟩) l6.length c6) :: (.int .i64 a6) :: (.int .i64 n6) :: (.pointer (some ⟨bv, 0, none⟩)) :: (.slice (some ⟨g8, 0, none⟩) l8.length c8) :: (.string T) :: (.string u) :: (.pointer (some ⟨br, 0, none⟩)) :: _ :: _ :: _ :: _ :: _ :: _ :: _ :: _ :: _ :: _ :: _ :: _ :: _ :: _ :: _ :: _ :: _ :: _ :: _ :: _ :: _ :: _ :: _ :: _ :: _ :: _ :: _ :: _ :: _ :: _ :: _ :: _ :: _ :: _ :: _ :: _ :: _ :: _ :: _ :: _ :: _ :: _ :: _ :: _ :: _ :: _ :: _ :: _ :: _ :: _ :: _ :: _ :: _ :: _ :: _ :: _ :: _ :: _ :: _ :: _ :: _ :: _ :: _ :: _ :: _ :: _ :: _ :: _ :: _ :: _ :: _ :: _ :: _ :: _ :: _ :: _ :: _ :: _ :: _ :: _ :: _ :: _ :: _ :: _ :: _ :: _ :: _ :: _ :: _ :: _ :: _ :: _ :: _ :: _ :: _ :: _ :: _ :: _ :: _ :: _ :: _ :: _ :: _ :: _ :: _ :: _ :: _ :: _ :: _ :: _ :: _ :: _ :: _ :: _ :: _ :: _ :: _ :: _ :: _ :: _ :: _ :: _ :: _ :: _ :: _ :: _ :: _ :: _ :: _ :: _ :: _ :: _ :: _ :: _ :: _ :: _ :: _ :: _ :: _ :: _ :: _ :: _ :: _ :: _ :: _ :: _ :: _ :: _ :: _ :: _ :: _ :: _ :: _ :: _ :: _ :: _ :: _ :: _ :: _ :: _ :: _ :: _ :: _ :: _ :: _ :: _ :: _ :: _ :: _ :: _ :: _ :: _ :: _ :: _ :: _ :: _ :: _ :: _ :: _ :: _ :: _ :: _ :: _ :: _ :: _ :: _ :: _ :: _ :: _ :: _ :: _ :: _ :: _ :: _ :: _ :: _ :: _ :: _ :: _ :: _ :: _ :: _ :: _ :: _ :: []).toArray, []⟩ _
      refine HRG _ HB HRS HCS HOR HM0 HT HRR HC11 hr11 hl8 HK ?_
      intro x131 x132 x133 x134 x135 x136 x137 x138 x139 x140 x141 x142 x143 x144 x145 x146 x147 x148 x149 x150 x151 x152 x153 x154 x155 x156 x157 x158 x159 x160 x161 x162 x163 x164 x165 s166 wk hs hb
      subst hs
      have HK := hide hb
      go_wp2_with fail
      go_meet
      exact ⟨rfl, HK.out⟩
    case rest =>
      obtain ⟨rfl, hbc⟩ := hcut
      have HK := hide hbc
      clear hbc m0 m1 m2 m3 x0 x1 x2 x3 x4 x5 y0 y1 y2 y3 y4 y5 z0 z1 z2 z3 z4 z5 v0 v1 v2 v3 v4 v5 r0 r1 r2 r3 r4 r5
      obtain ⟨⟨m0, m1, m2, m3⟩, ⟨x0, x1, x2, x3, x4, x5⟩, ⟨y0, y1, y2, y3, y4, y5⟩, ⟨z0, z1, z2, z3, z4, z5⟩, ⟨v0, v1, v2, v3, v4, v5⟩, ⟨r0, r1, r2, r3, r4, r5⟩⟩ := HCS.out _ HK.out
      go_upto_region 18 with fail
      go_cut [182] (fun s182 wx => s182 = .bool false ∧ Below wz.heap.size wz wx)
      case first =>
        by_cases hC : C7 = 0
        · obtain ⟨-, ha1, ha3, hlen⟩ := fault_net (why_zero (HC7.out.trans hC))
          rw [HV7.out] at hlen
          clear m0 m1 m2 m3 x0 x1 x2 x3 x4 x5 y0 y1 y2 y3 y4 y5 z0 z1 z2 z3 z4 z5 v1 v2 v3 v4 r0 r1 r2 r3 r4 r5 HL HX HS HY HZ HF HV HB HRS HCX HCY HCZ HCV HCR HOX HOY HOZ HOV HOR HD HOL HO3 HO6 HO8 HNB HMG HTM heq hTs HSZ HCS HW HNX HX2 HC2 HM0 HY4 HM4 HC4 HZ5 HV7 HT HU HRR HC11 HF3 HT3 HR HMR hu hr11 hl8 hy4 hz5 hx2 hl3 hll hd1 hd2 hb1 hb2 HC7
          subst hC
          have h6m : (l6.length : Int) ≤ 9 := by omega
          have h7m : (V7.length : Int) ≤ 10 := by omega
          rcases (show a6 = 1 ∨ a6 = 2 ∨ a6 = 3 by omega) with rfl | rfl | rfl
          · have hle : (V7.length : Int) = (l6.length : Int) - 1 := by simp at hlen; omega
            clear hlen
            refine wp_only ?_
            have hcc : Tryz.f3.body.bind (regOf 18) = some _ := rfl
            have HRG := fun K => @reg18_1 _ hcc K
            change Code.wp Tryz.prog _ (OnlyN _) ⟨(_ :: _ :: _ :: _ :: _ :: (.slice (some ⟨g1, 0, none⟩) l.length c1) :: (.pointer (some ⟨bm, 0, none⟩)) :: (.pointer (some ⟨bx, 0, none⟩)) :: (.slice (some ⟨g3, 0, none⟩) l3.length c3) :: (.string f3) :: (.string t3) :: (.pointer (some ⟨byy, 0, none⟩)) :: (.pointer (some ⟨bz, 0, none⟩)) :: (.slice (some ⟨g6, 0, none⟩) l6.length c6) :: (.int .i64 1) :: (.int .i64 n6) :: (.pointer (some ⟨bv, 0, none⟩)) :: (.slice (some ⟨g8, 0, none⟩) l8.length c8) :: (.string T) :: (.string u) :: (.pointer (some ⟨br, 0, none⟩)) :: _ :: _ :: _ :: _ :: _ :: _ :: _ :: _ :: _ :: _ :: _ :: _ :: _ :: _ :: _ :: _ :: _ :: _ :: _ :: _ :: _ :: _ :: _ :: _ :: _ :: _ :: _ :: _ :: _ :: _ :: _ :: _ :: _ :: _ :: _ :: _ :: _ :: _ :: _ :: _ :: _ :: _ :: _ :: _ :: _ :: _ :: _ :: _ :: _ :: _ :: _ :: _ :: _ :: _ :: _ :: _ :: _ :: _ :: _ :: _ :: _ :: _ :: _ :: _ :: _ :: _ :: _ :: _ :: _ :: _ :: _ :: _ :: _ :: _ :: _ :: _ :: _ :: _ :: _ :: _ :: _ :: _ :: _ :: _ :: _ :: _ :: _ :: _ :: _ :: _ :: _ :: _ :: _ :: _ :: _ :: _ :: _ :: _ :: _ :: _ :: _ :: _ :: _ :: _ :: _ :: _ :: _ :: _ :: _ :: _ :: _ :: _ :: _ :: _ :: _ :: _ :: _ :: _ :: _ :: _ :: _ :: _ :: _ :: _ :: _ :: _ :: _ :: _ :: _ :: _ :: _ :: _ :: _ :: _ :: _ :: _ :: _ :: _ :: _ :: _ :: _ :: _ :: _ :: _ :: _ :: _ :: _ :: _ :: _ :: _ :: _ :: _ :: _ :: _ :: _ :: _ :: _ :: _ :: _ :: _ :: _ :: _ :: _ :: _ :: _ :: _ :: _ :: _ :: _ :: _ :: _ :: _ :: _ :: _ :: _ :: _ :: _ :: _ :: _ :: _ :: _ :: _ :: _ :: _ :: _ :: _ :: _ :: _ :: _ :: _ :: _ :: _ :: _ :: _ :: _ :: _ :: _ :: _ :: _ :: _ :: _ :: _ :: _ :: _ :: []).toArray, []⟩ _
            refine HRG _ v5 v0 hle h6m ?_
            intro x167 x168 x169 x170 x171 x172 x173 x174 x175 x176 x177 x178 x179 x180 x181 s182 wk hs hb
            subst hs
            go_wp2_with fail
            go_meet
            exact ⟨rfl, bel_next HK.out hb⟩
          · have hle : (V7.length : Int) = (l6.length : Int) + 1 := by simp at hlen; omega
            clear hlen
            refine wp_only ?_
            have hcc : Tryz.f3.body.bind (regOf 18) = some _ := rfl
            have HRG := fun K => @reg18_2 _ hcc K
            change Code.wp Tryz.prog _ (OnlyN _) ⟨(_ :: _ :: _ :: _ :: _ :: (.slice (some ⟨g1, 0, none⟩) l.length c1) :: (.pointer (some ⟨bm, 0, none⟩)) :: (.pointer (some ⟨bx, 0, none⟩)) :: (.slice (some ⟨g3, 0, none⟩) l3.length c3) :: (.string f3) :: (.string t3) :: (.pointer (some ⟨byy, 0, none⟩)) :: (.pointer (some ⟨bz, 0, none⟩)) :: (.slice (some ⟨g6, 0, none⟩) l6.length c6) :: (.int .i64 2) :: (.int .i64 n6) :: (.pointer (some ⟨bv, 0, none⟩)) :: (.slice (some ⟨g8, 0, none⟩) l8.length c8) :: (.string T) :: (.string u) :: (.pointer (some ⟨br, 0, none⟩)) :: _ :: _ :: _ :: _ :: _ :: _ :: _ :: _ :: _ :: _ :: _ :: _ :: _ :: _ :: _ :: _ :: _ :: _ :: _ :: _ :: _ :: _ :: _ :: _ :: _ :: _ :: _ :: _ :: _ :: _ :: _ :: _ :: _ :: _ :: _ :: _ :: _ :: _ :: _ :: _ :: _ :: _ :: _ :: _ :: _ :: _ :: _ :: _ :: _ :: _ :: _ :: _ :: _ :: _ :: _ :: _ :: _ :: _ :: _ :: _ :: _ :: _ :: _ :: _ :: _ :: _ :: _ :: _ :: _ :: _ :: _ :: _ :: _ :: _ :: _ :: _ :: _ :: _ :: _ :: _ :: _ :: _ :: _ :: _ :: _ :: _ :: _ :: _ :: _ :: _ :: _ :: _ :: _ :: _ :: _ :: _ :: _ :: _ :: _ :: _ :: _ :: _ :: _ :: _ :: _ :: _ :: _ :: _ :: _ :: _ :: _ :: _ :: _ :: _ :: _ :: _ :: _ :: _ :: _ :: _ :: _ :: _ :: _ :: _ :: _ :: _ :: _ :: _ :: _ :: _ :: _ :: _ :: _ :: _ :: _ :: _ :: _ :: _ :: _ :: _ :: _ :: _ :: _ :: _ :: _ :: _ :: _ :: _ :: _ :: _ :: _ :: _ :: _ :: _ :: _ :: _ :: _ :: _ :: _ :: _ :: _ :: _ :: _ :: _ :: _ :: _ :: _ :: _ :: _ :: _ :: _ :: _ :: _ :: _ :: _ :: _ :: _ :: _ :: _ :: _ :: _ :: _ :: _ :: _ :: _ :: _ :: _ :: _ :: _ :: _ :: _ :: _ :: _ :: _ :: _ :: _ :: _ :: _ :: _ :: _ :: _ :: _ :: _ :: _ :: []).toArray, []⟩ _
            refine HRG _ v5 v0 hle h6m ?_
            intro x167 x168 x169 x170 x171 x172 x173 x174 x175 x176 x177 x178 x179 x180 x181 s182 wk hs hb
            subst hs
            go_wp2_with fail
            go_meet
            exact ⟨rfl, bel_next HK.out hb⟩
          · have hle : (V7.length : Int) = (l6.length : Int) := by simp at hlen; omega
            clear hlen
            refine wp_only ?_
            have hcc : Tryz.f3.body.bind (regOf 18) = some _ := rfl
            have HRG := fun K => @reg18_3 _ hcc K
            change Code.wp Tryz.prog _ (OnlyN _) ⟨(_ :: _ :: _ :: _ :: _ :: (.slice (some ⟨g1, 0, none⟩) l.length c1) :: (.pointer (some ⟨bm, 0, none⟩)) :: (.pointer (some ⟨bx, 0, none⟩)) :: (.slice (some ⟨g3, 0, none⟩) l3.length c3) :: (.string f3) :: (.string t3) :: (.pointer (some ⟨byy, 0, none⟩)) :: (.pointer (some ⟨bz, 0, none⟩)) :: (.slice (some ⟨g6, 0, none⟩) l6.length c6) :: (.int .i64 3) :: (.int .i64 n6) :: (.pointer (some ⟨bv, 0, none⟩)) :: (.slice (some ⟨g8, 0, none⟩) l8.length c8) :: (.string T) :: (.string u) :: (.pointer (some ⟨br, 0, none⟩)) :: _ :: _ :: _ :: _ :: _ :: _ :: _ :: _ :: _ :: _ :: _ :: _ :: _ :: _ :: _ :: _ :: _ :: _ :: _ :: _ :: _ :: _ :: _ :: _ :: _ :: _ :: _ :: _ :: _ :: _ :: _ :: _ :: _ :: _ :: _ :: _ :: _ :: _ :: _ :: _ :: _ :: _ :: _ :: _ :: _ :: _ :: _ :: _ :: _ :: _ :: _ :: _ :: _ :: _ :: _ :: _ :: _ :: _ :: _ :: _ :: _ :: _ :: _ :: _ :: _ :: _ :: _ :: _ :: _ :: _ :: _ :: _ :: _ :: _ :: _ :: _ :: _ :: _ :: _ :: _ :: _ :: _ :: _ :: _ :: _ :: _ :: _ :: _ :: _ :: _ :: _ :: _ :: _ :: _ :: _ :: _ :: _ :: _ :: _ :: _ :: _ :: _ :: _ :: _ :: _ :: _ :: _ :: _ :: _ :: _ :: _ :: _ :: _ :: _ :: _ :: _ :: _ :: _ :: _ :: _ :: _ :: _ :: _ :: _ :: _ :: _ :: _ :: _ :: _ :: _ :: _ :: _ :: _ :: _ :: _ :: _ :: _ :: _ :: _ :: _ :: _ :: _ :: _ :: _ :: _ :: _ :: _ :: _ :: _ :: _ :: _ :: _ :: _ :: _ :: _ :: _ :: _ :: _ :: _ :: _ :: _ :: _ :: _ :: _ :: _ :: _ :: _ :: _ :: _ :: _ :: _ :: _ :: _ :: _ :: _ :: _ :: _ :: _ :: _ :: _ :: _ :: _ :: _ :: _ :: _ :: _ :: _ :: _ :: _ :: _ :: _ :: _ :: _ :: _ :: _ :: _ :: _ :: _ :: _ :: _ :: _ :: _ :: _ :: _ :: []).toArray, []⟩ _
            refine HRG _ v5 v0 hle h6m ?_
            intro x167 x168 x169 x170 x171 x172 x173 x174 x175 x176 x177 x178 x179 x180 x181 s182 wk hs hb
            subst hs
            go_wp2_with fail
            go_meet
            exact ⟨rfl, bel_next HK.out hb⟩
        · have hC' : (C7 == 0) = false := beq_eq_false_iff_ne.2 hC
          clear m0 m1 m2 m3 x0 x1 x2 x3 x4 x5 y0 y1 y2 y3 y4 y5 z0 z1 z2 z3 z4 z5 v1 v2 v3 v4 r0 r1 r2 r3 r4 r5 HL HX HS HY HZ HF HV HB HRS HCX HCY HCZ HCV HCR HOX HOY HOZ HOV HOR HD HOL HO3 HO6 HO8 HNB HMG HTM heq hTs HSZ HCS HW HNX HX2 HC2 HM0 HY4 HM4 HC4 HZ5 HV7 HT HU HRR HC11 HF3 HT3 HR HMR hu hr11 hl8 hy4 hz5 hx2 hl3 hll hd1 hd2 hb1 hb2 HC7
          refine wp_region_grown (by kernel_rfl) (by kernel_rfl) (fun W hW => ?_)
          subst hW
          have hne := grown_some W
          have f5 := grown_cell v5
          repeat (go_big_quiet_step (fail))
          refine wpQuiet_nil ?_
          intro w3 hw3
          go_wp2_with fail
          go_meet
          exact ⟨rfl, bel_next HK.out hw3⟩
      case rest =>
        obtain ⟨rfl, hbc⟩ := hcut
        have HK := hide hbc
        clear hbc m0 m1 m2 m3 x0 x1 x2 x3 x4 x5 y0 y1 y2 y3 y4 y5 z0 z1 z2 z3 z4 z5 v0 v1 v2 v3 v4 v5 r0 r1 r2 r3 r4 r5
        obtain ⟨⟨m0, m1, m2, m3⟩, ⟨x0, x1, x2, x3, x4, x5⟩, ⟨y0, y1, y2, y3, y4, y5⟩, ⟨z0, z1, z2, z3, z4, z5⟩, ⟨v0, v1, v2, v3, v4, v5⟩, ⟨r0, r1, r2, r3, r4, r5⟩⟩ := HCS.out _ HK.out
        have HBE : Hid (∀ W, Below wz.heap.size wz W → Below w.heap.size w W) := hide (fun W h => bel_next HW.out h)
        by_cases hC : C2 = 0
        · have hpn := why_zero (HC2.out.trans hC)
          obtain ⟨hf, hyes, hno⟩ := put_take hpn
          have hX : X2 = l ++ [m] := by rw [← HX2.out]; exact (put_net hpn).1
          rw [← hX] at hf hyes hno
          have HFW := hide hf
          subst hC
          have HOXF : Hid (∀ x ∈ X2, x.ok ∧ x.fit) := hide (fun x hx => by
            rw [hX] at hx
            rcases List.mem_append.1 hx with hx | hx
            · exact (HOL.out x hx).fits
            · simp at hx; subst hx; exact HD.out.fits)
          have HFM : Hid (m.frm.size ≤ maxLen) := hide HD.out.fits.1.1
          have HTO : Hid (m.to.size ≤ maxLen) := hide HD.out.fits.1.2.1
          obtain ⟨NL, hNL⟩ : ∃ x, pickL true X2 m.frm m.to = x := ⟨_, rfl⟩
          obtain ⟨NM, hNM⟩ : ∃ x, pickM X2 m.frm m.to = x := ⟨_, rfl⟩
          obtain ⟨WL, hWL⟩ : ∃ x, pickL false l m.frm m.to = x := ⟨_, rfl⟩
          obtain ⟨WM, hWM⟩ : ∃ x, pickM l m.frm m.to = x := ⟨_, rfl⟩
          have hnl : NL.length ≤ 10 := by have := pickL_len true X2 m.frm m.to; rw [hNL] at this; omega
          have hwl : WL.length ≤ 9 := by have := pickL_len false l m.frm m.to; rw [hWL] at this; omega
          have HNL := hide hNL
          have HNM := hide hNM
          have HWL := hide hWL
          have HWM := hide hWM
          have heqW := ms_self WM
          have heqM := ms_self m
          rw [hNM, hWM, hNL] at hyes
          rw [hNM, hNL] at hno
          clear hX hf hpn hNL hNM hWL hWM
          by_cases hw : findW l m.frm m.to = .normal
          · obtain ⟨e1, e2⟩ := hyes hw
            have HCW : Hid ((findW l m.frm m.to).code = 0) := hide (by rw [hw]; rfl)
            have e3 := e1.symm
            subst e3
            have hlen : (NL.length : Int) = (l.length : Int) := by omega
            clear hyes hno hw e2
            go_wp2_with (first
              | (go_at_call 17; refine (s_see m.frm m.to l _ _ HFM.out HTO.out (fun x hx => (HOL.out x hx).fits.1) (HL.out _ HK.out)).mono ?_; rw [HWL.out, HWM.out, HCW.out]; rintro e wk ⟨vk, rfl, ho, hbk⟩; obtain ⟨pk, ck, rfl⟩ := owns_shape ho; unfold netV; have HBW := hide (box6 wk (.slice pk WL.length ck) WM 0); have hbk := bel_next hbk (malloc1 wk (.cells #[(.slice pk WL.length ck), .string WM.frm, .string WM.to, .string WM.label, .int .i64 WM.sort, .int .i64 0] 29)); have HK := hide (HNX.out _ _ HK.out hbk); obtain ⟨⟨m0, m1, m2, m3⟩, ⟨x0, x1, x2, x3, x4, x5⟩, ⟨y0, y1, y2, y3, y4, y5⟩, ⟨z0, z1, z2, z3, z4, z5⟩, ⟨v0, v1, v2, v3, v4, v5⟩, ⟨r0, r1, r2, r3, r4, r5⟩⟩ := HCS.out _ HK.out; clear hbk; clear ho)
              | (go_at_call 8; have MKW := HBW; refine (i_take (E := E) m.frm m.to X2 _ _ HFM.out HTO.out HOXF.out (HX.out _ HK.out) (HSZ.out _ HK.out)).mono ?_; rw [HNL.out, HNM.out, HFW.out, show Why.code CallKind.normal = 0 from rfl]; rintro e wk2 ⟨vk2, rfl, ho, hbk⟩; have HQ0 := hide (stays (ho.sl (by omega))); obtain ⟨pk2, ck2, rfl⟩ := owns_shape ho; have HQ := hide (HQ0.out.alloc (.cells #[(.slice pk2 NL.length ck2), .string WM.frm, .string WM.to, .string WM.label, .int .i64 WM.sort, .int .i64 0] 29)); unfold netV; have HBN := hide (box6 wk2 (.slice pk2 NL.length ck2) WM 0); have hbk := bel_next hbk (malloc1 wk2 (.cells #[(.slice pk2 NL.length ck2), .string WM.frm, .string WM.to, .string WM.label, .int .i64 WM.sort, .int .i64 0] 29)); obtain ⟨b0, b1, b2, b3, b4, b5⟩ := HBW.out _ hbk; obtain ⟨n0, n1, n2, n3, n4, n5⟩ := HBN.out _ (Below.refl _ _); have HK := hide (HNX.out _ _ HK.out hbk); obtain ⟨⟨m0, m1, m2, m3⟩, ⟨x0, x1, x2, x3, x4, x5⟩, ⟨y0, y1, y2, y3, y4, y5⟩, ⟨z0, z1, z2, z3, z4, z5⟩, ⟨v0, v1, v2, v3, v4, v5⟩, ⟨r0, r1, r2, r3, r4, r5⟩⟩ := HCS.out _ HK.out; clear hbk; clear ho))
            go_ret
            exact ⟨rfl, HBE.out _ HK.out⟩
          · obtain ⟨e1, e2⟩ := hno hw
            obtain ⟨CW, hCW⟩ : ∃ x, (findW l m.frm m.to).code = x := ⟨_, rfl⟩
            have hcw : ¬ CW = 0 := fun h => hw (why_zero (hCW.trans h))
            have HCW := hide hCW
            have e3 := e1.symm
            have e4 := e2.symm
            subst e3 e4
            clear hyes hno hw hCW
            go_wp2_with (first
              | (go_at_call 17; refine (s_see m.frm m.to l _ _ HFM.out HTO.out (fun x hx => (HOL.out x hx).fits.1) (HL.out _ HK.out)).mono ?_; rw [HWL.out, HWM.out, HCW.out]; rintro e wk ⟨vk, rfl, ho, hbk⟩; obtain ⟨pk, ck, rfl⟩ := owns_shape ho; unfold netV; have HBW := hide (box6 wk (.slice pk WL.length ck) WM CW); have hbk := bel_next hbk (malloc1 wk (.cells #[(.slice pk WL.length ck), .string WM.frm, .string WM.to, .string WM.label, .int .i64 WM.sort, .int .i64 CW] 29)); have HK := hide (HNX.out _ _ HK.out hbk); obtain ⟨⟨m0, m1, m2, m3⟩, ⟨x0, x1, x2, x3, x4, x5⟩, ⟨y0, y1, y2, y3, y4, y5⟩, ⟨z0, z1, z2, z3, z4, z5⟩, ⟨v0, v1, v2, v3, v4, v5⟩, ⟨r0, r1, r2, r3, r4, r5⟩⟩ := HCS.out _ HK.out; clear hbk; clear ho)
              | (go_at_call 8; have MKW := HBW; refine (i_take (E := E) m.frm m.to X2 _ _ HFM.out HTO.out HOXF.out (HX.out _ HK.out) (HSZ.out _ HK.out)).mono ?_; rw [HNL.out, HNM.out, HFW.out, show Why.code CallKind.normal = 0 from rfl]; rintro e wk2 ⟨vk2, rfl, ho, hbk⟩; have HQ0 := hide (stays (ho.sl (by omega))); obtain ⟨pk2, ck2, rfl⟩ := owns_shape ho; have HQ := hide (HQ0.out.alloc (.cells #[(.slice pk2 l.length ck2), .string m.frm, .string m.to, .string m.label, .int .i64 m.sort, .int .i64 0] 29)); unfold netV; have HBN := hide (box6 wk2 (.slice pk2 l.length ck2) m 0); have hbk := bel_next hbk (malloc1 wk2 (.cells #[(.slice pk2 l.length ck2), .string m.frm, .string m.to, .string m.label, .int .i64 m.sort, .int .i64 0] 29)); obtain ⟨b0, b1, b2, b3, b4, b5⟩ := HBW.out _ hbk; obtain ⟨n0, n1, n2, n3, n4, n5⟩ := HBN.out _ (Below.refl _ _); have HK := hide (HNX.out _ _ HK.out hbk); obtain ⟨⟨m0, m1, m2, m3⟩, ⟨x0, x1, x2, x3, x4, x5⟩, ⟨y0, y1, y2, y3, y4, y5⟩, ⟨z0, z1, z2, z3, z4, z5⟩, ⟨v0, v1, v2, v3, v4, v5⟩, ⟨r0, r1, r2, r3, r4, r5⟩⟩ := HCS.out _ HK.out; clear hbk; clear ho)
              | (go_at_call 26; refine (lw_msgs l _ _ _ HQ.out.now (HL.out _ HK.out)).mono ?_; rintro e wk3 ⟨rfl, hbk⟩; have HK := hide (HNX.out _ _ HK.out hbk); obtain ⟨⟨m0, m1, m2, m3⟩, ⟨x0, x1, x2, x3, x4, x5⟩, ⟨y0, y1, y2, y3, y4, y5⟩, ⟨z0, z1, z2, z3, z4, z5⟩, ⟨v0, v1, v2, v3, v4, v5⟩, ⟨r0, r1, r2, r3, r4, r5⟩⟩ := HCS.out _ HK.out; clear hbk))
            go_ret
            exact ⟨rfl, HBE.out _ HK.out⟩
        · go_wp2_with fail
          go_ret
          exact ⟨rfl, HBE.out _ HK.out⟩
end Go.Proofs.YtonafcifolddjaaGreatDoor
