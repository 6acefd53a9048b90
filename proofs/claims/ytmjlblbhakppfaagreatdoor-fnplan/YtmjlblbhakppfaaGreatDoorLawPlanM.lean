/- The law of promise 3, walked. -/
import Derived.Test.YtmjlblbhakppfaaGreatDoorQB39
import Derived.Test.YtmjlblbhakppfaaGreatDoorQB22
import Derived.Deep.RegionHeld3
import Derived.Deep.DeepCutAuto
namespace Go.Proofs.YtmjlblbhakppfaaGreatDoor
open Go.RowKit
set_option linter.unusedSimpArgs false
set_option linter.unusedVariables false
attribute [local go_sem ↓] Go.wp_at_zero Go.wp_at_succ

theorem field_codeP (p : Option Addr) (n c : Nat) (C : Int) (W : World) : Sem.run Tryz.prog (Instr.field 28 (.agg #[.slice p n c, .int .i64 C]) 1) W = .ok (.int .i64 C) W := by kernel_rfl
theorem is_fit {part : Bool} {t : ByteArray} {ns : List Nd} (ht : t.size ≤ 8000) (h : IsText part t ns) : ∀ n ∈ ns, n.fit := by
  have h1 := spec_reads h.1
  have e : (⟨(textF 10 ns).1.toList, [], false⟩ : Ss) = stS t 0 [] false := by rw [h.2]; rfl
  have hs := one_small part ht
  rw [← e, h1] at hs
  exact hs.f rfl
/-- what is read with code 0 is told by just this text -/
theorem rd_zero {part : Bool} {t : ByteArray} {ns : List Nd} (h : RdAns part t ns 0) : textV part ns = t ∧ ∀ n ∈ ns, n.fit := by
  by_cases h8 : 8000 < t.size
  · have := (h.big h8).2
    omega
  · by_cases he : ∃ ns', IsText part t ns'
    · obtain ⟨ns', hn⟩ := he
      obtain ⟨rfl, -⟩ := h.good (by omega) ns' hn
      refine ⟨?_, is_fit (by omega) hn⟩
      unfold textV
      rw [if_pos hn.1]
      exact hn.2
    · have := (h.bad (by omega) (fun ns' hn => he ⟨ns', hn⟩)).2
      omega
/-- of a right plan's own text the plan is read -/
theorem rd_own {part : Bool} {ns l : List Nd} {C : Int} (hne : (textV part l).toList ≠ []) (h : RdAns part (textV part l) ns C) : ns = l := (h.good (text_le part l) l (whole_is rfl hne)).1
theorem talks_all (l : List Nd) : ∀ r ∈ rolesV l, talksV l r = true := fun r hr => List.any_eq_true.2 ⟨r, hr, by simp⟩
theorem talks_no {l : List Nd} (h : ∀ n ∈ l, DrNd n) : talksV l nobT = false := by
  unfold talksV
  rw [hasB, List.any_eq_false]
  intro r hr
  rw [rolesV] at hr
  split at hr
  · rename_i hrt
    have h1 := (roles_perm (right_nodes hrt)).2.mem_iff.2 hr
    rw [rolesI_eq] at h1
    rcases fold_mem h1 with h2 | h2
    · cases h2
    · obtain ⟨n, hn, hnt⟩ := List.mem_flatMap.1 h2
      have hd := h n hn
      have hx : r = n.name ∨ r = n.peer := by
        unfold talkers at hnt
        split at hnt
        · simpa using hnt
        · split at hnt
          · exact .inr (by simpa using hnt)
          · cases hnt
      intro e
      have e' : r = nobT := tl_inj (eq_of_beq e)
      rcases hx with rfl | rfl
      · exact hd.n3 e'
      · exact hd.n4 e'
  · cases hr
set_option maxRecDepth 100000 in
set_option maxHeartbeats 8000000 in
theorem law_Plan (ao : Option Addr) (len cap : Nat) (mo : Option Addr) (mlen mcap : Nat) (w : World) (hlm : len ≤ maxLen) (hmm : mlen ≤ maxLen) (hr : ArgRow w ao len) (hmr : ArgRow w mo mlen) (hsw : SortW w) :
    Calls Tryz.prog 3 #[.slice ao len cap, .slice mo mlen mcap] w fun e w' => e = .returned (.bool true) ∧ Below w.heap.size w w' := by
  have HR := hide hr
  have HMR := hide hmr
  have HSW := hide hsw
  have hl2 : len ≤ 9223372036854775807 := by unfold maxLen at hlm; omega
  have hm2 : mlen ≤ 9223372036854775807 := by unfold maxLen at hmm; omega
  have HL : Hid (∀ (w1 w2 : World), Below w.heap.size w w1 → Below w1.heap.size w1 w2 → Below w.heap.size w w2) := hide (fun w1 w2 h1 h2 => h1.trans (h2.mono h1.size))
  clear hr hmr hlm hmm hsw
  by_cases hb1 : 1048576 < len
  · go_enter Tryz.func3, Tryz.ntmps3
    go_wp2_with fail
    go_ret
    exact ⟨rfl, Below.refl _ _⟩
  by_cases hb2 : 1048576 < mlen
  · go_enter Tryz.func3, Tryz.ntmps3
    go_wp2_with fail
    go_ret
    exact ⟨rfl, Below.refl _ _⟩
  have hl : len ≤ 1048576 := by omega
  have hml : mlen ≤ 1048576 := by omega
  have hd1 : decide (1048576 < (len : Int)) = false := by simp; omega
  have hd2 : decide (1048576 < (mlen : Int)) = false := by simp; omega
  go_enter Tryz.func3, Tryz.ntmps3
  go_wp2_with (first
    | (go_at_call 5; refine (draw_planText ao len cap _ hl HR.out).mono ?_; rintro e w1 ⟨v1, l, rfl, hp1⟩; have HP1 := hide hp1; have HW1 := hide hp1.bel; obtain ⟨p1, c1, rfl⟩ := owns_shape hp1.own; clear hp1)
    | (go_at_call 6; refine (plan_text l _ _ (fun n hn => (HP1.out.ok n hn).fits) HP1.out.sl (HSW.out.carry HW1.out)).mono ?_; rintro e w2 ⟨rfl, hb2⟩; have HX2 := hide hb2; have HW2 := hide (HL.out _ _ HW1.out hb2); clear hb2)
    | (go_at_call 7; refine (draw_planRead mo mlen mcap _ hml (HMR.out.below HW2.out)).mono ?_; rintro e w3 ⟨u, rfl, hu3, hb3⟩; have HX3 := hide hb3; have HW3 := hide (HL.out _ _ HW2.out hb3); clear hb3)
    | (go_at_call 8; refine (i_planRead u _ (by unfold maxLen; omega) (HSW.out.carry HW3.out)).mono ?_; rintro e w4 ⟨v4, ns, C, rfl, how4, hb4, hrd4⟩; have HX4 := hide hb4; have HRD4 := hide hrd4; have HO4 := hide how4; have HW4 := hide (HL.out _ _ HW3.out hb4); obtain ⟨p4, c4, rfl⟩ := owns_shape how4; clear hb4 how4 hrd4)
    | (go_at_call 9; have HX5 := hide (malloc1 w4 (.cells #[.slice p4 ns.length c4, .int .i64 C] 28)); have hX15 := ((HX2.out.trans (HX3.out.mono HX2.out.size)).trans (HX4.out.mono (by have := HX2.out.size; have := HX3.out.size; omega))).trans (HX5.out.mono (by have := HX2.out.size; have := HX3.out.size; have := HX4.out.size; omega)); have HX15 := hide hX15; have HW5 := hide (HL.out _ _ HW4.out HX5.out); refine (roles_of l _ _ (fun n hn => (HP1.out.ok n hn).fits) ((HP1.out.sl.carry hX15).up hX15.size)).mono ?_; rintro e w6 ⟨v6, rfl, how6, hb6⟩; have HO6 := hide how6; have HX6 := hide hb6; have HW6 := hide (HL.out _ _ HW5.out hb6); obtain ⟨p6, c6, rfl⟩ := owns_shape how6; clear how6 hb6 hX15)
    | (go_at_call 10; refine (draw_talksIn mo mlen mcap _ hml (HMR.out.below HW6.out)).mono ?_; rintro e w7 ⟨v7, l7, x7, rfl, hx7, hp7⟩; have HP7 := hide hp7; have HX7 := hide hp7.bel; have HW7 := hide (HL.out _ _ HW6.out hp7.bel); obtain ⟨p7, c7, rfl⟩ := owns_shape hp7.own; clear hp7))
  have hX57 : Below (w4.alloc (.cells #[.slice p4 ns.length c4, .int .i64 C] 28)).heap.size (w4.alloc (.cells #[.slice p4 ns.length c4, .int .i64 C] 28)) w7 := HX6.out.trans (HX7.out.mono HX6.out.size)
  have hX17 : Below w1.heap.size w1 w7 := HX15.out.trans (hX57.mono HX15.out.size)
  have hX47 : Below w4.heap.size w4 w7 := HX5.out.trans (hX57.mono HX5.out.size)
  have HB : Hid (∀ (W W' : World), Below w7.heap.size w7 W → Below W.heap.size W W' → Below w7.heap.size w7 W') := hide (fun W W' h1 h2 => h1.trans (h2.mono h1.size))
  have HSL : Hid (∀ W, Below w7.heap.size w7 W → SlAt W W.heap.size (.slice p1 l.length c1) l) := hide (fun W hW => (HP1.out.sl.carry (hX17.trans (hW.mono hX17.size))).up (Nat.le_trans hX17.size hW.size))
  have HSP : Hid (∀ W, Below w7.heap.size w7 W → SlAt W W.heap.size (.slice p7 l7.length c7) l7) := hide (fun W hW => (HP7.out.sl.carry hW).up hW.size)
  have HTX : Hid (∀ W, Below w7.heap.size w7 W → TextsAt W (.slice p6 (rolesV l).length c6) (rolesV l)) := hide (fun W hW => ((texts_own HO6.out (by have := roles_le4 l; omega)).carry HX7.out).carry hW)
  obtain ⟨T0, C0, hT40, hrx⟩ := rd_ex false u
  have HRD : Hid (∀ T' C', RdAns false u T' C' → T0 = T' ∧ C0 = C') := hide hrx
  obtain ⟨e1, e2⟩ := hrx _ _ HRD4.out
  subst e1 e2
  have HSX : Hid (∀ W, Below w7.heap.size w7 W → SlAt W W.heap.size (.slice p4 T0.length c4) T0) := hide (fun W hW => own_slat (owns_below (HO4.out) ((hX47.trans (hW.mono hX47.size)).mono (Nat.le_refl _))) (by omega))
  have HBX : Hid (∀ W, Below w7.heap.size w7 W → W.cell? ⟨w4.heap.size, 0, none⟩ = some (.slice p4 T0.length c4) ∧ W.cell? ⟨w4.heap.size, 1, none⟩ = some (.int .i64 C0)) := hide (fun W hW => by
    have hb := hX57.trans (hW.mono hX57.size)
    exact ⟨(hb.cell (p := ⟨w4.heap.size, 0, none⟩) (by simp)).trans (by simp), (hb.cell (p := ⟨w4.heap.size, 1, none⟩) (by simp)).trans (by simp)⟩)
  have HFL : Hid (∀ n ∈ l, n.fit) := hide (fun n hn => (HP1.out.ok n hn).fits)
  have HFP : Hid (∀ n ∈ l7, n.fit) := hide (fun n hn => (HP7.out.ok n hn).fits)
  have HUM : Hid (u.size ≤ maxLen) := hide (Nat.le_trans hu3 (by unfold maxLen; omega))
  have HXM : Hid (x7.size ≤ maxLen) := hide (Nat.le_trans hx7 (by unfold maxLen; omega))
  have HK : Hid (Below w7.heap.size w7 w7.drew) := hide (Below.refl _ _).drew
  obtain ⟨xb, hxb⟩ : ∃ x, w4.heap.size = x := ⟨_, rfl⟩
  rw [hxb] at HBX ⊢
  obtain ⟨x0, x1⟩ := HBX.out _ (Below.refl _ _)
  obtain ⟨T, hT⟩ : ∃ x, textV false l = x := ⟨_, rfl⟩
  obtain ⟨q, hq⟩ : ∃ x, rightB false l = x := ⟨_, rfl⟩
  obtain ⟨tk, htk⟩ : ∃ x, talksV l7 x7 = x := ⟨_, rfl⟩
  obtain ⟨nn, hnn⟩ : ∃ x, nodesV l = x := ⟨_, rfl⟩
  have HT := hide hT
  have HQ := hide hq
  have HTK := hide htk
  have HNN := hide hnn
  rw [hT]
  clear hX57 hX17 hX47 hrx hxb hT hq htk hnn HP7 HX15 HX2 HX3 HX4 HX5 HX6 HX7 HW1 HW2 HW3 HW4 HW5 HW6 HO6 hu3 hx7
  go_cut [86] (fun s86 wx => s86 = .bool false ∧ Below w7.heap.size w7 wx)
  case first =>
    go_region_held3 (fun w' => w'.cell? ⟨xb, 0, none⟩ = some (.slice p4 T0.length c4) ∧ w'.cell? ⟨xb, 1, none⟩ = some (.int .i64 C0)) (first | exact ⟨x0, x1⟩ | go_keep) ((first
      | (go_at_call 11; refine (s_planText l _ _ HFL.out (HSL.out _ HK.out)).mono ?_; rintro e wk ⟨rfl, hbk⟩; rw [HT.out]; have HK := hide (HB.out _ _ HK.out hbk); obtain ⟨x0, x1⟩ := HBX.out _ HK.out; clear hbk)
      | (go_at_call 12; refine (plan_right l _ _ HFL.out (HSL.out _ HK.out)).mono ?_; rintro e wk ⟨rfl, hbk⟩; rw [HQ.out]; have HK := hide (HB.out _ _ HK.out hbk); obtain ⟨x0, x1⟩ := HBX.out _ HK.out; clear hbk)
      | (go_at_call 13; refine (s_planRight l _ _ HFL.out (HSL.out _ HK.out)).mono ?_; rintro e wk ⟨rfl, hbk⟩; rw [HQ.out]; have HK := hide (HB.out _ _ HK.out hbk); obtain ⟨x0, x1⟩ := HBX.out _ HK.out; clear hbk)
      | (go_at_call 14; refine (s_planRead u _ HUM.out).mono ?_; rintro e wk ⟨vr, nr, Cr, rfl, howr, hbk, hrr⟩; obtain ⟨rfl, rfl⟩ := HRD.out _ _ hrr; have HVR := hide howr; obtain ⟨pr, cr, rfl⟩ := owns_shape howr; have hf0 := field_plan pr T0.length cr C0; have hf1 := field_codeP pr T0.length cr C0; have HK := hide (HB.out _ _ HK.out hbk); obtain ⟨x0, x1⟩ := HBX.out _ HK.out; clear hbk howr hrr)
      | (go_at_call 15; refine (lw_nodes T0 _ _ _ (HSX.out _ HK.out) (own_slat HVR.out (by omega))).mono ?_; rintro e wk ⟨rfl, hbk⟩; have HK := hide (HB.out _ _ HK.out hbk); obtain ⟨x0, x1⟩ := HBX.out _ HK.out; clear hbk)
      | (go_at_call 17; refine (s_rolesOf l _ _ HFL.out (HSL.out _ HK.out)).mono ?_; rintro e wk ⟨vs, rfl, hvs, hbk⟩; have HVS := hide (hvs.texts (by have := roles_le4 l; omega)); obtain ⟨aS, cS, rfl, -⟩ := HVS.out; have HK := hide (HB.out _ _ HK.out hbk); obtain ⟨x0, x1⟩ := HBX.out _ HK.out; clear hbk hvs)
      | (go_at_call 16; refine (lw_texts (rolesV l) _ _ _ (HTX.out _ HK.out) HVS.out).mono ?_; rintro e wk ⟨rfl, hbk⟩; have HK := hide (HB.out _ _ HK.out hbk); obtain ⟨x0, x1⟩ := HBX.out _ HK.out; clear hbk)
      | (go_at_call 18; refine (talks_in l7 x7 _ _ HFP.out (HSP.out _ HK.out)).mono ?_; rintro e wk ⟨rfl, hbk⟩; rw [HTK.out]; have HK := hide (HB.out _ _ HK.out hbk); obtain ⟨x0, x1⟩ := HBX.out _ HK.out; clear hbk)
      | (go_at_call 19; refine (s_talksIn l7 x7 _ _ HFP.out HXM.out (HSP.out _ HK.out)).mono ?_; rintro e wk ⟨rfl, hbk⟩; rw [HTK.out]; have HK := hide (HB.out _ _ HK.out hbk); obtain ⟨x0, x1⟩ := HBX.out _ HK.out; clear hbk)
      | (go_at_call 20; refine (nodes_of l _ _ HFL.out (HSL.out _ HK.out)).mono ?_; rintro e wk ⟨rfl, hbk⟩; rw [HNN.out]; have HK := hide (HB.out _ _ HK.out hbk); obtain ⟨x0, x1⟩ := HBX.out _ HK.out; clear hbk)
      | (go_at_call 21; refine (s_nodesOf l _ _ HFL.out (HSL.out _ HK.out)).mono ?_; rintro e wk ⟨rfl, hbk⟩; rw [HNN.out]; have HK := hide (HB.out _ _ HK.out hbk); obtain ⟨x0, x1⟩ := HBX.out _ HK.out; clear hbk)))
    go_wp2_with fail
    go_meet
    exact ⟨rfl, HK.out⟩
  case rest =>
    obtain ⟨rfl, hbc⟩ := hcut
    have HK := hide hbc
    clear hbc x0 x1 HSP HFP HXM HTK HNN HQ HUM
    obtain ⟨x0, x1⟩ := HBX.out _ HK.out
    go_upto_region 11 with fail
    go_cut [108] (fun s108 wx => s108 = .bool false ∧ Below w7.heap.size w7 wx)
    case first =>
      have hl14 := HP1.out.len
      have HTS : Hid (T.size ≤ maxLen) := hide (by rw [← HT.out]; exact Nat.le_trans (text_le false l) (by unfold maxLen; omega))
      cases hte : (T.toList == [])
      · have HRO : Hid (∀ ns C, RdAns false T ns C → l = ns) := hide (fun ns C h => by
          rw [← HT.out] at h hte
          exact (rd_own (by intro e; rw [e] at hte; simp at hte) h).symm)
        by_cases hC : C0 = 0
        · subst hC
          have HZ := hide (rd_zero HRD4.out)
          go_wp2_with (first
            | (go_at_call 8; refine (i_planRead T _ HTS.out (HSW.out.carry (HL.out _ _ HW7.out HK.out))).mono ?_; rintro e wk ⟨v8, n8, C8, rfl, how8, hbk, hrd8⟩; obtain rfl := HRO.out _ _ hrd8; have HV8 := hide how8; obtain ⟨p8, c8, rfl⟩ := owns_shape how8; have hf0 := field_plan p8 l.length c8 C8; clear how8 hrd8; have HK := hide (HB.out _ _ HK.out hbk); obtain ⟨x0, x1⟩ := HBX.out _ HK.out; clear hbk)
            | (go_at_call 15; refine (lw_nodes l _ _ _ (own_slat HV8.out (by omega)) (HSL.out _ HK.out)).mono ?_; rintro e wk ⟨rfl, hbk⟩; have HK := hide (HB.out _ _ HK.out hbk); obtain ⟨x0, x1⟩ := HBX.out _ HK.out; clear hbk)
            | (go_at_call 6; refine (plan_text T0 _ _ HZ.out.2 (HSX.out _ HK.out) (HSW.out.carry (HL.out _ _ HW7.out HK.out))).mono ?_; rintro e wk ⟨rfl, hbk⟩; rw [HZ.out.1]; have HK := hide (HB.out _ _ HK.out hbk); obtain ⟨x0, x1⟩ := HBX.out _ HK.out; clear hbk))
          go_meet
          exact ⟨rfl, HK.out⟩
        · have hC' : (C0 == 0) = false := beq_eq_false_iff_ne.2 hC
          go_wp2_with (first
            | (go_at_call 8; refine (i_planRead T _ HTS.out (HSW.out.carry (HL.out _ _ HW7.out HK.out))).mono ?_; rintro e wk ⟨v8, n8, C8, rfl, how8, hbk, hrd8⟩; obtain rfl := HRO.out _ _ hrd8; have HV8 := hide how8; obtain ⟨p8, c8, rfl⟩ := owns_shape how8; have hf0 := field_plan p8 l.length c8 C8; clear how8 hrd8; have HK := hide (HB.out _ _ HK.out hbk); obtain ⟨x0, x1⟩ := HBX.out _ HK.out; clear hbk)
            | (go_at_call 15; refine (lw_nodes l _ _ _ (own_slat HV8.out (by omega)) (HSL.out _ HK.out)).mono ?_; rintro e wk ⟨rfl, hbk⟩; have HK := hide (HB.out _ _ HK.out hbk); obtain ⟨x0, x1⟩ := HBX.out _ HK.out; clear hbk))
          go_meet
          exact ⟨rfl, HK.out⟩
      · by_cases hC : C0 = 0
        · subst hC
          have HZ := hide (rd_zero HRD4.out)
          go_wp2_with (first
            | (go_at_call 6; refine (plan_text T0 _ _ HZ.out.2 (HSX.out _ HK.out) (HSW.out.carry (HL.out _ _ HW7.out HK.out))).mono ?_; rintro e wk ⟨rfl, hbk⟩; rw [HZ.out.1]; have HK := hide (HB.out _ _ HK.out hbk); obtain ⟨x0, x1⟩ := HBX.out _ HK.out; clear hbk))
          go_meet
          exact ⟨rfl, HK.out⟩
        · have hC' : (C0 == 0) = false := beq_eq_false_iff_ne.2 hC
          go_wp2_with fail
          go_meet
          exact ⟨rfl, HK.out⟩
    case rest =>
      obtain ⟨rfl, hbc⟩ := hcut
      have HK := hide hbc
      clear hbc x0 x1
      obtain ⟨R, hR⟩ : ∃ R, rolesV l = R := ⟨_, rfl⟩
      have HTA : Hid (∀ r ∈ R, talksV l r = true) := hide (by rw [← hR]; exact talks_all l)
      have HTN := hide (talks_no HP1.out.ok)
      have hR4 := roles_le4 l
      rw [hR] at HTX hR4 ⊢
      clear hR
      obtain ⟨L, hL⟩ : ∃ L, R.length = L := ⟨_, rfl⟩
      have HLL := hide hL
      rw [hL] at HTX hR4 ⊢
      clear hL
      go_wp2_with fail
      go_loopw [12] (fun i wr => ∃ k : Nat, k ≤ L ∧ i = .int .i64 k ∧ Below w7.heap.size w7 wr) (fun i _ => L - (intOf i).toNat)
      case atStart => exact ⟨0, Nat.zero_le _, rfl, HK.out⟩
      case round =>
        obtain ⟨k, hk, rfl, hbel⟩ := hrel
        have HBEL := hide hbel
        clear hbel HK
        by_cases hlt : k < L
        · have hkr : k < R.length := by rw [HLL.out]; exact hlt
          obtain ⟨r, hr⟩ : ∃ r, R[k] = r := ⟨_, rfl⟩
          have htr : talksV l r = true := HTA.out r (by rw [← hr]; exact List.getElem_mem hkr)
          have HTR := hide htr
          obtain ⟨b6, o6, hp6, hcell⟩ : ∃ b o, p6 = some ⟨b, o, none⟩ ∧ wr.cell? ⟨b, o + k, none⟩ = some (.string r) := by
            obtain ⟨ax, cx, e, h1, h2, h3⟩ := HTX.out _ HBEL.out
            injection e with e1 e2 e3
            obtain ⟨b, o, eb, hc⟩ := h3 (by intro h; rw [h] at hkr; simp at hkr)
            exact ⟨b, o, by rw [e1, eb], by rw [← hr]; exact hc k hkr⟩
          subst hp6
          clear hr htr
          go_wp2_with (first
            | (go_at_call 18; refine (talks_in l r _ _ HFL.out (HSL.out _ HBEL.out)).mono ?_; rintro e wk ⟨rfl, hbk⟩; rw [HTR.out]; have HBK := hide (HB.out _ _ HBEL.out hbk); clear hbk))
          go_roundw
          case rel => exact ⟨k + 1, hlt, by go_num, HBK.out⟩
          case measure => simp [intOf]; omega
        · obtain rfl : L = k := by omega
          go_wp2_with (first
            | (go_at_call 18; refine (talks_in l nobT _ _ HFL.out (HSL.out _ HBEL.out)).mono ?_; rintro e wk ⟨rfl, hbk⟩; rw [HTN.out]; have HBK := hide (HB.out _ _ HBEL.out hbk); clear hbk))
          go_ret
          exact ⟨rfl, HL.out _ _ HW7.out HBK.out⟩
end Go.Proofs.YtmjlblbhakppfaaGreatDoor
