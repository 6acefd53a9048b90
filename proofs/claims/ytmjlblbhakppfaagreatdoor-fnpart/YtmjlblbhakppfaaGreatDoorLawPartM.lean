/- The law of promise 4, walked. -/
import Derived.Test.YtmjlblbhakppfaaGreatDoorQP40
import Derived.Test.YtmjlblbhakppfaaGreatDoorQP35
import Derived.Test.YtmjlblbhakppfaaGreatDoorQP39
import Derived.Deep.RegionHeld3
import Derived.Deep.DeepCutAuto
namespace Go.Proofs.YtmjlblbhakppfaaGreatDoor
open Go.RowKit
set_option linter.unusedSimpArgs false
set_option linter.unusedVariables false
attribute [local go_sem ↓] Go.wp_at_zero Go.wp_at_succ

theorem bel_next {a b c : World} (h1 : Below a.heap.size a b) (h2 : Below b.heap.size b c) : Below a.heap.size a c := h1.trans (h2.mono h1.size)
/-- what stays readable from a world on -/
def StaysN (w : World) (v : Value) (l : List Nd) : Prop := ∀ W, Below w.heap.size w W → SlAt W W.heap.size v l
theorem staysN {w : World} {v : Value} {l : List Nd} (h : SlAt w w.heap.size v l) : StaysN w v l := fun W hb => (h.carry hb).up hb.size
theorem StaysN.go {w w' : World} {v : Value} {l : List Nd} (h : StaysN w v l) (hb : Below w.heap.size w w') : StaysN w' v l := fun W hW => h W (bel_next hb hW)
theorem StaysN.now {w : World} {v : Value} {l : List Nd} (h : StaysN w v l) : SlAt w w.heap.size v l := h w (Below.refl _ _)
def Box2 (w : World) (b : Nat) (v : Value) (C : Int) : Prop := ∀ W, Below w.heap.size w W → W.cell? ⟨b, 0, none⟩ = some v ∧ W.cell? ⟨b, 1, none⟩ = some (.int .i64 C)
theorem box2 (w : World) (v : Value) (C : Int) : Box2 (w.alloc (.cells #[v, .int .i64 C] 41)) w.heap.size v C := fun W hb =>
  ⟨(hb.cell (p := ⟨w.heap.size, 0, none⟩) (by simp)).trans (by simp), (hb.cell (p := ⟨w.heap.size, 1, none⟩) (by simp)).trans (by simp)⟩
theorem Box2.go {w w' : World} {b : Nat} {v : Value} {C : Int} (h : Box2 w b v C) (hb : Below w.heap.size w w') : Box2 w' b v C := fun W hW => h W (bel_next hb hW)
theorem rdw_sl {w : World} {v : Value} {l : List Nd} (h : RdW w (fun g => g < w.heap.size) v l) : SlAt w w.heap.size v l := by
  obtain ⟨p, c, e, h1, h2, h3, h4⟩ := h
  refine ⟨p, c, e, h1, ⟨by unfold maxLen at h2; omega, by omega⟩, fun hne => ?_⟩
  obtain ⟨g, o, e2, hg, hr⟩ := h4 hne
  exact ⟨g, o, e2, hg, hr⟩
set_option maxRecDepth 100000 in
set_option maxHeartbeats 8000000 in
theorem law_Part (ao : Option Addr) (len cap : Nat) (mo : Option Addr) (mlen mcap : Nat) (w : World) (hlm : len ≤ maxLen) (hmm : mlen ≤ maxLen) (hr : ArgRow w ao len) (hmr : ArgRow w mo mlen) (hsw : SortW w) :
    Calls Tryz.prog 4 #[.slice ao len cap, .slice mo mlen mcap] w fun e w' => e = .returned (.bool true) ∧ Below w.heap.size w w' := by
  have HR := hide hr
  have HMR := hide hmr
  have HSW := hide hsw
  have hl2 : len ≤ 9223372036854775807 := by unfold maxLen at hlm; omega
  have hm2 : mlen ≤ 9223372036854775807 := by unfold maxLen at hmm; omega
  clear hr hmr hlm hmm hsw
  by_cases hb1 : 1048576 < len
  · go_enter Tryz.func4, Tryz.ntmps4
    go_wp2_with fail
    go_ret
    exact ⟨rfl, Below.refl _ _⟩
  by_cases hb2 : 1048576 < mlen
  · go_enter Tryz.func4, Tryz.ntmps4
    go_wp2_with fail
    go_ret
    exact ⟨rfl, Below.refl _ _⟩
  have hl : len ≤ 1048576 := by omega
  have hml : mlen ≤ 1048576 := by omega
  have hd1 : decide (1048576 < (len : Int)) = false := by simp; omega
  have hd2 : decide (1048576 < (mlen : Int)) = false := by simp; omega
  go_enter Tryz.func4, Tryz.ntmps4
  go_upto_region 10 with (first
    | (go_at_call 22; refine (draw_partText ao len cap _ hl HR.out).mono ?_; rintro e w1 ⟨v1, l, rfl, hp⟩; have HFL := hide hp.ok; have hl14 := hp.len; have HL1 := hide (staysN hp.sl); have HW1 := hide hp.bel; obtain ⟨p1, c1, rfl⟩ := sl_shape hp.sl; clear hp)
    | (go_at_call 23; obtain ⟨T, hT⟩ : ∃ x, textV true l = x := ⟨_, rfl⟩; refine (part_text l _ _ HFL.out HL1.out.now (HSW.out.carry HW1.out)).mono ?_; rw [hT]; have HT := hide hT; clear hT; rintro e w2 ⟨rfl, hk⟩; have HL2 := hide (HL1.out.go hk); have HW2 := hide (bel_next HW1.out hk); clear hk HL1 HW1)
    | (go_at_call 24; refine (draw_partRead mo mlen mcap _ hml (HMR.out.below HW2.out)).mono ?_; rintro e w3 ⟨u, rfl, hu3, hk⟩; have HUM : Hid (u.size ≤ maxLen) := hide (by unfold maxLen; omega); have HL3 := hide (HL2.out.go hk); have HW3 := hide (bel_next HW2.out hk); clear hk HL2 HW2)
    | (go_at_call 25; obtain ⟨T0, C0, hT40, hrx⟩ := rd_ex true u; refine (i_partRead u _ HUM.out (HSW.out.carry HW3.out)).mono ?_; rintro e w4 ⟨v4, ns, C, rfl, how4, hb4, hrd4⟩; obtain ⟨e1, e2⟩ := hrx _ _ hrd4; subst e1 e2; have HRD := hide hrx; have HRD4 := hide hrd4; obtain ⟨p4, c4, rfl⟩ := owns_shape how4; have hk := bel_next hb4 (malloc1 w4 (.cells #[.slice p4 T0.length c4, .int .i64 C0] 41)); have HX4 := hide ((staysN (own_slat how4 (by omega))).go (malloc1 w4 (.cells #[.slice p4 T0.length c4, .int .i64 C0] 41))); have HXB4 := hide (box2 w4 (.slice p4 T0.length c4) C0); have HL4 := hide (HL3.out.go hk); have HW4 := hide (bel_next HW3.out hk); clear hk hb4 how4 hrd4 hrx HL3 HW3)
    | (go_at_call 26; refine (draw_partOf mo mlen mcap _ hml (HMR.out.below HW4.out)).mono ?_; rintro e w5 ⟨v5, lp, role, rfl, hro, hp⟩; have HFP := hide (fun n hn => (hp.ok n hn).fits); have hlp := hp.len; have HP5 := hide (staysN hp.sl); obtain ⟨p5, c5, rfl⟩ := owns_shape hp.own; have hk := hp.bel; have HX5 := hide (HX4.out.go hk); have HXB5 := hide (HXB4.out.go hk); have HL5 := hide (HL4.out.go hk); have HW5 := hide (bel_next HW4.out hk); have HRO : Hid (role.size ≤ maxLen) := hide (by unfold maxLen; omega); clear hk hp HX4 HXB4 HL4 HW4)
    | (go_at_call 27; obtain ⟨Y, CY, qp, hpo, hY40, hsnd, hno, hyes⟩ := po_snd lp role (by omega) (by omega); refine (i_partOf lp role Y CY hpo _ w5 HFP.out HRO.out HP5.out.now).mono ?_; rintro e w6 ⟨v6, rfl, how6, hb6⟩; have HPO := hide hpo; have HSND := hide hsnd; have HNO := hide hno; have HYES := hide hyes; have HFY := hide (po_fit hpo HFP.out).1; obtain ⟨p6, c6, rfl⟩ := owns_shape how6; have hk := bel_next hb6 (malloc1 w6 (.cells #[.slice p6 Y.length c6, .int .i64 CY] 41)); have HY6 := hide ((staysN (own_slat how6 (by omega))).go (malloc1 w6 (.cells #[.slice p6 Y.length c6, .int .i64 CY] 41))); have HYB6 := hide (box2 w6 (.slice p6 Y.length c6) CY); have HP6 := hide (HP5.out.go hk); have HX6 := hide (HX5.out.go hk); have HXB6 := hide (HXB5.out.go hk); have HL6 := hide (HL5.out.go hk); have HW6 := hide (bel_next HW5.out hk); clear hk hb6 how6 hpo hsnd hno hyes HP5 HX5 HXB5 HL5 HW5)
    | (go_at_call 28; refine (draw_sound ao len cap _ hl (HR.out.below HW6.out)).mono ?_; rintro e w7 ⟨v7, ls, rfl, hp⟩; have HFS := hide (fun n hn => (hp.ok n hn).fits); have HS := hide (staysN hp.sl); obtain ⟨p7, c7, rfl⟩ := owns_shape hp.own; have hk := hp.bel; have HY := hide (HY6.out.go hk); have HYB := hide (HYB6.out.go hk); have HP := hide (HP6.out.go hk); have HX := hide (HX6.out.go hk); have HXB := hide (HXB6.out.go hk); have HL := hide (HL6.out.go hk); have HW := hide (bel_next HW6.out hk); clear hk hp HY6 HYB6 HP6 HX6 HXB6 HL6 HW6))
  obtain ⟨bx, hbx⟩ : ∃ x, w4.heap.size = x := ⟨_, rfl⟩
  obtain ⟨byy, hby⟩ : ∃ x, w6.heap.size = x := ⟨_, rfl⟩
  rw [hbx] at HXB ⊢
  rw [hby] at HYB ⊢
  clear hbx hby
  have HNX : Hid (∀ W W' : World, Below w7.heap.size w7 W → Below W.heap.size W W' → Below w7.heap.size w7 W') := hide (fun W W' h1 h2 => bel_next h1 h2)
  have HCS : Hid (∀ W, Below w7.heap.size w7 W → (W.cell? ⟨bx, 0, none⟩ = some (.slice p4 T0.length c4) ∧ W.cell? ⟨bx, 1, none⟩ = some (.int .i64 C0)) ∧ (W.cell? ⟨byy, 0, none⟩ = some (.slice p6 Y.length c6) ∧ W.cell? ⟨byy, 1, none⟩ = some (.int .i64 CY))) := hide (fun W hb => ⟨HXB.out W hb, HYB.out W hb⟩)
  have HSZ : Hid (∀ W, Below w7.heap.size w7 W → SortW W) := hide (fun W hb => HSW.out.carry (bel_next HW.out hb))
  have HBE : Hid (∀ W, Below w7.heap.size w7 W → Below w.heap.size w W) := hide (fun W hb => bel_next HW.out hb)
  obtain ⟨ql, hql⟩ : ∃ q, rightB true l = q := ⟨_, rfl⟩
  have HQL := hide hql
  obtain ⟨qs, hqs⟩ := snd_ex ls
  have HQS := hide hqs
  have HK : Hid (Below w7.heap.size w7 w7.drew) := hide (Below.refl _ _).drew
  clear hql hqs HXB HYB HW HSW HR HMR
  obtain ⟨⟨x0, x1⟩, ⟨y0, y1⟩⟩ := HCS.out _ (Below.refl _ _)
  go_cut [93] (fun s93 wx => s93 = .bool false ∧ Below w7.heap.size w7 wx)
  case first =>
    go_region_held3 (fun w' => w'.cell? ⟨bx, 0, none⟩ = some (.slice p4 T0.length c4) ∧ w'.cell? ⟨bx, 1, none⟩ = some (.int .i64 C0) ∧ w'.cell? ⟨byy, 0, none⟩ = some (.slice p6 Y.length c6) ∧ w'.cell? ⟨byy, 1, none⟩ = some (.int .i64 CY)) (first | exact ⟨x0, x1, y0, y1⟩ | go_keep) (first
      | (go_at_call 15; have MKY := HVY; refine (lw_nodes Y _ _ _ (HY.out _ HK.out) HVY.out.now).mono ?_; rintro e wk ⟨rfl, hbk⟩; clear MKY; have HK := hide (HNX.out _ _ HK.out hbk); obtain ⟨⟨x0, x1⟩, ⟨y0, y1⟩⟩ := HCS.out _ HK.out; clear hbk)
      | (go_at_call 15; (fail_if_success (have := HVY)); refine (lw_nodes T0 _ _ _ (HX.out _ HK.out) HVR.out.now).mono ?_; rintro e wk ⟨rfl, hbk⟩; have HK := hide (HNX.out _ _ HK.out hbk); obtain ⟨⟨x0, x1⟩, ⟨y0, y1⟩⟩ := HCS.out _ HK.out; clear hbk)
      | (go_at_call 29; refine (s_partText l _ _ HFL.out (HL.out _ HK.out)).mono ?_; rintro e wk ⟨rfl, hbk⟩; rw [HT.out]; have HK := hide (HNX.out _ _ HK.out hbk); obtain ⟨⟨x0, x1⟩, ⟨y0, y1⟩⟩ := HCS.out _ HK.out; clear hbk)
      | (go_at_call 30; refine (part_right l _ _ HFL.out (HL.out _ HK.out)).mono ?_; rintro e wk ⟨rfl, hbk⟩; rw [HQL.out]; have HK := hide (HNX.out _ _ HK.out hbk); obtain ⟨⟨x0, x1⟩, ⟨y0, y1⟩⟩ := HCS.out _ HK.out; clear hbk)
      | (go_at_call 31; refine (s_partRight l _ _ HFL.out (HL.out _ HK.out)).mono ?_; rintro e wk ⟨rfl, hbk⟩; rw [HQL.out]; have HK := hide (HNX.out _ _ HK.out hbk); obtain ⟨⟨x0, x1⟩, ⟨y0, y1⟩⟩ := HCS.out _ HK.out; clear hbk)
      | (go_at_call 32; refine (s_partRead u _ HUM.out).mono ?_; rintro e wk ⟨vr, nr, Cr, rfl, howr, hbk, hrr⟩; obtain ⟨rfl, rfl⟩ := HRD.out _ _ hrr; have HVR := hide (staysN (own_slat howr (by omega))); obtain ⟨pr, cr, rfl⟩ := owns_shape howr; have hf0 := field_part pr T0.length cr C0; have hf1 := field_code (.slice pr T0.length cr) C0; have HK := hide (HNX.out _ _ HK.out hbk); obtain ⟨⟨x0, x1⟩, ⟨y0, y1⟩⟩ := HCS.out _ HK.out; clear hbk; clear howr hrr)
      | (go_at_call 33; refine (s_partOf lp role Y CY HPO.out _ _ HFP.out HRO.out (HP.out _ HK.out)).mono ?_; rintro e wk ⟨vr, rfl, howr, hbk⟩; have HVY := hide (staysN (rdw_sl howr)); obtain ⟨pr, cr, rfl⟩ := sl_shape (rdw_sl howr); have hf2 := field_part pr Y.length cr CY; have hf3 := field_code (.slice pr Y.length cr) CY; have HK := hide (HNX.out _ _ HK.out hbk); obtain ⟨⟨x0, x1⟩, ⟨y0, y1⟩⟩ := HCS.out _ HK.out; clear hbk; clear howr)
      | (go_at_call 34; refine (i_sound ls qs HQS.out _ _ HFS.out (HS.out _ HK.out)).mono ?_; rintro e wk ⟨rfl, hbk⟩; have HK := hide (HNX.out _ _ HK.out hbk); obtain ⟨⟨x0, x1⟩, ⟨y0, y1⟩⟩ := HCS.out _ HK.out; clear hbk)
      | (go_at_call 35; refine (s_sound ls qs HQS.out _ _ HFS.out (HS.out _ HK.out)).mono ?_; rintro e wk ⟨rfl, hbk⟩; have HK := hide (HNX.out _ _ HK.out hbk); obtain ⟨⟨x0, x1⟩, ⟨y0, y1⟩⟩ := HCS.out _ HK.out; clear hbk))
    go_wp2_with fail
    go_meet
    exact ⟨rfl, HK.out⟩
  case rest =>
    obtain ⟨rfl, hbc⟩ := hcut
    have HK := hide hbc
    clear hbc x0 x1 y0 y1
    obtain ⟨⟨x0, x1⟩, ⟨y0, y1⟩⟩ := HCS.out _ HK.out
    go_upto_region 12 with fail
    go_cut [115] (fun s115 wx => s115 = .bool false ∧ Below w7.heap.size w7 wx)
    case first =>
      have HTS : Hid (T.size ≤ maxLen) := hide (by rw [← HT.out]; exact Nat.le_trans (text_le true l) (by unfold maxLen; omega))
      cases hte : (T.toList == [])
      · have HRO2 : Hid (∀ ns C, RdAns true T ns C → l = ns) := hide (fun ns C h => by
          rw [← HT.out] at h hte
          exact (rd_own (by intro e; rw [e] at hte; simp at hte) h).symm)
        by_cases hC : C0 = 0
        · subst hC
          have HZ := hide (rd_zero HRD4.out)
          go_wp2_with (first
            | (go_at_call 25; refine (i_partRead T _ HTS.out (HSZ.out _ HK.out)).mono ?_; rintro e wk ⟨v8, n8, C8, rfl, how8, hbk, hrd8⟩; obtain rfl := HRO2.out _ _ hrd8; have HV8 := hide (staysN (own_slat how8 (by omega))); obtain ⟨p8, c8, rfl⟩ := owns_shape how8; have hf0 := field_part p8 l.length c8 C8; clear how8 hrd8; have HK := hide (HNX.out _ _ HK.out hbk); obtain ⟨⟨x0, x1⟩, ⟨y0, y1⟩⟩ := HCS.out _ HK.out; clear hbk)
            | (go_at_call 15; refine (lw_nodes l _ _ _ HV8.out.now (HL.out _ HK.out)).mono ?_; rintro e wk ⟨rfl, hbk⟩; have HK := hide (HNX.out _ _ HK.out hbk); obtain ⟨⟨x0, x1⟩, ⟨y0, y1⟩⟩ := HCS.out _ HK.out; clear hbk)
            | (go_at_call 23; refine (part_text T0 _ _ HZ.out.2 (HX.out _ HK.out) (HSZ.out _ HK.out)).mono ?_; rintro e wk ⟨rfl, hbk⟩; rw [HZ.out.1]; have HK := hide (HNX.out _ _ HK.out hbk); obtain ⟨⟨x0, x1⟩, ⟨y0, y1⟩⟩ := HCS.out _ HK.out; clear hbk))
          go_meet
          exact ⟨rfl, HK.out⟩
        · have hC' : (C0 == 0) = false := beq_eq_false_iff_ne.2 hC
          go_wp2_with (first
            | (go_at_call 25; refine (i_partRead T _ HTS.out (HSZ.out _ HK.out)).mono ?_; rintro e wk ⟨v8, n8, C8, rfl, how8, hbk, hrd8⟩; obtain rfl := HRO2.out _ _ hrd8; have HV8 := hide (staysN (own_slat how8 (by omega))); obtain ⟨p8, c8, rfl⟩ := owns_shape how8; have hf0 := field_part p8 l.length c8 C8; clear how8 hrd8; have HK := hide (HNX.out _ _ HK.out hbk); obtain ⟨⟨x0, x1⟩, ⟨y0, y1⟩⟩ := HCS.out _ HK.out; clear hbk)
            | (go_at_call 15; refine (lw_nodes l _ _ _ HV8.out.now (HL.out _ HK.out)).mono ?_; rintro e wk ⟨rfl, hbk⟩; have HK := hide (HNX.out _ _ HK.out hbk); obtain ⟨⟨x0, x1⟩, ⟨y0, y1⟩⟩ := HCS.out _ HK.out; clear hbk))
          go_meet
          exact ⟨rfl, HK.out⟩
      · by_cases hC : C0 = 0
        · subst hC
          have HZ := hide (rd_zero HRD4.out)
          go_wp2_with (first
            | (go_at_call 23; refine (part_text T0 _ _ HZ.out.2 (HX.out _ HK.out) (HSZ.out _ HK.out)).mono ?_; rintro e wk ⟨rfl, hbk⟩; rw [HZ.out.1]; have HK := hide (HNX.out _ _ HK.out hbk); obtain ⟨⟨x0, x1⟩, ⟨y0, y1⟩⟩ := HCS.out _ HK.out; clear hbk))
          go_meet
          exact ⟨rfl, HK.out⟩
        · have hC' : (C0 == 0) = false := beq_eq_false_iff_ne.2 hC
          go_wp2_with fail
          go_meet
          exact ⟨rfl, HK.out⟩
    case rest =>
      obtain ⟨rfl, hbc⟩ := hcut
      have HK := hide hbc
      clear hbc x0 x1 y0 y1
      obtain ⟨⟨x0, x1⟩, ⟨y0, y1⟩⟩ := HCS.out _ HK.out
      obtain ⟨tr, htr⟩ : ∃ x, talksV lp role = x := ⟨_, rfl⟩
      have HTR := hide htr
      rw [htr] at HNO HYES
      clear htr
      by_cases hCY : CY = 0
      · subst hCY
        obtain ⟨hYr, hYn, hYp, hY1⟩ := HYES.out rfl
        have HYR := hide hYr
        have HYN := hide hYn
        have HYP := hide hYp
        have HY1 := hide hY1
        clear HYES HNO hYr hYn hYp hY1
        obtain ⟨L, hL⟩ : ∃ L, Y.length = L := ⟨_, rfl⟩
        have HLL := hide hL
        have hL40 : L ≤ 40 := by omega
        rw [hL] at HCS HY y0
        clear hL
        go_wp2_with fail
        go_loopw [13] (fun i wr => ∃ k : Nat, k ≤ L ∧ i = .int .i64 k ∧ Below w7.heap.size w7 wr) (fun i _ => L - (intOf i).toNat)
        case atStart => exact ⟨0, Nat.zero_le _, rfl, HK.out⟩
        case round =>
          clear x0 x1 y0 y1
          obtain ⟨k, hk, rfl, hbel⟩ := hrel
          have HK := hide hbel
          clear hbel
          obtain ⟨⟨x0, x1⟩, ⟨y0, y1⟩⟩ := HCS.out _ HK.out
          by_cases hlt : k < L
          · have hky : k < Y.length := by rw [HLL.out]; exact hlt
            obtain ⟨nd, hnd⟩ : ∃ x, Y[k] = x := ⟨_, rfl⟩
            have hmem : nd ∈ Y := by rw [← hnd]; exact List.getElem_mem hky
            have hne := HYN.out nd hmem
            have HTP := hide (HYP.out nd hmem)
            have HPZ : Hid (nd.peer.size ≤ maxLen) := hide (Nat.le_trans (HFY.out nd hmem).2 (by unfold maxLen; omega))
            obtain ⟨ax, cx, e, hcx, hmx, hrx⟩ := HY.out _ HK.out
            obtain ⟨g6, o6, e6, -, hrow⟩ := hrx (by intro h; rw [h] at hky; simp at hky)
            injection e with e1 e2 e3
            rw [e6] at e1
            subst e1 e3
            obtain ⟨-, -, d2, -, -⟩ := hrow.get k hky
            rw [hnd] at d2
            clear hrow hrx e2 e6 hnd hmem
            cases hpe : (nd.peer.toList == [])
            · have htp := HTP.out hpe
              have HTQ := hide htp
              clear htp
              go_wp2_with (go_at_call 19; refine (s_talksIn lp nd.peer _ _ HFP.out HPZ.out (HP.out _ HK.out)).mono ?_; rintro e wk ⟨rfl, hbk⟩; rw [HTQ.out]; have HBK := hide (HNX.out _ _ HK.out hbk); clear hbk)
              go_roundw
              case rel => exact ⟨k + 1, hlt, by go_num, HBK.out⟩
              case measure => simp [intOf]; omega
            · go_wp2_with fail
              go_roundw
              case rel => exact ⟨k + 1, hlt, by go_num, HK.out⟩
              case measure => simp [intOf]; omega
          · obtain rfl : L = k := by omega
            cases tr
            · cases hqp : qp
              · go_wp2_with (first
                  | (go_at_call 30; refine (part_right Y _ _ HFY.out (HY.out _ HK.out)).mono ?_; rintro e wk ⟨rfl, hbk⟩; rw [HYR.out]; have HK := hide (HNX.out _ _ HK.out hbk); obtain ⟨⟨x0, x1⟩, ⟨y0, y1⟩⟩ := HCS.out _ HK.out; clear hbk)
                  | (go_at_call 19; refine (s_talksIn lp role _ _ HFP.out HRO.out (HP.out _ HK.out)).mono ?_; rintro e wk ⟨rfl, hbk⟩; rw [HTR.out]; have HK := hide (HNX.out _ _ HK.out hbk); obtain ⟨⟨x0, x1⟩, ⟨y0, y1⟩⟩ := HCS.out _ HK.out; clear hbk)
                  | (go_at_call 35; refine (s_sound lp qp HSND.out _ _ HFP.out (HP.out _ HK.out)).mono ?_; rintro e wk ⟨rfl, hbk⟩; rw [hqp]; have HK := hide (HNX.out _ _ HK.out hbk); obtain ⟨⟨x0, x1⟩, ⟨y0, y1⟩⟩ := HCS.out _ HK.out; clear hbk))
                go_ret
                exact ⟨rfl, HBE.out _ HK.out⟩
              · have hone : L = 1 := by rw [← HLL.out]; exact HY1.out rfl
                subst hone
                go_wp2_with (first
                  | (go_at_call 30; refine (part_right Y _ _ HFY.out (HY.out _ HK.out)).mono ?_; rintro e wk ⟨rfl, hbk⟩; rw [HYR.out]; have HK := hide (HNX.out _ _ HK.out hbk); obtain ⟨⟨x0, x1⟩, ⟨y0, y1⟩⟩ := HCS.out _ HK.out; clear hbk)
                  | (go_at_call 19; refine (s_talksIn lp role _ _ HFP.out HRO.out (HP.out _ HK.out)).mono ?_; rintro e wk ⟨rfl, hbk⟩; rw [HTR.out]; have HK := hide (HNX.out _ _ HK.out hbk); obtain ⟨⟨x0, x1⟩, ⟨y0, y1⟩⟩ := HCS.out _ HK.out; clear hbk)
                  | (go_at_call 35; refine (s_sound lp qp HSND.out _ _ HFP.out (HP.out _ HK.out)).mono ?_; rintro e wk ⟨rfl, hbk⟩; rw [hqp]; have HK := hide (HNX.out _ _ HK.out hbk); obtain ⟨⟨x0, x1⟩, ⟨y0, y1⟩⟩ := HCS.out _ HK.out; clear hbk))
                go_ret
                exact ⟨rfl, HBE.out _ HK.out⟩
            · go_wp2_with (first
                | (go_at_call 30; refine (part_right Y _ _ HFY.out (HY.out _ HK.out)).mono ?_; rintro e wk ⟨rfl, hbk⟩; rw [HYR.out]; have HK := hide (HNX.out _ _ HK.out hbk); obtain ⟨⟨x0, x1⟩, ⟨y0, y1⟩⟩ := HCS.out _ HK.out; clear hbk)
                | (go_at_call 19; refine (s_talksIn lp role _ _ HFP.out HRO.out (HP.out _ HK.out)).mono ?_; rintro e wk ⟨rfl, hbk⟩; rw [HTR.out]; have HK := hide (HNX.out _ _ HK.out hbk); obtain ⟨⟨x0, x1⟩, ⟨y0, y1⟩⟩ := HCS.out _ HK.out; clear hbk))
              go_ret
              exact ⟨rfl, HBE.out _ HK.out⟩
      · cases hqp : qp
        · go_wp2_with (first
            | (go_at_call 34; refine (i_sound lp qp HSND.out _ _ HFP.out (HP.out _ HK.out)).mono ?_; rintro e wk ⟨rfl, hbk⟩; rw [hqp]; have HK := hide (HNX.out _ _ HK.out hbk); obtain ⟨⟨x0, x1⟩, ⟨y0, y1⟩⟩ := HCS.out _ HK.out; clear hbk))
          go_ret
          exact ⟨rfl, HBE.out _ HK.out⟩
        · have htf := HNO.out hCY hqp
          subst htf
          go_wp2_with (first
            | (go_at_call 34; refine (i_sound lp qp HSND.out _ _ HFP.out (HP.out _ HK.out)).mono ?_; rintro e wk ⟨rfl, hbk⟩; rw [hqp]; have HK := hide (HNX.out _ _ HK.out hbk); obtain ⟨⟨x0, x1⟩, ⟨y0, y1⟩⟩ := HCS.out _ HK.out; clear hbk)
            | (go_at_call 19; refine (s_talksIn lp role _ _ HFP.out HRO.out (HP.out _ HK.out)).mono ?_; rintro e wk ⟨rfl, hbk⟩; rw [HTR.out]; have HK := hide (HNX.out _ _ HK.out hbk); obtain ⟨⟨x0, x1⟩, ⟨y0, y1⟩⟩ := HCS.out _ HK.out; clear hbk))
          go_ret
          exact ⟨rfl, HBE.out _ HK.out⟩
end Go.Proofs.YtmjlblbhakppfaaGreatDoor
