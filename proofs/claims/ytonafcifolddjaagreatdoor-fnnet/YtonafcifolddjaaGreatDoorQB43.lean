/- NetFault of the specification: the whole. -/
import Derived.Test.YtonafcifolddjaaGreatDoorQB42
namespace Go.Proofs.YtonafcifolddjaaGreatDoor
open Go.RowKit
attribute [local go_sem ↓] Go.wp_at_zero Go.wp_at_succ

set_option maxRecDepth 100000 in
set_option maxHeartbeats 1000000 in
theorem s_netFault (l : List RMsg) (kind n : Int) (b o cap : Nat) (w : World) (hok : ∀ x ∈ l, x.ok) (hv : RMsgSl w w.heap.size (.slice (some ⟨b, o, none⟩) l.length cap) l) :
    Calls Tryz.prog 19 #[.slice (some ⟨b, o, none⟩) l.length cap, .int .i64 kind, .int .i64 n] w fun e w' => NetAnsS w w' e (faultR l kind n) noMsg (faultW l kind n).code := by
  have HOK := hide hok
  have HV := hide hv
  have hlm := hv.lenm
  obtain ⟨qk, hqk⟩ : ∃ q, kindB kind = q := ⟨_, rfl⟩
  obtain ⟨qt, hqt⟩ : ∃ q, timeB n = q := ⟨_, rfl⟩
  obtain ⟨q, hq⟩ : ∃ q, netB l = q := ⟨_, rfl⟩
  have HQK := hide hqk
  have HQT := hide hqt
  have HQ := hide hq
  clear hok hv
  by_cases h4 : 400 < l.length
  · have hpw : faultW l kind n = .wrapped := by
      have : refuseW l (kindB kind && timeB n) = .wrapped := by rw [refuseW, if_pos h4]
      rw [faultW_no (by rw [this]; intro h; cases h), this]
    rw [faultR_no (by rw [hpw]; intro h; cases h), hpw, show Why.code .wrapped = 2 from rfl]
    clear hpw hq hqk hqt
    go_enter Tryz.func19, Tryz.ntmps19
    go_wp2_with (go_at_call 52; refine (s_ill 2 _).mono ?_; rintro e w4 ⟨v4, rfl, ho4, hb4⟩; have HB4 : Hid (Below (w.heap.size + 1) (w.alloc outZ) w4) := hide (by have := hb4; simpa [outZ] using this); have HO4 := hide (ho4.own (by simp)); obtain ⟨pa, pc, rfl⟩ := owns_shape ho4; obtain ⟨⟨e0, e1, e2, e3, e4, e5⟩, ez, -⟩ := out_cells HB4.out; have z0 := ez 0; have z1 := ez 1; have z2 := ez 2; have z3 := ez 3; have z4 := ez 4; have z5 := ez 5; clear ez; clear hb4 ho4; unfold netV noMsg)
    obtain ⟨W4, hW4⟩ : ∃ W4, W4 = ((((((w4.setCell ⟨w.heap.size, 0, none⟩ (.slice pa 0 pc)).setCell ⟨w.heap.size, 1, none⟩ (.string ByteArray.empty)).setCell ⟨w.heap.size, 2, none⟩ (.string ByteArray.empty)).setCell ⟨w.heap.size, 3, none⟩ (.string ByteArray.empty)).setCell ⟨w.heap.size, 4, none⟩ (.int .i64 0)).setCell ⟨w.heap.size, 5, none⟩ (.int .i64 2)) := ⟨_, rfl⟩
    rw [← hW4]
    have hE := ans_endS (m := noMsg) (c := 2) HB4.out (Nat.lt_succ_self _) (by have := HO4.out; simpa using this) hW4
    obtain ⟨⟨r0, r1, r2, r3, r4, r5⟩, hE1, hE2⟩ := hE
    clear hW4 e0 e1 e2 e3 e4 e5 z0 z1 z2 z3 z4 z5
    refine bodyPost_ret_by (v := netV (.slice pa 0 pc) noMsg 2) ?_ rfl ⟨_, rfl, hE1, hE2⟩
    unfold netV noMsg
    unfold noMsg at r1 r2 r3 r4
    simp only [] at r1 r2 r3 r4
    unfold results
    go_simp
  · have hrf : refuseW l (kindB kind && timeB n) = if (qk && qt) && q then .normal else .report := by rw [refuseW, if_neg h4, hqk, hqt, hq]
    by_cases hall : q = true ∧ qk = true ∧ qt = true
    · obtain ⟨rfl, rfl, rfl⟩ := hall
      have hfw := faultW_yes (l := l) (a := kind) (n := n) (by rw [hrf]; rfl)
      have h36 := net_len hq
      have hk1 : 1 ≤ kind := by simp [kindB] at hqk; omega
      have hk3 : kind ≤ 3 := by simp [kindB] at hqk; omega
      have hn0 : 0 ≤ n := by simp [timeB] at hqt; omega
      have hn1 : n ≤ 1000000 := by simp [timeB] at hqt; omega
      obtain ⟨cd, hcd⟩ : ∃ cd, (faultW l kind n).code = cd := ⟨_, rfl⟩
      obtain ⟨R, hR⟩ : ∃ R, faultR l kind n = R := ⟨_, rfl⟩
      rw [hcd, hR]
      have HC : Hid ((doneW l kind n).code = cd) := hide (by rw [← hfw, hcd])
      have HR : Hid ((if doneW l kind n matches .normal then doneR l kind n else []) = R) := hide (by
        rw [← hR, ← hfw]
        unfold faultR
        generalize faultW l kind n = y
        cases y <;> rfl)
      clear hfw hcd hR hrf hq hqk hqt
      go_enter Tryz.func19, Tryz.ntmps19
      go_wp2_with (first
        | (go_at_call 23; refine (s_net HQ.out _ _ HOK.out ((HV.out.carry (malloc1 _ _)).up (malloc1 _ _).size)).mono ?_; rintro e w1 ⟨rfl, hb1⟩; have HB1 : Hid (Below (w.heap.size + 1) (w.alloc outZ) w1) := hide (by have := hb1; simpa [outZ] using this); clear hb1)
        | (go_at_call 57; refine (sb_kind HQK.out _).mono ?_; rintro e w' ⟨rfl, hw⟩; obtain rfl : w1 = w' := hw.symm; clear hw)
        | (go_at_call 58; refine (sb_time HQT.out _).mono ?_; rintro e w' ⟨rfl, hw⟩; obtain rfl : w1 = w' := hw.symm; clear hw)
        | (go_at_call 59; have hpp := s_l05fault l kind n b o cap w1 h36 hk1 hk3 hn0 hn1 HOK.out ((HV.out.carry (out_cells HB1.out).2.2).up (out_cells HB1.out).2.2.size); rw [HC.out] at hpp; refine hpp.mono ?_; rintro e w4 ⟨v4, rfl, ho4', hb4⟩; have ho4 : OwnS w4 w1.heap.size v4 R := (by rw [← HR.out]; exact ho4'); clear ho4'; have HB4 : Hid (Below (w.heap.size + 1) (w.alloc outZ) w4) := hide (out_next HB1.out hb4); have HO4 := hide ho4; obtain ⟨pa, pc, rfl⟩ := ho4.sl.shape; obtain ⟨⟨e0, e1, e2, e3, e4, e5⟩, ez, -⟩ := out_cells HB4.out; have z0 := ez 0; have z1 := ez 1; have z2 := ez 2; have z3 := ez 3; have z4 := ez 4; have z5 := ez 5; clear ez; clear hb4 ho4 hpp; unfold netV noMsg))
      obtain ⟨W4, hW4⟩ : ∃ W4, W4 = ((((((w4.setCell ⟨w.heap.size, 0, none⟩ (.slice pa R.length pc)).setCell ⟨w.heap.size, 1, none⟩ (.string ByteArray.empty)).setCell ⟨w.heap.size, 2, none⟩ (.string ByteArray.empty)).setCell ⟨w.heap.size, 3, none⟩ (.string ByteArray.empty)).setCell ⟨w.heap.size, 4, none⟩ (.int .i64 0)).setCell ⟨w.heap.size, 5, none⟩ (.int .i64 cd)) := ⟨_, rfl⟩
      rw [← hW4]
      have hE := ans_endS (m := noMsg) (c := cd) HB4.out (out_size HB1.out) HO4.out hW4
      obtain ⟨⟨r0, r1, r2, r3, r4, r5⟩, hE1, hE2⟩ := hE
      clear hW4 e0 e1 e2 e3 e4 e5 z0 z1 z2 z3 z4 z5
      refine bodyPost_ret_by (v := netV (.slice pa R.length pc) noMsg cd) ?_ rfl ⟨_, rfl, hE1, hE2⟩
      unfold netV noMsg
      unfold noMsg at r1 r2 r3 r4
      simp only [] at r1 r2 r3 r4
      unfold results
      go_simp
    · have hpw : faultW l kind n = .report := by
        have : refuseW l (kindB kind && timeB n) = .report := by rw [hrf]; cases q <;> cases qk <;> cases qt <;> first | rfl | exact absurd ⟨rfl, rfl, rfl⟩ hall
        rw [faultW_no (by rw [this]; intro h; cases h), this]
      rw [faultR_no (by rw [hpw]; intro h; cases h), hpw, show Why.code .report = 1 from rfl]
      clear hpw hrf hq hqk hqt
      cases q
      · clear hall
        go_enter Tryz.func19, Tryz.ntmps19
        go_wp2_with (first
          | (go_at_call 23; refine (s_net HQ.out _ _ HOK.out ((HV.out.carry (malloc1 _ _)).up (malloc1 _ _).size)).mono ?_; rintro e w1 ⟨rfl, hb1⟩; have HB1 : Hid (Below (w.heap.size + 1) (w.alloc outZ) w1) := hide (by have := hb1; simpa [outZ] using this); clear hb1)
          | (go_at_call 52; refine (s_ill 1 w1).mono ?_; rintro e w4 ⟨v4, rfl, ho4, hb4⟩; have HB4 : Hid (Below (w.heap.size + 1) (w.alloc outZ) w4) := hide (out_next HB1.out hb4); have HO4 := hide (ho4.own (by simp)); obtain ⟨pa, pc, rfl⟩ := owns_shape ho4; obtain ⟨⟨e0, e1, e2, e3, e4, e5⟩, ez, -⟩ := out_cells HB4.out; have z0 := ez 0; have z1 := ez 1; have z2 := ez 2; have z3 := ez 3; have z4 := ez 4; have z5 := ez 5; clear ez; clear hb4 ho4; unfold netV noMsg))
        obtain ⟨W4, hW4⟩ : ∃ W4, W4 = ((((((w4.setCell ⟨w.heap.size, 0, none⟩ (.slice pa 0 pc)).setCell ⟨w.heap.size, 1, none⟩ (.string ByteArray.empty)).setCell ⟨w.heap.size, 2, none⟩ (.string ByteArray.empty)).setCell ⟨w.heap.size, 3, none⟩ (.string ByteArray.empty)).setCell ⟨w.heap.size, 4, none⟩ (.int .i64 0)).setCell ⟨w.heap.size, 5, none⟩ (.int .i64 1)) := ⟨_, rfl⟩
        rw [← hW4]
        have hE := ans_endS (m := noMsg) (c := 1) HB4.out (out_size HB1.out) HO4.out hW4
        obtain ⟨⟨r0, r1, r2, r3, r4, r5⟩, hE1, hE2⟩ := hE
        clear hW4 e0 e1 e2 e3 e4 e5 z0 z1 z2 z3 z4 z5
        refine bodyPost_ret_by (v := netV (.slice pa 0 pc) noMsg 1) ?_ rfl ⟨_, rfl, hE1, hE2⟩
        unfold netV noMsg
        unfold noMsg at r1 r2 r3 r4
        simp only [List.length_nil] at r0 r1 r2 r3 r4
        unfold results
        go_simp
      · cases qk
        · clear hall
          go_enter Tryz.func19, Tryz.ntmps19
          go_wp2_with (first
            | (go_at_call 23; refine (s_net HQ.out _ _ HOK.out ((HV.out.carry (malloc1 _ _)).up (malloc1 _ _).size)).mono ?_; rintro e w1 ⟨rfl, hb1⟩; have HB1 : Hid (Below (w.heap.size + 1) (w.alloc outZ) w1) := hide (by have := hb1; simpa [outZ] using this); clear hb1)
            | (go_at_call 57; refine (sb_kind HQK.out _).mono ?_; rintro e w' ⟨rfl, hw⟩; obtain rfl : w1 = w' := hw.symm; clear hw)
            | (go_at_call 52; refine (s_ill 1 w1).mono ?_; rintro e w4 ⟨v4, rfl, ho4, hb4⟩; have HB4 : Hid (Below (w.heap.size + 1) (w.alloc outZ) w4) := hide (out_next HB1.out hb4); have HO4 := hide (ho4.own (by simp)); obtain ⟨pa, pc, rfl⟩ := owns_shape ho4; obtain ⟨⟨e0, e1, e2, e3, e4, e5⟩, ez, -⟩ := out_cells HB4.out; have z0 := ez 0; have z1 := ez 1; have z2 := ez 2; have z3 := ez 3; have z4 := ez 4; have z5 := ez 5; clear ez; clear hb4 ho4; unfold netV noMsg))
          obtain ⟨W4, hW4⟩ : ∃ W4, W4 = ((((((w4.setCell ⟨w.heap.size, 0, none⟩ (.slice pa 0 pc)).setCell ⟨w.heap.size, 1, none⟩ (.string ByteArray.empty)).setCell ⟨w.heap.size, 2, none⟩ (.string ByteArray.empty)).setCell ⟨w.heap.size, 3, none⟩ (.string ByteArray.empty)).setCell ⟨w.heap.size, 4, none⟩ (.int .i64 0)).setCell ⟨w.heap.size, 5, none⟩ (.int .i64 1)) := ⟨_, rfl⟩
          rw [← hW4]
          have hE := ans_endS (m := noMsg) (c := 1) HB4.out (out_size HB1.out) HO4.out hW4
          obtain ⟨⟨r0, r1, r2, r3, r4, r5⟩, hE1, hE2⟩ := hE
          clear hW4 e0 e1 e2 e3 e4 e5 z0 z1 z2 z3 z4 z5
          refine bodyPost_ret_by (v := netV (.slice pa 0 pc) noMsg 1) ?_ rfl ⟨_, rfl, hE1, hE2⟩
          unfold netV noMsg
          unfold noMsg at r1 r2 r3 r4
          simp only [List.length_nil] at r0 r1 r2 r3 r4
          unfold results
          go_simp
        · cases qt
          · clear hall
            go_enter Tryz.func19, Tryz.ntmps19
            go_wp2_with (first
              | (go_at_call 23; refine (s_net HQ.out _ _ HOK.out ((HV.out.carry (malloc1 _ _)).up (malloc1 _ _).size)).mono ?_; rintro e w1 ⟨rfl, hb1⟩; have HB1 : Hid (Below (w.heap.size + 1) (w.alloc outZ) w1) := hide (by have := hb1; simpa [outZ] using this); clear hb1)
              | (go_at_call 57; refine (sb_kind HQK.out _).mono ?_; rintro e w' ⟨rfl, hw⟩; obtain rfl : w1 = w' := hw.symm; clear hw)
              | (go_at_call 58; refine (sb_time HQT.out _).mono ?_; rintro e w' ⟨rfl, hw⟩; obtain rfl : w1 = w' := hw.symm; clear hw)
              | (go_at_call 52; refine (s_ill 1 w1).mono ?_; rintro e w4 ⟨v4, rfl, ho4, hb4⟩; have HB4 : Hid (Below (w.heap.size + 1) (w.alloc outZ) w4) := hide (out_next HB1.out hb4); have HO4 := hide (ho4.own (by simp)); obtain ⟨pa, pc, rfl⟩ := owns_shape ho4; obtain ⟨⟨e0, e1, e2, e3, e4, e5⟩, ez, -⟩ := out_cells HB4.out; have z0 := ez 0; have z1 := ez 1; have z2 := ez 2; have z3 := ez 3; have z4 := ez 4; have z5 := ez 5; clear ez; clear hb4 ho4; unfold netV noMsg))
            obtain ⟨W4, hW4⟩ : ∃ W4, W4 = ((((((w4.setCell ⟨w.heap.size, 0, none⟩ (.slice pa 0 pc)).setCell ⟨w.heap.size, 1, none⟩ (.string ByteArray.empty)).setCell ⟨w.heap.size, 2, none⟩ (.string ByteArray.empty)).setCell ⟨w.heap.size, 3, none⟩ (.string ByteArray.empty)).setCell ⟨w.heap.size, 4, none⟩ (.int .i64 0)).setCell ⟨w.heap.size, 5, none⟩ (.int .i64 1)) := ⟨_, rfl⟩
            rw [← hW4]
            have hE := ans_endS (m := noMsg) (c := 1) HB4.out (out_size HB1.out) HO4.out hW4
            obtain ⟨⟨r0, r1, r2, r3, r4, r5⟩, hE1, hE2⟩ := hE
            clear hW4 e0 e1 e2 e3 e4 e5 z0 z1 z2 z3 z4 z5
            refine bodyPost_ret_by (v := netV (.slice pa 0 pc) noMsg 1) ?_ rfl ⟨_, rfl, hE1, hE2⟩
            unfold netV noMsg
            unfold noMsg at r1 r2 r3 r4
            simp only [List.length_nil] at r0 r1 r2 r3 r4
            unfold results
            go_simp
          · exact absurd ⟨rfl, rfl, rfl⟩ hall
end Go.Proofs.YtonafcifolddjaaGreatDoor
