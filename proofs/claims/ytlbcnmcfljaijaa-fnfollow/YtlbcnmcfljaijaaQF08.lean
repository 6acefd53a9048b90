import Derived.Test.YtlbcnmcfljaijaaQF04
import Derived.Test.YtlbcnmcfljaijaaQF00
import Derived.Deep.DrawnRows
namespace Go.Proofs.Ytlbcnmcfljaijaa
open Go.RowKit
attribute [local go_sem ↓] Go.wp_at_zero Go.wp_at_succ

set_option maxRecDepth 100000 in
set_option maxHeartbeats 2000000 in
theorem s_machineRight (m : Mach) (v : Value) (w : World) (hf : m.fit) (hv : MachAt w v m) :
    Calls Try.prog 10 #[v] w fun e w' => e = .returned (.bool (machB m)) ∧ Below w.heap.size w w' := by
  have HF := hide hf
  obtain ⟨sv, ev, rfl, hs, he⟩ := hv
  have HS := hide hs
  have HE := hide he
  have hsl := hs.lenm
  have hel := he.lenm
  obtain ⟨sa, sc, rfl, hs1, hs2, hs3⟩ := hs
  obtain ⟨ea, ec, rfl, he1, he2, he3⟩ := he
  have HSR := hide hs3
  have HER := hide he3
  clear hs3 he3 hf
  obtain ⟨i1, hi1⟩ : ∃ i1, inB (m.states.length : Int) 1 40 = i1 := ⟨_, rfl⟩
  obtain ⟨i2, hi2⟩ : ∃ i2, inB m.start 0 ((m.states.length : Int) - 1) = i2 := ⟨_, rfl⟩
  have HI1 := hide hi1
  have HI2 := hide hi2
  clear hi1 hi2
  cases i1
  · have HM : Hid (machB m = false) := hide (by rw [machB, headB, HI1.out]; rfl)
    go_enter Try.func10, Try.ntmps10
    go_wp2_with (go_at_call 22; refine (ms_in _ _ _ _).mono ?_; rintro e w' ⟨rfl, rfl⟩; rw [HI1.out])
    go_ret
    exact ⟨ret_bool HM.out, malloc1 _ _⟩
  · have hn40 : 1 ≤ m.states.length ∧ m.states.length ≤ 40 := by have := HI1.out; simp [inB] at this; omega
    by_cases h80 : m.edges.length ≤ 80
    · cases i2
      · have HM : Hid (machB m = false) := hide (by rw [machB, headB, HI2.out]; simp)
        go_enter Try.func10, Try.ntmps10
        go_wp2_with (first | (go_at_call_of 22 m.start; refine (ms_in m.start _ _ _).mono ?_; rintro e w' ⟨rfl, rfl⟩; rw [HI2.out]) | (go_at_call_of 22 m.states.length; refine (ms_in _ _ _ _).mono ?_; rintro e w' ⟨rfl, rfl⟩; rw [HI1.out]))
        go_ret
        exact ⟨ret_bool HM.out, malloc1 _ _⟩
      · have HHD : Hid (headB m = true) := hide (by rw [headB, HI1.out, HI2.out]; simp [h80])
        go_enter Try.func10, Try.ntmps10
        go_wp2_with (first | (go_at_call_of 22 m.start; refine (ms_in m.start _ _ _).mono ?_; rintro e w' ⟨rfl, rfl⟩; rw [HI2.out]) | (go_at_call_of 22 m.states.length; refine (ms_in _ _ _ _).mono ?_; rintro e w' ⟨rfl, rfl⟩; rw [HI1.out]))
        go_loopw [4] (fun i wr => ∃ k : Nat, k ≤ m.states.length ∧ i = .int .i64 k ∧ (m.states.take k).all mstB = true ∧ Below (w.heap.size + 1) (w.alloc (.cells #[.slice sa m.states.length sc, .slice ea m.edges.length ec, .int .i64 m.start] 26)) wr) (fun i _ => m.states.length - (intOf i).toNat)
        case atStart => exact ⟨0, Nat.zero_le _, rfl, rfl, Below.refl _ _⟩
        case round =>
          obtain ⟨k, hk, rfl, hall, hbel⟩ := hrel
          have HA := hide hall
          have HBEL := hide hbel
          have hszr : w.heap.size + 1 ≤ wr.heap.size := by have := hbel.size; simpa using this
          have HW : Hid (Below w.heap.size w wr) := hide ((malloc1 _ _).trans (hbel.mono (by omega)))
          have b0 : wr.cell? ⟨w.heap.size, 0, none⟩ = some (.slice sa m.states.length sc) := (hbel.cell (p := ⟨w.heap.size, 0, none⟩) (by simp)).trans (by simp)
          have b1 : wr.cell? ⟨w.heap.size, 1, none⟩ = some (.slice ea m.edges.length ec) := (hbel.cell (p := ⟨w.heap.size, 1, none⟩) (by simp)).trans (by simp)
          have b2 : wr.cell? ⟨w.heap.size, 2, none⟩ = some (.int .i64 m.start) := (hbel.cell (p := ⟨w.heap.size, 2, none⟩) (by simp)).trans (by simp)
          clear hall hbel
          by_cases hlt : k < m.states.length
          · obtain ⟨b, o, rfl, hbB, hrow⟩ := HSR.out (by intro h; simp [h] at hlt)
            have hnode := (hrow.get k hlt).carry hbB HW.out
            obtain ⟨x1, hx1⟩ : ∃ x1, x1 = m.states[k] := ⟨_, rfl⟩
            rw [← hx1] at hnode
            have HN := hide hx1
            have HP := hide (show x1.peer.size ≤ maxLen by rw [hx1]; exact Nat.le_trans (HF.out.1 _ (List.getElem_mem hlt)) (by unfold maxLen; omega))
            have HBAD : Hid (mstB x1 = false → machB m = false) := hide (fun h => by
              rw [machB]
              have : m.states.all mstB = false := by
                rw [← Bool.not_eq_true]; intro h2
                have := List.all_eq_true.1 h2 x1 (by rw [hx1]; exact List.getElem_mem hlt)
                rw [h] at this; cases this
              rw [this]; simp)
            have HNX : Hid (mstB x1 = true → (m.states.take (k + 1)).all mstB = true) := hide (fun h => by rw [List.take_succ_eq_append_getElem hlt, List.all_append, HA.out, ← HN.out]; simp [h])
            have HST := hide (show mstB x1 = if x1.kind == 0 then x1.peer.toList == [] else nameB x1.peer && inB x1.kind 0 2 from rfl)
            clear hx1 hrow
            obtain ⟨c0, c1⟩ := hnode
            have hbw : b < wr.heap.size := World.block_lt_of_cell? wr _ c0
            obtain ⟨kz, hkz⟩ : ∃ kz, (x1.kind == 0) = kz := ⟨_, rfl⟩
            obtain ⟨pe, hpe⟩ : ∃ pe, (x1.peer.toList == []) = pe := ⟨_, rfl⟩
            obtain ⟨nb, hnb⟩ : ∃ nb, nameB x1.peer = nb := ⟨_, rfl⟩
            obtain ⟨ib, hib⟩ : ∃ ib, inB x1.kind 0 2 = ib := ⟨_, rfl⟩
            have HKZ := hide hkz
            have HPE := hide hpe
            have HNB := hide hnb
            have HIB := hide hib
            clear hnb hib
            have H0 : Hid (kz = true → ib = true) := hide (fun h => by rw [← HIB.out, inB, show x1.kind = 0 from by have := HKZ.out; rw [h] at this; simpa using this]; rfl)
            have hkn : (x1.kind != 0) = !kz := by rw [bne, hkz]
            cases kz
            all_goals cases pe
            all_goals cases nb
            all_goals cases ib
            all_goals
              first
                | (exfalso; exact absurd (H0.out rfl) (by decide))
                | (go_wp2_with (first | (go_at_call 23; refine (spec_name x1.peer _ HP.out).mono ?_; rintro e w' ⟨rfl, rfl⟩; rw [HNB.out]) | (go_at_call_of 22 x1.kind; refine (ms_in x1.kind _ _ _).mono ?_; rintro e w' ⟨rfl, rfl⟩; rw [HIB.out]))
                   first
                     | (go_ret
                        refine ⟨ret_bool (HBAD.out (by rw [HST.out, HKZ.out, HPE.out, HNB.out, HIB.out]; rfl)), HW.out.trans ((malloc1 _ _).mono (by omega))⟩)
                     | (go_roundw
                        case rel => exact ⟨k + 1, by omega, by go_num, HNX.out (by rw [HST.out, HKZ.out, HPE.out, HNB.out, HIB.out]; rfl), HBEL.out.trans ((malloc1 _ _).mono hszr)⟩
                        case measure => simp [intOf]; omega))
          · have HALL : Hid (m.states.all mstB = true) := hide (by have := HA.out; rwa [List.take_of_length_le (by omega)] at this)
            go_wp2_with fail
            go_loopw [6] (fun i wr2 => ∃ k2 : Nat, k2 ≤ m.edges.length ∧ i = .int .i64 k2 ∧ (List.range k2).all (edgeOk m) = true ∧ Below (w.heap.size + 1) (w.alloc (.cells #[.slice sa m.states.length sc, .slice ea m.edges.length ec, .int .i64 m.start] 26)) wr2) (fun i _ => m.edges.length - (intOf i).toNat)
            case atStart => exact ⟨0, Nat.zero_le _, rfl, rfl, HBEL.out⟩
            case round =>
              clear b0 b1 b2 HBEL HW hszr
              obtain ⟨k2, hk2, rfl, hall2, hbel⟩ := hrel
              have HA2 := hide hall2
              have HBEL := hide hbel
              have hszr : w.heap.size + 1 ≤ wr.heap.size := by have := hbel.size; simpa using this
              have HW : Hid (Below w.heap.size w wr) := hide ((malloc1 _ _).trans (hbel.mono (by omega)))
              have b0 : wr.cell? ⟨w.heap.size, 0, none⟩ = some (.slice sa m.states.length sc) := (hbel.cell (p := ⟨w.heap.size, 0, none⟩) (by simp)).trans (by simp)
              have b1 : wr.cell? ⟨w.heap.size, 1, none⟩ = some (.slice ea m.edges.length ec) := (hbel.cell (p := ⟨w.heap.size, 1, none⟩) (by simp)).trans (by simp)
              clear hall2 hbel
              by_cases hlt2 : k2 < m.edges.length
              · obtain ⟨b, o, rfl, hbB, hrow⟩ := HER.out (by intro h; simp [h] at hlt2)
                have hnode := (hrow.get k2 hlt2).carry hbB HW.out
                have HROW : Hid (∀ j (hj : j < m.edges.length), REdgeAt wr b (o + j * 4) m.edges[j]) := hide (fun j hj => (hrow.get j hj).carry hbB HW.out)
                obtain ⟨e1, he1'⟩ : ∃ e1, e1 = m.edges[k2] := ⟨_, rfl⟩
                rw [← he1'] at hnode
                have HN := hide he1'
                have HLB := hide (show e1.label.size ≤ maxLen by rw [he1']; exact Nat.le_trans (HF.out.2.1 _ (List.getElem_mem hlt2)) (by unfold maxLen; omega))
                have HBAD : Hid (edgeOk m k2 = false → machB m = false) := hide (fun h => by
                  rw [machB]
                  have : (List.range m.edges.length).all (edgeOk m) = false := by
                    rw [← Bool.not_eq_true]; intro h2
                    have := List.all_eq_true.1 h2 k2 (List.mem_range.2 hlt2)
                    rw [h] at this; cases this
                  rw [this]; simp)
                have HNX : Hid (edgeOk m k2 = true → (List.range (k2 + 1)).all (edgeOk m) = true) := hide (fun h => by rw [List.range_succ, List.all_append, HA2.out]; simp [h])
                have HEO : Hid (edgeOk m k2 = (medB m e1 && (match k2, m.edges[k2 - 1]? with
                    | 0, _ => true
                    | _ + 1, some e' => mlessE e' e1
                    | _ + 1, none => true))) := hide (by rw [edgeOk, List.getElem?_eq_getElem hlt2, ← he1']; rfl)
                have HME : Hid (medB m e1 = (inB e1.src 0 ((m.states.length : Int) - 1) && (inB e1.dst 0 ((m.states.length : Int) - 1) && (nameB e1.label && (inB e1.sort 0 2 && !(kindAt m e1.src == 0)))))) := hide rfl
                have HBM : Hid (medB m e1 = false → machB m = false) := hide (fun h => HBAD.out (by rw [HEO.out, h]; rfl))
                clear he1' hrow
                obtain ⟨c0, c1, c2, c3⟩ := hnode
                have hbw : b < wr.heap.size := World.block_lt_of_cell? wr _ c0
                obtain ⟨q1, hq1⟩ : ∃ q1, inB e1.src 0 ((m.states.length : Int) - 1) = q1 := ⟨_, rfl⟩
                obtain ⟨q2, hq2⟩ : ∃ q2, inB e1.dst 0 ((m.states.length : Int) - 1) = q2 := ⟨_, rfl⟩
                obtain ⟨q3, hq3⟩ : ∃ q3, nameB e1.label = q3 := ⟨_, rfl⟩
                obtain ⟨q4, hq4⟩ : ∃ q4, inB e1.sort 0 2 = q4 := ⟨_, rfl⟩
                have HQ1 := hide hq1
                have HQ2 := hide hq2
                have HQ3 := hide hq3
                have HQ4 := hide hq4
                clear hq1 hq2 hq3 hq4
                have hwr : IntKind.i64.wrap ((m.states.length : Int) - 1) = (m.states.length : Int) - 1 := by rw [IntKind.wrap_i64]; omega
                have HGO : Hid (∀ W, W = wr.alloc (.cells #[.int .i64 e1.src, .string e1.label, .int .i64 e1.sort, .int .i64 e1.dst] 52) → Below w.heap.size w W) := hide (fun W hW => by rw [hW]; exact HW.out.trans ((malloc1 _ _).mono (by omega)))
                have HGA : Hid (∀ W, W = wr.alloc (.cells #[.int .i64 e1.src, .string e1.label, .int .i64 e1.sort, .int .i64 e1.dst] 52) → Below (w.heap.size + 1) (w.alloc (.cells #[.slice sa m.states.length sc, .slice (some ⟨b, o, none⟩) m.edges.length ec, .int .i64 m.start] 26)) W) := hide (fun W hW => by rw [hW]; exact HBEL.out.trans ((malloc1 _ _).mono hszr))
                cases q1
                · go_wp2_with fail
                  refine wp_region_grown (by kernel_rfl) (by kernel_rfl) (fun W hW => ?_)
                  have hne := grown_some W
                  have f0 := grown_cell (w := W) (b := wr.heap.size) (o := 0) (v := .int .i64 e1.src) (by rw [hW]; simp)
                  have HBW := hide (HGO.out W hW)
                  clear hW
                  repeat (go_big_quiet_step (first
                      | (go_at_call_of 22 e1.src; exact grown_same (ms_in_at HQ1.out _))
                      | (go_at_call_of 22 e1.dst; exact grown_same (ms_in_at HQ2.out _))
                      | (go_at_call 23; exact grown_same (spec_name_at HQ3.out HLB.out _))
                      | (go_at_call 24; exact grown_same (ms_sort_at HQ4.out _))))
                  refine wpQuiet_nil ?_
                  intro w1 hw1
                  have HW1 := hide hw1
                  clear hw1
                  go_wp2_with fail
                  go_ret
                  exact ⟨ret_bool (HBM.out (by rw [HME.out, HQ1.out]; simp)), HBW.out.trans (HW1.out.mono HBW.out.size)⟩
                · cases q2
                  · go_wp2_with fail
                    refine wp_region_grown (by kernel_rfl) (by kernel_rfl) (fun W hW => ?_)
                    have hne := grown_some W
                    have f0 := grown_cell (w := W) (b := wr.heap.size) (o := 0) (v := .int .i64 e1.src) (by rw [hW]; simp)
                    have f3 := grown_cell (w := W) (b := wr.heap.size) (o := 3) (v := .int .i64 e1.dst) (by rw [hW]; simp)
                    have HBW := hide (HGO.out W hW)
                    clear hW
                    repeat (go_big_quiet_step (first
                      | (go_at_call_of 22 e1.src; exact grown_same (ms_in_at HQ1.out _))
                      | (go_at_call_of 22 e1.dst; exact grown_same (ms_in_at HQ2.out _))
                      | (go_at_call 23; exact grown_same (spec_name_at HQ3.out HLB.out _))
                      | (go_at_call 24; exact grown_same (ms_sort_at HQ4.out _))))
                    refine wpQuiet_nil ?_
                    intro w1 hw1
                    have HW1 := hide hw1
                    clear hw1
                    go_wp2_with fail
                    go_ret
                    exact ⟨ret_bool (HBM.out (by rw [HME.out, HQ2.out]; simp)), HBW.out.trans (HW1.out.mono HBW.out.size)⟩
                  · cases q3
                    · go_wp2_with fail
                      refine wp_region_grown (by kernel_rfl) (by kernel_rfl) (fun W hW => ?_)
                      have hne := grown_some W
                      have f0 := grown_cell (w := W) (b := wr.heap.size) (o := 0) (v := .int .i64 e1.src) (by rw [hW]; simp)
                      have f3 := grown_cell (w := W) (b := wr.heap.size) (o := 3) (v := .int .i64 e1.dst) (by rw [hW]; simp)
                      have f1 := grown_cell (w := W) (b := wr.heap.size) (o := 1) (v := .string e1.label) (by rw [hW]; simp)
                      have HBW := hide (HGO.out W hW)
                      clear hW
                      repeat (go_big_quiet_step (first
                      | (go_at_call_of 22 e1.src; exact grown_same (ms_in_at HQ1.out _))
                      | (go_at_call_of 22 e1.dst; exact grown_same (ms_in_at HQ2.out _))
                      | (go_at_call 23; exact grown_same (spec_name_at HQ3.out HLB.out _))
                      | (go_at_call 24; exact grown_same (ms_sort_at HQ4.out _))))
                      refine wpQuiet_nil ?_
                      intro w1 hw1
                      have HW1 := hide hw1
                      clear hw1
                      go_wp2_with fail
                      go_ret
                      exact ⟨ret_bool (HBM.out (by rw [HME.out, HQ3.out]; simp)), HBW.out.trans (HW1.out.mono HBW.out.size)⟩
                    · cases q4
                      · go_wp2_with fail
                        refine wp_region_grown (by kernel_rfl) (by kernel_rfl) (fun W hW => ?_)
                        have hne := grown_some W
                        have f0 := grown_cell (w := W) (b := wr.heap.size) (o := 0) (v := .int .i64 e1.src) (by rw [hW]; simp)
                        have f3 := grown_cell (w := W) (b := wr.heap.size) (o := 3) (v := .int .i64 e1.dst) (by rw [hW]; simp)
                        have f1 := grown_cell (w := W) (b := wr.heap.size) (o := 1) (v := .string e1.label) (by rw [hW]; simp)
                        have f2 := grown_cell (w := W) (b := wr.heap.size) (o := 2) (v := .int .i64 e1.sort) (by rw [hW]; simp)
                        have HBW := hide (HGO.out W hW)
                        clear hW
                        repeat (go_big_quiet_step (first
                      | (go_at_call_of 22 e1.src; exact grown_same (ms_in_at HQ1.out _))
                      | (go_at_call_of 22 e1.dst; exact grown_same (ms_in_at HQ2.out _))
                      | (go_at_call 23; exact grown_same (spec_name_at HQ3.out HLB.out _))
                      | (go_at_call 24; exact grown_same (ms_sort_at HQ4.out _))))
                        refine wpQuiet_nil ?_
                        intro w1 hw1
                        have HW1 := hide hw1
                        clear hw1
                        go_wp2_with fail
                        go_ret
                        exact ⟨ret_bool (HBM.out (by rw [HME.out, HQ4.out]; simp)), HBW.out.trans (HW1.out.mono HBW.out.size)⟩
                      · have hsrc : 0 ≤ e1.src ∧ e1.src < (m.states.length : Int) := by have := HQ1.out; simp [inB] at this; omega
                        obtain ⟨hs0, hs1'⟩ := hsrc
                        obtain ⟨bs, os, rfl, hbsB, hsrow⟩ := HSR.out (by intro h; rw [h] at hs1'; simp at hs1'; omega)
                        have hst := (hsrow.get e1.src.toNat (by omega)).carry hbsB HW.out
                        have hka : kindAt m e1.src = (m.states[e1.src.toNat]'(by omega)).kind := by rw [kindAt, List.getElem?_eq_getElem (by omega)]
                        obtain ⟨kd, hkd⟩ : ∃ kd, kd = (m.states[e1.src.toNat]'(by omega)).kind := ⟨_, rfl⟩
                        have hst0 := hst.1
                        rw [← hkd] at hst0 hka
                        have HKA := hide hka
                        have hbsw : bs < wr.heap.size := World.block_lt_of_cell? wr _ hst0
                        have HST0 := hide hst0
                        have FS : Hid (∀ W, W = wr.alloc (.cells #[.int .i64 e1.src, .string e1.label, .int .i64 e1.sort, .int .i64 e1.dst] 52) → W.cell? ⟨bs, os + e1.src.toNat * 2, none⟩ = some (.int .i64 kd) ∧ W.cell? ⟨w.heap.size, 0, none⟩ = some (.slice (some ⟨bs, os, none⟩) m.states.length sc)) := hide (fun W hW => by
                          rw [hW]
                          exact ⟨((malloc1 wr _).cell (p := ⟨bs, _, none⟩) hbsw).trans HST0.out, ((malloc1 wr _).cell (p := ⟨w.heap.size, 0, none⟩) (by show w.heap.size < wr.heap.size; omega)).trans b0⟩)
                        clear hst hka hkd hsrow hst0
                        obtain ⟨kz, hkz⟩ : ∃ kz, (kd == 0) = kz := ⟨_, rfl⟩
                        have HKZ := hide hkz
                        cases kz
                        · by_cases hpos : 0 < k2
                          rotate_left
                          · have HOK : Hid (edgeOk m k2 = true) := hide (by rw [HEO.out, HME.out, HQ1.out, HQ2.out, HQ3.out, HQ4.out, HKA.out, HKZ.out, show k2 = 0 by omega]; rfl)
                            go_wp2_with fail
                            refine wp_region_grown (by kernel_rfl) (by kernel_rfl) (fun W hW => ?_)
                            have hne := grown_some W
                            have f0 := grown_cell (w := W) (b := wr.heap.size) (o := 0) (v := .int .i64 e1.src) (by rw [hW]; simp)
                            have f3 := grown_cell (w := W) (b := wr.heap.size) (o := 3) (v := .int .i64 e1.dst) (by rw [hW]; simp)
                            have f1 := grown_cell (w := W) (b := wr.heap.size) (o := 1) (v := .string e1.label) (by rw [hW]; simp)
                            have f2 := grown_cell (w := W) (b := wr.heap.size) (o := 2) (v := .int .i64 e1.sort) (by rw [hW]; simp)
                            have f4 := grown_cell (FS.out W hW).1
                            have f5 := grown_cell (FS.out W hW).2
                            have HBW := hide (HGO.out W hW)
                            have HAW := hide (HGA.out W hW)
                            clear hW
                            repeat (go_big_quiet_step (first
                      | (go_at_call_of 22 e1.src; exact grown_same (ms_in_at HQ1.out _))
                      | (go_at_call_of 22 e1.dst; exact grown_same (ms_in_at HQ2.out _))
                      | (go_at_call 23; exact grown_same (spec_name_at HQ3.out HLB.out _))
                      | (go_at_call 24; exact grown_same (ms_sort_at HQ4.out _))))
                            refine wpQuiet_nil ?_
                            intro w1 hw1
                            have HW1 := hide hw1
                            clear hw1 hne f0 f1 f2 f3 f4 f5
                            go_wp2_with fail
                            go_roundw
                            case rel => exact ⟨_, hlt2, by go_num, HNX.out (HOK.out), HAW.out.trans (HW1.out.mono (by have := HAW.out.size; simp at this; omega))⟩
                            case measure => simp [intOf]; omega
                          · obtain ⟨j, rfl⟩ : ∃ j, k2 = j + 1 := ⟨k2 - 1, by omega⟩
                            obtain ⟨e0, he0⟩ : ∃ e0, e0 = m.edges[j]'(by omega) := ⟨_, rfl⟩
                            have hn0 := HROW.out j (by omega)
                            rw [← he0] at hn0
                            have HE0 : Hid (m.edges[j + 1 - 1]? = some e0) := hide (by rw [Nat.add_sub_cancel, List.getElem?_eq_getElem (by omega), ← he0])
                            have FE : Hid (∀ W, W = wr.alloc (.cells #[.int .i64 e1.src, .string e1.label, .int .i64 e1.sort, .int .i64 e1.dst] 52) → REdgeAt W b (o + j * 4) e0 ∧ W.cell? ⟨w.heap.size, 1, none⟩ = some (.slice (some ⟨b, o, none⟩) m.edges.length ec)) := hide (fun W hW => by
                              rw [hW]
                              exact ⟨hn0.carry hbw (malloc1 wr _), ((malloc1 wr _).cell (p := ⟨w.heap.size, 1, none⟩) (by show w.heap.size < wr.heap.size; omega)).trans b1⟩)
                            clear he0 hn0
                            obtain ⟨q5, hq5⟩ : ∃ q5, mlessE e0 e1 = q5 := ⟨_, rfl⟩
                            have HQ5 := hide hq5
                            have HOK : Hid (edgeOk m (j + 1) = q5) := hide (by rw [HEO.out, HME.out, HQ1.out, HQ2.out, HQ3.out, HQ4.out, HKA.out, HKZ.out, HE0.out, ← hq5]; rfl)
                            clear hq5
                            cases q5
                            · go_wp2_with fail
                              refine wp_region_grown (by kernel_rfl) (by kernel_rfl) (fun W hW => ?_)
                              have hne := grown_some W
                              have f0 := grown_cell (w := W) (b := wr.heap.size) (o := 0) (v := .int .i64 e1.src) (by rw [hW]; simp)
                              have f3 := grown_cell (w := W) (b := wr.heap.size) (o := 3) (v := .int .i64 e1.dst) (by rw [hW]; simp)
                              have f1 := grown_cell (w := W) (b := wr.heap.size) (o := 1) (v := .string e1.label) (by rw [hW]; simp)
                              have f2 := grown_cell (w := W) (b := wr.heap.size) (o := 2) (v := .int .i64 e1.sort) (by rw [hW]; simp)
                              have f4 := grown_cell (FS.out W hW).1
                              have f5 := grown_cell (FS.out W hW).2
                              obtain ⟨⟨e00, e01, e02, e03⟩, e1x⟩ := FE.out W hW
                              have f6 := grown_cell e00
                              have f7 := grown_cell e01
                              have f8 := grown_cell e02
                              have f9 := grown_cell e03
                              have fx := grown_cell e1x
                              clear e00 e01 e02 e03 e1x
                              have HBW := hide (HGO.out W hW)
                              have HAW := hide (HGA.out W hW)
                              clear hW
                              repeat (go_big_quiet_step (first
                      | (go_at_call_of 22 e1.src; exact grown_same (ms_in_at HQ1.out _))
                      | (go_at_call_of 22 e1.dst; exact grown_same (ms_in_at HQ2.out _))
                      | (go_at_call 23; exact grown_same (spec_name_at HQ3.out HLB.out _))
                      | (go_at_call 24; exact grown_same (ms_sort_at HQ4.out _))
                      | (go_at_call 25; exact grown_more (ms_less_at (a := e0) (b := e1) HQ5.out _))))
                              refine wpQuiet_nil ?_
                              intro w1 hw1
                              have HW1 := hide hw1
                              clear hw1
                              go_wp2_with fail
                              go_ret
                              exact ⟨ret_bool (HBAD.out HOK.out), HBW.out.trans (HW1.out.mono HBW.out.size)⟩
                            · go_wp2_with fail
                              refine wp_region_grown (by kernel_rfl) (by kernel_rfl) (fun W hW => ?_)
                              have hne := grown_some W
                              have f0 := grown_cell (w := W) (b := wr.heap.size) (o := 0) (v := .int .i64 e1.src) (by rw [hW]; simp)
                              have f3 := grown_cell (w := W) (b := wr.heap.size) (o := 3) (v := .int .i64 e1.dst) (by rw [hW]; simp)
                              have f1 := grown_cell (w := W) (b := wr.heap.size) (o := 1) (v := .string e1.label) (by rw [hW]; simp)
                              have f2 := grown_cell (w := W) (b := wr.heap.size) (o := 2) (v := .int .i64 e1.sort) (by rw [hW]; simp)
                              have f4 := grown_cell (FS.out W hW).1
                              have f5 := grown_cell (FS.out W hW).2
                              obtain ⟨⟨e00, e01, e02, e03⟩, e1x⟩ := FE.out W hW
                              have f6 := grown_cell e00
                              have f7 := grown_cell e01
                              have f8 := grown_cell e02
                              have f9 := grown_cell e03
                              have fx := grown_cell e1x
                              clear e00 e01 e02 e03 e1x
                              have HBW := hide (HGO.out W hW)
                              have HAW := hide (HGA.out W hW)
                              clear hW
                              repeat (go_big_quiet_step (first
                      | (go_at_call_of 22 e1.src; exact grown_same (ms_in_at HQ1.out _))
                      | (go_at_call_of 22 e1.dst; exact grown_same (ms_in_at HQ2.out _))
                      | (go_at_call 23; exact grown_same (spec_name_at HQ3.out HLB.out _))
                      | (go_at_call 24; exact grown_same (ms_sort_at HQ4.out _))
                      | (go_at_call 25; exact grown_more (ms_less_at (a := e0) (b := e1) HQ5.out _))))
                              refine wpQuiet_nil ?_
                              intro w1 hw1
                              have HW1 := hide hw1
                              clear hw1 hne f0 f1 f2 f3 f4 f5 f6 f7 f8 f9 fx
                              go_wp2_with fail
                              go_roundw
                              case rel => exact ⟨_, hlt2, by go_num, HNX.out (HOK.out), HAW.out.trans (HW1.out.mono (by have := HAW.out.size; simp at this; omega))⟩
                              case measure => simp [intOf]; omega
                        · go_wp2_with fail
                          refine wp_region_grown (by kernel_rfl) (by kernel_rfl) (fun W hW => ?_)
                          have hne := grown_some W
                          have f0 := grown_cell (w := W) (b := wr.heap.size) (o := 0) (v := .int .i64 e1.src) (by rw [hW]; simp)
                          have f3 := grown_cell (w := W) (b := wr.heap.size) (o := 3) (v := .int .i64 e1.dst) (by rw [hW]; simp)
                          have f1 := grown_cell (w := W) (b := wr.heap.size) (o := 1) (v := .string e1.label) (by rw [hW]; simp)
                          have f2 := grown_cell (w := W) (b := wr.heap.size) (o := 2) (v := .int .i64 e1.sort) (by rw [hW]; simp)
                          have f4 := grown_cell (FS.out W hW).1
                          have f5 := grown_cell (FS.out W hW).2
                          have HBW := hide (HGO.out W hW)
                          clear hW
                          repeat (go_big_quiet_step (first
                      | (go_at_call_of 22 e1.src; exact grown_same (ms_in_at HQ1.out _))
                      | (go_at_call_of 22 e1.dst; exact grown_same (ms_in_at HQ2.out _))
                      | (go_at_call 23; exact grown_same (spec_name_at HQ3.out HLB.out _))
                      | (go_at_call 24; exact grown_same (ms_sort_at HQ4.out _))))
                          refine wpQuiet_nil ?_
                          intro w1 hw1
                          have HW1 := hide hw1
                          clear hw1
                          go_wp2_with fail
                          go_ret
                          exact ⟨ret_bool (HBM.out (by rw [HME.out, HKA.out, HKZ.out]; simp)), HBW.out.trans (HW1.out.mono HBW.out.size)⟩
              · have HM : Hid (machB m = true) := hide (by
                  rw [machB, HHD.out, HALL.out]
                  have := HA2.out
                  rw [show k2 = m.edges.length by omega] at this
                  rw [this]; rfl)
                go_wp2_with fail
                go_ret
                exact ⟨ret_bool HM.out, HW.out⟩
    · have HM : Hid (machB m = false) := hide (by rw [machB, headB]; simp [h80])
      go_enter Try.func10, Try.ntmps10
      go_wp2_with (go_at_call 22; refine (ms_in _ _ _ _).mono ?_; rintro e w' ⟨rfl, rfl⟩; rw [HI1.out])
      go_ret
      exact ⟨ret_bool HM.out, malloc1 _ _⟩
end Go.Proofs.Ytlbcnmcfljaijaa
