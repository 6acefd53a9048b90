/- MachineBytes of the specification. -/
import Derived.Test.YtalipbmpcgillaaBytesM
import Derived.Test.YtalipbmpcgillaaMachF
import Derived.Test.YtalipbmpcgillaaMachI
namespace Go.Proofs.Ytalipbmpcgillaa
open Go.RowKit
attribute [local go_sem ↓] Go.wp_at_zero Go.wp_at_succ

theorem spec_put_at {s : ByteArray} {n : Int} (hs : putS n = s) (w : World) (h : -9223372036854775808 ≤ n ∧ n ≤ 9223372036854775807) :
    Calls Try.prog 137 #[.int .i64 n] w fun e w' => e = .returned (.string s) ∧ Below w.heap.size w w' := by subst hs; exact spec_put n w h.1 h.2
theorem spec_text_at {s t : ByteArray} (hs : textS t = s) (w : World) (h : t.size ≤ maxLen) :
    Calls Try.prog 138 #[.string t] w fun e w' => e = .returned (.string s) ∧ Below w.heap.size w w' := by subst hs; exact spec_text t w h
theorem name_20 {s : ByteArray} (h : nameB s = true) : s.size ≤ 20 := by
  simp [nameB] at h
  exact h.1.2
theorem mach_short {m : Mach} (h : machB m = true) : shortM m := by
  have h1 := mach_40 h
  have h2 := mach_80 h
  simp only [machB, Bool.and_eq_true] at h
  refine ⟨fun s hs => ?_, fun e he => ?_, h1.2, h2⟩
  · have := List.all_eq_true.1 h.2.1 s hs
    simp only [mstB] at this
    split at this
    · simp only [beq_iff_eq] at this
      have hz := congrArg List.length this
      rw [Go.ByteArray.toList_eq] at hz
      simp at hz
      rw [hz]
      simp
    · simp only [Bool.and_eq_true] at this
      exact name_20 this.1
  · obtain ⟨i, hi, rfl⟩ := List.getElem_of_mem he
    have h3 := List.all_eq_true.1 h.2.2 i (List.mem_range.2 hi)
    rw [edgeOk, List.getElem?_eq_getElem hi] at h3
    simp only [Bool.and_eq_true, medB] at h3
    exact name_20 h3.1.2.2.1
theorem start_range0 {m : Mach} (h : machB m = true) : 0 ≤ m.start ∧ m.start < (m.states.length : Int) := by
  simp [machB, headB, inB] at h
  omega
theorem small_i64 {z : Int} (h0 : 0 ≤ z) (h1 : z ≤ 1000000) : -9223372036854775808 ≤ z ∧ z ≤ 9223372036854775807 := ⟨by omega, by omega⟩
theorem joinS_le {l l' : List ByteArray} {c : Nat} (h : ∀ x ∈ l ++ l', x.size ≤ c) : (joinS l).size ≤ l.length * c := by
  rw [joinS_size]
  exact sum_le_mul (fun x hx => h x (List.mem_append_left _ hx))
theorem kind_of {m : Mach} (h : machB m = true) {s : RState} (hs : s ∈ m.states) : 0 ≤ s.kind ∧ s.kind ≤ 2 := by
  simp only [machB, Bool.and_eq_true] at h
  have h2 := List.all_eq_true.1 h.2.1 s hs
  simp only [mstB] at h2
  split at h2
  · rename_i h3; simp at h3; omega
  · simp [inB] at h2; omega
set_option maxRecDepth 100000 in
set_option maxHeartbeats 1000000 in
theorem s_l04bytes (m : Mach) (v : Value) (w : World) (hm : machB m = true) (hf : m.fit) (hv : MachAt w v m) :
    Calls Try.prog 79 #[v] w fun e w' => e = .returned (.string (bytesM m)) ∧ Below w.heap.size w w' := by
  have HM := hide hm
  have HF := hide hf
  have HSM := hide (parts_small (mach_short hm))
  have h40 := mach_40 hm
  have h80 := mach_80 hm
  have hst := start_range0 hm
  obtain ⟨sv, ev, rfl, hs, he⟩ := hv
  obtain ⟨sa, sc, rfl, hs1, hs2, hs3⟩ := hs
  obtain ⟨ea, ec, rfl, he1, he2, he3⟩ := he
  have HSR := hide hs3
  have HER := hide he3
  clear hs3 he3 hm hf
  have HPS : Hid (∀ k, k ≤ m.states.length → (joinS (partsS m k)).size ≤ 15000) := hide (fun k hk => by
    have h1 := joinS_le (l := partsS m k) (l' := (m.states.drop k).flatMap stParts ++ putS (m.edges.length : Int) :: (m.edges.flatMap edParts ++ [putS m.start])) (c := 30) (fun x hx => HSM.out x (by
      have e : partsM m = partsS m k ++ ((m.states.drop k).flatMap stParts ++ putS (m.edges.length : Int) :: (m.edges.flatMap edParts ++ [putS m.start])) := by
        rw [partsM, partsE, List.take_length, partsS, partsS, List.take_length]
        conv => lhs; rw [← List.take_append_drop k m.states, List.flatMap_append]
        simp only [List.cons_append, List.append_assoc, List.take_append_drop]
      rw [e]; exact hx))
    rw [partsS_len m k hk] at h1
    omega)
  have HPE : Hid (∀ k, k ≤ m.edges.length → (joinS (partsE m k)).size ≤ 15000) := hide (fun k hk => by
    have h1 := joinS_le (l := partsE m k) (l' := (m.edges.drop k).flatMap edParts ++ [putS m.start]) (c := 30) (fun x hx => HSM.out x (by
      have e : partsM m = partsE m k ++ ((m.edges.drop k).flatMap edParts ++ [putS m.start]) := by
        rw [partsM, partsE, partsE, List.take_length]
        conv => lhs; rw [← List.take_append_drop k m.edges, List.flatMap_append]
        simp only [List.cons_append, List.append_assoc, List.take_append_drop]
      rw [e]; exact hx))
    rw [partsE_len m k hk] at h1
    omega)
  go_enter Try.func79, Try.ntmps79
  go_wp2_with (go_at_call 137; refine (spec_put_at rfl _ (small_i64 (by omega) (by omega))).mono ?_; rintro e w1 ⟨rfl, hb1⟩; have HW1 : Hid (Below w.heap.size w w1) := hide ((malloc1 _ _).trans (hb1.mono (by simp))); have hlw1 : w.heap.size < w1.heap.size := (by have := hb1.size; simp at this; omega); have b0 := (hb1.cell (p := ⟨w.heap.size, 0, none⟩) (by simp)); have b1 := (hb1.cell (p := ⟨w.heap.size, 1, none⟩) (by simp)); have b2 := (hb1.cell (p := ⟨w.heap.size, 2, none⟩) (by simp)); simp at b0 b1 b2; clear hb1)
  go_loopw [3, 4] (fun tv i wr => ∃ k : Nat, k ≤ m.states.length ∧ i = .int .i64 k ∧ tv = .string (joinS (partsS m k)) ∧ Below w1.heap.size w1 wr) (fun _ i _ => m.states.length - (intOf i).toNat)
  case atStart => exact ⟨0, Nat.zero_le _, rfl, by simp only [partsS, List.take_zero, List.flatMap_nil]; rw [joinS_one], Below.refl _ _⟩
  case round =>
    obtain ⟨k, hk, rfl, rfl, hbel⟩ := hrel
    have HBEL := hide hbel
    have c0 := (hbel.cell (p := ⟨w.heap.size, 0, none⟩) hlw1).trans b0
    have c1 := (hbel.cell (p := ⟨w.heap.size, 1, none⟩) hlw1).trans b1
    have c2 := (hbel.cell (p := ⟨w.heap.size, 2, none⟩) hlw1).trans b2
    have hlr : w.heap.size < wr.heap.size := Nat.lt_of_lt_of_le hlw1 hbel.size
    have HW : Hid (Below w.heap.size w wr) := hide (HW1.out.trans (hbel.mono (Nat.le_of_lt hlw1)))
    have hacs := HPS.out k hk
    clear hbel
    by_cases hlt : k < m.states.length
    · obtain ⟨b, o, rfl, hbB, hrow⟩ := HSR.out (by intro h; simp [h] at hlt)
      have hnode := (hrow.get k hlt).carry hbB HW.out
      obtain ⟨x1, hx1⟩ : ∃ x1, x1 = m.states[k] := ⟨_, rfl⟩
      have hmem : x1 ∈ m.states := by rw [hx1]; exact List.getElem_mem hlt
      rw [← hx1] at hnode
      obtain ⟨d0, d1⟩ := hnode
      have HK := hide (kind_of HM.out hmem)
      have hp20 := (mach_short HM.out).1 x1 hmem
      have HP := hide (show x1.peer.size ≤ maxLen by unfold maxLen; omega)
      obtain ⟨s1, hs1'⟩ : ∃ s1, putS x1.kind = s1 := ⟨_, rfl⟩
      obtain ⟨s2, hs2'⟩ : ∃ s2, textS x1.peer = s2 := ⟨_, rfl⟩
      have hz1 : s1.size ≤ 10 := by rw [← hs1']; exact putS_size _
      have hz2 : s2.size ≤ 30 := by rw [← hs2']; exact textS_size _ hp20
      have HNX : Hid (joinS (partsS m (k + 1)) = joinS (partsS m k) ++ s1 ++ s2) := hide (by rw [partsS_succ hlt, joinS_app, ← hx1, stParts, hs1', hs2', joinS_cons, joinS_one, ByteArray.append_assoc])
      have HS1 := hide hs1'
      have HS2 := hide hs2'
      obtain ⟨acc, hacc⟩ : ∃ acc, joinS (partsS m k) = acc := ⟨_, rfl⟩
      rw [hacc] at hacs ⊢
      have HACC := hide hacc
      have hq1 : ¬ 9223372036854775807 < acc.size + s1.size := by omega
      have hq2 : ¬ 9223372036854775807 < acc.size + s1.size + s2.size := by omega
      clear hx1 hrow hmem hs1' hs2' hacc
      go_wp2_with fail
      refine wp_region_grown (by kernel_rfl) (by kernel_rfl) (fun W hW => ?_)
      have hne := grown_some W
      have f0 := grown_cell (w := W) (by rw [hW]; exact c0)
      have k0 := grown_cell (w := W) (by rw [hW]; exact d0)
      have k1 := grown_cell (w := W) (by rw [hW]; exact d1)
      have HWE := hide hW
      clear hW
      repeat (go_big_quiet_step (first
        | (go_at_call 137; exact grown_more (spec_put_at HS1.out _ (small_i64 HK.out.1 (Int.le_trans HK.out.2 (by omega)))))
        | (go_at_call 138; exact grown_more (spec_text_at HS2.out _ HP.out))))
      refine wpQuiet_nil ?_
      intro w2 hw2
      have HB2 : Hid (Below wr.heap.size wr w2) := hide (by rw [HWE.out] at hw2; exact hw2)
      clear hw2 hne f0 k0 k1 HWE
      go_wp2_with fail
      go_roundw
      case rel => exact ⟨k + 1, hlt, by go_num, by rw [HNX.out, HACC.out], HBEL.out.trans (HB2.out.mono HBEL.out.size)⟩
      case measure => simp [intOf]; omega
    · have HSE : Hid (partsS m k = partsS m m.states.length) := hide (by rw [show k = m.states.length by omega])
      have hq1 : ¬ 9223372036854775807 < (joinS (partsS m k)).size + (putS (m.edges.length : Int)).size := by have := putS_size (m.edges.length : Int); omega
      go_wp2_with (go_at_call 137; refine (spec_put_at rfl _ (small_i64 (by omega) (by omega))).mono ?_; rintro e w2 ⟨rfl, hb2⟩; have HB2 : Hid (Below w1.heap.size w1 w2) := hide (HBEL.out.trans (hb2.mono HBEL.out.size)); have e1 := (hb2.cell (p := ⟨w.heap.size, 1, none⟩) hlr).trans c1; have e2 := (hb2.cell (p := ⟨w.heap.size, 2, none⟩) hlr).trans c2; have hlw2 : w.heap.size < w2.heap.size := Nat.lt_of_lt_of_le hlr hb2.size; clear hb2)
      go_loopw [3, 5] (fun tv i wr2 => ∃ k2 : Nat, k2 ≤ m.edges.length ∧ i = .int .i64 k2 ∧ tv = .string (joinS (partsE m k2)) ∧ Below w2.heap.size w2 wr2) (fun _ i _ => m.edges.length - (intOf i).toNat)
      case atStart => exact ⟨0, Nat.zero_le _, rfl, by rw [partsE, joinS_app, HSE.out]; simp only [List.take_zero, List.flatMap_nil]; rw [joinS_one], Below.refl _ _⟩
      case round =>
        clear c0 c1 c2 hlr HW hacs hlt hq1 HSE HBEL
        obtain ⟨k2, hk2, rfl, rfl, hbel⟩ := hrel
        have HBEL := hide hbel
        have c1 := (hbel.cell (p := ⟨w.heap.size, 1, none⟩) hlw2).trans e1
        have c2 := (hbel.cell (p := ⟨w.heap.size, 2, none⟩) hlw2).trans e2
        have HW : Hid (Below w.heap.size w wr) := hide (HW1.out.trans ((HB2.out.trans (hbel.mono HB2.out.size)).mono (Nat.le_of_lt hlw1)))
        have hacs := HPE.out k2 hk2
        clear hbel
        by_cases hlt2 : k2 < m.edges.length
        · obtain ⟨b, o, rfl, hbB, hrow⟩ := HER.out (by intro h; simp [h] at hlt2)
          have hnode := (hrow.get k2 hlt2).carry hbB HW.out
          obtain ⟨x1, hx1⟩ : ∃ x1, x1 = m.edges[k2] := ⟨_, rfl⟩
          have hmem : x1 ∈ m.edges := by rw [hx1]; exact List.getElem_mem hlt2
          rw [← hx1] at hnode
          obtain ⟨d0, d1, d2, d3⟩ := hnode
          have HK := hide (edge_bounds HM.out hmem)
          have hp20 := (mach_short HM.out).2.1 x1 hmem
          have HP := hide (show x1.label.size ≤ maxLen by unfold maxLen; omega)
          obtain ⟨s1, hs1'⟩ : ∃ s1, putS x1.src = s1 := ⟨_, rfl⟩
          obtain ⟨s2, hs2'⟩ : ∃ s2, textS x1.label = s2 := ⟨_, rfl⟩
          obtain ⟨s3, hs3'⟩ : ∃ s3, putS x1.sort = s3 := ⟨_, rfl⟩
          obtain ⟨s4, hs4'⟩ : ∃ s4, putS x1.dst = s4 := ⟨_, rfl⟩
          have hz1 : s1.size ≤ 10 := by rw [← hs1']; exact putS_size _
          have hz2 : s2.size ≤ 30 := by rw [← hs2']; exact textS_size _ hp20
          have hz3 : s3.size ≤ 10 := by rw [← hs3']; exact putS_size _
          have hz4 : s4.size ≤ 10 := by rw [← hs4']; exact putS_size _
          have HNX : Hid (joinS (partsE m (k2 + 1)) = joinS (partsE m k2) ++ s1 ++ s2 ++ s3 ++ s4) := hide (by rw [partsE_succ hlt2, joinS_app, ← hx1, edParts, hs1', hs2', hs3', hs4', joinS_cons, joinS_cons, joinS_cons, joinS_one, ByteArray.append_assoc, ByteArray.append_assoc, ByteArray.append_assoc])
          have HS1 := hide hs1'
          have HS2 := hide hs2'
          have HS3 := hide hs3'
          have HS4 := hide hs4'
          obtain ⟨acc, hacc⟩ : ∃ acc, joinS (partsE m k2) = acc := ⟨_, rfl⟩
          rw [hacc] at hacs ⊢
          have HACC := hide hacc
          have hq1 : ¬ 9223372036854775807 < acc.size + s1.size := by omega
          have hq2 : ¬ 9223372036854775807 < acc.size + s1.size + s2.size := by omega
          have hq3 : ¬ 9223372036854775807 < acc.size + s1.size + s2.size + s3.size := by omega
          have hq4 : ¬ 9223372036854775807 < acc.size + s1.size + s2.size + s3.size + s4.size := by omega
          clear hx1 hrow hmem hs1' hs2' hs3' hs4' hacc
          go_wp2_with fail
          refine wp_region_grown (by kernel_rfl) (by kernel_rfl) (fun W hW => ?_)
          have hne := grown_some W
          have k0 := grown_cell (w := W) (b := wr.heap.size) (o := 0) (v := .int .i64 x1.src) (by rw [hW]; simp)
          have k1 := grown_cell (w := W) (b := wr.heap.size) (o := 1) (v := .string x1.label) (by rw [hW]; simp)
          have k2' := grown_cell (w := W) (b := wr.heap.size) (o := 2) (v := .int .i64 x1.sort) (by rw [hW]; simp)
          have k3 := grown_cell (w := W) (b := wr.heap.size) (o := 3) (v := .int .i64 x1.dst) (by rw [hW]; simp)
          have HBW : Hid (Below wr.heap.size wr W) := hide (by rw [hW]; exact malloc1 _ _)
          clear hW
          repeat (go_big_quiet_step (first
            | (go_at_call_of 137 x1.src; exact grown_more (spec_put_at HS1.out _ (small_i64 (by have := HK.out; omega) (by have := HK.out; omega))))
            | (go_at_call_of 137 x1.sort; exact grown_more (spec_put_at HS3.out _ (small_i64 (by have := HK.out; omega) (by have := HK.out; omega))))
            | (go_at_call_of 137 x1.dst; exact grown_more (spec_put_at HS4.out _ (small_i64 (by have := HK.out; omega) (by have := HK.out; omega))))
            | (go_at_call 138; exact grown_more (spec_text_at HS2.out _ HP.out))))
          refine wpQuiet_nil ?_
          intro w3 hw3
          have HB3 : Hid (Below wr.heap.size wr w3) := hide (HBW.out.trans (hw3.mono HBW.out.size))
          clear hw3 hne k0 k1 k2' k3
          go_wp2_with fail
          go_roundw
          case rel => exact ⟨k2 + 1, hlt2, by go_num, by rw [HNX.out, HACC.out], HBEL.out.trans (HB3.out.mono HBEL.out.size)⟩
          case measure => simp [intOf]; omega
        · have HEE : Hid (partsE m k2 = partsE m m.edges.length) := hide (by rw [show k2 = m.edges.length by omega])
          have hq1 : ¬ 9223372036854775807 < (joinS (partsE m k2)).size + (putS m.start).size := by have := putS_size m.start; omega
          go_wp2_with (go_at_call 137; refine (spec_put_at rfl _ (small_i64 (by omega) (by omega))).mono ?_; rintro e w3 ⟨rfl, hb3⟩; have HB3 := hide hb3; clear hb3)
          go_ret
          exact ⟨ret_str (by rw [bytesM, partsM, joinS_app, joinS_one, HEE.out]), HW.out.trans (HB3.out.mono HW.out.size)⟩
def bytesR (m : Mach) : ByteArray := if machB m then bytesM m else ByteArray.empty
set_option maxRecDepth 100000 in
set_option maxHeartbeats 400000 in
theorem s_machineBytes (m : Mach) (v : Value) (w : World) (hf : m.fit) (hv : MachAt w v m) :
    Calls Try.prog 32 #[v] w fun e w' => e = .returned (.string (bytesR m)) ∧ Below w.heap.size w w' := by
  have HF := hide hf
  have HV : Hid (∀ W, Below w.heap.size w W → MachAt W v m) := hide (fun W hb => hv.carry hb)
  obtain ⟨sa, sc, ea, ec, rfl⟩ := hv.shape
  obtain ⟨q, hq⟩ : ∃ q, machB m = q := ⟨_, rfl⟩
  have HQ := hide hq
  have HR : Hid (bytesR m = if q then bytesM m else ByteArray.empty) := hide (by rw [bytesR, hq])
  clear hq hf hv
  unfold machV
  cases q
  · go_enter Try.func32, Try.ntmps32
    go_wp2_with (go_at_call 23; refine (s_machineRight_at HQ.out _ _ HF.out (HV.out _ (malloc1 _ _))).mono ?_; rintro e w1 ⟨rfl, hb1⟩; have HB1 : Hid (Below w.heap.size w w1) := hide ((malloc1 _ _).trans (hb1.mono (by simp))); clear hb1)
    go_ret
    exact ⟨ret_str HR.out, HB1.out⟩
  · go_enter Try.func32, Try.ntmps32
    go_wp2_with (first
      | (go_at_call 23; refine (s_machineRight_at HQ.out _ _ HF.out (HV.out _ (malloc1 _ _))).mono ?_; rintro e w1 ⟨rfl, hb1⟩; have HB1 : Hid (Below w.heap.size w w1) := hide ((malloc1 _ _).trans (hb1.mono (by simp))); have b0 := (hb1.cell (p := ⟨w.heap.size, 0, none⟩) (by simp)); have b1 := (hb1.cell (p := ⟨w.heap.size, 1, none⟩) (by simp)); have b2 := (hb1.cell (p := ⟨w.heap.size, 2, none⟩) (by simp)); simp at b0 b1 b2; clear hb1)
      | (go_at_call 79; refine (s_l04bytes m _ _ HQ.out HF.out (HV.out _ HB1.out)).mono ?_; rintro e w2 ⟨rfl, hb2⟩; have HB2 := hide hb2; clear hb2))
    go_ret
    exact ⟨ret_str HR.out, HB1.out.trans (HB2.out.mono HB1.out.size)⟩
end Go.Proofs.Ytalipbmpcgillaa
