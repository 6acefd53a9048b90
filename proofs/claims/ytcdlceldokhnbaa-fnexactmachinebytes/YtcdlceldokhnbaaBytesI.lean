/- MachineBytes of the program. -/
import Derived.Test.YtcdlceldokhnbaaBytesS
import Derived.Test.YtcdlceldokhnbaaActsJ
import Derived.Test.YtcdlceldokhnbaaTail1
namespace Go.Proofs.Ytcdlceldokhnbaa
open Go.RowKit
attribute [local go_sem ↓] Go.wp_at_zero Go.wp_at_succ

def bytesR (m : Mach) : ByteArray := if machB m then bytesM m else ByteArray.empty
set_option maxRecDepth 100000 in
set_option maxHeartbeats 400000 in
theorem s_machineBytes (m : Mach) (v : Value) (w : World) (hf : m.fit) (hv : MachAt w v m) :
    Calls Try.prog 47 #[v] w fun e w' => e = .returned (.string (bytesR m)) ∧ Below w.heap.size w w' := by
  have HF := hide hf
  have HV : Hid (∀ W, Below w.heap.size w W → MachAt W v m) := hide (fun W hb => hv.carry hb)
  obtain ⟨sa, sc, ea, ec, rfl⟩ := hv.shape
  obtain ⟨q, hq⟩ : ∃ q, machB m = q := ⟨_, rfl⟩
  have HQ := hide hq
  have HR : Hid (bytesR m = if q then bytesM m else ByteArray.empty) := hide (by rw [bytesR, hq])
  clear hq hf hv
  unfold machV
  cases q
  · go_enter Try.func47, Try.ntmps47
    go_wp2_with (go_at_call 22; refine (s_machineRight_at HQ.out _ _ HF.out (HV.out _ (malloc1 _ _))).mono ?_; rintro e w1 ⟨rfl, hb1⟩; have HB1 : Hid (Below w.heap.size w w1) := hide ((malloc1 _ _).trans (hb1.mono (by simp))); clear hb1)
    go_ret
    exact ⟨ret_str HR.out, HB1.out⟩
  · go_enter Try.func47, Try.ntmps47
    go_wp2_with (first
      | (go_at_call 22; refine (s_machineRight_at HQ.out _ _ HF.out (HV.out _ (malloc1 _ _))).mono ?_; rintro e w1 ⟨rfl, hb1⟩; have HB1 : Hid (Below w.heap.size w w1) := hide ((malloc1 _ _).trans (hb1.mono (by simp))); have b0 := (hb1.cell (p := ⟨w.heap.size, 0, none⟩) (by simp)); have b1 := (hb1.cell (p := ⟨w.heap.size, 1, none⟩) (by simp)); have b2 := (hb1.cell (p := ⟨w.heap.size, 2, none⟩) (by simp)); simp at b0 b1 b2; clear hb1)
      | (go_at_call 97; refine (s_l04bytes m _ _ HQ.out HF.out (HV.out _ HB1.out)).mono ?_; rintro e w2 ⟨rfl, hb2⟩; have HB2 := hide hb2; clear hb2))
    go_ret
    exact ⟨ret_str HR.out, HB1.out.trans (HB2.out.mono HB1.out.size)⟩
theorem impl_put_at {s : ByteArray} {n : Int} (hs : putS n = s) (w : World) (h : -9223372036854775808 ≤ n ∧ n ≤ 9223372036854775807) :
    Calls Try.prog 98 #[.int .i64 n] w fun e w' => e = .returned (.string s) ∧ Below w.heap.size w w' := by subst hs; exact impl_put n w h.1 h.2
theorem impl_text_at {s t : ByteArray} (hs : textS t = s) (w : World) (h : t.size ≤ maxLen) :
    Calls Try.prog 99 #[.string t] w fun e w' => e = .returned (.string s) ∧ Below w.heap.size w w' := by subst hs; exact impl_text t w h
theorem Try.infoStr : (Try.prog.info? 9).map (fun i => (i.zero, i.size, i.bytes)) = some (some (.string ByteArray.empty), 1, 16) := by kernel_rfl
theorem owns_some {w : World} {base e n : Nat} {v : Value} {xs : List Value} (h : w.ownsRow base e 1 v n xs) (hn : 0 < n) : ∃ g c, v = .slice (some ⟨g, 0, none⟩) n c ∧ g < w.heap.size ∧ ∀ i x, xs[i]? = some x → w.cell? ⟨g, i, none⟩ = some x := by
  have H := h
  obtain ⟨_, hh⟩ := h
  rcases hh with ⟨rfl, h0⟩ | ⟨g, cap, cur, rfl, _, hblk, _⟩
  · omega
  · exact ⟨g, cap, rfl, (Array.getElem?_eq_some_iff.1 hblk).1, fun i x hx => owns_cell H rfl i x hx⟩
def strV (l : List ByteArray) : List Value := l.map Value.string
theorem strV_one (l : List ByteArray) : ∀ u ∈ strV l, u.oneCell' = true := by
  intro u hu
  simp only [strV, List.mem_map] at hu
  obtain ⟨x, _, rfl⟩ := hu
  rfl
set_option maxRecDepth 100000 in
set_option maxHeartbeats 1000000 in
theorem machine_bytes (m : Mach) (v : Value) (w : World) (hf : m.fit) (hv : MachAt w v m) :
    Calls Try.prog 48 #[v] w fun e w' => e = .returned (.string (bytesR m)) ∧ Below w.heap.size w w' := by
  have HF := hide hf
  have HV : Hid (∀ W, Below w.heap.size w W → MachAt W v m) := hide (fun W hb => hv.carry hb)
  obtain ⟨i0, hi, hz0, hz1, hz2⟩ := info_parts Try.infoStr
  have HI := hide (And.intro hi (And.intro hz0 (And.intro hz1 hz2)))
  obtain ⟨sv, ev, rfl, hs, he⟩ := hv
  obtain ⟨sa, sc, rfl, hs1, hs2, hs3⟩ := hs
  obtain ⟨ea, ec, rfl, he1, he2, he3⟩ := he
  have HSR := hide hs3
  have HER := hide he3
  obtain ⟨q, hq⟩ : ∃ q, machB m = q := ⟨_, rfl⟩
  have HQ := hide hq
  have HR : Hid (bytesR m = if q then bytesM m else ByteArray.empty) := hide (by rw [bytesR, hq])
  clear hq hf hs3 he3 hi hz0 hz1 hz2
  cases q
  · go_enter Try.func48, Try.ntmps48
    go_wp2_with (go_at_call 24; refine (machine_right_at HQ.out _ _ HF.out (HV.out _ (malloc1 _ _))).mono ?_; rintro e w1 ⟨rfl, hb1⟩; have HB1 : Hid (Below w.heap.size w w1) := hide ((malloc1 _ _).trans (hb1.mono (by simp))); clear hb1)
    go_ret
    exact ⟨ret_str HR.out, HB1.out⟩
  · have h40 := mach_40 HQ.out
    have h80 := mach_80 HQ.out
    have hst := start_range0 HQ.out
    have HSH := hide (mach_short HQ.out)
    go_enter Try.func48, Try.ntmps48
    go_wp2_with (first
      | (go_at_call 24; refine (machine_right_at HQ.out _ _ HF.out (HV.out _ (malloc1 _ _))).mono ?_; rintro e w0 ⟨rfl, hb0⟩; have HB0 : Hid (Below w.heap.size w w0) := hide ((malloc1 _ _).trans (hb0.mono (by simp))); have hlw0 : w.heap.size < w0.heap.size := (by have := hb0.size; simp at this; omega); have a0 := (hb0.cell (p := ⟨w.heap.size, 0, none⟩) (by simp)); have a1 := (hb0.cell (p := ⟨w.heap.size, 1, none⟩) (by simp)); have a2 := (hb0.cell (p := ⟨w.heap.size, 2, none⟩) (by simp)); simp at a0 a1 a2; clear hb0)
      | (go_at_call 98; refine (impl_put_at rfl _ (small_i64 (by omega) (by omega))).mono ?_; rintro e w1 ⟨rfl, hb1⟩; have HB1 : Hid (Below w.heap.size w w1) := hide (HB0.out.trans (hb1.mono HB0.out.size)); have hlw1 : w.heap.size < w1.heap.size := Nat.lt_of_lt_of_le hlw0 hb1.size; have b0 := (hb1.cell (p := ⟨w.heap.size, 0, none⟩) hlw0).trans a0; have b1 := (hb1.cell (p := ⟨w.heap.size, 1, none⟩) hlw0).trans a1; have b2 := (hb1.cell (p := ⟨w.heap.size, 2, none⟩) hlw0).trans a2; clear hb1))
    refine wp_named (fun W1 hW1 => ?_)
    have hlW : w1.heap.size < W1.heap.size := by rw [hW1]; simp
    have HBW : Hid (Below w1.heap.size w1 W1) := hide (by rw [hW1]; exact malloc1 _ _)
    have HOW : Hid (W1.ownsRow w1.heap.size 9 1 (.slice (some ⟨w1.heap.size, 0, none⟩) 1 1) 1 (strV (partsS m 0))) := hide (by
      rw [hW1]
      exact ⟨rfl, .inr ⟨w1.heap.size, 1, #[.string (putS (m.states.length : Int))], rfl, Nat.le_refl _, mheap_new _ _ _ rfl, Nat.le_refl _, by unfold maxLen; omega, rfl, rfl⟩⟩)
    clear hW1
    go_loopw [3, 19] (fun all i wr => ∃ k : Nat, k ≤ m.states.length ∧ i = .int .i64 k ∧ wr.ownsRow w1.heap.size 9 1 all (1 + k * 2) (strV (partsS m k)) ∧ Below w1.heap.size w1 wr) (fun _ i _ => m.states.length - (intOf i).toNat)
    case atStart => exact ⟨0, Nat.zero_le _, rfl, HOW.out, HBW.out⟩
    case round =>
      obtain ⟨k, hk, rfl, hown, hbel⟩ := hrel
      have HOWN := hide hown
      have HBEL := hide hbel
      have c0 := (hbel.cell (p := ⟨w.heap.size, 0, none⟩) hlw1).trans b0
      have c1 := (hbel.cell (p := ⟨w.heap.size, 1, none⟩) hlw1).trans b1
      have c2 := (hbel.cell (p := ⟨w.heap.size, 2, none⟩) hlw1).trans b2
      have hlr : w.heap.size < wr.heap.size := Nat.lt_of_lt_of_le hlw1 hbel.size
      have HWR : Hid (Below w.heap.size w wr) := hide (HB1.out.trans (hbel.mono (Nat.le_of_lt hlw1)))
      obtain ⟨p, cp, rfl⟩ := owns_shape hown
      clear hown hbel
      by_cases hlt : k < m.states.length
      · obtain ⟨b, o, rfl, hbB, hrow⟩ := HSR.out (by intro h; simp [h] at hlt)
        have hnode := (hrow.get k hlt).carry hbB HWR.out
        obtain ⟨x1, hx1⟩ : ∃ x1, x1 = m.states[k] := ⟨_, rfl⟩
        have hmem : x1 ∈ m.states := by rw [hx1]; exact List.getElem_mem hlt
        rw [← hx1] at hnode
        obtain ⟨d0, d1⟩ := hnode
        have HK := hide (kind_of HQ.out hmem)
        have HP := hide (show x1.peer.size ≤ maxLen by have := HSH.out.1 x1 hmem; unfold maxLen; omega)
        obtain ⟨s1, hs1'⟩ : ∃ s1, putS x1.kind = s1 := ⟨_, rfl⟩
        obtain ⟨s2, hs2'⟩ : ∃ s2, textS x1.peer = s2 := ⟨_, rfl⟩
        have HNX : Hid (strV (partsS m (k + 1)) = strV (partsS m k) ++ [.string s1, .string s2]) := hide (by rw [partsS_succ hlt, ← hx1, stParts, hs1', hs2']; simp [strV])
        have HS1 := hide hs1'
        have HS2 := hide hs2'
        clear hx1 hrow hmem hs1' hs2'
        go_wp2_with fail
        refine wp_region_tail1 6 (.tmp 3) (.slice p (1 + k * 2) cp) rfl rfl rfl (by kernel_rfl) (by kernel_rfl) (fun _ _ _ _ h => h) (fun W hW => ?_)
        simp only [List.take_succ_cons, List.take_zero, List.drop_succ_cons, List.drop_zero, Act.put, List.setIfInBounds_toArray, List.set_cons_zero, List.set_cons_succ]
        have hne := grown_some W
        have k0 := grown_cell (w := W) (b := wr.heap.size) (o := 0) (v := .int .i64 x1.kind) (by rw [hW]; simp)
        have k1 := grown_cell (w := W) (b := wr.heap.size) (o := 1) (v := .string x1.peer) (by rw [hW]; simp)
        have HBWW : Hid (Below wr.heap.size wr W) := hide (by rw [hW]; exact malloc1 _ _)
        clear hW
        repeat (go_big_quiet_step (first
          | (go_at_call 98; exact grown_more (impl_put_at HS1.out _ (small_i64 HK.out.1 (Int.le_trans HK.out.2 (by omega)))))
          | (go_at_call 99; exact grown_more (impl_text_at HS2.out _ HP.out))))
        refine wpQuiet_nil ?_
        intro w2 hw2
        have HB2 : Hid (Below wr.heap.size wr w2) := hide (HBWW.out.trans (hw2.mono HBWW.out.size))
        clear hw2 hne k0 k1
        go_wp2_with (at_builtin; refine wpList_append_own _ rfl (.tmp 23) (.tmp 30) 131 rfl w1.heap.size 9 i0 (.string ByteArray.empty) 1 16 Try.underlying131 HI.out.1 HI.out.2.1 HI.out.2.2.1 HI.out.2.2.2 rfl (by decide) (.slice p (1 + k * 2) cp) (1 + k * 2) (strV (partsS m k)) rfl (owns_below HOWN.out (HB2.out.trans ((malloc1 _ _).mono HB2.out.size))) ⟨w2.heap.size, 0, none⟩ 2 2 [.string s1, .string s2] rfl rfl (fun j u hj => new_row1 _ _ _ j u hj) (strV_one [s1, s2]) (by unfold maxLen; omega) (by omega) (by have := HB2.out.size; have := HBEL.out.size; simp; omega) ?_; intro v4 w4 hown4 hgr4 _; have HOWN4 := hide hown4; have HGR4 := hide hgr4; clear hown4 hgr4)
        go_roundw
        case rel =>
          have hA : Apart wr w4 (vblocks (.slice p (1 + k * 2) cp)) := by
            have := (below_apart (HB2.out.trans ((malloc1 w2 _).mono HB2.out.size))).trans (grownBy_apart HGR4.out)
            rwa [List.nil_append] at this
          refine ⟨k + 1, hlt, by go_num, ?_, HBEL.out.trans (hA.below HBEL.out.size (owns_fresh HOWN.out).lo)⟩
          rw [HNX.out, show 1 + (k + 1) * 2 = 1 + k * 2 + 2 by omega]
          exact HOWN4.out
        case measure => simp [intOf]; omega
      · have HSE : Hid (partsS m k = partsS m m.states.length ∧ k = m.states.length) := hide ⟨by rw [show k = m.states.length by omega], by omega⟩
        go_wp2_with (first
          | (go_at_call 98; refine (impl_put_at rfl _ (small_i64 (by omega) (by omega))).mono ?_; rintro e w2 ⟨rfl, hb2⟩; have HB2 := hide hb2; have e1 := (hb2.cell (p := ⟨w.heap.size, 1, none⟩) hlr).trans c1; have e2 := (hb2.cell (p := ⟨w.heap.size, 2, none⟩) hlr).trans c2; have hlw2 : w.heap.size < w2.heap.size := Nat.lt_of_lt_of_le hlr hb2.size; clear hb2)
          | (at_builtin; refine wpList_append_own _ rfl (.tmp 33) (.tmp 38) 131 rfl w1.heap.size 9 i0 (.string ByteArray.empty) 1 16 Try.underlying131 HI.out.1 HI.out.2.1 HI.out.2.2.1 HI.out.2.2.2 rfl (by decide) (.slice p (1 + k * 2) cp) (1 + k * 2) (strV (partsS m k)) rfl (owns_below HOWN.out (HB2.out.trans ((malloc1 _ _).mono HB2.out.size))) ⟨w2.heap.size, 0, none⟩ 1 1 [.string (putS (m.edges.length : Int))] rfl rfl (fun j u hj => new_row1 _ _ _ j u hj) (strV_one [putS (m.edges.length : Int)]) (by unfold maxLen; omega) (by omega) (by have := HB2.out.size; have := HBEL.out.size; simp; omega) ?_; intro v3 w3 hown3 hgr3 _; have HGR3 := hide hgr3; have HOWN3 := hide hown3; obtain ⟨p3, c3, rfl⟩ := owns_shape hown3; have HA3 : Hid (Apart wr w3 (vblocks (.slice p (1 + k * 2) cp))) := hide (by have := (below_apart (HB2.out.trans ((malloc1 w2 _).mono HB2.out.size))).trans (grownBy_apart HGR3.out); rwa [List.nil_append] at this); have HB3 : Hid (Below w1.heap.size w1 w3) := hide (HBEL.out.trans (HA3.out.below HBEL.out.size (owns_fresh HOWN.out).lo)); have g1 := (HB3.out.cell (p := ⟨w.heap.size, 1, none⟩) hlw1).trans b1; have g2 := (HB3.out.cell (p := ⟨w.heap.size, 2, none⟩) hlw1).trans b2; clear hown3 hgr3))
        have HO3 : Hid (w3.ownsRow w1.heap.size 9 1 (.slice p3 (1 + k * 2 + 1) c3) (2 + m.states.length * 2 + 0 * 4) (strV (partsE m 0))) := hide (by
          have e : strV (partsE m 0) = strV (partsS m k) ++ [.string (putS (m.edges.length : Int))] := by
            rw [partsE, HSE.out.1]; simp [strV]
          rw [e, show 2 + m.states.length * 2 + 0 * 4 = 1 + k * 2 + 1 by have := HSE.out.2; omega]
          exact HOWN3.out)
        clear HOWN3
        go_loopw [3, 43] (fun all i wr2 => ∃ k2 : Nat, k2 ≤ m.edges.length ∧ i = .int .i64 k2 ∧ wr2.ownsRow w1.heap.size 9 1 all (2 + m.states.length * 2 + k2 * 4) (strV (partsE m k2)) ∧ Below w1.heap.size w1 wr2) (fun _ i _ => m.edges.length - (intOf i).toNat)
        case atStart => exact ⟨0, Nat.zero_le _, rfl, HO3.out, HB3.out⟩
        case round =>
          clear c0 c1 c2 hlr HWR HOWN HBEL hlt HSE g1 g2
          obtain ⟨k2, hk2, rfl, hown, hbel⟩ := hrel
          have HOWN := hide hown
          have HBEL := hide hbel
          have c1 := (hbel.cell (p := ⟨w.heap.size, 1, none⟩) hlw1).trans b1
          have c2 := (hbel.cell (p := ⟨w.heap.size, 2, none⟩) hlw1).trans b2
          have hlr : w.heap.size < wr.heap.size := Nat.lt_of_lt_of_le hlw1 hbel.size
          have HWR : Hid (Below w.heap.size w wr) := hide (HB1.out.trans (hbel.mono (Nat.le_of_lt hlw1)))
          obtain ⟨p, cp, rfl⟩ := owns_shape hown
          obtain ⟨n0, hn0⟩ : ∃ n0, 2 + m.states.length * 2 + k2 * 4 = n0 := ⟨_, rfl⟩
          have HN0 := hide hn0
          have hn02 : n0 ≤ 500 := by omega
          rw [hn0] at HOWN ⊢
          clear hown hbel hn0
          by_cases hlt : k2 < m.edges.length
          · obtain ⟨b, o, rfl, hbB, hrow⟩ := HER.out (by intro h; simp [h] at hlt)
            have hnode := (hrow.get k2 hlt).carry hbB HWR.out
            obtain ⟨x1, hx1⟩ : ∃ x1, x1 = m.edges[k2] := ⟨_, rfl⟩
            have hmem : x1 ∈ m.edges := by rw [hx1]; exact List.getElem_mem hlt
            rw [← hx1] at hnode
            obtain ⟨d0, d1, d2, d3⟩ := hnode
            have HK := hide (edge_bounds HQ.out hmem)
            have HP := hide (show x1.label.size ≤ maxLen by have := HSH.out.2.1 x1 hmem; unfold maxLen; omega)
            obtain ⟨s1, hs1'⟩ : ∃ s1, putS x1.src = s1 := ⟨_, rfl⟩
            obtain ⟨s2, hs2'⟩ : ∃ s2, textS x1.label = s2 := ⟨_, rfl⟩
            obtain ⟨s3, hs3'⟩ : ∃ s3, putS x1.sort = s3 := ⟨_, rfl⟩
            obtain ⟨s4, hs4'⟩ : ∃ s4, putS x1.dst = s4 := ⟨_, rfl⟩
            have HNX : Hid (strV (partsE m (k2 + 1)) = strV (partsE m k2) ++ [.string s1, .string s2, .string s3, .string s4]) := hide (by rw [partsE_succ hlt, ← hx1, edParts, hs1', hs2', hs3', hs4']; simp [strV])
            have HS1 := hide hs1'
            have HS2 := hide hs2'
            have HS3 := hide hs3'
            have HS4 := hide hs4'
            clear hx1 hrow hmem hs1' hs2' hs3' hs4'
            go_wp2_with fail
            refine wp_region_tail1 12 (.tmp 3) (.slice p n0 cp) rfl rfl rfl (by kernel_rfl) (by kernel_rfl) (fun _ _ _ _ h => h) (fun W hW => ?_)
            simp only [List.take_succ_cons, List.take_zero, List.drop_succ_cons, List.drop_zero, Act.put, List.setIfInBounds_toArray, List.set_cons_zero, List.set_cons_succ]
            have hne := grown_some W
            have k0 := grown_cell (w := W) (b := wr.heap.size) (o := 0) (v := .int .i64 x1.src) (by rw [hW]; simp)
            have k1 := grown_cell (w := W) (b := wr.heap.size) (o := 1) (v := .string x1.label) (by rw [hW]; simp)
            have k2' := grown_cell (w := W) (b := wr.heap.size) (o := 2) (v := .int .i64 x1.sort) (by rw [hW]; simp)
            have k3 := grown_cell (w := W) (b := wr.heap.size) (o := 3) (v := .int .i64 x1.dst) (by rw [hW]; simp)
            have HBWW : Hid (Below wr.heap.size wr W) := hide (by rw [hW]; exact malloc1 _ _)
            clear hW
            repeat (go_big_quiet_step (first
              | (go_at_call_of 98 x1.src; exact grown_more (impl_put_at HS1.out _ (small_i64 (by have := HK.out; omega) (by have := HK.out; omega))))
              | (go_at_call_of 98 x1.sort; exact grown_more (impl_put_at HS3.out _ (small_i64 (by have := HK.out; omega) (by have := HK.out; omega))))
              | (go_at_call_of 98 x1.dst; exact grown_more (impl_put_at HS4.out _ (small_i64 (by have := HK.out; omega) (by have := HK.out; omega))))
              | (go_at_call 99; exact grown_more (impl_text_at HS2.out _ HP.out))))
            refine wpQuiet_nil ?_
            intro w4 hw4
            have HB4 : Hid (Below wr.heap.size wr w4) := hide (HBWW.out.trans (hw4.mono HBWW.out.size))
            clear hw4 hne k0 k1 k2' k3
            go_wp2_with (at_builtin; refine wpList_append_own _ rfl (.tmp 47) (.tmp 60) 131 rfl w1.heap.size 9 i0 (.string ByteArray.empty) 1 16 Try.underlying131 HI.out.1 HI.out.2.1 HI.out.2.2.1 HI.out.2.2.2 rfl (by decide) (.slice p n0 cp) (n0) (strV (partsE m k2)) rfl (owns_below HOWN.out (HB4.out.trans ((malloc1 _ _).mono HB4.out.size))) ⟨w4.heap.size, 0, none⟩ 4 4 [.string s1, .string s2, .string s3, .string s4] rfl rfl (fun j u hj => new_row1 _ _ _ j u hj) (strV_one [s1, s2, s3, s4]) (by unfold maxLen; omega) (by omega) (by have := HB4.out.size; have := HBEL.out.size; simp; omega) ?_; intro v5 w5 hown5 hgr5 _; have HOWN5 := hide hown5; have HGR5 := hide hgr5; clear hown5 hgr5)
            go_roundw
            case rel =>
              have hA : Apart wr w5 (vblocks (.slice p n0 cp)) := by
                have := (below_apart (HB4.out.trans ((malloc1 w4 _).mono HB4.out.size))).trans (grownBy_apart HGR5.out)
                rwa [List.nil_append] at this
              refine ⟨k2 + 1, hlt, by go_num, ?_, HBEL.out.trans (hA.below HBEL.out.size (owns_fresh HOWN.out).lo)⟩
              rw [HNX.out, show 2 + m.states.length * 2 + (k2 + 1) * 4 = n0 + 4 by have := HN0.out; omega]
              exact HOWN5.out
            case measure => simp [intOf]; omega
          · have HEE : Hid (partsM m = partsE m k2 ++ [putS m.start]) := hide (by rw [partsM, show k2 = m.edges.length by omega])
            have HTOT : Hid (totTo (partsM m) (partsM m).length ≤ 1000000 ∧ (partsM m).length ≤ 1000) := hide (by
              have h1 := sum_le_mul (parts_small HSH.out)
              have h2 := partsM_len m
              refine ⟨?_, by omega⟩
              rw [totTo, List.take_length]
              omega)
            have HLE : Hid ((partsM m).length = n0 + 1) := hide (by rw [partsM_len, ← HN0.out]; omega)
            go_wp2_with (first
              | (go_at_call 98; refine (impl_put_at rfl _ (small_i64 (by omega) (by omega))).mono ?_; rintro e w4 ⟨rfl, hb4⟩; have HB4 := hide hb4; clear hb4)
              | (go_at_call 100; have hjn := join_any (partsM m) g5 c5 w5 hg5 (fun i hi => HC5.out i hi) HTOT.out.1 HTOT.out.2; rw [HLE.out] at hjn; refine hjn.mono ?_; rintro e w6 ⟨rfl, hb6⟩; have HB6 := hide hb6; clear hb6 hjn)
              | (at_builtin; refine wpList_append_own _ rfl (.tmp 63) (.tmp 67) 131 rfl w1.heap.size 9 i0 (.string ByteArray.empty) 1 16 Try.underlying131 HI.out.1 HI.out.2.1 HI.out.2.2.1 HI.out.2.2.2 rfl (by decide) (.slice p n0 cp) (n0) (strV (partsE m k2)) rfl (owns_below HOWN.out (HB4.out.trans ((malloc1 _ _).mono HB4.out.size))) ⟨w4.heap.size, 0, none⟩ 1 1 [.string (putS m.start)] rfl rfl (fun j u hj => new_row1 _ _ _ j u hj) (strV_one [putS m.start]) (by unfold maxLen; omega) (by omega) (by have := HB4.out.size; have := HBEL.out.size; simp; omega) ?_; intro v5 w5 hown5 hgr5 _; have HGR5 := hide hgr5; obtain ⟨g5, c5, rfl, hg5, hc5⟩ := owns_some hown5 (by omega); have HC5 : Hid (∀ i (hi : i < (partsM m).length), w5.cell? ⟨g5, i, none⟩ = some (.string (partsM m)[i])) := hide (fun i hi => hc5 i _ (by rw [← List.getElem_map (f := Value.string) (h := by simpa using hi), ← List.getElem?_eq_getElem]; simp [HEE.out, strV])); have HB5 : Hid (Below w1.heap.size w1 w5) := hide (by have hA : Apart wr w5 (vblocks (.slice p n0 cp)) := (by have := (below_apart (HB4.out.trans ((malloc1 w4 _).mono HB4.out.size))).trans (grownBy_apart HGR5.out); rwa [List.nil_append] at this); exact HBEL.out.trans (hA.below HBEL.out.size (owns_fresh HOWN.out).lo)); clear hown5 hgr5 hc5))
            go_ret
            exact ⟨ret_str (by rw [HR.out]; rfl), HB1.out.trans ((HB5.out.trans (HB6.out.mono HB5.out.size)).mono HB1.out.size)⟩
end Go.Proofs.Ytcdlceldokhnbaa
