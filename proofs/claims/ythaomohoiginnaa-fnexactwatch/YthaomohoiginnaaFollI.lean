/- Follow of the program. -/
import Derived.Test.YthaomohoiginnaaStepI
namespace Go.Proofs.Ythaomohoiginnaa
open Go.RowKit Go.Maps
attribute [local go_sem ↓] Go.wp_at_zero Go.wp_at_succ

set_option maxRecDepth 100000 in
set_option maxHeartbeats 1000000 in
theorem follow_i (m : Mach) (l : List RAct) (v u : Value) (w : World) (hf : m.fit) (hr : ∀ a ∈ l, a.rng ∧ a.ok) (hv : MachAt w v m) (hu : RActSl w w.heap.size u l) :
    Calls Try.prog 41 #[v, u] w fun e w' => e = .returned (.int .i64 (followR m l)) ∧ Below w.heap.size w w' := by
  have HF := hide hf
  have HAR := hide hr
  have HV : Hid (∀ W, Below w.heap.size w W → MachAt W v m) := hide (fun W hb => hv.carry hb)
  obtain ⟨sv, ev, rfl, hs, he⟩ := hv
  obtain ⟨sa, sc, rfl, -⟩ := hs
  obtain ⟨ea, ec, rfl, -⟩ := he
  obtain ⟨la, lc, rfl, hl1, hl2, hl3⟩ := hu
  have HLR := hide hl3
  obtain ⟨q1, hq1⟩ : ∃ q1, machB m = q1 := ⟨_, rfl⟩
  have HQ1 := hide hq1
  have HR0 : Hid (followR m l = if decide (l.length ≤ 60) && q1 then followK m m.start l 0 else -1) := hide (by rw [followR, hq1])
  clear hq1 hf hl3 hr
  have HGO : Hid (∀ W A, W = w.alloc A → Below w.heap.size w W) := hide (fun W A hW => by rw [hW]; exact malloc1 _ _)
  by_cases h60 : 60 < l.length
  · have HR : Hid (followR m l = -1) := hide (by rw [HR0.out, decide_eq_false (by omega)]; rfl)
    have h60' : decide (60 < (l.length : Int)) = true := decide_eq_true (by omega)
    go_enter Try.func41, Try.ntmps41
    go_wp2_with (refine wp_text_from 10 (fun W hW => ?_); have hne := grown_some W; have f0 := grown_cell (w := W) (b := w.heap.size) (o := 0) (v := .slice sa m.states.length sc) (by rw [hW]; simp); have f1 := grown_cell (w := W) (b := w.heap.size) (o := 1) (v := .slice ea m.edges.length ec) (by rw [hW]; simp); have f2 := grown_cell (w := W) (b := w.heap.size) (o := 2) (v := .int .i64 m.start) (by rw [hW]; simp); have HBW := hide (HGO.out W _ hW); have hlw : w.heap.size < W.heap.size := (by rw [hW]; simp); clear hW; (repeat (go_big_quiet_step (first
        | (go_at_call 27; exact grown_more (machine_right_at HQ1.out _ _ HF.out ((HV.out _ HBW.out).carry (Grown.bel _))))))); refine wpQuiet_nil ?_; intro w1 hw1; have b0 := f0 ⟨w1, hw1⟩; have b1 := f1 ⟨w1, hw1⟩; have b2 := f2 ⟨w1, hw1⟩; dsimp only at b0 b1 b2; have HW : Hid (Below w.heap.size w w1) := hide (HBW.out.trans (hw1.mono HBW.out.size)); have hlw1 : w.heap.size < w1.heap.size := Nat.lt_of_lt_of_le hlw hw1.size; have HW1 := hide hw1; clear hw1 hne f0 f1 f2)
    go_ret
    exact ⟨ret_int HR.out, HW.out⟩
  · have h60' : decide (60 < (l.length : Int)) = false := decide_eq_false (by omega)
    have HD : Hid (decide (l.length ≤ 60) = true) := hide (decide_eq_true (by omega))
    cases q1
    · have HR : Hid (followR m l = -1) := hide (by rw [HR0.out, HD.out]; rfl)
      go_enter Try.func41, Try.ntmps41
      go_wp2_with (refine wp_text_from 10 (fun W hW => ?_); have hne := grown_some W; have f0 := grown_cell (w := W) (b := w.heap.size) (o := 0) (v := .slice sa m.states.length sc) (by rw [hW]; simp); have f1 := grown_cell (w := W) (b := w.heap.size) (o := 1) (v := .slice ea m.edges.length ec) (by rw [hW]; simp); have f2 := grown_cell (w := W) (b := w.heap.size) (o := 2) (v := .int .i64 m.start) (by rw [hW]; simp); have HBW := hide (HGO.out W _ hW); have hlw : w.heap.size < W.heap.size := (by rw [hW]; simp); clear hW; (repeat (go_big_quiet_step (first
        | (go_at_call 27; exact grown_more (machine_right_at HQ1.out _ _ HF.out ((HV.out _ HBW.out).carry (Grown.bel _))))))); refine wpQuiet_nil ?_; intro w1 hw1; have b0 := f0 ⟨w1, hw1⟩; have b1 := f1 ⟨w1, hw1⟩; have b2 := f2 ⟨w1, hw1⟩; dsimp only at b0 b1 b2; have HW : Hid (Below w.heap.size w w1) := hide (HBW.out.trans (hw1.mono HBW.out.size)); have hlw1 : w.heap.size < w1.heap.size := Nat.lt_of_lt_of_le hlw hw1.size; have HW1 := hide hw1; clear hw1 hne f0 f1 f2)
      go_ret
      exact ⟨ret_int HR.out, HW.out⟩
    · have HR : Hid (followR m l = followK m m.start l 0) := hide (by rw [HR0.out, HD.out]; rfl)
      have HRG := hide (fun s a => stepF_range HQ1.out s a)
      have HSR := hide (start_range HQ1.out)
      have HN40 := hide (mach_40 HQ1.out)
      go_enter Try.func41, Try.ntmps41
      go_wp2_with (first
        | (refine wp_text_from 10 (fun W hW => ?_); have hne := grown_some W; have f0 := grown_cell (w := W) (b := w.heap.size) (o := 0) (v := .slice sa m.states.length sc) (by rw [hW]; simp); have f1 := grown_cell (w := W) (b := w.heap.size) (o := 1) (v := .slice ea m.edges.length ec) (by rw [hW]; simp); have f2 := grown_cell (w := W) (b := w.heap.size) (o := 2) (v := .int .i64 m.start) (by rw [hW]; simp); have HBW := hide (HGO.out W _ hW); have hlw : w.heap.size < W.heap.size := (by rw [hW]; simp); clear hW; (repeat (go_big_quiet_step (first
        | (go_at_call 27; exact grown_more (machine_right_at HQ1.out _ _ HF.out ((HV.out _ HBW.out).carry (Grown.bel _))))))); refine wpQuiet_nil ?_; intro w1 hw1; have b0 := f0 ⟨w1, hw1⟩; have b1 := f1 ⟨w1, hw1⟩; have b2 := f2 ⟨w1, hw1⟩; dsimp only at b0 b1 b2; have HW : Hid (Below w.heap.size w w1) := hide (HBW.out.trans (hw1.mono HBW.out.size)); have hlw1 : w.heap.size < w1.heap.size := Nat.lt_of_lt_of_le hlw hw1.size; have HW1 := hide hw1; clear hw1 hne f0 f1 f2)
        | (go_at_call 90; refine (graph_of m _ _ HQ1.out HF.out (HV.out _ HW.out)).mono ?_; rintro e w2 ⟨sv, b, rfl, hs2, hg2, -, hb2⟩; obtain ⟨p2, c2, rfl⟩ := hs2.shape; have HG2 := hide hg2; have HB2 : Hid (Below w1.heap.size w1 w2) := hide hb2; have d2 := (hb2.cell (p := ⟨w.heap.size, 2, none⟩) hlw1).trans b2; have hlw2 : w.heap.size < w2.heap.size := Nat.lt_of_lt_of_le hlw1 hb2.size; clear hs2 hg2 hb2))
      refine wp_letter (fun W3 hW3 => ?_)
      have HW3 : Hid (Below w.heap.size w W3) := hide (by rw [hW3]; exact (HW.out.trans (HB2.out.mono HW.out.size)).trans ((malloc1 _ _).mono (Nat.le_of_lt hlw2)))
      have k0 : W3.cell? ⟨w2.heap.size, 0, none⟩ = some (.slice p2 m.states.length c2) := by rw [hW3]; simp
      have k1 : W3.cell? ⟨w2.heap.size, 1, none⟩ = some (.map (some b)) := by rw [hW3]; simp
      have hz3 : w2.heap.size < W3.heap.size := by rw [hW3]; simp
      have HG3 : Hid (GraphAt W3 m m.edges b m.edges.length) := hide (by rw [hW3]; exact HG2.out.keep (below_apart (malloc1 _ _)) (by simp))
      clear hW3
      go_loopw [6, 23] (fun st i wr => ∃ (k : Nat) (z : Int), k ≤ l.length ∧ i = .int .i64 k ∧ st = .int .i64 z ∧ 0 ≤ z ∧ z < (m.states.length : Int) ∧ followK m z (l.drop k) k = followK m m.start l 0 ∧ Below W3.heap.size W3 wr) (fun _ i _ => l.length - (intOf i).toNat)
      case atStart => exact ⟨0, m.start, Nat.zero_le _, rfl, rfl, HSR.out.1, HSR.out.2, rfl, Below.refl _ _⟩
      case round =>
        obtain ⟨k, z, hk, rfl, rfl, hz0, hz1, hfk, hbel⟩ := hrel
        have HFK := hide hfk
        have HBEL := hide hbel
        have c0 := (hbel.cell (p := ⟨w2.heap.size, 0, none⟩) hz3).trans k0
        have c1 := (hbel.cell (p := ⟨w2.heap.size, 1, none⟩) hz3).trans k1
        have hzr : w2.heap.size < wr.heap.size := Nat.lt_of_lt_of_le hz3 hbel.size
        have HGR := hide (HG3.out.keep (below_apart hbel) (by simp))
        have HWR : Hid (Below w.heap.size w wr) := hide (HW3.out.trans (hbel.mono HW3.out.size))
        clear hfk hbel
        by_cases hlt : k < l.length
        · obtain ⟨bl, o, rfl, hbB, hrow⟩ := HLR.out (by intro h; simp [h] at hlt)
          have hnode := (hrow.get k hlt).carry hbB HWR.out
          obtain ⟨a1, ha1⟩ : ∃ a1, a1 = l[k] := ⟨_, rfl⟩
          have HA1 := hide (HAR.out a1 (by rw [ha1]; exact List.getElem_mem hlt))
          rw [← ha1] at hnode
          obtain ⟨nx, hnx⟩ : ∃ nx, stepF m z a1 = nx := ⟨_, rfl⟩
          have HNX := hide hnx
          have hrg := HRG.out z a1
          rw [hnx] at hrg
          have HST : Hid (followK m z (l.drop k) k = if nx < 0 then -1 - (k : Int) else followK m nx (l.drop (k + 1)) (k + 1)) := hide (by rw [follow_drop hlt, ← ha1, hnx])
          obtain ⟨e0, e1, e2, e3⟩ := hnode
          have HZB : Hid (i64B z) := hide (by have := HN40.out; constructor <;> omega)
          have rc0 := fun A => ((malloc1 wr A).cell (p := ⟨w2.heap.size, 0, none⟩) hzr).trans c0
          have rc1 := fun A => ((malloc1 wr A).cell (p := ⟨w2.heap.size, 1, none⟩) hzr).trans c1
          clear ha1 hrow hnx
          rcases hrg with hneg | ⟨hp0, hp1⟩
          · subst hneg
            go_wp2_with (go_at_call 91; refine (graph_step (a := a1) HNX.out HQ1.out _ _ _ _ _ _ (HGR.out.keep (below_apart (malloc1 _ _)) (by simp)) HZB.out HA1.out.1 HA1.out.2).mono ?_; rintro e w4 ⟨rfl, hb4⟩; have HB4 : Hid (Below wr.heap.size wr w4) := hide ((malloc1 _ _).trans (hb4.mono (by simp))); clear hb4)
            go_ret
            exact ⟨ret_int (by rw [HR.out, ← HFK.out, HST.out]; simp), HWR.out.trans (HB4.out.mono HWR.out.size)⟩
          · have hnx1 : (nx == -1) = false := by simp; omega
            go_wp2_with (go_at_call 91; refine (graph_step (a := a1) HNX.out HQ1.out _ _ _ _ _ _ (HGR.out.keep (below_apart (malloc1 _ _)) (by simp)) HZB.out HA1.out.1 HA1.out.2).mono ?_; rintro e w4 ⟨rfl, hb4⟩; have HB4 : Hid (Below wr.heap.size wr w4) := hide ((malloc1 _ _).trans (hb4.mono (by simp))); clear hb4)
            go_roundw
            case rel => exact ⟨k + 1, nx, hlt, by go_num, rfl, hp0, hp1, by rw [← HFK.out, HST.out, if_neg (by omega)], HBEL.out.trans (HB4.out.mono HBEL.out.size)⟩
            case measure => simp [intOf]; omega
        · go_wp2_with fail
          go_ret
          refine ⟨ret_int ?_, HWR.out⟩
          rw [HR.out, ← HFK.out, List.drop_eq_nil_of_le (by omega)]
          rfl
end Go.Proofs.Ythaomohoiginnaa
