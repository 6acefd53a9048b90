/- EndOf of the specification. -/
import Derived.Test.YtcdlceldokhnbaaFarS
namespace Go.Proofs.Ytcdlceldokhnbaa
open Go.RowKit
attribute [local go_sem ↓] Go.wp_at_zero Go.wp_at_succ

def EndR (m : Mach) (s r : Int) : Prop := if machB m && inB s 0 ((m.states.length : Int) - 1) then EndAns m s r else r = -1
theorem EndR.unique {m : Mach} {s r r' : Int} (h : EndR m s r) (h' : EndR m s r') : r = r' := by
  unfold EndR at h h'
  split at h <;> rename_i hq
  · rw [if_pos hq] at h'
    exact h.unique h'
  · rw [if_neg hq] at h'
    rw [h, h']
set_option maxRecDepth 100000 in
set_option maxHeartbeats 1000000 in
theorem s_endOf (m : Mach) (s : Int) (v : Value) (w : World) (hf : m.fit) (hv : MachAt w v m) :
    Calls Try.prog 45 #[v, .int .i64 s] w fun e w' => ∃ r, e = .returned (.int .i64 r) ∧ EndR m s r ∧ Below w.heap.size w w' := by
  have HF := hide hf
  have HV : Hid (∀ W, Below w.heap.size w W → MachAt W v m) := hide (fun W hb => hv.carry hb)
  obtain ⟨sv, ev, rfl, hs, he⟩ := hv
  have hsl := hs.lenm
  obtain ⟨sa, sc, rfl, -⟩ := hs
  obtain ⟨ea, ec, rfl, -⟩ := he
  obtain ⟨q1, hq1⟩ : ∃ q1, machB m = q1 := ⟨_, rfl⟩
  obtain ⟨q2, hq2⟩ : ∃ q2, inB s 0 ((m.states.length : Int) - 1) = q2 := ⟨_, rfl⟩
  have HR : Hid (∀ r, (if q1 && q2 then EndAns m s r else r = -1) → EndR m s r) := hide (by intro r h; rw [EndR, hq1, hq2]; exact h)
  have HQ1 := hide hq1
  have HQ2 := hide hq2
  clear hq1 hq2 hf
  have HGO : Hid (∀ W A, W = w.alloc A → Below w.heap.size w W ∧ w.heap.size < W.heap.size) := hide (fun W A hW => by rw [hW]; exact ⟨malloc1 _ _, by simp⟩)
  cases q1
  · go_enter Try.func45, Try.ntmps45
    go_wp2_with (refine wp_text_from 5 (fun W hW => ?_); have hne := grown_some W; have f0 := grown_cell (w := W) (b := w.heap.size) (o := 0) (v := .slice sa m.states.length sc) (by rw [hW]; simp); have f1 := grown_cell (w := W) (b := w.heap.size) (o := 1) (v := .slice ea m.edges.length ec) (by rw [hW]; simp); have f2 := grown_cell (w := W) (b := w.heap.size) (o := 2) (v := .int .i64 m.start) (by rw [hW]; simp); have HBW := hide (HGO.out W _ hW); clear hW; (repeat (go_big_quiet_step (first
        | (go_at_call 22; exact grown_more (s_machineRight_at HQ1.out _ _ HF.out ((HV.out _ HBW.out.1).carry (Grown.bel _))))
        | (go_at_call 83; exact grown_more (s_l04state HQ2.out _ _ ((HV.out _ HBW.out.1).carry (Grown.bel _))))))); refine wpQuiet_nil ?_; intro w1 hw1; have b0 := f0 ⟨w1, hw1⟩; have b1 := f1 ⟨w1, hw1⟩; have b2 := f2 ⟨w1, hw1⟩; dsimp only at b0 b1 b2; have HW : Hid (Below w.heap.size w w1) := hide (HBW.out.1.trans (hw1.mono HBW.out.1.size)); have HW1 := hide hw1; clear hw1 hne f0 f1 f2)
    go_ret
    exact ⟨_, rfl, HR.out _ (by simp), HW.out⟩
  · cases q2
    · go_enter Try.func45, Try.ntmps45
      go_wp2_with (refine wp_text_from 5 (fun W hW => ?_); have hne := grown_some W; have f0 := grown_cell (w := W) (b := w.heap.size) (o := 0) (v := .slice sa m.states.length sc) (by rw [hW]; simp); have f1 := grown_cell (w := W) (b := w.heap.size) (o := 1) (v := .slice ea m.edges.length ec) (by rw [hW]; simp); have f2 := grown_cell (w := W) (b := w.heap.size) (o := 2) (v := .int .i64 m.start) (by rw [hW]; simp); have HBW := hide (HGO.out W _ hW); clear hW; (repeat (go_big_quiet_step (first
        | (go_at_call 22; exact grown_more (s_machineRight_at HQ1.out _ _ HF.out ((HV.out _ HBW.out.1).carry (Grown.bel _))))
        | (go_at_call 83; exact grown_more (s_l04state HQ2.out _ _ ((HV.out _ HBW.out.1).carry (Grown.bel _))))))); refine wpQuiet_nil ?_; intro w1 hw1; have b0 := f0 ⟨w1, hw1⟩; have b1 := f1 ⟨w1, hw1⟩; have b2 := f2 ⟨w1, hw1⟩; dsimp only at b0 b1 b2; have HW : Hid (Below w.heap.size w w1) := hide (HBW.out.1.trans (hw1.mono HBW.out.1.size)); have HW1 := hide hw1; clear hw1 hne f0 f1 f2)
      go_ret
      exact ⟨_, rfl, HR.out _ (by simp), HW.out⟩
    · have hb : 0 ≤ s ∧ s < (m.states.length : Int) := by have := HQ2.out; simp [inB] at this; omega
      have HED : Hid (∀ e ∈ m.edges, 0 ≤ e.dst ∧ e.dst < (m.states.length : Int)) := hide (fun e he => by have := edge_bounds HQ1.out he; omega)
      go_enter Try.func45, Try.ntmps45
      go_wp2_with (first | (refine wp_text_from 5 (fun W hW => ?_); have hne := grown_some W; have f0 := grown_cell (w := W) (b := w.heap.size) (o := 0) (v := .slice sa m.states.length sc) (by rw [hW]; simp); have f1 := grown_cell (w := W) (b := w.heap.size) (o := 1) (v := .slice ea m.edges.length ec) (by rw [hW]; simp); have f2 := grown_cell (w := W) (b := w.heap.size) (o := 2) (v := .int .i64 m.start) (by rw [hW]; simp); have HBW := hide (HGO.out W _ hW); clear hW; (repeat (go_big_quiet_step (first
        | (go_at_call 22; exact grown_more (s_machineRight_at HQ1.out _ _ HF.out ((HV.out _ HBW.out.1).carry (Grown.bel _))))
        | (go_at_call 83; exact grown_more (s_l04state HQ2.out _ _ ((HV.out _ HBW.out.1).carry (Grown.bel _))))))); refine wpQuiet_nil ?_; intro w1 hw1; have b0 := f0 ⟨w1, hw1⟩; have b1 := f1 ⟨w1, hw1⟩; have b2 := f2 ⟨w1, hw1⟩; dsimp only at b0 b1 b2; have HW : Hid (Below w.heap.size w w1) := hide (HBW.out.1.trans (hw1.mono HBW.out.1.size)); have HW1 := hide hw1; clear hw1 hne f0 f1 f2) | (go_at_call 94; refine (s_l04far m _ _ HQ1.out (HV.out _ HW.out)).mono ?_; rintro e w2 ⟨g, c, f, cc, rfl, hcell, hfar, hto, hb2⟩; have hc := hcell s.toNat _ (intV_get hb.1 (by rw [hfar.len]; exact hb.2)); have HFAR := hide (And.intro hfar hto); have HB2 := hide hb2; clear hb2 hcell hfar hto))
      go_ret
      exact ⟨_, rfl, HR.out _ (far_end HED.out HFAR.out.1 HFAR.out.2 hb.1 hb.2), HW.out.trans (HB2.out.mono HW.out.size)⟩
end Go.Proofs.Ytcdlceldokhnbaa
