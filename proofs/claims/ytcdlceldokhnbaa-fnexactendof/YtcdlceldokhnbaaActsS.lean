/- ActsOf of the specification. -/
import Derived.Test.YtcdlceldokhnbaaActs
import Derived.Test.YtcdlceldokhnbaaMachR
namespace Go.Proofs.Ytcdlceldokhnbaa
open Go.RowKit
attribute [local go_sem ↓] Go.wp_at_zero Go.wp_at_succ

def actsR (m : Mach) (s : Int) : List RAct := if machB m && inB s 0 ((m.states.length : Int) - 1) then actsV m s else []
theorem actsR_len (m : Mach) (s : Int) : (actsR m s).length ≤ m.edges.length := by
  unfold actsR
  split
  · exact actsV_len m s
  · simp
theorem mach_80 {m : Mach} (h : machB m = true) : m.edges.length ≤ 80 := by
  simp [machB, headB] at h
  exact h.1.2.1
theorem actsR_len80 (m : Mach) (s : Int) : (actsR m s).length ≤ 80 := by
  unfold actsR
  split
  · rename_i h
    simp at h
    exact Nat.le_trans (actsV_len m s) (mach_80 h.1)
  · simp
theorem s_machineRight_at {q : Bool} {m : Mach} (hq : machB m = q) (v : Value) (w : World) (hf : m.fit) (hv : MachAt w v m) :
    Calls Try.prog 22 #[v] w fun e w' => e = .returned (.bool q) ∧ Below w.heap.size w w' := by subst hq; exact s_machineRight m v w hf hv
set_option maxHeartbeats 400000 in
theorem s_l04state {q : Bool} {m : Mach} {s : Int} (hq : inB s 0 ((m.states.length : Int) - 1) = q) (v : Value) (w : World) (hv : MachAt w v m) :
    Calls Try.prog 83 #[v, .int .i64 s] w fun e w' => e = .returned (.bool q) ∧ Below w.heap.size w w' := by
  obtain ⟨sv, ev, rfl, hs, he⟩ := hv
  have hsl := hs.lenm
  obtain ⟨sa, sc, rfl, -⟩ := hs
  obtain ⟨ea, ec, rfl, -⟩ := he
  have HQ := hide hq
  clear hq
  go_enter Try.func83, Try.ntmps83
  go_wp2_with (go_at_call 66; refine (ms_in_at HQ.out _).mono ?_; rintro e w' ⟨rfl, rfl⟩)
  go_ret
  exact ⟨rfl, malloc1 _ _⟩
set_option maxRecDepth 100000 in
set_option maxHeartbeats 1000000 in
theorem s_actsOf (m : Mach) (s : Int) (v : Value) (w : World) (hf : m.fit) (hv : MachAt w v m) :
    Calls Try.prog 31 #[v, .int .i64 s] w fun e w' => ∃ v', e = .returned v' ∧ RActOwn w' w.heap.size v' (actsR m s) ∧ Below w.heap.size w w' := by
  have HF := hide hf
  have HV : Hid (∀ W, Below w.heap.size w W → MachAt W v m) := hide (fun W hb => hv.carry hb)
  obtain ⟨sv, ev, rfl, hs, he⟩ := hv
  have hsl := hs.lenm
  obtain ⟨sa, sc, rfl, -⟩ := hs
  obtain ⟨ea, ec, rfl, -⟩ := he
  obtain ⟨q1, hq1⟩ : ∃ q1, machB m = q1 := ⟨_, rfl⟩
  obtain ⟨q2, hq2⟩ : ∃ q2, inB s 0 ((m.states.length : Int) - 1) = q2 := ⟨_, rfl⟩
  have HR : Hid (actsR m s = if q1 && q2 then actsV m s else []) := hide (by rw [actsR, hq1, hq2])
  have HQ1 := hide hq1
  have HQ2 := hide hq2
  clear hq1 hq2 hf
  have HGO : Hid (∀ W A, W = w.alloc A → Below w.heap.size w W ∧ w.heap.size < W.heap.size) := hide (fun W A hW => by rw [hW]; exact ⟨malloc1 _ _, by simp⟩)
  cases q1
  · go_enter Try.func31, Try.ntmps31
    go_wp2_with (refine wp_text_from 5 (fun W hW => ?_); have hne := grown_some W; have f0 := grown_cell (w := W) (b := w.heap.size) (o := 0) (v := .slice sa m.states.length sc) (by rw [hW]; simp); have f1 := grown_cell (w := W) (b := w.heap.size) (o := 1) (v := .slice ea m.edges.length ec) (by rw [hW]; simp); have f2 := grown_cell (w := W) (b := w.heap.size) (o := 2) (v := .int .i64 m.start) (by rw [hW]; simp); have HBW := hide (HGO.out W _ hW); clear hW; (repeat (go_big_quiet_step (first
        | (go_at_call 22; exact grown_more (s_machineRight_at HQ1.out _ _ HF.out ((HV.out _ HBW.out.1).carry (Grown.bel _))))
        | (go_at_call 83; exact grown_more (s_l04state HQ2.out _ _ ((HV.out _ HBW.out.1).carry (Grown.bel _))))))); refine wpQuiet_nil ?_; intro w1 hw1; have b0 := f0 ⟨w1, hw1⟩; have b1 := f1 ⟨w1, hw1⟩; have b2 := f2 ⟨w1, hw1⟩; dsimp only at b0 b1 b2; have HW : Hid (Below w.heap.size w w1) := hide (HBW.out.1.trans (hw1.mono HBW.out.1.size)); have HW1 := hide hw1; clear hw1 hne f0 f1 f2)
    go_ret
    refine ⟨_, rfl, ?_, HW.out.trans ((malloc1 _ _).mono HW.out.size)⟩
    rw [HR.out]
    exact owns_empty _ _ _ _ w1.heap.size HW.out.size (mheap_new _ _ _ rfl)
  · cases q2
    · go_enter Try.func31, Try.ntmps31
      go_wp2_with (refine wp_text_from 5 (fun W hW => ?_); have hne := grown_some W; have f0 := grown_cell (w := W) (b := w.heap.size) (o := 0) (v := .slice sa m.states.length sc) (by rw [hW]; simp); have f1 := grown_cell (w := W) (b := w.heap.size) (o := 1) (v := .slice ea m.edges.length ec) (by rw [hW]; simp); have f2 := grown_cell (w := W) (b := w.heap.size) (o := 2) (v := .int .i64 m.start) (by rw [hW]; simp); have HBW := hide (HGO.out W _ hW); clear hW; (repeat (go_big_quiet_step (first
        | (go_at_call 22; exact grown_more (s_machineRight_at HQ1.out _ _ HF.out ((HV.out _ HBW.out.1).carry (Grown.bel _))))
        | (go_at_call 83; exact grown_more (s_l04state HQ2.out _ _ ((HV.out _ HBW.out.1).carry (Grown.bel _))))))); refine wpQuiet_nil ?_; intro w1 hw1; have b0 := f0 ⟨w1, hw1⟩; have b1 := f1 ⟨w1, hw1⟩; have b2 := f2 ⟨w1, hw1⟩; dsimp only at b0 b1 b2; have HW : Hid (Below w.heap.size w w1) := hide (HBW.out.1.trans (hw1.mono HBW.out.1.size)); have HW1 := hide hw1; clear hw1 hne f0 f1 f2)
      go_ret
      refine ⟨_, rfl, ?_, HW.out.trans ((malloc1 _ _).mono HW.out.size)⟩
      rw [HR.out]
      exact owns_empty _ _ _ _ w1.heap.size HW.out.size (mheap_new _ _ _ rfl)
    · have hb : 0 ≤ s ∧ s < (m.states.length : Int) := by have := HQ2.out; simp [inB] at this; omega
      have H80 := hide (mach_80 HQ1.out)
      have HB := hide hb
      clear hb
      go_enter Try.func31, Try.ntmps31
      go_wp2_with (first | (refine wp_text_from 5 (fun W hW => ?_); have hne := grown_some W; have f0 := grown_cell (w := W) (b := w.heap.size) (o := 0) (v := .slice sa m.states.length sc) (by rw [hW]; simp); have f1 := grown_cell (w := W) (b := w.heap.size) (o := 1) (v := .slice ea m.edges.length ec) (by rw [hW]; simp); have f2 := grown_cell (w := W) (b := w.heap.size) (o := 2) (v := .int .i64 m.start) (by rw [hW]; simp); have HBW := hide (HGO.out W _ hW); clear hW; (repeat (go_big_quiet_step (first
        | (go_at_call 22; exact grown_more (s_machineRight_at HQ1.out _ _ HF.out ((HV.out _ HBW.out.1).carry (Grown.bel _))))
        | (go_at_call 83; exact grown_more (s_l04state HQ2.out _ _ ((HV.out _ HBW.out.1).carry (Grown.bel _))))))); refine wpQuiet_nil ?_; intro w1 hw1; have b0 := f0 ⟨w1, hw1⟩; have b1 := f1 ⟨w1, hw1⟩; have b2 := f2 ⟨w1, hw1⟩; dsimp only at b0 b1 b2; have HW : Hid (Below w.heap.size w w1) := hide (HBW.out.1.trans (hw1.mono HBW.out.1.size)); have HW1 := hide hw1; clear hw1 hne f0 f1 f2) | (go_at_call 84; refine (s_l04acts m s _ _ (HV.out _ HW.out) HB.out.1 HB.out.2 H80.out).mono ?_; rintro e w2 ⟨v2, rfl, ho2, hb2⟩; have HO2 := hide ho2; have HB2 := hide hb2; clear ho2 hb2))
      go_ret
      refine ⟨_, rfl, ?_, HW.out.trans (HB2.out.mono HW.out.size)⟩
      rw [HR.out]
      obtain ⟨h1, h2⟩ := HO2.out
      exact ⟨h1, h2.imp id (fun ⟨g, c, cur, h3, h4, h5⟩ => ⟨g, c, cur, h3, Nat.le_trans HW.out.size h4, h5⟩)⟩
end Go.Proofs.Ytcdlceldokhnbaa
