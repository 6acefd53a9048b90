/- ActsOf of the program: the whole. -/
import Derived.Test.YthaomohoiginnaaActsI0
import Derived.Test.YthaomohoiginnaaStrRow
namespace Go.Proofs.Ythaomohoiginnaa
open Go.RowKit
attribute [local go_sem ↓] Go.wp_at_zero Go.wp_at_succ

set_option maxRecDepth 100000 in
set_option maxHeartbeats 400000 in
theorem right_with {q : Bool} {m : Mach} {s : Int} (hq : (machB m && inB s 0 ((m.states.length : Int) - 1)) = q) (v : Value) (w : World) (hf : m.fit) (hv : MachAt w v m) :
    Calls Try.prog 89 #[v, .int .i64 s] w fun e w' => e = .returned (.bool q) ∧ Below w.heap.size w w' := by
  have HF := hide hf
  have HV : Hid (∀ W, Below w.heap.size w W → MachAt W v m) := hide (fun W hb => hv.carry hb)
  obtain ⟨sa, sc, ea, ec, rfl⟩ := hv.shape
  obtain ⟨q1, hq1⟩ : ∃ q1, machB m = q1 := ⟨_, rfl⟩
  obtain ⟨q2, hq2⟩ : ∃ q2, inB s 0 ((m.states.length : Int) - 1) = q2 := ⟨_, rfl⟩
  have HQ : Hid (q = (q1 && q2)) := hide (by rw [← hq, hq1, hq2])
  have HQ1 := hide hq1
  have HQ2 := hide hq2
  clear hq1 hq2 hf hv hq
  have HGO : Hid (∀ W A, W = w.alloc A → Below w.heap.size w W) := hide (fun W A hW => by rw [hW]; exact malloc1 _ _)
  unfold machV
  cases q1
  · go_enter Try.func89, Try.ntmps89
    go_wp2_with (refine wp_text_from 5 (fun W hW => ?_); have hne := grown_some W; have f0 := grown_cell (w := W) (b := w.heap.size) (o := 0) (v := .slice sa m.states.length sc) (by rw [hW]; simp); have f1 := grown_cell (w := W) (b := w.heap.size) (o := 1) (v := .slice ea m.edges.length ec) (by rw [hW]; simp); have f2 := grown_cell (w := W) (b := w.heap.size) (o := 2) (v := .int .i64 m.start) (by rw [hW]; simp); have HBW := hide (HGO.out W _ hW); clear hW; (repeat (go_big_quiet_step (first
        | (go_at_call 27; exact grown_more (machine_right_at HQ1.out _ _ HF.out ((HV.out _ HBW.out).carry (Grown.bel _))))
        | (go_at_call 76; exact grown_more (has_state HQ2.out _ _ ((HV.out _ HBW.out).carry (Grown.bel _))))))); refine wpQuiet_nil ?_; intro w1 hw1; have HW1 := hide hw1; clear hw1 hne f0 f1 f2)
    go_ret
    exact ⟨ret_bool (by rw [HQ.out]; rfl), HBW.out.trans (HW1.out.mono HBW.out.size)⟩
  · cases q2
    · go_enter Try.func89, Try.ntmps89
      go_wp2_with (refine wp_text_from 5 (fun W hW => ?_); have hne := grown_some W; have f0 := grown_cell (w := W) (b := w.heap.size) (o := 0) (v := .slice sa m.states.length sc) (by rw [hW]; simp); have f1 := grown_cell (w := W) (b := w.heap.size) (o := 1) (v := .slice ea m.edges.length ec) (by rw [hW]; simp); have f2 := grown_cell (w := W) (b := w.heap.size) (o := 2) (v := .int .i64 m.start) (by rw [hW]; simp); have HBW := hide (HGO.out W _ hW); clear hW; (repeat (go_big_quiet_step (first
        | (go_at_call 27; exact grown_more (machine_right_at HQ1.out _ _ HF.out ((HV.out _ HBW.out).carry (Grown.bel _))))
        | (go_at_call 76; exact grown_more (has_state HQ2.out _ _ ((HV.out _ HBW.out).carry (Grown.bel _))))))); refine wpQuiet_nil ?_; intro w1 hw1; have HW1 := hide hw1; clear hw1 hne f0 f1 f2)
      go_ret
      exact ⟨ret_bool (by rw [HQ.out]; rfl), HBW.out.trans (HW1.out.mono HBW.out.size)⟩
    · go_enter Try.func89, Try.ntmps89
      go_wp2_with (refine wp_text_from 5 (fun W hW => ?_); have hne := grown_some W; have f0 := grown_cell (w := W) (b := w.heap.size) (o := 0) (v := .slice sa m.states.length sc) (by rw [hW]; simp); have f1 := grown_cell (w := W) (b := w.heap.size) (o := 1) (v := .slice ea m.edges.length ec) (by rw [hW]; simp); have f2 := grown_cell (w := W) (b := w.heap.size) (o := 2) (v := .int .i64 m.start) (by rw [hW]; simp); have HBW := hide (HGO.out W _ hW); clear hW; (repeat (go_big_quiet_step (first
        | (go_at_call 27; exact grown_more (machine_right_at HQ1.out _ _ HF.out ((HV.out _ HBW.out).carry (Grown.bel _))))
        | (go_at_call 76; exact grown_more (has_state HQ2.out _ _ ((HV.out _ HBW.out).carry (Grown.bel _))))))); refine wpQuiet_nil ?_; intro w1 hw1; have HW1 := hide hw1; clear hw1 hne f0 f1 f2)
      go_ret
      exact ⟨ret_bool (by rw [HQ.out]; rfl), HBW.out.trans (HW1.out.mono HBW.out.size)⟩

theorem act_fit {m : Mach} (hf : m.fit) {e : REdge} (he : e ∈ m.edges) (s : Int) : (actE m s e).fit := by
  refine ⟨?_, hf.2.1 e he⟩
  show (stAt m s).peer.size ≤ 1048576
  unfold stAt
  cases h : m.states[s.toNat]? with
  | none => simp
  | some x => exact hf.1 x (List.mem_of_getElem? h)
end Go.Proofs.Ythaomohoiginnaa
