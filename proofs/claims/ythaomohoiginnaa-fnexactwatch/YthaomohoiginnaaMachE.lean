/- edgeRight of the program, walked. -/
import Derived.Test.YthaomohoiginnaaMachI
namespace Go.Proofs.Ythaomohoiginnaa
open Go.RowKit
attribute [local go_sem ↓] Go.wp_at_zero Go.wp_at_succ

set_option maxRecDepth 100000 in
set_option maxHeartbeats 1000000 in
theorem edge_right {q : Bool} {m : Mach} {x : REdge} (hq : medB m x = q) (hl : x.label.size ≤ maxLen) (v : Value) (w : World) (hv : MachAt w v m) :
    Calls Try.prog 78 #[v, x.val] w fun e w' => e = .returned (.bool q) ∧ Below w.heap.size w w' := by
  have HL := hide hl
  have HV : Hid (∀ W, Below w.heap.size w W → ∀ g : Grown W, MachAt g.val v m) := hide (fun W hb g => (hv.carry hb).carry g.bel)
  have HS : Hid (inB x.src 0 ((m.states.length : Int) - 1) = true → ∃ b o sa sc ea ec s, v = machV sa sc ea ec m ∧ sa = some ⟨b, o, none⟩ ∧ (s : RState).kind = kindAt m x.src ∧ ∀ W, Below w.heap.size w W → W.cell? ⟨b, o + x.src.toNat * 2, none⟩ = some (.int .i64 s.kind) ∧ W.cell? ⟨b, o + x.src.toNat * 2 + 1, none⟩ = some (.string s.peer)) := hide (fun hin => by
    obtain ⟨sv, ev, rfl, hs, he⟩ := hv
    obtain ⟨sa, sc, rfl, _, _, hs3⟩ := hs
    obtain ⟨ea, ec, rfl, _⟩ := he
    have hb2 : 0 ≤ x.src ∧ x.src < (m.states.length : Int) := by simp [inB] at hin; omega
    obtain ⟨b, o, rfl, hbB, hrow⟩ := hs3 (by intro h; rw [h] at hb2; simp at hb2; omega)
    have hlt : x.src.toNat < m.states.length := by omega
    have := hrow.get x.src.toNat hlt
    exact ⟨b, o, _, sc, ea, ec, m.states[x.src.toNat], rfl, rfl, by rw [kindAt, List.getElem?_eq_getElem hlt], fun W hb => this.carry hbB hb⟩)
  have hsl : m.states.length ≤ 4294967296 := by obtain ⟨sv, ev, rfl, hs, he⟩ := hv; exact hs.lenm
  obtain ⟨sa, sc, ea, ec, hve⟩ := hv.shape
  have HVE := hide hve
  clear hv
  obtain ⟨q1, hq1⟩ : ∃ q1, inB x.src 0 ((m.states.length : Int) - 1) = q1 := ⟨_, rfl⟩
  obtain ⟨q2, hq2⟩ : ∃ q2, inB x.dst 0 ((m.states.length : Int) - 1) = q2 := ⟨_, rfl⟩
  obtain ⟨q3, hq3⟩ : ∃ q3, nameB x.label = q3 := ⟨_, rfl⟩
  obtain ⟨q4, hq4⟩ : ∃ q4, inB x.sort 0 2 = q4 := ⟨_, rfl⟩
  obtain ⟨q5, hq5⟩ : ∃ q5, (kindAt m x.src == 0) = q5 := ⟨_, rfl⟩
  have HQ : Hid (q = (q1 && (q2 && (q3 && (q4 && !q5))))) := hide (by rw [← hq, medB, hq1, hq2, hq3, hq4, hq5])
  have HQ1 := hide hq1
  have HQ2 := hide hq2
  have HQ3 := hide hq3
  have HQ4 := hide hq4
  have HQ5 := hide hq5
  clear hq1 hq2 hq3 hq4 hq5 hq
  have HGO : Hid (∀ W A B, W = (w.alloc A).alloc B → Below w.heap.size w W) := hide (fun W A B hW => by rw [hW]; exact malloc2 _ _ _)
  subst hve
  cases q1
  · unfold machV REdge.val
    go_enter Try.func78, Try.ntmps78
    go_wp2_with (refine wp_text_from 5 (fun W hW => ?_); have hne := grown_some W; have f0 := grown_cell (w := W) (b := w.heap.size) (o := 0) (v := .slice sa m.states.length sc) (by rw [hW]; simp); have f1 := grown_cell (w := W) (b := w.heap.size) (o := 1) (v := .slice ea m.edges.length ec) (by rw [hW]; simp); have f2 := grown_cell (w := W) (b := w.heap.size) (o := 2) (v := .int .i64 m.start) (by rw [hW]; simp); have g0 := grown_cell (w := W) (b := w.heap.size + 1) (o := 0) (v := .int .i64 x.src) (by rw [hW]; simp); have g1 := grown_cell (w := W) (b := w.heap.size + 1) (o := 1) (v := .string x.label) (by rw [hW]; simp); have g2 := grown_cell (w := W) (b := w.heap.size + 1) (o := 2) (v := .int .i64 x.sort) (by rw [hW]; simp); have g3 := grown_cell (w := W) (b := w.heap.size + 1) (o := 3) (v := .int .i64 x.dst) (by rw [hW]; simp); have HBW := hide (HGO.out W _ _ hW); clear hW; (repeat (go_big_quiet_step (first
        | (go_at_call_of 76 x.src; exact grown_more (has_state HQ1.out _ _ (HV.out _ HBW.out _)))
        | (go_at_call_of 76 x.dst; exact grown_more (has_state HQ2.out _ _ (HV.out _ HBW.out _)))))); refine wpQuiet_nil ?_; intro w1 hw1; have HW1 := hide hw1; clear hw1 hne f0 f1 f2 g0 g1 g2 g3)
    go_ret
    exact ⟨ret_bool (by rw [HQ.out]; simp), HBW.out.trans (HW1.out.mono HBW.out.size)⟩
  · obtain ⟨b, o, sa', sc', ea', ec', st, hve2, rfl, hkd, hst⟩ := HS.out HQ1.out
    obtain ⟨rfl, rfl, rfl, rfl⟩ : sa = some ⟨b, o, none⟩ ∧ sc = sc' ∧ ea = ea' ∧ ec = ec' := by
      simp [machV] at hve2; exact ⟨hve2.1.1, hve2.1.2, hve2.2.1, hve2.2.2⟩
    have HK : Hid ((st.kind == 0) = q5) := hide (by rw [hkd]; exact HQ5.out)
    have HST := hide hst
    have hx : 0 ≤ x.src ∧ x.src < (m.states.length : Int) := by have := HQ1.out; simp [inB] at this; omega
    obtain ⟨hx0, hx1⟩ := hx
    clear hve2 hkd hst
    unfold machV REdge.val
    cases q2
    · go_enter Try.func78, Try.ntmps78
      go_wp2_with (refine wp_text_from 5 (fun W hW => ?_); have hne := grown_some W; have f0 := grown_cell (w := W) (b := w.heap.size) (o := 0) (v := .slice (some ⟨b, o, none⟩) m.states.length sc) (by rw [hW]; simp); have f1 := grown_cell (w := W) (b := w.heap.size) (o := 1) (v := .slice ea m.edges.length ec) (by rw [hW]; simp); have f2 := grown_cell (w := W) (b := w.heap.size) (o := 2) (v := .int .i64 m.start) (by rw [hW]; simp); have g0 := grown_cell (w := W) (b := w.heap.size + 1) (o := 0) (v := .int .i64 x.src) (by rw [hW]; simp); have g1 := grown_cell (w := W) (b := w.heap.size + 1) (o := 1) (v := .string x.label) (by rw [hW]; simp); have g2 := grown_cell (w := W) (b := w.heap.size + 1) (o := 2) (v := .int .i64 x.sort) (by rw [hW]; simp); have g3 := grown_cell (w := W) (b := w.heap.size + 1) (o := 3) (v := .int .i64 x.dst) (by rw [hW]; simp); have HBW := hide (HGO.out W _ _ hW); obtain ⟨e0, e1⟩ := HST.out W HBW.out; have f8 := grown_cell e0; have f9 := grown_cell e1; clear e0 e1; clear hW; (repeat (go_big_quiet_step (first
          | (go_at_call_of 76 x.src; exact grown_more (has_state HQ1.out _ _ (HV.out _ HBW.out _)))
          | (go_at_call_of 76 x.dst; exact grown_more (has_state HQ2.out _ _ (HV.out _ HBW.out _)))
          | (go_at_call 120; exact grown_more (is_end (x := st) HK.out _))
          | (go_at_call 63; exact grown_same (impl_name_at HQ3.out HL.out _))
          | (go_at_call 121; exact grown_same (mi_sort HQ4.out _))))); refine wpQuiet_nil ?_; intro w1 hw1; have HW1 := hide hw1; clear hw1 hne f0 f1 f2 g0 g1 g2 g3 f8 f9)
      go_ret
      exact ⟨ret_bool (by rw [HQ.out]; simp), HBW.out.trans (HW1.out.mono HBW.out.size)⟩
    · cases q5
      rotate_left
      · go_enter Try.func78, Try.ntmps78
        go_wp2_with (refine wp_text_from 5 (fun W hW => ?_); have hne := grown_some W; have f0 := grown_cell (w := W) (b := w.heap.size) (o := 0) (v := .slice (some ⟨b, o, none⟩) m.states.length sc) (by rw [hW]; simp); have f1 := grown_cell (w := W) (b := w.heap.size) (o := 1) (v := .slice ea m.edges.length ec) (by rw [hW]; simp); have f2 := grown_cell (w := W) (b := w.heap.size) (o := 2) (v := .int .i64 m.start) (by rw [hW]; simp); have g0 := grown_cell (w := W) (b := w.heap.size + 1) (o := 0) (v := .int .i64 x.src) (by rw [hW]; simp); have g1 := grown_cell (w := W) (b := w.heap.size + 1) (o := 1) (v := .string x.label) (by rw [hW]; simp); have g2 := grown_cell (w := W) (b := w.heap.size + 1) (o := 2) (v := .int .i64 x.sort) (by rw [hW]; simp); have g3 := grown_cell (w := W) (b := w.heap.size + 1) (o := 3) (v := .int .i64 x.dst) (by rw [hW]; simp); have HBW := hide (HGO.out W _ _ hW); obtain ⟨e0, e1⟩ := HST.out W HBW.out; have f8 := grown_cell e0; have f9 := grown_cell e1; clear e0 e1; clear hW; (repeat (go_big_quiet_step (first
            | (go_at_call_of 76 x.src; exact grown_more (has_state HQ1.out _ _ (HV.out _ HBW.out _)))
            | (go_at_call_of 76 x.dst; exact grown_more (has_state HQ2.out _ _ (HV.out _ HBW.out _)))
            | (go_at_call 120; exact grown_more (is_end (x := st) HK.out _))
            | (go_at_call 63; exact grown_same (impl_name_at HQ3.out HL.out _))
            | (go_at_call 121; exact grown_same (mi_sort HQ4.out _))))); refine wpQuiet_nil ?_; intro w1 hw1; have HW1 := hide hw1; clear hw1 hne f0 f1 f2 g0 g1 g2 g3 f8 f9)
        go_ret
        exact ⟨ret_bool (by rw [HQ.out]; simp), HBW.out.trans (HW1.out.mono HBW.out.size)⟩
      · cases q3
        · go_enter Try.func78, Try.ntmps78
          go_wp2_with (refine wp_text_from 5 (fun W hW => ?_); have hne := grown_some W; have f0 := grown_cell (w := W) (b := w.heap.size) (o := 0) (v := .slice (some ⟨b, o, none⟩) m.states.length sc) (by rw [hW]; simp); have f1 := grown_cell (w := W) (b := w.heap.size) (o := 1) (v := .slice ea m.edges.length ec) (by rw [hW]; simp); have f2 := grown_cell (w := W) (b := w.heap.size) (o := 2) (v := .int .i64 m.start) (by rw [hW]; simp); have g0 := grown_cell (w := W) (b := w.heap.size + 1) (o := 0) (v := .int .i64 x.src) (by rw [hW]; simp); have g1 := grown_cell (w := W) (b := w.heap.size + 1) (o := 1) (v := .string x.label) (by rw [hW]; simp); have g2 := grown_cell (w := W) (b := w.heap.size + 1) (o := 2) (v := .int .i64 x.sort) (by rw [hW]; simp); have g3 := grown_cell (w := W) (b := w.heap.size + 1) (o := 3) (v := .int .i64 x.dst) (by rw [hW]; simp); have HBW := hide (HGO.out W _ _ hW); obtain ⟨e0, e1⟩ := HST.out W HBW.out; have f8 := grown_cell e0; have f9 := grown_cell e1; clear e0 e1; clear hW; (repeat (go_big_quiet_step (first
              | (go_at_call_of 76 x.src; exact grown_more (has_state HQ1.out _ _ (HV.out _ HBW.out _)))
              | (go_at_call_of 76 x.dst; exact grown_more (has_state HQ2.out _ _ (HV.out _ HBW.out _)))
              | (go_at_call 120; exact grown_more (is_end (x := st) HK.out _))
              | (go_at_call 63; exact grown_same (impl_name_at HQ3.out HL.out _))
              | (go_at_call 121; exact grown_same (mi_sort HQ4.out _))))); refine wpQuiet_nil ?_; intro w1 hw1; have HW1 := hide hw1; clear hw1 hne f0 f1 f2 g0 g1 g2 g3 f8 f9)
          go_ret
          exact ⟨ret_bool (by rw [HQ.out]; simp), HBW.out.trans (HW1.out.mono HBW.out.size)⟩
        · cases q4
          · go_enter Try.func78, Try.ntmps78
            go_wp2_with (refine wp_text_from 5 (fun W hW => ?_); have hne := grown_some W; have f0 := grown_cell (w := W) (b := w.heap.size) (o := 0) (v := .slice (some ⟨b, o, none⟩) m.states.length sc) (by rw [hW]; simp); have f1 := grown_cell (w := W) (b := w.heap.size) (o := 1) (v := .slice ea m.edges.length ec) (by rw [hW]; simp); have f2 := grown_cell (w := W) (b := w.heap.size) (o := 2) (v := .int .i64 m.start) (by rw [hW]; simp); have g0 := grown_cell (w := W) (b := w.heap.size + 1) (o := 0) (v := .int .i64 x.src) (by rw [hW]; simp); have g1 := grown_cell (w := W) (b := w.heap.size + 1) (o := 1) (v := .string x.label) (by rw [hW]; simp); have g2 := grown_cell (w := W) (b := w.heap.size + 1) (o := 2) (v := .int .i64 x.sort) (by rw [hW]; simp); have g3 := grown_cell (w := W) (b := w.heap.size + 1) (o := 3) (v := .int .i64 x.dst) (by rw [hW]; simp); have HBW := hide (HGO.out W _ _ hW); obtain ⟨e0, e1⟩ := HST.out W HBW.out; have f8 := grown_cell e0; have f9 := grown_cell e1; clear e0 e1; clear hW; (repeat (go_big_quiet_step (first
                | (go_at_call_of 76 x.src; exact grown_more (has_state HQ1.out _ _ (HV.out _ HBW.out _)))
                | (go_at_call_of 76 x.dst; exact grown_more (has_state HQ2.out _ _ (HV.out _ HBW.out _)))
                | (go_at_call 120; exact grown_more (is_end (x := st) HK.out _))
                | (go_at_call 63; exact grown_same (impl_name_at HQ3.out HL.out _))
                | (go_at_call 121; exact grown_same (mi_sort HQ4.out _))))); refine wpQuiet_nil ?_; intro w1 hw1; have HW1 := hide hw1; clear hw1 hne f0 f1 f2 g0 g1 g2 g3 f8 f9)
            go_ret
            exact ⟨ret_bool (by rw [HQ.out]; simp), HBW.out.trans (HW1.out.mono HBW.out.size)⟩
          · go_enter Try.func78, Try.ntmps78
            go_wp2_with (refine wp_text_from 5 (fun W hW => ?_); have hne := grown_some W; have f0 := grown_cell (w := W) (b := w.heap.size) (o := 0) (v := .slice (some ⟨b, o, none⟩) m.states.length sc) (by rw [hW]; simp); have f1 := grown_cell (w := W) (b := w.heap.size) (o := 1) (v := .slice ea m.edges.length ec) (by rw [hW]; simp); have f2 := grown_cell (w := W) (b := w.heap.size) (o := 2) (v := .int .i64 m.start) (by rw [hW]; simp); have g0 := grown_cell (w := W) (b := w.heap.size + 1) (o := 0) (v := .int .i64 x.src) (by rw [hW]; simp); have g1 := grown_cell (w := W) (b := w.heap.size + 1) (o := 1) (v := .string x.label) (by rw [hW]; simp); have g2 := grown_cell (w := W) (b := w.heap.size + 1) (o := 2) (v := .int .i64 x.sort) (by rw [hW]; simp); have g3 := grown_cell (w := W) (b := w.heap.size + 1) (o := 3) (v := .int .i64 x.dst) (by rw [hW]; simp); have HBW := hide (HGO.out W _ _ hW); obtain ⟨e0, e1⟩ := HST.out W HBW.out; have f8 := grown_cell e0; have f9 := grown_cell e1; clear e0 e1; clear hW; (repeat (go_big_quiet_step (first
                | (go_at_call_of 76 x.src; exact grown_more (has_state HQ1.out _ _ (HV.out _ HBW.out _)))
                | (go_at_call_of 76 x.dst; exact grown_more (has_state HQ2.out _ _ (HV.out _ HBW.out _)))
                | (go_at_call 120; exact grown_more (is_end (x := st) HK.out _))
                | (go_at_call 63; exact grown_same (impl_name_at HQ3.out HL.out _))
                | (go_at_call 121; exact grown_same (mi_sort HQ4.out _))))); refine wpQuiet_nil ?_; intro w1 hw1; have HW1 := hide hw1; clear hw1 hne f0 f1 f2 g0 g1 g2 g3 f8 f9)
            go_ret
            exact ⟨ret_bool (by rw [HQ.out]; simp), HBW.out.trans (HW1.out.mono HBW.out.size)⟩
end Go.Proofs.Ythaomohoiginnaa
