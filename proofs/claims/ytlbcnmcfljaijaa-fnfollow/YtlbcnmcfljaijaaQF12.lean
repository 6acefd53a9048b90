import Derived.Test.YtlbcnmcfljaijaaQF07
namespace Go.Proofs.Ytlbcnmcfljaijaa
open Go.RowKit
attribute [local go_sem ↓] Go.wp_at_zero Go.wp_at_succ

set_option maxRecDepth 100000 in
set_option maxHeartbeats 1000000 in
theorem edge_right {q : Bool} {m : Mach} {x : REdge} (hq : medB m x = q) (hl : x.label.size ≤ maxLen) (v : Value) (w : World) (hv : MachAt w v m) :
    Calls Try.prog 36 #[v, x.val] w fun e w' => e = .returned (.bool q) ∧ Below w.heap.size w w' := by
  have HL := hide hl
  have HV : Hid (∀ W, Below w.heap.size w W → ∀ g : Grown W, MachAt g.val v m) := hide (fun W hb g => (hv.carry hb).carry g.bel)
  have HS : Hid (inB x.src 0 ((m.states.length : Int) - 1) = true → ∃ b o sa sc ea ec s, v = machV sa sc ea ec m ∧ sa = some ⟨b, o, none⟩ ∧ (s : RState).kind = kindAt m x.src ∧ ∀ W, Below w.heap.size w W → W.cell? ⟨b, o + x.src.toNat * 2, none⟩ = some (.int .i64 s.kind) ∧ W.cell? ⟨b, o + x.src.toNat * 2 + 1, none⟩ = some (.string s.peer)) := hide (fun hin => by
    obtain ⟨sv, ev, rfl, hs, he⟩ := hv
    obtain ⟨sa, sc, rfl, _, _, hs3⟩ := hs
    obtain ⟨ea, ec, rfl, _⟩ := he
    have hb2 : 0 ≤ x.src ∧ x.src < (m.states.length : Int) := by simp [inB] at hin; omega
    obtain ⟨b, o, rfl, hbB, hrow⟩ := hs3 (by intro h; rw [h] at hb2; simp at hb2; omega)
    have hlt : x.src.toNat < m.states.length := by omega
    have := hrow.get x.src.toNat hlt
    exact ⟨b, o, _, sc, ea, ec, m.states[x.src.toNat], rfl, rfl, by rw [kindAt, List.getElem?_eq_getElem hlt], fun W hb => this.carry hbB hb⟩)
  have hsl : m.states.length ≤ 4294967296 := by obtain ⟨sv, ev, rfl, hs, he⟩ := hv; exact hs.lenm
  obtain ⟨sa, sc, ea, ec, hve⟩ := hv.shape
  have HVE := hide hve
  clear hv
  obtain ⟨q1, hq1⟩ : ∃ q1, inB x.src 0 ((m.states.length : Int) - 1) = q1 := ⟨_, rfl⟩
  obtain ⟨q2, hq2⟩ : ∃ q2, inB x.dst 0 ((m.states.length : Int) - 1) = q2 := ⟨_, rfl⟩
  obtain ⟨q3, hq3⟩ : ∃ q3, nameB x.label = q3 := ⟨_, rfl⟩
  obtain ⟨q4, hq4⟩ : ∃ q4, inB x.sort 0 2 = q4 := ⟨_, rfl⟩
  obtain ⟨q5, hq5⟩ : ∃ q5, (kindAt m x.src == 0) = q5 := ⟨_, rfl⟩
  have HQ : Hid (q = (q1 && (q2 && (q3 && (q4 && !q5))))) := hide (by rw [← hq, medB, hq1, hq2, hq3, hq4, hq5])
  have HQ1 := hide hq1
  have HQ2 := hide hq2
  have HQ3 := hide hq3
  have HQ4 := hide hq4
  have HQ5 := hide hq5
  clear hq1 hq2 hq3 hq4 hq5 hq
  have HGO : Hid (∀ W A B, W = (w.alloc A).alloc B → Below w.heap.size w W) := hide (fun W A B hW => by rw [hW]; exact malloc2 _ _ _)
  subst hve
  cases q1
  · unfold machV REdge.val
    go_enter Try.func36, Try.ntmps36
    go_wp2_with (refine wp_text_from 5 (fun W hW => ?_); have hne := grown_some W; have f0 := grown_cell (w := W) (b := w.heap.size) (o := 0) (v := .slice sa m.states.length sc) (by rw [hW]; simp); have f1 := grown_cell (w := W) (b := w.heap.size) (o := 1) (v := .slice ea m.edges.length ec) (by rw [hW]; simp); have f2 := grown_cell (w := W) (b := w.heap.size) (o := 2) (v := .int .i64 m.start) (by rw [hW]; simp); have g0 := grown_cell (w := W) (b := w.heap.size + 1) (o := 0) (v := .int .i64 x.src) (by rw [hW]; simp); have g1 := grown_cell (w := W) (b := w.heap.size + 1) (o := 1) (v := .string x.label) (by rw [hW]; simp); have g2 := grown_cell (w := W) (b := w.heap.size + 1) (o := 2) (v := .int .i64 x.sort) (by rw [hW]; simp); have g3 := grown_cell (w := W) (b := w.heap.size + 1) (o := 3) (v := .int .i64 x.dst) (by rw [hW]; simp); have HBW := hide (HGO.out W _ _ hW); clear hW; (repeat (go_big_quiet_step (first
        | (go_at_call_of 34 x.src; exact grown_more (has_state HQ1.out _ _ (HV.out _ HBW.out _)))
        | (go_at_call_of 34 x.dst; exact grown_more (has_state HQ2.out _ _ (HV.out _ HBW.out _)))))); refine wpQuiet_nil ?_; intro w1 hw1; have HW1 := hide hw1; clear hw1 hne f0 f1 f2 g0 g1 g2 g3)
    go_ret
    exact ⟨ret_bool (by rw [HQ.out]; simp), HBW.out.trans (HW1.out.mono HBW.out.size)⟩
  · obtain ⟨b, o, sa', sc', ea', ec', st, hve2, rfl, hkd, hst⟩ := HS.out HQ1.out
    obtain ⟨rfl, rfl, rfl, rfl⟩ : sa = some ⟨b, o, none⟩ ∧ sc = sc' ∧ ea = ea' ∧ ec = ec' := by
      simp [machV] at hve2; exact ⟨hve2.1.1, hve2.1.2, hve2.2.1, hve2.2.2⟩
    have HK : Hid ((st.kind == 0) = q5) := hide (by rw [hkd]; exact HQ5.out)
    have HST := hide hst
    have hx : 0 ≤ x.src ∧ x.src < (m.states.length : Int) := by have := HQ1.out; simp [inB] at this; omega
    obtain ⟨hx0, hx1⟩ := hx
    clear hve2 hkd hst
    unfold machV REdge.val
    cases q2
    · go_enter Try.func36, Try.ntmps36
      go_wp2_with (refine wp_text_from 5 (fun W hW => ?_); have hne := grown_some W; have f0 := grown_cell (w := W) (b := w.heap.size) (o := 0) (v := .slice (some ⟨b, o, none⟩) m.states.length sc) (by rw [hW]; simp); have f1 := grown_cell (w := W) (b := w.heap.size) (o := 1) (v := .slice ea m.edges.length ec) (by rw [hW]; simp); have f2 := grown_cell (w := W) (b := w.heap.size) (o := 2) (v := .int .i64 m.start) (by rw [hW]; simp); have g0 := grown_cell (w := W) (b := w.heap.size + 1) (o := 0) (v := .int .i64 x.src) (by rw [hW]; simp); have g1 := grown_cell (w := W) (b := w.heap.size + 1) (o := 1) (v := .string x.label) (by rw [hW]; simp); have g2 := grown_cell (w := W) (b := w.heap.size + 1) (o := 2) (v := .int .i64 x.sort) (by rw [hW]; simp); have g3 := grown_cell (w := W) (b := w.heap.size + 1) (o := 3) (v := .int .i64 x.dst) (by rw [hW]; simp); have HBW := hide (HGO.out W _ _ hW); obtain ⟨e0, e1⟩ := HST.out W HBW.out; have f8 := grown_cell e0; have f9 := grown_cell e1; clear e0 e1; clear hW; (repeat (go_big_quiet_step (first
          | (go_at_call_of 34 x.src; exact grown_more (has_state HQ1.out _ _ (HV.out _ HBW.out _)))
          | (go_at_call_of 34 x.dst; exact grown_more (has_state HQ2.out _ _ (HV.out _ HBW.out _)))
          | (go_at_call 48; exact grown_more (is_end (x := st) HK.out _))
          | (go_at_call 47; exact grown_same (impl_name_at HQ3.out HL.out _))
          | (go_at_call 49; exact grown_same (mi_sort HQ4.out _))))); refine wpQuiet_nil ?_; intro w1 hw1; have HW1 := hide hw1; clear hw1 hne f0 f1 f2 g0 g1 g2 g3 f8 f9)
      go_ret
      exact ⟨ret_bool (by rw [HQ.out]; simp), HBW.out.trans (HW1.out.mono HBW.out.size)⟩
    · cases q5
      rotate_left
      · go_enter Try.func36, Try.ntmps36
        go_wp2_with (refine wp_text_from 5 (fun W hW => ?_); have hne := grown_some W; have f0 := grown_cell (w := W) (b := w.heap.size) (o := 0) (v := .slice (some ⟨b, o, none⟩) m.states.length sc) (by rw [hW]; simp); have f1 := grown_cell (w := W) (b := w.heap.size) (o := 1) (v := .slice ea m.edges.length ec) (by rw [hW]; simp); have f2 := grown_cell (w := W) (b := w.heap.size) (o := 2) (v := .int .i64 m.start) (by rw [hW]; simp); have g0 := grown_cell (w := W) (b := w.heap.size + 1) (o := 0) (v := .int .i64 x.src) (by rw [hW]; simp); have g1 := grown_cell (w := W) (b := w.heap.size + 1) (o := 1) (v := .string x.label) (by rw [hW]; simp); have g2 := grown_cell (w := W) (b := w.heap.size + 1) (o := 2) (v := .int .i64 x.sort) (by rw [hW]; simp); have g3 := grown_cell (w := W) (b := w.heap.size + 1) (o := 3) (v := .int .i64 x.dst) (by rw [hW]; simp); have HBW := hide (HGO.out W _ _ hW); obtain ⟨e0, e1⟩ := HST.out W HBW.out; have f8 := grown_cell e0; have f9 := grown_cell e1; clear e0 e1; clear hW; (repeat (go_big_quiet_step (first
            | (go_at_call_of 34 x.src; exact grown_more (has_state HQ1.out _ _ (HV.out _ HBW.out _)))
            | (go_at_call_of 34 x.dst; exact grown_more (has_state HQ2.out _ _ (HV.out _ HBW.out _)))
            | (go_at_call 48; exact grown_more (is_end (x := st) HK.out _))
            | (go_at_call 47; exact grown_same (impl_name_at HQ3.out HL.out _))
            | (go_at_call 49; exact grown_same (mi_sort HQ4.out _))))); refine wpQuiet_nil ?_; intro w1 hw1; have HW1 := hide hw1; clear hw1 hne f0 f1 f2 g0 g1 g2 g3 f8 f9)
        go_ret
        exact ⟨ret_bool (by rw [HQ.out]; simp), HBW.out.trans (HW1.out.mono HBW.out.size)⟩
      · cases q3
        · go_enter Try.func36, Try.ntmps36
          go_wp2_with (refine wp_text_from 5 (fun W hW => ?_); have hne := grown_some W; have f0 := grown_cell (w := W) (b := w.heap.size) (o := 0) (v := .slice (some ⟨b, o, none⟩) m.states.length sc) (by rw [hW]; simp); have f1 := grown_cell (w := W) (b := w.heap.size) (o := 1) (v := .slice ea m.edges.length ec) (by rw [hW]; simp); have f2 := grown_cell (w := W) (b := w.heap.size) (o := 2) (v := .int .i64 m.start) (by rw [hW]; simp); have g0 := grown_cell (w := W) (b := w.heap.size + 1) (o := 0) (v := .int .i64 x.src) (by rw [hW]; simp); have g1 := grown_cell (w := W) (b := w.heap.size + 1) (o := 1) (v := .string x.label) (by rw [hW]; simp); have g2 := grown_cell (w := W) (b := w.heap.size + 1) (o := 2) (v := .int .i64 x.sort) (by rw [hW]; simp); have g3 := grown_cell (w := W) (b := w.heap.size + 1) (o := 3) (v := .int .i64 x.dst) (by rw [hW]; simp); have HBW := hide (HGO.out W _ _ hW); obtain ⟨e0, e1⟩ := HST.out W HBW.out; have f8 := grown_cell e0; have f9 := grown_cell e1; clear e0 e1; clear hW; (repeat (go_big_quiet_step (first
              | (go_at_call_of 34 x.src; exact grown_more (has_state HQ1.out _ _ (HV.out _ HBW.out _)))
              | (go_at_call_of 34 x.dst; exact grown_more (has_state HQ2.out _ _ (HV.out _ HBW.out _)))
              | (go_at_call 48; exact grown_more (is_end (x := st) HK.out _))
              | (go_at_call 47; exact grown_same (impl_name_at HQ3.out HL.out _))
              | (go_at_call 49; exact grown_same (mi_sort HQ4.out _))))); refine wpQuiet_nil ?_; intro w1 hw1; have HW1 := hide hw1; clear hw1 hne f0 f1 f2 g0 g1 g2 g3 f8 f9)
          go_ret
          exact ⟨ret_bool (by rw [HQ.out]; simp), HBW.out.trans (HW1.out.mono HBW.out.size)⟩
        · cases q4
          · go_enter Try.func36, Try.ntmps36
            go_wp2_with (refine wp_text_from 5 (fun W hW => ?_); have hne := grown_some W; have f0 := grown_cell (w := W) (b := w.heap.size) (o := 0) (v := .slice (some ⟨b, o, none⟩) m.states.length sc) (by rw [hW]; simp); have f1 := grown_cell (w := W) (b := w.heap.size) (o := 1) (v := .slice ea m.edges.length ec) (by rw [hW]; simp); have f2 := grown_cell (w := W) (b := w.heap.size) (o := 2) (v := .int .i64 m.start) (by rw [hW]; simp); have g0 := grown_cell (w := W) (b := w.heap.size + 1) (o := 0) (v := .int .i64 x.src) (by rw [hW]; simp); have g1 := grown_cell (w := W) (b := w.heap.size + 1) (o := 1) (v := .string x.label) (by rw [hW]; simp); have g2 := grown_cell (w := W) (b := w.heap.size + 1) (o := 2) (v := .int .i64 x.sort) (by rw [hW]; simp); have g3 := grown_cell (w := W) (b := w.heap.size + 1) (o := 3) (v := .int .i64 x.dst) (by rw [hW]; simp); have HBW := hide (HGO.out W _ _ hW); obtain ⟨e0, e1⟩ := HST.out W HBW.out; have f8 := grown_cell e0; have f9 := grown_cell e1; clear e0 e1; clear hW; (repeat (go_big_quiet_step (first
                | (go_at_call_of 34 x.src; exact grown_more (has_state HQ1.out _ _ (HV.out _ HBW.out _)))
                | (go_at_call_of 34 x.dst; exact grown_more (has_state HQ2.out _ _ (HV.out _ HBW.out _)))
                | (go_at_call 48; exact grown_more (is_end (x := st) HK.out _))
                | (go_at_call 47; exact grown_same (impl_name_at HQ3.out HL.out _))
                | (go_at_call 49; exact grown_same (mi_sort HQ4.out _))))); refine wpQuiet_nil ?_; intro w1 hw1; have HW1 := hide hw1; clear hw1 hne f0 f1 f2 g0 g1 g2 g3 f8 f9)
            go_ret
            exact ⟨ret_bool (by rw [HQ.out]; simp), HBW.out.trans (HW1.out.mono HBW.out.size)⟩
          · go_enter Try.func36, Try.ntmps36
            go_wp2_with (refine wp_text_from 5 (fun W hW => ?_); have hne := grown_some W; have f0 := grown_cell (w := W) (b := w.heap.size) (o := 0) (v := .slice (some ⟨b, o, none⟩) m.states.length sc) (by rw [hW]; simp); have f1 := grown_cell (w := W) (b := w.heap.size) (o := 1) (v := .slice ea m.edges.length ec) (by rw [hW]; simp); have f2 := grown_cell (w := W) (b := w.heap.size) (o := 2) (v := .int .i64 m.start) (by rw [hW]; simp); have g0 := grown_cell (w := W) (b := w.heap.size + 1) (o := 0) (v := .int .i64 x.src) (by rw [hW]; simp); have g1 := grown_cell (w := W) (b := w.heap.size + 1) (o := 1) (v := .string x.label) (by rw [hW]; simp); have g2 := grown_cell (w := W) (b := w.heap.size + 1) (o := 2) (v := .int .i64 x.sort) (by rw [hW]; simp); have g3 := grown_cell (w := W) (b := w.heap.size + 1) (o := 3) (v := .int .i64 x.dst) (by rw [hW]; simp); have HBW := hide (HGO.out W _ _ hW); obtain ⟨e0, e1⟩ := HST.out W HBW.out; have f8 := grown_cell e0; have f9 := grown_cell e1; clear e0 e1; clear hW; (repeat (go_big_quiet_step (first
                | (go_at_call_of 34 x.src; exact grown_more (has_state HQ1.out _ _ (HV.out _ HBW.out _)))
                | (go_at_call_of 34 x.dst; exact grown_more (has_state HQ2.out _ _ (HV.out _ HBW.out _)))
                | (go_at_call 48; exact grown_more (is_end (x := st) HK.out _))
                | (go_at_call 47; exact grown_same (impl_name_at HQ3.out HL.out _))
                | (go_at_call 49; exact grown_same (mi_sort HQ4.out _))))); refine wpQuiet_nil ?_; intro w1 hw1; have HW1 := hide hw1; clear hw1 hne f0 f1 f2 g0 g1 g2 g3 f8 f9)
            go_ret
            exact ⟨ret_bool (by rw [HQ.out]; simp), HBW.out.trans (HW1.out.mono HBW.out.size)⟩
end Go.Proofs.Ytlbcnmcfljaijaa
namespace Go.Proofs.Ytlbcnmcfljaijaa
open Go.RowKit
attribute [local go_sem ↓] Go.wp_at_zero Go.wp_at_succ

theorem cmp_less (a b : REdge) : decide (0 ≤ cmpE a b) = !mlessE a b := by
  unfold cmpE orI cmpI mlessE
  by_cases h1 : a.src < b.src
  · simp [h1]
  · by_cases h2 : b.src < a.src
    · have : ¬ a.src = b.src := by omega
      simp [h1, h2, this]
    · have : a.src = b.src := by omega
      simp [this, cmpS]
      cases h3 : Op.bytesLess a.label.toList b.label.toList
      · cases h4 : (a.label.toList == b.label.toList) <;> simp_all
      · simp
theorem compare_edges_at {c : Int} {a b : REdge} (h : cmpE a b = c) (w : World) :
    Calls Try.prog 37 #[a.val, b.val] w fun e w' => e = .returned (.int .i64 c) ∧ Below w.heap.size w w' := by subst h; exact compare_edges a b w

set_option maxRecDepth 100000 in
set_option maxHeartbeats 2000000 in
theorem machine_right (m : Mach) (v : Value) (w : World) (hf : m.fit) (hv : MachAt w v m) :
    Calls Try.prog 18 #[v] w fun e w' => e = .returned (.bool (machB m)) ∧ Below w.heap.size w w' := by
  have HF := hide hf
  have HV : Hid (∀ W, Below w.heap.size w W → ∀ g : Grown W, MachAt g.val v m) := hide (fun W hb g => (hv.carry hb).carry g.bel)
  have HVV := hide hv
  obtain ⟨sv, ev, rfl, hs, he⟩ := hv
  have hsl := hs.lenm
  have hel := he.lenm
  obtain ⟨sa, sc, rfl, hs1, hs2, hs3⟩ := hs
  obtain ⟨ea, ec, rfl, he1, he2, he3⟩ := he
  have HSR := hide hs3
  have HER := hide he3
  clear hs3 he3 hf
  have HGO : Hid (∀ W A, W = w.alloc A → Below w.heap.size w W) := hide (fun W A hW => by rw [hW]; exact malloc1 _ _)
  obtain ⟨i2, hi2⟩ : ∃ i2, inB m.start 0 ((m.states.length : Int) - 1) = i2 := ⟨_, rfl⟩
  have HI2 := hide hi2
  clear hi2
  by_cases z : m.states.length = 0
  · have z1 : ((m.states.length : Int) == 0) = true := by simp [z]
    have HZ := hide z
    clear z
    have HM : Hid (machB m = false) := hide (by rw [machB, headB]; simp [inB, HZ.out])
    go_enter Try.func18, Try.ntmps18
    go_wp2_with (refine wp_text_from 7 (fun W hW => ?_); have hne := grown_some W; have f0 := grown_cell (w := W) (b := w.heap.size) (o := 0) (v := .slice sa m.states.length sc) (by rw [hW]; simp); have f1 := grown_cell (w := W) (b := w.heap.size) (o := 1) (v := .slice ea m.edges.length ec) (by rw [hW]; simp); have f2 := grown_cell (w := W) (b := w.heap.size) (o := 2) (v := .int .i64 m.start) (by rw [hW]; simp); have HBW := hide (HGO.out W _ hW); have HAW := hide hW; clear hW; (repeat (go_big_quiet_step (first
      | (go_at_call 34; exact grown_more (has_state HI2.out _ _ (HV.out _ HBW.out _)))))); refine wpQuiet_nil ?_; intro w1 hw1; have HW1 := hide hw1; clear hw1 hne f0 f1 f2)
    go_ret
    exact ⟨ret_bool HM.out, HBW.out.trans (HW1.out.mono HBW.out.size)⟩
  · have z1 : ((m.states.length : Int) == 0) = false := by simp [z]
    by_cases y : 40 < m.states.length
    · have y1 : decide (40 < (m.states.length : Int)) = true := by simp; omega
      have HM : Hid (machB m = false) := hide (by rw [machB, headB]; have : inB (m.states.length : Int) 1 40 = false := (by simp [inB]; omega); simp [this])
      go_enter Try.func18, Try.ntmps18
      go_wp2_with (refine wp_text_from 7 (fun W hW => ?_); have hne := grown_some W; have f0 := grown_cell (w := W) (b := w.heap.size) (o := 0) (v := .slice sa m.states.length sc) (by rw [hW]; simp); have f1 := grown_cell (w := W) (b := w.heap.size) (o := 1) (v := .slice ea m.edges.length ec) (by rw [hW]; simp); have f2 := grown_cell (w := W) (b := w.heap.size) (o := 2) (v := .int .i64 m.start) (by rw [hW]; simp); have HBW := hide (HGO.out W _ hW); have HAW := hide hW; clear hW; (repeat (go_big_quiet_step (first
      | (go_at_call 34; exact grown_more (has_state HI2.out _ _ (HV.out _ HBW.out _)))))); refine wpQuiet_nil ?_; intro w1 hw1; have HW1 := hide hw1; clear hw1 hne f0 f1 f2)
      go_ret
      exact ⟨ret_bool HM.out, HBW.out.trans (HW1.out.mono HBW.out.size)⟩
    · have y1 : decide (40 < (m.states.length : Int)) = false := by simp; omega
      have HI1 : Hid (inB (m.states.length : Int) 1 40 = true) := hide (by simp [inB]; omega)
      by_cases x : 80 < m.edges.length
      · have x1 : decide (80 < (m.edges.length : Int)) = true := by simp; omega
        have HM : Hid (machB m = false) := hide (by rw [machB, headB]; have : decide (m.edges.length ≤ 80) = false := (by simp; omega); simp [this])
        go_enter Try.func18, Try.ntmps18
        go_wp2_with (refine wp_text_from 7 (fun W hW => ?_); have hne := grown_some W; have f0 := grown_cell (w := W) (b := w.heap.size) (o := 0) (v := .slice sa m.states.length sc) (by rw [hW]; simp); have f1 := grown_cell (w := W) (b := w.heap.size) (o := 1) (v := .slice ea m.edges.length ec) (by rw [hW]; simp); have f2 := grown_cell (w := W) (b := w.heap.size) (o := 2) (v := .int .i64 m.start) (by rw [hW]; simp); have HBW := hide (HGO.out W _ hW); have HAW := hide hW; clear hW; (repeat (go_big_quiet_step (first
      | (go_at_call 34; exact grown_more (has_state HI2.out _ _ (HV.out _ HBW.out _)))))); refine wpQuiet_nil ?_; intro w1 hw1; have HW1 := hide hw1; clear hw1 hne f0 f1 f2)
        go_ret
        exact ⟨ret_bool HM.out, HBW.out.trans (HW1.out.mono HBW.out.size)⟩
      · have x1 : decide (80 < (m.edges.length : Int)) = false := by simp; omega
        cases i2
        · have HM : Hid (machB m = false) := hide (by rw [machB, headB]; simp [HI2.out])
          go_enter Try.func18, Try.ntmps18
          go_wp2_with (refine wp_text_from 7 (fun W hW => ?_); have hne := grown_some W; have f0 := grown_cell (w := W) (b := w.heap.size) (o := 0) (v := .slice sa m.states.length sc) (by rw [hW]; simp); have f1 := grown_cell (w := W) (b := w.heap.size) (o := 1) (v := .slice ea m.edges.length ec) (by rw [hW]; simp); have f2 := grown_cell (w := W) (b := w.heap.size) (o := 2) (v := .int .i64 m.start) (by rw [hW]; simp); have HBW := hide (HGO.out W _ hW); have HAW := hide hW; clear hW; (repeat (go_big_quiet_step (first
      | (go_at_call 34; exact grown_more (has_state HI2.out _ _ (HV.out _ HBW.out _)))))); refine wpQuiet_nil ?_; intro w1 hw1; have HW1 := hide hw1; clear hw1 hne f0 f1 f2)
          go_ret
          exact ⟨ret_bool HM.out, HBW.out.trans (HW1.out.mono HBW.out.size)⟩
        · have HHD : Hid (headB m = true) := hide (by rw [headB, HI1.out, HI2.out]; simp; omega)
          clear z y x
          go_enter Try.func18, Try.ntmps18
          go_wp2_with (first | (refine wp_text_from 7 (fun W hW => ?_); have hne := grown_some W; have f0 := grown_cell (w := W) (b := w.heap.size) (o := 0) (v := .slice sa m.states.length sc) (by rw [hW]; simp); have f1 := grown_cell (w := W) (b := w.heap.size) (o := 1) (v := .slice ea m.edges.length ec) (by rw [hW]; simp); have f2 := grown_cell (w := W) (b := w.heap.size) (o := 2) (v := .int .i64 m.start) (by rw [hW]; simp); have HBW := hide (HGO.out W _ hW); have hlw : w.heap.size < W.heap.size := (by rw [hW]; simp); clear hW; (repeat (go_big_quiet_step (first
      | (go_at_call 34; exact grown_more (has_state HI2.out _ _ (HV.out _ HBW.out _)))))); refine wpQuiet_nil ?_; intro w1 hw1; have b0 := f0 ⟨w1, hw1⟩; have b1 := f1 ⟨w1, hw1⟩; have b2 := f2 ⟨w1, hw1⟩; have hlw1 : w.heap.size < w1.heap.size := Nat.lt_of_lt_of_le hlw hw1.size; have HW0 : Hid (Below w.heap.size w w1) := hide (HBW.out.trans (hw1.mono HBW.out.size)); dsimp only at b0 b1 b2; have HW1 := hide hw1; clear hw1 hne f0 f1 f2))
          go_loopw [33] (fun i wr => ∃ k : Nat, k ≤ m.states.length ∧ i = .int .i64 k ∧ (m.states.take k).all mstB = true ∧ Below w1.heap.size w1 wr) (fun i _ => m.states.length - (intOf i).toNat)
          case atStart => exact ⟨0, Nat.zero_le _, rfl, rfl, Below.refl _ _⟩
          case round =>
            obtain ⟨k, hk, rfl, hall, hbel⟩ := hrel
            have HA := hide hall
            have HBEL := hide hbel
            have c0 := (hbel.cell (p := ⟨w.heap.size, 0, none⟩) hlw1).trans b0
            have c1 := (hbel.cell (p := ⟨w.heap.size, 1, none⟩) hlw1).trans b1
            have c2 := (hbel.cell (p := ⟨w.heap.size, 2, none⟩) hlw1).trans b2
            have hlr : w.heap.size < wr.heap.size := Nat.lt_of_lt_of_le hlw1 hbel.size
            have HW : Hid (Below w.heap.size w wr) := hide (HW0.out.trans (hbel.mono (Nat.le_of_lt hlw1)))
            clear hall hbel
            by_cases hlt : k < m.states.length
            · obtain ⟨b, o, rfl, hbB, hrow⟩ := HSR.out (by intro h; simp [h] at hlt)
              have hnode := (hrow.get k hlt).carry hbB HW.out
              obtain ⟨x1, hx1⟩ : ∃ x1, x1 = m.states[k] := ⟨_, rfl⟩
              rw [← hx1] at hnode
              have HP := hide (show x1.peer.size ≤ maxLen by rw [hx1]; exact Nat.le_trans (HF.out.1 _ (List.getElem_mem hlt)) (by unfold maxLen; omega))
              have HBAD : Hid (mstB x1 = false → machB m = false) := hide (fun h => by
                rw [machB]
                have : m.states.all mstB = false := by
                  rw [← Bool.not_eq_true]; intro h2
                  have := List.all_eq_true.1 h2 x1 (by rw [hx1]; exact List.getElem_mem hlt)
                  rw [h] at this; cases this
                rw [this]; simp)
              have HNX : Hid (mstB x1 = true → (m.states.take (k + 1)).all mstB = true) := hide (fun h => by rw [List.take_succ_eq_append_getElem hlt, List.all_append, HA.out, ← hx1]; simp [h])
              clear hx1 hrow
              obtain ⟨d0, d1⟩ := hnode
              obtain ⟨sq, hsq⟩ : ∃ sq, mstB x1 = sq := ⟨_, rfl⟩
              have HSQ := hide hsq
              clear hsq
              cases sq
              · go_wp2_with (go_at_call 35; refine (state_right (x := x1) HSQ.out HP.out _).mono ?_; rintro e w2 ⟨rfl, hb2⟩; have HB2 := hide hb2; clear hb2)
                go_ret
                exact ⟨ret_bool (HBAD.out HSQ.out), HW.out.trans (((malloc1 _ _).trans (HB2.out.mono (by simp))).mono HW.out.size)⟩
              · go_wp2_with (go_at_call 35; refine (state_right (x := x1) HSQ.out HP.out _).mono ?_; rintro e w2 ⟨rfl, hb2⟩; have HB2 := hide hb2; clear hb2)
                go_roundw
                case rel => exact ⟨k + 1, hlt, by go_num, HNX.out HSQ.out, HBEL.out.trans (((malloc1 _ _).trans (HB2.out.mono (by simp))).mono HBEL.out.size)⟩
                case measure => simp [intOf]; omega
            · have HALL : Hid (m.states.all mstB = true) := hide (by have := HA.out; rwa [List.take_of_length_le (by omega)] at this)
              clear c0 c2 HA
              go_wp2_with fail
              go_loopw [44] (fun i wr2 => ∃ k2 : Nat, k2 ≤ m.edges.length ∧ i = .int .i64 k2 ∧ (List.range k2).all (edgeOk m) = true ∧ Below w1.heap.size w1 wr2) (fun i _ => m.edges.length - (intOf i).toNat)
              case atStart => exact ⟨0, Nat.zero_le _, rfl, rfl, HBEL.out⟩
              case round =>
                clear c1 HBEL HW hlr
                obtain ⟨k2, hk2, rfl, hall2, hbel⟩ := hrel
                have HA2 := hide hall2
                have HBEL := hide hbel
                have c0 := (hbel.cell (p := ⟨w.heap.size, 0, none⟩) hlw1).trans b0
                have c1 := (hbel.cell (p := ⟨w.heap.size, 1, none⟩) hlw1).trans b1
                have c2 := (hbel.cell (p := ⟨w.heap.size, 2, none⟩) hlw1).trans b2
                have hlr : w.heap.size < wr.heap.size := Nat.lt_of_lt_of_le hlw1 hbel.size
                have HW : Hid (Below w.heap.size w wr) := hide (HW0.out.trans (hbel.mono (Nat.le_of_lt hlw1)))
                clear hall2 hbel
                by_cases hlt2 : k2 < m.edges.length
                · obtain ⟨b, o, rfl, hbB, hrow⟩ := HER.out (by intro h; simp [h] at hlt2)
                  have hnode := (hrow.get k2 hlt2).carry hbB HW.out
                  have HROW : Hid (∀ j (hj : j < m.edges.length), REdgeAt wr b (o + j * 4) m.edges[j]) := hide (fun j hj => (hrow.get j hj).carry hbB HW.out)
                  obtain ⟨e1, he1'⟩ : ∃ e1, e1 = m.edges[k2] := ⟨_, rfl⟩
                  rw [← he1'] at hnode
                  have HN := hide he1'
                  have HLB := hide (show e1.label.size ≤ maxLen by rw [he1']; exact Nat.le_trans (HF.out.2.1 _ (List.getElem_mem hlt2)) (by unfold maxLen; omega))
                  have HBAD : Hid (edgeOk m k2 = false → machB m = false) := hide (fun h => by
                    rw [machB]
                    have : (List.range m.edges.length).all (edgeOk m) = false := by
                      rw [← Bool.not_eq_true]; intro h2
                      have := List.all_eq_true.1 h2 k2 (List.mem_range.2 hlt2)
                      rw [h] at this; cases this
                    rw [this]; simp)
                  have HNX : Hid (edgeOk m k2 = true → (List.range (k2 + 1)).all (edgeOk m) = true) := hide (fun h => by rw [List.range_succ, List.all_append, HA2.out]; simp [h])
                  have HEO : Hid (edgeOk m k2 = (medB m e1 && (match k2, m.edges[k2 - 1]? with
                      | 0, _ => true
                      | _ + 1, some e' => mlessE e' e1
                      | _ + 1, none => true))) := hide (by rw [edgeOk, List.getElem?_eq_getElem hlt2, ← he1']; rfl)
                  clear he1' hrow
                  obtain ⟨d0, d1, d2, d3⟩ := hnode
                  have hbw : b < wr.heap.size := World.block_lt_of_cell? wr _ d0
                  obtain ⟨q1, hq1⟩ : ∃ q1, medB m e1 = q1 := ⟨_, rfl⟩
                  have HQ1 := hide hq1
                  clear hq1
                  have HGO2 : Hid (∀ W, W = wr.alloc (.cells #[.int .i64 e1.src, .string e1.label, .int .i64 e1.sort, .int .i64 e1.dst] 52) → Below w.heap.size w W) := hide (fun W hW => by rw [hW]; exact HW.out.trans ((malloc1 _ _).mono (Nat.le_of_lt hlr)))
                  have HGA : Hid (∀ W, W = wr.alloc (.cells #[.int .i64 e1.src, .string e1.label, .int .i64 e1.sort, .int .i64 e1.dst] 52) → Below w1.heap.size w1 W) := hide (fun W hW => by rw [hW]; exact HBEL.out.trans ((malloc1 _ _).mono HBEL.out.size))
                  have FM : Hid (∀ W, W = wr.alloc (.cells #[.int .i64 e1.src, .string e1.label, .int .i64 e1.sort, .int .i64 e1.dst] 52) → W.cell? ⟨w.heap.size, 0, none⟩ = some (.slice sa m.states.length sc) ∧ W.cell? ⟨w.heap.size, 1, none⟩ = some (.slice (some ⟨b, o, none⟩) m.edges.length ec) ∧ W.cell? ⟨w.heap.size, 2, none⟩ = some (.int .i64 m.start)) := hide (fun W hW => by
                    rw [hW]
                    exact ⟨((malloc1 wr _).cell (p := ⟨w.heap.size, 0, none⟩) hlr).trans c0, ((malloc1 wr _).cell (p := ⟨w.heap.size, 1, none⟩) hlr).trans c1, ((malloc1 wr _).cell (p := ⟨w.heap.size, 2, none⟩) hlr).trans c2⟩)
                  cases q1
                  · go_wp2_with (refine wp_region_grown (by kernel_rfl) (by kernel_rfl) (fun W hW => ?_); have hne := grown_some W; have f0 := grown_cell (FM.out W hW).1; have f1 := grown_cell (FM.out W hW).2.1; have f2 := grown_cell (FM.out W hW).2.2; have g0 := grown_cell (w := W) (b := wr.heap.size) (o := 0) (v := .int .i64 e1.src) (by rw [hW]; simp); have g1 := grown_cell (w := W) (b := wr.heap.size) (o := 1) (v := .string e1.label) (by rw [hW]; simp); have g2 := grown_cell (w := W) (b := wr.heap.size) (o := 2) (v := .int .i64 e1.sort) (by rw [hW]; simp); have g3 := grown_cell (w := W) (b := wr.heap.size) (o := 3) (v := .int .i64 e1.dst) (by rw [hW]; simp); have HBW := hide (HGO2.out W hW); have HAW := hide (HGA.out W hW); clear hW; (repeat (go_big_quiet_step (first
                        | (go_at_call 36; exact grown_more (edge_right (x := e1) HQ1.out HLB.out _ _ (HV.out _ HBW.out _)))
                        | (go_at_call 37; exact grown_more (compare_edges_at (a := e0) (b := e1) HQ5.out _))))); refine wpQuiet_nil ?_; intro w1 hw1; have HW1 := hide hw1; clear hw1 hne f0 f1 f2 g0 g1 g2 g3)
                    go_ret
                    exact ⟨ret_bool (HBAD.out (by rw [HEO.out, HQ1.out]; rfl)), HBW.out.trans (HW1.out.mono HBW.out.size)⟩
                  · by_cases hpos : 0 < k2
                    rotate_left
                    · have HOK : Hid (edgeOk m k2 = true) := hide (by rw [HEO.out, HQ1.out, show k2 = 0 by omega]; rfl)
                      go_wp2_with (refine wp_region_grown (by kernel_rfl) (by kernel_rfl) (fun W hW => ?_); have hne := grown_some W; have f0 := grown_cell (FM.out W hW).1; have f1 := grown_cell (FM.out W hW).2.1; have f2 := grown_cell (FM.out W hW).2.2; have g0 := grown_cell (w := W) (b := wr.heap.size) (o := 0) (v := .int .i64 e1.src) (by rw [hW]; simp); have g1 := grown_cell (w := W) (b := wr.heap.size) (o := 1) (v := .string e1.label) (by rw [hW]; simp); have g2 := grown_cell (w := W) (b := wr.heap.size) (o := 2) (v := .int .i64 e1.sort) (by rw [hW]; simp); have g3 := grown_cell (w := W) (b := wr.heap.size) (o := 3) (v := .int .i64 e1.dst) (by rw [hW]; simp); have HBW := hide (HGO2.out W hW); have HAW := hide (HGA.out W hW); clear hW; (repeat (go_big_quiet_step (first
                          | (go_at_call 36; exact grown_more (edge_right (x := e1) HQ1.out HLB.out _ _ (HV.out _ HBW.out _)))
                          | (go_at_call 37; exact grown_more (compare_edges_at (a := e0) (b := e1) HQ5.out _))))); refine wpQuiet_nil ?_; intro w1 hw1; have HW1 := hide hw1; clear hw1 hne f0 f1 f2 g0 g1 g2 g3)
                      go_roundw
                      case rel => exact ⟨_, hlt2, by go_num, HNX.out (HOK.out), HAW.out.trans (HW1.out.mono (by have := HAW.out.size; omega))⟩
                      case measure => simp [intOf]; omega
                    · obtain ⟨j, rfl⟩ : ∃ j, k2 = j + 1 := ⟨k2 - 1, by omega⟩
                      obtain ⟨e0, he0⟩ : ∃ e0, e0 = m.edges[j]'(by omega) := ⟨_, rfl⟩
                      have hn0 := HROW.out j (by omega)
                      rw [← he0] at hn0
                      have HE0 : Hid (m.edges[j + 1 - 1]? = some e0) := hide (by rw [Nat.add_sub_cancel, List.getElem?_eq_getElem (by omega), ← he0])
                      have FE : Hid (∀ W, W = wr.alloc (.cells #[.int .i64 e1.src, .string e1.label, .int .i64 e1.sort, .int .i64 e1.dst] 52) → REdgeAt W b (o + j * 4) e0) := hide (fun W hW => by
                        rw [hW]
                        exact hn0.carry hbw (malloc1 wr _))
                      clear he0 hn0
                      obtain ⟨q5, hq5⟩ : ∃ q5, cmpE e0 e1 = q5 := ⟨_, rfl⟩
                      have HQ5 := hide hq5
                      obtain ⟨q6, hq6⟩ : ∃ q6, decide (0 ≤ q5) = q6 := ⟨_, rfl⟩
                      have HOK : Hid (edgeOk m (j + 1) = !q6) := hide (by rw [HEO.out, HQ1.out, HE0.out, ← hq6, ← hq5, cmp_less, Bool.not_not]; rfl)
                      clear hq5
                      cases q6
                      · go_wp2_with (refine wp_region_grown (by kernel_rfl) (by kernel_rfl) (fun W hW => ?_); have hne := grown_some W; have f0 := grown_cell (FM.out W hW).1; have f1 := grown_cell (FM.out W hW).2.1; have f2 := grown_cell (FM.out W hW).2.2; have g0 := grown_cell (w := W) (b := wr.heap.size) (o := 0) (v := .int .i64 e1.src) (by rw [hW]; simp); have g1 := grown_cell (w := W) (b := wr.heap.size) (o := 1) (v := .string e1.label) (by rw [hW]; simp); have g2 := grown_cell (w := W) (b := wr.heap.size) (o := 2) (v := .int .i64 e1.sort) (by rw [hW]; simp); have g3 := grown_cell (w := W) (b := wr.heap.size) (o := 3) (v := .int .i64 e1.dst) (by rw [hW]; simp); have HBW := hide (HGO2.out W hW); have HAW := hide (HGA.out W hW); obtain ⟨e00, e01, e02, e03⟩ := FE.out W hW; have k0 := grown_cell e00; have k1 := grown_cell e01; have k2' := grown_cell e02; have k3 := grown_cell e03; clear e00 e01 e02 e03; clear hW; (repeat (go_big_quiet_step (first
                            | (go_at_call 36; exact grown_more (edge_right (x := e1) HQ1.out HLB.out _ _ (HV.out _ HBW.out _)))
                            | (go_at_call 37; exact grown_more (compare_edges_at (a := e0) (b := e1) HQ5.out _))))); refine wpQuiet_nil ?_; intro w1 hw1; have HW1 := hide hw1; clear hw1 hne f0 f1 f2 g0 g1 g2 g3 k0 k1 k2' k3)
                        go_roundw
                        case rel => exact ⟨_, hlt2, by go_num, HNX.out (HOK.out), HAW.out.trans (HW1.out.mono (by have := HAW.out.size; omega))⟩
                        case measure => simp [intOf]; omega
                      · go_wp2_with (refine wp_region_grown (by kernel_rfl) (by kernel_rfl) (fun W hW => ?_); have hne := grown_some W; have f0 := grown_cell (FM.out W hW).1; have f1 := grown_cell (FM.out W hW).2.1; have f2 := grown_cell (FM.out W hW).2.2; have g0 := grown_cell (w := W) (b := wr.heap.size) (o := 0) (v := .int .i64 e1.src) (by rw [hW]; simp); have g1 := grown_cell (w := W) (b := wr.heap.size) (o := 1) (v := .string e1.label) (by rw [hW]; simp); have g2 := grown_cell (w := W) (b := wr.heap.size) (o := 2) (v := .int .i64 e1.sort) (by rw [hW]; simp); have g3 := grown_cell (w := W) (b := wr.heap.size) (o := 3) (v := .int .i64 e1.dst) (by rw [hW]; simp); have HBW := hide (HGO2.out W hW); have HAW := hide (HGA.out W hW); obtain ⟨e00, e01, e02, e03⟩ := FE.out W hW; have k0 := grown_cell e00; have k1 := grown_cell e01; have k2' := grown_cell e02; have k3 := grown_cell e03; clear e00 e01 e02 e03; clear hW; (repeat (go_big_quiet_step (first
                            | (go_at_call 36; exact grown_more (edge_right (x := e1) HQ1.out HLB.out _ _ (HV.out _ HBW.out _)))
                            | (go_at_call 37; exact grown_more (compare_edges_at (a := e0) (b := e1) HQ5.out _))))); refine wpQuiet_nil ?_; intro w1 hw1; have HW1 := hide hw1; clear hw1 hne f0 f1 f2 g0 g1 g2 g3 k0 k1 k2' k3)
                        go_ret
                        exact ⟨ret_bool (HBAD.out HOK.out), HBW.out.trans (HW1.out.mono HBW.out.size)⟩
                · have HM : Hid (machB m = true) := hide (by
                    rw [machB, HHD.out, HALL.out]
                    have := HA2.out
                    rw [show k2 = m.edges.length by omega] at this
                    rw [this]; rfl)
                  go_wp2_with fail
                  go_ret
                  exact ⟨ret_bool HM.out, HW.out⟩
end Go.Proofs.Ytlbcnmcfljaijaa
