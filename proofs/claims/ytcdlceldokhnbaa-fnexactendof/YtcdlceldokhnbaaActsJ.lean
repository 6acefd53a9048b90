/- ActsOf of the program: the whole. -/
import Derived.Test.YtcdlceldokhnbaaActsI
namespace Go.Proofs.Ytcdlceldokhnbaa
open Go.RowKit
attribute [local go_sem ↓] Go.wp_at_zero Go.wp_at_succ

set_option maxRecDepth 100000 in
set_option maxHeartbeats 400000 in
theorem right_with {q : Bool} {m : Mach} {s : Int} (hq : (machB m && inB s 0 ((m.states.length : Int) - 1)) = q) (v : Value) (w : World) (hf : m.fit) (hv : MachAt w v m) :
    Calls Try.prog 85 #[v, .int .i64 s] w fun e w' => e = .returned (.bool q) ∧ Below w.heap.size w w' := by
  have HF := hide hf
  have HV : Hid (∀ W, Below w.heap.size w W → MachAt W v m) := hide (fun W hb => hv.carry hb)
  obtain ⟨sa, sc, ea, ec, rfl⟩ := hv.shape
  obtain ⟨q1, hq1⟩ : ∃ q1, machB m = q1 := ⟨_, rfl⟩
  obtain ⟨q2, hq2⟩ : ∃ q2, inB s 0 ((m.states.length : Int) - 1) = q2 := ⟨_, rfl⟩
  have HQ : Hid (q = (q1 && q2)) := hide (by rw [← hq, hq1, hq2])
  have HQ1 := hide hq1
  have HQ2 := hide hq2
  clear hq1 hq2 hf hv hq
  have HGO : Hid (∀ W A, W = w.alloc A → Below w.heap.size w W) := hide (fun W A hW => by rw [hW]; exact malloc1 _ _)
  unfold machV
  cases q1
  · go_enter Try.func85, Try.ntmps85
    go_wp2_with (refine wp_text_from 5 (fun W hW => ?_); have hne := grown_some W; have f0 := grown_cell (w := W) (b := w.heap.size) (o := 0) (v := .slice sa m.states.length sc) (by rw [hW]; simp); have f1 := grown_cell (w := W) (b := w.heap.size) (o := 1) (v := .slice ea m.edges.length ec) (by rw [hW]; simp); have f2 := grown_cell (w := W) (b := w.heap.size) (o := 2) (v := .int .i64 m.start) (by rw [hW]; simp); have HBW := hide (HGO.out W _ hW); clear hW; (repeat (go_big_quiet_step (first
        | (go_at_call 24; exact grown_more (machine_right_at HQ1.out _ _ HF.out ((HV.out _ HBW.out).carry (Grown.bel _))))
        | (go_at_call 71; exact grown_more (has_state HQ2.out _ _ ((HV.out _ HBW.out).carry (Grown.bel _))))))); refine wpQuiet_nil ?_; intro w1 hw1; have HW1 := hide hw1; clear hw1 hne f0 f1 f2)
    go_ret
    exact ⟨ret_bool (by rw [HQ.out]; rfl), HBW.out.trans (HW1.out.mono HBW.out.size)⟩
  · cases q2
    · go_enter Try.func85, Try.ntmps85
      go_wp2_with (refine wp_text_from 5 (fun W hW => ?_); have hne := grown_some W; have f0 := grown_cell (w := W) (b := w.heap.size) (o := 0) (v := .slice sa m.states.length sc) (by rw [hW]; simp); have f1 := grown_cell (w := W) (b := w.heap.size) (o := 1) (v := .slice ea m.edges.length ec) (by rw [hW]; simp); have f2 := grown_cell (w := W) (b := w.heap.size) (o := 2) (v := .int .i64 m.start) (by rw [hW]; simp); have HBW := hide (HGO.out W _ hW); clear hW; (repeat (go_big_quiet_step (first
        | (go_at_call 24; exact grown_more (machine_right_at HQ1.out _ _ HF.out ((HV.out _ HBW.out).carry (Grown.bel _))))
        | (go_at_call 71; exact grown_more (has_state HQ2.out _ _ ((HV.out _ HBW.out).carry (Grown.bel _))))))); refine wpQuiet_nil ?_; intro w1 hw1; have HW1 := hide hw1; clear hw1 hne f0 f1 f2)
      go_ret
      exact ⟨ret_bool (by rw [HQ.out]; rfl), HBW.out.trans (HW1.out.mono HBW.out.size)⟩
    · go_enter Try.func85, Try.ntmps85
      go_wp2_with (refine wp_text_from 5 (fun W hW => ?_); have hne := grown_some W; have f0 := grown_cell (w := W) (b := w.heap.size) (o := 0) (v := .slice sa m.states.length sc) (by rw [hW]; simp); have f1 := grown_cell (w := W) (b := w.heap.size) (o := 1) (v := .slice ea m.edges.length ec) (by rw [hW]; simp); have f2 := grown_cell (w := W) (b := w.heap.size) (o := 2) (v := .int .i64 m.start) (by rw [hW]; simp); have HBW := hide (HGO.out W _ hW); clear hW; (repeat (go_big_quiet_step (first
        | (go_at_call 24; exact grown_more (machine_right_at HQ1.out _ _ HF.out ((HV.out _ HBW.out).carry (Grown.bel _))))
        | (go_at_call 71; exact grown_more (has_state HQ2.out _ _ ((HV.out _ HBW.out).carry (Grown.bel _))))))); refine wpQuiet_nil ?_; intro w1 hw1; have HW1 := hide hw1; clear hw1 hne f0 f1 f2)
      go_ret
      exact ⟨ret_bool (by rw [HQ.out]; rfl), HBW.out.trans (HW1.out.mono HBW.out.size)⟩

theorem new_row1 (w : World) (cs : List Value) (t : TypeId) (j : Nat) (u : Value) (h : cs[j]? = some u) : (w.alloc (.cells cs.toArray t)).cell? (Addr.add ⟨w.heap.size, 0, none⟩ j) = some u := by
  have e : (w.alloc (.cells cs.toArray t)).heap[w.heap.size]? = some (.cells cs.toArray t) := mheap_new _ _ _ rfl
  have ea : Addr.add ⟨w.heap.size, 0, none⟩ j = ⟨w.heap.size, j, none⟩ := by
    unfold Addr.add
    split <;> simp_all
  rw [ea]
  simp only [World.cell?]
  rw [e]
  simpa using h
theorem act_fit {m : Mach} (hf : m.fit) {e : REdge} (he : e ∈ m.edges) (s : Int) : (actE m s e).fit := by
  refine ⟨?_, hf.2.1 e he⟩
  show (stAt m s).peer.size ≤ 1048576
  unfold stAt
  cases h : m.states[s.toNat]? with
  | none => simp
  | some x => exact hf.1 x (List.mem_of_getElem? h)
set_option maxRecDepth 100000 in
set_option maxHeartbeats 1000000 in
theorem acts_of (m : Mach) (s : Int) (v : Value) (w : World) (hf : m.fit) (hv : MachAt w v m) :
    Calls Try.prog 32 #[v, .int .i64 s] w fun e w' => ∃ v', e = .returned v' ∧ RActOwn w' w.heap.size v' (actsR m s) ∧ Below w.heap.size w w' := by
  obtain ⟨i0, hi, hz0, hz1, hz2⟩ := info_parts Try.infoAct
  have HI := hide (And.intro hi (And.intro hz0 (And.intro hz1 hz2)))
  clear hi hz0 hz1 hz2
  have HF := hide hf
  have HV : Hid (∀ W, Below w.heap.size w W → MachAt W v m) := hide (fun W hb => hv.carry hb)
  obtain ⟨sv, ev, rfl, hs, he⟩ := hv
  have hsl := hs.lenm
  have hel := he.lenm
  obtain ⟨sa, sc, rfl, -⟩ := hs
  obtain ⟨ea, ec, rfl, he1, he2, he3⟩ := he
  have HER := hide he3
  obtain ⟨q, hq⟩ : ∃ q, (machB m && inB s 0 ((m.states.length : Int) - 1)) = q := ⟨_, rfl⟩
  have HR : Hid (actsR m s = if q then actsV m s else []) := hide (by rw [actsR, hq])
  have HQ := hide hq
  clear he3 hf hq
  cases q
  · go_enter Try.func32, Try.ntmps32
    go_wp2_with (go_at_call 85; refine (right_with HQ.out _ _ HF.out (HV.out _ (malloc1 _ _))).mono ?_; rintro e w1 ⟨rfl, hb1⟩; have HB1 : Hid (Below w.heap.size w w1) := hide ((malloc1 _ _).trans (hb1.mono (by simp))); clear hb1)
    go_ret
    exact ⟨_, rfl, by rw [HR.out]; exact RActOwn.nil _ _, HB1.out⟩
  · have hq' : machB m = true ∧ inB s 0 ((m.states.length : Int) - 1) = true := by have := HQ.out; simpa using this
    have h80 := mach_80 hq'.1
    have hsb : 0 ≤ s ∧ s < (m.states.length : Int) := by have := hq'.2; simp [inB] at this; omega
    have HSB := hide hsb
    clear hq' hsb
    go_enter Try.func32, Try.ntmps32
    go_wp2_with (go_at_call 85; refine (right_with HQ.out _ _ HF.out (HV.out _ (malloc1 _ _))).mono ?_; rintro e w1 ⟨rfl, hb1⟩; have HB1 : Hid (Below w.heap.size w w1) := hide ((malloc1 _ _).trans (hb1.mono (by simp))); have hz1 : w.heap.size < w1.heap.size := (by have := hb1.size; simp at this; omega); have b0 := (hb1.cell (p := ⟨w.heap.size, 0, none⟩) (by simp)); have b1 := (hb1.cell (p := ⟨w.heap.size, 1, none⟩) (by simp)); have b2 := (hb1.cell (p := ⟨w.heap.size, 2, none⟩) (by simp)); simp at b0 b1 b2; clear hb1)
    go_loopw [5, 15] (fun out i wr => ∃ k : Nat, k ≤ m.edges.length ∧ i = .int .i64 k ∧ RActOwn wr w1.heap.size out (actsK m s k) ∧ Below w1.heap.size w1 wr) (fun _ i _ => m.edges.length - (intOf i).toNat)
    case atStart => exact ⟨0, Nat.zero_le _, rfl, RActOwn.nil _ _, Below.refl _ _⟩
    case round =>
      obtain ⟨k, hk, rfl, hown, hbel⟩ := hrel
      have HOWN := hide hown
      have HBEL := hide hbel
      have d0 := (hbel.cell (p := ⟨w.heap.size, 0, none⟩) hz1).trans b0
      have d1 := (hbel.cell (p := ⟨w.heap.size, 1, none⟩) hz1).trans b1
      have d2 := (hbel.cell (p := ⟨w.heap.size, 2, none⟩) hz1).trans b2
      have hlr : w.heap.size < wr.heap.size := Nat.lt_of_lt_of_le hz1 hbel.size
      have HW : Hid (Below w.heap.size w wr) := hide (HB1.out.trans (hbel.mono (Nat.le_of_lt hz1)))
      obtain ⟨p, cp, rfl⟩ := owns_shape hown
      have hkl := actsK_len m s k
      clear hown hbel
      by_cases hlt : k < m.edges.length
      · obtain ⟨b, o, rfl, hbB, hrow⟩ := HER.out (by intro h; simp [h] at hlt)
        have hnode := (hrow.get k hlt).carry hbB HW.out
        obtain ⟨e1, he1'⟩ : ∃ e1, e1 = m.edges[k] := ⟨_, rfl⟩
        have HFA := hide (fun s => act_fit HF.out (show e1 ∈ m.edges by rw [he1']; exact List.getElem_mem hlt) s)
        rw [← he1'] at hnode
        obtain ⟨g0, g1, g2, g3⟩ := hnode
        obtain ⟨q, hq⟩ : ∃ q, (e1.src == s) = q := ⟨_, rfl⟩
        have HNO : Hid (q = false → actsK m s (k + 1) = actsK m s k) := hide (fun h => actsK_no hlt (by rw [← he1', hq, h]))
        have HYES : Hid (q = true → actsK m s (k + 1) = actsK m s k ++ [actE m s e1]) := hide (fun h => by rw [actsK_yes hlt (by rw [← he1', hq, h]), ← he1'])
        clear he1' hrow
        cases q
        · go_wp2_with fail
          go_roundw
          case rel => exact ⟨k + 1, hlt, by go_num, by rw [HNO.out rfl]; exact HOWN.out.below (malloc1 _ _), HBEL.out.trans ((malloc1 _ _).mono HBEL.out.size)⟩
          case measure => simp [intOf]; omega
        · have HY := hide (HYES.out rfl)
          clear HYES HNO
          have hse : e1.src = s := by simpa using hq
          have HSE := hide hse
          have HQB := hide hq
          have r0 := ((malloc1 wr (.cells #[.int .i64 e1.src, .string e1.label, .int .i64 e1.sort, .int .i64 e1.dst] 99)).cell (p := ⟨w.heap.size, 0, none⟩) hlr).trans d0
          have r1 := ((malloc1 wr (.cells #[.int .i64 e1.src, .string e1.label, .int .i64 e1.sort, .int .i64 e1.dst] 99)).cell (p := ⟨w.heap.size, 1, none⟩) hlr).trans d1
          have r2 := ((malloc1 wr (.cells #[.int .i64 e1.src, .string e1.label, .int .i64 e1.sort, .int .i64 e1.dst] 99)).cell (p := ⟨w.heap.size, 2, none⟩) hlr).trans d2
          clear hse
          go_wp2_with (first
            | (go_at_call 87; refine (act_of m e1 _ _ (HV.out _ (HW.out.trans ((malloc1 _ _).mono HW.out.size))) (by rw [HSE.out]; exact HSB.out.1) (by rw [HSE.out]; exact HSB.out.2)).mono ?_; rintro e w2 ⟨rfl, hb2⟩; have HB2 : Hid (Below wr.heap.size wr w2) := hide ((malloc1 _ _).trans (hb2.mono (by simp))); rw [HSE.out]; clear hb2; unfold RAct.val)
            | (go_at_call 86; refine (own_act (actE m s e1) _ (HFA.out s)).mono ?_; rintro e w3 ⟨rfl, hb3⟩; have HB3 : Hid (Below wr.heap.size wr w3) := hide (HB2.out.trans (hb3.mono HB2.out.size)); clear hb3; unfold RAct.val)
            | (at_builtin; refine wpList_append_own _ rfl (.tmp 23) (.tmp 28) 53 rfl w1.heap.size 63 i0 (.agg #[.int .i64 0, .string ByteArray.empty, .string ByteArray.empty, .int .i64 0]) 4 48 Try.underlying53 HI.out.1 HI.out.2.1 HI.out.2.2.1 HI.out.2.2.2 rfl (by decide) (.slice p (actsK m s k).length cp) (actsK m s k).length ((actsK m s k).flatMap RAct.cells) rfl (HOWN.out.below (HB3.out.trans ((malloc1 _ _).mono HB3.out.size))) ⟨w3.heap.size, 0, none⟩ 1 1 (actE m s e1).cells rfl rfl (fun j u hj => new_row1 _ _ _ j u hj) (RAct.cells_one _) (by unfold maxLen; omega) (by omega) (by have := HB3.out.size; have := HBEL.out.size; simp; omega) ?_; intro v4 w4 hown4 hgr4 _; have HOWN4 := hide hown4; have HGR4 := hide hgr4; clear hown4 hgr4))
          go_roundw
          case rel =>
            have hA : Apart wr w4 (vblocks (.slice p (actsK m s k).length cp)) := by
              have := (below_apart (HB3.out.trans ((malloc1 w3 _).mono HB3.out.size))).trans (grownBy_apart HGR4.out)
              rwa [List.nil_append] at this
            refine ⟨k + 1, hlt, by go_num, ?_, HBEL.out.trans (hA.below HBEL.out.size HOWN.out.fresh.lo)⟩
            rw [HY.out]
            exact RActOwn.snoc HOWN4.out
          case measure => simp [intOf]; omega
      · go_wp2_with fail
        go_ret
        refine ⟨_, rfl, ?_, HW.out⟩
        have := HOWN.out
        rw [actsK_all (by omega)] at this ⊢
        rw [HR.out]
        obtain ⟨h1, h2⟩ := this
        exact ⟨h1, h2.imp id (fun ⟨g, c, cur, h3, h4, h5⟩ => ⟨g, c, cur, h3, Nat.le_trans (Nat.le_of_lt hz1) h4, h5⟩)⟩
end Go.Proofs.Ytcdlceldokhnbaa
