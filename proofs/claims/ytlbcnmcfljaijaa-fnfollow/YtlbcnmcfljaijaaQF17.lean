import Derived.Test.YtlbcnmcfljaijaaQF09
namespace Go.Proofs.Ytlbcnmcfljaijaa
open Go.RowKit
attribute [local go_sem ↓] Go.wp_at_zero Go.wp_at_succ

def hitB (m : Mach) (s : Int) (a : RAct) (e : REdge) : Bool := e.src == s && actEq a (actE m s e)
theorem stepF_hit {m : Mach} {s : Int} {a : RAct} {k : Nat} (hk : k < m.edges.length) (hn : ∀ j (hj : j < m.edges.length), j < k → hitB m s a m.edges[j] = false) (hh : hitB m s a m.edges[k] = true) : stepF m s a = m.edges[k].dst := by
  have : m.edges.find? (fun e => e.src == s && actEq a (actE m s e)) = some m.edges[k] := by
    rw [List.find?_eq_some_iff_getElem]
    exact ⟨hh, k, hk, rfl, fun j hj => by have := hn j (by omega) hj; simp only [hitB] at this; simp only [this]; rfl⟩
  rw [stepF, this]
theorem stepF_miss {m : Mach} {s : Int} {a : RAct} (hn : ∀ j (hj : j < m.edges.length), hitB m s a m.edges[j] = false) : stepF m s a = -1 := by
  have : m.edges.find? (fun e => e.src == s && actEq a (actE m s e)) = none := by
    rw [List.find?_eq_none]
    intro e he
    obtain ⟨j, hj, rfl⟩ := List.getElem_of_mem he
    have := hn j hj
    simp only [hitB] at this
    simp [this]
  rw [stepF, this]
set_option maxRecDepth 100000 in
set_option maxHeartbeats 1000000 in
theorem s_l04step (m : Mach) (s : Int) (a : RAct) (v : Value) (w : World) (hv : MachAt w v m) (h0 : 0 ≤ s) (h1 : s < (m.states.length : Int)) (h80 : m.edges.length ≤ 80) :
    Calls Try.prog 21 #[v, .int .i64 s, a.val] w fun e w' => e = .returned (.int .i64 (stepF m s a)) ∧ Below w.heap.size w w' := by
  obtain ⟨sv, ev, rfl, hs, he⟩ := hv
  have hsl := hs.lenm
  obtain ⟨sa, sc, rfl, hs1, hs2, hs3⟩ := hs
  obtain ⟨ea, ec, rfl, he1, he2, he3⟩ := he
  obtain ⟨bs, os, rfl, hbsB, hsrow⟩ := hs3 (by intro h; rw [h] at h1; simp at h1; omega)
  have hlt0 : s.toNat < m.states.length := by omega
  have hst := hsrow.get s.toNat hlt0
  obtain ⟨x, hx⟩ : ∃ x, x = m.states[s.toNat] := ⟨_, rfl⟩
  have HX : Hid (stAt m s = x) := hide (by rw [stAt, List.getElem?_eq_getElem hlt0, hx]; rfl)
  rw [← hx] at hst
  obtain ⟨c0, c1⟩ := hst
  have HER := hide he3
  clear hx hsrow he3
  unfold RAct.val
  have h3 : ∀ A B, Below w.heap.size w ((w.alloc A).alloc B) := fun A B => balloc2 _ _ _
  go_enter Try.func21, Try.ntmps21
  go_wp2_with fail
  go_loopw [8] (fun i wr => ∃ k : Nat, k ≤ m.edges.length ∧ i = .int .i64 k ∧ (∀ j (hj : j < m.edges.length), j < k → hitB m s a m.edges[j] = false) ∧ Below (w.heap.size + 3) (((w.alloc (.cells #[.slice (some ⟨bs, os, none⟩) m.states.length sc, .slice ea m.edges.length ec, .int .i64 m.start] 26)).alloc (.cells #[.int .i64 a.kind, .string a.peer, .string a.label, .int .i64 a.sort] 34)).alloc (.cells #[.int .i64 x.kind, .string x.peer] 48)) wr) (fun i _ => m.edges.length - (intOf i).toNat)
  case atStart => exact ⟨0, Nat.zero_le _, rfl, fun j _ h => absurd h (by omega), Below.refl _ _⟩
  case round =>
    obtain ⟨k, hk, rfl, hall, hbel⟩ := hrel
    have HA := hide hall
    have HBEL := hide hbel
    have hsz : w.heap.size + 3 ≤ wr.heap.size := by have := hbel.size; simp at this; omega
    have b1 : wr.cell? ⟨w.heap.size, 1, none⟩ = some (.slice ea m.edges.length ec) := (hbel.cell (p := ⟨w.heap.size, 1, none⟩) (by simp)).trans (((c3_0 _ _ _ _).cell (p := ⟨w.heap.size, 1, none⟩) (by simp)).trans (by simp))
    have d0 : wr.cell? ⟨w.heap.size + 1, 0, none⟩ = some (.int .i64 a.kind) := (hbel.cell (p := ⟨w.heap.size + 1, 0, none⟩) (by simp)).trans (((c3_1 _ _ _ _).cell (p := ⟨w.heap.size + 1, 0, none⟩) (by simp)).trans (by simp))
    have d1 : wr.cell? ⟨w.heap.size + 1, 1, none⟩ = some (.string a.peer) := (hbel.cell (p := ⟨w.heap.size + 1, 1, none⟩) (by simp)).trans (((c3_1 _ _ _ _).cell (p := ⟨w.heap.size + 1, 1, none⟩) (by simp)).trans (by simp))
    have d2 : wr.cell? ⟨w.heap.size + 1, 2, none⟩ = some (.string a.label) := (hbel.cell (p := ⟨w.heap.size + 1, 2, none⟩) (by simp)).trans (((c3_1 _ _ _ _).cell (p := ⟨w.heap.size + 1, 2, none⟩) (by simp)).trans (by simp))
    have d3 : wr.cell? ⟨w.heap.size + 1, 3, none⟩ = some (.int .i64 a.sort) := (hbel.cell (p := ⟨w.heap.size + 1, 3, none⟩) (by simp)).trans (((c3_1 _ _ _ _).cell (p := ⟨w.heap.size + 1, 3, none⟩) (by simp)).trans (by simp))
    have g0 : wr.cell? ⟨w.heap.size + 1 + 1, 0, none⟩ = some (.int .i64 x.kind) := (hbel.cell (p := ⟨w.heap.size + 1 + 1, 0, none⟩) (by simp)).trans (c3_2 _ _ _ _ _ _ _ rfl)
    have g1 : wr.cell? ⟨w.heap.size + 1 + 1, 1, none⟩ = some (.string x.peer) := (hbel.cell (p := ⟨w.heap.size + 1 + 1, 1, none⟩) (by simp)).trans (c3_2 _ _ _ _ _ _ _ rfl)
    have HW : Hid (Below w.heap.size w wr) := hide (((balloc2 _ _ _).trans ((malloc1 _ _).mono (by simp; omega))).trans (hbel.mono (by omega)))
    clear hall hbel
    by_cases hlt : k < m.edges.length
    · obtain ⟨b, o, rfl, hbB, hrow⟩ := HER.out (by intro h; simp [h] at hlt)
      have hnode := (hrow.get k hlt).carry hbB HW.out
      obtain ⟨e1, he1'⟩ : ∃ e1, e1 = m.edges[k] := ⟨_, rfl⟩
      rw [← he1'] at hnode
      obtain ⟨f0, f1, f2, f3⟩ := hnode
      obtain ⟨q, hq⟩ : ∃ q, (e1.src == s) = q := ⟨_, rfl⟩
      obtain ⟨r, hr⟩ : ∃ r, actEq a ⟨x.kind, x.peer, e1.label, e1.sort⟩ = r := ⟨_, rfl⟩
      have HH : Hid (hitB m s a m.edges[k] = (q && r)) := hide (by rw [hitB, ← he1', hq, actE, HX.out, hr])
      have HYES : Hid (hitB m s a m.edges[k] = true → stepF m s a = e1.dst) := hide (fun h => by rw [stepF_hit hlt HA.out h, he1'])
      have HNO : Hid (hitB m s a m.edges[k] = false → ∀ j (hj : j < m.edges.length), j < k + 1 → hitB m s a m.edges[j] = false) := hide (fun h j hj hjk => by
        by_cases hjk' : j = k
        · subst hjk'; exact h
        · exact HA.out j hj (by omega))
      have heq : ∀ W, (Op.equalIn 10000 34 (.agg #[.int .i64 a.kind, .string a.peer, .string a.label, .int .i64 a.sort]) (.agg #[.int .i64 x.kind, .string x.peer, .string e1.label, .int .i64 e1.sort])).run Try.prog W = .ok r W := fun W => by rw [act_equal a ⟨x.kind, x.peer, e1.label, e1.sort⟩ W, hr]
      clear he1' hrow hr
      have rd0 := fun A => ((malloc1 wr A).cell (p := ⟨w.heap.size + 1, 0, none⟩) (by show w.heap.size + 1 < wr.heap.size; omega)).trans d0
      have rd1 := fun A => ((malloc1 wr A).cell (p := ⟨w.heap.size + 1, 1, none⟩) (by show w.heap.size + 1 < wr.heap.size; omega)).trans d1
      have rd2 := fun A => ((malloc1 wr A).cell (p := ⟨w.heap.size + 1, 2, none⟩) (by show w.heap.size + 1 < wr.heap.size; omega)).trans d2
      have rd3 := fun A => ((malloc1 wr A).cell (p := ⟨w.heap.size + 1, 3, none⟩) (by show w.heap.size + 1 < wr.heap.size; omega)).trans d3
      have rg0 := fun A => ((malloc1 wr A).cell (p := ⟨w.heap.size + 1 + 1, 0, none⟩) (by show w.heap.size + 1 + 1 < wr.heap.size; omega)).trans g0
      have rg1 := fun A => ((malloc1 wr A).cell (p := ⟨w.heap.size + 1 + 1, 1, none⟩) (by show w.heap.size + 1 + 1 < wr.heap.size; omega)).trans g1
      cases q
      · go_wp2_with fail
        go_roundw
        case rel => exact ⟨k + 1, hlt, by go_num, HNO.out (by rw [HH.out]; rfl), HBEL.out.trans ((malloc1 _ _).mono (by omega))⟩
        case measure => simp [intOf]; omega
      · cases r
        · go_wp2_with fail
          go_roundw
          case rel => exact ⟨k + 1, hlt, by go_num, HNO.out (by rw [HH.out]; rfl), HBEL.out.trans ((malloc1 _ _).mono (by omega))⟩
          case measure => simp [intOf]; omega
        · go_wp2_with fail
          go_ret
          exact ⟨ret_int (HYES.out (by rw [HH.out]; rfl)), HW.out.trans ((malloc1 _ _).mono HW.out.size)⟩
    · go_wp2_with fail
      go_ret
      exact ⟨ret_int (stepF_miss (fun j hj => HA.out j hj (by omega))), HW.out⟩
end Go.Proofs.Ytlbcnmcfljaijaa
namespace Go.Proofs.Ytlbcnmcfljaijaa
open Go.RowKit
attribute [local go_sem ↓] Go.wp_at_zero Go.wp_at_succ

def stepAc (m : Mach) (s : Int) (a : RAct) : Int := if machB m && inB s 0 ((m.states.length : Int) - 1) then stepF m s a else -1
set_option maxRecDepth 100000 in
set_option maxHeartbeats 1000000 in
theorem s_stepOf (m : Mach) (s : Int) (a : RAct) (v : Value) (w : World) (hf : m.fit) (hv : MachAt w v m) :
    Calls Try.prog 16 #[v, .int .i64 s, a.val] w fun e w' => e = .returned (.int .i64 (stepAc m s a)) ∧ Below w.heap.size w w' := by
  have HF := hide hf
  have HV : Hid (∀ W, Below w.heap.size w W → MachAt W v m) := hide (fun W hb => hv.carry hb)
  obtain ⟨sv, ev, rfl, hs, he⟩ := hv
  have hsl := hs.lenm
  obtain ⟨sa, sc, rfl, -⟩ := hs
  obtain ⟨ea, ec, rfl, -⟩ := he
  obtain ⟨q1, hq1⟩ : ∃ q1, machB m = q1 := ⟨_, rfl⟩
  obtain ⟨q2, hq2⟩ : ∃ q2, inB s 0 ((m.states.length : Int) - 1) = q2 := ⟨_, rfl⟩
  have HR : Hid (stepAc m s a = if q1 && q2 then stepF m s a else -1) := hide (by rw [stepAc, hq1, hq2])
  have HQ1 := hide hq1
  have HQ2 := hide hq2
  clear hq1 hq2 hf
  have HGO : Hid (∀ W A B, W = (w.alloc A).alloc B → Below w.heap.size w W) := hide (fun W A B hW => by rw [hW]; exact balloc2 _ _ _)
  unfold RAct.val
  cases q1
  · go_enter Try.func16, Try.ntmps16
    go_wp2_with (refine wp_text_from 7 (fun W hW => ?_); have hne := grown_some W; have f0 := grown_cell (w := W) (b := w.heap.size) (o := 0) (v := .slice sa m.states.length sc) (by rw [hW]; simp); have f1 := grown_cell (w := W) (b := w.heap.size) (o := 1) (v := .slice ea m.edges.length ec) (by rw [hW]; simp); have f2 := grown_cell (w := W) (b := w.heap.size) (o := 2) (v := .int .i64 m.start) (by rw [hW]; simp); have g0 := grown_cell (w := W) (b := w.heap.size + 1) (o := 0) (v := .int .i64 a.kind) (by rw [hW]; simp); have g1 := grown_cell (w := W) (b := w.heap.size + 1) (o := 1) (v := .string a.peer) (by rw [hW]; simp); have g2 := grown_cell (w := W) (b := w.heap.size + 1) (o := 2) (v := .string a.label) (by rw [hW]; simp); have g3 := grown_cell (w := W) (b := w.heap.size + 1) (o := 3) (v := .int .i64 a.sort) (by rw [hW]; simp); have HBW := hide (HGO.out W _ _ hW); clear hW; (repeat (go_big_quiet_step (first
        | (go_at_call 10; exact grown_more (s_machineRight_at HQ1.out _ _ HF.out ((HV.out _ HBW.out).carry (Grown.bel _))))
        | (go_at_call 33; exact grown_more (s_l04state HQ2.out _ _ ((HV.out _ HBW.out).carry (Grown.bel _))))))); refine wpQuiet_nil ?_; intro w1 hw1; have b0 := f0 ⟨w1, hw1⟩; have b1 := f1 ⟨w1, hw1⟩; have b2 := f2 ⟨w1, hw1⟩; have a0 := g0 ⟨w1, hw1⟩; have a1 := g1 ⟨w1, hw1⟩; have a2 := g2 ⟨w1, hw1⟩; have a3 := g3 ⟨w1, hw1⟩; dsimp only at b0 b1 b2 a0 a1 a2 a3; have HW : Hid (Below w.heap.size w w1) := hide (HBW.out.trans (hw1.mono HBW.out.size)); have HW1 := hide hw1; clear hw1 hne f0 f1 f2 g0 g1 g2 g3)
    go_ret
    exact ⟨ret_int HR.out, HW.out⟩
  · cases q2
    · go_enter Try.func16, Try.ntmps16
      go_wp2_with (refine wp_text_from 7 (fun W hW => ?_); have hne := grown_some W; have f0 := grown_cell (w := W) (b := w.heap.size) (o := 0) (v := .slice sa m.states.length sc) (by rw [hW]; simp); have f1 := grown_cell (w := W) (b := w.heap.size) (o := 1) (v := .slice ea m.edges.length ec) (by rw [hW]; simp); have f2 := grown_cell (w := W) (b := w.heap.size) (o := 2) (v := .int .i64 m.start) (by rw [hW]; simp); have g0 := grown_cell (w := W) (b := w.heap.size + 1) (o := 0) (v := .int .i64 a.kind) (by rw [hW]; simp); have g1 := grown_cell (w := W) (b := w.heap.size + 1) (o := 1) (v := .string a.peer) (by rw [hW]; simp); have g2 := grown_cell (w := W) (b := w.heap.size + 1) (o := 2) (v := .string a.label) (by rw [hW]; simp); have g3 := grown_cell (w := W) (b := w.heap.size + 1) (o := 3) (v := .int .i64 a.sort) (by rw [hW]; simp); have HBW := hide (HGO.out W _ _ hW); clear hW; (repeat (go_big_quiet_step (first
        | (go_at_call 10; exact grown_more (s_machineRight_at HQ1.out _ _ HF.out ((HV.out _ HBW.out).carry (Grown.bel _))))
        | (go_at_call 33; exact grown_more (s_l04state HQ2.out _ _ ((HV.out _ HBW.out).carry (Grown.bel _))))))); refine wpQuiet_nil ?_; intro w1 hw1; have b0 := f0 ⟨w1, hw1⟩; have b1 := f1 ⟨w1, hw1⟩; have b2 := f2 ⟨w1, hw1⟩; have a0 := g0 ⟨w1, hw1⟩; have a1 := g1 ⟨w1, hw1⟩; have a2 := g2 ⟨w1, hw1⟩; have a3 := g3 ⟨w1, hw1⟩; dsimp only at b0 b1 b2 a0 a1 a2 a3; have HW : Hid (Below w.heap.size w w1) := hide (HBW.out.trans (hw1.mono HBW.out.size)); have HW1 := hide hw1; clear hw1 hne f0 f1 f2 g0 g1 g2 g3)
      go_ret
      exact ⟨ret_int HR.out, HW.out⟩
    · have hb : 0 ≤ s ∧ s < (m.states.length : Int) := by have := HQ2.out; simp [inB] at this; omega
      have H80 := hide (mach_80 HQ1.out)
      have HB := hide hb
      clear hb
      go_enter Try.func16, Try.ntmps16
      go_wp2_with (first | (refine wp_text_from 7 (fun W hW => ?_); have hne := grown_some W; have f0 := grown_cell (w := W) (b := w.heap.size) (o := 0) (v := .slice sa m.states.length sc) (by rw [hW]; simp); have f1 := grown_cell (w := W) (b := w.heap.size) (o := 1) (v := .slice ea m.edges.length ec) (by rw [hW]; simp); have f2 := grown_cell (w := W) (b := w.heap.size) (o := 2) (v := .int .i64 m.start) (by rw [hW]; simp); have g0 := grown_cell (w := W) (b := w.heap.size + 1) (o := 0) (v := .int .i64 a.kind) (by rw [hW]; simp); have g1 := grown_cell (w := W) (b := w.heap.size + 1) (o := 1) (v := .string a.peer) (by rw [hW]; simp); have g2 := grown_cell (w := W) (b := w.heap.size + 1) (o := 2) (v := .string a.label) (by rw [hW]; simp); have g3 := grown_cell (w := W) (b := w.heap.size + 1) (o := 3) (v := .int .i64 a.sort) (by rw [hW]; simp); have HBW := hide (HGO.out W _ _ hW); clear hW; (repeat (go_big_quiet_step (first
        | (go_at_call 10; exact grown_more (s_machineRight_at HQ1.out _ _ HF.out ((HV.out _ HBW.out).carry (Grown.bel _))))
        | (go_at_call 33; exact grown_more (s_l04state HQ2.out _ _ ((HV.out _ HBW.out).carry (Grown.bel _))))))); refine wpQuiet_nil ?_; intro w1 hw1; have b0 := f0 ⟨w1, hw1⟩; have b1 := f1 ⟨w1, hw1⟩; have b2 := f2 ⟨w1, hw1⟩; have a0 := g0 ⟨w1, hw1⟩; have a1 := g1 ⟨w1, hw1⟩; have a2 := g2 ⟨w1, hw1⟩; have a3 := g3 ⟨w1, hw1⟩; dsimp only at b0 b1 b2 a0 a1 a2 a3; have HW : Hid (Below w.heap.size w w1) := hide (HBW.out.trans (hw1.mono HBW.out.size)); have HW1 := hide hw1; clear hw1 hne f0 f1 f2 g0 g1 g2 g3) | (go_at_call 21; refine (s_l04step m s a _ _ (HV.out _ HW.out) HB.out.1 HB.out.2 H80.out).mono ?_; rintro e w2 ⟨rfl, hb2⟩; have HB2 := hide hb2; clear hb2))
      go_ret
      exact ⟨ret_int (by rw [HR.out]; rfl), HW.out.trans (HB2.out.mono HW.out.size)⟩

theorem s_l04step_at {c : Int} {m : Mach} {s : Int} {a : RAct} (hc : stepF m s a = c) (v : Value) (w : World) (hv : MachAt w v m) (h0 : 0 ≤ s) (h1 : s < (m.states.length : Int)) (h80 : m.edges.length ≤ 80) :
    Calls Try.prog 21 #[v, .int .i64 s, a.val] w fun e w' => e = .returned (.int .i64 c) ∧ Below w.heap.size w w' := by subst hc; exact s_l04step m s a v w hv h0 h1 h80
def followK (m : Mach) : Int → List RAct → Nat → Int
  | st, [], _ => st
  | st, a :: l, i => if stepF m st a < 0 then -1 - (i : Int) else followK m (stepF m st a) l (i + 1)
def followR (m : Mach) (l : List RAct) : Int := if decide (l.length ≤ 60) && machB m then followK m m.start l 0 else -1
theorem stepF_range {m : Mach} (h : machB m = true) (s : Int) (a : RAct) : stepF m s a = -1 ∨ (0 ≤ stepF m s a ∧ stepF m s a < (m.states.length : Int)) := by
  unfold stepF
  cases hf : m.edges.find? (fun e => e.src == s && actEq a (actE m s e)) with
  | none => exact .inl rfl
  | some e =>
    have := edge_bounds h (List.mem_of_find?_eq_some hf)
    exact .inr ⟨this.2.2.1, this.2.2.2.1⟩
theorem start_range {m : Mach} (h : machB m = true) : 0 ≤ m.start ∧ m.start < (m.states.length : Int) := by
  simp [machB, headB, inB] at h
  omega
theorem follow_drop {m : Mach} {st : Int} {l : List RAct} {k : Nat} (hk : k < l.length) : followK m st (l.drop k) k = if stepF m st l[k] < 0 then -1 - (k : Int) else followK m (stepF m st l[k]) (l.drop (k + 1)) (k + 1) := by
  rw [List.drop_eq_getElem_cons hk, followK]
set_option maxRecDepth 100000 in
set_option maxHeartbeats 1000000 in
theorem s_follow (m : Mach) (l : List RAct) (v u : Value) (w : World) (hf : m.fit) (hv : MachAt w v m) (hu : RActSl w w.heap.size u l) :
    Calls Try.prog 8 #[v, u] w fun e w' => e = .returned (.int .i64 (followR m l)) ∧ Below w.heap.size w w' := by
  have HF := hide hf
  have HV : Hid (∀ W, Below w.heap.size w W → MachAt W v m) := hide (fun W hb => hv.carry hb)
  obtain ⟨sv, ev, rfl, hs, he⟩ := hv
  obtain ⟨sa, sc, rfl, -⟩ := hs
  obtain ⟨ea, ec, rfl, -⟩ := he
  obtain ⟨la, lc, rfl, hl1, hl2, hl3⟩ := hu
  have HLR := hide hl3
  obtain ⟨q1, hq1⟩ : ∃ q1, machB m = q1 := ⟨_, rfl⟩
  have HQ1 := hide hq1
  have HR0 : Hid (followR m l = if decide (l.length ≤ 60) && q1 then followK m m.start l 0 else -1) := hide (by rw [followR, hq1])
  clear hq1 hf hl3
  have HGO : Hid (∀ W A, W = w.alloc A → Below w.heap.size w W) := hide (fun W A hW => by rw [hW]; exact malloc1 _ _)
  by_cases h60 : 60 < l.length
  · have HR : Hid (followR m l = -1) := hide (by rw [HR0.out, decide_eq_false (by omega)]; rfl)
    have h60' : decide (60 < (l.length : Int)) = true := decide_eq_true (by omega)
    go_enter Try.func8, Try.ntmps8
    go_wp2_with (refine wp_text_from 9 (fun W hW => ?_); have hne := grown_some W; have f0 := grown_cell (w := W) (b := w.heap.size) (o := 0) (v := .slice sa m.states.length sc) (by rw [hW]; simp); have f1 := grown_cell (w := W) (b := w.heap.size) (o := 1) (v := .slice ea m.edges.length ec) (by rw [hW]; simp); have f2 := grown_cell (w := W) (b := w.heap.size) (o := 2) (v := .int .i64 m.start) (by rw [hW]; simp); have HBW := hide (HGO.out W _ hW); have hlw : w.heap.size < W.heap.size := (by rw [hW]; simp); clear hW; (repeat (go_big_quiet_step (first
        | (go_at_call 10; exact grown_more (s_machineRight_at HQ1.out _ _ HF.out ((HV.out _ HBW.out).carry (Grown.bel _))))))); refine wpQuiet_nil ?_; intro w1 hw1; have b0 := f0 ⟨w1, hw1⟩; have b1 := f1 ⟨w1, hw1⟩; have b2 := f2 ⟨w1, hw1⟩; dsimp only at b0 b1 b2; have HW : Hid (Below w.heap.size w w1) := hide (HBW.out.trans (hw1.mono HBW.out.size)); have hlw1 : w.heap.size < w1.heap.size := Nat.lt_of_lt_of_le hlw hw1.size; have HW1 := hide hw1; clear hw1 hne f0 f1 f2)
    go_ret
    exact ⟨ret_int HR.out, HW.out⟩
  · have h60' : decide (60 < (l.length : Int)) = false := decide_eq_false (by omega)
    have HD : Hid (decide (l.length ≤ 60) = true) := hide (decide_eq_true (by omega))
    cases q1
    · have HR : Hid (followR m l = -1) := hide (by rw [HR0.out, HD.out]; rfl)
      go_enter Try.func8, Try.ntmps8
      go_wp2_with (refine wp_text_from 9 (fun W hW => ?_); have hne := grown_some W; have f0 := grown_cell (w := W) (b := w.heap.size) (o := 0) (v := .slice sa m.states.length sc) (by rw [hW]; simp); have f1 := grown_cell (w := W) (b := w.heap.size) (o := 1) (v := .slice ea m.edges.length ec) (by rw [hW]; simp); have f2 := grown_cell (w := W) (b := w.heap.size) (o := 2) (v := .int .i64 m.start) (by rw [hW]; simp); have HBW := hide (HGO.out W _ hW); have hlw : w.heap.size < W.heap.size := (by rw [hW]; simp); clear hW; (repeat (go_big_quiet_step (first
        | (go_at_call 10; exact grown_more (s_machineRight_at HQ1.out _ _ HF.out ((HV.out _ HBW.out).carry (Grown.bel _))))))); refine wpQuiet_nil ?_; intro w1 hw1; have b0 := f0 ⟨w1, hw1⟩; have b1 := f1 ⟨w1, hw1⟩; have b2 := f2 ⟨w1, hw1⟩; dsimp only at b0 b1 b2; have HW : Hid (Below w.heap.size w w1) := hide (HBW.out.trans (hw1.mono HBW.out.size)); have hlw1 : w.heap.size < w1.heap.size := Nat.lt_of_lt_of_le hlw hw1.size; have HW1 := hide hw1; clear hw1 hne f0 f1 f2)
      go_ret
      exact ⟨ret_int HR.out, HW.out⟩
    · have HR : Hid (followR m l = followK m m.start l 0) := hide (by rw [HR0.out, HD.out]; rfl)
      have H80 := hide (mach_80 HQ1.out)
      have HRG := hide (fun s a => stepF_range HQ1.out s a)
      have HSR := hide (start_range HQ1.out)
      go_enter Try.func8, Try.ntmps8
      go_wp2_with (refine wp_text_from 9 (fun W hW => ?_); have hne := grown_some W; have f0 := grown_cell (w := W) (b := w.heap.size) (o := 0) (v := .slice sa m.states.length sc) (by rw [hW]; simp); have f1 := grown_cell (w := W) (b := w.heap.size) (o := 1) (v := .slice ea m.edges.length ec) (by rw [hW]; simp); have f2 := grown_cell (w := W) (b := w.heap.size) (o := 2) (v := .int .i64 m.start) (by rw [hW]; simp); have HBW := hide (HGO.out W _ hW); have hlw : w.heap.size < W.heap.size := (by rw [hW]; simp); clear hW; (repeat (go_big_quiet_step (first
        | (go_at_call 10; exact grown_more (s_machineRight_at HQ1.out _ _ HF.out ((HV.out _ HBW.out).carry (Grown.bel _))))))); refine wpQuiet_nil ?_; intro w1 hw1; have b0 := f0 ⟨w1, hw1⟩; have b1 := f1 ⟨w1, hw1⟩; have b2 := f2 ⟨w1, hw1⟩; dsimp only at b0 b1 b2; have HW : Hid (Below w.heap.size w w1) := hide (HBW.out.trans (hw1.mono HBW.out.size)); have hlw1 : w.heap.size < w1.heap.size := Nat.lt_of_lt_of_le hlw hw1.size; have HW1 := hide hw1; clear hw1 hne f0 f1 f2)
      go_loopw [5, 6] (fun st i wr => ∃ (k : Nat) (z : Int), k ≤ l.length ∧ i = .int .i64 k ∧ st = .int .i64 z ∧ 0 ≤ z ∧ z < (m.states.length : Int) ∧ followK m z (l.drop k) k = followK m m.start l 0 ∧ Below w1.heap.size w1 wr) (fun _ i _ => l.length - (intOf i).toNat)
      case atStart => exact ⟨0, m.start, Nat.zero_le _, rfl, rfl, HSR.out.1, HSR.out.2, rfl, Below.refl _ _⟩
      case round =>
        obtain ⟨k, z, hk, rfl, rfl, hz0, hz1, hfk, hbel⟩ := hrel
        have HFK := hide hfk
        have HBEL := hide hbel
        have c0 := (hbel.cell (p := ⟨w.heap.size, 0, none⟩) hlw1).trans b0
        have c1 := (hbel.cell (p := ⟨w.heap.size, 1, none⟩) hlw1).trans b1
        have c2 := (hbel.cell (p := ⟨w.heap.size, 2, none⟩) hlw1).trans b2
        have HWR : Hid (Below w.heap.size w wr) := hide (HW.out.trans (hbel.mono (Nat.le_of_lt hlw1)))
        clear hfk hbel
        by_cases hlt : k < l.length
        · obtain ⟨b, o, rfl, hbB, hrow⟩ := HLR.out (by intro h; simp [h] at hlt)
          have hnode := (hrow.get k hlt).carry hbB HWR.out
          obtain ⟨a1, ha1⟩ : ∃ a1, a1 = l[k] := ⟨_, rfl⟩
          rw [← ha1] at hnode
          obtain ⟨nx, hnx⟩ : ∃ nx, stepF m z a1 = nx := ⟨_, rfl⟩
          have HNX := hide hnx
          have hrg := HRG.out z a1
          rw [hnx] at hrg
          have HST : Hid (followK m z (l.drop k) k = if nx < 0 then -1 - (k : Int) else followK m nx (l.drop (k + 1)) (k + 1)) := hide (by rw [follow_drop hlt, ← ha1, hnx])
          obtain ⟨e0, e1, e2, e3⟩ := hnode
          clear ha1 hrow hnx
          go_wp2_with fail
          refine wp_region_grown (by kernel_rfl) (by kernel_rfl) (fun W hW => ?_)
          have hne := grown_some W
          have f0 := grown_cell (w := W) (by rw [hW]; exact c0)
          have f1 := grown_cell (w := W) (by rw [hW]; exact c1)
          have f2 := grown_cell (w := W) (by rw [hW]; exact c2)
          have g0 := grown_cell (w := W) (by rw [hW]; exact e0)
          have g1 := grown_cell (w := W) (by rw [hW]; exact e1)
          have g2 := grown_cell (w := W) (by rw [hW]; exact e2)
          have g3 := grown_cell (w := W) (by rw [hW]; exact e3)
          have HWW : Hid (Below w.heap.size w W) := hide (by rw [hW]; exact HWR.out)
          have HWE := hide hW
          clear hW
          repeat (go_big_quiet_step ((go_at_call 21; exact grown_more (s_l04step_at (a := a1) HNX.out _ _ ((HV.out _ HWW.out).carry (Grown.bel _)) hz0 hz1 H80.out))))
          refine wpQuiet_nil ?_
          intro w2 hw2
          have HB2 : Hid (Below wr.heap.size wr w2) := hide (by rw [HWE.out] at hw2; exact hw2)
          clear hw2 hne f0 f1 f2 g0 g1 g2 g3 HWE
          rcases hrg with hneg | ⟨hp0, hp1⟩
          · subst hneg
            go_wp2_with fail
            go_ret
            exact ⟨ret_int (by rw [HR.out, ← HFK.out, HST.out]; simp), HWR.out.trans (HB2.out.mono HWR.out.size)⟩
          · go_wp2_with fail
            go_roundw
            case rel => exact ⟨k + 1, nx, hlt, by go_num, rfl, hp0, hp1, by rw [← HFK.out, HST.out, if_neg (by omega)], HBEL.out.trans (HB2.out.mono HBEL.out.size)⟩
            case measure => simp [intOf]; omega
        · go_wp2_with fail
          go_ret
          refine ⟨ret_int ?_, HWR.out⟩
          rw [HR.out, ← HFK.out, List.drop_eq_nil_of_le (by omega)]
          rfl
end Go.Proofs.Ytlbcnmcfljaijaa
