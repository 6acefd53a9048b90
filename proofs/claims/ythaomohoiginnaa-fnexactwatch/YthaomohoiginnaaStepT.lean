/- StepOf and Follow of the specification. -/
import Derived.Test.YthaomohoiginnaaStepS
namespace Go.Proofs.Ythaomohoiginnaa
open Go.RowKit
attribute [local go_sem ↓] Go.wp_at_zero Go.wp_at_succ

def stepR (m : Mach) (s : Int) (a : RAct) : Int := if machB m && inB s 0 ((m.states.length : Int) - 1) then stepF m s a else -1
set_option maxRecDepth 100000 in
set_option maxHeartbeats 1000000 in
theorem s_stepOf (m : Mach) (s : Int) (a : RAct) (v : Value) (w : World) (hf : m.fit) (hv : MachAt w v m) :
    Calls Try.prog 35 #[v, .int .i64 s, a.val] w fun e w' => e = .returned (.int .i64 (stepR m s a)) ∧ Below w.heap.size w w' := by
  have HF := hide hf
  have HV : Hid (∀ W, Below w.heap.size w W → MachAt W v m) := hide (fun W hb => hv.carry hb)
  obtain ⟨sv, ev, rfl, hs, he⟩ := hv
  have hsl := hs.lenm
  obtain ⟨sa, sc, rfl, -⟩ := hs
  obtain ⟨ea, ec, rfl, -⟩ := he
  obtain ⟨q1, hq1⟩ : ∃ q1, machB m = q1 := ⟨_, rfl⟩
  obtain ⟨q2, hq2⟩ : ∃ q2, inB s 0 ((m.states.length : Int) - 1) = q2 := ⟨_, rfl⟩
  have HR : Hid (stepR m s a = if q1 && q2 then stepF m s a else -1) := hide (by rw [stepR, hq1, hq2])
  have HQ1 := hide hq1
  have HQ2 := hide hq2
  clear hq1 hq2 hf
  have HGO : Hid (∀ W A B, W = (w.alloc A).alloc B → Below w.heap.size w W) := hide (fun W A B hW => by rw [hW]; exact balloc2 _ _ _)
  unfold RAct.val
  cases q1
  · go_enter Try.func35, Try.ntmps35
    go_wp2_with (refine wp_text_from 7 (fun W hW => ?_); have hne := grown_some W; have f0 := grown_cell (w := W) (b := w.heap.size) (o := 0) (v := .slice sa m.states.length sc) (by rw [hW]; simp); have f1 := grown_cell (w := W) (b := w.heap.size) (o := 1) (v := .slice ea m.edges.length ec) (by rw [hW]; simp); have f2 := grown_cell (w := W) (b := w.heap.size) (o := 2) (v := .int .i64 m.start) (by rw [hW]; simp); have g0 := grown_cell (w := W) (b := w.heap.size + 1) (o := 0) (v := .int .i64 a.kind) (by rw [hW]; simp); have g1 := grown_cell (w := W) (b := w.heap.size + 1) (o := 1) (v := .string a.peer) (by rw [hW]; simp); have g2 := grown_cell (w := W) (b := w.heap.size + 1) (o := 2) (v := .string a.label) (by rw [hW]; simp); have g3 := grown_cell (w := W) (b := w.heap.size + 1) (o := 3) (v := .int .i64 a.sort) (by rw [hW]; simp); have HBW := hide (HGO.out W _ _ hW); clear hW; (repeat (go_big_quiet_step (first
        | (go_at_call 25; exact grown_more (s_machineRight_at HQ1.out _ _ HF.out ((HV.out _ HBW.out).carry (Grown.bel _))))
        | (go_at_call 87; exact grown_more (s_l04state HQ2.out _ _ ((HV.out _ HBW.out).carry (Grown.bel _))))))); refine wpQuiet_nil ?_; intro w1 hw1; have b0 := f0 ⟨w1, hw1⟩; have b1 := f1 ⟨w1, hw1⟩; have b2 := f2 ⟨w1, hw1⟩; have a0 := g0 ⟨w1, hw1⟩; have a1 := g1 ⟨w1, hw1⟩; have a2 := g2 ⟨w1, hw1⟩; have a3 := g3 ⟨w1, hw1⟩; dsimp only at b0 b1 b2 a0 a1 a2 a3; have HW : Hid (Below w.heap.size w w1) := hide (HBW.out.trans (hw1.mono HBW.out.size)); have HW1 := hide hw1; clear hw1 hne f0 f1 f2 g0 g1 g2 g3)
    go_ret
    exact ⟨ret_int HR.out, HW.out⟩
  · cases q2
    · go_enter Try.func35, Try.ntmps35
      go_wp2_with (refine wp_text_from 7 (fun W hW => ?_); have hne := grown_some W; have f0 := grown_cell (w := W) (b := w.heap.size) (o := 0) (v := .slice sa m.states.length sc) (by rw [hW]; simp); have f1 := grown_cell (w := W) (b := w.heap.size) (o := 1) (v := .slice ea m.edges.length ec) (by rw [hW]; simp); have f2 := grown_cell (w := W) (b := w.heap.size) (o := 2) (v := .int .i64 m.start) (by rw [hW]; simp); have g0 := grown_cell (w := W) (b := w.heap.size + 1) (o := 0) (v := .int .i64 a.kind) (by rw [hW]; simp); have g1 := grown_cell (w := W) (b := w.heap.size + 1) (o := 1) (v := .string a.peer) (by rw [hW]; simp); have g2 := grown_cell (w := W) (b := w.heap.size + 1) (o := 2) (v := .string a.label) (by rw [hW]; simp); have g3 := grown_cell (w := W) (b := w.heap.size + 1) (o := 3) (v := .int .i64 a.sort) (by rw [hW]; simp); have HBW := hide (HGO.out W _ _ hW); clear hW; (repeat (go_big_quiet_step (first
        | (go_at_call 25; exact grown_more (s_machineRight_at HQ1.out _ _ HF.out ((HV.out _ HBW.out).carry (Grown.bel _))))
        | (go_at_call 87; exact grown_more (s_l04state HQ2.out _ _ ((HV.out _ HBW.out).carry (Grown.bel _))))))); refine wpQuiet_nil ?_; intro w1 hw1; have b0 := f0 ⟨w1, hw1⟩; have b1 := f1 ⟨w1, hw1⟩; have b2 := f2 ⟨w1, hw1⟩; have a0 := g0 ⟨w1, hw1⟩; have a1 := g1 ⟨w1, hw1⟩; have a2 := g2 ⟨w1, hw1⟩; have a3 := g3 ⟨w1, hw1⟩; dsimp only at b0 b1 b2 a0 a1 a2 a3; have HW : Hid (Below w.heap.size w w1) := hide (HBW.out.trans (hw1.mono HBW.out.size)); have HW1 := hide hw1; clear hw1 hne f0 f1 f2 g0 g1 g2 g3)
      go_ret
      exact ⟨ret_int HR.out, HW.out⟩
    · have hb : 0 ≤ s ∧ s < (m.states.length : Int) := by have := HQ2.out; simp [inB] at this; omega
      have H80 := hide (mach_80 HQ1.out)
      have HB := hide hb
      clear hb
      go_enter Try.func35, Try.ntmps35
      go_wp2_with (first | (refine wp_text_from 7 (fun W hW => ?_); have hne := grown_some W; have f0 := grown_cell (w := W) (b := w.heap.size) (o := 0) (v := .slice sa m.states.length sc) (by rw [hW]; simp); have f1 := grown_cell (w := W) (b := w.heap.size) (o := 1) (v := .slice ea m.edges.length ec) (by rw [hW]; simp); have f2 := grown_cell (w := W) (b := w.heap.size) (o := 2) (v := .int .i64 m.start) (by rw [hW]; simp); have g0 := grown_cell (w := W) (b := w.heap.size + 1) (o := 0) (v := .int .i64 a.kind) (by rw [hW]; simp); have g1 := grown_cell (w := W) (b := w.heap.size + 1) (o := 1) (v := .string a.peer) (by rw [hW]; simp); have g2 := grown_cell (w := W) (b := w.heap.size + 1) (o := 2) (v := .string a.label) (by rw [hW]; simp); have g3 := grown_cell (w := W) (b := w.heap.size + 1) (o := 3) (v := .int .i64 a.sort) (by rw [hW]; simp); have HBW := hide (HGO.out W _ _ hW); clear hW; (repeat (go_big_quiet_step (first
        | (go_at_call 25; exact grown_more (s_machineRight_at HQ1.out _ _ HF.out ((HV.out _ HBW.out).carry (Grown.bel _))))
        | (go_at_call 87; exact grown_more (s_l04state HQ2.out _ _ ((HV.out _ HBW.out).carry (Grown.bel _))))))); refine wpQuiet_nil ?_; intro w1 hw1; have b0 := f0 ⟨w1, hw1⟩; have b1 := f1 ⟨w1, hw1⟩; have b2 := f2 ⟨w1, hw1⟩; have a0 := g0 ⟨w1, hw1⟩; have a1 := g1 ⟨w1, hw1⟩; have a2 := g2 ⟨w1, hw1⟩; have a3 := g3 ⟨w1, hw1⟩; dsimp only at b0 b1 b2 a0 a1 a2 a3; have HW : Hid (Below w.heap.size w w1) := hide (HBW.out.trans (hw1.mono HBW.out.size)); have HW1 := hide hw1; clear hw1 hne f0 f1 f2 g0 g1 g2 g3) | (go_at_call 88; refine (s_l04step m s a _ _ (HV.out _ HW.out) HB.out.1 HB.out.2 H80.out).mono ?_; rintro e w2 ⟨rfl, hb2⟩; have HB2 := hide hb2; clear hb2))
      go_ret
      exact ⟨ret_int (by rw [HR.out]; rfl), HW.out.trans (HB2.out.mono HW.out.size)⟩

theorem s_l04step_at {c : Int} {m : Mach} {s : Int} {a : RAct} (hc : stepF m s a = c) (v : Value) (w : World) (hv : MachAt w v m) (h0 : 0 ≤ s) (h1 : s < (m.states.length : Int)) (h80 : m.edges.length ≤ 80) :
    Calls Try.prog 88 #[v, .int .i64 s, a.val] w fun e w' => e = .returned (.int .i64 c) ∧ Below w.heap.size w w' := by subst hc; exact s_l04step m s a v w hv h0 h1 h80
def followK (m : Mach) : Int → List RAct → Nat → Int
  | st, [], _ => st
  | st, a :: l, i => if stepF m st a < 0 then -1 - (i : Int) else followK m (stepF m st a) l (i + 1)
def followR (m : Mach) (l : List RAct) : Int := if decide (l.length ≤ 60) && machB m then followK m m.start l 0 else -1
theorem stepF_range {m : Mach} (h : machB m = true) (s : Int) (a : RAct) : stepF m s a = -1 ∨ (0 ≤ stepF m s a ∧ stepF m s a < (m.states.length : Int)) := by
  unfold stepF
  cases hf : m.edges.find? (fun e => e.src == s && actEq a (actE m s e)) with
  | none => exact .inl rfl
  | some e =>
    have := edge_bounds h (List.mem_of_find?_eq_some hf)
    exact .inr ⟨this.2.2.1, this.2.2.2.1⟩
theorem start_range {m : Mach} (h : machB m = true) : 0 ≤ m.start ∧ m.start < (m.states.length : Int) := by
  simp [machB, headB, inB] at h
  omega
theorem follow_drop {m : Mach} {st : Int} {l : List RAct} {k : Nat} (hk : k < l.length) : followK m st (l.drop k) k = if stepF m st l[k] < 0 then -1 - (k : Int) else followK m (stepF m st l[k]) (l.drop (k + 1)) (k + 1) := by
  rw [List.drop_eq_getElem_cons hk, followK]
set_option maxRecDepth 100000 in
set_option maxHeartbeats 1000000 in
theorem s_follow (m : Mach) (l : List RAct) (v u : Value) (w : World) (hf : m.fit) (hv : MachAt w v m) (hu : RActSl w w.heap.size u l) :
    Calls Try.prog 39 #[v, u] w fun e w' => e = .returned (.int .i64 (followR m l)) ∧ Below w.heap.size w w' := by
  have HF := hide hf
  have HV : Hid (∀ W, Below w.heap.size w W → MachAt W v m) := hide (fun W hb => hv.carry hb)
  obtain ⟨sv, ev, rfl, hs, he⟩ := hv
  obtain ⟨sa, sc, rfl, -⟩ := hs
  obtain ⟨ea, ec, rfl, -⟩ := he
  obtain ⟨la, lc, rfl, hl1, hl2, hl3⟩ := hu
  have HLR := hide hl3
  obtain ⟨q1, hq1⟩ : ∃ q1, machB m = q1 := ⟨_, rfl⟩
  have HQ1 := hide hq1
  have HR0 : Hid (followR m l = if decide (l.length ≤ 60) && q1 then followK m m.start l 0 else -1) := hide (by rw [followR, hq1])
  clear hq1 hf hl3
  have HGO : Hid (∀ W A, W = w.alloc A → Below w.heap.size w W) := hide (fun W A hW => by rw [hW]; exact malloc1 _ _)
  by_cases h60 : 60 < l.length
  · have HR : Hid (followR m l = -1) := hide (by rw [HR0.out, decide_eq_false (by omega)]; rfl)
    have h60' : decide (60 < (l.length : Int)) = true := decide_eq_true (by omega)
    go_enter Try.func39, Try.ntmps39
    go_wp2_with (refine wp_text_from 9 (fun W hW => ?_); have hne := grown_some W; have f0 := grown_cell (w := W) (b := w.heap.size) (o := 0) (v := .slice sa m.states.length sc) (by rw [hW]; simp); have f1 := grown_cell (w := W) (b := w.heap.size) (o := 1) (v := .slice ea m.edges.length ec) (by rw [hW]; simp); have f2 := grown_cell (w := W) (b := w.heap.size) (o := 2) (v := .int .i64 m.start) (by rw [hW]; simp); have HBW := hide (HGO.out W _ hW); have hlw : w.heap.size < W.heap.size := (by rw [hW]; simp); clear hW; (repeat (go_big_quiet_step (first
        | (go_at_call 25; exact grown_more (s_machineRight_at HQ1.out _ _ HF.out ((HV.out _ HBW.out).carry (Grown.bel _))))))); refine wpQuiet_nil ?_; intro w1 hw1; have b0 := f0 ⟨w1, hw1⟩; have b1 := f1 ⟨w1, hw1⟩; have b2 := f2 ⟨w1, hw1⟩; dsimp only at b0 b1 b2; have HW : Hid (Below w.heap.size w w1) := hide (HBW.out.trans (hw1.mono HBW.out.size)); have hlw1 : w.heap.size < w1.heap.size := Nat.lt_of_lt_of_le hlw hw1.size; have HW1 := hide hw1; clear hw1 hne f0 f1 f2)
    go_ret
    exact ⟨ret_int HR.out, HW.out⟩
  · have h60' : decide (60 < (l.length : Int)) = false := decide_eq_false (by omega)
    have HD : Hid (decide (l.length ≤ 60) = true) := hide (decide_eq_true (by omega))
    cases q1
    · have HR : Hid (followR m l = -1) := hide (by rw [HR0.out, HD.out]; rfl)
      go_enter Try.func39, Try.ntmps39
      go_wp2_with (refine wp_text_from 9 (fun W hW => ?_); have hne := grown_some W; have f0 := grown_cell (w := W) (b := w.heap.size) (o := 0) (v := .slice sa m.states.length sc) (by rw [hW]; simp); have f1 := grown_cell (w := W) (b := w.heap.size) (o := 1) (v := .slice ea m.edges.length ec) (by rw [hW]; simp); have f2 := grown_cell (w := W) (b := w.heap.size) (o := 2) (v := .int .i64 m.start) (by rw [hW]; simp); have HBW := hide (HGO.out W _ hW); have hlw : w.heap.size < W.heap.size := (by rw [hW]; simp); clear hW; (repeat (go_big_quiet_step (first
        | (go_at_call 25; exact grown_more (s_machineRight_at HQ1.out _ _ HF.out ((HV.out _ HBW.out).carry (Grown.bel _))))))); refine wpQuiet_nil ?_; intro w1 hw1; have b0 := f0 ⟨w1, hw1⟩; have b1 := f1 ⟨w1, hw1⟩; have b2 := f2 ⟨w1, hw1⟩; dsimp only at b0 b1 b2; have HW : Hid (Below w.heap.size w w1) := hide (HBW.out.trans (hw1.mono HBW.out.size)); have hlw1 : w.heap.size < w1.heap.size := Nat.lt_of_lt_of_le hlw hw1.size; have HW1 := hide hw1; clear hw1 hne f0 f1 f2)
      go_ret
      exact ⟨ret_int HR.out, HW.out⟩
    · have HR : Hid (followR m l = followK m m.start l 0) := hide (by rw [HR0.out, HD.out]; rfl)
      have H80 := hide (mach_80 HQ1.out)
      have HRG := hide (fun s a => stepF_range HQ1.out s a)
      have HSR := hide (start_range HQ1.out)
      go_enter Try.func39, Try.ntmps39
      go_wp2_with (refine wp_text_from 9 (fun W hW => ?_); have hne := grown_some W; have f0 := grown_cell (w := W) (b := w.heap.size) (o := 0) (v := .slice sa m.states.length sc) (by rw [hW]; simp); have f1 := grown_cell (w := W) (b := w.heap.size) (o := 1) (v := .slice ea m.edges.length ec) (by rw [hW]; simp); have f2 := grown_cell (w := W) (b := w.heap.size) (o := 2) (v := .int .i64 m.start) (by rw [hW]; simp); have HBW := hide (HGO.out W _ hW); have hlw : w.heap.size < W.heap.size := (by rw [hW]; simp); clear hW; (repeat (go_big_quiet_step (first
        | (go_at_call 25; exact grown_more (s_machineRight_at HQ1.out _ _ HF.out ((HV.out _ HBW.out).carry (Grown.bel _))))))); refine wpQuiet_nil ?_; intro w1 hw1; have b0 := f0 ⟨w1, hw1⟩; have b1 := f1 ⟨w1, hw1⟩; have b2 := f2 ⟨w1, hw1⟩; dsimp only at b0 b1 b2; have HW : Hid (Below w.heap.size w w1) := hide (HBW.out.trans (hw1.mono HBW.out.size)); have hlw1 : w.heap.size < w1.heap.size := Nat.lt_of_lt_of_le hlw hw1.size; have HW1 := hide hw1; clear hw1 hne f0 f1 f2)
      go_loopw [5, 6] (fun st i wr => ∃ (k : Nat) (z : Int), k ≤ l.length ∧ i = .int .i64 k ∧ st = .int .i64 z ∧ 0 ≤ z ∧ z < (m.states.length : Int) ∧ followK m z (l.drop k) k = followK m m.start l 0 ∧ Below w1.heap.size w1 wr) (fun _ i _ => l.length - (intOf i).toNat)
      case atStart => exact ⟨0, m.start, Nat.zero_le _, rfl, rfl, HSR.out.1, HSR.out.2, rfl, Below.refl _ _⟩
      case round =>
        obtain ⟨k, z, hk, rfl, rfl, hz0, hz1, hfk, hbel⟩ := hrel
        have HFK := hide hfk
        have HBEL := hide hbel
        have c0 := (hbel.cell (p := ⟨w.heap.size, 0, none⟩) hlw1).trans b0
        have c1 := (hbel.cell (p := ⟨w.heap.size, 1, none⟩) hlw1).trans b1
        have c2 := (hbel.cell (p := ⟨w.heap.size, 2, none⟩) hlw1).trans b2
        have HWR : Hid (Below w.heap.size w wr) := hide (HW.out.trans (hbel.mono (Nat.le_of_lt hlw1)))
        clear hfk hbel
        by_cases hlt : k < l.length
        · obtain ⟨b, o, rfl, hbB, hrow⟩ := HLR.out (by intro h; simp [h] at hlt)
          have hnode := (hrow.get k hlt).carry hbB HWR.out
          obtain ⟨a1, ha1⟩ : ∃ a1, a1 = l[k] := ⟨_, rfl⟩
          rw [← ha1] at hnode
          obtain ⟨nx, hnx⟩ : ∃ nx, stepF m z a1 = nx := ⟨_, rfl⟩
          have HNX := hide hnx
          have hrg := HRG.out z a1
          rw [hnx] at hrg
          have HST : Hid (followK m z (l.drop k) k = if nx < 0 then -1 - (k : Int) else followK m nx (l.drop (k + 1)) (k + 1)) := hide (by rw [follow_drop hlt, ← ha1, hnx])
          obtain ⟨e0, e1, e2, e3⟩ := hnode
          clear ha1 hrow hnx
          go_wp2_with fail
          refine wp_region_grown (by kernel_rfl) (by kernel_rfl) (fun W hW => ?_)
          have hne := grown_some W
          have f0 := grown_cell (w := W) (by rw [hW]; exact c0)
          have f1 := grown_cell (w := W) (by rw [hW]; exact c1)
          have f2 := grown_cell (w := W) (by rw [hW]; exact c2)
          have g0 := grown_cell (w := W) (by rw [hW]; exact e0)
          have g1 := grown_cell (w := W) (by rw [hW]; exact e1)
          have g2 := grown_cell (w := W) (by rw [hW]; exact e2)
          have g3 := grown_cell (w := W) (by rw [hW]; exact e3)
          have HWW : Hid (Below w.heap.size w W) := hide (by rw [hW]; exact HWR.out)
          have HWE := hide hW
          clear hW
          repeat (go_big_quiet_step ((go_at_call 88; exact grown_more (s_l04step_at (a := a1) HNX.out _ _ ((HV.out _ HWW.out).carry (Grown.bel _)) hz0 hz1 H80.out))))
          refine wpQuiet_nil ?_
          intro w2 hw2
          have HB2 : Hid (Below wr.heap.size wr w2) := hide (by rw [HWE.out] at hw2; exact hw2)
          clear hw2 hne f0 f1 f2 g0 g1 g2 g3 HWE
          rcases hrg with hneg | ⟨hp0, hp1⟩
          · subst hneg
            go_wp2_with fail
            go_ret
            exact ⟨ret_int (by rw [HR.out, ← HFK.out, HST.out]; simp), HWR.out.trans (HB2.out.mono HWR.out.size)⟩
          · go_wp2_with fail
            go_roundw
            case rel => exact ⟨k + 1, nx, hlt, by go_num, rfl, hp0, hp1, by rw [← HFK.out, HST.out, if_neg (by omega)], HBEL.out.trans (HB2.out.mono HBEL.out.size)⟩
            case measure => simp [intOf]; omega
        · go_wp2_with fail
          go_ret
          refine ⟨ret_int ?_, HWR.out⟩
          rw [HR.out, ← HFK.out, List.drop_eq_nil_of_le (by omega)]
          rfl
end Go.Proofs.Ythaomohoiginnaa
