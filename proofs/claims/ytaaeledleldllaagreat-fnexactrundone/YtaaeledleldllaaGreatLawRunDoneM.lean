/- The law of RunDone, walked. -/
import Derived.Test.YtaaeledleldllaaGreatQB48
import Derived.Test.YtaaeledleldllaaGreatDnSM
import Derived.Test.YtaaeledleldllaaGreatQD01
import Derived.Deep.RegionWith
namespace Go.Proofs.YtaaeledleldllaaGreat
open Go.RowKit

theorem RnAt.shape {w : World} {v : Value} {r : Rn} (h : RnAt w v r) : ∃ pa pc sa sc na nc, v = rnV (.slice pa r.plan.length pc) (.slice sa r.states.length sc) (.slice na r.net.length nc) r.steps := by
  obtain ⟨pa, pc, sa, sc, na, nc, e, -⟩ := h.at_
  exact ⟨pa, pc, sa, sc, na, nc, e⟩
set_option maxRecDepth 100000 in
set_option maxHeartbeats 4000000 in
theorem law_RunDone (r : Rn) (pa : Option Addr) (pc : Nat) (sa : Option Addr) (sc : Nat) (na : Option Addr) (nc : Nat) (w : World) (h : RnArg w pa pc sa sc na nc r) :
    Calls Tryz.prog 6 #[rnV (.slice pa r.plan.length pc) (.slice sa r.states.length sc) (.slice na r.net.length nc) r.steps] w fun e w' => e = .returned (.bool true) ∧ Below w.heap.size w w' := by
  obtain ⟨p, q, hq⟩ := dn_ex r
  have HQ := hide hq
  obtain ⟨C, hC⟩ : ∃ C, C = rnC (.slice pa r.plan.length pc) (.slice sa r.states.length sc) (.slice na r.net.length nc) r.steps := ⟨_, rfl⟩
  have HC : Hid (∀ w', Below (w.heap.size + 1) (w.alloc (.cells C.toArray 32)) w' → BoxL w' w.heap.size C ∧ RnArg w' pa pc sa sc na nc r ∧ Below w.heap.size w w' ∧ w.heap.size < w'.heap.size) := hide (fun w' hb => by
    have hb' : Below (w.alloc (.cells C.toArray 32)).heap.size (w.alloc (.cells C.toArray 32)) w' := by simpa using hb
    have hb2 : Below w.heap.size w w' := (malloc1 _ _).trans (hb'.mono (by simp))
    exact ⟨(BoxL.new w C _).keep (below_apart hb') (by simp), h.carry hb2, hb2, by have := hb.size; simp at this; omega⟩)
  have HL : Hid (∀ (w1 w2 : World), Below (w.heap.size + 1) (w.alloc (.cells C.toArray 32)) w1 → Below w1.heap.size w1 w2 → Below (w.heap.size + 1) (w.alloc (.cells C.toArray 32)) w2) := hide (fun w1 w2 h1 h2 => h1.trans (h2.mono (by have := h1.size; simpa using this)))
  have hC2 : rnV (.slice pa r.plan.length pc) (.slice sa r.states.length sc) (.slice na r.net.length nc) r.steps = .agg C.toArray := by rw [hC]; rfl
  rw [hC2]
  clear h hq hC2
  rw [hC] at *
  clear hC
  unfold rnC at *
  go_enter Tryz.func6, Tryz.ntmps6
  go_wp2_with (go_at_call 13; refine (sz_run r pa pc sa sc na nc _ (HC.out _ (Below.refl _ _)).2.1).mono ?_; rintro e w1 ⟨z, rfl, hrf, hb1⟩; have HRF := hide hrf; have HW1 := hide (HL.out _ _ (Below.refl _ _) hb1); have X1 := (HC.out _ HW1.out).1; have x0 := X1.cell 0 _ rfl; have x1 := X1.cell 1 _ rfl; have x2 := X1.cell 2 _ rfl; have x3 := X1.cell 3 _ rfl; clear hrf hb1 X1; by_cases hneg : z < 0)
  · go_ret
    exact ⟨rfl, (HC.out _ HW1.out).2.2.1⟩
  · have HFIT := hide (HRF.out (by omega))
    go_wp2_with (first
      | (go_at_call 25; (fail_if_success (have := HW4)); refine (i_runDone r p q HQ.out _ _ HFIT.out (HS3.out.carry (malloc1 _ _))).mono ?_; rintro e w4 ⟨rfl, hb4⟩; have HW4 := hide (HL.out _ _ (HL.out _ _ HW3.out (malloc1 _ _)) hb4); have HB4 := hide hb4; have T4 := (HC.out _ HW4.out).1; have t0 := T4.cell 0 _ rfl; have t1 := T4.cell 1 _ rfl; have t2 := T4.cell 2 _ rfl; have t3 := T4.cell 3 _ rfl; have Q4 := (BoxL.new w3 (rnC (.slice pa3 r.plan.length pc3) (.slice sa3 r.states.length sc3) (.slice na3 r.net.length nc3) r.steps) 37).keep (below_apart hb4) (by simp); have HQ4 := hide Q4; have q0 := Q4.cell 0 _ rfl; have q1 := Q4.cell 1 _ rfl; have q2 := Q4.cell 2 _ rfl; have q3 := Q4.cell 3 _ rfl; clear hb4 T4 Q4)
      | (go_at_call 15; (fail_if_success (have := HS3)); refine (to_run r pa pc sa sc na nc _ (HC.out _ HW2'.out).2.1 HFIT.out).mono ?_; rintro e w3 ⟨v3, rfl, hs3, hb3⟩; have HS3 := hide hs3; obtain ⟨pa3, pc3, sa3, sc3, na3, nc3, rfl⟩ := hs3.shape; have HW3 := hide (HL.out _ _ HW2'.out hb3); unfold rnV rnC at *; clear hb3 hs3)
      | (go_at_call 24; (fail_if_success (have := HW2')); refine (s_runDone r p q HQ.out _ _ HFIT.out HS2.out).mono ?_; rintro e w2' ⟨rfl, hb2'⟩; have HW2' := hide (HL.out _ _ HW2.out hb2'); have Z2 := (HC.out _ HW2'.out).1; have z0 := Z2.cell 0 _ rfl; have z1 := Z2.cell 1 _ rfl; have z2 := Z2.cell 2 _ rfl; have z3 := Z2.cell 3 _ rfl; clear hb2' Z2)
      | (go_at_call 15; (fail_if_success (have := HS2)); refine (to_run r pa pc sa sc na nc _ (HC.out _ HW1.out).2.1 HFIT.out).mono ?_; rintro e w2 ⟨v2, rfl, hs2, hb2⟩; have HS2 := hide hs2; have HW2 := hide (HL.out _ _ HW1.out hb2); clear hb2 hs2))
    go_region_with (first
      | (go_at_call 15; refine (to_run r pa pc sa sc na nc _ (HC.out _ HW4.out.drew).2.1 HFIT.out).mono ?_; rintro e w5 ⟨v5, rfl, hs5, hb5⟩; have HS5 := hide hs5; have HW5 := hide (HL.out _ _ HW4.out.drew hb5); have HB5 : Hid (Below w4.heap.size w4 w5) := hide ((Below.refl _ _).drew.trans hb5); have Y5 := HQ4.out.keep (below_apart HB5.out) (by simp); have y0 := Y5.cell 0 _ rfl; have y1 := Y5.cell 1 _ rfl; have y2 := Y5.cell 2 _ rfl; have y3 := Y5.cell 3 _ rfl; clear hb5 hs5 Y5)
      | (go_at_call 17; refine (eq_run r _ _ _ (((HS3.out.carry (malloc1 _ _)).carry HB4.out).carry HB5.out) HS5.out).mono ?_; rintro e w6 ⟨rfl, hb6⟩; have HW6 := hide (HL.out _ _ HW5.out hb6); clear hb6))
    all_goals
      go_wp2_with fail
      go_ret
      exact ⟨rfl, (HC.out _ HW6.out).2.2.1⟩
end Go.Proofs.YtaaeledleldllaaGreat
