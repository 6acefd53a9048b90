/- refuse, whyCode, and messages made anew. -/
import Derived.Test.YtonafcifolddjaaDoorErrs
import Derived.Test.YtonafcifolddjaaDoorNetJ
import Derived.Test.YtonafcifolddjaaDoorShelf
namespace Go.Proofs.YtonafcifolddjaaDoor
open Go.RowKit
attribute [local go_sem ↓] Go.wp_at_zero Go.wp_at_succ

def refuseW (l : List RMsg) (o : Bool) : Why := if 400 < l.length then .wrapped else if o && netB l then .normal else .report
set_option maxHeartbeats 400000 in
theorem i_refuse {E : Errs} {y : Why} {l : List RMsg} {o : Bool} (hy : refuseW l o = y) (v : Value) (w : World) (hok : ∀ m ∈ l, m.ok) (hv : RMsgSl w w.heap.size v l) (hs : SentAt w E) :
    Calls Tryd.prog 28 #[v, .bool o] w fun e w' => e = .returned (whyV E y) ∧ Below w.heap.size w w' := by
  have HOK := hide hok
  have HV := hide hv
  have HS := hide hs
  have hlm := hv.lenm
  obtain ⟨ao, cap, rfl, hc, hm, hr⟩ := hv
  obtain ⟨q, hq⟩ : ∃ q, netB l = q := ⟨_, rfl⟩
  have HQ := hide hq
  have hgL := hs.gL
  have hgR := hs.gR
  clear hr hok hs
  by_cases h4 : 400 < l.length
  · obtain rfl : y = .wrapped := by rw [← hy, refuseW, if_pos h4]
    go_enter Tryd.func28, Tryd.ntmps28
    go_wp2_with fail
    go_ret
    exact ⟨rfl, Below.refl _ _⟩
  · have HY : Hid (y = if o && q then .normal else .report) := hide (by rw [← hy, refuseW, if_neg h4, hq])
    clear hy hq
    cases o
    · go_enter Tryd.func28, Tryd.ntmps28
      go_wp2_with fail
      go_ret
      exact ⟨by rw [HY.out]; rfl, Below.refl _ _⟩
    · cases q
      all_goals
        go_enter Tryd.func28, Tryd.ntmps28
        go_wp2_with (go_at_call 50; refine (i_net HQ.out _ _ HOK.out HV.out).mono ?_; rintro e w1 ⟨rfl, hb1⟩; have HB1 := hide hb1; have kR := (HS.out.carry hb1).gR; clear hb1)
        go_ret
        exact ⟨by rw [HY.out]; rfl, HB1.out⟩
set_option maxHeartbeats 400000 in
theorem why_code {E : Errs} (y : Why) (hy : y ≠ .normal) (w : World) (hs : SentAt w E) :
    Calls Tryd.prog 53 #[whyV E y] w fun e w' => e = .returned (.int .i64 y.code) ∧ w' = w := by
  have HS := hide hs
  have hgL := hs.gL
  have hgN := hs.gN
  have hgM := hs.gM
  obtain ⟨cN, tN, bN⟩ := hs.bN
  obtain ⟨cL, tL, bL⟩ := hs.bL
  obtain ⟨cR, tR, bR⟩ := hs.bR
  obtain ⟨cM, tM, bM⟩ := hs.bM
  have HNL := hide (is_other E.aN E.aL _ _ _ _ w hs.nL bN bL)
  have HRL := hide (is_other E.aR E.aL _ _ _ _ w (Ne.symm hs.lR) bR bL)
  have HRN := hide (is_other E.aR E.aN _ _ _ _ w (Ne.symm hs.nR) bR bN)
  have HRM := hide (is_other E.aR E.aM _ _ _ _ w hs.rM bR bM)
  have HML := hide (is_other E.aM E.aL _ _ _ _ w (Ne.symm hs.lM) bM bL)
  have HMN := hide (is_other E.aM E.aN _ _ _ _ w (Ne.symm hs.nM) bM bN)
  clear bN bL bR bM hs HS
  obtain ⟨aN, aL, aR, aM⟩ := E
  simp only [] at *
  cases y
  · exact absurd rfl hy
  · unfold whyV
    go_enter Tryd.func53, Tryd.ntmps53
    go_wp2_with (first | (go_at_call_of 60 aL; refine HNL.out.mono ?_; rintro e w' ⟨rfl, rfl⟩) | (go_at_call 60; refine (is_same aN _).mono ?_; rintro e w' ⟨rfl, rfl⟩))
    go_ret
    exact ⟨rfl, rfl⟩
  · unfold whyV
    go_enter Tryd.func53, Tryd.ntmps53
    go_wp2_with (go_at_call 60; refine (is_same aL _).mono ?_; rintro e w' ⟨rfl, rfl⟩)
    go_ret
    exact ⟨rfl, rfl⟩
  · unfold whyV
    go_enter Tryd.func53, Tryd.ntmps53
    go_wp2_with (first | (go_at_call_of 60 aL; refine HRL.out.mono ?_; rintro e w' ⟨rfl, rfl⟩) | (go_at_call_of 60 aN; refine HRN.out.mono ?_; rintro e w' ⟨rfl, rfl⟩) | (go_at_call_of 60 aM; refine HRM.out.mono ?_; rintro e w' ⟨rfl, rfl⟩))
    go_ret
    exact ⟨rfl, rfl⟩
  · unfold whyV
    go_enter Tryd.func53, Tryd.ntmps53
    go_wp2_with (first | (go_at_call_of 60 aL; refine HML.out.mono ?_; rintro e w' ⟨rfl, rfl⟩) | (go_at_call_of 60 aN; refine HMN.out.mono ?_; rintro e w' ⟨rfl, rfl⟩) | (go_at_call 60; refine (is_same aM _).mono ?_; rintro e w' ⟨rfl, rfl⟩))
    go_ret
    exact ⟨rfl, rfl⟩
theorem nclone (s : ByteArray) (w : World) (hs : s.size ≤ 1048576) : Calls Tryd.prog 56 #[.string s] w fun e w' => e = .returned (.string s) ∧ Below w.heap.size w w' := by
  have HS := hide hs
  clear hs
  go_enter Tryd.func56, Tryd.ntmps56
  go_wp2_with (go_at_call 61; refine (Tryd.stringslite_Clone s _ (Nat.le_trans HS.out (by omega))).mono ?_; rintro e w1 ⟨rfl, hb1⟩; have HB1 := hide hb1; clear hb1)
  go_ret
  exact ⟨rfl, HB1.out⟩
set_option maxRecDepth 100000 in
set_option maxHeartbeats 400000 in
theorem own_msg (m : RMsg) (w : World) (hf : m.fit) :
    Calls Tryd.prog 39 #[m.val] w fun e w' => e = .returned m.val ∧ Below w.heap.size w w' := by
  have HF := hide hf
  unfold RMsg.val
  have hi : (Tryd.prog.info? 28).map (·.size) = some 4 := by
    obtain ⟨i0, hi, _, hz1, _⟩ := info_parts Tryd.infoRMsg
    rw [hi]; simp [hz1]
  have HI := hide hi
  clear hi hf
  go_enter Tryd.func39, Tryd.ntmps39
  go_wp2_with fail
  refine wp_region_tail 12 (by kernel_rfl) (by kernel_rfl) (fun W hW => ?_)
  simp only [List.take_succ_cons, List.take_zero, List.drop_succ_cons, List.drop_zero]
  have hne := grown_some W
  have HBW : Hid (Below w.heap.size w W) := hide (by rw [hW]; exact (malloc1 _ _).trans ((malloc1 _ _).mono (by simp)))
  have f0 := grown_cell (w := W) (b := w.heap.size) (o := 0) (v := .string m.frm) (by rw [hW]; simp)
  have f1 := grown_cell (w := W) (b := w.heap.size) (o := 1) (v := .string m.to) (by rw [hW]; simp)
  have f2 := grown_cell (w := W) (b := w.heap.size) (o := 2) (v := .string m.label) (by rw [hW]; simp)
  have f3 := grown_cell (w := W) (b := w.heap.size) (o := 3) (v := .int .i64 m.sort) (by rw [hW]; simp)
  have hlW : w.heap.size + 1 < W.heap.size := by rw [hW]; simp
  have HG : Hid (∀ o, o < 4 → (∃ y, W.cell? ⟨w.heap.size + 1, o, none⟩ = some y) ∧ W.frozen? ⟨w.heap.size + 1, o, none⟩ = false) := hide (fun o ho => by
    rw [hW]
    rcases o with _ | _ | _ | _ | o
    all_goals first | (exfalso; omega) | (constructor; exact ⟨_, by simp; rfl⟩; simp))
  clear hW
  repeat (go_big_quiet_step (first
    | (go_at_call_of 56 m.frm; exact grown_more (nclone _ _ HF.out.1))
    | (go_at_call_of 56 m.to; exact grown_more (nclone _ _ HF.out.2.1))
    | (go_at_call_of 56 m.label; exact grown_more (nclone _ _ HF.out.2.2))))
  refine wpQuiet_nil ?_
  intro w2 hw2
  have HB2 : Hid (Below w.heap.size w w2) := hide (HBW.out.trans (hw2.mono HBW.out.size))
  obtain ⟨⟨y0, c0⟩, z0⟩ := HG.out 0 (by omega)
  obtain ⟨⟨y1, c1⟩, z1⟩ := HG.out 1 (by omega)
  obtain ⟨⟨y2, c2⟩, z2⟩ := HG.out 2 (by omega)
  obtain ⟨⟨y3, c3⟩, z3⟩ := HG.out 3 (by omega)
  replace c0 := (hw2.cell (p := ⟨w.heap.size + 1, 0, none⟩) hlW).trans c0
  replace c1 := (hw2.cell (p := ⟨w.heap.size + 1, 1, none⟩) hlW).trans c1
  replace c2 := (hw2.cell (p := ⟨w.heap.size + 1, 2, none⟩) hlW).trans c2
  replace c3 := (hw2.cell (p := ⟨w.heap.size + 1, 3, none⟩) hlW).trans c3
  replace z0 := (hw2.frozen (p := ⟨w.heap.size + 1, 0, none⟩) hlW).trans z0
  replace z1 := (hw2.frozen (p := ⟨w.heap.size + 1, 1, none⟩) hlW).trans z1
  replace z2 := (hw2.frozen (p := ⟨w.heap.size + 1, 2, none⟩) hlW).trans z2
  replace z3 := (hw2.frozen (p := ⟨w.heap.size + 1, 3, none⟩) hlW).trans z3
  clear hw2 hne f0 f1 f2 f3 HG
  go_wp2_with fail
  obtain ⟨W3, hW3⟩ : ∃ W3, W3 = putMsg w2 (w.heap.size + 1) 0 m := ⟨_, rfl⟩
  have hAt : RMsgAt W3 (w.heap.size + 1) 0 m := by
    rw [hW3]
    refine putMsg_at _ _ _ _ (fun i hi => ?_)
    rcases i with _ | _ | _ | _ | i
    · exact ⟨_, c0⟩
    · exact ⟨_, c1⟩
    · exact ⟨_, c2⟩
    · exact ⟨_, c3⟩
    · omega
  have hB3 : Below w.heap.size w W3 := by
    rw [hW3]
    exact putMsg_below HB2.out (by omega) _ _
  have hgo : W3 = ((((w2.setCell ⟨w.heap.size + 1, 0, none⟩ (.string m.frm)).setCell ⟨w.heap.size + 1, 1, none⟩ (.string m.to)).setCell ⟨w.heap.size + 1, 2, none⟩ (.string m.label)).setCell ⟨w.heap.size + 1, 3, none⟩ (.int .i64 m.sort)) := hW3
  rw [← hgo]
  obtain ⟨r0, r1, r2, r3⟩ := hAt
  clear hW3 hgo c0 c1 c2 c3 z0 z1 z2 z3
  refine bodyPost_ret_by (v := .agg #[.string m.frm, .string m.to, .string m.label, .int .i64 m.sort]) ?_ rfl ⟨rfl, hB3⟩
  unfold results
  go_simp
end Go.Proofs.YtonafcifolddjaaDoor
