import Derived.Test.YtaaeledleldllaaGreatQB51
import Derived.Test.YtaaeledleldllaaGreatQD00
import Derived.Deep.RegionHeld3
namespace Go.Proofs.YtaaeledleldllaaGreat
open Go.RowKit

set_option maxRecDepth 100000 in
set_option maxHeartbeats 2000000 in
theorem state_of {r : Rn} {xs : List PU} (w : World) (base cb : Nat) (pv sv nv qv ev : Value) (st : Int) (hsl : r.states.length ≤ 1048576) (h : CoAt w base cb pv sv nv qv ev st r xs) (k s : Nat) (hk : k < xs.length) (hks : k < r.states.length) (hs : r.states[k] = (s : Int)) (hsx : s < xs[k].u.m.states.length) :
    Calls Tryz.prog 100 #[.pointer (some ⟨cb, 0, none⟩), .int .i64 k] w fun e w' => e = .returned (xs[k].u.m.states[s]).val ∧ Below w.heap.size w w' := by
  obtain ⟨pa, pc, rfl⟩ := owns_shape h.plan
  obtain ⟨sa, sc, rfl⟩ := owns_shape h.sts
  obtain ⟨na, nc, rfl⟩ := owns_shape h.net
  have d1 := h.box.cell 1 _ rfl
  have hcb := h.box.lt
  obtain ⟨g, c, hpm, hcc, hcells⟩ := mrow_get h.row (fun u => rfl) hk
  subst hpm
  have d4 := h.box.cell 4 _ rfl
  obtain ⟨ao, cap, es, hsc, -, hsr⟩ := h.sts.sl (by omega)
  injection es with f1 f2 f3
  obtain ⟨sb, so, hsa, hsb, hnums⟩ := hsr (by intro h; rw [h] at hks; simp at hks)
  rw [hsa] at f1
  subst f1
  have n0 := hnums k hks
  rw [hs] at n0
  have hok := h.row.ok xs[k] (List.getElem_mem hk)
  have m1 := hcells 1 _ rfl
  have hgb := World.block_lt_of_cell? w _ m1
  obtain ⟨sv', ev', e, hst, -⟩ := hok.at_
  unfold MU.val at e
  injection e with e
  injection e with e
  injection e with e1 e2
  rw [← e1] at hst
  obtain ⟨ao2, cap2, es2, hc2, hm2, hr2⟩ := hst
  obtain ⟨tb, to, hta, htb, htr⟩ := hr2 (by intro h; rw [h] at hsx; simp at hsx)
  subst hta
  obtain ⟨x0, x1⟩ := htr.get s hsx
  have m1' : w.cell? ⟨g, k * 4 + 1, none⟩ = some (.slice (some ⟨tb, to, none⟩) xs[k].u.m.states.length cap2) := m1.trans (congrArg some es2)
  exact state_raw _ w cb g sb so tb to xs.length c r.states.length sc xs[k].u.m.states.length cap2 k s hk hks hsx hcb d1 d4 m1' n0 x0 x1
end Go.Proofs.YtaaeledleldllaaGreat
namespace Go.Proofs.YtaaeledleldllaaGreat
open Go.RowKit

set_option maxRecDepth 100000 in
set_option maxHeartbeats 2000000 in
theorem done_is {q : Bool} {r : Rn} {xs : List PU} (hq : (endsB (xs.map fun x => x.u.m) r.states && decide (r.net.length = 0)) = q) (w : World) (base cb : Nat) (pv sv nv qv ev : Value) (st : Int) (hl : xs.length ≤ 4) (hsl : r.states.length ≤ 1048576) (hst : stsB (xs.map fun x => x.u.m) r.states = true) (h : CoAt w base cb pv sv nv qv ev st r xs) :
    Calls Tryz.prog 60 #[.pointer (some ⟨cb, 0, none⟩)] w fun e w' => e = .returned (.bool q) ∧ Below w.heap.size w w' := by
  have HQ := hide hq
  have hlen : r.states.length = xs.length := by
    unfold stsB at hst
    rw [Bool.and_eq_true, decide_eq_true_eq, List.length_map] at hst
    exact hst.1
  have HLEN := hide hlen
  have HK : Hid (∀ k (hk : k < xs.length) (hks : k < r.states.length), ∃ x : RState, endK xs[k].u.m r.states[k] = (x.kind == 0) ∧ ∀ W, Below w.heap.size w W → Calls Tryz.prog 100 #[.pointer (some ⟨cb, 0, none⟩), .int .i64 k] W fun e w' => e = .returned x.val ∧ Below W.heap.size W w') := hide (fun k hk hks => by
    obtain ⟨hs2, hok⟩ := sts_get hst (k := k) (by rw [List.length_map]; exact hk)
    rw [List.getElem_map] at hok
    obtain ⟨s, hsx, es, ek⟩ := st_get hok
    exact ⟨_, ek, fun W hW => state_of W base cb pv sv nv qv ev st hsl (h.below hW) k s hk hks es hsx⟩)
  obtain ⟨pa, pc, rfl⟩ := owns_shape h.plan
  obtain ⟨sa, sc, rfl⟩ := owns_shape h.sts
  obtain ⟨na, nc, rfl⟩ := owns_shape h.net
  obtain ⟨qa, qc, rfl⟩ := owns_shape h.row.own
  have d2 := h.box.cell 2 _ rfl
  have d4 := h.box.cell 4 _ rfl
  have HLT := hide h.box.lt
  clear hq h hst hlen
  go_enter Tryz.func60, Tryz.ntmps60
  go_wp2_with fail
  go_loopw [9] (fun i wr => ∃ k : Nat, k ≤ xs.length ∧ i = .int .i64 k ∧ (∀ j (h : j < xs.length) (h2 : j < r.states.length), j < k → endK xs[j].u.m r.states[j] = true) ∧ Below w.heap.size w wr) (fun i _ => xs.length - (intOf i).toNat)
  case atStart => exact ⟨0, Nat.zero_le _, rfl, fun j _ _ h => absurd h (by omega), Below.refl _ _⟩
  case round =>
    obtain ⟨k, hk, rfl, hall, hbel⟩ := hrel
    have HA := hide hall
    have HBEL := hide hbel
    clear hall hbel
    by_cases hlt : k < xs.length
    · have hks : k < r.states.length := by rw [HLEN.out]; exact hlt
      obtain ⟨x, hx, hcall⟩ := HK.out k hlt hks
      have HNO : Hid (endK xs[k].u.m r.states[k] = false → endsB (xs.map fun x => x.u.m) r.states = false) := hide (fun h => by
        refine ends_no (k := k) (m := xs[k].u.m) (s := r.states[k]) ?_ (List.getElem?_eq_getElem hks) h
        rw [List.getElem?_map, List.getElem?_eq_getElem hlt]
        rfl)
      have HST : Hid (∀ j (h : j < xs.length) (h2 : j < r.states.length), j < k + 1 → endK xs[k].u.m r.states[k] = true → endK xs[j].u.m r.states[j] = true) := hide (fun j h h2 hj hh => by
        by_cases e : j = k
        · subst e; exact hh
        · exact HA.out j h h2 (by omega))
      have HC := hide hcall
      obtain ⟨q5, hq5⟩ : ∃ q, (x.kind == 0) = q := ⟨_, rfl⟩
      rw [hx, hq5] at HNO HST
      have HQ5 := hide hq5
      clear hq5 hx hcall
      unfold RState.val at HC
      cases q5
      · replace HNO := hide (HNO.out rfl)
        go_wp2_with (first
          | (go_at_call 99; refine (is_end (x := x) HQ5.out _).mono ?_; rintro e w7 ⟨rfl, hb7⟩; have HB7 := hide hb7; clear hb7)
          | (go_at_call 100; refine (HC.out _ HBEL.out).mono ?_; rintro e w6 ⟨rfl, hb6⟩; have HB6 : Hid (Below w.heap.size w w6) := hide (HBEL.out.trans (hb6.mono HBEL.out.size)); clear hb6))
        go_ret
        exact ⟨ret_bool (HQ.out.symm.trans (by rw [HNO.out]; rfl)), HB6.out.trans (HB7.out.mono HB6.out.size)⟩
      · replace HST := hide (fun j h h2 hj => HST.out j h h2 hj rfl)
        go_wp2_with (first
          | (go_at_call 99; refine (is_end (x := x) HQ5.out _).mono ?_; rintro e w7 ⟨rfl, hb7⟩; have HB7 := hide hb7; clear hb7)
          | (go_at_call 100; refine (HC.out _ HBEL.out).mono ?_; rintro e w6 ⟨rfl, hb6⟩; have HB6 : Hid (Below w.heap.size w w6) := hide (HBEL.out.trans (hb6.mono HBEL.out.size)); clear hb6))
        go_roundw
        case rel => exact ⟨k + 1, hlt, by go_num, fun j h h2 hj => HST.out j h h2 hj, HB6.out.trans (HB7.out.mono HB6.out.size)⟩
        case measure => simp [intOf]; omega
    · have hfin : endsB (xs.map fun x => x.u.m) r.states = true := by
        refine ends_all (by rw [List.length_map]; exact HLEN.out) (fun j hj => ?_)
        rw [List.length_map] at hj
        have h2 : j < r.states.length := by rw [HLEN.out]; exact hj
        have h3 := HA.out j hj h2 (by omega)
        rw [List.getElem_map]
        exact h3
      have HFIN : Hid (q = decide (r.net.length = 0)) := hide (by rw [← HQ.out, hfin, Bool.true_and])
      clear hfin
      have d2r := (HBEL.out.cell (p := ⟨cb, 2, none⟩) HLT.out).trans d2
      by_cases hz : r.net.length = 0
      · rw [hz] at d2r HFIN
        go_wp2_with fail
        go_ret
        exact ⟨ret_bool (by rw [HFIN.out]; simp), HBEL.out⟩
      · go_wp2_with fail
        go_ret
        exact ⟨ret_bool (by rw [HFIN.out]; simp [hz]; try omega), HBEL.out⟩
theorem i_runDone (r : Rn) (p : Pn 10) (d : Bool) (hd : DnIs r p d) (v : Value) (w : World) (hf : r.fit) (hv : RnAt w v r) :
    Calls Tryz.prog 25 #[v] w fun e w' => e = .returned (.bool d) ∧ Below w.heap.size w w' := by
  obtain ⟨b, hb, hdb⟩ := hd
  have HV := hide hv
  have HF := hide hf
  have HB := hide hb
  have HD := hide hdb
  have hsl : r.states.length ≤ 1048576 := hf.2.1
  obtain ⟨pa, pc, sa, sc, na, nc, rfl, h1, h2, h3⟩ := hv.at_
  clear h1 h2 h3 hv hf hb hdb
  unfold rnV rnC at *
  cases b
  · go_enter Tryz.func25, Tryz.ntmps25
    go_wp2_with (go_at_call 48; refine (i_courseOf r p false HB.out _ _ HF.out (HV.out.carry (malloc1 _ _))).mono ?_; rintro e w1 ⟨pt, rfl, hb1, -⟩; have HB1 := hide hb1; clear hb1)
    go_ret
    exact ⟨ret_bool (by rw [HD.out]; rfl), (malloc1 _ _).trans (HB1.out.mono (by simp))⟩
  · obtain ⟨hsp, hst, -, -⟩ := rn_sts HB.out
    have HST := hide hst
    have HL4 := hide (right_roles hsp.right)
    clear hst hsp
    go_enter Tryz.func25, Tryz.ntmps25
    go_wp2_with (first
      | (go_at_call 60; refine (done_is (q := d) (by rw [HN.out.2]; exact HD.out.symm) _ _ _ _ _ _ _ _ _ (by have := congrArg List.length HN.out.1; simp only [List.length_map] at this; have := HL4.out; omega) hsl (by rw [HN.out.2]; exact HST.out) HCO.out).mono ?_; rintro e w2 ⟨rfl, hb2⟩; have HB2 := hide hb2; clear hb2)
      | (go_at_call 48; refine (i_courseOf r p true HB.out _ _ HF.out (HV.out.carry (malloc1 _ _))).mono ?_; rintro e w1 ⟨pt, rfl, hb1, hco⟩; have HB1 := hide hb1; obtain ⟨xs, hco⟩ := hco rfl; have HN := hide (And.intro hco.roles hco.machs); obtain ⟨L, cb, pv, sv, nv, qv, rfl, hca, -⟩ := hco.at_; have HCO := hide hca; clear hb1 hco hca))
    go_ret
    exact ⟨ret_bool rfl, (malloc1 _ _).trans ((HB1.out.trans (HB2.out.mono HB1.out.size)).mono (by simp))⟩
end Go.Proofs.YtaaeledleldllaaGreat
