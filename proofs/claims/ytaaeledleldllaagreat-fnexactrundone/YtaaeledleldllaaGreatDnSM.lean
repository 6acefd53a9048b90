/- RunDone of the specification. -/
import Derived.Test.YtaaeledleldllaaGreatQB50
import Derived.Test.YtaaeledleldllaaGreatQD00
import Derived.Deep.RegionHeld3
namespace Go.Proofs.YtaaeledleldllaaGreat
open Go.RowKit

set_option maxRecDepth 100000 in
set_option maxHeartbeats 600000 in
theorem s_runDone (r : Rn) (p : Pn 10) (d : Bool) (hd : DnIs r p d) (v : Value) (w : World) (hf : r.fit) (hv : RnAt w v r) :
    Calls Tryz.prog 24 #[v] w fun e w' => e = .returned (.bool d) ∧ Below w.heap.size w w' := by
  obtain ⟨b, hb, hdb⟩ := hd
  have HF := hide hf
  have HB := hide hb
  have HD := hide hdb
  obtain ⟨pa, pc, sa, sc, na, nc, rfl, h1, h2, h3⟩ := hv.at_
  have HRR : Hid (∀ W, Below w.heap.size w W → Calls Tryz.prog 14 #[.agg #[.slice pa r.plan.length pc, .slice sa r.states.length sc, .slice na r.net.length nc, .int .i64 r.steps]] W fun e w' => e = .returned (.bool b) ∧ Below W.heap.size W w') := hide (fun W hW => s_runRight r b (rnP_is hb) _ W hf (hv.carry hW))
  obtain ⟨C, hC⟩ : ∃ C, C = rnC (.slice pa r.plan.length pc) (.slice sa r.states.length sc) (.slice na r.net.length nc) r.steps := ⟨_, rfl⟩
  have HS2 : Hid (∀ w1, Below (w.heap.size + 1) (w.alloc (.cells C.toArray 37)) w1 → SlAt w1 w1.heap.size (.slice pa r.plan.length pc) r.plan ∧ NumSl w1 w1.heap.size (.slice sa r.states.length sc) r.states ∧ BoxL w1 w.heap.size C ∧ Below w.heap.size w w1) := hide (fun w1 hb => by
    have hb' : Below (w.alloc (.cells C.toArray 37)).heap.size (w.alloc (.cells C.toArray 37)) w1 := by simpa using hb
    have hb2 : Below w.heap.size w w1 := (malloc1 _ _).trans (hb'.mono (by simp))
    exact ⟨(h1.carry hb2).up hb2.size, h2.on hb2, (BoxL.new w C _).keep (below_apart hb') (by simp), hb2⟩)
  have HT : Hid (∀ (w1 w2 : World), Below (w.heap.size + 1) (w.alloc (.cells C.toArray 37)) w1 → Below w1.heap.size w1 w2 → Below (w.heap.size + 1) (w.alloc (.cells C.toArray 37)) w2) := hide (fun w1 w2 h1 h2 => h1.trans (h2.mono (by have := h1.size; simpa using this)))
  have hsl : r.states.length ≤ 1048576 := hf.2.1
  have hC2 : rnV (.slice pa r.plan.length pc) (.slice sa r.states.length sc) (.slice na r.net.length nc) r.steps = .agg C.toArray := by rw [hC]; rfl
  rw [hC2]
  clear h1 h2 h3 hv hf hC2 hb hdb
  subst hC
  unfold rnC at *
  cases b
  · go_enter Tryz.func24, Tryz.ntmps24
    go_wp2_with (go_at_call 14; refine (HRR.out _ (malloc1 _ _)).mono ?_; rintro e w1 ⟨rfl, hb1⟩; have HW1 := hide (HT.out _ _ (Below.refl _ _) hb1); clear hb1)
    go_ret
    exact ⟨ret_bool (by rw [HD.out]; rfl), (HS2.out _ HW1.out).2.2.2⟩
  · obtain ⟨hsp, hst, hlen, h36⟩ := rn_sts HB.out
    have HSP := hide hsp
    have HST := hide hst
    have HLEN := hide hlen
    have HL4 := hide (right_roles hsp.right)
    clear hst hsp hlen
    by_cases hz : r.net.length = 0
    · have HDD : Hid (d = endsB ((rolesS r.plan).map (machOf p)) r.states) := hide (by rw [HD.out, decide_eq_true hz, Bool.and_true, Bool.true_and])
      obtain ⟨rs, hrs⟩ : ∃ rs, rolesS r.plan = rs := ⟨_, rfl⟩
      have HALL : Hid (∀ W, Below (w.heap.size + 1) (w.alloc (.cells [.slice pa r.plan.length pc, .slice sa r.states.length sc, .slice na r.net.length nc, .int .i64 r.steps].toArray 37)) W → Calls Tryz.prog 43 #[.slice pa r.plan.length pc] W fun e w' => ∃ rv mv us, e = .returned (.tuple #[rv, mv]) ∧ STexts w' rv rs ∧ MSRow w' W.heap.size mv us ∧ us.map MU.m = rs.map (machOf p) ∧ Below W.heap.size W w') := hide (fun W hW => by rw [← hrs]; exact s_l06All HSP.out _ W (HS2.out W hW).1)
      rw [hrs] at HDD HST HLEN HL4
      have hl4 : rs.length ≤ 4 := HL4.out
      rw [hz] at HS2 HT HALL HRR ⊢
      clear hrs hz h36
      go_enter Tryz.func24, Tryz.ntmps24
      go_wp2_with (first
        | (go_at_call 43; refine (HALL.out _ HW1.out).mono ?_; rintro e w4 ⟨rv, mv, us, rfl, ht4, hrow4, hum4, hb4⟩; obtain ⟨tb, to, tc, rfl, -⟩ := ht4; have HROW := hide hrow4; have HUM := hide hum4; have HW4 := hide (HT.out _ _ HW1.out hb4); obtain ⟨pm, cm, hpm⟩ := owns_shape hrow4.own; subst hpm; have X4 := (HS2.out _ HW4.out).2.2.1; have v1 := X4.cell 1 _ rfl; clear hrow4 hum4 hb4 X4)
        | (go_at_call 14; refine (HRR.out _ (malloc1 _ _)).mono ?_; rintro e w1 ⟨rfl, hb1⟩; have HW1 := hide (HT.out _ _ (Below.refl _ _) hb1); have X1 := (HS2.out _ HW1.out).2.2.1; have x0 := X1.cell 0 _ rfl; have x2 := X1.cell 2 _ rfl; clear hb1 X1))
      have HUS : Hid (us.length = rs.length) := hide (by have := congrArg List.length HUM.out; simpa using this)
      have hul4 : us.length ≤ 4 := by have := HUS.out; omega
      go_loopw [5] (fun i wr => ∃ k : Nat, k ≤ us.length ∧ i = .int .i64 k ∧ (∀ j (h : j < us.length) (h2 : j < r.states.length), j < k → endK us[j].m r.states[j] = true) ∧ Below w4.heap.size w4 wr) (fun i _ => us.length - (intOf i).toNat)
      case atStart => exact ⟨0, Nat.zero_le _, rfl, fun j _ _ h => absurd h (by omega), Below.refl _ _⟩
      case round =>
        obtain ⟨k, hk, rfl, hall, hbel⟩ := hrel
        have HA := hide hall
        have HBEL := hide hbel
        have HWR := hide (HT.out _ _ HW4.out hbel)
        have v1r := (HS2.out _ HWR.out).2.2.1.cell 1 _ rfl
        clear hall hbel
        by_cases hlt : k < us.length
        · obtain ⟨g, c, hpm, hcc, hcells⟩ := mrow_get HROW.out (fun u => rfl) hlt
          injection hpm with e1 e2 e3
          subst e1
          clear e2 e3
          have hks : k < r.states.length := by rw [HLEN.out, ← HUS.out]; exact hlt
          obtain ⟨ao, cap, es, hsc, -, hsr⟩ := (HS2.out _ HWR.out).2.1
          injection es with f1 f2 f3
          obtain ⟨sb, so, hsa, hsb, hnums⟩ := hsr (by intro h; rw [h] at hks; simp at hks)
          rw [hsa] at f1
          subst f1
          have hsc' : r.states.length ≤ sc := by rw [← f3] at hsc; exact hsc
          clear f2 f3 hsa
          have n0 := hnums k hks
          have hok := HROW.out.ok us[k] (List.getElem_mem hlt)
          have hgm : (rs.map (machOf p))[k]? = some us[k].m := by rw [← HUM.out, List.getElem?_map, List.getElem?_eq_getElem hlt]; rfl
          have hsto : stOk us[k].m r.states[k] = true := by
            have hkl : k < (rs.map (machOf p)).length := (List.getElem?_eq_some_iff.1 hgm).1
            obtain ⟨_, h5⟩ := sts_get HST.out hkl
            rwa [(List.getElem?_eq_some_iff.1 hgm).2] at h5
          obtain ⟨s, hsx, hss, hek⟩ := st_get hsto
          rw [hss] at n0
          have HNO : Hid (endK us[k].m r.states[k] = false → endsB (rs.map (machOf p)) r.states = false) := hide (fun h => ends_no (k := k) hgm (List.getElem?_eq_getElem hks) h)
          have HEN : Hid (∀ j (h : j < us.length) (h2 : j < r.states.length), j < k + 1 → endK us[k].m r.states[k] = true → endK us[j].m r.states[j] = true) := hide (fun j h h2 hj hh => by
            by_cases e : j = k
            · subst e; exact hh
            · exact HA.out j h h2 (by omega))
          have m0 := (HBEL.out.cell (p := ⟨g, _, none⟩) (World.block_lt_of_cell? w4 _ (hcells 0 _ rfl))).trans (hcells 0 _ rfl)
          obtain ⟨sv', ev', e, hst, -⟩ := hok.at_
          unfold MU.val at e
          injection e with e
          injection e with e
          injection e with e1 e2
          simp only [id] at e1 hst
          rw [← e1] at hst
          obtain ⟨ao2, cap2, es2, hc2, hm2, hr2⟩ := hst
          obtain ⟨tb2, to2, hta, htb, htr⟩ := hr2 (by intro h; rw [h] at hsx; simp at hsx)
          subst hta
          obtain ⟨x0', -⟩ := htr.get s hsx
          have y0 := (HBEL.out.cell (p := ⟨tb2, to2 + s * 2, none⟩) htb).trans x0'
          replace m0 : wr.cell? ⟨g, k * 3, none⟩ = some (.slice (some ⟨tb2, to2, none⟩) us[k].m.states.length cap2) := m0.trans (congrArg some es2)
          obtain ⟨x, hx⟩ : ∃ x, x = us[k].m.states[s] := ⟨_, rfl⟩
          obtain ⟨L, hL⟩ : ∃ L, L = us[k].m.states.length := ⟨_, rfl⟩
          rw [← hx] at y0 hek
          rw [← hL] at hsx hc2 hm2 m0
          rw [hek] at HNO HEN
          obtain ⟨q5, hq5⟩ : ∃ q, (x.kind == 0) = q := ⟨_, rfl⟩
          rw [hq5] at HNO HEN
          clear hx hL e1 e2 es2 hr2 htr hok hnums hsr hcells hss hek hsto hgm x0'
          have hkr : k < rs.length := by have := HUS.out; omega
          cases q5
          · have hne : ¬ x.kind = 0 := by simpa using hq5
            replace HNO := hide (HNO.out rfl)
            go_wp2_with fail
            go_region_held3 (fun w' => w'.cell? ⟨g, k * 3, none⟩ = some (.slice (some ⟨tb2, to2, none⟩) L cap2) ∧ w'.cell? ⟨w.heap.size, 1, none⟩ = some (.slice (some ⟨sb, so, none⟩) r.states.length sc) ∧ w'.cell? ⟨sb, so + k, none⟩ = some (.int .i64 s) ∧ w'.cell? ⟨tb2, to2 + s * 2, none⟩ = some (.int .i64 x.kind)) (go_keep) (first | fail)
            all_goals
              go_wp2_with fail
              go_ret
              exact ⟨ret_bool (HDD.out.trans HNO.out), (HS2.out _ HWR.out.drew).2.2.2⟩
          · have he : x.kind = 0 := by simpa using hq5
            rw [he] at y0
            replace HEN := hide (fun j h h2 hj => HEN.out j h h2 hj rfl)
            go_wp2_with fail
            go_region_held3 (fun w' => w'.cell? ⟨g, k * 3, none⟩ = some (.slice (some ⟨tb2, to2, none⟩) L cap2) ∧ w'.cell? ⟨w.heap.size, 1, none⟩ = some (.slice (some ⟨sb, so, none⟩) r.states.length sc) ∧ w'.cell? ⟨sb, so + k, none⟩ = some (.int .i64 s) ∧ w'.cell? ⟨tb2, to2 + s * 2, none⟩ = some (.int .i64 0)) (go_keep) (first | fail)
            all_goals
              go_wp2_with fail
              go_roundw
              case rel => exact ⟨k + 1, hlt, by go_num, fun j h h2 hj => HEN.out j h h2 hj, HBEL.out.drew⟩
              case measure => simp [intOf]; omega
        · have hfin : endsB (rs.map (machOf p)) r.states = true := by
            refine ends_all (by rw [List.length_map]; exact HLEN.out) (fun j hj => ?_)
            rw [List.length_map] at hj
            have h1 : j < us.length := by rw [HUS.out]; exact hj
            have h2 : j < r.states.length := by rw [HLEN.out]; exact hj
            have h3 := HA.out j h1 h2 (by omega)
            have h4 : (rs.map (machOf p))[j]? = some us[j].m := by rw [← HUM.out, List.getElem?_map, List.getElem?_eq_getElem h1]; rfl
            rw [(List.getElem?_eq_some_iff.1 h4).2]
            exact h3
          have HFIN := hide (HDD.out.trans hfin)
          clear hfin
          go_wp2_with fail
          go_ret
          exact ⟨ret_bool HFIN.out, (HS2.out _ HWR.out).2.2.2⟩
    · have HDD : Hid (d = false) := hide (by rw [HD.out, decide_eq_false hz, Bool.and_false, Bool.and_false])
      have hzi : (0 : Int) < (r.net.length : Int) := by omega
      go_enter Tryz.func24, Tryz.ntmps24
      go_wp2_with (go_at_call 14; refine (HRR.out _ (malloc1 _ _)).mono ?_; rintro e w1 ⟨rfl, hb1⟩; have HW1 := hide (HT.out _ _ (Below.refl _ _) hb1); have X1 := (HS2.out _ HW1.out).2.2.1; have x0 := X1.cell 0 _ rfl; have x2 := X1.cell 2 _ rfl; clear hb1 X1)
      go_ret
      exact ⟨ret_bool HDD.out, (HS2.out _ HW1.out).2.2.2⟩
end Go.Proofs.YtaaeledleldllaaGreat
