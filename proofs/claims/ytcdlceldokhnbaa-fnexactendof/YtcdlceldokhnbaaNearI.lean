/- nearest: how few edges lead from a state to an end. -/
import Derived.Test.YtcdlceldokhnbaaLeaveI
import Derived.Test.YtcdlceldokhnbaaMachE
import Derived.Test.YtcdlceldokhnbaaEndS
import Derived.WalkMore
import Derived.Deep.LoopGhost
namespace Go.Proofs.Ytcdlceldokhnbaa
open Go.RowKit Go.Maps
attribute [local go_sem ↓] Go.wp_at_zero Go.wp_at_succ

theorem cell_not_map {w : World} {b o bs n : Nat} {x : Value} {m : Mach} {es : List REdge} (hc : w.cell? ⟨bs, o, none⟩ = some x) (hm : GraphAt w m es b n) : bs ≠ b := by
  rintro rfl
  obtain ⟨D, ⟨es', clock, hb, -⟩, -⟩ := hm
  simp [World.cell?, hb] at hc
def noEndTo (m : Mach) (R : List Int) (i : Nat) : Prop := ∀ j, j < i → ∀ x, R[j]? = some x → kindAt m x ≠ 0
set_option maxRecDepth 100000 in
set_option maxHeartbeats 1000000 in
theorem graph_nearest (m : Mach) (s : Int) (b : Nat) (sv : Value) (w : World) (hm : machB m = true) (hf : m.fit) (hG : GraphAt w m m.edges b m.edges.length) (hS : RStateSl w w.heap.size sv m.states) (h0 : 0 ≤ s) (h1 : s < (m.states.length : Int)) :
    Calls Try.prog 95 #[.agg #[sv, .map (some b)], .int .i64 s, .func (.func 96) #[] #[]] w fun e w' => ∃ r, e = .returned (.int .i64 r) ∧ EndAns m s r ∧ Apart w w' [b] := by
  have h40 := mach_40 hm
  have h80 := mach_80 hm
  have HED : Hid (∀ e ∈ m.edges, 0 ≤ e.dst ∧ e.dst < (m.states.length : Int)) := hide (fun e he => by have := edge_bounds hm he; omega)
  have HP := hide (And.intro hm hf)
  have HB0 := hide (bfs_start h80 h0 h1)
  obtain ⟨sa, sc, rfl, hs1, hs2, hs3⟩ := hS
  obtain ⟨bs, os, rfl, hbs, hrow⟩ := hs3 (by intro h; simp [h] at h40)
  have hst0 := (hrow.get 0 (by omega)).1
  have hbb : bs ≠ b := cell_not_map hst0 hG
  have HROW := hide hrow
  have HG := hide hG
  have hblt : b < w.heap.size := by obtain ⟨_, h, _⟩ := hG; exact h.lt
  clear hm hf hG hs3 hrow hst0
  go_enter Try.func95, Try.ntmps95
  go_wp2_with fail
  go_step3
  go_wp2_with fail
  go_step3
  go_wp2_with fail
  refine wp_named (fun W1 hW1 => ?_)
  have b0 : W1.cell? ⟨w.heap.size, 0, none⟩ = some (.slice (some ⟨bs, os, none⟩) m.states.length sc) := by rw [hW1]; simp
  have b1 : W1.cell? ⟨w.heap.size, 1, none⟩ = some (.map (some b)) := by rw [hW1]; simp
  have hz1 : w.heap.size + 1 < W1.heap.size := by rw [hW1]; simp
  have HA1 : Hid (Apart w W1 []) := hide (by rw [hW1]; exact below_apart (balloc2 _ _ _))
  have HO1 : Hid (W1.ownsRow (w.heap.size + 1) 2 1 (.slice (some ⟨w.heap.size + 1, 0, none⟩) 1 1) 1 (intV [s])) := hide (by
    rw [hW1]
    exact ⟨rfl, .inr ⟨w.heap.size + 1, 1, #[.int .i64 s], rfl, Nat.le_refl _, by have := mheap_new (w.alloc (.cells #[.slice (some ⟨bs, os, none⟩) m.states.length sc, .map (some b)] 124)) (.cells #[.int .i64 s] 2) (w.heap.size + 1) (by simp); simpa using this, Nat.le_refl _, by unfold maxLen; omega, rfl, rfl⟩⟩)
  have HG1 : Hid (GraphAt W1 m m.edges b m.edges.length) := hide (HG.out.keep HA1.out (by simp))
  clear hW1
  go_loopw [7, 8] (fun reached steps wr => ∃ (k : Nat) (R : List Int) (E : List REdge), steps = .int .i64 k ∧ R.length ≤ 80 ∧ wr.ownsRow (w.heap.size + 1) 2 1 reached R.length (intV R) ∧ Bfs m s k E R ∧ GraphAt wr m E b m.edges.length ∧ Apart W1 wr [b]) (fun _ st _ => 200 - (intOf st).toNat)
  case atStart => exact ⟨0, [s], m.edges, rfl, by simp, HO1.out, HB0.out, HG1.out, ⟨rfl, rfl, rfl, Nat.le_refl _, fun _ _ _ => rfl⟩⟩
  case round =>
    obtain ⟨k, R, E, rfl, hR80, hown, hbfs, hgr, hap⟩ := hrel
    obtain ⟨W2, rfl⟩ : ∃ W2, W2 = wr := ⟨_, rfl⟩
    have HOWN := hide hown
    have HBFS := hide hbfs
    have HGR := hide hgr
    have HAP := hide hap
    have hsmall := hbfs.small
    have c0 := hap.cell' b0 (by simp; omega)
    have c1 := hap.cell' b1 (by simp; omega)
    have hszr := hap.size
    have HSTS : Hid (RStates W2 bs os m.states) := hide (HROW.out.block ((hap.block bs (by omega) (by simpa using hbb)).trans (HA1.out.block bs hbs (by simp))))
    obtain ⟨p, cp, rfl⟩ := owns_shape hown
    clear hown hbfs hgr hap
    by_cases hne : 0 < R.length
    · obtain ⟨g, rfl, hg1, hg2⟩ := owns_addr HOWN.out hne
      have hne0 : ¬ ((R.length : Int) = 0) := by omega
      have hne1 : (0 : Int) < (R.length : Int) := by omega
      go_wp2_with fail
      go_loopw [18] (fun i wi => ∃ j : Nat, j ≤ R.length ∧ i = .int .i64 j ∧ noEndTo m R j ∧ Below W2.heap.size W2 wi) (fun i _ => R.length - (intOf i).toNat)
      case atStart => exact ⟨0, Nat.zero_le _, rfl, fun j hj => by omega, Below.refl _ _⟩
      case round =>
        obtain ⟨j, hj, rfl, hno, hbel⟩ := hrel
        have HNO := hide hno
        have HBEL := hide hbel
        have e0 := (hbel.cell (p := ⟨w.heap.size, 0, none⟩) (by show w.heap.size < _; omega)).trans c0
        have e1 := (hbel.cell (p := ⟨w.heap.size, 1, none⟩) (by show w.heap.size < _; omega)).trans c1
        have hszi := hbel.size
        clear hno hbel
        by_cases hjl : j < R.length
        · obtain ⟨x, hx⟩ : ∃ x, R[j] = x := ⟨_, rfl⟩
          have hmem : x ∈ R := by rw [← hx]; exact List.getElem_mem hjl
          obtain ⟨hx0, hx1⟩ := HBFS.out.inR x hmem
          have hcx : wr.cell? ⟨g, j, none⟩ = some (.int .i64 x) := owns_cell (owns_below HOWN.out HBEL.out) rfl j _ (by simp [intV, hjl, hx])
          have hxl : x.toNat < m.states.length := by omega
          have hst := HSTS.out.get x.toNat hxl
          obtain ⟨st, hst'⟩ : ∃ st, m.states[x.toNat] = st := ⟨_, rfl⟩
          rw [hst'] at hst
          have hbs2 : bs < W2.heap.size := by omega
          obtain ⟨s0, s1⟩ := hst.carry hbs2 HBEL.out
          obtain ⟨q, hq⟩ : ∃ q, (st.kind == 0) = q := ⟨_, rfl⟩
          have HQ := hide hq
          have HKA : Hid (kindAt m x = st.kind) := hide (by rw [kindAt, List.getElem?_eq_getElem hxl, hst'])
          have HMEM := hide hmem
          have HX : Hid (R[j]? = some x) := hide (by rw [List.getElem?_eq_getElem hjl, hx])
          clear hst hst' hq hx hmem
          cases q
          · go_wp2_with (go_at_call 96; refine (is_end (x := st) HQ.out _).mono ?_; rintro e w3 ⟨rfl, hb3⟩; have HB3 := hide hb3; clear hb3)
            go_roundw
            case rel =>
              refine ⟨j + 1, hjl, by go_num, fun i hi y hy => ?_, HBEL.out.trans (HB3.out.mono HBEL.out.size)⟩
              by_cases hij : i < j
              · exact HNO.out i hij y hy
              · obtain rfl : i = j := by omega
                rw [HX.out] at hy
                cases hy
                rw [HKA.out]
                have := HQ.out
                simpa using this
            case measure => simp [intOf]; omega
          · go_wp2_with (go_at_call 96; refine (is_end (x := st) HQ.out _).mono ?_; rintro e w3 ⟨rfl, hb3⟩; have HB3 := hide hb3; clear hb3)
            try rw [Exit.noGoto_ret]
            go_ret
            refine ⟨k, rfl, bfs_found HBFS.out HMEM.out (by rw [HKA.out]; have := HQ.out; simpa using this), ?_⟩
            exact (((HA1.out.weak (l := [b])).andThen HAP.out (fun k hk => .inr hk)).andThen (below_apart HBEL.out) (by simp)).andThen (below_apart HB3.out) (by simp)
        · obtain rfl : j = R.length := by omega
          go_wp2_with (go_at_call 136; refine (graph_leave m E R b m.edges.length _ _ _ _ _ _ HP.out.1 HP.out.2 HBFS.out.sub (HGR.out.keep (below_apart HBEL.out) (by simp)) h80 (owns_below HOWN.out HBEL.out) (by omega)).mono ?_; rintro e w3 ⟨v3, R3, rfl, hm3, hl3, ho3, hg3, ha3⟩; have H3 := hide (And.intro hm3 (And.intro ho3 (And.intro hg3 ha3))); clear hm3 ho3 hg3 ha3)
          go_roundw
          case rel =>
            have hno : ∀ t ∈ R, kindAt m t ≠ 0 := fun t ht => by
              obtain ⟨i, hi, rfl⟩ := List.getElem_of_mem ht
              exact HNO.out i hi _ (List.getElem?_eq_getElem hi)
            have hb := bfs_step HBFS.out hno HED.out (by intro h; simp [h] at hne) H3.out.1
            refine ⟨k + 1, R3, _, by go_num, hl3, ?_, hb, H3.out.2.2.1, ?_⟩
            · obtain ⟨h1, h2⟩ := H3.out.2.1
              exact ⟨h1, h2.imp id (fun ⟨g, c, cur, h3, h4, h5⟩ => ⟨g, c, cur, h3, by omega, h5⟩)⟩
            · exact (HAP.out.andThen (below_apart HBEL.out) (by simp)).andThen H3.out.2.2.2 (fun k hk => .inr hk)
          case measure => simp [intOf]; omega
    · obtain rfl : R = [] := List.length_eq_zero_iff.1 (by omega)
      go_wp2_with fail
      go_ret
      exact ⟨-1, rfl, bfs_none HBFS.out, (HA1.out.weak (l := [b])).andThen HAP.out (fun k hk => .inr hk)⟩
end Go.Proofs.Ytcdlceldokhnbaa
