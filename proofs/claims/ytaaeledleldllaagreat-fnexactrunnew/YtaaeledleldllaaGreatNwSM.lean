/- RunNew of the specification. -/
import Derived.Test.YtaaeledleldllaaGreatQB50
import Derived.Test.YtaaeledleldllaaGreatQN01
import Derived.Test.YtaaeledleldllaaGreatQB21
import Derived.Test.YtaaeledleldllaaGreatQB34
import Derived.Test.YtaaeledleldllaaGreatQN02
namespace Go.Proofs.YtaaeledleldllaaGreat
open Go.RowKit
attribute [local go_sem ↓] Go.wp_at_zero Go.wp_at_succ

theorem num_push {w w2 W : World} {base ob : Nat} {pv sv nv st s' : Value} {l : List Int} {z : Int} (h4 : NuOwn w base sv l) (hbx : BoxL w ob [pv, sv, nv, st]) (hob : ob < base) (o : Obj) (hown : w2.ownsRow base 2 1 s' (l.length + 1) (l.map (fun z => Value.int .i64 z) ++ [.int .i64 z])) (hg : (w.alloc o).grownBy w2 sv.ownBlock) (hW : W = w2.setCell ⟨ob, 1, none⟩ s') :
    NuOwn W base s' (l ++ [z]) ∧ BoxL W ob [pv, s', nv, st] ∧ Apart w W (ob :: vblocks sv) := by
  obtain ⟨p, c, hv⟩ := owns_shape h4
  have a1 : Apart w w2 (vblocks sv) := by
    rw [hv] at hg ⊢
    have := (below_apart (malloc1 w o)).trans (grownBy_apart hg)
    rwa [List.nil_append] at this
  have a2 : Apart w2 W [ob] := by rw [hW]; exact setCell_apart _ _ _ _
  have hos : ob ∉ vblocks sv := fun hm => by have := (owns_fresh h4).lo ob hm; omega
  have hos' : ob ∉ vblocks s' := fun hm => by have := (owns_fresh hown).lo ob hm; omega
  refine ⟨?_, ?_, (a1.trans a2).sub (fun b hb => by simp only [List.mem_append, List.mem_cons, List.not_mem_nil, or_false] at hb ⊢; exact hb.symm)⟩
  · have : NuOwn w2 base s' (l ++ [z]) := by
      unfold NuOwn
      rw [List.length_append, List.map_append]
      exact hown
    exact owns_keep this a2 (fun b hb hm => by simp at hm; subst hm; exact hos' hb)
  · rw [hW]
    exact (hbx.keep a1 hos).set 1 (by simp) s'
set_option maxRecDepth 100000 in
set_option maxHeartbeats 2000000 in
theorem s_l06Start {ns : List Nd} {p : Pn 10} (hs : SPlan ns p) (hne : ns ≠ []) (v : Value) (w : World) (hv : SlAt w w.heap.size v ns) :
    Calls Tryz.prog 52 #[v] w fun e w' => ∃ pv sv, e = .returned (.agg #[pv, sv, .slice none 0 0, .int .i64 0]) ∧ NdOwn w' w.heap.size pv ns ∧ NuOwn w' w.heap.size sv (startsOf p (rolesS ns)) ∧ (∀ b ∈ vblocks pv, b ∉ vblocks sv) ∧ Below w.heap.size w w' := by
  have HALL : Hid (∀ W, Below w.heap.size w W → Calls Tryz.prog 43 #[v] W fun e w' => ∃ rv mv us, e = .returned (.tuple #[rv, mv]) ∧ STexts w' rv (rolesS ns) ∧ MSRow w' W.heap.size mv us ∧ us.map MU.m = (rolesS ns).map (machOf p) ∧ Below W.heap.size W w') := hide (fun W hW => s_l06All hs v W ((hv.carry hW).up hW.size))
  have h40 := hs.len
  have HL4 := hide (right_roles hs.right)
  obtain ⟨i0, hi, hz0, hz1, hz2⟩ := info_parts Tryz.infoN
  have HI := hide (And.intro hi (And.intro hz0 (And.intro hz1 hz2)))
  obtain ⟨i1, hi', hz0', hz1', hz2'⟩ := info_parts Tryz.infoI64
  have HI1 := hide (And.intro hi' (And.intro hz0' (And.intro hz1' hz2')))
  obtain ⟨ao, cap, rfl, hc1, -, hr⟩ := hv
  obtain ⟨b, o, rfl, hbB, hrow⟩ := hr hne
  have HC : Hid (∀ (W : World), Below w.heap.size w W → ∀ j u, (ns.flatMap Nd.cells)[j]? = some u → W.cell? ((⟨b, o, none⟩ : Addr).add j) = some u) := hide (fun W hb j u hj => by
    have e2 : (⟨b, o, none⟩ : Addr).add j = ⟨b, o + j, none⟩ := by unfold Addr.add; simp
    rw [e2]
    exact row_cells (hrow.carry hbB hb) j u hj)
  have HW2 : Hid (∀ (o1 o2 : Obj), Below w.heap.size w ((w.alloc o1).alloc o2)) := hide (fun o1 o2 => (malloc1 _ _).trans ((malloc1 _ _).mono (by simp)))
  obtain ⟨rs, hrs⟩ : ∃ rs, rolesS ns = rs := ⟨_, rfl⟩
  rw [hrs] at HALL HL4 ⊢
  have hl4 : rs.length ≤ 4 := HL4.out
  clear hi hz0 hz1 hz2 hi' hz0' hz1' hz2' hr hrow hrs hs hne
  go_enter Tryz.func52, Tryz.ntmps52
  go_wp2_with (first
    | (go_at_call 43; refine (HALL.out _ HBo.out).mono ?_; rintro e w2 ⟨rv, mv, us, rfl, ht2, hrow2, hum2, hb2⟩; obtain ⟨tb, to, tc, rfl, -⟩ := ht2; have HROW := hide hrow2; have HUM := hide hum2; have HB2 := hide hb2; obtain ⟨pm, cm, hpm⟩ := owns_shape hrow2.own; subst hpm; clear hrow2 hum2 hb2)
    | (at_builtin; refine wpList_append_own_at _ rfl (.tmp 7) (.tmp 8) 25 rfl (w.heap.size + 1) 68 i0 (.agg #[.int .i64 0, .string ByteArray.empty, .string ByteArray.empty, .int .i64 0, .int .i64 0]) 5 56 Tryz.underlying25 HI.out.1 HI.out.2.1 HI.out.2.2.1 HI.out.2.2.2 rfl (by decide) (.slice (some ⟨w.heap.size + 1, 0, none⟩) 0 0) 0 [] rfl (owns_empty _ _ _ _ (w.heap.size + 1) (Nat.le_refl _) (mheap_new _ _ _ (by simp))) ⟨b, o, none⟩ ns.length cap (ns.flatMap Nd.cells) rfl (nd_clen ns) (HC.out _ (HW2.out _ _)) (nds_one ns) (by unfold maxLen; omega) (by omega) (by simp) ?_; intro v4 w4 hown4 hgr4 _ hat4; have HO4 : Hid (NdOwn w4 (w.heap.size + 1) v4 ns) := hide (by rw [Nat.zero_add, List.nil_append] at hown4; exact hown4); have HG4 := hide hgr4; obtain ⟨p4, c4, rfl⟩ := owns_shape HO4.out; have HA4 := hide ((below_apart (malloc1 (w.alloc (.cells #[.slice none 0 0, .slice none 0 0, .slice none 0 0, .int .i64 0] 37)) (.cells #[] 68))).trans (grownBy_apart hgr4)); have HB4 : Hid (Below w.heap.size w w4) := hide ((malloc1 _ _).trans (HA4.out.below (by simp) (by simp [vblocks, cellBlocks]))); have HBo : Hid (Below w.heap.size w (w4.alloc (.cells #[.slice p4 ns.length c4, .slice none 0 0, .slice none 0 0, .int .i64 0] 37))) := hide (HB4.out.trans ((malloc1 _ _).mono HB4.out.size)); clear hown4 hgr4 hat4))
  obtain ⟨ob, hob⟩ : ∃ ob, ob = w4.heap.size := ⟨_, rfl⟩
  have HBX : Hid (BoxL w2 ob [.slice p4 ns.length c4, .slice none 0 0, .slice none 0 0, .int .i64 0]) := hide (by rw [hob]; exact (BoxL.new w4 [.slice p4 ns.length c4, .slice none 0 0, .slice none 0 0, .int .i64 0] 37).keep (below_apart HB2.out) (by simp))
  have HOB : Hid (ob < w2.heap.size ∧ w.heap.size + 1 < ob) := hide (by
    have h1 := HB2.out.size
    have h2 := HG4.out.size
    rw [hob]
    simp at h1 h2
    omega)
  have HXR : Hid (BoxL w2 w.heap.size [.slice none 0 0, .slice none 0 0, .slice none 0 0, .int .i64 0]) := hide ((((BoxL.new w [.slice none 0 0, .slice none 0 0, .slice none 0 0, .int .i64 0] 37).keep HA4.out (by simp [vblocks, cellBlocks])).keep (below_apart (malloc1 _ _)) (by simp)).keep (below_apart HB2.out) (by simp))
  have HMB : Hid (∀ b ∈ vblocks (.slice pm us.length cm), ob < b) := hide (fun b hb => by have := (owns_fresh HROW.out.own).lo b hb; rw [hob]; simp at this; omega)
  have HO2 : Hid (NdOwn w2 (w.heap.size + 1) (.slice p4 ns.length c4) ns) := hide (owns_below (owns_below HO4.out (malloc1 _ _)) HB2.out)
  have HPB : Hid (∀ b ∈ vblocks (.slice p4 ns.length c4), b < ob) := hide (fun b hb => by rw [hob]; exact (owns_fresh HO4.out).hi b hb)
  have HW02 : Hid (Below w.heap.size w w2) := hide (HBo.out.trans (HB2.out.mono HBo.out.size))
  rw [← hob]
  clear hob
  have HUS : Hid (us.length = rs.length) := hide (by have := congrArg List.length HUM.out; simpa using this)
  have hul4 : us.length ≤ 4 := by have := HUS.out; omega
  go_loopw [6] (fun i wr => ∃ (k : Nat) (sv : Value), k ≤ us.length ∧ i = .int .i64 k ∧ BoxL wr ob [.slice p4 ns.length c4, sv, .slice none 0 0, .int .i64 0] ∧ NuOwn wr w2.heap.size sv (startsOf p (rs.take k)) ∧ Apart w2 wr [ob]) (fun i _ => us.length - (intOf i).toNat)
  case atStart => exact ⟨0, .slice none 0 0, Nat.zero_le _, rfl, HBX.out, owns_nil _ _ _ _, (Apart.refl _).sub (by simp)⟩
  case round =>
    obtain ⟨k, sv, hk, rfl, hbx, hsv, hap⟩ := hrel
    obtain ⟨ps, cs, rfl⟩ := owns_shape hsv
    have HBXr := hide hbx
    have HSV := hide hsv
    have HAP := hide hap
    have hLk : (startsOf p (rs.take k)).length ≤ 4 := by rw [starts_len (by have := HUS.out; omega)]; omega
    by_cases hlt : k < us.length
    · obtain ⟨g, c, hpm, hcc, hcells⟩ := mrow_get HROW.out (fun u => rfl) hlt
      have hgo : g ∈ vblocks (.slice pm us.length cm) := by rw [hpm]; simp [vblocks, cellBlocks]
      have hng := HMB.out g hgo
      injection hpm with e1 e2 e3
      subst e1
      clear e2 e3
      have m2 := hap.cell' (hcells 2 _ rfl) (by simp; omega)
      replace m2 : wr.cell? ⟨g, k * 3 + 2, none⟩ = some (.int .i64 us[k].m.start) := m2
      have hkr : k < rs.length := by have := HUS.out; omega
      have hmk : us[k].m = machOf p rs[k] := by
        have h1 : (us.map MU.m)[k]? = some us[k].m := by rw [List.getElem?_map, List.getElem?_eq_getElem hlt]; rfl
        rw [HUM.out, List.getElem?_map, List.getElem?_eq_getElem hkr] at h1
        injection h1 with h1
        exact h1.symm
      have HST := hide (starts_succ hkr hmk)
      obtain ⟨z, hz⟩ : ∃ z, z = us[k].m.start := ⟨_, rfl⟩
      rw [← hz] at m2 HST
      have b1 := hbx.cell 1 _ rfl
      have hob2 := HOB.out.1
      clear hz hmk hcells hbx hsv hap
      have hno : ¬ ob = wr.heap.size := by have := HAP.out.size; omega
      have hobr : ob < wr.heap.size := by have := HAP.out.size; omega
      have b1a : ∀ o : Obj, (wr.drew.alloc o).cell? ⟨ob, 1, none⟩ = some (.slice ps (startsOf p (rs.take k)).length cs) := fun o => ((HBXr.out.keep (below_apart (Below.refl _ _).drew) (by simp)).keep (below_apart (malloc1 _ o)) (by simp)).cell 1 _ rfl
      have b1b : ∀ o : Obj, (wr.alloc o).cell? ⟨ob, 1, none⟩ = some (.slice ps (startsOf p (rs.take k)).length cs) := b1a
      go_wp2_with fail
      go_region_law (refine stepM_at rfl (.tmp 23) (.tmp 29) 29 rfl w2.heap.size 2 i1 (.int .i64 0) 1 8 Tryz.underlying29 HI1.out.1 HI1.out.2.1 HI1.out.2.2.1 HI1.out.2.2.2 rfl (by decide) (.slice ps (startsOf p (rs.take k)).length cs) (startsOf p (rs.take k)).length ((startsOf p (rs.take k)).map fun z => .int .i64 z) (by simp [Act.eval]) (owns_below (owns_below HSV.out (Below.refl _ _).drew) (malloc1 _ _)) ⟨wr.heap.size, 0, none⟩ 1 1 [.int .i64 z] (by simp [Act.eval]) rfl (cell_one_new wr.drew _ _) (by simp [Value.oneCell']) (by unfold maxLen; omega) (by omega) (by have := HAP.out.size; simp; omega) ?_; intro v5 w5 hown5 hgr5 hat5; have A5 := (below_apart (malloc1 wr.drew (.cells #[.int .i64 z] 2))).trans (grownBy_apart hgr5); have B5 := (HBXr.out.keep (below_apart (Below.refl _ _).drew) (by simp)).keep A5 (fun hm => by rw [List.nil_append] at hm; have := (owns_fresh HSV.out).lo _ hm; omega); have c5 := B5.cell 1 _ rfl; have f5 := B5.fz 1; have HO5 := hide (And.intro hown5 (And.intro hgr5 hat5)); obtain ⟨p5, q5, rfl⟩ := owns_shape hown5; clear hown5 hgr5 hat5 A5 B5)
      all_goals
        obtain ⟨h1, h2, h3⟩ := num_push (w := wr.drew) (owns_below HSV.out (Below.refl _ _).drew) (HBXr.out.keep (below_apart (Below.refl _ _).drew) (by simp)) hob2 _ HO5.out.1 HO5.out.2.1 rfl
        have HP := hide (And.intro h1 (And.intro h2 h3))
        clear h1 h2 h3
        obtain ⟨W5, hW5⟩ : ∃ W, W = w5.setCell ⟨ob, 1, none⟩ (.slice p5 ((startsOf p (rs.take k)).length + 1) q5) := ⟨_, rfl⟩
        rw [← hW5] at HP ⊢
        clear hW5
        go_wp2_with fail
        go_roundw
        case rel =>
          obtain ⟨h1, h2, h3⟩ := HP.out
          refine ⟨k + 1, _, hlt, by go_num, h2, by rw [HST.out]; exact h1, ?_⟩
          have hall := (HAP.out.trans (below_apart (Below.refl _ _).drew)).trans h3
          refine ⟨hall.os, hall.tape, hall.output, hall.size, fun b hb hn => hall.block b hb (fun hm => ?_)⟩
          simp only [List.mem_append, List.mem_cons, List.not_mem_nil, or_false] at hm hn
          rcases hm with h | h | h
          · exact hn h
          · exact hn h
          · have := (owns_fresh HSV.out).lo b h; omega
        case measure => simp [intOf]; omega
    · obtain rfl : k = us.length := by omega
      have hfull : rs.take us.length = rs := by rw [HUS.out]; exact List.take_length
      rw [hfull] at HSV HBXr hLk hsv hbx
      have XR := HXR.out.keep hap (by simp; have := HOB.out; omega)
      have HXRr := hide XR
      have z0 := XR.cell 0 _ rfl
      have z1 := XR.cell 1 _ rfl
      have z2 := XR.cell 2 _ rfl
      have z3 := XR.cell 3 _ rfl
      have fz := XR.fz
      have c0 := hbx.cell 0 _ rfl
      have c1 := hbx.cell 1 _ rfl
      have c2 := hbx.cell 2 _ rfl
      have c3 := hbx.cell 3 _ rfl
      clear hbx hsv hap XR hfull
      go_wp2_with fail
      have hA := ap4 wr w.heap.size (.slice p4 ns.length c4) (.slice ps (startsOf p rs).length cs) (.slice none 0 0) (.int .i64 0)
      have hX := (((HXRr.out.set 0 (by simp) (.slice p4 ns.length c4)).set 1 (by simp) (.slice ps (startsOf p rs).length cs)).set 2 (by simp) (.slice none 0 0)).set 3 (by simp) (.int .i64 0)
      obtain ⟨W, hW⟩ : ∃ W, W = ((((wr.setCell ⟨w.heap.size, 0, none⟩ (.slice p4 ns.length c4)).setCell ⟨w.heap.size, 1, none⟩ (.slice ps (startsOf p rs).length cs)).setCell ⟨w.heap.size, 2, none⟩ (.slice none 0 0)).setCell ⟨w.heap.size, 3, none⟩ (.int .i64 0)) := ⟨_, rfl⟩
      rw [← hW] at hA hX ⊢
      clear hW
      have k0 := hX.cell 0 _ rfl
      have k1 := hX.cell 1 _ rfl
      have k2 := hX.cell 2 _ rfl
      have k3 := hX.cell 3 _ rfl
      have hob := HOB.out
      have l1 := owns_fresh HO2.out
      have l2 := owns_fresh HSV.out
      have hlow : Below w.heap.size w wr := HW02.out.trans (HAP.out.below HW02.out.size (fun b hb => by simp at hb; omega))
      refine bodyPost_ret_by (v := .agg #[.slice p4 ns.length c4, .slice ps (startsOf p rs).length cs, .slice none 0 0, .int .i64 0]) ?_ rfl ⟨_, _, rfl, ?_, ?_, fun b hb hm => ?_, hlow.trans (hA.below hlow.size (by simp))⟩
      · unfold results
        go_simp
      · exact owns_down (owns_keep (owns_keep HO2.out HAP.out (fun b hb hm => by simp at hm; have := HPB.out b hb; omega)) hA (fun b hb hm => by simp at hm; have := l1.lo b hb; omega)) (Nat.le_succ _)
      · exact owns_down (owns_keep HSV.out hA (fun b hb hm => by simp at hm; have := l2.lo b hb; omega)) (by omega)
      · have h1 := HPB.out b hb; have h2 := l2.lo b hm; omega
theorem s_ill (c : Int) (w : World) : Calls Tryz.prog 51 #[.int .i64 c] w fun e w' => e = .returned (.agg #[.slice none 0 0, .slice none 0 0, .slice none 0 0, .int .i64 0, .slice none 0 0, .int .i64 c]) ∧ Below w.heap.size w w' := by
  go_enter Tryz.func51, Tryz.ntmps51
  go_wp2_with fail
  refine bodyPost_ret_by (v := .agg #[.slice none 0 0, .slice none 0 0, .slice none 0 0, .int .i64 0, .slice none 0 0, .int .i64 c]) ?_ rfl ⟨rfl, malloc1 _ _⟩
  unfold results
  go_simp
set_option maxRecDepth 100000 in
set_option maxHeartbeats 2000000 in
theorem s_runNew (ns : List Nd) (T : List Nd) (Z : List Int) (C : Int) (h : NwIs ns T Z C) (v : Value) (w : World) (fit : ∀ n ∈ ns, n.fit) (hv : SlAt w w.heap.size v ns) :
    Calls Tryz.prog 18 #[v] w fun e w' => RoAns w w' e T Z C := by
  have HV := hide hv
  have HF := hide fit
  have hl : ns.length ≤ 4294967296 := by obtain ⟨_, _, _, _, h3, _⟩ := hv; exact h3.2
  have HSN : Hid (∀ q, Snd ns q → rightB false ns = true → ∀ W, Below w.heap.size w W → Calls Tryz.prog 33 #[v] W fun e w' => e = .returned (.bool q) ∧ Below W.heap.size W w') := hide (fun q hq hr W hW => by
    rcases hq with ⟨h, -⟩ | ⟨-, p, h1, h2, h3, h4⟩
    · rw [hr] at h; cases h
    · rw [h4]
      exact s_l03Sound ns p hr h1 h2 h3 v W ((hv.carry hW).up hW.size))
  obtain ⟨ao, cap, rfl, -⟩ := hv
  clear fit
  have HX0 := hide (BoxL.new w roZ 43)
  unfold roZ at HX0
  rcases h with ⟨h1, rfl, rfl, rfl⟩ | ⟨h1, h2, rfl, rfl, rfl⟩ | ⟨h1, h2, h3, rfl, rfl, rfl⟩ | ⟨h1, h2, h3, hT, rfl, p, h4, rfl⟩
  · go_enter Tryz.func18, Tryz.ntmps18
    have HB0 := hide (malloc1 w (.cells #[.slice none 0 0, .slice none 0 0, .slice none 0 0, .int .i64 0, .slice none 0 0, .int .i64 0] 43))
    go_wp2_with (go_at_call 51; refine (s_ill _ _).mono ?_; rintro e w5 ⟨rfl, hb5⟩; have HB5 := hide (HB0.out.trans (hb5.mono HB0.out.size)); have HX5 := hide (HX0.out.keep (below_apart hb5) (by simp)); have z0 := HX5.out.cell 0 _ rfl; have z1 := HX5.out.cell 1 _ rfl; have z2 := HX5.out.cell 2 _ rfl; have z3 := HX5.out.cell 3 _ rfl; have z4 := HX5.out.cell 4 _ rfl; have z5 := HX5.out.cell 5 _ rfl; have fz := HX5.out.fz; clear hb5)
    have hX := set6_box HX5.out (.slice none 0 0) (.slice none 0 0) (.slice none 0 0) (.int .i64 0) (.slice none 0 0) (.int .i64 2)
    have hA := set6_apart w5 w.heap.size (.slice none 0 0) (.slice none 0 0) (.slice none 0 0) (.int .i64 0) (.slice none 0 0) (.int .i64 2)
    obtain ⟨W, hW⟩ : ∃ W, W = set6 w5 w.heap.size (.slice none 0 0) (.slice none 0 0) (.slice none 0 0) (.int .i64 0) (.slice none 0 0) (.int .i64 2) := ⟨_, rfl⟩
    rw [← hW] at hX hA
    have hW' := hW
    unfold set6 at hW'
    rw [← hW']
    clear hW hW'
    have k0 := hX.cell 0 _ rfl
    have k1 := hX.cell 1 _ rfl
    have k2 := hX.cell 2 _ rfl
    have k3 := hX.cell 3 _ rfl
    have k4 := hX.cell 4 _ rfl
    have k5 := hX.cell 5 _ rfl
    refine bodyPost_ret_by (v := .agg #[.slice none 0 0, .slice none 0 0, .slice none 0 0, .int .i64 0, .slice none 0 0, .int .i64 2]) ?_ rfl (ro_no (HB5.out.trans (hA.below HB5.out.size (by simp))))
    unfold results
    go_simp
  · have HR := hide h2
    clear h2
    go_enter Tryz.func18, Tryz.ntmps18
    go_wp2_with (first
      | (go_at_call 51; refine (s_ill _ _).mono ?_; rintro e w5 ⟨rfl, hb5⟩; have HB5 := hide (HB1.out.trans (hb5.mono HB1.out.size)); have HX5 := hide (HX1.out.keep (below_apart hb5) (by simp)); have z0 := HX5.out.cell 0 _ rfl; have z1 := HX5.out.cell 1 _ rfl; have z2 := HX5.out.cell 2 _ rfl; have z3 := HX5.out.cell 3 _ rfl; have z4 := HX5.out.cell 4 _ rfl; have z5 := HX5.out.cell 5 _ rfl; have fz := HX5.out.fz; clear hb5)
      | (go_at_call 32; refine (s_planRight ns _ _ HF.out ((HV.out.carry (malloc1 _ _)).up (by simp))).mono ?_; rw [HR.out]; rintro e w1 ⟨rfl, hb1⟩; have HB1 := hide ((malloc1 w (.cells #[.slice none 0 0, .slice none 0 0, .slice none 0 0, .int .i64 0, .slice none 0 0, .int .i64 0] 43)).trans (hb1.mono (by simp))); have HX1 := hide (HX0.out.keep (below_apart hb1) (by simp)); clear hb1))
    have hX := set6_box HX5.out (.slice none 0 0) (.slice none 0 0) (.slice none 0 0) (.int .i64 0) (.slice none 0 0) (.int .i64 1)
    have hA := set6_apart w5 w.heap.size (.slice none 0 0) (.slice none 0 0) (.slice none 0 0) (.int .i64 0) (.slice none 0 0) (.int .i64 1)
    obtain ⟨W, hW⟩ : ∃ W, W = set6 w5 w.heap.size (.slice none 0 0) (.slice none 0 0) (.slice none 0 0) (.int .i64 0) (.slice none 0 0) (.int .i64 1) := ⟨_, rfl⟩
    rw [← hW] at hX hA
    have hW' := hW
    unfold set6 at hW'
    rw [← hW']
    clear hW hW'
    have k0 := hX.cell 0 _ rfl
    have k1 := hX.cell 1 _ rfl
    have k2 := hX.cell 2 _ rfl
    have k3 := hX.cell 3 _ rfl
    have k4 := hX.cell 4 _ rfl
    have k5 := hX.cell 5 _ rfl
    refine bodyPost_ret_by (v := .agg #[.slice none 0 0, .slice none 0 0, .slice none 0 0, .int .i64 0, .slice none 0 0, .int .i64 1]) ?_ rfl (ro_no (HB5.out.trans (hA.below HB5.out.size (by simp))))
    unfold results
    go_simp
  · have HR := hide h2
    have HSO := hide (HSN.out false h3 h2)
    clear h2 h3
    go_enter Tryz.func18, Tryz.ntmps18
    go_wp2_with (first
      | (go_at_call 51; refine (s_ill _ _).mono ?_; rintro e w5 ⟨rfl, hb5⟩; have HB5 := hide (HB2.out.trans (hb5.mono HB2.out.size)); have HX5 := hide (HX2.out.keep (below_apart hb5) (by simp)); have z0 := HX5.out.cell 0 _ rfl; have z1 := HX5.out.cell 1 _ rfl; have z2 := HX5.out.cell 2 _ rfl; have z3 := HX5.out.cell 3 _ rfl; have z4 := HX5.out.cell 4 _ rfl; have z5 := HX5.out.cell 5 _ rfl; have fz := HX5.out.fz; clear hb5)
      | (go_at_call 33; refine (HSO.out _ HB1.out).mono ?_; rintro e w2 ⟨rfl, hb2⟩; have HB2 := hide (HB1.out.trans (hb2.mono HB1.out.size)); have HX2 := hide (HX1.out.keep (below_apart hb2) (by simp)); clear hb2)
      | (go_at_call 32; refine (s_planRight ns _ _ HF.out ((HV.out.carry (malloc1 _ _)).up (by simp))).mono ?_; rw [HR.out]; rintro e w1 ⟨rfl, hb1⟩; have HB1 := hide ((malloc1 w (.cells #[.slice none 0 0, .slice none 0 0, .slice none 0 0, .int .i64 0, .slice none 0 0, .int .i64 0] 43)).trans (hb1.mono (by simp))); have HX1 := hide (HX0.out.keep (below_apart hb1) (by simp)); clear hb1))
    have hX := set6_box HX5.out (.slice none 0 0) (.slice none 0 0) (.slice none 0 0) (.int .i64 0) (.slice none 0 0) (.int .i64 11)
    have hA := set6_apart w5 w.heap.size (.slice none 0 0) (.slice none 0 0) (.slice none 0 0) (.int .i64 0) (.slice none 0 0) (.int .i64 11)
    obtain ⟨W, hW⟩ : ∃ W, W = set6 w5 w.heap.size (.slice none 0 0) (.slice none 0 0) (.slice none 0 0) (.int .i64 0) (.slice none 0 0) (.int .i64 11) := ⟨_, rfl⟩
    rw [← hW] at hX hA
    have hW' := hW
    unfold set6 at hW'
    rw [← hW']
    clear hW hW'
    have k0 := hX.cell 0 _ rfl
    have k1 := hX.cell 1 _ rfl
    have k2 := hX.cell 2 _ rfl
    have k3 := hX.cell 3 _ rfl
    have k4 := hX.cell 4 _ rfl
    have k5 := hX.cell 5 _ rfl
    refine bodyPost_ret_by (v := .agg #[.slice none 0 0, .slice none 0 0, .slice none 0 0, .int .i64 0, .slice none 0 0, .int .i64 11]) ?_ rfl (ro_no (HB5.out.trans (hA.below HB5.out.size (by simp))))
    unfold results
    go_simp
  · have HR := hide h2
    have HSO := hide (HSN.out true h3 h2)
    have HSP := hide h4
    replace hT := hT.symm
    subst hT
    clear h2 h3 h4
    go_enter Tryz.func18, Tryz.ntmps18
    go_wp2_with (first
      | (go_at_call 52; refine (s_l06Start HSP.out (plan_ne2 HSP.out) _ _ ((HV.out.carry HB2.out).up HB2.out.size)).mono ?_; rintro e w3 ⟨pv, sv, rfl, ho1, ho2, hd3, hb3⟩; obtain ⟨pp, cp, rfl⟩ := owns_shape ho1; obtain ⟨ps, cs, rfl⟩ := owns_shape ho2; have HO := hide (And.intro ho1 (And.intro ho2 hd3)); have HB3 := hide (HB2.out.trans (hb3.mono HB2.out.size)); have HX3 := hide (HX2.out.keep (below_apart hb3) (by simp)); have HZ2 := hide HX2.out.lt; have z0 := HX3.out.cell 0 _ rfl; have z1 := HX3.out.cell 1 _ rfl; have z2 := HX3.out.cell 2 _ rfl; have z3 := HX3.out.cell 3 _ rfl; have z4 := HX3.out.cell 4 _ rfl; have z5 := HX3.out.cell 5 _ rfl; have fz := HX3.out.fz; clear ho1 ho2 hd3 hb3)
      | (go_at_call 33; refine (HSO.out _ HB1.out).mono ?_; rintro e w2 ⟨rfl, hb2⟩; have HB2 := hide (HB1.out.trans (hb2.mono HB1.out.size)); have HX2 := hide (HX1.out.keep (below_apart hb2) (by simp)); clear hb2)
      | (go_at_call 32; refine (s_planRight ns _ _ HF.out ((HV.out.carry (malloc1 _ _)).up (by simp))).mono ?_; rw [HR.out]; rintro e w1 ⟨rfl, hb1⟩; have HB1 := hide ((malloc1 w (.cells #[.slice none 0 0, .slice none 0 0, .slice none 0 0, .int .i64 0, .slice none 0 0, .int .i64 0] 43)).trans (hb1.mono (by simp))); have HX1 := hide (HX0.out.keep (below_apart hb1) (by simp)); clear hb1))
    have hX := set6_box HX3.out (.slice pp ns.length cp) (.slice ps (startsOf p (rolesS ns)).length cs) (.slice none 0 0) (.int .i64 0) (.slice none 0 0) (.int .i64 0)
    have hA := set6_apart w3 w.heap.size (.slice pp ns.length cp) (.slice ps (startsOf p (rolesS ns)).length cs) (.slice none 0 0) (.int .i64 0) (.slice none 0 0) (.int .i64 0)
    obtain ⟨W, hW⟩ : ∃ W, W = set6 w3 w.heap.size (.slice pp ns.length cp) (.slice ps (startsOf p (rolesS ns)).length cs) (.slice none 0 0) (.int .i64 0) (.slice none 0 0) (.int .i64 0) := ⟨_, rfl⟩
    rw [← hW] at hX hA
    have hW' := hW
    unfold set6 at hW'
    rw [← hW']
    clear hW hW'
    have k0 := hX.cell 0 _ rfl
    have k1 := hX.cell 1 _ rfl
    have k2 := hX.cell 2 _ rfl
    have k3 := hX.cell 3 _ rfl
    have k4 := hX.cell 4 _ rfl
    have k5 := hX.cell 5 _ rfl
    obtain ⟨o1, o2, o3⟩ := HO.out
    have hz2 := HZ2.out
    refine bodyPost_ret_by (v := .agg #[.slice pp ns.length cp, .slice ps (startsOf p (rolesS ns)).length cs, .slice none 0 0, .int .i64 0, .slice none 0 0, .int .i64 0]) ?_ rfl ⟨⟨_, _, rfl, ?_, ?_, o3⟩, HB3.out.trans (hA.below HB3.out.size (by simp))⟩
    · unfold results
      go_simp
    · exact owns_down (owns_keep o1 hA (fun b hb hm => by simp at hm; have := (owns_fresh o1).lo b hb; omega)) HB2.out.size
    · exact owns_down (owns_keep o2 hA (fun b hb hm => by simp at hm; have := (owns_fresh o2).lo b hb; omega)) HB2.out.size
end Go.Proofs.YtaaeledleldllaaGreat
