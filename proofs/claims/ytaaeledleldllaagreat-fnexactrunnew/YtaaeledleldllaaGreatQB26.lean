import Derived.Test.YtaaeledleldllaaGreatQB24
namespace Go.Proofs.YtaaeledleldllaaGreat
open Go.RowKit
attribute [local go_sem ↓] Go.wp_at_zero Go.wp_at_succ

def hearO (n : Nat) (a : ByteArray) (r : Option (List (Br (Pn n)))) : Option (Pn (n + 1)) := match r with
  | some l => if l.length ≤ 4 then some (.talk ⟨6, noT, a⟩ l) else none
  | none => none
theorem brs_count {α : Type} (f : α → List Nd) : ∀ l : List (Br α), l.length ≤ (brsBy f l).length
  | [] => Nat.le_refl _
  | b :: l => by rw [brs_cons]; have := brs_count f l; simp only [List.length_cons, List.length_append]; omega
theorem find_get {α : Type} {t : ByteArray} : ∀ {l : List (Br α)} {i : Nat}, findB t l = some i → ∃ b, l[i]? = some b
  | [], i, h => by cases h
  | c :: l, i, h => by
    rw [findB] at h
    split at h
    · injection h with h; subst h; exact ⟨c, rfl⟩
    · cases hf : findB t l with
      | none => rw [hf] at h; cases h
      | some j =>
        rw [hf] at h
        simp only [Option.map_some, Option.some.injEq] at h
        subst h
        obtain ⟨b, hb⟩ := find_get hf
        exact ⟨b, by rw [List.getElem?_cons_succ]; exact hb⟩
theorem ret2_bool {q : Value} {a b : Bool} (h : b = a) : Ending.returned (.tuple #[q, .bool a]) = .returned (.tuple #[q, .bool b]) := by rw [h]
structure RoundM (n : Nat) (S : Nat → Prop) (w wr : World) (a : ByteArray) (cs ds : List (Br (Pn n))) (cv : Value) (k : Nat) (acc : List (BV n)) : Prop where
  same : mergeBy (mergeN n) (acc.map BV.b) (ds.drop k) = mergeBy (mergeN n) cs ds
  own : BrO S w.heap.size wr (w.heap.size + 2) cv acc
  sz : (brsBy (rowN n) (acc.map BV.b)).length + (brsBy (rowN n) (ds.drop k)).length ≤ 898
  shp : ∀ x ∈ acc, shapeN n x.b.p
  bel : Below w.heap.size w wr
  box : wr.cell? ⟨w.heap.size, 0, none⟩ = some (.string a)
  siz : w.heap.size + 2 ≤ wr.heap.size
def MergeCalls (n : Nat) : Prop := ∀ (S : Nat → Prop) (x y : Pn n) (u v : Value) (w : World), (∀ g, S g → g < w.heap.size) → shapeN n x → shapeN n y → (rowN n x).length + (rowN n y).length ≤ 900 → PcAt w S n x u → PcAt w S n y v → Calls Tryz.prog 201 #[u, v] w fun e w' => Merged n S w w' e (mergeN n x y)
theorem roundM_none {n : Nat} {S : Nat → Prop} {w wr : World} {a : ByteArray} {cs ds : List (Br (Pn n))} {cv : Value} {k : Nat} {acc : List (BV n)} (h : RoundM n S w wr a cs ds cv k acc) {d : Br (Pn n)} (hd : ds[k]? = some d) (hf : findB d.l (acc.map BV.b) = none) : mergeBy (mergeN n) (acc.map BV.b ++ [d]) (ds.drop (k + 1)) = mergeBy (mergeN n) cs ds := by
  have hlt := (List.getElem?_eq_some_iff.1 hd).1
  have hde : ds[k] = d := (List.getElem?_eq_some_iff.1 hd).2
  rw [← h.same, List.drop_eq_getElem_cons hlt, hde, mergeBy, hf]
theorem roundM_some {n : Nat} {S : Nat → Prop} {w wr : World} {a : ByteArray} {cs ds : List (Br (Pn n))} {cv : Value} {k i : Nat} {acc : List (BV n)} (h : RoundM n S w wr a cs ds cv k acc) {d : Br (Pn n)} {x : BV n} (hd : ds[k]? = some d) (hf : findB d.l (acc.map BV.b) = some i) (hx : acc[i]? = some x) : mergeBy (mergeN n) cs ds = match mergeN n x.b.p d.p with
    | none => none
    | some q => if x.b.s == d.s then mergeBy (mergeN n) ((acc.map BV.b).set i ⟨x.b.l, x.b.s, q⟩) (ds.drop (k + 1)) else none := by
  have hlt := (List.getElem?_eq_some_iff.1 hd).1
  have hde : ds[k] = d := (List.getElem?_eq_some_iff.1 hd).2
  have hm : (acc.map BV.b)[i]? = some x.b := by rw [List.getElem?_map, hx]; rfl
  rw [← h.same, List.drop_eq_getElem_cons hlt, hde, mergeBy, hf]
  simp only [hm]
  cases mergeN n x.b.p d.p <;> rfl
theorem brs_drop {n : Nat} {ds : List (Br (Pn n))} {k : Nat} {d : Br (Pn n)} (hd : ds[k]? = some d) : (brsBy (rowN n) (ds.drop k)).length = 1 + (rowN n d.p).length + (brsBy (rowN n) (ds.drop (k + 1))).length := by
  have hlt := (List.getElem?_eq_some_iff.1 hd).1
  have hde : ds[k] = d := (List.getElem?_eq_some_iff.1 hd).2
  rw [List.drop_eq_getElem_cons hlt, hde, brs_cons]
  simp only [List.length_cons, List.length_append]
  omega
set_option maxRecDepth 100000 in
set_option maxHeartbeats 4000000 in
theorem merge_hear (n : Nat) (S : Nat → Prop) (hmg : MergeCalls n) (a b : ByteArray) (cs ds : List (Br (Pn n))) (hcs : ∀ x ∈ cs, shapeN n x.p) (hds : ∀ x ∈ ds, shapeN n x.p) (hsz : (brsBy (rowN n) cs).length + (brsBy (rowN n) ds).length ≤ 898) (hne : cs ≠ []) (sl1 sl2 : Value) (w : World) (hS : ∀ g, S g → g < w.heap.size) (h1 : BrS w S sl1 cs) (h2 : BrS w S sl2 ds) :
    Calls Tryz.prog 208 #[.agg #[.string a, sl1], .agg #[.string b, sl2]] w fun e w' => Merged (n + 1) S w w' e (hearO n a (mergeBy (mergeN n) cs ds)) := by
  obtain ⟨i0, hi, hz0, hz1, hz2⟩ := info_parts Tryz.infoBr
  have HI := hide (And.intro hi (And.intro hz0 (And.intro hz1 hz2)))
  have HMG := hide hmg
  have HSS := hide hS
  have HCS := hide hcs
  have HDS := hide hds
  have HSZ := hide hsz
  have hc9 : cs.length ≤ 1000 := by have := brs_count (rowN n) cs; omega
  have hd9 : ds.length ≤ 1000 := by have := brs_count (rowN n) ds; omega
  have HCL : Hid (∀ o1 o2 : Obj, Calls Tryz.prog 212 #[sl1] ((w.alloc o1).alloc o2) fun e w' => ∃ v' L, e = .returned v' ∧ L.map BV.b = cs ∧ BrO S w.heap.size w' (w.heap.size + 2) v' (L : List (BV n)) ∧ Below (w.heap.size + 2) ((w.alloc o1).alloc o2) w') := hide (fun o1 o2 => by
    have hb2 : Below w.heap.size w ((w.alloc o1).alloc o2) := (malloc1 w o1).trans ((malloc1 _ o2).mono (by simp))
    have := clone_br n S w.heap.size cs sl1 ((w.alloc o1).alloc o2) hS (by simp; omega) (h1.carry (fun g hg => hb2.block g (hS g hg)) (fun g hg => hg)) hc9 hne
    simpa using this)
  obtain ⟨ao1, cap1, rfl, -⟩ := h1
  obtain ⟨ao2, cap2, rfl, -, hcm2, hr2⟩ := h2
  have HR2 := hide hr2
  obtain ⟨D, hD⟩ : ∃ D, ds.length = D := ⟨_, rfl⟩
  rw [hD] at hd9 ⊢
  have HD := hide hD
  clear hi hz0 hz1 hz2 hr2 hmg hcs hds hsz hD
  go_enter Tryz.func208, Tryz.ntmps208
  go_wp2_with (go_at_call 212; refine (HCL.out _ _).mono ?_; rintro e w1 ⟨cv1, L1, rfl, e1, ho1, hb1⟩; have HE1 := hide e1; have HO1 := hide ho1; have HB1 := hide hb1; have x0 := (hb1.cell (p := ⟨w.heap.size, 0, none⟩) (by simp)); have y1 := (hb1.cell (p := ⟨w.heap.size + 1, 1, none⟩) (by simp)); simp at x0 y1; have HZ1 : Hid (w.heap.size + 2 ≤ w1.heap.size) := hide (by have := hb1.size; simpa using this); clear e1 ho1 hb1)
  go_loopw [6, 18] (fun cv i wr => ∃ (k : Nat) (acc : List (BV n)), k ≤ D ∧ i = .int .i64 k ∧ RoundM n S w wr a cs ds cv k acc) (fun _ i _ => D - (intOf i).toNat)
  case atStart =>
    refine ⟨0, L1, Nat.zero_le _, rfl, ⟨by rw [HE1.out]; rfl, HO1.out, by rw [HE1.out]; exact HSZ.out, fun x hx => HCS.out x.b (by rw [← HE1.out]; exact List.mem_map_of_mem hx), ?_, x0, HZ1.out⟩⟩
    exact ((malloc1 w _).trans ((malloc1 _ _).mono (by simp))).trans (HB1.out.mono (by omega))
  case round =>
    obtain ⟨k, acc, hk, rfl, hR⟩ := hrel
    have HR := hide hR
    have hzw := hR.bel.size
    have hz2 := hR.siz
    have hal : acc.length ≤ 898 := by have := brs_count (rowN n) (acc.map BV.b); rw [List.length_map] at this; have := hR.sz; omega
    obtain ⟨cp, cc, hcv⟩ := owns_shape hR.own.own
    obtain ⟨A, hA⟩ : ∃ A, acc.length = A := ⟨_, rfl⟩
    rw [hA] at hal hcv
    have HA := hide hA
    subst hcv
    have bx := hR.box
    clear hR hA
    by_cases hlt : k < D
    · obtain ⟨g, o, rfl, hg, hcells⟩ := HR2.out (by rintro rfl; have := HD.out; simp at this; omega)
      obtain ⟨d, hd⟩ : ∃ d, ds[k]? = some d := ⟨ds[k]'(by rw [HD.out]; exact hlt), List.getElem?_eq_getElem _⟩
      obtain ⟨k1, k2, u, k3, k4⟩ := hcells k d hd
      have HDD := hide hd
      have hgw : g < w.heap.size := HSS.out g hg
      have e1 := (HR.out.bel.cell (p := ⟨g, o + k * 3, none⟩) hgw).trans k1
      have e2 := (HR.out.bel.cell (p := ⟨g, o + k * 3 + 1, none⟩) hgw).trans k2
      have e3 := (HR.out.bel.cell (p := ⟨g, o + k * 3 + 2, none⟩) hgw).trans k3
      have HU : Hid (∀ W, Below w.heap.size w W → PcAt W (but S w.heap.size W.heap.size (.slice cp A cc)) n d.p u) := hide (fun W hW => PcAt.carry (fun b hb => hW.block b (HSS.out b hb)) (fun b hb => ⟨.inl hb, fun hm => by have := (owns_fresh HR.out.own.own).lo b hm; have hb' := HSS.out b hb; omega⟩) _ _ _ k4)
      have HDS1 : Hid (shapeN n d.p) := hide (HDS.out d (List.mem_of_getElem? hd))
      have HBD := hide (brs_drop hd)
      obtain ⟨T, av, rfl⟩ := k4.shape
      obtain ⟨dl, dsrt, dp⟩ := d
      dsimp only at e1 e2
      have HBR : Hid (∀ W, Below wr.heap.size wr W → Calls Tryz.prog 213 #[.slice cp A cc, .string dl] W fun e w' => e = .returned (.int .i64 (atB dl (acc.map BV.b))) ∧ Below W.heap.size W w') := hide (fun W hW => branch_at n dl _ (acc.map BV.b) _ W ((HR.out.own.keep hW).sl) (by rw [List.length_map, HA.out]; omega))
      clear hcells k1 k2 k3 k4 hd
      cases hf : findB dl (acc.map BV.b) with
      | none =>
        have HAT : Hid (atB dl (acc.map BV.b) = -1) := hide (by rw [atB, hf])
        rw [HAT.out] at HBR
        have HNX := hide (roundM_none HR.out HDD.out hf)
        clear hf
        go_wp2_with (first
          | (go_at_call 213; refine (HBR.out _ (malloc1 _ _)).mono ?_; rintro e w2 ⟨rfl, hb2⟩; have HB2 : Hid (Below wr.heap.size wr w2) := hide ((malloc1 wr _).trans (hb2.mono (by simp))); have z0 := (hb2.cell (p := ⟨wr.heap.size, 0, none⟩) (by simp)); have z1 := (hb2.cell (p := ⟨wr.heap.size, 1, none⟩) (by simp)); have z2 := (hb2.cell (p := ⟨wr.heap.size, 2, none⟩) (by simp)); simp at z0 z1 z2; have HO2 := hide (HR.out.own.keep HB2.out); clear hb2)
          | (at_builtin; refine wpList_append_own_at _ rfl (.tmp 28) (.tmp 30) 180 rfl (w.heap.size + 2) 229 i0 (.agg #[.string ByteArray.empty, .int .i64 0, .nilIface]) 3 40 Tryz.underlying180 HI.out.1 HI.out.2.1 HI.out.2.2.1 HI.out.2.2.2 rfl (by decide) (.slice cp A cc) A (acc.flatMap BV.cells) rfl (by have := HO2.out.own; rw [HA.out] at this; exact owns_below this (malloc1 _ _)) ⟨w2.heap.size, 0, none⟩ 1 1 (BV.cells (n := n) ⟨⟨dl, dsrt, dp⟩, .iface T (.agg av)⟩) rfl rfl (fun j u hj => new_rowq w2 _ _ _ rfl j u hj) (bv_one (HU.out w (Below.refl _ _))) (by unfold maxLen; omega) (by omega) (by have := HB2.out.size; simp; omega) ?_; intro v4 w4 hown4 hgr4 _ hat4; have HM4 := hide (bro_push HO2.out ⟨⟨dl, dsrt, dp⟩, .iface T (.agg av)⟩ (HU.out w2 (HR.out.bel.trans (HB2.out.mono hzw))) _ (by rw [HA.out]; exact hown4) hgr4 hat4); obtain ⟨p4, c4, rfl⟩ := owns_shape hown4; clear hown4 hgr4 hat4))
        go_roundw
        case rel =>
          have hlo := (owns_fresh HR.out.own.own).lo
          have hb2 := HB2.out
          have hb4 : Below w.heap.size w2 w4 := HM4.out.2.below (by have := hb2.size; omega) (fun b hb => by have := hlo b hb; omega)
          have hd1 : (brsBy (rowN n) [(⟨dl, dsrt, dp⟩ : Br (Pn n))]).length = 1 + (rowN n dp).length := by rw [brs_cons]; simp [brsBy]; omega
          have hbd := HBD.out
          have hsz := HR.out.sz
          refine ⟨k + 1, acc ++ [⟨⟨dl, dsrt, dp⟩, .iface T (.agg av)⟩], hlt, by go_num, ⟨by rw [List.map_append]; exact HNX.out, HM4.out.1, ?_, fun x hx => ?_, (HR.out.bel.trans (hb2.mono hzw)).trans hb4, ?_, ?_⟩⟩
          · rw [List.map_append, brs_app, List.length_append]
            have e : (brsBy (rowN n) (List.map BV.b [(⟨⟨dl, dsrt, dp⟩, .iface T (.agg av)⟩ : BV n)])).length = 1 + (rowN n dp).length := hd1
            omega
          · rw [List.mem_append] at hx
            rcases hx with hx | hx
            · exact HR.out.shp x hx
            · simp at hx
              subst hx
              exact HDS1.out
          · exact HM4.out.2.cell' ((hb2.cell (p := ⟨w.heap.size, 0, none⟩) (by show w.heap.size < wr.heap.size; omega)).trans bx) (fun hm => by have := hlo _ hm; omega)
          · have := hb2.size; have := hb4.size; omega
        case measure => simp [intOf]; omega
      | some i =>
        obtain ⟨b', hb'⟩ := find_get hf
        obtain ⟨x, hx, hxb⟩ : ∃ x, acc[i]? = some x ∧ x.b = b' := by
          rw [List.getElem?_map] at hb'
          cases h : acc[i]? with
          | none => rw [h] at hb'; cases hb'
          | some x => rw [h] at hb'; simp at hb'; exact ⟨x, rfl, hb'⟩
        subst hxb
        have hil : i < A := by have := (List.getElem?_eq_some_iff.1 hx).1; rw [HA.out] at this; exact this
        have HEQ := hide (roundM_some HR.out HDD.out hf hx)
        have HAT : Hid (atB dl (acc.map BV.b) = (i : Int)) := hide (by rw [atB, hf])
        rw [HAT.out] at HBR
        have hxm : x ∈ acc := List.mem_of_getElem? hx
        obtain ⟨cg, hcg⟩ : ∃ cg, cp = some ⟨cg, 0, none⟩ := by
          rcases HR.out.own.own.2 with ⟨h0, h1⟩ | ⟨g', cap', cur', hv', _⟩
          · rw [HA.out] at h1; omega
          · injection hv' with hv' _ _; exact ⟨g', hv'⟩
        subst hcg
        obtain ⟨T1, a1, hxu⟩ := (HR.out.own.pcs x hxm).shape
        have HFC : Hid (∀ W, Below wr.heap.size wr W → W.cell? ⟨cg, i * 3 + 1, none⟩ = some (.int .i64 x.b.s) ∧ W.cell? ⟨cg, i * 3 + 2, none⟩ = some (.iface T1 (.agg a1))) := hide (fun W hW => by
          have hw := (HR.out.own.keep hW).own
          obtain ⟨hlt', hxe⟩ := List.getElem?_eq_some_iff.1 hx
          have e := fun j (hj : j < 3) (y : Value) (hy : (x.cells)[j]? = some y) => owns_cell hw (g := cg) (c := cc) (by rw [HA.out]) (i * 3 + j) y ((flat_get BV.cells 3 BV.cells_len acc i hlt' j hj).trans (by rw [hxe]; exact hy))
          exact ⟨e 1 (by omega) _ rfl, e 2 (by omega) _ (by rw [← hxu]; rfl)⟩)
        have HFZ : Hid (∀ W, Below wr.heap.size wr W → ∀ j, W.frozen? ⟨cg, j, none⟩ = false) := hide (fun W hW j => (owns_fresh (HR.out.own.keep hW).own).free cg (by simp [vblocks, cellBlocks]) j)
        have HMC : Hid (∀ W, Below wr.heap.size wr W → Calls Tryz.prog 201 #[.iface T1 (.agg a1), .iface T (.agg av)] W fun e w' => Merged n (but S w.heap.size W.heap.size (.slice (some ⟨cg, 0, none⟩) A cc)) W w' e (mergeN n x.b.p dp)) := hide (fun W hW => by
          have hw := HR.out.own.keep hW
          have hsz1 := (brs_get (f := rowN n) (show (acc.map BV.b)[i]? = some x.b by rw [List.getElem?_map, hx]; rfl)).1
          have hbd := HBD.out
          have hsz := HR.out.sz
          have := HMG.out (but S w.heap.size W.heap.size (.slice (some ⟨cg, 0, none⟩) A cc)) x.b.p dp x.u (.iface T (.agg av)) W (fun g hg => plus_lt hw.low hw.siz hg.1) (HR.out.shp x hxm) HDS1.out (by dsimp only at hbd; omega) (by have := hw.pcs x hxm; exact this) (HU.out W (HR.out.bel.trans (hW.mono hzw)))
          rw [hxu] at this
          exact this)
        obtain ⟨om, hom⟩ : ∃ om, mergeN n x.b.p dp = om := ⟨_, rfl⟩
        obtain ⟨rq, hrq⟩ : ∃ rq, (x.b.s == dsrt) = rq := ⟨_, rfl⟩
        obtain ⟨xs, hxs⟩ : ∃ xs, x.b.s = xs := ⟨_, rfl⟩
        have HOM := hide hom
        have HRQ := hide hrq
        rw [hom] at HMC
        rw [hxs] at HFC hrq
        have HXX := hide hx
        have HXS := hide hxs
        clear hf hb' hx hxu hom hxs hxm
        cases om with
        | none =>
          have HFIN : Hid (mergeBy (mergeN n) cs ds = none) := hide (by rw [HEQ.out]; dsimp only; rw [HOM.out])
          go_wp2_with (go_at_call 213; refine (HBR.out _ (malloc1 _ _)).mono ?_; rintro e w2 ⟨rfl, hb2⟩; have HB2 : Hid (Below wr.heap.size wr w2) := hide ((malloc1 wr _).trans (hb2.mono (by simp))); have z0 := (hb2.cell (p := ⟨wr.heap.size, 0, none⟩) (by simp)); have z1 := (hb2.cell (p := ⟨wr.heap.size, 1, none⟩) (by simp)); have z2 := (hb2.cell (p := ⟨wr.heap.size, 2, none⟩) (by simp)); simp at z0 z1 z2; obtain ⟨f1, f2⟩ := HFC.out w2 HB2.out; have hzz2 : wr.heap.size < w2.heap.size := (by have := hb2.size; simp at this; omega); clear hb2)
          go_region_law (go_simp; go_at_call 201; refine (HMC.out _ HB2.out.drew).mono ?_; rintro e w3 ⟨q3, rfl, h3a, h3b, hif3⟩; clear hif3; have H3A := hide h3a; have HB3 : Hid (Below wr.heap.size wr w3) := hide (HB2.out.drew.trans (h3b.mono HB2.out.drew.size)); obtain ⟨t1, t2⟩ := HFC.out w3 HB3.out; have y1 : w3.cell? ⟨wr.heap.size, 1, none⟩ = some (.int .i64 dsrt) := (h3b.cell (p := ⟨wr.heap.size, 1, none⟩) hzz2).trans z1; have hf3 := HFZ.out w3 HB3.out; clear h3a h3b)
          all_goals
            go_wp2_with fail
            refine wp_region_grown (by kernel_rfl) (by kernel_rfl) (fun V hV => ?_)
            simp only [Act.put, List.getElem_toArray, List.getElem_cons_succ, List.getElem_cons_zero, List.setIfInBounds_toArray, List.set_cons_zero, List.set_cons_succ]
            have hne9 := grown_some V
            have g1 := grown_cell (w := V) (by rw [hV]; exact t1)
            have g2 := grown_cell (w := V) (by rw [hV]; exact y1)
            have HV := hide hV
            clear hV
            repeat (go_big_quiet_step (fail))
            refine wpQuiet_nil ?_
            intro w4 hw4
            rw [HV.out] at hw4
            have HB4 : Hid (Below wr.heap.size wr w4) := hide (HB3.out.trans (hw4.mono HB3.out.size))
            have HB34 := hide hw4
            clear hw4 hne9 g1 g2 HV
            go_wp2_with fail
            go_ret2
            rw [HFIN.out]
            exact ⟨_, rfl, (fun z hz => by cases hz), HR.out.bel.trans (HB4.out.mono hzw), (by first | exact .inl rfl | exact .inr ⟨_, _, rfl⟩)⟩
        | some q =>
          cases rq with
          | false =>
            have HFIN : Hid (mergeBy (mergeN n) cs ds = none) := hide (by rw [HEQ.out]; dsimp only; rw [HOM.out, HRQ.out]; rfl)
            go_wp2_with (go_at_call 213; refine (HBR.out _ (malloc1 _ _)).mono ?_; rintro e w2 ⟨rfl, hb2⟩; have HB2 : Hid (Below wr.heap.size wr w2) := hide ((malloc1 wr _).trans (hb2.mono (by simp))); have z0 := (hb2.cell (p := ⟨wr.heap.size, 0, none⟩) (by simp)); have z1 := (hb2.cell (p := ⟨wr.heap.size, 1, none⟩) (by simp)); have z2 := (hb2.cell (p := ⟨wr.heap.size, 2, none⟩) (by simp)); simp at z0 z1 z2; obtain ⟨f1, f2⟩ := HFC.out w2 HB2.out; have hzz2 : wr.heap.size < w2.heap.size := (by have := hb2.size; simp at this; omega); clear hb2)
            go_region_law (go_simp; go_at_call 201; refine (HMC.out _ HB2.out.drew).mono ?_; rintro e w3 ⟨q3, rfl, h3a, h3b, hif3⟩; clear hif3; have H3A := hide h3a; have HB3 : Hid (Below wr.heap.size wr w3) := hide (HB2.out.drew.trans (h3b.mono HB2.out.drew.size)); obtain ⟨t1, t2⟩ := HFC.out w3 HB3.out; have y1 : w3.cell? ⟨wr.heap.size, 1, none⟩ = some (.int .i64 dsrt) := (h3b.cell (p := ⟨wr.heap.size, 1, none⟩) hzz2).trans z1; have hf3 := HFZ.out w3 HB3.out; clear h3a h3b)
            all_goals
              go_wp2_with fail
              refine wp_region_grown (by kernel_rfl) (by kernel_rfl) (fun V hV => ?_)
              simp only [Act.put, List.getElem_toArray, List.getElem_cons_succ, List.getElem_cons_zero, List.setIfInBounds_toArray, List.set_cons_zero, List.set_cons_succ]
              have hne9 := grown_some V
              have g1 := grown_cell (w := V) (by rw [hV]; exact t1)
              have g2 := grown_cell (w := V) (by rw [hV]; exact y1)
              have HV := hide hV
              clear hV
              repeat (go_big_quiet_step (fail))
              refine wpQuiet_nil ?_
              intro w4 hw4
              rw [HV.out] at hw4
              have HB4 : Hid (Below wr.heap.size wr w4) := hide (HB3.out.trans (hw4.mono HB3.out.size))
              have HB34 := hide hw4
              clear hw4 hne9 g1 g2 HV
              go_wp2_with fail
              go_ret2
              rw [HFIN.out]
              exact ⟨_, rfl, (fun z hz => by cases hz), HR.out.bel.trans (HB4.out.mono hzw), (by first | exact .inl rfl | exact .inr ⟨_, _, rfl⟩)⟩
          | true =>
            go_wp2_with (go_at_call 213; refine (HBR.out _ (malloc1 _ _)).mono ?_; rintro e w2 ⟨rfl, hb2⟩; have HB2 : Hid (Below wr.heap.size wr w2) := hide ((malloc1 wr _).trans (hb2.mono (by simp))); have z0 := (hb2.cell (p := ⟨wr.heap.size, 0, none⟩) (by simp)); have z1 := (hb2.cell (p := ⟨wr.heap.size, 1, none⟩) (by simp)); have z2 := (hb2.cell (p := ⟨wr.heap.size, 2, none⟩) (by simp)); simp at z0 z1 z2; obtain ⟨f1, f2⟩ := HFC.out w2 HB2.out; have hzz2 : wr.heap.size < w2.heap.size := (by have := hb2.size; simp at this; omega); clear hb2)
            go_region_law (go_simp; go_at_call 201; refine (HMC.out _ HB2.out.drew).mono ?_; rintro e w3 ⟨q3, rfl, h3a, h3b, hif3⟩; clear hif3; have H3A := hide (h3a q rfl); obtain ⟨Tq, aq, rfl⟩ := (h3a q rfl).shape; have H23 : Hid (w2.heap.size ≤ w3.heap.size) := hide (by have := h3b.size; simpa using this); have HB3 : Hid (Below wr.heap.size wr w3) := hide (HB2.out.drew.trans (h3b.mono HB2.out.drew.size)); obtain ⟨t1, t2⟩ := HFC.out w3 HB3.out; have y1 : w3.cell? ⟨wr.heap.size, 1, none⟩ = some (.int .i64 dsrt) := (h3b.cell (p := ⟨wr.heap.size, 1, none⟩) hzz2).trans z1; have hf3 := HFZ.out w3 HB3.out; clear h3a h3b)
            all_goals
              go_wp2_with fail
              refine wp_region_grown (by kernel_rfl) (by kernel_rfl) (fun V hV => ?_)
              simp only [Act.put, List.getElem_toArray, List.getElem_cons_succ, List.getElem_cons_zero, List.setIfInBounds_toArray, List.set_cons_zero, List.set_cons_succ]
              have hne9 := grown_some V
              have g1 := grown_cell (w := V) (by rw [hV]; exact t1)
              have g2 := grown_cell (w := V) (by rw [hV]; exact y1)
              have HV := hide hV
              clear hV
              repeat (go_big_quiet_step (fail))
              refine wpQuiet_nil ?_
              intro w4 hw4
              rw [HV.out] at hw4
              have HB4 : Hid (Below wr.heap.size wr w4) := hide (HB3.out.trans (hw4.mono HB3.out.size))
              have HB34 := hide hw4
              clear hw4 hne9 g1 g2 HV
              have hf4 := HFZ.out w4 HB4.out
              obtain ⟨v1, v2⟩ := HFC.out w4 HB4.out
              go_wp2_with fail
              go_roundw
              case rel =>
                have hw4 := HR.out.own.keep HB4.out
                have hcgl : cg < wr.heap.size := (owns_fresh HR.out.own.own).hi cg (by simp [vblocks, cellBlocks])
                have hcgb : w.heap.size + 2 ≤ cg := (owns_fresh HR.out.own.own).lo cg (by simp [vblocks, cellBlocks])
                have hb2s := HB2.out.size
                have hb34 := HB34.out.size
                have hq4 : PcAt w4 (but S w.heap.size w4.heap.size (.slice (some ⟨cg, 0, none⟩) A cc)) n q (.iface Tq (.agg aq)) := PcAt.carry (fun g hg => HB34.out.block g (by
                  rcases hg with hg | hg
                  · have := plus_lt (HR.out.own.keep HB2.out).low (HR.out.own.keep HB2.out).siz hg.1
                    have h23 := HB3.out.size
                    have : w2.heap.size ≤ w3.heap.size := H23.out
                    omega
                  · exact hg.2)) (fun g hg => by
                  rcases hg with hg | hg
                  · exact ⟨plus_up (Nat.le_trans H23.out hb34) hg.1, hg.2⟩
                  · refine ⟨.inr ⟨by have := hg.1; simp at this; omega, Nat.lt_of_lt_of_le hg.2 hb34⟩, fun hm => ?_⟩
                    simp [vblocks, cellBlocks] at hm
                    have := hg.1
                    simp at this
                    omega) _ _ _ H3A.out
                have hset := bro_set (g := cg) (cap := cc) (by rw [HA.out]; exact hw4) HXX.out q (.iface Tq (.agg aq)) (by rw [HA.out]; exact hq4)
                rw [HA.out] at hset
                have hmi : (acc.map BV.b)[i]? = some x.b := by rw [List.getElem?_map, HXX.out]; rfl
                have hs1 := (brs_set (f := rowN n) ⟨x.b.l, x.b.s, q⟩ hmi).1
                have hs2 := (merge_sz n x.b.p dp q HOM.out).1
                have hbd := HBD.out
                have hsz := HR.out.sz
                have hmap : (acc.set i ⟨⟨x.b.l, x.b.s, q⟩, .iface Tq (.agg aq)⟩).map BV.b = (acc.map BV.b).set i ⟨x.b.l, x.b.s, q⟩ := by rw [List.map_set]
                have hwb : Below w.heap.size w w4 := HR.out.bel.trans (HB4.out.mono hzw)
                refine ⟨k + 1, acc.set i ⟨⟨x.b.l, x.b.s, q⟩, .iface Tq (.agg aq)⟩, hlt, by go_num, ⟨?_, hset.1, ?_, fun y hy => ?_, hwb.trans (hset.2.below hwb.size (by simp; omega)), ?_, ?_⟩⟩
                · rw [hmap, HEQ.out, HOM.out]
                  show _ = if (x.b.s == dsrt) = true then _ else none
                  rw [HRQ.out]
                  rfl
                · rw [hmap]
                  dsimp only at hs1 hbd
                  omega
                · rcases mem_set hy with hy | hy
                  · exact HR.out.shp y hy
                  · subst hy
                    exact merge_shape n x.b.p dp q (HR.out.shp x (List.mem_of_getElem? HXX.out)) HDS1.out HOM.out
                · rw [World.cell?_setCell_other _ _ _ _ (by intro e; injection e with e1 _; omega)]
                  exact (HB4.out.cell (p := ⟨w.heap.size, 0, none⟩) (by show w.heap.size < wr.heap.size; omega)).trans bx
                · rw [World.size_setCell]; have := HB4.out.size; omega
              case measure => simp [intOf]; omega
    · obtain rfl : k = D := by omega
      have HSM := hide HR.out.same
      rw [List.drop_of_length_le (by rw [HD.out]; exact Nat.le_refl _), mergeBy] at HSM
      have HAB : Hid ((acc.map BV.b).length = A) := hide (by rw [List.length_map, HA.out])
      have HSL := hide HR.out.own.sl
      by_cases h4 : A ≤ 4
      · go_wp2_with fail
        go_ret2
        rw [← HSM.out, hearO, if_pos (by rw [HAB.out]; exact h4)]
        exact ⟨_, ret2_bool (by simp; omega), (fun z hz => by injection hz with hz; subst hz; exact ⟨_, rfl, HSL.out⟩), HR.out.bel, (by first | exact .inl rfl | exact .inr ⟨_, _, rfl⟩)⟩
      · go_wp2_with fail
        go_ret2
        rw [← HSM.out, hearO, if_neg (by rw [HAB.out]; exact h4)]
        exact ⟨_, ret2_bool (by simp; omega), (fun z hz => by cases hz), HR.out.bel, (by first | exact .inl rfl | exact .inr ⟨_, _, rfl⟩)⟩
end Go.Proofs.YtaaeledleldllaaGreat
