import Derived.Test.YtmjlblbhakppfaaGreatDoorQP24
namespace Go.Proofs.YtmjlblbhakppfaaGreatDoor
open Go.RowKit
attribute [local go_sem ↓] Go.wp_at_zero Go.wp_at_succ

def hearO (n : Nat) (a : ByteArray) (r : Option (List (Br (Pn n)))) : Option (Pn (n + 1)) := match r with
  | some l => if l.length ≤ 4 then some (.talk ⟨6, noT, a⟩ l) else none
  | none => none
theorem brs_count {α : Type} (f : α → List Nd) : ∀ l : List (Br α), l.length ≤ (brsBy f l).length
  | [] => Nat.le_refl _
  | b :: l => by rw [brs_cons]; have := brs_count f l; simp only [List.length_cons, List.length_append]; omega
theorem find_get {α : Type} {t : ByteArray} : ∀ {l : List (Br α)} {i : Nat}, findB t l = some i → ∃ b, l[i]? = some b
  | [], i, h => by cases h
  | c :: l, i, h => by
    rw [findB] at h
    split at h
    · injection h with h; subst h; exact ⟨c, rfl⟩
    · cases hf : findB t l with
      | none => rw [hf] at h; cases h
      | some j =>
        rw [hf] at h
        simp only [Option.map_some, Option.some.injEq] at h
        subst h
        obtain ⟨b, hb⟩ := find_get hf
        exact ⟨b, by rw [List.getElem?_cons_succ]; exact hb⟩
theorem ret2_bool {q : Value} {a b : Bool} (h : b = a) : Ending.returned (.tuple #[q, .bool a]) = .returned (.tuple #[q, .bool b]) := by rw [h]
structure RoundM (n : Nat) (S : Nat → Prop) (w wr : World) (a : ByteArray) (cs ds : List (Br (Pn n))) (cv : Value) (k : Nat) (acc : List (BV n)) : Prop where
  same : mergeBy (mergeN n) (acc.map BV.b) (ds.drop k) = mergeBy (mergeN n) cs ds
  own : BrO S w.heap.size wr (w.heap.size + 2) cv acc
  sz : (brsBy (rowN n) (acc.map BV.b)).length + (brsBy (rowN n) (ds.drop k)).length ≤ 898
  shp : ∀ x ∈ acc, shapeN n x.b.p
  bel : Below w.heap.size w wr
  box : wr.cell? ⟨w.heap.size, 0, none⟩ = some (.string a)
  siz : w.heap.size + 2 ≤ wr.heap.size
def MergeCalls (n : Nat) : Prop := ∀ (S : Nat → Prop) (x y : Pn n) (u v : Value) (w : World), (∀ g, S g → g < w.heap.size) → shapeN n x → shapeN n y → (rowN n x).length + (rowN n y).length ≤ 900 → PcAt w S n x u → PcAt w S n y v → Calls Tryz.prog 144 #[u, v] w fun e w' => Merged n S w w' e (mergeN n x y)
theorem roundM_none {n : Nat} {S : Nat → Prop} {w wr : World} {a : ByteArray} {cs ds : List (Br (Pn n))} {cv : Value} {k : Nat} {acc : List (BV n)} (h : RoundM n S w wr a cs ds cv k acc) {d : Br (Pn n)} (hd : ds[k]? = some d) (hf : findB d.l (acc.map BV.b) = none) : mergeBy (mergeN n) (acc.map BV.b ++ [d]) (ds.drop (k + 1)) = mergeBy (mergeN n) cs ds := by
  have hlt := (List.getElem?_eq_some_iff.1 hd).1
  have hde : ds[k] = d := (List.getElem?_eq_some_iff.1 hd).2
  rw [← h.same, List.drop_eq_getElem_cons hlt, hde, mergeBy, hf]
theorem roundM_some {n : Nat} {S : Nat → Prop} {w wr : World} {a : ByteArray} {cs ds : List (Br (Pn n))} {cv : Value} {k i : Nat} {acc : List (BV n)} (h : RoundM n S w wr a cs ds cv k acc) {d : Br (Pn n)} {x : BV n} (hd : ds[k]? = some d) (hf : findB d.l (acc.map BV.b) = some i) (hx : acc[i]? = some x) : mergeBy (mergeN n) cs ds = match mergeN n x.b.p d.p with
    | none => none
    | some q => if x.b.s == d.s then mergeBy (mergeN n) ((acc.map BV.b).set i ⟨x.b.l, x.b.s, q⟩) (ds.drop (k + 1)) else none := by
  have hlt := (List.getElem?_eq_some_iff.1 hd).1
  have hde : ds[k] = d := (List.getElem?_eq_some_iff.1 hd).2
  have hm : (acc.map BV.b)[i]? = some x.b := by rw [List.getElem?_map, hx]; rfl
  rw [← h.same, List.drop_eq_getElem_cons hlt, hde, mergeBy, hf]
  simp only [hm]
  cases mergeN n x.b.p d.p <;> rfl
theorem brs_drop {n : Nat} {ds : List (Br (Pn n))} {k : Nat} {d : Br (Pn n)} (hd : ds[k]? = some d) : (brsBy (rowN n) (ds.drop k)).length = 1 + (rowN n d.p).length + (brsBy (rowN n) (ds.drop (k + 1))).length := by
  have hlt := (List.getElem?_eq_some_iff.1 hd).1
  have hde : ds[k] = d := (List.getElem?_eq_some_iff.1 hd).2
  rw [List.drop_eq_getElem_cons hlt, hde, brs_cons]
  simp only [List.length_cons, List.length_append]
  omega
set_option maxRecDepth 100000 in
set_option maxHeartbeats 4000000 in
theorem merge_hear (n : Nat) (S : Nat → Prop) (hmg : MergeCalls n) (a b : ByteArray) (cs ds : List (Br (Pn n))) (hcs : ∀ x ∈ cs, shapeN n x.p) (hds : ∀ x ∈ ds, shapeN n x.p) (hsz : (brsBy (rowN n) cs).length + (brsBy (rowN n) ds).length ≤ 898) (hne : cs ≠ []) (sl1 sl2 : Value) (w : World) (hS : ∀ g, S g → g < w.heap.size) (h1 : BrS w S sl1 cs) (h2 : BrS w S sl2 ds) :
    Calls Tryz.prog 153 #[.agg #[.string a, sl1], .agg #[.string b, sl2]] w fun e w' => Merged (n + 1) S w w' e (hearO n a (mergeBy (mergeN n) cs ds)) := by
  obtain ⟨i0, hi, hz0, hz1, hz2⟩ := info_parts Tryz.infoBr
  have HI := hide (And.intro hi (And.intro hz0 (And.intro hz1 hz2)))
  have HMG := hide hmg
  have HSS := hide hS
  have HCS := hide hcs
  have HDS := hide hds
  have HSZ := hide hsz
  have hc9 : cs.length ≤ 1000 := by have := brs_count (rowN n) cs; omega
  have hd9 : ds.length ≤ 1000 := by have := brs_count (rowN n) ds; omega
  have HCL : Hid (∀ o1 o2 : Obj, Calls Tryz.prog 156 #[sl1] ((w.alloc o1).alloc o2) fun e w' => ∃ v' L, e = .returned v' ∧ L.map BV.b = cs ∧ BrO S w.heap.size w' (w.heap.size + 2) v' (L : List (BV n)) ∧ Below (w.heap.size + 2) ((w.alloc o1).alloc o2) w') := hide (fun o1 o2 => by
    have hb2 : Below w.heap.size w ((w.alloc o1).alloc o2) := (malloc1 w o1).trans ((malloc1 _ o2).mono (by simp))
    have := clone_br n S w.heap.size cs sl1 ((w.alloc o1).alloc o2) hS (by simp; omega) (h1.carry (fun g hg => hb2.block g (hS g hg)) (fun g hg => hg)) hc9 hne
    simpa using this)
  obtain ⟨ao1, cap1, rfl, -⟩ := h1
  obtain ⟨ao2, cap2, rfl, -, hcm2, hr2⟩ := h2
  have HR2 := hide hr2
  obtain ⟨D, hD⟩ : ∃ D, ds.length = D := ⟨_, rfl⟩
  rw [hD] at hd9 ⊢
  have HD := hide hD
  clear hi hz0 hz1 hz2 hr2 hmg hcs hds hsz hD
  go_enter Tryz.func153, Tryz.ntmps153
  go_wp2_with (go_at_call 156; refine (HCL.out _ _).mono ?_; rintro e w1 ⟨cv1, L1, rfl, e1, ho1, hb1⟩; have HE1 := hide e1; have HO1 := hide ho1; have HB1 := hide hb1; have x0 := (hb1.cell (p := ⟨w.heap.size, 0, none⟩) (by simp)); have y1 := (hb1.cell (p := ⟨w.heap.size + 1, 1, none⟩) (by simp)); simp at x0 y1; have HZ1 : Hid (w.heap.size + 2 ≤ w1.heap.size) := hide (by have := hb1.size; simpa using this); clear e1 ho1 hb1)
  go_loopw [6, 18] (fun cv i wr => ∃ (k : Nat) (acc : List (BV n)), k ≤ D ∧ i = .int .i64 k ∧ RoundM n S w wr a cs ds cv k acc) (fun _ i _ => D - (intOf i).toNat)
  case atStart =>
    refine ⟨0, L1, Nat.zero_le _, rfl, ⟨by rw [HE1.out]; rfl, HO1.out, by rw [HE1.out]; exact HSZ.out, fun x hx => HCS.out x.b (by rw [← HE1.out]; exact List.mem_map_of_mem hx), ?_, x0, HZ1.out⟩⟩
    exact ((malloc1 w _).trans ((malloc1 _ _).mono (by simp))).trans (HB1.out.mono (by omega))
  case round =>
    obtain ⟨k, acc, hk, rfl, hR⟩ := hrel
    have HR := hide hR
    have hzw := hR.bel.size
    have hz2 := hR.siz
    have hal : acc.length ≤ 898 := by have := brs_count (rowN n) (acc.map BV.b); rw [List.length_map] at this; have := hR.sz; omega
    obtain ⟨cp, cc, hcv⟩ := owns_shape hR.own.own
    obtain ⟨A, hA⟩ : ∃ A, acc.length = A := ⟨_, rfl⟩
    rw [hA] at hal hcv
    have HA := hide hA
    subst hcv
    have bx := hR.box
    clear hR hA
    by_cases hlt : k < D
    · obtain ⟨g, o, rfl, hg, hcells⟩ := HR2.out (by rintro rfl; have := HD.out; simp at this; omega)
      obtain ⟨d, hd⟩ : ∃ d, ds[k]? = some d := ⟨ds[k]'(by rw [HD.out]; exact hlt), List.getElem?_eq_getElem _⟩
      obtain ⟨k1, k2, u, k3, k4⟩ := hcells k d hd
      have HDD := hide hd
      have hgw : g < w.heap.size := HSS.out g hg
      have e1 := (HR.out.bel.cell (p := ⟨g, o + k * 3, none⟩) hgw).trans k1
      have e2 := (HR.out.bel.cell (p := ⟨g, o + k * 3 + 1, none⟩) hgw).trans k2
      have e3 := (HR.out.bel.cell (p := ⟨g, o + k * 3 + 2, none⟩) hgw).trans k3
      have HU : Hid (∀ W, Below w.heap.size w W → PcAt W (but S w.heap.size W.heap.size (.slice cp A cc)) n d.p u) := hide (fun W hW => PcAt.carry (fun b hb => hW.block b (HSS.out b hb)) (fun b hb => ⟨.inl hb, fun hm => by have := (owns_fresh HR.out.own.own).lo b hm; have hb' := HSS.out b hb; omega⟩) _ _ _ k4)
      have HDS1 : Hid (shapeN n d.p) := hide (HDS.out d (List.mem_of_getElem? hd))
      have HBD := hide (brs_drop hd)
      obtain ⟨T, av, rfl⟩ := k4.shape
      obtain ⟨dl, dsrt, dp⟩ := d
      dsimp only at e1 e2
      have HBR : Hid (∀ W, Below wr.heap.size wr W → Calls Tryz.prog 157 #[.slice cp A cc, .string dl] W fun e w' => e = .returned (.int .i64 (atB dl (acc.map BV.b))) ∧ Below W.heap.size W w') := hide (fun W hW => branch_at n dl _ (acc.map BV.b) _ W ((HR.out.own.keep hW).sl) (by rw [List.length_map, HA.out]; omega))
      clear hcells k1 k2 k3 k4 hd
      cases hf : findB dl (acc.map BV.b) with
      | none =>
        have HAT : Hid (atB dl (acc.map BV.b) = -1) := hide (by rw [atB, hf])
        rw [HAT.out] at HBR
        have HNX := hide (roundM_none HR.out HDD.out hf)
        clear hf
        go_wp2_with (first
          | (go_at_call 157; refine (HBR.out _ (malloc1 _ _)).mono ?_; rintro e w2 ⟨rfl, hb2⟩; have HB2 : Hid (Below wr.heap.size wr w2) := hide ((malloc1 wr _).trans (hb2.mono (by simp))); have z0 := (hb2.cell (p := ⟨wr.heap.size, 0, none⟩) (by simp)); have z1 := (hb2.cell (p := ⟨wr.heap.size, 1, none⟩) (by simp)); have z2 := (hb2.cell (p := ⟨wr.heap.size, 2, none⟩) (by simp)); simp at z0 z1 z2; have HO2 := hide (HR.out.own.keep HB2.out); clear hb2)
          | (at_builtin; refine wpList_append_own_at _ rfl (.tmp 28) (.tmp 30) 112 rfl (w.heap.size + 2) 149 i0 (.agg #[.string ByteArray.empty, .int .i64 0, .nilIface]) 3 40 Tryz.underlying112 HI.out.1 HI.out.2.1 HI.out.2.2.1 HI.out.2.2.2 rfl (by decide) (.slice cp A cc) A (acc.flatMap BV.cells) rfl (by have := HO2.out.own; rw [HA.out] at this; exact owns_below this (malloc1 _ _)) ⟨w2.heap.size, 0, none⟩ 1 1 (BV.cells (n := n) ⟨⟨dl, dsrt, dp⟩, .iface T (.agg av)⟩) rfl rfl (fun j u hj => new_rowq w2 _ _ _ rfl j u hj) (bv_one (HU.out w (Below.refl _ _))) (by unfold maxLen; omega) (by omega) (by have := HB2.out.size; simp; omega) ?_; intro v4 w4 hown4 hgr4 _ hat4; have HM4 := hide (bro_push HO2.out ⟨⟨dl, dsrt, dp⟩, .iface T (.agg av)⟩ (HU.out w2 (HR.out.bel.trans (HB2.out.mono hzw))) _ (by rw [HA.out]; exact hown4) hgr4 hat4); obtain ⟨p4, c4, rfl⟩ := owns_shape hown4; clear hown4 hgr4 hat4))
        go_roundw
        case rel =>
          have hlo := (owns_fresh HR.out.own.own).lo
          have hb2 := HB2.out
          have hb4 : Below w.heap.size w2 w4 := HM4.out.2.below (by have := hb2.size; omega) (fun b hb => by have := hlo b hb; omega)
          have hd1 : (brsBy (rowN n) [(⟨dl, dsrt, dp⟩ : Br (Pn n))]).length = 1 + (rowN n dp).length := by rw [brs_cons]; simp [brsBy]; omega
          have hbd := HBD.out
          have hsz := HR.out.sz
          refine ⟨k + 1, acc ++ [⟨⟨dl, dsrt, dp⟩, .iface T (.agg av)⟩], hlt, by go_num, ⟨by rw [List.map_append]; exact HNX.out, HM4.out.1, ?_, fun x hx => ?_, (HR.out.bel.trans (hb2.mono hzw)).trans hb4, ?_, ?_⟩⟩
          · rw [List.map_append, brs_app, List.length_append]
            have e : (brsBy (rowN n) (List.map BV.b [(⟨⟨dl, dsrt, dp⟩, .iface T (.agg av)⟩ : BV n)])).length = 1 + (rowN n dp).length := hd1
            omega
          · rw [List.mem_append] at hx
            rcases hx with hx | hx
            · exact HR.out.shp x hx
            · simp at hx
              subst hx
              exact HDS1.out
          · exact HM4.out.2.cell' ((hb2.cell (p := ⟨w.heap.size, 0, none⟩) (by show w.heap.size < wr.heap.size; omega)).trans bx) (fun hm => by have := hlo _ hm; omega)
          · have := hb2.size; have := hb4.size; omega
        case measure => simp [intOf]; omega
      | some i =>
        obtain ⟨b', hb'⟩ := find_get hf
        obtain ⟨x, hx, hxb⟩ : ∃ x, acc[i]? = some x ∧ x.b = b' := by
          rw [List.getElem?_map] at hb'
          cases h : acc[i]? with
          | none => rw [h] at hb'; cases hb'
          | some x => rw [h] at hb'; simp at hb'; exact ⟨x, rfl, hb'⟩
        subst hxb
        have hil : i < A := by have := (List.getElem?_eq_some_iff.1 hx).1; rw [HA.out] at this; exact this
        have HEQ := hide (roundM_some HR.out HDD.out hf hx)
        have HAT : Hid (atB dl (acc.map BV.b) = (i : Int)) := hide (by rw [atB, hf])
        rw [HAT.out] at HBR
        have hxm : x ∈ acc := List.mem_of_getElem? hx
        obtain ⟨cg, hcg⟩ : ∃ cg, cp = some ⟨cg, 0, none⟩ := by
          rcases HR.out.own.own.2 with ⟨h0, h1⟩ | ⟨g', cap', cur', hv', _⟩
          · rw [HA.out] at h1; omega
          · injection hv' with hv' _ _; exact ⟨g', hv'⟩
        subst hcg
        obtain ⟨T1, a1, hxu⟩ := (HR.out.own.pcs x hxm).shape
        have HFC : Hid (∀ W, Below wr.heap.size wr W → W.cell? ⟨cg, i * 3 + 1, none⟩ = some (.int .i64 x.b.s) ∧ W.cell? ⟨cg, i * 3 + 2, none⟩ = some (.iface T1 (.agg a1))) := hide (fun W hW => by
          have hw := (HR.out.own.keep hW).own
          obtain ⟨hlt', hxe⟩ := List.getElem?_eq_some_iff.1 hx
          have e := fun j (hj : j < 3) (y : Value) (hy : (x.cells)[j]? = some y) => owns_cell hw (g := cg) (c := cc) (by rw [HA.out]) (i * 3 + j) y ((flat_get BV.cells 3 BV.cells_len acc i hlt' j hj).trans (by rw [hxe]; exact hy))
          exact ⟨e 1 (by omega) _ rfl, e 2 (by omega) _ (by rw [← hxu]; rfl)⟩)
        have HFZ : Hid (∀ W, Below wr.heap.size wr W → ∀ j, W.frozen? ⟨cg, j, none⟩ = false) := hide (fun W hW j => (owns_fresh (HR.out.own.keep hW).own).free cg (by simp [vblocks, cellBlocks]) j)
        have HMC : Hid (∀ W, Below wr.heap.size wr W → Calls Tryz.prog 144 #[.iface T1 (.agg a1), .iface T (.agg av)] W fun e w' => Merged n (but S w.heap.size W.heap.size (.slice (some ⟨cg, 0, none⟩) A cc)) W w' e (mergeN n x.b.p dp)) := hide (fun W hW => by
          have hw := HR.out.own.keep hW
          have hsz1 := (brs_get (f := rowN n) (show (acc.map BV.b)[i]? = some x.b by rw [List.getElem?_map, hx]; rfl)).1
          have hbd := HBD.out
          have hsz := HR.out.sz
          have := HMG.out (but S w.heap.size W.heap.size (.slice (some ⟨cg, 0, none⟩) A cc)) x.b.p dp x.u (.iface T (.agg av)) W (fun g hg => plus_lt hw.low hw.siz hg.1) (HR.out.shp x hxm) HDS1.out (by dsimp only at hbd; omega) (by have := hw.pcs x hxm; exact this) (HU.out W (HR.out.bel.trans (hW.mono hzw)))
          rw [hxu] at this
          exact this)
        obtain ⟨om, hom⟩ : ∃ om, mergeN n x.b.p dp = om := ⟨_, rfl⟩
        obtain ⟨rq, hrq⟩ : ∃ rq, (x.b.s == dsrt) = rq := ⟨_, rfl⟩
        obtain ⟨xs, hxs⟩ : ∃ xs, x.b.s = xs := ⟨_, rfl⟩
        have HOM := hide hom
        have HRQ := hide hrq
        rw [hom] at HMC
        rw [hxs] at HFC hrq
        have HXX := hide hx
        have HXS := hide hxs
        clear hf hb' hx hxu hom hxs hxm
        cases om with
        | none =>
          have HFIN : Hid (mergeBy (mergeN n) cs ds = none) := hide (by rw [HEQ.out]; dsimp only; rw [HOM.out])
          go_wp2_with (go_at_call 157; refine (HBR.out _ (malloc1 _ _)).mono ?_; rintro e w2 ⟨rfl, hb2⟩; have HB2 : Hid (Below wr.heap.size wr w2) := hide ((malloc1 wr _).trans (hb2.mono (by simp))); have z0 := (hb2.cell (p := ⟨wr.heap.size, 0, none⟩) (by simp)); have z1 := (hb2.cell (p := ⟨wr.heap.size, 1, none⟩) (by simp)); have z2 := (hb2.cell (p := ⟨wr.heap.size, 2, none⟩) (by simp)); simp at z0 z1 z2; obtain ⟨f1, f2⟩ := HFC.out w2 HB2.out; have hzz2 : wr.heap.size < w2.heap.size := (by have := hb2.size; simp at this; omega); clear hb2)
          go_region_law (go_simp; go_at_call 144; refine (HMC.out _ HB2.out.drew).mono ?_; rintro e w3 ⟨q3, rfl, h3a, h3b, hif3⟩; clear hif3; have H3A := hide h3a; have HB3 : Hid (Below wr.heap.size wr w3) := hide (HB2.out.drew.trans (h3b.mono HB2.out.drew.size)); obtain ⟨t1, t2⟩ := HFC.out w3 HB3.out; have y1 : w3.cell? ⟨wr.heap.size, 1, none⟩ = some (.int .i64 dsrt) := (h3b.cell (p := ⟨wr.heap.size, 1, none⟩) hzz2).trans z1; have hf3 := HFZ.out w3 HB3.out; clear h3a h3b)
          all_goals
            go_wp2_with fail
            refine wp_region_grown (by kernel_rfl) (by kernel_rfl) (fun V hV => ?_)
            simp only [Act.put, List.getElem_toArray, List.getElem_cons_succ, List.getElem_cons_zero, List.setIfInBounds_toArray, List.set_cons_zero, List.set_cons_succ]
            have hne9 := grown_some V
            have g1 := grown_cell (w := V) (by rw [hV]; exact t1)
            have g2 := grown_cell (w := V) (by rw [hV]; exact y1)
            have HV := hide hV
            clear hV
            repeat (go_big_quiet_step (fail))
            refine wpQuiet_nil ?_
            intro w4 hw4
            rw [HV.out] at hw4
            have HB4 : Hid (Below wr.heap.size wr w4) := hide (HB3.out.trans (hw4.mono HB3.out.size))
            have HB34 := hide hw4
            clear hw4 hne9 g1 g2 HV
            go_wp2_with fail
            go_ret2
            rw [HFIN.out]
            exact ⟨_, rfl, (fun z hz => by cases hz), HR.out.bel.trans (HB4.out.mono hzw), (by first | exact .inl rfl | exact .inr ⟨_, _, rfl⟩)⟩
        | some q =>
          cases rq with
          | false =>
            have HFIN : Hid (mergeBy (mergeN n) cs ds = none) := hide (by rw [HEQ.out]; dsimp only; rw [HOM.out, HRQ.out]; rfl)
            go_wp2_with (go_at_call 157; refine (HBR.out _ (malloc1 _ _)).mono ?_; rintro e w2 ⟨rfl, hb2⟩; have HB2 : Hid (Below wr.heap.size wr w2) := hide ((malloc1 wr _).trans (hb2.mono (by simp))); have z0 := (hb2.cell (p := ⟨wr.heap.size, 0, none⟩) (by simp)); have z1 := (hb2.cell (p := ⟨wr.heap.size, 1, none⟩) (by simp)); have z2 := (hb2.cell (p := ⟨wr.heap.size, 2, none⟩) (by simp)); simp at z0 z1 z2; obtain ⟨f1, f2⟩ := HFC.out w2 HB2.out; have hzz2 : wr.heap.size < w2.heap.size := (by have := hb2.size; simp at this; omega); clear hb2)
            go_region_law (go_simp; go_at_call 144; refine (HMC.out _ HB2.out.drew).mono ?_; rintro e w3 ⟨q3, rfl, h3a, h3b, hif3⟩; clear hif3; have H3A := hide h3a; have HB3 : Hid (Below wr.heap.size wr w3) := hide (HB2.out.drew.trans (h3b.mono HB2.out.drew.size)); obtain ⟨t1, t2⟩ := HFC.out w3 HB3.out; have y1 : w3.cell? ⟨wr.heap.size, 1, none⟩ = some (.int .i64 dsrt) := (h3b.cell (p := ⟨wr.heap.size, 1, none⟩) hzz2).trans z1; have hf3 := HFZ.out w3 HB3.out; clear h3a h3b)
            all_goals
              go_wp2_with fail
              refine wp_region_grown (by kernel_rfl) (by kernel_rfl) (fun V hV => ?_)
              simp only [Act.put, List.getElem_toArray, List.getElem_cons_succ, List.getElem_cons_zero, List.setIfInBounds_toArray, List.set_cons_zero, List.set_cons_succ]
              have hne9 := grown_some V
              have g1 := grown_cell (w := V) (by rw [hV]; exact t1)
              have g2 := grown_cell (w := V) (by rw [hV]; exact y1)
              have HV := hide hV
              clear hV
              repeat (go_big_quiet_step (fail))
              refine wpQuiet_nil ?_
              intro w4 hw4
              rw [HV.out] at hw4
              have HB4 : Hid (Below wr.heap.size wr w4) := hide (HB3.out.trans (hw4.mono HB3.out.size))
              have HB34 := hide hw4
              clear hw4 hne9 g1 g2 HV
              go_wp2_with fail
              go_ret2
              rw [HFIN.out]
              exact ⟨_, rfl, (fun z hz => by cases hz), HR.out.bel.trans (HB4.out.mono hzw), (by first | exact .inl rfl | exact .inr ⟨_, _, rfl⟩)⟩
          | true =>
            go_wp2_with (go_at_call 157; refine (HBR.out _ (malloc1 _ _)).mono ?_; rintro e w2 ⟨rfl, hb2⟩; have HB2 : Hid (Below wr.heap.size wr w2) := hide ((malloc1 wr _).trans (hb2.mono (by simp))); have z0 := (hb2.cell (p := ⟨wr.heap.size, 0, none⟩) (by simp)); have z1 := (hb2.cell (p := ⟨wr.heap.size, 1, none⟩) (by simp)); have z2 := (hb2.cell (p := ⟨wr.heap.size, 2, none⟩) (by simp)); simp at z0 z1 z2; obtain ⟨f1, f2⟩ := HFC.out w2 HB2.out; have hzz2 : wr.heap.size < w2.heap.size := (by have := hb2.size; simp at this; omega); clear hb2)
            go_region_law (go_simp; go_at_call 144; refine (HMC.out _ HB2.out.drew).mono ?_; rintro e w3 ⟨q3, rfl, h3a, h3b, hif3⟩; clear hif3; have H3A := hide (h3a q rfl); obtain ⟨Tq, aq, rfl⟩ := (h3a q rfl).shape; have H23 : Hid (w2.heap.size ≤ w3.heap.size) := hide (by have := h3b.size; simpa using this); have HB3 : Hid (Below wr.heap.size wr w3) := hide (HB2.out.drew.trans (h3b.mono HB2.out.drew.size)); obtain ⟨t1, t2⟩ := HFC.out w3 HB3.out; have y1 : w3.cell? ⟨wr.heap.size, 1, none⟩ = some (.int .i64 dsrt) := (h3b.cell (p := ⟨wr.heap.size, 1, none⟩) hzz2).trans z1; have hf3 := HFZ.out w3 HB3.out; clear h3a h3b)
            all_goals
              go_wp2_with fail
              refine wp_region_grown (by kernel_rfl) (by kernel_rfl) (fun V hV => ?_)
              simp only [Act.put, List.getElem_toArray, List.getElem_cons_succ, List.getElem_cons_zero, List.setIfInBounds_toArray, List.set_cons_zero, List.set_cons_succ]
              have hne9 := grown_some V
              have g1 := grown_cell (w := V) (by rw [hV]; exact t1)
              have g2 := grown_cell (w := V) (by rw [hV]; exact y1)
              have HV := hide hV
              clear hV
              repeat (go_big_quiet_step (fail))
              refine wpQuiet_nil ?_
              intro w4 hw4
              rw [HV.out] at hw4
              have HB4 : Hid (Below wr.heap.size wr w4) := hide (HB3.out.trans (hw4.mono HB3.out.size))
              have HB34 := hide hw4
              clear hw4 hne9 g1 g2 HV
              have hf4 := HFZ.out w4 HB4.out
              obtain ⟨v1, v2⟩ := HFC.out w4 HB4.out
              go_wp2_with fail
              go_roundw
              case rel =>
                have hw4 := HR.out.own.keep HB4.out
                have hcgl : cg < wr.heap.size := (owns_fresh HR.out.own.own).hi cg (by simp [vblocks, cellBlocks])
                have hcgb : w.heap.size + 2 ≤ cg := (owns_fresh HR.out.own.own).lo cg (by simp [vblocks, cellBlocks])
                have hb2s := HB2.out.size
                have hb34 := HB34.out.size
                have hq4 : PcAt w4 (but S w.heap.size w4.heap.size (.slice (some ⟨cg, 0, none⟩) A cc)) n q (.iface Tq (.agg aq)) := PcAt.carry (fun g hg => HB34.out.block g (by
                  rcases hg with hg | hg
                  · have := plus_lt (HR.out.own.keep HB2.out).low (HR.out.own.keep HB2.out).siz hg.1
                    have h23 := HB3.out.size
                    have : w2.heap.size ≤ w3.heap.size := H23.out
                    omega
                  · exact hg.2)) (fun g hg => by
                  rcases hg with hg | hg
                  · exact ⟨plus_up (Nat.le_trans H23.out hb34) hg.1, hg.2⟩
                  · refine ⟨.inr ⟨by have := hg.1; simp at this; omega, Nat.lt_of_lt_of_le hg.2 hb34⟩, fun hm => ?_⟩
                    simp [vblocks, cellBlocks] at hm
                    have := hg.1
                    simp at this
                    omega) _ _ _ H3A.out
                have hset := bro_set (g := cg) (cap := cc) (by rw [HA.out]; exact hw4) HXX.out q (.iface Tq (.agg aq)) (by rw [HA.out]; exact hq4)
                rw [HA.out] at hset
                have hmi : (acc.map BV.b)[i]? = some x.b := by rw [List.getElem?_map, HXX.out]; rfl
                have hs1 := (brs_set (f := rowN n) ⟨x.b.l, x.b.s, q⟩ hmi).1
                have hs2 := (merge_sz n x.b.p dp q HOM.out).1
                have hbd := HBD.out
                have hsz := HR.out.sz
                have hmap : (acc.set i ⟨⟨x.b.l, x.b.s, q⟩, .iface Tq (.agg aq)⟩).map BV.b = (acc.map BV.b).set i ⟨x.b.l, x.b.s, q⟩ := by rw [List.map_set]
                have hwb : Below w.heap.size w w4 := HR.out.bel.trans (HB4.out.mono hzw)
                refine ⟨k + 1, acc.set i ⟨⟨x.b.l, x.b.s, q⟩, .iface Tq (.agg aq)⟩, hlt, by go_num, ⟨?_, hset.1, ?_, fun y hy => ?_, hwb.trans (hset.2.below hwb.size (by simp; omega)), ?_, ?_⟩⟩
                · rw [hmap, HEQ.out, HOM.out]
                  show _ = if (x.b.s == dsrt) = true then _ else none
                  rw [HRQ.out]
                  rfl
                · rw [hmap]
                  dsimp only at hs1 hbd
                  omega
                · rcases mem_setP hy with hy | hy
                  · exact HR.out.shp y hy
                  · subst hy
                    exact merge_shape n x.b.p dp q (HR.out.shp x (List.mem_of_getElem? HXX.out)) HDS1.out HOM.out
                · rw [World.cell?_setCell_other _ _ _ _ (by intro e; injection e with e1 _; omega)]
                  exact (HB4.out.cell (p := ⟨w.heap.size, 0, none⟩) (by show w.heap.size < wr.heap.size; omega)).trans bx
                · rw [World.size_setCell]; have := HB4.out.size; omega
              case measure => simp [intOf]; omega
    · obtain rfl : k = D := by omega
      have HSM := hide HR.out.same
      rw [List.drop_of_length_le (by rw [HD.out]; exact Nat.le_refl _), mergeBy] at HSM
      have HAB : Hid ((acc.map BV.b).length = A) := hide (by rw [List.length_map, HA.out])
      have HSL := hide HR.out.own.sl
      by_cases h4 : A ≤ 4
      · go_wp2_with fail
        go_ret2
        rw [← HSM.out, hearO, if_pos (by rw [HAB.out]; exact h4)]
        exact ⟨_, ret2_bool (by simp; omega), (fun z hz => by injection hz with hz; subst hz; exact ⟨_, rfl, HSL.out⟩), HR.out.bel, (by first | exact .inl rfl | exact .inr ⟨_, _, rfl⟩)⟩
      · go_wp2_with fail
        go_ret2
        rw [← HSM.out, hearO, if_neg (by rw [HAB.out]; exact h4)]
        exact ⟨_, ret2_bool (by simp; omega), (fun z hz => by cases hz), HR.out.bel, (by first | exact .inl rfl | exact .inr ⟨_, _, rfl⟩)⟩
end Go.Proofs.YtmjlblbhakppfaaGreatDoor
namespace Go.Proofs.YtmjlblbhakppfaaGreatDoor
open Go.RowKit

theorem row_by {n : Nat} {p : Pn n} {S : Nat → Prop} {w : World} {u : Value} (hp : shapeN n p) (hS : ∀ g, S g → g < w.heap.size) (h : PcAt w S n p u) (hl : (rowN n p).length ≤ 1000) : RowBy u w (rowN n p) := row_calls n p hp u w (h.up (fun g hg => hS g hg)) hl
theorem hear_shape {n : Nat} {p : Pn (n + 1)} {a : ByteArray} {l : List (Br (Pn n))} (hp : shapeN (n + 1) p) (h : hearN p = some (a, l)) : l ≠ [] ∧ (∀ b ∈ l, shapeN n b.p) ∧ (rowN (n + 1) p).length = (brsBy (rowN n) l).length + 1 := by
  obtain ⟨b, rfl⟩ := hear_some h
  have hp' : tkOk ⟨6, b, a⟩ ∧ l ≠ [] ∧ ∀ b ∈ l, shapeN n b.p := hp
  exact ⟨hp'.2.1, hp'.2.2, by rw [row_talk]; rfl⟩
theorem merge_calls : ∀ n : Nat, MergeCalls n := by
  intro n
  induction n with
  | zero =>
    intro S x y u v w hS hx hy hl hu hv
    refine merge_any 0 S x y u v w (row_by hx hS hu (by omega)) (row_by hy hS hv (by omega)) (by omega) (by omega) hS hu _ _ _ _ _ _ _ _ _ _ (asked_leaf hu) (asked_leaf hv) none ?_ (fun h => by simp at h)
    rw [mergeN]
    unfold pickM
    simp
  | succ n ih =>
    intro S x y u v w hS hx hy hl hu hv
    have rx := row_by hx hS hu (by omega)
    have ry := row_by hy hS hv (by omega)
    rcases asked hx hu with ⟨nx, ax⟩ | ⟨a, cs, sp, sc, ex, rfl, bx⟩
    · rcases asked hy hv with ⟨ny, ay⟩ | ⟨b, ds, tp, tc, ey, rfl, by_⟩
      · refine merge_any (n + 1) S x y u v w rx ry (by omega) (by omega) hS hu _ _ _ _ _ _ _ _ _ _ ax ay none ?_ (fun h => by simp at h)
        rw [mergeN, nx]
        unfold pickM
        simp
      · refine merge_any (n + 1) S x y u _ w rx ry (by omega) (by omega) hS hu _ _ _ _ _ _ _ _ _ _ ax (asked_hear b tp ds.length tc) none ?_ (fun h => by simp at h)
        rw [mergeN, nx]
        unfold pickM
        simp
    · rcases asked hy hv with ⟨ny, ay⟩ | ⟨b, ds, tp, tc, ey, rfl, by_⟩
      · refine merge_any (n + 1) S x y _ v w rx ry (by omega) (by omega) hS hu _ _ _ _ _ _ _ _ _ _ (asked_hear a sp cs.length sc) ay none ?_ (fun h => by simp at h)
        rw [mergeN, ex, ny]
        unfold pickM
        simp
      · obtain ⟨h1, h2, h3⟩ := hear_shape hx ex
        obtain ⟨h4, h5, h6⟩ := hear_shape hy ey
        refine merge_any (n + 1) S x y _ _ w rx ry (by omega) (by omega) hS hu _ _ _ _ _ _ _ _ _ _ (asked_hear a sp cs.length sc) (asked_hear b tp ds.length tc) (hearO n a (mergeBy (mergeN n) cs ds)) ?_ (fun _ W hW => ?_)
        · rw [mergeN, ex, ey]
          unfold pickM hearO
          cases rowEq (rowN (n + 1) x) (rowN (n + 1) y)
          · simp only [Bool.false_eq_true, if_false, Bool.true_and]
            cases (a.toList == b.toList) <;> cases mergeBy (mergeN n) cs ds <;> rfl
          · rfl
        · exact merge_hear n S ih a b cs ds h2 h5 (by omega) h1 _ _ W (fun g hg => Nat.lt_of_lt_of_le (hS g hg) hW.size) (bx.carry (fun g hg => hW.block g (hS g hg)) (fun g hg => hg)) (by_.carry (fun g hg => hW.block g (hS g hg)) (fun g hg => hg))
end Go.Proofs.YtmjlblbhakppfaaGreatDoor
namespace Go.Proofs.YtmjlblbhakppfaaGreatDoor
open Go.RowKit
attribute [local go_sem ↓] Go.wp_at_zero Go.wp_at_succ

structure RoundA (n : Nat) (S : Nat → Prop) (w wr : World) (l : List (Br (Pn n))) (x0 : Pn n) (av : Value) (k : Nat) (x : Pn n) : Prop where
  same : mergeAll (mergeN n) x (l.drop k) = mergeAll (mergeN n) x0 l
  at_ : PcAt wr (plus S w.heap.size wr.heap.size) n x av
  sz : (rowN n x).length + (brsBy (rowN n) (l.drop k)).length ≤ 900
  shp : shapeN n x
  bel : Below w.heap.size w wr
set_option maxRecDepth 100000 in
set_option maxHeartbeats 2000000 in
theorem merge_all (n : Nat) (S : Nat → Prop) (c : Br (Pn n)) (l : List (Br (Pn n))) (hsh : ∀ b ∈ c :: l, shapeN n b.p) (hsz : (brsBy (rowN n) (c :: l)).length ≤ 900) (v : Value) (w : World) (hS : ∀ g, S g → g < w.heap.size) (h : BrS w S v (c :: l)) :
    Calls Tryz.prog 126 #[v] w fun e w' => Merged n S w w' e (mergeAll (mergeN n) c.p l) := by
  have HSH := hide hsh
  have HSS := hide hS
  have HSZ := hide hsz
  obtain ⟨ao, cap, rfl, hc1, hc2, hr⟩ := h
  obtain ⟨g, o, rfl, hg, hcells⟩ := hr (by simp)
  obtain ⟨k1, k2, u0, k3, k4⟩ := hcells 0 c rfl
  simp only [Nat.zero_mul, Nat.add_zero] at k1 k2 k3
  obtain ⟨T0, a0, rfl⟩ := k4.shape
  have hgw : g < w.heap.size := hS g hg
  have HCELLS := hide hcells
  have hl9 : l.length ≤ 900 := by have := brs_count (rowN n) (c :: l); simp only [List.length_cons] at this; omega
  have HST : Hid (RoundA n S w w l c.p (.iface T0 (.agg a0)) 0 c.p) := hide ⟨rfl, k4.up (fun g hg => .inl hg), by rw [brs_cons] at hsz; simp only [List.length_cons, List.length_append, List.drop_zero] at *; omega, hsh c (by simp), Below.refl _ _⟩
  simp only [List.length_cons] at hc1 ⊢
  obtain ⟨L, hL⟩ : ∃ L, l.length = L := ⟨_, rfl⟩
  rw [hL] at hc1 hl9 ⊢
  have HL := hide hL
  unfold maxLen at hc2
  clear hr hcells k4 hL hsh hsz hS
  by_cases hcap : cap = 1
  · subst hcap
    obtain rfl : L = 0 := by omega
    have HN : Hid (l = []) := hide (List.length_eq_zero_iff.1 HL.out)
    go_enter Tryz.func126, Tryz.ntmps126
    go_wp2_with fail
    go_loopw [4, 16] (fun av i wr => av = .iface T0 (.agg a0) ∧ i = .int .i64 0 ∧ wr = w) (fun _ _ _ => 0)
    case atStart => exact ⟨rfl, rfl, rfl⟩
    case round =>
      obtain ⟨rfl, rfl, rfl⟩ := hrel
      go_wp2_with fail
      go_ret2
      rw [HN.out]
      exact ⟨_, rfl, (fun z hz => by have hz' : some c.p = some z := hz; injection hz' with hz'; subst hz'; exact HST.out.at_), Below.refl _ _, (by first | exact .inl rfl | exact .inr ⟨_, _, rfl⟩)⟩
  · go_enter Tryz.func126, Tryz.ntmps126
    go_wp2_with fail
    go_loopw [4, 16] (fun av i wr => ∃ (k : Nat) (x : Pn n), k ≤ L ∧ i = .int .i64 k ∧ RoundA n S w wr l c.p av k x) (fun _ i _ => L - (intOf i).toNat)
    case atStart => exact ⟨0, c.p, Nat.zero_le _, rfl, HST.out⟩
    case round =>
      obtain ⟨k, x, hk, rfl, hR⟩ := hrel
      have HR := hide hR
      have hzw := hR.bel.size
      obtain ⟨Tx, ax, rfl⟩ := hR.at_.shape
      by_cases hlt : k < L
      · obtain ⟨d, hd⟩ : ∃ d, l[k]? = some d := ⟨l[k]'(by rw [HL.out]; exact hlt), List.getElem?_eq_getElem _⟩
        obtain ⟨m1, m2, u, m3, m4⟩ := HCELLS.out (k + 1) d (by rw [List.getElem?_cons_succ]; exact hd)
        obtain ⟨T, av, rfl⟩ := m4.shape
        have e1 := (hR.bel.cell (p := ⟨g, o + (k + 1) * 3, none⟩) hgw).trans m1
        have e2 := (hR.bel.cell (p := ⟨g, o + (k + 1) * 3 + 1, none⟩) hgw).trans m2
        have e3 := (hR.bel.cell (p := ⟨g, o + (k + 1) * 3 + 2, none⟩) hgw).trans m3
        rw [show o + (k + 1) * 3 = o + 3 + k * 3 by omega] at e1 e2 e3
        have HBD := hide (brs_drop hd)
        have hdm : d ∈ l := List.mem_of_getElem? hd
        have HEQ : Hid (mergeAll (mergeN n) c.p l = match mergeN n x d.p with
            | none => none
            | some q => mergeAll (mergeN n) q (l.drop (k + 1))) := hide (by
          have hlt' := (List.getElem?_eq_some_iff.1 hd).1
          have hde : l[k] = d := (List.getElem?_eq_some_iff.1 hd).2
          rw [← hR.same, List.drop_eq_getElem_cons hlt', hde, mergeAll]
          cases mergeN n x d.p <;> rfl)
        have HMC : Hid (∀ W, Below wr.heap.size wr W → Calls Tryz.prog 144 #[.iface Tx (.agg ax), .iface T (.agg av)] W fun e w' => Merged n (plus S w.heap.size wr.heap.size) W w' e (mergeN n x d.p)) := hide (fun W hW => by
          have hbd := HBD.out
          have hsz := HR.out.sz
          refine merge_calls n (plus S w.heap.size wr.heap.size) x d.p _ _ W (fun g hg => Nat.lt_of_lt_of_le (plus_lt HSS.out hzw hg) hW.size) HR.out.shp (HSH.out d (by simp [hdm])) (by omega) (PcAt.carry (fun g hg => hW.block g (plus_lt HSS.out hzw hg)) (fun g hg => hg) _ _ _ HR.out.at_) (PcAt.carry (fun g hg => (hW.block g (Nat.lt_of_lt_of_le (HSS.out g hg) hzw)).trans (HR.out.bel.block g (HSS.out g hg))) (fun g hg => .inl hg) _ _ _ m4))
        obtain ⟨om, hom⟩ : ∃ om, mergeN n x d.p = om := ⟨_, rfl⟩
        have HOM := hide hom
        have HSD : Hid (shapeN n d.p) := hide (HSH.out d (by simp [hdm]))
        rw [hom] at HMC
        obtain ⟨dl, dsrt, dp⟩ := d
        dsimp only at e1 e2
        clear m1 m2 m3 m4 hd hdm hR hom
        cases om with
        | none =>
          have HFIN : Hid (mergeAll (mergeN n) c.p l = none) := hide (by rw [HEQ.out]; dsimp only at HOM ⊢; rw [HOM.out])
          go_wp2_with (go_at_call 144; refine (HMC.out _ (malloc1 _ _)).mono ?_; rintro e w3 ⟨q3, rfl, h3a, h3b, hif3⟩; clear hif3; have HB3 : Hid (Below wr.heap.size wr w3) := hide ((malloc1 wr _).trans (h3b.mono (by simp))); clear h3a h3b)
          go_ret2
          rw [HFIN.out]
          exact ⟨_, rfl, (fun z hz => by cases hz), HR.out.bel.trans (HB3.out.mono hzw), (by first | exact .inl rfl | exact .inr ⟨_, _, rfl⟩)⟩
        | some q =>
          go_wp2_with (go_at_call 144; refine (HMC.out _ (malloc1 _ _)).mono ?_; rintro e w3 ⟨q3, rfl, h3a, h3b, hif3⟩; clear hif3; have H3A := hide (h3a q rfl); have HB3 : Hid (Below wr.heap.size wr w3) := hide ((malloc1 wr _).trans (h3b.mono (by simp))); have H3S := hide h3b.size; clear h3a h3b)
          go_roundw
          case rel =>
            have hs2 := (merge_sz n x dp q HOM.out).1
            have hbd := HBD.out
            have hsz := HR.out.sz
            refine ⟨k + 1, q, hlt, by go_num, ⟨?_, H3A.out.up (fun g hg => ?_), by omega, merge_shape n x dp q HR.out.shp HSD.out HOM.out, HR.out.bel.trans (HB3.out.mono hzw)⟩⟩
            · rw [HEQ.out, HOM.out]
            · rcases hg with hg | hg
              · exact plus_up HB3.out.size hg
              · exact .inr ⟨by have := hg.1; simp at this; omega, hg.2⟩
          case measure => simp [intOf]; omega
      · obtain rfl : k = L := by omega
        have HFIN : Hid (mergeAll (mergeN n) c.p l = some x) := hide (by have := HR.out.same; rw [List.drop_of_length_le (by rw [HL.out]; exact Nat.le_refl _), mergeAll] at this; exact this.symm)
        go_wp2_with fail
        go_ret2
        rw [HFIN.out]
        exact ⟨_, rfl, (fun z hz => by injection hz with hz; subst hz; exact HR.out.at_), HR.out.bel, (by first | exact .inl rfl | exact .inr ⟨_, _, rfl⟩)⟩
end Go.Proofs.YtmjlblbhakppfaaGreatDoor
namespace Go.Proofs.YtmjlblbhakppfaaGreatDoor
open Go.RowKit
attribute [local go_sem ↓] Go.wp_at_zero Go.wp_at_succ

def PartCalls (role : ByteArray) (n : Nat) : Prop := ∀ (S : Nat → Prop) (p : Pn n) (u : Value) (w : World), (∀ g, S g → g < w.heap.size) → planN n p → (rowN n p).length ≤ 40 → fitL (rowN n p) → PcAt w S n p u → Calls Tryz.prog 59 #[u, .string role] w fun e w' => Merged n S w w' e (partN role n p)
def consO {α : Type} (l : List α) : Option (List α) → Option (List α)
  | none => none
  | some r => some (l ++ r)
def talkP (role : ByteArray) (n : Nat) (a b : ByteArray) (r : Option (List (Br (Pn n)))) : Option (Pn (n + 1)) := match r with
  | none => none
  | some r => if role.toList == a.toList then some (.talk ⟨5, noT, b⟩ r) else if role.toList == b.toList then some (.talk ⟨6, noT, a⟩ r) else
    match r with
    | [] => none
    | c :: r => (mergeAll (mergeN n) c.p r).map (upN n)
theorem part_talk (role : ByteArray) (n : Nat) (a b : ByteArray) (l : List (Br (Pn n))) : partN role (n + 1) (.talk ⟨3, a, b⟩ l) = talkP role n a b (partsBy (partN role n) l) := by
  show (match partsBy (partN role n) l with
    | none => none
    | some r => if role.toList == a.toList then some (Pn.talk ⟨5, noT, b⟩ r) else if role.toList == b.toList then some (.talk ⟨6, noT, a⟩ r) else
      match r with
      | [] => none
      | c :: r => (mergeAll (mergeN n) c.p r).map (upN n)) = _
  unfold talkP
  cases partsBy (partN role n) l <;> rfl
structure RoundP (role : ByteArray) (n : Nat) (S : Nat → Prop) (w wr : World) (a b : ByteArray) (l : List (Br (Pn n))) (cv : Value) (k : Nat) (acc : List (BV n)) : Prop where
  same : consO (acc.map BV.b) (partsBy (partN role n) (l.drop k)) = partsBy (partN role n) l
  own : BrO S w.heap.size wr (w.heap.size + 1) cv acc
  sz : (brsBy (rowN n) (acc.map BV.b)).length + (brsBy (rowN n) (l.drop k)).length ≤ 799
  shp : ∀ x ∈ acc, shapeN n x.b.p
  len : acc.length = k
  bel : Below w.heap.size w wr
  b0 : wr.cell? ⟨w.heap.size, 0, none⟩ = some (.string a)
  b1 : wr.cell? ⟨w.heap.size, 1, none⟩ = some (.string b)
  siz : w.heap.size + 1 ≤ wr.heap.size
theorem roundP_next {role : ByteArray} {n : Nat} {S : Nat → Prop} {w wr : World} {a b : ByteArray} {l : List (Br (Pn n))} {cv : Value} {k : Nat} {acc : List (BV n)} (h : RoundP role n S w wr a b l cv k acc) {d : Br (Pn n)} (hd : l[k]? = some d) : partsBy (partN role n) l = match partN role n d.p with
    | none => none
    | some q => consO (acc.map BV.b ++ [⟨d.l, d.s, q⟩]) (partsBy (partN role n) (l.drop (k + 1))) := by
  have hlt := (List.getElem?_eq_some_iff.1 hd).1
  have hde : l[k] = d := (List.getElem?_eq_some_iff.1 hd).2
  rw [← h.same, List.drop_eq_getElem_cons hlt, hde, partsBy]
  cases partN role n d.p with
  | none => rfl
  | some q => cases partsBy (partN role n) (l.drop (k + 1)) with
    | none => rfl
    | some r => simp [consO]
theorem bro_nil {n : Nat} {S : Nat → Prop} {a : Nat} (w : World) (base : Nat) (hS : ∀ g, S g → g < a) (hb : a ≤ base) (hw : a ≤ w.heap.size) : BrO S a w base (.slice none 0 0) ([] : List (BV n)) := ⟨owns_nil _ _ _ _, (fun x hx => by cases hx), hS, hb, hw⟩
set_option maxRecDepth 100000 in
set_option maxHeartbeats 4000000 in
theorem message_part (role : ByteArray) (n : Nat) (hpc : PartCalls role n) (S : Nat → Prop) (a b : ByteArray) (l : List (Br (Pn n))) (hpl : planN (n + 1) (.talk ⟨3, a, b⟩ l)) (hsz : (brsBy (rowN n) l).length ≤ 39) (hfit : fitL (brsBy (rowN n) l)) (sl : Value) (w : World) (hS : ∀ g, S g → g < w.heap.size) (h : BrS w S sl l) :
    Calls Tryz.prog 90 #[.agg #[.string a, .string b, sl], .string role] w fun e w' => Merged (n + 1) S w w' e (talkP role n a b (partsBy (partN role n) l)) := by
  have hpl' : (3 : Int) = 3 ∧ (a.toList == b.toList) = false ∧ 1 ≤ l.length ∧ l.length ≤ 4 ∧ ∀ b ∈ l, planN n b.p := hpl
  obtain ⟨-, -, hl1, hl4, hplan⟩ := hpl'
  obtain ⟨i0, hi, hz0, hz1, hz2⟩ := info_parts Tryz.infoBr
  have HI := hide (And.intro hi (And.intro hz0 (And.intro hz1 hz2)))
  have HPC := hide hpc
  have HSS := hide hS
  have HPL := hide hplan
  have HSZ := hide hsz
  have HFT := hide hfit
  obtain ⟨ao, cap, rfl, hc1, hc2, hr⟩ := h
  have HR2 := hide hr
  obtain ⟨D, hD⟩ : ∃ D, l.length = D := ⟨_, rfl⟩
  rw [hD] at hl1 hl4 hc1 ⊢
  have HD := hide hD
  clear hi hz0 hz1 hz2 hr hpc hS hplan hsz hfit hD hpl
  go_enter Tryz.func90, Tryz.ntmps90
  go_wp2_with fail
  go_loopw [6, 14] (fun cv i wr => ∃ (k : Nat) (acc : List (BV n)), k ≤ D ∧ i = .int .i64 k ∧ RoundP role n S w wr a b l cv k acc) (fun _ i _ => D - (intOf i).toNat)
  case atStart =>
    refine ⟨0, [], Nat.zero_le _, rfl, ⟨?_, bro_nil _ _ HSS.out (by omega) (by simp), by have := HSZ.out; simp [brsBy] at this ⊢; omega, (fun x hx => by cases hx), rfl, malloc1 w _, by simp, by simp, by simp⟩⟩
    rw [List.drop_zero]
    cases partsBy (partN role n) l <;> rfl
  case round =>
    obtain ⟨k, acc, hk, rfl, hR⟩ := hrel
    have HR := hide hR
    have hzw := hR.bel.size
    have hz2 := hR.siz
    have hal := hR.len
    obtain ⟨cp, cc, hcv⟩ := owns_shape hR.own.own
    rw [hal] at hcv
    subst hcv
    have HAL := hide hal
    have bx0 := hR.b0
    have bx1 := hR.b1
    clear hR hal
    by_cases hlt : k < D
    · obtain ⟨g, o, rfl, hg, hcells⟩ := HR2.out (by rintro rfl; have := HD.out; simp at this; omega)
      obtain ⟨d, hd⟩ : ∃ d, l[k]? = some d := ⟨l[k]'(by rw [HD.out]; exact hlt), List.getElem?_eq_getElem _⟩
      obtain ⟨k1, k2, u, k3, k4⟩ := hcells k d hd
      have hgw : g < w.heap.size := HSS.out g hg
      have e1 := (HR.out.bel.cell (p := ⟨g, o + k * 3, none⟩) hgw).trans k1
      have e2 := (HR.out.bel.cell (p := ⟨g, o + k * 3 + 1, none⟩) hgw).trans k2
      have e3 := (HR.out.bel.cell (p := ⟨g, o + k * 3 + 2, none⟩) hgw).trans k3
      have HPD : Hid (planN n d.p) := hide (HPL.out d (List.mem_of_getElem? hd))
      have HBD := hide (brs_drop hd)
      have HBG := hide (brs_get (f := rowN n) hd)
      have HEQ := hide (roundP_next HR.out hd)
      obtain ⟨T, av, rfl⟩ := k4.shape
      have HMC : Hid (∀ W, Below wr.heap.size wr W → Calls Tryz.prog 59 #[.iface T (.agg av), .string role] W fun e w' => Merged n S W w' e (partN role n d.p)) := hide (fun W hW => by
        exact HPC.out S d.p _ W (fun g hg => Nat.lt_of_lt_of_le (HSS.out g hg) (Nat.le_trans hzw hW.size)) HPD.out (by have := HBG.out.1; have := HSZ.out; omega) (HBG.out.2 HFT.out).2 (PcAt.carry (fun g hg => (hW.block g (Nat.lt_of_lt_of_le (HSS.out g hg) hzw)).trans (HR.out.bel.block g (HSS.out g hg))) (fun g hg => hg) _ _ _ k4))
      obtain ⟨om, hom⟩ : ∃ om, partN role n d.p = om := ⟨_, rfl⟩
      have HOM := hide hom
      rw [hom] at HMC
      obtain ⟨dl, dsrt, dp⟩ := d
      dsimp only at e1 e2
      clear hcells k1 k2 k3 k4 hd hom
      cases om with
      | none =>
        have HFIN : Hid (partsBy (partN role n) l = none) := hide (by rw [HEQ.out, HOM.out])
        go_wp2_with (go_at_call 59; refine (HMC.out _ (malloc1 _ _)).mono ?_; rintro e w3 ⟨q3, rfl, h3a, h3b, hif3⟩; clear hif3; have HB3 : Hid (Below wr.heap.size wr w3) := hide ((malloc1 wr _).trans (h3b.mono (by simp))); clear h3a h3b)
        go_ret2
        rw [HFIN.out]
        exact ⟨_, rfl, (fun z hz => by cases hz), HR.out.bel.trans (HB3.out.mono hzw), (by first | exact .inl rfl | exact .inr ⟨_, _, rfl⟩)⟩
      | some q =>
        go_wp2_with (first
          | (go_at_call 59; refine (HMC.out _ (malloc1 _ _)).mono ?_; rintro e w3 ⟨q3, rfl, h3a, h3b, hif3⟩; clear hif3; have H3A := hide (h3a q rfl); obtain ⟨Tq, aq, rfl⟩ := (h3a q rfl).shape; have HB3 : Hid (Below wr.heap.size wr w3) := hide ((malloc1 wr _).trans (h3b.mono (by simp))); have z0 := (h3b.cell (p := ⟨wr.heap.size, 0, none⟩) (by simp)); have z1 := (h3b.cell (p := ⟨wr.heap.size, 1, none⟩) (by simp)); simp at z0 z1; have HO3 := hide (HR.out.own.keep HB3.out); clear h3a h3b)
          | (at_builtin; refine wpList_append_own_at _ rfl (.tmp 27) (.tmp 34) 112 rfl (w.heap.size + 1) 149 i0 (.agg #[.string ByteArray.empty, .int .i64 0, .nilIface]) 3 40 Tryz.underlying112 HI.out.1 HI.out.2.1 HI.out.2.2.1 HI.out.2.2.2 rfl (by decide) (.slice cp k cc) k (acc.flatMap BV.cells) rfl (by have := HO3.out.own; rw [HAL.out] at this; exact owns_below this (malloc1 _ _)) ⟨w3.heap.size, 0, none⟩ 1 1 (BV.cells (n := n) ⟨⟨dl, dsrt, q⟩, .iface Tq (.agg aq)⟩) rfl rfl (fun j u hj => new_rowq w3 _ _ _ rfl j u hj) (bv_one H3A.out) (by unfold maxLen; omega) (by omega) (by have := HB3.out.size; simp; omega) ?_; intro v4 w4 hown4 hgr4 _ hat4; have HM4 := hide (bro_push HO3.out ⟨⟨dl, dsrt, q⟩, .iface Tq (.agg aq)⟩ (H3A.out.up (fun g hg => ⟨hg.elim .inl (fun k => .inr ⟨by have := k.1; simp at this; omega, k.2⟩), fun hm => (by have h1 := (owns_fresh HR.out.own.own).lo g hm; have h2 := (owns_fresh HR.out.own.own).hi g hm; rcases hg with hg | hg; (have := HSS.out g hg; omega); (have := hg.1; simp at this; omega))⟩)) _ (by rw [HAL.out]; exact hown4) hgr4 hat4); obtain ⟨p4, c4, rfl⟩ := owns_shape hown4; clear hown4 hgr4 hat4))
        go_roundw
        case rel =>
          have hlo := (owns_fresh HR.out.own.own).lo
          have hb3 := HB3.out
          have hb4 : Below w.heap.size w3 w4 := HM4.out.2.below (by have := hb3.size; omega) (fun b hb => by have := hlo b hb; omega)
          have hps := (part_sz role n dp q HPD.out HOM.out).1
          have hd1 : (brsBy (rowN n) [(⟨dl, dsrt, q⟩ : Br (Pn n))]).length = 1 + (rowN n q).length := by rw [brs_cons]; simp [brsBy]; omega
          have hbd := HBD.out
          have hsz := HR.out.sz
          refine ⟨k + 1, acc ++ [⟨⟨dl, dsrt, q⟩, .iface Tq (.agg aq)⟩], hlt, by go_num, ⟨?_, HM4.out.1, ?_, fun x hx => ?_, by rw [List.length_append, HAL.out]; rfl, (HR.out.bel.trans (hb3.mono hzw)).trans hb4, ?_, ?_, ?_⟩⟩
          · rw [HEQ.out, HOM.out, List.map_append]
            rfl
          · rw [List.map_append, brs_app, List.length_append]
            have e : (brsBy (rowN n) (List.map BV.b [(⟨⟨dl, dsrt, q⟩, .iface Tq (.agg aq)⟩ : BV n)])).length = 1 + (rowN n q).length := hd1
            omega
          · rw [List.mem_append] at hx
            rcases hx with hx | hx
            · exact HR.out.shp x hx
            · simp at hx
              subst hx
              exact part_shape role n dp q HPD.out HOM.out
          · exact HM4.out.2.cell' ((hb3.cell (p := ⟨w.heap.size, 0, none⟩) (by show w.heap.size < wr.heap.size; omega)).trans bx0) (fun hm => by have := hlo _ hm; omega)
          · exact HM4.out.2.cell' ((hb3.cell (p := ⟨w.heap.size, 1, none⟩) (by show w.heap.size < wr.heap.size; omega)).trans bx1) (fun hm => by have := hlo _ hm; omega)
          · have := hb3.size; have := hb4.size; omega
        case measure => simp [intOf]; omega
    · obtain rfl : k = D := by omega
      have HFIN : Hid (partsBy (partN role n) l = some (acc.map BV.b)) := hide (by
        have := HR.out.same
        rw [List.drop_of_length_le (by rw [HD.out]; exact Nat.le_refl _), partsBy] at this
        rw [← this]
        simp [consO])
      have HSL := hide HR.out.own.sl
      obtain ⟨q1, hq1⟩ : ∃ q1, (role.toList == a.toList) = q1 := ⟨_, rfl⟩
      obtain ⟨q2, hq2⟩ : ∃ q2, (role.toList == b.toList) = q2 := ⟨_, rfl⟩
      have HTP : Hid (talkP role n a b (partsBy (partN role n) l) = if q1 then some (.talk ⟨5, noT, b⟩ (acc.map BV.b)) else if q2 then some (.talk ⟨6, noT, a⟩ (acc.map BV.b)) else match acc.map BV.b with
        | [] => none
        | c :: r => (mergeAll (mergeN n) c.p r).map (upN n)) := hide (by rw [HFIN.out]; unfold talkP; simp only [hq1, hq2])
      cases q1
      · cases q2
        · cases hacc : acc with
          | nil => have := HAL.out; rw [hacc] at this; simp at this; omega
          | cons y rest =>
            rw [hacc] at HTP HSL
            have HMA : Hid (Calls Tryz.prog 126 #[.slice cp k cc] wr fun e w' => Merged n (plus S w.heap.size wr.heap.size) wr w' e (mergeAll (mergeN n) y.b.p (rest.map BV.b))) := hide (by
              have hs := HR.out.shp
              have hsz := HR.out.sz
              rw [hacc] at hs hsz
              refine merge_all n _ y.b (rest.map BV.b) (fun b hb => ?_) (by simp only [List.map_cons] at hsz; omega) _ wr (fun g hg => plus_lt HSS.out hzw hg) HSL.out
              rw [List.mem_cons] at hb
              rcases hb with rfl | hb
              · exact hs y (by simp)
              · obtain ⟨z, hz, rfl⟩ := List.mem_map.1 hb
                exact hs z (by simp [hz]))
            clear hacc
            go_wp2_with (go_at_call 126; refine HMA.out.mono ?_; rintro e w5 ⟨q5, rfl, h5a, h5b, hif5⟩; have HIF := hide hif5; clear hif5; have H5A := hide h5a; have HB5 := hide h5b; clear h5a h5b)
            go_ret2
            rw [HTP.out]
            have hsz5 := HB5.out.size
            refine ⟨q5, ?_, fun z hz => ?_, HR.out.bel.trans (HB5.out.mono hzw), HIF.out⟩
            · refine ret2_bool ?_
              show ((mergeAll (mergeN n) y.b.p (rest.map BV.b)).map (upN n)).isSome = _
              cases mergeAll (mergeN n) y.b.p (rest.map BV.b) <;> rfl
            · have hz' : (mergeAll (mergeN n) y.b.p (rest.map BV.b)).map (upN n) = some z := hz
              cases hm : mergeAll (mergeN n) y.b.p (rest.map BV.b) with
              | none => rw [hm] at hz'; cases hz'
              | some z' =>
                rw [hm] at hz'
                simp only [Option.map_some, Option.some.injEq] at hz'
                subst hz'
                refine up_at n z' q5 ((H5A.out z' hm).up (fun g hg => ?_))
                rcases hg with hg | hg
                · exact plus_up hsz5 hg
                · exact .inr ⟨Nat.le_trans hzw hg.1, hg.2⟩
        · go_wp2_with fail
          go_ret2
          rw [HTP.out]
          exact ⟨_, rfl, (fun z hz => by have hz' : some _ = some z := hz; injection hz' with hz'; subst hz'; exact ⟨_, rfl, HSL.out⟩), HR.out.bel, (by first | exact .inl rfl | exact .inr ⟨_, _, rfl⟩)⟩
      · go_wp2_with fail
        go_ret2
        rw [HTP.out]
        exact ⟨_, rfl, (fun z hz => by have hz' : some _ = some z := hz; injection hz' with hz'; subst hz'; exact ⟨_, rfl, HSL.out⟩), HR.out.bel, (by first | exact .inl rfl | exact .inr ⟨_, _, rfl⟩)⟩
end Go.Proofs.YtmjlblbhakppfaaGreatDoor
