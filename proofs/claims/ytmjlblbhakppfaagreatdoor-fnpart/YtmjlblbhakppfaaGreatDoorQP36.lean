import Derived.Test.YtmjlblbhakppfaaGreatDoorQP35
namespace Go.Proofs.YtmjlblbhakppfaaGreatDoor
open Go.RowKit
attribute [local go_sem ↓] Go.wp_at_zero Go.wp_at_succ

structure RoundT (n : Nat) (S : Nat → Prop) (w wr : World) (base mg : Nat) (cs ds : List (Br (Pn n))) (L2 : List (BV n)) (cv : Value) (k : Nat) (acc : List (BV n)) : Prop where
  same : takesBy (mergeN n) (acc.map BV.b) (ds.drop k) = takesBy (mergeN n) cs ds
  own : CsO S w.heap.size wr base cv acc
  sz : (brsBy (rowN n) (acc.map BV.b)).length + (brsBy (rowN n) (ds.drop k)).length ≤ 898
  shp : ∀ x ∈ acc, shapeN n x.b.p ∧ fourN n x.b.p
  four : acc.length ≤ 4
  bel : Below w.heap.size w wr
  more : ∀ (i : Nat) (x : BV n), L2[i]? = some x → ∀ (j : Nat) (y : Value), j < 6 → x.six[j]? = some y → wr.cell? ⟨mg, i * 6 + j, none⟩ = some y
  mlt : mg < wr.heap.size
  mno : mg ∉ vblocks cv
  blt : base ≤ wr.heap.size
theorem addr_add (g o j : Nat) : Addr.add ⟨g, o, none⟩ j = ⟨g, o + j, none⟩ := by
  by_cases h : j = 0
  · subst h; rfl
  · simp [Addr.add, h]
theorem takes_step {n k : Nat} {acc cs ds : List (Br (Pn n))} {d : Br (Pn n)} (h : takesBy (mergeN n) acc (ds.drop k) = takesBy (mergeN n) cs ds) (hd : ds[k]? = some d) : takesBy (mergeN n) cs ds = match takeBy (mergeN n) acc d with
    | none => none
    | some l => takesBy (mergeN n) l (ds.drop (k + 1)) := by
  have hlt := (List.getElem?_eq_some_iff.1 hd).1
  have hde : ds[k] = d := (List.getElem?_eq_some_iff.1 hd).2
  rw [← h, List.drop_eq_getElem_cons hlt, hde, takesBy]
  cases takeBy (mergeN n) acc d <;> rfl
theorem split_cso {n : Nat} {S : Nat → Prop} {a base : Nat} {w w' : World} {v : Value} {L : List (BV n)} (hS : ∀ g, S g → g < a) (hab : a ≤ base) (hbw : base ≤ w.heap.size) (hown : w.ownsRow base 178 6 v L.length (L.flatMap BV.six)) (hrd : ∀ x ∈ L, RdW w S x.u (rowN n x.b.p)) (hb : Below w.heap.size w w') : CsO S a w' base v L :=
  ⟨owns_below hown hb, fun x hx => (hrd x hx).carry (fun g hg => hb.block g (by have := hS g hg; omega)) (fun g hg => ⟨.inl hg, fun hm => by have := (owns_fresh hown).lo g hm; have := hS g hg; omega⟩), hS, hab, by have := hb.size; omega⟩
set_option maxRecDepth 100000 in
set_option maxHeartbeats 4000000 in
theorem s_merge_hear (n : Nat) (S : Nat → Prop) (hmg : MergeSCalls n) (a0 a b0 b : ByteArray) (cs ds : List (Br (Pn n))) (hcs : cs ≠ [] ∧ cs.length ≤ 4 ∧ ∀ x ∈ cs, shapeN n x.p ∧ fourN n x.p) (hds : ds ≠ [] ∧ ∀ x ∈ ds, shapeN n x.p ∧ fourN n x.p) (u v : Value) (w : World) (hS : ∀ g, S g → g < w.heap.size) (hsz : (rowN (n + 1) (.talk ⟨6, a0, a⟩ cs)).length + (rowN (n + 1) (.talk ⟨6, b0, b⟩ ds)).length ≤ 900) (hu : RdW w S u (rowN (n + 1) (.talk ⟨6, a0, a⟩ cs))) (hv : RdW w S v (rowN (n + 1) (.talk ⟨6, b0, b⟩ ds))) (hne : rowEq (rowN (n + 1) (.talk ⟨6, a0, a⟩ cs)) (rowN (n + 1) (.talk ⟨6, b0, b⟩ ds)) = false) (hab : (a.toList == b.toList) = true) :
    Calls Tryz.prog 127 #[u, v] w fun e w' => MergedS (n + 1) S w w' e ((takesBy (mergeN n) cs ds).map (Pn.talk ⟨6, noT, a⟩)) := by
  obtain ⟨i0, hi, hz0, hz1, hz2⟩ := info_parts Tryz.infoNd
  have HI := hide (And.intro hi (And.intro hz0 (And.intro hz1 hz2)))
  have HSM : Hid (∀ W, Below w.heap.size w W → Calls Tryz.prog 145 #[u, v] W fun e w' => e = .returned (.bool false) ∧ Below W.heap.size W w') := hide (fun W hW => by
    rw [← hne]
    exact s_same _ _ u v W S (fun g hg => Nat.lt_of_lt_of_le (hS g hg) hW.size) (hu.on hS hW) (hv.on hS hW))
  have HSP1 : Hid (∀ W, Below w.heap.size w W → Calls Tryz.prog 146 #[u] W fun e w' => ∃ (v' : Value) (L : List (BV n)), e = .returned v' ∧ L.map BV.b = cs ∧ w'.ownsRow W.heap.size 178 6 v' L.length (L.flatMap BV.six) ∧ (∀ x ∈ L, RdW w' S x.u (rowN n x.b.p)) ∧ Below W.heap.size W w') := hide (fun W hW => s_split n _ cs (fun x hx => (hcs.2.2 x hx).1) _ rfl (by omega) u W S (fun g hg => Nat.lt_of_lt_of_le (hS g hg) hW.size) (hu.on hS hW))
  have HSP2 : Hid (∀ W, Below w.heap.size w W → Calls Tryz.prog 146 #[v] W fun e w' => ∃ (v' : Value) (L : List (BV n)), e = .returned v' ∧ L.map BV.b = ds ∧ w'.ownsRow W.heap.size 178 6 v' L.length (L.flatMap BV.six) ∧ (∀ x ∈ L, RdW w' S x.u (rowN n x.b.p)) ∧ Below W.heap.size W w') := hide (fun W hW => s_split n _ ds (fun x hx => (hds.2 x hx).1) _ rfl (by omega) v W S (fun g hg => Nat.lt_of_lt_of_le (hS g hg) hW.size) (hv.on hS hW))
  have HUR : Hid (∀ W, Below w.heap.size w W → RdW W (plusF S w.heap.size W) u (rowN (n + 1) (.talk ⟨6, a0, a⟩ cs))) := hide (fun W hW => (hu.on hS hW).up (fun g hg => .inl hg))
  have HSZ := hide hsz
  have HSS := hide hS
  have HMG := hide hmg
  have HCS := hide hcs
  have HDS := hide hds
  rw [row_talk] at hu hv
  obtain ⟨ax, cx, rfl, hcx, hmx, -, hrx⟩ := hu
  obtain ⟨ay, cy, rfl, hcy, hmy, -, hry⟩ := hv
  obtain ⟨gx, ox, rfl, hgx, hrx⟩ := hrx (by simp)
  obtain ⟨gy, oy, rfl, hgy, hry⟩ := hry (by simp)
  obtain ⟨⟨x0, -, x2, -, -⟩, -⟩ := hrx
  obtain ⟨⟨y0, -, y2, -, -⟩, -⟩ := hry
  dsimp only at x0 x2 y0 y2
  have hgxw := hS gx hgx
  have hgyw := hS gy hgy
  have HSZ2 : Hid ((brsBy (rowN n) cs).length + (brsBy (rowN n) ds).length ≤ 898) := hide (by rw [row_talk, row_talk] at hsz; simp only [List.length_cons] at hsz; omega)
  simp only [List.length_cons] at HSM HUR HSP1 HSP2 hcx hcy ⊢
  obtain ⟨L, hL⟩ : ∃ L, (brsBy (rowN n) cs).length = L := ⟨_, rfl⟩
  obtain ⟨M, hM⟩ : ∃ M, (brsBy (rowN n) ds).length = M := ⟨_, rfl⟩
  rw [hL] at HSM HUR HSP1 hcx ⊢
  rw [hM] at HSM HSP2 hcy ⊢
  clear hL hM hS hsz hne hmg hcs hds hi hz0 hz1 hz2
  have h1 : ((6 : Int) != 6) = false := rfl
  go_enter Tryz.func127, Tryz.ntmps127
  go_wp2_with (go_at_call 145; refine (HSM.out _ (Below.refl _ _)).mono ?_; rintro e w1 ⟨rfl, hb1⟩; have HB1 := hide hb1; have c0 := (hb1.cell (p := ⟨gx, ox, none⟩) hgxw).trans x0; have c2 := (hb1.cell (p := ⟨gx, ox + 2, none⟩) hgxw).trans x2; have d0 := (hb1.cell (p := ⟨gy, oy, none⟩) hgyw).trans y0; have d2 := (hb1.cell (p := ⟨gy, oy + 2, none⟩) hgyw).trans y2; clear hb1)
  refine wp_region_grown (by kernel_rfl) (by kernel_rfl) (fun V hV => ?_)
  try simp only [Act.put, List.getElem_toArray, List.getElem_cons_succ, List.getElem_cons_zero, List.setIfInBounds_toArray, List.set_cons_zero, List.set_cons_succ]
  have hne9 := grown_some V
  have g0 := grown_cell (w := V) (by rw [hV]; exact c0)
  have g2 := grown_cell (w := V) (by rw [hV]; exact c2)
  have k0 := grown_cell (w := V) (by rw [hV]; exact d0)
  have k2 := grown_cell (w := V) (by rw [hV]; exact d2)
  have HV := hide hV
  clear hV
  repeat (go_big_quiet_step (fail))
  refine wpQuiet_nil ?_
  intro w4 hw4
  rw [HV.out] at hw4
  have HB4 : Hid (Below w.heap.size w w4) := hide (HB1.out.trans (hw4.mono HB1.out.size))
  clear hw4 hne9 g0 g2 k0 k2 HV c0 c2 d0 d2
  go_wp2_with (first
    | ((fail_if_success (have := HO5)); go_at_call 146; refine (HSP1.out _ HB4.out).mono ?_; rintro e w5 ⟨v5, L1, rfl, hm5, ho5, hr5, hb5⟩; have HM5 := hide hm5; have HO5 := hide ho5; have HR5 := hide hr5; have HB5 : Hid (Below w.heap.size w w5) := hide (HB4.out.trans (hb5.mono HB4.out.size)); have HZ5 := hide hb5.size; clear hm5 ho5 hr5 hb5)
    | ((fail_if_success (have := HO6)); go_at_call 146; refine (HSP2.out _ HB5.out).mono ?_; rintro e w6 ⟨v6, L2, rfl, hm6, ho6, hr6, hb6⟩; have HM6 := hide hm6; have HO6 := hide ho6; have HR6 := hide hr6; have HB6 : Hid (Below w.heap.size w w6) := hide (HB5.out.trans (hb6.mono HB5.out.size)); have HB56 := hide hb6; clear hm6 ho6 hr6 hb6))
  have hD0 : 0 < ds.length := List.length_pos_iff.2 HDS.out.1
  have hL2 : L2.length = ds.length := by rw [← HM6.out, List.length_map]
  have hD9 : ds.length ≤ 898 := by have := brs_count (rowN n) ds; have := HSZ2.out; omega
  obtain ⟨mg, mc, hv6⟩ : ∃ mg mc, v6 = .slice (some ⟨mg, 0, none⟩) L2.length mc := by
    rcases HO6.out.2 with ⟨h0, h1⟩ | ⟨g', cap', cur', hv', _⟩
    · omega
    · exact ⟨g', cap', hv'⟩
  obtain ⟨D, hD⟩ : ∃ D, ds.length = D := ⟨_, rfl⟩
  rw [hL2, hD] at hv6
  rw [hD] at hD0 hL2 hD9
  subst hv6
  have HD := hide hD
  have HL2 := hide hL2
  have HST : Hid (RoundT n S w w6 w4.heap.size mg cs ds L2 v5 0 L1) := hide ⟨by rw [HM5.out]; rfl, split_cso HSS.out HB4.out.size HZ5.out HO5.out HR5.out HB56.out, by rw [HM5.out]; exact HSZ2.out, fun x hx => HCS.out.2.2 x.b (by rw [← HM5.out]; exact List.mem_map_of_mem hx), by rw [← List.length_map (f := BV.b), HM5.out]; exact HCS.out.2.1, HB6.out, (fun i x hx j y hj hy => by
      obtain ⟨hlt, hxe⟩ := List.getElem?_eq_some_iff.1 hx
      exact owns_cell HO6.out (by rw [HL2.out]) (i * 6 + j) y ((flat_get BV.six 6 BV.six_len L2 i hlt j hj).trans (by rw [hxe]; exact hy))), (owns_fresh HO6.out).hi mg (by simp [vblocks, cellBlocks]), (fun hm => by
      have h1 := (owns_fresh HO5.out).hi mg hm
      have h2 := (owns_fresh HO6.out).lo mg (by simp [vblocks, cellBlocks])
      omega), Nat.le_trans HZ5.out HB56.out.size⟩
  have HR6' : Hid (∀ W, Below w.heap.size w W → ∀ x ∈ L2, RdW W S x.u (rowN n x.b.p)) := hide (fun W hW x hx => (HR6.out x hx).carry (fun g hg => (hW.block g (HSS.out g hg)).trans (HB6.out.block g (HSS.out g hg)).symm) (fun _ h => h))
  obtain ⟨p5, c5, hv5⟩ := owns_shape HO5.out
  subst hv5
  clear hL2 hD
  go_loopw [6, 8] (fun cv i wr => ∃ (k : Nat) (acc : List (BV n)), k ≤ D ∧ i = .int .i64 k ∧ RoundT n S w wr w4.heap.size mg cs ds L2 cv k acc) (fun _ i _ => D - (intOf i).toNat)
  case atStart => exact ⟨0, L1, Nat.zero_le _, rfl, HST.out⟩
  case round =>
    obtain ⟨k, acc, hk, rfl, hR⟩ := hrel
    have HR := hide hR
    have hzw := hR.bel.size
    have hA4 := hR.four
    obtain ⟨cp, cc, hcv⟩ := owns_shape hR.own.own
    obtain ⟨A, hA⟩ : ∃ A, acc.length = A := ⟨_, rfl⟩
    rw [hA] at hcv hA4
    have HA := hide hA
    subst hcv
    by_cases hlt : k < D
    · obtain ⟨x, hx⟩ : ∃ x, L2[k]? = some x := ⟨L2[k]'(by rw [HL2.out]; exact hlt), List.getElem?_eq_getElem _⟩
      have hdk : ds[k]? = some x.b := by rw [← HM6.out, List.getElem?_map, hx]; rfl
      have hxm : x ∈ L2 := List.mem_of_getElem? hx
      have hdm : x.b ∈ ds := List.mem_of_getElem? hdk
      have HBD := hide (brs_drop hdk)
      have HST := hide (takes_step hR.same hdk)
      have HXR := hide (HR6'.out wr hR.bel x hxm)
      have HTC : Hid (Calls Tryz.prog 147 #[.slice cp A cc, .agg #[.int .i64 4, .string x.b.l, .string ByteArray.empty, .int .i64 0, .int .i64 x.b.s, x.u]] wr fun e w' => TookS n S w.heap.size w4.heap.size (.slice cp A cc) wr w' e (takeBy (mergeN n) (acc.map BV.b) x.b)) := hide (s_take n S w.heap.size w4.heap.size HMG.out acc x (.slice cp A cc) wr hR.own hR.blt (HXR.out.up (fun g hg => ⟨.inl hg, fun hm => by have := (owns_fresh hR.own.own).lo g hm; have := hR.own.ab; have := HSS.out g hg; omega⟩)) hR.shp (HDS.out.2 x.b hdm) (by have := hR.sz; have := HBD.out; omega))
      have m0 := hR.more k x hx 0 _ (by omega) rfl
      have m1 := hR.more k x hx 1 _ (by omega) rfl
      have m2 := hR.more k x hx 2 _ (by omega) rfl
      have m3 := hR.more k x hx 3 _ (by omega) rfl
      have m4 := hR.more k x hx 4 _ (by omega) rfl
      have m5 := hR.more k x hx 5 _ (by omega) rfl
      have hxu : ∃ p l c, x.u = .slice p l c := by obtain ⟨p, c, e, -⟩ := HXR.out; exact ⟨_, _, _, e⟩
      have HSD := hide (HDS.out.2 x.b hdm)
      obtain ⟨⟨xl, xs, xp⟩, xu⟩ := x
      dsimp only at hxu m0 m1 m2 m3 m4 m5 HTC HST HBD HSD
      obtain ⟨xq, xn, xc, rfl⟩ := hxu
      rw [Nat.add_zero] at m0
      obtain ⟨om, hom⟩ : ∃ om, takeBy (mergeN n) (acc.map BV.b) ⟨xl, xs, xp⟩ = om := ⟨_, rfl⟩
      rw [hom] at HTC HST
      have HOM := hide hom
      clear hR hx hdk hxm hdm hom hA
      cases om with
      | none =>
        go_wp2_with (go_at_call 147; refine HTC.out.mono ?_; rintro e w7 ⟨v7, acc7, rfl, h7a, h7b, h7c, p7, l7, c7, rfl⟩; have HB7 : Hid (Below w.heap.size w w7) := hide (HR.out.bel.trans (h7b.below hzw (fun b hb => Nat.le_trans HR.out.own.ab ((owns_fresh HR.out.own.own).lo b hb)))); clear h7a h7b h7c)
        go_ret2
        rw [HST.out]
        exact ⟨_, _, rfl, HUR.out w7 HB7.out, (fun z hz => by cases hz), ⟨row_pos _ _, by have := HSZ.out; omega⟩, HB7.out⟩
      | some l =>
        go_wp2_with (go_at_call 147; refine HTC.out.mono ?_; rintro e w7 ⟨v7, acc7, rfl, h7a, h7b, h7c, p7, l7, c7, rfl⟩; have H7A := hide (h7a l rfl); have H7B := hide h7b; have H7C := hide h7c; have HB7 : Hid (Below w.heap.size w w7) := hide (HR.out.bel.trans (h7b.below hzw (fun b hb => Nat.le_trans HR.out.own.ab ((owns_fresh HR.out.own.own).lo b hb)))); clear h7a h7b h7c)
        go_roundw
        case rel =>
          obtain ⟨e7, o7⟩ := H7A.out
          obtain ⟨hmb, h4⟩ := take_as HOM.out
          have hsz1 := (mergeBy_sz (f := rowN n) (mg := mergeN n) (fun x y z h => merge_sz n x y z h) _ _ _ hmb).1
          have hd1 : (brsBy (rowN n) [(⟨xl, xs, xp⟩ : Br (Pn n))]).length = 1 + (rowN n xp).length := by rw [brs_cons]; simp [brsBy]; omega
          have hbd := HBD.out
          have hsz := HR.out.sz
          have hall := mergeBy_all (Q := fun p => shapeN n p ∧ fourN n p) (mg := mergeN n) (fun x y z hx hy h => ⟨merge_shape n x y z hx.1 hy.1 h, merge_four n x y z hx.2 hy.2 h⟩) _ _ _ (fun b hb => by obtain ⟨y, hy, rfl⟩ := List.mem_map.1 hb; exact HR.out.shp y hy) (fun b hb => by simp at hb; subst hb; exact HSD.out) hmb
          refine ⟨k + 1, acc7, hlt, by go_num, ⟨by rw [e7, HST.out], o7, by rw [e7]; omega, fun y hy => hall y.b (by rw [← e7]; exact List.mem_map_of_mem hy), ?_, HB7.out, fun i y hy j z hj hz => ?_, Nat.lt_of_lt_of_le HR.out.mlt H7B.out.size, fun hm => ?_, Nat.le_trans HR.out.blt H7B.out.size⟩⟩
          · have := h4 (by rw [List.length_map]; exact HR.out.four)
            rw [← e7, List.length_map] at this
            exact this
          · exact H7B.out.cell' (HR.out.more i y hy j z hj hz) HR.out.mno
          · rcases H7C.out mg hm with h | h
            · exact HR.out.mno h
            · have := HR.out.mlt; omega
        case measure => simp [intOf]; omega
    · obtain rfl : k = D := by omega
      have HSMM : Hid (takesBy (mergeN n) cs ds = some (acc.map BV.b)) := hide (by have := hR.same; rw [List.drop_of_length_le (by rw [HD.out]; exact Nat.le_refl _), takesBy] at this; exact this.symm)
      have z2 := (hR.bel.cell (p := ⟨gx, ox + 2, none⟩) hgxw).trans x2
      have HFC : Hid (∀ (i : Nat) (y : BV n), acc[i]? = some y → ∃ cg g o c, cp = some ⟨cg, 0, none⟩ ∧ cg < wr.heap.size ∧ y.u = .slice (some ⟨g, o, none⟩) (rowN n y.b.p).length c ∧ ∀ W, Below wr.heap.size wr W → (∀ (j : Nat) (z : Value), j < 6 → y.six[j]? = some z → W.cell? ⟨cg, i * 6 + j, none⟩ = some z) ∧ RowAt W g o (rowN n y.b.p)) := hide (fun i y hy => by
        obtain ⟨cg, hcg⟩ : ∃ cg, cp = some ⟨cg, 0, none⟩ := by
          rcases HR.out.own.own.2 with ⟨h0, h1⟩ | ⟨g', cap', cur', hv', _⟩
          · have := (List.getElem?_eq_some_iff.1 hy).1; omega
          · injection hv' with hv' _ _; exact ⟨g', hv'⟩
        subst hcg
        obtain ⟨ao, cap, e, -, -, -, hrow⟩ := HR.out.own.rds y (List.mem_of_getElem? hy)
        obtain ⟨g, o, e2, hgs, hrow2⟩ := hrow (fun e => by have := row_pos n y.b.p; rw [e] at this; simp at this)
        refine ⟨cg, g, o, cap, rfl, (owns_fresh HR.out.own.own).hi cg (by simp [vblocks, cellBlocks]), by rw [e, e2], fun W hW => ⟨fun j z hj hz => CsO.get (g := cg) (c := cc) (by rw [HA.out]; exact HR.out.own.keep hW) hy j hj z hz, hrow2.block (hW.block g (plus_lt HR.out.own.low HR.out.own.siz hgs.1))⟩⟩)
      have HZ9 : Hid ((brsBy (rowN n) (acc.map BV.b)).length ≤ 898) := hide (by have := hR.sz; omega)
      have HBL := hide hR.bel
      obtain ⟨Z, hZ⟩ : ∃ Z, wr.heap.size = Z := ⟨_, rfl⟩
      rw [hZ] at HFC hzw
      have HZZ := hide hZ
      have HACC : Hid (acc.length = A) := hide hA
      clear hR hA hZ
      go_wp2_with fail
      go_loopw [11, 12] (fun ov i wr2 => ∃ k2 : Nat, k2 ≤ A ∧ i = .int .i64 k2 ∧ NdOwn wr2 Z ov (⟨6, noT, a, (A : Int), 0⟩ :: brsBy (rowN n) ((acc.map BV.b).take k2)) ∧ Below Z wr wr2) (fun _ i _ => A - (intOf i).toNat)
      case atStart => exact ⟨0, Nat.zero_le _, rfl, nd_lit wr ⟨6, noT, a, (A : Int), 0⟩ _ _ rfl (by rw [HZZ.out]; exact Nat.le_refl _), by rw [← HZZ.out]; exact malloc1 _ _⟩
      case round =>
        obtain ⟨k2, hk2, rfl, hown, hbel⟩ := hrel
        have HOWN := hide hown
        have HBEL := hide hbel
        have hzw2 := hbel.size
        rw [HZZ.out] at hzw2
        obtain ⟨p, c, hp⟩ := owns_shape hown
        obtain ⟨X, hX⟩ : ∃ X, (⟨6, noT, a, (A : Int), 0⟩ :: brsBy (rowN n) ((acc.map BV.b).take k2) : List Nd) = X := ⟨_, rfl⟩
        have HXL : Hid (X.length ≤ 900) := hide (by rw [← hX, List.length_cons]; have := brs_take_len (f := rowN n) (acc.map BV.b) k2; have := HZ9.out; omega)
        rw [hX] at hp HOWN
        obtain ⟨cnt, hcnt⟩ : ∃ c, X.length = c := ⟨_, rfl⟩
        rw [hcnt] at hp
        have HCN := hide hcnt
        have hcl : cnt ≤ 900 := by rw [← hcnt]; exact HXL.out
        subst hp
        have HX := hide hX
        have HOWN2 : Hid (wr.ownsRow Z 45 5 (.slice p cnt c) cnt (X.flatMap Nd.cells)) := hide (by have := HOWN.out; unfold NdOwn at this; rw [HCN.out] at this; exact this)
        clear hown hX hcnt
        by_cases hlt2 : k2 < A
        · obtain ⟨y, hy⟩ : ∃ y, acc[k2]? = some y := ⟨acc[k2]'(by rw [HACC.out]; exact hlt2), List.getElem?_eq_getElem _⟩
          have HB0 : Hid ((acc.map BV.b)[k2]? = some y.b) := hide (by rw [List.getElem?_map, hy]; rfl)
          obtain ⟨cg, g, o, cu, rfl, hcg, hyu, hfw⟩ := HFC.out k2 y hy
          obtain ⟨hsix, -⟩ := hfw wr hbel
          have m0 := hsix 0 _ (by omega) rfl
          have m1 := hsix 1 _ (by omega) rfl
          have m2 := hsix 2 _ (by omega) rfl
          have m3 := hsix 3 _ (by omega) rfl
          have m4 := hsix 4 _ (by omega) rfl
          rw [Nat.add_zero] at m0
          have hrp := row_pos n y.b.p
          have hrl : (rowN n y.b.p).length ≤ 898 := by have := (brs_get (f := rowN n) HB0.out).1; have := HZ9.out; omega
          obtain ⟨⟨yl, ys, yp⟩, yu⟩ := y
          dsimp only at hyu m0 m1 m2 m3 m4 hrp hrl
          subst hyu
          have HFW := hide hfw
          dsimp only at HFW
          obtain ⟨N, hN⟩ : ∃ N, rowN n yp = N := ⟨_, rfl⟩
          rw [hN] at hrl hrp HFW
          have HN := hide hN
          obtain ⟨RL, hRL⟩ : ∃ RL, N.length = RL := ⟨_, rfl⟩
          rw [hRL] at hrl hrp HFW
          have HRL := hide hRL
          clear hsix hfw hN hRL hbel hy
          go_wp2_with (first
            | ((fail_if_success (have := HO8)); at_builtin; refine wpList_append_own _ rfl (.tmp 78) (.tmp 84) 23 rfl Z 45 i0 (.agg #[.int .i64 0, .string ByteArray.empty, .string ByteArray.empty, .int .i64 0, .int .i64 0]) 5 56 Tryz.underlying23 HI.out.1 HI.out.2.1 HI.out.2.2.1 HI.out.2.2.2 rfl (by decide) (.slice p cnt c) cnt (X.flatMap Nd.cells) rfl (owns_below HOWN2.out (malloc1 wr _)) ⟨wr.heap.size, 0, none⟩ 1 1 (Nd.cells ⟨4, yl, noT, 0, ys⟩) rfl rfl (fun j u hj => new_rowq _ _ _ _ (by simp) j u hj) (Nd.cells_one _) (by unfold maxLen; omega) (by omega) (by simp; omega) ?_; intro v8 w8 hown8 hgr8 _; have HO8 := hide hown8; have HA8 : Hid (Apart wr w8 (vblocks (.slice p cnt c))) := hide (by have := (below_apart (malloc1 wr _)).trans (grownBy_apart hgr8); rwa [List.nil_append] at this); have HB8 := hide (HBEL.out.trans (HA8.out.below hzw2 (owns_fresh HOWN2.out).lo)); have z5 := (HFW.out w8 HB8.out).1 5 _ (by omega) rfl; obtain ⟨p8, c8, rfl⟩ := owns_shape hown8; clear hown8 hgr8)
            | ((fail_if_success (have := HO9)); at_builtin; refine wpList_append_own _ rfl (.tmp 86) (.tmp 91) 23 rfl Z 45 i0 (.agg #[.int .i64 0, .string ByteArray.empty, .string ByteArray.empty, .int .i64 0, .int .i64 0]) 5 56 Tryz.underlying23 HI.out.1 HI.out.2.1 HI.out.2.2.1 HI.out.2.2.2 rfl (by decide) (.slice p8 (cnt + 1) c8) (cnt + 1) (X.flatMap Nd.cells ++ Nd.cells ⟨4, yl, noT, 0, ys⟩) rfl HO8.out ⟨g, o, none⟩ RL cu (N.flatMap Nd.cells) rfl (by rw [flat_len Nd.cells 5 Nd.cells_len, HRL.out]) (fun j u hj => by rw [addr_add]; exact row_cells (HFW.out w8 HB8.out).2 j u hj) (nds_one N) (by unfold maxLen; omega) (by omega) (by have := HA8.out.size; omega) ?_; intro v9 w9 hown9 hgr9 _; have HO9 := hide hown9; have HB9 := hide (HB8.out.trans ((grownBy_apart hgr9).below (by have := HA8.out.size; omega) (owns_fresh HO8.out).lo)); obtain ⟨p9, c9, rfl⟩ := owns_shape hown9; clear hown9 hgr9))
          go_roundw
          case rel =>
            refine ⟨k2 + 1, hlt2, by go_num, ?_, HB9.out⟩
            have e := brs_take (f := rowN n) HB0.out
            dsimp only at e
            rw [HN.out] at e
            rw [e, ← List.cons_append, ← List.cons_append, HX.out]
            refine NdOwn.snoc ?_
            rw [List.length_append, List.length_singleton, HCN.out, HRL.out, List.flatMap_append]
            simpa using HO9.out
          case measure => simp [intOf]; omega
        · obtain rfl : k2 = A := by omega
          have HE : Hid (X = rowN (n + 1) (.talk ⟨6, noT, a⟩ (acc.map BV.b))) := hide (by rw [← HX.out, row_talk, List.take_of_length_le (by rw [List.length_map, HACC.out]; exact Nat.le_refl _), List.length_map, HACC.out])
          go_wp2_with fail
          go_ret2
          rw [HSMM.out]
          have hbw : Below w.heap.size w wr := HBL.out.trans (HBEL.out.mono hzw)
          refine ⟨_, X, rfl, ?_, (fun z hz => by have hz' : some (Pn.talk ⟨6, noT, a⟩ (acc.map BV.b)) = some z := hz; injection hz' with hz'; rw [← hz']; exact HE.out), ⟨by rw [HE.out]; exact row_pos _ _, HXL.out⟩, hbw⟩
          exact (NdOwn.rdS HOWN.out (by have := HXL.out; omega)).up (fun g hg => .inr ⟨Nat.le_trans hzw hg.1, hg.2⟩)
end Go.Proofs.YtmjlblbhakppfaaGreatDoor
namespace Go.Proofs.YtmjlblbhakppfaaGreatDoor
open Go.RowKit

theorem head_of {n : Nat} : ∀ p : Pn (n + 1), ∃ h X, rowN (n + 1) p = h :: X ∧ ((h.op == 6) = true → ∃ a0 l, p = .talk ⟨6, a0, h.peer⟩ l) ∧ ((h.op == 6) = false → hearN p = none) := by
  refine Pn.cases (fun x => ?_) (fun x q => ?_) (fun t l => ?_)
  · cases x with
    | none => exact ⟨_, _, rfl, (fun h => by cases h), fun _ => rfl⟩
    | some x => exact ⟨_, _, rfl, (fun h => by cases h), fun _ => rfl⟩
  · exact ⟨_, _, row_loop x q, (fun h => by cases h), fun _ => rfl⟩
  · obtain ⟨op, a, b⟩ := t
    refine ⟨_, _, row_talk _ l, (fun h => ?_), fun h => ?_⟩
    · have h' : op = 6 := by simpa using h
      subst h'
      exact ⟨a, l, rfl⟩
    · show (if (op == 6) = true then some (b, l) else none) = none
      have h' : (op == 6) = false := h
      rw [h']
      rfl
theorem merge_s : ∀ n : Nat, MergeSCalls n := by
  intro n
  induction n with
  | zero =>
    intro S x y u v w hS hx hy h4x h4y hl hu hv
    obtain ⟨h, e, ho⟩ : ∃ h, rowN 0 x = [h] ∧ (h.op == 6) = false := by cases x <;> exact ⟨_, rfl, rfl⟩
    obtain ⟨h', e', ho'⟩ : ∃ h, rowN 0 y = [h] ∧ (h.op == 6) = false := by cases y <;> exact ⟨_, rfl, rfl⟩
    have := s_merge_no 0 S x y u v w hS h h' [] [] e e' hl hu hv (.inr (by rw [ho]; rfl))
    rw [mergeN]
    exact this
  | succ n ih =>
    intro S x y u v w hS hx hy h4x h4y hl hu hv
    obtain ⟨h, X, e, hs, hn⟩ := head_of x
    obtain ⟨h', Y, e', hs', hn'⟩ := head_of y
    cases hr : rowEq (rowN (n + 1) x) (rowN (n + 1) y) with
    | true =>
      have := s_merge_no (n + 1) S x y u v w hS h h' X Y e e' hl hu hv (.inl hr)
      rw [mergeN, if_pos hr]
      rw [if_pos hr] at this
      exact this
    | false =>
      cases hc : (h.op == 6 && h'.op == 6 && (h.peer.toList == h'.peer.toList)) with
      | false =>
        have := s_merge_no (n + 1) S x y u v w hS h h' X Y e e' hl hu hv (.inr hc)
        rw [hr] at this
        have hm : mergeN (n + 1) x y = none := by
          rw [mergeN, hr]
          cases h1 : (h.op == 6) with
          | false => rw [hn h1]; rfl
          | true =>
            obtain ⟨a0, l, ex⟩ := hs h1
            cases h2 : (h'.op == 6) with
            | false => rw [hn' h2]; cases hearN x <;> rfl
            | true =>
              obtain ⟨b0, l', ey⟩ := hs' h2
              rw [h1, h2] at hc
              have hc' : (h.peer.toList == h'.peer.toList) = false := hc
              have e1 : hearN x = some (h.peer, l) := by rw [ex]; rfl
              have e2 : hearN y = some (h'.peer, l') := by rw [ey]; rfl
              rw [e1, e2]
              simp only [hc', Bool.false_eq_true, if_false]
        rw [hm]
        exact this
      | true =>
        simp only [Bool.and_eq_true] at hc
        obtain ⟨⟨h1, h2⟩, h3⟩ := hc
        obtain ⟨a0, cs, ex⟩ := hs h1
        obtain ⟨b0, ds, ey⟩ := hs' h2
        obtain ⟨pa, hpa⟩ : ∃ pa, h.peer = pa := ⟨_, rfl⟩
        obtain ⟨pb, hpb⟩ : ∃ pb, h'.peer = pb := ⟨_, rfl⟩
        rw [hpa] at ex h3
        rw [hpb] at ey h3
        subst ex
        subst ey
        have hx' : tkOk ⟨6, a0, pa⟩ ∧ cs ≠ [] ∧ ∀ b ∈ cs, shapeN n b.p := hx
        have hy' : tkOk ⟨6, b0, pb⟩ ∧ ds ≠ [] ∧ ∀ b ∈ ds, shapeN n b.p := hy
        have h4x' : cs.length ≤ 4 ∧ ∀ b ∈ cs, fourN n b.p := h4x
        have h4y' : ds.length ≤ 4 ∧ ∀ b ∈ ds, fourN n b.p := h4y
        have := s_merge_hear n S ih a0 pa b0 pb cs ds ⟨hx'.2.1, h4x'.1, fun x hm => ⟨hx'.2.2 x hm, h4x'.2 x hm⟩⟩ ⟨hy'.2.1, fun x hm => ⟨hy'.2.2 x hm, h4y'.2 x hm⟩⟩ u v w hS hl hu hv hr h3
        rw [takes_hear pa cs ds h4x'.1] at this
        have hm : mergeN (n + 1) (.talk ⟨6, a0, pa⟩ cs) (.talk ⟨6, b0, pb⟩ ds) = hearO n pa (mergeBy (mergeN n) cs ds) := by
          rw [mergeN, hr]
          show (if (pa.toList == pb.toList) = true then (match mergeBy (mergeN n) cs ds with
            | some l => if l.length ≤ 4 then some (Pn.talk ⟨6, noT, pa⟩ l) else none
            | none => none) else none) = _
          rw [if_pos h3]
          unfold hearO
          cases mergeBy (mergeN n) cs ds <;> rfl
        rw [hm]
        exact this
end Go.Proofs.YtmjlblbhakppfaaGreatDoor
namespace Go.Proofs.YtmjlblbhakppfaaGreatDoor
open Go.RowKit
attribute [local go_sem ↓] Go.wp_at_zero Go.wp_at_succ

def OfAns (n len : Nat) (w w' : World) (e : Ending) (o : Option (Pn n)) : Prop := ∃ q r, e = .returned (.tuple #[q, .bool o.isSome]) ∧ RdW w' (btF w.heap.size w') q r ∧ (∀ z, o = some z → r = rowN n z) ∧ (q = .slice none 0 0 ∨ 0 < r.length) ∧ r.length ≤ 900 + len ∧ Below w.heap.size w w'
def OfCalls (role : ByteArray) (n : Nat) : Prop := ∀ (p : Pn n) (all post : List Nd) (pos : Nat) (v : Value) (w : World) (S : Nat → Prop), (∀ g, S g → g < w.heap.size) → planN n p → all.length ≤ 40 → all.drop pos = rowN n p ++ post → RdW w S v all → Calls Tryz.prog 62 #[v, .int .i64 pos, .string role] w fun e w' => OfAns n (rowN n p).length w w' e (partN role n p)
set_option maxRecDepth 100000 in
set_option maxHeartbeats 1000000 in
theorem of_leaf (role : ByteArray) (x : Option ByteArray) (all post : List Nd) (pos : Nat) (v : Value) (w : World) (S : Nat → Prop) (hS : ∀ g, S g → g < w.heap.size) (_hl : all.length ≤ 40) (h : all.drop pos = leafRow x ++ post) (hv : RdW w S v all) : Calls Tryz.prog 62 #[v, .int .i64 pos, .string role] w fun e w' => ∃ q, e = .returned (.tuple #[q, .bool true]) ∧ RdW w' (btF w.heap.size w') q (leafRow x) ∧ Below w.heap.size w w' := by
  obtain ⟨nd, hr, hop⟩ : ∃ nd, leafRow x = [nd] ∧ (nd.op = 0 ∨ nd.op = 1) := by
    cases x with
    | none => exact ⟨_, rfl, .inl rfl⟩
    | some x => exact ⟨_, rfl, .inr rfl⟩
  rw [hr] at h ⊢
  obtain ⟨hp, hn, -⟩ := drop_next h
  obtain ⟨ao, cap, rfl, hc, hm, -, hrow⟩ := hv
  obtain ⟨g, o, rfl, hg, hrow⟩ := hrow (fun e => by rw [e] at hp; simp at hp)
  have hnode := hrow.get pos hp
  rw [hn] at hnode
  have hgw := hS g hg
  have HFIN : Hid (∀ (W : World) (b : Nat), b = W.heap.size → w.heap.size ≤ W.heap.size → RdW (W.alloc (.cells #[.int .i64 nd.op, .string nd.name, .string nd.peer, .int .i64 nd.many, .int .i64 nd.sort] 45)) (btF w.heap.size (W.alloc (.cells #[.int .i64 nd.op, .string nd.name, .string nd.peer, .int .i64 nd.many, .int .i64 nd.sort] 45))) (.slice (some ⟨b, 0, none⟩) 1 1) [nd]) := hide (fun W b hb hW => (nd_lit W nd w.heap.size b hb hW).rdS (by simp))
  obtain ⟨op, name, peer, many, sort⟩ := nd
  dsimp only at hop HFIN
  obtain ⟨c0, c1, c2, c3, c4⟩ := hnode
  dsimp only at c0 c1 c2 c3 c4
  obtain ⟨M, hM⟩ : ∃ M, all.length = M := ⟨_, rfl⟩
  rw [hM] at hp hc ⊢
  clear hrow hn hr h hS hM
  rcases hop with rfl | rfl
  all_goals
    go_enter Tryz.func62, Tryz.ntmps62
    go_wp2_with fail
    go_ret2
    exact ⟨_, rfl, HFIN.out _ _ (by simp) (by simp), (malloc1 w _).trans ((malloc1 _ _).mono (by simp))⟩
theorem leaf_ans {role : ByteArray} {x : Option ByteArray} {all post : List Nd} {pos : Nat} {v : Value} {w : World} {S : Nat → Prop} (hS : ∀ g, S g → g < w.heap.size) (hl : all.length ≤ 40) (h : all.drop pos = leafRow x ++ post) (hv : RdW w S v all) {n : Nat} {z0 : Pn n} (hz : rowN n z0 = leafRow x) : Calls Tryz.prog 62 #[v, .int .i64 pos, .string role] w fun e w' => OfAns n (leafRow x).length w w' e (some z0) := by
  refine (of_leaf role x all post pos v w S hS hl h hv).mono ?_
  rintro e w' ⟨q, rfl, h1, h2⟩
  exact ⟨q, leafRow x, rfl, h1, (fun z hz' => by injection hz' with hz'; subst hz'; exact hz.symm), .inr (leaf_pos x), by omega, h2⟩
theorem of_shape {w : World} {a : Nat} {q : Value} {r : List Nd} (h : RdW w (btF a w) q r) (hc : q = .slice none 0 0 ∨ 0 < r.length) : (q = .slice none 0 0 ∧ r = []) ∨ ∃ g o c L, q = .slice (some ⟨g, o, none⟩) L c ∧ r.length = L ∧ 0 < L ∧ L ≤ 2000 ∧ g < w.heap.size ∧ RowAt w g o r := by
  obtain ⟨ao, cap, e, hc1, hm, hl, hr⟩ := h
  rcases hc with hc | hc
  · rw [hc] at e
    injection e with _ e _
    exact .inl ⟨hc, List.length_eq_zero_iff.1 e.symm⟩
  · obtain ⟨g, o, e2, hg, hrow⟩ := hr (fun e => by rw [e] at hc; simp at hc)
    exact .inr ⟨g, o, cap, r.length, by rw [e, e2], rfl, hc, hl, hg.2.1, hrow⟩
theorem role_loop (role x : ByteArray) (r : List Nd) : hasRole role (⟨2, x, noT, 0, 0⟩ :: r) = hasRole role r := by
  rw [has_any, has_any, List.any_cons]
  rfl
set_option maxRecDepth 100000 in
set_option maxHeartbeats 2000000 in
theorem of_loop (role : ByteArray) (n : Nat) (ih : OfCalls role n) (x : ByteArray) (q : Pn n) (hq : planN n q) (all post : List Nd) (pos : Nat) (v : Value) (w : World) (S : Nat → Prop) (hS : ∀ g, S g → g < w.heap.size) (hl : all.length ≤ 40) (h : all.drop pos = rowN (n + 1) (.loop x q) ++ post) (hv : RdW w S v all) : Calls Tryz.prog 62 #[v, .int .i64 pos, .string role] w fun e w' => OfAns (n + 1) (rowN (n + 1) (.loop x q)).length w w' e (partN role (n + 1) (.loop x q)) := by
  obtain ⟨i0, hi, hz0, hz1, hz2⟩ := info_parts Tryz.infoNd
  have HI := hide (And.intro hi (And.intro hz0 (And.intro hz1 hz2)))
  have hrl := row_loop x q
  obtain ⟨ALL, hALL⟩ : ∃ ALL, rowN (n + 1) (.loop x q) = ALL := ⟨_, rfl⟩
  have hsh : shapeN (n + 1) (.loop x q) := plan_shape n q hq
  have HW := fun (W : World) (hW : Below w.heap.size w W) => (⟨fun g hg => Nat.lt_of_lt_of_le (hS g hg) hW.size, hv.on hS hW⟩ : (∀ g, S g → g < W.heap.size) ∧ RdW W S v all)
  obtain ⟨hp, hn, h1⟩ := drop_next (show all.drop pos = ⟨2, x, noT, 0, 0⟩ :: rowN n q ++ post by rw [h, hrl])
  obtain ⟨T, hT⟩ : ∃ T, pos + 1 + (rowN n q).length = T := ⟨_, rfl⟩
  have HBH : Hid (∀ W, Below w.heap.size w W → Calls Tryz.prog 91 #[v, .int .i64 pos] W fun e w' => e = .returned (.int .i64 (T : Int)) ∧ Below W.heap.size W w') := hide (fun W hW => by
    have := behind_calls (n + 1) (.loop x q) all post pos v W S (HW W hW).1 hsh (by omega) h (HW W hW).2
    rw [show pos + (rowN (n + 1) (.loop x q)).length = T by rw [hrl, List.length_cons]; omega] at this
    exact this)
  obtain ⟨q1, hq1⟩ : ∃ q1, hasRole role (rowN n q) = q1 := ⟨_, rfl⟩
  obtain ⟨q2, hq2⟩ : ∃ q2, closedL [] ALL = q2 := ⟨_, rfl⟩
  have HTL : Hid (∀ W, Below w.heap.size w W → Calls Tryz.prog 92 #[v, .int .i64 ((pos : Int) + 1), .int .i64 (T : Int), .string role] W fun e w' => e = .returned (.bool q1) ∧ Below W.heap.size W w') := hide (fun W hW => by
    have := s_talks role all (rowN n q) post (pos + 1) v W S (HW W hW).1 (by omega) (by omega) h1 (HW W hW).2
    rw [hT, hq1] at this
    exact this)
  have HCL : Hid (∀ W, Below w.heap.size w W → Calls Tryz.prog 93 #[v, .int .i64 pos, .int .i64 (T : Int)] W fun e w' => e = .returned (.bool q2) ∧ Below W.heap.size W w') := hide (fun W hW => by
    have := s_closed all (rowN (n + 1) (.loop x q)) post pos v W S (HW W hW).1 (by omega) (by omega) h (HW W hW).2
    rw [show pos + (rowN (n + 1) (.loop x q)).length = T by rw [hrl, List.length_cons]; omega, hALL, hq2] at this
    exact this)
  have HIH : Hid (∀ W, Below w.heap.size w W → Calls Tryz.prog 62 #[v, .int .i64 ((pos : Int) + 1), .string role] W fun e w' => OfAns n (rowN n q).length W w' e (partN role n q)) := hide (fun W hW => ih q all post (pos + 1) v W S (HW W hW).1 hq hl h1 (HW W hW).2)
  obtain ⟨om, hom⟩ : ∃ om, partN role n q = om := ⟨_, rfl⟩
  have HP : Hid (partN role (n + 1) (.loop x q) = if !q1 && q2 then some (.leaf none) else om.map (Pn.loop x)) := hide (by
    show (if (!hasRole role (rowN (n + 1) (.loop x q)) && closedL [] (rowN (n + 1) (.loop x q))) then some (Pn.leaf none) else (partN role n q).map (Pn.loop x)) = _
    rw [hom, hALL, hq2, ← hALL, hrl, role_loop, hq1])
  rw [hom] at HIH
  have HLN : Hid ((rowN (n + 1) (.loop x q)).length = (rowN n q).length + 1) := hide (by rw [hrl]; rfl)
  have hp40 : pos < 40 := by omega
  have hT40 : T ≤ 40 := by have := drop_len h1 (fun e => by have := row_pos n q; rw [e] at this; simp at this); omega
  have HQL : Hid ((rowN n q).length ≤ 40) := hide (by omega)
  obtain ⟨ao, cap, rfl, hc, hm, -, hrow⟩ := hv
  obtain ⟨g, o, rfl, hg, hrow⟩ := hrow (fun e => by rw [e] at hp; simp at hp)
  have hnode := hrow.get pos hp
  rw [hn] at hnode
  obtain ⟨c0, c1, c2, c3, c4⟩ := hnode
  dsimp only at c0 c1 c2 c3 c4
  have hgw := hS g hg
  obtain ⟨M, hM⟩ : ∃ M, all.length = M := ⟨_, rfl⟩
  rw [hM] at hp hl hc HBH HTL HCL HIH ⊢
  clear hrow hn h h1 hS hM ih HW hq1 hq2 hom hALL hrl hT hi hz0 hz1 hz2
  cases q1
  · cases q2
    · go_enter Tryz.func62, Tryz.ntmps62
      go_wp2_with (first
        | (go_at_call 91; refine (HBH.out _ (malloc1 _ _)).mono ?_; rintro e w1 ⟨rfl, hb1⟩; have HB1 : Hid (Below w.heap.size w w1) := hide ((malloc1 w _).trans (hb1.mono (by simp))); have HC1 := hide hb1; clear hb1)
        | (go_at_call 92; refine (HTL.out _ HB1.out).mono ?_; rintro e w2 ⟨rfl, hb2⟩; have HB2 : Hid (Below w.heap.size w w2) := hide (HB1.out.trans (hb2.mono HB1.out.size)); have HC2 := hide (HC1.out.trans (hb2.mono HC1.out.size)); clear hb2)
        | (go_at_call 93; refine (HCL.out _ HB2.out).mono ?_; rintro e w3 ⟨rfl, hb3⟩; have HB3 : Hid (Below w.heap.size w w3) := hide (HB2.out.trans (hb3.mono HB2.out.size)); have HC3 := hide (HC2.out.trans (hb3.mono HC2.out.size)); clear hb3)
        | (go_at_call 62; refine (HIH.out _ HB3.out).mono ?_; rintro e w5 ⟨qv, r, rfl, h5a, h5b, h5c, h5d, h5e⟩; have H5A := hide h5a; have H5B := hide h5b; have H5D := hide h5d; have HB5 : Hid (Below w.heap.size w w5) := hide (HB3.out.trans (h5e.mono HB3.out.size)); have HC5 := hide (HC3.out.trans (h5e.mono HC3.out.size)); have n0 := HC5.out.cell (p := ⟨w.heap.size, 0, none⟩) (by simp); have n1 := HC5.out.cell (p := ⟨w.heap.size, 1, none⟩) (by simp); have n2 := HC5.out.cell (p := ⟨w.heap.size, 2, none⟩) (by simp); have n3 := HC5.out.cell (p := ⟨w.heap.size, 3, none⟩) (by simp); have n4 := HC5.out.cell (p := ⟨w.heap.size, 4, none⟩) (by simp); simp at n0 n1 n2 n3 n4; have h5z := HB5.out.size; have H53 := hide h5e.size; clear h5b h5d h5e; rcases of_shape h5a h5c with ⟨rfl, hnr⟩ | ⟨g5, o5, cap5, RL, rfl, hRL, hl0, hl5, hg5w, hrow5⟩)
        | (first | (at_builtin; refine wpList_append_own_none rfl (.tmp 52) (.tmp 53) 23 rfl w.heap.size 45 i0 5 Tryz.underlying23 HI.out.1 (.slice (some ⟨w5.heap.size, 0, none⟩) 1 1) 1 (([⟨2, x, noT, 0, 0⟩] : List Nd).flatMap Nd.cells) rfl (nd_lit w5 ⟨2, x, noT, 0, 0⟩ w.heap.size w5.heap.size rfl h5z) rfl ?_) | (at_builtin; refine wpList_append_own _ rfl (.tmp 52) (.tmp 53) 23 rfl w.heap.size 45 i0 (.agg #[.int .i64 0, .string ByteArray.empty, .string ByteArray.empty, .int .i64 0, .int .i64 0]) 5 56 Tryz.underlying23 HI.out.1 HI.out.2.1 HI.out.2.2.1 HI.out.2.2.2 rfl (by decide) (.slice (some ⟨w5.heap.size, 0, none⟩) 1 1) 1 (([⟨2, x, noT, 0, 0⟩] : List Nd).flatMap Nd.cells) rfl (nd_lit w5 ⟨2, x, noT, 0, 0⟩ w.heap.size w5.heap.size rfl h5z) ⟨g5, o5, none⟩ RL cap5 (r.flatMap Nd.cells) rfl (by rw [flat_len Nd.cells 5 Nd.cells_len, hRL]) (fun j u hj => by rw [addr_add]; exact row_cells (hrow5.block ((malloc1 w5 _).block g5 hg5w)) j u hj) (nds_one r) (by unfold maxLen; omega) (by omega) (by simp; omega) ?_; intro v6 w6 hown6 hgr6 _; have HO6 := hide hown6; have HB6 : Hid (Below w.heap.size w w6) := hide ((HB5.out.trans ((malloc1 w5 _).mono h5z)).trans ((grownBy_apart hgr6).below (by simp; omega) (owns_fresh (nd_lit w5 ⟨2, x, noT, 0, 0⟩ w.heap.size w5.heap.size rfl h5z)).lo)); obtain ⟨p6, c6, rfl⟩ := owns_shape hown6; clear hown6 hgr6)))
      · go_ret2
        rw [HP.out]
        refine ⟨_, [⟨2, x, noT, 0, 0⟩], ret2_bool ?_, (nd_lit w5 ⟨2, x, noT, 0, 0⟩ w.heap.size w5.heap.size rfl h5z).rdS (by simp), fun z hz => ?_, .inr (by simp), by have := HLN.out; simp; omega, HB5.out.trans ((malloc1 w5 _).mono h5z)⟩
        · show (om.map (Pn.loop x)).isSome = _
          cases om <;> rfl
        · have hz' : om.map (Pn.loop x) = some z := hz
          cases om with
          | none => cases hz'
          | some y =>
            have := H5B.out y rfl
            rw [hnr] at this
            have hy := row_pos n y
            rw [← this] at hy
            simp at hy
      · go_ret2
        rw [HP.out]
        have hown : NdOwn w6 w.heap.size (.slice p6 (1 + RL) c6) ([⟨2, x, noT, 0, 0⟩] ++ r) := NdOwn.snoc (by rw [hRL]; exact HO6.out)
        refine ⟨.slice p6 (1 + RL) c6, [⟨2, x, noT, 0, 0⟩] ++ r, ret2_bool ?_, hown.rdS (by have := HQL.out; have := H5D.out; rw [List.length_append]; simp; omega), fun z hz => ?_, .inr (by simp), by have := HLN.out; have := H5D.out; rw [List.length_append]; simp; omega, HB6.out⟩
        · show (om.map (Pn.loop x)).isSome = _
          cases om <;> rfl
        · have hz' : om.map (Pn.loop x) = some z := hz
          cases om with
          | none => cases hz'
          | some y =>
            simp only [Option.map_some, Option.some.injEq] at hz'
            subst hz'
            rw [H5B.out y rfl, row_loop]
            rfl
    · go_enter Tryz.func62, Tryz.ntmps62
      go_wp2_with (first
        | (go_at_call 91; refine (HBH.out _ (malloc1 _ _)).mono ?_; rintro e w1 ⟨rfl, hb1⟩; have HB1 : Hid (Below w.heap.size w w1) := hide ((malloc1 w _).trans (hb1.mono (by simp))); have HC1 := hide hb1; clear hb1)
        | (go_at_call 92; refine (HTL.out _ HB1.out).mono ?_; rintro e w2 ⟨rfl, hb2⟩; have HB2 : Hid (Below w.heap.size w w2) := hide (HB1.out.trans (hb2.mono HB1.out.size)); have HC2 := hide (HC1.out.trans (hb2.mono HC1.out.size)); clear hb2)
        | (go_at_call 93; refine (HCL.out _ HB2.out).mono ?_; rintro e w3 ⟨rfl, hb3⟩; have HB3 : Hid (Below w.heap.size w w3) := hide (HB2.out.trans (hb3.mono HB2.out.size)); have HC3 := hide (HC2.out.trans (hb3.mono HC2.out.size)); clear hb3))
      go_ret2
      rw [HP.out]
      exact ⟨_, [⟨0, noT, noT, 0, 0⟩], rfl, (nd_lit w3 ⟨0, noT, noT, 0, 0⟩ w.heap.size w3.heap.size rfl HB3.out.size).rdS (by simp), (fun z hz => by have hz' : some (Pn.leaf none) = some z := hz; injection hz' with hz'; subst hz'; rfl), .inr (by simp), by simp; omega, HB3.out.trans ((malloc1 w3 _).mono HB3.out.size)⟩
  · go_enter Tryz.func62, Tryz.ntmps62
    go_wp2_with (first
      | (go_at_call 91; refine (HBH.out _ (malloc1 _ _)).mono ?_; rintro e w1 ⟨rfl, hb1⟩; have HB1 : Hid (Below w.heap.size w w1) := hide ((malloc1 w _).trans (hb1.mono (by simp))); have HC1 := hide hb1; clear hb1)
      | (go_at_call 92; refine (HTL.out _ HB1.out).mono ?_; rintro e w2 ⟨rfl, hb2⟩; have HB2 : Hid (Below w.heap.size w w2) := hide (HB1.out.trans (hb2.mono HB1.out.size)); have HC2 := hide (HC1.out.trans (hb2.mono HC1.out.size)); clear hb2)
      | (go_at_call 62; refine (HIH.out _ HB2.out).mono ?_; rintro e w5 ⟨qv, r, rfl, h5a, h5b, h5c, h5d, h5e⟩; have H5A := hide h5a; have H5B := hide h5b; have H5D := hide h5d; have HB5 : Hid (Below w.heap.size w w5) := hide (HB2.out.trans (h5e.mono HB2.out.size)); have HC5 := hide (HC2.out.trans (h5e.mono HC2.out.size)); have n0 := HC5.out.cell (p := ⟨w.heap.size, 0, none⟩) (by simp); have n1 := HC5.out.cell (p := ⟨w.heap.size, 1, none⟩) (by simp); have n2 := HC5.out.cell (p := ⟨w.heap.size, 2, none⟩) (by simp); have n3 := HC5.out.cell (p := ⟨w.heap.size, 3, none⟩) (by simp); have n4 := HC5.out.cell (p := ⟨w.heap.size, 4, none⟩) (by simp); simp at n0 n1 n2 n3 n4; have h5z := HB5.out.size; have H53 := hide h5e.size; clear h5b h5d h5e; rcases of_shape h5a h5c with ⟨rfl, hnr⟩ | ⟨g5, o5, cap5, RL, rfl, hRL, hl0, hl5, hg5w, hrow5⟩)
      | (first | (at_builtin; refine wpList_append_own_none rfl (.tmp 52) (.tmp 53) 23 rfl w.heap.size 45 i0 5 Tryz.underlying23 HI.out.1 (.slice (some ⟨w5.heap.size, 0, none⟩) 1 1) 1 (([⟨2, x, noT, 0, 0⟩] : List Nd).flatMap Nd.cells) rfl (nd_lit w5 ⟨2, x, noT, 0, 0⟩ w.heap.size w5.heap.size rfl h5z) rfl ?_) | (at_builtin; refine wpList_append_own _ rfl (.tmp 52) (.tmp 53) 23 rfl w.heap.size 45 i0 (.agg #[.int .i64 0, .string ByteArray.empty, .string ByteArray.empty, .int .i64 0, .int .i64 0]) 5 56 Tryz.underlying23 HI.out.1 HI.out.2.1 HI.out.2.2.1 HI.out.2.2.2 rfl (by decide) (.slice (some ⟨w5.heap.size, 0, none⟩) 1 1) 1 (([⟨2, x, noT, 0, 0⟩] : List Nd).flatMap Nd.cells) rfl (nd_lit w5 ⟨2, x, noT, 0, 0⟩ w.heap.size w5.heap.size rfl h5z) ⟨g5, o5, none⟩ RL cap5 (r.flatMap Nd.cells) rfl (by rw [flat_len Nd.cells 5 Nd.cells_len, hRL]) (fun j u hj => by rw [addr_add]; exact row_cells (hrow5.block ((malloc1 w5 _).block g5 hg5w)) j u hj) (nds_one r) (by unfold maxLen; omega) (by omega) (by simp; omega) ?_; intro v6 w6 hown6 hgr6 _; have HO6 := hide hown6; have HB6 : Hid (Below w.heap.size w w6) := hide ((HB5.out.trans ((malloc1 w5 _).mono h5z)).trans ((grownBy_apart hgr6).below (by simp; omega) (owns_fresh (nd_lit w5 ⟨2, x, noT, 0, 0⟩ w.heap.size w5.heap.size rfl h5z)).lo)); obtain ⟨p6, c6, rfl⟩ := owns_shape hown6; clear hown6 hgr6)))
    · go_ret2
      rw [HP.out]
      refine ⟨_, [⟨2, x, noT, 0, 0⟩], ret2_bool ?_, (nd_lit w5 ⟨2, x, noT, 0, 0⟩ w.heap.size w5.heap.size rfl h5z).rdS (by simp), fun z hz => ?_, .inr (by simp), by have := HLN.out; simp; omega, HB5.out.trans ((malloc1 w5 _).mono h5z)⟩
      · show (om.map (Pn.loop x)).isSome = _
        cases om <;> rfl
      · have hz' : om.map (Pn.loop x) = some z := hz
        cases om with
        | none => cases hz'
        | some y =>
          have := H5B.out y rfl
          rw [hnr] at this
          have hy := row_pos n y
          rw [← this] at hy
          simp at hy
    · go_ret2
      rw [HP.out]
      have hown : NdOwn w6 w.heap.size (.slice p6 (1 + RL) c6) ([⟨2, x, noT, 0, 0⟩] ++ r) := NdOwn.snoc (by rw [hRL]; exact HO6.out)
      refine ⟨.slice p6 (1 + RL) c6, [⟨2, x, noT, 0, 0⟩] ++ r, ret2_bool ?_, hown.rdS (by have := HQL.out; have := H5D.out; rw [List.length_append]; simp; omega), fun z hz => ?_, .inr (by simp), by have := HLN.out; have := H5D.out; rw [List.length_append]; simp; omega, HB6.out⟩
      · show (om.map (Pn.loop x)).isSome = _
        cases om <;> rfl
      · have hz' : om.map (Pn.loop x) = some z := hz
        cases om with
        | none => cases hz'
        | some y =>
          simp only [Option.map_some, Option.some.injEq] at hz'
          subst hz'
          rw [H5B.out y rfl, row_loop]
          rfl
end Go.Proofs.YtmjlblbhakppfaaGreatDoor
