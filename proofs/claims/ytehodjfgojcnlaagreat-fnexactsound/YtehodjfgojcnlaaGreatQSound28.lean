/- hasAny: is one of these ops in the row? slices.Contains at []int64. -/
import Derived.Test.YtehodjfgojcnlaaGreatQSound07
import Derived.Test.YtehodjfgojcnlaaGreatQSound03
namespace Go.Proofs.YtehodjfgojcnlaaGreat
open Go.RowKit

/-- a row of numbers in memory -/
def NumsAt (w : World) (v : Value) (ls : List Int) : Prop :=
  ∃ ao cap, v = .slice ao ls.length cap ∧ ls.length ≤ cap ∧ ls.length ≤ 4294967296 ∧ (ls ≠ [] → ∃ b o, ao = some ⟨b, o, none⟩ ∧ ∀ i (h : i < ls.length), w.cell? ⟨b, o + i, none⟩ = some (.int .i64 ls[i]))
theorem NumsAt.carry {w w' : World} {v : Value} {ls : List Int} (h : NumsAt w v ls) (hb : Below w.heap.size w w') : NumsAt w' v ls := by
  obtain ⟨ao, cap, h1, h2, h3, h4⟩ := h
  refine ⟨ao, cap, h1, h2, h3, fun hne => ?_⟩
  obtain ⟨b, o, e, hr⟩ := h4 hne
  refine ⟨b, o, e, fun i hi => ?_⟩
  exact (hb.cell (p := ⟨b, _, none⟩) (World.block_lt_of_cell? w _ (hr i hi))).trans (hr i hi)
def hasN (ls : List Int) (t : Int) : Bool := ls.any fun s => t == s
theorem hasN_take {ls : List Int} {t : Int} {k : Nat} (hk : k < ls.length) (h : hasN (ls.take k) t = false) (he : (t == ls[k]) = false) : hasN (ls.take (k + 1)) t = false := by
  rw [hasN, List.take_succ_eq_append_getElem hk, List.any_append]
  have : (ls.take k).any (fun s => t == s) = false := h
  rw [this]
  simpa using he
theorem hasN_hit {ls : List Int} {t : Int} {k : Nat} (hk : k < ls.length) (he : (t == ls[k]) = true) : hasN ls t = true := by
  rw [hasN, List.any_eq_true]
  exact ⟨ls[k], List.getElem_mem hk, he⟩

set_option maxHeartbeats 400000 in
theorem n_index (ls : List Int) (t : Int) (v : Value) (w : World) (hv : NumsAt w v ls) :
    Calls Tryz.prog 59 #[v, .int .i64 t] w fun e w' => ∃ j : Int, e = .returned (.int .i64 j) ∧ decide (0 ≤ j) = hasN ls t ∧ w' = w := by
  obtain ⟨ao, cap, rfl, hc, hm, hr⟩ := hv
  have HR := hide hr
  clear hr
  go_enter Tryz.func59, Tryz.ntmps59
  go_wp2_with fail
  go_loop [8] (fun i => ∃ k : Nat, k ≤ ls.length ∧ i = .int .i64 k ∧ hasN (ls.take k) t = false) (fun i => ls.length - (intOf i).toNat)
  case atStart => exact ⟨0, Nat.zero_le _, rfl, rfl⟩
  case round =>
    obtain ⟨k, hk, rfl, hall⟩ := hrel
    have HA := hide hall
    clear hall
    by_cases hlt : k < ls.length
    · obtain ⟨b, o, rfl, hcell⟩ := HR.out (by intro h; simp [h] at hlt)
      have hck := hcell k hlt
      obtain ⟨s, hs⟩ : ∃ s, s = ls[k] := ⟨_, rfl⟩
      rw [← hs] at hck
      have HSs := hide hs
      clear hcell hs
      cases heq : (t == s)
      all_goals
        have HE := hide heq
      · go_wp2_with fail
        go_round
        case rel => exact ⟨k + 1, by omega, by go_num, hasN_take hlt HA.out (by rw [← HSs.out]; exact HE.out)⟩
        case measure => simp [intOf]; omega
      · go_wp2_with fail
        go_ret
        exact ⟨_, rfl, by rw [hasN_hit hlt (by rw [← HSs.out]; exact HE.out)]; simp, rfl⟩
    · go_wp2_with fail
      go_ret
      refine ⟨_, rfl, ?_, rfl⟩
      have := HA.out
      rw [List.take_of_length_le (by omega)] at this
      rw [this]; rfl
theorem n_contains (ls : List Int) (t : Int) (v : Value) (w : World) (hv : NumsAt w v ls) :
    Calls Tryz.prog 36 #[v, .int .i64 t] w fun e w' => e = .returned (.bool (hasN ls t)) ∧ w' = w := by
  have HV := hide hv
  obtain ⟨ao, cap, rfl, hc, hm, hr⟩ := hv
  clear hr hc hm
  go_enter Tryz.func36, Tryz.ntmps36
  go_wp2_with (go_at_call 59; refine (n_index ls t _ _ HV.out).mono ?_; rintro e w' ⟨j, rfl, hj, rfl⟩; have HJ := hide hj; clear hj)
  go_ret
  exact ⟨ret_bool HJ.out.symm, rfl⟩

set_option maxHeartbeats 400000 in
theorem i_hasAny (ops : List Int) (ns : List Nd) (v u : Value) (w : World) (hv : SlAt w w.heap.size v ns) (hu : NumsAt w u ops) :
    Calls Tryz.prog 21 #[v, u] w fun e w' => e = .returned (.bool (ns.any fun n => hasN ops n.op)) ∧ Below w.heap.size w w' := by
  obtain ⟨ao, cap, rfl, hc, hm, hr⟩ := hv
  have HR := hide hr
  have HU := hide hu
  obtain ⟨ao', cap', rfl, hc', hm', hr'⟩ := hu
  clear hr hr'
  go_enter Tryz.func21, Tryz.ntmps21
  go_wp2_with fail
  go_loopw [9] (fun i wr => ∃ k : Nat, k ≤ ns.length ∧ i = .int .i64 k ∧ (ns.take k).any (fun n => hasN ops n.op) = false ∧ Below w.heap.size w wr) (fun i _ => ns.length - (intOf i).toNat)
  case atStart => exact ⟨0, Nat.zero_le _, rfl, rfl, Below.refl _ _⟩
  case round =>
    obtain ⟨k, hk, rfl, hall, hbel⟩ := hrel
    have HA := hide hall
    have HBEL := hide hbel
    have hszr := hbel.size
    clear hall hbel
    by_cases hlt : k < ns.length
    · obtain ⟨b, o, rfl, hbB, hrow⟩ := HR.out (by intro h; simp [h] at hlt)
      have hnode := (hrow.get k hlt).carry hbB HBEL.out
      obtain ⟨n1, hn1⟩ : ∃ n1, n1 = ns[k] := ⟨_, rfl⟩
      rw [← hn1] at hnode
      have HN := hide hn1
      clear hn1 hrow
      have hbw : b < wr.heap.size := hnode.lt
      obtain ⟨c0, c1, c2, c3, c4⟩ := hnode
      cases hh : hasN ops n1.op
      · have HH := hide hh
        clear hh
        go_wp2_with (go_at_call 36; refine (n_contains ops n1.op _ _ (HU.out.carry (HBEL.out.trans ((alloc1 _ _).mono hszr)))).mono ?_; rintro e w1 ⟨rfl, rfl⟩; rw [HH.out])
        go_roundw
        case rel => exact ⟨k + 1, by omega, by go_num, by rw [List.take_succ_eq_append_getElem hlt, List.any_append, HA.out, ← HN.out]; simp [HH.out], HBEL.out.trans ((alloc1 _ _).mono hszr)⟩
        case measure => simp [intOf]; omega
      · have HH := hide hh
        clear hh
        go_wp2_with (go_at_call 36; refine (n_contains ops n1.op _ _ (HU.out.carry (HBEL.out.trans ((alloc1 _ _).mono hszr)))).mono ?_; rintro e w1 ⟨rfl, rfl⟩; rw [HH.out])
        go_ret
        refine ⟨ret_bool ?_, HBEL.out.trans ((alloc1 _ _).mono hszr)⟩
        rw [List.any_eq_true]
        exact ⟨n1, by rw [HN.out]; exact List.getElem_mem hlt, HH.out⟩
    · go_wp2_with fail
      go_ret
      refine ⟨ret_bool ?_, HBEL.out⟩
      have := HA.out
      rwa [List.take_of_length_le (by omega)] at this
end Go.Proofs.YtehodjfgojcnlaaGreat
/- rowAhead: at every row of Nodes and place. -/
namespace Go.Proofs.YtehodjfgojcnlaaGreat
open Go.RowKit

set_option maxRecDepth 100000 in
set_option maxHeartbeats 1000000 in
theorem end_step_b (f : Nat) (st : List Nd) (n : Nd) (l1 : List Nd) (p : Value) (w : World) (B b o cap : Nat) (hlen : st.length + f = 10) (ok : ∀ x ∈ n :: l1, x.ok) (hB : B ≤ w.heap.size) (hbB : b < B) (hc1 : (n :: l1).length ≤ cap) (hc2 : cap ≤ 4294967296) (hcap : cap ≠ 1) (hrow : RowAt w b o (n :: l1)) (hp : PlaceAt w p st) (hop : n.op = 0) :
    Calls Tryz.prog 35 #[.slice (some ⟨b, o, none⟩) (n :: l1).length cap, p] w fun e w' => Told w' B e (ahead talkI f st (n :: l1)) ∧ Below w.heap.size w w' := by
  have HP := hide hp
  have HO := hide ok
  have HN := hide (ok n (by simp))
  have HL := hide hlen
  have HB := hide hB
  have HBB := hide hbB
  have HR := hide hrow
  have HC1 := hide hc1
  have HC2 := hide hc2
  obtain ⟨u, rfl⟩ := hp.shape
  have hc0 := hc1
  simp only [List.length_cons] at hc1
  have hrow0 := hrow
  obtain ⟨⟨c0, c1, c2, c3, c4⟩, -⟩ := hrow
  have hbw : b < w.heap.size := World.block_lt_of_cell? w _ c0
  have hz : ((l1.length : Int) + 1 == 0) = false := beq_eq_false_iff_ne.2 (by omega)
  have HSX : Hid (SlAt w B (.slice (some ⟨b, o + 5, none⟩) l1.length (cap - 1)) l1) := hide (SlAt.tail hbB hrow0 hc0 hc2 _ (fun _ => rfl))
  clear hrow0 hc0
  have HOP := hide hop
  clear ok hlen hB hbB hp hc2
  have c0' : w.cell? ⟨b, o, none⟩ = some (.int .i64 0) := by rw [← hop]; exact c0
  clear c0 hop
  have HE := hide (show endB n = (n.op == 0 && n.name.toList == [] && n.peer.toList == [] && n.many == 0 && n.sort == 0) from rfl)
  by_cases a1 : n.name.toList = []
  · by_cases a2 : n.peer.toList = []
    · by_cases a3 : n.many = 0
      · by_cases a4 : n.sort = 0
        · go_enter Tryz.func35, Tryz.ntmps35
          go_wp2_with fail
          go_region
          go_wp2_with fail
          go_region
          go_wp2_with fail
          go_ret2
          refine told_leaf (x := true) HSX.out HB.out (by repeat (first | exact alloc1 _ _ | exact Below.refl _ _ | refine Below.drew ?_)) ?_
          rw [ahead_0 HOP.out, HE.out]
          simp [HOP.out, *]
        · go_enter Tryz.func35, Tryz.ntmps35
          go_wp2_with fail
          go_region
          go_wp2_with fail
          go_region
          go_wp2_with fail
          go_ret2
          refine told_leaf (x := false) HSX.out HB.out (by repeat (first | exact alloc1 _ _ | exact Below.refl _ _ | refine Below.drew ?_)) ?_
          rw [ahead_0 HOP.out, HE.out]
          simp [HOP.out, *]
      · go_enter Tryz.func35, Tryz.ntmps35
        go_wp2_with fail
        go_region
        go_wp2_with fail
        go_region
        go_wp2_with fail
        go_ret2
        refine told_leaf (x := false) HSX.out HB.out (by repeat (first | exact alloc1 _ _ | exact Below.refl _ _ | refine Below.drew ?_)) ?_
        rw [ahead_0 HOP.out, HE.out]
        simp [HOP.out, *]
    · go_enter Tryz.func35, Tryz.ntmps35
      go_wp2_with fail
      go_region
      go_wp2_with fail
      go_region
      go_wp2_with fail
      go_ret2
      refine told_leaf (x := false) HSX.out HB.out (by repeat (first | exact alloc1 _ _ | exact Below.refl _ _ | refine Below.drew ?_)) ?_
      rw [ahead_0 HOP.out, HE.out]
      simp [HOP.out, *]
  · go_enter Tryz.func35, Tryz.ntmps35
    go_wp2_with fail
    go_region
    go_wp2_with fail
    go_region
    go_wp2_with fail
    go_ret2
    refine told_leaf (x := false) HSX.out HB.out (by repeat (first | exact alloc1 _ _ | exact Below.refl _ _ | refine Below.drew ?_)) ?_
    rw [ahead_0 HOP.out, HE.out]
    simp [HOP.out, *]

set_option maxRecDepth 100000 in
set_option maxHeartbeats 1000000 in
theorem var_step_b (f : Nat) (st : List Nd) (n : Nd) (l1 : List Nd) (p : Value) (w : World) (B b o cap : Nat) (hlen : st.length + f = 10) (ok : ∀ x ∈ n :: l1, x.ok) (hB : B ≤ w.heap.size) (hbB : b < B) (hc1 : (n :: l1).length ≤ cap) (hc2 : cap ≤ 4294967296) (hcap : cap ≠ 1) (hrow : RowAt w b o (n :: l1)) (hp : PlaceAt w p st) (hop : n.op = 1) :
    Calls Tryz.prog 35 #[.slice (some ⟨b, o, none⟩) (n :: l1).length cap, p] w fun e w' => Told w' B e (ahead talkI f st (n :: l1)) ∧ Below w.heap.size w w' := by
  have HP := hide hp
  have HO := hide ok
  have HN := hide (ok n (by simp))
  have HL := hide hlen
  have HB := hide hB
  have HBB := hide hbB
  have HR := hide hrow
  have HC1 := hide hc1
  have HC2 := hide hc2
  obtain ⟨u, rfl⟩ := hp.shape
  have hc0 := hc1
  simp only [List.length_cons] at hc1
  have hrow0 := hrow
  obtain ⟨⟨c0, c1, c2, c3, c4⟩, -⟩ := hrow
  have hbw : b < w.heap.size := World.block_lt_of_cell? w _ c0
  have hz : ((l1.length : Int) + 1 == 0) = false := beq_eq_false_iff_ne.2 (by omega)
  have HSX : Hid (SlAt w B (.slice (some ⟨b, o + 5, none⟩) l1.length (cap - 1)) l1) := hide (SlAt.tail hbB hrow0 hc0 hc2 _ (fun _ => rfl))
  clear hrow0 hc0
  have HOP := hide hop
  clear ok hlen hB hbB hp hc2
  have c0' : w.cell? ⟨b, o, none⟩ = some (.int .i64 1) := by rw [← hop]; exact c0
  clear c0 hop
  obtain ⟨bk, hbk⟩ : ∃ bk, backB false st n.name = bk := ⟨_, rfl⟩
  have HBK := hide hbk
  clear hbk
  cases bk
  all_goals
    go_enter Tryz.func35, Tryz.ntmps35
    go_wp2_with fail
    go_region
    go_wp2_with (go_at_call 52; refine (p_back st _ n.name _ (PlaceAt.carry (by repeat (first | exact alloc1 _ _ | exact Below.refl _ _ | refine Below.drew ?_)) HP.out)).mono ?_; rintro e w' ⟨rfl, rfl⟩; rw [HBK.out])
    all_goals
      go_ret2
      refine told_leaf HSX.out HB.out (by repeat (first | exact alloc1 _ _ | exact Below.refl _ _ | refine Below.drew ?_)) ?_
      rw [ahead_1 HOP.out, HBK.out, varB, HOP.out]
      simp [*]

set_option maxRecDepth 100000 in
set_option maxHeartbeats 1000000 in
theorem oth_step_b (f : Nat) (st : List Nd) (n : Nd) (l1 : List Nd) (p : Value) (w : World) (B b o cap : Nat) (hlen : st.length + f = 10) (ok : ∀ x ∈ n :: l1, x.ok) (hB : B ≤ w.heap.size) (hbB : b < B) (hc1 : (n :: l1).length ≤ cap) (hc2 : cap ≤ 4294967296) (hcap : cap ≠ 1) (hrow : RowAt w b o (n :: l1)) (hp : PlaceAt w p st) (hop : n.op ≠ 0 ∧ n.op ≠ 1 ∧ n.op ≠ 2 ∧ n.op ≠ 3 ∧ n.op ≠ 5 ∧ n.op ≠ 6) :
    Calls Tryz.prog 35 #[.slice (some ⟨b, o, none⟩) (n :: l1).length cap, p] w fun e w' => Told w' B e (ahead talkI f st (n :: l1)) ∧ Below w.heap.size w w' := by
  have HP := hide hp
  have HO := hide ok
  have HN := hide (ok n (by simp))
  have HL := hide hlen
  have HB := hide hB
  have HBB := hide hbB
  have HR := hide hrow
  have HC1 := hide hc1
  have HC2 := hide hc2
  obtain ⟨u, rfl⟩ := hp.shape
  have hc0 := hc1
  simp only [List.length_cons] at hc1
  have hrow0 := hrow
  obtain ⟨⟨c0, c1, c2, c3, c4⟩, -⟩ := hrow
  have hbw : b < w.heap.size := World.block_lt_of_cell? w _ c0
  have hz : ((l1.length : Int) + 1 == 0) = false := beq_eq_false_iff_ne.2 (by omega)
  have HSX : Hid (SlAt w B (.slice (some ⟨b, o + 5, none⟩) l1.length (cap - 1)) l1) := hide (SlAt.tail hbB hrow0 hc0 hc2 _ (fun _ => rfl))
  clear hrow0 hc0
  have HOP := hide hop
  clear ok hlen hB hbB hp hc2
  obtain ⟨x0, x1, x2, x3, x5, x6⟩ := hop
  have y0 : (n.op == 0) = false := beq_eq_false_iff_ne.2 x0
  have y1 : (n.op == 1) = false := beq_eq_false_iff_ne.2 x1
  have y2 : (n.op == 2) = false := beq_eq_false_iff_ne.2 x2
  have y3 : (n.op == 3) = false := beq_eq_false_iff_ne.2 x3
  have y5 : (n.op == 5) = false := beq_eq_false_iff_ne.2 x5
  have y6 : (n.op == 6) = false := beq_eq_false_iff_ne.2 x6
  go_enter Tryz.func35, Tryz.ntmps35
  go_wp2_with fail
  go_region
  go_wp2_with fail
  go_ret2
  exact told_none (by repeat (first | exact alloc1 _ _ | exact Below.refl _ _ | refine Below.drew ?_)) (ahead_x HOP.out.1 HOP.out.2.1 HOP.out.2.2.1 (by have := HOP.out; simp [talkI, this]))

set_option maxRecDepth 100000 in
set_option maxHeartbeats 1000000 in
theorem end_step_a (f : Nat) (st : List Nd) (n : Nd) (l1 : List Nd) (p : Value) (w : World) (B b o cap : Nat) (hlen : st.length + f = 10) (ok : ∀ x ∈ n :: l1, x.ok) (hB : B ≤ w.heap.size) (hbB : b < B) (hc1 : (n :: l1).length ≤ cap) (hc2 : cap ≤ 4294967296) (hcap : cap = 1) (hrow : RowAt w b o (n :: l1)) (hp : PlaceAt w p st) (hop : n.op = 0) :
    Calls Tryz.prog 35 #[.slice (some ⟨b, o, none⟩) (n :: l1).length cap, p] w fun e w' => Told w' B e (ahead talkI f st (n :: l1)) ∧ Below w.heap.size w w' := by
  have HP := hide hp
  have HO := hide ok
  have HN := hide (ok n (by simp))
  have HL := hide hlen
  have HB := hide hB
  have HBB := hide hbB
  have HR := hide hrow
  have HC1 := hide hc1
  have HC2 := hide hc2
  obtain ⟨u, rfl⟩ := hp.shape
  simp only [List.length_cons] at hc1
  obtain ⟨⟨c0, c1, c2, c3, c4⟩, -⟩ := hrow
  have hbw : b < w.heap.size := World.block_lt_of_cell? w _ c0
  have hz : ((l1.length : Int) + 1 == 0) = false := beq_eq_false_iff_ne.2 (by omega)
  have HL1 : Hid (l1.length = 0) := hide (by omega)
  have HSX : Hid (SlAt w B (.slice (some ⟨b, o, none⟩) 0 0) l1) := hide (by rw [List.length_eq_zero_iff.1 HL1.out]; exact ⟨_, _, rfl, Nat.le_refl _, by omega, fun h => absurd rfl h⟩)
  subst hcap
  have HOP := hide hop
  clear ok hlen hB hbB hp hc2
  have c0' : w.cell? ⟨b, o, none⟩ = some (.int .i64 0) := by rw [← hop]; exact c0
  clear c0 hop
  have HE := hide (show endB n = (n.op == 0 && n.name.toList == [] && n.peer.toList == [] && n.many == 0 && n.sort == 0) from rfl)
  by_cases a1 : n.name.toList = []
  · by_cases a2 : n.peer.toList = []
    · by_cases a3 : n.many = 0
      · by_cases a4 : n.sort = 0
        · go_enter Tryz.func35, Tryz.ntmps35
          go_wp2_with fail
          go_region
          go_wp2_with fail
          go_region
          go_wp2_with fail
          go_ret2
          refine told_leaf (x := true) HSX.out HB.out (by repeat (first | exact alloc1 _ _ | exact Below.refl _ _ | refine Below.drew ?_)) ?_
          rw [ahead_0 HOP.out, HE.out]
          simp [HOP.out, *]
        · go_enter Tryz.func35, Tryz.ntmps35
          go_wp2_with fail
          go_region
          go_wp2_with fail
          go_region
          go_wp2_with fail
          go_ret2
          refine told_leaf (x := false) HSX.out HB.out (by repeat (first | exact alloc1 _ _ | exact Below.refl _ _ | refine Below.drew ?_)) ?_
          rw [ahead_0 HOP.out, HE.out]
          simp [HOP.out, *]
      · go_enter Tryz.func35, Tryz.ntmps35
        go_wp2_with fail
        go_region
        go_wp2_with fail
        go_region
        go_wp2_with fail
        go_ret2
        refine told_leaf (x := false) HSX.out HB.out (by repeat (first | exact alloc1 _ _ | exact Below.refl _ _ | refine Below.drew ?_)) ?_
        rw [ahead_0 HOP.out, HE.out]
        simp [HOP.out, *]
    · go_enter Tryz.func35, Tryz.ntmps35
      go_wp2_with fail
      go_region
      go_wp2_with fail
      go_region
      go_wp2_with fail
      go_ret2
      refine told_leaf (x := false) HSX.out HB.out (by repeat (first | exact alloc1 _ _ | exact Below.refl _ _ | refine Below.drew ?_)) ?_
      rw [ahead_0 HOP.out, HE.out]
      simp [HOP.out, *]
  · go_enter Tryz.func35, Tryz.ntmps35
    go_wp2_with fail
    go_region
    go_wp2_with fail
    go_region
    go_wp2_with fail
    go_ret2
    refine told_leaf (x := false) HSX.out HB.out (by repeat (first | exact alloc1 _ _ | exact Below.refl _ _ | refine Below.drew ?_)) ?_
    rw [ahead_0 HOP.out, HE.out]
    simp [HOP.out, *]

set_option maxRecDepth 100000 in
set_option maxHeartbeats 1000000 in
theorem var_step_a (f : Nat) (st : List Nd) (n : Nd) (l1 : List Nd) (p : Value) (w : World) (B b o cap : Nat) (hlen : st.length + f = 10) (ok : ∀ x ∈ n :: l1, x.ok) (hB : B ≤ w.heap.size) (hbB : b < B) (hc1 : (n :: l1).length ≤ cap) (hc2 : cap ≤ 4294967296) (hcap : cap = 1) (hrow : RowAt w b o (n :: l1)) (hp : PlaceAt w p st) (hop : n.op = 1) :
    Calls Tryz.prog 35 #[.slice (some ⟨b, o, none⟩) (n :: l1).length cap, p] w fun e w' => Told w' B e (ahead talkI f st (n :: l1)) ∧ Below w.heap.size w w' := by
  have HP := hide hp
  have HO := hide ok
  have HN := hide (ok n (by simp))
  have HL := hide hlen
  have HB := hide hB
  have HBB := hide hbB
  have HR := hide hrow
  have HC1 := hide hc1
  have HC2 := hide hc2
  obtain ⟨u, rfl⟩ := hp.shape
  simp only [List.length_cons] at hc1
  obtain ⟨⟨c0, c1, c2, c3, c4⟩, -⟩ := hrow
  have hbw : b < w.heap.size := World.block_lt_of_cell? w _ c0
  have hz : ((l1.length : Int) + 1 == 0) = false := beq_eq_false_iff_ne.2 (by omega)
  have HL1 : Hid (l1.length = 0) := hide (by omega)
  have HSX : Hid (SlAt w B (.slice (some ⟨b, o, none⟩) 0 0) l1) := hide (by rw [List.length_eq_zero_iff.1 HL1.out]; exact ⟨_, _, rfl, Nat.le_refl _, by omega, fun h => absurd rfl h⟩)
  subst hcap
  have HOP := hide hop
  clear ok hlen hB hbB hp hc2
  have c0' : w.cell? ⟨b, o, none⟩ = some (.int .i64 1) := by rw [← hop]; exact c0
  clear c0 hop
  obtain ⟨bk, hbk⟩ : ∃ bk, backB false st n.name = bk := ⟨_, rfl⟩
  have HBK := hide hbk
  clear hbk
  cases bk
  all_goals
    go_enter Tryz.func35, Tryz.ntmps35
    go_wp2_with fail
    go_region
    go_wp2_with (go_at_call 52; refine (p_back st _ n.name _ (PlaceAt.carry (by repeat (first | exact alloc1 _ _ | exact Below.refl _ _ | refine Below.drew ?_)) HP.out)).mono ?_; rintro e w' ⟨rfl, rfl⟩; rw [HBK.out])
    all_goals
      go_ret2
      refine told_leaf HSX.out HB.out (by repeat (first | exact alloc1 _ _ | exact Below.refl _ _ | refine Below.drew ?_)) ?_
      rw [ahead_1 HOP.out, HBK.out, varB, HOP.out]
      simp [*]

set_option maxRecDepth 100000 in
set_option maxHeartbeats 1000000 in
theorem oth_step_a (f : Nat) (st : List Nd) (n : Nd) (l1 : List Nd) (p : Value) (w : World) (B b o cap : Nat) (hlen : st.length + f = 10) (ok : ∀ x ∈ n :: l1, x.ok) (hB : B ≤ w.heap.size) (hbB : b < B) (hc1 : (n :: l1).length ≤ cap) (hc2 : cap ≤ 4294967296) (hcap : cap = 1) (hrow : RowAt w b o (n :: l1)) (hp : PlaceAt w p st) (hop : n.op ≠ 0 ∧ n.op ≠ 1 ∧ n.op ≠ 2 ∧ n.op ≠ 3 ∧ n.op ≠ 5 ∧ n.op ≠ 6) :
    Calls Tryz.prog 35 #[.slice (some ⟨b, o, none⟩) (n :: l1).length cap, p] w fun e w' => Told w' B e (ahead talkI f st (n :: l1)) ∧ Below w.heap.size w w' := by
  have HP := hide hp
  have HO := hide ok
  have HN := hide (ok n (by simp))
  have HL := hide hlen
  have HB := hide hB
  have HBB := hide hbB
  have HR := hide hrow
  have HC1 := hide hc1
  have HC2 := hide hc2
  obtain ⟨u, rfl⟩ := hp.shape
  simp only [List.length_cons] at hc1
  obtain ⟨⟨c0, c1, c2, c3, c4⟩, -⟩ := hrow
  have hbw : b < w.heap.size := World.block_lt_of_cell? w _ c0
  have hz : ((l1.length : Int) + 1 == 0) = false := beq_eq_false_iff_ne.2 (by omega)
  have HL1 : Hid (l1.length = 0) := hide (by omega)
  have HSX : Hid (SlAt w B (.slice (some ⟨b, o, none⟩) 0 0) l1) := hide (by rw [List.length_eq_zero_iff.1 HL1.out]; exact ⟨_, _, rfl, Nat.le_refl _, by omega, fun h => absurd rfl h⟩)
  subst hcap
  have HOP := hide hop
  clear ok hlen hB hbB hp hc2
  obtain ⟨x0, x1, x2, x3, x5, x6⟩ := hop
  have y0 : (n.op == 0) = false := beq_eq_false_iff_ne.2 x0
  have y1 : (n.op == 1) = false := beq_eq_false_iff_ne.2 x1
  have y2 : (n.op == 2) = false := beq_eq_false_iff_ne.2 x2
  have y3 : (n.op == 3) = false := beq_eq_false_iff_ne.2 x3
  have y5 : (n.op == 5) = false := beq_eq_false_iff_ne.2 x5
  have y6 : (n.op == 6) = false := beq_eq_false_iff_ne.2 x6
  go_enter Tryz.func35, Tryz.ntmps35
  go_wp2_with fail
  go_region
  go_wp2_with fail
  go_ret2
  exact told_none (by repeat (first | exact alloc1 _ _ | exact Below.refl _ _ | refine Below.drew ?_)) (ahead_x HOP.out.1 HOP.out.2.1 HOP.out.2.2.1 (by have := HOP.out; simp [talkI, this]))
end Go.Proofs.YtehodjfgojcnlaaGreat
