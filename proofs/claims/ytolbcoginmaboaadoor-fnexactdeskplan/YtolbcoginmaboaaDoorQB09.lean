/- rowAhead: at every row of Nodes and place. -/
import Derived.Test.YtolbcoginmaboaaDoorQB07
namespace Go.Proofs.YtolbcoginmaboaaDoor
open Go.RowKit

set_option maxRecDepth 100000 in
set_option maxHeartbeats 1000000 in
theorem end_step_b (f : Nat) (st : List Nd) (n : Nd) (l1 : List Nd) (p : Value) (w : World) (B b o cap : Nat) (hlen : st.length + f = 10) (ok : ∀ x ∈ n :: l1, x.ok) (hB : B ≤ w.heap.size) (hbB : b < B) (hc1 : (n :: l1).length ≤ cap) (hc2 : cap ≤ 9223372036854775807 ∧ l1.length < 4294967296) (hcap : cap ≠ 1) (hrow : RowAt w b o (n :: l1)) (hp : PlaceAt w p st) (hop : n.op = 0) :
    Calls Tryd.prog 57 #[.slice (some ⟨b, o, none⟩) (n :: l1).length cap, p] w fun e w' => Told w' B e (ahead talkI f st (n :: l1)) ∧ Below w.heap.size w w' := by
  have HP := hide hp
  have HO := hide ok
  have HN := hide (ok n (by simp))
  have HL := hide hlen
  have HB := hide hB
  have HBB := hide hbB
  have HR := hide hrow
  have HC1 := hide hc1
  have HC2 := hide hc2
  obtain ⟨u, rfl⟩ := hp.shape
  have hc0 := hc1
  simp only [List.length_cons] at hc1
  have hrow0 := hrow
  obtain ⟨⟨c0, c1, c2, c3, c4⟩, -⟩ := hrow
  have hbw : b < w.heap.size := World.block_lt_of_cell? w _ c0
  have hz : ((l1.length : Int) + 1 == 0) = false := beq_eq_false_iff_ne.2 (by omega)
  have HSX : Hid (SlAt w B (.slice (some ⟨b, o + 5, none⟩) l1.length (cap - 1)) l1) := hide (SlAt.tail hbB hrow0 hc0 hc2 _ (fun _ => rfl))
  clear hrow0 hc0
  have HOP := hide hop
  clear ok hlen hB hbB hp hc2
  have c0' : w.cell? ⟨b, o, none⟩ = some (.int .i64 0) := by rw [← hop]; exact c0
  clear c0 hop
  have HE := hide (show endB n = (n.op == 0 && n.name.toList == [] && n.peer.toList == [] && n.many == 0 && n.sort == 0) from rfl)
  by_cases a1 : n.name.toList = []
  · by_cases a2 : n.peer.toList = []
    · by_cases a3 : n.many = 0
      · by_cases a4 : n.sort = 0
        · go_enter Tryd.func57, Tryd.ntmps57
          go_wp2_with fail
          go_region
          go_wp2_with fail
          go_region
          go_wp2_with fail
          go_ret2
          refine told_leaf (x := true) HSX.out HB.out (by repeat (first | exact alloc1 _ _ | exact Below.refl _ _ | refine Below.drew ?_)) ?_
          rw [ahead_0 HOP.out, HE.out]
          simp [HOP.out, *]
        · go_enter Tryd.func57, Tryd.ntmps57
          go_wp2_with fail
          go_region
          go_wp2_with fail
          go_region
          go_wp2_with fail
          go_ret2
          refine told_leaf (x := false) HSX.out HB.out (by repeat (first | exact alloc1 _ _ | exact Below.refl _ _ | refine Below.drew ?_)) ?_
          rw [ahead_0 HOP.out, HE.out]
          simp [HOP.out, *]
      · go_enter Tryd.func57, Tryd.ntmps57
        go_wp2_with fail
        go_region
        go_wp2_with fail
        go_region
        go_wp2_with fail
        go_ret2
        refine told_leaf (x := false) HSX.out HB.out (by repeat (first | exact alloc1 _ _ | exact Below.refl _ _ | refine Below.drew ?_)) ?_
        rw [ahead_0 HOP.out, HE.out]
        simp [HOP.out, *]
    · go_enter Tryd.func57, Tryd.ntmps57
      go_wp2_with fail
      go_region
      go_wp2_with fail
      go_region
      go_wp2_with fail
      go_ret2
      refine told_leaf (x := false) HSX.out HB.out (by repeat (first | exact alloc1 _ _ | exact Below.refl _ _ | refine Below.drew ?_)) ?_
      rw [ahead_0 HOP.out, HE.out]
      simp [HOP.out, *]
  · go_enter Tryd.func57, Tryd.ntmps57
    go_wp2_with fail
    go_region
    go_wp2_with fail
    go_region
    go_wp2_with fail
    go_ret2
    refine told_leaf (x := false) HSX.out HB.out (by repeat (first | exact alloc1 _ _ | exact Below.refl _ _ | refine Below.drew ?_)) ?_
    rw [ahead_0 HOP.out, HE.out]
    simp [HOP.out, *]

set_option maxRecDepth 100000 in
set_option maxHeartbeats 1000000 in
theorem var_step_b (f : Nat) (st : List Nd) (n : Nd) (l1 : List Nd) (p : Value) (w : World) (B b o cap : Nat) (hlen : st.length + f = 10) (ok : ∀ x ∈ n :: l1, x.ok) (hB : B ≤ w.heap.size) (hbB : b < B) (hc1 : (n :: l1).length ≤ cap) (hc2 : cap ≤ 9223372036854775807 ∧ l1.length < 4294967296) (hcap : cap ≠ 1) (hrow : RowAt w b o (n :: l1)) (hp : PlaceAt w p st) (hop : n.op = 1) :
    Calls Tryd.prog 57 #[.slice (some ⟨b, o, none⟩) (n :: l1).length cap, p] w fun e w' => Told w' B e (ahead talkI f st (n :: l1)) ∧ Below w.heap.size w w' := by
  have HP := hide hp
  have HO := hide ok
  have HN := hide (ok n (by simp))
  have HL := hide hlen
  have HB := hide hB
  have HBB := hide hbB
  have HR := hide hrow
  have HC1 := hide hc1
  have HC2 := hide hc2
  obtain ⟨u, rfl⟩ := hp.shape
  have hc0 := hc1
  simp only [List.length_cons] at hc1
  have hrow0 := hrow
  obtain ⟨⟨c0, c1, c2, c3, c4⟩, -⟩ := hrow
  have hbw : b < w.heap.size := World.block_lt_of_cell? w _ c0
  have hz : ((l1.length : Int) + 1 == 0) = false := beq_eq_false_iff_ne.2 (by omega)
  have HSX : Hid (SlAt w B (.slice (some ⟨b, o + 5, none⟩) l1.length (cap - 1)) l1) := hide (SlAt.tail hbB hrow0 hc0 hc2 _ (fun _ => rfl))
  clear hrow0 hc0
  have HOP := hide hop
  clear ok hlen hB hbB hp hc2
  have c0' : w.cell? ⟨b, o, none⟩ = some (.int .i64 1) := by rw [← hop]; exact c0
  clear c0 hop
  obtain ⟨bk, hbk⟩ : ∃ bk, backB false st n.name = bk := ⟨_, rfl⟩
  have HBK := hide hbk
  clear hbk
  cases bk
  all_goals
    go_enter Tryd.func57, Tryd.ntmps57
    go_wp2_with fail
    go_region
    go_wp2_with (go_at_call 72; refine (p_back st _ n.name _ (PlaceAt.carry (by repeat (first | exact alloc1 _ _ | exact Below.refl _ _ | refine Below.drew ?_)) HP.out)).mono ?_; rintro e w' ⟨rfl, rfl⟩; rw [HBK.out])
    all_goals
      go_ret2
      refine told_leaf HSX.out HB.out (by repeat (first | exact alloc1 _ _ | exact Below.refl _ _ | refine Below.drew ?_)) ?_
      rw [ahead_1 HOP.out, HBK.out, varB, HOP.out]
      simp [*]

set_option maxRecDepth 100000 in
set_option maxHeartbeats 1000000 in
theorem oth_step_b (f : Nat) (st : List Nd) (n : Nd) (l1 : List Nd) (p : Value) (w : World) (B b o cap : Nat) (hlen : st.length + f = 10) (ok : ∀ x ∈ n :: l1, x.ok) (hB : B ≤ w.heap.size) (hbB : b < B) (hc1 : (n :: l1).length ≤ cap) (hc2 : cap ≤ 9223372036854775807 ∧ l1.length < 4294967296) (hcap : cap ≠ 1) (hrow : RowAt w b o (n :: l1)) (hp : PlaceAt w p st) (hop : n.op ≠ 0 ∧ n.op ≠ 1 ∧ n.op ≠ 2 ∧ n.op ≠ 3 ∧ n.op ≠ 5 ∧ n.op ≠ 6) :
    Calls Tryd.prog 57 #[.slice (some ⟨b, o, none⟩) (n :: l1).length cap, p] w fun e w' => Told w' B e (ahead talkI f st (n :: l1)) ∧ Below w.heap.size w w' := by
  have HP := hide hp
  have HO := hide ok
  have HN := hide (ok n (by simp))
  have HL := hide hlen
  have HB := hide hB
  have HBB := hide hbB
  have HR := hide hrow
  have HC1 := hide hc1
  have HC2 := hide hc2
  obtain ⟨u, rfl⟩ := hp.shape
  have hc0 := hc1
  simp only [List.length_cons] at hc1
  have hrow0 := hrow
  obtain ⟨⟨c0, c1, c2, c3, c4⟩, -⟩ := hrow
  have hbw : b < w.heap.size := World.block_lt_of_cell? w _ c0
  have hz : ((l1.length : Int) + 1 == 0) = false := beq_eq_false_iff_ne.2 (by omega)
  have HSX : Hid (SlAt w B (.slice (some ⟨b, o + 5, none⟩) l1.length (cap - 1)) l1) := hide (SlAt.tail hbB hrow0 hc0 hc2 _ (fun _ => rfl))
  clear hrow0 hc0
  have HOP := hide hop
  clear ok hlen hB hbB hp hc2
  obtain ⟨x0, x1, x2, x3, x5, x6⟩ := hop
  have y0 : (n.op == 0) = false := beq_eq_false_iff_ne.2 x0
  have y1 : (n.op == 1) = false := beq_eq_false_iff_ne.2 x1
  have y2 : (n.op == 2) = false := beq_eq_false_iff_ne.2 x2
  have y3 : (n.op == 3) = false := beq_eq_false_iff_ne.2 x3
  have y5 : (n.op == 5) = false := beq_eq_false_iff_ne.2 x5
  have y6 : (n.op == 6) = false := beq_eq_false_iff_ne.2 x6
  go_enter Tryd.func57, Tryd.ntmps57
  go_wp2_with fail
  go_region
  go_wp2_with fail
  go_ret2
  exact told_none (by repeat (first | exact alloc1 _ _ | exact Below.refl _ _ | refine Below.drew ?_)) (ahead_x HOP.out.1 HOP.out.2.1 HOP.out.2.2.1 (by have := HOP.out; simp [talkI, this]))

set_option maxRecDepth 100000 in
set_option maxHeartbeats 1000000 in
theorem end_step_a (f : Nat) (st : List Nd) (n : Nd) (l1 : List Nd) (p : Value) (w : World) (B b o cap : Nat) (hlen : st.length + f = 10) (ok : ∀ x ∈ n :: l1, x.ok) (hB : B ≤ w.heap.size) (hbB : b < B) (hc1 : (n :: l1).length ≤ cap) (hc2 : cap ≤ 9223372036854775807 ∧ l1.length < 4294967296) (hcap : cap = 1) (hrow : RowAt w b o (n :: l1)) (hp : PlaceAt w p st) (hop : n.op = 0) :
    Calls Tryd.prog 57 #[.slice (some ⟨b, o, none⟩) (n :: l1).length cap, p] w fun e w' => Told w' B e (ahead talkI f st (n :: l1)) ∧ Below w.heap.size w w' := by
  have HP := hide hp
  have HO := hide ok
  have HN := hide (ok n (by simp))
  have HL := hide hlen
  have HB := hide hB
  have HBB := hide hbB
  have HR := hide hrow
  have HC1 := hide hc1
  have HC2 := hide hc2
  obtain ⟨u, rfl⟩ := hp.shape
  simp only [List.length_cons] at hc1
  obtain ⟨⟨c0, c1, c2, c3, c4⟩, -⟩ := hrow
  have hbw : b < w.heap.size := World.block_lt_of_cell? w _ c0
  have hz : ((l1.length : Int) + 1 == 0) = false := beq_eq_false_iff_ne.2 (by omega)
  have HL1 : Hid (l1.length = 0) := hide (by omega)
  have HSX : Hid (SlAt w B (.slice (some ⟨b, o, none⟩) 0 0) l1) := hide (by rw [List.length_eq_zero_iff.1 HL1.out]; exact ⟨_, _, rfl, Nat.le_refl _, by simp, fun h => absurd rfl h⟩)
  subst hcap
  have HOP := hide hop
  clear ok hlen hB hbB hp hc2
  have c0' : w.cell? ⟨b, o, none⟩ = some (.int .i64 0) := by rw [← hop]; exact c0
  clear c0 hop
  have HE := hide (show endB n = (n.op == 0 && n.name.toList == [] && n.peer.toList == [] && n.many == 0 && n.sort == 0) from rfl)
  by_cases a1 : n.name.toList = []
  · by_cases a2 : n.peer.toList = []
    · by_cases a3 : n.many = 0
      · by_cases a4 : n.sort = 0
        · go_enter Tryd.func57, Tryd.ntmps57
          go_wp2_with fail
          go_region
          go_wp2_with fail
          go_region
          go_wp2_with fail
          go_ret2
          refine told_leaf (x := true) HSX.out HB.out (by repeat (first | exact alloc1 _ _ | exact Below.refl _ _ | refine Below.drew ?_)) ?_
          rw [ahead_0 HOP.out, HE.out]
          simp [HOP.out, *]
        · go_enter Tryd.func57, Tryd.ntmps57
          go_wp2_with fail
          go_region
          go_wp2_with fail
          go_region
          go_wp2_with fail
          go_ret2
          refine told_leaf (x := false) HSX.out HB.out (by repeat (first | exact alloc1 _ _ | exact Below.refl _ _ | refine Below.drew ?_)) ?_
          rw [ahead_0 HOP.out, HE.out]
          simp [HOP.out, *]
      · go_enter Tryd.func57, Tryd.ntmps57
        go_wp2_with fail
        go_region
        go_wp2_with fail
        go_region
        go_wp2_with fail
        go_ret2
        refine told_leaf (x := false) HSX.out HB.out (by repeat (first | exact alloc1 _ _ | exact Below.refl _ _ | refine Below.drew ?_)) ?_
        rw [ahead_0 HOP.out, HE.out]
        simp [HOP.out, *]
    · go_enter Tryd.func57, Tryd.ntmps57
      go_wp2_with fail
      go_region
      go_wp2_with fail
      go_region
      go_wp2_with fail
      go_ret2
      refine told_leaf (x := false) HSX.out HB.out (by repeat (first | exact alloc1 _ _ | exact Below.refl _ _ | refine Below.drew ?_)) ?_
      rw [ahead_0 HOP.out, HE.out]
      simp [HOP.out, *]
  · go_enter Tryd.func57, Tryd.ntmps57
    go_wp2_with fail
    go_region
    go_wp2_with fail
    go_region
    go_wp2_with fail
    go_ret2
    refine told_leaf (x := false) HSX.out HB.out (by repeat (first | exact alloc1 _ _ | exact Below.refl _ _ | refine Below.drew ?_)) ?_
    rw [ahead_0 HOP.out, HE.out]
    simp [HOP.out, *]

set_option maxRecDepth 100000 in
set_option maxHeartbeats 1000000 in
theorem var_step_a (f : Nat) (st : List Nd) (n : Nd) (l1 : List Nd) (p : Value) (w : World) (B b o cap : Nat) (hlen : st.length + f = 10) (ok : ∀ x ∈ n :: l1, x.ok) (hB : B ≤ w.heap.size) (hbB : b < B) (hc1 : (n :: l1).length ≤ cap) (hc2 : cap ≤ 9223372036854775807 ∧ l1.length < 4294967296) (hcap : cap = 1) (hrow : RowAt w b o (n :: l1)) (hp : PlaceAt w p st) (hop : n.op = 1) :
    Calls Tryd.prog 57 #[.slice (some ⟨b, o, none⟩) (n :: l1).length cap, p] w fun e w' => Told w' B e (ahead talkI f st (n :: l1)) ∧ Below w.heap.size w w' := by
  have HP := hide hp
  have HO := hide ok
  have HN := hide (ok n (by simp))
  have HL := hide hlen
  have HB := hide hB
  have HBB := hide hbB
  have HR := hide hrow
  have HC1 := hide hc1
  have HC2 := hide hc2
  obtain ⟨u, rfl⟩ := hp.shape
  simp only [List.length_cons] at hc1
  obtain ⟨⟨c0, c1, c2, c3, c4⟩, -⟩ := hrow
  have hbw : b < w.heap.size := World.block_lt_of_cell? w _ c0
  have hz : ((l1.length : Int) + 1 == 0) = false := beq_eq_false_iff_ne.2 (by omega)
  have HL1 : Hid (l1.length = 0) := hide (by omega)
  have HSX : Hid (SlAt w B (.slice (some ⟨b, o, none⟩) 0 0) l1) := hide (by rw [List.length_eq_zero_iff.1 HL1.out]; exact ⟨_, _, rfl, Nat.le_refl _, by simp, fun h => absurd rfl h⟩)
  subst hcap
  have HOP := hide hop
  clear ok hlen hB hbB hp hc2
  have c0' : w.cell? ⟨b, o, none⟩ = some (.int .i64 1) := by rw [← hop]; exact c0
  clear c0 hop
  obtain ⟨bk, hbk⟩ : ∃ bk, backB false st n.name = bk := ⟨_, rfl⟩
  have HBK := hide hbk
  clear hbk
  cases bk
  all_goals
    go_enter Tryd.func57, Tryd.ntmps57
    go_wp2_with fail
    go_region
    go_wp2_with (go_at_call 72; refine (p_back st _ n.name _ (PlaceAt.carry (by repeat (first | exact alloc1 _ _ | exact Below.refl _ _ | refine Below.drew ?_)) HP.out)).mono ?_; rintro e w' ⟨rfl, rfl⟩; rw [HBK.out])
    all_goals
      go_ret2
      refine told_leaf HSX.out HB.out (by repeat (first | exact alloc1 _ _ | exact Below.refl _ _ | refine Below.drew ?_)) ?_
      rw [ahead_1 HOP.out, HBK.out, varB, HOP.out]
      simp [*]

set_option maxRecDepth 100000 in
set_option maxHeartbeats 1000000 in
theorem oth_step_a (f : Nat) (st : List Nd) (n : Nd) (l1 : List Nd) (p : Value) (w : World) (B b o cap : Nat) (hlen : st.length + f = 10) (ok : ∀ x ∈ n :: l1, x.ok) (hB : B ≤ w.heap.size) (hbB : b < B) (hc1 : (n :: l1).length ≤ cap) (hc2 : cap ≤ 9223372036854775807 ∧ l1.length < 4294967296) (hcap : cap = 1) (hrow : RowAt w b o (n :: l1)) (hp : PlaceAt w p st) (hop : n.op ≠ 0 ∧ n.op ≠ 1 ∧ n.op ≠ 2 ∧ n.op ≠ 3 ∧ n.op ≠ 5 ∧ n.op ≠ 6) :
    Calls Tryd.prog 57 #[.slice (some ⟨b, o, none⟩) (n :: l1).length cap, p] w fun e w' => Told w' B e (ahead talkI f st (n :: l1)) ∧ Below w.heap.size w w' := by
  have HP := hide hp
  have HO := hide ok
  have HN := hide (ok n (by simp))
  have HL := hide hlen
  have HB := hide hB
  have HBB := hide hbB
  have HR := hide hrow
  have HC1 := hide hc1
  have HC2 := hide hc2
  obtain ⟨u, rfl⟩ := hp.shape
  simp only [List.length_cons] at hc1
  obtain ⟨⟨c0, c1, c2, c3, c4⟩, -⟩ := hrow
  have hbw : b < w.heap.size := World.block_lt_of_cell? w _ c0
  have hz : ((l1.length : Int) + 1 == 0) = false := beq_eq_false_iff_ne.2 (by omega)
  have HL1 : Hid (l1.length = 0) := hide (by omega)
  have HSX : Hid (SlAt w B (.slice (some ⟨b, o, none⟩) 0 0) l1) := hide (by rw [List.length_eq_zero_iff.1 HL1.out]; exact ⟨_, _, rfl, Nat.le_refl _, by simp, fun h => absurd rfl h⟩)
  subst hcap
  have HOP := hide hop
  clear ok hlen hB hbB hp hc2
  obtain ⟨x0, x1, x2, x3, x5, x6⟩ := hop
  have y0 : (n.op == 0) = false := beq_eq_false_iff_ne.2 x0
  have y1 : (n.op == 1) = false := beq_eq_false_iff_ne.2 x1
  have y2 : (n.op == 2) = false := beq_eq_false_iff_ne.2 x2
  have y3 : (n.op == 3) = false := beq_eq_false_iff_ne.2 x3
  have y5 : (n.op == 5) = false := beq_eq_false_iff_ne.2 x5
  have y6 : (n.op == 6) = false := beq_eq_false_iff_ne.2 x6
  go_enter Tryd.func57, Tryd.ntmps57
  go_wp2_with fail
  go_region
  go_wp2_with fail
  go_ret2
  exact told_none (by repeat (first | exact alloc1 _ _ | exact Below.refl _ _ | refine Below.drew ?_)) (ahead_x HOP.out.1 HOP.out.2.1 HOP.out.2.2.1 (by have := HOP.out; simp [talkI, this]))
end Go.Proofs.YtolbcoginmaboaaDoor
