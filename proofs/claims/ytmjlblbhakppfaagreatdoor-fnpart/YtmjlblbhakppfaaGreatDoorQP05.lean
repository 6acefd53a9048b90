import Derived.Test.YtmjlblbhakppfaaGreatDoorQP04
import Derived.Deep.RegionLaw
import Derived.Deep.QuietTactic
namespace Go.Proofs.YtmjlblbhakppfaaGreatDoor
open Go.RowKit

theorem step_append_own {P : Program} {ops : Array Oper} {o : Oper} {a : Act} {w : World} {K : Act → World → Prop} {Q : Exit → Act → World → Prop} {E : Prop}
    (hg : o.guard = none) (s x : Operand) (t : TypeId) (hop : o.op = Op.call { callee := Callee.builtin Builtin.append, args := #[s, x], argTypes := #[t, t] })
    (base : Nat) (e : TypeId) (i : TypeInfo) (z : Value) (size bytes : Nat) (h1 : P.underlying t = some (.slice e)) (h2 : P.info? e = some i) (h3 : i.zero = some z) (h4 : i.size = size) (h5 : i.bytes = bytes) (h6 : z.cells.size = size) (h7 : 0 < size)
    (v : Value) (n : Nat) (xs : List Value) (hs : a.eval s = v) (hown : w.ownsRow base e size v n xs)
    (ad : Addr) (m c : Nat) (news : List Value) (hx : a.eval x = .slice (some ad) m c) (hn : news.length = m * size) (hc : ∀ j u, news[j]? = some u → w.cell? (ad.add j) = some u) (h1c : ∀ u ∈ news, u.oneCell' = true)
    (b1 : n + m ≤ maxLen) (b2 : (n + m) * bytes ≤ 140737488355328) (hbase : base ≤ w.heap.size)
    (hK : ∀ v' w', w'.ownsRow base e size v' (n + m) (xs ++ news) → w.grownBy w' v.ownBlock → K (a.put o.dst v') w') :
    if Region.wanted o (yielded ops a.tmps) = true then Oper.wp P o a w K Q else E := by
  have hw : Region.wanted o (yielded ops a.tmps) = true := by simp [Region.wanted, hg]
  rw [if_pos hw]
  obtain ⟨v', w', hrun, r1, r2, _⟩ := run_append_own (P := P) w base t o.type e i z size bytes h1 h2 h3 h4 h5 h6 h7 v n xs hown ad m c news hn hc h1c b1 b2 hbase
  unfold Oper.wp
  simp [execOp, hop, resolve, invoke, builtin, hs, hx, hrun, Result.andThen]
  exact hK v' w' r1 r2

theorem step_append_none {P : Program} {ops : Array Oper} {o : Oper} {a : Act} {w : World} {K : Act → World → Prop} {Q : Exit → Act → World → Prop} {E : Prop}
    (hg : o.guard = none) (s x : Operand) (t : TypeId) (hop : o.op = Op.call { callee := Callee.builtin Builtin.append, args := #[s, x], argTypes := #[t, t] })
    (base : Nat) (e : TypeId) (i : TypeInfo) (size : Nat) (h1 : P.underlying t = some (.slice e)) (h2 : P.info? e = some i)
    (v : Value) (n : Nat) (xs : List Value) (hs : a.eval s = v) (hown : w.ownsRow base e size v n xs) (hx : a.eval x = .slice none 0 0)
    (hK : K (a.put o.dst v) w) :
    if Region.wanted o (yielded ops a.tmps) = true then Oper.wp P o a w K Q else E := by
  have hw : Region.wanted o (yielded ops a.tmps) = true := by simp [Region.wanted, hg]
  rw [if_pos hw]
  have hrun := run_append_owned_none (P := P) (w := w) base t o.type e i size h1 h2 v n xs hown
  unfold Oper.wp
  simp [execOp, hop, resolve, invoke, builtin, hs, hx, hrun, Result.andThen]
  exact hK

theorem TextsAt.take {w : World} {ao : Option Addr} {cap k : Nat} {ls : List ByteArray} (h : TextsAt w (.slice ao ls.length cap) ls) (hk : k ≤ ls.length) : TextsAt w (.slice ao k cap) (ls.take k) := by
  obtain ⟨ao', cap', e, h1, h2, h3⟩ := h
  cases e
  refine ⟨ao, cap, by rw [List.length_take, Nat.min_eq_left hk], by rw [List.length_take]; omega, by rw [List.length_take]; omega, fun hne => ?_⟩
  have hne' : ls ≠ [] := by intro h; rw [h] at hne; exact hne (by simp)
  obtain ⟨b, o, rfl, hc⟩ := h3 hne'
  refine ⟨b, o, rfl, fun i hi => ?_⟩
  have hi' : i < ls.length := by rw [List.length_take] at hi; omega
  rw [List.getElem_take]
  exact hc i hi'
theorem pos_next {all : List Nd} {pos : Nat} (h : pos < all.length) : endPos all (some (all.drop (pos + 1))) = (pos : Int) + 1 := by
  simp only [endPos, List.length_drop]
  omega
end Go.Proofs.YtmjlblbhakppfaaGreatDoor
namespace Go.Proofs.YtmjlblbhakppfaaGreatDoor
open Go.RowKit

set_option maxRecDepth 100000 in
set_option maxHeartbeats 1000000 in
theorem end_step_b (f : Nat) (st : List Nd) (n : Nd) (l1 : List Nd) (p : Value) (w : World) (B b o cap : Nat) (hlen : st.length + f = 10) (ok : ∀ x ∈ n :: l1, x.ok) (hB : B ≤ w.heap.size) (hbB : b < B) (hc1 : (n :: l1).length ≤ cap) (hc2 : cap ≤ 9223372036854775807 ∧ l1.length < 4294967296) (hcap : cap ≠ 1) (hrow : RowAt w b o (n :: l1)) (hp : PlaceAt w p st) (hop : n.op = 0) :
    Calls Tryz.prog 80 #[.slice (some ⟨b, o, none⟩) (n :: l1).length cap, p] w fun e w' => Told w' B e (ahead talkI f st (n :: l1)) ∧ Below w.heap.size w w' := by
  have HP := hide hp
  have HO := hide ok
  have HN := hide (ok n (by simp))
  have HL := hide hlen
  have HB := hide hB
  have HBB := hide hbB
  have HR := hide hrow
  have HC1 := hide hc1
  have HC2 := hide hc2
  obtain ⟨u, rfl⟩ := hp.shape
  have hc0 := hc1
  simp only [List.length_cons] at hc1
  have hrow0 := hrow
  obtain ⟨⟨c0, c1, c2, c3, c4⟩, -⟩ := hrow
  have hbw : b < w.heap.size := World.block_lt_of_cell? w _ c0
  have hz : ((l1.length : Int) + 1 == 0) = false := beq_eq_false_iff_ne.2 (by omega)
  have HSX : Hid (SlAt w B (.slice (some ⟨b, o + 5, none⟩) l1.length (cap - 1)) l1) := hide (SlAt.tail hbB hrow0 hc0 hc2 _ (fun _ => rfl))
  clear hrow0 hc0
  have HOP := hide hop
  clear ok hlen hB hbB hp hc2
  have c0' : w.cell? ⟨b, o, none⟩ = some (.int .i64 0) := by rw [← hop]; exact c0
  clear c0 hop
  have HE := hide (show endB n = (n.op == 0 && n.name.toList == [] && n.peer.toList == [] && n.many == 0 && n.sort == 0) from rfl)
  by_cases a1 : n.name.toList = []
  · by_cases a2 : n.peer.toList = []
    · by_cases a3 : n.many = 0
      · by_cases a4 : n.sort = 0
        · go_enter Tryz.func80, Tryz.ntmps80
          go_wp2_with fail
          go_region
          go_wp2_with fail
          go_region
          go_wp2_with fail
          go_ret2
          refine told_leaf (x := true) HSX.out HB.out (by repeat (first | exact alloc1 _ _ | exact Below.refl _ _ | refine Below.drew ?_)) ?_
          rw [ahead_0 HOP.out, HE.out]
          simp [HOP.out, *]
        · go_enter Tryz.func80, Tryz.ntmps80
          go_wp2_with fail
          go_region
          go_wp2_with fail
          go_region
          go_wp2_with fail
          go_ret2
          refine told_leaf (x := false) HSX.out HB.out (by repeat (first | exact alloc1 _ _ | exact Below.refl _ _ | refine Below.drew ?_)) ?_
          rw [ahead_0 HOP.out, HE.out]
          simp [HOP.out, *]
      · go_enter Tryz.func80, Tryz.ntmps80
        go_wp2_with fail
        go_region
        go_wp2_with fail
        go_region
        go_wp2_with fail
        go_ret2
        refine told_leaf (x := false) HSX.out HB.out (by repeat (first | exact alloc1 _ _ | exact Below.refl _ _ | refine Below.drew ?_)) ?_
        rw [ahead_0 HOP.out, HE.out]
        simp [HOP.out, *]
    · go_enter Tryz.func80, Tryz.ntmps80
      go_wp2_with fail
      go_region
      go_wp2_with fail
      go_region
      go_wp2_with fail
      go_ret2
      refine told_leaf (x := false) HSX.out HB.out (by repeat (first | exact alloc1 _ _ | exact Below.refl _ _ | refine Below.drew ?_)) ?_
      rw [ahead_0 HOP.out, HE.out]
      simp [HOP.out, *]
  · go_enter Tryz.func80, Tryz.ntmps80
    go_wp2_with fail
    go_region
    go_wp2_with fail
    go_region
    go_wp2_with fail
    go_ret2
    refine told_leaf (x := false) HSX.out HB.out (by repeat (first | exact alloc1 _ _ | exact Below.refl _ _ | refine Below.drew ?_)) ?_
    rw [ahead_0 HOP.out, HE.out]
    simp [HOP.out, *]

set_option maxRecDepth 100000 in
set_option maxHeartbeats 1000000 in
theorem var_step_b (f : Nat) (st : List Nd) (n : Nd) (l1 : List Nd) (p : Value) (w : World) (B b o cap : Nat) (hlen : st.length + f = 10) (ok : ∀ x ∈ n :: l1, x.ok) (hB : B ≤ w.heap.size) (hbB : b < B) (hc1 : (n :: l1).length ≤ cap) (hc2 : cap ≤ 9223372036854775807 ∧ l1.length < 4294967296) (hcap : cap ≠ 1) (hrow : RowAt w b o (n :: l1)) (hp : PlaceAt w p st) (hop : n.op = 1) :
    Calls Tryz.prog 80 #[.slice (some ⟨b, o, none⟩) (n :: l1).length cap, p] w fun e w' => Told w' B e (ahead talkI f st (n :: l1)) ∧ Below w.heap.size w w' := by
  have HP := hide hp
  have HO := hide ok
  have HN := hide (ok n (by simp))
  have HL := hide hlen
  have HB := hide hB
  have HBB := hide hbB
  have HR := hide hrow
  have HC1 := hide hc1
  have HC2 := hide hc2
  obtain ⟨u, rfl⟩ := hp.shape
  have hc0 := hc1
  simp only [List.length_cons] at hc1
  have hrow0 := hrow
  obtain ⟨⟨c0, c1, c2, c3, c4⟩, -⟩ := hrow
  have hbw : b < w.heap.size := World.block_lt_of_cell? w _ c0
  have hz : ((l1.length : Int) + 1 == 0) = false := beq_eq_false_iff_ne.2 (by omega)
  have HSX : Hid (SlAt w B (.slice (some ⟨b, o + 5, none⟩) l1.length (cap - 1)) l1) := hide (SlAt.tail hbB hrow0 hc0 hc2 _ (fun _ => rfl))
  clear hrow0 hc0
  have HOP := hide hop
  clear ok hlen hB hbB hp hc2
  have c0' : w.cell? ⟨b, o, none⟩ = some (.int .i64 1) := by rw [← hop]; exact c0
  clear c0 hop
  obtain ⟨bk, hbk⟩ : ∃ bk, backB false st n.name = bk := ⟨_, rfl⟩
  have HBK := hide hbk
  clear hbk
  cases bk
  all_goals
    go_enter Tryz.func80, Tryz.ntmps80
    go_wp2_with fail
    go_region
    go_wp2_with (go_at_call 110; refine (p_back st _ n.name _ (PlaceAt.carry (by repeat (first | exact alloc1 _ _ | exact Below.refl _ _ | refine Below.drew ?_)) HP.out)).mono ?_; rintro e w' ⟨rfl, rfl⟩; rw [HBK.out])
    all_goals
      go_ret2
      refine told_leaf HSX.out HB.out (by repeat (first | exact alloc1 _ _ | exact Below.refl _ _ | refine Below.drew ?_)) ?_
      rw [ahead_1 HOP.out, HBK.out, varB, HOP.out]
      simp [*]

set_option maxRecDepth 100000 in
set_option maxHeartbeats 1000000 in
theorem oth_step_b (f : Nat) (st : List Nd) (n : Nd) (l1 : List Nd) (p : Value) (w : World) (B b o cap : Nat) (hlen : st.length + f = 10) (ok : ∀ x ∈ n :: l1, x.ok) (hB : B ≤ w.heap.size) (hbB : b < B) (hc1 : (n :: l1).length ≤ cap) (hc2 : cap ≤ 9223372036854775807 ∧ l1.length < 4294967296) (hcap : cap ≠ 1) (hrow : RowAt w b o (n :: l1)) (hp : PlaceAt w p st) (hop : n.op ≠ 0 ∧ n.op ≠ 1 ∧ n.op ≠ 2 ∧ n.op ≠ 3 ∧ n.op ≠ 5 ∧ n.op ≠ 6) :
    Calls Tryz.prog 80 #[.slice (some ⟨b, o, none⟩) (n :: l1).length cap, p] w fun e w' => Told w' B e (ahead talkI f st (n :: l1)) ∧ Below w.heap.size w w' := by
  have HP := hide hp
  have HO := hide ok
  have HN := hide (ok n (by simp))
  have HL := hide hlen
  have HB := hide hB
  have HBB := hide hbB
  have HR := hide hrow
  have HC1 := hide hc1
  have HC2 := hide hc2
  obtain ⟨u, rfl⟩ := hp.shape
  have hc0 := hc1
  simp only [List.length_cons] at hc1
  have hrow0 := hrow
  obtain ⟨⟨c0, c1, c2, c3, c4⟩, -⟩ := hrow
  have hbw : b < w.heap.size := World.block_lt_of_cell? w _ c0
  have hz : ((l1.length : Int) + 1 == 0) = false := beq_eq_false_iff_ne.2 (by omega)
  have HSX : Hid (SlAt w B (.slice (some ⟨b, o + 5, none⟩) l1.length (cap - 1)) l1) := hide (SlAt.tail hbB hrow0 hc0 hc2 _ (fun _ => rfl))
  clear hrow0 hc0
  have HOP := hide hop
  clear ok hlen hB hbB hp hc2
  obtain ⟨x0, x1, x2, x3, x5, x6⟩ := hop
  have y0 : (n.op == 0) = false := beq_eq_false_iff_ne.2 x0
  have y1 : (n.op == 1) = false := beq_eq_false_iff_ne.2 x1
  have y2 : (n.op == 2) = false := beq_eq_false_iff_ne.2 x2
  have y3 : (n.op == 3) = false := beq_eq_false_iff_ne.2 x3
  have y5 : (n.op == 5) = false := beq_eq_false_iff_ne.2 x5
  have y6 : (n.op == 6) = false := beq_eq_false_iff_ne.2 x6
  go_enter Tryz.func80, Tryz.ntmps80
  go_wp2_with fail
  go_region
  go_wp2_with fail
  go_ret2
  exact told_none (by repeat (first | exact alloc1 _ _ | exact Below.refl _ _ | refine Below.drew ?_)) (ahead_x HOP.out.1 HOP.out.2.1 HOP.out.2.2.1 (by have := HOP.out; simp [talkI, this]))

set_option maxRecDepth 100000 in
set_option maxHeartbeats 1000000 in
theorem end_step_a (f : Nat) (st : List Nd) (n : Nd) (l1 : List Nd) (p : Value) (w : World) (B b o cap : Nat) (hlen : st.length + f = 10) (ok : ∀ x ∈ n :: l1, x.ok) (hB : B ≤ w.heap.size) (hbB : b < B) (hc1 : (n :: l1).length ≤ cap) (hc2 : cap ≤ 9223372036854775807 ∧ l1.length < 4294967296) (hcap : cap = 1) (hrow : RowAt w b o (n :: l1)) (hp : PlaceAt w p st) (hop : n.op = 0) :
    Calls Tryz.prog 80 #[.slice (some ⟨b, o, none⟩) (n :: l1).length cap, p] w fun e w' => Told w' B e (ahead talkI f st (n :: l1)) ∧ Below w.heap.size w w' := by
  have HP := hide hp
  have HO := hide ok
  have HN := hide (ok n (by simp))
  have HL := hide hlen
  have HB := hide hB
  have HBB := hide hbB
  have HR := hide hrow
  have HC1 := hide hc1
  have HC2 := hide hc2
  obtain ⟨u, rfl⟩ := hp.shape
  simp only [List.length_cons] at hc1
  obtain ⟨⟨c0, c1, c2, c3, c4⟩, -⟩ := hrow
  have hbw : b < w.heap.size := World.block_lt_of_cell? w _ c0
  have hz : ((l1.length : Int) + 1 == 0) = false := beq_eq_false_iff_ne.2 (by omega)
  have HL1 : Hid (l1.length = 0) := hide (by omega)
  have HSX : Hid (SlAt w B (.slice (some ⟨b, o, none⟩) 0 0) l1) := hide (by rw [List.length_eq_zero_iff.1 HL1.out]; exact ⟨_, _, rfl, Nat.le_refl _, by simp, fun h => absurd rfl h⟩)
  subst hcap
  have HOP := hide hop
  clear ok hlen hB hbB hp hc2
  have c0' : w.cell? ⟨b, o, none⟩ = some (.int .i64 0) := by rw [← hop]; exact c0
  clear c0 hop
  have HE := hide (show endB n = (n.op == 0 && n.name.toList == [] && n.peer.toList == [] && n.many == 0 && n.sort == 0) from rfl)
  by_cases a1 : n.name.toList = []
  · by_cases a2 : n.peer.toList = []
    · by_cases a3 : n.many = 0
      · by_cases a4 : n.sort = 0
        · go_enter Tryz.func80, Tryz.ntmps80
          go_wp2_with fail
          go_region
          go_wp2_with fail
          go_region
          go_wp2_with fail
          go_ret2
          refine told_leaf (x := true) HSX.out HB.out (by repeat (first | exact alloc1 _ _ | exact Below.refl _ _ | refine Below.drew ?_)) ?_
          rw [ahead_0 HOP.out, HE.out]
          simp [HOP.out, *]
        · go_enter Tryz.func80, Tryz.ntmps80
          go_wp2_with fail
          go_region
          go_wp2_with fail
          go_region
          go_wp2_with fail
          go_ret2
          refine told_leaf (x := false) HSX.out HB.out (by repeat (first | exact alloc1 _ _ | exact Below.refl _ _ | refine Below.drew ?_)) ?_
          rw [ahead_0 HOP.out, HE.out]
          simp [HOP.out, *]
      · go_enter Tryz.func80, Tryz.ntmps80
        go_wp2_with fail
        go_region
        go_wp2_with fail
        go_region
        go_wp2_with fail
        go_ret2
        refine told_leaf (x := false) HSX.out HB.out (by repeat (first | exact alloc1 _ _ | exact Below.refl _ _ | refine Below.drew ?_)) ?_
        rw [ahead_0 HOP.out, HE.out]
        simp [HOP.out, *]
    · go_enter Tryz.func80, Tryz.ntmps80
      go_wp2_with fail
      go_region
      go_wp2_with fail
      go_region
      go_wp2_with fail
      go_ret2
      refine told_leaf (x := false) HSX.out HB.out (by repeat (first | exact alloc1 _ _ | exact Below.refl _ _ | refine Below.drew ?_)) ?_
      rw [ahead_0 HOP.out, HE.out]
      simp [HOP.out, *]
  · go_enter Tryz.func80, Tryz.ntmps80
    go_wp2_with fail
    go_region
    go_wp2_with fail
    go_region
    go_wp2_with fail
    go_ret2
    refine told_leaf (x := false) HSX.out HB.out (by repeat (first | exact alloc1 _ _ | exact Below.refl _ _ | refine Below.drew ?_)) ?_
    rw [ahead_0 HOP.out, HE.out]
    simp [HOP.out, *]

set_option maxRecDepth 100000 in
set_option maxHeartbeats 1000000 in
theorem var_step_a (f : Nat) (st : List Nd) (n : Nd) (l1 : List Nd) (p : Value) (w : World) (B b o cap : Nat) (hlen : st.length + f = 10) (ok : ∀ x ∈ n :: l1, x.ok) (hB : B ≤ w.heap.size) (hbB : b < B) (hc1 : (n :: l1).length ≤ cap) (hc2 : cap ≤ 9223372036854775807 ∧ l1.length < 4294967296) (hcap : cap = 1) (hrow : RowAt w b o (n :: l1)) (hp : PlaceAt w p st) (hop : n.op = 1) :
    Calls Tryz.prog 80 #[.slice (some ⟨b, o, none⟩) (n :: l1).length cap, p] w fun e w' => Told w' B e (ahead talkI f st (n :: l1)) ∧ Below w.heap.size w w' := by
  have HP := hide hp
  have HO := hide ok
  have HN := hide (ok n (by simp))
  have HL := hide hlen
  have HB := hide hB
  have HBB := hide hbB
  have HR := hide hrow
  have HC1 := hide hc1
  have HC2 := hide hc2
  obtain ⟨u, rfl⟩ := hp.shape
  simp only [List.length_cons] at hc1
  obtain ⟨⟨c0, c1, c2, c3, c4⟩, -⟩ := hrow
  have hbw : b < w.heap.size := World.block_lt_of_cell? w _ c0
  have hz : ((l1.length : Int) + 1 == 0) = false := beq_eq_false_iff_ne.2 (by omega)
  have HL1 : Hid (l1.length = 0) := hide (by omega)
  have HSX : Hid (SlAt w B (.slice (some ⟨b, o, none⟩) 0 0) l1) := hide (by rw [List.length_eq_zero_iff.1 HL1.out]; exact ⟨_, _, rfl, Nat.le_refl _, by simp, fun h => absurd rfl h⟩)
  subst hcap
  have HOP := hide hop
  clear ok hlen hB hbB hp hc2
  have c0' : w.cell? ⟨b, o, none⟩ = some (.int .i64 1) := by rw [← hop]; exact c0
  clear c0 hop
  obtain ⟨bk, hbk⟩ : ∃ bk, backB false st n.name = bk := ⟨_, rfl⟩
  have HBK := hide hbk
  clear hbk
  cases bk
  all_goals
    go_enter Tryz.func80, Tryz.ntmps80
    go_wp2_with fail
    go_region
    go_wp2_with (go_at_call 110; refine (p_back st _ n.name _ (PlaceAt.carry (by repeat (first | exact alloc1 _ _ | exact Below.refl _ _ | refine Below.drew ?_)) HP.out)).mono ?_; rintro e w' ⟨rfl, rfl⟩; rw [HBK.out])
    all_goals
      go_ret2
      refine told_leaf HSX.out HB.out (by repeat (first | exact alloc1 _ _ | exact Below.refl _ _ | refine Below.drew ?_)) ?_
      rw [ahead_1 HOP.out, HBK.out, varB, HOP.out]
      simp [*]

set_option maxRecDepth 100000 in
set_option maxHeartbeats 1000000 in
theorem oth_step_a (f : Nat) (st : List Nd) (n : Nd) (l1 : List Nd) (p : Value) (w : World) (B b o cap : Nat) (hlen : st.length + f = 10) (ok : ∀ x ∈ n :: l1, x.ok) (hB : B ≤ w.heap.size) (hbB : b < B) (hc1 : (n :: l1).length ≤ cap) (hc2 : cap ≤ 9223372036854775807 ∧ l1.length < 4294967296) (hcap : cap = 1) (hrow : RowAt w b o (n :: l1)) (hp : PlaceAt w p st) (hop : n.op ≠ 0 ∧ n.op ≠ 1 ∧ n.op ≠ 2 ∧ n.op ≠ 3 ∧ n.op ≠ 5 ∧ n.op ≠ 6) :
    Calls Tryz.prog 80 #[.slice (some ⟨b, o, none⟩) (n :: l1).length cap, p] w fun e w' => Told w' B e (ahead talkI f st (n :: l1)) ∧ Below w.heap.size w w' := by
  have HP := hide hp
  have HO := hide ok
  have HN := hide (ok n (by simp))
  have HL := hide hlen
  have HB := hide hB
  have HBB := hide hbB
  have HR := hide hrow
  have HC1 := hide hc1
  have HC2 := hide hc2
  obtain ⟨u, rfl⟩ := hp.shape
  simp only [List.length_cons] at hc1
  obtain ⟨⟨c0, c1, c2, c3, c4⟩, -⟩ := hrow
  have hbw : b < w.heap.size := World.block_lt_of_cell? w _ c0
  have hz : ((l1.length : Int) + 1 == 0) = false := beq_eq_false_iff_ne.2 (by omega)
  have HL1 : Hid (l1.length = 0) := hide (by omega)
  have HSX : Hid (SlAt w B (.slice (some ⟨b, o, none⟩) 0 0) l1) := hide (by rw [List.length_eq_zero_iff.1 HL1.out]; exact ⟨_, _, rfl, Nat.le_refl _, by simp, fun h => absurd rfl h⟩)
  subst hcap
  have HOP := hide hop
  clear ok hlen hB hbB hp hc2
  obtain ⟨x0, x1, x2, x3, x5, x6⟩ := hop
  have y0 : (n.op == 0) = false := beq_eq_false_iff_ne.2 x0
  have y1 : (n.op == 1) = false := beq_eq_false_iff_ne.2 x1
  have y2 : (n.op == 2) = false := beq_eq_false_iff_ne.2 x2
  have y3 : (n.op == 3) = false := beq_eq_false_iff_ne.2 x3
  have y5 : (n.op == 5) = false := beq_eq_false_iff_ne.2 x5
  have y6 : (n.op == 6) = false := beq_eq_false_iff_ne.2 x6
  go_enter Tryz.func80, Tryz.ntmps80
  go_wp2_with fail
  go_region
  go_wp2_with fail
  go_ret2
  exact told_none (by repeat (first | exact alloc1 _ _ | exact Below.refl _ _ | refine Below.drew ?_)) (ahead_x HOP.out.1 HOP.out.2.1 HOP.out.2.2.1 (by have := HOP.out; simp [talkI, this]))
end Go.Proofs.YtmjlblbhakppfaaGreatDoor
namespace Go.Proofs.YtmjlblbhakppfaaGreatDoor
open Go.RowKit

set_option maxRecDepth 100000 in
set_option maxHeartbeats 1000000 in
theorem msg3_step_b (f : Nat) (hih : ∀ g, f = g + 1 → PlanCalls g) (st : List Nd) (name peer : ByteArray) (many sort : Int) (l1 : List Nd) (p : Value) (w : World) (B b o cap : Nat) (hlen : st.length + f = 10) (ok : ∀ x ∈ ⟨3, name, peer, many, sort⟩ :: l1, x.ok) (hB : B ≤ w.heap.size) (hbB : b < B) (hc1 : (⟨3, name, peer, many, sort⟩ :: l1).length ≤ cap) (hc2 : cap ≤ 9223372036854775807 ∧ l1.length < 4294967296) (hcap : cap ≠ 1) (hrow : RowAt w b o (⟨3, name, peer, many, sort⟩ :: l1)) (hp : PlaceAt w p st) :
    Calls Tryz.prog 80 #[.slice (some ⟨b, o, none⟩) (⟨3, name, peer, many, sort⟩ :: l1 : List Nd).length cap, p] w fun e w' => Told w' B e (ahead talkI f st (⟨3, name, peer, many, sort⟩ :: l1)) ∧ Below w.heap.size w w' := by
  have HP := hide hp
  have HO := hide ok
  have HN := hide (ok ⟨3, name, peer, many, sort⟩ (by simp))
  have HL := hide hlen
  have HB := hide hB
  have HBB := hide hbB
  have HR := hide hrow
  have HC1 := hide hc1
  have HC2 := hide hc2
  obtain ⟨u, rfl⟩ := hp.shape
  have hc0 := hc1
  simp only [List.length_cons] at hc1
  have hrow0 := hrow
  obtain ⟨⟨c0, c1, c2, c3, c4⟩, -⟩ := hrow
  dsimp only at c0 c1 c2 c3 c4
  have hbw : b < w.heap.size := World.block_lt_of_cell? w _ c0
  have hz : ((l1.length : Int) + 1 == 0) = false := beq_eq_false_iff_ne.2 (by omega)
  have HSX : Hid (SlAt w B (.slice (some ⟨b, o + 5, none⟩) l1.length (cap - 1)) l1) := hide (SlAt.tail hbB hrow0 hc0 hc2 _ (fun _ => rfl))
  clear hrow0 hc0
  clear ok hlen hB hbB hp hc2
  have HFU := hide (show fullB st = (f == 0) by rw [fullB]; have := HL.out; cases f <;> simp <;> omega)
  obtain ⟨rb, hrb⟩ : ∃ rb, talkI ⟨3, name, peer, many, sort⟩ = rb := ⟨_, rfl⟩
  have HRB := hide hrb
  clear hrb
  cases rb
  · go_enter Tryz.func80, Tryz.ntmps80
    go_wp2_with fail
    go_region
    go_wp2_with (go_at_call 115; refine (talk_right ⟨3, name, peer, many, sort⟩ _ HN.out (by first | exact .inl rfl | exact .inr (.inl rfl) | exact .inr (.inr rfl))).mono ?_; rintro e w1 ⟨rfl, hb1⟩; rw [HRB.out]; obtain ⟨d0, d1, d2, d3, d4⟩ := NodeAt.carry (B := _) (boxed w ⟨3, name, peer, many, sort⟩ 45) (by simp) hb1; dsimp only at d0 d1 d2 d3 d4; have hs1 : w.heap.size < w1.heap.size := (by have := hb1.size; simp at this; omega); have HB1 : Hid (Below w.heap.size w w1) := hide ((alloc1 _ _).drew.trans (hb1.mono (by simp))); clear hb1)
    go_ret2
    refine told_none HB1.out ?_
    cases f
    · exact ahead_t0 (by simp) (by simp)
    · rw [ahead_t (by simp) (by simp) (by simp), HRB.out]; rfl
  · cases f with
    | zero =>
        go_enter Tryz.func80, Tryz.ntmps80
        go_wp2_with fail
        go_region
        go_wp2_with (first | (go_at_call 115; refine (talk_right ⟨3, name, peer, many, sort⟩ _ HN.out (by first | exact .inl rfl | exact .inr (.inl rfl) | exact .inr (.inr rfl))).mono ?_; rintro e w1 ⟨rfl, hb1⟩; rw [HRB.out]; obtain ⟨d0, d1, d2, d3, d4⟩ := NodeAt.carry (B := _) (boxed w ⟨3, name, peer, many, sort⟩ 45) (by simp) hb1; dsimp only at d0 d1 d2 d3 d4; have hs1 : w.heap.size < w1.heap.size := (by have := hb1.size; simp at this; omega); have HB1 : Hid (Below w.heap.size w w1) := hide ((alloc1 _ _).drew.trans (hb1.mono (by simp))); clear hb1) | (go_at_call 113; refine (p_full st _ _ (PlaceAt.carry HB1.out HP.out)).mono ?_; rintro e w' ⟨rfl, rfl⟩; rw [HFU.out, show ((0 : Nat) == 0) = true from rfl]))
        go_ret2
        refine told_none HB1.out ?_
        exact ahead_t0 (by simp) (by simp)
    | succ f =>
        have HI := hide (hih f rfl)
        have HMB : Hid (1 ≤ (Nd.many ⟨3, name, peer, many, sort⟩) ∧ (Nd.many ⟨3, name, peer, many, sort⟩) ≤ 4) := hide (by have := HRB.out; simp [talkI, manyB] at this; exact this.1.1.2)
        clear hih
        go_enter Tryz.func80, Tryz.ntmps80
        go_wp2_with fail
        go_region
        go_wp2_with (first | (go_at_call 115; refine (talk_right ⟨3, name, peer, many, sort⟩ _ HN.out (by first | exact .inl rfl | exact .inr (.inl rfl) | exact .inr (.inr rfl))).mono ?_; rintro e w1 ⟨rfl, hb1⟩; rw [HRB.out]; obtain ⟨d0, d1, d2, d3, d4⟩ := NodeAt.carry (B := _) (boxed w ⟨3, name, peer, many, sort⟩ 45) (by simp) hb1; dsimp only at d0 d1 d2 d3 d4; have hs1 : w.heap.size < w1.heap.size := (by have := hb1.size; simp at this; omega); have HB1 : Hid (Below w.heap.size w w1) := hide ((alloc1 _ _).drew.trans (hb1.mono (by simp))); clear hb1) | (go_at_call 113; refine (p_full st _ _ (PlaceAt.carry HB1.out HP.out)).mono ?_; rintro e w' ⟨rfl, rfl⟩; rw [HFU.out, show (f + 1 == 0) = false from rfl]))
        go_wp2_with (first | (go_at_call 114; refine (p_inner st _ ⟨3, name, peer, many, sort⟩ _ (PlaceAt.carry HB1.out HP.out) (by have := HL.out; omega)).mono ?_; rintro e w2 ⟨q, rfl, hq, hb2⟩; obtain ⟨uq, rfl⟩ := hq.shape; have HQ := hide hq; have HB2 := hide (HB1.out.trans (hb2.mono HB1.out.size)); clear hq hb2) | (go_at_call 116; refine (cases_ahead f HI.out ⟨3, name, peer, many, sort⟩ st l1 _ _ _ B (by have := HL.out; simp; omega) HMB.out (fun x hx => HO.out x (List.mem_cons_of_mem _ hx)) (Nat.le_trans HB.out HB2.out.size) (HSX.out.carry (HB2.out.mono HB.out)) HQ.out).mono ?_; rintro e w3 ⟨⟨v3, rfl, hs3⟩, hb3⟩; have HS3 := hide hs3; have HB3 := hide hb3; clear hs3 hb3))
        go_ret2
        exact told_on ⟨v3, rfl, HS3.out⟩ HB2.out HB3.out (by rw [ahead_t (by simp) (by simp) (by simp), HRB.out]; rfl)

set_option maxRecDepth 100000 in
set_option maxHeartbeats 1000000 in
theorem msg3_step_a (f : Nat) (hih : ∀ g, f = g + 1 → PlanCalls g) (st : List Nd) (name peer : ByteArray) (many sort : Int) (l1 : List Nd) (p : Value) (w : World) (B b o cap : Nat) (hlen : st.length + f = 10) (ok : ∀ x ∈ ⟨3, name, peer, many, sort⟩ :: l1, x.ok) (hB : B ≤ w.heap.size) (hbB : b < B) (hc1 : (⟨3, name, peer, many, sort⟩ :: l1).length ≤ cap) (hc2 : cap ≤ 9223372036854775807 ∧ l1.length < 4294967296) (hcap : cap = 1) (hrow : RowAt w b o (⟨3, name, peer, many, sort⟩ :: l1)) (hp : PlaceAt w p st) :
    Calls Tryz.prog 80 #[.slice (some ⟨b, o, none⟩) (⟨3, name, peer, many, sort⟩ :: l1 : List Nd).length cap, p] w fun e w' => Told w' B e (ahead talkI f st (⟨3, name, peer, many, sort⟩ :: l1)) ∧ Below w.heap.size w w' := by
  have HP := hide hp
  have HO := hide ok
  have HN := hide (ok ⟨3, name, peer, many, sort⟩ (by simp))
  have HL := hide hlen
  have HB := hide hB
  have HBB := hide hbB
  have HR := hide hrow
  have HC1 := hide hc1
  have HC2 := hide hc2
  obtain ⟨u, rfl⟩ := hp.shape
  simp only [List.length_cons] at hc1
  obtain ⟨⟨c0, c1, c2, c3, c4⟩, -⟩ := hrow
  dsimp only at c0 c1 c2 c3 c4
  have hbw : b < w.heap.size := World.block_lt_of_cell? w _ c0
  have hz : ((l1.length : Int) + 1 == 0) = false := beq_eq_false_iff_ne.2 (by omega)
  have HL1 : Hid (l1.length = 0) := hide (by omega)
  have HSX : Hid (SlAt w B (.slice (some ⟨b, o, none⟩) 0 0) l1) := hide (by rw [List.length_eq_zero_iff.1 HL1.out]; exact ⟨_, _, rfl, Nat.le_refl _, by simp, fun h => absurd rfl h⟩)
  subst hcap
  clear ok hlen hB hbB hp hc2
  have HFU := hide (show fullB st = (f == 0) by rw [fullB]; have := HL.out; cases f <;> simp <;> omega)
  obtain ⟨rb, hrb⟩ : ∃ rb, talkI ⟨3, name, peer, many, sort⟩ = rb := ⟨_, rfl⟩
  have HRB := hide hrb
  clear hrb
  cases rb
  · go_enter Tryz.func80, Tryz.ntmps80
    go_wp2_with fail
    go_region
    go_wp2_with (go_at_call 115; refine (talk_right ⟨3, name, peer, many, sort⟩ _ HN.out (by first | exact .inl rfl | exact .inr (.inl rfl) | exact .inr (.inr rfl))).mono ?_; rintro e w1 ⟨rfl, hb1⟩; rw [HRB.out]; obtain ⟨d0, d1, d2, d3, d4⟩ := NodeAt.carry (B := _) (boxed w ⟨3, name, peer, many, sort⟩ 45) (by simp) hb1; dsimp only at d0 d1 d2 d3 d4; have hs1 : w.heap.size < w1.heap.size := (by have := hb1.size; simp at this; omega); have HB1 : Hid (Below w.heap.size w w1) := hide ((alloc1 _ _).drew.trans (hb1.mono (by simp))); clear hb1)
    go_ret2
    refine told_none HB1.out ?_
    cases f
    · exact ahead_t0 (by simp) (by simp)
    · rw [ahead_t (by simp) (by simp) (by simp), HRB.out]; rfl
  · cases f with
    | zero =>
        go_enter Tryz.func80, Tryz.ntmps80
        go_wp2_with fail
        go_region
        go_wp2_with (first | (go_at_call 115; refine (talk_right ⟨3, name, peer, many, sort⟩ _ HN.out (by first | exact .inl rfl | exact .inr (.inl rfl) | exact .inr (.inr rfl))).mono ?_; rintro e w1 ⟨rfl, hb1⟩; rw [HRB.out]; obtain ⟨d0, d1, d2, d3, d4⟩ := NodeAt.carry (B := _) (boxed w ⟨3, name, peer, many, sort⟩ 45) (by simp) hb1; dsimp only at d0 d1 d2 d3 d4; have hs1 : w.heap.size < w1.heap.size := (by have := hb1.size; simp at this; omega); have HB1 : Hid (Below w.heap.size w w1) := hide ((alloc1 _ _).drew.trans (hb1.mono (by simp))); clear hb1) | (go_at_call 113; refine (p_full st _ _ (PlaceAt.carry HB1.out HP.out)).mono ?_; rintro e w' ⟨rfl, rfl⟩; rw [HFU.out, show ((0 : Nat) == 0) = true from rfl]))
        go_ret2
        refine told_none HB1.out ?_
        exact ahead_t0 (by simp) (by simp)
    | succ f =>
        have HI := hide (hih f rfl)
        have HMB : Hid (1 ≤ (Nd.many ⟨3, name, peer, many, sort⟩) ∧ (Nd.many ⟨3, name, peer, many, sort⟩) ≤ 4) := hide (by have := HRB.out; simp [talkI, manyB] at this; exact this.1.1.2)
        clear hih
        go_enter Tryz.func80, Tryz.ntmps80
        go_wp2_with fail
        go_region
        go_wp2_with (first | (go_at_call 115; refine (talk_right ⟨3, name, peer, many, sort⟩ _ HN.out (by first | exact .inl rfl | exact .inr (.inl rfl) | exact .inr (.inr rfl))).mono ?_; rintro e w1 ⟨rfl, hb1⟩; rw [HRB.out]; obtain ⟨d0, d1, d2, d3, d4⟩ := NodeAt.carry (B := _) (boxed w ⟨3, name, peer, many, sort⟩ 45) (by simp) hb1; dsimp only at d0 d1 d2 d3 d4; have hs1 : w.heap.size < w1.heap.size := (by have := hb1.size; simp at this; omega); have HB1 : Hid (Below w.heap.size w w1) := hide ((alloc1 _ _).drew.trans (hb1.mono (by simp))); clear hb1) | (go_at_call 113; refine (p_full st _ _ (PlaceAt.carry HB1.out HP.out)).mono ?_; rintro e w' ⟨rfl, rfl⟩; rw [HFU.out, show (f + 1 == 0) = false from rfl]))
        go_wp2_with (first | (go_at_call 114; refine (p_inner st _ ⟨3, name, peer, many, sort⟩ _ (PlaceAt.carry HB1.out HP.out) (by have := HL.out; omega)).mono ?_; rintro e w2 ⟨q, rfl, hq, hb2⟩; obtain ⟨uq, rfl⟩ := hq.shape; have HQ := hide hq; have HB2 := hide (HB1.out.trans (hb2.mono HB1.out.size)); clear hq hb2) | (go_at_call 116; refine (cases_ahead f HI.out ⟨3, name, peer, many, sort⟩ st l1 _ _ _ B (by have := HL.out; simp; omega) HMB.out (fun x hx => HO.out x (List.mem_cons_of_mem _ hx)) (Nat.le_trans HB.out HB2.out.size) (HSX.out.carry (HB2.out.mono HB.out)) HQ.out).mono ?_; rintro e w3 ⟨⟨v3, rfl, hs3⟩, hb3⟩; have HS3 := hide hs3; have HB3 := hide hb3; clear hs3 hb3))
        go_ret2
        exact told_on ⟨v3, rfl, HS3.out⟩ HB2.out HB3.out (by rw [ahead_t (by simp) (by simp) (by simp), HRB.out]; rfl)
end Go.Proofs.YtmjlblbhakppfaaGreatDoor
