import Derived.Test.YtmjlblbhakppfaaGreatDoorQP05
import Derived.Test.YtmjlblbhakppfaaGreatDoorQP04
import Derived.Test.YtmjlblbhakppfaaGreatDoorQP06
namespace Go.Proofs.YtmjlblbhakppfaaGreatDoor
open Go.RowKit

theorem grow_cell {w w' : World} {row : Option Nat} (hg : w.grownBy w' row) (a : Addr) (hlt : a.block < w.heap.size) (hne : some a.block ≠ row) : w'.cell? a = w.cell? a :=
  World.cell?_of_block (hg.block a.block hlt hne)
theorem step_append_with {P : Program} {ops : Array Oper} {o : Oper} {a : Act} {w : World} {K : Act → World → Prop} {Q : Exit → Act → World → Prop} {E : Prop}
    (hg : o.guard = none) (s2 : Operand) (v2 : Value) (_ : a.eval s2 = v2) (s x : Operand) (t : TypeId) (hop : o.op = Op.call { callee := Callee.builtin Builtin.append, args := #[s, x], argTypes := #[t, t] })
    (base : Nat) (e : TypeId) (i : TypeInfo) (z : Value) (size bytes : Nat) (h1 : P.underlying t = some (.slice e)) (h2 : P.info? e = some i) (h3 : i.zero = some z) (h4 : i.size = size) (h5 : i.bytes = bytes) (h6 : z.cells.size = size) (h7 : 0 < size)
    (v : Value) (n : Nat) (xs : List Value) (hs : a.eval s = v) (hown : w.ownsRow base e size v n xs)
    (ad : Addr) (m c : Nat) (news : List Value) (hx : a.eval x = .slice (some ad) m c) (hn : news.length = m * size) (hc : ∀ j u, news[j]? = some u → w.cell? (ad.add j) = some u) (h1c : ∀ u ∈ news, u.oneCell' = true)
    (b1 : n + m ≤ maxLen) (b2 : (n + m) * bytes ≤ 140737488355328) (hbase : base ≤ w.heap.size)
    (hK : ∀ v' w', w'.ownsRow base e size v' (n + m) (xs ++ news) → w.grownBy w' v.ownBlock → K (a.put o.dst v') w') :
    if Region.wanted o (yielded ops a.tmps) = true then Oper.wp P o a w K Q else E :=
  step_append_own hg s x t hop base e i z size bytes h1 h2 h3 h4 h5 h6 h7 v n xs hs hown ad m c news hx hn hc h1c b1 b2 hbase hK
theorem strs_cell (ls : List ByteArray) : ∀ u ∈ ls.map Value.string, u.oneCell' = true := by
  intro u hu
  obtain ⟨s, _, rfl⟩ := List.mem_map.1 hu
  rfl
theorem src_cells {w W' : World} {rb ro : Nat} {ls : List ByteArray} (hc : ∀ i (h : i < ls.length), w.cell? ⟨rb, ro + i, none⟩ = some (.string ls[i])) (hb : Below w.heap.size w W') (j : Nat) (u : Value) (h : (ls.map Value.string)[j]? = some u) : W'.cell? ((⟨rb, ro, none⟩ : Addr).add j) = some u := by
  rw [List.getElem?_map] at h
  obtain ⟨s, hs, rfl⟩ := Option.map_eq_some_iff.1 h
  obtain ⟨hj, rfl⟩ := List.getElem?_eq_some_iff.1 hs
  have h1 := hc j hj
  have h2 : W'.cell? ⟨rb, ro + j, none⟩ = some (.string ls[j]) := (hb.cell (p := ⟨rb, _, none⟩) (World.block_lt_of_cell? w _ h1)).trans h1
  have e : (⟨rb, ro, none⟩ : Addr).add j = ⟨rb, ro + j, none⟩ := by unfold Addr.add; by_cases hj0 : j = 0 <;> simp [hj0]
  rw [e]; exact h2
theorem wrap_i (x : Int) (h0 : -1000 ≤ x) (h1 : x ≤ 8589934592) : IntKind.i64.wrap x = x := by
  rw [IntKind.wrap_i64]
  omega
theorem cell_new (W : World) (v : Value) (t : TypeId) (k : Nat) (h : k = W.heap.size) : (W.alloc (.cells #[v] t)).cell? ⟨k, 0, none⟩ = some v := by
  subst h; simp
theorem cell_old (W : World) (o : Obj) (k : Nat) (h : k < W.heap.size) : (W.alloc o).cell? ⟨k, 0, none⟩ = W.cell? ⟨k, 0, none⟩ := World.cell?_alloc_past o k 0 h
theorem heap_new (W : World) (o : Obj) (k : Nat) (h : k = W.heap.size) : (W.alloc o).heap[k]? = some o := by
  subst h; show (W.heap.push o)[W.heap.size]? = _; simp
theorem heap_old (W : World) (o : Obj) (k : Nat) (h : k < W.heap.size) : (W.alloc o).heap[k]? = W.heap[k]? := Below.heap_alloc W o k h
theorem own_empty (W : World) (base e g : Nat) (hg : base ≤ g) (h : W.heap[g]? = some (.cells #[] e (0, 0))) : W.ownsRow base e 1 (.slice (some ⟨g, 0, none⟩) 0 0) 0 [] :=
  ⟨rfl, .inr ⟨g, 0, #[], rfl, hg, h, Nat.le_refl _, by unfold maxLen; omega, rfl, rfl⟩⟩
theorem one_new {W : World} {ad : Addr} {v : Value} (h : W.cell? ad = some v) : ∀ j u, ([v] : List Value)[j]? = some u → W.cell? (ad.add j) = some u := by
  intro j u hj
  match j, hj with
  | 0, hj => simp at hj; subst hj; simpa [Addr.add] using h
theorem one_cell (s : ByteArray) : ∀ u ∈ [Value.string s], u.oneCell' = true := by
  intro u hu; simp at hu; subst hu; rfl
theorem boxed0 (w : World) (n : Nd) (t : TypeId) : NodeAt (w.alloc (.cells #[.int .i64 n.op, .string n.name, .string n.peer, .int .i64 n.many, .int .i64 n.sort] t)) w.heap.size 0 n := by
  simp [NodeAt]
theorem recs_talk {n : Nd} {st : List Nd} (h : n.op ≠ 2) : recsOf (n :: st) = recsOf st := by simp [recsOf, h]
end Go.Proofs.YtmjlblbhakppfaaGreatDoor
namespace Go.Proofs.YtmjlblbhakppfaaGreatDoor
open Go.RowKit

set_option maxHeartbeats 400000 in
theorem nil_step (f : Nat) (st : List Nd) (ao : Option Addr) (cap : Nat) (p : Value) (w : World) (B : Nat) (hp : PlaceAt w p st) :
    Calls Tryz.prog 80 #[.slice ao ([] : List Nd).length cap, p] w fun e w' => Told w' B e (ahead talkI f st []) ∧ Below w.heap.size w w' := by
  obtain ⟨u, rfl⟩ := hp.shape
  clear hp
  go_enter Tryz.func80, Tryz.ntmps80
  go_wp2_with fail
  go_ret2
  exact told_none (Below.refl _ _) (by cases f <;> rfl)

theorem plan_calls (f : Nat) : PlanCalls f := by
  induction f with
  | zero =>
    intro st l v p w B hlen ok hB hv hp
    obtain ⟨ao, cap, rfl, hc1, hc2, hr⟩ := hv
    cases l with
    | nil => exact nil_step 0 st ao cap p w B hp
    | cons n l1 =>
      obtain ⟨b, o, rfl, hbB, hrow⟩ := hr (by simp)
      by_cases h1 : cap = 1
      · by_cases o0 : n.op = 0
        · exact end_step_a 0 st n l1 p w B b o cap hlen ok hB hbB hc1 hc2 h1 hrow hp o0
        · by_cases o1 : n.op = 1
          · exact var_step_a 0 st n l1 p w B b o cap hlen ok hB hbB hc1 hc2 h1 hrow hp o1
          · by_cases o2 : n.op = 2
            · obtain ⟨op, name, peer, many, sort⟩ := n
              simp only at o2
              subst o2
              exact rec_step_a 0 (fun g h => absurd h (by omega)) st name peer many sort l1 p w B b o cap hlen ok hB hbB hc1 hc2 h1 hrow hp
            · by_cases o3 : n.op = 3
              · obtain ⟨op, name, peer, many, sort⟩ := n
                simp only at o3
                subst o3
                exact msg3_step_a 0 (fun g h => absurd h (by omega)) st name peer many sort l1 p w B b o cap hlen ok hB hbB hc1 hc2 h1 hrow hp
              · by_cases o5 : n.op = 5
                · obtain ⟨op, name, peer, many, sort⟩ := n
                  simp only at o5
                  subst o5
                  exact msg5_step_a 0 (fun g h => absurd h (by omega)) st name peer many sort l1 p w B b o cap hlen ok hB hbB hc1 hc2 h1 hrow hp
                · by_cases o6 : n.op = 6
                  · obtain ⟨op, name, peer, many, sort⟩ := n
                    simp only at o6
                    subst o6
                    exact msg6_step_a 0 (fun g h => absurd h (by omega)) st name peer many sort l1 p w B b o cap hlen ok hB hbB hc1 hc2 h1 hrow hp
                  · exact oth_step_a 0 st n l1 p w B b o cap hlen ok hB hbB hc1 hc2 h1 hrow hp ⟨o0, o1, o2, o3, o5, o6⟩
      · by_cases o0 : n.op = 0
        · exact end_step_b 0 st n l1 p w B b o cap hlen ok hB hbB hc1 hc2 h1 hrow hp o0
        · by_cases o1 : n.op = 1
          · exact var_step_b 0 st n l1 p w B b o cap hlen ok hB hbB hc1 hc2 h1 hrow hp o1
          · by_cases o2 : n.op = 2
            · obtain ⟨op, name, peer, many, sort⟩ := n
              simp only at o2
              subst o2
              exact rec_step_b 0 (fun g h => absurd h (by omega)) st name peer many sort l1 p w B b o cap hlen ok hB hbB hc1 hc2 h1 hrow hp
            · by_cases o3 : n.op = 3
              · obtain ⟨op, name, peer, many, sort⟩ := n
                simp only at o3
                subst o3
                exact msg3_step_b 0 (fun g h => absurd h (by omega)) st name peer many sort l1 p w B b o cap hlen ok hB hbB hc1 hc2 h1 hrow hp
              · by_cases o5 : n.op = 5
                · obtain ⟨op, name, peer, many, sort⟩ := n
                  simp only at o5
                  subst o5
                  exact msg5_step_b 0 (fun g h => absurd h (by omega)) st name peer many sort l1 p w B b o cap hlen ok hB hbB hc1 hc2 h1 hrow hp
                · by_cases o6 : n.op = 6
                  · obtain ⟨op, name, peer, many, sort⟩ := n
                    simp only at o6
                    subst o6
                    exact msg6_step_b 0 (fun g h => absurd h (by omega)) st name peer many sort l1 p w B b o cap hlen ok hB hbB hc1 hc2 h1 hrow hp
                  · exact oth_step_b 0 st n l1 p w B b o cap hlen ok hB hbB hc1 hc2 h1 hrow hp ⟨o0, o1, o2, o3, o5, o6⟩
  | succ f ih =>
    intro st l v p w B hlen ok hB hv hp
    obtain ⟨ao, cap, rfl, hc1, hc2, hr⟩ := hv
    cases l with
    | nil => exact nil_step (f + 1) st ao cap p w B hp
    | cons n l1 =>
      obtain ⟨b, o, rfl, hbB, hrow⟩ := hr (by simp)
      by_cases h1 : cap = 1
      · by_cases o0 : n.op = 0
        · exact end_step_a (f + 1) st n l1 p w B b o cap hlen ok hB hbB hc1 hc2 h1 hrow hp o0
        · by_cases o1 : n.op = 1
          · exact var_step_a (f + 1) st n l1 p w B b o cap hlen ok hB hbB hc1 hc2 h1 hrow hp o1
          · by_cases o2 : n.op = 2
            · obtain ⟨op, name, peer, many, sort⟩ := n
              simp only at o2
              subst o2
              exact rec_step_a (f + 1) (fun g h => by cases h; exact ih) st name peer many sort l1 p w B b o cap hlen ok hB hbB hc1 hc2 h1 hrow hp
            · by_cases o3 : n.op = 3
              · obtain ⟨op, name, peer, many, sort⟩ := n
                simp only at o3
                subst o3
                exact msg3_step_a (f + 1) (fun g h => by cases h; exact ih) st name peer many sort l1 p w B b o cap hlen ok hB hbB hc1 hc2 h1 hrow hp
              · by_cases o5 : n.op = 5
                · obtain ⟨op, name, peer, many, sort⟩ := n
                  simp only at o5
                  subst o5
                  exact msg5_step_a (f + 1) (fun g h => by cases h; exact ih) st name peer many sort l1 p w B b o cap hlen ok hB hbB hc1 hc2 h1 hrow hp
                · by_cases o6 : n.op = 6
                  · obtain ⟨op, name, peer, many, sort⟩ := n
                    simp only at o6
                    subst o6
                    exact msg6_step_a (f + 1) (fun g h => by cases h; exact ih) st name peer many sort l1 p w B b o cap hlen ok hB hbB hc1 hc2 h1 hrow hp
                  · exact oth_step_a (f + 1) st n l1 p w B b o cap hlen ok hB hbB hc1 hc2 h1 hrow hp ⟨o0, o1, o2, o3, o5, o6⟩
      · by_cases o0 : n.op = 0
        · exact end_step_b (f + 1) st n l1 p w B b o cap hlen ok hB hbB hc1 hc2 h1 hrow hp o0
        · by_cases o1 : n.op = 1
          · exact var_step_b (f + 1) st n l1 p w B b o cap hlen ok hB hbB hc1 hc2 h1 hrow hp o1
          · by_cases o2 : n.op = 2
            · obtain ⟨op, name, peer, many, sort⟩ := n
              simp only at o2
              subst o2
              exact rec_step_b (f + 1) (fun g h => by cases h; exact ih) st name peer many sort l1 p w B b o cap hlen ok hB hbB hc1 hc2 h1 hrow hp
            · by_cases o3 : n.op = 3
              · obtain ⟨op, name, peer, many, sort⟩ := n
                simp only at o3
                subst o3
                exact msg3_step_b (f + 1) (fun g h => by cases h; exact ih) st name peer many sort l1 p w B b o cap hlen ok hB hbB hc1 hc2 h1 hrow hp
              · by_cases o5 : n.op = 5
                · obtain ⟨op, name, peer, many, sort⟩ := n
                  simp only at o5
                  subst o5
                  exact msg5_step_b (f + 1) (fun g h => by cases h; exact ih) st name peer many sort l1 p w B b o cap hlen ok hB hbB hc1 hc2 h1 hrow hp
                · by_cases o6 : n.op = 6
                  · obtain ⟨op, name, peer, many, sort⟩ := n
                    simp only at o6
                    subst o6
                    exact msg6_step_b (f + 1) (fun g h => by cases h; exact ih) st name peer many sort l1 p w B b o cap hlen ok hB hbB hc1 hc2 h1 hrow hp
                  · exact oth_step_b (f + 1) st n l1 p w B b o cap hlen ok hB hbB hc1 hc2 h1 hrow hp ⟨o0, o1, o2, o3, o5, o6⟩
end Go.Proofs.YtmjlblbhakppfaaGreatDoor
namespace Go.Proofs.YtmjlblbhakppfaaGreatDoor
open Go.RowKit

set_option maxRecDepth 100000 in
set_option maxHeartbeats 1000000 in
theorem end_0 (part : Bool) (f : Nat) (st all : List Nd) (pos bx : Nat) (a d op : Int) (rv : Value) (w : World) (hlen : st.length + f = 10) (hst : StOk st) (ok : ∀ n ∈ all, n.ok) (ha : a = pos) (hpl : pos < all.length) (hd : d = (st.length + 1 : Nat)) (hop : op = openOf st) (hx : LookAt w bx part all) (hr : TextsAt w rv (recsOf st)) (hnil : recsOf st = [] → rv = .slice none 0 0) (name peer : ByteArray) (many sort : Int) (hn : all[pos] = ⟨0, name, peer, many, sort⟩) :
    Calls Tryz.prog 82 #[.pointer (some ⟨bx, 0, none⟩), .int .i64 a, .int .i64 d, rv, .int .i64 op] w fun e w' => e = .returned (.int .i64 (endPos all (ahead (talkS part) f st (all.drop pos)))) ∧ Below w.heap.size w w' := by
  have HX := hide hx
  have HR := hide hr
  have HO := hide ok
  have HL := hide hlen
  have HST := hide hst
  have HNIL := hide hnil
  obtain ⟨i0, hi, hz0, hz1, hz2⟩ := info_parts Tryz.infoS
  have HI := hide (And.intro hi (And.intro hz0 (And.intro hz1 hz2)))
  obtain ⟨rao, rcap, rfl, rc1, rc2, -⟩ := hr
  subst ha hd hop
  obtain ⟨xao, xcap, x0, x1, x2, x3, x4⟩ := hx
  obtain ⟨b, o, rfl, hrow⟩ := x4 (by intro h; simp [h] at hpl)
  have hnode := hrow.get pos hpl
  have HDROP := hide (show all.drop pos = ⟨0, name, peer, many, sort⟩ :: all.drop (pos + 1) by rw [← hn]; exact drop_cons hpl)
  have HN1 := hide (show Nd.ok ⟨0, name, peer, many, sort⟩ by rw [← hn]; exact HO.out _ (List.getElem_mem hpl))
  have HPN := hide (pos_next hpl)
  rw [hn] at hnode
  obtain ⟨c0, c1, c2, c3, c4⟩ := hnode
  dsimp only at c0 c1 c2 c3 c4
  have hbw : b < w.heap.size := World.block_lt_of_cell? w _ c0
  have hbx : bx < w.heap.size := World.block_lt_of_cell? w _ x0
  have HXA : Hid (∀ ob, (w.alloc ob).cell? ⟨bx, 1, none⟩ = some (.bool part)) := hide (fun ob => ((alloc1 w ob).cell (p := ⟨bx, 1, none⟩) hbx).trans x1)
  have hp2 : decide ((all.length : Int) ≤ (pos : Int)) = false := decide_eq_false (by omega)
  have hdl : st.length ≤ 10 := by omega
  have HOL := hide (open_le st)
  have ho2 : openOf st ≤ (recsOf st).length := open_le st
  have hrl : (recsOf st).length ≤ 10 := by have := recs_len st; omega
  clear hrow hn ok hlen hst x4 hi hz0 hz1 hz2 hnil
  by_cases q1 : peer.toList = []
  · by_cases q2 : many = 0
    · by_cases q3 : sort = 0
      · skip
        by_cases q4 : name.toList = []
        · go_enter Tryz.func82, Tryz.ntmps82
          go_wp2_with fail
          go_ret
          refine ⟨ret_int ?_, (by repeat (first | exact alloc1 _ _ | exact Below.refl _ _ | refine Below.drew ?_))⟩
          rw [HDROP.out, ahead_0 rfl, if_pos (by simp [endB, *])]
          exact HPN.out
        · go_enter Tryz.func82, Tryz.ntmps82
          go_wp2_with fail
          all_goals
            go_ret
            refine ⟨ret_int ?_, (by repeat (first | exact alloc1 _ _ | exact Below.refl _ _ | refine Below.drew ?_))⟩
            rw [HDROP.out, ahead_0 rfl]
            first
              | (rw [if_neg (by simp [endB, *])]; rfl)
              | (rw [if_pos (by simp [endB, *])]; exact HPN.out)
      · have q3' : (sort == 0) = false := beq_eq_false_iff_ne.2 q3
        go_enter Tryz.func82, Tryz.ntmps82
        go_wp2_with fail
        go_ret
        refine ⟨ret_int ?_, (by repeat (first | exact alloc1 _ _ | exact Below.refl _ _ | refine Below.drew ?_))⟩
        rw [HDROP.out, ahead_0 rfl, if_neg (by simp [endB, *])]
        rfl
    · have q2' : (many == 0) = false := beq_eq_false_iff_ne.2 q2
      go_enter Tryz.func82, Tryz.ntmps82
      go_wp2_with fail
      go_ret
      refine ⟨ret_int ?_, (by repeat (first | exact alloc1 _ _ | exact Below.refl _ _ | refine Below.drew ?_))⟩
      rw [HDROP.out, ahead_0 rfl, if_neg (by simp [endB, *])]
      rfl
  · have q1' : (peer.toList == []) = false := beq_eq_false_iff_ne.2 q1
    go_enter Tryz.func82, Tryz.ntmps82
    go_wp2_with fail
    go_ret
    refine ⟨ret_int ?_, (by repeat (first | exact alloc1 _ _ | exact Below.refl _ _ | refine Below.drew ?_))⟩
    rw [HDROP.out, ahead_0 rfl, if_neg (by simp [endB, *])]
    rfl
end Go.Proofs.YtmjlblbhakppfaaGreatDoor
namespace Go.Proofs.YtmjlblbhakppfaaGreatDoor
open Go.RowKit

set_option maxRecDepth 100000 in
set_option maxHeartbeats 1000000 in
theorem end_1 (part : Bool) (f : Nat) (st all : List Nd) (pos bx : Nat) (a d op : Int) (rv : Value) (w : World) (hlen : st.length + f = 10) (hst : StOk st) (ok : ∀ n ∈ all, n.ok) (ha : a = pos) (hpl : pos < all.length) (hd : d = (st.length + 1 : Nat)) (hop : op = openOf st) (hx : LookAt w bx part all) (hr : TextsAt w rv (recsOf st)) (hnil : recsOf st = [] → rv = .slice none 0 0) (name peer : ByteArray) (many sort : Int) (hn : all[pos] = ⟨1, name, peer, many, sort⟩) :
    Calls Tryz.prog 82 #[.pointer (some ⟨bx, 0, none⟩), .int .i64 a, .int .i64 d, rv, .int .i64 op] w fun e w' => e = .returned (.int .i64 (endPos all (ahead (talkS part) f st (all.drop pos)))) ∧ Below w.heap.size w w' := by
  have HX := hide hx
  have HR := hide hr
  have HO := hide ok
  have HL := hide hlen
  have HST := hide hst
  have HNIL := hide hnil
  obtain ⟨i0, hi, hz0, hz1, hz2⟩ := info_parts Tryz.infoS
  have HI := hide (And.intro hi (And.intro hz0 (And.intro hz1 hz2)))
  obtain ⟨rao, rcap, rfl, rc1, rc2, -⟩ := hr
  subst ha hd hop
  obtain ⟨xao, xcap, x0, x1, x2, x3, x4⟩ := hx
  obtain ⟨b, o, rfl, hrow⟩ := x4 (by intro h; simp [h] at hpl)
  have hnode := hrow.get pos hpl
  have HDROP := hide (show all.drop pos = ⟨1, name, peer, many, sort⟩ :: all.drop (pos + 1) by rw [← hn]; exact drop_cons hpl)
  have HN1 := hide (show Nd.ok ⟨1, name, peer, many, sort⟩ by rw [← hn]; exact HO.out _ (List.getElem_mem hpl))
  have HPN := hide (pos_next hpl)
  rw [hn] at hnode
  obtain ⟨c0, c1, c2, c3, c4⟩ := hnode
  dsimp only at c0 c1 c2 c3 c4
  have hbw : b < w.heap.size := World.block_lt_of_cell? w _ c0
  have hbx : bx < w.heap.size := World.block_lt_of_cell? w _ x0
  have HXA : Hid (∀ ob, (w.alloc ob).cell? ⟨bx, 1, none⟩ = some (.bool part)) := hide (fun ob => ((alloc1 w ob).cell (p := ⟨bx, 1, none⟩) hbx).trans x1)
  have hp2 : decide ((all.length : Int) ≤ (pos : Int)) = false := decide_eq_false (by omega)
  have hdl : st.length ≤ 10 := by omega
  have HOL := hide (open_le st)
  have ho2 : openOf st ≤ (recsOf st).length := open_le st
  have hrl : (recsOf st).length ≤ 10 := by have := recs_len st; omega
  clear hrow hn ok hlen hst x4 hi hz0 hz1 hz2 hnil
  have HBK := hide (back_false st name HST.out)
  have HTK : Hid (TextsAt w (.slice rao (openOf st) rcap) ((recsOf st).take (openOf st))) := hide (HR.out.take HOL.out)
  obtain ⟨am, ham⟩ : ∃ am, hasB ((recsOf st).take (openOf st)) name = am := ⟨_, rfl⟩
  have HAM := hide ham
  have hro : openOf st ≤ rcap := Nat.le_trans ho2 rc1
  clear ham
  by_cases q1 : peer.toList = []
  · by_cases q2 : many = 0
    · by_cases q3 : sort = 0
      · skip
        cases am
        · go_enter Tryz.func82, Tryz.ntmps82
          go_wp2_with fail
          go_region_with (go_at_call 53; refine (s_among ((recsOf st).take (openOf st)) name _ _ (HTK.out.carry (by repeat (first | exact alloc1 _ _ | exact Below.refl _ _ | refine Below.drew ?_)))).mono ?_; rintro e w1 ⟨rfl, rfl⟩; rw [HAM.out])
          go_wp2_with fail
          go_ret
          refine ⟨ret_int ?_, (by repeat (first | exact alloc1 _ _ | exact Below.refl _ _ | refine Below.drew ?_))⟩
          rw [HDROP.out, ahead_1 rfl, if_neg (by rw [HBK.out, HAM.out]; simp)]
          rfl
        · go_enter Tryz.func82, Tryz.ntmps82
          go_wp2_with fail
          go_region_with (go_at_call 53; refine (s_among ((recsOf st).take (openOf st)) name _ _ (HTK.out.carry (by repeat (first | exact alloc1 _ _ | exact Below.refl _ _ | refine Below.drew ?_)))).mono ?_; rintro e w1 ⟨rfl, rfl⟩; rw [HAM.out])
          go_wp2_with fail
          go_ret
          refine ⟨ret_int ?_, (by repeat (first | exact alloc1 _ _ | exact Below.refl _ _ | refine Below.drew ?_))⟩
          rw [HDROP.out, ahead_1 rfl, if_pos (by rw [HBK.out, HAM.out]; simp [varB, *])]
          exact HPN.out
      · have q3' : (sort == 0) = false := beq_eq_false_iff_ne.2 q3
        go_enter Tryz.func82, Tryz.ntmps82
        go_wp2_with fail
        go_region
        go_wp2_with fail
        go_ret
        refine ⟨ret_int ?_, (by repeat (first | exact alloc1 _ _ | exact Below.refl _ _ | refine Below.drew ?_))⟩
        rw [HDROP.out, ahead_1 rfl, if_neg (by simp [varB, *])]
        rfl
    · have q2' : (many == 0) = false := beq_eq_false_iff_ne.2 q2
      go_enter Tryz.func82, Tryz.ntmps82
      go_wp2_with fail
      go_region
      go_wp2_with fail
      go_ret
      refine ⟨ret_int ?_, (by repeat (first | exact alloc1 _ _ | exact Below.refl _ _ | refine Below.drew ?_))⟩
      rw [HDROP.out, ahead_1 rfl, if_neg (by simp [varB, *])]
      rfl
  · have q1' : (peer.toList == []) = false := beq_eq_false_iff_ne.2 q1
    go_enter Tryz.func82, Tryz.ntmps82
    go_wp2_with fail
    go_region
    go_wp2_with fail
    go_ret
    refine ⟨ret_int ?_, (by repeat (first | exact alloc1 _ _ | exact Below.refl _ _ | refine Below.drew ?_))⟩
    rw [HDROP.out, ahead_1 rfl, if_neg (by simp [varB, *])]
    rfl
end Go.Proofs.YtmjlblbhakppfaaGreatDoor
namespace Go.Proofs.YtmjlblbhakppfaaGreatDoor
open Go.RowKit

set_option maxRecDepth 100000 in
set_option maxHeartbeats 1000000 in
theorem end_2n (part : Bool) (f : Nat) (st all : List Nd) (pos bx : Nat) (a d op : Int) (rv : Value) (w : World) (hlen : st.length + (f + 1) = 10) (hst : StOk st) (ok : ∀ n ∈ all, n.ok) (ha : a = pos) (hpl : pos < all.length) (hd : d = (st.length + 1 : Nat)) (hop : op = openOf st) (hx : LookAt w bx part all) (hr : TextsAt w rv (recsOf st)) (hnil : recsOf st = [] → rv = .slice none 0 0) (name peer : ByteArray) (many sort : Int) (hih : EndCalls part f) (hyes : (recB ⟨2, name, peer, many, sort⟩ && !withinB st name) = true) (hrn : recsOf st = []) (hn : all[pos] = ⟨2, name, peer, many, sort⟩) :
    Calls Tryz.prog 82 #[.pointer (some ⟨bx, 0, none⟩), .int .i64 a, .int .i64 d, rv, .int .i64 op] w fun e w' => e = .returned (.int .i64 (endPos all (ahead (talkS part) (f + 1) st (all.drop pos)))) ∧ Below w.heap.size w w' := by
  have HX := hide hx
  have HR := hide hr
  have HO := hide ok
  have HL := hide hlen
  have HST := hide hst
  have HNIL := hide hnil
  obtain ⟨i0, hi, hz0, hz1, hz2⟩ := info_parts Tryz.infoS
  have HI := hide (And.intro hi (And.intro hz0 (And.intro hz1 hz2)))
  obtain ⟨rao, rcap, rfl, rc1, rc2, -⟩ := hr
  subst ha hd hop
  obtain ⟨xao, xcap, x0, x1, x2, x3, x4⟩ := hx
  obtain ⟨b, o, rfl, hrow⟩ := x4 (by intro h; simp [h] at hpl)
  have hnode := hrow.get pos hpl
  have HDROP := hide (show all.drop pos = ⟨2, name, peer, many, sort⟩ :: all.drop (pos + 1) by rw [← hn]; exact drop_cons hpl)
  have HN1 := hide (show Nd.ok ⟨2, name, peer, many, sort⟩ by rw [← hn]; exact HO.out _ (List.getElem_mem hpl))
  have HPN := hide (pos_next hpl)
  rw [hn] at hnode
  obtain ⟨c0, c1, c2, c3, c4⟩ := hnode
  dsimp only at c0 c1 c2 c3 c4
  have hbw : b < w.heap.size := World.block_lt_of_cell? w _ c0
  have hbx : bx < w.heap.size := World.block_lt_of_cell? w _ x0
  have HXA : Hid (∀ ob, (w.alloc ob).cell? ⟨bx, 1, none⟩ = some (.bool part)) := hide (fun ob => ((alloc1 w ob).cell (p := ⟨bx, 1, none⟩) hbx).trans x1)
  have hp2 : decide ((all.length : Int) ≤ (pos : Int)) = false := decide_eq_false (by omega)
  have hdl : st.length ≤ 10 := by omega
  have HOL := hide (open_le st)
  have ho2 : openOf st ≤ (recsOf st).length := open_le st
  have hrl : (recsOf st).length ≤ 10 := by have := recs_len st; omega
  clear hrow hn ok hlen hst x4 hi hz0 hz1 hz2 hnil
  have HF := hide hih
  have HWI := hide (within_eq st name)
  have HRE := hide (show recsOf (⟨2, name, peer, many, sort⟩ :: st) = recsOf st ++ [name] from rfl)
  have HYES := hide hyes
  have HWO : Hid (wordB name = true) := hide (by have := HYES.out; simp [recB] at this; exact this.1.2)
  have HAM : Hid (hasB (recsOf st) name = false) := hide (by have := HYES.out; rw [HWI.out] at this; simp at this; exact this.2)
  have q123 : peer.toList = [] ∧ many = 0 ∧ sort = 0 := by have := HYES.out; simp [recB] at this; exact ⟨this.1.1.1.1, this.1.1.1.2, this.1.1.2⟩
  obtain ⟨q1, q2, q3⟩ := q123
  have HSK : Hid (StOk (⟨2, name, peer, many, sort⟩ :: st)) := hide ⟨.inr ⟨rfl, HAM.out⟩, HST.out⟩
  have HSL : Hid ((⟨2, name, peer, many, sort⟩ :: st).length + f = 10) := hide (by have := HL.out; simp; omega)
  have hd2 : decide ((st.length : Int) + 1 ≤ 10) = true := decide_eq_true (by have := HL.out; omega)
  clear hih hyes
  have HRN := hide hrn
  have HRV := hide (HNIL.out hrn)
  obtain ⟨hr1, hr2, hr3⟩ : rao = none ∧ (recsOf st).length = 0 ∧ rcap = 0 := by have := HRV.out; simpa using this
  subst hr1 hr3
  have HL0 := hide hr2
  clear hr2 hrn
  go_enter Tryz.func82, Tryz.ntmps82
  go_wp2_with (first | (go_at_call 118; refine (s_name name _ HN1.out.1).mono ?_; rintro e w1 ⟨rfl, rfl⟩; rw [HWO.out]) | (go_at_call 53; refine (s_among (recsOf st) name _ _ (HR.out.carry (by repeat (first | exact alloc1 _ _ | exact Below.refl _ _ | refine Below.drew ?_)))).mono ?_; rintro e w1 ⟨rfl, rfl⟩; rw [HAM.out]))
  go_region_law (first | (refine step_append_none rfl (.tmp 105) (.tmp 106) 30 rfl w.heap.size 9 i0 1 Tryz.underlying30 HI.out.1 (.slice (some ⟨w.heap.size + 1, 0, none⟩) 0 0) 0 [] rfl (own_empty _ _ _ (w.heap.size + 1) (by omega) (by first | exact heap_new _ _ _ (by simp) | exact (heap_old _ _ _ (by simp)).trans (heap_new _ _ _ (by simp)))) (by simp [Act.eval, HL0.out]) ?_) | (refine step_append_none rfl (.tmp 105) (.tmp 106) 30 rfl w.heap.size 9 i0 1 Tryz.underlying30 HI.out.1 (.slice (some ⟨w.heap.size + 1 + 1, 0, none⟩) 0 0) 0 [] rfl (own_empty _ _ _ (w.heap.size + 1 + 1) (by omega) (by first | exact heap_new _ _ _ (by simp) | exact (heap_old _ _ _ (by simp)).trans (heap_new _ _ _ (by simp)))) (by simp [Act.eval, HL0.out]) ?_) | (refine step_append_none rfl (.tmp 105) (.tmp 106) 30 rfl w.heap.size 9 i0 1 Tryz.underlying30 HI.out.1 (.slice (some ⟨w.heap.size + 2, 0, none⟩) 0 0) 0 [] rfl (own_empty _ _ _ (w.heap.size + 2) (by omega) (by first | exact heap_new _ _ _ (by simp) | exact (heap_old _ _ _ (by simp)).trans (heap_new _ _ _ (by simp)))) (by simp [Act.eval, HL0.out]) ?_) | (refine step_append_own rfl (.tmp 107) (.tmp 110) 30 rfl w.heap.size 9 i0 (.string ByteArray.empty) 1 16 Tryz.underlying30 HI.out.1 HI.out.2.1 HI.out.2.2.1 HI.out.2.2.2 rfl (by decide) (.slice (some ⟨w.heap.size + 1, 0, none⟩) 0 0) 0 [] rfl (own_empty _ _ _ (w.heap.size + 1) (by omega) (by first | exact heap_new _ _ _ (by simp) | exact (heap_old _ _ _ (by simp)).trans (heap_new _ _ _ (by simp)))) ⟨w.heap.size + 1 + 1, 0, none⟩ 1 1 [.string name] rfl rfl (one_new (by first | exact cell_new _ _ _ _ (by simp) | exact (cell_old _ _ _ (by simp)).trans (cell_new _ _ _ _ (by simp)))) (one_cell _) (by unfold maxLen; omega) (by omega) (by first | omega | (simp; done) | (simp; omega)) ?_; intro v2 w2 hown2 hgrow2; have HTX2 : Hid (TextsAt w2 v2 (recsOf st ++ [name])) := hide (by rw [HRN.out]; exact texts_own (ls := [] ++ [name]) hown2 (by simp)); have HBW2 : Hid (Below w.heap.size w w2) := hide (Below.grown (by repeat (first | exact Below.refl _ _ | exact alloc1 _ _ | exact HBW1.out | refine Below.drew ?_ | refine Below.alloc ?_ (by first | omega | (simp; done) | (simp; omega)) _)) hgrow2 (by first | omega | (simp; done) | (simp; omega)) (by intro k hk; simp [Value.ownBlock] at hk; omega)); clear hown2 hgrow2) | (refine step_append_own rfl (.tmp 107) (.tmp 110) 30 rfl w.heap.size 9 i0 (.string ByteArray.empty) 1 16 Tryz.underlying30 HI.out.1 HI.out.2.1 HI.out.2.2.1 HI.out.2.2.2 rfl (by decide) (.slice (some ⟨w.heap.size + 1, 0, none⟩) 0 0) 0 [] rfl (own_empty _ _ _ (w.heap.size + 1) (by omega) (by first | exact heap_new _ _ _ (by simp) | exact (heap_old _ _ _ (by simp)).trans (heap_new _ _ _ (by simp)))) ⟨w.heap.size + 2, 0, none⟩ 1 1 [.string name] rfl rfl (one_new (by first | exact cell_new _ _ _ _ (by simp) | exact (cell_old _ _ _ (by simp)).trans (cell_new _ _ _ _ (by simp)))) (one_cell _) (by unfold maxLen; omega) (by omega) (by first | omega | (simp; done) | (simp; omega)) ?_; intro v2 w2 hown2 hgrow2; have HTX2 : Hid (TextsAt w2 v2 (recsOf st ++ [name])) := hide (by rw [HRN.out]; exact texts_own (ls := [] ++ [name]) hown2 (by simp)); have HBW2 : Hid (Below w.heap.size w w2) := hide (Below.grown (by repeat (first | exact Below.refl _ _ | exact alloc1 _ _ | exact HBW1.out | refine Below.drew ?_ | refine Below.alloc ?_ (by first | omega | (simp; done) | (simp; omega)) _)) hgrow2 (by first | omega | (simp; done) | (simp; omega)) (by intro k hk; simp [Value.ownBlock] at hk; omega)); clear hown2 hgrow2) | (refine step_append_own rfl (.tmp 107) (.tmp 110) 30 rfl w.heap.size 9 i0 (.string ByteArray.empty) 1 16 Tryz.underlying30 HI.out.1 HI.out.2.1 HI.out.2.2.1 HI.out.2.2.2 rfl (by decide) (.slice (some ⟨w.heap.size + 1 + 1, 0, none⟩) 0 0) 0 [] rfl (own_empty _ _ _ (w.heap.size + 1 + 1) (by omega) (by first | exact heap_new _ _ _ (by simp) | exact (heap_old _ _ _ (by simp)).trans (heap_new _ _ _ (by simp)))) ⟨w.heap.size + 1, 0, none⟩ 1 1 [.string name] rfl rfl (one_new (by first | exact cell_new _ _ _ _ (by simp) | exact (cell_old _ _ _ (by simp)).trans (cell_new _ _ _ _ (by simp)))) (one_cell _) (by unfold maxLen; omega) (by omega) (by first | omega | (simp; done) | (simp; omega)) ?_; intro v2 w2 hown2 hgrow2; have HTX2 : Hid (TextsAt w2 v2 (recsOf st ++ [name])) := hide (by rw [HRN.out]; exact texts_own (ls := [] ++ [name]) hown2 (by simp)); have HBW2 : Hid (Below w.heap.size w w2) := hide (Below.grown (by repeat (first | exact Below.refl _ _ | exact alloc1 _ _ | exact HBW1.out | refine Below.drew ?_ | refine Below.alloc ?_ (by first | omega | (simp; done) | (simp; omega)) _)) hgrow2 (by first | omega | (simp; done) | (simp; omega)) (by intro k hk; simp [Value.ownBlock] at hk; omega)); clear hown2 hgrow2) | (refine step_append_own rfl (.tmp 107) (.tmp 110) 30 rfl w.heap.size 9 i0 (.string ByteArray.empty) 1 16 Tryz.underlying30 HI.out.1 HI.out.2.1 HI.out.2.2.1 HI.out.2.2.2 rfl (by decide) (.slice (some ⟨w.heap.size + 2, 0, none⟩) 0 0) 0 [] rfl (own_empty _ _ _ (w.heap.size + 2) (by omega) (by first | exact heap_new _ _ _ (by simp) | exact (heap_old _ _ _ (by simp)).trans (heap_new _ _ _ (by simp)))) ⟨w.heap.size + 1, 0, none⟩ 1 1 [.string name] rfl rfl (one_new (by first | exact cell_new _ _ _ _ (by simp) | exact (cell_old _ _ _ (by simp)).trans (cell_new _ _ _ _ (by simp)))) (one_cell _) (by unfold maxLen; omega) (by omega) (by first | omega | (simp; done) | (simp; omega)) ?_; intro v2 w2 hown2 hgrow2; have HTX2 : Hid (TextsAt w2 v2 (recsOf st ++ [name])) := hide (by rw [HRN.out]; exact texts_own (ls := [] ++ [name]) hown2 (by simp)); have HBW2 : Hid (Below w.heap.size w w2) := hide (Below.grown (by repeat (first | exact Below.refl _ _ | exact alloc1 _ _ | exact HBW1.out | refine Below.drew ?_ | refine Below.alloc ?_ (by first | omega | (simp; done) | (simp; omega)) _)) hgrow2 (by first | omega | (simp; done) | (simp; omega)) (by intro k hk; simp [Value.ownBlock] at hk; omega)); clear hown2 hgrow2) | (go_simp; go_at_call 82; refine (HF.out (⟨2, name, peer, many, sort⟩ :: st) all (pos + 1) bx _ _ _ _ _ HSL.out HSK.out HO.out (by rw [wrap_i _ (by omega) (by omega)]; omega) (by omega) (by rw [wrap_i _ (by omega) (by omega)]; simp) rfl (HX.out.carry HBW2.out) (by rw [HRE.out]; exact HTX2.out) (by rw [HRE.out]; intro h; simp at h)).mono ?_; rintro e w3 ⟨rfl, hb3⟩; have HB3 := hide hb3; clear hb3))
  go_wp2_with fail
  all_goals
    go_ret
    refine ⟨ret_int ?_, HBW2.out.trans (HB3.out.mono HBW2.out.size)⟩
    rw [HDROP.out, ahead_2 rfl, if_pos HYES.out]
    simp only [q2, q3]
end Go.Proofs.YtmjlblbhakppfaaGreatDoor
