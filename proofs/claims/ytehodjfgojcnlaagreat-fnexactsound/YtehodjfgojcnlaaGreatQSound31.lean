/- rowAhead: at every row of Nodes and place. -/
import Derived.Test.YtehodjfgojcnlaaGreatQSound28
import Derived.Test.YtehodjfgojcnlaaGreatQSound29
import Derived.Test.YtehodjfgojcnlaaGreatQSound30
import Derived.Test.YtehodjfgojcnlaaGreatQSound05
namespace Go.Proofs.YtehodjfgojcnlaaGreat
open Go.RowKit

set_option maxHeartbeats 400000 in
theorem nil_step (f : Nat) (st : List Nd) (ao : Option Addr) (cap : Nat) (p : Value) (w : World) (B : Nat) (hp : PlaceAt w p st) :
    Calls Tryz.prog 35 #[.slice ao ([] : List Nd).length cap, p] w fun e w' => Told w' B e (ahead talkI f st []) ∧ Below w.heap.size w w' := by
  obtain ⟨u, rfl⟩ := hp.shape
  clear hp
  go_enter Tryz.func35, Tryz.ntmps35
  go_wp2_with fail
  go_ret2
  exact told_none (Below.refl _ _) (by cases f <;> rfl)

theorem plan_calls (f : Nat) : PlanCalls f := by
  induction f with
  | zero =>
    intro st l v p w B hlen ok hB hv hp
    obtain ⟨ao, cap, rfl, hc1, hc2, hr⟩ := hv
    cases l with
    | nil => exact nil_step 0 st ao cap p w B hp
    | cons n l1 =>
      obtain ⟨b, o, rfl, hbB, hrow⟩ := hr (by simp)
      by_cases h1 : cap = 1
      · by_cases o0 : n.op = 0
        · exact end_step_a 0 st n l1 p w B b o cap hlen ok hB hbB hc1 hc2 h1 hrow hp o0
        · by_cases o1 : n.op = 1
          · exact var_step_a 0 st n l1 p w B b o cap hlen ok hB hbB hc1 hc2 h1 hrow hp o1
          · by_cases o2 : n.op = 2
            · obtain ⟨op, name, peer, many, sort⟩ := n
              simp only at o2
              subst o2
              exact rec_step_a 0 (fun g h => absurd h (by omega)) st name peer many sort l1 p w B b o cap hlen ok hB hbB hc1 hc2 h1 hrow hp
            · by_cases o3 : n.op = 3
              · obtain ⟨op, name, peer, many, sort⟩ := n
                simp only at o3
                subst o3
                exact msg3_step_a 0 (fun g h => absurd h (by omega)) st name peer many sort l1 p w B b o cap hlen ok hB hbB hc1 hc2 h1 hrow hp
              · by_cases o5 : n.op = 5
                · obtain ⟨op, name, peer, many, sort⟩ := n
                  simp only at o5
                  subst o5
                  exact msg5_step_a 0 (fun g h => absurd h (by omega)) st name peer many sort l1 p w B b o cap hlen ok hB hbB hc1 hc2 h1 hrow hp
                · by_cases o6 : n.op = 6
                  · obtain ⟨op, name, peer, many, sort⟩ := n
                    simp only at o6
                    subst o6
                    exact msg6_step_a 0 (fun g h => absurd h (by omega)) st name peer many sort l1 p w B b o cap hlen ok hB hbB hc1 hc2 h1 hrow hp
                  · exact oth_step_a 0 st n l1 p w B b o cap hlen ok hB hbB hc1 hc2 h1 hrow hp ⟨o0, o1, o2, o3, o5, o6⟩
      · by_cases o0 : n.op = 0
        · exact end_step_b 0 st n l1 p w B b o cap hlen ok hB hbB hc1 hc2 h1 hrow hp o0
        · by_cases o1 : n.op = 1
          · exact var_step_b 0 st n l1 p w B b o cap hlen ok hB hbB hc1 hc2 h1 hrow hp o1
          · by_cases o2 : n.op = 2
            · obtain ⟨op, name, peer, many, sort⟩ := n
              simp only at o2
              subst o2
              exact rec_step_b 0 (fun g h => absurd h (by omega)) st name peer many sort l1 p w B b o cap hlen ok hB hbB hc1 hc2 h1 hrow hp
            · by_cases o3 : n.op = 3
              · obtain ⟨op, name, peer, many, sort⟩ := n
                simp only at o3
                subst o3
                exact msg3_step_b 0 (fun g h => absurd h (by omega)) st name peer many sort l1 p w B b o cap hlen ok hB hbB hc1 hc2 h1 hrow hp
              · by_cases o5 : n.op = 5
                · obtain ⟨op, name, peer, many, sort⟩ := n
                  simp only at o5
                  subst o5
                  exact msg5_step_b 0 (fun g h => absurd h (by omega)) st name peer many sort l1 p w B b o cap hlen ok hB hbB hc1 hc2 h1 hrow hp
                · by_cases o6 : n.op = 6
                  · obtain ⟨op, name, peer, many, sort⟩ := n
                    simp only at o6
                    subst o6
                    exact msg6_step_b 0 (fun g h => absurd h (by omega)) st name peer many sort l1 p w B b o cap hlen ok hB hbB hc1 hc2 h1 hrow hp
                  · exact oth_step_b 0 st n l1 p w B b o cap hlen ok hB hbB hc1 hc2 h1 hrow hp ⟨o0, o1, o2, o3, o5, o6⟩
  | succ f ih =>
    intro st l v p w B hlen ok hB hv hp
    obtain ⟨ao, cap, rfl, hc1, hc2, hr⟩ := hv
    cases l with
    | nil => exact nil_step (f + 1) st ao cap p w B hp
    | cons n l1 =>
      obtain ⟨b, o, rfl, hbB, hrow⟩ := hr (by simp)
      by_cases h1 : cap = 1
      · by_cases o0 : n.op = 0
        · exact end_step_a (f + 1) st n l1 p w B b o cap hlen ok hB hbB hc1 hc2 h1 hrow hp o0
        · by_cases o1 : n.op = 1
          · exact var_step_a (f + 1) st n l1 p w B b o cap hlen ok hB hbB hc1 hc2 h1 hrow hp o1
          · by_cases o2 : n.op = 2
            · obtain ⟨op, name, peer, many, sort⟩ := n
              simp only at o2
              subst o2
              exact rec_step_a (f + 1) (fun g h => by cases h; exact ih) st name peer many sort l1 p w B b o cap hlen ok hB hbB hc1 hc2 h1 hrow hp
            · by_cases o3 : n.op = 3
              · obtain ⟨op, name, peer, many, sort⟩ := n
                simp only at o3
                subst o3
                exact msg3_step_a (f + 1) (fun g h => by cases h; exact ih) st name peer many sort l1 p w B b o cap hlen ok hB hbB hc1 hc2 h1 hrow hp
              · by_cases o5 : n.op = 5
                · obtain ⟨op, name, peer, many, sort⟩ := n
                  simp only at o5
                  subst o5
                  exact msg5_step_a (f + 1) (fun g h => by cases h; exact ih) st name peer many sort l1 p w B b o cap hlen ok hB hbB hc1 hc2 h1 hrow hp
                · by_cases o6 : n.op = 6
                  · obtain ⟨op, name, peer, many, sort⟩ := n
                    simp only at o6
                    subst o6
                    exact msg6_step_a (f + 1) (fun g h => by cases h; exact ih) st name peer many sort l1 p w B b o cap hlen ok hB hbB hc1 hc2 h1 hrow hp
                  · exact oth_step_a (f + 1) st n l1 p w B b o cap hlen ok hB hbB hc1 hc2 h1 hrow hp ⟨o0, o1, o2, o3, o5, o6⟩
      · by_cases o0 : n.op = 0
        · exact end_step_b (f + 1) st n l1 p w B b o cap hlen ok hB hbB hc1 hc2 h1 hrow hp o0
        · by_cases o1 : n.op = 1
          · exact var_step_b (f + 1) st n l1 p w B b o cap hlen ok hB hbB hc1 hc2 h1 hrow hp o1
          · by_cases o2 : n.op = 2
            · obtain ⟨op, name, peer, many, sort⟩ := n
              simp only at o2
              subst o2
              exact rec_step_b (f + 1) (fun g h => by cases h; exact ih) st name peer many sort l1 p w B b o cap hlen ok hB hbB hc1 hc2 h1 hrow hp
            · by_cases o3 : n.op = 3
              · obtain ⟨op, name, peer, many, sort⟩ := n
                simp only at o3
                subst o3
                exact msg3_step_b (f + 1) (fun g h => by cases h; exact ih) st name peer many sort l1 p w B b o cap hlen ok hB hbB hc1 hc2 h1 hrow hp
              · by_cases o5 : n.op = 5
                · obtain ⟨op, name, peer, many, sort⟩ := n
                  simp only at o5
                  subst o5
                  exact msg5_step_b (f + 1) (fun g h => by cases h; exact ih) st name peer many sort l1 p w B b o cap hlen ok hB hbB hc1 hc2 h1 hrow hp
                · by_cases o6 : n.op = 6
                  · obtain ⟨op, name, peer, many, sort⟩ := n
                    simp only at o6
                    subst o6
                    exact msg6_step_b (f + 1) (fun g h => by cases h; exact ih) st name peer many sort l1 p w B b o cap hlen ok hB hbB hc1 hc2 h1 hrow hp
                  · exact oth_step_b (f + 1) st n l1 p w B b o cap hlen ok hB hbB hc1 hc2 h1 hrow hp ⟨o0, o1, o2, o3, o5, o6⟩
end Go.Proofs.YtehodjfgojcnlaaGreat
/- The specification's end, a step: the Node at hand is of this kind. -/
namespace Go.Proofs.YtehodjfgojcnlaaGreat
open Go.RowKit

set_option maxRecDepth 100000 in
set_option maxHeartbeats 1000000 in
theorem end_0 (part : Bool) (f : Nat) (st all : List Nd) (pos bx : Nat) (a d op : Int) (rv : Value) (w : World) (hlen : st.length + f = 10) (hst : StOk st) (ok : ∀ n ∈ all, n.ok) (ha : a = pos) (hpl : pos < all.length) (hd : d = (st.length + 1 : Nat)) (hop : op = openOf st) (hx : LookAt w bx part all) (hr : TextsAt w rv (recsOf st)) (hnil : recsOf st = [] → rv = .slice none 0 0) (name peer : ByteArray) (many sort : Int) (hn : all[pos] = ⟨0, name, peer, many, sort⟩) :
    Calls Tryz.prog 28 #[.pointer (some ⟨bx, 0, none⟩), .int .i64 a, .int .i64 d, rv, .int .i64 op] w fun e w' => e = .returned (.int .i64 (endPos all (ahead (talkS part) f st (all.drop pos)))) ∧ Below w.heap.size w w' := by
  have HX := hide hx
  have HR := hide hr
  have HO := hide ok
  have HL := hide hlen
  have HST := hide hst
  have HNIL := hide hnil
  obtain ⟨i0, hi, hz0, hz1, hz2⟩ := info_parts Tryz.infoS
  have HI := hide (And.intro hi (And.intro hz0 (And.intro hz1 hz2)))
  obtain ⟨rao, rcap, rfl, rc1, rc2, -⟩ := hr
  subst ha hd hop
  obtain ⟨xao, xcap, x0, x1, x2, x3, x4⟩ := hx
  obtain ⟨b, o, rfl, hrow⟩ := x4 (by intro h; simp [h] at hpl)
  have hnode := hrow.get pos hpl
  have HDROP := hide (show all.drop pos = ⟨0, name, peer, many, sort⟩ :: all.drop (pos + 1) by rw [← hn]; exact drop_cons hpl)
  have HN1 := hide (show Nd.ok ⟨0, name, peer, many, sort⟩ by rw [← hn]; exact HO.out _ (List.getElem_mem hpl))
  have HPN := hide (pos_next hpl)
  rw [hn] at hnode
  obtain ⟨c0, c1, c2, c3, c4⟩ := hnode
  dsimp only at c0 c1 c2 c3 c4
  have hbw : b < w.heap.size := World.block_lt_of_cell? w _ c0
  have hbx : bx < w.heap.size := World.block_lt_of_cell? w _ x0
  have HXA : Hid (∀ ob, (w.alloc ob).cell? ⟨bx, 1, none⟩ = some (.bool part)) := hide (fun ob => ((alloc1 w ob).cell (p := ⟨bx, 1, none⟩) hbx).trans x1)
  have hp2 : decide ((all.length : Int) ≤ (pos : Int)) = false := decide_eq_false (by omega)
  have hdl : st.length ≤ 10 := by omega
  have HOL := hide (open_le st)
  have ho2 : openOf st ≤ (recsOf st).length := open_le st
  have hrl : (recsOf st).length ≤ 10 := by have := recs_len st; omega
  clear hrow hn ok hlen hst x4 hi hz0 hz1 hz2 hnil
  by_cases q1 : peer.toList = []
  · by_cases q2 : many = 0
    · by_cases q3 : sort = 0
      · skip
        by_cases q4 : name.toList = []
        · go_enter Tryz.func28, Tryz.ntmps28
          go_wp2_with fail
          go_ret
          refine ⟨ret_int ?_, (by repeat (first | exact alloc1 _ _ | exact Below.refl _ _ | refine Below.drew ?_))⟩
          rw [HDROP.out, ahead_0 rfl, if_pos (by simp [endB, *])]
          exact HPN.out
        · go_enter Tryz.func28, Tryz.ntmps28
          go_wp2_with fail
          all_goals
            go_ret
            refine ⟨ret_int ?_, (by repeat (first | exact alloc1 _ _ | exact Below.refl _ _ | refine Below.drew ?_))⟩
            rw [HDROP.out, ahead_0 rfl]
            first
              | (rw [if_neg (by simp [endB, *])]; rfl)
              | (rw [if_pos (by simp [endB, *])]; exact HPN.out)
      · have q3' : (sort == 0) = false := beq_eq_false_iff_ne.2 q3
        go_enter Tryz.func28, Tryz.ntmps28
        go_wp2_with fail
        go_ret
        refine ⟨ret_int ?_, (by repeat (first | exact alloc1 _ _ | exact Below.refl _ _ | refine Below.drew ?_))⟩
        rw [HDROP.out, ahead_0 rfl, if_neg (by simp [endB, *])]
        rfl
    · have q2' : (many == 0) = false := beq_eq_false_iff_ne.2 q2
      go_enter Tryz.func28, Tryz.ntmps28
      go_wp2_with fail
      go_ret
      refine ⟨ret_int ?_, (by repeat (first | exact alloc1 _ _ | exact Below.refl _ _ | refine Below.drew ?_))⟩
      rw [HDROP.out, ahead_0 rfl, if_neg (by simp [endB, *])]
      rfl
  · have q1' : (peer.toList == []) = false := beq_eq_false_iff_ne.2 q1
    go_enter Tryz.func28, Tryz.ntmps28
    go_wp2_with fail
    go_ret
    refine ⟨ret_int ?_, (by repeat (first | exact alloc1 _ _ | exact Below.refl _ _ | refine Below.drew ?_))⟩
    rw [HDROP.out, ahead_0 rfl, if_neg (by simp [endB, *])]
    rfl
end Go.Proofs.YtehodjfgojcnlaaGreat
