/- The specification's end: at every row of Nodes and place. -/
import Derived.Test.YtmjlblbhakppfaaGreatDoorQB08
import Derived.Test.YtmjlblbhakppfaaGreatDoorQB07
import Derived.Test.YtmjlblbhakppfaaGreatDoorQB10
import Derived.Test.YtmjlblbhakppfaaGreatDoorQB09
namespace Go.Proofs.YtmjlblbhakppfaaGreatDoor
open Go.RowKit

theorem wrap_small (x : Int) (h0 : -1000 ≤ x) (h1 : x ≤ 8589934592) : wrap64 x = x := by
  simp only [wrap64]
  omega
theorem grow_cell {w w' : World} {row : Option Nat} (hg : w.grownBy w' row) (a : Addr) (hlt : a.block < w.heap.size) (hne : some a.block ≠ row) : w'.cell? a = w.cell? a :=
  World.cell?_of_block (hg.block a.block hlt hne)
theorem step_append_with {P : Program} {ops : Array Oper} {o : Oper} {a : Act} {w : World} {K : Act → World → Prop} {Q : Exit → Act → World → Prop} {E : Prop}
    (hg : o.guard = none) (s2 : Operand) (v2 : Value) (_ : a.eval s2 = v2) (s x : Operand) (t : TypeId) (hop : o.op = Op.call { callee := Callee.builtin Builtin.append, args := #[s, x], argTypes := #[t, t] })
    (base : Nat) (e : TypeId) (i : TypeInfo) (z : Value) (size bytes : Nat) (h1 : P.underlying t = some (.slice e)) (h2 : P.info? e = some i) (h3 : i.zero = some z) (h4 : i.size = size) (h5 : i.bytes = bytes) (h6 : z.cells.size = size) (h7 : 0 < size)
    (v : Value) (n : Nat) (xs : List Value) (hs : a.eval s = v) (hown : w.ownsRow base e size v n xs)
    (ad : Addr) (m c : Nat) (news : List Value) (hx : a.eval x = .slice (some ad) m c) (hn : news.length = m * size) (hc : ∀ j u, news[j]? = some u → w.cell? (ad.add j) = some u) (h1c : ∀ u ∈ news, u.oneCell' = true)
    (b1 : n + m ≤ maxLen) (b2 : (n + m) * bytes ≤ 140737488355328) (hbase : base ≤ w.heap.size)
    (hK : ∀ v' w', w'.ownsRow base e size v' (n + m) (xs ++ news) → w.grownBy w' v.ownBlock → K (a.put o.dst v') w') :
    if Region.wanted o (yielded ops a.tmps) = true then Oper.wp P o a w K Q else E :=
  step_append_own hg s x t hop base e i z size bytes h1 h2 h3 h4 h5 h6 h7 v n xs hs hown ad m c news hx hn hc h1c b1 b2 hbase hK
theorem strs_cell (ls : List ByteArray) : ∀ u ∈ ls.map Value.string, u.oneCell' = true := by
  intro u hu
  obtain ⟨s, _, rfl⟩ := List.mem_map.1 hu
  rfl
theorem src_cells {w W' : World} {rb ro : Nat} {ls : List ByteArray} (hc : ∀ i (h : i < ls.length), w.cell? ⟨rb, ro + i, none⟩ = some (.string ls[i])) (hb : Below w.heap.size w W') (j : Nat) (u : Value) (h : (ls.map Value.string)[j]? = some u) : W'.cell? ((⟨rb, ro, none⟩ : Addr).add j) = some u := by
  rw [List.getElem?_map] at h
  obtain ⟨s, hs, rfl⟩ := Option.map_eq_some_iff.1 h
  obtain ⟨hj, rfl⟩ := List.getElem?_eq_some_iff.1 hs
  have h1 := hc j hj
  have h2 : W'.cell? ⟨rb, ro + j, none⟩ = some (.string ls[j]) := (hb.cell (p := ⟨rb, _, none⟩) (World.block_lt_of_cell? w _ h1)).trans h1
  have e : (⟨rb, ro, none⟩ : Addr).add j = ⟨rb, ro + j, none⟩ := by unfold Addr.add; by_cases hj0 : j = 0 <;> simp [hj0]
  rw [e]; exact h2
theorem wrap_i (x : Int) (h0 : -1000 ≤ x) (h1 : x ≤ 8589934592) : IntKind.i64.wrap x = x := by
  rw [IntKind.wrap_i64]
  omega
theorem cell_new (W : World) (v : Value) (t : TypeId) (k : Nat) (h : k = W.heap.size) : (W.alloc (.cells #[v] t)).cell? ⟨k, 0, none⟩ = some v := by
  subst h; simp
theorem cell_old (W : World) (o : Obj) (k : Nat) (h : k < W.heap.size) : (W.alloc o).cell? ⟨k, 0, none⟩ = W.cell? ⟨k, 0, none⟩ := World.cell?_alloc_past o k 0 h
theorem heap_new (W : World) (o : Obj) (k : Nat) (h : k = W.heap.size) : (W.alloc o).heap[k]? = some o := by
  subst h; show (W.heap.push o)[W.heap.size]? = _; simp
theorem heap_old (W : World) (o : Obj) (k : Nat) (h : k < W.heap.size) : (W.alloc o).heap[k]? = W.heap[k]? := Below.heap_alloc W o k h
theorem own_empty (W : World) (base e g : Nat) (hg : base ≤ g) (h : W.heap[g]? = some (.cells #[] e (0, 0))) : W.ownsRow base e 1 (.slice (some ⟨g, 0, none⟩) 0 0) 0 [] :=
  ⟨rfl, .inr ⟨g, 0, #[], rfl, hg, h, Nat.le_refl _, by unfold maxLen; omega, rfl, rfl⟩⟩
theorem one_new {W : World} {ad : Addr} {v : Value} (h : W.cell? ad = some v) : ∀ j u, ([v] : List Value)[j]? = some u → W.cell? (ad.add j) = some u := by
  intro j u hj
  match j, hj with
  | 0, hj => simp at hj; subst hj; simpa [Addr.add] using h
theorem one_cell (s : ByteArray) : ∀ u ∈ [Value.string s], u.oneCell' = true := by
  intro u hu; simp at hu; subst hu; rfl
theorem boxed0 (w : World) (n : Nd) (t : TypeId) : NodeAt (w.alloc (.cells #[.int .i64 n.op, .string n.name, .string n.peer, .int .i64 n.many, .int .i64 n.sort] t)) w.heap.size 0 n := by
  simp [NodeAt]
theorem recs_talk {n : Nd} {st : List Nd} (h : n.op ≠ 2) : recsOf (n :: st) = recsOf st := by simp [recsOf, h]
end Go.Proofs.YtmjlblbhakppfaaGreatDoor
/- rowAhead: at every row of Nodes and place. -/
namespace Go.Proofs.YtmjlblbhakppfaaGreatDoor
open Go.RowKit

set_option maxHeartbeats 400000 in
theorem nil_step (f : Nat) (st : List Nd) (ao : Option Addr) (cap : Nat) (p : Value) (w : World) (B : Nat) (hp : PlaceAt w p st) :
    Calls Tryz.prog 80 #[.slice ao ([] : List Nd).length cap, p] w fun e w' => Told w' B e (ahead talkI f st []) ∧ Below w.heap.size w w' := by
  obtain ⟨u, rfl⟩ := hp.shape
  clear hp
  go_enter Tryz.func80, Tryz.ntmps80
  go_wp2_with fail
  go_ret2
  exact told_none (Below.refl _ _) (by cases f <;> rfl)

theorem plan_calls (f : Nat) : PlanCalls f := by
  induction f with
  | zero =>
    intro st l v p w B hlen ok hB hv hp
    obtain ⟨ao, cap, rfl, hc1, hc2, hr⟩ := hv
    cases l with
    | nil => exact nil_step 0 st ao cap p w B hp
    | cons n l1 =>
      obtain ⟨b, o, rfl, hbB, hrow⟩ := hr (by simp)
      by_cases h1 : cap = 1
      · by_cases o0 : n.op = 0
        · exact end_step_a 0 st n l1 p w B b o cap hlen ok hB hbB hc1 hc2 h1 hrow hp o0
        · by_cases o1 : n.op = 1
          · exact var_step_a 0 st n l1 p w B b o cap hlen ok hB hbB hc1 hc2 h1 hrow hp o1
          · by_cases o2 : n.op = 2
            · obtain ⟨op, name, peer, many, sort⟩ := n
              simp only at o2
              subst o2
              exact rec_step_a 0 (fun g h => absurd h (by omega)) st name peer many sort l1 p w B b o cap hlen ok hB hbB hc1 hc2 h1 hrow hp
            · by_cases o3 : n.op = 3
              · obtain ⟨op, name, peer, many, sort⟩ := n
                simp only at o3
                subst o3
                exact msg3_step_a 0 (fun g h => absurd h (by omega)) st name peer many sort l1 p w B b o cap hlen ok hB hbB hc1 hc2 h1 hrow hp
              · by_cases o5 : n.op = 5
                · obtain ⟨op, name, peer, many, sort⟩ := n
                  simp only at o5
                  subst o5
                  exact msg5_step_a 0 (fun g h => absurd h (by omega)) st name peer many sort l1 p w B b o cap hlen ok hB hbB hc1 hc2 h1 hrow hp
                · by_cases o6 : n.op = 6
                  · obtain ⟨op, name, peer, many, sort⟩ := n
                    simp only at o6
                    subst o6
                    exact msg6_step_a 0 (fun g h => absurd h (by omega)) st name peer many sort l1 p w B b o cap hlen ok hB hbB hc1 hc2 h1 hrow hp
                  · exact oth_step_a 0 st n l1 p w B b o cap hlen ok hB hbB hc1 hc2 h1 hrow hp ⟨o0, o1, o2, o3, o5, o6⟩
      · by_cases o0 : n.op = 0
        · exact end_step_b 0 st n l1 p w B b o cap hlen ok hB hbB hc1 hc2 h1 hrow hp o0
        · by_cases o1 : n.op = 1
          · exact var_step_b 0 st n l1 p w B b o cap hlen ok hB hbB hc1 hc2 h1 hrow hp o1
          · by_cases o2 : n.op = 2
            · obtain ⟨op, name, peer, many, sort⟩ := n
              simp only at o2
              subst o2
              exact rec_step_b 0 (fun g h => absurd h (by omega)) st name peer many sort l1 p w B b o cap hlen ok hB hbB hc1 hc2 h1 hrow hp
            · by_cases o3 : n.op = 3
              · obtain ⟨op, name, peer, many, sort⟩ := n
                simp only at o3
                subst o3
                exact msg3_step_b 0 (fun g h => absurd h (by omega)) st name peer many sort l1 p w B b o cap hlen ok hB hbB hc1 hc2 h1 hrow hp
              · by_cases o5 : n.op = 5
                · obtain ⟨op, name, peer, many, sort⟩ := n
                  simp only at o5
                  subst o5
                  exact msg5_step_b 0 (fun g h => absurd h (by omega)) st name peer many sort l1 p w B b o cap hlen ok hB hbB hc1 hc2 h1 hrow hp
                · by_cases o6 : n.op = 6
                  · obtain ⟨op, name, peer, many, sort⟩ := n
                    simp only at o6
                    subst o6
                    exact msg6_step_b 0 (fun g h => absurd h (by omega)) st name peer many sort l1 p w B b o cap hlen ok hB hbB hc1 hc2 h1 hrow hp
                  · exact oth_step_b 0 st n l1 p w B b o cap hlen ok hB hbB hc1 hc2 h1 hrow hp ⟨o0, o1, o2, o3, o5, o6⟩
  | succ f ih =>
    intro st l v p w B hlen ok hB hv hp
    obtain ⟨ao, cap, rfl, hc1, hc2, hr⟩ := hv
    cases l with
    | nil => exact nil_step (f + 1) st ao cap p w B hp
    | cons n l1 =>
      obtain ⟨b, o, rfl, hbB, hrow⟩ := hr (by simp)
      by_cases h1 : cap = 1
      · by_cases o0 : n.op = 0
        · exact end_step_a (f + 1) st n l1 p w B b o cap hlen ok hB hbB hc1 hc2 h1 hrow hp o0
        · by_cases o1 : n.op = 1
          · exact var_step_a (f + 1) st n l1 p w B b o cap hlen ok hB hbB hc1 hc2 h1 hrow hp o1
          · by_cases o2 : n.op = 2
            · obtain ⟨op, name, peer, many, sort⟩ := n
              simp only at o2
              subst o2
              exact rec_step_a (f + 1) (fun g h => by cases h; exact ih) st name peer many sort l1 p w B b o cap hlen ok hB hbB hc1 hc2 h1 hrow hp
            · by_cases o3 : n.op = 3
              · obtain ⟨op, name, peer, many, sort⟩ := n
                simp only at o3
                subst o3
                exact msg3_step_a (f + 1) (fun g h => by cases h; exact ih) st name peer many sort l1 p w B b o cap hlen ok hB hbB hc1 hc2 h1 hrow hp
              · by_cases o5 : n.op = 5
                · obtain ⟨op, name, peer, many, sort⟩ := n
                  simp only at o5
                  subst o5
                  exact msg5_step_a (f + 1) (fun g h => by cases h; exact ih) st name peer many sort l1 p w B b o cap hlen ok hB hbB hc1 hc2 h1 hrow hp
                · by_cases o6 : n.op = 6
                  · obtain ⟨op, name, peer, many, sort⟩ := n
                    simp only at o6
                    subst o6
                    exact msg6_step_a (f + 1) (fun g h => by cases h; exact ih) st name peer many sort l1 p w B b o cap hlen ok hB hbB hc1 hc2 h1 hrow hp
                  · exact oth_step_a (f + 1) st n l1 p w B b o cap hlen ok hB hbB hc1 hc2 h1 hrow hp ⟨o0, o1, o2, o3, o5, o6⟩
      · by_cases o0 : n.op = 0
        · exact end_step_b (f + 1) st n l1 p w B b o cap hlen ok hB hbB hc1 hc2 h1 hrow hp o0
        · by_cases o1 : n.op = 1
          · exact var_step_b (f + 1) st n l1 p w B b o cap hlen ok hB hbB hc1 hc2 h1 hrow hp o1
          · by_cases o2 : n.op = 2
            · obtain ⟨op, name, peer, many, sort⟩ := n
              simp only at o2
              subst o2
              exact rec_step_b (f + 1) (fun g h => by cases h; exact ih) st name peer many sort l1 p w B b o cap hlen ok hB hbB hc1 hc2 h1 hrow hp
            · by_cases o3 : n.op = 3
              · obtain ⟨op, name, peer, many, sort⟩ := n
                simp only at o3
                subst o3
                exact msg3_step_b (f + 1) (fun g h => by cases h; exact ih) st name peer many sort l1 p w B b o cap hlen ok hB hbB hc1 hc2 h1 hrow hp
              · by_cases o5 : n.op = 5
                · obtain ⟨op, name, peer, many, sort⟩ := n
                  simp only at o5
                  subst o5
                  exact msg5_step_b (f + 1) (fun g h => by cases h; exact ih) st name peer many sort l1 p w B b o cap hlen ok hB hbB hc1 hc2 h1 hrow hp
                · by_cases o6 : n.op = 6
                  · obtain ⟨op, name, peer, many, sort⟩ := n
                    simp only at o6
                    subst o6
                    exact msg6_step_b (f + 1) (fun g h => by cases h; exact ih) st name peer many sort l1 p w B b o cap hlen ok hB hbB hc1 hc2 h1 hrow hp
                  · exact oth_step_b (f + 1) st n l1 p w B b o cap hlen ok hB hbB hc1 hc2 h1 hrow hp ⟨o0, o1, o2, o3, o5, o6⟩
end Go.Proofs.YtmjlblbhakppfaaGreatDoor
