/- The specification: two parts merged. -/
import Derived.Test.YtmlkfnclniamiaaQPartOf35
namespace Go.Proofs.Ytmlkfnclniamiaa
open Go.RowKit

theorem head_of {n : Nat} : ∀ p : Pn (n + 1), ∃ h X, rowN (n + 1) p = h :: X ∧ ((h.op == 6) = true → ∃ a0 l, p = .talk ⟨6, a0, h.peer⟩ l) ∧ ((h.op == 6) = false → hearN p = none) := by
  refine Pn.cases (fun x => ?_) (fun x q => ?_) (fun t l => ?_)
  · cases x with
    | none => exact ⟨_, _, rfl, (fun h => by cases h), fun _ => rfl⟩
    | some x => exact ⟨_, _, rfl, (fun h => by cases h), fun _ => rfl⟩
  · exact ⟨_, _, row_loop x q, (fun h => by cases h), fun _ => rfl⟩
  · obtain ⟨op, a, b⟩ := t
    refine ⟨_, _, row_talk _ l, (fun h => ?_), fun h => ?_⟩
    · have h' : op = 6 := by simpa using h
      subst h'
      exact ⟨a, l, rfl⟩
    · show (if (op == 6) = true then some (b, l) else none) = none
      have h' : (op == 6) = false := h
      rw [h']
      rfl
theorem merge_s : ∀ n : Nat, MergeSCalls n := by
  intro n
  induction n with
  | zero =>
    intro S x y u v w hS hx hy h4x h4y hl hu hv
    obtain ⟨h, e, ho⟩ : ∃ h, rowN 0 x = [h] ∧ (h.op == 6) = false := by cases x <;> exact ⟨_, rfl, rfl⟩
    obtain ⟨h', e', ho'⟩ : ∃ h, rowN 0 y = [h] ∧ (h.op == 6) = false := by cases y <;> exact ⟨_, rfl, rfl⟩
    have := s_merge_no 0 S x y u v w hS h h' [] [] e e' hl hu hv (.inr (by rw [ho]; rfl))
    rw [mergeN]
    exact this
  | succ n ih =>
    intro S x y u v w hS hx hy h4x h4y hl hu hv
    obtain ⟨h, X, e, hs, hn⟩ := head_of x
    obtain ⟨h', Y, e', hs', hn'⟩ := head_of y
    cases hr : rowEq (rowN (n + 1) x) (rowN (n + 1) y) with
    | true =>
      have := s_merge_no (n + 1) S x y u v w hS h h' X Y e e' hl hu hv (.inl hr)
      rw [mergeN, if_pos hr]
      rw [if_pos hr] at this
      exact this
    | false =>
      cases hc : (h.op == 6 && h'.op == 6 && (h.peer.toList == h'.peer.toList)) with
      | false =>
        have := s_merge_no (n + 1) S x y u v w hS h h' X Y e e' hl hu hv (.inr hc)
        rw [hr] at this
        have hm : mergeN (n + 1) x y = none := by
          rw [mergeN, hr]
          cases h1 : (h.op == 6) with
          | false => rw [hn h1]; rfl
          | true =>
            obtain ⟨a0, l, ex⟩ := hs h1
            cases h2 : (h'.op == 6) with
            | false => rw [hn' h2]; cases hearN x <;> rfl
            | true =>
              obtain ⟨b0, l', ey⟩ := hs' h2
              rw [h1, h2] at hc
              have hc' : (h.peer.toList == h'.peer.toList) = false := hc
              have e1 : hearN x = some (h.peer, l) := by rw [ex]; rfl
              have e2 : hearN y = some (h'.peer, l') := by rw [ey]; rfl
              rw [e1, e2]
              simp only [hc', Bool.false_eq_true, if_false]
        rw [hm]
        exact this
      | true =>
        simp only [Bool.and_eq_true] at hc
        obtain ⟨⟨h1, h2⟩, h3⟩ := hc
        obtain ⟨a0, cs, ex⟩ := hs h1
        obtain ⟨b0, ds, ey⟩ := hs' h2
        obtain ⟨pa, hpa⟩ : ∃ pa, h.peer = pa := ⟨_, rfl⟩
        obtain ⟨pb, hpb⟩ : ∃ pb, h'.peer = pb := ⟨_, rfl⟩
        rw [hpa] at ex h3
        rw [hpb] at ey h3
        subst ex
        subst ey
        have hx' : tkOk ⟨6, a0, pa⟩ ∧ cs ≠ [] ∧ ∀ b ∈ cs, shapeN n b.p := hx
        have hy' : tkOk ⟨6, b0, pb⟩ ∧ ds ≠ [] ∧ ∀ b ∈ ds, shapeN n b.p := hy
        have h4x' : cs.length ≤ 4 ∧ ∀ b ∈ cs, fourN n b.p := h4x
        have h4y' : ds.length ≤ 4 ∧ ∀ b ∈ ds, fourN n b.p := h4y
        have := s_merge_hear n S ih a0 pa b0 pb cs ds ⟨hx'.2.1, h4x'.1, fun x hm => ⟨hx'.2.2 x hm, h4x'.2 x hm⟩⟩ ⟨hy'.2.1, fun x hm => ⟨hy'.2.2 x hm, h4y'.2 x hm⟩⟩ u v w hS hl hu hv hr h3
        rw [takes_hear pa cs ds h4x'.1] at this
        have hm : mergeN (n + 1) (.talk ⟨6, a0, pa⟩ cs) (.talk ⟨6, b0, pb⟩ ds) = hearO n pa (mergeBy (mergeN n) cs ds) := by
          rw [mergeN, hr]
          show (if (pa.toList == pb.toList) = true then (match mergeBy (mergeN n) cs ds with
            | some l => if l.length ≤ 4 then some (Pn.talk ⟨6, noT, pa⟩ l) else none
            | none => none) else none) = _
          rw [if_pos h3]
          unfold hearO
          cases mergeBy (mergeN n) cs ds <;> rfl
        rw [hm]
        exact this
end Go.Proofs.Ytmlkfnclniamiaa
/- The specification: the part of a role in an end, a variable, a recursion. -/
namespace Go.Proofs.Ytmlkfnclniamiaa
open Go.RowKit
attribute [local go_sem ↓] Go.wp_at_zero Go.wp_at_succ

/-- what l03Of answers: a row that is new -/
def OfAns (n len : Nat) (w w' : World) (e : Ending) (o : Option (Pn n)) : Prop := ∃ q r, e = .returned (.tuple #[q, .bool o.isSome]) ∧ RdS w' (btw w.heap.size w'.heap.size) q r ∧ (∀ z, o = some z → r = rowN n z) ∧ (q = .slice none 0 0 ∨ 0 < r.length) ∧ r.length ≤ 900 + len ∧ Below w.heap.size w w'
def OfCalls (role : ByteArray) (n : Nat) : Prop := ∀ (p : Pn n) (all post : List Nd) (pos : Nat) (v : Value) (w : World) (S : Nat → Prop), (∀ g, S g → g < w.heap.size) → planN n p → all.length ≤ 40 → all.drop pos = rowN n p ++ post → RdS w S v all → Calls Try.prog 51 #[v, .int .i64 pos, .string role] w fun e w' => OfAns n (rowN n p).length w w' e (partN role n p)
set_option maxRecDepth 100000 in
set_option maxHeartbeats 1000000 in
theorem of_leaf (role : ByteArray) (x : Option ByteArray) (all post : List Nd) (pos : Nat) (v : Value) (w : World) (S : Nat → Prop) (hS : ∀ g, S g → g < w.heap.size) (_hl : all.length ≤ 40) (h : all.drop pos = leafRow x ++ post) (hv : RdS w S v all) : Calls Try.prog 51 #[v, .int .i64 pos, .string role] w fun e w' => ∃ q, e = .returned (.tuple #[q, .bool true]) ∧ RdS w' (btw w.heap.size w'.heap.size) q (leafRow x) ∧ Below w.heap.size w w' := by
  obtain ⟨nd, hr, hop⟩ : ∃ nd, leafRow x = [nd] ∧ (nd.op = 0 ∨ nd.op = 1) := by
    cases x with
    | none => exact ⟨_, rfl, .inl rfl⟩
    | some x => exact ⟨_, rfl, .inr rfl⟩
  rw [hr] at h ⊢
  obtain ⟨hp, hn, -⟩ := drop_next h
  obtain ⟨ao, cap, rfl, hc, hm, -, hrow⟩ := hv
  obtain ⟨g, o, rfl, hg, hrow⟩ := hrow (fun e => by rw [e] at hp; simp at hp)
  have hnode := hrow.get pos hp
  rw [hn] at hnode
  have hgw := hS g hg
  have HFIN : Hid (∀ (W : World) (b : Nat), b = W.heap.size → w.heap.size ≤ W.heap.size → RdS (W.alloc (.cells #[.int .i64 nd.op, .string nd.name, .string nd.peer, .int .i64 nd.many, .int .i64 nd.sort] 53)) (btw w.heap.size (W.alloc (.cells #[.int .i64 nd.op, .string nd.name, .string nd.peer, .int .i64 nd.many, .int .i64 nd.sort] 53)).heap.size) (.slice (some ⟨b, 0, none⟩) 1 1) [nd]) := hide (fun W b hb hW => (nd_lit W nd w.heap.size b hb hW).rdS (by simp))
  obtain ⟨op, name, peer, many, sort⟩ := nd
  dsimp only at hop HFIN
  obtain ⟨c0, c1, c2, c3, c4⟩ := hnode
  dsimp only at c0 c1 c2 c3 c4
  obtain ⟨M, hM⟩ : ∃ M, all.length = M := ⟨_, rfl⟩
  rw [hM] at hp hc ⊢
  clear hrow hn hr h hS hM
  rcases hop with rfl | rfl
  all_goals
    go_enter Try.func51, Try.ntmps51
    go_wp2_with fail
    go_ret2
    exact ⟨_, rfl, HFIN.out _ _ (by simp) (by simp), (malloc1 w _).trans ((malloc1 _ _).mono (by simp))⟩
theorem leaf_ans {role : ByteArray} {x : Option ByteArray} {all post : List Nd} {pos : Nat} {v : Value} {w : World} {S : Nat → Prop} (hS : ∀ g, S g → g < w.heap.size) (hl : all.length ≤ 40) (h : all.drop pos = leafRow x ++ post) (hv : RdS w S v all) {n : Nat} {z0 : Pn n} (hz : rowN n z0 = leafRow x) : Calls Try.prog 51 #[v, .int .i64 pos, .string role] w fun e w' => OfAns n (leafRow x).length w w' e (some z0) := by
  refine (of_leaf role x all post pos v w S hS hl h hv).mono ?_
  rintro e w' ⟨q, rfl, h1, h2⟩
  exact ⟨q, leafRow x, rfl, h1, (fun z hz' => by injection hz' with hz'; subst hz'; exact hz.symm), .inr (leaf_pos x), by omega, h2⟩
theorem of_shape {w : World} {a : Nat} {q : Value} {r : List Nd} (h : RdS w (btw a w.heap.size) q r) (hc : q = .slice none 0 0 ∨ 0 < r.length) : (q = .slice none 0 0 ∧ r = []) ∨ ∃ g o c L, q = .slice (some ⟨g, o, none⟩) L c ∧ r.length = L ∧ 0 < L ∧ L ≤ 2000 ∧ g < w.heap.size ∧ RowAt w g o r := by
  obtain ⟨ao, cap, e, hc1, hm, hl, hr⟩ := h
  rcases hc with hc | hc
  · rw [hc] at e
    injection e with _ e _
    exact .inl ⟨hc, List.length_eq_zero_iff.1 e.symm⟩
  · obtain ⟨g, o, e2, hg, hrow⟩ := hr (fun e => by rw [e] at hc; simp at hc)
    exact .inr ⟨g, o, cap, r.length, by rw [e, e2], rfl, hc, hl, hg.2, hrow⟩
theorem role_loop (role x : ByteArray) (r : List Nd) : hasRole role (⟨2, x, noT, 0, 0⟩ :: r) = hasRole role r := by
  rw [has_any, has_any, List.any_cons]
  rfl
set_option maxRecDepth 100000 in
set_option maxHeartbeats 2000000 in
theorem of_loop (role : ByteArray) (n : Nat) (ih : OfCalls role n) (x : ByteArray) (q : Pn n) (hq : planN n q) (all post : List Nd) (pos : Nat) (v : Value) (w : World) (S : Nat → Prop) (hS : ∀ g, S g → g < w.heap.size) (hl : all.length ≤ 40) (h : all.drop pos = rowN (n + 1) (.loop x q) ++ post) (hv : RdS w S v all) : Calls Try.prog 51 #[v, .int .i64 pos, .string role] w fun e w' => OfAns (n + 1) (rowN (n + 1) (.loop x q)).length w w' e (partN role (n + 1) (.loop x q)) := by
  obtain ⟨i0, hi, hz0, hz1, hz2⟩ := info_parts Try.infoNd
  have HI := hide (And.intro hi (And.intro hz0 (And.intro hz1 hz2)))
  have hrl := row_loop x q
  obtain ⟨ALL, hALL⟩ : ∃ ALL, rowN (n + 1) (.loop x q) = ALL := ⟨_, rfl⟩
  have hsh : shapeN (n + 1) (.loop x q) := plan_shape n q hq
  have HW := fun (W : World) (hW : Below w.heap.size w W) => (⟨fun g hg => Nat.lt_of_lt_of_le (hS g hg) hW.size, hv.on hS hW⟩ : (∀ g, S g → g < W.heap.size) ∧ RdS W S v all)
  obtain ⟨hp, hn, h1⟩ := drop_next (show all.drop pos = ⟨2, x, noT, 0, 0⟩ :: rowN n q ++ post by rw [h, hrl])
  obtain ⟨T, hT⟩ : ∃ T, pos + 1 + (rowN n q).length = T := ⟨_, rfl⟩
  have HBH : Hid (∀ W, Below w.heap.size w W → Calls Try.prog 73 #[v, .int .i64 pos] W fun e w' => e = .returned (.int .i64 (T : Int)) ∧ Below W.heap.size W w') := hide (fun W hW => by
    have := behind_calls (n + 1) (.loop x q) all post pos v W S (HW W hW).1 hsh (by omega) h (HW W hW).2
    rw [show pos + (rowN (n + 1) (.loop x q)).length = T by rw [hrl, List.length_cons]; omega] at this
    exact this)
  obtain ⟨q1, hq1⟩ : ∃ q1, hasRole role (rowN n q) = q1 := ⟨_, rfl⟩
  obtain ⟨q2, hq2⟩ : ∃ q2, closedL [] ALL = q2 := ⟨_, rfl⟩
  have HTL : Hid (∀ W, Below w.heap.size w W → Calls Try.prog 74 #[v, .int .i64 ((pos : Int) + 1), .int .i64 (T : Int), .string role] W fun e w' => e = .returned (.bool q1) ∧ Below W.heap.size W w') := hide (fun W hW => by
    have := s_talks role all (rowN n q) post (pos + 1) v W S (HW W hW).1 (by omega) (by omega) h1 (HW W hW).2
    rw [hT, hq1] at this
    exact this)
  have HCL : Hid (∀ W, Below w.heap.size w W → Calls Try.prog 75 #[v, .int .i64 pos, .int .i64 (T : Int)] W fun e w' => e = .returned (.bool q2) ∧ Below W.heap.size W w') := hide (fun W hW => by
    have := s_closed all (rowN (n + 1) (.loop x q)) post pos v W S (HW W hW).1 (by omega) (by omega) h (HW W hW).2
    rw [show pos + (rowN (n + 1) (.loop x q)).length = T by rw [hrl, List.length_cons]; omega, hALL, hq2] at this
    exact this)
  have HIH : Hid (∀ W, Below w.heap.size w W → Calls Try.prog 51 #[v, .int .i64 ((pos : Int) + 1), .string role] W fun e w' => OfAns n (rowN n q).length W w' e (partN role n q)) := hide (fun W hW => ih q all post (pos + 1) v W S (HW W hW).1 hq hl h1 (HW W hW).2)
  obtain ⟨om, hom⟩ : ∃ om, partN role n q = om := ⟨_, rfl⟩
  have HP : Hid (partN role (n + 1) (.loop x q) = if !q1 && q2 then some (.leaf none) else om.map (Pn.loop x)) := hide (by
    show (if (!hasRole role (rowN (n + 1) (.loop x q)) && closedL [] (rowN (n + 1) (.loop x q))) then some (Pn.leaf none) else (partN role n q).map (Pn.loop x)) = _
    rw [hom, hALL, hq2, ← hALL, hrl, role_loop, hq1])
  rw [hom] at HIH
  have HLN : Hid ((rowN (n + 1) (.loop x q)).length = (rowN n q).length + 1) := hide (by rw [hrl]; rfl)
  have hp40 : pos < 40 := by omega
  have hT40 : T ≤ 40 := by have := drop_len h1 (fun e => by have := row_pos n q; rw [e] at this; simp at this); omega
  have HQL : Hid ((rowN n q).length ≤ 40) := hide (by omega)
  obtain ⟨ao, cap, rfl, hc, hm, -, hrow⟩ := hv
  obtain ⟨g, o, rfl, hg, hrow⟩ := hrow (fun e => by rw [e] at hp; simp at hp)
  have hnode := hrow.get pos hp
  rw [hn] at hnode
  obtain ⟨c0, c1, c2, c3, c4⟩ := hnode
  dsimp only at c0 c1 c2 c3 c4
  have hgw := hS g hg
  obtain ⟨M, hM⟩ : ∃ M, all.length = M := ⟨_, rfl⟩
  rw [hM] at hp hl hc HBH HTL HCL HIH ⊢
  clear hrow hn h h1 hS hM ih HW hq1 hq2 hom hALL hrl hT hi hz0 hz1 hz2
  cases q1
  · cases q2
    · go_enter Try.func51, Try.ntmps51
      go_wp2_with (first
        | (go_at_call 73; refine (HBH.out _ (malloc1 _ _)).mono ?_; rintro e w1 ⟨rfl, hb1⟩; have HB1 : Hid (Below w.heap.size w w1) := hide ((malloc1 w _).trans (hb1.mono (by simp))); have HC1 := hide hb1; clear hb1)
        | (go_at_call 74; refine (HTL.out _ HB1.out).mono ?_; rintro e w2 ⟨rfl, hb2⟩; have HB2 : Hid (Below w.heap.size w w2) := hide (HB1.out.trans (hb2.mono HB1.out.size)); have HC2 := hide (HC1.out.trans (hb2.mono HC1.out.size)); clear hb2)
        | (go_at_call 75; refine (HCL.out _ HB2.out).mono ?_; rintro e w3 ⟨rfl, hb3⟩; have HB3 : Hid (Below w.heap.size w w3) := hide (HB2.out.trans (hb3.mono HB2.out.size)); have HC3 := hide (HC2.out.trans (hb3.mono HC2.out.size)); clear hb3)
        | (go_at_call 51; refine (HIH.out _ HB3.out).mono ?_; rintro e w5 ⟨qv, r, rfl, h5a, h5b, h5c, h5d, h5e⟩; have H5A := hide h5a; have H5B := hide h5b; have H5D := hide h5d; have HB5 : Hid (Below w.heap.size w w5) := hide (HB3.out.trans (h5e.mono HB3.out.size)); have HC5 := hide (HC3.out.trans (h5e.mono HC3.out.size)); have n0 := HC5.out.cell (p := ⟨w.heap.size, 0, none⟩) (by simp); have n1 := HC5.out.cell (p := ⟨w.heap.size, 1, none⟩) (by simp); have n2 := HC5.out.cell (p := ⟨w.heap.size, 2, none⟩) (by simp); have n3 := HC5.out.cell (p := ⟨w.heap.size, 3, none⟩) (by simp); have n4 := HC5.out.cell (p := ⟨w.heap.size, 4, none⟩) (by simp); simp at n0 n1 n2 n3 n4; have h5z := HB5.out.size; have H53 := hide h5e.size; clear h5b h5d h5e; rcases of_shape h5a h5c with ⟨rfl, hnr⟩ | ⟨g5, o5, cap5, RL, rfl, hRL, hl0, hl5, hg5w, hrow5⟩)
        | (first | (at_builtin; refine wpList_append_own_none rfl (.tmp 52) (.tmp 53) 25 rfl w.heap.size 53 i0 5 Try.underlying25 HI.out.1 (.slice (some ⟨w5.heap.size, 0, none⟩) 1 1) 1 (([⟨2, x, noT, 0, 0⟩] : List Nd).flatMap Nd.cells) rfl (nd_lit w5 ⟨2, x, noT, 0, 0⟩ w.heap.size w5.heap.size rfl h5z) rfl ?_) | (at_builtin; refine wpList_append_own _ rfl (.tmp 52) (.tmp 53) 25 rfl w.heap.size 53 i0 (.agg #[.int .i64 0, .string ByteArray.empty, .string ByteArray.empty, .int .i64 0, .int .i64 0]) 5 56 Try.underlying25 HI.out.1 HI.out.2.1 HI.out.2.2.1 HI.out.2.2.2 rfl (by decide) (.slice (some ⟨w5.heap.size, 0, none⟩) 1 1) 1 (([⟨2, x, noT, 0, 0⟩] : List Nd).flatMap Nd.cells) rfl (nd_lit w5 ⟨2, x, noT, 0, 0⟩ w.heap.size w5.heap.size rfl h5z) ⟨g5, o5, none⟩ RL cap5 (r.flatMap Nd.cells) rfl (by rw [flat_len Nd.cells 5 Nd.cells_len, hRL]) (fun j u hj => by rw [addr_add]; exact row_cells (hrow5.block ((malloc1 w5 _).block g5 hg5w)) j u hj) (nds_one r) (by unfold maxLen; omega) (by omega) (by simp; omega) ?_; intro v6 w6 hown6 hgr6 _; have HO6 := hide hown6; have HB6 : Hid (Below w.heap.size w w6) := hide ((HB5.out.trans ((malloc1 w5 _).mono h5z)).trans ((grownBy_apart hgr6).below (by simp; omega) (owns_fresh (nd_lit w5 ⟨2, x, noT, 0, 0⟩ w.heap.size w5.heap.size rfl h5z)).lo)); obtain ⟨p6, c6, rfl⟩ := owns_shape hown6; clear hown6 hgr6)))
      · go_ret2
        rw [HP.out]
        refine ⟨_, [⟨2, x, noT, 0, 0⟩], ret2_bool ?_, (nd_lit w5 ⟨2, x, noT, 0, 0⟩ w.heap.size w5.heap.size rfl h5z).rdS (by simp), fun z hz => ?_, .inr (by simp), by have := HLN.out; simp; omega, HB5.out.trans ((malloc1 w5 _).mono h5z)⟩
        · show (om.map (Pn.loop x)).isSome = _
          cases om <;> rfl
        · have hz' : om.map (Pn.loop x) = some z := hz
          cases om with
          | none => cases hz'
          | some y =>
            have := H5B.out y rfl
            rw [hnr] at this
            have hy := row_pos n y
            rw [← this] at hy
            simp at hy
      · go_ret2
        rw [HP.out]
        have hown : NdOwn w6 w.heap.size (.slice p6 (1 + RL) c6) ([⟨2, x, noT, 0, 0⟩] ++ r) := NdOwn.snoc (by rw [hRL]; exact HO6.out)
        refine ⟨.slice p6 (1 + RL) c6, [⟨2, x, noT, 0, 0⟩] ++ r, ret2_bool ?_, hown.rdS (by have := HQL.out; have := H5D.out; rw [List.length_append]; simp; omega), fun z hz => ?_, .inr (by simp), by have := HLN.out; have := H5D.out; rw [List.length_append]; simp; omega, HB6.out⟩
        · show (om.map (Pn.loop x)).isSome = _
          cases om <;> rfl
        · have hz' : om.map (Pn.loop x) = some z := hz
          cases om with
          | none => cases hz'
          | some y =>
            simp only [Option.map_some, Option.some.injEq] at hz'
            subst hz'
            rw [H5B.out y rfl, row_loop]
            rfl
    · go_enter Try.func51, Try.ntmps51
      go_wp2_with (first
        | (go_at_call 73; refine (HBH.out _ (malloc1 _ _)).mono ?_; rintro e w1 ⟨rfl, hb1⟩; have HB1 : Hid (Below w.heap.size w w1) := hide ((malloc1 w _).trans (hb1.mono (by simp))); have HC1 := hide hb1; clear hb1)
        | (go_at_call 74; refine (HTL.out _ HB1.out).mono ?_; rintro e w2 ⟨rfl, hb2⟩; have HB2 : Hid (Below w.heap.size w w2) := hide (HB1.out.trans (hb2.mono HB1.out.size)); have HC2 := hide (HC1.out.trans (hb2.mono HC1.out.size)); clear hb2)
        | (go_at_call 75; refine (HCL.out _ HB2.out).mono ?_; rintro e w3 ⟨rfl, hb3⟩; have HB3 : Hid (Below w.heap.size w w3) := hide (HB2.out.trans (hb3.mono HB2.out.size)); have HC3 := hide (HC2.out.trans (hb3.mono HC2.out.size)); clear hb3))
      go_ret2
      rw [HP.out]
      exact ⟨_, [⟨0, noT, noT, 0, 0⟩], rfl, (nd_lit w3 ⟨0, noT, noT, 0, 0⟩ w.heap.size w3.heap.size rfl HB3.out.size).rdS (by simp), (fun z hz => by have hz' : some (Pn.leaf none) = some z := hz; injection hz' with hz'; subst hz'; rfl), .inr (by simp), by simp; omega, HB3.out.trans ((malloc1 w3 _).mono HB3.out.size)⟩
  · go_enter Try.func51, Try.ntmps51
    go_wp2_with (first
      | (go_at_call 73; refine (HBH.out _ (malloc1 _ _)).mono ?_; rintro e w1 ⟨rfl, hb1⟩; have HB1 : Hid (Below w.heap.size w w1) := hide ((malloc1 w _).trans (hb1.mono (by simp))); have HC1 := hide hb1; clear hb1)
      | (go_at_call 74; refine (HTL.out _ HB1.out).mono ?_; rintro e w2 ⟨rfl, hb2⟩; have HB2 : Hid (Below w.heap.size w w2) := hide (HB1.out.trans (hb2.mono HB1.out.size)); have HC2 := hide (HC1.out.trans (hb2.mono HC1.out.size)); clear hb2)
      | (go_at_call 51; refine (HIH.out _ HB2.out).mono ?_; rintro e w5 ⟨qv, r, rfl, h5a, h5b, h5c, h5d, h5e⟩; have H5A := hide h5a; have H5B := hide h5b; have H5D := hide h5d; have HB5 : Hid (Below w.heap.size w w5) := hide (HB2.out.trans (h5e.mono HB2.out.size)); have HC5 := hide (HC2.out.trans (h5e.mono HC2.out.size)); have n0 := HC5.out.cell (p := ⟨w.heap.size, 0, none⟩) (by simp); have n1 := HC5.out.cell (p := ⟨w.heap.size, 1, none⟩) (by simp); have n2 := HC5.out.cell (p := ⟨w.heap.size, 2, none⟩) (by simp); have n3 := HC5.out.cell (p := ⟨w.heap.size, 3, none⟩) (by simp); have n4 := HC5.out.cell (p := ⟨w.heap.size, 4, none⟩) (by simp); simp at n0 n1 n2 n3 n4; have h5z := HB5.out.size; have H53 := hide h5e.size; clear h5b h5d h5e; rcases of_shape h5a h5c with ⟨rfl, hnr⟩ | ⟨g5, o5, cap5, RL, rfl, hRL, hl0, hl5, hg5w, hrow5⟩)
      | (first | (at_builtin; refine wpList_append_own_none rfl (.tmp 52) (.tmp 53) 25 rfl w.heap.size 53 i0 5 Try.underlying25 HI.out.1 (.slice (some ⟨w5.heap.size, 0, none⟩) 1 1) 1 (([⟨2, x, noT, 0, 0⟩] : List Nd).flatMap Nd.cells) rfl (nd_lit w5 ⟨2, x, noT, 0, 0⟩ w.heap.size w5.heap.size rfl h5z) rfl ?_) | (at_builtin; refine wpList_append_own _ rfl (.tmp 52) (.tmp 53) 25 rfl w.heap.size 53 i0 (.agg #[.int .i64 0, .string ByteArray.empty, .string ByteArray.empty, .int .i64 0, .int .i64 0]) 5 56 Try.underlying25 HI.out.1 HI.out.2.1 HI.out.2.2.1 HI.out.2.2.2 rfl (by decide) (.slice (some ⟨w5.heap.size, 0, none⟩) 1 1) 1 (([⟨2, x, noT, 0, 0⟩] : List Nd).flatMap Nd.cells) rfl (nd_lit w5 ⟨2, x, noT, 0, 0⟩ w.heap.size w5.heap.size rfl h5z) ⟨g5, o5, none⟩ RL cap5 (r.flatMap Nd.cells) rfl (by rw [flat_len Nd.cells 5 Nd.cells_len, hRL]) (fun j u hj => by rw [addr_add]; exact row_cells (hrow5.block ((malloc1 w5 _).block g5 hg5w)) j u hj) (nds_one r) (by unfold maxLen; omega) (by omega) (by simp; omega) ?_; intro v6 w6 hown6 hgr6 _; have HO6 := hide hown6; have HB6 : Hid (Below w.heap.size w w6) := hide ((HB5.out.trans ((malloc1 w5 _).mono h5z)).trans ((grownBy_apart hgr6).below (by simp; omega) (owns_fresh (nd_lit w5 ⟨2, x, noT, 0, 0⟩ w.heap.size w5.heap.size rfl h5z)).lo)); obtain ⟨p6, c6, rfl⟩ := owns_shape hown6; clear hown6 hgr6)))
    · go_ret2
      rw [HP.out]
      refine ⟨_, [⟨2, x, noT, 0, 0⟩], ret2_bool ?_, (nd_lit w5 ⟨2, x, noT, 0, 0⟩ w.heap.size w5.heap.size rfl h5z).rdS (by simp), fun z hz => ?_, .inr (by simp), by have := HLN.out; simp; omega, HB5.out.trans ((malloc1 w5 _).mono h5z)⟩
      · show (om.map (Pn.loop x)).isSome = _
        cases om <;> rfl
      · have hz' : om.map (Pn.loop x) = some z := hz
        cases om with
        | none => cases hz'
        | some y =>
          have := H5B.out y rfl
          rw [hnr] at this
          have hy := row_pos n y
          rw [← this] at hy
          simp at hy
    · go_ret2
      rw [HP.out]
      have hown : NdOwn w6 w.heap.size (.slice p6 (1 + RL) c6) ([⟨2, x, noT, 0, 0⟩] ++ r) := NdOwn.snoc (by rw [hRL]; exact HO6.out)
      refine ⟨.slice p6 (1 + RL) c6, [⟨2, x, noT, 0, 0⟩] ++ r, ret2_bool ?_, hown.rdS (by have := HQL.out; have := H5D.out; rw [List.length_append]; simp; omega), fun z hz => ?_, .inr (by simp), by have := HLN.out; have := H5D.out; rw [List.length_append]; simp; omega, HB6.out⟩
      · show (om.map (Pn.loop x)).isSome = _
        cases om <;> rfl
      · have hz' : om.map (Pn.loop x) = some z := hz
        cases om with
        | none => cases hz'
        | some y =>
          simp only [Option.map_some, Option.some.injEq] at hz'
          subst hz'
          rw [H5B.out y rfl, row_loop]
          rfl
end Go.Proofs.Ytmlkfnclniamiaa
