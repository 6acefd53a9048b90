import Derived.Test.YtlbcnmcfljaijaaQF37
namespace Go.Proofs.Ytlbcnmcfljaijaa
open Go.RowKit
attribute [local go_sem ↓] Go.wp_at_zero Go.wp_at_succ

def OfAns (n len : Nat) (w w' : World) (e : Ending) (o : Option (Pn n)) : Prop := ∃ q r, e = .returned (.tuple #[q, .bool o.isSome]) ∧ RdW w' (btF w.heap.size w') q r ∧ (∀ z, o = some z → r = rowN n z) ∧ (q = .slice none 0 0 ∨ 0 < r.length) ∧ r.length ≤ 900 + len ∧ Below w.heap.size w w'
def OfCalls (role : ByteArray) (n : Nat) : Prop := ∀ (p : Pn n) (all post : List Nd) (pos : Nat) (v : Value) (w : World) (S : Nat → Prop), (∀ g, S g → g < w.heap.size) → planN n p → all.length ≤ 40 → all.drop pos = rowN n p ++ post → RdW w S v all → Calls Try.prog 42 #[v, .int .i64 pos, .string role] w fun e w' => OfAns n (rowN n p).length w w' e (partN role n p)
set_option maxRecDepth 100000 in
set_option maxHeartbeats 1000000 in
theorem of_leaf (role : ByteArray) (x : Option ByteArray) (all post : List Nd) (pos : Nat) (v : Value) (w : World) (S : Nat → Prop) (hS : ∀ g, S g → g < w.heap.size) (_hl : all.length ≤ 40) (h : all.drop pos = leafRow x ++ post) (hv : RdW w S v all) : Calls Try.prog 42 #[v, .int .i64 pos, .string role] w fun e w' => ∃ q, e = .returned (.tuple #[q, .bool true]) ∧ RdW w' (btF w.heap.size w') q (leafRow x) ∧ Below w.heap.size w w' := by
  obtain ⟨nd, hr, hop⟩ : ∃ nd, leafRow x = [nd] ∧ (nd.op = 0 ∨ nd.op = 1) := by
    cases x with
    | none => exact ⟨_, rfl, .inl rfl⟩
    | some x => exact ⟨_, rfl, .inr rfl⟩
  rw [hr] at h ⊢
  obtain ⟨hp, hn, -⟩ := drop_next h
  obtain ⟨ao, cap, rfl, hc, hm, -, hrow⟩ := hv
  obtain ⟨g, o, rfl, hg, hrow⟩ := hrow (fun e => by rw [e] at hp; simp at hp)
  have hnode := hrow.get pos hp
  rw [hn] at hnode
  have hgw := hS g hg
  have HFIN : Hid (∀ (W : World) (b : Nat), b = W.heap.size → w.heap.size ≤ W.heap.size → RdW (W.alloc (.cells #[.int .i64 nd.op, .string nd.name, .string nd.peer, .int .i64 nd.many, .int .i64 nd.sort] 87)) (btF w.heap.size (W.alloc (.cells #[.int .i64 nd.op, .string nd.name, .string nd.peer, .int .i64 nd.many, .int .i64 nd.sort] 87))) (.slice (some ⟨b, 0, none⟩) 1 1) [nd]) := hide (fun W b hb hW => (nd_lit W nd w.heap.size b hb hW).rdS (by simp))
  obtain ⟨op, name, peer, many, sort⟩ := nd
  dsimp only at hop HFIN
  obtain ⟨c0, c1, c2, c3, c4⟩ := hnode
  dsimp only at c0 c1 c2 c3 c4
  obtain ⟨M, hM⟩ : ∃ M, all.length = M := ⟨_, rfl⟩
  rw [hM] at hp hc ⊢
  clear hrow hn hr h hS hM
  rcases hop with rfl | rfl
  all_goals
    go_enter Try.func42, Try.ntmps42
    go_wp2_with fail
    go_ret2
    exact ⟨_, rfl, HFIN.out _ _ (by simp) (by simp), (malloc1 w _).trans ((malloc1 _ _).mono (by simp))⟩
theorem leaf_ans {role : ByteArray} {x : Option ByteArray} {all post : List Nd} {pos : Nat} {v : Value} {w : World} {S : Nat → Prop} (hS : ∀ g, S g → g < w.heap.size) (hl : all.length ≤ 40) (h : all.drop pos = leafRow x ++ post) (hv : RdW w S v all) {n : Nat} {z0 : Pn n} (hz : rowN n z0 = leafRow x) : Calls Try.prog 42 #[v, .int .i64 pos, .string role] w fun e w' => OfAns n (leafRow x).length w w' e (some z0) := by
  refine (of_leaf role x all post pos v w S hS hl h hv).mono ?_
  rintro e w' ⟨q, rfl, h1, h2⟩
  exact ⟨q, leafRow x, rfl, h1, (fun z hz' => by injection hz' with hz'; subst hz'; exact hz.symm), .inr (leaf_pos x), by omega, h2⟩
theorem of_shape {w : World} {a : Nat} {q : Value} {r : List Nd} (h : RdW w (btF a w) q r) (hc : q = .slice none 0 0 ∨ 0 < r.length) : (q = .slice none 0 0 ∧ r = []) ∨ ∃ g o c L, q = .slice (some ⟨g, o, none⟩) L c ∧ r.length = L ∧ 0 < L ∧ L ≤ 2000 ∧ g < w.heap.size ∧ RowAt w g o r := by
  obtain ⟨ao, cap, e, hc1, hm, hl, hr⟩ := h
  rcases hc with hc | hc
  · rw [hc] at e
    injection e with _ e _
    exact .inl ⟨hc, List.length_eq_zero_iff.1 e.symm⟩
  · obtain ⟨g, o, e2, hg, hrow⟩ := hr (fun e => by rw [e] at hc; simp at hc)
    exact .inr ⟨g, o, cap, r.length, by rw [e, e2], rfl, hc, hl, hg.2.1, hrow⟩
theorem role_loop (role x : ByteArray) (r : List Nd) : hasRole role (⟨2, x, noT, 0, 0⟩ :: r) = hasRole role r := by
  rw [has_any, has_any, List.any_cons]
  rfl
set_option maxRecDepth 100000 in
set_option maxHeartbeats 2000000 in
theorem of_loop (role : ByteArray) (n : Nat) (ih : OfCalls role n) (x : ByteArray) (q : Pn n) (hq : planN n q) (all post : List Nd) (pos : Nat) (v : Value) (w : World) (S : Nat → Prop) (hS : ∀ g, S g → g < w.heap.size) (hl : all.length ≤ 40) (h : all.drop pos = rowN (n + 1) (.loop x q) ++ post) (hv : RdW w S v all) : Calls Try.prog 42 #[v, .int .i64 pos, .string role] w fun e w' => OfAns (n + 1) (rowN (n + 1) (.loop x q)).length w w' e (partN role (n + 1) (.loop x q)) := by
  obtain ⟨i0, hi, hz0, hz1, hz2⟩ := info_parts Try.infoNd
  have HI := hide (And.intro hi (And.intro hz0 (And.intro hz1 hz2)))
  have hrl := row_loop x q
  obtain ⟨ALL, hALL⟩ : ∃ ALL, rowN (n + 1) (.loop x q) = ALL := ⟨_, rfl⟩
  have hsh : shapeN (n + 1) (.loop x q) := plan_shape n q hq
  have HW := fun (W : World) (hW : Below w.heap.size w W) => (⟨fun g hg => Nat.lt_of_lt_of_le (hS g hg) hW.size, hv.on hS hW⟩ : (∀ g, S g → g < W.heap.size) ∧ RdW W S v all)
  obtain ⟨hp, hn, h1⟩ := drop_next (show all.drop pos = ⟨2, x, noT, 0, 0⟩ :: rowN n q ++ post by rw [h, hrl])
  obtain ⟨T, hT⟩ : ∃ T, pos + 1 + (rowN n q).length = T := ⟨_, rfl⟩
  have HBH : Hid (∀ W, Below w.heap.size w W → Calls Try.prog 56 #[v, .int .i64 pos] W fun e w' => e = .returned (.int .i64 (T : Int)) ∧ Below W.heap.size W w') := hide (fun W hW => by
    have := behind_calls (n + 1) (.loop x q) all post pos v W S (HW W hW).1 hsh (by omega) h (HW W hW).2
    rw [show pos + (rowN (n + 1) (.loop x q)).length = T by rw [hrl, List.length_cons]; omega] at this
    exact this)
  obtain ⟨q1, hq1⟩ : ∃ q1, hasRole role (rowN n q) = q1 := ⟨_, rfl⟩
  obtain ⟨q2, hq2⟩ : ∃ q2, closedL [] ALL = q2 := ⟨_, rfl⟩
  have HTL : Hid (∀ W, Below w.heap.size w W → Calls Try.prog 57 #[v, .int .i64 ((pos : Int) + 1), .int .i64 (T : Int), .string role] W fun e w' => e = .returned (.bool q1) ∧ Below W.heap.size W w') := hide (fun W hW => by
    have := s_talks role all (rowN n q) post (pos + 1) v W S (HW W hW).1 (by omega) (by omega) h1 (HW W hW).2
    rw [hT, hq1] at this
    exact this)
  have HCL : Hid (∀ W, Below w.heap.size w W → Calls Try.prog 58 #[v, .int .i64 pos, .int .i64 (T : Int)] W fun e w' => e = .returned (.bool q2) ∧ Below W.heap.size W w') := hide (fun W hW => by
    have := s_closed all (rowN (n + 1) (.loop x q)) post pos v W S (HW W hW).1 (by omega) (by omega) h (HW W hW).2
    rw [show pos + (rowN (n + 1) (.loop x q)).length = T by rw [hrl, List.length_cons]; omega, hALL, hq2] at this
    exact this)
  have HIH : Hid (∀ W, Below w.heap.size w W → Calls Try.prog 42 #[v, .int .i64 ((pos : Int) + 1), .string role] W fun e w' => OfAns n (rowN n q).length W w' e (partN role n q)) := hide (fun W hW => ih q all post (pos + 1) v W S (HW W hW).1 hq hl h1 (HW W hW).2)
  obtain ⟨om, hom⟩ : ∃ om, partN role n q = om := ⟨_, rfl⟩
  have HP : Hid (partN role (n + 1) (.loop x q) = if !q1 && q2 then some (.leaf none) else om.map (Pn.loop x)) := hide (by
    show (if (!hasRole role (rowN (n + 1) (.loop x q)) && closedL [] (rowN (n + 1) (.loop x q))) then some (Pn.leaf none) else (partN role n q).map (Pn.loop x)) = _
    rw [hom, hALL, hq2, ← hALL, hrl, role_loop, hq1])
  rw [hom] at HIH
  have HLN : Hid ((rowN (n + 1) (.loop x q)).length = (rowN n q).length + 1) := hide (by rw [hrl]; rfl)
  have hp40 : pos < 40 := by omega
  have hT40 : T ≤ 40 := by have := drop_len h1 (fun e => by have := row_pos n q; rw [e] at this; simp at this); omega
  have HQL : Hid ((rowN n q).length ≤ 40) := hide (by omega)
  obtain ⟨ao, cap, rfl, hc, hm, -, hrow⟩ := hv
  obtain ⟨g, o, rfl, hg, hrow⟩ := hrow (fun e => by rw [e] at hp; simp at hp)
  have hnode := hrow.get pos hp
  rw [hn] at hnode
  obtain ⟨c0, c1, c2, c3, c4⟩ := hnode
  dsimp only at c0 c1 c2 c3 c4
  have hgw := hS g hg
  obtain ⟨M, hM⟩ : ∃ M, all.length = M := ⟨_, rfl⟩
  rw [hM] at hp hl hc HBH HTL HCL HIH ⊢
  clear hrow hn h h1 hS hM ih HW hq1 hq2 hom hALL hrl hT hi hz0 hz1 hz2
  cases q1
  · cases q2
    · go_enter Try.func42, Try.ntmps42
      go_wp2_with (first
        | (go_at_call 56; refine (HBH.out _ (malloc1 _ _)).mono ?_; rintro e w1 ⟨rfl, hb1⟩; have HB1 : Hid (Below w.heap.size w w1) := hide ((malloc1 w _).trans (hb1.mono (by simp))); have HC1 := hide hb1; clear hb1)
        | (go_at_call 57; refine (HTL.out _ HB1.out).mono ?_; rintro e w2 ⟨rfl, hb2⟩; have HB2 : Hid (Below w.heap.size w w2) := hide (HB1.out.trans (hb2.mono HB1.out.size)); have HC2 := hide (HC1.out.trans (hb2.mono HC1.out.size)); clear hb2)
        | (go_at_call 58; refine (HCL.out _ HB2.out).mono ?_; rintro e w3 ⟨rfl, hb3⟩; have HB3 : Hid (Below w.heap.size w w3) := hide (HB2.out.trans (hb3.mono HB2.out.size)); have HC3 := hide (HC2.out.trans (hb3.mono HC2.out.size)); clear hb3)
        | (go_at_call 42; refine (HIH.out _ HB3.out).mono ?_; rintro e w5 ⟨qv, r, rfl, h5a, h5b, h5c, h5d, h5e⟩; have H5A := hide h5a; have H5B := hide h5b; have H5D := hide h5d; have HB5 : Hid (Below w.heap.size w w5) := hide (HB3.out.trans (h5e.mono HB3.out.size)); have HC5 := hide (HC3.out.trans (h5e.mono HC3.out.size)); have n0 := HC5.out.cell (p := ⟨w.heap.size, 0, none⟩) (by simp); have n1 := HC5.out.cell (p := ⟨w.heap.size, 1, none⟩) (by simp); have n2 := HC5.out.cell (p := ⟨w.heap.size, 2, none⟩) (by simp); have n3 := HC5.out.cell (p := ⟨w.heap.size, 3, none⟩) (by simp); have n4 := HC5.out.cell (p := ⟨w.heap.size, 4, none⟩) (by simp); simp at n0 n1 n2 n3 n4; have h5z := HB5.out.size; have H53 := hide h5e.size; clear h5b h5d h5e; rcases of_shape h5a h5c with ⟨rfl, hnr⟩ | ⟨g5, o5, cap5, RL, rfl, hRL, hl0, hl5, hg5w, hrow5⟩)
        | (first | (at_builtin; refine wpList_append_own_none rfl (.tmp 52) (.tmp 53) 61 rfl w.heap.size 87 i0 5 Try.underlying61 HI.out.1 (.slice (some ⟨w5.heap.size, 0, none⟩) 1 1) 1 (([⟨2, x, noT, 0, 0⟩] : List Nd).flatMap Nd.cells) rfl (nd_lit w5 ⟨2, x, noT, 0, 0⟩ w.heap.size w5.heap.size rfl h5z) rfl ?_) | (at_builtin; refine wpList_append_own _ rfl (.tmp 52) (.tmp 53) 61 rfl w.heap.size 87 i0 (.agg #[.int .i64 0, .string ByteArray.empty, .string ByteArray.empty, .int .i64 0, .int .i64 0]) 5 56 Try.underlying61 HI.out.1 HI.out.2.1 HI.out.2.2.1 HI.out.2.2.2 rfl (by decide) (.slice (some ⟨w5.heap.size, 0, none⟩) 1 1) 1 (([⟨2, x, noT, 0, 0⟩] : List Nd).flatMap Nd.cells) rfl (nd_lit w5 ⟨2, x, noT, 0, 0⟩ w.heap.size w5.heap.size rfl h5z) ⟨g5, o5, none⟩ RL cap5 (r.flatMap Nd.cells) rfl (by rw [flat_len Nd.cells 5 Nd.cells_len, hRL]) (fun j u hj => by rw [addr_add]; exact row_cells (hrow5.block ((malloc1 w5 _).block g5 hg5w)) j u hj) (nds_one r) (by unfold maxLen; omega) (by omega) (by simp; omega) ?_; intro v6 w6 hown6 hgr6 _; have HO6 := hide hown6; have HB6 : Hid (Below w.heap.size w w6) := hide ((HB5.out.trans ((malloc1 w5 _).mono h5z)).trans ((grownBy_apart hgr6).below (by simp; omega) (owns_fresh (nd_lit w5 ⟨2, x, noT, 0, 0⟩ w.heap.size w5.heap.size rfl h5z)).lo)); obtain ⟨p6, c6, rfl⟩ := owns_shape hown6; clear hown6 hgr6)))
      · go_ret2
        rw [HP.out]
        refine ⟨_, [⟨2, x, noT, 0, 0⟩], ret2_bool ?_, (nd_lit w5 ⟨2, x, noT, 0, 0⟩ w.heap.size w5.heap.size rfl h5z).rdS (by simp), fun z hz => ?_, .inr (by simp), by have := HLN.out; simp; omega, HB5.out.trans ((malloc1 w5 _).mono h5z)⟩
        · show (om.map (Pn.loop x)).isSome = _
          cases om <;> rfl
        · have hz' : om.map (Pn.loop x) = some z := hz
          cases om with
          | none => cases hz'
          | some y =>
            have := H5B.out y rfl
            rw [hnr] at this
            have hy := row_pos n y
            rw [← this] at hy
            simp at hy
      · go_ret2
        rw [HP.out]
        have hown : NdOwn w6 w.heap.size (.slice p6 (1 + RL) c6) ([⟨2, x, noT, 0, 0⟩] ++ r) := NdOwn.snoc (by rw [hRL]; exact HO6.out)
        refine ⟨.slice p6 (1 + RL) c6, [⟨2, x, noT, 0, 0⟩] ++ r, ret2_bool ?_, hown.rdS (by have := HQL.out; have := H5D.out; rw [List.length_append]; simp; omega), fun z hz => ?_, .inr (by simp), by have := HLN.out; have := H5D.out; rw [List.length_append]; simp; omega, HB6.out⟩
        · show (om.map (Pn.loop x)).isSome = _
          cases om <;> rfl
        · have hz' : om.map (Pn.loop x) = some z := hz
          cases om with
          | none => cases hz'
          | some y =>
            simp only [Option.map_some, Option.some.injEq] at hz'
            subst hz'
            rw [H5B.out y rfl, row_loop]
            rfl
    · go_enter Try.func42, Try.ntmps42
      go_wp2_with (first
        | (go_at_call 56; refine (HBH.out _ (malloc1 _ _)).mono ?_; rintro e w1 ⟨rfl, hb1⟩; have HB1 : Hid (Below w.heap.size w w1) := hide ((malloc1 w _).trans (hb1.mono (by simp))); have HC1 := hide hb1; clear hb1)
        | (go_at_call 57; refine (HTL.out _ HB1.out).mono ?_; rintro e w2 ⟨rfl, hb2⟩; have HB2 : Hid (Below w.heap.size w w2) := hide (HB1.out.trans (hb2.mono HB1.out.size)); have HC2 := hide (HC1.out.trans (hb2.mono HC1.out.size)); clear hb2)
        | (go_at_call 58; refine (HCL.out _ HB2.out).mono ?_; rintro e w3 ⟨rfl, hb3⟩; have HB3 : Hid (Below w.heap.size w w3) := hide (HB2.out.trans (hb3.mono HB2.out.size)); have HC3 := hide (HC2.out.trans (hb3.mono HC2.out.size)); clear hb3))
      go_ret2
      rw [HP.out]
      exact ⟨_, [⟨0, noT, noT, 0, 0⟩], rfl, (nd_lit w3 ⟨0, noT, noT, 0, 0⟩ w.heap.size w3.heap.size rfl HB3.out.size).rdS (by simp), (fun z hz => by have hz' : some (Pn.leaf none) = some z := hz; injection hz' with hz'; subst hz'; rfl), .inr (by simp), by simp; omega, HB3.out.trans ((malloc1 w3 _).mono HB3.out.size)⟩
  · go_enter Try.func42, Try.ntmps42
    go_wp2_with (first
      | (go_at_call 56; refine (HBH.out _ (malloc1 _ _)).mono ?_; rintro e w1 ⟨rfl, hb1⟩; have HB1 : Hid (Below w.heap.size w w1) := hide ((malloc1 w _).trans (hb1.mono (by simp))); have HC1 := hide hb1; clear hb1)
      | (go_at_call 57; refine (HTL.out _ HB1.out).mono ?_; rintro e w2 ⟨rfl, hb2⟩; have HB2 : Hid (Below w.heap.size w w2) := hide (HB1.out.trans (hb2.mono HB1.out.size)); have HC2 := hide (HC1.out.trans (hb2.mono HC1.out.size)); clear hb2)
      | (go_at_call 42; refine (HIH.out _ HB2.out).mono ?_; rintro e w5 ⟨qv, r, rfl, h5a, h5b, h5c, h5d, h5e⟩; have H5A := hide h5a; have H5B := hide h5b; have H5D := hide h5d; have HB5 : Hid (Below w.heap.size w w5) := hide (HB2.out.trans (h5e.mono HB2.out.size)); have HC5 := hide (HC2.out.trans (h5e.mono HC2.out.size)); have n0 := HC5.out.cell (p := ⟨w.heap.size, 0, none⟩) (by simp); have n1 := HC5.out.cell (p := ⟨w.heap.size, 1, none⟩) (by simp); have n2 := HC5.out.cell (p := ⟨w.heap.size, 2, none⟩) (by simp); have n3 := HC5.out.cell (p := ⟨w.heap.size, 3, none⟩) (by simp); have n4 := HC5.out.cell (p := ⟨w.heap.size, 4, none⟩) (by simp); simp at n0 n1 n2 n3 n4; have h5z := HB5.out.size; have H53 := hide h5e.size; clear h5b h5d h5e; rcases of_shape h5a h5c with ⟨rfl, hnr⟩ | ⟨g5, o5, cap5, RL, rfl, hRL, hl0, hl5, hg5w, hrow5⟩)
      | (first | (at_builtin; refine wpList_append_own_none rfl (.tmp 52) (.tmp 53) 61 rfl w.heap.size 87 i0 5 Try.underlying61 HI.out.1 (.slice (some ⟨w5.heap.size, 0, none⟩) 1 1) 1 (([⟨2, x, noT, 0, 0⟩] : List Nd).flatMap Nd.cells) rfl (nd_lit w5 ⟨2, x, noT, 0, 0⟩ w.heap.size w5.heap.size rfl h5z) rfl ?_) | (at_builtin; refine wpList_append_own _ rfl (.tmp 52) (.tmp 53) 61 rfl w.heap.size 87 i0 (.agg #[.int .i64 0, .string ByteArray.empty, .string ByteArray.empty, .int .i64 0, .int .i64 0]) 5 56 Try.underlying61 HI.out.1 HI.out.2.1 HI.out.2.2.1 HI.out.2.2.2 rfl (by decide) (.slice (some ⟨w5.heap.size, 0, none⟩) 1 1) 1 (([⟨2, x, noT, 0, 0⟩] : List Nd).flatMap Nd.cells) rfl (nd_lit w5 ⟨2, x, noT, 0, 0⟩ w.heap.size w5.heap.size rfl h5z) ⟨g5, o5, none⟩ RL cap5 (r.flatMap Nd.cells) rfl (by rw [flat_len Nd.cells 5 Nd.cells_len, hRL]) (fun j u hj => by rw [addr_add]; exact row_cells (hrow5.block ((malloc1 w5 _).block g5 hg5w)) j u hj) (nds_one r) (by unfold maxLen; omega) (by omega) (by simp; omega) ?_; intro v6 w6 hown6 hgr6 _; have HO6 := hide hown6; have HB6 : Hid (Below w.heap.size w w6) := hide ((HB5.out.trans ((malloc1 w5 _).mono h5z)).trans ((grownBy_apart hgr6).below (by simp; omega) (owns_fresh (nd_lit w5 ⟨2, x, noT, 0, 0⟩ w.heap.size w5.heap.size rfl h5z)).lo)); obtain ⟨p6, c6, rfl⟩ := owns_shape hown6; clear hown6 hgr6)))
    · go_ret2
      rw [HP.out]
      refine ⟨_, [⟨2, x, noT, 0, 0⟩], ret2_bool ?_, (nd_lit w5 ⟨2, x, noT, 0, 0⟩ w.heap.size w5.heap.size rfl h5z).rdS (by simp), fun z hz => ?_, .inr (by simp), by have := HLN.out; simp; omega, HB5.out.trans ((malloc1 w5 _).mono h5z)⟩
      · show (om.map (Pn.loop x)).isSome = _
        cases om <;> rfl
      · have hz' : om.map (Pn.loop x) = some z := hz
        cases om with
        | none => cases hz'
        | some y =>
          have := H5B.out y rfl
          rw [hnr] at this
          have hy := row_pos n y
          rw [← this] at hy
          simp at hy
    · go_ret2
      rw [HP.out]
      have hown : NdOwn w6 w.heap.size (.slice p6 (1 + RL) c6) ([⟨2, x, noT, 0, 0⟩] ++ r) := NdOwn.snoc (by rw [hRL]; exact HO6.out)
      refine ⟨.slice p6 (1 + RL) c6, [⟨2, x, noT, 0, 0⟩] ++ r, ret2_bool ?_, hown.rdS (by have := HQL.out; have := H5D.out; rw [List.length_append]; simp; omega), fun z hz => ?_, .inr (by simp), by have := HLN.out; have := H5D.out; rw [List.length_append]; simp; omega, HB6.out⟩
      · show (om.map (Pn.loop x)).isSome = _
        cases om <;> rfl
      · have hz' : om.map (Pn.loop x) = some z := hz
        cases om with
        | none => cases hz'
        | some y =>
          simp only [Option.map_some, Option.some.injEq] at hz'
          subst hz'
          rw [H5B.out y rfl, row_loop]
          rfl
end Go.Proofs.Ytlbcnmcfljaijaa
namespace Go.Proofs.Ytlbcnmcfljaijaa
open Go.RowKit
attribute [local go_sem ↓] Go.wp_at_zero Go.wp_at_succ

theorem parts_step {α : Type} {f : α → Option α} {acc l : List (Br α)} {k : Nat} (h : consO acc (partsBy f (l.drop k)) = partsBy f l) {d : Br α} (hd : l[k]? = some d) : partsBy f l = match f d.p with
    | none => none
    | some q => consO (acc ++ [⟨d.l, d.s, q⟩]) (partsBy f (l.drop (k + 1))) := by
  have hlt := (List.getElem?_eq_some_iff.1 hd).1
  have hde : l[k] = d := (List.getElem?_eq_some_iff.1 hd).2
  rw [← h, List.drop_eq_getElem_cons hlt, hde, partsBy]
  cases f d.p with
  | none => rfl
  | some q => cases partsBy f (l.drop (k + 1)) with
    | none => rfl
    | some r => simp [consO]
theorem case_atP {n : Nat} {all post : List Nd} {l : List (Br (Pn n))} {k p : Nat} {d : Br (Pn n)} (hd : l[k]? = some d) (h : all.drop p = brsBy (rowN n) (l.drop k) ++ post) : all[p]? = some ⟨4, d.l, noT, 0, d.s⟩ ∧ all.drop (p + 1) = rowN n d.p ++ (brsBy (rowN n) (l.drop (k + 1)) ++ post) ∧ all.drop (p + 1 + (rowN n d.p).length) = brsBy (rowN n) (l.drop (k + 1)) ++ post ∧ p + 1 + (rowN n d.p).length ≤ all.length := by
  have hlt := (List.getElem?_eq_some_iff.1 hd).1
  have hde : l[k] = d := (List.getElem?_eq_some_iff.1 hd).2
  rw [List.drop_eq_getElem_cons hlt, hde, brs_cons, List.cons_append, List.append_assoc] at h
  obtain ⟨hp1, hn1, h2⟩ := drop_next (r := rowN n d.p ++ brsBy (rowN n) (l.drop (k + 1))) (post := post) (by rw [h, List.cons_append, List.append_assoc])
  rw [List.append_assoc] at h2
  have hne2 : rowN n d.p ≠ [] := fun e => by have := row_pos n d.p; rw [e] at this; simp at this
  exact ⟨by rw [List.getElem?_eq_getElem hp1, hn1], h2, drop_more h2, by have := drop_len h2 hne2; omega⟩
theorem of_row {w : World} {S : Nat → Prop} {q : Value} {r : List Nd} (h : RdW w S q r) (hc : 0 < r.length) : ∃ g o c, q = .slice (some ⟨g, o, none⟩) r.length c ∧ S g ∧ RowAt w g o r := by
  obtain ⟨ao, cap, e, hc1, hm, hl, hr⟩ := h
  obtain ⟨g, o, e2, hg, hrow⟩ := hr (fun e => by rw [e] at hc; simp at hc)
  exact ⟨g, o, cap, by rw [e, e2], hg, hrow⟩
theorem beq_flip (a b : ByteArray) : (a.toList == b.toList) = (b.toList == a.toList) := by
  cases h : (a.toList == b.toList) with
  | true => rw [toListEq h]; simp
  | false => cases h' : (b.toList == a.toList) with
    | true => rw [toListEq h'] at h; simp at h
    | false => rfl
structure RoundK (role : ByteArray) (n : Nat) (w1 wr : World) (all post : List Nd) (l : List (Br (Pn n))) (hd : Nd) (Z : Nat) (ov : Value) (k p : Nat) (acc : List (Br (Pn n))) : Prop where
  same : consO acc (partsBy (partN role n) (l.drop k)) = partsBy (partN role n) l
  rest : all.drop p = brsBy (rowN n) (l.drop k) ++ post
  own : NdOwn wr Z ov (hd :: brsBy (rowN n) acc)
  sz : (brsBy (rowN n) acc).length + (brsBy (rowN n) (l.drop k)).length ≤ 39
  bel : Below Z w1 wr
  le : p ≤ all.length
set_option maxRecDepth 100000 in
set_option maxHeartbeats 4000000 in
theorem s_cases (role : ByteArray) (n : Nat) (ih : OfCalls role n) (a b : ByteArray) (l : List (Br (Pn n))) (hpl : planN (n + 1) (.talk ⟨3, a, b⟩ l)) (hside : (role.toList == a.toList) = true ∨ (role.toList == b.toList) = true) (all post : List Nd) (pos : Nat) (v : Value) (w : World) (S : Nat → Prop) (hS : ∀ g, S g → g < w.heap.size) (hl : all.length ≤ 40) (h : all.drop pos = rowN (n + 1) (.talk ⟨3, a, b⟩ l) ++ post) (hv : RdW w S v all) : Calls Try.prog 59 #[v, .int .i64 pos, .string role] w fun e w' => OfAns (n + 1) (rowN (n + 1) (.talk ⟨3, a, b⟩ l)).length w w' e (partN role (n + 1) (.talk ⟨3, a, b⟩ l)) := by
  obtain ⟨i0, hi, hz0, hz1, hz2⟩ := info_parts Try.infoNd
  have HI := hide (And.intro hi (And.intro hz0 (And.intro hz1 hz2)))
  have hpl' : (3 : Int) = 3 ∧ (a.toList == b.toList) = false ∧ 1 ≤ l.length ∧ l.length ≤ 4 ∧ ∀ b ∈ l, planN n b.p := hpl
  obtain ⟨-, hnab, hl1, hl4, hplan⟩ := hpl'
  rw [row_talk] at h
  obtain ⟨hp, hn, h1⟩ := drop_next h
  have HP := hide hplan
  have HW : Hid (∀ (W : World), Below w.heap.size w W → (∀ g, S g → g < W.heap.size) ∧ RdW W S v all) := hide (fun W hW => ⟨fun g hg => Nat.lt_of_lt_of_le (hS g hg) hW.size, hv.on hS hW⟩)
  have HIH : Hid (∀ (k p : Nat) (d : Br (Pn n)), l[k]? = some d → all.drop p = brsBy (rowN n) (l.drop k) ++ post → ∀ W, Below w.heap.size w W → Calls Try.prog 42 #[v, .int .i64 ((p : Int) + 1), .string role] W fun e w' => OfAns n (rowN n d.p).length W w' e (partN role n d.p)) := hide (fun k p d hd hr W hW => by
    obtain ⟨-, h2, -, -⟩ := case_atP hd hr
    exact ih d.p all _ (p + 1) v W S (HW.out W hW).1 (hplan d (List.mem_of_getElem? hd)) hl h2 (HW.out W hW).2)
  have HBH : Hid (∀ (k p : Nat) (d : Br (Pn n)), l[k]? = some d → all.drop p = brsBy (rowN n) (l.drop k) ++ post → ∀ W, Below w.heap.size w W → Calls Try.prog 56 #[v, .int .i64 ((p : Int) + 1)] W fun e w' => e = .returned (.int .i64 ((p + 1 + (rowN n d.p).length : Nat) : Int)) ∧ Below W.heap.size W w') := hide (fun k p d hd hr W hW => by
    obtain ⟨-, h2, -, -⟩ := case_atP hd hr
    exact behind_calls n d.p all _ (p + 1) v W S (HW.out W hW).1 (plan_shape n d.p (hplan d (List.mem_of_getElem? hd))) (by omega) h2 (HW.out W hW).2)
  have HH1 := hide h1
  have hbl : (brsBy (rowN n) l).length ≤ 39 := by have := congrArg List.length h1; rw [List.length_drop, List.length_append] at this; omega
  have HBL := hide hbl
  have HLN : Hid ((rowN (n + 1) (.talk ⟨3, a, b⟩ l)).length = (brsBy (rowN n) l).length + 1) := hide (by rw [row_talk]; rfl)
  have HPL : Hid (∀ r, partsBy (partN role n) l = some r → r.length = l.length) := hide (fun r hr => (parts_sz (f := rowN n) (Q := planN n) (fun x y hx hy => part_sz role n x y hx hy) l r hplan hr).2)
  obtain ⟨q2, hq2⟩ : ∃ q2, (b.toList == role.toList) = q2 := ⟨_, rfl⟩
  have HPT : Hid (partN role (n + 1) (.talk ⟨3, a, b⟩ l) = (partsBy (partN role n) l).map (Pn.talk (if q2 then ⟨6, noT, a⟩ else ⟨5, noT, b⟩))) := hide (by
    rw [part_talk]
    unfold talkP
    cases hpb : partsBy (partN role n) l with
    | none => rfl
    | some r =>
      have hb' : (role.toList == b.toList) = q2 := by rw [← beq_flip]; exact hq2
      cases q2 with
      | true =>
        have ha' : (role.toList == a.toList) = false := by
          cases hh : (role.toList == a.toList) with
          | false => rfl
          | true => rw [toListEq hh] at hb'; rw [hb'] at hnab; cases hnab
        simp only [ha', hb', Bool.false_eq_true, if_false, if_true, Option.map_some]
      | false =>
        have ha' : (role.toList == a.toList) = true := by
          rcases hside with hh | hh
          · exact hh
          · rw [hb'] at hh; cases hh
        simp only [ha', if_true, Option.map_some, Bool.false_eq_true, if_false])
  have HCD : Hid (∀ (k p : Nat) (d : Br (Pn n)), l[k]? = some d → all.drop p = brsBy (rowN n) (l.drop k) ++ post → ∀ W, Below w.heap.size w W → p < all.length ∧ ∃ g o cap, v = .slice (some ⟨g, o, none⟩) all.length cap ∧ NodeAt W g (o + p * 5) ⟨4, d.l, noT, 0, d.s⟩) := hide (fun k p d hd hr W hW => by
    obtain ⟨hg, -, -, -⟩ := case_atP hd hr
    obtain ⟨hpl, hnp⟩ := List.getElem?_eq_some_iff.1 hg
    obtain ⟨ao, cap, e, -, -, -, hrow⟩ := hv
    obtain ⟨g, o, e2, hgs, hrow2⟩ := hrow (fun e => by rw [e] at hpl; simp at hpl)
    have := (hrow2.get p hpl).carry (hS g hgs) hW
    rw [hnp] at this
    exact ⟨hpl, g, o, cap, by rw [e, e2], this⟩)
  obtain ⟨ao, cap, rfl, hc, hm, -, hrow⟩ := hv
  obtain ⟨g, o, rfl, hg, hrow⟩ := hrow (fun e => by rw [e] at hp; simp at hp)
  have hnode := hrow.get pos hp
  rw [hn] at hnode
  obtain ⟨c0, c1, c2, c3, c4⟩ := hnode
  dsimp only at c0 c1 c2 c3 c4
  have hgw := hS g hg
  obtain ⟨K, hK⟩ : ∃ K, l.length = K := ⟨_, rfl⟩
  rw [hK] at c3 hl1 hl4
  have HK := hide hK
  obtain ⟨M, hM⟩ : ∃ M, all.length = M := ⟨_, rfl⟩
  have HM := hide hM
  rw [hM] at hp hl hc HIH HBH HCD ⊢
  clear hrow hn h h1 hS hM hK ih hplan hi hz0 hz1 hz2 hside hbl
  cases q2
  · go_enter Try.func59, Try.ntmps59
    go_wp2_with fail
    go_loopw [1, 9, 10] (fun av ov kv wr => ∃ (k p : Nat) (acc : List (Br (Pn n))), k ≤ K ∧ kv = .int .i64 k ∧ av = .int .i64 p ∧ RoundK role n (w.alloc (.cells #[.int .i64 3, .string a, .string b, .int .i64 (K : Int), .int .i64 0] 87)) wr all post l ⟨5, noT, b, (K : Int), 0⟩ (w.heap.size + 1) ov k p acc) (fun _ _ kv _ => K - (intOf kv).toNat)
    case atStart => exact ⟨0, pos + 1, [], Nat.zero_le _, rfl, by go_num, ⟨by rw [List.drop_zero]; cases partsBy (partN role n) l <;> rfl, HH1.out, nd_lit _ ⟨5, noT, b, (K : Int), 0⟩ _ _ (by simp) (by simp), by have := HBL.out; simp [brsBy] at this ⊢; omega, (malloc1 _ _).mono (by simp), by rw [HM.out]; exact hp⟩⟩
    case round =>
      obtain ⟨k, p, acc, hk, rfl, rfl, hR⟩ := hrel
      have HR := hide hR
      have HBW : Hid (Below w.heap.size w wr) := hide ((malloc1 w _).trans (hR.bel.mono (by omega)))
      have hzw : w.heap.size + 1 ≤ wr.heap.size := by have := hR.bel.size; simpa using this
      have hple := hR.le
      rw [HM.out] at hple
      have m3 : wr.cell? ⟨w.heap.size, 3, none⟩ = some (.int .i64 (K : Int)) := (hR.bel.cell (p := ⟨w.heap.size, 3, none⟩) (by simp)).trans (by simp)
      obtain ⟨op, oc, hp0⟩ := owns_shape hR.own
      obtain ⟨X, hX⟩ : ∃ X, (⟨5, noT, b, (K : Int), 0⟩ :: brsBy (rowN n) acc : List Nd) = X := ⟨_, rfl⟩
      have HXL : Hid (X.length ≤ 40) := hide (by rw [← hX, List.length_cons]; have := hR.sz; omega)
      have HOWN := hide hR.own
      rw [hX] at hp0 HOWN
      obtain ⟨cnt, hcnt⟩ : ∃ c, X.length = c := ⟨_, rfl⟩
      rw [hcnt] at hp0
      have HCN := hide hcnt
      have hcl : cnt ≤ 40 := by rw [← hcnt]; exact HXL.out
      subst hp0
      have HX := hide hX
      have HOWN2 : Hid (wr.ownsRow (w.heap.size + 1) 87 5 (.slice op cnt oc) cnt (X.flatMap Nd.cells)) := hide (by have := HOWN.out; unfold NdOwn at this; rw [HCN.out] at this; exact this)
      clear hX hcnt
      by_cases hlt : k < K
      · obtain ⟨d, hdk⟩ : ∃ d, l[k]? = some d := ⟨l[k]'(by rw [HK.out]; exact hlt), List.getElem?_eq_getElem _⟩
        have HC1 := hide (HIH.out k p d hdk hR.rest)
        have HC2 := hide (HBH.out k p d hdk hR.rest)
        have HST := hide (parts_step hR.same hdk)
        have HBD := hide (brs_drop hdk)
        obtain ⟨-, -, hrest, hle⟩ := case_atP hdk hR.rest
        have HRS := hide hrest
        have HPD : Hid (planN n d.p) := hide (HP.out d (List.mem_of_getElem? hdk))
        have HND := hide (HCD.out k p d hdk hR.rest)
        have hpM : p < M := (HND.out wr HBW.out).1
        obtain ⟨T, hT⟩ : ∃ T, p + 1 + (rowN n d.p).length = T := ⟨_, rfl⟩
        rw [hT] at HC2 HRS hle
        rw [HM.out] at hle
        obtain ⟨om, hom⟩ : ∃ om, partN role n d.p = om := ⟨_, rfl⟩
        have HOM := hide hom
        rw [hom] at HC1 HST
        have hrp := row_pos n d.p
        have hdl : (rowN n d.p).length ≤ 39 := by have := HBD.out; have := hR.sz; omega
        obtain ⟨dl, ds, dp⟩ := d
        dsimp only at HND HST HC1 HOM HPD hdl HBD
        clear hR hdk hom hT hrest
        cases om with
        | none =>
          go_wp2_with (go_at_call 42; refine (HC1.out _ HBW.out).mono ?_; rintro e w5 ⟨qv, r, rfl, h5a, h5b, h5c, h5d, h5e⟩; have HB5 : Hid (Below w.heap.size w w5) := hide (HBW.out.trans (h5e.mono HBW.out.size)); clear h5a h5b h5c h5d h5e)
          go_ret2
          rw [HPT.out, HST.out]
          exact ⟨.slice none 0 0, [], rfl, ⟨none, 0, rfl, Nat.le_refl _, Nat.zero_le _, Nat.zero_le _, fun h => absurd rfl h⟩, (fun z hz => by cases hz), .inl rfl, Nat.zero_le _, HB5.out⟩
        | some z =>
          have HPZ := hide (part_sz role n dp z HPD.out HOM.out).1
          go_wp2_with (first
            | (go_at_call 42; refine (HC1.out _ HBW.out).mono ?_; rintro e w5 ⟨qv, r, rfl, h5a, h5b, h5c, h5d, h5e⟩; have hr5 := h5b z rfl; have HR5 := hide hr5; obtain ⟨g5, o5, c5, rfl, hg5, hrow5⟩ := of_row h5a (by rw [hr5]; exact row_pos n z); obtain ⟨RL, hRL⟩ : ∃ RL, r.length = RL := ⟨_, rfl⟩; have hrl0 : 0 < RL := (by rw [← hRL, hr5]; exact row_pos n z); have hrl9 : RL ≤ 940 := (by rw [← hRL]; omega); rw [hRL]; have HRL := hide hRL; have HROW5 := hide hrow5; have hg5a : wr.heap.size ≤ g5 := hg5.1; have hg5b : g5 < w5.heap.size := hg5.2.1; have HB5 : Hid (Below w.heap.size w w5) := hide (HBW.out.trans (h5e.mono HBW.out.size)); have HE5 := hide h5e; obtain ⟨-, gN, oN, capN, eN, y0, y1, y2, y3, y4⟩ := HND.out w5 HB5.out; injection eN with eN1 _ eN3; injection eN1 with eN1; injection eN1 with eN1 eN2 _; subst eN1; subst eN2; subst eN3; dsimp only at y0 y1 y2 y3 y4; clear h5a h5b h5c h5d h5e hr5 hRL hrow5 hg5)
            | ((fail_if_success (have := HO6)); at_builtin; refine wpList_append_own _ rfl (.tmp 51) (.tmp 56) 61 rfl (w.heap.size + 1) 87 i0 (.agg #[.int .i64 0, .string ByteArray.empty, .string ByteArray.empty, .int .i64 0, .int .i64 0]) 5 56 Try.underlying61 HI.out.1 HI.out.2.1 HI.out.2.2.1 HI.out.2.2.2 rfl (by decide) (.slice op cnt oc) cnt (X.flatMap Nd.cells) rfl (owns_below (owns_below HOWN2.out HE5.out) (malloc1 w5 _)) ⟨w5.heap.size, 0, none⟩ 1 1 (Nd.cells ⟨4, dl, noT, 0, ds⟩) rfl rfl (fun j u hj => new_rowq _ _ _ _ (by simp) j u hj) (Nd.cells_one _) (by unfold maxLen; omega) (by omega) (by have := HE5.out.size; simp; omega) ?_; intro v6 w6 hown6 hgr6 _; have HO6 := hide hown6; have HA6 : Hid (Apart w5 w6 (vblocks (.slice op cnt oc))) := hide (by have := (below_apart (malloc1 w5 _)).trans (grownBy_apart hgr6); rwa [List.nil_append] at this); have HROW6 : Hid (RowAt w6 g5 o5 r) := hide (HROW5.out.block (HA6.out.block g5 hg5b (fun hm => by have := (owns_fresh HOWN2.out).hi g5 hm; omega))); obtain ⟨p6, c6, rfl⟩ := owns_shape hown6; clear hown6 hgr6)
            | ((fail_if_success (have := HO7)); at_builtin; refine wpList_append_own _ rfl (.tmp 58) (.tmp 59) 61 rfl (w.heap.size + 1) 87 i0 (.agg #[.int .i64 0, .string ByteArray.empty, .string ByteArray.empty, .int .i64 0, .int .i64 0]) 5 56 Try.underlying61 HI.out.1 HI.out.2.1 HI.out.2.2.1 HI.out.2.2.2 rfl (by decide) (.slice p6 (cnt + 1) c6) (cnt + 1) (X.flatMap Nd.cells ++ Nd.cells ⟨4, dl, noT, 0, ds⟩) rfl HO6.out ⟨g5, o5, none⟩ RL c5 (r.flatMap Nd.cells) rfl (by rw [flat_len Nd.cells 5 Nd.cells_len, HRL.out]) (fun j u hj => by rw [addr_add]; exact row_cells HROW6.out j u hj) (nds_one r) (by unfold maxLen; omega) (by omega) (by have := HE5.out.size; have := HA6.out.size; omega) ?_; intro v7 w7 hown7 hgr7 _; have HO7 := hide hown7; have HB57 : Hid (Below (w.heap.size + 1) w5 w7) := hide ((HA6.out.below (by have := HE5.out.size; omega) (owns_fresh HOWN2.out).lo).trans ((grownBy_apart hgr7).below (by have := HE5.out.size; have := HA6.out.size; omega) (owns_fresh HO6.out).lo)); have HB7 : Hid (Below w.heap.size w w7) := hide (HB5.out.trans (HB57.out.mono (by omega))); obtain ⟨p7, c7, rfl⟩ := owns_shape hown7; clear hown7 hgr7)
            | (go_at_call 56; refine (HC2.out _ HB7.out).mono ?_; rintro e w8 ⟨rfl, hb8⟩; have HB8 := hide hb8; clear hb8))
          go_roundw
          case rel =>
            have hpz := HPZ.out
            have hbd := HBD.out
            have hsz := HR.out.sz
            have hd1 : (brsBy (rowN n) [(⟨dl, ds, z⟩ : Br (Pn n))]) = [⟨4, dl, noT, 0, ds⟩] ++ rowN n z := by rw [brs_cons]; simp [brsBy]
            refine ⟨k + 1, T, acc ++ [⟨dl, ds, z⟩], hlt, by go_num, rfl, ⟨by rw [HST.out], HRS.out, ?_, ?_, ?_, by rw [HM.out]; exact hle⟩⟩
            · rw [brs_app, hd1, ← List.cons_append, HX.out, ← List.append_assoc]
              refine NdOwn.below (NdOwn.snoc ?_) HB8.out
              rw [List.length_append, List.length_singleton, HCN.out, ← HR5.out, HRL.out, List.flatMap_append]
              simpa using HO7.out
            · rw [brs_app, hd1]
              simp only [List.length_append, List.length_singleton]
              omega
            · exact ((HR.out.bel.trans (HE5.out.mono hzw)).trans HB57.out).trans (HB8.out.mono (by have := HE5.out.size; have := HB57.out.size; omega))
          case measure => simp [intOf]; omega
      · obtain rfl : k = K := by omega
        have HFIN : Hid (partsBy (partN role n) l = some acc) := hide (by
          have := hR.same
          rw [List.drop_of_length_le (by rw [HK.out]; exact Nat.le_refl _), partsBy] at this
          rw [← this]
          simp [consO])
        have HE : Hid (X = rowN (n + 1) (.talk ⟨5, noT, b⟩ acc)) := hide (by rw [← HX.out, row_talk, HPL.out acc HFIN.out, HK.out])
        clear hR
        go_wp2_with fail
        go_ret2
        rw [HPT.out, HFIN.out]
        refine ⟨_, X, rfl, (NdOwn.rdS HOWN.out (by have := HXL.out; omega)).up (fun g hg => ⟨by have := hg.1; omega, hg.2⟩), (fun z hz => by have hz' : some (Pn.talk ⟨5, noT, b⟩ acc) = some z := hz; injection hz' with hz'; rw [← hz']; exact HE.out), .inr (by rw [HE.out]; exact row_pos _ _), by have := HXL.out; omega, HBW.out⟩
  · go_enter Try.func59, Try.ntmps59
    go_wp2_with fail
    go_loopw [1, 9, 10] (fun av ov kv wr => ∃ (k p : Nat) (acc : List (Br (Pn n))), k ≤ K ∧ kv = .int .i64 k ∧ av = .int .i64 p ∧ RoundK role n (w.alloc (.cells #[.int .i64 3, .string a, .string b, .int .i64 (K : Int), .int .i64 0] 87)) wr all post l ⟨6, noT, a, (K : Int), 0⟩ (w.heap.size + 1) ov k p acc) (fun _ _ kv _ => K - (intOf kv).toNat)
    case atStart => exact ⟨0, pos + 1, [], Nat.zero_le _, rfl, by go_num, ⟨by rw [List.drop_zero]; cases partsBy (partN role n) l <;> rfl, HH1.out, nd_lit _ ⟨6, noT, a, (K : Int), 0⟩ _ _ (by simp) (by simp), by have := HBL.out; simp [brsBy] at this ⊢; omega, (malloc1 _ _).mono (by simp) |>.trans ((malloc1 _ _).mono (by simp)), by rw [HM.out]; exact hp⟩⟩
    case round =>
      obtain ⟨k, p, acc, hk, rfl, rfl, hR⟩ := hrel
      have HR := hide hR
      have HBW : Hid (Below w.heap.size w wr) := hide ((malloc1 w _).trans (hR.bel.mono (by omega)))
      have hzw : w.heap.size + 1 ≤ wr.heap.size := by have := hR.bel.size; simpa using this
      have hple := hR.le
      rw [HM.out] at hple
      have m3 : wr.cell? ⟨w.heap.size, 3, none⟩ = some (.int .i64 (K : Int)) := (hR.bel.cell (p := ⟨w.heap.size, 3, none⟩) (by simp)).trans (by simp)
      obtain ⟨op, oc, hp0⟩ := owns_shape hR.own
      obtain ⟨X, hX⟩ : ∃ X, (⟨6, noT, a, (K : Int), 0⟩ :: brsBy (rowN n) acc : List Nd) = X := ⟨_, rfl⟩
      have HXL : Hid (X.length ≤ 40) := hide (by rw [← hX, List.length_cons]; have := hR.sz; omega)
      have HOWN := hide hR.own
      rw [hX] at hp0 HOWN
      obtain ⟨cnt, hcnt⟩ : ∃ c, X.length = c := ⟨_, rfl⟩
      rw [hcnt] at hp0
      have HCN := hide hcnt
      have hcl : cnt ≤ 40 := by rw [← hcnt]; exact HXL.out
      subst hp0
      have HX := hide hX
      have HOWN2 : Hid (wr.ownsRow (w.heap.size + 1) 87 5 (.slice op cnt oc) cnt (X.flatMap Nd.cells)) := hide (by have := HOWN.out; unfold NdOwn at this; rw [HCN.out] at this; exact this)
      clear hX hcnt
      by_cases hlt : k < K
      · obtain ⟨d, hdk⟩ : ∃ d, l[k]? = some d := ⟨l[k]'(by rw [HK.out]; exact hlt), List.getElem?_eq_getElem _⟩
        have HC1 := hide (HIH.out k p d hdk hR.rest)
        have HC2 := hide (HBH.out k p d hdk hR.rest)
        have HST := hide (parts_step hR.same hdk)
        have HBD := hide (brs_drop hdk)
        obtain ⟨-, -, hrest, hle⟩ := case_atP hdk hR.rest
        have HRS := hide hrest
        have HPD : Hid (planN n d.p) := hide (HP.out d (List.mem_of_getElem? hdk))
        have HND := hide (HCD.out k p d hdk hR.rest)
        have hpM : p < M := (HND.out wr HBW.out).1
        obtain ⟨T, hT⟩ : ∃ T, p + 1 + (rowN n d.p).length = T := ⟨_, rfl⟩
        rw [hT] at HC2 HRS hle
        rw [HM.out] at hle
        obtain ⟨om, hom⟩ : ∃ om, partN role n d.p = om := ⟨_, rfl⟩
        have HOM := hide hom
        rw [hom] at HC1 HST
        have hrp := row_pos n d.p
        have hdl : (rowN n d.p).length ≤ 39 := by have := HBD.out; have := hR.sz; omega
        obtain ⟨dl, ds, dp⟩ := d
        dsimp only at HND HST HC1 HOM HPD hdl HBD
        clear hR hdk hom hT hrest
        cases om with
        | none =>
          go_wp2_with (go_at_call 42; refine (HC1.out _ HBW.out).mono ?_; rintro e w5 ⟨qv, r, rfl, h5a, h5b, h5c, h5d, h5e⟩; have HB5 : Hid (Below w.heap.size w w5) := hide (HBW.out.trans (h5e.mono HBW.out.size)); clear h5a h5b h5c h5d h5e)
          go_ret2
          rw [HPT.out, HST.out]
          exact ⟨.slice none 0 0, [], rfl, ⟨none, 0, rfl, Nat.le_refl _, Nat.zero_le _, Nat.zero_le _, fun h => absurd rfl h⟩, (fun z hz => by cases hz), .inl rfl, Nat.zero_le _, HB5.out⟩
        | some z =>
          have HPZ := hide (part_sz role n dp z HPD.out HOM.out).1
          go_wp2_with (first
            | (go_at_call 42; refine (HC1.out _ HBW.out).mono ?_; rintro e w5 ⟨qv, r, rfl, h5a, h5b, h5c, h5d, h5e⟩; have hr5 := h5b z rfl; have HR5 := hide hr5; obtain ⟨g5, o5, c5, rfl, hg5, hrow5⟩ := of_row h5a (by rw [hr5]; exact row_pos n z); obtain ⟨RL, hRL⟩ : ∃ RL, r.length = RL := ⟨_, rfl⟩; have hrl0 : 0 < RL := (by rw [← hRL, hr5]; exact row_pos n z); have hrl9 : RL ≤ 940 := (by rw [← hRL]; omega); rw [hRL]; have HRL := hide hRL; have HROW5 := hide hrow5; have hg5a : wr.heap.size ≤ g5 := hg5.1; have hg5b : g5 < w5.heap.size := hg5.2.1; have HB5 : Hid (Below w.heap.size w w5) := hide (HBW.out.trans (h5e.mono HBW.out.size)); have HE5 := hide h5e; obtain ⟨-, gN, oN, capN, eN, y0, y1, y2, y3, y4⟩ := HND.out w5 HB5.out; injection eN with eN1 _ eN3; injection eN1 with eN1; injection eN1 with eN1 eN2 _; subst eN1; subst eN2; subst eN3; dsimp only at y0 y1 y2 y3 y4; clear h5a h5b h5c h5d h5e hr5 hRL hrow5 hg5)
            | ((fail_if_success (have := HO6)); at_builtin; refine wpList_append_own _ rfl (.tmp 51) (.tmp 56) 61 rfl (w.heap.size + 1) 87 i0 (.agg #[.int .i64 0, .string ByteArray.empty, .string ByteArray.empty, .int .i64 0, .int .i64 0]) 5 56 Try.underlying61 HI.out.1 HI.out.2.1 HI.out.2.2.1 HI.out.2.2.2 rfl (by decide) (.slice op cnt oc) cnt (X.flatMap Nd.cells) rfl (owns_below (owns_below HOWN2.out HE5.out) (malloc1 w5 _)) ⟨w5.heap.size, 0, none⟩ 1 1 (Nd.cells ⟨4, dl, noT, 0, ds⟩) rfl rfl (fun j u hj => new_rowq _ _ _ _ (by simp) j u hj) (Nd.cells_one _) (by unfold maxLen; omega) (by omega) (by have := HE5.out.size; simp; omega) ?_; intro v6 w6 hown6 hgr6 _; have HO6 := hide hown6; have HA6 : Hid (Apart w5 w6 (vblocks (.slice op cnt oc))) := hide (by have := (below_apart (malloc1 w5 _)).trans (grownBy_apart hgr6); rwa [List.nil_append] at this); have HROW6 : Hid (RowAt w6 g5 o5 r) := hide (HROW5.out.block (HA6.out.block g5 hg5b (fun hm => by have := (owns_fresh HOWN2.out).hi g5 hm; omega))); obtain ⟨p6, c6, rfl⟩ := owns_shape hown6; clear hown6 hgr6)
            | ((fail_if_success (have := HO7)); at_builtin; refine wpList_append_own _ rfl (.tmp 58) (.tmp 59) 61 rfl (w.heap.size + 1) 87 i0 (.agg #[.int .i64 0, .string ByteArray.empty, .string ByteArray.empty, .int .i64 0, .int .i64 0]) 5 56 Try.underlying61 HI.out.1 HI.out.2.1 HI.out.2.2.1 HI.out.2.2.2 rfl (by decide) (.slice p6 (cnt + 1) c6) (cnt + 1) (X.flatMap Nd.cells ++ Nd.cells ⟨4, dl, noT, 0, ds⟩) rfl HO6.out ⟨g5, o5, none⟩ RL c5 (r.flatMap Nd.cells) rfl (by rw [flat_len Nd.cells 5 Nd.cells_len, HRL.out]) (fun j u hj => by rw [addr_add]; exact row_cells HROW6.out j u hj) (nds_one r) (by unfold maxLen; omega) (by omega) (by have := HE5.out.size; have := HA6.out.size; omega) ?_; intro v7 w7 hown7 hgr7 _; have HO7 := hide hown7; have HB57 : Hid (Below (w.heap.size + 1) w5 w7) := hide ((HA6.out.below (by have := HE5.out.size; omega) (owns_fresh HOWN2.out).lo).trans ((grownBy_apart hgr7).below (by have := HE5.out.size; have := HA6.out.size; omega) (owns_fresh HO6.out).lo)); have HB7 : Hid (Below w.heap.size w w7) := hide (HB5.out.trans (HB57.out.mono (by omega))); obtain ⟨p7, c7, rfl⟩ := owns_shape hown7; clear hown7 hgr7)
            | (go_at_call 56; refine (HC2.out _ HB7.out).mono ?_; rintro e w8 ⟨rfl, hb8⟩; have HB8 := hide hb8; clear hb8))
          go_roundw
          case rel =>
            have hpz := HPZ.out
            have hbd := HBD.out
            have hsz := HR.out.sz
            have hd1 : (brsBy (rowN n) [(⟨dl, ds, z⟩ : Br (Pn n))]) = [⟨4, dl, noT, 0, ds⟩] ++ rowN n z := by rw [brs_cons]; simp [brsBy]
            refine ⟨k + 1, T, acc ++ [⟨dl, ds, z⟩], hlt, by go_num, rfl, ⟨by rw [HST.out], HRS.out, ?_, ?_, ?_, by rw [HM.out]; exact hle⟩⟩
            · rw [brs_app, hd1, ← List.cons_append, HX.out, ← List.append_assoc]
              refine NdOwn.below (NdOwn.snoc ?_) HB8.out
              rw [List.length_append, List.length_singleton, HCN.out, ← HR5.out, HRL.out, List.flatMap_append]
              simpa using HO7.out
            · rw [brs_app, hd1]
              simp only [List.length_append, List.length_singleton]
              omega
            · exact ((HR.out.bel.trans (HE5.out.mono hzw)).trans HB57.out).trans (HB8.out.mono (by have := HE5.out.size; have := HB57.out.size; omega))
          case measure => simp [intOf]; omega
      · obtain rfl : k = K := by omega
        have HFIN : Hid (partsBy (partN role n) l = some acc) := hide (by
          have := hR.same
          rw [List.drop_of_length_le (by rw [HK.out]; exact Nat.le_refl _), partsBy] at this
          rw [← this]
          simp [consO])
        have HE : Hid (X = rowN (n + 1) (.talk ⟨6, noT, a⟩ acc)) := hide (by rw [← HX.out, row_talk, HPL.out acc HFIN.out, HK.out])
        clear hR
        go_wp2_with fail
        go_ret2
        rw [HPT.out, HFIN.out]
        refine ⟨_, X, rfl, (NdOwn.rdS HOWN.out (by have := HXL.out; omega)).up (fun g hg => ⟨by have := hg.1; omega, hg.2⟩), (fun z hz => by have hz' : some (Pn.talk ⟨6, noT, a⟩ acc) = some z := hz; injection hz' with hz'; rw [← hz']; exact HE.out), .inr (by rw [HE.out]; exact row_pos _ _), by have := HXL.out; omega, HBW.out⟩
end Go.Proofs.Ytlbcnmcfljaijaa
