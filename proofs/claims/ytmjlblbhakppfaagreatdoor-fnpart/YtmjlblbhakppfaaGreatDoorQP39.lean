import Derived.Test.YtmjlblbhakppfaaGreatDoorQP38
import Derived.Test.YtmjlblbhakppfaaGreatDoorQP32
namespace Go.Proofs.YtmjlblbhakppfaaGreatDoor
open Go.RowKit
attribute [local go_sem ↓] Go.wp_at_zero Go.wp_at_succ

def PoAnsF (w w' : World) (e : Ending) (T : List Nd) (C : Int) : Prop := ∃ v', e = .returned (.agg #[v', .int .i64 C]) ∧ RdW w' (btF w.heap.size w') v' T ∧ Below w.heap.size w w'
def PoAnsS (w w' : World) (e : Ending) (T : List Nd) (C : Int) : Prop := ∃ v', e = .returned (.agg #[v', .int .i64 C]) ∧ RdW w' (fun g => g < w'.heap.size) v' T ∧ Below w.heap.size w w'
theorem po_errS {w w' : World} (C : Int) (hb : Below w.heap.size w w') : PoAnsF w w' (.returned (.agg #[.slice none 0 0, .int .i64 C])) [] C := ⟨_, rfl, ⟨none, 0, rfl, Nat.le_refl _, Nat.zero_le _, Nat.zero_le _, fun h => absurd rfl h⟩, hb⟩
set_option maxRecDepth 100000 in
set_option maxHeartbeats 2000000 in
theorem s_partOfF (ns : List Nd) (role : ByteArray) (T : List Nd) (C : Int) (hpo : PoIs ns role T C) (v : Value) (w : World) (fit : ∀ n ∈ ns, n.fit) (hrole : role.size ≤ maxLen) (hv : SlAt w w.heap.size v ns) :
    Calls Tryz.prog 33 #[v, .string role] w fun e w' => PoAnsF w w' e T C := by
  have HV := hide hv
  have HFT := hide fit
  have HRO := hide hrole
  have hlm := hv.lenm
  unfold maxLen at hrole
  obtain ⟨ao, cap, rfl, hc, hm, hr⟩ := hv
  have HO : Hid (BoxL (w.alloc outP) w.heap.size [.slice none 0 0, .int .i64 0]) := hide (BoxL.new w [.slice none 0 0, .int .i64 0] 41)
  obtain ⟨N, hN⟩ : ∃ N, ns.length = N := ⟨_, rfl⟩
  have HN := hide hN
  clear hr fit
  rcases hpo with ⟨hbig, rfl, rfl⟩ | ⟨h1, h2, hpo⟩
  · rw [hN] at hbig hlm ⊢
    clear hN
    by_cases h4 : 400 < N
    · go_enter Tryz.func33, Tryz.ntmps33
      go_wp2_with fail
      refine bodyPost_ret (v := .agg #[.slice none 0 0, .int .i64 2]) (by simp [results, Tryz.results33, go_sem]) rfl ?_
      exact po_errS 2 ((Below.refl _ _).alloc (Nat.le_refl _) _)
    · have h8 : 8000 < role.size := by omega
      go_enter Tryz.func33, Tryz.ntmps33
      go_wp2_with fail
      refine bodyPost_ret (v := .agg #[.slice none 0 0, .int .i64 2]) (by simp [results, Tryz.results33, go_sem]) rfl ?_
      exact po_errS 2 ((Below.refl _ _).alloc (Nat.le_refl _) _)
  · obtain ⟨q1, hq1⟩ : ∃ q, rightB false ns = q := ⟨_, rfl⟩
    obtain ⟨q2, hq2⟩ : ∃ q, nameB role = q := ⟨_, rfl⟩
    rw [hq1, hq2] at hpo
    have HPR : Hid (∀ W, Below w.heap.size w W → Calls Tryz.prog 13 #[.slice ao N cap] W fun e w' => e = .returned (.bool q1) ∧ Below W.heap.size W w') := hide (fun W hb => by have := s_planRight ns (.slice ao ns.length cap) W HFT.out ((HV.out.carry hb).up hb.size); rw [hq1, hN] at this; exact this)
    have HNR : Hid (∀ W, Calls Tryz.prog 61 #[.string role] W fun e w' => e = .returned (.bool q2) ∧ w' = W) := hide (fun W => by have := spec_name role W HRO.out; rw [hq2] at this; exact this)
    have HPO := hide hpo
    rw [hN] at h1 hlm ⊢
    clear hN hq1 hq2 hpo
    have hnc : ¬ 400 < N := by omega
    have hn8 : ¬ 8000 < role.size := by omega
    cases q1
    · have HTC : Hid (T = [] ∧ C = 1) := hide (by rcases HPO.out with ⟨_, h, h'⟩ | ⟨h, _⟩; exact ⟨h, h'⟩; cases h)
      go_enter Tryz.func33, Tryz.ntmps33
      go_wp2_with (go_at_call 13; refine (HPR.out _ (malloc1 w _)).mono ?_; rintro e w1 ⟨rfl, hb1⟩; have HB1 : Hid (Below w.heap.size w w1) := hide ((malloc1 w _).trans (hb1.mono (by simp))); have HO1 := hide (HO.out.keep (below_apart hb1) (by simp)); have b0 := HO1.out.cell 0 _ rfl; have b1 := HO1.out.cell 1 _ rfl; have bz := HO1.out.fz; clear hb1)
      refine bodyPost_ret (v := .agg #[.slice none 0 0, .int .i64 1]) (by simp [results, Tryz.results33, go_sem, b0, b1]) rfl ?_
      rw [HTC.out.1, HTC.out.2]
      exact po_errS 1 (set2 HB1.out _ _)
    · cases q2
      · have HTC : Hid (T = [] ∧ C = 1) := hide (by rcases HPO.out with ⟨_, h, h'⟩ | ⟨h, _⟩; exact ⟨h, h'⟩; cases h)
        go_enter Tryz.func33, Tryz.ntmps33
        go_wp2_with (first
          | (go_at_call 13; refine (HPR.out _ (malloc1 w _)).mono ?_; rintro e w1 ⟨rfl, hb1⟩; have HB1 : Hid (Below w.heap.size w w1) := hide ((malloc1 w _).trans (hb1.mono (by simp))); have HO1 := hide (HO.out.keep (below_apart hb1) (by simp)); have b0 := HO1.out.cell 0 _ rfl; have b1 := HO1.out.cell 1 _ rfl; have bz := HO1.out.fz; clear hb1)
          | (go_at_call 61; refine (HNR.out _).mono ?_; rintro e w2 ⟨rfl, hw2⟩; subst w2))
        refine bodyPost_ret (v := .agg #[.slice none 0 0, .int .i64 1]) (by simp [results, Tryz.results33, go_sem, b0, b1]) rfl ?_
        rw [HTC.out.1, HTC.out.2]
        exact po_errS 1 (set2 HB1.out _ _)
      · obtain ⟨p, hp, hpl, h40, hres⟩ : ∃ p : Pn 10, ns = rowN 10 p ∧ planN 10 p ∧ ns.length ≤ 40 ∧ ((partN role 10 p = none ∧ T = [] ∧ C = 11) ∨ ∃ z, partN role 10 p = some z ∧ T = rowN 10 z ∧ C = 0) := by
          rcases HPO.out with ⟨h, _⟩ | ⟨_, h⟩
          · cases h
          · exact h
        have HOF : Hid (∀ W, Below w.heap.size w W → Calls Tryz.prog 62 #[.slice ao N cap, .int .i64 0, .string role] W fun e w' => OfAns 10 (rowN 10 p).length W w' e (partN role 10 p)) := hide (fun W hb => by
          have hs : RdW w (fun g => g < w.heap.size) (.slice ao N cap) ns := by
            obtain ⟨ao', cap', e, hc1, hc2, hr⟩ := HV.out
            injection e with e1 e2 e3
            subst e1
            subst e3
            exact ⟨ao, cap, by rw [HN.out], hc1, by unfold maxLen; omega, by omega, hr⟩
          exact of_calls role 10 p ns [] 0 (.slice ao N cap) W (fun g => g < w.heap.size) (fun g hg => Nat.lt_of_lt_of_le hg hb.size) hpl h40 (by rw [List.drop_zero, List.append_nil]; exact hp) (hs.on (fun g hg => hg) hb))
        rcases hres with ⟨hnone, rfl, rfl⟩ | ⟨z, hsome, rfl, rfl⟩
        · rw [hnone] at HOF
          go_enter Tryz.func33, Tryz.ntmps33
          go_wp2_with (first
            | (go_at_call 13; refine (HPR.out _ (malloc1 w _)).mono ?_; rintro e w1 ⟨rfl, hb1⟩; have HB1 : Hid (Below w.heap.size w w1) := hide ((malloc1 w _).trans (hb1.mono (by simp))); have HO1 := hide (HO.out.keep (below_apart hb1) (by simp)); clear hb1)
            | (go_at_call 61; refine (HNR.out _).mono ?_; rintro e w2 ⟨rfl, hw2⟩; subst w2)
            | (go_at_call 62; refine (HOF.out _ HB1.out).mono ?_; rintro e w3 ⟨q3, r3, rfl, h3a, h3b, h3c, h3d, h3e⟩; have HB3 : Hid (Below w.heap.size w w3) := hide (HB1.out.trans (h3e.mono HB1.out.size)); have HO3 := hide (HO1.out.keep (below_apart h3e) (by simp)); have b0 := HO3.out.cell 0 _ rfl; have b1 := HO3.out.cell 1 _ rfl; have bz := HO3.out.fz; obtain ⟨x3, y3, rfl, -⟩ := h3a; clear h3b h3c h3d h3e))
          refine bodyPost_ret (v := .agg #[.slice none 0 0, .int .i64 11]) (by simp [results, Tryz.results33, go_sem, b0, b1]) rfl ?_
          exact po_errS 11 (set2 HB3.out _ _)
        · rw [hsome] at HOF
          go_enter Tryz.func33, Tryz.ntmps33
          go_wp2_with (first
            | (go_at_call 13; refine (HPR.out _ (malloc1 w _)).mono ?_; rintro e w1 ⟨rfl, hb1⟩; have HB1 : Hid (Below w.heap.size w w1) := hide ((malloc1 w _).trans (hb1.mono (by simp))); have HO1 := hide (HO.out.keep (below_apart hb1) (by simp)); have HZ1 : Hid (w.heap.size + 1 ≤ w1.heap.size) := hide (by have := hb1.size; simpa using this); clear hb1)
            | (go_at_call 61; refine (HNR.out _).mono ?_; rintro e w2 ⟨rfl, hw2⟩; subst w2)
            | (go_at_call 62; refine (HOF.out _ HB1.out).mono ?_; rintro e w3 ⟨q3, r3, rfl, h3a, h3b, h3c, h3d, h3e⟩; have hr3 := h3b z rfl; subst hr3; have H3A := hide h3a; have HB3 : Hid (Below w.heap.size w w3) := hide (HB1.out.trans (h3e.mono HB1.out.size)); have HO3 := hide (HO1.out.keep (below_apart h3e) (by simp)); have b0 := HO3.out.cell 0 _ rfl; have b1 := HO3.out.cell 1 _ rfl; have bz := HO3.out.fz; obtain ⟨x3, y3, rfl, -⟩ := h3a; clear h3b h3c h3d h3e))
          refine bodyPost_ret (v := .agg #[.slice x3 (rowN 10 z).length y3, .int .i64 0]) (by simp [results, Tryz.results33, go_sem, b0, b1]) rfl ?_
          refine ⟨_, rfl, ?_, set2 HB3.out _ _⟩
          exact H3A.out.carry (fun g hg => (ap2 w3 w.heap.size _ _).block g hg.2.1 (fun hm => by simp at hm; have := hg.1; have := HZ1.out; omega)) (fun g hg => ⟨by have := hg.1; have := HZ1.out; omega, by have := hg.2.1; simpa using this, fun o => by rw [World.frozen?_setCell, World.frozen?_setCell]; exact hg.2.2 o⟩)
theorem s_partOf (ns : List Nd) (role : ByteArray) (T : List Nd) (C : Int) (hpo : PoIs ns role T C) (v : Value) (w : World) (fit : ∀ n ∈ ns, n.fit) (hrole : role.size ≤ maxLen) (hv : SlAt w w.heap.size v ns) :
    Calls Tryz.prog 33 #[v, .string role] w fun e w' => PoAnsS w w' e T C :=
  (s_partOfF ns role T C hpo v w fit hrole hv).mono fun _ _ ⟨v', e, h, hb⟩ => ⟨v', e, h.up fun _ hg => hg.2.1, hb⟩
end Go.Proofs.YtmjlblbhakppfaaGreatDoor
namespace Go.Proofs.YtmjlblbhakppfaaGreatDoor
open Go.RowKit

theorem gP_notme {role : ByteArray} (hne : noT ≠ role) : ∀ (n : Nat) (sk : Sk) (q : Pn n), gP (fun t => tkPart t ∧ t.b ≠ role) n sk q → ∀ nd ∈ rowN n q, nd.peer ≠ role := by
  have leaf : ∀ (x : Option ByteArray), ∀ nd ∈ leafRow x, nd.peer ≠ role := by
    intro x nd hn
    cases x with
    | none => simp [leafRow] at hn; subst hn; exact hne
    | some x => simp [leafRow] at hn; subst hn; exact hne
  intro n
  induction n with
  | zero => intro sk q _; exact leaf q
  | succ n ih =>
    intro sk q
    refine Pn.cases (P := fun q => gP (fun t => tkPart t ∧ t.b ≠ role) (n + 1) sk q → ∀ nd ∈ rowN (n + 1) q, nd.peer ≠ role) (fun x _ => leaf x) (fun x q h nd hn => ?_) (fun t l h nd hn => ?_) q
    · rw [row_loop] at hn
      rcases List.mem_cons.1 hn with rfl | hn
      · exact hne
      · exact ih _ q h.2.2 nd hn
    · obtain ⟨⟨-, h1⟩, -, -, -, h5⟩ := h
      rw [row_talk] at hn
      rcases List.mem_cons.1 hn with rfl | hn
      · exact h1
      · unfold brsBy at hn
        obtain ⟨b, hb, hn⟩ := List.mem_flatMap.1 hn
        rcases List.mem_cons.1 hn with rfl | hn
        · exact hne
        · exact ih _ b.p (h5 b hb) nd hn
theorem plan_g {ns : List Nd} {p : Pn 10} (hr : rightB false ns = true) (hp : ns = rowN 10 p) (hpl : planN 10 p) : gP tkPlan 10 [] p := by
  obtain ⟨ha, -⟩ := plan_ahead hr
  have ha' : ahead (talkS false) 10 [] (rowN 10 p ++ []) = some [] := by rw [List.append_nil, ← hp]; exact ha
  exact (g_of_ahead 10 p [] [] [] hpl ha').1
theorem name_some {role : ByteArray} (h : nameB role = true) : noT ≠ role := by
  rintro rfl
  revert h
  decide
theorem part_notme {ns : List Nd} {p z : Pn 10} {role : ByteArray} (hr : rightB false ns = true) (hp : ns = rowN 10 p) (hpl : planN 10 p) (hn : nameB role = true) (h : partN role 10 p = some z) : ∀ nd ∈ rowN 10 z, nd.peer ≠ role := by
  have hz := part_g (A := tkPlan) (B := fun t => tkPart t ∧ t.b ≠ role) role (fun t ht => by
    obtain ⟨h3, ha, hb, hab⟩ := ht
    refine ⟨fun e => ⟨⟨.inl rfl, rfl, hb⟩, fun e2 => ?_⟩, fun e => ⟨⟨.inr rfl, rfl, ha⟩, fun e2 => ?_⟩⟩
    · have e2' : t.b = role := e2
      rw [e, e2'] at hab; simp at hab
    · have e2' : t.a = role := e2
      rw [e, e2'] at hab; simp at hab) (fun a b hb => ⟨⟨.inr rfl, rfl, hb.1.2.2⟩, hb.2⟩) (fun t ht => by rcases ht.1.1 with e | e <;> omega) 10 p z (plan_g hr hp hpl) hpl h
  exact gP_notme (name_some hn) 10 [] z hz
theorem has_left {ns : List ByteArray} (r : List ByteArray) {x : ByteArray} (h : hasB ns x = true) : hasB (ns ++ r) x = true := by
  unfold hasB at h ⊢
  rw [List.any_append, h]
  rfl
theorem closed_brs2 {n : Nat} : ∀ (l : List (Br (Pn n))) (ns : List ByteArray), (∀ b ∈ l, ∀ r, closedL (ns ++ r) (rowN n b.p) = true) → closedL ns (brsBy (rowN n) l) = true
  | [], _, _ => rfl
  | b :: l, ns, h => by
    rw [brs_cons, closedL]
    simp only [show ((4 : Int) == 2) = false from rfl, show ((4 : Int) == 1) = false from rfl, Bool.false_and, Bool.false_eq_true, if_false]
    have h1 := h b List.mem_cons_self []
    rw [List.append_nil] at h1
    rw [closed_app, h1, Bool.true_and]
    exact closed_brs2 l _ (fun c hc r => by rw [List.append_assoc]; exact h c (List.mem_cons_of_mem _ hc) _)
theorem g_closed {A : Tk → Prop} (hA : ∀ t, A t → t.op ≠ 1 ∧ t.op ≠ 2) : ∀ (n : Nat) (sk : Sk) (p : Pn n) (ns : List ByteArray), gP A n sk p → (∀ x, wB sk x = true → hasB ns x = true) → closedL ns (rowN n p) = true := by
  have leaf : ∀ (y : Option ByteArray) (sk : Sk) (ns : List ByteArray), leafG sk y → (∀ x, wB sk x = true → hasB ns x = true) → closedL ns (leafRow y) = true := by
    intro y sk ns hg h
    cases y with
    | none => rfl
    | some y =>
      have := h y (bB_w sk y hg)
      simp [leafRow, closedL, this]
  intro n
  induction n with
  | zero => intro sk p ns hg h; exact leaf p sk ns hg h
  | succ n ih =>
    intro sk p
    refine Pn.cases (P := fun p => ∀ ns : List ByteArray, gP A (n + 1) sk p → (∀ x, wB sk x = true → hasB ns x = true) → closedL ns (rowN (n + 1) p) = true) (fun y ns hg h => leaf y sk ns hg h) (fun y q ns hg h => ?_) (fun t l ns hg h => ?_) p
    · rw [row_loop, closedL]
      simp only [show ((2 : Int) == 2) = true from rfl, if_true]
      refine ih _ q _ hg.2.2 (fun x hx => ?_)
      have hx' : ((y.toList == x.toList) || wB sk x) = true := hx
      rw [Bool.or_eq_true] at hx'
      rcases hx' with hx' | hx'
      · unfold hasB
        rw [List.any_append, List.any_cons, hx']
        simp
      · exact has_left _ (h x hx')
    · obtain ⟨h1, -, -, -, h5⟩ := hg
      obtain ⟨o1, o2⟩ := hA t h1
      rw [row_talk, closedL]
      simp only [show (t.op == 2) = false from beq_eq_false_iff_ne.2 o2, show (t.op == 1) = false from beq_eq_false_iff_ne.2 o1, Bool.false_and, Bool.false_eq_true, if_false]
      exact closed_brs2 l ns (fun b hb r => ih _ b.p _ (h5 b hb) (fun x hx => has_left _ (h x hx)))
theorem rowEq_self : ∀ l : List Nd, rowEq l l = true
  | [] => rfl
  | n :: l => by
    rw [rowEq, rowEq_self l]
    simp [ndEq]
theorem merge_same (n : Nat) (u v : Pn n) (h : rowN n u = rowN n v) : mergeN n u v = some u := by
  cases n with
  | zero => rw [mergeN, h, rowEq_self]; rfl
  | succ n => rw [mergeN, h, rowEq_self]; rfl
theorem all_same {n : Nat} {R : List Nd} : ∀ (r : List (Br (Pn n))) (u : Pn n), rowN n u = R → (∀ b ∈ r, rowN n b.p = R) → mergeAll (mergeN n) u r = some u
  | [], _, _, _ => rfl
  | b :: r, u, hu, h => by
    rw [mergeAll, merge_same n u b.p (by rw [hu, h b List.mem_cons_self])]
    exact all_same r u hu (fun c hc => h c (List.mem_cons_of_mem _ hc))
theorem parts_allQ {α : Type} {f : α → Option α} {Q : α → Prop} : ∀ (l : List (Br α)), (∀ b ∈ l, ∃ z, f b.p = some z ∧ Q z) → ∃ r, partsBy f l = some r ∧ r.length = l.length ∧ ∀ c ∈ r, Q c.p
  | [], _ => ⟨[], rfl, rfl, by simp⟩
  | b :: l, h => by
    obtain ⟨z, hz, qz⟩ := h b List.mem_cons_self
    obtain ⟨r, hr, el, hq⟩ := parts_allQ l (fun c hc => h c (List.mem_cons_of_mem _ hc))
    refine ⟨⟨b.l, b.s, z⟩ :: r, ?_, by simp [el], fun c hc => ?_⟩
    · rw [partsBy, hz]; simp only; rw [hr]
    · rcases List.mem_cons.1 hc with rfl | hc
      · exact qz
      · exact hq c hc
def endR : List Nd := [⟨0, noT, noT, 0, 0⟩]
theorem idle_part (role : ByteArray) : ∀ (n : Nat) (sk : Sk) (p : Pn n), (∀ x, wB sk x = false) → gP tkPlan n sk p → planN n p → hasRole role (rowN n p) = false → ∃ z, partN role n p = some z ∧ rowN n z = endR := by
  have leaf : ∀ (y : Option ByteArray) (sk : Sk), (∀ x, wB sk x = false) → leafG sk y → leafRow y = endR := by
    intro y sk hw hg
    cases y with
    | none => rfl
    | some y =>
      have := bB_w sk y hg
      rw [hw y] at this
      cases this
  intro n
  induction n with
  | zero => intro sk p hw hg _ _; exact ⟨p, rfl, leaf p sk hw hg⟩
  | succ n ih =>
    intro sk p
    refine Pn.cases (P := fun p => (∀ x, wB sk x = false) → gP tkPlan (n + 1) sk p → planN (n + 1) p → hasRole role (rowN (n + 1) p) = false → ∃ z, partN role (n + 1) p = some z ∧ rowN (n + 1) z = endR) (fun y hw hg _ _ => ⟨.leaf y, rfl, leaf y sk hw hg⟩) (fun y q hw hg hp hr => ?_) (fun t l hw hg hp hr => ?_) p
    · have hc : closedL [] (rowN (n + 1) (.loop y q)) = true := g_closed (A := tkPlan) (fun t ht => by have := ht.1; omega) (n + 1) sk (.loop y q) [] hg (fun x hx => by rw [hw x] at hx; cases hx)
      have hi : idleL role (rowN (n + 1) (.loop y q)) = true := by rw [idleL, hr, hc]; rfl
      refine ⟨.leaf none, ?_, rfl⟩
      show (if idleL role (rowN (n + 1) (.loop y q)) then some (.leaf none) else (partN role n q).map (Pn.loop y)) = _
      rw [if_pos hi]
    · obtain ⟨h3, -, hl1, -, hbs⟩ := hp
      obtain ⟨-, -, -, -, g5⟩ := hg
      rw [row_talk, role_cons, Bool.or_eq_false_iff] at hr
      obtain ⟨hra, hrb⟩ := hr
      have h3' : (t.op == 3) = true := beq_iff_eq.2 h3
      rw [h3', Bool.true_and, Bool.or_eq_false_iff] at hra
      have hb' : ∀ b ∈ l, hasRole role (rowN n b.p) = false := fun b hb => by
        rw [hasRole, List.any_eq_false] at hrb ⊢
        exact fun x hx => hrb x (by unfold brsBy; exact List.mem_flatMap.2 ⟨b, hb, List.mem_cons_of_mem _ hx⟩)
      obtain ⟨r, hr, el, hq⟩ := parts_allQ (f := partN role n) (Q := fun z => rowN n z = endR) l (fun b hb => ih (none :: sk) b.p (fun x => by show (false || wB sk x) = false; rw [hw]; rfl) (g5 b hb) (hbs b hb) (hb' b hb))
      have sw : ∀ u v : ByteArray, (u.toList == v.toList) = false → (v.toList == u.toList) = false := fun u v h => by
        rw [beq_eq_false_iff_ne] at h ⊢; exact fun e => h e.symm
      cases r with
      | nil => simp at el; omega
      | cons c r =>
        refine ⟨upN n c.p, ?_, by rw [up_row]; exact hq c List.mem_cons_self⟩
        show (match partsBy (partN role n) l with
          | none => none
          | some r => if role.toList == t.a.toList then some (Pn.talk ⟨5, noT, t.b⟩ r) else if role.toList == t.b.toList then some (Pn.talk ⟨6, noT, t.a⟩ r) else
            match r with
            | [] => none
            | c :: r => (mergeAll (mergeN n) c.p r).map (upN n)) = _
        rw [hr]
        simp only [sw _ _ hra.1, sw _ _ hra.2, Bool.false_eq_true, if_false]
        rw [all_same (R := endR) r c.p (hq c List.mem_cons_self) (fun d hd => hq d (List.mem_cons_of_mem _ hd))]
        rfl
theorem talks_has {ns : List Nd} {x : ByteArray} (hr : rightB false ns = true) (h : x ∈ rolesS ns) : talksV ns x = true := by
  unfold talksV hasB rolesV
  rw [if_pos hr]
  exact List.any_eq_true.2 ⟨x, h, by simp⟩
theorem talks_in_roles {ns : List Nd} {x : ByteArray} (h : talksV ns x = true) : rightB false ns = true ∧ x ∈ rolesS ns := by
  unfold talksV hasB rolesV at h
  split at h
  · rename_i hr
    obtain ⟨y, hy, e⟩ := List.any_eq_true.1 h
    rw [← bytes_of (eq_of_beq e)]
    exact ⟨hr, hy⟩
  · cases h
theorem role_no {ns : List Nd} {role : ByteArray} (hr : rightB false ns = true) (h : talksV ns role = false) : hasRole role ns = false := by
  rw [hasRole, List.any_eq_false]
  intro n hn hc
  have hnd := right_nodes hr
  simp only [Bool.and_eq_true, Bool.or_eq_true, beq_iff_eq] at hc
  obtain ⟨h3, hc⟩ := hc
  have : role ∈ rolesS ns := by
    rcases hc with hc | hc
    · rw [← bytes_of hc]; exact roles_has hnd hn (by simp [talkers, h3])
    · rw [← bytes_of hc]; exact roles_has hnd hn (by simp [talkers, h3])
  rw [talks_has hr this] at h
  cases h
theorem peer_talks {ns T : List Nd} (hr : rightB false ns = true) (hT : rightB true T = true) (h : ∀ nd ∈ T, ∀ t ∈ talkers nd, t ∈ rolesS ns) : ∀ nd ∈ T, (nd.peer.toList == []) = false → talksV ns nd.peer = true := by
  intro nd hn hp
  have hb := right_nodes hT nd hn
  refine talks_has hr (h nd hn nd.peer ?_)
  unfold nodeB at hb
  simp only [Bool.or_eq_true, endB, varB, recB, caseB, talkS, Bool.and_eq_true, hp, Bool.false_eq_true, and_false, false_and, or_false, false_or, if_true] at hb
  rcases hb.2.2.2 with e | e
  · simp [talkers, beq_iff_eq.1 e]
  · simp [talkers, beq_iff_eq.1 e]
theorem po_snd (ns : List Nd) (role : ByteArray) (h1 : ns.length ≤ 400) (h2 : role.size ≤ 8000) : ∃ T C q, PoIs ns role T C ∧ T.length ≤ 40 ∧ Snd ns q ∧ (C ≠ 0 → q = true → talksV ns role = false) ∧
    (C = 0 → rightB true T = true ∧ (∀ nd ∈ T, (nd.peer.toList == role.toList) = false) ∧ (∀ nd ∈ T, (nd.peer.toList == []) = false → talksV ns nd.peer = true) ∧ (talksV ns role = false → T.length = 1)) := by
  cases hr : rightB false ns with
  | false =>
    refine ⟨[], 1, false, .inr ⟨h1, h2, .inl ⟨by rw [hr]; rfl, rfl, rfl⟩⟩, by simp, .inl ⟨hr, rfl⟩, fun _ h => (by cases h), fun h => (by omega)⟩
  | true =>
    obtain ⟨ha, h40⟩ := plan_ahead hr
    obtain ⟨p, e, hp⟩ := parse 10 [] ns [] ha
    rw [List.append_nil] at e
    have hs : Snd ns (sndP p (rolesS ns)) := .inr ⟨hr, p, e, hp, h40, rfl⟩
    cases hn : nameB role with
    | false =>
      refine ⟨[], 1, _, .inr ⟨h1, h2, .inl ⟨by rw [hr, hn]; rfl, rfl, rfl⟩⟩, by simp, hs, fun _ _ => ?_, fun h => by omega⟩
      cases ht : talksV ns role with
      | false => rfl
      | true =>
        have := (role_name hr (talks_in_roles ht).2).1
        rw [hn] at this
        cases this
    | true =>
      cases hm : partN role 10 p with
      | none =>
        refine ⟨[], 11, _, .inr ⟨h1, h2, .inr ⟨by rw [hr, hn]; rfl, p, e, hp, h40, .inl ⟨hm, rfl, rfl⟩⟩⟩, by simp, hs, fun _ hq => ?_, fun h => by omega⟩
        cases ht : talksV ns role with
        | false => rfl
        | true =>
          have := List.all_eq_true.1 hq role (talks_in_roles ht).2
          rw [hm] at this
          cases this
      | some z =>
        obtain ⟨hT, hpe⟩ := part_is hr e hp hm
        refine ⟨rowN 10 z, 0, _, .inr ⟨h1, h2, .inr ⟨by rw [hr, hn]; rfl, p, e, hp, h40, .inr ⟨z, hm, rfl, rfl⟩⟩⟩, by have := (part_sz role 10 p z hp hm).1; rw [← e] at this; omega, hs, fun h => absurd rfl h, fun _ => ⟨hT, fun nd hnd => ?_, peer_talks hr hT hpe, fun ht => ?_⟩⟩
        · exact beq_eq_false_iff_ne.2 fun h => part_notme hr e hp hn hm nd hnd (bytes_of h)
        · obtain ⟨z', hz', hrow⟩ := idle_part role 10 [] p (fun _ => rfl) (plan_g hr e hp) hp (by rw [← e]; exact role_no hr ht)
          rw [hm] at hz'
          injection hz' with hz'
          rw [hz', hrow]
          rfl
end Go.Proofs.YtmjlblbhakppfaaGreatDoor
namespace Go.Proofs.YtmjlblbhakppfaaGreatDoor
open Go.RowKit

theorem field_code (u : Value) (c : Int) (W : World) : (Instr.field 41 (.agg #[u, .int .i64 c]) 1).run Tryz.prog W = .ok (.int .i64 c) W := by kernel_rfl
theorem i_partIs {ns : List Nd} {p : Pn 10} {role : ByteArray} {b : Bool} (hr : rightB false ns = true) (hp : ns = rowN 10 p) (hpl : planN 10 p) (h40 : ns.length ≤ 40) (hn : nameB role = true) (hz : role.size ≤ 20) (hb : (partN role 10 p).isSome = b) (v : Value) (w : World) (fit : ∀ n ∈ ns, n.fit) (hv : SlAt w w.heap.size v ns) :
    Calls Tryz.prog 27 #[v, .string role] w fun e w' => ∃ u, e = .returned (.agg #[u, .int .i64 (if b then 0 else 11)]) ∧ Below w.heap.size w w' := by
  cases hm : partN role 10 p with
  | none =>
    rw [hm] at hb
    subst hb
    refine (i_partOf ns role [] 11 (.inr ⟨by omega, by omega, .inr ⟨by rw [hr, hn]; rfl, p, hp, hpl, h40, .inl ⟨hm, rfl, rfl⟩⟩⟩) v w fit (by unfold maxLen; omega) hv).mono ?_
    rintro e w' ⟨u, rfl, -, hb⟩
    exact ⟨u, rfl, hb⟩
  | some z =>
    rw [hm] at hb
    subst hb
    refine (i_partOf ns role (rowN 10 z) 0 (.inr ⟨by omega, by omega, .inr ⟨by rw [hr, hn]; rfl, p, hp, hpl, h40, .inr ⟨z, hm, rfl, rfl⟩⟩⟩) v w fit (by unfold maxLen; omega) hv).mono ?_
    rintro e w' ⟨u, rfl, -, hb⟩
    exact ⟨u, rfl, hb⟩

set_option maxRecDepth 100000 in
set_option maxHeartbeats 1000000 in
theorem i_sound (ns : List Nd) (q : Bool) (hq : Snd ns q) (v : Value) (w : World) (fit : ∀ n ∈ ns, n.fit) (hv : SlAt w w.heap.size v ns) :
    Calls Tryz.prog 34 #[v] w fun e w' => e = .returned (.bool q) ∧ Below w.heap.size w w' := by
  have HV := hide hv
  have HF := hide fit
  have hlm := hv.lenm
  obtain ⟨ao, cap, rfl, hc, hm, hr⟩ := hv
  clear hr fit
  rcases hq with ⟨hrb, rfl⟩ | ⟨hrb, p, hp, hpl, h40, rfl⟩
  · have HRB := hide hrb
    clear hrb
    go_enter Tryz.func34, Tryz.ntmps34
    go_wp2_with (go_at_call 12; refine (plan_right ns _ _ HF.out HV.out).mono ?_; rintro e w1 ⟨rfl, hb1⟩; rw [HRB.out]; have HB1 := hide hb1; clear hb1)
    go_ret
    exact ⟨rfl, HB1.out⟩
  · have HRB := hide hrb
    have HRV : Hid (rolesV ns = rolesS ns) := hide (by rw [rolesV, hrb]; rfl)
    have HL4 := hide (right_roles hrb)
    obtain ⟨rs, hrs⟩ : ∃ rs, rolesS ns = rs := ⟨_, rfl⟩
    have HPO : Hid (∀ (k : Nat) (hk : k < rs.length) (b : Bool) (W : World), (partN rs[k] 10 p).isSome = b → Below w.heap.size w W → Calls Tryz.prog 27 #[.slice ao ns.length cap, .string rs[k]] W fun e w' => ∃ u, e = .returned (.agg #[u, .int .i64 (if b then 0 else 11)]) ∧ Below W.heap.size W w') := hide (fun k hk b W hb hw => by
      have hn := role_name hrb (t := rs[k]) (by rw [hrs]; exact List.getElem_mem hk)
      exact i_partIs hrb hp hpl h40 hn.1 hn.2 hb _ W HF.out ((HV.out.carry hw).up hw.size))
    rw [hrs] at HL4 HRV ⊢
    clear hrs hp hrb
    go_enter Tryz.func34, Tryz.ntmps34
    go_wp2_with (first
      | (go_at_call 12; refine (plan_right ns _ _ HF.out HV.out).mono ?_; rintro e w1 ⟨rfl, hb1⟩; rw [HRB.out]; have HB1 := hide hb1; clear hb1)
      | (go_at_call 9; refine (roles_of ns _ _ HF.out ((HV.out.carry HB1.out).up HB1.out.size)).mono ?_; rintro e w2 ⟨v2, rfl, ho2, hb2⟩; rw [HRV.out] at ho2; obtain ⟨ao2, cap2, rfl, hc2, hm2, hr2⟩ := texts_own ho2 (by have := HL4.out; omega); have HR2 := hide hr2; have HB2 : Hid (Below w.heap.size w w2) := hide (HB1.out.trans (hb2.mono HB1.out.size)); clear hb2 ho2 hr2))
    go_loopw [11] (fun i wr => ∃ k : Nat, k ≤ rs.length ∧ i = .int .i64 k ∧ (∀ j (h : j < rs.length), j < k → (partN rs[j] 10 p).isSome = true) ∧ Below w2.heap.size w2 wr) (fun i _ => rs.length - (intOf i).toNat)
    case atStart => exact ⟨0, Nat.zero_le _, rfl, fun j _ h => absurd h (by omega), Below.refl _ _⟩
    case round =>
      obtain ⟨k, hk, rfl, hall, hbel⟩ := hrel
      have HA := hide hall
      have HBEL := hide hbel
      clear hall hbel
      by_cases hlt : k < rs.length
      · obtain ⟨b, o, rfl, hcell⟩ := HR2.out (by intro h; simp [h] at hlt)
        have c0 := (HBEL.out.cell (p := ⟨b, _, none⟩) (World.block_lt_of_cell? w2 _ (hcell k hlt))).trans (hcell k hlt)
        obtain ⟨bb, hbb⟩ : ∃ bb, (partN rs[k] 10 p).isSome = bb := ⟨_, rfl⟩
        have HC : Hid (∀ W : World, Below w.heap.size w W → Calls Tryz.prog 27 #[.slice ao ns.length cap, .string rs[k]] W fun e w' => ∃ u, e = .returned (.agg #[u, .int .i64 (if bb then 0 else 11)]) ∧ Below W.heap.size W w') := hide (fun W hw => HPO.out k hlt bb W hbb hw)
        have HBB := hide hbb
        obtain ⟨x1, hx1⟩ : ∃ x1, x1 = rs[k] := ⟨_, rfl⟩
        rw [← hx1] at c0 HC HBB
        have HX := hide hx1
        clear hx1 hcell hbb
        cases bb
        · replace HC : Hid (∀ W : World, Below w.heap.size w W → Calls Tryz.prog 27 #[.slice ao ns.length cap, .string x1] W fun e w' => ∃ u, e = .returned (.agg #[u, .int .i64 11]) ∧ Below W.heap.size W w') := HC
          have hfd : ∀ (u : Value) (W : World), (Instr.field 41 (.agg #[u, .int .i64 11]) 1).run Tryz.prog W = .ok (.int .i64 11) W := fun u W => field_code u _ W
          go_wp2_with (go_at_call 27; refine (HC.out _ (HB2.out.trans (HBEL.out.mono HB2.out.size))).mono ?_; rintro e w3 ⟨u, rfl, hb3⟩; have HB3 := hide hb3; clear hb3)
          go_ret
          exact ⟨ret_bool (snd_no hlt (by rw [← HX.out]; exact HBB.out)), (HB2.out.trans (HBEL.out.mono HB2.out.size)).trans (HB3.out.mono (Nat.le_trans HB2.out.size HBEL.out.size))⟩
        · replace HC : Hid (∀ W : World, Below w.heap.size w W → Calls Tryz.prog 27 #[.slice ao ns.length cap, .string x1] W fun e w' => ∃ u, e = .returned (.agg #[u, .int .i64 0]) ∧ Below W.heap.size W w') := HC
          have hfd : ∀ (u : Value) (W : World), (Instr.field 41 (.agg #[u, .int .i64 0]) 1).run Tryz.prog W = .ok (.int .i64 0) W := fun u W => field_code u _ W
          go_wp2_with (go_at_call 27; refine (HC.out _ (HB2.out.trans (HBEL.out.mono HB2.out.size))).mono ?_; rintro e w3 ⟨u, rfl, hb3⟩; have HB3 := hide hb3; clear hb3)
          go_roundw
          case rel =>
            refine ⟨k + 1, hlt, by go_num, fun j hj hjk => ?_, HBEL.out.trans (HB3.out.mono HBEL.out.size)⟩
            by_cases hjk' : j = k
            · subst hjk'; rw [← HX.out]; exact HBB.out
            · exact HA.out j hj (by omega)
          case measure => simp [intOf]; omega
      · go_wp2_with fail
        go_ret
        exact ⟨ret_bool (snd_all (fun j hj => HA.out j hj (by omega))), HB2.out.trans (HBEL.out.mono HB2.out.size)⟩
end Go.Proofs.YtmjlblbhakppfaaGreatDoor
namespace Go.Proofs.YtmjlblbhakppfaaGreatDoor
open Go.RowKit

set_option maxRecDepth 100000 in
set_option maxHeartbeats 1000000 in
theorem s_l03Sound (ns : List Nd) (p : Pn 10) (hrb : rightB false ns = true) (hp : ns = rowN 10 p) (hpl : planN 10 p) (h40 : ns.length ≤ 40) (v : Value) (w : World) (hv : SlAt w w.heap.size v ns) :
    Calls Tryz.prog 63 #[v] w fun e w' => e = .returned (.bool (sndP p (rolesS ns))) ∧ Below w.heap.size w w' := by
  have HV := hide hv
  have hlm := hv.lenm
  obtain ⟨ao, cap, rfl, hc, hm, hr⟩ := hv
  have HOF : Hid (∀ (role : ByteArray) W, Below w.heap.size w W → Calls Tryz.prog 62 #[.slice ao ns.length cap, .int .i64 0, .string role] W fun e w' => OfAns 10 (rowN 10 p).length W w' e (partN role 10 p)) := hide (fun role W hb => by
    have hs : RdW w (fun g => g < w.heap.size) (.slice ao ns.length cap) ns := ⟨ao, cap, rfl, hc, by unfold maxLen; omega, by omega, hr⟩
    exact of_calls role 10 p ns [] 0 (.slice ao ns.length cap) W (fun g => g < w.heap.size) (fun g hg => Nat.lt_of_lt_of_le hg hb.size) hpl h40 (by rw [List.drop_zero, List.append_nil]; exact hp) (hs.on (fun g hg => hg) hb))
  have HL4 := hide (right_roles hrb)
  have HSR : Hid (∀ W, Below w.heap.size w W → Calls Tryz.prog 51 #[.slice ao ns.length cap] W fun e w' => ∃ v', e = .returned v' ∧ STexts w' v' (rolesS ns) ∧ Below W.heap.size W w') := hide (fun W hw => s_roles ns _ W ((HV.out.carry hw).up hw.size) h40)
  obtain ⟨rs, hrs⟩ : ∃ rs, rolesS ns = rs := ⟨_, rfl⟩
  rw [hrs] at HL4 HSR ⊢
  clear hrs hp hrb hr
  go_enter Tryz.func63, Tryz.ntmps63
  go_wp2_with (go_at_call 51; refine (HSR.out _ (Below.refl _ _)).mono ?_; rintro e w2 ⟨v2, rfl, hs2, hb2⟩; obtain ⟨b2, o2, cap2, rfl, hc2, hm2, hr2⟩ := hs2; have HR2 := hide hr2; have HB2 := hide hb2; clear hb2 hr2)
  have hl4 : rs.length ≤ 4 := HL4.out
  go_loopw [4] (fun i wr => ∃ k : Nat, k ≤ rs.length ∧ i = .int .i64 k ∧ (∀ j (h : j < rs.length), j < k → (partN rs[j] 10 p).isSome = true) ∧ Below w2.heap.size w2 wr) (fun i _ => rs.length - (intOf i).toNat)
  case atStart => exact ⟨0, Nat.zero_le _, rfl, fun j _ h => absurd h (by omega), Below.refl _ _⟩
  case round =>
    obtain ⟨k, hk, rfl, hall, hbel⟩ := hrel
    have HA := hide hall
    have HBEL := hide hbel
    clear hall hbel
    by_cases hlt : k < rs.length
    · have c0 := (HBEL.out.cell (p := ⟨b2, _, none⟩) (World.block_lt_of_cell? w2 _ (HR2.out k hlt))).trans (HR2.out k hlt)
      obtain ⟨x1, hx1⟩ : ∃ x1, x1 = rs[k] := ⟨_, rfl⟩
      have HC : Hid (∀ W : World, Below w.heap.size w W → Calls Tryz.prog 62 #[.slice ao ns.length cap, .int .i64 0, .string x1] W fun e w' => ∃ u, e = .returned (.tuple #[u, .bool (partN x1 10 p).isSome]) ∧ Below W.heap.size W w') := hide (fun W hw => (HOF.out x1 W hw).mono (by rintro e w' ⟨u, r, rfl, -, -, -, -, hb⟩; exact ⟨u, rfl, hb⟩))
      obtain ⟨bb, hbb⟩ : ∃ bb, (partN x1 10 p).isSome = bb := ⟨_, rfl⟩
      rw [← hx1] at c0
      rw [hbb] at HC
      have HBB := hide hbb
      have HX := hide hx1
      clear hx1 hbb
      cases bb
      · go_wp2_with (go_at_call 62; refine (HC.out _ (HB2.out.trans (HBEL.out.mono HB2.out.size))).mono ?_; rintro e w3 ⟨u, rfl, hb3⟩; have HB3 := hide hb3; clear hb3)
        go_ret
        exact ⟨ret_bool (snd_no hlt (by rw [← HX.out]; exact HBB.out)), (HB2.out.trans (HBEL.out.mono HB2.out.size)).trans (HB3.out.mono (Nat.le_trans HB2.out.size HBEL.out.size))⟩
      · go_wp2_with (go_at_call 62; refine (HC.out _ (HB2.out.trans (HBEL.out.mono HB2.out.size))).mono ?_; rintro e w3 ⟨u, rfl, hb3⟩; have HB3 := hide hb3; clear hb3)
        go_roundw
        case rel =>
          refine ⟨k + 1, hlt, by go_num, fun j hj hjk => ?_, HBEL.out.trans (HB3.out.mono HBEL.out.size)⟩
          by_cases hjk' : j = k
          · subst hjk'; rw [← HX.out]; exact HBB.out
          · exact HA.out j hj (by omega)
        case measure => simp [intOf]; omega
    · go_wp2_with fail
      go_ret
      exact ⟨ret_bool (snd_all (fun j hj => HA.out j hj (by omega))), HB2.out.trans (HBEL.out.mono HB2.out.size)⟩

set_option maxRecDepth 100000 in
set_option maxHeartbeats 1000000 in
theorem s_sound (ns : List Nd) (q : Bool) (hq : Snd ns q) (v : Value) (w : World) (fit : ∀ n ∈ ns, n.fit) (hv : SlAt w w.heap.size v ns) :
    Calls Tryz.prog 35 #[v] w fun e w' => e = .returned (.bool q) ∧ Below w.heap.size w w' := by
  have HV := hide hv
  have HF := hide fit
  have hlm := hv.lenm
  obtain ⟨ao, cap, rfl, hc, hm, hr⟩ := hv
  clear hr fit
  rcases hq with ⟨hrb, rfl⟩ | ⟨hrb, p, hp, hpl, h40, rfl⟩
  · have HRB := hide hrb
    clear hrb
    by_cases h400 : ns.length ≤ 400
    · go_enter Tryz.func35, Tryz.ntmps35
      go_wp2_with (go_at_call 13; refine (s_planRight ns _ _ HF.out HV.out).mono ?_; rintro e w1 ⟨rfl, hb1⟩; rw [HRB.out]; have HB1 := hide hb1; clear hb1)
      go_ret
      exact ⟨rfl, HB1.out⟩
    · go_enter Tryz.func35, Tryz.ntmps35
      go_wp2_with fail
      go_ret
      exact ⟨rfl, Below.refl _ _⟩
  · have HRB := hide hrb
    have h400 : ns.length ≤ 400 := by omega
    have HSO : Hid (∀ W, Below w.heap.size w W → Calls Tryz.prog 63 #[.slice ao ns.length cap] W fun e w' => e = .returned (.bool (sndP p (rolesS ns))) ∧ Below W.heap.size W w') := hide (fun W hw => s_l03Sound ns p hrb hp hpl h40 _ W ((HV.out.carry hw).up hw.size))
    obtain ⟨q, hq⟩ : ∃ q, sndP p (rolesS ns) = q := ⟨_, rfl⟩
    rw [hq] at HSO ⊢
    clear hp hrb hq
    go_enter Tryz.func35, Tryz.ntmps35
    go_wp2_with (first
      | (go_at_call 13; refine (s_planRight ns _ _ HF.out HV.out).mono ?_; rintro e w1 ⟨rfl, hb1⟩; rw [HRB.out]; have HB1 := hide hb1; clear hb1)
      | (go_at_call 63; refine (HSO.out _ HB1.out).mono ?_; rintro e w2 ⟨rfl, hb2⟩; have HB2 := hide hb2; clear hb2))
    go_ret
    exact ⟨rfl, HB1.out.trans (HB2.out.mono HB1.out.size)⟩
end Go.Proofs.YtmjlblbhakppfaaGreatDoor
