import Derived.Test.YtmjlblbhakppfaaGreatDoorQP36
namespace Go.Proofs.YtmjlblbhakppfaaGreatDoor
open Go.RowKit
attribute [local go_sem ↓] Go.wp_at_zero Go.wp_at_succ

theorem parts_step {α : Type} {f : α → Option α} {acc l : List (Br α)} {k : Nat} (h : consO acc (partsBy f (l.drop k)) = partsBy f l) {d : Br α} (hd : l[k]? = some d) : partsBy f l = match f d.p with
    | none => none
    | some q => consO (acc ++ [⟨d.l, d.s, q⟩]) (partsBy f (l.drop (k + 1))) := by
  have hlt := (List.getElem?_eq_some_iff.1 hd).1
  have hde : l[k] = d := (List.getElem?_eq_some_iff.1 hd).2
  rw [← h, List.drop_eq_getElem_cons hlt, hde, partsBy]
  cases f d.p with
  | none => rfl
  | some q => cases partsBy f (l.drop (k + 1)) with
    | none => rfl
    | some r => simp [consO]
theorem case_atP {n : Nat} {all post : List Nd} {l : List (Br (Pn n))} {k p : Nat} {d : Br (Pn n)} (hd : l[k]? = some d) (h : all.drop p = brsBy (rowN n) (l.drop k) ++ post) : all[p]? = some ⟨4, d.l, noT, 0, d.s⟩ ∧ all.drop (p + 1) = rowN n d.p ++ (brsBy (rowN n) (l.drop (k + 1)) ++ post) ∧ all.drop (p + 1 + (rowN n d.p).length) = brsBy (rowN n) (l.drop (k + 1)) ++ post ∧ p + 1 + (rowN n d.p).length ≤ all.length := by
  have hlt := (List.getElem?_eq_some_iff.1 hd).1
  have hde : l[k] = d := (List.getElem?_eq_some_iff.1 hd).2
  rw [List.drop_eq_getElem_cons hlt, hde, brs_cons, List.cons_append, List.append_assoc] at h
  obtain ⟨hp1, hn1, h2⟩ := drop_next (r := rowN n d.p ++ brsBy (rowN n) (l.drop (k + 1))) (post := post) (by rw [h, List.cons_append, List.append_assoc])
  rw [List.append_assoc] at h2
  have hne2 : rowN n d.p ≠ [] := fun e => by have := row_pos n d.p; rw [e] at this; simp at this
  exact ⟨by rw [List.getElem?_eq_getElem hp1, hn1], h2, drop_more h2, by have := drop_len h2 hne2; omega⟩
theorem of_row {w : World} {S : Nat → Prop} {q : Value} {r : List Nd} (h : RdW w S q r) (hc : 0 < r.length) : ∃ g o c, q = .slice (some ⟨g, o, none⟩) r.length c ∧ S g ∧ RowAt w g o r := by
  obtain ⟨ao, cap, e, hc1, hm, hl, hr⟩ := h
  obtain ⟨g, o, e2, hg, hrow⟩ := hr (fun e => by rw [e] at hc; simp at hc)
  exact ⟨g, o, cap, by rw [e, e2], hg, hrow⟩
theorem beq_flip (a b : ByteArray) : (a.toList == b.toList) = (b.toList == a.toList) := by
  cases h : (a.toList == b.toList) with
  | true => rw [toListEq h]; simp
  | false => cases h' : (b.toList == a.toList) with
    | true => rw [toListEq h'] at h; simp at h
    | false => rfl
structure RoundK (role : ByteArray) (n : Nat) (w1 wr : World) (all post : List Nd) (l : List (Br (Pn n))) (hd : Nd) (Z : Nat) (ov : Value) (k p : Nat) (acc : List (Br (Pn n))) : Prop where
  same : consO acc (partsBy (partN role n) (l.drop k)) = partsBy (partN role n) l
  rest : all.drop p = brsBy (rowN n) (l.drop k) ++ post
  own : NdOwn wr Z ov (hd :: brsBy (rowN n) acc)
  sz : (brsBy (rowN n) acc).length + (brsBy (rowN n) (l.drop k)).length ≤ 39
  bel : Below Z w1 wr
  le : p ≤ all.length
set_option maxRecDepth 100000 in
set_option maxHeartbeats 4000000 in
theorem s_cases (role : ByteArray) (n : Nat) (ih : OfCalls role n) (a b : ByteArray) (l : List (Br (Pn n))) (hpl : planN (n + 1) (.talk ⟨3, a, b⟩ l)) (hside : (role.toList == a.toList) = true ∨ (role.toList == b.toList) = true) (all post : List Nd) (pos : Nat) (v : Value) (w : World) (S : Nat → Prop) (hS : ∀ g, S g → g < w.heap.size) (hl : all.length ≤ 40) (h : all.drop pos = rowN (n + 1) (.talk ⟨3, a, b⟩ l) ++ post) (hv : RdW w S v all) : Calls Tryz.prog 94 #[v, .int .i64 pos, .string role] w fun e w' => OfAns (n + 1) (rowN (n + 1) (.talk ⟨3, a, b⟩ l)).length w w' e (partN role (n + 1) (.talk ⟨3, a, b⟩ l)) := by
  obtain ⟨i0, hi, hz0, hz1, hz2⟩ := info_parts Tryz.infoNd
  have HI := hide (And.intro hi (And.intro hz0 (And.intro hz1 hz2)))
  have hpl' : (3 : Int) = 3 ∧ (a.toList == b.toList) = false ∧ 1 ≤ l.length ∧ l.length ≤ 4 ∧ ∀ b ∈ l, planN n b.p := hpl
  obtain ⟨-, hnab, hl1, hl4, hplan⟩ := hpl'
  rw [row_talk] at h
  obtain ⟨hp, hn, h1⟩ := drop_next h
  have HP := hide hplan
  have HW : Hid (∀ (W : World), Below w.heap.size w W → (∀ g, S g → g < W.heap.size) ∧ RdW W S v all) := hide (fun W hW => ⟨fun g hg => Nat.lt_of_lt_of_le (hS g hg) hW.size, hv.on hS hW⟩)
  have HIH : Hid (∀ (k p : Nat) (d : Br (Pn n)), l[k]? = some d → all.drop p = brsBy (rowN n) (l.drop k) ++ post → ∀ W, Below w.heap.size w W → Calls Tryz.prog 62 #[v, .int .i64 ((p : Int) + 1), .string role] W fun e w' => OfAns n (rowN n d.p).length W w' e (partN role n d.p)) := hide (fun k p d hd hr W hW => by
    obtain ⟨-, h2, -, -⟩ := case_atP hd hr
    exact ih d.p all _ (p + 1) v W S (HW.out W hW).1 (hplan d (List.mem_of_getElem? hd)) hl h2 (HW.out W hW).2)
  have HBH : Hid (∀ (k p : Nat) (d : Br (Pn n)), l[k]? = some d → all.drop p = brsBy (rowN n) (l.drop k) ++ post → ∀ W, Below w.heap.size w W → Calls Tryz.prog 91 #[v, .int .i64 ((p : Int) + 1)] W fun e w' => e = .returned (.int .i64 ((p + 1 + (rowN n d.p).length : Nat) : Int)) ∧ Below W.heap.size W w') := hide (fun k p d hd hr W hW => by
    obtain ⟨-, h2, -, -⟩ := case_atP hd hr
    exact behind_calls n d.p all _ (p + 1) v W S (HW.out W hW).1 (plan_shape n d.p (hplan d (List.mem_of_getElem? hd))) (by omega) h2 (HW.out W hW).2)
  have HH1 := hide h1
  have hbl : (brsBy (rowN n) l).length ≤ 39 := by have := congrArg List.length h1; rw [List.length_drop, List.length_append] at this; omega
  have HBL := hide hbl
  have HLN : Hid ((rowN (n + 1) (.talk ⟨3, a, b⟩ l)).length = (brsBy (rowN n) l).length + 1) := hide (by rw [row_talk]; rfl)
  have HPL : Hid (∀ r, partsBy (partN role n) l = some r → r.length = l.length) := hide (fun r hr => (parts_sz (f := rowN n) (Q := planN n) (fun x y hx hy => part_sz role n x y hx hy) l r hplan hr).2)
  obtain ⟨q2, hq2⟩ : ∃ q2, (b.toList == role.toList) = q2 := ⟨_, rfl⟩
  have HPT : Hid (partN role (n + 1) (.talk ⟨3, a, b⟩ l) = (partsBy (partN role n) l).map (Pn.talk (if q2 then ⟨6, noT, a⟩ else ⟨5, noT, b⟩))) := hide (by
    rw [part_talk]
    unfold talkP
    cases hpb : partsBy (partN role n) l with
    | none => rfl
    | some r =>
      have hb' : (role.toList == b.toList) = q2 := by rw [← beq_flip]; exact hq2
      cases q2 with
      | true =>
        have ha' : (role.toList == a.toList) = false := by
          cases hh : (role.toList == a.toList) with
          | false => rfl
          | true => rw [toListEq hh] at hb'; rw [hb'] at hnab; cases hnab
        simp only [ha', hb', Bool.false_eq_true, if_false, if_true, Option.map_some]
      | false =>
        have ha' : (role.toList == a.toList) = true := by
          rcases hside with hh | hh
          · exact hh
          · rw [hb'] at hh; cases hh
        simp only [ha', if_true, Option.map_some, Bool.false_eq_true, if_false])
  have HCD : Hid (∀ (k p : Nat) (d : Br (Pn n)), l[k]? = some d → all.drop p = brsBy (rowN n) (l.drop k) ++ post → ∀ W, Below w.heap.size w W → p < all.length ∧ ∃ g o cap, v = .slice (some ⟨g, o, none⟩) all.length cap ∧ NodeAt W g (o + p * 5) ⟨4, d.l, noT, 0, d.s⟩) := hide (fun k p d hd hr W hW => by
    obtain ⟨hg, -, -, -⟩ := case_atP hd hr
    obtain ⟨hpl, hnp⟩ := List.getElem?_eq_some_iff.1 hg
    obtain ⟨ao, cap, e, -, -, -, hrow⟩ := hv
    obtain ⟨g, o, e2, hgs, hrow2⟩ := hrow (fun e => by rw [e] at hpl; simp at hpl)
    have := (hrow2.get p hpl).carry (hS g hgs) hW
    rw [hnp] at this
    exact ⟨hpl, g, o, cap, by rw [e, e2], this⟩)
  obtain ⟨ao, cap, rfl, hc, hm, -, hrow⟩ := hv
  obtain ⟨g, o, rfl, hg, hrow⟩ := hrow (fun e => by rw [e] at hp; simp at hp)
  have hnode := hrow.get pos hp
  rw [hn] at hnode
  obtain ⟨c0, c1, c2, c3, c4⟩ := hnode
  dsimp only at c0 c1 c2 c3 c4
  have hgw := hS g hg
  obtain ⟨K, hK⟩ : ∃ K, l.length = K := ⟨_, rfl⟩
  rw [hK] at c3 hl1 hl4
  have HK := hide hK
  obtain ⟨M, hM⟩ : ∃ M, all.length = M := ⟨_, rfl⟩
  have HM := hide hM
  rw [hM] at hp hl hc HIH HBH HCD ⊢
  clear hrow hn h h1 hS hM hK ih hplan hi hz0 hz1 hz2 hside hbl
  cases q2
  · go_enter Tryz.func94, Tryz.ntmps94
    go_wp2_with fail
    go_loopw [1, 9, 10] (fun av ov kv wr => ∃ (k p : Nat) (acc : List (Br (Pn n))), k ≤ K ∧ kv = .int .i64 k ∧ av = .int .i64 p ∧ RoundK role n (w.alloc (.cells #[.int .i64 3, .string a, .string b, .int .i64 (K : Int), .int .i64 0] 45)) wr all post l ⟨5, noT, b, (K : Int), 0⟩ (w.heap.size + 1) ov k p acc) (fun _ _ kv _ => K - (intOf kv).toNat)
    case atStart => exact ⟨0, pos + 1, [], Nat.zero_le _, rfl, by go_num, ⟨by rw [List.drop_zero]; cases partsBy (partN role n) l <;> rfl, HH1.out, nd_lit _ ⟨5, noT, b, (K : Int), 0⟩ _ _ (by simp) (by simp), by have := HBL.out; simp [brsBy] at this ⊢; omega, (malloc1 _ _).mono (by simp), by rw [HM.out]; exact hp⟩⟩
    case round =>
      obtain ⟨k, p, acc, hk, rfl, rfl, hR⟩ := hrel
      have HR := hide hR
      have HBW : Hid (Below w.heap.size w wr) := hide ((malloc1 w _).trans (hR.bel.mono (by omega)))
      have hzw : w.heap.size + 1 ≤ wr.heap.size := by have := hR.bel.size; simpa using this
      have hple := hR.le
      rw [HM.out] at hple
      have m3 : wr.cell? ⟨w.heap.size, 3, none⟩ = some (.int .i64 (K : Int)) := (hR.bel.cell (p := ⟨w.heap.size, 3, none⟩) (by simp)).trans (by simp)
      obtain ⟨op, oc, hp0⟩ := owns_shape hR.own
      obtain ⟨X, hX⟩ : ∃ X, (⟨5, noT, b, (K : Int), 0⟩ :: brsBy (rowN n) acc : List Nd) = X := ⟨_, rfl⟩
      have HXL : Hid (X.length ≤ 40) := hide (by rw [← hX, List.length_cons]; have := hR.sz; omega)
      have HOWN := hide hR.own
      rw [hX] at hp0 HOWN
      obtain ⟨cnt, hcnt⟩ : ∃ c, X.length = c := ⟨_, rfl⟩
      rw [hcnt] at hp0
      have HCN := hide hcnt
      have hcl : cnt ≤ 40 := by rw [← hcnt]; exact HXL.out
      subst hp0
      have HX := hide hX
      have HOWN2 : Hid (wr.ownsRow (w.heap.size + 1) 45 5 (.slice op cnt oc) cnt (X.flatMap Nd.cells)) := hide (by have := HOWN.out; unfold NdOwn at this; rw [HCN.out] at this; exact this)
      clear hX hcnt
      by_cases hlt : k < K
      · obtain ⟨d, hdk⟩ : ∃ d, l[k]? = some d := ⟨l[k]'(by rw [HK.out]; exact hlt), List.getElem?_eq_getElem _⟩
        have HC1 := hide (HIH.out k p d hdk hR.rest)
        have HC2 := hide (HBH.out k p d hdk hR.rest)
        have HST := hide (parts_step hR.same hdk)
        have HBD := hide (brs_drop hdk)
        obtain ⟨-, -, hrest, hle⟩ := case_atP hdk hR.rest
        have HRS := hide hrest
        have HPD : Hid (planN n d.p) := hide (HP.out d (List.mem_of_getElem? hdk))
        have HND := hide (HCD.out k p d hdk hR.rest)
        have hpM : p < M := (HND.out wr HBW.out).1
        obtain ⟨T, hT⟩ : ∃ T, p + 1 + (rowN n d.p).length = T := ⟨_, rfl⟩
        rw [hT] at HC2 HRS hle
        rw [HM.out] at hle
        obtain ⟨om, hom⟩ : ∃ om, partN role n d.p = om := ⟨_, rfl⟩
        have HOM := hide hom
        rw [hom] at HC1 HST
        have hrp := row_pos n d.p
        have hdl : (rowN n d.p).length ≤ 39 := by have := HBD.out; have := hR.sz; omega
        obtain ⟨dl, ds, dp⟩ := d
        dsimp only at HND HST HC1 HOM HPD hdl HBD
        clear hR hdk hom hT hrest
        cases om with
        | none =>
          go_wp2_with (go_at_call 62; refine (HC1.out _ HBW.out).mono ?_; rintro e w5 ⟨qv, r, rfl, h5a, h5b, h5c, h5d, h5e⟩; have HB5 : Hid (Below w.heap.size w w5) := hide (HBW.out.trans (h5e.mono HBW.out.size)); clear h5a h5b h5c h5d h5e)
          go_ret2
          rw [HPT.out, HST.out]
          exact ⟨.slice none 0 0, [], rfl, ⟨none, 0, rfl, Nat.le_refl _, Nat.zero_le _, Nat.zero_le _, fun h => absurd rfl h⟩, (fun z hz => by cases hz), .inl rfl, Nat.zero_le _, HB5.out⟩
        | some z =>
          have HPZ := hide (part_sz role n dp z HPD.out HOM.out).1
          go_wp2_with (first
            | (go_at_call 62; refine (HC1.out _ HBW.out).mono ?_; rintro e w5 ⟨qv, r, rfl, h5a, h5b, h5c, h5d, h5e⟩; have hr5 := h5b z rfl; have HR5 := hide hr5; obtain ⟨g5, o5, c5, rfl, hg5, hrow5⟩ := of_row h5a (by rw [hr5]; exact row_pos n z); obtain ⟨RL, hRL⟩ : ∃ RL, r.length = RL := ⟨_, rfl⟩; have hrl0 : 0 < RL := (by rw [← hRL, hr5]; exact row_pos n z); have hrl9 : RL ≤ 940 := (by rw [← hRL]; omega); rw [hRL]; have HRL := hide hRL; have HROW5 := hide hrow5; have hg5a : wr.heap.size ≤ g5 := hg5.1; have hg5b : g5 < w5.heap.size := hg5.2.1; have HB5 : Hid (Below w.heap.size w w5) := hide (HBW.out.trans (h5e.mono HBW.out.size)); have HE5 := hide h5e; obtain ⟨-, gN, oN, capN, eN, y0, y1, y2, y3, y4⟩ := HND.out w5 HB5.out; injection eN with eN1 _ eN3; injection eN1 with eN1; injection eN1 with eN1 eN2 _; subst eN1; subst eN2; subst eN3; dsimp only at y0 y1 y2 y3 y4; clear h5a h5b h5c h5d h5e hr5 hRL hrow5 hg5)
            | ((fail_if_success (have := HO6)); at_builtin; refine wpList_append_own _ rfl (.tmp 51) (.tmp 56) 23 rfl (w.heap.size + 1) 45 i0 (.agg #[.int .i64 0, .string ByteArray.empty, .string ByteArray.empty, .int .i64 0, .int .i64 0]) 5 56 Tryz.underlying23 HI.out.1 HI.out.2.1 HI.out.2.2.1 HI.out.2.2.2 rfl (by decide) (.slice op cnt oc) cnt (X.flatMap Nd.cells) rfl (owns_below (owns_below HOWN2.out HE5.out) (malloc1 w5 _)) ⟨w5.heap.size, 0, none⟩ 1 1 (Nd.cells ⟨4, dl, noT, 0, ds⟩) rfl rfl (fun j u hj => new_rowq _ _ _ _ (by simp) j u hj) (Nd.cells_one _) (by unfold maxLen; omega) (by omega) (by have := HE5.out.size; simp; omega) ?_; intro v6 w6 hown6 hgr6 _; have HO6 := hide hown6; have HA6 : Hid (Apart w5 w6 (vblocks (.slice op cnt oc))) := hide (by have := (below_apart (malloc1 w5 _)).trans (grownBy_apart hgr6); rwa [List.nil_append] at this); have HROW6 : Hid (RowAt w6 g5 o5 r) := hide (HROW5.out.block (HA6.out.block g5 hg5b (fun hm => by have := (owns_fresh HOWN2.out).hi g5 hm; omega))); obtain ⟨p6, c6, rfl⟩ := owns_shape hown6; clear hown6 hgr6)
            | ((fail_if_success (have := HO7)); at_builtin; refine wpList_append_own _ rfl (.tmp 58) (.tmp 59) 23 rfl (w.heap.size + 1) 45 i0 (.agg #[.int .i64 0, .string ByteArray.empty, .string ByteArray.empty, .int .i64 0, .int .i64 0]) 5 56 Tryz.underlying23 HI.out.1 HI.out.2.1 HI.out.2.2.1 HI.out.2.2.2 rfl (by decide) (.slice p6 (cnt + 1) c6) (cnt + 1) (X.flatMap Nd.cells ++ Nd.cells ⟨4, dl, noT, 0, ds⟩) rfl HO6.out ⟨g5, o5, none⟩ RL c5 (r.flatMap Nd.cells) rfl (by rw [flat_len Nd.cells 5 Nd.cells_len, HRL.out]) (fun j u hj => by rw [addr_add]; exact row_cells HROW6.out j u hj) (nds_one r) (by unfold maxLen; omega) (by omega) (by have := HE5.out.size; have := HA6.out.size; omega) ?_; intro v7 w7 hown7 hgr7 _; have HO7 := hide hown7; have HB57 : Hid (Below (w.heap.size + 1) w5 w7) := hide ((HA6.out.below (by have := HE5.out.size; omega) (owns_fresh HOWN2.out).lo).trans ((grownBy_apart hgr7).below (by have := HE5.out.size; have := HA6.out.size; omega) (owns_fresh HO6.out).lo)); have HB7 : Hid (Below w.heap.size w w7) := hide (HB5.out.trans (HB57.out.mono (by omega))); obtain ⟨p7, c7, rfl⟩ := owns_shape hown7; clear hown7 hgr7)
            | (go_at_call 91; refine (HC2.out _ HB7.out).mono ?_; rintro e w8 ⟨rfl, hb8⟩; have HB8 := hide hb8; clear hb8))
          go_roundw
          case rel =>
            have hpz := HPZ.out
            have hbd := HBD.out
            have hsz := HR.out.sz
            have hd1 : (brsBy (rowN n) [(⟨dl, ds, z⟩ : Br (Pn n))]) = [⟨4, dl, noT, 0, ds⟩] ++ rowN n z := by rw [brs_cons]; simp [brsBy]
            refine ⟨k + 1, T, acc ++ [⟨dl, ds, z⟩], hlt, by go_num, rfl, ⟨by rw [HST.out], HRS.out, ?_, ?_, ?_, by rw [HM.out]; exact hle⟩⟩
            · rw [brs_app, hd1, ← List.cons_append, HX.out, ← List.append_assoc]
              refine NdOwn.below (NdOwn.snoc ?_) HB8.out
              rw [List.length_append, List.length_singleton, HCN.out, ← HR5.out, HRL.out, List.flatMap_append]
              simpa using HO7.out
            · rw [brs_app, hd1]
              simp only [List.length_append, List.length_singleton]
              omega
            · exact ((HR.out.bel.trans (HE5.out.mono hzw)).trans HB57.out).trans (HB8.out.mono (by have := HE5.out.size; have := HB57.out.size; omega))
          case measure => simp [intOf]; omega
      · obtain rfl : k = K := by omega
        have HFIN : Hid (partsBy (partN role n) l = some acc) := hide (by
          have := hR.same
          rw [List.drop_of_length_le (by rw [HK.out]; exact Nat.le_refl _), partsBy] at this
          rw [← this]
          simp [consO])
        have HE : Hid (X = rowN (n + 1) (.talk ⟨5, noT, b⟩ acc)) := hide (by rw [← HX.out, row_talk, HPL.out acc HFIN.out, HK.out])
        clear hR
        go_wp2_with fail
        go_ret2
        rw [HPT.out, HFIN.out]
        refine ⟨_, X, rfl, (NdOwn.rdS HOWN.out (by have := HXL.out; omega)).up (fun g hg => ⟨by have := hg.1; omega, hg.2⟩), (fun z hz => by have hz' : some (Pn.talk ⟨5, noT, b⟩ acc) = some z := hz; injection hz' with hz'; rw [← hz']; exact HE.out), .inr (by rw [HE.out]; exact row_pos _ _), by have := HXL.out; omega, HBW.out⟩
  · go_enter Tryz.func94, Tryz.ntmps94
    go_wp2_with fail
    go_loopw [1, 9, 10] (fun av ov kv wr => ∃ (k p : Nat) (acc : List (Br (Pn n))), k ≤ K ∧ kv = .int .i64 k ∧ av = .int .i64 p ∧ RoundK role n (w.alloc (.cells #[.int .i64 3, .string a, .string b, .int .i64 (K : Int), .int .i64 0] 45)) wr all post l ⟨6, noT, a, (K : Int), 0⟩ (w.heap.size + 1) ov k p acc) (fun _ _ kv _ => K - (intOf kv).toNat)
    case atStart => exact ⟨0, pos + 1, [], Nat.zero_le _, rfl, by go_num, ⟨by rw [List.drop_zero]; cases partsBy (partN role n) l <;> rfl, HH1.out, nd_lit _ ⟨6, noT, a, (K : Int), 0⟩ _ _ (by simp) (by simp), by have := HBL.out; simp [brsBy] at this ⊢; omega, (malloc1 _ _).mono (by simp) |>.trans ((malloc1 _ _).mono (by simp)), by rw [HM.out]; exact hp⟩⟩
    case round =>
      obtain ⟨k, p, acc, hk, rfl, rfl, hR⟩ := hrel
      have HR := hide hR
      have HBW : Hid (Below w.heap.size w wr) := hide ((malloc1 w _).trans (hR.bel.mono (by omega)))
      have hzw : w.heap.size + 1 ≤ wr.heap.size := by have := hR.bel.size; simpa using this
      have hple := hR.le
      rw [HM.out] at hple
      have m3 : wr.cell? ⟨w.heap.size, 3, none⟩ = some (.int .i64 (K : Int)) := (hR.bel.cell (p := ⟨w.heap.size, 3, none⟩) (by simp)).trans (by simp)
      obtain ⟨op, oc, hp0⟩ := owns_shape hR.own
      obtain ⟨X, hX⟩ : ∃ X, (⟨6, noT, a, (K : Int), 0⟩ :: brsBy (rowN n) acc : List Nd) = X := ⟨_, rfl⟩
      have HXL : Hid (X.length ≤ 40) := hide (by rw [← hX, List.length_cons]; have := hR.sz; omega)
      have HOWN := hide hR.own
      rw [hX] at hp0 HOWN
      obtain ⟨cnt, hcnt⟩ : ∃ c, X.length = c := ⟨_, rfl⟩
      rw [hcnt] at hp0
      have HCN := hide hcnt
      have hcl : cnt ≤ 40 := by rw [← hcnt]; exact HXL.out
      subst hp0
      have HX := hide hX
      have HOWN2 : Hid (wr.ownsRow (w.heap.size + 1) 45 5 (.slice op cnt oc) cnt (X.flatMap Nd.cells)) := hide (by have := HOWN.out; unfold NdOwn at this; rw [HCN.out] at this; exact this)
      clear hX hcnt
      by_cases hlt : k < K
      · obtain ⟨d, hdk⟩ : ∃ d, l[k]? = some d := ⟨l[k]'(by rw [HK.out]; exact hlt), List.getElem?_eq_getElem _⟩
        have HC1 := hide (HIH.out k p d hdk hR.rest)
        have HC2 := hide (HBH.out k p d hdk hR.rest)
        have HST := hide (parts_step hR.same hdk)
        have HBD := hide (brs_drop hdk)
        obtain ⟨-, -, hrest, hle⟩ := case_atP hdk hR.rest
        have HRS := hide hrest
        have HPD : Hid (planN n d.p) := hide (HP.out d (List.mem_of_getElem? hdk))
        have HND := hide (HCD.out k p d hdk hR.rest)
        have hpM : p < M := (HND.out wr HBW.out).1
        obtain ⟨T, hT⟩ : ∃ T, p + 1 + (rowN n d.p).length = T := ⟨_, rfl⟩
        rw [hT] at HC2 HRS hle
        rw [HM.out] at hle
        obtain ⟨om, hom⟩ : ∃ om, partN role n d.p = om := ⟨_, rfl⟩
        have HOM := hide hom
        rw [hom] at HC1 HST
        have hrp := row_pos n d.p
        have hdl : (rowN n d.p).length ≤ 39 := by have := HBD.out; have := hR.sz; omega
        obtain ⟨dl, ds, dp⟩ := d
        dsimp only at HND HST HC1 HOM HPD hdl HBD
        clear hR hdk hom hT hrest
        cases om with
        | none =>
          go_wp2_with (go_at_call 62; refine (HC1.out _ HBW.out).mono ?_; rintro e w5 ⟨qv, r, rfl, h5a, h5b, h5c, h5d, h5e⟩; have HB5 : Hid (Below w.heap.size w w5) := hide (HBW.out.trans (h5e.mono HBW.out.size)); clear h5a h5b h5c h5d h5e)
          go_ret2
          rw [HPT.out, HST.out]
          exact ⟨.slice none 0 0, [], rfl, ⟨none, 0, rfl, Nat.le_refl _, Nat.zero_le _, Nat.zero_le _, fun h => absurd rfl h⟩, (fun z hz => by cases hz), .inl rfl, Nat.zero_le _, HB5.out⟩
        | some z =>
          have HPZ := hide (part_sz role n dp z HPD.out HOM.out).1
          go_wp2_with (first
            | (go_at_call 62; refine (HC1.out _ HBW.out).mono ?_; rintro e w5 ⟨qv, r, rfl, h5a, h5b, h5c, h5d, h5e⟩; have hr5 := h5b z rfl; have HR5 := hide hr5; obtain ⟨g5, o5, c5, rfl, hg5, hrow5⟩ := of_row h5a (by rw [hr5]; exact row_pos n z); obtain ⟨RL, hRL⟩ : ∃ RL, r.length = RL := ⟨_, rfl⟩; have hrl0 : 0 < RL := (by rw [← hRL, hr5]; exact row_pos n z); have hrl9 : RL ≤ 940 := (by rw [← hRL]; omega); rw [hRL]; have HRL := hide hRL; have HROW5 := hide hrow5; have hg5a : wr.heap.size ≤ g5 := hg5.1; have hg5b : g5 < w5.heap.size := hg5.2.1; have HB5 : Hid (Below w.heap.size w w5) := hide (HBW.out.trans (h5e.mono HBW.out.size)); have HE5 := hide h5e; obtain ⟨-, gN, oN, capN, eN, y0, y1, y2, y3, y4⟩ := HND.out w5 HB5.out; injection eN with eN1 _ eN3; injection eN1 with eN1; injection eN1 with eN1 eN2 _; subst eN1; subst eN2; subst eN3; dsimp only at y0 y1 y2 y3 y4; clear h5a h5b h5c h5d h5e hr5 hRL hrow5 hg5)
            | ((fail_if_success (have := HO6)); at_builtin; refine wpList_append_own _ rfl (.tmp 51) (.tmp 56) 23 rfl (w.heap.size + 1) 45 i0 (.agg #[.int .i64 0, .string ByteArray.empty, .string ByteArray.empty, .int .i64 0, .int .i64 0]) 5 56 Tryz.underlying23 HI.out.1 HI.out.2.1 HI.out.2.2.1 HI.out.2.2.2 rfl (by decide) (.slice op cnt oc) cnt (X.flatMap Nd.cells) rfl (owns_below (owns_below HOWN2.out HE5.out) (malloc1 w5 _)) ⟨w5.heap.size, 0, none⟩ 1 1 (Nd.cells ⟨4, dl, noT, 0, ds⟩) rfl rfl (fun j u hj => new_rowq _ _ _ _ (by simp) j u hj) (Nd.cells_one _) (by unfold maxLen; omega) (by omega) (by have := HE5.out.size; simp; omega) ?_; intro v6 w6 hown6 hgr6 _; have HO6 := hide hown6; have HA6 : Hid (Apart w5 w6 (vblocks (.slice op cnt oc))) := hide (by have := (below_apart (malloc1 w5 _)).trans (grownBy_apart hgr6); rwa [List.nil_append] at this); have HROW6 : Hid (RowAt w6 g5 o5 r) := hide (HROW5.out.block (HA6.out.block g5 hg5b (fun hm => by have := (owns_fresh HOWN2.out).hi g5 hm; omega))); obtain ⟨p6, c6, rfl⟩ := owns_shape hown6; clear hown6 hgr6)
            | ((fail_if_success (have := HO7)); at_builtin; refine wpList_append_own _ rfl (.tmp 58) (.tmp 59) 23 rfl (w.heap.size + 1) 45 i0 (.agg #[.int .i64 0, .string ByteArray.empty, .string ByteArray.empty, .int .i64 0, .int .i64 0]) 5 56 Tryz.underlying23 HI.out.1 HI.out.2.1 HI.out.2.2.1 HI.out.2.2.2 rfl (by decide) (.slice p6 (cnt + 1) c6) (cnt + 1) (X.flatMap Nd.cells ++ Nd.cells ⟨4, dl, noT, 0, ds⟩) rfl HO6.out ⟨g5, o5, none⟩ RL c5 (r.flatMap Nd.cells) rfl (by rw [flat_len Nd.cells 5 Nd.cells_len, HRL.out]) (fun j u hj => by rw [addr_add]; exact row_cells HROW6.out j u hj) (nds_one r) (by unfold maxLen; omega) (by omega) (by have := HE5.out.size; have := HA6.out.size; omega) ?_; intro v7 w7 hown7 hgr7 _; have HO7 := hide hown7; have HB57 : Hid (Below (w.heap.size + 1) w5 w7) := hide ((HA6.out.below (by have := HE5.out.size; omega) (owns_fresh HOWN2.out).lo).trans ((grownBy_apart hgr7).below (by have := HE5.out.size; have := HA6.out.size; omega) (owns_fresh HO6.out).lo)); have HB7 : Hid (Below w.heap.size w w7) := hide (HB5.out.trans (HB57.out.mono (by omega))); obtain ⟨p7, c7, rfl⟩ := owns_shape hown7; clear hown7 hgr7)
            | (go_at_call 91; refine (HC2.out _ HB7.out).mono ?_; rintro e w8 ⟨rfl, hb8⟩; have HB8 := hide hb8; clear hb8))
          go_roundw
          case rel =>
            have hpz := HPZ.out
            have hbd := HBD.out
            have hsz := HR.out.sz
            have hd1 : (brsBy (rowN n) [(⟨dl, ds, z⟩ : Br (Pn n))]) = [⟨4, dl, noT, 0, ds⟩] ++ rowN n z := by rw [brs_cons]; simp [brsBy]
            refine ⟨k + 1, T, acc ++ [⟨dl, ds, z⟩], hlt, by go_num, rfl, ⟨by rw [HST.out], HRS.out, ?_, ?_, ?_, by rw [HM.out]; exact hle⟩⟩
            · rw [brs_app, hd1, ← List.cons_append, HX.out, ← List.append_assoc]
              refine NdOwn.below (NdOwn.snoc ?_) HB8.out
              rw [List.length_append, List.length_singleton, HCN.out, ← HR5.out, HRL.out, List.flatMap_append]
              simpa using HO7.out
            · rw [brs_app, hd1]
              simp only [List.length_append, List.length_singleton]
              omega
            · exact ((HR.out.bel.trans (HE5.out.mono hzw)).trans HB57.out).trans (HB8.out.mono (by have := HE5.out.size; have := HB57.out.size; omega))
          case measure => simp [intOf]; omega
      · obtain rfl : k = K := by omega
        have HFIN : Hid (partsBy (partN role n) l = some acc) := hide (by
          have := hR.same
          rw [List.drop_of_length_le (by rw [HK.out]; exact Nat.le_refl _), partsBy] at this
          rw [← this]
          simp [consO])
        have HE : Hid (X = rowN (n + 1) (.talk ⟨6, noT, a⟩ acc)) := hide (by rw [← HX.out, row_talk, HPL.out acc HFIN.out, HK.out])
        clear hR
        go_wp2_with fail
        go_ret2
        rw [HPT.out, HFIN.out]
        refine ⟨_, X, rfl, (NdOwn.rdS HOWN.out (by have := HXL.out; omega)).up (fun g hg => ⟨by have := hg.1; omega, hg.2⟩), (fun z hz => by have hz' : some (Pn.talk ⟨6, noT, a⟩ acc) = some z := hz; injection hz' with hz'; rw [← hz']; exact HE.out), .inr (by rw [HE.out]; exact row_pos _ _), by have := HXL.out; omega, HBW.out⟩
end Go.Proofs.YtmjlblbhakppfaaGreatDoor
namespace Go.Proofs.YtmjlblbhakppfaaGreatDoor
open Go.RowKit
attribute [local go_sem ↓] Go.wp_at_zero Go.wp_at_succ

def othersN (role : ByteArray) (n : Nat) : Pn n → List (Br (Pn n)) → Option (Pn n)
  | z, [] => some z
  | z, b :: l => match partN role n b.p with
    | none => none
    | some q => match mergeN n z q with
      | none => none
      | some z' => othersN role n z' l
theorem others_all (role : ByteArray) (n : Nat) : ∀ (l : List (Br (Pn n))) (z : Pn n), othersN role n z l = match partsBy (partN role n) l with
    | none => none
    | some r => mergeAll (mergeN n) z r
  | [], z => by rw [othersN, partsBy]; rfl
  | b :: l, z => by
    rw [othersN, partsBy]
    cases hp : partN role n b.p with
    | none => rfl
    | some q =>
      dsimp only
      cases hm : mergeN n z q with
      | none =>
        dsimp only
        cases partsBy (partN role n) l with
        | none => rfl
        | some r => dsimp only; rw [mergeAll]; dsimp only; rw [hm]
      | some z' =>
        dsimp only
        rw [others_all role n l z']
        cases partsBy (partN role n) l with
        | none => rfl
        | some r => dsimp only; rw [mergeAll]; dsimp only; rw [hm]
theorem others_talk (role : ByteArray) (n : Nat) (a b : ByteArray) (c : Br (Pn n)) (l : List (Br (Pn n))) (ha : (role.toList == a.toList) = false) (hb : (role.toList == b.toList) = false) : partN role (n + 1) (.talk ⟨3, a, b⟩ (c :: l)) = (match partN role n c.p with
    | none => none
    | some z => othersN role n z l).map (upN n) := by
  rw [part_talk]
  unfold talkP
  rw [partsBy]
  cases partN role n c.p with
  | none => rfl
  | some z =>
    dsimp only
    rw [others_all]
    cases partsBy (partN role n) l with
    | none => rfl
    | some r => simp only [ha, hb, Bool.false_eq_true, if_false]
theorem others_step {role : ByteArray} {n k : Nat} {z : Pn n} {l : List (Br (Pn n))} {d : Br (Pn n)} (hd : l[k]? = some d) : othersN role n z (l.drop k) = match partN role n d.p with
    | none => none
    | some q => match mergeN n z q with
      | none => none
      | some z' => othersN role n z' (l.drop (k + 1)) := by
  have hlt := (List.getElem?_eq_some_iff.1 hd).1
  have hde : l[k] = d := (List.getElem?_eq_some_iff.1 hd).2
  rw [List.drop_eq_getElem_cons hlt, hde, othersN]
structure RoundO (role : ByteArray) (n : Nat) (w w1 wr : World) (all post : List Nd) (l : List (Br (Pn n))) (tot : Option (Pn n)) (ov : Value) (k p : Nat) (st : Option (Pn n)) : Prop where
  same : tot = match st with
    | none => none
    | some z => othersN role n z (l.drop (k + 1))
  rest : all.drop p = brsBy (rowN n) (l.drop k) ++ post
  row : ∃ r, RdW wr (btF w.heap.size wr) ov r ∧ (∀ z, st = some z → r = rowN n z) ∧ (ov = .slice none 0 0 ∨ 0 < r.length) ∧ r.length ≤ 900 + (brsBy (rowN n) l).length
  ok : ∀ z, st = some z → shapeN n z ∧ fourN n z ∧ (rowN n z).length + (brsBy (rowN n) (l.drop (k + 1))).length ≤ 40
  bel : Below (w.heap.size + 1) w1 wr
set_option maxRecDepth 100000 in
set_option maxHeartbeats 4000000 in
theorem s_others (role : ByteArray) (n : Nat) (ih : OfCalls role n) (a b : ByteArray) (l : List (Br (Pn n))) (hpl : planN (n + 1) (.talk ⟨3, a, b⟩ l)) (ha : (role.toList == a.toList) = false) (hb : (role.toList == b.toList) = false) (all post : List Nd) (pos : Nat) (v : Value) (w : World) (S : Nat → Prop) (hS : ∀ g, S g → g < w.heap.size) (hl : all.length ≤ 40) (h : all.drop pos = rowN (n + 1) (.talk ⟨3, a, b⟩ l) ++ post) (hv : RdW w S v all) : Calls Tryz.prog 95 #[v, .int .i64 pos, .string role] w fun e w' => OfAns (n + 1) (rowN (n + 1) (.talk ⟨3, a, b⟩ l)).length w w' e (partN role (n + 1) (.talk ⟨3, a, b⟩ l)) := by
  have hpl' : (3 : Int) = 3 ∧ (a.toList == b.toList) = false ∧ 1 ≤ l.length ∧ l.length ≤ 4 ∧ ∀ b ∈ l, planN n b.p := hpl
  obtain ⟨-, hnab, hl1, hl4, hplan⟩ := hpl'
  rw [row_talk] at h
  obtain ⟨hp, hn, h1⟩ := drop_next h
  have HP := hide hplan
  have HW : Hid (∀ (W : World), Below w.heap.size w W → (∀ g, S g → g < W.heap.size) ∧ RdW W S v all) := hide (fun W hW => ⟨fun g hg => Nat.lt_of_lt_of_le (hS g hg) hW.size, hv.on hS hW⟩)
  have HIH : Hid (∀ (k p : Nat) (d : Br (Pn n)), l[k]? = some d → all.drop p = brsBy (rowN n) (l.drop k) ++ post → ∀ W, Below w.heap.size w W → Calls Tryz.prog 62 #[v, .int .i64 ((p : Int) + 1), .string role] W fun e w' => OfAns n (rowN n d.p).length W w' e (partN role n d.p)) := hide (fun k p d hd hr W hW => by
    obtain ⟨-, h2, -, -⟩ := case_atP hd hr
    exact ih d.p all _ (p + 1) v W S (HW.out W hW).1 (hplan d (List.mem_of_getElem? hd)) hl h2 (HW.out W hW).2)
  have HBH : Hid (∀ (k p : Nat) (d : Br (Pn n)), l[k]? = some d → all.drop p = brsBy (rowN n) (l.drop k) ++ post → ∀ W, Below w.heap.size w W → Calls Tryz.prog 91 #[v, .int .i64 ((p : Int) + 1)] W fun e w' => e = .returned (.int .i64 ((p + 1 + (rowN n d.p).length : Nat) : Int)) ∧ Below W.heap.size W w') := hide (fun k p d hd hr W hW => by
    obtain ⟨-, h2, -, -⟩ := case_atP hd hr
    exact behind_calls n d.p all _ (p + 1) v W S (HW.out W hW).1 (plan_shape n d.p (hplan d (List.mem_of_getElem? hd))) (by omega) h2 (HW.out W hW).2)
  have hbl : (brsBy (rowN n) l).length ≤ 39 := by have := congrArg List.length h1; rw [List.length_drop, List.length_append] at this; omega
  have HBL := hide hbl
  have HLN : Hid ((rowN (n + 1) (.talk ⟨3, a, b⟩ l)).length = (brsBy (rowN n) l).length + 1) := hide (by rw [row_talk]; rfl)
  have HLE : Hid (∀ (k p : Nat) (d : Br (Pn n)), l[k]? = some d → all.drop p = brsBy (rowN n) (l.drop k) ++ post → p < 40 ∧ p + 1 + (rowN n d.p).length ≤ 40) := hide (fun k p d hd hr => by
    obtain ⟨-, -, -, h2⟩ := case_atP hd hr
    omega)
  obtain ⟨c, hc0⟩ : ∃ c, l[0]? = some c := ⟨l[0]'(by omega), List.getElem?_eq_getElem _⟩
  have hlc : l = c :: l.drop 1 := by
    have := List.drop_eq_getElem_cons (l := l) (i := 0) (by omega)
    rw [(List.getElem?_eq_some_iff.1 hc0).2, List.drop_zero] at this
    exact this
  obtain ⟨tot, htot⟩ : ∃ tot, (match partN role n c.p with
    | none => none
    | some z => othersN role n z (l.drop 1)) = tot := ⟨_, rfl⟩
  have HPT : Hid (partN role (n + 1) (.talk ⟨3, a, b⟩ l) = tot.map (upN n)) := hide (by
    rw [← htot]
    conv => lhs; rw [hlc]
    exact others_talk role n a b c (l.drop 1) ha hb)
  have h10 : all.drop (pos + 1) = brsBy (rowN n) (l.drop 0) ++ post := by rw [List.drop_zero]; exact h1
  have HC0 := hide (HIH.out 0 (pos + 1) c hc0 h10)
  have hp2 := (HLE.out 0 (pos + 1) c hc0 h10).1
  have HH1 := hide h10
  have HPC : Hid (planN n c.p) := hide (hplan c (List.mem_of_getElem? hc0))
  have HSC : Hid (1 + (rowN n c.p).length + (brsBy (rowN n) (l.drop (0 + 1))).length = (brsBy (rowN n) l).length) := hide (by have := brs_drop (n := n) hc0; rw [List.drop_zero] at this; omega)
  obtain ⟨o0, ho0⟩ : ∃ o0, partN role n c.p = o0 := ⟨_, rfl⟩
  have HO0 := hide ho0
  rw [ho0] at HC0 htot
  have HTOT := hide htot
  obtain ⟨ao, cap, rfl, hc, hm, -, hrow⟩ := hv
  obtain ⟨g, o, rfl, hg, hrow⟩ := hrow (fun e => by rw [e] at hp; simp at hp)
  have hnode := hrow.get pos hp
  rw [hn] at hnode
  obtain ⟨c0, c1, c2, c3, c4⟩ := hnode
  dsimp only at c0 c1 c2 c3 c4
  have hgw := hS g hg
  obtain ⟨K, hK⟩ : ∃ K, l.length = K := ⟨_, rfl⟩
  rw [hK] at c3 hl1 hl4
  have HK := hide hK
  obtain ⟨M, hM⟩ : ∃ M, all.length = M := ⟨_, rfl⟩
  rw [hM] at hp hl hc HIH HBH HC0 ⊢
  clear hrow hn h h1 h10 hS hM hK ih hplan hbl hlc hc0 htot ho0 ha hb
  go_enter Tryz.func95, Tryz.ntmps95
  go_wp2_with (go_at_call 62; refine (HC0.out _ (malloc1 _ _)).mono ?_; rintro e w2 ⟨qv, r, rfl, h2a, h2b, h2c, h2d, h2e⟩; have H2A := hide h2a; have H2B := hide h2b; have H2C := hide h2c; have H2D := hide h2d; have H2E := hide h2e; obtain ⟨a2, d2, rfl, -⟩ := h2a; clear h2b h2c h2d h2e)
  go_loopw [1, 9, 10, 11] (fun av ov okv kv wr => ∃ (k p : Nat) (st : Option (Pn n)), k < K ∧ kv = .int .i64 ((k + 1 : Nat) : Int) ∧ av = .int .i64 p ∧ okv = .bool st.isSome ∧ RoundO role n w (w.alloc (.cells #[.int .i64 3, .string a, .string b, .int .i64 (K : Int), .int .i64 0] 45)) wr all post l tot ov k p st) (fun _ _ _ kv _ => K - (intOf kv).toNat)
  case atStart =>
    refine ⟨0, pos + 1, o0, hl1, rfl, by go_num, rfl, ⟨HTOT.out.symm, HH1.out, ⟨r, H2A.out.up (fun g hg => ⟨by have := hg.1; simp at this; omega, hg.2⟩), H2B.out, H2C.out, by have := H2D.out; have := HSC.out; omega⟩, fun z hz => ?_, by have := H2E.out; simpa using this⟩⟩
    subst hz
    have hs := (part_sz role n c.p z HPC.out HO0.out).1
    have := HSC.out
    have := HBL.out
    exact ⟨part_shape role n c.p z HPC.out HO0.out, part_four role n c.p z HPC.out HO0.out, by omega⟩
  case round =>
    obtain ⟨k, p, st, hk, rfl, rfl, rfl, hR⟩ := hrel
    have HR := hide hR
    have HBW : Hid (Below w.heap.size w wr) := hide ((malloc1 w _).trans (hR.bel.mono (by omega)))
    have hzw : w.heap.size + 1 ≤ wr.heap.size := by have := hR.bel.size; simpa using this
    have m3 : wr.cell? ⟨w.heap.size, 3, none⟩ = some (.int .i64 (K : Int)) := (hR.bel.cell (p := ⟨w.heap.size, 3, none⟩) (by simp)).trans (by simp)
    obtain ⟨r1, hr1a, hr1b, hr1c, hr1d⟩ := hR.row
    have HRA := hide hr1a
    have HRB := hide hr1b
    have HRC := hide hr1c
    have HRD := hide hr1d
    obtain ⟨ap, cpp, rfl, -⟩ := hr1a
    obtain ⟨RN, hRN⟩ : ∃ RN, r1.length = RN := ⟨_, rfl⟩
    rw [hRN] at HRA HRC ⊢
    have HRN := hide hRN
    clear hr1b hr1c hr1d hRN
    by_cases hlt : k + 1 < K
    · cases st with
      | none =>
        have HTN : Hid (tot = none) := hide hR.same
        clear hR
        go_wp2_with fail
        go_ret2
        rw [HPT.out, HTN.out]
        exact ⟨.slice ap RN cpp, r1, rfl, HRA.out, (fun z hz => by cases hz), by rw [HRN.out]; exact HRC.out, by have := HRD.out; have := HLN.out; omega, HBW.out⟩
      | some z =>
        obtain ⟨d0, hd0⟩ : ∃ d, l[k]? = some d := ⟨l[k]'(by rw [HK.out]; exact hk), List.getElem?_eq_getElem _⟩
        obtain ⟨d, hd⟩ : ∃ d, l[k + 1]? = some d := ⟨l[k + 1]'(by rw [HK.out]; exact hlt), List.getElem?_eq_getElem _⟩
        have HC1 := hide (HBH.out k p d0 hd0 hR.rest)
        obtain ⟨-, -, hrest, -⟩ := case_atP hd0 hR.rest
        have hT40 := (HLE.out k p d0 hd0 hR.rest).2
        have hp40 := (HLE.out k p d0 hd0 hR.rest).1
        obtain ⟨T, hT⟩ : ∃ T, p + 1 + (rowN n d0.p).length = T := ⟨_, rfl⟩
        rw [hT] at HC1 hrest hT40
        have HRS := hide hrest
        have HC2 := hide (HIH.out (k + 1) T d hd hrest)
        have HPD : Hid (planN n d.p) := hide (HP.out d (List.mem_of_getElem? hd))
        have HBD := hide (brs_drop (n := n) hd)
        obtain ⟨ok1, ok2, ok3⟩ := hR.ok z rfl
        have HOK1 := hide ok1
        have HOK2 := hide ok2
        have HOK3 := hide ok3
        have HST : Hid (tot = match partN role n d.p with
          | none => none
          | some q => match mergeN n z q with
            | none => none
            | some z' => othersN role n z' (l.drop (k + 1 + 1))) := hide (by rw [hR.same]; exact others_step hd)
        have HRZ : Hid (r1 = rowN n z) := hide (HRB.out z rfl)
        obtain ⟨om, hom⟩ : ∃ om, partN role n d.p = om := ⟨_, rfl⟩
        have HOM := hide hom
        rw [hom] at HC2 HST
        clear hR hd0 hd hrest hT ok1 ok2 ok3 hom
        cases om with
        | none =>
          go_wp2_with (first
            | (go_at_call 91; refine (HC1.out _ HBW.out).mono ?_; rintro e w3 ⟨rfl, hb3⟩; have HB3 : Hid (Below w.heap.size w w3) := hide (HBW.out.trans (hb3.mono HBW.out.size)); have HW3 := hide hb3; clear hb3)
            | (go_at_call 62; refine (HC2.out _ HB3.out).mono ?_; rintro e w4 ⟨q4, r4, rfl, h4a, h4b, h4c, h4d, h4e⟩; have HB4 : Hid (Below w.heap.size w w4) := hide (HB3.out.trans (h4e.mono HB3.out.size)); have HW4 := hide (HW3.out.trans (h4e.mono HW3.out.size)); obtain ⟨a4, c4', rfl, -⟩ := h4a; clear h4b h4c h4d h4e))
          go_ret2
          rw [HPT.out, HST.out]
          exact ⟨.slice ap RN cpp, r1, rfl, HRA.out.carry (fun g hg => HW4.out.block g hg.2.1) (fun g hg => hg.go HW4.out), (fun z hz => by cases hz), by rw [HRN.out]; exact HRC.out, by have := HRD.out; have := HLN.out; omega, HB4.out⟩
        | some q =>
          have HPS := hide (part_sz role n d.p q HPD.out HOM.out).1
          have HMC : Hid (∀ (W : World) (qv : Value), Below wr.heap.size wr W → RdW W (btF w.heap.size W) qv (rowN n q) → Calls Tryz.prog 127 #[.slice ap RN cpp, qv] W fun e w' => MergedS n (btF w.heap.size W) W w' e (mergeN n z q)) := hide (fun W qv hW hq => by
            have hs := HPS.out
            have hbd := HBD.out
            have hok := HOK3.out
            refine merge_s n (btF w.heap.size W) z q _ qv W (fun g hg => hg.2.1) HOK1.out (part_shape role n d.p q HPD.out HOM.out) HOK2.out (part_four role n d.p q HPD.out HOM.out) (by omega) ?_ hq
            have := HRA.out.carry (fun g hg => hW.block g hg.2.1) (S' := btF w.heap.size W) (fun g hg => hg.go hW)
            rw [HRZ.out] at this
            exact this)
          obtain ⟨mz, hmz⟩ : ∃ mz, mergeN n z q = mz := ⟨_, rfl⟩
          have HMZ := hide hmz
          rw [hmz] at HMC
          clear hmz
          go_wp2_with (first
            | (go_at_call 91; refine (HC1.out _ HBW.out).mono ?_; rintro e w3 ⟨rfl, hb3⟩; have HB3 : Hid (Below w.heap.size w w3) := hide (HBW.out.trans (hb3.mono HBW.out.size)); have HW3 := hide hb3; clear hb3)
            | (go_at_call 62; refine (HC2.out _ HB3.out).mono ?_; rintro e w4 ⟨q4, r4, rfl, h4a, h4b, h4c, h4d, h4e⟩; have hr4 := h4b q rfl; subst hr4; have H4A := hide h4a; have HB4 : Hid (Below w.heap.size w w4) := hide (HB3.out.trans (h4e.mono HB3.out.size)); have HW4 := hide (HW3.out.trans (h4e.mono HW3.out.size)); have HZ3 := hide HB3.out.size; obtain ⟨a4, c4', rfl, -⟩ := h4a; clear h4b h4c h4d h4e)
            | (go_at_call 127; refine (HMC.out _ _ HW4.out (H4A.out.up (fun g hg => ⟨Nat.le_trans HZ3.out hg.1, hg.2⟩))).mono ?_; rintro e w5 ⟨q5, r5, rfl, h5a, h5b, h5c, h5d⟩; have H5A := hide h5a; have H5B := hide h5b; have H5C := hide h5c; have HW5 := hide (HW4.out.trans (h5d.mono HW4.out.size)); have HZ5 := hide h5d.size; have H5E := hide h5d; have HZ4 := hide HB4.out.size; obtain ⟨a5, c5', rfl, -⟩ := h5a; clear h5b h5c h5d))
          go_roundw
          case rel =>
            have hs := HPS.out
            have hbd := HBD.out
            have hok := HOK3.out
            refine ⟨k + 1, T, mz, hlt, by go_num, rfl, rfl, ⟨?_, HRS.out, ⟨r5, H5A.out.up (fun g hg => ?_), H5B.out, .inr H5C.out.1, by have := H5C.out.2; omega⟩, fun z' hz' => ?_, HR.out.bel.trans (HW5.out.mono hzw)⟩⟩
            · rw [HST.out, HMZ.out]
            · rcases hg with hg | hg
              · exact hg.go H5E.out
              · exact ⟨Nat.le_trans HZ4.out hg.1, hg.2⟩
            · subst hz'
              have hsz := (merge_sz n z q z' HMZ.out).1
              exact ⟨merge_shape n z q z' HOK1.out (part_shape role n d.p q HPD.out HOM.out) HMZ.out, merge_four n z q z' HOK2.out (part_four role n d.p q HPD.out HOM.out) HMZ.out, by omega⟩
          case measure => simp [intOf]; omega
    · obtain rfl : k + 1 = K := by omega
      have HTS : Hid (tot = st) := hide (by
        rw [hR.same]
        cases st with
        | none => rfl
        | some z => dsimp only; rw [List.drop_of_length_le (by rw [HK.out]; exact Nat.le_refl _), othersN])
      clear hR
      go_wp2_with fail
      go_ret2
      rw [HPT.out, HTS.out]
      refine ⟨.slice ap RN cpp, r1, ret2_bool (by cases st <;> rfl), HRA.out, (fun z hz => ?_), by rw [HRN.out]; exact HRC.out, by have := HRD.out; have := HLN.out; omega, HBW.out⟩
      cases st with
      | none => cases hz
      | some z0 =>
        have hz' : some (upN n z0) = some z := hz
        injection hz' with hz'
        rw [← hz', up_row]
        exact HRB.out z0 rfl
end Go.Proofs.YtmjlblbhakppfaaGreatDoor
namespace Go.Proofs.YtmjlblbhakppfaaGreatDoor
open Go.RowKit
attribute [local go_sem ↓] Go.wp_at_zero Go.wp_at_succ

set_option maxRecDepth 100000 in
set_option maxHeartbeats 2000000 in
theorem of_talk (role : ByteArray) (n : Nat) (ih : OfCalls role n) (a b : ByteArray) (l : List (Br (Pn n))) (hpl : planN (n + 1) (.talk ⟨3, a, b⟩ l)) (all post : List Nd) (pos : Nat) (v : Value) (w : World) (S : Nat → Prop) (hS : ∀ g, S g → g < w.heap.size) (hl : all.length ≤ 40) (h : all.drop pos = rowN (n + 1) (.talk ⟨3, a, b⟩ l) ++ post) (hv : RdW w S v all) : Calls Tryz.prog 62 #[v, .int .i64 pos, .string role] w fun e w' => OfAns (n + 1) (rowN (n + 1) (.talk ⟨3, a, b⟩ l)).length w w' e (partN role (n + 1) (.talk ⟨3, a, b⟩ l)) := by
  have HW : Hid (∀ (W : World), Below w.heap.size w W → (∀ g, S g → g < W.heap.size) ∧ RdW W S v all) := hide (fun W hW => ⟨fun g hg => Nat.lt_of_lt_of_le (hS g hg) hW.size, hv.on hS hW⟩)
  obtain ⟨q1, hq1⟩ : ∃ q, (a.toList == role.toList) = q := ⟨_, rfl⟩
  obtain ⟨q2, hq2⟩ : ∃ q, (b.toList == role.toList) = q := ⟨_, rfl⟩
  have HCA : Hid ((q1 || q2) = true → ∀ W, Below w.heap.size w W → Calls Tryz.prog 94 #[v, .int .i64 pos, .string role] W fun e w' => OfAns (n + 1) (rowN (n + 1) (.talk ⟨3, a, b⟩ l)).length W w' e (partN role (n + 1) (.talk ⟨3, a, b⟩ l))) := hide (fun hq W hW => s_cases role n ih a b l hpl (by
    rw [beq_flip role a, beq_flip role b, hq1, hq2]
    cases q1
    · exact .inr hq
    · exact .inl rfl) all post pos v W S (HW.out W hW).1 hl h (HW.out W hW).2)
  have HOT : Hid ((q1 || q2) = false → ∀ W, Below w.heap.size w W → Calls Tryz.prog 95 #[v, .int .i64 pos, .string role] W fun e w' => OfAns (n + 1) (rowN (n + 1) (.talk ⟨3, a, b⟩ l)).length W w' e (partN role (n + 1) (.talk ⟨3, a, b⟩ l))) := hide (fun hq W hW => by
    cases q1
    · cases q2
      · exact s_others role n ih a b l hpl (by rw [beq_flip, hq1]) (by rw [beq_flip, hq2]) all post pos v W S (HW.out W hW).1 hl h (HW.out W hW).2
      · cases hq
    · cases hq)
  obtain ⟨P, hP⟩ : ∃ P, partN role (n + 1) (.talk ⟨3, a, b⟩ l) = P := ⟨_, rfl⟩
  obtain ⟨len, hlen⟩ : ∃ len, (rowN (n + 1) (.talk ⟨3, a, b⟩ l)).length = len := ⟨_, rfl⟩
  rw [hP, hlen] at HCA HOT ⊢
  have HDN : Hid (∀ (W w' : World) (e : Ending), w.heap.size ≤ W.heap.size → Below w.heap.size w W → OfAns (n + 1) len W w' e P → OfAns (n + 1) len w w' e P) := hide (fun W w' e hz hb ⟨q, r, h1, h2, h3, h4, h5, h6⟩ => ⟨q, r, h1, h2.up (fun g hg => ⟨Nat.le_trans hz hg.1, hg.2⟩), h3, h4, h5, hb.trans (h6.mono hz)⟩)
  rw [row_talk] at h
  obtain ⟨hp, hn, h1⟩ := drop_next h
  obtain ⟨ao, cap, rfl, hc, hm, -, hrow⟩ := hv
  obtain ⟨g, o, rfl, hg, hrow⟩ := hrow (fun e => by rw [e] at hp; simp at hp)
  have hnode := hrow.get pos hp
  rw [hn] at hnode
  obtain ⟨c0, c1, c2, c3, c4⟩ := hnode
  dsimp only at c0 c1 c2 c3 c4
  have hgw := hS g hg
  obtain ⟨M, hM⟩ : ∃ M, all.length = M := ⟨_, rfl⟩
  rw [hM] at hp hl hc HCA HOT ⊢
  clear hrow hn h h1 hS hM ih hpl HW hP hlen
  cases q1
  · cases q2
    · go_enter Tryz.func62, Tryz.ntmps62
      go_wp2_with (go_at_call 95; refine (HOT.out rfl _ (malloc1 _ _)).mono ?_; intro e w1 h1; have h1' := HDN.out _ _ _ (by simp) (malloc1 _ _) h1; obtain ⟨q, r, rfl, h2, h3, h4, h5, h6⟩ := h1'; have H1 := hide (And.intro h2 (And.intro h3 (And.intro h4 (And.intro h5 h6)))); obtain ⟨a2, c2', rfl, -⟩ := h2; clear h1 h3 h4 h5 h6)
      go_ret2
      exact ⟨_, r, rfl, H1.out⟩
    · go_enter Tryz.func62, Tryz.ntmps62
      go_wp2_with (go_at_call 94; refine (HCA.out rfl _ (malloc1 _ _)).mono ?_; intro e w1 h1; have h1' := HDN.out _ _ _ (by simp) (malloc1 _ _) h1; obtain ⟨q, r, rfl, h2, h3, h4, h5, h6⟩ := h1'; have H1 := hide (And.intro h2 (And.intro h3 (And.intro h4 (And.intro h5 h6)))); obtain ⟨a2, c2', rfl, -⟩ := h2; clear h1 h3 h4 h5 h6)
      go_ret2
      exact ⟨_, r, rfl, H1.out⟩
  · go_enter Tryz.func62, Tryz.ntmps62
    go_wp2_with (go_at_call 94; refine (HCA.out rfl _ (malloc1 _ _)).mono ?_; intro e w1 h1; have h1' := HDN.out _ _ _ (by simp) (malloc1 _ _) h1; obtain ⟨q, r, rfl, h2, h3, h4, h5, h6⟩ := h1'; have H1 := hide (And.intro h2 (And.intro h3 (And.intro h4 (And.intro h5 h6)))); obtain ⟨a2, c2', rfl, -⟩ := h2; clear h1 h3 h4 h5 h6)
    go_ret2
    exact ⟨_, r, rfl, H1.out⟩
theorem of_calls (role : ByteArray) : ∀ n : Nat, OfCalls role n := by
  intro n
  induction n with
  | zero => intro p all post pos v w S hS _ hl h hv; exact leaf_ans hS hl h hv rfl
  | succ n ih =>
    intro p
    refine Pn.cases (P := fun p => ∀ (all post : List Nd) (pos : Nat) (v : Value) (w : World) (S : Nat → Prop), (∀ g, S g → g < w.heap.size) → planN (n + 1) p → all.length ≤ 40 → all.drop pos = rowN (n + 1) p ++ post → RdW w S v all → Calls Tryz.prog 62 #[v, .int .i64 pos, .string role] w fun e w' => OfAns (n + 1) (rowN (n + 1) p).length w w' e (partN role (n + 1) p)) (fun x all post pos v w S hS _ hl h hv => leaf_ans hS hl h hv rfl) (fun x q all post pos v w S hS hp hl h hv => of_loop role n ih x q hp all post pos v w S hS hl h hv) (fun t l all post pos v w S hS hp hl h hv => ?_) p
    obtain ⟨op, a, b⟩ := t
    have hp' : op = 3 ∧ (a.toList == b.toList) = false ∧ 1 ≤ l.length ∧ l.length ≤ 4 ∧ ∀ b ∈ l, planN n b.p := hp
    obtain ⟨rfl, -⟩ := hp'
    exact of_talk role n ih a b l hp all post pos v w S hS hl h hv
def PoIs (ns : List Nd) (role : ByteArray) (T : List Nd) (C : Int) : Prop :=
  ((400 < ns.length ∨ 8000 < role.size) ∧ T = [] ∧ C = 2) ∨
  (ns.length ≤ 400 ∧ role.size ≤ 8000 ∧ ((rightB false ns && nameB role) = false ∧ T = [] ∧ C = 1 ∨
    (rightB false ns && nameB role) = true ∧ ∃ p : Pn 10, ns = rowN 10 p ∧ planN 10 p ∧ ns.length ≤ 40 ∧ ((partN role 10 p = none ∧ T = [] ∧ C = 11) ∨ ∃ z, partN role 10 p = some z ∧ T = rowN 10 z ∧ C = 0)))
theorem plan_ahead {ns : List Nd} (h : rightB false ns = true) : ahead (talkS false) 10 [] ns = some [] ∧ ns.length ≤ 40 := by
  rw [rightB] at h
  simp only [Bool.and_eq_true, decide_eq_true_eq, beq_iff_eq] at h
  refine ⟨?_, h.1⟩
  cases hr : ahead (talkS false) 10 [] ns with
  | none => rw [hr] at h; simp at h
  | some r => rw [hr] at h; simp at h; rw [h.2.1]
theorem po_ex (ns : List Nd) (role : ByteArray) : ∃ T C, PoIs ns role T C ∧ T.length ≤ 40 := by
  by_cases h : 400 < ns.length ∨ 8000 < role.size
  · exact ⟨[], 2, .inl ⟨h, rfl, rfl⟩, by simp⟩
  · have h1 : ns.length ≤ 400 := by omega
    have h2 : role.size ≤ 8000 := by omega
    cases hr : (rightB false ns && nameB role) with
    | false => exact ⟨[], 1, .inr ⟨h1, h2, .inl ⟨hr, rfl, rfl⟩⟩, by simp⟩
    | true =>
      have hr' := hr
      rw [Bool.and_eq_true] at hr'
      obtain ⟨ha, h40⟩ := plan_ahead hr'.1
      obtain ⟨p, e, hp⟩ := parse 10 [] ns [] ha
      rw [List.append_nil] at e
      cases hm : partN role 10 p with
      | none => exact ⟨[], 11, .inr ⟨h1, h2, .inr ⟨hr, p, e, hp, h40, .inl ⟨hm, rfl, rfl⟩⟩⟩, by simp⟩
      | some z => exact ⟨rowN 10 z, 0, .inr ⟨h1, h2, .inr ⟨hr, p, e, hp, h40, .inr ⟨z, hm, rfl, rfl⟩⟩⟩, by have := (part_sz role 10 p z hp hm).1; rw [← e] at this; omega⟩
end Go.Proofs.YtmjlblbhakppfaaGreatDoor
