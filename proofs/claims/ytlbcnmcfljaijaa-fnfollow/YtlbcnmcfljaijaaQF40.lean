import Derived.Test.YtlbcnmcfljaijaaQF38
import Derived.Test.YtlbcnmcfljaijaaQF31
import Derived.Test.YtlbcnmcfljaijaaQF35
import Derived.BigQuiet
import Derived.Test.YtlbcnmcfljaijaaQF00
import Derived.Test.YtlbcnmcfljaijaaQF39
namespace Go.Proofs.Ytlbcnmcfljaijaa
open Go.RowKit
set_option linter.unusedSimpArgs false
set_option linter.unusedVariables false

theorem text_ne {part : Bool} {ns : List Nd} (h : rightB part ns = true) : (textF 10 ns).1.toList ≠ [] := by
  intro e
  have h1 := spec_reads h
  rw [e] at h1
  have h2 : oneS part 11 ⟨[], [], false⟩ = ⟨[], [⟨1, ba [], noT, 0, 0⟩], false⟩ := by
    rw [oneS]
    cases part <;> simp [wdS, skW, isS, pushS]
  rw [h2] at h1
  have h3 : [(⟨1, ba [], noT, 0, 0⟩ : Nd)] = ns := congrArg Ss.l h1
  rw [← h3] at h
  simp only [rightB, Bool.and_eq_true] at h
  have h4 := h.2.1
  rw [ahead] at h4
  simp [backB] at h4
theorem read_is {part : Bool} {t : ByteArray} {a : Nat} {l : List Nd} {b : Bool} (h : oneS part 11 (stS t 0 [] false) = stS t a l b) (ns : List Nd) (hn : IsText part t ns) : l = ns ∧ b = false ∧ t.toList ≠ [] ∧ textV part l = t := by
  have h1 := spec_reads hn.1
  have e : (⟨(textF 10 ns).1.toList, [], false⟩ : Ss) = stS t 0 [] false := by rw [hn.2]; rfl
  rw [e, h] at h1
  have hl : l = ns := congrArg Ss.l h1
  have hb : b = false := congrArg Ss.bad h1
  refine ⟨hl, hb, ?_, ?_⟩
  · rw [← hn.2]
    exact text_ne hn.1
  · rw [hl, textV, hn.1]
    exact hn.2
theorem whole_is {part : Bool} {t : ByteArray} {l : List Nd} (h : textV part l = t) (hne : t.toList ≠ []) : IsText part t l := by
  unfold textV at h
  split at h
  · rename_i hr
    exact ⟨hr, h⟩
  · exfalso
    rw [← h] at hne
    exact hne (by rw [Go.ByteArray.toList_eq]; rfl)
def RdS (part : Bool) (t : ByteArray) (w w' : World) (e : Ending) : Prop := ∃ p n c l q, e = .returned (.tuple #[.slice p n c, .bool q]) ∧ Below w.heap.size w w' ∧ ((q = true ∧ NdOwn w' w.heap.size (.slice p n c) l ∧ IsText part t l) ∨ (q = false ∧ ∀ ns, ¬ IsText part t ns))
def rdS (t : ByteArray) (part : Bool) : Obj := .cells #[.string t, .int .i64 0, .slice none 0 0, .bool part, .bool false] 114
theorem sr_new (w : World) (t : ByteArray) (part : Bool) : SrAt (w.alloc (rdS t part)) w.heap.size (w.heap.size + 1) t part 0 (.slice none 0 0) [] false :=
  ⟨BoxL.new w [.string t, .int .i64 0, .slice none 0 0, .bool part, .bool false] 114, World.ownsRow_nil _ _ _ _, Nat.zero_le _, by omega, by simp⟩
theorem sk_low {w W w' : World} (h0 : Below w.heap.size w W) (h : Skept W w' (w.heap.size + 1) w.heap.size) : Below w.heap.size w w' :=
  ⟨h.os.trans h0.os, h.tape.trans h0.tape, h.output.trans h0.output, Nat.le_trans h0.size h.size, fun b hb => (h.block b (by omega) (by omega)).trans (h0.block b hb)⟩
set_option maxRecDepth 100000 in
set_option maxHeartbeats 8000000 in
theorem s_read (part : Bool) (t : ByteArray) (w : World) (ht : t.size ≤ 8000) : Calls Try.prog 61 #[.string t, .bool part] w fun e w' => RdS part t w w' e := by
  have HO := hide (sr_one part t ht 11 w.heap.size (w.heap.size + 1) 0 1 (.slice none 0 0) [] false (w.alloc (rdS t part)) rfl (by simp) (sr_new w t part))
  have HSM := hide (one_small part ht)
  obtain ⟨S, hS⟩ : ∃ x, oneS part 11 (stS t 0 [] false) = x := ⟨_, rfl⟩
  rw [hS] at HO HSM
  have HSS := hide hS
  clear hS
  go_enter Try.func61, Try.ntmps61
  go_wp2_with (first
    | (go_at_call 71; refine HO.out.mono ?_; rintro e w2 ⟨rfl, a9, lv9, l9, b9, rfl, hs9, hk9⟩; obtain ⟨p9, c9, rfl⟩ := owns_shape hs9.row; have HS9 := hide hs9; have HB9 := hide (sk_low (malloc1 _ _) hk9); have d2 := hs9.box.cell 2 _ rfl; have d4 := hs9.box.cell 4 _ rfl; clear hs9 hk9))
  have HRI : Hid (∀ ns, IsText part t ns → l9 = ns ∧ b9 = false ∧ t.toList ≠ [] ∧ textV part l9 = t) := hide (read_is HSS.out)
  cases b9
  · cases hte : (t.toList == [])
    · have HW : Hid (∀ W, Below w2.heap.size w2 W → Calls Try.prog 72 #[.slice p9 l9.length c9, .bool part] W fun e w' => e = .returned (.string (textV part l9)) ∧ Below W.heap.size W w') := hide (fun W hb => s_whole part l9 _ W (HSM.out.f rfl) (own_slat (HS9.out.row.below hb) (by have : l9.length ≤ 42 := HSM.out.n; omega)))
      have HWI : Hid (textV part l9 = t → IsText part t l9) := hide (fun h => whole_is h (by intro e; rw [e] at hte; simp at hte))
      obtain ⟨TV, hTV⟩ : ∃ x, textV part l9 = x := ⟨_, rfl⟩
      rw [hTV] at HW HWI HRI
      clear hTV
      refine wp_region_grown (by kernel_rfl) (by kernel_rfl) (fun W hW => ?_)
      subst hW
      have hne := grown_some W
      have f2 := grown_cell d2
      have f4 := grown_cell d4
      repeat (go_big_quiet_step ((go_at_call 72; exact grown_more (HW.out _ (Grown.bel _)))))
      refine wpQuiet_nil ?_
      intro w3 hw3
      have HB3 := hide hw3
      clear hw3 hne f2 f4
      have HS3 := hide (HS9.out.keep (below_apart HB3.out))
      go_wp2_with fail
      go_ret2
      refine ⟨p9, l9.length, c9, l9, _, rfl, HB9.out.trans (HB3.out.mono HB9.out.size), ?_⟩
      cases hq : (TV.toList == t.toList)
      · exact .inr ⟨rfl, fun ns hn => by have := (HRI.out ns hn).2.2.2; rw [this] at hq; simp at hq⟩
      · exact .inl ⟨rfl, owns_down HS3.out.row (by omega), HWI.out (tl_inj (eq_of_beq hq))⟩
    · go_quiet (fail)
      go_wp2_with fail
      go_ret2
      refine ⟨p9, l9.length, c9, l9, _, rfl, ⟨HB9.out.os, HB9.out.tape, HB9.out.output, HB9.out.size, HB9.out.block⟩, .inr ⟨rfl, fun ns hn => ?_⟩⟩
      have := (HRI.out ns hn).2.2.1
      rw [eq_of_beq hte] at this
      exact this rfl
  · go_quiet (fail)
    go_wp2_with fail
    go_ret2
    refine ⟨p9, l9.length, c9, l9, _, rfl, ⟨HB9.out.os, HB9.out.tape, HB9.out.output, HB9.out.size, HB9.out.block⟩, .inr ⟨rfl, fun ns hn => ?_⟩⟩
    have := (HRI.out ns hn).2.1
    cases this
end Go.Proofs.Ytlbcnmcfljaijaa
namespace Go.Proofs.Ytlbcnmcfljaijaa
open Go.RowKit
set_option linter.unusedSimpArgs false
set_option linter.unusedVariables false

theorem is_one {part : Bool} {s : ByteArray} {l ns : List Nd} (h : IsText part s l) (hn : IsText part s ns) : l = ns := by
  have h1 := spec_reads h.1
  have h2 := spec_reads hn.1
  rw [h.2] at h1
  rw [hn.2, h1] at h2
  exact congrArg Ss.l h2
set_option maxRecDepth 100000 in
theorem s_planRead (s : ByteArray) (w : World) (hm : s.size ≤ maxLen) : Calls Try.prog 43 #[.string s] w fun e w' => PrAns false s w w' e := by
  unfold maxLen at hm
  by_cases hs : 8000 < s.size
  · go_enter Try.func43, Try.ntmps43
    go_wp2_with fail
    refine bodyPost_ret (v := .agg #[.slice none 0 0, .int .i64 2]) (by simp [results, Try.results43, go_sem]) rfl ?_
    exact ⟨_, [], 2, rfl, World.ownsRow_nil _ _ _ _, malloc1 _ _, ⟨fun _ => ⟨rfl, rfl⟩, fun h => by omega, fun h => by omega⟩⟩
  · have HR := hide (s_read false s (w.alloc outR) (by omega))
    have HO : Hid (BoxL (w.alloc outR) w.heap.size [.slice none 0 0, .int .i64 0]) := hide (BoxL.new w [.slice none 0 0, .int .i64 0] 83)
    go_enter Try.func43, Try.ntmps43
    go_wp2_with (first
      | (go_at_call 61; refine HR.out.mono ?_; rintro e w2 ⟨a2, n2, c2, L, q2, rfl, hb2, h2⟩; have HB2 := hide hb2; have HO2 := hide (HO.out.keep (below_apart hb2) (by simp)); have b0 := HO2.out.cell 0 _ rfl; have b1 := HO2.out.cell 1 _ rfl; have bz := HO2.out.fz; clear hb2; rcases h2 with ⟨rfl, h2⟩ | ⟨rfl, h2⟩))
    · refine bodyPost_ret (v := .agg #[.slice a2 n2 c2, .int .i64 0]) (by simp [results, Try.results43, go_sem, b0, b1]) rfl ?_
      have hb := HB2.out.size
      have ha := apR w2 w.heap.size (.slice a2 n2 c2) (.int .i64 0)
      refine ⟨_, L, 0, rfl, ?_, setR ((malloc1 _ _).trans (HB2.out.mono (by simp))) _ _, ⟨fun h => by omega, fun _ ns hn => ⟨is_one h2.2 hn, rfl⟩, fun _ hno => absurd h2.2 (hno L)⟩⟩
      refine owns_keep (owns_down h2.1 (by simp)) ha (fun b hb hm => ?_)
      have := (owns_fresh h2.1).lo b hb
      simp at this hm
      omega
    · refine bodyPost_ret (v := .agg #[.slice none 0 0, .int .i64 3]) (by simp [results, Try.results43, go_sem, b0, b1]) rfl ?_
      exact ⟨_, [], 3, rfl, World.ownsRow_nil _ _ _ _, setR ((malloc1 _ _).trans (HB2.out.mono (by simp))) _ _, ⟨fun h => by omega, fun _ ns hn => absurd hn (h2 ns), fun _ _ => ⟨rfl, rfl⟩⟩⟩
end Go.Proofs.Ytlbcnmcfljaijaa
namespace Go.Proofs.Ytlbcnmcfljaijaa
open Go.RowKit
attribute [local go_sem ↓] Go.wp_at_zero Go.wp_at_succ

def othersN (role : ByteArray) (n : Nat) : Pn n → List (Br (Pn n)) → Option (Pn n)
  | z, [] => some z
  | z, b :: l => match partN role n b.p with
    | none => none
    | some q => match mergeN n z q with
      | none => none
      | some z' => othersN role n z' l
theorem others_all (role : ByteArray) (n : Nat) : ∀ (l : List (Br (Pn n))) (z : Pn n), othersN role n z l = match partsBy (partN role n) l with
    | none => none
    | some r => mergeAll (mergeN n) z r
  | [], z => by rw [othersN, partsBy]; rfl
  | b :: l, z => by
    rw [othersN, partsBy]
    cases hp : partN role n b.p with
    | none => rfl
    | some q =>
      dsimp only
      cases hm : mergeN n z q with
      | none =>
        dsimp only
        cases partsBy (partN role n) l with
        | none => rfl
        | some r => dsimp only; rw [mergeAll]; dsimp only; rw [hm]
      | some z' =>
        dsimp only
        rw [others_all role n l z']
        cases partsBy (partN role n) l with
        | none => rfl
        | some r => dsimp only; rw [mergeAll]; dsimp only; rw [hm]
theorem others_talk (role : ByteArray) (n : Nat) (a b : ByteArray) (c : Br (Pn n)) (l : List (Br (Pn n))) (ha : (role.toList == a.toList) = false) (hb : (role.toList == b.toList) = false) : partN role (n + 1) (.talk ⟨3, a, b⟩ (c :: l)) = (match partN role n c.p with
    | none => none
    | some z => othersN role n z l).map (upN n) := by
  rw [part_talk]
  unfold talkP
  rw [partsBy]
  cases partN role n c.p with
  | none => rfl
  | some z =>
    dsimp only
    rw [others_all]
    cases partsBy (partN role n) l with
    | none => rfl
    | some r => simp only [ha, hb, Bool.false_eq_true, if_false]
theorem others_step {role : ByteArray} {n k : Nat} {z : Pn n} {l : List (Br (Pn n))} {d : Br (Pn n)} (hd : l[k]? = some d) : othersN role n z (l.drop k) = match partN role n d.p with
    | none => none
    | some q => match mergeN n z q with
      | none => none
      | some z' => othersN role n z' (l.drop (k + 1)) := by
  have hlt := (List.getElem?_eq_some_iff.1 hd).1
  have hde : l[k] = d := (List.getElem?_eq_some_iff.1 hd).2
  rw [List.drop_eq_getElem_cons hlt, hde, othersN]
structure RoundO (role : ByteArray) (n : Nat) (w w1 wr : World) (all post : List Nd) (l : List (Br (Pn n))) (tot : Option (Pn n)) (ov : Value) (k p : Nat) (st : Option (Pn n)) : Prop where
  same : tot = match st with
    | none => none
    | some z => othersN role n z (l.drop (k + 1))
  rest : all.drop p = brsBy (rowN n) (l.drop k) ++ post
  row : ∃ r, RdW wr (btF w.heap.size wr) ov r ∧ (∀ z, st = some z → r = rowN n z) ∧ (ov = .slice none 0 0 ∨ 0 < r.length) ∧ r.length ≤ 900 + (brsBy (rowN n) l).length
  ok : ∀ z, st = some z → shapeN n z ∧ fourN n z ∧ (rowN n z).length + (brsBy (rowN n) (l.drop (k + 1))).length ≤ 40
  bel : Below (w.heap.size + 1) w1 wr
set_option maxRecDepth 100000 in
set_option maxHeartbeats 4000000 in
theorem s_others (role : ByteArray) (n : Nat) (ih : OfCalls role n) (a b : ByteArray) (l : List (Br (Pn n))) (hpl : planN (n + 1) (.talk ⟨3, a, b⟩ l)) (ha : (role.toList == a.toList) = false) (hb : (role.toList == b.toList) = false) (all post : List Nd) (pos : Nat) (v : Value) (w : World) (S : Nat → Prop) (hS : ∀ g, S g → g < w.heap.size) (hl : all.length ≤ 40) (h : all.drop pos = rowN (n + 1) (.talk ⟨3, a, b⟩ l) ++ post) (hv : RdW w S v all) : Calls Try.prog 60 #[v, .int .i64 pos, .string role] w fun e w' => OfAns (n + 1) (rowN (n + 1) (.talk ⟨3, a, b⟩ l)).length w w' e (partN role (n + 1) (.talk ⟨3, a, b⟩ l)) := by
  have hpl' : (3 : Int) = 3 ∧ (a.toList == b.toList) = false ∧ 1 ≤ l.length ∧ l.length ≤ 4 ∧ ∀ b ∈ l, planN n b.p := hpl
  obtain ⟨-, hnab, hl1, hl4, hplan⟩ := hpl'
  rw [row_talk] at h
  obtain ⟨hp, hn, h1⟩ := drop_next h
  have HP := hide hplan
  have HW : Hid (∀ (W : World), Below w.heap.size w W → (∀ g, S g → g < W.heap.size) ∧ RdW W S v all) := hide (fun W hW => ⟨fun g hg => Nat.lt_of_lt_of_le (hS g hg) hW.size, hv.on hS hW⟩)
  have HIH : Hid (∀ (k p : Nat) (d : Br (Pn n)), l[k]? = some d → all.drop p = brsBy (rowN n) (l.drop k) ++ post → ∀ W, Below w.heap.size w W → Calls Try.prog 42 #[v, .int .i64 ((p : Int) + 1), .string role] W fun e w' => OfAns n (rowN n d.p).length W w' e (partN role n d.p)) := hide (fun k p d hd hr W hW => by
    obtain ⟨-, h2, -, -⟩ := case_atP hd hr
    exact ih d.p all _ (p + 1) v W S (HW.out W hW).1 (hplan d (List.mem_of_getElem? hd)) hl h2 (HW.out W hW).2)
  have HBH : Hid (∀ (k p : Nat) (d : Br (Pn n)), l[k]? = some d → all.drop p = brsBy (rowN n) (l.drop k) ++ post → ∀ W, Below w.heap.size w W → Calls Try.prog 56 #[v, .int .i64 ((p : Int) + 1)] W fun e w' => e = .returned (.int .i64 ((p + 1 + (rowN n d.p).length : Nat) : Int)) ∧ Below W.heap.size W w') := hide (fun k p d hd hr W hW => by
    obtain ⟨-, h2, -, -⟩ := case_atP hd hr
    exact behind_calls n d.p all _ (p + 1) v W S (HW.out W hW).1 (plan_shape n d.p (hplan d (List.mem_of_getElem? hd))) (by omega) h2 (HW.out W hW).2)
  have hbl : (brsBy (rowN n) l).length ≤ 39 := by have := congrArg List.length h1; rw [List.length_drop, List.length_append] at this; omega
  have HBL := hide hbl
  have HLN : Hid ((rowN (n + 1) (.talk ⟨3, a, b⟩ l)).length = (brsBy (rowN n) l).length + 1) := hide (by rw [row_talk]; rfl)
  have HLE : Hid (∀ (k p : Nat) (d : Br (Pn n)), l[k]? = some d → all.drop p = brsBy (rowN n) (l.drop k) ++ post → p < 40 ∧ p + 1 + (rowN n d.p).length ≤ 40) := hide (fun k p d hd hr => by
    obtain ⟨-, -, -, h2⟩ := case_atP hd hr
    omega)
  obtain ⟨c, hc0⟩ : ∃ c, l[0]? = some c := ⟨l[0]'(by omega), List.getElem?_eq_getElem _⟩
  have hlc : l = c :: l.drop 1 := by
    have := List.drop_eq_getElem_cons (l := l) (i := 0) (by omega)
    rw [(List.getElem?_eq_some_iff.1 hc0).2, List.drop_zero] at this
    exact this
  obtain ⟨tot, htot⟩ : ∃ tot, (match partN role n c.p with
    | none => none
    | some z => othersN role n z (l.drop 1)) = tot := ⟨_, rfl⟩
  have HPT : Hid (partN role (n + 1) (.talk ⟨3, a, b⟩ l) = tot.map (upN n)) := hide (by
    rw [← htot]
    conv => lhs; rw [hlc]
    exact others_talk role n a b c (l.drop 1) ha hb)
  have h10 : all.drop (pos + 1) = brsBy (rowN n) (l.drop 0) ++ post := by rw [List.drop_zero]; exact h1
  have HC0 := hide (HIH.out 0 (pos + 1) c hc0 h10)
  have hp2 := (HLE.out 0 (pos + 1) c hc0 h10).1
  have HH1 := hide h10
  have HPC : Hid (planN n c.p) := hide (hplan c (List.mem_of_getElem? hc0))
  have HSC : Hid (1 + (rowN n c.p).length + (brsBy (rowN n) (l.drop (0 + 1))).length = (brsBy (rowN n) l).length) := hide (by have := brs_drop (n := n) hc0; rw [List.drop_zero] at this; omega)
  obtain ⟨o0, ho0⟩ : ∃ o0, partN role n c.p = o0 := ⟨_, rfl⟩
  have HO0 := hide ho0
  rw [ho0] at HC0 htot
  have HTOT := hide htot
  obtain ⟨ao, cap, rfl, hc, hm, -, hrow⟩ := hv
  obtain ⟨g, o, rfl, hg, hrow⟩ := hrow (fun e => by rw [e] at hp; simp at hp)
  have hnode := hrow.get pos hp
  rw [hn] at hnode
  obtain ⟨c0, c1, c2, c3, c4⟩ := hnode
  dsimp only at c0 c1 c2 c3 c4
  have hgw := hS g hg
  obtain ⟨K, hK⟩ : ∃ K, l.length = K := ⟨_, rfl⟩
  rw [hK] at c3 hl1 hl4
  have HK := hide hK
  obtain ⟨M, hM⟩ : ∃ M, all.length = M := ⟨_, rfl⟩
  rw [hM] at hp hl hc HIH HBH HC0 ⊢
  clear hrow hn h h1 h10 hS hM hK ih hplan hbl hlc hc0 htot ho0 ha hb
  go_enter Try.func60, Try.ntmps60
  go_wp2_with (go_at_call 42; refine (HC0.out _ (malloc1 _ _)).mono ?_; rintro e w2 ⟨qv, r, rfl, h2a, h2b, h2c, h2d, h2e⟩; have H2A := hide h2a; have H2B := hide h2b; have H2C := hide h2c; have H2D := hide h2d; have H2E := hide h2e; obtain ⟨a2, d2, rfl, -⟩ := h2a; clear h2b h2c h2d h2e)
  go_loopw [1, 9, 10, 11] (fun av ov okv kv wr => ∃ (k p : Nat) (st : Option (Pn n)), k < K ∧ kv = .int .i64 ((k + 1 : Nat) : Int) ∧ av = .int .i64 p ∧ okv = .bool st.isSome ∧ RoundO role n w (w.alloc (.cells #[.int .i64 3, .string a, .string b, .int .i64 (K : Int), .int .i64 0] 87)) wr all post l tot ov k p st) (fun _ _ _ kv _ => K - (intOf kv).toNat)
  case atStart =>
    refine ⟨0, pos + 1, o0, hl1, rfl, by go_num, rfl, ⟨HTOT.out.symm, HH1.out, ⟨r, H2A.out.up (fun g hg => ⟨by have := hg.1; simp at this; omega, hg.2⟩), H2B.out, H2C.out, by have := H2D.out; have := HSC.out; omega⟩, fun z hz => ?_, by have := H2E.out; simpa using this⟩⟩
    subst hz
    have hs := (part_sz role n c.p z HPC.out HO0.out).1
    have := HSC.out
    have := HBL.out
    exact ⟨part_shape role n c.p z HPC.out HO0.out, part_four role n c.p z HPC.out HO0.out, by omega⟩
  case round =>
    obtain ⟨k, p, st, hk, rfl, rfl, rfl, hR⟩ := hrel
    have HR := hide hR
    have HBW : Hid (Below w.heap.size w wr) := hide ((malloc1 w _).trans (hR.bel.mono (by omega)))
    have hzw : w.heap.size + 1 ≤ wr.heap.size := by have := hR.bel.size; simpa using this
    have m3 : wr.cell? ⟨w.heap.size, 3, none⟩ = some (.int .i64 (K : Int)) := (hR.bel.cell (p := ⟨w.heap.size, 3, none⟩) (by simp)).trans (by simp)
    obtain ⟨r1, hr1a, hr1b, hr1c, hr1d⟩ := hR.row
    have HRA := hide hr1a
    have HRB := hide hr1b
    have HRC := hide hr1c
    have HRD := hide hr1d
    obtain ⟨ap, cpp, rfl, -⟩ := hr1a
    obtain ⟨RN, hRN⟩ : ∃ RN, r1.length = RN := ⟨_, rfl⟩
    rw [hRN] at HRA HRC ⊢
    have HRN := hide hRN
    clear hr1b hr1c hr1d hRN
    by_cases hlt : k + 1 < K
    · cases st with
      | none =>
        have HTN : Hid (tot = none) := hide hR.same
        clear hR
        go_wp2_with fail
        go_ret2
        rw [HPT.out, HTN.out]
        exact ⟨.slice ap RN cpp, r1, rfl, HRA.out, (fun z hz => by cases hz), by rw [HRN.out]; exact HRC.out, by have := HRD.out; have := HLN.out; omega, HBW.out⟩
      | some z =>
        obtain ⟨d0, hd0⟩ : ∃ d, l[k]? = some d := ⟨l[k]'(by rw [HK.out]; exact hk), List.getElem?_eq_getElem _⟩
        obtain ⟨d, hd⟩ : ∃ d, l[k + 1]? = some d := ⟨l[k + 1]'(by rw [HK.out]; exact hlt), List.getElem?_eq_getElem _⟩
        have HC1 := hide (HBH.out k p d0 hd0 hR.rest)
        obtain ⟨-, -, hrest, -⟩ := case_atP hd0 hR.rest
        have hT40 := (HLE.out k p d0 hd0 hR.rest).2
        have hp40 := (HLE.out k p d0 hd0 hR.rest).1
        obtain ⟨T, hT⟩ : ∃ T, p + 1 + (rowN n d0.p).length = T := ⟨_, rfl⟩
        rw [hT] at HC1 hrest hT40
        have HRS := hide hrest
        have HC2 := hide (HIH.out (k + 1) T d hd hrest)
        have HPD : Hid (planN n d.p) := hide (HP.out d (List.mem_of_getElem? hd))
        have HBD := hide (brs_drop (n := n) hd)
        obtain ⟨ok1, ok2, ok3⟩ := hR.ok z rfl
        have HOK1 := hide ok1
        have HOK2 := hide ok2
        have HOK3 := hide ok3
        have HST : Hid (tot = match partN role n d.p with
          | none => none
          | some q => match mergeN n z q with
            | none => none
            | some z' => othersN role n z' (l.drop (k + 1 + 1))) := hide (by rw [hR.same]; exact others_step hd)
        have HRZ : Hid (r1 = rowN n z) := hide (HRB.out z rfl)
        obtain ⟨om, hom⟩ : ∃ om, partN role n d.p = om := ⟨_, rfl⟩
        have HOM := hide hom
        rw [hom] at HC2 HST
        clear hR hd0 hd hrest hT ok1 ok2 ok3 hom
        cases om with
        | none =>
          go_wp2_with (first
            | (go_at_call 56; refine (HC1.out _ HBW.out).mono ?_; rintro e w3 ⟨rfl, hb3⟩; have HB3 : Hid (Below w.heap.size w w3) := hide (HBW.out.trans (hb3.mono HBW.out.size)); have HW3 := hide hb3; clear hb3)
            | (go_at_call 42; refine (HC2.out _ HB3.out).mono ?_; rintro e w4 ⟨q4, r4, rfl, h4a, h4b, h4c, h4d, h4e⟩; have HB4 : Hid (Below w.heap.size w w4) := hide (HB3.out.trans (h4e.mono HB3.out.size)); have HW4 := hide (HW3.out.trans (h4e.mono HW3.out.size)); obtain ⟨a4, c4', rfl, -⟩ := h4a; clear h4b h4c h4d h4e))
          go_ret2
          rw [HPT.out, HST.out]
          exact ⟨.slice ap RN cpp, r1, rfl, HRA.out.carry (fun g hg => HW4.out.block g hg.2.1) (fun g hg => hg.go HW4.out), (fun z hz => by cases hz), by rw [HRN.out]; exact HRC.out, by have := HRD.out; have := HLN.out; omega, HB4.out⟩
        | some q =>
          have HPS := hide (part_sz role n d.p q HPD.out HOM.out).1
          have HMC : Hid (∀ (W : World) (qv : Value), Below wr.heap.size wr W → RdW W (btF w.heap.size W) qv (rowN n q) → Calls Try.prog 70 #[.slice ap RN cpp, qv] W fun e w' => MergedS n (btF w.heap.size W) W w' e (mergeN n z q)) := hide (fun W qv hW hq => by
            have hs := HPS.out
            have hbd := HBD.out
            have hok := HOK3.out
            refine merge_s n (btF w.heap.size W) z q _ qv W (fun g hg => hg.2.1) HOK1.out (part_shape role n d.p q HPD.out HOM.out) HOK2.out (part_four role n d.p q HPD.out HOM.out) (by omega) ?_ hq
            have := HRA.out.carry (fun g hg => hW.block g hg.2.1) (S' := btF w.heap.size W) (fun g hg => hg.go hW)
            rw [HRZ.out] at this
            exact this)
          obtain ⟨mz, hmz⟩ : ∃ mz, mergeN n z q = mz := ⟨_, rfl⟩
          have HMZ := hide hmz
          rw [hmz] at HMC
          clear hmz
          go_wp2_with (first
            | (go_at_call 56; refine (HC1.out _ HBW.out).mono ?_; rintro e w3 ⟨rfl, hb3⟩; have HB3 : Hid (Below w.heap.size w w3) := hide (HBW.out.trans (hb3.mono HBW.out.size)); have HW3 := hide hb3; clear hb3)
            | (go_at_call 42; refine (HC2.out _ HB3.out).mono ?_; rintro e w4 ⟨q4, r4, rfl, h4a, h4b, h4c, h4d, h4e⟩; have hr4 := h4b q rfl; subst hr4; have H4A := hide h4a; have HB4 : Hid (Below w.heap.size w w4) := hide (HB3.out.trans (h4e.mono HB3.out.size)); have HW4 := hide (HW3.out.trans (h4e.mono HW3.out.size)); have HZ3 := hide HB3.out.size; obtain ⟨a4, c4', rfl, -⟩ := h4a; clear h4b h4c h4d h4e)
            | (go_at_call 70; refine (HMC.out _ _ HW4.out (H4A.out.up (fun g hg => ⟨Nat.le_trans HZ3.out hg.1, hg.2⟩))).mono ?_; rintro e w5 ⟨q5, r5, rfl, h5a, h5b, h5c, h5d⟩; have H5A := hide h5a; have H5B := hide h5b; have H5C := hide h5c; have HW5 := hide (HW4.out.trans (h5d.mono HW4.out.size)); have HZ5 := hide h5d.size; have H5E := hide h5d; have HZ4 := hide HB4.out.size; obtain ⟨a5, c5', rfl, -⟩ := h5a; clear h5b h5c h5d))
          go_roundw
          case rel =>
            have hs := HPS.out
            have hbd := HBD.out
            have hok := HOK3.out
            refine ⟨k + 1, T, mz, hlt, by go_num, rfl, rfl, ⟨?_, HRS.out, ⟨r5, H5A.out.up (fun g hg => ?_), H5B.out, .inr H5C.out.1, by have := H5C.out.2; omega⟩, fun z' hz' => ?_, HR.out.bel.trans (HW5.out.mono hzw)⟩⟩
            · rw [HST.out, HMZ.out]
            · rcases hg with hg | hg
              · exact hg.go H5E.out
              · exact ⟨Nat.le_trans HZ4.out hg.1, hg.2⟩
            · subst hz'
              have hsz := (merge_sz n z q z' HMZ.out).1
              exact ⟨merge_shape n z q z' HOK1.out (part_shape role n d.p q HPD.out HOM.out) HMZ.out, merge_four n z q z' HOK2.out (part_four role n d.p q HPD.out HOM.out) HMZ.out, by omega⟩
          case measure => simp [intOf]; omega
    · obtain rfl : k + 1 = K := by omega
      have HTS : Hid (tot = st) := hide (by
        rw [hR.same]
        cases st with
        | none => rfl
        | some z => dsimp only; rw [List.drop_of_length_le (by rw [HK.out]; exact Nat.le_refl _), othersN])
      clear hR
      go_wp2_with fail
      go_ret2
      rw [HPT.out, HTS.out]
      refine ⟨.slice ap RN cpp, r1, ret2_bool (by cases st <;> rfl), HRA.out, (fun z hz => ?_), by rw [HRN.out]; exact HRC.out, by have := HRD.out; have := HLN.out; omega, HBW.out⟩
      cases st with
      | none => cases hz
      | some z0 =>
        have hz' : some (upN n z0) = some z := hz
        injection hz' with hz'
        rw [← hz', up_row]
        exact HRB.out z0 rfl
end Go.Proofs.Ytlbcnmcfljaijaa
namespace Go.Proofs.Ytlbcnmcfljaijaa
open Go.RowKit
attribute [local go_sem ↓] Go.wp_at_zero Go.wp_at_succ

set_option maxRecDepth 100000 in
set_option maxHeartbeats 2000000 in
theorem of_talk (role : ByteArray) (n : Nat) (ih : OfCalls role n) (a b : ByteArray) (l : List (Br (Pn n))) (hpl : planN (n + 1) (.talk ⟨3, a, b⟩ l)) (all post : List Nd) (pos : Nat) (v : Value) (w : World) (S : Nat → Prop) (hS : ∀ g, S g → g < w.heap.size) (hl : all.length ≤ 40) (h : all.drop pos = rowN (n + 1) (.talk ⟨3, a, b⟩ l) ++ post) (hv : RdW w S v all) : Calls Try.prog 42 #[v, .int .i64 pos, .string role] w fun e w' => OfAns (n + 1) (rowN (n + 1) (.talk ⟨3, a, b⟩ l)).length w w' e (partN role (n + 1) (.talk ⟨3, a, b⟩ l)) := by
  have HW : Hid (∀ (W : World), Below w.heap.size w W → (∀ g, S g → g < W.heap.size) ∧ RdW W S v all) := hide (fun W hW => ⟨fun g hg => Nat.lt_of_lt_of_le (hS g hg) hW.size, hv.on hS hW⟩)
  obtain ⟨q1, hq1⟩ : ∃ q, (a.toList == role.toList) = q := ⟨_, rfl⟩
  obtain ⟨q2, hq2⟩ : ∃ q, (b.toList == role.toList) = q := ⟨_, rfl⟩
  have HCA : Hid ((q1 || q2) = true → ∀ W, Below w.heap.size w W → Calls Try.prog 59 #[v, .int .i64 pos, .string role] W fun e w' => OfAns (n + 1) (rowN (n + 1) (.talk ⟨3, a, b⟩ l)).length W w' e (partN role (n + 1) (.talk ⟨3, a, b⟩ l))) := hide (fun hq W hW => s_cases role n ih a b l hpl (by
    rw [beq_flip role a, beq_flip role b, hq1, hq2]
    cases q1
    · exact .inr hq
    · exact .inl rfl) all post pos v W S (HW.out W hW).1 hl h (HW.out W hW).2)
  have HOT : Hid ((q1 || q2) = false → ∀ W, Below w.heap.size w W → Calls Try.prog 60 #[v, .int .i64 pos, .string role] W fun e w' => OfAns (n + 1) (rowN (n + 1) (.talk ⟨3, a, b⟩ l)).length W w' e (partN role (n + 1) (.talk ⟨3, a, b⟩ l))) := hide (fun hq W hW => by
    cases q1
    · cases q2
      · exact s_others role n ih a b l hpl (by rw [beq_flip, hq1]) (by rw [beq_flip, hq2]) all post pos v W S (HW.out W hW).1 hl h (HW.out W hW).2
      · cases hq
    · cases hq)
  obtain ⟨P, hP⟩ : ∃ P, partN role (n + 1) (.talk ⟨3, a, b⟩ l) = P := ⟨_, rfl⟩
  obtain ⟨len, hlen⟩ : ∃ len, (rowN (n + 1) (.talk ⟨3, a, b⟩ l)).length = len := ⟨_, rfl⟩
  rw [hP, hlen] at HCA HOT ⊢
  have HDN : Hid (∀ (W w' : World) (e : Ending), w.heap.size ≤ W.heap.size → Below w.heap.size w W → OfAns (n + 1) len W w' e P → OfAns (n + 1) len w w' e P) := hide (fun W w' e hz hb ⟨q, r, h1, h2, h3, h4, h5, h6⟩ => ⟨q, r, h1, h2.up (fun g hg => ⟨Nat.le_trans hz hg.1, hg.2⟩), h3, h4, h5, hb.trans (h6.mono hz)⟩)
  rw [row_talk] at h
  obtain ⟨hp, hn, h1⟩ := drop_next h
  obtain ⟨ao, cap, rfl, hc, hm, -, hrow⟩ := hv
  obtain ⟨g, o, rfl, hg, hrow⟩ := hrow (fun e => by rw [e] at hp; simp at hp)
  have hnode := hrow.get pos hp
  rw [hn] at hnode
  obtain ⟨c0, c1, c2, c3, c4⟩ := hnode
  dsimp only at c0 c1 c2 c3 c4
  have hgw := hS g hg
  obtain ⟨M, hM⟩ : ∃ M, all.length = M := ⟨_, rfl⟩
  rw [hM] at hp hl hc HCA HOT ⊢
  clear hrow hn h h1 hS hM ih hpl HW hP hlen
  cases q1
  · cases q2
    · go_enter Try.func42, Try.ntmps42
      go_wp2_with (go_at_call 60; refine (HOT.out rfl _ (malloc1 _ _)).mono ?_; intro e w1 h1; have h1' := HDN.out _ _ _ (by simp) (malloc1 _ _) h1; obtain ⟨q, r, rfl, h2, h3, h4, h5, h6⟩ := h1'; have H1 := hide (And.intro h2 (And.intro h3 (And.intro h4 (And.intro h5 h6)))); obtain ⟨a2, c2', rfl, -⟩ := h2; clear h1 h3 h4 h5 h6)
      go_ret2
      exact ⟨_, r, rfl, H1.out⟩
    · go_enter Try.func42, Try.ntmps42
      go_wp2_with (go_at_call 59; refine (HCA.out rfl _ (malloc1 _ _)).mono ?_; intro e w1 h1; have h1' := HDN.out _ _ _ (by simp) (malloc1 _ _) h1; obtain ⟨q, r, rfl, h2, h3, h4, h5, h6⟩ := h1'; have H1 := hide (And.intro h2 (And.intro h3 (And.intro h4 (And.intro h5 h6)))); obtain ⟨a2, c2', rfl, -⟩ := h2; clear h1 h3 h4 h5 h6)
      go_ret2
      exact ⟨_, r, rfl, H1.out⟩
  · go_enter Try.func42, Try.ntmps42
    go_wp2_with (go_at_call 59; refine (HCA.out rfl _ (malloc1 _ _)).mono ?_; intro e w1 h1; have h1' := HDN.out _ _ _ (by simp) (malloc1 _ _) h1; obtain ⟨q, r, rfl, h2, h3, h4, h5, h6⟩ := h1'; have H1 := hide (And.intro h2 (And.intro h3 (And.intro h4 (And.intro h5 h6)))); obtain ⟨a2, c2', rfl, -⟩ := h2; clear h1 h3 h4 h5 h6)
    go_ret2
    exact ⟨_, r, rfl, H1.out⟩
theorem of_calls (role : ByteArray) : ∀ n : Nat, OfCalls role n := by
  intro n
  induction n with
  | zero => intro p all post pos v w S hS _ hl h hv; exact leaf_ans hS hl h hv rfl
  | succ n ih =>
    intro p
    refine Pn.cases (P := fun p => ∀ (all post : List Nd) (pos : Nat) (v : Value) (w : World) (S : Nat → Prop), (∀ g, S g → g < w.heap.size) → planN (n + 1) p → all.length ≤ 40 → all.drop pos = rowN (n + 1) p ++ post → RdW w S v all → Calls Try.prog 42 #[v, .int .i64 pos, .string role] w fun e w' => OfAns (n + 1) (rowN (n + 1) p).length w w' e (partN role (n + 1) p)) (fun x all post pos v w S hS _ hl h hv => leaf_ans hS hl h hv rfl) (fun x q all post pos v w S hS hp hl h hv => of_loop role n ih x q hp all post pos v w S hS hl h hv) (fun t l all post pos v w S hS hp hl h hv => ?_) p
    obtain ⟨op, a, b⟩ := t
    have hp' : op = 3 ∧ (a.toList == b.toList) = false ∧ 1 ≤ l.length ∧ l.length ≤ 4 ∧ ∀ b ∈ l, planN n b.p := hp
    obtain ⟨rfl, -⟩ := hp'
    exact of_talk role n ih a b l hp all post pos v w S hS hl h hv
def PoIs (ns : List Nd) (role : ByteArray) (T : List Nd) (C : Int) : Prop :=
  ((400 < ns.length ∨ 8000 < role.size) ∧ T = [] ∧ C = 2) ∨
  (ns.length ≤ 400 ∧ role.size ≤ 8000 ∧ ((rightB false ns && nameB role) = false ∧ T = [] ∧ C = 1 ∨
    (rightB false ns && nameB role) = true ∧ ∃ p : Pn 10, ns = rowN 10 p ∧ planN 10 p ∧ ns.length ≤ 40 ∧ ((partN role 10 p = none ∧ T = [] ∧ C = 11) ∨ ∃ z, partN role 10 p = some z ∧ T = rowN 10 z ∧ C = 0)))
theorem plan_ahead {ns : List Nd} (h : rightB false ns = true) : ahead (talkS false) 10 [] ns = some [] ∧ ns.length ≤ 40 := by
  rw [rightB] at h
  simp only [Bool.and_eq_true, decide_eq_true_eq, beq_iff_eq] at h
  refine ⟨?_, h.1⟩
  cases hr : ahead (talkS false) 10 [] ns with
  | none => rw [hr] at h; simp at h
  | some r => rw [hr] at h; simp at h; rw [h.2.1]
theorem po_ex (ns : List Nd) (role : ByteArray) : ∃ T C, PoIs ns role T C ∧ T.length ≤ 40 := by
  by_cases h : 400 < ns.length ∨ 8000 < role.size
  · exact ⟨[], 2, .inl ⟨h, rfl, rfl⟩, by simp⟩
  · have h1 : ns.length ≤ 400 := by omega
    have h2 : role.size ≤ 8000 := by omega
    cases hr : (rightB false ns && nameB role) with
    | false => exact ⟨[], 1, .inr ⟨h1, h2, .inl ⟨hr, rfl, rfl⟩⟩, by simp⟩
    | true =>
      have hr' := hr
      rw [Bool.and_eq_true] at hr'
      obtain ⟨ha, h40⟩ := plan_ahead hr'.1
      obtain ⟨p, e, hp⟩ := parse 10 [] ns [] ha
      rw [List.append_nil] at e
      cases hm : partN role 10 p with
      | none => exact ⟨[], 11, .inr ⟨h1, h2, .inr ⟨hr, p, e, hp, h40, .inl ⟨hm, rfl, rfl⟩⟩⟩, by simp⟩
      | some z => exact ⟨rowN 10 z, 0, .inr ⟨h1, h2, .inr ⟨hr, p, e, hp, h40, .inr ⟨z, hm, rfl, rfl⟩⟩⟩, by have := (part_sz role 10 p z hp hm).1; rw [← e] at this; omega⟩
end Go.Proofs.Ytlbcnmcfljaijaa
