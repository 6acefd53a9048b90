import Derived.Test.YtlbcnmcfljaijaaQF25
namespace Go.Proofs.Ytlbcnmcfljaijaa
open Go.RowKit

structure Ss where
  r : List UInt8
  l : List Nd
  bad : Bool
def wdS (s : Ss) : List UInt8 := s.r.takeWhile inW
def skW (s : Ss) : Ss := { s with r := s.r.dropWhile inW }
def isS (t : List UInt8) (s : Ss) : Option Ss := if !s.bad && t.isPrefixOf s.r then some { s with r := s.r.drop t.length } else none
def mustS (t : List UInt8) (s : Ss) : Ss := match isS t s with
  | some s' => s'
  | none => { s with bad := true }
def pushS (n : Nd) (s : Ss) : Ss := { s with l := s.l ++ [n] }
def sortS (w : List UInt8) : Int := if w = [105, 110, 116] then 1 else if w = [116, 101, 120, 116] then 2 else 0
def caseS (go : Ss → Ss) (s : Ss) : Ss := go (pushS ⟨4, ba (wdS s), noT, 0, sortS (wdS (mustS [40] (skW s)))⟩ (mustS [41, 46] (skW (mustS [40] (skW s)))))
def loopS (go : Ss → Ss) : Nat → Nat → Ss → Nat × Ss
  | 0, many, s => (many, s)
  | j + 1, many, s => if s.bad then (many, s) else match isS [44] (caseS go s) with
    | some s' => loopS go j (many + 1) s'
    | none => (many + 1, caseS go s)
def setMany (l : List Nd) (i m : Nat) : List Nd := l.modify i fun n => { n with many := (m : Int) }
def casesS (go : Ss → Ss) (n : Nd) (s : Ss) : Ss :=
  { mustS [125] (loopS go 5 0 (pushS n s)).2 with l := setMany (loopS go 5 0 (pushS n s)).2.l s.l.length (loopS go 5 0 (pushS n s)).1 }
def oneS (part : Bool) : Nat → Ss → Ss
  | 0, s => { s with bad := true }
  | f + 1, s => if s.bad || decide (40 < s.l.length) then { s with bad := true }
    else if wdS s = [101, 110, 100] then pushS ⟨0, noT, noT, 0, 0⟩ (skW s)
    else if wdS s = [114, 101, 99] then oneS part f (mustS [46] (pushS ⟨2, ba (wdS (mustS [32] (skW s))), noT, 0, 0⟩ (skW (mustS [32] (skW s)))))
    else match (if part then none else isS [62] (skW s)) with
      | some s2 => casesS (oneS part f) ⟨3, ba (wdS s), ba (wdS s2), 0, 0⟩ (mustS [123] (skW s2))
      | none => match (if part then isS [33, 123] (skW s) else none) with
        | some s2 => casesS (oneS part f) ⟨5, noT, ba (wdS s), 0, 0⟩ s2
        | none => match (if part then isS [63, 123] (skW s) else none) with
          | some s2 => casesS (oneS part f) ⟨6, noT, ba (wdS s), 0, 0⟩ s2
          | none => pushS ⟨1, ba (wdS s), noT, 0, 0⟩ (skW s)
def headN (r : List UInt8) : Prop := r = [] ∨ ∃ c q, r = c :: q ∧ inW c = false
theorem wd_at {x : ByteArray} (hx : WordT x) {r : List UInt8} (hr : headN r) (L : List Nd) (b : Bool) : wdS ⟨x.toList ++ r, L, b⟩ = x.toList ∧ skW ⟨x.toList ++ r, L, b⟩ = ⟨r, L, b⟩ := by
  have key : ∀ (w : List UInt8), (∀ c ∈ w, inW c = true) → (w ++ r).takeWhile inW = w ∧ (w ++ r).dropWhile inW = r := by
    intro w
    induction w with
    | nil =>
      intro _
      rcases hr with rfl | ⟨c, q, rfl, hc⟩
      · exact ⟨rfl, rfl⟩
      · rw [List.nil_append, List.takeWhile_cons, List.dropWhile_cons, hc]
        exact ⟨rfl, rfl⟩
    | cons c w ih =>
      intro h
      obtain ⟨h1, h2⟩ := ih (fun x hx => h x (List.mem_cons_of_mem _ hx))
      rw [List.cons_append, List.takeWhile_cons, List.dropWhile_cons, h c List.mem_cons_self, h1, h2]
      exact ⟨rfl, rfl⟩
  obtain ⟨h1, h2⟩ := key x.toList hx.2
  unfold wdS skW
  exact ⟨h1, by rw [h2]⟩
theorem is_at (t r : List UInt8) (L : List Nd) : isS t ⟨t ++ r, L, false⟩ = some ⟨r, L, false⟩ := by
  unfold isS
  rw [if_pos (by simp)]
  simp
theorem must_at (t r : List UInt8) (L : List Nd) : mustS t ⟨t ++ r, L, false⟩ = ⟨r, L, false⟩ := by
  unfold mustS
  rw [is_at]
theorem is_no {t r : List UInt8} (h : t.isPrefixOf r = false) (L : List Nd) (b : Bool) : isS t ⟨r, L, b⟩ = none := by
  unfold isS
  rw [if_neg (by rw [h]; simp)]
theorem flat_cons (x : ByteArray) (ts : List ByteArray) : flatT (x :: ts) = x.toList ++ flatT ts := rfl
theorem flat_app (a b : List ByteArray) : flatT (a ++ b) = flatT a ++ flatT b := by unfold flatT; rw [List.flatMap_append]
theorem flat_ba (t : List UInt8) (ts : List ByteArray) : flatT (ba t :: ts) = t ++ flatT ts := by rw [flat_cons, ba_list]
def offB (r : List UInt8) : Prop := r = [] ∨ (∃ q, r = 44 :: q) ∨ ∃ q, r = 125 :: q
theorem off_head {r : List UInt8} (h : offB r) : headN r := by
  rcases h with rfl | ⟨q, rfl⟩ | ⟨q, rfl⟩
  · exact .inl rfl
  · exact .inr ⟨_, _, rfl, by decide⟩
  · exact .inr ⟨_, _, rfl, by decide⟩
theorem off_no {r : List UInt8} (h : offB r) {c : UInt8} {t : List UInt8} (h1 : c ≠ 44) (h2 : c ≠ 125) : (c :: t).isPrefixOf r = false := by
  rcases h with rfl | ⟨q, rfl⟩ | ⟨q, rfl⟩
  · rfl
  · simp [List.isPrefixOf, h1]
  · simp [List.isPrefixOf, h2]
theorem sign_head (c : UInt8) (hc : inW c = false) (q : List UInt8) : headN (c :: q) := .inr ⟨c, q, rfl, hc⟩
def ReadsB (go : List Nd → Option (List Nd)) (tf : List Nd → List ByteArray × List Nd) (gs : Ss → Ss) : Prop :=
  ∀ l r, go l = some r → (tf l).2 = r ∧ ∃ pre, l = pre ++ r ∧ ∀ more L, offB more → L.length + l.length ≤ 40 → gs ⟨flatT (tf l).1 ++ more, L, false⟩ = ⟨more, L ++ pre, false⟩
theorem sort_wd {s : Int} (h : sortB s = true) : sortS (sortT s).toList = s := by
  simp only [sortB, Bool.and_eq_true, decide_eq_true_eq] at h
  have : s = 0 ∨ s = 1 ∨ s = 2 := by omega
  rcases this with rfl | rfl | rfl <;> (unfold sortT sortS; simp [ba_list])
theorem case_at {go : List Nd → Option (List Nd)} {tf : List Nd → List ByteArray × List Nd} {gs : Ss → Ss} (hg : ReadsB go tf gs) {c : Nd} (hc : caseB c = true) {l r : List Nd} (h : go l = some r) : ∃ pre, l = pre ++ r ∧ ∀ more L, offB more → L.length + (l.length + 1) ≤ 40 → caseS gs ⟨flatT (tokC c ++ (tf l).1) ++ more, L, false⟩ = ⟨more, L ++ c :: pre, false⟩ := by
  obtain ⟨e1, pre, e2, e3⟩ := hg l r h
  have hcb := hc
  simp only [caseB, Bool.and_eq_true, beq_iff_eq] at hc
  obtain ⟨⟨⟨⟨h1, h2⟩, h3⟩, h4⟩, h5⟩ := hc
  refine ⟨pre, e2, fun more L ho hl => ?_⟩
  have ef : flatT (tokC c ++ (tf l).1) ++ more = c.name.toList ++ (40 :: ((sortT c.sort).toList ++ (41 :: 46 :: (flatT (tf l).1 ++ more)))) := by
    rw [flat_app]
    unfold tokC
    rw [flat_cons, flat_ba, flat_cons, flat_ba, flat_ba]
    simp [flatT]
  rw [ef]
  unfold caseS
  obtain ⟨a1, a2⟩ := wd_at (word_T h4) (sign_head 40 (by decide) ((sortT c.sort).toList ++ (41 :: 46 :: (flatT (tf l).1 ++ more)))) L false
  obtain ⟨b1, b2⟩ := wd_at (sort_T c.sort) (sign_head 41 (by decide) (46 :: (flatT (tf l).1 ++ more))) L false
  have m1 : mustS [40] ⟨40 :: ((sortT c.sort).toList ++ (41 :: 46 :: (flatT (tf l).1 ++ more))), L, false⟩ = ⟨(sortT c.sort).toList ++ (41 :: 46 :: (flatT (tf l).1 ++ more)), L, false⟩ := must_at [40] _ _
  have m2 : mustS [41, 46] ⟨41 :: 46 :: (flatT (tf l).1 ++ more), L, false⟩ = ⟨flatT (tf l).1 ++ more, L, false⟩ := must_at [41, 46] _ _
  rw [a1, a2, m1, b1, b2, m2, sort_wd h5, ba_toL]
  have ec : (⟨4, c.name, noT, 0, c.sort⟩ : Nd) = c := by
    obtain ⟨o, x, y, m, s⟩ := c
    simp only at h1 h2 h3
    rw [h1, h3, noT_of h2]
  rw [ec, pushS]
  dsimp only
  rw [e3 _ _ ho (by rw [List.length_append]; simp; omega)]
  simp
theorem loop_at {go : List Nd → Option (List Nd)} {tf : List Nd → List ByteArray × List Nd} {gs : Ss → Ss} (hg : ReadsB go tf gs) : ∀ (m : Nat) (ls : List ByteArray) (l r : List Nd), kidsBy go (m + 1) ls l = some r →
    (casesT tf (m + 1) l).2 = r ∧ (casesT tf (m + 1) l).1 ≠ [] ∧ ∃ pre, l = pre ++ r ∧ ∀ more L j many, m + 1 ≤ j → L.length + l.length ≤ 40 → loopS gs j many ⟨flatT (joinT (casesT tf (m + 1) l).1) ++ 125 :: more, L, false⟩ = (many + (m + 1), ⟨125 :: more, L ++ pre, false⟩) := by
  intro m
  induction m with
  | zero =>
    intro ls l r h
    cases l with
    | nil => cases h
    | cons c l =>
      rw [kidsBy] at h
      split at h
      · rename_i hc
        simp only [Bool.and_eq_true] at hc
        split at h
        · cases h
        · rename_i r' hr'
          rw [kidsBy] at h
          injection h with h
          subst h
          obtain ⟨pre, e2, e3⟩ := case_at hg hc.1 hr'
          refine ⟨by rw [casesT, casesT]; exact (hg _ _ hr').1, by rw [casesT]; simp, c :: pre, by rw [e2]; rfl, fun more L j many hj hl => ?_⟩
          obtain ⟨j, rfl⟩ : ∃ i, j = i + 1 := ⟨j - 1, by omega⟩
          rw [casesT, casesT, loopS]
          show (if false = true then _ else _) = _
          rw [if_neg (by simp)]
          have e4 := e3 (125 :: more) L (.inr (.inr ⟨_, rfl⟩)) (by simpa using hl)
          show (match isS [44] (caseS gs ⟨flatT (tokC c ++ (tf l).1) ++ 125 :: more, L, false⟩) with | some s' => _ | none => _) = _
          rw [e4, is_no (by simp [List.isPrefixOf])]
          exact congrArg (Prod.mk (many + 1)) e4
      · cases h
  | succ m ih =>
    intro ls l r h
    cases l with
    | nil => cases h
    | cons c l =>
      rw [kidsBy] at h
      split at h
      · rename_i hc
        simp only [Bool.and_eq_true] at hc
        split at h
        · cases h
        · rename_i r' hr'
          obtain ⟨pre, e2, e3⟩ := case_at hg hc.1 hr'
          obtain ⟨k1, k2, pre2, k3, k5⟩ := ih _ _ _ h
          have e1 := (hg _ _ hr').1
          rw [casesT, e1]
          refine ⟨k1, by simp, c :: pre ++ pre2, by rw [e2, k3]; simp, fun more L j many hj hl => ?_⟩
          obtain ⟨j, rfl⟩ : ∃ i, j = i + 1 := ⟨j - 1, by omega⟩
          dsimp only
          cases hcs : (casesT tf (m + 1) r').1 with
          | nil => exact absurd hcs k2
          | cons u us =>
            rw [joinT, ← hcs, loopS]
            show (if false = true then _ else _) = _
            rw [if_neg (by simp)]
            have ef : flatT ((tokC c ++ (tf l).1) ++ ba [44] :: joinT (casesT tf (m + 1) r').1) ++ 125 :: more = flatT (tokC c ++ (tf l).1) ++ (44 :: (flatT (joinT (casesT tf (m + 1) r').1) ++ 125 :: more)) := by
              rw [flat_app _ (ba [44] :: _), flat_ba]
              simp
            rw [ef, e3 _ _ (.inr (.inl ⟨_, rfl⟩)) (by simpa using hl), show isS [44] ⟨44 :: (flatT (joinT (casesT tf (m + 1) r').1) ++ 125 :: more), L ++ c :: pre, false⟩ = some ⟨flatT (joinT (casesT tf (m + 1) r').1) ++ 125 :: more, L ++ c :: pre, false⟩ from is_at [44] _ _]
            dsimp only
            rw [k5 _ _ _ _ (by omega) (by rw [e2] at hl; simp at hl ⊢; omega)]
            simp
            omega
      · cases h
theorem set_last (a b : List Nd) (n : Nd) (m : Nat) : setMany (a ++ [n] ++ b) a.length m = a ++ [{ n with many := (m : Int) }] ++ b := by
  unfold setMany
  rw [List.append_assoc, List.append_assoc]
  induction a with
  | nil => rfl
  | cons x a ih =>
    rw [List.cons_append, List.length_cons, List.modify_succ_cons, ih]
    rfl
theorem ahead_readB (part : Bool) : ∀ (f : Nat) (st : List Nd), StWord st → ReadsB (ahead (talkS part) f st) (tokF f) (oneS part (f + 1)) := by
  have endA : ∀ f more (L : List Nd), L.length + 1 ≤ 40 → offB more → oneS part (f + 1) ⟨flatT [ba [101, 110, 100]] ++ more, L, false⟩ = ⟨more, L ++ [⟨0, noT, noT, 0, 0⟩], false⟩ := fun f more L hl ho => by
    rw [oneS, if_neg (by simp; omega)]
    have ef : flatT [ba [101, 110, 100]] ++ more = (ba [101, 110, 100]).toList ++ more := by simp [flatT]
    rw [ef]
    obtain ⟨a1, a2⟩ := wd_at (lit_T (t := [101, 110, 100]) (by simp) (by decide)) (off_head ho) L false
    rw [a1, a2, if_pos (ba_list _)]
    rfl
  have varA : ∀ f more (L : List Nd) (x : ByteArray), wordB x = true → L.length + 1 ≤ 40 → offB more → oneS part (f + 1) ⟨flatT [x] ++ more, L, false⟩ = ⟨more, L ++ [⟨1, x, noT, 0, 0⟩], false⟩ := fun f more L x hx hl ho => by
    rw [oneS, if_neg (by simp; omega)]
    have ef : flatT [x] ++ more = x.toList ++ more := by simp [flatT]
    rw [ef]
    obtain ⟨a1, a2⟩ := wd_at (word_T hx) (off_head ho) L false
    obtain ⟨n1, n2⟩ := word_end hx
    rw [a1, a2, if_neg (by intro e; rw [e] at n1; simp at n1), if_neg (by intro e; rw [e] at n2; simp at n2), is_no (off_no ho (by decide) (by decide)), is_no (off_no ho (by decide) (by decide)), is_no (off_no ho (by decide) (by decide))]
    cases part <;> (simp only [Bool.false_eq_true, if_false, if_true]; rw [ba_toL]; rfl)
  intro f
  induction f with
  | zero =>
    intro st hw l r h
    obtain ⟨e1, pre, e2, -⟩ := ahead_reads part 0 st hw l r h
    refine ⟨e1, pre, e2, ?_⟩
    cases l with
    | nil => cases h
    | cons n l =>
      rw [ahead] at h
      split at h
      · rename_i h0
        split at h
        · rename_i he
          injection h with h
          subst h
          rw [beq_iff_eq] at h0
          have hp : pre = [n] := by
            have := congrArg List.length e2
            simp at this
            obtain ⟨y, rfl⟩ : ∃ y, pre = [y] := List.length_eq_one_iff.1 (by omega)
            simp at e2
            rw [e2]
          subst hp
          rw [tokF, if_neg (by rw [beq_iff_eq]; omega)]
          intro more L ho hl
          rw [endA 0 more L (by simp at hl; omega) ho, ← end_is he]
        · cases h
      · split at h
        · rename_i h1
          split at h
          · rename_i hv
            injection h with h
            subst h
            simp only [Bool.and_eq_true] at hv
            have hp : pre = [n] := by
              have := congrArg List.length e2
              simp at this
              obtain ⟨y, rfl⟩ : ∃ y, pre = [y] := List.length_eq_one_iff.1 (by omega)
              simp at e2
              rw [e2]
            subst hp
            rw [tokF, if_pos h1]
            intro more L ho hl
            rw [varA 0 more L n.name (back_word st false n.name hw hv.2) (by simp at hl; omega) ho, ← var_is hv.1]
          · cases h
        · cases h
  | succ f ih =>
    intro st hw l r h
    obtain ⟨e1, pre0, e20, -⟩ := ahead_reads part (f + 1) st hw l r h
    refine ⟨e1, ?_⟩
    cases l with
    | nil => cases h
    | cons n l =>
      rw [ahead] at h
      split at h
      · rename_i h0
        split at h
        · rename_i he
          injection h with h
          subst h
          rw [tokF, if_pos h0]
          refine ⟨[n], rfl, fun more L ho hl => ?_⟩
          rw [endA (f + 1) more L (by simp at hl; omega) ho, ← end_is he]
        · cases h
      · rename_i h0
        split at h
        · rename_i h1
          split at h
          · rename_i hv
            injection h with h
            subst h
            simp only [Bool.and_eq_true] at hv
            rw [tokF, if_neg h0, if_pos h1]
            refine ⟨[n], rfl, fun more L ho hl => ?_⟩
            rw [varA (f + 1) more L n.name (back_word st false n.name hw hv.2) (by simp at hl; omega) ho, ← var_is hv.1]
          · cases h
        · rename_i h1
          split at h
          · rename_i h2
            split at h
            · rename_i hv
              simp only [Bool.and_eq_true] at hv
              obtain ⟨e, hwd⟩ := rec_is hv.1
              obtain ⟨-, pre, e2, e3⟩ := ih (n :: st) (fun x hx ho => by rcases List.mem_cons.1 hx with rfl | hx; exact hwd; exact hw x hx ho) _ _ h
              rw [tokF, if_neg h0, if_neg h1, if_pos h2]
              rw [beq_iff_eq] at h2
              refine ⟨n :: pre, by rw [e2]; rfl, fun more L ho hl => ?_⟩
              have et : tokS n = [ba [114, 101, 99], ba [32], n.name, ba [46]] := by unfold tokS; rw [if_neg (by omega), if_neg (by omega), if_pos h2]
              have ef : flatT (tokS n ++ (tokF f l).1) ++ more = (ba [114, 101, 99]).toList ++ (32 :: (n.name.toList ++ (46 :: (flatT (tokF f l).1 ++ more)))) := by
                rw [et, flat_app, flat_cons, flat_ba, flat_cons, flat_ba]
                simp [flatT]
              dsimp only
              rw [ef, oneS, if_neg (by simp at hl ⊢; omega)]
              obtain ⟨a1, a2⟩ := wd_at (lit_T (t := [114, 101, 99]) (by simp) (by decide)) (sign_head 32 (by decide) (n.name.toList ++ (46 :: (flatT (tokF f l).1 ++ more)))) L false
              obtain ⟨b1, b2⟩ := wd_at (word_T hwd) (sign_head 46 (by decide) (flatT (tokF f l).1 ++ more)) L false
              have m1 : mustS [32] ⟨32 :: (n.name.toList ++ (46 :: (flatT (tokF f l).1 ++ more))), L, false⟩ = ⟨n.name.toList ++ (46 :: (flatT (tokF f l).1 ++ more)), L, false⟩ := must_at [32] _ _
              rw [a1, a2, ba_list, if_neg (by decide), if_pos rfl, m1, b1, b2, ba_toL, ← e, pushS]
              have m2 : mustS [46] ⟨46 :: (flatT (tokF f l).1 ++ more), L ++ [n], false⟩ = ⟨flatT (tokF f l).1 ++ more, L ++ [n], false⟩ := must_at [46] _ _
              dsimp only
              rw [m2, e3 _ _ ho (by simp at hl ⊢; omega)]
              simp
            · cases h
          · rename_i h2
            split at h
            · rename_i hT
              obtain ⟨t1, ⟨m, t2⟩, t3, t4⟩ := talk_is hT
              have hm : n.many.toNat = m + 1 := by omega
              have hm4 : m + 1 ≤ 4 := by
                have hT' := hT
                simp only [talkS, Bool.and_eq_true] at hT'
                have := hT'.1.1.2
                simp only [manyB, Bool.and_eq_true, decide_eq_true_eq] at this
                omega
              rw [hm] at h
              rw [beq_iff_eq] at h2
              obtain ⟨-, -, pre, e3, e5⟩ := loop_at (ih (n :: st) (fun x hx ho => by rcases List.mem_cons.1 hx with rfl | hx; exact absurd ho h2; exact hw x hx ho)) m [] l r h
              rw [tokF, if_neg h0, if_neg h1, if_neg (by rw [beq_iff_eq]; exact h2), hm]
              refine ⟨n :: pre, by rw [e3]; rfl, fun more L ho hl => ?_⟩
              have cs : ∀ n0 : Nd, n0.many = 0 → ({ n0 with many := ((m + 1 : Nat) : Int) } : Nd) = n → casesS (oneS part (f + 1)) n0 ⟨flatT (joinT (casesT (tokF f) (m + 1) l).1) ++ 125 :: more, L, false⟩ = ⟨more, L ++ n :: pre, false⟩ := fun n0 _ hn0 => by
                unfold casesS pushS
                dsimp only
                rw [e5 _ _ _ _ (by omega) (by simp at hl ⊢; omega)]
                dsimp only
                rw [show mustS [125] ⟨125 :: more, L ++ [n0] ++ pre, false⟩ = ⟨more, L ++ [n0] ++ pre, false⟩ from must_at [125] _ _, set_last, Nat.zero_add, hn0]
                simp
              dsimp only
              rw [oneS, if_neg (by simp at hl ⊢; omega)]
              rcases t4 with ⟨a, b⟩ | ⟨a, b, c⟩ | ⟨a, b, c⟩
              · have hpart : part = false := by
                  cases part
                  · rfl
                  · simp [talkS, a] at hT
                subst hpart
                have ef : flatT (tokS n ++ joinT (casesT (tokF f) (m + 1) l).1 ++ [ba [125]]) ++ more = n.name.toList ++ (62 :: (n.peer.toList ++ (123 :: (flatT (joinT (casesT (tokF f) (m + 1) l).1) ++ 125 :: more)))) := by
                  have e : tokS n = [n.name, ba [62], n.peer, ba [123]] := by unfold tokS; rw [if_neg (by omega), if_neg (by omega), if_neg (by omega), if_neg (by omega), if_neg (by omega)]
                  rw [e, flat_app, flat_app, flat_cons, flat_ba, flat_cons, flat_ba]
                  simp [flatT, ba_list]
                rw [ef]
                obtain ⟨a1, a2⟩ := wd_at (word_T b) (sign_head 62 (by decide) (n.peer.toList ++ (123 :: (flatT (joinT (casesT (tokF f) (m + 1) l).1) ++ 125 :: more)))) L false
                obtain ⟨b1, b2⟩ := wd_at (word_T t3) (sign_head 123 (by decide) (flatT (joinT (casesT (tokF f) (m + 1) l).1) ++ 125 :: more)) L false
                obtain ⟨n1, n2⟩ := word_end b
                rw [a1, a2, if_neg (by intro e; rw [e] at n1; simp at n1), if_neg (by intro e; rw [e] at n2; simp at n2)]
                simp only [Bool.false_eq_true, if_false]
                rw [show isS [62] ⟨62 :: (n.peer.toList ++ (123 :: (flatT (joinT (casesT (tokF f) (m + 1) l).1) ++ 125 :: more))), L, false⟩ = some ⟨n.peer.toList ++ (123 :: (flatT (joinT (casesT (tokF f) (m + 1) l).1) ++ 125 :: more)), L, false⟩ from is_at [62] _ _]
                dsimp only
                rw [b1, b2, show mustS [123] ⟨123 :: (flatT (joinT (casesT (tokF f) (m + 1) l).1) ++ 125 :: more), L, false⟩ = ⟨flatT (joinT (casesT (tokF f) (m + 1) l).1) ++ 125 :: more, L, false⟩ from must_at [123] _ _, ba_toL, ba_toL]
                refine cs _ rfl ?_
                obtain ⟨o, x, y, mm, s⟩ := n
                simp only at t1 t2 a
                rw [t1, t2, a]
              · have hpart : part = true := by
                  cases part
                  · simp [talkS, a] at hT
                  · rfl
                subst hpart
                have ef : flatT (tokS n ++ joinT (casesT (tokF f) (m + 1) l).1 ++ [ba [125]]) ++ more = n.peer.toList ++ (33 :: 123 :: (flatT (joinT (casesT (tokF f) (m + 1) l).1) ++ 125 :: more)) := by
                  have e : tokS n = [n.peer, ba [33], ba [123]] := by unfold tokS; rw [if_neg (by omega), if_neg (by omega), if_neg (by omega), if_pos a]
                  rw [e, flat_app, flat_app, flat_cons, flat_ba, flat_ba]
                  simp [flatT, ba_list]
                rw [ef]
                obtain ⟨a1, a2⟩ := wd_at (word_T t3) (sign_head 33 (by decide) (123 :: (flatT (joinT (casesT (tokF f) (m + 1) l).1) ++ 125 :: more))) L false
                obtain ⟨n1, n2⟩ := word_end t3
                rw [a1, a2, if_neg (by intro e; rw [e] at n1; simp at n1), if_neg (by intro e; rw [e] at n2; simp at n2)]
                simp only [if_true]
                rw [show isS [33, 123] ⟨33 :: 123 :: (flatT (joinT (casesT (tokF f) (m + 1) l).1) ++ 125 :: more), L, false⟩ = some ⟨flatT (joinT (casesT (tokF f) (m + 1) l).1) ++ 125 :: more, L, false⟩ from is_at [33, 123] _ _]
                dsimp only
                rw [ba_toL]
                refine cs _ rfl ?_
                obtain ⟨o, x, y, mm, s⟩ := n
                simp only at t1 t2 a b
                rw [t1, t2, a, b]
              · have hpart : part = true := by
                  cases part
                  · simp [talkS, a] at hT
                  · rfl
                subst hpart
                have ef : flatT (tokS n ++ joinT (casesT (tokF f) (m + 1) l).1 ++ [ba [125]]) ++ more = n.peer.toList ++ (63 :: 123 :: (flatT (joinT (casesT (tokF f) (m + 1) l).1) ++ 125 :: more)) := by
                  have e : tokS n = [n.peer, ba [63], ba [123]] := by unfold tokS; rw [if_neg (by omega), if_neg (by omega), if_neg (by omega), if_neg (by omega), if_pos a]
                  rw [e, flat_app, flat_app, flat_cons, flat_ba, flat_ba]
                  simp [flatT, ba_list]
                rw [ef]
                obtain ⟨a1, a2⟩ := wd_at (word_T t3) (sign_head 63 (by decide) (123 :: (flatT (joinT (casesT (tokF f) (m + 1) l).1) ++ 125 :: more))) L false
                obtain ⟨n1, n2⟩ := word_end t3
                rw [a1, a2, if_neg (by intro e; rw [e] at n1; simp at n1), if_neg (by intro e; rw [e] at n2; simp at n2)]
                simp only [if_true]
                rw [is_no (t := [33, 123]) (by simp [List.isPrefixOf]), show isS [63, 123] ⟨63 :: 123 :: (flatT (joinT (casesT (tokF f) (m + 1) l).1) ++ 125 :: more), L, false⟩ = some ⟨flatT (joinT (casesT (tokF f) (m + 1) l).1) ++ 125 :: more, L, false⟩ from is_at [63, 123] _ _]
                dsimp only
                rw [ba_toL]
                refine cs _ rfl ?_
                obtain ⟨o, x, y, mm, s⟩ := n
                simp only at t1 t2 a b
                rw [t1, t2, a, b]
            · cases h
theorem spec_reads {part : Bool} {ns : List Nd} (h : rightB part ns = true) : oneS part 11 ⟨(textF 10 ns).1.toList, [], false⟩ = ⟨[], ns, false⟩ := by
  have h' := h
  simp only [rightB, Bool.and_eq_true, beq_iff_eq, decide_eq_true_eq] at h
  have h1 := h.2.1
  cases ha : ahead (talkS part) 10 [] ns with
  | none => rw [ha] at h1; cases h1
  | some r =>
    rw [ha] at h1
    have hr : r = [] := by simpa using h1
    subst hr
    obtain ⟨-, pre, e2, e3⟩ := ahead_readB part 10 [] (fun n hn => by cases hn) _ _ ha
    rw [List.append_nil] at e2
    subst e2
    have := e3 [] [] (.inl rfl) (by simpa using h.1)
    rw [List.append_nil, List.nil_append] at this
    rw [(text_marks h').2.1, cat_flat]
    exact this
end Go.Proofs.Ytlbcnmcfljaijaa
