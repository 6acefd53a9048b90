import Derived.Test.YtlbcnmcfljaijaaQF34
import Derived.Test.YtlbcnmcfljaijaaQF33
import Derived.Test.YtlbcnmcfljaijaaQF21
import Derived.Test.YtlbcnmcfljaijaaQF18
namespace Go.Proofs.Ytlbcnmcfljaijaa
open Go.RowKit
set_option linter.unusedSimpArgs false
set_option linter.unusedVariables false

def IsText (part : Bool) (s : ByteArray) (ns : List Nd) : Prop := rightB part ns = true ∧ (textF 10 ns).1 = s
structure RdAns (part : Bool) (s : ByteArray) (ns : List Nd) (code : Int) : Prop where
  big : 8000 < s.size → ns = [] ∧ code = 2
  good : s.size ≤ 8000 → ∀ ns', IsText part s ns' → ns = ns' ∧ code = 0
  bad : s.size ≤ 8000 → (∀ ns', ¬ IsText part s ns') → ns = [] ∧ code = 3
theorem row_of_cells {w : World} {g : Nat} : ∀ (l : List Nd) (o : Nat), (∀ j u, (l.flatMap Nd.cells)[j]? = some u → w.cell? ⟨g, o + j, none⟩ = some u) → RowAt w g o l
  | [], _, _ => trivial
  | n :: l, o, h => by
    refine ⟨⟨h 0 _ rfl, h 1 _ rfl, h 2 _ rfl, h 3 _ rfl, h 4 _ rfl⟩, row_of_cells l (o + 5) (fun j u hj => ?_)⟩
    have := h (5 + j) u (by rw [List.flatMap_cons, List.getElem?_append_right (by simp [Nd.cells])]; simpa [Nd.cells] using hj)
    rwa [← Nat.add_assoc] at this
theorem own_slat {w : World} {base : Nat} {v : Value} {l : List Nd} (h : NdOwn w base v l) (hl : l.length ≤ 100000) : SlAt w w.heap.size v l := by
  rcases h.2 with ⟨rfl, h0⟩ | ⟨g, cap, cur, rfl, hB, hg, h1, h2, h3, h4⟩
  · have : l = [] := List.length_eq_zero_iff.1 h0
    subst this
    exact ⟨none, 0, rfl, Nat.le_refl _, ⟨by omega, by simp⟩, fun h => absurd rfl h⟩
  · refine ⟨_, cap, rfl, h1, ⟨by unfold maxLen at h2; omega, by omega⟩, fun _ => ⟨g, 0, rfl, (Array.getElem?_eq_some_iff.1 hg).1, row_of_cells l 0 (fun j u hj => ?_)⟩⟩
    rw [Nat.zero_add]
    exact owns_cell h rfl j u hj
def PrAns (part : Bool) (s : ByteArray) (w w' : World) (e : Ending) : Prop := ∃ v ns C, e = .returned (.agg #[v, .int .i64 C]) ∧ NdOwn w' w.heap.size v ns ∧ Below w.heap.size w w' ∧ RdAns part s ns C
def outR : Obj := .cells #[.slice none 0 0, .int .i64 0] 83
theorem setR {B : Nat} {a w : World} (h : Below B a w) (y0 y1 : Value) : Below B a ((w.setCell ⟨B, 0, none⟩ y0).setCell ⟨B, 1, none⟩ y1) := (h.setCell (p := ⟨B, 0, none⟩) (Nat.le_refl _) _).setCell (p := ⟨B, 1, none⟩) (Nat.le_refl _) _
theorem apR (w : World) (B : Nat) (y0 y1 : Value) : Apart w ((w.setCell ⟨B, 0, none⟩ y0).setCell ⟨B, 1, none⟩ y1) [B] := (setCell_apart w B 0 y0).setCell 1 y1
end Go.Proofs.Ytlbcnmcfljaijaa
namespace Go.Proofs.Ytlbcnmcfljaijaa
open Go.RowKit
set_option linter.unusedSimpArgs false
set_option linter.unusedVariables false

def stS (t : ByteArray) (a : Nat) (l : List Nd) (bad : Bool) : Ss := ⟨t.toList.drop a, l, bad⟩
theorem tl_size (t : ByteArray) : t.toList.length = t.size := by rw [Go.ByteArray.toList_eq]; rfl
theorem is_st (x : List UInt8) (t : ByteArray) (a : Nat) (l : List Nd) (bad : Bool) : isS x (stS t a l bad) = if isQ x t a bad = true then some (stS t (isA x t a bad) l bad) else none := by
  unfold isS isA stS
  cases h : isQ x t a bad
  · have h' : (!bad && x.isPrefixOf (t.toList.drop a)) = false := h
    simp only [h']
    rfl
  · have h' : (!bad && x.isPrefixOf (t.toList.drop a)) = true := h
    simp only [h', if_true, List.drop_drop]
theorem isA_le {x : List UInt8} {t : ByteArray} {a : Nat} {bad : Bool} (h : a ≤ t.size) : isA x t a bad ≤ t.size := by
  unfold isA
  split
  · rename_i hq
    unfold isQ at hq
    simp only [Bool.and_eq_true] at hq
    have := (List.isPrefixOf_iff_prefix.1 hq.2).length_le
    rw [List.length_drop, tl_size] at this
    omega
  · exact h
theorem must_st (x : List UInt8) (t : ByteArray) (a : Nat) (l : List Nd) (bad : Bool) : mustS x (stS t a l bad) = stS t (isA x t a bad) l (!isQ x t a bad) := by
  unfold mustS
  rw [is_st]
  cases h : isQ x t a bad
  · have e : isA x t a bad = a := by unfold isA; rw [h]; rfl
    rw [e]
    rfl
  · have : bad = false := by
      unfold isQ at h
      cases bad
      · rfl
      · cases h
    subst this
    rfl
theorem wd_len_le (t : ByteArray) (a : Nat) : ((t.toList.drop a).takeWhile inW).length ≤ t.size - a := by
  have := (List.takeWhile_sublist (p := inW) (l := t.toList.drop a)).length_le
  rw [List.length_drop, tl_size] at this
  exact this
theorem wdA_le {t : ByteArray} {a : Nat} (h : a ≤ t.size) : wdA t a ≤ t.size := by
  have := wd_len_le t a
  unfold wdA
  omega
theorem dw_drop (r : List UInt8) : r.dropWhile inW = r.drop (r.takeWhile inW).length := by
  have h := List.takeWhile_append_dropWhile (p := inW) (l := r)
  have := congrArg (List.drop (r.takeWhile inW).length) h
  rw [List.drop_left'  rfl] at this
  exact this
theorem sk_st (t : ByteArray) (a : Nat) (l : List Nd) (bad : Bool) : skW (stS t a l bad) = stS t (wdA t a) l bad := by
  unfold skW stS wdA
  dsimp only
  rw [dw_drop, List.drop_drop]
theorem wdS_st (t : ByteArray) (a : Nat) (l : List Nd) (bad : Bool) : wdS (stS t a l bad) = (t.toList.drop a).takeWhile inW := rfl
theorem push_st (n : Nd) (t : ByteArray) (a : Nat) (l : List Nd) (bad : Bool) : pushS n (stS t a l bad) = stS t a (l ++ [n]) bad := rfl
structure SsOk (k : Bool) (s : Ss) : Prop where
  r : s.r.length ≤ 8000
  f : k = true → ∀ n ∈ s.l, n.fit
  n : s.l.length ≤ 42
def SsFine (s : Ss) : Prop := s.bad = false → s.l.length ≤ 41
theorem SsOk.is {k : Bool} {x : List UInt8} {s s' : Ss} (h : SsOk k s) (e : isS x s = some s') : SsOk k s' ∧ s'.l = s.l ∧ s'.bad = s.bad := by
  unfold isS at e
  split at e
  · injection e with e
    subst e
    exact ⟨⟨by dsimp only; rw [List.length_drop]; have := h.r; omega, h.f, h.n⟩, rfl, rfl⟩
  · cases e
theorem SsOk.must {k : Bool} {s : Ss} (h : SsOk k s) (x : List UInt8) : SsOk k (mustS x s) ∧ (mustS x s).l = s.l ∧ ((mustS x s).bad = false → s.bad = false) := by
  unfold mustS
  cases e : isS x s with
  | none => exact ⟨⟨h.r, h.f, h.n⟩, rfl, fun h => by cases h⟩
  | some s' =>
    obtain ⟨h1, h2, h3⟩ := h.is e
    exact ⟨h1, h2, fun hb => by rw [← h3]; exact hb⟩
theorem SsOk.sk {k : Bool} {s : Ss} (h : SsOk k s) : SsOk k (skW s) := ⟨by
  have := (List.dropWhile_sublist (p := inW) (l := s.r)).length_le
  have := h.r
  unfold skW
  dsimp only
  omega, h.f, h.n⟩
theorem SsOk.wd {k : Bool} {s : Ss} (h : SsOk k s) : (ba (wdS s)).size ≤ 1048576 := by
  have := (List.takeWhile_sublist (p := inW) (l := s.r)).length_le
  have := h.r
  rw [sz_ba]
  unfold wdS
  omega
theorem SsOk.push {k : Bool} {s : Ss} (h : SsOk k s) (hl : s.l.length ≤ 41) {n : Nd} (hn : n.fit) : SsOk k (pushS n s) :=
  ⟨h.r, fun hk m hm => by
    rcases List.mem_append.1 (show m ∈ s.l ++ [n] from hm) with hm | hm
    · exact h.f hk m hm
    · simp at hm
      rw [hm]
      exact hn, by show (s.l ++ [n]).length ≤ 42; rw [List.length_append]; simp; omega⟩
theorem fit_noT : noT.size ≤ 1048576 := by show noT.size ≤ _; simp [noT]
theorem case_ok {k : Bool} {go : Ss → Ss} (hg : ∀ s, SsOk k s → SsOk k (go s) ∧ SsFine (go s)) {s : Ss} (h : SsOk k s) (hl : s.l.length ≤ 41) : SsOk k (caseS go s) ∧ SsFine (caseS go s) := by
  unfold caseS
  have h1 := (h.sk.must [40])
  have h2 := h1.1.sk.must [41, 46]
  have e1 : (mustS [41, 46] (skW (mustS [40] (skW s)))).l = s.l := by rw [h2.2.1]; show (mustS [40] (skW s)).l = _; rw [h1.2.1]; rfl
  exact hg _ (h2.1.push (by rw [e1]; exact hl) ⟨h.wd, fit_noT⟩)
theorem loop_ok {k : Bool} {go : Ss → Ss} (hg : ∀ s, SsOk k s → SsOk k (go s) ∧ SsFine (go s)) : ∀ (j many : Nat) (s : Ss), SsOk k s → SsFine s → SsOk k (loopS go j many s).2 ∧ SsFine (loopS go j many s).2
  | 0, _, s, h, h' => ⟨h, h'⟩
  | j + 1, many, s, h, h' => by
    rw [loopS]
    split
    · exact ⟨h, h'⟩
    · rename_i hb
      obtain ⟨c1, c2⟩ := case_ok hg h (h' (by simpa using hb))
      cases e : isS [44] (caseS go s) with
      | none => exact ⟨c1, c2⟩
      | some s' =>
        obtain ⟨d1, d2, d3⟩ := c1.is e
        exact loop_ok hg j (many + 1) s' d1 (fun hb => by rw [d2]; exact c2 (by rw [← d3]; exact hb))
theorem set_fit {l : List Nd} (h : ∀ n ∈ l, n.fit) (i m : Nat) : ∀ n ∈ setMany l i m, n.fit := by
  unfold setMany
  induction l generalizing i with
  | nil => intro n hn; simp at hn
  | cons a l ih =>
    intro n hn
    cases i with
    | zero =>
      rw [List.modify_zero_cons] at hn
      rcases List.mem_cons.1 hn with rfl | hn
      · exact h a List.mem_cons_self
      · exact h n (List.mem_cons_of_mem _ hn)
    | succ i =>
      rw [List.modify_succ_cons] at hn
      rcases List.mem_cons.1 hn with rfl | hn
      · exact h n List.mem_cons_self
      · exact ih (fun x hx => h x (List.mem_cons_of_mem _ hx)) i n hn
theorem set_mlen (l : List Nd) (i m : Nat) : (setMany l i m).length = l.length := by unfold setMany; simp
theorem cases_ok {k : Bool} {go : Ss → Ss} (hg : ∀ s, SsOk k s → SsOk k (go s) ∧ SsFine (go s)) {s : Ss} (h : SsOk k s) (hl : s.l.length ≤ 40) {n : Nd} (hn : n.fit) : SsOk k (casesS go n s) ∧ SsFine (casesS go n s) := by
  have h1 := h.push (n := n) (by omega) hn
  have hf : SsFine (pushS n s) := fun _ => by show (s.l ++ [n]).length ≤ 41; rw [List.length_append]; simp; omega
  obtain ⟨l1, l2⟩ := loop_ok hg 5 0 _ h1 hf
  obtain ⟨m1, m2, m3⟩ := l1.must [125]
  unfold casesS
  refine ⟨⟨m1.r, fun hk => set_fit (l1.f hk) _ _, by dsimp only; rw [set_mlen]; exact l1.n⟩, fun hb => ?_⟩
  show (setMany _ _ _).length ≤ 41
  rw [set_mlen]
  exact l2 (m3 hb)
theorem one_ok {k : Bool} (part : Bool) : ∀ (f : Nat) (s : Ss), SsOk k s → SsOk k (oneS part f s) ∧ SsFine (oneS part f s)
  | 0, s, h => ⟨⟨h.r, h.f, h.n⟩, fun h => by cases h⟩
  | f + 1, s, h => by
    rw [oneS]
    split
    · exact ⟨⟨h.r, h.f, h.n⟩, fun h => by cases h⟩
    · rename_i hb
      have hl : s.l.length ≤ 40 := by simp at hb; omega
      have push1 : ∀ {s : Ss} {n : Nd}, SsOk k s → s.l.length ≤ 40 → n.fit → SsOk k (pushS n s) ∧ SsFine (pushS n s) := fun {s n} h hl hn => ⟨h.push (by omega) hn, fun _ => by show (s.l ++ [n]).length ≤ 41; rw [List.length_append]; simp; omega⟩
      have hS := h.sk
      have hSl : (skW s).l.length ≤ 40 := hl
      split
      · exact push1 hS hSl ⟨fit_noT, fit_noT⟩
      · split
        · have m1 := hS.must [32]
          have p1 := m1.1.sk.push (n := ⟨2, ba (wdS (mustS [32] (skW s))), noT, 0, 0⟩) (by show (mustS [32] (skW s)).l.length ≤ 41; rw [m1.2.1]; omega) ⟨m1.1.wd, fit_noT⟩
          exact one_ok part f _ (p1.must [46]).1
        · have go1 := one_ok (k := k) part f
          split
          · rename_i s2 e
            have e' : isS [62] (skW s) = some s2 := by cases part <;> simp at e; exact e
            obtain ⟨d1, d2, d3⟩ := hS.is e'
            have m := d1.sk.must [123]
            exact cases_ok go1 m.1 (by rw [m.2.1]; show s2.l.length ≤ 40; rw [d2]; exact hSl) ⟨h.wd, d1.wd⟩
          · split
            · rename_i s2 e
              have e' : isS [33, 123] (skW s) = some s2 := by cases part <;> simp at e; exact e
              obtain ⟨d1, d2, d3⟩ := hS.is e'
              exact cases_ok go1 d1 (by rw [d2]; exact hSl) ⟨fit_noT, h.wd⟩
            · split
              · rename_i s2 e
                have e' : isS [63, 123] (skW s) = some s2 := by cases part <;> simp at e; exact e
                obtain ⟨d1, d2, d3⟩ := hS.is e'
                exact cases_ok go1 d1 (by rw [d2]; exact hSl) ⟨fit_noT, h.wd⟩
              · exact push1 hS hSl ⟨h.wd, fit_noT⟩
theorem one_small (part : Bool) {t : ByteArray} (ht : t.size ≤ 8000) : SsOk true (oneS part 11 (stS t 0 [] false)) :=
  (one_ok part 11 _ ⟨by show (t.toList.drop 0).length ≤ 8000; rw [List.length_drop, tl_size]; omega, fun _ n hn => (by cases hn), by show ([] : List Nd).length ≤ 42; simp⟩).1
theorem is_l {x : List UInt8} {s s' : Ss} (e : isS x s = some s') : s'.l = s.l := by
  unfold isS at e
  split at e
  · injection e with e
    subst e
    rfl
  · cases e
theorem must_l (x : List UInt8) (s : Ss) : (mustS x s).l = s.l := by
  unfold mustS
  cases e : isS x s with
  | none => rfl
  | some s' => exact is_l e
theorem case_mono {go : Ss → Ss} (hg : ∀ s, s.l.length ≤ (go s).l.length) (s : Ss) : s.l.length ≤ (caseS go s).l.length := by
  unfold caseS
  refine Nat.le_trans ?_ (hg _)
  show _ ≤ ((mustS [41, 46] (skW (mustS [40] (skW s)))).l ++ _).length
  rw [must_l]
  show _ ≤ ((mustS [40] (skW s)).l ++ _).length
  rw [must_l, List.length_append]
  exact Nat.le_add_right _ _
theorem loop_mono {go : Ss → Ss} (hg : ∀ s, s.l.length ≤ (go s).l.length) : ∀ (j many : Nat) (s : Ss), s.l.length ≤ (loopS go j many s).2.l.length
  | 0, _, s => Nat.le_refl _
  | j + 1, many, s => by
    rw [loopS]
    split
    · exact Nat.le_refl _
    · have h := case_mono hg s
      cases e : isS [44] (caseS go s) with
      | none => exact h
      | some s' =>
        have := loop_mono hg j (many + 1) s'
        rw [is_l e] at this
        exact Nat.le_trans h this
theorem cases_mono {go : Ss → Ss} (hg : ∀ s, s.l.length ≤ (go s).l.length) (n : Nd) (s : Ss) : s.l.length ≤ (casesS go n s).l.length := by
  unfold casesS
  dsimp only
  rw [set_mlen]
  refine Nat.le_trans ?_ (loop_mono hg 5 0 _)
  show _ ≤ (s.l ++ [n]).length
  rw [List.length_append]
  exact Nat.le_add_right _ _
theorem one_mono (part : Bool) : ∀ (f : Nat) (s : Ss), s.l.length ≤ (oneS part f s).l.length
  | 0, s => Nat.le_refl _
  | f + 1, s => by
    have push1 : ∀ (s : Ss) (n : Nd), s.l.length ≤ (pushS n s).l.length := fun s n => by show _ ≤ (s.l ++ [n]).length; rw [List.length_append]; exact Nat.le_add_right _ _
    have go1 := one_mono part f
    rw [oneS]
    split
    · exact Nat.le_refl _
    · split
      · exact push1 (skW s) _
      · split
        · refine Nat.le_trans ?_ (go1 _)
          rw [must_l]
          refine Nat.le_trans ?_ (push1 _ _)
          show _ ≤ (mustS [32] (skW s)).l.length
          rw [must_l]
          exact Nat.le_refl _
        · split
          · rename_i s2 e
            have e' : isS [62] (skW s) = some s2 := by cases part <;> simp at e; exact e
            refine Nat.le_trans ?_ (cases_mono go1 _ _)
            rw [must_l]
            show _ ≤ s2.l.length
            rw [is_l e']
            exact Nat.le_refl _
          · split
            · rename_i s2 e
              have e' : isS [33, 123] (skW s) = some s2 := by cases part <;> simp at e; exact e
              refine Nat.le_trans ?_ (cases_mono go1 _ _)
              rw [is_l e']
              exact Nat.le_refl _
            · split
              · rename_i s2 e
                have e' : isS [63, 123] (skW s) = some s2 := by cases part <;> simp at e; exact e
                refine Nat.le_trans ?_ (cases_mono go1 _ _)
                rw [is_l e']
                exact Nat.le_refl _
              · exact push1 (skW s) _
end Go.Proofs.Ytlbcnmcfljaijaa
