import Derived.Test.YtlbcnmcfljaijaaQF20
import Derived.Test.YtlbcnmcfljaijaaQF21
import Derived.Test.YtlbcnmcfljaijaaQF00
import Derived.Test.YtlbcnmcfljaijaaQF19
import Derived.Test.YtlbcnmcfljaijaaQF07
import Derived.Laws.Rows
import Derived.Laws.MakeOwn
import Derived.Test.YtlbcnmcfljaijaaQF15
import Derived.Test.YtlbcnmcfljaijaaQF04
import Derived.Laws.OwnMore
namespace Go.Proofs.Ytlbcnmcfljaijaa
open Go.RowKit

def joinT : List (List ByteArray) → List ByteArray
  | [] => []
  | [t] => t
  | t :: u :: ts => t ++ ba [44] :: joinT (u :: ts)
def casesT (go : List Nd → List ByteArray × List Nd) : Nat → List Nd → List (List ByteArray) × List Nd
  | 0, l => ([], l)
  | _ + 1, [] => ([], [])
  | m + 1, c :: l => ((tokC c ++ (go l).1) :: (casesT go m (go l).2).1, (casesT go m (go l).2).2)
def tokF : Nat → List Nd → List ByteArray × List Nd
  | _, [] => ([], [])
  | 0, n :: l => if n.op == 1 then ([n.name], l) else ([ba [101, 110, 100]], l)
  | f + 1, n :: l =>
    if n.op == 0 then ([ba [101, 110, 100]], l)
    else if n.op == 1 then ([n.name], l)
    else if n.op == 2 then (tokS n ++ (tokF f l).1, (tokF f l).2)
    else (tokS n ++ joinT (casesT (tokF f) n.many.toNat l).1 ++ [ba [125]], (casesT (tokF f) n.many.toNat l).2)
def catT (ts : List ByteArray) : ByteArray := ts.foldr (· ++ ·) ByteArray.empty
theorem cat_nil : catT [] = ByteArray.empty := rfl
theorem cat_cons (a : ByteArray) (ts : List ByteArray) : catT (a :: ts) = a ++ catT ts := rfl
theorem cat_app (a b : List ByteArray) : catT (a ++ b) = catT a ++ catT b := by
  induction a with
  | nil => rw [List.nil_append, cat_nil, ByteArray.empty_append]
  | cons x a ih => rw [List.cons_append, cat_cons, ih, cat_cons, ByteArray.append_assoc]
theorem cat_one (a : ByteArray) : catT [a] = a := by rw [cat_cons, cat_nil, ByteArray.append_empty]
theorem join_cat : ∀ ts : List (List ByteArray), joinC (ts.map catT) = catT (joinT ts)
  | [] => rfl
  | [t] => rfl
  | t :: u :: ts => by
    have ih := join_cat (u :: ts)
    rw [List.map_cons, List.map_cons, joinC, joinT, cat_app, cat_cons, ← ih, List.map_cons, ByteArray.append_assoc]
theorem case_cat {tf : List Nd → ByteArray × List Nd} {kf : List Nd → List ByteArray × List Nd} (h : ∀ l, tf l = (catT (kf l).1, (kf l).2)) : ∀ (m : Nat) (l : List Nd), casesF tf m l = ((casesT kf m l).1.map catT, (casesT kf m l).2)
  | 0, l => rfl
  | _ + 1, [] => rfl
  | m + 1, c :: l => by
    rw [casesF, casesT, h l, case_cat h m]
    simp only [List.map_cons, Prod.mk.injEq, List.cons.injEq, and_true]
    rw [caseT, cat_app]
    simp only [tokC, cat_cons, cat_nil, ByteArray.append_empty]
    rw [show ba [41, 46] = ba [41] ++ ba [46] from rfl]
    simp only [ByteArray.append_assoc]
theorem tok_text : ∀ (f : Nat) (l : List Nd), textF f l = (catT (tokF f l).1, (tokF f l).2) := by
  intro f
  induction f with
  | zero =>
    intro l
    cases l with
    | nil => rfl
    | cons n l =>
      rw [textF, tokF]
      split
      · rw [cat_one]
      · rw [cat_one]
  | succ f ih =>
    intro l
    cases l with
    | nil => rfl
    | cons n l =>
      rw [textF, tokF]
      split
      · rw [cat_one]
      · rename_i h0
        split
        · rw [cat_one]
        · rename_i h1
          split
          · rename_i h2
            rw [beq_iff_eq] at h2
            rw [ih l]
            simp only [Prod.mk.injEq, and_true]
            rw [cat_app, tokS, if_neg (by omega), if_neg (by omega), if_pos h2]
            simp only [cat_cons, cat_nil, ByteArray.append_empty, ByteArray.append_assoc]
          · rename_i h2
            rw [beq_iff_eq] at h0 h1 h2
            rw [case_cat ih]
            simp only [Prod.mk.injEq, and_true]
            rw [cat_app, cat_app, cat_one, join_cat, tokS, if_neg h0, if_neg h1, if_neg h2, talkT]
            by_cases h5 : n.op = 5
            · rw [if_pos (by rw [beq_iff_eq]; exact h5), if_pos h5]
              simp only [cat_cons, cat_nil, ByteArray.append_empty, ByteArray.append_assoc]
            · rw [if_neg (by rw [beq_iff_eq]; exact h5), if_neg h5]
              by_cases h6 : n.op = 6
              · rw [if_pos (by rw [beq_iff_eq]; exact h6), if_pos h6]
                simp only [cat_cons, cat_nil, ByteArray.append_empty, ByteArray.append_assoc]
              · rw [if_neg (by rw [beq_iff_eq]; exact h6), if_neg h6]
                simp only [cat_cons, cat_nil, ByteArray.append_empty, ByteArray.append_assoc]
theorem ba_list (t : List UInt8) : (ba t).toList = t := by rw [Go.ByteArray.toList_eq]; simp [ba]
theorem skM_ne {t u : List UInt8} (h : u ≠ t) (ms : List ByteArray) : skM t (ba u :: ms) = none := by
  rw [skM, if_neg (by rw [beq_iff_eq, ba_list]; exact h)]
def offM (ms : List ByteArray) : Prop := ms = [] ∨ (∃ r, ms = ba [44] :: r) ∨ ∃ r, ms = ba [125] :: r
theorem off_sk {ms : List ByteArray} (h : offM ms) {t : List UInt8} (h1 : t ≠ [44]) (h2 : t ≠ [125]) : skM t ms = none := by
  rcases h with rfl | ⟨r, rfl⟩ | ⟨r, rfl⟩
  · rfl
  · exact skM_ne (Ne.symm h1) _
  · exact skM_ne (Ne.symm h2) _
theorem word_end {x : ByteArray} (h : wordB x = true) : (x.toList == [101, 110, 100]) = false ∧ (x.toList == [114, 101, 99]) = false := by
  simp only [wordB, Bool.and_eq_true, Bool.not_eq_true'] at h
  exact h.2
theorem st_end (ms : List ByteArray) (L : List Nd) (op : List Nat) : stepR ⟨0, ba [101, 110, 100] :: ms, L, op⟩ = .inr ⟨2, ms, L ++ [⟨0, noT, noT, 0, 0⟩], op⟩ := by
  rw [step_start rfl]
  unfold startS
  rw [if_pos (by rw [beq_iff_eq]; exact ba_list _)]
  rfl
theorem st_var {x : ByteArray} (hx : wordB x = true) {ms : List ByteArray} (ho : offM ms) (L : List Nd) (op : List Nat) : stepR ⟨0, x :: ms, L, op⟩ = .inr ⟨2, ms, L ++ [⟨1, x, noT, 0, 0⟩], op⟩ := by
  rw [step_start rfl]
  unfold startS
  simp only [hdM, List.headD_cons, List.tail_cons, (word_end hx).1, (word_end hx).2, Bool.false_eq_true, if_false, off_sk ho (t := [62]) (by decide) (by decide), off_sk ho (t := [33]) (by decide) (by decide), off_sk ho (t := [63]) (by decide) (by decide)]
theorem st_rec {x : ByteArray} (ms : List ByteArray) (L : List Nd) (op : List Nat) : stepR ⟨0, ba [114, 101, 99] :: ba [32] :: x :: ba [46] :: ms, L, op⟩ = .inr ⟨0, ms, L ++ [⟨2, x, noT, 0, 0⟩], op⟩ := by
  rw [step_start rfl]
  unfold startS
  have e1 : ((ba [114, 101, 99]).toList == [101, 110, 100]) = false := by rw [ba_list]; decide
  have e2 : ((ba [114, 101, 99]).toList == [114, 101, 99]) = true := by rw [ba_list]; decide
  simp only [hdM, List.headD_cons, List.tail_cons, e1, e2, Bool.false_eq_true, if_false, if_true, skM_ba]
theorem st_talk {n : Nd} (h : (n.op = 3 ∧ wordB n.name = true) ∨ (n.op = 5 ∧ n.name = noT ∧ wordB n.peer = true) ∨ (n.op = 6 ∧ n.name = noT ∧ wordB n.peer = true)) (ms : List ByteArray) (L : List Nd) (op : List Nat) : stepR ⟨0, tokS n ++ ms, L, op⟩ = .inr ⟨1, ms, L ++ [⟨n.op, n.name, n.peer, 0, 0⟩], L.length :: op⟩ := by
  rw [step_start rfl]
  rcases h with ⟨h, hw⟩ | ⟨h, hn, hw⟩ | ⟨h, hn, hw⟩
  · have e : tokS n = [n.name, ba [62], n.peer, ba [123]] := by unfold tokS; rw [if_neg (by omega), if_neg (by omega), if_neg (by omega), if_neg (by omega), if_neg (by omega)]
    rw [e]
    unfold startS
    simp only [h, hdM, List.cons_append, List.nil_append, List.headD_cons, List.tail_cons, (word_end hw).1, (word_end hw).2, Bool.false_eq_true, if_false, skM_ba, talkTo]
  · have e : tokS n = [n.peer, ba [33], ba [123]] := by unfold tokS; rw [if_neg (by omega), if_neg (by omega), if_neg (by omega), if_pos h]
    rw [e]
    unfold startS
    simp only [h, hn, hdM, List.cons_append, List.nil_append, List.headD_cons, List.tail_cons, (word_end hw).1, (word_end hw).2, Bool.false_eq_true, if_false, skM_ba, talkTo, skM_ne (show ([33] : List UInt8) ≠ [62] by decide)]
  · have e : tokS n = [n.peer, ba [63], ba [123]] := by unfold tokS; rw [if_neg (by omega), if_neg (by omega), if_neg (by omega), if_neg (by omega), if_pos h]
    rw [e]
    unfold startS
    simp only [h, hn, hdM, List.cons_append, List.nil_append, List.headD_cons, List.tail_cons, (word_end hw).1, (word_end hw).2, Bool.false_eq_true, if_false, skM_ba, talkTo, skM_ne (show ([63] : List UInt8) ≠ [62] by decide), skM_ne (show ([63] : List UInt8) ≠ [33] by decide)]
theorem sort_back {s : Int} (h : sortB s = true) : sortI (sortT s) = s := by
  simp only [sortB, Bool.and_eq_true, decide_eq_true_eq] at h
  have : s = 0 ∨ s = 1 ∨ s = 2 := by omega
  rcases this with rfl | rfl | rfl <;> (unfold sortT sortI; simp [ba_list])
theorem st_case {c : Nd} (h : caseB c = true) (ms : List ByteArray) (L : List Nd) (i : Nat) (op : List Nat) : stepR ⟨1, tokC c ++ ms, L, i :: op⟩ = .inr ⟨0, ms, bump L i ++ [c], i :: op⟩ := by
  rw [step_label rfl]
  unfold labelS tokC
  simp only [caseB, Bool.and_eq_true, beq_iff_eq] at h
  obtain ⟨⟨⟨⟨h1, h2⟩, h3⟩, h4⟩, h5⟩ := h
  simp only [hdM, List.cons_append, List.nil_append, List.headD_cons, List.tail_cons, skM_ba, sort_back h5]
  obtain ⟨o, x, y, m, s⟩ := c
  simp only at h1 h2 h3
  subst h1 h3
  have : y = noT := tl_inj (by rw [h2]; rw [Go.ByteArray.toList_eq]; rfl)
  rw [this]
theorem st_comma (ms : List ByteArray) (L : List Nd) (i : Nat) (op : List Nat) : stepR ⟨2, ba [44] :: ms, L, i :: op⟩ = .inr ⟨1, ms, L, i :: op⟩ := by
  rw [step_behind (by simp) (by simp), behindS, skM_ba]
theorem st_close (ms : List ByteArray) (L : List Nd) (i : Nat) (op : List Nat) : stepR ⟨2, ba [125] :: ms, L, i :: op⟩ = .inr ⟨2, ms, L, op⟩ := by
  rw [step_behind (by simp) (by simp), behindS, skM_ne (by decide), skM_ba]
end Go.Proofs.Ytlbcnmcfljaijaa
namespace Go.Proofs.Ytlbcnmcfljaijaa
open Go.RowKit

def bumpN (l : List Nd) (i k : Nat) : List Nd := l.modify i fun n => { n with many := n.many + (k : Int) }
theorem bumpN_len (l : List Nd) (i k : Nat) : (bumpN l i k).length = l.length := by simp [bumpN]
theorem bump_one (l : List Nd) (i : Nat) : bump l i = bumpN l i 1 := by unfold bump bumpN; rfl
theorem bumpN_app (a b : List Nd) (i k : Nat) (h : i < a.length) : bumpN (a ++ b) i k = bumpN a i k ++ b := by
  unfold bumpN
  apply List.ext_getElem
  · simp
  · intro j h1 h2
    rw [List.getElem_modify]
    by_cases hj : j < a.length
    · have e1 : ((a.modify i fun n => { n with many := n.many + (k : Int) }) ++ b)[j] = (a.modify i fun n => { n with many := n.many + (k : Int) })[j]'(by simpa using hj) := List.getElem_append_left (by simpa using hj)
      rw [e1, List.getElem_modify, List.getElem_append_left hj]
    · have e1 : ((a.modify i fun n => { n with many := n.many + (k : Int) }) ++ b)[j] = b[j - a.length]'(by simp at h1; omega) := by rw [List.getElem_append_right (by simp; omega)]; simp
      rw [e1, if_neg (by omega), List.getElem_append_right (by omega)]
theorem bumpN_add (a : List Nd) (i k m : Nat) : bumpN (bumpN a i k) i m = bumpN a i (k + m) := by
  unfold bumpN
  apply List.ext_getElem
  · simp
  · intro j h1 h2
    rw [List.getElem_modify, List.getElem_modify, List.getElem_modify]
    split
    · congr 1
      dsimp only
      omega
    · rfl
theorem bumpN_last (a : List Nd) (n : Nd) (k : Nat) : bumpN (a ++ [n]) a.length k = a ++ [{ n with many := n.many + (k : Int) }] := by
  unfold bumpN
  apply List.ext_getElem
  · simp
  · intro j h1 h2
    rw [List.getElem_modify]
    by_cases hj : j < a.length
    · rw [if_neg (by omega), List.getElem_append_left hj, List.getElem_append_left hj]
    · have : j = a.length := by simp at h1; omega
      subst this
      rw [if_pos rfl]
      simp
def ReadsOf (go : List Nd → Option (List Nd)) (tf : List Nd → List ByteArray × List Nd) : Prop :=
  ∀ l r, go l = some r → (tf l).2 = r ∧ ∃ pre, l = pre ++ r ∧ (∀ n ∈ pre, goodN n) ∧ ∀ ms L op, offM ms → readR ⟨0, (tf l).1 ++ ms, L, op⟩ = readR ⟨2, ms, L ++ pre, op⟩
theorem case_good {c : Nd} (h : caseB c = true) : goodN c := by
  simp only [caseB, Bool.and_eq_true, beq_iff_eq] at h
  obtain ⟨⟨⟨⟨h1, h2⟩, h3⟩, h4⟩, h5⟩ := h
  exact .inr (.inr (.inr (.inr (.inl ⟨h1, h4, h5⟩))))
theorem kids_read {go : List Nd → Option (List Nd)} {tf : List Nd → List ByteArray × List Nd} (hg : ReadsOf go tf) : ∀ (m : Nat) (ls : List ByteArray) (l r : List Nd), kidsBy go (m + 1) ls l = some r →
    (casesT tf (m + 1) l).2 = r ∧ (casesT tf (m + 1) l).1 ≠ [] ∧ ∃ pre, l = pre ++ r ∧ (∀ n ∈ pre, goodN n) ∧ ∀ ms L i op, i < L.length → readR ⟨1, joinT (casesT tf (m + 1) l).1 ++ ba [125] :: ms, L, i :: op⟩ = readR ⟨2, ms, bumpN L i (m + 1) ++ pre, op⟩ := by
  intro m
  induction m with
  | zero =>
    intro ls l r h
    cases l with
    | nil => cases h
    | cons c l =>
      rw [kidsBy] at h
      split at h
      · rename_i hc
        simp only [Bool.and_eq_true] at hc
        split at h
        · cases h
        · rename_i r' hr'
          rw [kidsBy] at h
          injection h with h
          subst h
          obtain ⟨e1, pre, e2, e3, e4⟩ := hg _ _ hr'
          refine ⟨by rw [casesT, casesT]; exact e1, by rw [casesT]; simp, c :: pre, by rw [e2]; rfl, fun n hn => ?_, fun ms L i op hi => ?_⟩
          · rcases List.mem_cons.1 hn with rfl | hn
            · exact case_good hc.1
            · exact e3 n hn
          · rw [casesT, casesT]
            show readR ⟨1, (tokC c ++ (tf l).1) ++ ba [125] :: ms, L, i :: op⟩ = _
            rw [List.append_assoc, read_step (st_case hc.1 _ _ _ _), e4 _ _ _ (.inr (.inr ⟨_, rfl⟩)), read_step (st_close _ _ _ _), bump_one]
            congr 2
            simp
      · cases h
  | succ m ih =>
    intro ls l r h
    cases l with
    | nil => cases h
    | cons c l =>
      rw [kidsBy] at h
      split at h
      · rename_i hc
        simp only [Bool.and_eq_true] at hc
        split at h
        · cases h
        · rename_i r' hr'
          obtain ⟨e1, pre, e2, e3, e4⟩ := hg _ _ hr'
          obtain ⟨k1, k2, pre2, k3, k4, k5⟩ := ih _ _ _ h
          rw [casesT, e1]
          refine ⟨k1, by simp, c :: pre ++ pre2, by rw [e2, k3]; simp, fun n hn => ?_, fun ms L i op hi => ?_⟩
          · rcases List.mem_append.1 hn with hn | hn
            · rcases List.mem_cons.1 hn with rfl | hn
              · exact case_good hc.1
              · exact e3 n hn
            · exact k4 n hn
          · dsimp only
            cases hcs : (casesT tf (m + 1) r').1 with
            | nil => exact absurd hcs k2
            | cons u us =>
              rw [joinT, ← hcs]
              show readR ⟨1, ((tokC c ++ (tf l).1) ++ ba [44] :: joinT (casesT tf (m + 1) r').1) ++ ba [125] :: ms, L, i :: op⟩ = _
              rw [List.append_assoc, List.append_assoc, read_step (st_case hc.1 _ _ _ _), List.cons_append, e4 _ _ _ (.inr (.inl ⟨_, rfl⟩)), read_step (st_comma _ _ _ _), k5 _ _ _ _ (by rw [List.length_append, List.length_append, bump_len]; omega), bump_one]
              congr 2
              rw [List.append_assoc (bumpN L i 1), bumpN_app _ _ _ _ (by rw [bumpN_len]; exact hi), bumpN_add, Nat.add_comm 1]
              simp
      · cases h
def StWord (st : List Nd) : Prop := ∀ n ∈ st, n.op = 2 → wordB n.name = true
theorem back_word : ∀ (st : List Nd) (said : Bool) (t : ByteArray), StWord st → backB said st t = true → wordB t = true
  | [], _, _, _, h => by cases h
  | n :: st, said, t, hw, h => by
    rw [backB] at h
    have hw' : StWord st := fun x hx => hw x (List.mem_cons_of_mem _ hx)
    split at h
    · rename_i h2
      split at h
      · rename_i he
        rw [beq_iff_eq] at he h2
        have := hw n (by simp) h2
        rwa [tl_inj he] at this
      · exact back_word st said t hw' h
    · exact back_word st true t hw' h
theorem noT_of {x : ByteArray} (h : x.toList = []) : x = noT := tl_inj (by rw [h, Go.ByteArray.toList_eq]; rfl)
theorem end_is {n : Nd} (h : endB n = true) : n = ⟨0, noT, noT, 0, 0⟩ := by
  simp only [endB, Bool.and_eq_true, beq_iff_eq] at h
  obtain ⟨⟨⟨⟨h1, h2⟩, h3⟩, h4⟩, h5⟩ := h
  obtain ⟨o, x, y, m, s⟩ := n
  simp only at h1 h2 h3 h4 h5
  rw [h1, noT_of h2, noT_of h3, h4, h5]
theorem var_is {n : Nd} (h : varB n = true) : n = ⟨1, n.name, noT, 0, 0⟩ := by
  simp only [varB, Bool.and_eq_true, beq_iff_eq] at h
  obtain ⟨⟨⟨h1, h3⟩, h4⟩, h5⟩ := h
  obtain ⟨o, x, y, m, s⟩ := n
  simp only at h1 h3 h4 h5
  rw [h1, noT_of h3, h4, h5]
theorem rec_is {n : Nd} (h : recB n = true) : n = ⟨2, n.name, noT, 0, 0⟩ ∧ wordB n.name = true := by
  simp only [recB, Bool.and_eq_true, beq_iff_eq] at h
  obtain ⟨⟨⟨⟨h1, h3⟩, h4⟩, h5⟩, h6⟩ := h
  obtain ⟨o, x, y, m, s⟩ := n
  simp only at h1 h3 h4 h5 h6
  rw [h1, noT_of h3, h4, h5]
  exact ⟨rfl, h6⟩
theorem talk_is {part : Bool} {n : Nd} (h : talkS part n = true) : n.sort = 0 ∧ (∃ m : Nat, n.many = ((m + 1 : Nat) : Int)) ∧ wordB n.peer = true ∧ ((n.op = 3 ∧ wordB n.name = true) ∨ (n.op = 5 ∧ n.name = noT ∧ wordB n.peer = true) ∨ (n.op = 6 ∧ n.name = noT ∧ wordB n.peer = true)) := by
  simp only [talkS, Bool.and_eq_true, beq_iff_eq] at h
  obtain ⟨⟨⟨h1, h2⟩, h3⟩, h4⟩ := h
  refine ⟨h3, ?_, h1, ?_⟩
  · simp only [manyB, Bool.and_eq_true, decide_eq_true_eq] at h2
    exact ⟨n.many.toNat - 1, by omega⟩
  · cases part
    · simp only [Bool.false_eq_true, if_false, Bool.and_eq_true, beq_iff_eq] at h4
      exact .inl h4.1
    · simp only [if_true, Bool.and_eq_true, beq_iff_eq, Bool.or_eq_true] at h4
      rcases h4.2 with e | e
      · exact .inr (.inl ⟨e, noT_of h4.1, h1⟩)
      · exact .inr (.inr ⟨e, noT_of h4.1, h1⟩)
theorem ahead_reads (part : Bool) : ∀ (f : Nat) (st : List Nd), StWord st → ReadsOf (ahead (talkS part) f st) (tokF f) := by
  intro f
  induction f with
  | zero =>
    intro st hw l r h
    cases l with
    | nil => cases h
    | cons n l =>
      rw [ahead] at h
      split at h
      · rename_i h0
        split at h
        · rename_i he
          injection h with h
          subst h
          rw [beq_iff_eq] at h0
          have e := end_is he
          refine ⟨by rw [tokF, if_neg (by rw [beq_iff_eq]; omega)], [n], rfl, fun x hx => by simp at hx; subst hx; exact .inl h0, fun ms L op _ => ?_⟩
          rw [tokF, if_neg (by rw [beq_iff_eq]; omega)]
          show readR ⟨0, ba [101, 110, 100] :: ms, L, op⟩ = _
          rw [read_step (st_end _ _ _), ← e]
        · cases h
      · split at h
        · rename_i h1
          split at h
          · rename_i hv
            injection h with h
            subst h
            simp only [Bool.and_eq_true] at hv
            have hwd := back_word st false n.name hw hv.2
            have e := var_is hv.1
            rw [beq_iff_eq] at h1
            refine ⟨by rw [tokF, if_pos (by rw [beq_iff_eq]; exact h1)], [n], rfl, fun x hx => by simp at hx; subst hx; exact .inr (.inl ⟨h1, hwd⟩), fun ms L op ho => ?_⟩
            rw [tokF, if_pos (by rw [beq_iff_eq]; exact h1)]
            show readR ⟨0, n.name :: ms, L, op⟩ = _
            rw [read_step (st_var hwd ho _ _), ← e]
          · cases h
        · cases h
  | succ f ih =>
    intro st hw l r h
    cases l with
    | nil => cases h
    | cons n l =>
      rw [ahead] at h
      split at h
      · rename_i h0
        split at h
        · rename_i he
          injection h with h
          subst h
          have e := end_is he
          refine ⟨by rw [tokF, if_pos h0], [n], rfl, fun x hx => by simp at hx; subst hx; rw [beq_iff_eq] at h0; exact .inl h0, fun ms L op _ => ?_⟩
          rw [tokF, if_pos h0]
          show readR ⟨0, ba [101, 110, 100] :: ms, L, op⟩ = _
          rw [read_step (st_end _ _ _), ← e]
        · cases h
      · rename_i h0
        split at h
        · rename_i h1
          split at h
          · rename_i hv
            injection h with h
            subst h
            simp only [Bool.and_eq_true] at hv
            have hwd := back_word st false n.name hw hv.2
            have e := var_is hv.1
            refine ⟨by rw [tokF, if_neg h0, if_pos h1], [n], rfl, fun x hx => by simp at hx; subst hx; rw [beq_iff_eq] at h1; exact .inr (.inl ⟨h1, hwd⟩), fun ms L op ho => ?_⟩
            rw [tokF, if_neg h0, if_pos h1]
            show readR ⟨0, n.name :: ms, L, op⟩ = _
            rw [read_step (st_var hwd ho _ _), ← e]
          · cases h
        · rename_i h1
          split at h
          · rename_i h2
            split at h
            · rename_i hv
              simp only [Bool.and_eq_true] at hv
              obtain ⟨e, hwd⟩ := rec_is hv.1
              obtain ⟨e1, pre, e2, e3, e4⟩ := ih (n :: st) (fun x hx ho => by rcases List.mem_cons.1 hx with rfl | hx; exact hwd; exact hw x hx ho) _ _ h
              rw [tokF, if_neg h0, if_neg h1, if_pos h2]
              rw [beq_iff_eq] at h2
              refine ⟨e1, n :: pre, by rw [e2]; rfl, fun x hx => ?_, fun ms L op ho => ?_⟩
              · rcases List.mem_cons.1 hx with rfl | hx
                · exact .inr (.inr (.inl ⟨h2, hwd⟩))
                · exact e3 x hx
              · dsimp only
                have et : tokS n = [ba [114, 101, 99], ba [32], n.name, ba [46]] := by unfold tokS; rw [if_neg (by omega), if_neg (by omega), if_pos h2]
                rw [et]
                show readR ⟨0, ba [114, 101, 99] :: ba [32] :: n.name :: ba [46] :: ((tokF f l).1 ++ ms), L, op⟩ = _
                rw [read_step (st_rec _ _ _), e4 _ _ _ ho, ← e]
                simp
            · cases h
          · rename_i h2
            split at h
            · rename_i hT
              obtain ⟨t1, ⟨m, t2⟩, t3, t4⟩ := talk_is hT
              have hm : n.many.toNat = m + 1 := by omega
              rw [hm] at h
              rw [beq_iff_eq] at h2
              obtain ⟨e1, e2, pre, e3, e4, e5⟩ := kids_read (ih (n :: st) (fun x hx ho => by rcases List.mem_cons.1 hx with rfl | hx; exact absurd ho h2; exact hw x hx ho)) m [] l r h
              rw [tokF, if_neg h0, if_neg h1, if_neg (by rw [beq_iff_eq]; exact h2), hm]
              refine ⟨e1, n :: pre, by rw [e3]; rfl, fun x hx => ?_, fun ms L op ho => ?_⟩
              · rcases List.mem_cons.1 hx with rfl | hx
                · rcases t4 with ⟨a, b⟩ | ⟨a, b, c⟩ | ⟨a, b, c⟩
                  · exact .inr (.inr (.inr (.inl ⟨a, b, t3⟩)))
                  · exact .inr (.inr (.inr (.inr (.inr ⟨.inl a, c⟩))))
                  · exact .inr (.inr (.inr (.inr (.inr ⟨.inr a, c⟩))))
                · exact e4 x hx
              · dsimp only
                show readR ⟨0, ((tokS n ++ joinT (casesT (tokF f) (m + 1) l).1) ++ [ba [125]]) ++ ms, L, op⟩ = _
                rw [List.append_assoc, List.append_assoc, read_step (st_talk t4 _ _ _)]
                show readR ⟨1, joinT (casesT (tokF f) (m + 1) l).1 ++ ba [125] :: ms, _, _⟩ = _
                rw [e5 _ _ _ _ (by simp), bumpN_last]
                congr 2
                rw [List.append_assoc]
                congr 1
                obtain ⟨o, x, y, mm, s⟩ := n
                simp only at t1 t2
                subst t1 t2
                simp
            · cases h
end Go.Proofs.Ytlbcnmcfljaijaa
namespace Go.Proofs.Ytlbcnmcfljaijaa
open Go.RowKit

def SortW (w : World) : Prop := w.cell? ⟨0, 0, none⟩ = some (.string (ba [110, 111, 110, 101])) ∧ w.cell? ⟨0, 1, none⟩ = some (.string (ba [105, 110, 116])) ∧ w.cell? ⟨0, 2, none⟩ = some (.string (ba [116, 101, 120, 116]))
theorem SortW.lt {w : World} (h : SortW w) : 0 < w.heap.size := World.block_lt_of_cell? w _ h.1
theorem SortW.carry {w w' : World} (h : SortW w) (hb : Below w.heap.size w w') : SortW w' :=
  ⟨(hb.cell (p := ⟨0, 0, none⟩) h.lt).trans h.1, (hb.cell (p := ⟨0, 1, none⟩) h.lt).trans h.2.1, (hb.cell (p := ⟨0, 2, none⟩) h.lt).trans h.2.2⟩

theorem kids_inv {go : List Nd → Option (List Nd)} {m k : Nat} {ls : List ByteArray} {l r : List Nd} (h : k < m) (hk : kidsBy go (m - k) ls l = some r) :
    ∃ c l1 r1, l = c :: l1 ∧ caseB c = true ∧ go l1 = some r1 ∧ kidsBy go (m - (k + 1)) (ls ++ [c.name]) r1 = some r := by
  rw [show m - k = (m - (k + 1)) + 1 from by omega] at hk
  cases l with
  | nil => cases hk
  | cons c l1 =>
    rw [kidsBy] at hk
    split at hk
    · rename_i hc
      split at hk
      · cases hk
      · rename_i r1 hr1
        exact ⟨c, l1, r1, rfl, by simp at hc; exact hc.1, hr1, hk⟩
    · cases hk
theorem cases_step {tf : List Nd → ByteArray × List Nd} {m k : Nat} {c : Nd} {l1 : List Nd} (h : k < m) : (casesF tf (m - k) (c :: l1)).1 = caseT c (tf l1).1 :: (casesF tf (m - (k + 1)) (tf l1).2).1 := by
  rw [show m - k = (m - (k + 1)) + 1 from by omega, casesF]

end Go.Proofs.Ytlbcnmcfljaijaa
namespace Go.Proofs.Ytlbcnmcfljaijaa
open Go.RowKit

end Go.Proofs.Ytlbcnmcfljaijaa
namespace Go.Proofs.Ytlbcnmcfljaijaa
open Go.RowKit

end Go.Proofs.Ytlbcnmcfljaijaa
namespace Go.Proofs.Ytlbcnmcfljaijaa
open Go.RowKit
attribute [local go_sem ↓] Go.wp_at_zero Go.wp_at_succ

def moT (ns : List Nd) : Mach := if 400 < ns.length then noMach else if rightB true ns then machP ns else noMach
def moC (ns : List Nd) : Int := if 400 < ns.length then 2 else if rightB true ns then 0 else 1
theorem part_ahead {ns : List Nd} (h : rightB true ns = true) : ahead (talkS true) 10 [] ns = some [] ∧ ns.length ≤ 40 := by
  rw [rightB] at h
  simp only [Bool.and_eq_true, decide_eq_true_eq, beq_iff_eq] at h
  refine ⟨?_, h.1⟩
  cases hr : ahead (talkS true) 10 [] ns with
  | none => rw [hr] at h; simp at h
  | some r => rw [hr] at h; simp at h; rw [h.2.1]
theorem ans_err {w w' : World} (C : Int) (hb : Below w.heap.size w w') : MrAns w w' (.returned (.agg #[.slice none 0 0, .slice none 0 0, .int .i64 0, .int .i64 C])) noMach C :=
  ⟨⟨_, _, rfl, RStateOwn.nil _ _, REdgeOwn.nil _ _, by simp [vblocks, cellBlocks]⟩, hb⟩
theorem Kept.below {w w' : World} {base B : Nat} {l : List Nat} (h : Kept w w' base l) (hB : B ≤ base) (hl : ∀ b ∈ l, B ≤ b) : Below B w w' :=
  ⟨h.os, h.tape, h.output, h.size, fun k hk => h.block k (by omega) (fun hm => absurd (hl k hm) (by omega))⟩
theorem Kept.box {w w' : World} {base b : Nat} {l : List Nat} {vs : List Value} (h : Kept w w' base l) (hb : b < base) (hn : b ∉ l) (hx : BoxL w b vs) : BoxL w' b vs :=
  ⟨fun i v hv => (World.cell?_of_block (a := ⟨b, i, none⟩) (h.block b hb hn)).trans (hx.cell i v hv), fun o => (World.frozen?_of_block (a := ⟨b, o, none⟩) (h.block b hb hn)).trans (hx.fz o), Nat.lt_of_lt_of_le hx.lt h.size⟩
end Go.Proofs.Ytlbcnmcfljaijaa
namespace Go.Proofs.Ytlbcnmcfljaijaa
open Go.RowKit

theorem s_planRight (ns : List Nd) (v : Value) (w : World) (fit : ∀ n ∈ ns, n.fit) (hv : SlAt w w.heap.size v ns) :
    Calls Try.prog 41 #[v] w fun e w' => e = .returned (.bool (rightB false ns)) ∧ Below w.heap.size w w' := by
  have HV := hide hv
  have HF := hide fit
  obtain ⟨ao, cap, rfl, hc, hm, hr⟩ := hv
  clear hr fit hc hm
  go_enter Try.func41, Try.ntmps41
  go_wp2_with (go_at_call 53; refine (s_right false ns _ _ HF.out HV.out).mono ?_; rintro e w1 ⟨rfl, hb1⟩; have HB1 := hide hb1; clear hb1)
  go_ret
  exact ⟨ret_bool rfl, HB1.out⟩
theorem s_partRight (ns : List Nd) (v : Value) (w : World) (fit : ∀ n ∈ ns, n.fit) (hv : SlAt w w.heap.size v ns) :
    Calls Try.prog 39 #[v] w fun e w' => e = .returned (.bool (rightB true ns)) ∧ Below w.heap.size w w' := by
  have HV := hide hv
  have HF := hide fit
  obtain ⟨ao, cap, rfl, hc, hm, hr⟩ := hv
  clear hr fit hc hm
  go_enter Try.func39, Try.ntmps39
  go_wp2_with (go_at_call 53; refine (s_right true ns _ _ HF.out HV.out).mono ?_; rintro e w1 ⟨rfl, hb1⟩; have HB1 := hide hb1; clear hb1)
  go_ret
  exact ⟨ret_bool rfl, HB1.out⟩
end Go.Proofs.Ytlbcnmcfljaijaa
namespace Go.Proofs.Ytlbcnmcfljaijaa
open Go.RowKit
attribute [local go_sem ↓] Go.wp_at_zero Go.wp_at_succ

theorem brs_take {α : Type} {f : α → List Nd} {l : List (Br α)} {k : Nat} {b : Br α} (hk : l[k]? = some b) : brsBy f (l.take (k + 1)) = brsBy f (l.take k) ++ [⟨4, b.l, noT, 0, b.s⟩] ++ f b.p := by
  obtain ⟨hlt, hb⟩ := List.getElem?_eq_some_iff.1 hk
  rw [List.take_succ_eq_append_getElem hlt, brs_app, hb, brs_cons]
  simp [brsBy]
theorem brs_take_len {α : Type} {f : α → List Nd} (l : List (Br α)) (k : Nat) : (brsBy f (l.take k)).length ≤ (brsBy f l).length := by
  conv => rhs; rw [← List.take_append_drop k l, brs_app, List.length_append]
  omega
end Go.Proofs.Ytlbcnmcfljaijaa
namespace Go.Proofs.Ytlbcnmcfljaijaa
open Go.RowKit
attribute [local go_sem ↓] Go.wp_at_zero Go.wp_at_succ

end Go.Proofs.Ytlbcnmcfljaijaa
namespace Go.Proofs.Ytlbcnmcfljaijaa
open Go.RowKit
attribute [local go_sem ↓] Go.wp_at_zero Go.wp_at_succ

end Go.Proofs.Ytlbcnmcfljaijaa
namespace Go.Proofs.Ytlbcnmcfljaijaa
open Go.RowKit
attribute [local go_sem ↓] Go.wp_at_zero Go.wp_at_succ

end Go.Proofs.Ytlbcnmcfljaijaa
