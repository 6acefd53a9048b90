import Derived.Test.YtmjlblbhakppfaaGreatDoorQP15
namespace Go.Proofs.YtmjlblbhakppfaaGreatDoor
open Go.RowKit

def bumpN (l : List Nd) (i k : Nat) : List Nd := l.modify i fun n => { n with many := n.many + (k : Int) }
theorem bumpN_len (l : List Nd) (i k : Nat) : (bumpN l i k).length = l.length := by simp [bumpN]
theorem bump_one (l : List Nd) (i : Nat) : bump l i = bumpN l i 1 := by unfold bump bumpN; rfl
theorem bumpN_app (a b : List Nd) (i k : Nat) (h : i < a.length) : bumpN (a ++ b) i k = bumpN a i k ++ b := by
  unfold bumpN
  apply List.ext_getElem
  · simp
  · intro j h1 h2
    rw [List.getElem_modify]
    by_cases hj : j < a.length
    · have e1 : ((a.modify i fun n => { n with many := n.many + (k : Int) }) ++ b)[j] = (a.modify i fun n => { n with many := n.many + (k : Int) })[j]'(by simpa using hj) := List.getElem_append_left (by simpa using hj)
      rw [e1, List.getElem_modify, List.getElem_append_left hj]
    · have e1 : ((a.modify i fun n => { n with many := n.many + (k : Int) }) ++ b)[j] = b[j - a.length]'(by simp at h1; omega) := by rw [List.getElem_append_right (by simp; omega)]; simp
      rw [e1, if_neg (by omega), List.getElem_append_right (by omega)]
theorem bumpN_add (a : List Nd) (i k m : Nat) : bumpN (bumpN a i k) i m = bumpN a i (k + m) := by
  unfold bumpN
  apply List.ext_getElem
  · simp
  · intro j h1 h2
    rw [List.getElem_modify, List.getElem_modify, List.getElem_modify]
    split
    · congr 1
      dsimp only
      omega
    · rfl
theorem bumpN_last (a : List Nd) (n : Nd) (k : Nat) : bumpN (a ++ [n]) a.length k = a ++ [{ n with many := n.many + (k : Int) }] := by
  unfold bumpN
  apply List.ext_getElem
  · simp
  · intro j h1 h2
    rw [List.getElem_modify]
    by_cases hj : j < a.length
    · rw [if_neg (by omega), List.getElem_append_left hj, List.getElem_append_left hj]
    · have : j = a.length := by simp at h1; omega
      subst this
      rw [if_pos rfl]
      simp
def ReadsOf (go : List Nd → Option (List Nd)) (tf : List Nd → List ByteArray × List Nd) : Prop :=
  ∀ l r, go l = some r → (tf l).2 = r ∧ ∃ pre, l = pre ++ r ∧ (∀ n ∈ pre, goodN n) ∧ ∀ ms L op, offM ms → readR ⟨0, (tf l).1 ++ ms, L, op⟩ = readR ⟨2, ms, L ++ pre, op⟩
theorem case_good {c : Nd} (h : caseB c = true) : goodN c := by
  simp only [caseB, Bool.and_eq_true, beq_iff_eq] at h
  obtain ⟨⟨⟨⟨h1, h2⟩, h3⟩, h4⟩, h5⟩ := h
  exact .inr (.inr (.inr (.inr (.inl ⟨h1, h4, h5⟩))))
theorem kids_read {go : List Nd → Option (List Nd)} {tf : List Nd → List ByteArray × List Nd} (hg : ReadsOf go tf) : ∀ (m : Nat) (ls : List ByteArray) (l r : List Nd), kidsBy go (m + 1) ls l = some r →
    (casesT tf (m + 1) l).2 = r ∧ (casesT tf (m + 1) l).1 ≠ [] ∧ ∃ pre, l = pre ++ r ∧ (∀ n ∈ pre, goodN n) ∧ ∀ ms L i op, i < L.length → readR ⟨1, joinT (casesT tf (m + 1) l).1 ++ ba [125] :: ms, L, i :: op⟩ = readR ⟨2, ms, bumpN L i (m + 1) ++ pre, op⟩ := by
  intro m
  induction m with
  | zero =>
    intro ls l r h
    cases l with
    | nil => cases h
    | cons c l =>
      rw [kidsBy] at h
      split at h
      · rename_i hc
        simp only [Bool.and_eq_true] at hc
        split at h
        · cases h
        · rename_i r' hr'
          rw [kidsBy] at h
          injection h with h
          subst h
          obtain ⟨e1, pre, e2, e3, e4⟩ := hg _ _ hr'
          refine ⟨by rw [casesT, casesT]; exact e1, by rw [casesT]; simp, c :: pre, by rw [e2]; rfl, fun n hn => ?_, fun ms L i op hi => ?_⟩
          · rcases List.mem_cons.1 hn with rfl | hn
            · exact case_good hc.1
            · exact e3 n hn
          · rw [casesT, casesT]
            show readR ⟨1, (tokC c ++ (tf l).1) ++ ba [125] :: ms, L, i :: op⟩ = _
            rw [List.append_assoc, read_step (st_case hc.1 _ _ _ _), e4 _ _ _ (.inr (.inr ⟨_, rfl⟩)), read_step (st_close _ _ _ _), bump_one]
            congr 2
            simp
      · cases h
  | succ m ih =>
    intro ls l r h
    cases l with
    | nil => cases h
    | cons c l =>
      rw [kidsBy] at h
      split at h
      · rename_i hc
        simp only [Bool.and_eq_true] at hc
        split at h
        · cases h
        · rename_i r' hr'
          obtain ⟨e1, pre, e2, e3, e4⟩ := hg _ _ hr'
          obtain ⟨k1, k2, pre2, k3, k4, k5⟩ := ih _ _ _ h
          rw [casesT, e1]
          refine ⟨k1, by simp, c :: pre ++ pre2, by rw [e2, k3]; simp, fun n hn => ?_, fun ms L i op hi => ?_⟩
          · rcases List.mem_append.1 hn with hn | hn
            · rcases List.mem_cons.1 hn with rfl | hn
              · exact case_good hc.1
              · exact e3 n hn
            · exact k4 n hn
          · dsimp only
            cases hcs : (casesT tf (m + 1) r').1 with
            | nil => exact absurd hcs k2
            | cons u us =>
              rw [joinT, ← hcs]
              show readR ⟨1, ((tokC c ++ (tf l).1) ++ ba [44] :: joinT (casesT tf (m + 1) r').1) ++ ba [125] :: ms, L, i :: op⟩ = _
              rw [List.append_assoc, List.append_assoc, read_step (st_case hc.1 _ _ _ _), List.cons_append, e4 _ _ _ (.inr (.inl ⟨_, rfl⟩)), read_step (st_comma _ _ _ _), k5 _ _ _ _ (by rw [List.length_append, List.length_append, bump_len]; omega), bump_one]
              congr 2
              rw [List.append_assoc (bumpN L i 1), bumpN_app _ _ _ _ (by rw [bumpN_len]; exact hi), bumpN_add, Nat.add_comm 1]
              simp
      · cases h
def StWord (st : List Nd) : Prop := ∀ n ∈ st, n.op = 2 → wordB n.name = true
theorem back_word : ∀ (st : List Nd) (said : Bool) (t : ByteArray), StWord st → backB said st t = true → wordB t = true
  | [], _, _, _, h => by cases h
  | n :: st, said, t, hw, h => by
    rw [backB] at h
    have hw' : StWord st := fun x hx => hw x (List.mem_cons_of_mem _ hx)
    split at h
    · rename_i h2
      split at h
      · rename_i he
        rw [beq_iff_eq] at he h2
        have := hw n (by simp) h2
        rwa [tl_inj he] at this
      · exact back_word st said t hw' h
    · exact back_word st true t hw' h
theorem noT_of {x : ByteArray} (h : x.toList = []) : x = noT := tl_inj (by rw [h, Go.ByteArray.toList_eq]; rfl)
theorem end_is {n : Nd} (h : endB n = true) : n = ⟨0, noT, noT, 0, 0⟩ := by
  simp only [endB, Bool.and_eq_true, beq_iff_eq] at h
  obtain ⟨⟨⟨⟨h1, h2⟩, h3⟩, h4⟩, h5⟩ := h
  obtain ⟨o, x, y, m, s⟩ := n
  simp only at h1 h2 h3 h4 h5
  rw [h1, noT_of h2, noT_of h3, h4, h5]
theorem var_is {n : Nd} (h : varB n = true) : n = ⟨1, n.name, noT, 0, 0⟩ := by
  simp only [varB, Bool.and_eq_true, beq_iff_eq] at h
  obtain ⟨⟨⟨h1, h3⟩, h4⟩, h5⟩ := h
  obtain ⟨o, x, y, m, s⟩ := n
  simp only at h1 h3 h4 h5
  rw [h1, noT_of h3, h4, h5]
theorem rec_is {n : Nd} (h : recB n = true) : n = ⟨2, n.name, noT, 0, 0⟩ ∧ wordB n.name = true := by
  simp only [recB, Bool.and_eq_true, beq_iff_eq] at h
  obtain ⟨⟨⟨⟨h1, h3⟩, h4⟩, h5⟩, h6⟩ := h
  obtain ⟨o, x, y, m, s⟩ := n
  simp only at h1 h3 h4 h5 h6
  rw [h1, noT_of h3, h4, h5]
  exact ⟨rfl, h6⟩
theorem talk_is {part : Bool} {n : Nd} (h : talkS part n = true) : n.sort = 0 ∧ (∃ m : Nat, n.many = ((m + 1 : Nat) : Int)) ∧ wordB n.peer = true ∧ ((n.op = 3 ∧ wordB n.name = true) ∨ (n.op = 5 ∧ n.name = noT ∧ wordB n.peer = true) ∨ (n.op = 6 ∧ n.name = noT ∧ wordB n.peer = true)) := by
  simp only [talkS, Bool.and_eq_true, beq_iff_eq] at h
  obtain ⟨⟨⟨h1, h2⟩, h3⟩, h4⟩ := h
  refine ⟨h3, ?_, h1, ?_⟩
  · simp only [manyB, Bool.and_eq_true, decide_eq_true_eq] at h2
    exact ⟨n.many.toNat - 1, by omega⟩
  · cases part
    · simp only [Bool.false_eq_true, if_false, Bool.and_eq_true, beq_iff_eq] at h4
      exact .inl h4.1
    · simp only [if_true, Bool.and_eq_true, beq_iff_eq, Bool.or_eq_true] at h4
      rcases h4.2 with e | e
      · exact .inr (.inl ⟨e, noT_of h4.1, h1⟩)
      · exact .inr (.inr ⟨e, noT_of h4.1, h1⟩)
theorem ahead_reads (part : Bool) : ∀ (f : Nat) (st : List Nd), StWord st → ReadsOf (ahead (talkS part) f st) (tokF f) := by
  intro f
  induction f with
  | zero =>
    intro st hw l r h
    cases l with
    | nil => cases h
    | cons n l =>
      rw [ahead] at h
      split at h
      · rename_i h0
        split at h
        · rename_i he
          injection h with h
          subst h
          rw [beq_iff_eq] at h0
          have e := end_is he
          refine ⟨by rw [tokF, if_neg (by rw [beq_iff_eq]; omega)], [n], rfl, fun x hx => by simp at hx; subst hx; exact .inl h0, fun ms L op _ => ?_⟩
          rw [tokF, if_neg (by rw [beq_iff_eq]; omega)]
          show readR ⟨0, ba [101, 110, 100] :: ms, L, op⟩ = _
          rw [read_step (st_end _ _ _), ← e]
        · cases h
      · split at h
        · rename_i h1
          split at h
          · rename_i hv
            injection h with h
            subst h
            simp only [Bool.and_eq_true] at hv
            have hwd := back_word st false n.name hw hv.2
            have e := var_is hv.1
            rw [beq_iff_eq] at h1
            refine ⟨by rw [tokF, if_pos (by rw [beq_iff_eq]; exact h1)], [n], rfl, fun x hx => by simp at hx; subst hx; exact .inr (.inl ⟨h1, hwd⟩), fun ms L op ho => ?_⟩
            rw [tokF, if_pos (by rw [beq_iff_eq]; exact h1)]
            show readR ⟨0, n.name :: ms, L, op⟩ = _
            rw [read_step (st_var hwd ho _ _), ← e]
          · cases h
        · cases h
  | succ f ih =>
    intro st hw l r h
    cases l with
    | nil => cases h
    | cons n l =>
      rw [ahead] at h
      split at h
      · rename_i h0
        split at h
        · rename_i he
          injection h with h
          subst h
          have e := end_is he
          refine ⟨by rw [tokF, if_pos h0], [n], rfl, fun x hx => by simp at hx; subst hx; rw [beq_iff_eq] at h0; exact .inl h0, fun ms L op _ => ?_⟩
          rw [tokF, if_pos h0]
          show readR ⟨0, ba [101, 110, 100] :: ms, L, op⟩ = _
          rw [read_step (st_end _ _ _), ← e]
        · cases h
      · rename_i h0
        split at h
        · rename_i h1
          split at h
          · rename_i hv
            injection h with h
            subst h
            simp only [Bool.and_eq_true] at hv
            have hwd := back_word st false n.name hw hv.2
            have e := var_is hv.1
            refine ⟨by rw [tokF, if_neg h0, if_pos h1], [n], rfl, fun x hx => by simp at hx; subst hx; rw [beq_iff_eq] at h1; exact .inr (.inl ⟨h1, hwd⟩), fun ms L op ho => ?_⟩
            rw [tokF, if_neg h0, if_pos h1]
            show readR ⟨0, n.name :: ms, L, op⟩ = _
            rw [read_step (st_var hwd ho _ _), ← e]
          · cases h
        · rename_i h1
          split at h
          · rename_i h2
            split at h
            · rename_i hv
              simp only [Bool.and_eq_true] at hv
              obtain ⟨e, hwd⟩ := rec_is hv.1
              obtain ⟨e1, pre, e2, e3, e4⟩ := ih (n :: st) (fun x hx ho => by rcases List.mem_cons.1 hx with rfl | hx; exact hwd; exact hw x hx ho) _ _ h
              rw [tokF, if_neg h0, if_neg h1, if_pos h2]
              rw [beq_iff_eq] at h2
              refine ⟨e1, n :: pre, by rw [e2]; rfl, fun x hx => ?_, fun ms L op ho => ?_⟩
              · rcases List.mem_cons.1 hx with rfl | hx
                · exact .inr (.inr (.inl ⟨h2, hwd⟩))
                · exact e3 x hx
              · dsimp only
                have et : tokS n = [ba [114, 101, 99], ba [32], n.name, ba [46]] := by unfold tokS; rw [if_neg (by omega), if_neg (by omega), if_pos h2]
                rw [et]
                show readR ⟨0, ba [114, 101, 99] :: ba [32] :: n.name :: ba [46] :: ((tokF f l).1 ++ ms), L, op⟩ = _
                rw [read_step (st_rec _ _ _), e4 _ _ _ ho, ← e]
                simp
            · cases h
          · rename_i h2
            split at h
            · rename_i hT
              obtain ⟨t1, ⟨m, t2⟩, t3, t4⟩ := talk_is hT
              have hm : n.many.toNat = m + 1 := by omega
              rw [hm] at h
              rw [beq_iff_eq] at h2
              obtain ⟨e1, e2, pre, e3, e4, e5⟩ := kids_read (ih (n :: st) (fun x hx ho => by rcases List.mem_cons.1 hx with rfl | hx; exact absurd ho h2; exact hw x hx ho)) m [] l r h
              rw [tokF, if_neg h0, if_neg h1, if_neg (by rw [beq_iff_eq]; exact h2), hm]
              refine ⟨e1, n :: pre, by rw [e3]; rfl, fun x hx => ?_, fun ms L op ho => ?_⟩
              · rcases List.mem_cons.1 hx with rfl | hx
                · rcases t4 with ⟨a, b⟩ | ⟨a, b, c⟩ | ⟨a, b, c⟩
                  · exact .inr (.inr (.inr (.inl ⟨a, b, t3⟩)))
                  · exact .inr (.inr (.inr (.inr (.inr ⟨.inl a, c⟩))))
                  · exact .inr (.inr (.inr (.inr (.inr ⟨.inr a, c⟩))))
                · exact e4 x hx
              · dsimp only
                show readR ⟨0, ((tokS n ++ joinT (casesT (tokF f) (m + 1) l).1) ++ [ba [125]]) ++ ms, L, op⟩ = _
                rw [List.append_assoc, List.append_assoc, read_step (st_talk t4 _ _ _)]
                show readR ⟨1, joinT (casesT (tokF f) (m + 1) l).1 ++ ba [125] :: ms, _, _⟩ = _
                rw [e5 _ _ _ _ (by simp), bumpN_last]
                congr 2
                rw [List.append_assoc]
                congr 1
                obtain ⟨o, x, y, mm, s⟩ := n
                simp only at t1 t2
                subst t1 t2
                simp
            · cases h
theorem read_right {part : Bool} {ns : List Nd} (h : rightB part ns = true) : readR ⟨0, (tokF 10 ns).1, [], []⟩ = some ns ∧ (tokF 10 ns).2 = [] ∧ ∀ n ∈ ns, goodN n := by
  simp only [rightB, Bool.and_eq_true, beq_iff_eq] at h
  have h1 := h.2.1
  cases ha : ahead (talkS part) 10 [] ns with
  | none => rw [ha] at h1; cases h1
  | some r =>
    rw [ha] at h1
    have hr : r = [] := by simpa using h1
    subst hr
    obtain ⟨e1, pre, e2, e3, e4⟩ := ahead_reads part 10 [] (fun n hn => by cases hn) _ _ ha
    rw [List.append_nil] at e2
    subst e2
    refine ⟨?_, e1, e3⟩
    have := e4 [] [] [] (.inl rfl)
    rw [List.append_nil, List.nil_append] at this
    rw [this]
    exact read_halt rfl
theorem read_only {part : Bool} {ns : List Nd} (h : rightB part ns = true) {ms : List ByteArray} (hr : readR ⟨0, ms, [], []⟩ = some ns) : ms = (tokF 10 ns).1 := by
  obtain ⟨h1, -, h3⟩ := read_right h
  exact lock_step _ ⟨0, ms, [], []⟩ ⟨0, (tokF 10 ns).1, [], []⟩ ns (Nat.lt_succ_self _) rfl rfl rfl ⟨fun i hi => (by cases hi), List.Pairwise.nil, fun h => (by cases h)⟩ hr h1 h3
end Go.Proofs.YtmjlblbhakppfaaGreatDoor
namespace Go.Proofs.YtmjlblbhakppfaaGreatDoor
open Go.RowKit
set_option linter.unusedVariables false

set_option maxRecDepth 100000 in
set_option maxHeartbeats 1000000 in
theorem stext0 (part : Bool) (f : Nat) (st all r : List Nd) (pos : Nat) (v : Value) (w : World) (hst : StW st) (hpl : pos < all.length) (h40 : all.length ≤ 40)
    (many sort : Int) (name peer : ByteArray) (hn : all[pos] = ⟨0, name, peer, many, sort⟩) (ha : ahead (talkS part) f st (all.drop pos) = some r) (hx : ArrAt w v all) :
    Calls Tryz.prog 79 #[v, .int .i64 pos] w fun e w' => e = .returned (.tuple #[.string (textF f (all.drop pos)).1, .int .i64 ((all.length - r.length : Nat) : Int)]) ∧ Below w.heap.size w w' := by
  obtain ⟨b, o, cap, rfl, hc, hm, hrow, hbw⟩ := hx
  have hnode := hrow.get pos hpl
  have hdrop : all.drop pos = ⟨0, name, peer, many, sort⟩ :: all.drop (pos + 1) := by rw [← hn]; exact drop_cons hpl
  rw [hn] at hnode
  obtain ⟨c0, c1, c2, c3, c4⟩ := hnode
  dsimp only at c0 c1 c2 c3 c4
  rw [hdrop] at ha ⊢
  rw [ahead_0 rfl] at ha
  obtain ⟨hre, hz1, hpz⟩ : r = all.drop (pos + 1) ∧ name.size ≤ 20 ∧ peer.size = 0 := by
    split at ha
    · rename_i h
      cases ha
      refine ⟨rfl, ?_, ?_⟩
      · have : name.size = 0 := by
          have h0 : name.data.toList = [] := by rw [← Go.ByteArray.toList_eq]; simp only [endB, Bool.and_eq_true, beq_iff_eq] at h; simp [h]
          have h3 : name.size = name.data.toList.length := rfl
          rw [h3, h0]; rfl
        omega
      · exact by
          have h0 : peer.data.toList = [] := by rw [← Go.ByteArray.toList_eq]; simp only [endB, Bool.and_eq_true, beq_iff_eq] at h; simp [h]
          have h3 : peer.size = peer.data.toList.length := rfl
          rw [h3, h0]; rfl
    · cases ha
  have HRE : Hid ((textF f (⟨0, name, peer, many, sort⟩ :: all.drop (pos + 1))).1 = ba [101, 110, 100] ∧ r = all.drop (pos + 1)) := hide ⟨by cases f <;> rfl, hre⟩
  have hz2 : peer.size ≤ 20 := by rw [hpz]; simp
  clear hrow hn hdrop ha hre
  go_enter Tryz.func79, Tryz.ntmps79
  go_wp2_with fail
  go_ret2
  refine ⟨?_, alloc1 _ _⟩
  rw [HRE.out.1, HRE.out.2, List.length_drop, show ((all.length - (all.length - (pos + 1)) : Nat) : Int) = (pos : Int) + 1 from by omega]
  rfl

set_option maxRecDepth 100000 in
set_option maxHeartbeats 1000000 in
theorem stext1 (part : Bool) (f : Nat) (st all r : List Nd) (pos : Nat) (v : Value) (w : World) (hst : StW st) (hpl : pos < all.length) (h40 : all.length ≤ 40)
    (many sort : Int) (name peer : ByteArray) (hn : all[pos] = ⟨1, name, peer, many, sort⟩) (ha : ahead (talkS part) f st (all.drop pos) = some r) (hx : ArrAt w v all) :
    Calls Tryz.prog 79 #[v, .int .i64 pos] w fun e w' => e = .returned (.tuple #[.string (textF f (all.drop pos)).1, .int .i64 ((all.length - r.length : Nat) : Int)]) ∧ Below w.heap.size w w' := by
  obtain ⟨b, o, cap, rfl, hc, hm, hrow, hbw⟩ := hx
  have hnode := hrow.get pos hpl
  have hdrop : all.drop pos = ⟨1, name, peer, many, sort⟩ :: all.drop (pos + 1) := by rw [← hn]; exact drop_cons hpl
  rw [hn] at hnode
  obtain ⟨c0, c1, c2, c3, c4⟩ := hnode
  dsimp only at c0 c1 c2 c3 c4
  rw [hdrop] at ha ⊢
  rw [ahead_1 rfl] at ha
  obtain ⟨hre, hz1, hpz⟩ : r = all.drop (pos + 1) ∧ name.size ≤ 20 ∧ peer.size = 0 := by
    split at ha
    · rename_i h'
      cases ha
      obtain ⟨h, hbk⟩ : varB ⟨1, name, peer, many, sort⟩ = true ∧ backB false st name = true := by simpa using h'
      refine ⟨rfl, back20 st false name hst hbk, ?_⟩
      exact by
          have h0 : peer.data.toList = [] := by rw [← Go.ByteArray.toList_eq]; simp only [varB, Bool.and_eq_true, beq_iff_eq] at h; simp [h]
          have h3 : peer.size = peer.data.toList.length := rfl
          rw [h3, h0]; rfl
    · cases ha
  have HRE : Hid ((textF f (⟨1, name, peer, many, sort⟩ :: all.drop (pos + 1))).1 = name ∧ r = all.drop (pos + 1)) := hide ⟨by cases f <;> rfl, hre⟩
  have hz2 : peer.size ≤ 20 := by rw [hpz]; simp
  clear hrow hn hdrop ha hre
  go_enter Tryz.func79, Tryz.ntmps79
  go_wp2_with fail
  go_ret2
  refine ⟨?_, alloc1 _ _⟩
  rw [HRE.out.1, HRE.out.2, List.length_drop, show ((all.length - (all.length - (pos + 1)) : Nat) : Int) = (pos : Int) + 1 from by omega]
  rfl

set_option maxRecDepth 100000 in
set_option maxHeartbeats 1000000 in
theorem stext2 (part : Bool) (f : Nat) (ih : STextCalls part f) (st all r : List Nd) (pos : Nat) (v : Value) (w : World) (hlen : st.length + (f + 1) = 10) (hst : StW st) (hpl : pos < all.length) (h40 : all.length ≤ 40)
    (many sort : Int) (name peer : ByteArray) (hn : all[pos] = ⟨2, name, peer, many, sort⟩) (ha : ahead (talkS part) (f + 1) st (all.drop pos) = some r) (hx : ArrAt w v all) :
    Calls Tryz.prog 79 #[v, .int .i64 pos] w fun e w' => e = .returned (.tuple #[.string (textF (f + 1) (all.drop pos)).1, .int .i64 ((all.length - r.length : Nat) : Int)]) ∧ Below w.heap.size w w' := by
  have HX := hide hx
  have HI := hide ih
  have HL := hide hlen
  obtain ⟨b, o, cap, rfl, hc, hm, hrow, hbw⟩ := hx
  have hnode := hrow.get pos hpl
  have hdrop : all.drop pos = ⟨2, name, peer, many, sort⟩ :: all.drop (pos + 1) := by rw [← hn]; exact drop_cons hpl
  rw [hn] at hnode
  obtain ⟨c0, c1, c2, c3, c4⟩ := hnode
  dsimp only at c0 c1 c2 c3 c4
  rw [hdrop] at ha ⊢
  rw [ahead_2 rfl] at ha
  obtain ⟨hrb, hgo⟩ : recB ⟨2, name, peer, many, sort⟩ = true ∧ ahead (talkS part) f (⟨2, name, peer, many, sort⟩ :: st) (all.drop (pos + 1)) = some r := by
    split at ha
    · rename_i h; simp only [Bool.and_eq_true] at h; exact ⟨h.1, ha⟩
    · cases ha
  have hz1 : name.size ≤ 20 := by simp only [recB, Bool.and_eq_true] at hrb; exact word20 hrb.2
  have hz2 : peer.size ≤ 20 := by
    have h0 : peer.data.toList = [] := by rw [← Go.ByteArray.toList_eq]; simp only [recB, Bool.and_eq_true, beq_iff_eq] at hrb; simp [hrb]
    have h3 : peer.size = peer.data.toList.length := rfl
    rw [h3, h0]; simp
  have hstw : StW (⟨2, name, peer, many, sort⟩ :: st) := fun x hx h2 => by
    rcases List.mem_cons.1 hx with e | e
    · rw [e]; exact hz1
    · exact hst x e h2
  obtain ⟨e1, s1⟩ := ahead_text part f _ _ r hstw hgo
  obtain ⟨t1, ht1⟩ : ∃ t1, (textF f (all.drop (pos + 1))).1 = t1 := ⟨_, rfl⟩
  rw [ht1] at s1
  have htz : t1.size ≤ 1720 := by rw [List.length_drop] at s1; omega
  have HT1 := hide ht1
  have HRE : Hid ((textF (f + 1) (⟨2, name, peer, many, sort⟩ :: all.drop (pos + 1))).1 = ba [114, 101, 99] ++ ba [32] ++ name ++ ba [46] ++ t1) := hide (by rw [← HT1.out]; rfl)
  have HST := hide hstw
  have HGO := hide hgo
  clear hrow hn hdrop ha hrb hgo hst hlen e1 s1 ht1 hstw ih
  go_enter Tryz.func79, Tryz.ntmps79
  go_wp2_with (go_at_call 79; refine (HI.out (⟨2, name, peer, many, sort⟩ :: st) all r (pos + 1) _ _ _ (by have := HL.out; simp; omega) HST.out (by omega) (by omega) h40 HGO.out (HX.out.carry (alloc1 _ _))).mono ?_; rintro e w1 ⟨rfl, hb1⟩; rw [HT1.out]; obtain ⟨d0, d1, d2, d3, d4⟩ := NodeAt.carry (B := _) (boxed0 w ⟨2, name, peer, many, sort⟩ 45) (by simp) hb1; dsimp only at d0 d1 d2 d3 d4; have hs1 : w.heap.size < w1.heap.size := (by have := hb1.size; simp at this; omega); have HB1 : Hid (Below w.heap.size w w1) := hide ((alloc1 _ _).trans (hb1.mono (by simp))); clear hb1)
  go_ret2
  refine ⟨?_, HB1.out⟩
  rw [HRE.out]
  first
    | rfl
    | (congr 4; done)
    | (congr 4; apply ba_ext; simp [ba])
end Go.Proofs.YtmjlblbhakppfaaGreatDoor
namespace Go.Proofs.YtmjlblbhakppfaaGreatDoor
open Go.RowKit

set_option maxRecDepth 100000 in
set_option maxHeartbeats 4000000 in
theorem stext3 (part : Bool) (f : Nat) (ih : STextCalls part f) (st all r : List Nd) (pos : Nat) (v : Value) (w : World) (hlen : st.length + (f + 1) = 10) (hst : StW st) (hpl : pos < all.length) (h40 : all.length ≤ 40)
    (many sort : Int) (name peer : ByteArray) (hn : all[pos] = ⟨3, name, peer, many, sort⟩) (ha : ahead (talkS part) (f + 1) st (all.drop pos) = some r) (hx : ArrAt w v all) :
    Calls Tryz.prog 79 #[v, .int .i64 pos] w fun e w' => e = .returned (.tuple #[.string (textF (f + 1) (all.drop pos)).1, .int .i64 ((all.length - r.length : Nat) : Int)]) ∧ Below w.heap.size w w' := by
  have HX := hide hx
  have HI := hide ih
  have HL := hide hlen
  obtain ⟨b, o, cap, rfl, hc, hm, hrow, hbw⟩ := hx
  have hnode := hrow.get pos hpl
  have HROW := hide hrow
  have hdrop : all.drop pos = ⟨3, name, peer, many, sort⟩ :: all.drop (pos + 1) := by rw [← hn]; exact drop_cons hpl
  rw [hn] at hnode
  obtain ⟨c0, c1, c2, c3, c4⟩ := hnode
  dsimp only at c0 c1 c2 c3 c4
  rw [hdrop] at ha ⊢
  rw [ahead_t (by simp) (by simp) (by simp)] at ha
  obtain ⟨hts, hk⟩ : talkS part ⟨3, name, peer, many, sort⟩ = true ∧ kidsBy (ahead (talkS part) f (⟨3, name, peer, many, sort⟩ :: st)) many.toNat [] (all.drop (pos + 1)) = some r := by
    split at ha
    · rename_i h; exact ⟨h, ha⟩
    · cases ha
  have hstw : StW (⟨3, name, peer, many, sort⟩ :: st) := fun x hx h2 => by
    rcases List.mem_cons.1 hx with e | e
    · rw [e] at h2; simp at h2
    · exact hst x e h2
  have hsz := talk_sz hts
  have hm14 : 1 ≤ many.toNat ∧ many.toNat ≤ 4 ∧ many = (many.toNat : Int) := by simp only [talkS, manyB, Bool.and_eq_true, decide_eq_true_eq] at hts; omega
  have hz2 : peer.size ≤ 20 := by simp only [talkS, Bool.and_eq_true] at hts; exact word20 hts.1.1.1
  have hz1 : name.size ≤ 20 := by
    simp only [talkS, Bool.and_eq_true] at hts
    cases part
    · simp at hts <;> first | exact word20 hts.2.1 | exact word20 hts.2.1.2
    · simp at hts <;> (
        have h0 : name.data.toList = [] := by rw [← Go.ByteArray.toList_eq]; simp [hts]
        have h3 : name.size = name.data.toList.length := rfl
        rw [h3, h0]; simp)
  obtain ⟨e1, s1, n1⟩ := kids_text (fun l r => ahead_text part f _ l r hstw) _ _ _ _ hk
  obtain ⟨m, hmm⟩ : ∃ m, many.toNat = m := ⟨_, rfl⟩
  rw [hmm] at hm14 s1 hk
  obtain ⟨hm1, hm4, hmI⟩ := hm14
  subst hmI
  obtain ⟨pre, hpre⟩ : ∃ pre, talkT ⟨3, name, peer, m, sort⟩ ++ ba [123] = pre := ⟨_, rfl⟩
  have hprez : pre.size ≤ 42 := by rw [← hpre, sz_app, sz_ba]; simp only [List.length_cons, List.length_nil]; have : (talkT ⟨3, name, peer, m, sort⟩).size ≤ 41 := hsz; omega
  have HPRE := hide hpre
  have HST := hide hstw
  have HK := hide hk
  have HS1 : Hid (sumSz (casesF (textF f) m (all.drop (pos + 1))).1 ≤ 1720) := hide (by have h := s1; rw [List.length_drop] at h; omega)
  have HRE : Hid ((textF (f + 1) (⟨3, name, peer, m, sort⟩ :: all.drop (pos + 1))).1 = pre ++ joinC (casesF (textF f) m (all.drop (pos + 1))).1 ++ ba [125]) := hide (by rw [← HPRE.out]; rfl)
  obtain ⟨tot, htot⟩ : ∃ tot, (casesF (textF f) m (all.drop (pos + 1))).1 = tot := ⟨_, rfl⟩
  have HTOT := hide htot
  clear hrow hn hdrop ha hts hstw hsz hst hlen e1 s1 n1 hmm hpre hk htot ih
  go_enter Tryz.func79, Tryz.ntmps79
  go_wp2_with fail
  go_loopw [1, 7, 10] (fun av tv kv wr => ∃ (k p : Nat) (acc ls : List ByteArray), k ≤ m ∧ kv = .int .i64 k ∧ av = .int .i64 p ∧ p ≤ all.length ∧ tv = .string (pre ++ joinC acc) ∧ acc.length = k ∧ kidsBy (ahead (talkS part) f (⟨3, name, peer, m, sort⟩ :: st)) (m - k) ls (all.drop p) = some r ∧ acc ++ (casesF (textF f) (m - k) (all.drop p)).1 = tot ∧ Below (w.heap.size + 1) (w.alloc (.cells #[.int .i64 3, .string name, .string peer, .int .i64 (m : Int), .int .i64 sort] 45)) wr)
    (fun _ _ kv _ => m - (intOf kv).toNat)
  case atStart =>
    refine ⟨0, pos + 1, [], [], Nat.zero_le _, rfl, by go_num, by omega, ?_, rfl, HK.out, HTOT.out, Below.refl _ _⟩
    congr 1
    rw [← HPRE.out]
    apply ba_ext
    simp [talkT, joinC, ba]
  case round =>
    obtain ⟨k, p, acc, ls, hk, rfl, rfl, hp, rfl, hacc, hkid, htx, hbel⟩ := hrel
    have HACC := hide hacc
    have HKID := hide hkid
    have HT := hide htx
    have HBEL := hide hbel
    have hszr : w.heap.size + 1 ≤ wr.heap.size := by have := hbel.size; simpa using this
    have HW : Hid (Below w.heap.size w wr) := hide ((alloc1 _ _).trans (hbel.mono (by omega)))
    have hbox : wr.cell? ⟨w.heap.size, 3, none⟩ = some (.int .i64 (m : Int)) := (hbel.cell (p := ⟨w.heap.size, 3, none⟩) (by simp)).trans (by simp)
    have hjs : (joinC acc).size ≤ 1720 := by
      have h1 := joinC_sz acc
      have h2 := HS1.out
      rw [HTOT.out, ← htx] at h2
      have h3 : sumSz (acc ++ (casesF (textF f) (m - k) (all.drop p)).1) = sumSz acc + sumSz (casesF (textF f) (m - k) (all.drop p)).1 := by simp [sumSz]
      omega
    obtain ⟨tc, htc⟩ : ∃ tc, pre ++ joinC acc = tc := ⟨_, rfl⟩
    have htcz : tc.size ≤ 1762 := by rw [← htc, sz_app]; omega
    rw [htc]
    have HTC := hide htc
    clear hacc hkid htx hbel htc hjs
    by_cases hlt : k < m
    · obtain ⟨c, l1, r1, hcl, hcb, hg1, hk1⟩ := kids_inv hlt HKID.out
      have hpl2 : p < all.length := by
        rcases Nat.lt_or_ge p all.length with h | h
        · exact h
        · rw [List.drop_of_length_le h] at hcl; cases hcl
      rw [drop_cons hpl2] at hcl
      injection hcl with hc0 hl0
      have hnode := (HROW.out.get p hpl2).carry hbw HW.out
      rw [hc0] at hnode
      have HND := hide hnode
      have HCB := hide hcb
      have HG1 := hide hg1
      have HK1 := hide hk1
      have hbw2 : b < wr.heap.size := Nat.lt_of_lt_of_le hbw HW.out.size
      have hcz : c.name.size ≤ 20 := by simp only [caseB, Bool.and_eq_true] at hcb; exact word20 hcb.1.2
      have hso : 0 ≤ c.sort ∧ c.sort ≤ 2 := by simp only [caseB, sortB, Bool.and_eq_true, decide_eq_true_eq] at hcb; exact hcb.2
      obtain ⟨e1, s1⟩ := ahead_text part f _ l1 r1 HST.out hg1
      have HTS := hide (cases_step (tf := textF f) (c := c) (l1 := l1) hlt)
      have HDR := hide (show all.drop p = c :: l1 by rw [drop_cons hpl2, hc0, hl0])
      subst hl0
      obtain ⟨t1, ht1⟩ : ∃ t1, (textF f (all.drop (p + 1))).1 = t1 := ⟨_, rfl⟩
      rw [ht1] at s1
      have htz : t1.size ≤ 1720 := by rw [List.length_drop] at s1; omega
      have HT1 := hide ht1
      have HE1 := hide e1
      obtain ⟨sv, hsv⟩ : ∃ sv, sortT c.sort = sv := ⟨_, rfl⟩
      have hsvz : sv.size ≤ 4 := by rw [← hsv]; exact sort_sz _
      have HSV := hide hsv
      have HCT : Hid (caseT c t1 = c.name ++ ba [40] ++ sv ++ ba [41, 46] ++ t1) := hide (by rw [← hsv]; rfl)
      have HPOS := hide (pos_of (ahead_suffix (talkS part) f _ (all.drop (p + 1)) r1 hg1))
      obtain ⟨p2, hp2⟩ : ∃ p2, all.length - r1.length = p2 := ⟨_, rfl⟩
      have HP2 := hide hp2
      have HSO := hide hso
      clear hcb hg1 hk1 hc0 hnode e1 s1 ht1 hsv hp2 hso
      rcases Nat.eq_zero_or_pos k with hk0 | hk0
      · subst hk0
        have HA0 : Hid (acc = []) := hide (List.length_eq_zero_iff.1 HACC.out)
        go_wp2_with (go_at_call 79; refine (HI.out (⟨3, name, peer, m, sort⟩ :: st) all r1 (p + 1) _ _ _ (by have := HL.out; simp; omega) HST.out (by omega) (by omega) h40 HG1.out (HX.out.carry HW.out)).mono ?_; rintro e w1 ⟨rfl, hb1⟩; rw [HT1.out, HP2.out]; have HN1 := hide (HND.out.carry hbw2 hb1); obtain ⟨d0, d1, d2, d3, d4⟩ := HND.out.carry hbw2 hb1; have HB1 := hide hb1; have hz1 := hb1.size; have hbw1 : b < w1.heap.size := Nat.lt_of_lt_of_le hbw2 hz1; clear hb1 d0 d2 d3)
        have q1 : ¬ 9223372036854775807 < tc.size + c.name.size := by omega
        have q2a : ¬ 9223372036854775807 ≤ tc.size + c.name.size := by omega
        have q2b : ¬ 9223372036854775807 < tc.size + c.name.size + 1 := by omega
        have q2c : ¬ 9223372036854775806 < tc.size + c.name.size := by omega
        have q3 : ¬ 9223372036854775807 < tc.size + c.name.size + 1 + sv.size := by omega
        have q4 : ¬ 9223372036854775807 < tc.size + c.name.size + 1 + sv.size + 2 := by omega
        have q4b : ¬ 9223372036854775805 < tc.size + c.name.size + 1 + sv.size := by omega
        have q5 : ¬ 9223372036854775807 < tc.size + c.name.size + 1 + sv.size + 2 + t1.size := by omega
        go_region_with (go_at_call 109; refine (s_sortText c.sort _ HSO.out.1 HSO.out.2).mono ?_; rintro e w2 ⟨rfl, hb2⟩; rw [HSV.out]; have HN2 : Hid (NodeAt w2 b (o + p * 5) c) := hide (NodeAt.carry (w := w1.drew) (B := w1.heap.size) HN1.out hbw1 hb2); obtain ⟨f0, f1, f2, f3, f4⟩ := HN2.out; have HB2 : Hid (Below w1.heap.size w1 w2) := hide (Below.trans (Below.refl _ _).drew hb2); clear hb2 f0 f2 f3)
        go_wp2_with fail
        all_goals
          go_roundw
          case rel =>
            have hpos := HPOS.out
            rw [HP2.out] at hpos
            refine ⟨0 + 1, p2, acc ++ [caseT c t1], ls ++ [c.name], by omega, by go_num, rfl, by have := HP2.out; omega, ?_, by have := HACC.out; rw [List.length_append]; simp only [List.length_cons, List.length_nil]; omega, by rw [← hpos]; exact HK1.out, ?_, HBEL.out.trans ((HB1.out.mono hszr).trans (HB2.out.mono (Nat.le_trans hszr hz1)))⟩
            · congr 1
              rw [HCT.out, ← HTC.out]
              rw [HA0.out]
              apply ba_ext
              simp [joinC, ba]
            · rw [← HT.out, HDR.out, HTS.out, HT1.out, HE1.out, ← hpos]; simp
          case measure => simp [intOf]; omega
      · have HA1 : Hid (acc ≠ []) := hide (fun h => by have := HACC.out; rw [h] at this; simp at this; omega)
        have hkI : (0 : Int) < (k : Int) := by omega
        go_wp2_with (go_at_call 79; refine (HI.out (⟨3, name, peer, m, sort⟩ :: st) all r1 (p + 1) _ _ _ (by have := HL.out; simp; omega) HST.out (by omega) (by omega) h40 HG1.out (HX.out.carry HW.out)).mono ?_; rintro e w1 ⟨rfl, hb1⟩; rw [HT1.out, HP2.out]; have HN1 := hide (HND.out.carry hbw2 hb1); obtain ⟨d0, d1, d2, d3, d4⟩ := HND.out.carry hbw2 hb1; have HB1 := hide hb1; have hz1 := hb1.size; have hbw1 : b < w1.heap.size := Nat.lt_of_lt_of_le hbw2 hz1; clear hb1 d0 d2 d3)
        have q1 : ¬ 9223372036854775807 < tc.size + 1 + c.name.size := by omega
        have q2a : ¬ 9223372036854775807 ≤ tc.size + 1 + c.name.size := by omega
        have q2b : ¬ 9223372036854775807 < tc.size + 1 + c.name.size + 1 := by omega
        have q2c : ¬ 9223372036854775806 < tc.size + 1 + c.name.size := by omega
        have q3 : ¬ 9223372036854775807 < tc.size + 1 + c.name.size + 1 + sv.size := by omega
        have q4 : ¬ 9223372036854775807 < tc.size + 1 + c.name.size + 1 + sv.size + 2 := by omega
        have q4b : ¬ 9223372036854775805 < tc.size + 1 + c.name.size + 1 + sv.size := by omega
        have q5 : ¬ 9223372036854775807 < tc.size + 1 + c.name.size + 1 + sv.size + 2 + t1.size := by omega
        go_region_with (go_at_call 109; refine (s_sortText c.sort _ HSO.out.1 HSO.out.2).mono ?_; rintro e w2 ⟨rfl, hb2⟩; rw [HSV.out]; have HN2 : Hid (NodeAt w2 b (o + p * 5) c) := hide (NodeAt.carry (w := w1.drew) (B := w1.heap.size) HN1.out hbw1 hb2); obtain ⟨f0, f1, f2, f3, f4⟩ := HN2.out; have HB2 : Hid (Below w1.heap.size w1 w2) := hide (Below.trans (Below.refl _ _).drew hb2); clear hb2 f0 f2 f3)
        go_wp2_with fail
        all_goals
          go_roundw
          case rel =>
            have hpos := HPOS.out
            rw [HP2.out] at hpos
            refine ⟨k + 1, p2, acc ++ [caseT c t1], ls ++ [c.name], by omega, by go_num, rfl, by have := HP2.out; omega, ?_, by have := HACC.out; rw [List.length_append]; simp only [List.length_cons, List.length_nil]; omega, by rw [← hpos]; exact HK1.out, ?_, HBEL.out.trans ((HB1.out.mono hszr).trans (HB2.out.mono (Nat.le_trans hszr hz1)))⟩
            · congr 1
              rw [HCT.out, ← HTC.out]
              rw [joinC_snoc HA1.out]
              apply ba_ext
              simp [ba]
            · rw [← HT.out, HDR.out, HTS.out, HT1.out, HE1.out, ← hpos]; simp
          case measure => simp [intOf]; omega
    · have hkm : k = m := by omega
      have HTOT2 : Hid (acc = tot) := hide (by have := HT.out; rw [hkm, Nat.sub_self] at this; simpa [casesF] using this)
      have HDR : Hid (all.drop p = r) := hide (by have := HKID.out; rw [hkm, Nat.sub_self] at this; simpa [kidsBy] using this)
      have HPL : Hid (p = all.length - r.length) := hide (by have h := congrArg List.length HDR.out; rw [List.length_drop] at h; omega)
      have hkI : ¬ (k : Int) < (m : Int) := by omega
      clear hkm
      go_wp2_with fail
      go_ret2
      refine ⟨?_, HW.out⟩
      rw [HRE.out, HTOT.out, ← HTOT2.out, HTC.out, ← HPL.out]; rfl
end Go.Proofs.YtmjlblbhakppfaaGreatDoor
