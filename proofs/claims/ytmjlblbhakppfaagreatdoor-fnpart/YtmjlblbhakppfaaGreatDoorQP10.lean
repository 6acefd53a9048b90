import Derived.Test.YtmjlblbhakppfaaGreatDoorQP09
import Derived.Maps.AppendAt
namespace Go.Proofs.YtmjlblbhakppfaaGreatDoor
open Go.RowKit

theorem tl_inj {a b : ByteArray} (h : a.toList = b.toList) : a = b := by
  rw [Go.ByteArray.toList_eq, Go.ByteArray.toList_eq] at h
  apply ByteArray.ext
  exact Array.ext' h
theorem has_iff {ls : List ByteArray} {t : ByteArray} : hasB ls t = true ↔ t ∈ ls := by
  rw [hasB, List.any_eq_true]
  constructor
  · rintro ⟨s, hs, he⟩
    rw [beq_iff_eq] at he
    rwa [← tl_inj he]
  · intro h
    exact ⟨t, h, by simp⟩
theorem less_eq : ∀ (x y : List UInt8), Op.bytesLess x y = decide (x < y)
  | [], [] => by simp [Op.bytesLess]
  | _ :: _, [] => by simp [Op.bytesLess]
  | [], _ :: _ => by simp [Op.bytesLess]
  | a :: x, b :: y => by
    rw [Op.bytesLess, less_eq x y]
    simp only [List.cons_lt_cons_iff]
    by_cases h1 : a < b <;> by_cases h2 : a = b <;> by_cases h3 : x < y <;> simp [h1, h2, h3]
theorem less_iff (s t : ByteArray) : lessB s t = true ↔ s.toList < t.toList := by
  rw [lessB, less_eq]; simp
theorem less_irr (s : ByteArray) : ¬ lessB s s = true := by
  rw [less_iff]; exact List.lt_irrefl _
theorem less_trans {s t u : ByteArray} (h : lessB s t = true) (h' : lessB t u = true) : lessB s u = true := by
  rw [less_iff] at *; exact List.lt_trans h h'
theorem less_tri {s t : ByteArray} (h : ¬ lessB s t = true) (hn : s ≠ t) : lessB t s = true := by
  rw [less_iff] at *
  have h1 : t.toList ≤ s.toList := List.not_lt.1 h
  by_cases h2 : t.toList < s.toList
  · exact h2
  · exact absurd (tl_inj (List.le_antisymm (List.not_lt.1 h2) h1)) hn

theorem put_cons (s : ByteArray) (ls : List ByteArray) (t : ByteArray) : putS (s :: ls) t = if lessB s t then s :: putS ls t else if s.toList == t.toList then s :: ls else t :: s :: ls := by
  by_cases h : lessB s t = true
  · rw [if_pos h, putS, placeK, if_pos h, putS, List.drop_succ_cons, List.take_succ_cons]
    split <;> simp
  · rw [if_neg h, putS, placeK, if_neg h]
    simp [hasB]

def SortedT (ls : List ByteArray) : Prop := ls.Pairwise fun a b => lessB a b = true
theorem put_mem {ls : List ByteArray} {t u : ByteArray} (h : u ∈ putS ls t) : u ∈ ls ∨ u = t := by
  induction ls with
  | nil => simp [putS, placeK, hasB] at h; exact .inr h
  | cons s ls ih =>
    rw [put_cons] at h
    split at h
    · rcases List.mem_cons.1 h with h | h
      · exact .inl (by simp [h])
      · rcases ih h with h | h
        · exact .inl (by simp [h])
        · exact .inr h
    · split at h
      · exact .inl h
      · rcases List.mem_cons.1 h with h | h
        · exact .inr h
        · exact .inl h
theorem put_sorted {ls : List ByteArray} (hs : SortedT ls) (t : ByteArray) : SortedT (putS ls t) := by
  induction ls with
  | nil => simp [putS, placeK, hasB, SortedT]
  | cons s ls ih =>
    obtain ⟨h1, h2⟩ := List.pairwise_cons.1 hs
    rw [put_cons]
    split
    · rename_i hl
      refine List.pairwise_cons.2 ⟨fun u hu => ?_, ih h2⟩
      rcases put_mem hu with h | h
      · exact h1 u h
      · rw [h]; exact hl
    · rename_i hl
      split
      · exact hs
      · rename_i he
        have hne : s ≠ t := fun h => he (by simp [h])
        have hts := less_tri hl hne
        refine List.pairwise_cons.2 ⟨fun u hu => ?_, hs⟩
        rcases List.mem_cons.1 hu with h | h
        · rw [h]; exact hts
        · exact less_trans hts (h1 u h)
theorem put_in {ls : List ByteArray} (hs : SortedT ls) {t : ByteArray} (ht : t ∈ ls) : putS ls t = ls := by
  induction ls with
  | nil => cases ht
  | cons s ls ih =>
    obtain ⟨h1, h2⟩ := List.pairwise_cons.1 hs
    rw [put_cons]
    rcases List.mem_cons.1 ht with h | h
    · subst h
      rw [if_neg (less_irr t), if_pos (by simp)]
    · rw [if_pos (h1 t h), ih h2 h]
theorem put_perm {ls : List ByteArray} {t : ByteArray} (ht : ¬ t ∈ ls) : (putS ls t).Perm (t :: ls) := by
  induction ls with
  | nil => simp [putS, placeK, hasB]
  | cons s ls ih =>
    rw [put_cons]
    split
    · exact ((ih (fun h => ht (List.mem_cons_of_mem _ h))).cons s).trans (List.Perm.swap _ _ _)
    · rw [if_neg (fun h => ht (by rw [beq_iff_eq] at h; rw [tl_inj h]; simp))]

def addI (acc : List ByteArray) (t : ByteArray) : List ByteArray := if hasB acc t then acc else acc ++ [t]
theorem add_put : ∀ (ts accI accS : List ByteArray), SortedT accS → accI.Perm accS → SortedT (ts.foldl putS accS) ∧ (ts.foldl addI accI).Perm (ts.foldl putS accS)
  | [], _, _, hs, hp => ⟨hs, hp⟩
  | t :: ts, accI, accS, hs, hp => by
    refine add_put ts _ _ (put_sorted hs t) ?_
    by_cases ht : t ∈ accI
    · rw [addI, if_pos (has_iff.2 ht), put_in hs (hp.mem_iff.1 ht)]; exact hp
    · rw [addI, if_neg (fun h => ht (has_iff.1 h))]
      exact (List.perm_append_singleton t accI).trans ((hp.cons t).trans (put_perm (fun h => ht (hp.mem_iff.2 h))).symm)

def talkers (n : Nd) : List ByteArray := if n.op == 3 then [n.name, n.peer] else if n.op == 5 || n.op == 6 then [n.peer] else []
def stepI (acc : List ByteArray) (n : Nd) : List ByteArray := (talkers n).foldl addI acc
def rolesI (ns : List Nd) : List ByteArray := ns.foldl stepI []
theorem rolesI_eq (ns : List Nd) : rolesI ns = (ns.flatMap talkers).foldl addI [] := by
  rw [rolesI, List.foldl_flatMap]; rfl

def nodeB (T : Nd → Bool) (n : Nd) : Bool := endB n || varB n || recB n || caseB n || (n.op != 0 && n.op != 1 && n.op != 2 && T n)
theorem kids_nodes {T : Nd → Bool} {go : List Nd → Option (List Nd)} (hg : ∀ l r, go l = some r → ∃ p, l = p ++ r ∧ ∀ n ∈ p, nodeB T n = true) :
    ∀ (m : Nat) (ls : List ByteArray) (l r : List Nd), kidsBy go m ls l = some r → ∃ p, l = p ++ r ∧ ∀ n ∈ p, nodeB T n = true
  | 0, _, l, r, h => by cases h; exact ⟨[], rfl, by simp⟩
  | _ + 1, _, [], r, h => by cases h
  | m + 1, ls, n :: l, r, h => by
    rw [kidsBy] at h
    split at h
    · rename_i hc
      split at h
      · cases h
      · rename_i r' hr'
        obtain ⟨p1, e1, h1⟩ := hg _ _ hr'
        obtain ⟨p2, e2, h2⟩ := kids_nodes hg m _ _ _ h
        have hcb : caseB n = true := by simp at hc; exact hc.1
        refine ⟨n :: (p1 ++ p2), by rw [e1, e2]; simp, ?_⟩
        intro x hx
        rcases List.mem_cons.1 hx with h | h
        · subst h; simp [nodeB, hcb]
        · rcases List.mem_append.1 h with h | h
          · exact h1 x h
          · exact h2 x h
    · cases h
theorem ahead_nodes (T : Nd → Bool) : ∀ (f : Nat) (st l r : List Nd), ahead T f st l = some r → ∃ p, l = p ++ r ∧ ∀ n ∈ p, nodeB T n = true := by
  intro f
  induction f with
  | zero =>
    intro st l r h
    cases l with
    | nil => cases h
    | cons n l =>
      rw [ahead] at h
      repeat' split at h
      all_goals first
        | (cases h; done)
        | (cases h; refine ⟨[n], rfl, ?_⟩; intro x hx; simp at hx; subst hx; simp_all [nodeB])
  | succ f ih =>
    intro st l r h
    cases l with
    | nil => cases h
    | cons n l =>
      rw [ahead] at h
      repeat' split at h
      all_goals first
        | (cases h; done)
        | (cases h; refine ⟨[n], rfl, ?_⟩; intro x hx; simp at hx; subst hx; simp_all [nodeB]; done)
        | (obtain ⟨p, e, hp⟩ := ih _ _ _ h
           refine ⟨n :: p, by rw [e]; rfl, ?_⟩
           intro x hx
           rcases List.mem_cons.1 hx with hh | hh
           · subst hh; simp_all [nodeB]
           · exact hp x hh)
        | (obtain ⟨p, e, hp⟩ := kids_nodes (ih _) _ _ _ _ h
           refine ⟨n :: p, by rw [e]; rfl, ?_⟩
           intro x hx
           rcases List.mem_cons.1 hx with hh | hh
           · subst hh; simp_all [nodeB]
           · exact hp x hh)
theorem kids_congr {go go' : List Nd → Option (List Nd)} : ∀ (m : Nat) (ls : List ByteArray) (l : List Nd), (∀ l', l' <:+ l → go l' = go' l') → (∀ l' r, go l' = some r → r <:+ l') → kidsBy go m ls l = kidsBy go' m ls l
  | 0, _, l, _, _ => rfl
  | _ + 1, _, [], _, _ => rfl
  | m + 1, ls, n :: l, h, hs => by
    rw [kidsBy, kidsBy, ← h l (List.suffix_cons _ _)]
    split
    · cases hg : go l with
      | none => rfl
      | some r => exact kids_congr m _ r (fun l' hl' => h l' (hl'.trans ((hs _ _ hg).trans (List.suffix_cons _ _)))) hs
    · rfl
theorem ahead_congr {T T' : Nd → Bool} : ∀ (f : Nat) (st l : List Nd), (∀ n ∈ l, T n = T' n) → ahead T f st l = ahead T' f st l := by
  intro f
  induction f with
  | zero => intro st l _; cases l <;> rfl
  | succ f ih =>
    intro st l h
    cases l with
    | nil => rfl
    | cons n l =>
      rw [ahead, ahead, h n (by simp), ih (n :: st) l (fun x hx => h x (List.mem_cons_of_mem _ hx))]
      rw [kids_congr n.many.toNat [] l (fun l' hl' => ih (n :: st) l' (fun x hx => h x (List.mem_cons_of_mem _ (hl'.subset hx)))) (ahead_suffix T f (n :: st))]

theorem word_ne {t : ByteArray} (h : wordB t = true) : ¬ t.toList = [] := by
  intro e
  simp only [wordB, nameB, Bool.and_eq_true] at h
  have h1 : 1 ≤ t.size := by simpa using h.1.1.1
  rw [Go.ByteArray.toList_eq] at e
  have h2 : t.data.size = 0 := by simpa using congrArg List.length e
  have h3 : t.size = t.data.size := rfl
  omega

theorem stepS_eq {part : Bool} {n : Nd} (h : nodeB (talkS part) n = true) (acc : List ByteArray) : stepS acc n = (talkers n).foldl putS acc := by
  simp only [nodeB, Bool.or_eq_true] at h
  rcases h with (((h | h) | h) | h) | h
  · simp only [endB, Bool.and_eq_true, beq_iff_eq] at h
    simp [stepS, talkers, h]
  · simp only [varB, Bool.and_eq_true, beq_iff_eq] at h
    simp [stepS, talkers, h]
  · simp only [recB, Bool.and_eq_true, beq_iff_eq] at h
    simp [stepS, talkers, h]
  · simp only [caseB, Bool.and_eq_true, beq_iff_eq] at h
    simp [stepS, talkers, h]
  · simp only [Bool.and_eq_true] at h
    have ht := h.2
    simp only [talkS, Bool.and_eq_true] at ht
    have hp := word_ne ht.1.1.1
    cases part
    · simp at ht
      simp [stepS, talkers, ht, hp]
    · simp at ht
      rcases ht.2.2 with h5 | h5 <;> simp [stepS, talkers, h5, hp]
theorem rolesS_eq {part : Bool} {ns : List Nd} (h : ∀ n ∈ ns, nodeB (talkS part) n = true) : rolesS ns = (ns.flatMap talkers).foldl putS [] := by
  rw [rolesS, List.foldl_flatMap]
  have : ∀ (l : List Nd) (acc : List ByteArray), (∀ n ∈ l, nodeB (talkS part) n = true) → l.foldl stepS acc = l.foldl (fun acc n => (talkers n).foldl putS acc) acc := by
    intro l
    induction l with
    | nil => intro acc _; rfl
    | cons n l ih =>
      intro acc h
      rw [List.foldl_cons, List.foldl_cons, stepS_eq (h n (by simp)), ih _ (fun x hx => h x (List.mem_cons_of_mem _ hx))]
  exact this ns [] h
theorem roles_perm {part : Bool} {ns : List Nd} (h : ∀ n ∈ ns, nodeB (talkS part) n = true) : SortedT (rolesS ns) ∧ (rolesI ns).Perm (rolesS ns) := by
  rw [rolesS_eq h, rolesI_eq]
  exact add_put _ [] [] List.Pairwise.nil (List.Perm.refl _)

def rightB (part : Bool) (l : List Nd) : Bool := decide (l.length ≤ 40) && ((ahead (talkS part) 10 [] l).map List.length == some 0 && decide ((rolesS l).length ≤ 4))
def strayB (part : Bool) (n : Nd) : Bool := if part then n.op == 3 else n.op == 5 || n.op == 6
def rowB (l : List Nd) : Bool := decide (l.length ≤ 40) && ((ahead talkI 10 [] l).map List.length == some 0 && decide ((rolesI l).length ≤ 4))
theorem ahead_all {T : Nd → Bool} {f : Nat} {l : List Nd} (h : ((ahead T f [] l).map List.length == some 0) = true) : ∀ n ∈ l, nodeB T n = true := by
  cases hr : ahead T f [] l with
  | none => rw [hr] at h; cases h
  | some r =>
    rw [hr] at h
    simp at h
    obtain ⟨p, e, hp⟩ := ahead_nodes T f [] l r hr
    rw [h, List.append_nil] at e
    rw [e]; exact hp
theorem node_stray {part : Bool} {n : Nd} (h : nodeB (talkS part) n = true) : strayB part n = false := by
  simp only [nodeB, Bool.or_eq_true] at h
  rcases h with (((h | h) | h) | h) | h
  · simp only [endB, Bool.and_eq_true, beq_iff_eq] at h
    cases part <;> simp [strayB, h]
  · simp only [varB, Bool.and_eq_true, beq_iff_eq] at h
    cases part <;> simp [strayB, h]
  · simp only [recB, Bool.and_eq_true, beq_iff_eq] at h
    cases part <;> simp [strayB, h]
  · simp only [caseB, Bool.and_eq_true, beq_iff_eq] at h
    cases part <;> simp [strayB, h]
  · simp only [Bool.and_eq_true] at h
    have ht := h.2
    simp only [talkS, Bool.and_eq_true] at ht
    cases part
    · simp at ht; simp [strayB, ht]
    · simp at ht; rcases ht.2.2 with h5 | h5 <;> simp [strayB, h5]
theorem talk_same {part : Bool} {n : Nd} (h : strayB part n = false) : talkI n = talkS part n := by
  simp only [talkI, talkS, tnameB]
  cases part
  · have h5 : (n.op == 5) = false := by cases e : (n.op == 5) <;> simp_all [strayB]
    have h6 : (n.op == 6) = false := by cases e : (n.op == 6) <;> simp_all [strayB]
    rw [h5, h6]
    cases (n.op == 3) <;> cases wordB n.peer <;> cases manyB n.many <;> cases wordB n.name <;> cases (n.sort == 0) <;> rfl
  · have h3 : (n.op == 3) = false := by cases e : (n.op == 3) <;> simp_all [strayB]
    rw [h3]
    cases wordB n.peer <;> cases manyB n.many <;> cases (n.sort == 0) <;> cases (n.op == 5) <;> cases (n.op == 6) <;> cases (n.name.toList == []) <;> rfl
theorem right_eq (part : Bool) (l : List Nd) : (rowB l && !(l.any (strayB part))) = rightB part l := by
  rw [rowB, rightB]
  cases hs : l.any (strayB part)
  · have hno : ∀ n ∈ l, strayB part n = false := by
      intro n hn
      rw [← Bool.not_eq_true]
      intro h
      have : l.any (strayB part) = true := List.any_eq_true.2 ⟨n, hn, h⟩
      rw [hs] at this; cases this
    rw [ahead_congr (T' := talkS part) 10 [] l (fun n hn => talk_same (hno n hn))]
    cases ha : ((ahead (talkS part) 10 [] l).map List.length == some 0)
    · simp
    · rw [((roles_perm (ahead_all ha)).2).length_eq]; simp
  · cases ha : ((ahead (talkS part) 10 [] l).map List.length == some 0)
    · simp
    · exfalso
      obtain ⟨n, hn, hst⟩ := List.any_eq_true.1 hs
      rw [node_stray (ahead_all ha n hn)] at hst
      cases hst
end Go.Proofs.YtmjlblbhakppfaaGreatDoor
namespace Go.Proofs.YtmjlblbhakppfaaGreatDoor
open Go.RowKit

theorem add_len (ls : List ByteArray) (t : ByteArray) : (addI ls t).length ≤ ls.length + 1 := by
  rw [addI]; split <;> simp
theorem rolesI_next {ns : List Nd} {k : Nat} (h : k < ns.length) : (ns.take (k + 1)).foldl stepI [] = stepI ((ns.take k).foldl stepI []) ns[k] := by
  rw [List.take_succ_eq_append_getElem h, List.foldl_append]; rfl
theorem foldI_next {ts : List ByteArray} {k : Nat} {acc : List ByteArray} (h : k < ts.length) : (ts.take (k + 1)).foldl addI acc = addI ((ts.take k).foldl addI acc) ts[k] := by
  rw [List.take_succ_eq_append_getElem h, List.foldl_append]; rfl
theorem talkers_len (n : Nd) : (talkers n).length ≤ 2 := by
  rw [talkers]; split
  · simp
  · split <;> simp
def Nd.fit (n : Nd) : Prop := n.name.size ≤ 1048576 ∧ n.peer.size ≤ 1048576
theorem Nd.fit.ok {n : Nd} (h : n.fit) : n.ok := ⟨Nat.le_trans h.1 (by unfold maxLen; omega), Nat.le_trans h.2 (by unfold maxLen; omega)⟩
theorem talkers_ok {n : Nd} (ok : n.fit) : ∀ t ∈ talkers n, t.size ≤ 1048576 := by
  intro t ht
  rw [talkers] at ht
  split at ht
  · simp at ht; rcases ht with h | h
    · rw [h]; exact ok.1
    · rw [h]; exact ok.2
  · split at ht
    · simp at ht; rw [ht]; exact ok.2
    · cases ht
theorem TextsAt.grown {w w' : World} {v : Value} {ls : List ByteArray} {row : Option Nat} (h : TextsAt w v ls) (hg : w.grownBy w' row) (hne : ∀ b, v.ownBlock = some b → some b ≠ row) : TextsAt w' v ls := by
  obtain ⟨ao, cap, rfl, h2, h3, h4⟩ := h
  refine ⟨ao, cap, rfl, h2, h3, fun hn => ?_⟩
  obtain ⟨b, o, rfl, hr⟩ := h4 hn
  exact ⟨b, o, rfl, fun i hi => (grow_cell hg ⟨b, _, none⟩ (World.block_lt_of_cell? w _ (hr i hi)) (hne b rfl)).trans (hr i hi)⟩
def CloneCalls : Prop := ∀ (s : ByteArray) (w : World), s.size ≤ 1048576 → Calls Tryz.prog 76 #[.string s] w fun e w' => e = .returned (.string s) ∧ Below w.heap.size w w'

set_option maxHeartbeats 400000 in
theorem i_talkers (n : Nd) (w : World) :
    Calls Tryz.prog 75 #[n.val] w fun e w' => ∃ v', e = .returned v' ∧ TextsAt w' v' (talkers n) ∧ (∀ b, v'.ownBlock = some b → w.heap.size ≤ b) ∧ Below w.heap.size w w' := by
  obtain ⟨op, name, peer, many, sort⟩ := n
  by_cases h3 : op = 3
  · subst h3
    have HT : Hid (talkers ⟨3, name, peer, many, sort⟩ = [name, peer]) := hide rfl
    unfold Nd.val
    go_enter Tryz.func75, Tryz.ntmps75
    go_wp2_with fail
    go_ret
    refine ⟨_, rfl, ?_, by intro b hb; simp [Value.ownBlock] at hb; omega, (alloc1 _ _).trans ((alloc1 _ _).mono (by simp))⟩
    rw [HT.out]
    refine ⟨_, _, rfl, by simp, by simp, fun _ => ⟨_, _, rfl, fun i hi => ?_⟩⟩
    match i, hi with
    | 0, _ => simp
    | 1, _ => simp
  · by_cases h5 : op = 5 ∨ op = 6
    · have HT : Hid (talkers ⟨op, name, peer, many, sort⟩ = [peer]) := hide (by rcases h5 with h | h <;> subst h <;> rfl)
      unfold Nd.val
      rcases h5 with h | h
      all_goals
        subst h
        clear h3
        go_enter Tryz.func75, Tryz.ntmps75
        go_wp2_with fail
        go_ret
        refine ⟨_, rfl, ?_, by intro b hb; simp [Value.ownBlock] at hb; omega, (alloc1 _ _).trans ((alloc1 _ _).mono (by simp))⟩
        rw [HT.out]
        refine ⟨_, _, rfl, by simp, by simp, fun _ => ⟨_, _, rfl, fun i hi => ?_⟩⟩
        match i, hi with
        | 0, _ => simp
    · have g3 : (op == 3) = false := beq_eq_false_iff_ne.2 h3
      have g5 : (op == 5) = false := beq_eq_false_iff_ne.2 (fun h => h5 (.inl h))
      have g6 : (op == 6) = false := beq_eq_false_iff_ne.2 (fun h => h5 (.inr h))
      have HT : Hid (talkers ⟨op, name, peer, many, sort⟩ = []) := hide (by simp [talkers, g3, g5, g6])
      clear h3 h5
      unfold Nd.val
      go_enter Tryz.func75, Tryz.ntmps75
      go_wp2_with fail
      go_ret
      refine ⟨_, rfl, ?_, by intro b hb; simp [Value.ownBlock] at hb, alloc1 _ _⟩
      rw [HT.out]
      exact ⟨_, _, rfl, by simp, by simp, fun h => absurd rfl h⟩

set_option maxRecDepth 100000 in
set_option maxHeartbeats 1000000 in
theorem i_roles (hcl : CloneCalls) (ns : List Nd) (v : Value) (w : World) (ok : ∀ n ∈ ns, n.fit) (hv : SlAt w w.heap.size v ns) (hl : ns.length ≤ 40) :
    Calls Tryz.prog 44 #[v] w fun e w' => ∃ v', e = .returned v' ∧ w'.ownsRow w.heap.size 9 1 v' (rolesI ns).length ((rolesI ns).map Value.string) ∧ Below w.heap.size w w' := by
  obtain ⟨ao, cap, rfl, hc, hm, hr⟩ := hv
  obtain ⟨i0, hi, hz0, hz1, hz2⟩ := info_parts Tryz.infoS
  have HI := hide (And.intro hi (And.intro hz0 (And.intro hz1 hz2)))
  have HR := hide hr
  have HCL := hide hcl
  have HOK := hide ok
  clear hr hcl ok hi hz0 hz1 hz2
  go_enter Tryz.func44, Tryz.ntmps44
  go_wp2_with fail
  go_loopw [3, 10] (fun out i wr => ∃ (k : Nat) (acc : List ByteArray), k ≤ ns.length ∧ i = .int .i64 k ∧ acc = (ns.take k).foldl stepI [] ∧ wr.ownsRow w.heap.size 9 1 out acc.length (acc.map Value.string) ∧ acc.length ≤ 2 * k ∧ Below w.heap.size w wr)
    (fun _ i _ => ns.length - (intOf i).toNat)
  case atStart => exact ⟨0, [], Nat.zero_le _, rfl, rfl, World.ownsRow_nil _ _ _ _, by simp, Below.refl _ _⟩
  case round =>
    obtain ⟨k, acc, hk, rfl, hacc, hown, hal, hbel⟩ := hrel
    have HACC := hide hacc
    have HOWN := hide hown
    have HBEL := hide hbel
    have hszr := hbel.size
    clear hacc hbel hown
    by_cases hlt : k < ns.length
    · obtain ⟨b, o, rfl, hbB, hrow⟩ := HR.out (by intro h; simp [h] at hlt)
      have hnode := (hrow.get k hlt).carry hbB HBEL.out
      obtain ⟨n1, hn1⟩ : ∃ n1, n1 = ns[k] := ⟨_, rfl⟩
      rw [← hn1] at hnode
      have HN := hide (show (ns.take (k + 1)).foldl stepI [] = stepI acc n1 by rw [rolesI_next hlt, HACC.out, hn1])
      have HN1 := hide (show n1.fit by rw [hn1]; exact HOK.out _ (List.getElem_mem hlt))
      clear hn1 hrow
      have hbw : b < wr.heap.size := hnode.lt
      obtain ⟨c0, c1, c2, c3, c4⟩ := hnode
      go_wp2_with (go_at_call 75; refine (i_talkers n1 _).mono ?_; rintro e w1 ⟨v1, rfl, ht1, hf1, hb1⟩; have HT1 := hide ht1; obtain ⟨ao1, cap1, rfl, hc11, hc12, hc13⟩ := ht1; have HB1 : Hid (Below w.heap.size w w1) := hide (HBEL.out.trans (((alloc1 _ _).trans (hb1.mono (by simp))).mono hszr)); have HOW1 := hide (own_below (HOWN.out.alloc _) hb1); have hs1 := HB1.out.size; have HF1 := hide hf1; clear hb1 hc13 hf1)
      obtain ⟨ts, hts⟩ : ∃ ts, talkers n1 = ts := ⟨_, rfl⟩
      have HTS := hide hts
      rw [hts] at hc11 hc12 ⊢
      have hl2 : ts.length ≤ 2 := by rw [← hts]; exact talkers_len n1
      have HTO := hide (show ∀ t ∈ ts, t.size ≤ 1048576 by rw [← hts]; exact talkers_ok HN1.out)
      have HT2 : Hid (TextsAt w1 (.slice ao1 ts.length cap1) ts) := hide (by rw [← hts]; exact HT1.out)
      clear hts
      go_loopw [3, 17] (fun out i w2 => ∃ (j : Nat) (ac : List ByteArray), j ≤ ts.length ∧ i = .int .i64 j ∧ ac = (ts.take j).foldl addI acc ∧ w2.ownsRow w.heap.size 9 1 out ac.length (ac.map Value.string) ∧ ac.length ≤ 2 * k + j ∧ Below w.heap.size w w2 ∧ TextsAt w2 (.slice ao1 ts.length cap1) ts ∧ (∀ a, ao1 = some a → out.ownBlock ≠ some a.block) ∧ (∀ a, ao1 = some a → ts ≠ [] → a.block < w2.heap.size))
        (fun _ i _ => ts.length - (intOf i).toNat)
      case atStart =>
        refine ⟨0, acc, by omega, rfl, rfl, HOW1.out, by omega, HB1.out, HT2.out, fun a ha hb => ?_, fun a ha hne => ?_⟩
        · have h1 := (HOWN.out.lt _ hb).2
          have h2 := HF1.out a.block (by rw [ha]; rfl)
          simp at h2
          omega
        · obtain ⟨_, _, he, _, _, hc⟩ := HT2.out
          obtain ⟨b, o, hbo, hcell⟩ := hc hne
          have hlt := World.block_lt_of_cell? _ _ (hcell 0 (List.length_pos_iff.2 hne))
          have : a.block = b := by
            rw [ha] at he; injection he with he; rw [hbo] at he; injection he with he; rw [he]
          rw [this]; exact hlt
      case round =>
        obtain ⟨j, ac, hj, rfl, hac, hown2, hal2, hbel2, htx2, hoff2, hin2⟩ := hrel
        have HAC := hide hac
        have HOW2 := hide hown2
        have HBEL2 := hide hbel2
        have HTX2 := hide htx2
        have HOFF2 := hide hoff2
        have HIN2 := hide hin2
        have hz2 := hbel2.size
        clear hac hown2 hbel2 hoff2 hin2
        by_cases hjt : j < ts.length
        · obtain ⟨ao2, cap2, he2, -, -, hcl2⟩ := htx2
          obtain ⟨b2, o2, rfl, hcell2⟩ := hcl2 (by intro h; simp [h] at hjt)
          obtain ⟨rfl, rfl⟩ : ao1 = some ⟨b2, o2, none⟩ ∧ cap1 = cap2 := by simpa using he2
          have hck := hcell2 j hjt
          obtain ⟨s, hs⟩ : ∃ s, s = ts[j] := ⟨_, rfl⟩
          rw [← hs] at hck
          have HNX := hide (show (ts.take (j + 1)).foldl addI acc = addI ac s by rw [foldI_next hjt, HAC.out, hs])
          have HSO := hide (show s.size ≤ 1048576 by rw [hs]; exact HTO.out _ (List.getElem_mem hjt))
          clear hs hcell2 hcl2 he2
          cases hh : hasB ac s
          · have HH := hide hh
            clear hh
            go_wp2_with (first | (go_at_call 52; refine (s_contains ac s _ _ (texts_own HOW2.out (by omega))).mono ?_; rintro e w3 ⟨rfl, rfl⟩; rw [HH.out]) | (go_at_call 76; refine (HCL.out s _ HSO.out).mono ?_; rintro e w4 ⟨rfl, hb4⟩; have HOW4 := hide (own_below HOW2.out hb4); have hs4 := hb4.size; have HT4 := hide (HTX2.out.carry hb4); have HB4 := hide hb4; clear hb4) | (at_builtin; refine wpList_append_own_at _ rfl (.tmp 25) (.tmp 28) 30 rfl w.heap.size 9 i0 (.string ByteArray.empty) 1 16 Tryz.underlying30 HI.out.1 HI.out.2.1 HI.out.2.2.1 HI.out.2.2.2 rfl (by decide) _ ac.length (ac.map Value.string) rfl (HOW4.out.alloc _) ⟨_, 0, none⟩ 1 1 [.string s] rfl rfl (one_new (cell_new _ _ _ _ rfl)) (one_cell _) (by unfold maxLen; omega) (by omega) (by simp; omega) ?_; intro v5 w5 hown5 hgrow5 _ hob5; have HOW5 := hide hown5; have HOB5 := hide hob5; have HT5 : Hid (TextsAt w5 (.slice (some ⟨b2, o2, none⟩) ts.length cap1) ts) := hide ((HT4.out.carry (alloc1 _ _)).grown hgrow5 (fun b hb => by simp [Value.ownBlock] at hb; subst hb; exact fun h => HOFF2.out _ rfl h.symm)); have HS5 := hide hgrow5.size; have HB5 : Hid (Below w.heap.size w w5) := hide ((((HBEL2.out.trans (HB4.out.mono hz2)).alloc (by omega) _)).grown hgrow5 (by simp; omega) (own_row HOW4.out)); clear hown5 hgrow5 hob5))
            go_wp2_with fail
            go_roundw
            case rel =>
              have e : addI ac s = ac ++ [s] := by simp [addI, HH.out]
              have h5 := HS5.out
              simp at h5
              refine ⟨j + 1, ac ++ [s], by omega, by go_num, by rw [HNX.out, e], by have := HOW5.out; simpa using this, by simp; omega, HB5.out, HT5.out, fun a ha hb => ?_, fun a ha hne => ?_⟩
              · have h1 := HIN2.out a ha (by intro h; simp [h] at hjt)
                rcases HOB5.out with h | h
                · exact HOFF2.out a ha (h.symm.trans hb)
                · rw [h] at hb; simp at hb; omega
              · have h1 := HIN2.out a ha hne
                omega
            case measure => simp [intOf]; omega
          · have HH := hide hh
            clear hh
            go_wp2_with (go_at_call 52; refine (s_contains ac s _ _ (texts_own HOW2.out (by omega))).mono ?_; rintro e w3 ⟨rfl, rfl⟩; rw [HH.out])
            go_roundw
            case rel =>
              have e : addI ac s = ac := by simp [addI, HH.out]
              exact ⟨j + 1, ac, by omega, by go_num, by rw [HNX.out, e], HOW2.out, by omega, HBEL2.out, HTX2.out, HOFF2.out, HIN2.out⟩
            case measure => simp [intOf]; omega
        · clear htx2
          go_wp2_with fail
          go_roundw
          case rel =>
            have hst : stepI acc n1 = ac := by rw [HAC.out, stepI, HTS.out, List.take_of_length_le (by omega)]
            exact ⟨k + 1, ac, by omega, by go_num, by rw [HN.out, hst], HOW2.out, by omega, HBEL2.out⟩
          case measure => simp [intOf]; omega
    · go_wp2_with fail
      go_ret
      refine ⟨_, rfl, ?_, HBEL.out⟩
      have h1 : acc = rolesI ns := by rw [HACC.out, List.take_of_length_le (by omega)]; rfl
      rw [← h1]
      exact HOWN.out
end Go.Proofs.YtmjlblbhakppfaaGreatDoor
