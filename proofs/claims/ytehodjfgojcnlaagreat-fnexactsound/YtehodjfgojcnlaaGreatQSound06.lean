/- l02Roles: the names and peers in Nodes, each in its place. -/
import Derived.Test.YtehodjfgojcnlaaGreatQSound05
namespace Go.Proofs.YtehodjfgojcnlaaGreat
open Go.RowKit

def stepS (acc : List ByteArray) (n : Nd) : List ByteArray :=
  let a := if n.op == 3 then putS acc n.name else acc
  if n.peer.toList == [] then a else putS a n.peer
def rolesS (ns : List Nd) : List ByteArray := ns.foldl stepS []

theorem put_len (ls : List ByteArray) (t : ByteArray) : (putS ls t).length ≤ ls.length + 1 := by
  rw [putS]
  split
  · omega
  · simp; omega
theorem roles_next {ns : List Nd} {k : Nat} (h : k < ns.length) : (ns.take (k + 1)).foldl stepS [] = stepS ((ns.take k).foldl stepS []) ns[k] := by
  rw [List.take_succ_eq_append_getElem h, List.foldl_append]; rfl
theorem STexts.carry {w w' : World} {v : Value} {ls : List ByteArray} (h : STexts w v ls) (hb : Below w.heap.size w w') : STexts w' v ls := by
  obtain ⟨b, o, cap, h1, h2, h3, h4⟩ := h
  exact ⟨b, o, cap, h1, h2, h3, fun i hi => (hb.cell (p := ⟨b, _, none⟩) (World.block_lt_of_cell? w _ (h4 i hi))).trans (h4 i hi)⟩

set_option maxRecDepth 100000 in
set_option maxHeartbeats 1000000 in
theorem s_roles (ns : List Nd) (v : Value) (w : World) (hv : SlAt w w.heap.size v ns) (hl : ns.length ≤ 40) :
    Calls Tryz.prog 18 #[v] w fun e w' => ∃ v', e = .returned v' ∧ STexts w' v' (rolesS ns) ∧ Below w.heap.size w w' := by
  obtain ⟨ao, cap, rfl, hc, hm, hr⟩ := hv
  have HR := hide hr
  clear hr
  go_enter Tryz.func18, Tryz.ntmps18
  go_wp2_with fail
  go_loopw [3, 4] (fun out i wr => ∃ k : Nat, k ≤ ns.length ∧ i = .int .i64 k ∧ STexts wr out ((ns.take k).foldl stepS []) ∧ ((ns.take k).foldl stepS []).length ≤ 2 * k ∧ Below w.heap.size w wr)
    (fun _ i _ => ns.length - (intOf i).toNat)
  case atStart => exact ⟨0, Nat.zero_le _, rfl, ⟨w.heap.size, 0, 0, rfl, Nat.le_refl _, by unfold maxLen; omega, fun i h => absurd h (by simp)⟩, by simp, alloc1 _ _⟩
  case round =>
    obtain ⟨k, hk, rfl, hst, hsl, hbel⟩ := hrel
    obtain ⟨acc, hacc⟩ : ∃ acc, acc = (ns.take k).foldl stepS [] := ⟨_, rfl⟩
    rw [← hacc] at hst hsl
    have HACC := hide hacc
    have HST := hide hst
    have HBEL := hide hbel
    have hszr := hbel.size
    clear hacc hbel
    obtain ⟨b1, o1, cap1, rfl, hst1⟩ := hst
    clear hst1
    by_cases hlt : k < ns.length
    · obtain ⟨b, o, rfl, hbB, hrow⟩ := HR.out (by intro h; simp [h] at hlt)
      have hnode := (hrow.get k hlt).carry hbB HBEL.out
      obtain ⟨n1, hn1⟩ : ∃ n1, n1 = ns[k] := ⟨_, rfl⟩
      rw [← hn1] at hnode
      have HN := hide (show (ns.take (k + 1)).foldl stepS [] = stepS acc n1 by rw [roles_next hlt, HACC.out, hn1])
      have HND := hide hnode
      clear hn1 hrow
      have hbw : b < wr.heap.size := hnode.lt
      obtain ⟨c0, c1, c2, c3, c4⟩ := hnode
      obtain ⟨op3, hop3⟩ : ∃ op3, (n1.op == 3) = op3 := ⟨_, rfl⟩
      obtain ⟨pe, hpe⟩ : ∃ pe, (n1.peer.toList == []) = pe := ⟨_, rfl⟩
      have HO3 := hide hop3
      have HPE := hide hpe
      cases op3
      · cases pe
        · go_wp2_with (go_at_call 29; refine (s_put acc n1.peer _ _ HST.out (by omega)).mono ?_; rintro e w1 ⟨v1, rfl, hs1, hb1⟩; have HS1 := hide hs1; obtain ⟨b2, o2, cap2, rfl, hs2⟩ := hs1; have HB1 := hide hb1; clear hs2 hb1)
          go_roundw
          case rel =>
            have hst : stepS acc n1 = putS acc n1.peer := by simp [stepS, HO3.out, HPE.out]
            refine ⟨k + 1, by omega, by go_num, by rw [HN.out, hst]; exact HS1.out, by rw [HN.out, hst]; have := put_len acc n1.peer; omega, HBEL.out.trans (HB1.out.mono hszr)⟩
          case measure => simp [intOf]; omega
        · go_wp2_with fail
          go_roundw
          case rel =>
            have hst : stepS acc n1 = acc := by simp [stepS, HO3.out, HPE.out]
            refine ⟨k + 1, by omega, by go_num, by rw [HN.out, hst]; exact HST.out, by rw [HN.out, hst]; omega, HBEL.out⟩
          case measure => simp [intOf]; omega
      · cases pe
        · go_wp2_with (first | (go_at_call_of 29 n1.peer; refine (s_put (putS acc n1.name) n1.peer _ _ HS1.out (by have := put_len acc n1.name; omega)).mono ?_; rintro e w2 ⟨v2, rfl, hs3, hb2⟩; have HS2 := hide hs3; obtain ⟨b3, o3, cap3, rfl, hs4⟩ := hs3; have HB2 := hide hb2; clear hs4 hb2) | (go_at_call_of 29 n1.name; refine (s_put acc n1.name _ _ HST.out (by omega)).mono ?_; rintro e w1 ⟨v1, rfl, hs1, hb1⟩; have HS1 := hide hs1; obtain ⟨b2, o2, cap2, rfl, hs2⟩ := hs1; have hz1 := hb1.size; obtain ⟨d0, d1, d2, d3, d4⟩ := HND.out.carry hbw hb1; have HB1 := hide hb1; clear hs2 hb1))
          go_roundw
          case rel =>
            have hst : stepS acc n1 = putS (putS acc n1.name) n1.peer := by simp [stepS, HO3.out, HPE.out]
            refine ⟨k + 1, by omega, by go_num, by rw [HN.out, hst]; exact HS2.out, by rw [HN.out, hst]; have := put_len acc n1.name; have := put_len (putS acc n1.name) n1.peer; omega, HBEL.out.trans ((HB1.out.mono hszr).trans (HB2.out.mono (by omega)))⟩
          case measure => simp [intOf]; omega
        · go_wp2_with (go_at_call 29; refine (s_put acc n1.name _ _ HST.out (by omega)).mono ?_; rintro e w1 ⟨v1, rfl, hs1, hb1⟩; have HS1 := hide hs1; obtain ⟨b2, o2, cap2, rfl, hs2⟩ := hs1; have hz1 := hb1.size; obtain ⟨d0, d1, d2, d3, d4⟩ := HND.out.carry hbw hb1; have HB1 := hide hb1; clear hs2 hb1)
          go_roundw
          case rel =>
            have hst : stepS acc n1 = putS acc n1.name := by simp [stepS, HO3.out, HPE.out]
            refine ⟨k + 1, by omega, by go_num, by rw [HN.out, hst]; exact HS1.out, by rw [HN.out, hst]; have := put_len acc n1.name; omega, HBEL.out.trans (HB1.out.mono hszr)⟩
          case measure => simp [intOf]; omega
    · go_wp2_with fail
      go_ret
      refine ⟨_, rfl, ?_, HBEL.out⟩
      have := HST.out
      rw [HACC.out, List.take_of_length_le (by omega)] at this
      have e : acc.length = ((ns.take k).foldl stepS []).length := by rw [HACC.out]
      rw [e, List.take_of_length_le (by omega)]
      exact this
end Go.Proofs.YtehodjfgojcnlaaGreat
/- The roles of a row, both ways; the rules of plans and of parts by one model. -/
namespace Go.Proofs.YtehodjfgojcnlaaGreat
open Go.RowKit

theorem tl_inj {a b : ByteArray} (h : a.toList = b.toList) : a = b := by
  rw [Go.ByteArray.toList_eq, Go.ByteArray.toList_eq] at h
  apply ByteArray.ext
  exact Array.ext' h
theorem has_iff {ls : List ByteArray} {t : ByteArray} : hasB ls t = true ↔ t ∈ ls := by
  rw [hasB, List.any_eq_true]
  constructor
  · rintro ⟨s, hs, he⟩
    rw [beq_iff_eq] at he
    rwa [← tl_inj he]
  · intro h
    exact ⟨t, h, by simp⟩
theorem less_eq : ∀ (x y : List UInt8), Op.bytesLess x y = decide (x < y)
  | [], [] => by simp [Op.bytesLess]
  | _ :: _, [] => by simp [Op.bytesLess]
  | [], _ :: _ => by simp [Op.bytesLess]
  | a :: x, b :: y => by
    rw [Op.bytesLess, less_eq x y]
    simp only [List.cons_lt_cons_iff]
    by_cases h1 : a < b <;> by_cases h2 : a = b <;> by_cases h3 : x < y <;> simp [h1, h2, h3]
theorem less_iff (s t : ByteArray) : lessB s t = true ↔ s.toList < t.toList := by
  rw [lessB, less_eq]; simp
theorem less_irr (s : ByteArray) : ¬ lessB s s = true := by
  rw [less_iff]; exact List.lt_irrefl _
theorem less_trans {s t u : ByteArray} (h : lessB s t = true) (h' : lessB t u = true) : lessB s u = true := by
  rw [less_iff] at *; exact List.lt_trans h h'
theorem less_tri {s t : ByteArray} (h : ¬ lessB s t = true) (hn : s ≠ t) : lessB t s = true := by
  rw [less_iff] at *
  have h1 : t.toList ≤ s.toList := List.not_lt.1 h
  by_cases h2 : t.toList < s.toList
  · exact h2
  · exact absurd (tl_inj (List.le_antisymm (List.not_lt.1 h2) h1)) hn

theorem put_cons (s : ByteArray) (ls : List ByteArray) (t : ByteArray) : putS (s :: ls) t = if lessB s t then s :: putS ls t else if s.toList == t.toList then s :: ls else t :: s :: ls := by
  by_cases h : lessB s t = true
  · rw [if_pos h, putS, placeK, if_pos h, putS, List.drop_succ_cons, List.take_succ_cons]
    split <;> simp
  · rw [if_neg h, putS, placeK, if_neg h]
    simp [hasB]

def SortedT (ls : List ByteArray) : Prop := ls.Pairwise fun a b => lessB a b = true
theorem put_mem {ls : List ByteArray} {t u : ByteArray} (h : u ∈ putS ls t) : u ∈ ls ∨ u = t := by
  induction ls with
  | nil => simp [putS, placeK, hasB] at h; exact .inr h
  | cons s ls ih =>
    rw [put_cons] at h
    split at h
    · rcases List.mem_cons.1 h with h | h
      · exact .inl (by simp [h])
      · rcases ih h with h | h
        · exact .inl (by simp [h])
        · exact .inr h
    · split at h
      · exact .inl h
      · rcases List.mem_cons.1 h with h | h
        · exact .inr h
        · exact .inl h
theorem put_sorted {ls : List ByteArray} (hs : SortedT ls) (t : ByteArray) : SortedT (putS ls t) := by
  induction ls with
  | nil => simp [putS, placeK, hasB, SortedT]
  | cons s ls ih =>
    obtain ⟨h1, h2⟩ := List.pairwise_cons.1 hs
    rw [put_cons]
    split
    · rename_i hl
      refine List.pairwise_cons.2 ⟨fun u hu => ?_, ih h2⟩
      rcases put_mem hu with h | h
      · exact h1 u h
      · rw [h]; exact hl
    · rename_i hl
      split
      · exact hs
      · rename_i he
        have hne : s ≠ t := fun h => he (by simp [h])
        have hts := less_tri hl hne
        refine List.pairwise_cons.2 ⟨fun u hu => ?_, hs⟩
        rcases List.mem_cons.1 hu with h | h
        · rw [h]; exact hts
        · exact less_trans hts (h1 u h)
theorem put_in {ls : List ByteArray} (hs : SortedT ls) {t : ByteArray} (ht : t ∈ ls) : putS ls t = ls := by
  induction ls with
  | nil => cases ht
  | cons s ls ih =>
    obtain ⟨h1, h2⟩ := List.pairwise_cons.1 hs
    rw [put_cons]
    rcases List.mem_cons.1 ht with h | h
    · subst h
      rw [if_neg (less_irr t), if_pos (by simp)]
    · rw [if_pos (h1 t h), ih h2 h]
theorem put_perm {ls : List ByteArray} {t : ByteArray} (ht : ¬ t ∈ ls) : (putS ls t).Perm (t :: ls) := by
  induction ls with
  | nil => simp [putS, placeK, hasB]
  | cons s ls ih =>
    rw [put_cons]
    split
    · exact ((ih (fun h => ht (List.mem_cons_of_mem _ h))).cons s).trans (List.Perm.swap _ _ _)
    · rw [if_neg (fun h => ht (by rw [beq_iff_eq] at h; rw [tl_inj h]; simp))]

def addI (acc : List ByteArray) (t : ByteArray) : List ByteArray := if hasB acc t then acc else acc ++ [t]
theorem add_put : ∀ (ts accI accS : List ByteArray), SortedT accS → accI.Perm accS → SortedT (ts.foldl putS accS) ∧ (ts.foldl addI accI).Perm (ts.foldl putS accS)
  | [], _, _, hs, hp => ⟨hs, hp⟩
  | t :: ts, accI, accS, hs, hp => by
    refine add_put ts _ _ (put_sorted hs t) ?_
    by_cases ht : t ∈ accI
    · rw [addI, if_pos (has_iff.2 ht), put_in hs (hp.mem_iff.1 ht)]; exact hp
    · rw [addI, if_neg (fun h => ht (has_iff.1 h))]
      exact (List.perm_append_singleton t accI).trans ((hp.cons t).trans (put_perm (fun h => ht (hp.mem_iff.2 h))).symm)

def talkers (n : Nd) : List ByteArray := if n.op == 3 then [n.name, n.peer] else if n.op == 5 || n.op == 6 then [n.peer] else []
def stepI (acc : List ByteArray) (n : Nd) : List ByteArray := (talkers n).foldl addI acc
def rolesI (ns : List Nd) : List ByteArray := ns.foldl stepI []
theorem rolesI_eq (ns : List Nd) : rolesI ns = (ns.flatMap talkers).foldl addI [] := by
  rw [rolesI, List.foldl_flatMap]; rfl

/-- what each Node of a right row is -/
def nodeB (T : Nd → Bool) (n : Nd) : Bool := endB n || varB n || recB n || caseB n || (n.op != 0 && n.op != 1 && n.op != 2 && T n)
theorem kids_nodes {T : Nd → Bool} {go : List Nd → Option (List Nd)} (hg : ∀ l r, go l = some r → ∃ p, l = p ++ r ∧ ∀ n ∈ p, nodeB T n = true) :
    ∀ (m : Nat) (ls : List ByteArray) (l r : List Nd), kidsBy go m ls l = some r → ∃ p, l = p ++ r ∧ ∀ n ∈ p, nodeB T n = true
  | 0, _, l, r, h => by cases h; exact ⟨[], rfl, by simp⟩
  | _ + 1, _, [], r, h => by cases h
  | m + 1, ls, n :: l, r, h => by
    rw [kidsBy] at h
    split at h
    · rename_i hc
      split at h
      · cases h
      · rename_i r' hr'
        obtain ⟨p1, e1, h1⟩ := hg _ _ hr'
        obtain ⟨p2, e2, h2⟩ := kids_nodes hg m _ _ _ h
        have hcb : caseB n = true := by simp at hc; exact hc.1
        refine ⟨n :: (p1 ++ p2), by rw [e1, e2]; simp, ?_⟩
        intro x hx
        rcases List.mem_cons.1 hx with h | h
        · subst h; simp [nodeB, hcb]
        · rcases List.mem_append.1 h with h | h
          · exact h1 x h
          · exact h2 x h
    · cases h
theorem ahead_nodes (T : Nd → Bool) : ∀ (f : Nat) (st l r : List Nd), ahead T f st l = some r → ∃ p, l = p ++ r ∧ ∀ n ∈ p, nodeB T n = true := by
  intro f
  induction f with
  | zero =>
    intro st l r h
    cases l with
    | nil => cases h
    | cons n l =>
      rw [ahead] at h
      repeat' split at h
      all_goals first
        | (cases h; done)
        | (cases h; refine ⟨[n], rfl, ?_⟩; intro x hx; simp at hx; subst hx; simp_all [nodeB])
  | succ f ih =>
    intro st l r h
    cases l with
    | nil => cases h
    | cons n l =>
      rw [ahead] at h
      repeat' split at h
      all_goals first
        | (cases h; done)
        | (cases h; refine ⟨[n], rfl, ?_⟩; intro x hx; simp at hx; subst hx; simp_all [nodeB]; done)
        | (obtain ⟨p, e, hp⟩ := ih _ _ _ h
           refine ⟨n :: p, by rw [e]; rfl, ?_⟩
           intro x hx
           rcases List.mem_cons.1 hx with hh | hh
           · subst hh; simp_all [nodeB]
           · exact hp x hh)
        | (obtain ⟨p, e, hp⟩ := kids_nodes (ih _) _ _ _ _ h
           refine ⟨n :: p, by rw [e]; rfl, ?_⟩
           intro x hx
           rcases List.mem_cons.1 hx with hh | hh
           · subst hh; simp_all [nodeB]
           · exact hp x hh)
theorem kids_congr {go go' : List Nd → Option (List Nd)} : ∀ (m : Nat) (ls : List ByteArray) (l : List Nd), (∀ l', l' <:+ l → go l' = go' l') → (∀ l' r, go l' = some r → r <:+ l') → kidsBy go m ls l = kidsBy go' m ls l
  | 0, _, l, _, _ => rfl
  | _ + 1, _, [], _, _ => rfl
  | m + 1, ls, n :: l, h, hs => by
    rw [kidsBy, kidsBy, ← h l (List.suffix_cons _ _)]
    split
    · cases hg : go l with
      | none => rfl
      | some r => exact kids_congr m _ r (fun l' hl' => h l' (hl'.trans ((hs _ _ hg).trans (List.suffix_cons _ _)))) hs
    · rfl
theorem ahead_congr {T T' : Nd → Bool} : ∀ (f : Nat) (st l : List Nd), (∀ n ∈ l, T n = T' n) → ahead T f st l = ahead T' f st l := by
  intro f
  induction f with
  | zero => intro st l _; cases l <;> rfl
  | succ f ih =>
    intro st l h
    cases l with
    | nil => rfl
    | cons n l =>
      rw [ahead, ahead, h n (by simp), ih (n :: st) l (fun x hx => h x (List.mem_cons_of_mem _ hx))]
      rw [kids_congr n.many.toNat [] l (fun l' hl' => ih (n :: st) l' (fun x hx => h x (List.mem_cons_of_mem _ (hl'.subset hx)))) (ahead_suffix T f (n :: st))]

theorem word_ne {t : ByteArray} (h : wordB t = true) : ¬ t.toList = [] := by
  intro e
  simp only [wordB, nameB, Bool.and_eq_true] at h
  have h1 : 1 ≤ t.size := by simpa using h.1.1.1
  rw [Go.ByteArray.toList_eq] at e
  have h2 : t.data.size = 0 := by simpa using congrArg List.length e
  have h3 : t.size = t.data.size := rfl
  omega

theorem stepS_eq {part : Bool} {n : Nd} (h : nodeB (talkS part) n = true) (acc : List ByteArray) : stepS acc n = (talkers n).foldl putS acc := by
  simp only [nodeB, Bool.or_eq_true] at h
  rcases h with (((h | h) | h) | h) | h
  · simp only [endB, Bool.and_eq_true, beq_iff_eq] at h
    simp [stepS, talkers, h]
  · simp only [varB, Bool.and_eq_true, beq_iff_eq] at h
    simp [stepS, talkers, h]
  · simp only [recB, Bool.and_eq_true, beq_iff_eq] at h
    simp [stepS, talkers, h]
  · simp only [caseB, Bool.and_eq_true, beq_iff_eq] at h
    simp [stepS, talkers, h]
  · simp only [Bool.and_eq_true] at h
    have ht := h.2
    simp only [talkS, Bool.and_eq_true] at ht
    have hp := word_ne ht.1.1.1
    cases part
    · simp at ht
      simp [stepS, talkers, ht, hp]
    · simp at ht
      rcases ht.2.2 with h5 | h5 <;> simp [stepS, talkers, h5, hp]
theorem rolesS_eq {part : Bool} {ns : List Nd} (h : ∀ n ∈ ns, nodeB (talkS part) n = true) : rolesS ns = (ns.flatMap talkers).foldl putS [] := by
  rw [rolesS, List.foldl_flatMap]
  have : ∀ (l : List Nd) (acc : List ByteArray), (∀ n ∈ l, nodeB (talkS part) n = true) → l.foldl stepS acc = l.foldl (fun acc n => (talkers n).foldl putS acc) acc := by
    intro l
    induction l with
    | nil => intro acc _; rfl
    | cons n l ih =>
      intro acc h
      rw [List.foldl_cons, List.foldl_cons, stepS_eq (h n (by simp)), ih _ (fun x hx => h x (List.mem_cons_of_mem _ hx))]
  exact this ns [] h
theorem roles_perm {part : Bool} {ns : List Nd} (h : ∀ n ∈ ns, nodeB (talkS part) n = true) : SortedT (rolesS ns) ∧ (rolesI ns).Perm (rolesS ns) := by
  rw [rolesS_eq h, rolesI_eq]
  exact add_put _ [] [] List.Pairwise.nil (List.Perm.refl _)

/-- a right plan, or a right part -/
def rightB (part : Bool) (l : List Nd) : Bool := decide (l.length ≤ 40) && ((ahead (talkS part) 10 [] l).map List.length == some 0 && decide ((rolesS l).length ≤ 4))
def strayB (part : Bool) (n : Nd) : Bool := if part then n.op == 3 else n.op == 5 || n.op == 6
def rowB (l : List Nd) : Bool := decide (l.length ≤ 40) && ((ahead talkI 10 [] l).map List.length == some 0 && decide ((rolesI l).length ≤ 4))
theorem ahead_all {T : Nd → Bool} {f : Nat} {l : List Nd} (h : ((ahead T f [] l).map List.length == some 0) = true) : ∀ n ∈ l, nodeB T n = true := by
  cases hr : ahead T f [] l with
  | none => rw [hr] at h; cases h
  | some r =>
    rw [hr] at h
    simp at h
    obtain ⟨p, e, hp⟩ := ahead_nodes T f [] l r hr
    rw [h, List.append_nil] at e
    rw [e]; exact hp
theorem node_stray {part : Bool} {n : Nd} (h : nodeB (talkS part) n = true) : strayB part n = false := by
  simp only [nodeB, Bool.or_eq_true] at h
  rcases h with (((h | h) | h) | h) | h
  · simp only [endB, Bool.and_eq_true, beq_iff_eq] at h
    cases part <;> simp [strayB, h]
  · simp only [varB, Bool.and_eq_true, beq_iff_eq] at h
    cases part <;> simp [strayB, h]
  · simp only [recB, Bool.and_eq_true, beq_iff_eq] at h
    cases part <;> simp [strayB, h]
  · simp only [caseB, Bool.and_eq_true, beq_iff_eq] at h
    cases part <;> simp [strayB, h]
  · simp only [Bool.and_eq_true] at h
    have ht := h.2
    simp only [talkS, Bool.and_eq_true] at ht
    cases part
    · simp at ht; simp [strayB, ht]
    · simp at ht; rcases ht.2.2 with h5 | h5 <;> simp [strayB, h5]
theorem talk_same {part : Bool} {n : Nd} (h : strayB part n = false) : talkI n = talkS part n := by
  simp only [talkI, talkS, tnameB]
  cases part
  · have h5 : (n.op == 5) = false := by cases e : (n.op == 5) <;> simp_all [strayB]
    have h6 : (n.op == 6) = false := by cases e : (n.op == 6) <;> simp_all [strayB]
    rw [h5, h6]
    cases (n.op == 3) <;> cases wordB n.peer <;> cases manyB n.many <;> cases wordB n.name <;> cases (n.sort == 0) <;> rfl
  · have h3 : (n.op == 3) = false := by cases e : (n.op == 3) <;> simp_all [strayB]
    rw [h3]
    cases wordB n.peer <;> cases manyB n.many <;> cases (n.sort == 0) <;> cases (n.op == 5) <;> cases (n.op == 6) <;> cases (n.name.toList == []) <;> rfl
theorem right_eq (part : Bool) (l : List Nd) : (rowB l && !(l.any (strayB part))) = rightB part l := by
  rw [rowB, rightB]
  cases hs : l.any (strayB part)
  · have hno : ∀ n ∈ l, strayB part n = false := by
      intro n hn
      rw [← Bool.not_eq_true]
      intro h
      have : l.any (strayB part) = true := List.any_eq_true.2 ⟨n, hn, h⟩
      rw [hs] at this; cases this
    rw [ahead_congr (T' := talkS part) 10 [] l (fun n hn => talk_same (hno n hn))]
    cases ha : ((ahead (talkS part) 10 [] l).map List.length == some 0)
    · simp
    · rw [((roles_perm (ahead_all ha)).2).length_eq]; simp
  · cases ha : ((ahead (talkS part) 10 [] l).map List.length == some 0)
    · simp
    · exfalso
      obtain ⟨n, hn, hst⟩ := List.any_eq_true.1 hs
      rw [node_stray (ahead_all ha n hn)] at hst
      cases hst
end Go.Proofs.YtehodjfgojcnlaaGreat
