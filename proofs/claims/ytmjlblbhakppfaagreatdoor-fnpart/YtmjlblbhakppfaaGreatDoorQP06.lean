import Derived.Test.YtmjlblbhakppfaaGreatDoorQP04
namespace Go.Proofs.YtmjlblbhakppfaaGreatDoor
open Go.RowKit

abbrev noT : ByteArray := ByteArray.empty
structure Br (α : Type) where
  l : ByteArray
  s : Int
  p : α
structure Tk where
  op : Int
  a : ByteArray
  b : ByteArray
def Pn : Nat → Type
  | 0 => Option ByteArray
  | n + 1 => Sum (Option ByteArray) (Sum (ByteArray × Pn n) (Tk × List (Br (Pn n))))
def Pn.leaf {n : Nat} (x : Option ByteArray) : Pn (n + 1) := Sum.inl x
def Pn.loop {n : Nat} (x : ByteArray) (q : Pn n) : Pn (n + 1) := Sum.inr (Sum.inl (x, q))
def Pn.talk {n : Nat} (t : Tk) (l : List (Br (Pn n))) : Pn (n + 1) := Sum.inr (Sum.inr (t, l))
theorem Pn.cases {n : Nat} {P : Pn (n + 1) → Prop} (h1 : ∀ x, P (.leaf x)) (h2 : ∀ x q, P (.loop x q)) (h3 : ∀ t l, P (.talk t l)) : ∀ p, P p
  | Sum.inl x => h1 x
  | Sum.inr (Sum.inl (x, q)) => h2 x q
  | Sum.inr (Sum.inr (t, l)) => h3 t l
def Pn.by {n : Nat} {β : Type} (f1 : Option ByteArray → β) (f2 : ByteArray → Pn n → β) (f3 : Tk → List (Br (Pn n)) → β) : Pn (n + 1) → β
  | Sum.inl x => f1 x
  | Sum.inr (Sum.inl (x, q)) => f2 x q
  | Sum.inr (Sum.inr (t, l)) => f3 t l
def leafRow : Option ByteArray → List Nd
  | none => [⟨0, noT, noT, 0, 0⟩]
  | some x => [⟨1, x, noT, 0, 0⟩]
def brsBy {α : Type} (f : α → List Nd) (l : List (Br α)) : List Nd := l.flatMap fun b => ⟨4, b.l, noT, 0, b.s⟩ :: f b.p
theorem brs_cons {α : Type} (f : α → List Nd) (b : Br α) (l : List (Br α)) : brsBy f (b :: l) = ⟨4, b.l, noT, 0, b.s⟩ :: (f b.p ++ brsBy f l) := by rw [brsBy, List.flatMap_cons]; rfl
theorem brs_app {α : Type} (f : α → List Nd) (l r : List (Br α)) : brsBy f (l ++ r) = brsBy f l ++ brsBy f r := by unfold brsBy; rw [List.flatMap_append]
def rowN : (n : Nat) → Pn n → List Nd
  | 0, x => leafRow x
  | n + 1, p => p.by leafRow (fun x q => ⟨2, x, noT, 0, 0⟩ :: rowN n q) (fun t l => ⟨t.op, t.a, t.b, (l.length : Int), 0⟩ :: brsBy (rowN n) l)
theorem row_leaf {n : Nat} (x : Option ByteArray) : rowN (n + 1) (.leaf x) = leafRow x := rfl
theorem row_loop {n : Nat} (x : ByteArray) (q : Pn n) : rowN (n + 1) (.loop x q) = ⟨2, x, noT, 0, 0⟩ :: rowN n q := rfl
theorem row_talk {n : Nat} (t : Tk) (l : List (Br (Pn n))) : rowN (n + 1) (.talk t l) = ⟨t.op, t.a, t.b, (l.length : Int), 0⟩ :: brsBy (rowN n) l := rfl
def ndEq (a b : Nd) : Bool := a.op == b.op && a.name.toList == b.name.toList && a.peer.toList == b.peer.toList && a.many == b.many && a.sort == b.sort
def rowEq : List Nd → List Nd → Bool
  | [], [] => true
  | a :: l, b :: r => ndEq a b && rowEq l r
  | _, _ => false
def findB {α : Type} (t : ByteArray) : List (Br α) → Option Nat
  | [] => none
  | b :: r => if b.l.toList == t.toList then some 0 else (findB t r).map (· + 1)
def mergeBy {α : Type} (mg : α → α → Option α) : List (Br α) → List (Br α) → Option (List (Br α))
  | acc, [] => some acc
  | acc, d :: ds =>
    match findB d.l acc with
    | none => mergeBy mg (acc ++ [d]) ds
    | some i => match acc[i]? with
      | none => none
      | some b => match mg b.p d.p with
        | none => none
        | some q => if b.s == d.s then mergeBy mg (acc.set i ⟨b.l, b.s, q⟩) ds else none
def hearN {n : Nat} (p : Pn (n + 1)) : Option (ByteArray × List (Br (Pn n))) := p.by (fun _ => none) (fun _ _ => none) (fun t l => if t.op == 6 then some (t.b, l) else none)
def mergeN : (n : Nat) → Pn n → Pn n → Option (Pn n)
  | 0, x, y => if rowEq (rowN 0 x) (rowN 0 y) then some x else none
  | n + 1, x, y => if rowEq (rowN (n + 1) x) (rowN (n + 1) y) then some x else
    match hearN x, hearN y with
    | some (a, cs), some (b, ds) => if a.toList == b.toList then
        match mergeBy (mergeN n) cs ds with
        | some l => if l.length ≤ 4 then some (.talk ⟨6, noT, a⟩ l) else none
        | none => none
      else none
    | _, _ => none
def mergeAll {α : Type} (mg : α → α → Option α) : α → List (Br α) → Option α
  | x, [] => some x
  | x, b :: r => match mg x b.p with
    | none => none
    | some q => mergeAll mg q r
def hasRole (role : ByteArray) (l : List Nd) : Bool := l.any fun n => n.op == 3 && (n.name.toList == role.toList || n.peer.toList == role.toList)
def closedL : List ByteArray → List Nd → Bool
  | _, [] => true
  | ns, n :: l => if n.op == 2 then closedL (ns ++ [n.name]) l else if n.op == 1 && !hasB ns n.name then false else closedL ns l
def idleL (role : ByteArray) (l : List Nd) : Bool := !hasRole role l && closedL [] l
def upN : (n : Nat) → Pn n → Pn (n + 1)
  | 0, x => .leaf x
  | n + 1, p => p.by (fun x => .leaf x) (fun x q => .loop x (upN n q)) (fun t l => .talk t (l.map fun b => ⟨b.l, b.s, upN n b.p⟩))
def partsBy {α : Type} (f : α → Option α) : List (Br α) → Option (List (Br α))
  | [] => some []
  | b :: l => match f b.p with
    | none => none
    | some q => match partsBy f l with
      | none => none
      | some r => some (⟨b.l, b.s, q⟩ :: r)
def partN (role : ByteArray) : (n : Nat) → Pn n → Option (Pn n)
  | 0, x => some x
  | n + 1, p => p.by (fun x => some (.leaf x)) (fun x q => if idleL role (rowN (n + 1) (.loop x q)) then some (.leaf none) else (partN role n q).map (Pn.loop x))
    (fun t l => match partsBy (partN role n) l with
      | none => none
      | some r => if role.toList == t.a.toList then some (.talk ⟨5, noT, t.b⟩ r) else if role.toList == t.b.toList then some (.talk ⟨6, noT, t.a⟩ r) else
        match r with
        | [] => none
        | c :: r => (mergeAll (mergeN n) c.p r).map (upN n))
theorem up_row : ∀ (n : Nat) (p : Pn n), rowN (n + 1) (upN n p) = rowN n p := by
  intro n
  induction n with
  | zero => intro p; rfl
  | succ n ih =>
    refine Pn.cases (fun x => rfl) (fun x q => ?_) (fun t l => ?_)
    · show (⟨2, x, noT, 0, 0⟩ : Nd) :: rowN (n + 1) (upN n q) = _
      rw [ih q]; rfl
    · show (⟨t.op, t.a, t.b, ((l.map fun b => (⟨b.l, b.s, upN n b.p⟩ : Br (Pn (n + 1)))).length : Int), 0⟩ : Nd) :: brsBy (rowN (n + 1)) (l.map fun b => ⟨b.l, b.s, upN n b.p⟩) = _
      rw [List.length_map, row_talk, brsBy, brsBy, List.flatMap_map]
      congr 2
      funext b
      rw [ih b.p]
theorem empty_of {t : ByteArray} (h : (t.toList == []) = true) : t = noT := by
  have h1 := beq_iff_eq.1 h
  rw [Go.ByteArray.toList_eq] at h1
  apply ByteArray.ext
  exact Array.ext' h1
def planN : (n : Nat) → Pn n → Prop
  | 0, _ => True
  | n + 1, p => p.by (fun _ => True) (fun _ q => planN n q) (fun t l => t.op = 3 ∧ (t.a.toList == t.b.toList) = false ∧ 1 ≤ l.length ∧ l.length ≤ 4 ∧ ∀ b ∈ l, planN n b.p)
theorem kids_parse {go : List Nd → Option (List Nd)} {n : Nat} (hgo : ∀ l r, go l = some r → ∃ p : Pn n, l = rowN n p ++ r ∧ planN n p) : ∀ (m : Nat) (ls : List ByteArray) (l r : List Nd), kidsBy go m ls l = some r → ∃ cs : List (Br (Pn n)), cs.length = m ∧ l = brsBy (rowN n) cs ++ r ∧ ∀ b ∈ cs, planN n b.p
  | 0, ls, l, r, h => by
    rw [kidsBy] at h
    injection h with h
    subst h
    exact ⟨[], rfl, rfl, fun b hb => by cases hb⟩
  | m + 1, ls, [], r, h => by cases h
  | m + 1, ls, c :: l, r, h => by
    rw [kidsBy] at h
    split at h
    · rename_i hc
      split at h
      · cases h
      · rename_i r1 hr1
        obtain ⟨p, e, hp⟩ := hgo l r1 hr1
        obtain ⟨cs, hl, e2, hcs⟩ := kids_parse hgo m _ _ _ h
        obtain ⟨op, name, peer, many, sort⟩ := c
        simp only [caseB, Bool.and_eq_true, beq_iff_eq] at hc
        obtain ⟨⟨⟨⟨⟨h1, h2⟩, h3⟩, -⟩, -⟩, -⟩ := hc
        have h2' : peer = noT := empty_of (by simpa using h2)
        subst h1
        subst h2'
        subst h3
        refine ⟨⟨name, sort, p⟩ :: cs, by rw [List.length_cons, hl], ?_, ?_⟩
        · rw [e, e2, brs_cons, List.cons_append, List.append_assoc]
        · intro b hb
          rw [List.mem_cons] at hb
          rcases hb with rfl | hb
          · exact hp
          · exact hcs b hb
    · cases h
theorem leaf_parse {f : Nat} {st l r : List Nd} {n : Nd} (h : ahead (talkS false) f st (n :: l) = some r) (h01 : n.op = 0 ∨ n.op = 1) : ∃ x, n :: l = leafRow x ++ r := by
  obtain ⟨op, name, peer, many, sort⟩ := n
  rcases h01 with h0 | h1
  · rw [ahead_0 h0] at h
    split at h
    · rename_i hv
      injection h with h
      subst h
      dsimp only at h0
      subst h0
      simp only [endB, Bool.and_eq_true, beq_iff_eq] at hv
      obtain ⟨⟨⟨⟨-, h1'⟩, h2⟩, h3⟩, h4⟩ := hv
      have h1'' : name = noT := empty_of (by simpa using h1')
      have h2' : peer = noT := empty_of (by simpa using h2)
      subst h1''; subst h2'; subst h3; subst h4
      exact ⟨none, rfl⟩
    · cases h
  · rw [ahead_1 h1] at h
    split at h
    · rename_i hv
      injection h with h
      subst h
      dsimp only at h1
      subst h1
      simp only [varB, Bool.and_eq_true, beq_iff_eq] at hv
      obtain ⟨⟨⟨⟨-, h2⟩, h3⟩, h4⟩, -⟩ := hv
      have h2' : peer = noT := empty_of (by simpa using h2)
      subst h2'; subst h3; subst h4
      exact ⟨some name, rfl⟩
    · cases h
theorem parse : ∀ (f : Nat) (st l r : List Nd), ahead (talkS false) f st l = some r → ∃ p : Pn f, l = rowN f p ++ r ∧ planN f p := by
  intro f
  induction f with
  | zero =>
    intro st l r h
    cases l with
    | nil => cases h
    | cons n l =>
      by_cases h01 : n.op = 0 ∨ n.op = 1
      · obtain ⟨x, e⟩ := leaf_parse h h01
        exact ⟨x, e, trivial⟩
      · rw [ahead_t0 (fun h => h01 (.inl h)) (fun h => h01 (.inr h))] at h; cases h
  | succ f ih =>
    intro st l r h
    cases l with
    | nil => cases h
    | cons n l =>
      by_cases h01 : n.op = 0 ∨ n.op = 1
      · obtain ⟨x, e⟩ := leaf_parse h h01
        exact ⟨.leaf x, e, trivial⟩
      · obtain ⟨op, name, peer, many, sort⟩ := n
        have h0 : op ≠ 0 := fun h => h01 (.inl h)
        have h1 : op ≠ 1 := fun h => h01 (.inr h)
        by_cases h2 : op = 2
        · rw [ahead_2 h2] at h
          split at h
          · rename_i hv
            subst h2
            simp only [recB, Bool.and_eq_true, beq_iff_eq] at hv
            obtain ⟨⟨⟨⟨⟨-, h2⟩, h3⟩, h4⟩, -⟩, -⟩ := hv
            have h2' : peer = noT := empty_of (by simpa using h2)
            subst h2'; subst h3; subst h4
            obtain ⟨p, e, hp⟩ := ih _ l r h
            exact ⟨.loop name p, by rw [row_loop, e]; rfl, hp⟩
          · cases h
        · rw [ahead_t h0 h1 h2] at h
          split at h
          · rename_i hv
            simp only [talkS, manyB, Bool.and_eq_true, decide_eq_true_eq, beq_iff_eq, Bool.not_eq_true', Bool.false_eq_true, if_false] at hv
            obtain ⟨⟨⟨-, hm⟩, h4⟩, ⟨h3, -⟩, hne⟩ := hv
            dsimp only at h
            obtain ⟨cs, hl, e, hcs⟩ := kids_parse (fun l r => ih _ l r) _ _ _ _ h
            subst h3
            subst h4
            have hM : many = (cs.length : Int) := by rw [hl]; omega
            subst hM
            exact ⟨.talk ⟨3, name, peer⟩ cs, by rw [row_talk, e]; rfl, rfl, hne, by omega, by omega, hcs⟩
          · cases h
end Go.Proofs.YtmjlblbhakppfaaGreatDoor
namespace Go.Proofs.YtmjlblbhakppfaaGreatDoor
open Go.RowKit

set_option maxRecDepth 100000 in
set_option maxHeartbeats 1000000 in
theorem rec_step_b (f : Nat) (hih : ∀ g, f = g + 1 → PlanCalls g) (st : List Nd) (name peer : ByteArray) (many sort : Int) (l1 : List Nd) (p : Value) (w : World) (B b o cap : Nat) (hlen : st.length + f = 10) (ok : ∀ x ∈ ⟨2, name, peer, many, sort⟩ :: l1, x.ok) (hB : B ≤ w.heap.size) (hbB : b < B) (hc1 : (⟨2, name, peer, many, sort⟩ :: l1).length ≤ cap) (hc2 : cap ≤ 9223372036854775807 ∧ l1.length < 4294967296) (hcap : cap ≠ 1) (hrow : RowAt w b o (⟨2, name, peer, many, sort⟩ :: l1)) (hp : PlaceAt w p st) :
    Calls Tryz.prog 80 #[.slice (some ⟨b, o, none⟩) (⟨2, name, peer, many, sort⟩ :: l1 : List Nd).length cap, p] w fun e w' => Told w' B e (ahead talkI f st (⟨2, name, peer, many, sort⟩ :: l1)) ∧ Below w.heap.size w w' := by
  have HP := hide hp
  have HO := hide ok
  have HN := hide (ok ⟨2, name, peer, many, sort⟩ (by simp))
  have HL := hide hlen
  have HB := hide hB
  have HBB := hide hbB
  have HR := hide hrow
  have HC1 := hide hc1
  have HC2 := hide hc2
  obtain ⟨u, rfl⟩ := hp.shape
  have hc0 := hc1
  simp only [List.length_cons] at hc1
  have hrow0 := hrow
  obtain ⟨⟨c0, c1, c2, c3, c4⟩, -⟩ := hrow
  dsimp only at c0 c1 c2 c3 c4
  have hbw : b < w.heap.size := World.block_lt_of_cell? w _ c0
  have hz : ((l1.length : Int) + 1 == 0) = false := beq_eq_false_iff_ne.2 (by omega)
  have HSX : Hid (SlAt w B (.slice (some ⟨b, o + 5, none⟩) l1.length (cap - 1)) l1) := hide (SlAt.tail hbB hrow0 hc0 hc2 _ (fun _ => rfl))
  clear hrow0 hc0
  clear ok hlen hB hbB hp hc2
  have HFU := hide (show fullB st = (f == 0) by rw [fullB]; have := HL.out; cases f <;> simp <;> omega)
  obtain ⟨rb, hrb⟩ : ∃ rb, recB ⟨2, name, peer, many, sort⟩ = rb := ⟨_, rfl⟩
  obtain ⟨wi, hwi⟩ : ∃ wi, withinB st name = wi := ⟨_, rfl⟩
  have HRB := hide hrb
  have HWI := hide hwi
  clear hrb hwi
  cases rb
  · go_enter Tryz.func80, Tryz.ntmps80
    go_wp2_with fail
    go_region
    go_wp2_with (go_at_call 111; refine (rec_right ⟨2, name, peer, many, sort⟩ _ HN.out).mono ?_; rintro e w1 ⟨rfl, hb1⟩; rw [HRB.out]; obtain ⟨d0, d1, d2, d3, d4⟩ := NodeAt.carry (B := _) (boxed w ⟨2, name, peer, many, sort⟩ 45) (by simp) hb1; dsimp only at d0 d1 d2 d3 d4; have hs1 : w.heap.size < w1.heap.size := (by have := hb1.size; simp at this; omega); have HB1 : Hid (Below w.heap.size w w1) := hide ((alloc1 _ _).drew.trans (hb1.mono (by simp))); clear hb1)
    go_ret2
    refine told_none HB1.out ?_
    cases f
    · exact ahead_20 rfl
    · rw [ahead_2 rfl, HRB.out]; rfl
  · cases wi
    · cases f with
      | zero =>
        go_enter Tryz.func80, Tryz.ntmps80
        go_wp2_with fail
        go_region
        go_wp2_with (first | (go_at_call 111; refine (rec_right ⟨2, name, peer, many, sort⟩ _ HN.out).mono ?_; rintro e w1 ⟨rfl, hb1⟩; rw [HRB.out]; obtain ⟨d0, d1, d2, d3, d4⟩ := NodeAt.carry (B := _) (boxed w ⟨2, name, peer, many, sort⟩ 45) (by simp) hb1; dsimp only at d0 d1 d2 d3 d4; have hs1 : w.heap.size < w1.heap.size := (by have := hb1.size; simp at this; omega); have HB1 : Hid (Below w.heap.size w w1) := hide ((alloc1 _ _).drew.trans (hb1.mono (by simp))); clear hb1) | (go_at_call 112; refine (p_within st _ name _ (PlaceAt.carry HB1.out HP.out)).mono ?_; rintro e w' ⟨rfl, rfl⟩; rw [HWI.out]) | (go_at_call 113; refine (p_full st _ _ (PlaceAt.carry HB1.out HP.out)).mono ?_; rintro e w' ⟨rfl, rfl⟩; rw [HFU.out, show ((0 : Nat) == 0) = true from rfl]))
        go_ret2
        refine told_none HB1.out ?_
        exact ahead_20 rfl
      | succ f =>
        have HI := hide (hih f rfl)
        clear hih
        go_enter Tryz.func80, Tryz.ntmps80
        go_wp2_with fail
        go_region
        go_wp2_with (first | (go_at_call 111; refine (rec_right ⟨2, name, peer, many, sort⟩ _ HN.out).mono ?_; rintro e w1 ⟨rfl, hb1⟩; rw [HRB.out]; obtain ⟨d0, d1, d2, d3, d4⟩ := NodeAt.carry (B := _) (boxed w ⟨2, name, peer, many, sort⟩ 45) (by simp) hb1; dsimp only at d0 d1 d2 d3 d4; have hs1 : w.heap.size < w1.heap.size := (by have := hb1.size; simp at this; omega); have HB1 : Hid (Below w.heap.size w w1) := hide ((alloc1 _ _).drew.trans (hb1.mono (by simp))); clear hb1) | (go_at_call 112; refine (p_within st _ name _ (PlaceAt.carry HB1.out HP.out)).mono ?_; rintro e w' ⟨rfl, rfl⟩; rw [HWI.out]) | (go_at_call 113; refine (p_full st _ _ (PlaceAt.carry HB1.out HP.out)).mono ?_; rintro e w' ⟨rfl, rfl⟩; rw [HFU.out, show (f + 1 == 0) = false from rfl]))
        go_wp2_with (first | (go_at_call 114; refine (p_inner st _ ⟨2, name, peer, many, sort⟩ _ (PlaceAt.carry HB1.out HP.out) (by have := HL.out; omega)).mono ?_; rintro e w2 ⟨q, rfl, hq, hb2⟩; obtain ⟨uq, rfl⟩ := hq.shape; have HQ := hide hq; have HB2 := hide (HB1.out.trans (hb2.mono HB1.out.size)); clear hq hb2) | (go_at_call 80; refine (HI.out (⟨2, name, peer, many, sort⟩ :: st) l1 _ _ _ B (by have := HL.out; simp; omega) (fun x hx => HO.out x (List.mem_cons_of_mem _ hx)) (Nat.le_trans HB.out HB2.out.size) (HSX.out.carry (HB2.out.mono HB.out)) HQ.out).mono ?_; rintro e w3 ⟨⟨v3, rfl, hs3⟩, hb3⟩; have HS3 := hide hs3; have HB3 := hide hb3; clear hs3 hb3))
        go_ret2
        exact told_on ⟨v3, rfl, HS3.out⟩ HB2.out HB3.out (by rw [ahead_2 rfl, HRB.out]; simp [HWI.out])
    · go_enter Tryz.func80, Tryz.ntmps80
      go_wp2_with fail
      go_region
      go_wp2_with (first | (go_at_call 111; refine (rec_right ⟨2, name, peer, many, sort⟩ _ HN.out).mono ?_; rintro e w1 ⟨rfl, hb1⟩; rw [HRB.out]; obtain ⟨d0, d1, d2, d3, d4⟩ := NodeAt.carry (B := _) (boxed w ⟨2, name, peer, many, sort⟩ 45) (by simp) hb1; dsimp only at d0 d1 d2 d3 d4; have hs1 : w.heap.size < w1.heap.size := (by have := hb1.size; simp at this; omega); have HB1 : Hid (Below w.heap.size w w1) := hide ((alloc1 _ _).drew.trans (hb1.mono (by simp))); clear hb1) | (go_at_call 112; refine (p_within st _ name _ (PlaceAt.carry HB1.out HP.out)).mono ?_; rintro e w' ⟨rfl, rfl⟩; rw [HWI.out]))
      go_ret2
      refine told_none HB1.out ?_
      cases f
      · exact ahead_20 rfl
      · rw [ahead_2 rfl]; simp [HWI.out]

set_option maxRecDepth 100000 in
set_option maxHeartbeats 1000000 in
theorem rec_step_a (f : Nat) (hih : ∀ g, f = g + 1 → PlanCalls g) (st : List Nd) (name peer : ByteArray) (many sort : Int) (l1 : List Nd) (p : Value) (w : World) (B b o cap : Nat) (hlen : st.length + f = 10) (ok : ∀ x ∈ ⟨2, name, peer, many, sort⟩ :: l1, x.ok) (hB : B ≤ w.heap.size) (hbB : b < B) (hc1 : (⟨2, name, peer, many, sort⟩ :: l1).length ≤ cap) (hc2 : cap ≤ 9223372036854775807 ∧ l1.length < 4294967296) (hcap : cap = 1) (hrow : RowAt w b o (⟨2, name, peer, many, sort⟩ :: l1)) (hp : PlaceAt w p st) :
    Calls Tryz.prog 80 #[.slice (some ⟨b, o, none⟩) (⟨2, name, peer, many, sort⟩ :: l1 : List Nd).length cap, p] w fun e w' => Told w' B e (ahead talkI f st (⟨2, name, peer, many, sort⟩ :: l1)) ∧ Below w.heap.size w w' := by
  have HP := hide hp
  have HO := hide ok
  have HN := hide (ok ⟨2, name, peer, many, sort⟩ (by simp))
  have HL := hide hlen
  have HB := hide hB
  have HBB := hide hbB
  have HR := hide hrow
  have HC1 := hide hc1
  have HC2 := hide hc2
  obtain ⟨u, rfl⟩ := hp.shape
  simp only [List.length_cons] at hc1
  obtain ⟨⟨c0, c1, c2, c3, c4⟩, -⟩ := hrow
  dsimp only at c0 c1 c2 c3 c4
  have hbw : b < w.heap.size := World.block_lt_of_cell? w _ c0
  have hz : ((l1.length : Int) + 1 == 0) = false := beq_eq_false_iff_ne.2 (by omega)
  have HL1 : Hid (l1.length = 0) := hide (by omega)
  have HSX : Hid (SlAt w B (.slice (some ⟨b, o, none⟩) 0 0) l1) := hide (by rw [List.length_eq_zero_iff.1 HL1.out]; exact ⟨_, _, rfl, Nat.le_refl _, by simp, fun h => absurd rfl h⟩)
  subst hcap
  clear ok hlen hB hbB hp hc2
  have HFU := hide (show fullB st = (f == 0) by rw [fullB]; have := HL.out; cases f <;> simp <;> omega)
  obtain ⟨rb, hrb⟩ : ∃ rb, recB ⟨2, name, peer, many, sort⟩ = rb := ⟨_, rfl⟩
  obtain ⟨wi, hwi⟩ : ∃ wi, withinB st name = wi := ⟨_, rfl⟩
  have HRB := hide hrb
  have HWI := hide hwi
  clear hrb hwi
  cases rb
  · go_enter Tryz.func80, Tryz.ntmps80
    go_wp2_with fail
    go_region
    go_wp2_with (go_at_call 111; refine (rec_right ⟨2, name, peer, many, sort⟩ _ HN.out).mono ?_; rintro e w1 ⟨rfl, hb1⟩; rw [HRB.out]; obtain ⟨d0, d1, d2, d3, d4⟩ := NodeAt.carry (B := _) (boxed w ⟨2, name, peer, many, sort⟩ 45) (by simp) hb1; dsimp only at d0 d1 d2 d3 d4; have hs1 : w.heap.size < w1.heap.size := (by have := hb1.size; simp at this; omega); have HB1 : Hid (Below w.heap.size w w1) := hide ((alloc1 _ _).drew.trans (hb1.mono (by simp))); clear hb1)
    go_ret2
    refine told_none HB1.out ?_
    cases f
    · exact ahead_20 rfl
    · rw [ahead_2 rfl, HRB.out]; rfl
  · cases wi
    · cases f with
      | zero =>
        go_enter Tryz.func80, Tryz.ntmps80
        go_wp2_with fail
        go_region
        go_wp2_with (first | (go_at_call 111; refine (rec_right ⟨2, name, peer, many, sort⟩ _ HN.out).mono ?_; rintro e w1 ⟨rfl, hb1⟩; rw [HRB.out]; obtain ⟨d0, d1, d2, d3, d4⟩ := NodeAt.carry (B := _) (boxed w ⟨2, name, peer, many, sort⟩ 45) (by simp) hb1; dsimp only at d0 d1 d2 d3 d4; have hs1 : w.heap.size < w1.heap.size := (by have := hb1.size; simp at this; omega); have HB1 : Hid (Below w.heap.size w w1) := hide ((alloc1 _ _).drew.trans (hb1.mono (by simp))); clear hb1) | (go_at_call 112; refine (p_within st _ name _ (PlaceAt.carry HB1.out HP.out)).mono ?_; rintro e w' ⟨rfl, rfl⟩; rw [HWI.out]) | (go_at_call 113; refine (p_full st _ _ (PlaceAt.carry HB1.out HP.out)).mono ?_; rintro e w' ⟨rfl, rfl⟩; rw [HFU.out, show ((0 : Nat) == 0) = true from rfl]))
        go_ret2
        refine told_none HB1.out ?_
        exact ahead_20 rfl
      | succ f =>
        have HI := hide (hih f rfl)
        clear hih
        go_enter Tryz.func80, Tryz.ntmps80
        go_wp2_with fail
        go_region
        go_wp2_with (first | (go_at_call 111; refine (rec_right ⟨2, name, peer, many, sort⟩ _ HN.out).mono ?_; rintro e w1 ⟨rfl, hb1⟩; rw [HRB.out]; obtain ⟨d0, d1, d2, d3, d4⟩ := NodeAt.carry (B := _) (boxed w ⟨2, name, peer, many, sort⟩ 45) (by simp) hb1; dsimp only at d0 d1 d2 d3 d4; have hs1 : w.heap.size < w1.heap.size := (by have := hb1.size; simp at this; omega); have HB1 : Hid (Below w.heap.size w w1) := hide ((alloc1 _ _).drew.trans (hb1.mono (by simp))); clear hb1) | (go_at_call 112; refine (p_within st _ name _ (PlaceAt.carry HB1.out HP.out)).mono ?_; rintro e w' ⟨rfl, rfl⟩; rw [HWI.out]) | (go_at_call 113; refine (p_full st _ _ (PlaceAt.carry HB1.out HP.out)).mono ?_; rintro e w' ⟨rfl, rfl⟩; rw [HFU.out, show (f + 1 == 0) = false from rfl]))
        go_wp2_with (first | (go_at_call 114; refine (p_inner st _ ⟨2, name, peer, many, sort⟩ _ (PlaceAt.carry HB1.out HP.out) (by have := HL.out; omega)).mono ?_; rintro e w2 ⟨q, rfl, hq, hb2⟩; obtain ⟨uq, rfl⟩ := hq.shape; have HQ := hide hq; have HB2 := hide (HB1.out.trans (hb2.mono HB1.out.size)); clear hq hb2) | (go_at_call 80; refine (HI.out (⟨2, name, peer, many, sort⟩ :: st) l1 _ _ _ B (by have := HL.out; simp; omega) (fun x hx => HO.out x (List.mem_cons_of_mem _ hx)) (Nat.le_trans HB.out HB2.out.size) (HSX.out.carry (HB2.out.mono HB.out)) HQ.out).mono ?_; rintro e w3 ⟨⟨v3, rfl, hs3⟩, hb3⟩; have HS3 := hide hs3; have HB3 := hide hb3; clear hs3 hb3))
        go_ret2
        exact told_on ⟨v3, rfl, HS3.out⟩ HB2.out HB3.out (by rw [ahead_2 rfl, HRB.out]; simp [HWI.out])
    · go_enter Tryz.func80, Tryz.ntmps80
      go_wp2_with fail
      go_region
      go_wp2_with (first | (go_at_call 111; refine (rec_right ⟨2, name, peer, many, sort⟩ _ HN.out).mono ?_; rintro e w1 ⟨rfl, hb1⟩; rw [HRB.out]; obtain ⟨d0, d1, d2, d3, d4⟩ := NodeAt.carry (B := _) (boxed w ⟨2, name, peer, many, sort⟩ 45) (by simp) hb1; dsimp only at d0 d1 d2 d3 d4; have hs1 : w.heap.size < w1.heap.size := (by have := hb1.size; simp at this; omega); have HB1 : Hid (Below w.heap.size w w1) := hide ((alloc1 _ _).drew.trans (hb1.mono (by simp))); clear hb1) | (go_at_call 112; refine (p_within st _ name _ (PlaceAt.carry HB1.out HP.out)).mono ?_; rintro e w' ⟨rfl, rfl⟩; rw [HWI.out]))
      go_ret2
      refine told_none HB1.out ?_
      cases f
      · exact ahead_20 rfl
      · rw [ahead_2 rfl]; simp [HWI.out]
end Go.Proofs.YtmjlblbhakppfaaGreatDoor
namespace Go.Proofs.YtmjlblbhakppfaaGreatDoor
open Go.RowKit

set_option maxRecDepth 100000 in
set_option maxHeartbeats 1000000 in
theorem msg5_step_b (f : Nat) (hih : ∀ g, f = g + 1 → PlanCalls g) (st : List Nd) (name peer : ByteArray) (many sort : Int) (l1 : List Nd) (p : Value) (w : World) (B b o cap : Nat) (hlen : st.length + f = 10) (ok : ∀ x ∈ ⟨5, name, peer, many, sort⟩ :: l1, x.ok) (hB : B ≤ w.heap.size) (hbB : b < B) (hc1 : (⟨5, name, peer, many, sort⟩ :: l1).length ≤ cap) (hc2 : cap ≤ 9223372036854775807 ∧ l1.length < 4294967296) (hcap : cap ≠ 1) (hrow : RowAt w b o (⟨5, name, peer, many, sort⟩ :: l1)) (hp : PlaceAt w p st) :
    Calls Tryz.prog 80 #[.slice (some ⟨b, o, none⟩) (⟨5, name, peer, many, sort⟩ :: l1 : List Nd).length cap, p] w fun e w' => Told w' B e (ahead talkI f st (⟨5, name, peer, many, sort⟩ :: l1)) ∧ Below w.heap.size w w' := by
  have HP := hide hp
  have HO := hide ok
  have HN := hide (ok ⟨5, name, peer, many, sort⟩ (by simp))
  have HL := hide hlen
  have HB := hide hB
  have HBB := hide hbB
  have HR := hide hrow
  have HC1 := hide hc1
  have HC2 := hide hc2
  obtain ⟨u, rfl⟩ := hp.shape
  have hc0 := hc1
  simp only [List.length_cons] at hc1
  have hrow0 := hrow
  obtain ⟨⟨c0, c1, c2, c3, c4⟩, -⟩ := hrow
  dsimp only at c0 c1 c2 c3 c4
  have hbw : b < w.heap.size := World.block_lt_of_cell? w _ c0
  have hz : ((l1.length : Int) + 1 == 0) = false := beq_eq_false_iff_ne.2 (by omega)
  have HSX : Hid (SlAt w B (.slice (some ⟨b, o + 5, none⟩) l1.length (cap - 1)) l1) := hide (SlAt.tail hbB hrow0 hc0 hc2 _ (fun _ => rfl))
  clear hrow0 hc0
  clear ok hlen hB hbB hp hc2
  have HFU := hide (show fullB st = (f == 0) by rw [fullB]; have := HL.out; cases f <;> simp <;> omega)
  obtain ⟨rb, hrb⟩ : ∃ rb, talkI ⟨5, name, peer, many, sort⟩ = rb := ⟨_, rfl⟩
  have HRB := hide hrb
  clear hrb
  cases rb
  · go_enter Tryz.func80, Tryz.ntmps80
    go_wp2_with fail
    go_region
    go_wp2_with (go_at_call 115; refine (talk_right ⟨5, name, peer, many, sort⟩ _ HN.out (by first | exact .inl rfl | exact .inr (.inl rfl) | exact .inr (.inr rfl))).mono ?_; rintro e w1 ⟨rfl, hb1⟩; rw [HRB.out]; obtain ⟨d0, d1, d2, d3, d4⟩ := NodeAt.carry (B := _) (boxed w ⟨5, name, peer, many, sort⟩ 45) (by simp) hb1; dsimp only at d0 d1 d2 d3 d4; have hs1 : w.heap.size < w1.heap.size := (by have := hb1.size; simp at this; omega); have HB1 : Hid (Below w.heap.size w w1) := hide ((alloc1 _ _).drew.trans (hb1.mono (by simp))); clear hb1)
    go_ret2
    refine told_none HB1.out ?_
    cases f
    · exact ahead_t0 (by simp) (by simp)
    · rw [ahead_t (by simp) (by simp) (by simp), HRB.out]; rfl
  · cases f with
    | zero =>
        go_enter Tryz.func80, Tryz.ntmps80
        go_wp2_with fail
        go_region
        go_wp2_with (first | (go_at_call 115; refine (talk_right ⟨5, name, peer, many, sort⟩ _ HN.out (by first | exact .inl rfl | exact .inr (.inl rfl) | exact .inr (.inr rfl))).mono ?_; rintro e w1 ⟨rfl, hb1⟩; rw [HRB.out]; obtain ⟨d0, d1, d2, d3, d4⟩ := NodeAt.carry (B := _) (boxed w ⟨5, name, peer, many, sort⟩ 45) (by simp) hb1; dsimp only at d0 d1 d2 d3 d4; have hs1 : w.heap.size < w1.heap.size := (by have := hb1.size; simp at this; omega); have HB1 : Hid (Below w.heap.size w w1) := hide ((alloc1 _ _).drew.trans (hb1.mono (by simp))); clear hb1) | (go_at_call 113; refine (p_full st _ _ (PlaceAt.carry HB1.out HP.out)).mono ?_; rintro e w' ⟨rfl, rfl⟩; rw [HFU.out, show ((0 : Nat) == 0) = true from rfl]))
        go_ret2
        refine told_none HB1.out ?_
        exact ahead_t0 (by simp) (by simp)
    | succ f =>
        have HI := hide (hih f rfl)
        have HMB : Hid (1 ≤ (Nd.many ⟨5, name, peer, many, sort⟩) ∧ (Nd.many ⟨5, name, peer, many, sort⟩) ≤ 4) := hide (by have := HRB.out; simp [talkI, manyB] at this; exact this.1.1.2)
        clear hih
        go_enter Tryz.func80, Tryz.ntmps80
        go_wp2_with fail
        go_region
        go_wp2_with (first | (go_at_call 115; refine (talk_right ⟨5, name, peer, many, sort⟩ _ HN.out (by first | exact .inl rfl | exact .inr (.inl rfl) | exact .inr (.inr rfl))).mono ?_; rintro e w1 ⟨rfl, hb1⟩; rw [HRB.out]; obtain ⟨d0, d1, d2, d3, d4⟩ := NodeAt.carry (B := _) (boxed w ⟨5, name, peer, many, sort⟩ 45) (by simp) hb1; dsimp only at d0 d1 d2 d3 d4; have hs1 : w.heap.size < w1.heap.size := (by have := hb1.size; simp at this; omega); have HB1 : Hid (Below w.heap.size w w1) := hide ((alloc1 _ _).drew.trans (hb1.mono (by simp))); clear hb1) | (go_at_call 113; refine (p_full st _ _ (PlaceAt.carry HB1.out HP.out)).mono ?_; rintro e w' ⟨rfl, rfl⟩; rw [HFU.out, show (f + 1 == 0) = false from rfl]))
        go_wp2_with (first | (go_at_call 114; refine (p_inner st _ ⟨5, name, peer, many, sort⟩ _ (PlaceAt.carry HB1.out HP.out) (by have := HL.out; omega)).mono ?_; rintro e w2 ⟨q, rfl, hq, hb2⟩; obtain ⟨uq, rfl⟩ := hq.shape; have HQ := hide hq; have HB2 := hide (HB1.out.trans (hb2.mono HB1.out.size)); clear hq hb2) | (go_at_call 116; refine (cases_ahead f HI.out ⟨5, name, peer, many, sort⟩ st l1 _ _ _ B (by have := HL.out; simp; omega) HMB.out (fun x hx => HO.out x (List.mem_cons_of_mem _ hx)) (Nat.le_trans HB.out HB2.out.size) (HSX.out.carry (HB2.out.mono HB.out)) HQ.out).mono ?_; rintro e w3 ⟨⟨v3, rfl, hs3⟩, hb3⟩; have HS3 := hide hs3; have HB3 := hide hb3; clear hs3 hb3))
        go_ret2
        exact told_on ⟨v3, rfl, HS3.out⟩ HB2.out HB3.out (by rw [ahead_t (by simp) (by simp) (by simp), HRB.out]; rfl)

set_option maxRecDepth 100000 in
set_option maxHeartbeats 1000000 in
theorem msg5_step_a (f : Nat) (hih : ∀ g, f = g + 1 → PlanCalls g) (st : List Nd) (name peer : ByteArray) (many sort : Int) (l1 : List Nd) (p : Value) (w : World) (B b o cap : Nat) (hlen : st.length + f = 10) (ok : ∀ x ∈ ⟨5, name, peer, many, sort⟩ :: l1, x.ok) (hB : B ≤ w.heap.size) (hbB : b < B) (hc1 : (⟨5, name, peer, many, sort⟩ :: l1).length ≤ cap) (hc2 : cap ≤ 9223372036854775807 ∧ l1.length < 4294967296) (hcap : cap = 1) (hrow : RowAt w b o (⟨5, name, peer, many, sort⟩ :: l1)) (hp : PlaceAt w p st) :
    Calls Tryz.prog 80 #[.slice (some ⟨b, o, none⟩) (⟨5, name, peer, many, sort⟩ :: l1 : List Nd).length cap, p] w fun e w' => Told w' B e (ahead talkI f st (⟨5, name, peer, many, sort⟩ :: l1)) ∧ Below w.heap.size w w' := by
  have HP := hide hp
  have HO := hide ok
  have HN := hide (ok ⟨5, name, peer, many, sort⟩ (by simp))
  have HL := hide hlen
  have HB := hide hB
  have HBB := hide hbB
  have HR := hide hrow
  have HC1 := hide hc1
  have HC2 := hide hc2
  obtain ⟨u, rfl⟩ := hp.shape
  simp only [List.length_cons] at hc1
  obtain ⟨⟨c0, c1, c2, c3, c4⟩, -⟩ := hrow
  dsimp only at c0 c1 c2 c3 c4
  have hbw : b < w.heap.size := World.block_lt_of_cell? w _ c0
  have hz : ((l1.length : Int) + 1 == 0) = false := beq_eq_false_iff_ne.2 (by omega)
  have HL1 : Hid (l1.length = 0) := hide (by omega)
  have HSX : Hid (SlAt w B (.slice (some ⟨b, o, none⟩) 0 0) l1) := hide (by rw [List.length_eq_zero_iff.1 HL1.out]; exact ⟨_, _, rfl, Nat.le_refl _, by simp, fun h => absurd rfl h⟩)
  subst hcap
  clear ok hlen hB hbB hp hc2
  have HFU := hide (show fullB st = (f == 0) by rw [fullB]; have := HL.out; cases f <;> simp <;> omega)
  obtain ⟨rb, hrb⟩ : ∃ rb, talkI ⟨5, name, peer, many, sort⟩ = rb := ⟨_, rfl⟩
  have HRB := hide hrb
  clear hrb
  cases rb
  · go_enter Tryz.func80, Tryz.ntmps80
    go_wp2_with fail
    go_region
    go_wp2_with (go_at_call 115; refine (talk_right ⟨5, name, peer, many, sort⟩ _ HN.out (by first | exact .inl rfl | exact .inr (.inl rfl) | exact .inr (.inr rfl))).mono ?_; rintro e w1 ⟨rfl, hb1⟩; rw [HRB.out]; obtain ⟨d0, d1, d2, d3, d4⟩ := NodeAt.carry (B := _) (boxed w ⟨5, name, peer, many, sort⟩ 45) (by simp) hb1; dsimp only at d0 d1 d2 d3 d4; have hs1 : w.heap.size < w1.heap.size := (by have := hb1.size; simp at this; omega); have HB1 : Hid (Below w.heap.size w w1) := hide ((alloc1 _ _).drew.trans (hb1.mono (by simp))); clear hb1)
    go_ret2
    refine told_none HB1.out ?_
    cases f
    · exact ahead_t0 (by simp) (by simp)
    · rw [ahead_t (by simp) (by simp) (by simp), HRB.out]; rfl
  · cases f with
    | zero =>
        go_enter Tryz.func80, Tryz.ntmps80
        go_wp2_with fail
        go_region
        go_wp2_with (first | (go_at_call 115; refine (talk_right ⟨5, name, peer, many, sort⟩ _ HN.out (by first | exact .inl rfl | exact .inr (.inl rfl) | exact .inr (.inr rfl))).mono ?_; rintro e w1 ⟨rfl, hb1⟩; rw [HRB.out]; obtain ⟨d0, d1, d2, d3, d4⟩ := NodeAt.carry (B := _) (boxed w ⟨5, name, peer, many, sort⟩ 45) (by simp) hb1; dsimp only at d0 d1 d2 d3 d4; have hs1 : w.heap.size < w1.heap.size := (by have := hb1.size; simp at this; omega); have HB1 : Hid (Below w.heap.size w w1) := hide ((alloc1 _ _).drew.trans (hb1.mono (by simp))); clear hb1) | (go_at_call 113; refine (p_full st _ _ (PlaceAt.carry HB1.out HP.out)).mono ?_; rintro e w' ⟨rfl, rfl⟩; rw [HFU.out, show ((0 : Nat) == 0) = true from rfl]))
        go_ret2
        refine told_none HB1.out ?_
        exact ahead_t0 (by simp) (by simp)
    | succ f =>
        have HI := hide (hih f rfl)
        have HMB : Hid (1 ≤ (Nd.many ⟨5, name, peer, many, sort⟩) ∧ (Nd.many ⟨5, name, peer, many, sort⟩) ≤ 4) := hide (by have := HRB.out; simp [talkI, manyB] at this; exact this.1.1.2)
        clear hih
        go_enter Tryz.func80, Tryz.ntmps80
        go_wp2_with fail
        go_region
        go_wp2_with (first | (go_at_call 115; refine (talk_right ⟨5, name, peer, many, sort⟩ _ HN.out (by first | exact .inl rfl | exact .inr (.inl rfl) | exact .inr (.inr rfl))).mono ?_; rintro e w1 ⟨rfl, hb1⟩; rw [HRB.out]; obtain ⟨d0, d1, d2, d3, d4⟩ := NodeAt.carry (B := _) (boxed w ⟨5, name, peer, many, sort⟩ 45) (by simp) hb1; dsimp only at d0 d1 d2 d3 d4; have hs1 : w.heap.size < w1.heap.size := (by have := hb1.size; simp at this; omega); have HB1 : Hid (Below w.heap.size w w1) := hide ((alloc1 _ _).drew.trans (hb1.mono (by simp))); clear hb1) | (go_at_call 113; refine (p_full st _ _ (PlaceAt.carry HB1.out HP.out)).mono ?_; rintro e w' ⟨rfl, rfl⟩; rw [HFU.out, show (f + 1 == 0) = false from rfl]))
        go_wp2_with (first | (go_at_call 114; refine (p_inner st _ ⟨5, name, peer, many, sort⟩ _ (PlaceAt.carry HB1.out HP.out) (by have := HL.out; omega)).mono ?_; rintro e w2 ⟨q, rfl, hq, hb2⟩; obtain ⟨uq, rfl⟩ := hq.shape; have HQ := hide hq; have HB2 := hide (HB1.out.trans (hb2.mono HB1.out.size)); clear hq hb2) | (go_at_call 116; refine (cases_ahead f HI.out ⟨5, name, peer, many, sort⟩ st l1 _ _ _ B (by have := HL.out; simp; omega) HMB.out (fun x hx => HO.out x (List.mem_cons_of_mem _ hx)) (Nat.le_trans HB.out HB2.out.size) (HSX.out.carry (HB2.out.mono HB.out)) HQ.out).mono ?_; rintro e w3 ⟨⟨v3, rfl, hs3⟩, hb3⟩; have HS3 := hide hs3; have HB3 := hide hb3; clear hs3 hb3))
        go_ret2
        exact told_on ⟨v3, rfl, HS3.out⟩ HB2.out HB3.out (by rw [ahead_t (by simp) (by simp) (by simp), HRB.out]; rfl)
end Go.Proofs.YtmjlblbhakppfaaGreatDoor
namespace Go.Proofs.YtmjlblbhakppfaaGreatDoor
open Go.RowKit

set_option maxRecDepth 100000 in
set_option maxHeartbeats 1000000 in
theorem msg6_step_b (f : Nat) (hih : ∀ g, f = g + 1 → PlanCalls g) (st : List Nd) (name peer : ByteArray) (many sort : Int) (l1 : List Nd) (p : Value) (w : World) (B b o cap : Nat) (hlen : st.length + f = 10) (ok : ∀ x ∈ ⟨6, name, peer, many, sort⟩ :: l1, x.ok) (hB : B ≤ w.heap.size) (hbB : b < B) (hc1 : (⟨6, name, peer, many, sort⟩ :: l1).length ≤ cap) (hc2 : cap ≤ 9223372036854775807 ∧ l1.length < 4294967296) (hcap : cap ≠ 1) (hrow : RowAt w b o (⟨6, name, peer, many, sort⟩ :: l1)) (hp : PlaceAt w p st) :
    Calls Tryz.prog 80 #[.slice (some ⟨b, o, none⟩) (⟨6, name, peer, many, sort⟩ :: l1 : List Nd).length cap, p] w fun e w' => Told w' B e (ahead talkI f st (⟨6, name, peer, many, sort⟩ :: l1)) ∧ Below w.heap.size w w' := by
  have HP := hide hp
  have HO := hide ok
  have HN := hide (ok ⟨6, name, peer, many, sort⟩ (by simp))
  have HL := hide hlen
  have HB := hide hB
  have HBB := hide hbB
  have HR := hide hrow
  have HC1 := hide hc1
  have HC2 := hide hc2
  obtain ⟨u, rfl⟩ := hp.shape
  have hc0 := hc1
  simp only [List.length_cons] at hc1
  have hrow0 := hrow
  obtain ⟨⟨c0, c1, c2, c3, c4⟩, -⟩ := hrow
  dsimp only at c0 c1 c2 c3 c4
  have hbw : b < w.heap.size := World.block_lt_of_cell? w _ c0
  have hz : ((l1.length : Int) + 1 == 0) = false := beq_eq_false_iff_ne.2 (by omega)
  have HSX : Hid (SlAt w B (.slice (some ⟨b, o + 5, none⟩) l1.length (cap - 1)) l1) := hide (SlAt.tail hbB hrow0 hc0 hc2 _ (fun _ => rfl))
  clear hrow0 hc0
  clear ok hlen hB hbB hp hc2
  have HFU := hide (show fullB st = (f == 0) by rw [fullB]; have := HL.out; cases f <;> simp <;> omega)
  obtain ⟨rb, hrb⟩ : ∃ rb, talkI ⟨6, name, peer, many, sort⟩ = rb := ⟨_, rfl⟩
  have HRB := hide hrb
  clear hrb
  cases rb
  · go_enter Tryz.func80, Tryz.ntmps80
    go_wp2_with fail
    go_region
    go_wp2_with (go_at_call 115; refine (talk_right ⟨6, name, peer, many, sort⟩ _ HN.out (by first | exact .inl rfl | exact .inr (.inl rfl) | exact .inr (.inr rfl))).mono ?_; rintro e w1 ⟨rfl, hb1⟩; rw [HRB.out]; obtain ⟨d0, d1, d2, d3, d4⟩ := NodeAt.carry (B := _) (boxed w ⟨6, name, peer, many, sort⟩ 45) (by simp) hb1; dsimp only at d0 d1 d2 d3 d4; have hs1 : w.heap.size < w1.heap.size := (by have := hb1.size; simp at this; omega); have HB1 : Hid (Below w.heap.size w w1) := hide ((alloc1 _ _).drew.trans (hb1.mono (by simp))); clear hb1)
    go_ret2
    refine told_none HB1.out ?_
    cases f
    · exact ahead_t0 (by simp) (by simp)
    · rw [ahead_t (by simp) (by simp) (by simp), HRB.out]; rfl
  · cases f with
    | zero =>
        go_enter Tryz.func80, Tryz.ntmps80
        go_wp2_with fail
        go_region
        go_wp2_with (first | (go_at_call 115; refine (talk_right ⟨6, name, peer, many, sort⟩ _ HN.out (by first | exact .inl rfl | exact .inr (.inl rfl) | exact .inr (.inr rfl))).mono ?_; rintro e w1 ⟨rfl, hb1⟩; rw [HRB.out]; obtain ⟨d0, d1, d2, d3, d4⟩ := NodeAt.carry (B := _) (boxed w ⟨6, name, peer, many, sort⟩ 45) (by simp) hb1; dsimp only at d0 d1 d2 d3 d4; have hs1 : w.heap.size < w1.heap.size := (by have := hb1.size; simp at this; omega); have HB1 : Hid (Below w.heap.size w w1) := hide ((alloc1 _ _).drew.trans (hb1.mono (by simp))); clear hb1) | (go_at_call 113; refine (p_full st _ _ (PlaceAt.carry HB1.out HP.out)).mono ?_; rintro e w' ⟨rfl, rfl⟩; rw [HFU.out, show ((0 : Nat) == 0) = true from rfl]))
        go_ret2
        refine told_none HB1.out ?_
        exact ahead_t0 (by simp) (by simp)
    | succ f =>
        have HI := hide (hih f rfl)
        have HMB : Hid (1 ≤ (Nd.many ⟨6, name, peer, many, sort⟩) ∧ (Nd.many ⟨6, name, peer, many, sort⟩) ≤ 4) := hide (by have := HRB.out; simp [talkI, manyB] at this; exact this.1.1.2)
        clear hih
        go_enter Tryz.func80, Tryz.ntmps80
        go_wp2_with fail
        go_region
        go_wp2_with (first | (go_at_call 115; refine (talk_right ⟨6, name, peer, many, sort⟩ _ HN.out (by first | exact .inl rfl | exact .inr (.inl rfl) | exact .inr (.inr rfl))).mono ?_; rintro e w1 ⟨rfl, hb1⟩; rw [HRB.out]; obtain ⟨d0, d1, d2, d3, d4⟩ := NodeAt.carry (B := _) (boxed w ⟨6, name, peer, many, sort⟩ 45) (by simp) hb1; dsimp only at d0 d1 d2 d3 d4; have hs1 : w.heap.size < w1.heap.size := (by have := hb1.size; simp at this; omega); have HB1 : Hid (Below w.heap.size w w1) := hide ((alloc1 _ _).drew.trans (hb1.mono (by simp))); clear hb1) | (go_at_call 113; refine (p_full st _ _ (PlaceAt.carry HB1.out HP.out)).mono ?_; rintro e w' ⟨rfl, rfl⟩; rw [HFU.out, show (f + 1 == 0) = false from rfl]))
        go_wp2_with (first | (go_at_call 114; refine (p_inner st _ ⟨6, name, peer, many, sort⟩ _ (PlaceAt.carry HB1.out HP.out) (by have := HL.out; omega)).mono ?_; rintro e w2 ⟨q, rfl, hq, hb2⟩; obtain ⟨uq, rfl⟩ := hq.shape; have HQ := hide hq; have HB2 := hide (HB1.out.trans (hb2.mono HB1.out.size)); clear hq hb2) | (go_at_call 116; refine (cases_ahead f HI.out ⟨6, name, peer, many, sort⟩ st l1 _ _ _ B (by have := HL.out; simp; omega) HMB.out (fun x hx => HO.out x (List.mem_cons_of_mem _ hx)) (Nat.le_trans HB.out HB2.out.size) (HSX.out.carry (HB2.out.mono HB.out)) HQ.out).mono ?_; rintro e w3 ⟨⟨v3, rfl, hs3⟩, hb3⟩; have HS3 := hide hs3; have HB3 := hide hb3; clear hs3 hb3))
        go_ret2
        exact told_on ⟨v3, rfl, HS3.out⟩ HB2.out HB3.out (by rw [ahead_t (by simp) (by simp) (by simp), HRB.out]; rfl)

set_option maxRecDepth 100000 in
set_option maxHeartbeats 1000000 in
theorem msg6_step_a (f : Nat) (hih : ∀ g, f = g + 1 → PlanCalls g) (st : List Nd) (name peer : ByteArray) (many sort : Int) (l1 : List Nd) (p : Value) (w : World) (B b o cap : Nat) (hlen : st.length + f = 10) (ok : ∀ x ∈ ⟨6, name, peer, many, sort⟩ :: l1, x.ok) (hB : B ≤ w.heap.size) (hbB : b < B) (hc1 : (⟨6, name, peer, many, sort⟩ :: l1).length ≤ cap) (hc2 : cap ≤ 9223372036854775807 ∧ l1.length < 4294967296) (hcap : cap = 1) (hrow : RowAt w b o (⟨6, name, peer, many, sort⟩ :: l1)) (hp : PlaceAt w p st) :
    Calls Tryz.prog 80 #[.slice (some ⟨b, o, none⟩) (⟨6, name, peer, many, sort⟩ :: l1 : List Nd).length cap, p] w fun e w' => Told w' B e (ahead talkI f st (⟨6, name, peer, many, sort⟩ :: l1)) ∧ Below w.heap.size w w' := by
  have HP := hide hp
  have HO := hide ok
  have HN := hide (ok ⟨6, name, peer, many, sort⟩ (by simp))
  have HL := hide hlen
  have HB := hide hB
  have HBB := hide hbB
  have HR := hide hrow
  have HC1 := hide hc1
  have HC2 := hide hc2
  obtain ⟨u, rfl⟩ := hp.shape
  simp only [List.length_cons] at hc1
  obtain ⟨⟨c0, c1, c2, c3, c4⟩, -⟩ := hrow
  dsimp only at c0 c1 c2 c3 c4
  have hbw : b < w.heap.size := World.block_lt_of_cell? w _ c0
  have hz : ((l1.length : Int) + 1 == 0) = false := beq_eq_false_iff_ne.2 (by omega)
  have HL1 : Hid (l1.length = 0) := hide (by omega)
  have HSX : Hid (SlAt w B (.slice (some ⟨b, o, none⟩) 0 0) l1) := hide (by rw [List.length_eq_zero_iff.1 HL1.out]; exact ⟨_, _, rfl, Nat.le_refl _, by simp, fun h => absurd rfl h⟩)
  subst hcap
  clear ok hlen hB hbB hp hc2
  have HFU := hide (show fullB st = (f == 0) by rw [fullB]; have := HL.out; cases f <;> simp <;> omega)
  obtain ⟨rb, hrb⟩ : ∃ rb, talkI ⟨6, name, peer, many, sort⟩ = rb := ⟨_, rfl⟩
  have HRB := hide hrb
  clear hrb
  cases rb
  · go_enter Tryz.func80, Tryz.ntmps80
    go_wp2_with fail
    go_region
    go_wp2_with (go_at_call 115; refine (talk_right ⟨6, name, peer, many, sort⟩ _ HN.out (by first | exact .inl rfl | exact .inr (.inl rfl) | exact .inr (.inr rfl))).mono ?_; rintro e w1 ⟨rfl, hb1⟩; rw [HRB.out]; obtain ⟨d0, d1, d2, d3, d4⟩ := NodeAt.carry (B := _) (boxed w ⟨6, name, peer, many, sort⟩ 45) (by simp) hb1; dsimp only at d0 d1 d2 d3 d4; have hs1 : w.heap.size < w1.heap.size := (by have := hb1.size; simp at this; omega); have HB1 : Hid (Below w.heap.size w w1) := hide ((alloc1 _ _).drew.trans (hb1.mono (by simp))); clear hb1)
    go_ret2
    refine told_none HB1.out ?_
    cases f
    · exact ahead_t0 (by simp) (by simp)
    · rw [ahead_t (by simp) (by simp) (by simp), HRB.out]; rfl
  · cases f with
    | zero =>
        go_enter Tryz.func80, Tryz.ntmps80
        go_wp2_with fail
        go_region
        go_wp2_with (first | (go_at_call 115; refine (talk_right ⟨6, name, peer, many, sort⟩ _ HN.out (by first | exact .inl rfl | exact .inr (.inl rfl) | exact .inr (.inr rfl))).mono ?_; rintro e w1 ⟨rfl, hb1⟩; rw [HRB.out]; obtain ⟨d0, d1, d2, d3, d4⟩ := NodeAt.carry (B := _) (boxed w ⟨6, name, peer, many, sort⟩ 45) (by simp) hb1; dsimp only at d0 d1 d2 d3 d4; have hs1 : w.heap.size < w1.heap.size := (by have := hb1.size; simp at this; omega); have HB1 : Hid (Below w.heap.size w w1) := hide ((alloc1 _ _).drew.trans (hb1.mono (by simp))); clear hb1) | (go_at_call 113; refine (p_full st _ _ (PlaceAt.carry HB1.out HP.out)).mono ?_; rintro e w' ⟨rfl, rfl⟩; rw [HFU.out, show ((0 : Nat) == 0) = true from rfl]))
        go_ret2
        refine told_none HB1.out ?_
        exact ahead_t0 (by simp) (by simp)
    | succ f =>
        have HI := hide (hih f rfl)
        have HMB : Hid (1 ≤ (Nd.many ⟨6, name, peer, many, sort⟩) ∧ (Nd.many ⟨6, name, peer, many, sort⟩) ≤ 4) := hide (by have := HRB.out; simp [talkI, manyB] at this; exact this.1.1.2)
        clear hih
        go_enter Tryz.func80, Tryz.ntmps80
        go_wp2_with fail
        go_region
        go_wp2_with (first | (go_at_call 115; refine (talk_right ⟨6, name, peer, many, sort⟩ _ HN.out (by first | exact .inl rfl | exact .inr (.inl rfl) | exact .inr (.inr rfl))).mono ?_; rintro e w1 ⟨rfl, hb1⟩; rw [HRB.out]; obtain ⟨d0, d1, d2, d3, d4⟩ := NodeAt.carry (B := _) (boxed w ⟨6, name, peer, many, sort⟩ 45) (by simp) hb1; dsimp only at d0 d1 d2 d3 d4; have hs1 : w.heap.size < w1.heap.size := (by have := hb1.size; simp at this; omega); have HB1 : Hid (Below w.heap.size w w1) := hide ((alloc1 _ _).drew.trans (hb1.mono (by simp))); clear hb1) | (go_at_call 113; refine (p_full st _ _ (PlaceAt.carry HB1.out HP.out)).mono ?_; rintro e w' ⟨rfl, rfl⟩; rw [HFU.out, show (f + 1 == 0) = false from rfl]))
        go_wp2_with (first | (go_at_call 114; refine (p_inner st _ ⟨6, name, peer, many, sort⟩ _ (PlaceAt.carry HB1.out HP.out) (by have := HL.out; omega)).mono ?_; rintro e w2 ⟨q, rfl, hq, hb2⟩; obtain ⟨uq, rfl⟩ := hq.shape; have HQ := hide hq; have HB2 := hide (HB1.out.trans (hb2.mono HB1.out.size)); clear hq hb2) | (go_at_call 116; refine (cases_ahead f HI.out ⟨6, name, peer, many, sort⟩ st l1 _ _ _ B (by have := HL.out; simp; omega) HMB.out (fun x hx => HO.out x (List.mem_cons_of_mem _ hx)) (Nat.le_trans HB.out HB2.out.size) (HSX.out.carry (HB2.out.mono HB.out)) HQ.out).mono ?_; rintro e w3 ⟨⟨v3, rfl, hs3⟩, hb3⟩; have HS3 := hide hs3; have HB3 := hide hb3; clear hs3 hb3))
        go_ret2
        exact told_on ⟨v3, rfl, HS3.out⟩ HB2.out HB3.out (by rw [ahead_t (by simp) (by simp) (by simp), HRB.out]; rfl)
end Go.Proofs.YtmjlblbhakppfaaGreatDoor
