import Derived.Test.YtlbcnmcfljaijaaQF06
import Derived.Deep.RegionLaw
import Derived.Deep.QuietTactic
import Derived.Test.YtlbcnmcfljaijaaQF04
import Derived.Test.YtlbcnmcfljaijaaQF03
namespace Go.Proofs.Ytlbcnmcfljaijaa
open Go.RowKit

theorem step_append_own {P : Program} {ops : Array Oper} {o : Oper} {a : Act} {w : World} {K : Act → World → Prop} {Q : Exit → Act → World → Prop} {E : Prop}
    (hg : o.guard = none) (s x : Operand) (t : TypeId) (hop : o.op = Op.call { callee := Callee.builtin Builtin.append, args := #[s, x], argTypes := #[t, t] })
    (base : Nat) (e : TypeId) (i : TypeInfo) (z : Value) (size bytes : Nat) (h1 : P.underlying t = some (.slice e)) (h2 : P.info? e = some i) (h3 : i.zero = some z) (h4 : i.size = size) (h5 : i.bytes = bytes) (h6 : z.cells.size = size) (h7 : 0 < size)
    (v : Value) (n : Nat) (xs : List Value) (hs : a.eval s = v) (hown : w.ownsRow base e size v n xs)
    (ad : Addr) (m c : Nat) (news : List Value) (hx : a.eval x = .slice (some ad) m c) (hn : news.length = m * size) (hc : ∀ j u, news[j]? = some u → w.cell? (ad.add j) = some u) (h1c : ∀ u ∈ news, u.oneCell' = true)
    (b1 : n + m ≤ maxLen) (b2 : (n + m) * bytes ≤ 140737488355328) (hbase : base ≤ w.heap.size)
    (hK : ∀ v' w', w'.ownsRow base e size v' (n + m) (xs ++ news) → w.grownBy w' v.ownBlock → K (a.put o.dst v') w') :
    if Region.wanted o (yielded ops a.tmps) = true then Oper.wp P o a w K Q else E := by
  have hw : Region.wanted o (yielded ops a.tmps) = true := by simp [Region.wanted, hg]
  rw [if_pos hw]
  obtain ⟨v', w', hrun, r1, r2, _⟩ := run_append_own (P := P) w base t o.type e i z size bytes h1 h2 h3 h4 h5 h6 h7 v n xs hown ad m c news hn hc h1c b1 b2 hbase
  unfold Oper.wp
  simp [execOp, hop, resolve, invoke, builtin, hs, hx, hrun, Result.andThen]
  exact hK v' w' r1 r2

theorem step_append_none {P : Program} {ops : Array Oper} {o : Oper} {a : Act} {w : World} {K : Act → World → Prop} {Q : Exit → Act → World → Prop} {E : Prop}
    (hg : o.guard = none) (s x : Operand) (t : TypeId) (hop : o.op = Op.call { callee := Callee.builtin Builtin.append, args := #[s, x], argTypes := #[t, t] })
    (base : Nat) (e : TypeId) (i : TypeInfo) (size : Nat) (h1 : P.underlying t = some (.slice e)) (h2 : P.info? e = some i)
    (v : Value) (n : Nat) (xs : List Value) (hs : a.eval s = v) (hown : w.ownsRow base e size v n xs) (hx : a.eval x = .slice none 0 0)
    (hK : K (a.put o.dst v) w) :
    if Region.wanted o (yielded ops a.tmps) = true then Oper.wp P o a w K Q else E := by
  have hw : Region.wanted o (yielded ops a.tmps) = true := by simp [Region.wanted, hg]
  rw [if_pos hw]
  have hrun := run_append_owned_none (P := P) (w := w) base t o.type e i size h1 h2 v n xs hown
  unfold Oper.wp
  simp [execOp, hop, resolve, invoke, builtin, hs, hx, hrun, Result.andThen]
  exact hK

theorem TextsAt.take {w : World} {ao : Option Addr} {cap k : Nat} {ls : List ByteArray} (h : TextsAt w (.slice ao ls.length cap) ls) (hk : k ≤ ls.length) : TextsAt w (.slice ao k cap) (ls.take k) := by
  obtain ⟨ao', cap', e, h1, h2, h3⟩ := h
  cases e
  refine ⟨ao, cap, by rw [List.length_take, Nat.min_eq_left hk], by rw [List.length_take]; omega, by rw [List.length_take]; omega, fun hne => ?_⟩
  have hne' : ls ≠ [] := by intro h; rw [h] at hne; exact hne (by simp)
  obtain ⟨b, o, rfl, hc⟩ := h3 hne'
  refine ⟨b, o, rfl, fun i hi => ?_⟩
  have hi' : i < ls.length := by rw [List.length_take] at hi; omega
  rw [List.getElem_take]
  exact hc i hi'
theorem pos_next {all : List Nd} {pos : Nat} (h : pos < all.length) : endPos all (some (all.drop (pos + 1))) = (pos : Int) + 1 := by
  simp only [endPos, List.length_drop]
  omega
end Go.Proofs.Ytlbcnmcfljaijaa
namespace Go.Proofs.Ytlbcnmcfljaijaa
open Go.RowKit

abbrev noT : ByteArray := ByteArray.empty
structure Br (α : Type) where
  l : ByteArray
  s : Int
  p : α
structure Tk where
  op : Int
  a : ByteArray
  b : ByteArray
def Pn : Nat → Type
  | 0 => Option ByteArray
  | n + 1 => Sum (Option ByteArray) (Sum (ByteArray × Pn n) (Tk × List (Br (Pn n))))
def Pn.leaf {n : Nat} (x : Option ByteArray) : Pn (n + 1) := Sum.inl x
def Pn.loop {n : Nat} (x : ByteArray) (q : Pn n) : Pn (n + 1) := Sum.inr (Sum.inl (x, q))
def Pn.talk {n : Nat} (t : Tk) (l : List (Br (Pn n))) : Pn (n + 1) := Sum.inr (Sum.inr (t, l))
theorem Pn.cases {n : Nat} {P : Pn (n + 1) → Prop} (h1 : ∀ x, P (.leaf x)) (h2 : ∀ x q, P (.loop x q)) (h3 : ∀ t l, P (.talk t l)) : ∀ p, P p
  | Sum.inl x => h1 x
  | Sum.inr (Sum.inl (x, q)) => h2 x q
  | Sum.inr (Sum.inr (t, l)) => h3 t l
def Pn.by {n : Nat} {β : Type} (f1 : Option ByteArray → β) (f2 : ByteArray → Pn n → β) (f3 : Tk → List (Br (Pn n)) → β) : Pn (n + 1) → β
  | Sum.inl x => f1 x
  | Sum.inr (Sum.inl (x, q)) => f2 x q
  | Sum.inr (Sum.inr (t, l)) => f3 t l
def leafRow : Option ByteArray → List Nd
  | none => [⟨0, noT, noT, 0, 0⟩]
  | some x => [⟨1, x, noT, 0, 0⟩]
def brsBy {α : Type} (f : α → List Nd) (l : List (Br α)) : List Nd := l.flatMap fun b => ⟨4, b.l, noT, 0, b.s⟩ :: f b.p
theorem brs_cons {α : Type} (f : α → List Nd) (b : Br α) (l : List (Br α)) : brsBy f (b :: l) = ⟨4, b.l, noT, 0, b.s⟩ :: (f b.p ++ brsBy f l) := by rw [brsBy, List.flatMap_cons]; rfl
theorem brs_app {α : Type} (f : α → List Nd) (l r : List (Br α)) : brsBy f (l ++ r) = brsBy f l ++ brsBy f r := by unfold brsBy; rw [List.flatMap_append]
def rowN : (n : Nat) → Pn n → List Nd
  | 0, x => leafRow x
  | n + 1, p => p.by leafRow (fun x q => ⟨2, x, noT, 0, 0⟩ :: rowN n q) (fun t l => ⟨t.op, t.a, t.b, (l.length : Int), 0⟩ :: brsBy (rowN n) l)
theorem row_leaf {n : Nat} (x : Option ByteArray) : rowN (n + 1) (.leaf x) = leafRow x := rfl
theorem row_loop {n : Nat} (x : ByteArray) (q : Pn n) : rowN (n + 1) (.loop x q) = ⟨2, x, noT, 0, 0⟩ :: rowN n q := rfl
theorem row_talk {n : Nat} (t : Tk) (l : List (Br (Pn n))) : rowN (n + 1) (.talk t l) = ⟨t.op, t.a, t.b, (l.length : Int), 0⟩ :: brsBy (rowN n) l := rfl
def ndEq (a b : Nd) : Bool := a.op == b.op && a.name.toList == b.name.toList && a.peer.toList == b.peer.toList && a.many == b.many && a.sort == b.sort
def rowEq : List Nd → List Nd → Bool
  | [], [] => true
  | a :: l, b :: r => ndEq a b && rowEq l r
  | _, _ => false
def findB {α : Type} (t : ByteArray) : List (Br α) → Option Nat
  | [] => none
  | b :: r => if b.l.toList == t.toList then some 0 else (findB t r).map (· + 1)
def mergeBy {α : Type} (mg : α → α → Option α) : List (Br α) → List (Br α) → Option (List (Br α))
  | acc, [] => some acc
  | acc, d :: ds =>
    match findB d.l acc with
    | none => mergeBy mg (acc ++ [d]) ds
    | some i => match acc[i]? with
      | none => none
      | some b => match mg b.p d.p with
        | none => none
        | some q => if b.s == d.s then mergeBy mg (acc.set i ⟨b.l, b.s, q⟩) ds else none
def hearN {n : Nat} (p : Pn (n + 1)) : Option (ByteArray × List (Br (Pn n))) := p.by (fun _ => none) (fun _ _ => none) (fun t l => if t.op == 6 then some (t.b, l) else none)
def mergeN : (n : Nat) → Pn n → Pn n → Option (Pn n)
  | 0, x, y => if rowEq (rowN 0 x) (rowN 0 y) then some x else none
  | n + 1, x, y => if rowEq (rowN (n + 1) x) (rowN (n + 1) y) then some x else
    match hearN x, hearN y with
    | some (a, cs), some (b, ds) => if a.toList == b.toList then
        match mergeBy (mergeN n) cs ds with
        | some l => if l.length ≤ 4 then some (.talk ⟨6, noT, a⟩ l) else none
        | none => none
      else none
    | _, _ => none
def mergeAll {α : Type} (mg : α → α → Option α) : α → List (Br α) → Option α
  | x, [] => some x
  | x, b :: r => match mg x b.p with
    | none => none
    | some q => mergeAll mg q r
def hasRole (role : ByteArray) (l : List Nd) : Bool := l.any fun n => n.op == 3 && (n.name.toList == role.toList || n.peer.toList == role.toList)
def closedL : List ByteArray → List Nd → Bool
  | _, [] => true
  | ns, n :: l => if n.op == 2 then closedL (ns ++ [n.name]) l else if n.op == 1 && !hasB ns n.name then false else closedL ns l
def idleL (role : ByteArray) (l : List Nd) : Bool := !hasRole role l && closedL [] l
def upN : (n : Nat) → Pn n → Pn (n + 1)
  | 0, x => .leaf x
  | n + 1, p => p.by (fun x => .leaf x) (fun x q => .loop x (upN n q)) (fun t l => .talk t (l.map fun b => ⟨b.l, b.s, upN n b.p⟩))
def partsBy {α : Type} (f : α → Option α) : List (Br α) → Option (List (Br α))
  | [] => some []
  | b :: l => match f b.p with
    | none => none
    | some q => match partsBy f l with
      | none => none
      | some r => some (⟨b.l, b.s, q⟩ :: r)
def partN (role : ByteArray) : (n : Nat) → Pn n → Option (Pn n)
  | 0, x => some x
  | n + 1, p => p.by (fun x => some (.leaf x)) (fun x q => if idleL role (rowN (n + 1) (.loop x q)) then some (.leaf none) else (partN role n q).map (Pn.loop x))
    (fun t l => match partsBy (partN role n) l with
      | none => none
      | some r => if role.toList == t.a.toList then some (.talk ⟨5, noT, t.b⟩ r) else if role.toList == t.b.toList then some (.talk ⟨6, noT, t.a⟩ r) else
        match r with
        | [] => none
        | c :: r => (mergeAll (mergeN n) c.p r).map (upN n))
theorem up_row : ∀ (n : Nat) (p : Pn n), rowN (n + 1) (upN n p) = rowN n p := by
  intro n
  induction n with
  | zero => intro p; rfl
  | succ n ih =>
    refine Pn.cases (fun x => rfl) (fun x q => ?_) (fun t l => ?_)
    · show (⟨2, x, noT, 0, 0⟩ : Nd) :: rowN (n + 1) (upN n q) = _
      rw [ih q]; rfl
    · show (⟨t.op, t.a, t.b, ((l.map fun b => (⟨b.l, b.s, upN n b.p⟩ : Br (Pn (n + 1)))).length : Int), 0⟩ : Nd) :: brsBy (rowN (n + 1)) (l.map fun b => ⟨b.l, b.s, upN n b.p⟩) = _
      rw [List.length_map, row_talk, brsBy, brsBy, List.flatMap_map]
      congr 2
      funext b
      rw [ih b.p]
theorem empty_of {t : ByteArray} (h : (t.toList == []) = true) : t = noT := by
  have h1 := beq_iff_eq.1 h
  rw [Go.ByteArray.toList_eq] at h1
  apply ByteArray.ext
  exact Array.ext' h1
def planN : (n : Nat) → Pn n → Prop
  | 0, _ => True
  | n + 1, p => p.by (fun _ => True) (fun _ q => planN n q) (fun t l => t.op = 3 ∧ (t.a.toList == t.b.toList) = false ∧ 1 ≤ l.length ∧ l.length ≤ 4 ∧ ∀ b ∈ l, planN n b.p)
theorem kids_parse {go : List Nd → Option (List Nd)} {n : Nat} (hgo : ∀ l r, go l = some r → ∃ p : Pn n, l = rowN n p ++ r ∧ planN n p) : ∀ (m : Nat) (ls : List ByteArray) (l r : List Nd), kidsBy go m ls l = some r → ∃ cs : List (Br (Pn n)), cs.length = m ∧ l = brsBy (rowN n) cs ++ r ∧ ∀ b ∈ cs, planN n b.p
  | 0, ls, l, r, h => by
    rw [kidsBy] at h
    injection h with h
    subst h
    exact ⟨[], rfl, rfl, fun b hb => by cases hb⟩
  | m + 1, ls, [], r, h => by cases h
  | m + 1, ls, c :: l, r, h => by
    rw [kidsBy] at h
    split at h
    · rename_i hc
      split at h
      · cases h
      · rename_i r1 hr1
        obtain ⟨p, e, hp⟩ := hgo l r1 hr1
        obtain ⟨cs, hl, e2, hcs⟩ := kids_parse hgo m _ _ _ h
        obtain ⟨op, name, peer, many, sort⟩ := c
        simp only [caseB, Bool.and_eq_true, beq_iff_eq] at hc
        obtain ⟨⟨⟨⟨⟨h1, h2⟩, h3⟩, -⟩, -⟩, -⟩ := hc
        have h2' : peer = noT := empty_of (by simpa using h2)
        subst h1
        subst h2'
        subst h3
        refine ⟨⟨name, sort, p⟩ :: cs, by rw [List.length_cons, hl], ?_, ?_⟩
        · rw [e, e2, brs_cons, List.cons_append, List.append_assoc]
        · intro b hb
          rw [List.mem_cons] at hb
          rcases hb with rfl | hb
          · exact hp
          · exact hcs b hb
    · cases h
theorem leaf_parse {f : Nat} {st l r : List Nd} {n : Nd} (h : ahead (talkS false) f st (n :: l) = some r) (h01 : n.op = 0 ∨ n.op = 1) : ∃ x, n :: l = leafRow x ++ r := by
  obtain ⟨op, name, peer, many, sort⟩ := n
  rcases h01 with h0 | h1
  · rw [ahead_0 h0] at h
    split at h
    · rename_i hv
      injection h with h
      subst h
      dsimp only at h0
      subst h0
      simp only [endB, Bool.and_eq_true, beq_iff_eq] at hv
      obtain ⟨⟨⟨⟨-, h1'⟩, h2⟩, h3⟩, h4⟩ := hv
      have h1'' : name = noT := empty_of (by simpa using h1')
      have h2' : peer = noT := empty_of (by simpa using h2)
      subst h1''; subst h2'; subst h3; subst h4
      exact ⟨none, rfl⟩
    · cases h
  · rw [ahead_1 h1] at h
    split at h
    · rename_i hv
      injection h with h
      subst h
      dsimp only at h1
      subst h1
      simp only [varB, Bool.and_eq_true, beq_iff_eq] at hv
      obtain ⟨⟨⟨⟨-, h2⟩, h3⟩, h4⟩, -⟩ := hv
      have h2' : peer = noT := empty_of (by simpa using h2)
      subst h2'; subst h3; subst h4
      exact ⟨some name, rfl⟩
    · cases h
theorem parse : ∀ (f : Nat) (st l r : List Nd), ahead (talkS false) f st l = some r → ∃ p : Pn f, l = rowN f p ++ r ∧ planN f p := by
  intro f
  induction f with
  | zero =>
    intro st l r h
    cases l with
    | nil => cases h
    | cons n l =>
      by_cases h01 : n.op = 0 ∨ n.op = 1
      · obtain ⟨x, e⟩ := leaf_parse h h01
        exact ⟨x, e, trivial⟩
      · rw [ahead_t0 (fun h => h01 (.inl h)) (fun h => h01 (.inr h))] at h; cases h
  | succ f ih =>
    intro st l r h
    cases l with
    | nil => cases h
    | cons n l =>
      by_cases h01 : n.op = 0 ∨ n.op = 1
      · obtain ⟨x, e⟩ := leaf_parse h h01
        exact ⟨.leaf x, e, trivial⟩
      · obtain ⟨op, name, peer, many, sort⟩ := n
        have h0 : op ≠ 0 := fun h => h01 (.inl h)
        have h1 : op ≠ 1 := fun h => h01 (.inr h)
        by_cases h2 : op = 2
        · rw [ahead_2 h2] at h
          split at h
          · rename_i hv
            subst h2
            simp only [recB, Bool.and_eq_true, beq_iff_eq] at hv
            obtain ⟨⟨⟨⟨⟨-, h2⟩, h3⟩, h4⟩, -⟩, -⟩ := hv
            have h2' : peer = noT := empty_of (by simpa using h2)
            subst h2'; subst h3; subst h4
            obtain ⟨p, e, hp⟩ := ih _ l r h
            exact ⟨.loop name p, by rw [row_loop, e]; rfl, hp⟩
          · cases h
        · rw [ahead_t h0 h1 h2] at h
          split at h
          · rename_i hv
            simp only [talkS, manyB, Bool.and_eq_true, decide_eq_true_eq, beq_iff_eq, Bool.not_eq_true', Bool.false_eq_true, if_false] at hv
            obtain ⟨⟨⟨-, hm⟩, h4⟩, ⟨h3, -⟩, hne⟩ := hv
            dsimp only at h
            obtain ⟨cs, hl, e, hcs⟩ := kids_parse (fun l r => ih _ l r) _ _ _ _ h
            subst h3
            subst h4
            have hM : many = (cs.length : Int) := by rw [hl]; omega
            subst hM
            exact ⟨.talk ⟨3, name, peer⟩ cs, by rw [row_talk, e]; rfl, rfl, hne, by omega, by omega, hcs⟩
          · cases h
end Go.Proofs.Ytlbcnmcfljaijaa
namespace Go.Proofs.Ytlbcnmcfljaijaa
open Go.RowKit

def noMach : Mach := ⟨[], [], 0⟩
def moV (sv ev : Value) (m : Mach) (c : Int) : Value := .agg #[sv, ev, .int .i64 m.start, .int .i64 c]
def outM : Obj := .cells #[.slice none 0 0, .slice none 0 0, .int .i64 0, .int .i64 0] 59
structure MrAns (w w' : World) (e : Ending) (m : Mach) (c : Int) : Prop where
  ans : ∃ sv ev, e = .returned (moV sv ev m c) ∧ RStateOwn w' w.heap.size sv m.states ∧ REdgeOwn w' w.heap.size ev m.edges ∧ (∀ b ∈ vblocks sv, b ∉ vblocks ev)
  bel : Below w.heap.size w w'
theorem set4 {B : Nat} {a w : World} (h : Below B a w) (y0 y1 y2 y3 : Value) : Below B a ((((w.setCell ⟨B, 0, none⟩ y0).setCell ⟨B, 1, none⟩ y1).setCell ⟨B, 2, none⟩ y2).setCell ⟨B, 3, none⟩ y3) :=
  (((h.setCell (p := ⟨B, 0, none⟩) (Nat.le_refl _) _).setCell (p := ⟨B, 1, none⟩) (Nat.le_refl _) _).setCell (p := ⟨B, 2, none⟩) (Nat.le_refl _) _).setCell (p := ⟨B, 3, none⟩) (Nat.le_refl _) _
theorem ap4 (w : World) (B : Nat) (y0 y1 y2 y3 : Value) : Apart w ((((w.setCell ⟨B, 0, none⟩ y0).setCell ⟨B, 1, none⟩ y1).setCell ⟨B, 2, none⟩ y2).setCell ⟨B, 3, none⟩ y3) [B] :=
  (((setCell_apart w B 0 y0).setCell 1 y1).setCell 2 y2).setCell 3 y3
end Go.Proofs.Ytlbcnmcfljaijaa
namespace Go.Proofs.Ytlbcnmcfljaijaa
open Go.RowKit

def stAt (m : Mach) (s : Int) : RState := (m.states[s.toNat]?).getD ⟨0, ByteArray.empty⟩
def actE (m : Mach) (s : Int) (e : REdge) : RAct := ⟨(stAt m s).kind, (stAt m s).peer, e.label, e.sort⟩
def actsV (m : Mach) (s : Int) : List RAct := (m.edges.filter fun e => e.src == s).map (actE m s)
def actsK (m : Mach) (s : Int) (k : Nat) : List RAct := ((m.edges.take k).filter fun e => e.src == s).map (actE m s)
theorem actsK_no {m : Mach} {s : Int} {k : Nat} (h : k < m.edges.length) (hn : (m.edges[k].src == s) = false) : actsK m s (k + 1) = actsK m s k := by
  unfold actsK
  rw [List.take_succ_eq_append_getElem h, List.filter_append]
  simp [hn]
theorem actsK_yes {m : Mach} {s : Int} {k : Nat} (h : k < m.edges.length) (hn : (m.edges[k].src == s) = true) : actsK m s (k + 1) = actsK m s k ++ [actE m s m.edges[k]] := by
  unfold actsK
  rw [List.take_succ_eq_append_getElem h, List.filter_append, List.map_append]
  simp [hn]
theorem actsK_all {m : Mach} {s : Int} {k : Nat} (h : m.edges.length ≤ k) : actsK m s k = actsV m s := by
  unfold actsK actsV
  rw [List.take_of_length_le h]
theorem actsK_len (m : Mach) (s : Int) (k : Nat) : (actsK m s k).length ≤ k := by
  unfold actsK
  rw [List.length_map]
  exact Nat.le_trans (List.length_filter_le _ _) (List.length_take_le _ _)
theorem actsV_len (m : Mach) (s : Int) : (actsV m s).length ≤ m.edges.length := by
  unfold actsV
  rw [List.length_map]
  exact List.length_filter_le _ _
theorem Try.infoAct : (Try.prog.info? 34).map (fun i => (i.zero, i.size, i.bytes)) = some (some (.agg #[.int .i64 0, .string ByteArray.empty, .string ByteArray.empty, .int .i64 0]), 4, 48) := by kernel_rfl

theorem balloc2 (w : World) (a b : Obj) : Below w.heap.size w ((w.alloc a).alloc b) := (malloc1 _ _).trans ((malloc1 _ _).mono (by simp))
theorem new_row2 (w : World) (A : Obj) (cs : List Value) (t : TypeId) (j : Nat) (u : Value) (h : cs[j]? = some u) : ((w.alloc A).alloc (.cells cs.toArray t)).cell? (Addr.add ⟨w.heap.size + 1, 0, none⟩ j) = some u := by
  have e : ((w.alloc A).alloc (.cells cs.toArray t)).heap[w.heap.size + 1]? = some (.cells cs.toArray t) := mheap_new _ _ _ (by simp)
  have ea : Addr.add ⟨w.heap.size + 1, 0, none⟩ j = ⟨w.heap.size + 1, j, none⟩ := by
    unfold Addr.add
    split <;> simp_all
  rw [ea]
  simp only [World.cell?]
  rw [e]
  simpa using h
end Go.Proofs.Ytlbcnmcfljaijaa
namespace Go.Proofs.Ytlbcnmcfljaijaa
open Go.RowKit
attribute [local go_sem ↓] Go.wp_at_zero Go.wp_at_succ

theorem MachAt.shape {w : World} {v : Value} {m : Mach} (h : MachAt w v m) : ∃ sa sc ea ec, v = machV sa sc ea ec m := by
  obtain ⟨sv, ev, rfl, ⟨sa, sc, rfl, _⟩, ⟨ea, ec, rfl, _⟩⟩ := h
  exact ⟨sa, sc, ea, ec, rfl⟩
theorem malloc2 (w : World) (a b : Obj) : Below w.heap.size w ((w.alloc a).alloc b) := (malloc1 _ _).trans ((malloc1 _ _).mono (by simp))

set_option maxHeartbeats 400000 in
theorem has_state {q : Bool} {m : Mach} {s : Int} (hq : inB s 0 ((m.states.length : Int) - 1) = q) (v : Value) (w : World) (hv : MachAt w v m) :
    Calls Try.prog 34 #[v, .int .i64 s] w fun e w' => e = .returned (.bool q) ∧ Below w.heap.size w w' := by
  have hsl : m.states.length ≤ 4294967296 := by obtain ⟨sv, ev, rfl, hs, he⟩ := hv; exact hs.lenm
  obtain ⟨sa, sc, ea, ec, rfl⟩ := hv.shape
  clear hv
  unfold machV
  have HQ := hide hq
  by_cases h0 : 0 ≤ s
  · by_cases h1 : s < (m.states.length : Int)
    · have HT : Hid (q = true) := hide (by rw [← hq]; simp [inB, h0]; omega)
      clear hq
      go_enter Try.func34, Try.ntmps34
      go_wp2_with fail
      go_ret
      exact ⟨ret_bool HT.out, malloc1 _ _⟩
    · have HT : Hid (q = false) := hide (by rw [← hq]; simp [inB, h0]; omega)
      clear hq
      go_enter Try.func34, Try.ntmps34
      go_wp2_with fail
      go_ret
      exact ⟨ret_bool HT.out, malloc1 _ _⟩
  · have HT : Hid (q = false) := hide (by rw [← hq]; simp [inB, h0])
    clear hq
    go_enter Try.func34, Try.ntmps34
    go_wp2_with fail
    go_ret
    exact ⟨ret_bool HT.out, malloc1 _ _⟩

theorem is_end {q : Bool} {x : RState} (hq : (x.kind == 0) = q) (w : World) :
    Calls Try.prog 48 #[x.val] w fun e w' => e = .returned (.bool q) ∧ Below w.heap.size w w' := by
  unfold RState.val
  cases q
  all_goals
    go_enter Try.func48, Try.ntmps48
    go_wp2_with fail
    go_ret
    exact ⟨ret_bool (by first | exact hq.symm | rfl), malloc1 _ _⟩

theorem mi_sort {q : Bool} {n : Int} (hq : inB n 0 2 = q) (w : World) :
    Calls Try.prog 49 #[.int .i64 n] w fun e w' => e = .returned (.bool q) ∧ w' = w := by
  have HQ := hide hq
  clear hq
  by_cases h : 0 ≤ n
  all_goals
    go_enter Try.func49, Try.ntmps49
    go_wp2_with fail
    go_ret
    exact ⟨ret_bool (by rw [← HQ.out]; simp [inB, *]; try omega), rfl⟩
theorem impl_name_at {q : Bool} {s : ByteArray} (h : nameB s = q) (hs : s.size ≤ maxLen) (w : World) :
    Calls Try.prog 47 #[.string s] w fun e w' => e = .returned (.bool q) ∧ w' = w := by subst h; exact impl_name s w hs

set_option maxHeartbeats 400000 in
theorem state_right {q : Bool} {x : RState} (hq : mstB x = q) (hp : x.peer.size ≤ maxLen) (w : World) :
    Calls Try.prog 35 #[x.val] w fun e w' => e = .returned (.bool q) ∧ Below w.heap.size w w' := by
  have HP := hide hp
  obtain ⟨nb, hnb⟩ : ∃ nb, nameB x.peer = nb := ⟨_, rfl⟩
  have HNB := hide hnb
  obtain ⟨k0, hk0⟩ : ∃ k0, (x.kind == 0) = k0 := ⟨_, rfl⟩
  obtain ⟨k1, hk1⟩ : ∃ k1, (x.kind == 1) = k1 := ⟨_, rfl⟩
  obtain ⟨k2, hk2⟩ : ∃ k2, (x.kind == 2) = k2 := ⟨_, rfl⟩
  obtain ⟨pe, hpe⟩ : ∃ pe, (x.peer.toList == []) = pe := ⟨_, rfl⟩
  have HQ : Hid (q = if k0 then pe else nb && (k1 || k2)) := hide (by
    rw [← hq, mstB, hk0, hpe, hnb]
    cases k0
    · have : inB x.kind 0 2 = (k1 || k2) := by
        rw [← hk1, ← hk2, inB, Bool.eq_iff_iff]; simp at hk0 ⊢; omega
      simp [this]
    · rfl)
  clear hq hp hnb
  unfold RState.val
  cases k0
  all_goals cases k1
  all_goals cases k2
  all_goals
    go_enter Try.func35, Try.ntmps35
    go_wp2_with (go_at_call 47; refine (impl_name_at HNB.out HP.out _).mono ?_; rintro e w' ⟨rfl, rfl⟩)
    go_ret
    exact ⟨ret_bool (by rw [HQ.out]; simp [*]), malloc1 _ _⟩
end Go.Proofs.Ytlbcnmcfljaijaa
