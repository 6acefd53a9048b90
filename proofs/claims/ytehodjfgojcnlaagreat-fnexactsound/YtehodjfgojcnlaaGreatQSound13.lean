/- Pieces: how each is made; the row of every one. -/
import Derived.Test.YtehodjfgojcnlaaGreatQSound12
import Derived.Lib.SliceRun
import Derived.Laws.AppendOwnNone
namespace Go.Proofs.YtehodjfgojcnlaaGreat
open Go.RowKit

def tkOk (t : Tk) : Prop := t.op = 3 ∨ ((t.op = 5 ∨ t.op = 6) ∧ t.a = noT)
def shapeN : (n : Nat) → Pn n → Prop
  | 0, _ => True
  | n + 1, p => p.by (fun _ => True) (fun _ q => shapeN n q) (fun t l => tkOk t ∧ l ≠ [] ∧ ∀ b ∈ l, shapeN n b.p)
theorem plan_shape : ∀ (n : Nat) (p : Pn n), planN n p → shapeN n p := by
  intro n
  induction n with
  | zero => intro p _; trivial
  | succ n ih =>
    intro p
    refine Pn.cases (P := fun p => planN (n + 1) p → shapeN (n + 1) p) (fun x _ => trivial) (fun x q hp => ih q hp) (fun t l hp => ?_) p
    have hp' : t.op = 3 ∧ (t.a.toList == t.b.toList) = false ∧ 1 ≤ l.length ∧ l.length ≤ 4 ∧ ∀ b ∈ l, planN n b.p := hp
    exact ⟨.inl hp'.1, (fun h => by have := hp'.2.2.1; rw [h] at this; simp at this), fun b hb => ih b.p (hp'.2.2.2.2 b hb)⟩
theorem up_shape : ∀ (n : Nat) (p : Pn n), shapeN n p → shapeN (n + 1) (upN n p) := by
  intro n
  induction n with
  | zero => intro p _; trivial
  | succ n ih =>
    intro p
    refine Pn.cases (P := fun p => shapeN (n + 1) p → shapeN (n + 2) (upN (n + 1) p)) (fun x _ => trivial) (fun x q hp => ih q hp) (fun t l hp => ?_) p
    have hp' : tkOk t ∧ l ≠ [] ∧ ∀ b ∈ l, shapeN n b.p := hp
    refine ⟨hp'.1, (fun h => hp'.2.1 (List.map_eq_nil_iff.1 h)), fun b hb => ?_⟩
    obtain ⟨c, hc, rfl⟩ := List.mem_map.1 hb
    exact ih c.p (hp'.2.2 c hc)
theorem mem_set {α : Type} : ∀ {l : List α} {i : Nat} {x y : α}, y ∈ l.set i x → y ∈ l ∨ y = x
  | [], i, x, y, h => by simp at h
  | a :: l, 0, x, y, h => by
    rw [List.set_cons_zero, List.mem_cons] at h
    rcases h with h | h
    · exact .inr h
    · exact .inl (by simp [h])
  | a :: l, i + 1, x, y, h => by
    rw [List.set_cons_succ, List.mem_cons] at h
    rcases h with h | h
    · exact .inl (by simp [h])
    · rcases mem_set h with q | q
      · exact .inl (by simp [q])
      · exact .inr q
theorem mergeBy_all {α : Type} {Q : α → Prop} {mg : α → α → Option α} (hmg : ∀ x y z, Q x → Q y → mg x y = some z → Q z) : ∀ (ds acc l : List (Br α)), (∀ b ∈ acc, Q b.p) → (∀ b ∈ ds, Q b.p) → mergeBy mg acc ds = some l → ∀ b ∈ l, Q b.p
  | [], acc, l, ha, _, h => by
    rw [mergeBy] at h
    injection h with h
    subst h
    exact ha
  | d :: ds, acc, l, ha, hd, h => by
    rw [mergeBy] at h
    split at h
    · exact mergeBy_all hmg ds _ l (fun b hb => by rw [List.mem_append] at hb; rcases hb with hb | hb; exact ha b hb; simp at hb; subst hb; exact hd b (by simp)) (fun b hb => hd b (by simp [hb])) h
    · rename_i i hi
      split at h
      · cases h
      · rename_i b hb
        split at h
        · cases h
        · rename_i q hq
          split at h
          · refine mergeBy_all hmg ds _ l (fun c hc => ?_) (fun b hb => hd b (by simp [hb])) h
            rcases mem_set hc with hc | hc
            · exact ha c hc
            · subst hc
              exact hmg b.p d.p q (ha b (List.mem_of_getElem? hb)) (hd d (by simp)) hq
          · cases h
theorem mergeBy_ne {α : Type} {mg : α → α → Option α} : ∀ (ds acc l : List (Br α)), acc ≠ [] → mergeBy mg acc ds = some l → l ≠ []
  | [], acc, l, ha, h => by
    rw [mergeBy] at h
    injection h with h
    subst h
    exact ha
  | d :: ds, acc, l, ha, h => by
    rw [mergeBy] at h
    split at h
    · exact mergeBy_ne ds _ l (by simp) h
    · split at h
      · cases h
      · split at h
        · cases h
        · split at h
          · exact mergeBy_ne ds _ l (fun e => ha (by have := congrArg List.length e; rw [List.length_set] at this; exact List.length_eq_zero_iff.1 this)) h
          · cases h
theorem merge_shape : ∀ (n : Nat) (x y z : Pn n), shapeN n x → shapeN n y → mergeN n x y = some z → shapeN n z := by
  intro n
  induction n with
  | zero => intro x y z _ _ _; trivial
  | succ n ih =>
    intro x y z hx hy h
    rw [mergeN] at h
    split at h
    · injection h with h; subst h; exact hx
    · split at h
      · rename_i a cs b ds ex ey
        split at h
        · split at h
          · rename_i l hl
            split at h
            · injection h with h
              subst h
              obtain ⟨x', rfl⟩ := hear_some ex
              obtain ⟨y', rfl⟩ := hear_some ey
              have hx' : tkOk ⟨6, x', a⟩ ∧ cs ≠ [] ∧ ∀ b ∈ cs, shapeN n b.p := hx
              have hy' : tkOk ⟨6, y', b⟩ ∧ ds ≠ [] ∧ ∀ b ∈ ds, shapeN n b.p := hy
              exact ⟨.inr ⟨.inr rfl, rfl⟩, mergeBy_ne ds cs l hx'.2.1 hl, mergeBy_all (Q := shapeN n) ih ds cs l hx'.2.2 hy'.2.2 hl⟩
            · cases h
          · cases h
        · cases h
      · cases h
theorem mergeAll_all {α : Type} {Q : α → Prop} {mg : α → α → Option α} (hmg : ∀ x y z, Q x → Q y → mg x y = some z → Q z) : ∀ (r : List (Br α)) (x z : α), Q x → (∀ b ∈ r, Q b.p) → mergeAll mg x r = some z → Q z
  | [], x, z, hx, _, h => by rw [mergeAll] at h; injection h with h; subst h; exact hx
  | b :: r, x, z, hx, hr, h => by
    rw [mergeAll] at h
    split at h
    · cases h
    · rename_i q hq
      exact mergeAll_all hmg r q z (hmg x b.p q hx (hr b (by simp)) hq) (fun c hc => hr c (by simp [hc])) h
theorem parts_all {α : Type} {Q R : α → Prop} {g : α → Option α} (hg : ∀ x y, Q x → g x = some y → R y) : ∀ (l r : List (Br α)), (∀ b ∈ l, Q b.p) → partsBy g l = some r → ∀ b ∈ r, R b.p
  | [], r, _, h => by rw [partsBy] at h; injection h with h; subst h; intro b hb; cases hb
  | c :: l, r, hq, h => by
    rw [partsBy] at h
    split at h
    · cases h
    · rename_i q hq'
      split at h
      · cases h
      · rename_i r' hr'
        injection h with h
        subst h
        intro b hb
        rw [List.mem_cons] at hb
        rcases hb with rfl | hb
        · exact hg c.p q (hq c (by simp)) hq'
        · exact parts_all hg l r' (fun c hc => hq c (by simp [hc])) hr' b hb
theorem part_shape (role : ByteArray) : ∀ (n : Nat) (p q : Pn n), planN n p → partN role n p = some q → shapeN n q := by
  intro n
  induction n with
  | zero => intro p q _ _; trivial
  | succ n ih =>
    intro p
    refine Pn.cases (P := fun p => ∀ q, planN (n + 1) p → partN role (n + 1) p = some q → shapeN (n + 1) q) (fun x q _ h => ?_) (fun x p q hp h => ?_) (fun t l q hp h => ?_) p
    · have h' : some (Pn.leaf x) = some q := h
      injection h' with h'; subst h'; trivial
    · have h' : (if idleL role (rowN (n + 1) (.loop x p)) then some (Pn.leaf none) else (partN role n p).map (Pn.loop x)) = some q := h
      have hp' : planN n p := hp
      split at h'
      · injection h' with h'
        subst h'
        trivial
      · cases hq : partN role n p with
        | none => rw [hq] at h'; cases h'
        | some q' =>
          rw [hq] at h'
          simp only [Option.map_some, Option.some.injEq] at h'
          subst h'
          exact ih p q' hp' hq
    · have h' : (match partsBy (partN role n) l with
        | none => none
        | some r => if role.toList == t.a.toList then some (Pn.talk ⟨5, noT, t.b⟩ r) else if role.toList == t.b.toList then some (.talk ⟨6, noT, t.a⟩ r) else
          match r with
          | [] => none
          | c :: r => (mergeAll (mergeN n) c.p r).map (upN n)) = some q := h
      have hp' : t.op = 3 ∧ (t.a.toList == t.b.toList) = false ∧ 1 ≤ l.length ∧ l.length ≤ 4 ∧ ∀ b ∈ l, planN n b.p := hp
      split at h'
      · cases h'
      · rename_i r hr
        have hall := parts_all (Q := planN n) (R := shapeN n) (fun x y hx hy => ih x y hx hy) l r hp'.2.2.2.2 hr
        have hrn : r ≠ [] := fun e => by have := (parts_sz (f := rowN n) (Q := planN n) (fun x y hx hy => part_sz role n x y hx hy) l r hp'.2.2.2.2 hr).2; rw [e] at this; have := hp'.2.2.1; simp at *; omega
        split at h'
        · injection h' with h'
          subst h'
          exact ⟨.inr ⟨.inl rfl, rfl⟩, hrn, hall⟩
        · split at h'
          · injection h' with h'
            subst h'
            exact ⟨.inr ⟨.inr rfl, rfl⟩, hrn, hall⟩
          · split at h'
            · cases h'
            · rename_i c r
              cases hm : mergeAll (mergeN n) c.p r with
              | none => rw [hm] at h'; cases h'
              | some z =>
                rw [hm] at h'
                simp only [Option.map_some, Option.some.injEq] at h'
                subst h'
                exact up_shape n z (mergeAll_all (Q := shapeN n) (merge_shape n) r c.p z (hall c (by simp)) (fun b hb => hall b (by simp [hb])) hm)
theorem row_leaf_by (x : Option ByteArray) (v : Value) (w : World) (h : leafAt x v) : RowBy v w (leafRow x) := by
  cases x with
  | none => exact row_end v w h
  | some x => exact row_var x v w h
theorem row_calls : ∀ (n : Nat) (p : Pn n), shapeN n p → RowCalls n p := by
  intro n
  induction n with
  | zero => intro p _ v w h _; exact row_leaf_by p v w h
  | succ n ih =>
    intro p
    refine Pn.cases (P := fun p => shapeN (n + 1) p → RowCalls (n + 1) p) (fun x _ v w h _ => row_leaf_by x v w h) (fun x q hq v w h hl => ?_) (fun t l hp v w h hl => ?_) p
    · obtain ⟨u, rfl, h⟩ := h
      rw [row_loop] at hl
      exact row_rec n q (ih q hq) x u w h (by simp only [List.length_cons] at hl; omega)
    · obtain ⟨sl, rfl, h⟩ := h
      have hp' : tkOk t ∧ l ≠ [] ∧ ∀ b ∈ l, shapeN n b.p := hp
      have hin : ∀ b ∈ l, RowCalls n b.p := fun b hb => ih b.p (hp'.2.2 b hb)
      rw [row_talk] at hl
      have hl' : (brsBy (rowN n) l).length ≤ 999 := by simp only [List.length_cons] at hl; omega
      obtain ⟨op, a, b⟩ := t
      rcases hp'.1 with h3 | ⟨h5 | h6, ha⟩
      · dsimp only at h3; subst h3
        exact row_msg n l hin a b sl w h hl'
      · dsimp only at h5 ha; subst h5; subst ha
        exact row_snd n l hin b sl w h hl'
      · dsimp only at h6 ha; subst h6; subst ha
        exact row_rcv n l hin b sl w h hl'
end Go.Proofs.YtehodjfgojcnlaaGreat
/- The program's merging: the branch of a label; Nodes compared as wholes; branches copied. -/
namespace Go.Proofs.YtehodjfgojcnlaaGreat
open Go.RowKit
attribute [local go_sem ↓] Go.wp_at_zero Go.wp_at_succ

def atB {α : Type} (t : ByteArray) (l : List (Br α)) : Int := match findB t l with
  | none => -1
  | some i => (i : Int)
theorem find_skip {α : Type} {t : ByteArray} : ∀ {l : List (Br α)} {k : Nat} {b : Br α}, (∀ j c, l[j]? = some c → j < k → (c.l.toList == t.toList) = false) → l[k]? = some b → (b.l.toList == t.toList) = true → findB t l = some k
  | [], k, b, _, hk, _ => by simp at hk
  | c :: l, 0, b, _, hk, h => by
    simp at hk
    subst hk
    rw [findB, if_pos h]
  | c :: l, k + 1, b, hn, hk, h => by
    have h0 := hn 0 c rfl (by omega)
    rw [findB, h0]
    rw [List.getElem?_cons_succ] at hk
    rw [find_skip (fun j d hj hjk => hn (j + 1) d (by rw [List.getElem?_cons_succ]; exact hj) (by omega)) hk h]
    rfl
theorem find_none {α : Type} {t : ByteArray} : ∀ {l : List (Br α)}, (∀ (j : Nat) (c : Br α), l[j]? = some c → (c.l.toList == t.toList) = false) → findB t l = none
  | [], _ => rfl
  | c :: l, hn => by
    rw [findB, hn 0 c rfl, find_none (fun j d hj => hn (j + 1) d (by rw [List.getElem?_cons_succ]; exact hj))]
    rfl
set_option maxRecDepth 100000 in
set_option maxHeartbeats 1000000 in
theorem branch_at (n : Nat) (t : ByteArray) (S : Nat → Prop) (l : List (Br (Pn n))) (v : Value) (w : World) (hs : BrS w S v l) (hl : l.length ≤ 1000) :
    Calls Tryz.prog 98 #[v, .string t] w fun e w' => e = .returned (.int .i64 (atB t l)) ∧ Below w.heap.size w w' := by
  obtain ⟨ao, cap, rfl, hc1, hc2, hr⟩ := hs
  have HR := hide hr
  obtain ⟨L, hL⟩ : ∃ L, l.length = L := ⟨_, rfl⟩
  rw [hL] at hc1 hl ⊢
  have HLL := hide hL
  clear hr hL
  go_enter Tryz.func98, Tryz.ntmps98
  go_wp2_with fail
  go_loopw [9] (fun i wr => ∃ k : Nat, k ≤ L ∧ i = .int .i64 k ∧ (∀ j c, l[j]? = some c → j < k → (c.l.toList == t.toList) = false) ∧ Below w.heap.size w wr) (fun i _ => L - (intOf i).toNat)
  case atStart => exact ⟨0, Nat.zero_le _, rfl, fun j _ _ h => absurd h (by omega), Below.refl _ _⟩
  case round =>
    obtain ⟨k, hk, rfl, hno, hbel⟩ := hrel
    have HNO := hide hno
    have HBEL := hide hbel
    have hzw := hbel.size
    clear hno
    by_cases hlt : k < L
    · obtain ⟨g, o, rfl, hg, hcells⟩ := HR.out (by rintro rfl; have := HLL.out; simp at this; omega)
      obtain ⟨b0, hb0⟩ : ∃ b0, l[k]? = some b0 := ⟨l[k]'(by rw [HLL.out]; exact hlt), List.getElem?_eq_getElem _⟩
      obtain ⟨k1, k2, u, k3, k4⟩ := hcells k b0 hb0
      obtain ⟨T, a, rfl⟩ := k4.shape
      have hgw : g < w.heap.size := World.block_lt_of_cell? w _ k1
      have e1 := (hbel.cell (p := ⟨g, o + k * 3, none⟩) hgw).trans k1
      have e2 := (hbel.cell (p := ⟨g, o + k * 3 + 1, none⟩) hgw).trans k2
      have e3 := (hbel.cell (p := ⟨g, o + k * 3 + 2, none⟩) hgw).trans k3
      have HB0 := hide hb0
      obtain ⟨bl, bs, bp⟩ := b0
      dsimp only at e1 e2
      clear hcells k1 k2 k3 k4 hb0 hbel
      cases heq : (bl.toList == t.toList)
      · go_wp2_with fail
        go_roundw
        case rel =>
          refine ⟨k + 1, hlt, by go_num, fun j c hj hjk => ?_, HBEL.out.trans ((malloc1 _ _).mono hzw)⟩
          by_cases hjk' : j = k
          · subst hjk'
            rw [HB0.out] at hj
            injection hj with hj
            subst hj
            exact heq
          · exact HNO.out j c hj (by omega)
        case measure => simp [intOf]; omega
      · go_wp2_with fail
        go_ret
        refine ⟨ret_int ?_, HBEL.out.trans ((malloc1 _ _).mono hzw)⟩
        rw [atB, find_skip HNO.out HB0.out heq]
    · go_wp2_with fail
      go_ret
      refine ⟨ret_int ?_, HBEL.out⟩
      rw [atB, find_none (fun j c hj => HNO.out j c hj (by have := (List.getElem?_eq_some_iff.1 hj).1; rw [HLL.out] at this; omega))]
end Go.Proofs.YtehodjfgojcnlaaGreat
