/- Pieces: how great what is merged, and a part, may be. -/
import Derived.Test.YtmlkfnclniamiaaQPartOf20
import Derived.Test.YtmlkfnclniamiaaQPartOf06
import Derived.Test.YtmlkfnclniamiaaQPartOf16
import Derived.Test.YtmlkfnclniamiaaQPartOf17
namespace Go.Proofs.Ytmlkfnclniamiaa
open Go.RowKit

def fitL (l : List Nd) : Prop := ∀ n ∈ l, n.fit
theorem fit_app {l r : List Nd} : fitL (l ++ r) ↔ fitL l ∧ fitL r := by
  unfold fitL
  simp only [List.mem_append]
  exact ⟨fun h => ⟨fun n hn => h n (.inl hn), fun n hn => h n (.inr hn)⟩, fun h n hn => hn.elim (h.1 n) (h.2 n)⟩
theorem fit_cons {n : Nd} {l : List Nd} : fitL (n :: l) ↔ n.fit ∧ fitL l := by
  unfold fitL
  simp only [List.mem_cons]
  exact ⟨fun h => ⟨h n (.inl rfl), fun m hm => h m (.inr hm)⟩, fun h m hm => hm.elim (fun e => e ▸ h.1) (h.2 m)⟩
theorem fit_nil : fitL [] := fun _ h => by cases h
section
variable {α : Type} {f : α → List Nd}
theorem brs_set : ∀ {l : List (Br α)} {i : Nat} {b : Br α} (c : Br α), l[i]? = some b → (brsBy f (l.set i c)).length + (f b.p).length = (brsBy f l).length + (f c.p).length ∧ (fitL (brsBy f l) → fitL [⟨4, c.l, noT, 0, c.s⟩] → fitL (f c.p) → fitL (brsBy f (l.set i c)))
  | [], i, b, c, h => by simp at h
  | a :: l, 0, b, c, h => by
    simp at h
    subst h
    rw [List.set_cons_zero, brs_cons, brs_cons]
    refine ⟨by simp only [List.length_cons, List.length_append]; omega, fun h1 h2 h3 => ?_⟩
    rw [fit_cons, fit_app] at *
    exact ⟨h2.1, h3, h1.2.2⟩
  | a :: l, i + 1, b, c, h => by
    rw [List.getElem?_cons_succ] at h
    obtain ⟨h1, h2⟩ := brs_set c h
    rw [List.set_cons_succ, brs_cons, brs_cons]
    refine ⟨by simp only [List.length_cons, List.length_append]; omega, fun h3 h4 h5 => ?_⟩
    rw [fit_cons, fit_app] at h3 ⊢
    exact ⟨h3.1, h3.2.1, h2 h3.2.2 h4 h5⟩
theorem brs_get : ∀ {l : List (Br α)} {i : Nat} {b : Br α}, l[i]? = some b → (f b.p).length + 1 ≤ (brsBy f l).length ∧ (fitL (brsBy f l) → fitL [⟨4, b.l, noT, 0, b.s⟩] ∧ fitL (f b.p))
  | [], i, b, h => by simp at h
  | a :: l, 0, b, h => by
    simp at h
    subst h
    rw [brs_cons]
    refine ⟨by simp only [List.length_cons, List.length_append]; omega, fun h1 => ?_⟩
    rw [fit_cons, fit_app] at h1
    exact ⟨fit_cons.2 ⟨h1.1, fit_nil⟩, h1.2.1⟩
  | a :: l, i + 1, b, h => by
    rw [List.getElem?_cons_succ] at h
    obtain ⟨h1, h2⟩ := brs_get h
    rw [brs_cons]
    refine ⟨by simp only [List.length_cons, List.length_append]; omega, fun h3 => ?_⟩
    rw [fit_cons, fit_app] at h3
    exact h2 h3.2.2
def SzOk (a b c : List Nd) : Prop := c.length ≤ a.length + b.length ∧ (fitL a → fitL b → fitL c)
theorem sz_left (a b : List Nd) : SzOk a b a := ⟨by omega, fun h _ => h⟩
theorem mergeBy_sz {mg : α → α → Option α} (hmg : ∀ x y z, mg x y = some z → SzOk (f x) (f y) (f z)) : ∀ (ds acc l : List (Br α)), mergeBy mg acc ds = some l → SzOk (brsBy f acc) (brsBy f ds) (brsBy f l)
  | [], acc, l, h => by
    rw [mergeBy] at h
    injection h with h
    subst h
    exact sz_left _ _
  | d :: ds, acc, l, h => by
    rw [mergeBy] at h
    rw [brs_cons]
    split at h
    · obtain ⟨h1, h2⟩ := mergeBy_sz hmg ds _ l h
      rw [brs_app] at h1 h2
      have e : brsBy f [d] = ⟨4, d.l, noT, 0, d.s⟩ :: f d.p := by rw [brs_cons]; simp [brsBy]
      rw [e] at h1 h2
      refine ⟨by simp only [List.length_append, List.length_cons] at *; omega, fun ha hb => ?_⟩
      rw [fit_cons, fit_app] at hb
      exact h2 (fit_app.2 ⟨ha, fit_cons.2 ⟨hb.1, hb.2.1⟩⟩) hb.2.2
    · rename_i i hi
      split at h
      · cases h
      · rename_i b hb
        split at h
        · cases h
        · rename_i q hq
          split at h
          · obtain ⟨h1, h2⟩ := mergeBy_sz hmg ds _ l h
            obtain ⟨h3, h4⟩ := hmg b.p d.p q hq
            obtain ⟨h5, h6⟩ := brs_set (f := f) ⟨b.l, b.s, q⟩ hb
            obtain ⟨h7, h8⟩ := brs_get (f := f) hb
            refine ⟨by simp only [List.length_append, List.length_cons] at *; omega, fun ha hc => ?_⟩
            rw [fit_cons, fit_app] at hc
            exact h2 (h6 ha (h8 ha).1 (h4 (h8 ha).2 hc.2.1)) hc.2.2
          · cases h
theorem mergeAll_sz {mg : α → α → Option α} (hmg : ∀ x y z, mg x y = some z → SzOk (f x) (f y) (f z)) : ∀ (r : List (Br α)) (x z : α), mergeAll mg x r = some z → SzOk (f x) (brsBy f r) (f z)
  | [], x, z, h => by rw [mergeAll] at h; injection h with h; subst h; exact sz_left _ _
  | b :: r, x, z, h => by
    rw [mergeAll] at h
    split at h
    · cases h
    · rename_i q hq
      obtain ⟨h1, h2⟩ := mergeAll_sz hmg r q z h
      obtain ⟨h3, h4⟩ := hmg x b.p q hq
      rw [brs_cons]
      refine ⟨by simp only [List.length_cons, List.length_append]; omega, fun ha hb => ?_⟩
      rw [fit_cons, fit_app] at hb
      exact h2 (h4 ha hb.2.1) hb.2.2
end
theorem hear_some {n : Nat} {p : Pn (n + 1)} {a : ByteArray} {l : List (Br (Pn n))} (h : hearN p = some (a, l)) : ∃ b, p = .talk ⟨6, b, a⟩ l := by
  revert h
  refine Pn.cases (P := fun p => hearN p = some (a, l) → ∃ b, p = .talk ⟨6, b, a⟩ l) (fun x h => ?_) (fun x q h => ?_) (fun t l' h => ?_) p
  · cases h
  · cases h
  · have h' : (if t.op == 6 then some (t.b, l') else none) = some (a, l) := h
    split at h'
    · rename_i h6
      injection h' with h'
      injection h' with e1 e2
      obtain ⟨op, x, y⟩ := t
      dsimp only at e1 h6
      have h6' : op = 6 := by simpa using h6
      subst e1
      subst e2
      subst h6'
      exact ⟨x, rfl⟩
    · cases h'
theorem merge_sz : ∀ (n : Nat) (x y z : Pn n), mergeN n x y = some z → SzOk (rowN n x) (rowN n y) (rowN n z) := by
  intro n
  induction n with
  | zero =>
    intro x y z h
    rw [mergeN] at h
    split at h
    · injection h with h; subst h; exact sz_left _ _
    · cases h
  | succ n ih =>
    intro x y z h
    rw [mergeN] at h
    split at h
    · injection h with h; subst h; exact sz_left _ _
    · split at h
      · rename_i a cs b ds hx hy
        split at h
        · split at h
          · rename_i l hl
            split at h
            · injection h with h
              subst h
              obtain ⟨x', rfl⟩ := hear_some hx
              obtain ⟨y', rfl⟩ := hear_some hy
              obtain ⟨h1, h2⟩ := mergeBy_sz ih ds cs l hl
              rw [row_talk, row_talk, row_talk]
              refine ⟨by simp only [List.length_cons]; omega, fun ha hb => ?_⟩
              rw [fit_cons] at ha hb ⊢
              exact ⟨⟨by simp [noT], ha.1.2⟩, h2 ha.2 hb.2⟩
            · cases h
          · cases h
        · cases h
      · cases h
def PartOk (a c : List Nd) : Prop := c.length ≤ a.length ∧ (fitL a → fitL c)
theorem parts_sz {α : Type} {f : α → List Nd} {g : α → Option α} {Q : α → Prop} (hg : ∀ x y, Q x → g x = some y → PartOk (f x) (f y)) : ∀ (l r : List (Br α)), (∀ b ∈ l, Q b.p) → partsBy g l = some r → PartOk (brsBy f l) (brsBy f r) ∧ r.length = l.length
  | [], r, _, h => by rw [partsBy] at h; injection h with h; subst h; exact ⟨⟨Nat.le_refl _, id⟩, rfl⟩
  | b :: l, r, hq, h => by
    rw [partsBy] at h
    split at h
    · cases h
    · rename_i q hq'
      split at h
      · cases h
      · rename_i r' hr'
        injection h with h
        subst h
        obtain ⟨h1, h2⟩ := hg b.p q (hq b (by simp)) hq'
        obtain ⟨⟨h3, h4⟩, h5⟩ := parts_sz hg l r' (fun c hc => hq c (by simp [hc])) hr'
        rw [brs_cons, brs_cons]
        refine ⟨⟨by simp only [List.length_cons, List.length_append]; omega, fun ha => ?_⟩, by simp only [List.length_cons]; omega⟩
        rw [fit_cons, fit_app] at ha ⊢
        exact ⟨ha.1, h2 ha.2.1, h4 ha.2.2⟩
theorem part_sz (role : ByteArray) : ∀ (n : Nat) (p q : Pn n), planN n p → partN role n p = some q → PartOk (rowN n p) (rowN n q) := by
  intro n
  induction n with
  | zero => intro p q _ h; rw [partN] at h; injection h with h; subst h; exact ⟨Nat.le_refl _, id⟩
  | succ n ih =>
    intro p
    refine Pn.cases (P := fun p => ∀ q, planN (n + 1) p → partN role (n + 1) p = some q → PartOk (rowN (n + 1) p) (rowN (n + 1) q)) (fun x q _ h => ?_) (fun x p q hp h => ?_) (fun t l q hp h => ?_) p
    · have h' : some (Pn.leaf x) = some q := h
      injection h' with h'; subst h'; exact ⟨Nat.le_refl _, id⟩
    · have h' : (if idleL role (rowN (n + 1) (.loop x p)) then some (Pn.leaf none) else (partN role n p).map (Pn.loop x)) = some q := h
      have hp' : planN n p := hp
      split at h'
      · injection h' with h'
        subst h'
        rw [row_loop, row_leaf]
        refine ⟨by simp only [leafRow, List.length_cons, List.length_nil]; omega, fun _ => fit_cons.2 ⟨by simp [Nd.fit, noT], fit_nil⟩⟩
      · cases hq : partN role n p with
        | none => rw [hq] at h'; cases h'
        | some q' =>
          rw [hq] at h'
          simp only [Option.map_some, Option.some.injEq] at h'
          subst h'
          obtain ⟨h1, h2⟩ := ih p q' hp' hq
          rw [row_loop, row_loop]
          refine ⟨by simp only [List.length_cons]; omega, fun ha => ?_⟩
          rw [fit_cons] at ha ⊢
          exact ⟨ha.1, h2 ha.2⟩
    · have h' : (match partsBy (partN role n) l with
        | none => none
        | some r => if role.toList == t.a.toList then some (Pn.talk ⟨5, noT, t.b⟩ r) else if role.toList == t.b.toList then some (.talk ⟨6, noT, t.a⟩ r) else
          match r with
          | [] => none
          | c :: r => (mergeAll (mergeN n) c.p r).map (upN n)) = some q := h
      have hp' : t.op = 3 ∧ (t.a.toList == t.b.toList) = false ∧ 1 ≤ l.length ∧ l.length ≤ 4 ∧ ∀ b ∈ l, planN n b.p := hp
      split at h'
      · cases h'
      · rename_i r hr
        obtain ⟨⟨h1, h2⟩, h3⟩ := parts_sz (Q := planN n) (fun x y hx hy => ih x y hx hy) l r hp'.2.2.2.2 hr
        rw [row_talk]
        split at h'
        · injection h' with h'
          subst h'
          rw [row_talk]
          refine ⟨by simp only [List.length_cons]; omega, fun ha => ?_⟩
          rw [fit_cons] at ha ⊢
          exact ⟨⟨by simp [noT], ha.1.2⟩, h2 ha.2⟩
        · split at h'
          · injection h' with h'
            subst h'
            rw [row_talk]
            refine ⟨by simp only [List.length_cons]; omega, fun ha => ?_⟩
            rw [fit_cons] at ha ⊢
            exact ⟨⟨by simp [noT], ha.1.1⟩, h2 ha.2⟩
          · split at h'
            · cases h'
            · rename_i c r
              cases hm : mergeAll (mergeN n) c.p r with
              | none => rw [hm] at h'; cases h'
              | some z =>
                rw [hm] at h'
                simp only [Option.map_some, Option.some.injEq] at h'
                subst h'
                obtain ⟨h4, h5⟩ := mergeAll_sz (merge_sz n) r c.p z hm
                rw [up_row]
                rw [brs_cons] at h1 h2
                refine ⟨by simp only [List.length_cons, List.length_append] at *; omega, fun ha => ?_⟩
                have := h2 (fit_cons.1 ha).2
                rw [fit_cons, fit_app] at this
                exact h5 this.2.1 this.2.2
end Go.Proofs.Ytmlkfnclniamiaa
/- What lies apart in memory: the blocks that a value leads to; worlds that differ in given blocks alone. -/
namespace Go.Proofs.Ytmlkfnclniamiaa
open Go.RowKit

def cellBlocks : Value → List Nat
  | .slice (some a) _ _ => [a.block]
  | _ => []
def vblocks : Value → List Nat
  | .agg cs => cs.toList.flatMap cellBlocks
  | v => cellBlocks v
/-- what a value leads to was made at or behind lo, may be written to, and no two of it are one -/
structure Fresh (lo : Nat) (w : World) (v : Value) : Prop where
  lo : ∀ b ∈ vblocks v, lo ≤ b
  hi : ∀ b ∈ vblocks v, b < w.heap.size
  free : ∀ b ∈ vblocks v, ∀ j, w.frozen? ⟨b, j, none⟩ = false
  nodup : (vblocks v).Nodup
structure Apart (w w' : World) (l : List Nat) : Prop where
  os : w'.os = w.os
  tape : w'.tape = w.tape
  output : w'.output = w.output
  size : w.heap.size ≤ w'.heap.size
  block : ∀ b, b < w.heap.size → b ∉ l → w'.heap[b]? = w.heap[b]?
theorem Apart.refl (w : World) : Apart w w [] := ⟨rfl, rfl, rfl, Nat.le_refl _, fun _ _ _ => rfl⟩
theorem below_apart {w w' : World} (h : Below w.heap.size w w') : Apart w w' [] := ⟨h.os, h.tape, h.output, h.size, fun b hb _ => h.block b hb⟩
theorem Apart.trans {a b c : World} {l l' : List Nat} (h : Apart a b l) (h' : Apart b c l') : Apart a c (l ++ l') :=
  ⟨h'.os.trans h.os, h'.tape.trans h.tape, h'.output.trans h.output, Nat.le_trans h.size h'.size, fun k hk hn => by
    rw [List.mem_append, not_or] at hn
    exact (h'.block k (Nat.lt_of_lt_of_le hk h.size) hn.2).trans (h.block k hk hn.1)⟩
theorem Apart.then {a b c : World} {l : List Nat} (h : Apart a b l) (h' : Below b.heap.size b c) : Apart a c l := by
  have := h.trans (below_apart h')
  rwa [List.append_nil] at this
theorem Apart.drew {a b : World} {l : List Nat} (h : Apart a b l) : Apart a b.drew l := ⟨h.os, h.tape, h.output, h.size, h.block⟩
theorem Apart.below {w w' : World} {l : List Nat} (h : Apart w w' l) {B : Nat} (hB : B ≤ w.heap.size) (hl : ∀ b ∈ l, B ≤ b) : Below B w w' :=
  ⟨h.os, h.tape, h.output, h.size, fun k hk => h.block k (Nat.lt_of_lt_of_le hk hB) (fun hm => absurd (hl k hm) (by omega))⟩
theorem Apart.cell {w w' : World} {l : List Nat} (h : Apart w w' l) {b o : Nat} {x : Value} (hc : w.cell? ⟨b, o, none⟩ = some x) (hl : ∀ k ∈ l, b < k) : w'.cell? ⟨b, o, none⟩ = some x :=
  (World.cell?_of_block (a := ⟨b, o, none⟩) (h.block b (World.block_lt_of_cell? w _ hc) (fun hm => absurd (hl b hm) (by omega)))).trans hc
theorem Apart.grown {w w' : World} {b : Nat} (h : w.grownBy w' (some b)) : Apart w w' [b] :=
  ⟨h.os, h.tape, h.output, h.size, fun k hk hn => h.block k hk (fun e => hn (by simp at e; simp [e]))⟩
theorem Apart.grown_none {w w' : World} (h : w.grownBy w' none) : Apart w w' [] :=
  ⟨h.os, h.tape, h.output, h.size, fun k hk _ => h.block k hk (by simp)⟩
theorem grownBy_apart {w w' : World} {p : Option Addr} {n c : Nat} (h : w.grownBy w' (Value.slice p n c).ownBlock) : Apart w w' (vblocks (.slice p n c)) := by
  cases p with
  | none => exact Apart.grown_none h
  | some a => exact Apart.grown h
theorem Fresh.keep {lo : Nat} {w w' : World} {v : Value} {l : List Nat} (h : Fresh lo w v) (ha : Apart w w' l) (hd : ∀ b ∈ vblocks v, b ∉ l) : Fresh lo w' v :=
  ⟨h.lo, fun b hb => Nat.lt_of_lt_of_le (h.hi b hb) ha.size, fun b hb j => (World.frozen?_of_block (a := ⟨b, j, none⟩) (ha.block b (h.hi b hb) (hd b hb))).trans (h.free b hb j), h.nodup⟩
theorem fresh_slice {lo : Nat} {w : World} {p : Option Addr} {n c : Nat} (h : MOwn lo w (.slice p n c)) : Fresh lo w (.slice p n c) := by
  cases p with
  | none => exact ⟨by simp [vblocks, cellBlocks], by simp [vblocks, cellBlocks], by simp [vblocks, cellBlocks], by simp [vblocks, cellBlocks]⟩
  | some a =>
    have hf := h.free a.block rfl
    exact ⟨by simp [vblocks, cellBlocks]; exact hf.1, by simp [vblocks, cellBlocks]; exact hf.2.1, by simp [vblocks, cellBlocks]; exact hf.2.2, by simp [vblocks, cellBlocks]⟩
theorem Fresh.own {lo : Nat} {w : World} {p : Option Addr} {n c : Nat} (h : Fresh lo w (.slice p n c)) : MOwn lo w (.slice p n c) := by
  cases p with
  | none => exact ⟨fun b hb => by cases hb⟩
  | some a => exact ⟨fun b hb => by
      simp [Value.ownBlock] at hb; subst hb
      exact ⟨h.lo _ (by simp [vblocks, cellBlocks]), h.hi _ (by simp [vblocks, cellBlocks]), h.free _ (by simp [vblocks, cellBlocks])⟩⟩
theorem own_blocks {v : Value} {p : Option Addr} {n c : Nat} (e : v = .slice p n c) {b : Nat} : v.ownBlock = some b ↔ b ∈ vblocks v := by
  subst e
  cases p with
  | none => simp [Value.ownBlock, vblocks, cellBlocks]
  | some a => simp [Value.ownBlock, vblocks, cellBlocks]; exact ⟨fun h => h.symm, fun h => h.symm⟩
/-- two that were made one behind the other have nothing in common -/
theorem Fresh.disj {lo1 lo2 : Nat} {w1 w2 : World} {v1 v2 : Value} (h1 : Fresh lo1 w1 v1) (h2 : Fresh lo2 w2 v2) (h : w1.heap.size ≤ lo2) : (∀ b ∈ vblocks v1, b ∉ vblocks v2) ∧ (∀ b ∈ vblocks v2, b ∉ vblocks v1) :=
  ⟨fun b hb hb' => absurd (h1.hi b hb) (by have := h2.lo b hb'; omega), fun b hb hb' => absurd (h1.hi b hb') (by have := h2.lo b hb; omega)⟩
end Go.Proofs.Ytmlkfnclniamiaa
