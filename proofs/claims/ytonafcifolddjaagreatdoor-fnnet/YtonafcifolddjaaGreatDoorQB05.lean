/- What lies apart in memory: the blocks that a value leads to; worlds that differ in given blocks alone. -/
import Derived.Test.YtonafcifolddjaaGreatDoorQB01
import Derived.WalkKit
import Derived.WalkSpells
import Derived.WalkLawsBesides
namespace Go.Proofs.YtonafcifolddjaaGreatDoor
open Go.RowKit

def cellBlocks : Value → List Nat
  | .slice (some a) _ _ => [a.block]
  | _ => []
def vblocks : Value → List Nat
  | .agg cs => cs.toList.flatMap cellBlocks
  | v => cellBlocks v
/-- what a value leads to was made at or behind lo, may be written to, and no two of it are one -/
structure Fresh (lo : Nat) (w : World) (v : Value) : Prop where
  lo : ∀ b ∈ vblocks v, lo ≤ b
  hi : ∀ b ∈ vblocks v, b < w.heap.size
  free : ∀ b ∈ vblocks v, ∀ j, w.frozen? ⟨b, j, none⟩ = false
  nodup : (vblocks v).Nodup
structure Apart (w w' : World) (l : List Nat) : Prop where
  os : w'.os = w.os
  tape : w'.tape = w.tape
  output : w'.output = w.output
  size : w.heap.size ≤ w'.heap.size
  block : ∀ b, b < w.heap.size → b ∉ l → w'.heap[b]? = w.heap[b]?
theorem Apart.refl (w : World) : Apart w w [] := ⟨rfl, rfl, rfl, Nat.le_refl _, fun _ _ _ => rfl⟩
theorem below_apart {w w' : World} (h : Below w.heap.size w w') : Apart w w' [] := ⟨h.os, h.tape, h.output, h.size, fun b hb _ => h.block b hb⟩
theorem Apart.trans {a b c : World} {l l' : List Nat} (h : Apart a b l) (h' : Apart b c l') : Apart a c (l ++ l') :=
  ⟨h'.os.trans h.os, h'.tape.trans h.tape, h'.output.trans h.output, Nat.le_trans h.size h'.size, fun k hk hn => by
    rw [List.mem_append, not_or] at hn
    exact (h'.block k (Nat.lt_of_lt_of_le hk h.size) hn.2).trans (h.block k hk hn.1)⟩
theorem Apart.then {a b c : World} {l : List Nat} (h : Apart a b l) (h' : Below b.heap.size b c) : Apart a c l := by
  have := h.trans (below_apart h')
  rwa [List.append_nil] at this
theorem Apart.drew {a b : World} {l : List Nat} (h : Apart a b l) : Apart a b.drew l := ⟨h.os, h.tape, h.output, h.size, h.block⟩
theorem Apart.below {w w' : World} {l : List Nat} (h : Apart w w' l) {B : Nat} (hB : B ≤ w.heap.size) (hl : ∀ b ∈ l, B ≤ b) : Below B w w' :=
  ⟨h.os, h.tape, h.output, h.size, fun k hk => h.block k (Nat.lt_of_lt_of_le hk hB) (fun hm => absurd (hl k hm) (by omega))⟩
theorem Apart.cell {w w' : World} {l : List Nat} (h : Apart w w' l) {b o : Nat} {x : Value} (hc : w.cell? ⟨b, o, none⟩ = some x) (hl : ∀ k ∈ l, b < k) : w'.cell? ⟨b, o, none⟩ = some x :=
  (World.cell?_of_block (a := ⟨b, o, none⟩) (h.block b (World.block_lt_of_cell? w _ hc) (fun hm => absurd (hl b hm) (by omega)))).trans hc
theorem Apart.grown {w w' : World} {b : Nat} (h : w.grownBy w' (some b)) : Apart w w' [b] :=
  ⟨h.os, h.tape, h.output, h.size, fun k hk hn => h.block k hk (fun e => hn (by simp at e; simp [e]))⟩
theorem Apart.grown_none {w w' : World} (h : w.grownBy w' none) : Apart w w' [] :=
  ⟨h.os, h.tape, h.output, h.size, fun k hk _ => h.block k hk (by simp)⟩
theorem grownBy_apart {w w' : World} {p : Option Addr} {n c : Nat} (h : w.grownBy w' (Value.slice p n c).ownBlock) : Apart w w' (vblocks (.slice p n c)) := by
  cases p with
  | none => exact Apart.grown_none h
  | some a => exact Apart.grown h
theorem Fresh.keep {lo : Nat} {w w' : World} {v : Value} {l : List Nat} (h : Fresh lo w v) (ha : Apart w w' l) (hd : ∀ b ∈ vblocks v, b ∉ l) : Fresh lo w' v :=
  ⟨h.lo, fun b hb => Nat.lt_of_lt_of_le (h.hi b hb) ha.size, fun b hb j => (World.frozen?_of_block (a := ⟨b, j, none⟩) (ha.block b (h.hi b hb) (hd b hb))).trans (h.free b hb j), h.nodup⟩
theorem fresh_slice {lo : Nat} {w : World} {p : Option Addr} {n c : Nat} (h : MOwn lo w (.slice p n c)) : Fresh lo w (.slice p n c) := by
  cases p with
  | none => exact ⟨by simp [vblocks, cellBlocks], by simp [vblocks, cellBlocks], by simp [vblocks, cellBlocks], by simp [vblocks, cellBlocks]⟩
  | some a =>
    have hf := h.free a.block rfl
    exact ⟨by simp [vblocks, cellBlocks]; exact hf.1, by simp [vblocks, cellBlocks]; exact hf.2.1, by simp [vblocks, cellBlocks]; exact hf.2.2, by simp [vblocks, cellBlocks]⟩
theorem Fresh.own {lo : Nat} {w : World} {p : Option Addr} {n c : Nat} (h : Fresh lo w (.slice p n c)) : MOwn lo w (.slice p n c) := by
  cases p with
  | none => exact ⟨fun b hb => by cases hb⟩
  | some a => exact ⟨fun b hb => by
      simp [Value.ownBlock] at hb; subst hb
      exact ⟨h.lo _ (by simp [vblocks, cellBlocks]), h.hi _ (by simp [vblocks, cellBlocks]), h.free _ (by simp [vblocks, cellBlocks])⟩⟩
theorem own_blocks {v : Value} {p : Option Addr} {n c : Nat} (e : v = .slice p n c) {b : Nat} : v.ownBlock = some b ↔ b ∈ vblocks v := by
  subst e
  cases p with
  | none => simp [Value.ownBlock, vblocks, cellBlocks]
  | some a => simp [Value.ownBlock, vblocks, cellBlocks]; exact ⟨fun h => h.symm, fun h => h.symm⟩
/-- two that were made one behind the other have nothing in common -/
theorem Fresh.disj {lo1 lo2 : Nat} {w1 w2 : World} {v1 v2 : Value} (h1 : Fresh lo1 w1 v1) (h2 : Fresh lo2 w2 v2) (h : w1.heap.size ≤ lo2) : (∀ b ∈ vblocks v1, b ∉ vblocks v2) ∧ (∀ b ∈ vblocks v2, b ∉ vblocks v1) :=
  ⟨fun b hb hb' => absurd (h1.hi b hb) (by have := h2.lo b hb'; omega), fun b hb hb' => absurd (h1.hi b hb') (by have := h2.lo b hb; omega)⟩
end Go.Proofs.YtonafcifolddjaaGreatDoor
/- Marks: the texts by which a law tells whether an answer owns its memory; what a store leaves as it was. -/
namespace Go.Proofs.YtonafcifolddjaaGreatDoor
open Go.RowKit

def digF : Nat → Nat → ByteArray → ByteArray
  | 0, _, out => out
  | f + 1, k, out => if k = 0 then out else digF f (k / 10) (ByteArray.mk #[UInt8.ofNat (48 + k % 10)] ++ out)
def markT (k : Nat) : ByteArray := ByteArray.mk #[109] ++ digF 7 k ByteArray.empty

def digit (j : Nat) : UInt8 := UInt8.ofNat (48 + j % 10)
theorem conv_digit (j : Nat) (W : World) :
    (convert 22 9 (.slice (some ⟨W.heap.size, 0, none⟩) 1 1)).run Tryz.prog (W.alloc (.cells #[.int .u8 (48 + (j : Int) % 10)] 5)) = .ok (.string ⟨[digit j].toArray⟩) (W.alloc (.cells #[.int .u8 (48 + (j : Int) % 10)] 5)) := by
  refine run_convert_bytes_back (P := Tryz.prog) _ 22 9 5 ⟨W.heap.size, 0, none⟩ 1 [digit j] Tryz.underlying22 Tryz.underlying5 Tryz.underlying9 (fun i hi => ?_)
  match i, hi with
  | 0, _ =>
    have e : ((digit j).toNat : Int) = 48 + (j : Int) % 10 := by
      have : (digit j).toNat = 48 + j % 10 := by
        rw [digit, UInt8.toNat_ofNat']
        omega
      omega
    simp [Addr.add, e]
theorem dig_next (f j : Nat) (o : ByteArray) (h : 0 < j) : digF (f + 1) j o = digF f (j / 10) (ByteArray.mk [digit j].toArray ++ o) := by
  rw [digF, if_neg (by omega)]; rfl
theorem dig_zero (f : Nat) (o : ByteArray) : digF f 0 o = o := by
  cases f <;> simp [digF]

theorem grown_below {w wr w1 : World} {row : Option Nat} (hg : w.grownBy wr row) (hb : Below wr.heap.size wr w1) : w.grownBy w1 row :=
  ⟨hb.os.trans hg.os, hb.tape.trans hg.tape, hb.output.trans hg.output, Nat.le_trans hg.size hb.size, fun k hk hne => (hb.block k (Nat.lt_of_lt_of_le hk hg.size)).trans (hg.block k hk hne)⟩
theorem grown_set {w wr : World} {g : Nat} (hg : w.grownBy wr (some g)) (o : Nat) (x : Value) : w.grownBy (wr.setCell ⟨g, o, none⟩ x) (some g) :=
  ⟨hg.os, hg.tape, hg.output, by simp; exact hg.size, fun k hk hne => (Below.heap_setCell wr ⟨g, o, none⟩ x k (fun h => hne (by rw [h]))).trans (hg.block k hk hne)⟩
theorem grown_reflT (w : World) (row : Option Nat) : w.grownBy w row := ⟨rfl, rfl, rfl, Nat.le_refl _, fun _ _ _ => rfl⟩
end Go.Proofs.YtonafcifolddjaaGreatDoor
/- A scope in which the run jumps to several labels, on or back: what holds at each jump, and a measure that every pass lowers. -/
namespace Go.Proofs.YtonafcifolddjaaGreatDoor
open Go.RowKit

/-- As Q; by a goto to a label l: J l. -/
def jumpAll (J : Nat → Act → World → Prop) (Q : Exit → Act → World → Prop) : Exit → Act → World → Prop
  | .goto l, a, w => J l a w
  | e, a, w => Q e a w

theorem wp_scope_labels {P : Program} {a : Act} {w : World} {Q : Exit → Act → World → Prop} {c : Code} (J : Nat → Act → World → Prop) (m : Nat → Act → World → Nat)
    (first : c.wp P (jumpAll J Q) a w)
    (pass : ∀ l a w, J l a w → ∃ rest, findLabel c l = some rest ∧ rest.wp P (jumpAll (fun l' a' w' => J l' a' w' ∧ m l' a' w' < m l a w) Q) a w) : (Code.scope c).wp P Q a w := by
  intro b k cs
  have key : ∀ n l a w, m l a w = n → J l a w → ∃ rest, findLabel c l = some rest ∧ ∃ e a' w', Q e a' w' ∧ Arrives P (lone (b.at a (.code rest :: .inScope c :: k)) cs w) b k cs e a' w' := by
    intro n
    induction n using Nat.strongRecOn with
    | _ n ih =>
      intro l a w hn hJ
      obtain ⟨rest, hf, hw⟩ := pass l a w hJ
      refine ⟨rest, hf, ?_⟩
      obtain ⟨e, a1, w1, hq, harr⟩ := hw b (.inScope c :: k) cs
      cases e with
      | normal => exact ⟨.normal, a1, w1, hq, Steps.trans harr (.one step_inScope)⟩
      | exit id => exact ⟨.exit id, a1, w1, hq, fun k' hk => harr k' (by simp [exitTo, hk])⟩
      | goto l' =>
        obtain ⟨hJ', hlt⟩ := hq
        obtain ⟨rest', hf', e2, a2, w2, hq2, harr2⟩ := ih _ (by omega) l' a1 w1 rfl hJ'
        exact ⟨e2, a2, w2, hq2, .of_steps (harr _ (by simp [gotoIn, hf'])) harr2⟩
      | ret => exact ⟨_, a1, w1, hq, harr⟩
      | panic ch => exact ⟨_, a1, w1, hq, harr⟩
      | outgrown => exact ⟨_, a1, w1, hq, harr⟩
  obtain ⟨e, a1, w1, hq, harr⟩ := first b (.inScope c :: k) cs
  cases e with
  | normal => exact ⟨.normal, a1, w1, hq, .head step_scope (Steps.trans harr (.one step_inScope))⟩
  | exit id => exact ⟨.exit id, a1, w1, hq, fun k' hk => .head step_scope (harr k' (by simp [exitTo, hk]))⟩
  | goto l' =>
    obtain ⟨rest', hf', e2, a2, w2, hq2, harr2⟩ := key _ l' a1 w1 rfl hq
    exact ⟨e2, a2, w2, hq2, .of_steps (.head step_scope (harr _ (by simp [gotoIn, hf']))) harr2⟩
  | ret => exact ⟨_, a1, w1, hq, .of_steps (.one step_scope) harr⟩
  | panic ch => exact ⟨_, a1, w1, hq, .of_steps (.one step_scope) harr⟩
  | outgrown => exact ⟨_, a1, w1, hq, .of_steps (.one step_scope) harr⟩
end Go.Proofs.YtonafcifolddjaaGreatDoor
