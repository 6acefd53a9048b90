/- Rows of texts that a call makes itself. -/
import Derived.Test.YtehodjfgojcnlaaGreatRows
import Derived.Test.YtehodjfgojcnlaaGreatQSound10
import Derived.Test.YtehodjfgojcnlaaGreatQSound07
namespace Go.Proofs.YtehodjfgojcnlaaGreat
open Go.RowKit

theorem new_row1 (w : World) (cs : List Value) (t : TypeId) (j : Nat) (u : Value) (h : cs[j]? = some u) : (w.alloc (.cells cs.toArray t)).cell? (Addr.add ⟨w.heap.size, 0, none⟩ j) = some u := by
  have e : (w.alloc (.cells cs.toArray t)).heap[w.heap.size]? = some (.cells cs.toArray t) := mheap_new _ _ _ rfl
  have ea : Addr.add ⟨w.heap.size, 0, none⟩ j = ⟨w.heap.size, j, none⟩ := by
    unfold Addr.add
    split <;> simp_all
  rw [ea]
  simp only [World.cell?]
  rw [e]
  simpa using h
theorem Tryz.infoStr : (Tryz.prog.info? 9).map (fun i => (i.zero, i.size, i.bytes)) = some (some (.string ByteArray.empty), 1, 16) := by kernel_rfl
theorem owns_some {w : World} {base e n : Nat} {v : Value} {xs : List Value} (h : w.ownsRow base e 1 v n xs) (hn : 0 < n) : ∃ g c, v = .slice (some ⟨g, 0, none⟩) n c ∧ g < w.heap.size ∧ ∀ i x, xs[i]? = some x → w.cell? ⟨g, i, none⟩ = some x := by
  have H := h
  obtain ⟨_, hh⟩ := h
  rcases hh with ⟨rfl, h0⟩ | ⟨g, cap, cur, rfl, _, hblk, _⟩
  · omega
  · exact ⟨g, cap, rfl, (Array.getElem?_eq_some_iff.1 hblk).1, fun i x hx => owns_cell H rfl i x hx⟩
def strV (l : List ByteArray) : List Value := l.map Value.string
theorem strV_one (l : List ByteArray) : ∀ u ∈ strV l, u.oneCell' = true := by
  intro u hu
  simp only [strV, List.mem_map] at hu
  obtain ⟨x, _, rfl⟩ := hu
  rfl
end Go.Proofs.YtehodjfgojcnlaaGreat
/- Pieces in memory. -/
namespace Go.Proofs.YtehodjfgojcnlaaGreat
open Go.RowKit

def leafAt : Option ByteArray → Value → Prop
  | none, v => v = .iface 82 (.agg #[])
  | some x, v => v = .iface 73 (.agg #[.string x])
def talkV (t : Tk) (sl : Value) : Value := if t.op == 3 then .iface 80 (.agg #[.string t.a, .string t.b, sl]) else if t.op == 5 then .iface 109 (.agg #[.string t.b, sl]) else .iface 110 (.agg #[.string t.b, sl])
/-- a slice of branches -/
def BrSl {α : Type} (pa : α → Value → Prop) (w : World) (S : Nat → Prop) (v : Value) (l : List (Br α)) : Prop := ∃ ao cap, v = .slice ao l.length cap ∧ l.length ≤ cap ∧ cap ≤ maxLen ∧ (l ≠ [] → ∃ g o, ao = some ⟨g, o, none⟩ ∧ S g ∧ ∀ (i : Nat) (b : Br α), l[i]? = some b → w.cell? ⟨g, o + i * 3, none⟩ = some (.string b.l) ∧ w.cell? ⟨g, o + i * 3 + 1, none⟩ = some (.int .i64 b.s) ∧ ∃ u, w.cell? ⟨g, o + i * 3 + 2, none⟩ = some u ∧ pa b.p u)
def PcAt (w : World) (S : Nat → Prop) : (n : Nat) → Pn n → Value → Prop
  | 0, x, v => leafAt x v
  | n + 1, p, v => p.by (fun x => leafAt x v) (fun x q => ∃ u, v = .iface 75 (.agg #[.string x, u]) ∧ PcAt w S n q u) (fun t l => ∃ sl, v = talkV t sl ∧ BrSl (PcAt w S n) w S sl l)
theorem BrSl.carry {α : Type} {pa pa' : α → Value → Prop} {w w' : World} {S S' : Nat → Prop} {v : Value} {l : List (Br α)} (h : BrSl pa w S v l) (hb : ∀ g, S g → w'.heap[g]? = w.heap[g]?) (hB : ∀ g, S g → S' g) (hp : ∀ b ∈ l, ∀ u, pa b.p u → pa' b.p u) : BrSl pa' w' S' v l := by
  obtain ⟨ao, cap, e, h1, h2, h3⟩ := h
  refine ⟨ao, cap, e, h1, h2, fun hne => ?_⟩
  obtain ⟨g, o, e1, e2, e3⟩ := h3 hne
  refine ⟨g, o, e1, hB g e2, fun i b hi => ?_⟩
  obtain ⟨k1, k2, u, k3, k4⟩ := e3 i b hi
  exact ⟨(World.cell?_of_block (a := ⟨g, o + i * 3, none⟩) (hb g e2)).trans k1, (World.cell?_of_block (a := ⟨g, o + i * 3 + 1, none⟩) (hb g e2)).trans k2, u, (World.cell?_of_block (a := ⟨g, o + i * 3 + 2, none⟩) (hb g e2)).trans k3, hp b (List.mem_of_getElem? hi) u k4⟩
theorem PcAt.carry {w w' : World} {S S' : Nat → Prop} (hb : ∀ g, S g → w'.heap[g]? = w.heap[g]?) (hB : ∀ g, S g → S' g) : ∀ (n : Nat) (p : Pn n) (v : Value), PcAt w S n p v → PcAt w' S' n p v := by
  intro n
  induction n with
  | zero => intro p v h; exact h
  | succ n ih =>
    intro p
    refine Pn.cases (P := fun p => ∀ v, PcAt w S (n + 1) p v → PcAt w' S' (n + 1) p v) (fun x v h => h) (fun x q v h => ?_) (fun t l v h => ?_) p
    · obtain ⟨u, e, h⟩ := h
      exact ⟨u, e, ih q u h⟩
    · obtain ⟨sl, e, h⟩ := h
      exact ⟨sl, e, h.carry hb hB (fun b _ u hu => ih b.p u hu)⟩
theorem up_at {w : World} {S : Nat → Prop} : ∀ (n : Nat) (p : Pn n) (v : Value), PcAt w S n p v → PcAt w S (n + 1) (upN n p) v := by
  intro n
  induction n with
  | zero => intro p v h; exact h
  | succ n ih =>
    intro p
    refine Pn.cases (P := fun p => ∀ v, PcAt w S (n + 1) p v → PcAt w S (n + 2) (upN (n + 1) p) v) (fun x v h => h) (fun x q v h => ?_) (fun t l v h => ?_) p
    · obtain ⟨u, e, h⟩ := h
      exact ⟨u, e, ih q u h⟩
    · obtain ⟨sl, e, ao, cap, e2, h1, h2, h3⟩ := h
      refine ⟨sl, e, ao, cap, by rw [List.length_map]; exact e2, by rw [List.length_map]; exact h1, h2, fun hne => ?_⟩
      obtain ⟨g, o, e1, e2, e3⟩ := h3 (fun h => hne (by rw [h]; rfl))
      refine ⟨g, o, e1, e2, fun i b hi => ?_⟩
      rw [List.getElem?_map] at hi
      cases hx : l[i]? with
      | none => rw [hx] at hi; cases hi
      | some x =>
        rw [hx] at hi
        simp only [Option.map_some, Option.some.injEq] at hi
        subst hi
        obtain ⟨k1, k2, u, k3, k4⟩ := e3 i x hx
        exact ⟨k1, k2, u, k3, ih x.p u k4⟩
theorem leaf_shape {x : Option ByteArray} {v : Value} (h : leafAt x v) : ∃ t a, v = .iface t (.agg a) := by
  cases x with
  | none => exact ⟨_, _, h⟩
  | some x => exact ⟨_, _, h⟩
theorem talk_shape (t : Tk) (sl : Value) : ∃ T a, talkV t sl = .iface T (.agg a) := by
  unfold talkV
  split
  · exact ⟨_, _, rfl⟩
  · split
    · exact ⟨_, _, rfl⟩
    · exact ⟨_, _, rfl⟩
theorem PcAt.shape {w : World} {S : Nat → Prop} : ∀ {n : Nat} {p : Pn n} {v : Value}, PcAt w S n p v → ∃ t a, v = .iface t (.agg a)
  | 0, p, v, h => leaf_shape h
  | n + 1, p, v, h => by
    revert h
    refine Pn.cases (P := fun p => PcAt w S (n + 1) p v → ∃ t a, v = .iface t (.agg a)) (fun x h => leaf_shape h) (fun x q h => ?_) (fun t l h => ?_) p
    · obtain ⟨u, e, _⟩ := h
      exact ⟨_, _, e⟩
    · obtain ⟨sl, e, _⟩ := h
      obtain ⟨T, a, e2⟩ := talk_shape t sl
      exact ⟨T, a, e.trans e2⟩
theorem PcAt.one {w : World} {S : Nat → Prop} {n : Nat} {p : Pn n} {v : Value} (h : PcAt w S n p v) : v.oneCell' = true := by
  obtain ⟨t, a, rfl⟩ := h.shape
  rfl
/-- a branch with its piece as a value -/
structure BV (n : Nat) where
  b : Br (Pn n)
  u : Value
def BV.cells {n : Nat} (x : BV n) : List Value := [.string x.b.l, .int .i64 x.b.s, x.u]
theorem BV.cells_len {n : Nat} (x : BV n) : x.cells.length = 3 := rfl
/-- in memory that lies below -/
def lo (n : Nat) : Nat → Prop := fun b => b < n
/-- made between these -/
def btw (a n : Nat) : Nat → Prop := fun b => a ≤ b ∧ b < n
/-- made between these, and not in this row -/
def off (a n : Nat) (v : Value) : Nat → Prop := fun b => (a ≤ b ∧ b < n) ∧ b ∉ vblocks v
section
variable {n : Nat}
theorem PcAt.on {w w' : World} {p : Pn n} {u : Value} (h : PcAt w (lo w.heap.size) n p u) (hb : Below w.heap.size w w') : PcAt w' (lo w'.heap.size) n p u := PcAt.carry (fun g hg => hb.block g hg) (fun _ hg => Nat.lt_of_lt_of_le hg hb.size) n p u h
theorem PcAt.up {w : World} {S : Nat → Prop} {p : Pn n} {u : Value} (h : PcAt w S n p u) {S' : Nat → Prop} (hS : ∀ g, S g → S' g) : PcAt w S' n p u := PcAt.carry (fun _ _ => rfl) hS n p u h
/-- a slice of pieces' branches -/
def BrS (w : World) (S : Nat → Prop) (v : Value) (l : List (Br (Pn n))) : Prop := BrSl (PcAt w S n) w S v l
theorem BrS.carry {w w' : World} {S S' : Nat → Prop} {v : Value} {l : List (Br (Pn n))} (h : BrS w S v l) (hb : ∀ g, S g → w'.heap[g]? = w.heap[g]?) (hB : ∀ g, S g → S' g) : BrS w' S' v l := BrSl.carry h hb hB (fun b _ u hu => PcAt.carry hb hB n b.p u hu)
theorem BrS.on {w w' : World} {v : Value} {l : List (Br (Pn n))} (h : BrS w (lo w.heap.size) v l) (hb : Below w.heap.size w w') : BrS w' (lo w'.heap.size) v l := h.carry (fun g hg => hb.block g hg) (fun _ hg => Nat.lt_of_lt_of_le hg hb.size)
/-- branches that a call has made itself -/
structure BrOwn (w : World) (base : Nat) (v : Value) (l : List (BV n)) : Prop where
  own : w.ownsRow base 107 3 v l.length (l.flatMap BV.cells)
  pcs : ∀ x ∈ l, PcAt w (off base w.heap.size v) n x.b.p x.u
theorem BrOwn.keep {w w' : World} {base : Nat} {v : Value} {l : List (BV n)} (h : BrOwn w base v l) (hb : Below w.heap.size w w') : BrOwn w' base v l :=
  ⟨owns_below h.own hb, fun x hx => PcAt.carry (fun g hg => hb.block g hg.1.2) (fun _ hg => ⟨⟨hg.1.1, Nat.lt_of_lt_of_le hg.1.2 hb.size⟩, hg.2⟩) _ _ _ (h.pcs x hx)⟩
theorem BrOwn.nil (w : World) (base : Nat) : BrOwn w base (.slice none 0 0) ([] : List (BV n)) := ⟨owns_nil _ _ _ _, fun x hx => by cases hx⟩
theorem BrOwn.sl {w : World} {base : Nat} {v : Value} {l : List (BV n)} (h : BrOwn w base v l) : BrS w (btw base w.heap.size) v (l.map BV.b) := by
  rcases h.own.2 with ⟨rfl, h0⟩ | ⟨g, cap, cur, rfl, hg, hblk, hc, hm, _⟩
  · have e : l = [] := List.length_eq_zero_iff.1 h0
    subst e
    exact ⟨none, 0, rfl, Nat.le_refl _, Nat.zero_le _, fun hne => absurd rfl hne⟩
  · refine ⟨some ⟨g, 0, none⟩, cap, by rw [List.length_map], by rw [List.length_map]; exact hc, hm, fun _ => ⟨g, 0, rfl, ⟨hg, (Array.getElem?_eq_some_iff.1 hblk).1⟩, fun i b hb => ?_⟩⟩
    rw [List.getElem?_map] at hb
    cases hx : l[i]? with
    | none => rw [hx] at hb; cases hb
    | some x =>
      rw [hx] at hb
      simp only [Option.map_some, Option.some.injEq] at hb
      subst hb
      obtain ⟨hlt, hxe⟩ := List.getElem?_eq_some_iff.1 hx
      have e := fun j (hj : j < 3) (y : Value) (hy : (x.cells)[j]? = some y) => owns_cell h.own rfl (i * 3 + j) y ((flat_get BV.cells 3 BV.cells_len l i hlt j hj).trans (by rw [hxe]; exact hy))
      rw [Nat.zero_add]
      exact ⟨e 0 (by omega) _ rfl, e 1 (by omega) _ rfl, x.u, e 2 (by omega) _ rfl, (h.pcs x (by rw [← hxe]; exact List.getElem_mem hlt)).up (fun _ hg => hg.1)⟩
theorem bv_one {w : World} {S : Nat → Prop} {x : BV n} (h : PcAt w S n x.b.p x.u) : ∀ u ∈ x.cells, u.oneCell' = true := by
  intro u hu
  simp [BV.cells] at hu
  rcases hu with rfl | rfl | rfl
  · rfl
  · rfl
  · exact h.one
/-- a branch more -/
theorem br_push {w w2 : World} {base : Nat} {v v' : Value} {l : List (BV n)} (h : BrOwn w base v l) (x : BV n) (hx : PcAt w (off base w.heap.size v) n x.b.p x.u) (o : Obj) (hown : w2.ownsRow base 107 3 v' (l.length + 1) (l.flatMap BV.cells ++ x.cells)) (hg : (w.alloc o).grownBy w2 v.ownBlock) (hat : v'.ownBlock = v.ownBlock ∨ v'.ownBlock = some (w.alloc o).heap.size) : BrOwn w2 base v' (l ++ [x]) ∧ Apart w w2 (vblocks v) := by
  obtain ⟨p, c, hv⟩ := owns_shape h.own
  obtain ⟨p', c', hv'⟩ := owns_shape hown
  have hA : Apart w w2 (vblocks v) := by
    rw [hv] at hg ⊢
    have := (below_apart (malloc1 w o)).trans (grownBy_apart hg)
    rwa [List.nil_append] at this
  have key : ∀ {q : Pn n} {u : Value}, PcAt w (off base w.heap.size v) n q u → PcAt w2 (off base w2.heap.size v') n q u := fun hq => PcAt.carry (fun g hg => hA.block g hg.1.2 hg.2) (fun g hg => ⟨⟨hg.1.1, Nat.lt_of_lt_of_le hg.1.2 hA.size⟩, fun hm => by
    have hm' := (own_blocks hv').2 hm
    rcases hat with e | e
    · rw [e] at hm'
      exact hg.2 ((own_blocks hv).1 hm')
    · rw [e] at hm'
      have := hg.1.2
      simp at hm'
      omega⟩) _ _ _ hq
  refine ⟨⟨?_, fun y hy => ?_⟩, hA⟩
  · rw [List.length_append, List.length_singleton, List.flatMap_append]
    simpa using hown
  · rw [List.mem_append] at hy
    rcases hy with hy | hy
    · exact key (h.pcs y hy)
    · simp at hy
      subst hy
      exact key hx
theorem PcAt.lo_ {w : World} {a m : Nat} {p : Pn n} {u : Value} (h : PcAt w (btw a m) n p u) : PcAt w (lo m) n p u := h.up (fun _ hg => hg.2)
theorem PcAt.wide {w : World} {a a' m : Nat} {p : Pn n} {u : Value} (h : PcAt w (btw a m) n p u) (ha : a' ≤ a) : PcAt w (btw a' m) n p u := h.up (fun _ hg => ⟨Nat.le_trans ha hg.1, hg.2⟩)
theorem BrS.wide {w : World} {a a' m : Nat} {v : Value} {l : List (Br (Pn n))} (h : BrS w (btw a m) v l) (ha : a' ≤ a) : BrS w (btw a' m) v l := h.carry (fun _ _ => rfl) (fun _ hg => ⟨Nat.le_trans ha hg.1, hg.2⟩)
end
theorem new_rowq (w : World) (cs : List Value) (t : TypeId) (b : Nat) (hb : b = w.heap.size) (j : Nat) (u : Value) (h : cs[j]? = some u) : (w.alloc (.cells cs.toArray t)).cell? (Addr.add ⟨b, 0, none⟩ j) = some u := by subst hb; exact new_row1 w cs t j u h
theorem Tryz.infoBr : (Tryz.prog.info? 107).map (fun i => (i.zero, i.size, i.bytes)) = some (some (.agg #[.string ByteArray.empty, .int .i64 0, .nilIface]), 3, 40) := by kernel_rfl
theorem leaf_pos (x : Option ByteArray) : 0 < (leafRow x).length := by cases x <;> simp [leafRow]
theorem row_pos : ∀ (n : Nat) (p : Pn n), 0 < (rowN n p).length
  | 0, p => leaf_pos p
  | n + 1, p => Pn.cases (P := fun p => 0 < (rowN (n + 1) p).length) (fun x => leaf_pos x) (fun x q => by rw [row_loop]; simp) (fun t l => by rw [row_talk]; simp) p
end Go.Proofs.YtehodjfgojcnlaaGreat
