/- Pieces in memory. -/
import Derived.Test.YtmlkfnclniamiaaQPartOf21
import Derived.Test.YtmlkfnclniamiaaQPartOf23
import Derived.Laws.OwnMore
namespace Go.Proofs.Ytmlkfnclniamiaa
open Go.RowKit

def leafAt : Option ByteArray → Value → Prop
  | none, v => v = .iface 105 (.agg #[])
  | some x, v => v = .iface 96 (.agg #[.string x])
def talkV (t : Tk) (sl : Value) : Value := if t.op == 3 then .iface 103 (.agg #[.string t.a, .string t.b, sl]) else if t.op == 5 then .iface 135 (.agg #[.string t.b, sl]) else .iface 136 (.agg #[.string t.b, sl])
/-- a slice of branches -/
def BrSl {α : Type} (pa : α → Value → Prop) (w : World) (S : Nat → Prop) (v : Value) (l : List (Br α)) : Prop := ∃ ao cap, v = .slice ao l.length cap ∧ l.length ≤ cap ∧ cap ≤ maxLen ∧ (l ≠ [] → ∃ g o, ao = some ⟨g, o, none⟩ ∧ S g ∧ ∀ (i : Nat) (b : Br α), l[i]? = some b → w.cell? ⟨g, o + i * 3, none⟩ = some (.string b.l) ∧ w.cell? ⟨g, o + i * 3 + 1, none⟩ = some (.int .i64 b.s) ∧ ∃ u, w.cell? ⟨g, o + i * 3 + 2, none⟩ = some u ∧ pa b.p u)
def PcAt (w : World) (S : Nat → Prop) : (n : Nat) → Pn n → Value → Prop
  | 0, x, v => leafAt x v
  | n + 1, p, v => p.by (fun x => leafAt x v) (fun x q => ∃ u, v = .iface 98 (.agg #[.string x, u]) ∧ PcAt w S n q u) (fun t l => ∃ sl, v = talkV t sl ∧ BrSl (PcAt w S n) w S sl l)
theorem BrSl.carry {α : Type} {pa pa' : α → Value → Prop} {w w' : World} {S S' : Nat → Prop} {v : Value} {l : List (Br α)} (h : BrSl pa w S v l) (hb : ∀ g, S g → w'.heap[g]? = w.heap[g]?) (hB : ∀ g, S g → S' g) (hp : ∀ b ∈ l, ∀ u, pa b.p u → pa' b.p u) : BrSl pa' w' S' v l := by
  obtain ⟨ao, cap, e, h1, h2, h3⟩ := h
  refine ⟨ao, cap, e, h1, h2, fun hne => ?_⟩
  obtain ⟨g, o, e1, e2, e3⟩ := h3 hne
  refine ⟨g, o, e1, hB g e2, fun i b hi => ?_⟩
  obtain ⟨k1, k2, u, k3, k4⟩ := e3 i b hi
  exact ⟨(World.cell?_of_block (a := ⟨g, o + i * 3, none⟩) (hb g e2)).trans k1, (World.cell?_of_block (a := ⟨g, o + i * 3 + 1, none⟩) (hb g e2)).trans k2, u, (World.cell?_of_block (a := ⟨g, o + i * 3 + 2, none⟩) (hb g e2)).trans k3, hp b (List.mem_of_getElem? hi) u k4⟩
theorem PcAt.carry {w w' : World} {S S' : Nat → Prop} (hb : ∀ g, S g → w'.heap[g]? = w.heap[g]?) (hB : ∀ g, S g → S' g) : ∀ (n : Nat) (p : Pn n) (v : Value), PcAt w S n p v → PcAt w' S' n p v := by
  intro n
  induction n with
  | zero => intro p v h; exact h
  | succ n ih =>
    intro p
    refine Pn.cases (P := fun p => ∀ v, PcAt w S (n + 1) p v → PcAt w' S' (n + 1) p v) (fun x v h => h) (fun x q v h => ?_) (fun t l v h => ?_) p
    · obtain ⟨u, e, h⟩ := h
      exact ⟨u, e, ih q u h⟩
    · obtain ⟨sl, e, h⟩ := h
      exact ⟨sl, e, h.carry hb hB (fun b _ u hu => ih b.p u hu)⟩
theorem up_at {w : World} {S : Nat → Prop} : ∀ (n : Nat) (p : Pn n) (v : Value), PcAt w S n p v → PcAt w S (n + 1) (upN n p) v := by
  intro n
  induction n with
  | zero => intro p v h; exact h
  | succ n ih =>
    intro p
    refine Pn.cases (P := fun p => ∀ v, PcAt w S (n + 1) p v → PcAt w S (n + 2) (upN (n + 1) p) v) (fun x v h => h) (fun x q v h => ?_) (fun t l v h => ?_) p
    · obtain ⟨u, e, h⟩ := h
      exact ⟨u, e, ih q u h⟩
    · obtain ⟨sl, e, ao, cap, e2, h1, h2, h3⟩ := h
      refine ⟨sl, e, ao, cap, by rw [List.length_map]; exact e2, by rw [List.length_map]; exact h1, h2, fun hne => ?_⟩
      obtain ⟨g, o, e1, e2, e3⟩ := h3 (fun h => hne (by rw [h]; rfl))
      refine ⟨g, o, e1, e2, fun i b hi => ?_⟩
      rw [List.getElem?_map] at hi
      cases hx : l[i]? with
      | none => rw [hx] at hi; cases hi
      | some x =>
        rw [hx] at hi
        simp only [Option.map_some, Option.some.injEq] at hi
        subst hi
        obtain ⟨k1, k2, u, k3, k4⟩ := e3 i x hx
        exact ⟨k1, k2, u, k3, ih x.p u k4⟩
theorem leaf_shape {x : Option ByteArray} {v : Value} (h : leafAt x v) : ∃ t a, v = .iface t (.agg a) := by
  cases x with
  | none => exact ⟨_, _, h⟩
  | some x => exact ⟨_, _, h⟩
theorem talk_shape (t : Tk) (sl : Value) : ∃ T a, talkV t sl = .iface T (.agg a) := by
  unfold talkV
  split
  · exact ⟨_, _, rfl⟩
  · split
    · exact ⟨_, _, rfl⟩
    · exact ⟨_, _, rfl⟩
theorem PcAt.shape {w : World} {S : Nat → Prop} : ∀ {n : Nat} {p : Pn n} {v : Value}, PcAt w S n p v → ∃ t a, v = .iface t (.agg a)
  | 0, p, v, h => leaf_shape h
  | n + 1, p, v, h => by
    revert h
    refine Pn.cases (P := fun p => PcAt w S (n + 1) p v → ∃ t a, v = .iface t (.agg a)) (fun x h => leaf_shape h) (fun x q h => ?_) (fun t l h => ?_) p
    · obtain ⟨u, e, _⟩ := h
      exact ⟨_, _, e⟩
    · obtain ⟨sl, e, _⟩ := h
      obtain ⟨T, a, e2⟩ := talk_shape t sl
      exact ⟨T, a, e.trans e2⟩
theorem PcAt.one {w : World} {S : Nat → Prop} {n : Nat} {p : Pn n} {v : Value} (h : PcAt w S n p v) : v.oneCell' = true := by
  obtain ⟨t, a, rfl⟩ := h.shape
  rfl
/-- a branch with its piece as a value -/
structure BV (n : Nat) where
  b : Br (Pn n)
  u : Value
def BV.cells {n : Nat} (x : BV n) : List Value := [.string x.b.l, .int .i64 x.b.s, x.u]
theorem BV.cells_len {n : Nat} (x : BV n) : x.cells.length = 3 := rfl
/-- in memory that lies below -/
def lo (n : Nat) : Nat → Prop := fun b => b < n
/-- made between these -/
def btw (a n : Nat) : Nat → Prop := fun b => a ≤ b ∧ b < n
/-- made between these, and not in this row -/
def off (a n : Nat) (v : Value) : Nat → Prop := fun b => (a ≤ b ∧ b < n) ∧ b ∉ vblocks v
section
variable {n : Nat}
theorem PcAt.on {w w' : World} {p : Pn n} {u : Value} (h : PcAt w (lo w.heap.size) n p u) (hb : Below w.heap.size w w') : PcAt w' (lo w'.heap.size) n p u := PcAt.carry (fun g hg => hb.block g hg) (fun _ hg => Nat.lt_of_lt_of_le hg hb.size) n p u h
theorem PcAt.up {w : World} {S : Nat → Prop} {p : Pn n} {u : Value} (h : PcAt w S n p u) {S' : Nat → Prop} (hS : ∀ g, S g → S' g) : PcAt w S' n p u := PcAt.carry (fun _ _ => rfl) hS n p u h
/-- a slice of pieces' branches -/
def BrS (w : World) (S : Nat → Prop) (v : Value) (l : List (Br (Pn n))) : Prop := BrSl (PcAt w S n) w S v l
theorem BrS.carry {w w' : World} {S S' : Nat → Prop} {v : Value} {l : List (Br (Pn n))} (h : BrS w S v l) (hb : ∀ g, S g → w'.heap[g]? = w.heap[g]?) (hB : ∀ g, S g → S' g) : BrS w' S' v l := BrSl.carry h hb hB (fun b _ u hu => PcAt.carry hb hB n b.p u hu)
theorem BrS.on {w w' : World} {v : Value} {l : List (Br (Pn n))} (h : BrS w (lo w.heap.size) v l) (hb : Below w.heap.size w w') : BrS w' (lo w'.heap.size) v l := h.carry (fun g hg => hb.block g hg) (fun _ hg => Nat.lt_of_lt_of_le hg hb.size)
/-- branches that a call has made itself -/
structure BrOwn (w : World) (base : Nat) (v : Value) (l : List (BV n)) : Prop where
  own : w.ownsRow base 133 3 v l.length (l.flatMap BV.cells)
  pcs : ∀ x ∈ l, PcAt w (off base w.heap.size v) n x.b.p x.u
theorem BrOwn.keep {w w' : World} {base : Nat} {v : Value} {l : List (BV n)} (h : BrOwn w base v l) (hb : Below w.heap.size w w') : BrOwn w' base v l :=
  ⟨owns_below h.own hb, fun x hx => PcAt.carry (fun g hg => hb.block g hg.1.2) (fun _ hg => ⟨⟨hg.1.1, Nat.lt_of_lt_of_le hg.1.2 hb.size⟩, hg.2⟩) _ _ _ (h.pcs x hx)⟩
theorem BrOwn.nil (w : World) (base : Nat) : BrOwn w base (.slice none 0 0) ([] : List (BV n)) := ⟨owns_nil _ _ _ _, fun x hx => by cases hx⟩
theorem BrOwn.sl {w : World} {base : Nat} {v : Value} {l : List (BV n)} (h : BrOwn w base v l) : BrS w (btw base w.heap.size) v (l.map BV.b) := by
  rcases h.own.2 with ⟨rfl, h0⟩ | ⟨g, cap, cur, rfl, hg, hblk, hc, hm, _⟩
  · have e : l = [] := List.length_eq_zero_iff.1 h0
    subst e
    exact ⟨none, 0, rfl, Nat.le_refl _, Nat.zero_le _, fun hne => absurd rfl hne⟩
  · refine ⟨some ⟨g, 0, none⟩, cap, by rw [List.length_map], by rw [List.length_map]; exact hc, hm, fun _ => ⟨g, 0, rfl, ⟨hg, (Array.getElem?_eq_some_iff.1 hblk).1⟩, fun i b hb => ?_⟩⟩
    rw [List.getElem?_map] at hb
    cases hx : l[i]? with
    | none => rw [hx] at hb; cases hb
    | some x =>
      rw [hx] at hb
      simp only [Option.map_some, Option.some.injEq] at hb
      subst hb
      obtain ⟨hlt, hxe⟩ := List.getElem?_eq_some_iff.1 hx
      have e := fun j (hj : j < 3) (y : Value) (hy : (x.cells)[j]? = some y) => owns_cell h.own rfl (i * 3 + j) y ((flat_get BV.cells 3 BV.cells_len l i hlt j hj).trans (by rw [hxe]; exact hy))
      rw [Nat.zero_add]
      exact ⟨e 0 (by omega) _ rfl, e 1 (by omega) _ rfl, x.u, e 2 (by omega) _ rfl, (h.pcs x (by rw [← hxe]; exact List.getElem_mem hlt)).up (fun _ hg => hg.1)⟩
theorem bv_one {w : World} {S : Nat → Prop} {x : BV n} (h : PcAt w S n x.b.p x.u) : ∀ u ∈ x.cells, u.oneCell' = true := by
  intro u hu
  simp [BV.cells] at hu
  rcases hu with rfl | rfl | rfl
  · rfl
  · rfl
  · exact h.one
/-- a branch more -/
theorem br_push {w w2 : World} {base : Nat} {v v' : Value} {l : List (BV n)} (h : BrOwn w base v l) (x : BV n) (hx : PcAt w (off base w.heap.size v) n x.b.p x.u) (o : Obj) (hown : w2.ownsRow base 133 3 v' (l.length + 1) (l.flatMap BV.cells ++ x.cells)) (hg : (w.alloc o).grownBy w2 v.ownBlock) (hat : v'.ownBlock = v.ownBlock ∨ v'.ownBlock = some (w.alloc o).heap.size) : BrOwn w2 base v' (l ++ [x]) ∧ Apart w w2 (vblocks v) := by
  obtain ⟨p, c, hv⟩ := owns_shape h.own
  obtain ⟨p', c', hv'⟩ := owns_shape hown
  have hA : Apart w w2 (vblocks v) := by
    rw [hv] at hg ⊢
    have := (below_apart (malloc1 w o)).trans (grownBy_apart hg)
    rwa [List.nil_append] at this
  have key : ∀ {q : Pn n} {u : Value}, PcAt w (off base w.heap.size v) n q u → PcAt w2 (off base w2.heap.size v') n q u := fun hq => PcAt.carry (fun g hg => hA.block g hg.1.2 hg.2) (fun g hg => ⟨⟨hg.1.1, Nat.lt_of_lt_of_le hg.1.2 hA.size⟩, fun hm => by
    have hm' := (own_blocks hv').2 hm
    rcases hat with e | e
    · rw [e] at hm'
      exact hg.2 ((own_blocks hv).1 hm')
    · rw [e] at hm'
      have := hg.1.2
      simp at hm'
      omega⟩) _ _ _ hq
  refine ⟨⟨?_, fun y hy => ?_⟩, hA⟩
  · rw [List.length_append, List.length_singleton, List.flatMap_append]
    simpa using hown
  · rw [List.mem_append] at hy
    rcases hy with hy | hy
    · exact key (h.pcs y hy)
    · simp at hy
      subst hy
      exact key hx
theorem PcAt.lo_ {w : World} {a m : Nat} {p : Pn n} {u : Value} (h : PcAt w (btw a m) n p u) : PcAt w (lo m) n p u := h.up (fun _ hg => hg.2)
theorem PcAt.wide {w : World} {a a' m : Nat} {p : Pn n} {u : Value} (h : PcAt w (btw a m) n p u) (ha : a' ≤ a) : PcAt w (btw a' m) n p u := h.up (fun _ hg => ⟨Nat.le_trans ha hg.1, hg.2⟩)
theorem BrS.wide {w : World} {a a' m : Nat} {v : Value} {l : List (Br (Pn n))} (h : BrS w (btw a m) v l) (ha : a' ≤ a) : BrS w (btw a' m) v l := h.carry (fun _ _ => rfl) (fun _ hg => ⟨Nat.le_trans ha hg.1, hg.2⟩)
end
theorem new_rowq (w : World) (cs : List Value) (t : TypeId) (b : Nat) (hb : b = w.heap.size) (j : Nat) (u : Value) (h : cs[j]? = some u) : (w.alloc (.cells cs.toArray t)).cell? (Addr.add ⟨b, 0, none⟩ j) = some u := by subst hb; exact new_row1 w cs t j u h
theorem Try.infoBr : (Try.prog.info? 133).map (fun i => (i.zero, i.size, i.bytes)) = some (some (.agg #[.string ByteArray.empty, .int .i64 0, .nilIface]), 3, 40) := by kernel_rfl
theorem leaf_pos (x : Option ByteArray) : 0 < (leafRow x).length := by cases x <;> simp [leafRow]
theorem row_pos : ∀ (n : Nat) (p : Pn n), 0 < (rowN n p).length
  | 0, p => leaf_pos p
  | n + 1, p => Pn.cases (P := fun p => 0 < (rowN (n + 1) p).length) (fun x => leaf_pos x) (fun x q => by rw [row_loop]; simp) (fun t l => by rw [row_talk]; simp) p
end Go.Proofs.Ytmlkfnclniamiaa
/- The program's pieces: their rows. -/
namespace Go.Proofs.Ytmlkfnclniamiaa
open Go.RowKit
attribute [local go_sem ↓] Go.wp_at_zero Go.wp_at_succ

def Nd.cells (n : Nd) : List Value := [.int .i64 n.op, .string n.name, .string n.peer, .int .i64 n.many, .int .i64 n.sort]
theorem Nd.cells_len (n : Nd) : n.cells.length = 5 := rfl
theorem Nd.cells_one (n : Nd) : ∀ u ∈ n.cells, u.oneCell' = true := by
  intro u hu
  simp [Nd.cells] at hu
  rcases hu with rfl | rfl | rfl | rfl | rfl <;> rfl
theorem nds_one (l : List Nd) : ∀ u ∈ l.flatMap Nd.cells, u.oneCell' = true := fun u hu => by
  obtain ⟨x, _, hx⟩ := List.mem_flatMap.1 hu
  exact Nd.cells_one x u hx
/-- Nodes that a call has made itself -/
def NdOwn (w : World) (base : Nat) (v : Value) (l : List Nd) : Prop := w.ownsRow base 53 5 v l.length (l.flatMap Nd.cells)
theorem NdOwn.below {w w' : World} {base : Nat} {v : Value} {l : List Nd} (h : NdOwn w base v l) (hb : Below w.heap.size w w') : NdOwn w' base v l := owns_below h hb
theorem NdOwn.snoc {w : World} {base : Nat} {v : Value} {l r : List Nd} (h : w.ownsRow base 53 5 v (l.length + r.length) (l.flatMap Nd.cells ++ r.flatMap Nd.cells)) : NdOwn w base v (l ++ r) := by
  unfold NdOwn
  rw [List.length_append, List.flatMap_append]
  exact h
theorem NdOwn.at_ {w : World} {base : Nat} {v : Value} {l : List Nd} (h : NdOwn w base v l) (hne : 0 < l.length) : ∃ g c, v = .slice (some ⟨g, 0, none⟩) l.length c ∧ g < w.heap.size ∧ base ≤ g := by
  rcases h.2 with ⟨_, h0⟩ | ⟨g, cap, cur, hv, hg, hblk, _⟩
  · omega
  · exact ⟨g, cap, hv, (Array.getElem?_eq_some_iff.1 hblk).1, hg⟩
theorem NdOwn.cell {w : World} {base g c : Nat} {l : List Nd} (h : NdOwn w base (.slice (some ⟨g, 0, none⟩) l.length c) l) (j : Nat) (u : Value) (hj : (l.flatMap Nd.cells)[j]? = some u) : w.cell? (Addr.add ⟨g, 0, none⟩ j) = some u := by
  have e : Addr.add ⟨g, 0, none⟩ j = ⟨g, j, none⟩ := by
    unfold Addr.add
    split <;> simp_all
  rw [e]
  exact owns_cell h rfl j u hj
theorem nd_lit (w : World) (n : Nd) (base b : Nat) (hb : b = w.heap.size) (hB : base ≤ w.heap.size) : NdOwn (w.alloc (.cells #[.int .i64 n.op, .string n.name, .string n.peer, .int .i64 n.many, .int .i64 n.sort] 53)) base (.slice (some ⟨b, 0, none⟩) 1 1) [n] := by
  subst hb
  have := World.ownsRow_lit (e := 53) (size := 5) (base := base) w #[.int .i64 n.op, .string n.name, .string n.peer, .int .i64 n.many, .int .i64 n.sort] 1 hB (by simp [maxLen]) rfl
  unfold NdOwn
  simpa [Nd.cells] using this
theorem Try.infoNd : (Try.prog.info? 53).map (fun i => (i.zero, i.size, i.bytes)) = some (some (.agg #[.int .i64 0, .string ByteArray.empty, .string ByteArray.empty, .int .i64 0, .int .i64 0]), 5, 56) := by kernel_rfl
/-- what row answers -/
def Rowed (w w' : World) (e : Ending) (l : List Nd) : Prop := ∃ v', e = .returned v' ∧ NdOwn w' w.heap.size v' l ∧ Below w.heap.size w w'
/-- the method row of a piece, whatever it is -/
def RowBy (v : Value) (w : World) (l : List Nd) : Prop := ∃ T a K, v = .iface T a ∧ (∀ W : World, (Go.method 279 T a "loop.example/g00574/impl.row").run Try.prog W = .ok (K, a) W) ∧ (∀ W : World, (callFunc K #[a]).run Try.prog W = .ok (.enter K #[a]) W) ∧ ∀ W, Below w.heap.size w W → Calls Try.prog K #[a] W fun e w' => Rowed W w' e l
def RowCalls (n : Nat) (p : Pn n) : Prop := ∀ (v : Value) (w : World), PcAt w (lo w.heap.size) n p v → (rowN n p).length ≤ 1000 → RowBy v w (rowN n p)
set_option maxRecDepth 100000 in
set_option maxHeartbeats 1000000 in
theorem row_end (v : Value) (w : World) (h : leafAt none v) : RowBy v w (leafRow none) := by
  refine ⟨_, _, 160, h, fun W => by kernel_rfl, fun W => by kernel_rfl, fun W _ => ?_⟩
  go_enter Try.func160, Try.ntmps160
  go_wp2_with fail
  go_ret
  exact ⟨_, rfl, nd_lit _ ⟨0, noT, noT, 0, 0⟩ _ _ (by simp) (by simp), (malloc1 _ _).trans ((malloc1 _ _).mono (by simp))⟩
set_option maxRecDepth 100000 in
set_option maxHeartbeats 1000000 in
theorem row_var (x : ByteArray) (v : Value) (w : World) (h : leafAt (some x) v) : RowBy v w (leafRow (some x)) := by
  refine ⟨_, _, 157, h, fun W => by kernel_rfl, fun W => by kernel_rfl, fun W _ => ?_⟩
  go_enter Try.func157, Try.ntmps157
  go_wp2_with fail
  go_ret
  exact ⟨_, rfl, nd_lit _ ⟨1, x, noT, 0, 0⟩ _ _ (by simp) (by simp), (malloc1 _ _).trans ((malloc1 _ _).mono (by simp))⟩
theorem brs_take {α : Type} {f : α → List Nd} {l : List (Br α)} {k : Nat} {b : Br α} (hk : l[k]? = some b) : brsBy f (l.take (k + 1)) = brsBy f (l.take k) ++ [⟨4, b.l, noT, 0, b.s⟩] ++ f b.p := by
  obtain ⟨hlt, hb⟩ := List.getElem?_eq_some_iff.1 hk
  rw [List.take_succ_eq_append_getElem hlt, brs_app, hb, brs_cons]
  simp [brsBy]
theorem brs_take_len {α : Type} {f : α → List Nd} (l : List (Br α)) (k : Nat) : (brsBy f (l.take k)).length ≤ (brsBy f l).length := by
  conv => rhs; rw [← List.take_append_drop k l, brs_app, List.length_append]
  omega
set_option maxRecDepth 100000 in
set_option maxHeartbeats 2000000 in
theorem talk_row (n : Nat) (l : List (Br (Pn n))) (hin : ∀ b ∈ l, RowCalls n b.p) (op : Int) (a b : ByteArray) (m s : Int) (sl : Value) (w : World) (hs : BrS w (lo w.heap.size) sl l) (hlen : (brsBy (rowN n) l).length ≤ 999) :
    Calls Try.prog 159 #[.agg #[.int .i64 op, .string a, .string b, .int .i64 m, .int .i64 s], sl] w fun e w' => Rowed w w' e (⟨op, a, b, (l.length : Int), s⟩ :: brsBy (rowN n) l) := by
  obtain ⟨i0, hi, hz0, hz1, hz2⟩ := info_parts Try.infoNd
  have HI := hide (And.intro hi (And.intro hz0 (And.intro hz1 hz2)))
  have HIN := hide hin
  have HS := hide hs
  have HLEN := hide hlen
  obtain ⟨ao, cap, rfl, hc1, hc2, hr⟩ := hs
  have HR := hide hr
  obtain ⟨L, hL⟩ : ∃ L, l.length = L := ⟨_, rfl⟩
  rw [hL] at hc1 ⊢
  have HLL := hide hL
  unfold maxLen at hc2
  clear hi hz0 hz1 hz2 hin hr hlen hL
  go_enter Try.func159, Try.ntmps159
  go_wp2_with fail
  go_loopw [5, 15] (fun lv i wr => ∃ k : Nat, k ≤ L ∧ i = .int .i64 k ∧ NdOwn wr w.heap.size lv (⟨op, a, b, (L : Int), s⟩ :: brsBy (rowN n) (l.take k)) ∧ Below w.heap.size w wr) (fun _ i _ => L - (intOf i).toNat)
  case atStart =>
    refine ⟨0, Nat.zero_le _, rfl, ?_, ?_⟩
    · exact nd_lit _ ⟨op, a, b, (L : Int), s⟩ _ _ (by simp) (by simp)
    · exact ((malloc1 w _).trans ((malloc1 _ _).mono (by simp)))
  case round =>
    obtain ⟨k, hk, rfl, hown, hbel⟩ := hrel
    have HOWN := hide hown
    have HBEL := hide hbel
    have hzw := hbel.size
    obtain ⟨p, c, hp⟩ := owns_shape hown
    obtain ⟨X, hX⟩ : ∃ X, (⟨op, a, b, (L : Int), s⟩ :: brsBy (rowN n) (l.take k) : List Nd) = X := ⟨_, rfl⟩
    have HXL : Hid (X.length ≤ 1000) := hide (by rw [← hX, List.length_cons]; have := brs_take_len (f := rowN n) l k; have := HLEN.out; omega)
    rw [hX] at hp HOWN
    obtain ⟨cnt, hcnt⟩ : ∃ c, X.length = c := ⟨_, rfl⟩
    rw [hcnt] at hp
    have HCN := hide hcnt
    have hcl : cnt ≤ 1000 := by rw [← hcnt]; exact HXL.out
    subst hp
    have HX := hide hX
    clear hown hX hcnt
    by_cases hlt : k < L
    · obtain ⟨g, o, rfl, hg, hcells⟩ := HR.out (by rintro rfl; have := HLL.out; simp at this; omega)
      obtain ⟨b0, hb0⟩ : ∃ b0, l[k]? = some b0 := ⟨l[k]'(by rw [HLL.out]; exact hlt), List.getElem?_eq_getElem _⟩
      obtain ⟨k1, k2, u, k3, k4⟩ := hcells k b0 hb0
      have hrl : (rowN n b0.p).length ≤ 1000 := by have := (brs_get (f := rowN n) hb0).1; have := HLEN.out; omega
      obtain ⟨T, av, K, rfl, hm, hcf, hcall⟩ := HIN.out b0 (List.mem_of_getElem? hb0) u w k4 hrl
      have HCALL := hide hcall
      have HB0 := hide hb0
      have hgw : g < w.heap.size := hg
      have e1 := (hbel.cell (p := ⟨g, o + k * 3, none⟩) hg).trans k1
      have e2 := (hbel.cell (p := ⟨g, o + k * 3 + 1, none⟩) hg).trans k2
      have e3 := (hbel.cell (p := ⟨g, o + k * 3 + 2, none⟩) hg).trans k3
      have hrp := row_pos n b0.p
      obtain ⟨N, hN⟩ : ∃ N, rowN n b0.p = N := ⟨_, rfl⟩
      rw [hN] at hrl hrp HCALL
      have HN := hide hN
      obtain ⟨bl, bs, bp⟩ := b0
      dsimp only at e1 e2
      have HOWN2 : Hid (wr.ownsRow w.heap.size 53 5 (.slice p cnt c) cnt (X.flatMap Nd.cells)) := hide (by have := HOWN.out; unfold NdOwn at this; rw [HCN.out] at this; exact this)
      obtain ⟨RL, hRL⟩ : ∃ RL, N.length = RL := ⟨_, rfl⟩
      rw [hRL] at hrl hrp
      have HRL := hide hRL
      clear hcells hcall k4 hb0 hN hbel hRL
      go_wp2_with (first
        | ((fail_if_success (have := HO4)); at_builtin; refine wpList_append_own _ rfl (.tmp 19) (.tmp 25) 25 rfl w.heap.size 53 i0 (.agg #[.int .i64 0, .string ByteArray.empty, .string ByteArray.empty, .int .i64 0, .int .i64 0]) 5 56 Try.underlying25 HI.out.1 HI.out.2.1 HI.out.2.2.1 HI.out.2.2.2 rfl (by decide) (.slice p cnt c) cnt (X.flatMap Nd.cells) rfl (owns_below HOWN2.out ((malloc1 wr _).trans ((malloc1 _ _).mono (by simp)))) ⟨wr.heap.size + 1, 0, none⟩ 1 1 (Nd.cells ⟨4, bl, noT, 0, bs⟩) rfl rfl (fun j u hj => new_rowq _ _ _ _ (by simp) j u hj) (Nd.cells_one _) (by unfold maxLen; omega) (by omega) (by simp; omega) ?_; intro v4 w4 hown4 hgr4 _; have HO4 := hide hown4; have HA4 : Hid (Apart (wr.alloc (.cells #[.string bl, .int .i64 bs, .iface T av] 133)) w4 (vblocks (.slice p cnt c))) := hide (by have := (below_apart (malloc1 _ _)).trans (grownBy_apart hgr4); rwa [List.nil_append] at this); have x2 : w4.cell? ⟨wr.heap.size, 2, none⟩ = some (.iface T av) := HA4.out.cell' (by simp) (fun hm => absurd ((owns_fresh HOWN2.out).hi _ hm) (by omega)); have HB4 : Hid (Below w.heap.size w w4) := hide ((HBEL.out.trans ((malloc1 wr _).mono hzw)).trans (HA4.out.below (by simp; omega) (owns_fresh HOWN2.out).lo)); obtain ⟨p4, c4, rfl⟩ := owns_shape hown4; clear hown4 hgr4)
        | ((fail_if_success (have := HO5)); refine (HCALL.out w4 HB4.out).mono ?_; rintro e w5 ⟨v5, rfl, ho5, hb5⟩; have HO5 := hide ho5; have HB5 := hide hb5; obtain ⟨g5, c5, hv5, -, -⟩ := ho5.at_ (by rw [HRL.out]; exact hrp); rw [HRL.out] at hv5; subst hv5; clear ho5 hb5)
        | ((fail_if_success (have := HO6)); at_builtin; refine wpList_append_own _ rfl (.tmp 27) (.tmp 30) 25 rfl w.heap.size 53 i0 (.agg #[.int .i64 0, .string ByteArray.empty, .string ByteArray.empty, .int .i64 0, .int .i64 0]) 5 56 Try.underlying25 HI.out.1 HI.out.2.1 HI.out.2.2.1 HI.out.2.2.2 rfl (by decide) (.slice p4 (cnt + 1) c4) (cnt + 1) (X.flatMap Nd.cells ++ Nd.cells ⟨4, bl, noT, 0, bs⟩) rfl (owns_below HO4.out HB5.out) ⟨g5, 0, none⟩ RL c5 (N.flatMap Nd.cells) rfl (by rw [flat_len Nd.cells 5 Nd.cells_len, HRL.out]) (fun j u hj => by have := HO5.out; unfold NdOwn at this; rw [HRL.out] at this; exact NdOwn.cell (l := N) (c := c5) (base := w4.heap.size) (by unfold NdOwn; rw [HRL.out]; exact this) j u hj) (nds_one N) (by unfold maxLen; omega) (by omega) (by have := HB5.out.size; have := HB4.out.size; omega) ?_; intro v6 w6 hown6 hgr6 _; have HO6 := hide hown6; have HB6 : Hid (Below w.heap.size w w6) := hide ((HB4.out.trans (HB5.out.mono HB4.out.size)).trans ((grownBy_apart hgr6).below (by have := HB5.out.size; have := HB4.out.size; omega) (owns_fresh HO4.out).lo)); obtain ⟨p6, c6, rfl⟩ := owns_shape hown6; clear hown6 hgr6))
      go_roundw
      case rel =>
        refine ⟨k + 1, hlt, by go_num, ?_, HB6.out⟩
        have e := brs_take (f := rowN n) HB0.out
        rw [HN.out] at e
        rw [e, ← List.cons_append, ← List.cons_append, HX.out]
        refine NdOwn.snoc ?_
        rw [List.length_append, List.length_singleton, HCN.out, HRL.out, List.flatMap_append]
        simpa using HO6.out
      case measure => simp [intOf]; omega
    · obtain rfl : k = L := by omega
      have HE : Hid (X = ⟨op, a, b, (k : Int), s⟩ :: brsBy (rowN n) l) := hide (by rw [← HX.out, List.take_of_length_le (by rw [HLL.out]; exact Nat.le_refl _)])
      have HOWN3 : Hid (NdOwn wr w.heap.size (.slice p cnt c) X) := hide (by have := HOWN.out; exact this)
      go_wp2_with fail
      go_ret
      rw [← HE.out]
      exact ⟨_, rfl, HOWN3.out, HBEL.out⟩
end Go.Proofs.Ytmlkfnclniamiaa
