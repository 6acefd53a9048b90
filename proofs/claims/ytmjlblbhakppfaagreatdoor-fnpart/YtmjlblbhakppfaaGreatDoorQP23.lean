import Derived.Test.YtmjlblbhakppfaaGreatDoorQP22
import Derived.Test.YtmjlblbhakppfaaGreatDoorQP03
namespace Go.Proofs.YtmjlblbhakppfaaGreatDoor
open Go.RowKit

def NnOwn (w : World) (base : Nat) (v : Value) (op : List Nat) : Prop := w.ownsRow base 3 1 v op.length (op.reverse.map fun (k : Nat) => .int .i64 (k : Int))
structure RwM (w0 : World) (mb tb : Nat) (ms : List ByteArray) (l : List Nd) (op : List Nat) (lv ov : Value) (W : World) : Prop where
  ms : MsAt W mb tb ms
  row : NdOwn W (mb + 2) lv l
  opn : NnOwn W (mb + 2) ov op
  off : ∀ b ∈ vblocks lv, b ∉ vblocks ov
  nod : ∃ n : Nd, BoxL W (mb + 1) n.cells
  low : Below w0.heap.size w0 W
  tb : tb < w0.heap.size
  mb : mb = w0.heap.size
theorem RwM.taken {w0 : World} {mb tb : Nat} {ms ms' : List ByteArray} {l : List Nd} {op : List Nat} {lv ov : Value} {W W' : World} (h : RwM w0 mb tb ms l op lv ov W) (hm : MsAt W' mb tb ms') (ha : Apart W W' [mb]) : RwM w0 mb tb ms' l op lv ov W' := by
  obtain ⟨n, hn⟩ := h.nod
  have h1 := (owns_fresh h.row).lo
  have h2 := (owns_fresh h.opn).lo
  exact ⟨hm, owns_keep h.row ha (fun b hb hm => by simp at hm; have := h1 b hb; omega), owns_keep h.opn ha (fun b hb hm => by simp at hm; have := h2 b hb; omega), h.off, ⟨n, hn.keep ha (by simp)⟩, h.low.trans (ha.below h.low.size (fun b hb => by simp at hb; have := h.mb; omega)), h.tb, h.mb⟩
theorem row_sub {w w2 : World} {base e size n n2 : Nat} {v v' : Value} {vs vs2 : List Value} (h : w.ownsRow base e size v n vs) (o : Obj) (hown : w2.ownsRow base e size v' n2 vs2) (hg : (w.alloc o).grownBy w2 v.ownBlock) (hat : v'.ownBlock = v.ownBlock ∨ v'.ownBlock = some (w.alloc o).heap.size) :
    Apart w w2 (vblocks v) ∧ ∀ b ∈ vblocks v', b ∈ vblocks v ∨ w.heap.size ≤ b := by
  obtain ⟨p, c, hv⟩ := owns_shape h
  obtain ⟨p', c', hv'⟩ := owns_shape hown
  refine ⟨?_, fun b hm => ?_⟩
  · rw [hv] at hg ⊢
    have := (below_apart (malloc1 w o)).trans (grownBy_apart hg)
    rwa [List.nil_append] at this
  · have hm' := (own_blocks hv').2 hm
    rcases hat with e | e
    · rw [e] at hm'
      exact .inl ((own_blocks hv).1 hm')
    · rw [e] at hm'
      simp at hm'
      exact .inr (by omega)
theorem RwM.push {w0 : World} {mb tb : Nat} {ms : List ByteArray} {l : List Nd} {op : List Nat} {lv ov : Value} {W W2 : World} (h : RwM w0 mb tb ms l op lv ov W) {n : Nd} (o : Obj) {v' : Value} (hown : W2.ownsRow (mb + 2) 45 5 v' (l.length + 1) (l.flatMap Nd.cells ++ n.cells)) (hg : (W.alloc o).grownBy W2 lv.ownBlock) (hat : v'.ownBlock = lv.ownBlock ∨ v'.ownBlock = some (W.alloc o).heap.size) : RwM w0 mb tb ms (l ++ [n]) op v' ov W2 := by
  obtain ⟨hA, hs⟩ := row_sub h.row o hown hg hat
  have h1 := owns_fresh h.row
  have h2 := owns_fresh h.opn
  obtain ⟨m, hn⟩ := h.nod
  have hmb := h.mb
  have htb := h.tb
  refine ⟨h.ms.keep hA (fun hm => by have := h1.lo _ hm; omega) (fun hm => by have := h1.lo _ hm; omega), ?_, owns_keep h.opn hA (fun b hb hm => h.off b hm hb), fun b hb hm => ?_, ⟨m, hn.keep hA (fun hm => by have := h1.lo _ hm; omega)⟩, h.low.trans (hA.below h.low.size (fun b hb => by have := h1.lo b hb; omega)), h.tb, h.mb⟩
  · unfold NdOwn
    rw [List.length_append, List.flatMap_append]
    simpa using hown
  · rcases hs b hb with hb | hb
    · exact h.off b hb hm
    · have := h2.hi b hm; omega
theorem RwM.opened {w0 : World} {mb tb : Nat} {ms : List ByteArray} {l : List Nd} {op : List Nat} {lv ov : Value} {W W2 : World} (h : RwM w0 mb tb ms l op lv ov W) {k : Nat} (o : Obj) {v' : Value} (hown : W2.ownsRow (mb + 2) 3 1 v' (op.length + 1) ((op.reverse.map fun (k : Nat) => Value.int .i64 (k : Int)) ++ [.int .i64 (k : Int)])) (hg : (W.alloc o).grownBy W2 ov.ownBlock) (hat : v'.ownBlock = ov.ownBlock ∨ v'.ownBlock = some (W.alloc o).heap.size) : RwM w0 mb tb ms l (k :: op) lv v' W2 := by
  obtain ⟨hA, hs⟩ := row_sub h.opn o hown hg hat
  have h1 := owns_fresh h.row
  have h2 := owns_fresh h.opn
  obtain ⟨m, hn⟩ := h.nod
  have hmb := h.mb
  have htb := h.tb
  refine ⟨h.ms.keep hA (fun hm => by have := h2.lo _ hm; omega) (fun hm => by have := h2.lo _ hm; omega), owns_keep h.row hA (fun b hb hm => h.off b hb hm), ?_, fun b hb hm => ?_, ⟨m, hn.keep hA (fun hm => by have := h2.lo _ hm; omega)⟩, h.low.trans (hA.below h.low.size (fun b hb => by have := h2.lo b hb; omega)), h.tb, h.mb⟩
  · unfold NnOwn
    rw [List.reverse_cons, List.map_append]
    exact hown
  · rcases hs b hm with hm | hm
    · exact h.off b hb hm
    · have := h1.hi b hb; omega
theorem RwM.closed {w0 : World} {mb tb : Nat} {ms : List ByteArray} {l : List Nd} {k : Nat} {op : List Nat} {lv : Value} {p : Option Addr} {c : Nat} {W : World} (h : RwM w0 mb tb ms l (k :: op) lv (.slice p (op.length + 1) c) W) : RwM w0 mb tb ms l op lv (.slice p op.length c) W := by
  refine ⟨h.ms, h.row, ?_, fun b hb hm => h.off b hb (by cases p with | none => simp [vblocks, cellBlocks] at hm | some a => simpa [vblocks, cellBlocks] using hm), h.nod, h.low, h.tb, h.mb⟩
  have ho := h.opn
  unfold NnOwn at ho ⊢
  obtain ⟨h1, h2⟩ := ho
  refine ⟨by simp, ?_⟩
  rcases h2 with ⟨_, h2⟩ | ⟨g, cap, cur, e, hg, hb, hc, hm, hs, ht⟩
  · simp at h2
  · injection e with e1 e2 e3
    subst e1 e3
    refine .inr ⟨g, c, cur, rfl, hg, hb, by simp at hc; omega, hm, hs, ?_⟩
    have := congrArg (List.take op.length) ht
    rw [List.take_take] at this
    simp only [Nat.mul_one, List.length_cons] at this ⊢
    rw [Nat.min_eq_left (by omega)] at this
    rw [this, List.reverse_cons, List.map_append, List.take_left' (by simp)]
theorem RwM.noted {w0 : World} {mb tb : Nat} {ms : List ByteArray} {l : List Nd} {op : List Nat} {lv ov : Value} {W : World} (h : RwM w0 mb tb ms l op lv ov W) (n : Nd) : RwM w0 mb tb ms l op lv ov (((((W.setCell ⟨mb + 1, 0, none⟩ (.int .i64 n.op)).setCell ⟨mb + 1, 1, none⟩ (.string n.name)).setCell ⟨mb + 1, 2, none⟩ (.string n.peer)).setCell ⟨mb + 1, 3, none⟩ (.int .i64 n.many)).setCell ⟨mb + 1, 4, none⟩ (.int .i64 n.sort)) ∧ BoxL (((((W.setCell ⟨mb + 1, 0, none⟩ (.int .i64 n.op)).setCell ⟨mb + 1, 1, none⟩ (.string n.name)).setCell ⟨mb + 1, 2, none⟩ (.string n.peer)).setCell ⟨mb + 1, 3, none⟩ (.int .i64 n.many)).setCell ⟨mb + 1, 4, none⟩ (.int .i64 n.sort)) (mb + 1) n.cells := by
  obtain ⟨m, hn⟩ := h.nod
  have hA := set5_ap W (mb + 1) (.int .i64 n.op) (.string n.name) (.string n.peer) (.int .i64 n.many) (.int .i64 n.sort)
  have hX := set5_bx (w := W) (b := mb + 1) hn (.int .i64 n.op) (.string n.name) (.string n.peer) (.int .i64 n.many) (.int .i64 n.sort)
  have h1 := (owns_fresh h.row).lo
  have h2 := (owns_fresh h.opn).lo
  have hmb := h.mb
  have htb := h.tb
  exact ⟨⟨h.ms.keep hA (by simp) (by simp; omega), owns_keep h.row hA (fun b hb hm => by simp at hm; have := h1 b hb; omega), owns_keep h.opn hA (fun b hb hm => by simp at hm; have := h2 b hb; omega), h.off, ⟨n, hX⟩, h.low.trans (hA.below h.low.size (fun b hb => by simp at hb; omega)), h.tb, h.mb⟩, hX⟩
theorem cells_len2 (l : List Nd) : (l.flatMap Nd.cells).length = l.length * 5 := by
  induction l with
  | nil => rfl
  | cons a l ih => rw [List.flatMap_cons, List.length_append, ih, Nd.cells_len, List.length_cons]; omega
theorem cells_get {l : List Nd} {i : Nat} (h : i < l.length) (j : Nat) (hj : j < 5) : (l.flatMap Nd.cells)[i * 5 + j]? = l[i].cells[j]? := by
  induction l generalizing i with
  | nil => simp at h
  | cons a l ih =>
    cases i with
    | zero =>
      rw [List.flatMap_cons, Nat.zero_mul, Nat.zero_add, List.getElem?_append_left (by rw [Nd.cells_len]; exact hj)]
      rfl
    | succ i =>
      rw [List.flatMap_cons, List.getElem?_append_right (by rw [Nd.cells_len, Nat.succ_mul]; omega), Nd.cells_len, show (i + 1) * 5 + j - 5 = i * 5 + j by rw [Nat.succ_mul]; omega]
      exact ih (by simpa using h)
theorem cells_bump (l : List Nd) (i : Nat) (h : i < l.length) : (l.flatMap Nd.cells).set (i * 5 + 3) (.int .i64 (l[i].many + 1)) = (bump l i).flatMap Nd.cells := by
  induction l generalizing i with
  | nil => simp at h
  | cons a l ih =>
    cases i with
    | zero => rfl
    | succ i =>
      rw [bump, List.modify_succ_cons, List.flatMap_cons, List.flatMap_cons, List.set_append_right _ _ (by rw [Nd.cells_len]; omega), Nd.cells_len, show (i + 1) * 5 + 3 - 5 = i * 5 + 3 by omega]
      congr 1
      exact ih i (by simpa using h)
theorem RwM.more {w0 : World} {mb tb : Nat} {ms : List ByteArray} {l : List Nd} {op : List Nat} {g c : Nat} {ov : Value} {W : World} (h : RwM w0 mb tb ms l op (.slice (some ⟨g, 0, none⟩) l.length c) ov W) {i : Nat} (hi : i < l.length) : RwM w0 mb tb ms (bump l i) op (.slice (some ⟨g, 0, none⟩) l.length c) ov (W.setCell ⟨g, i * 5 + 3, none⟩ (.int .i64 (l[i].many + 1))) := by
  have hA := setCell_apart W g (i * 5 + 3) (.int .i64 (l[i].many + 1))
  have hg : g ∈ vblocks (.slice (some ⟨g, 0, none⟩) l.length c) := by simp [vblocks, cellBlocks]
  have h1 := (owns_fresh h.row).lo g hg
  have hmb := h.mb
  have htb := h.tb
  obtain ⟨m, hn⟩ := h.nod
  refine ⟨h.ms.keep hA (by simp; omega) (by simp; omega), ?_, owns_keep h.opn hA (fun b hb hm => by simp at hm; subst hm; exact h.off b hg hb), h.off, ⟨m, hn.keep hA (by simp; omega)⟩, h.low.trans (hA.below h.low.size (fun b hb => by simp at hb; omega)), h.tb, h.mb⟩
  have hr := h.row
  unfold NdOwn at hr ⊢
  obtain ⟨h2, h3⟩ := hr
  rw [bump_len]
  refine ⟨by rw [cells_len2, bump_len], ?_⟩
  rcases h3 with ⟨e, _⟩ | ⟨g', cap, cur, e, hg', hb, h4, h5, h6, h7⟩
  · simp at e
  · injection e with e1 e2 e3
    injection e1 with e1
    injection e1 with e1
    subst e1 e3
    refine .inr ⟨g, c, cur.setIfInBounds (i * 5 + 3) (.int .i64 (l[i].many + 1)), rfl, hg', heap_setCell_same _ _ _ _ _ _ hb, h4, h5, by simpa using h6, ?_⟩
    rw [Array.toList_setIfInBounds, List.take_set, h7]
    exact cells_bump l i hi
end Go.Proofs.YtmjlblbhakppfaaGreatDoor
