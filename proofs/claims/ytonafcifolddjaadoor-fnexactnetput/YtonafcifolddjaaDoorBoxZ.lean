/- A variable for an answer that is made before the answer is there. -/
import Derived.Test.YtonafcifolddjaaDoorBoxM
import Derived.Test.YtonafcifolddjaaDoorSeeI
namespace Go.Proofs.YtonafcifolddjaaDoor
open Go.RowKit

def ZBox (W : World) (b : Nat) : Prop := (∀ i, i < 6 → ∃ y, W.cell? ⟨b, i, none⟩ = some y) ∧ ∀ o, W.frozen? ⟨b, o, none⟩ = false
theorem zbox_new (W : World) : ZBox (W.alloc outZ) W.heap.size := by
  refine ⟨fun i hi => ?_, fun o => ?_⟩
  · unfold outZ
    rcases i with _ | _ | _ | _ | _ | _ | i
    all_goals first | exact ⟨_, by simp; rfl⟩ | omega
  · unfold outZ; simp
theorem ZBox.lt {W : World} {b : Nat} (h : ZBox W b) : b < W.heap.size := by
  obtain ⟨y, hy⟩ := h.1 0 (by omega)
  exact World.block_lt_of_cell? W _ hy
theorem ZBox.carry {W W' : World} {b : Nat} (h : ZBox W b) (hb : Below W.heap.size W W') : ZBox W' b :=
  ⟨fun i hi => by
    obtain ⟨y, hy⟩ := h.1 i hi
    exact ⟨y, (hb.cell (p := ⟨b, i, none⟩) h.lt).trans hy⟩, fun o => (hb.frozen (p := ⟨b, o, none⟩) h.lt).trans (h.2 o)⟩
theorem ZBox.cells {W : World} {b : Nat} (h : ZBox W b) : ∃ y0 y1 y2 y3 y4 y5, W.cell? ⟨b, 0, none⟩ = some y0 ∧ W.cell? ⟨b, 1, none⟩ = some y1 ∧ W.cell? ⟨b, 2, none⟩ = some y2 ∧ W.cell? ⟨b, 3, none⟩ = some y3 ∧ W.cell? ⟨b, 4, none⟩ = some y4 ∧ W.cell? ⟨b, 5, none⟩ = some y5 ∧ W.frozen? ⟨b, 0, none⟩ = false ∧ W.frozen? ⟨b, 1, none⟩ = false ∧ W.frozen? ⟨b, 2, none⟩ = false ∧ W.frozen? ⟨b, 3, none⟩ = false ∧ W.frozen? ⟨b, 4, none⟩ = false ∧ W.frozen? ⟨b, 5, none⟩ = false := by
  obtain ⟨y0, h0⟩ := h.1 0 (by omega)
  obtain ⟨y1, h1⟩ := h.1 1 (by omega)
  obtain ⟨y2, h2⟩ := h.1 2 (by omega)
  obtain ⟨y3, h3⟩ := h.1 3 (by omega)
  obtain ⟨y4, h4⟩ := h.1 4 (by omega)
  obtain ⟨y5, h5⟩ := h.1 5 (by omega)
  exact ⟨y0, y1, y2, y3, y4, y5, h0, h1, h2, h3, h4, h5, h.2 0, h.2 1, h.2 2, h.2 3, h.2 4, h.2 5⟩
/-- the answer is put there -/
theorem ZBox.put {W : World} {b : Nat} (h : ZBox W b) (sv : Value) (M : RMsg) (C : Int) : BoxAt (putOut W b sv M C) b sv M C := putOut_at W b sv M C h.1
theorem putOut_heap (W : World) (b : Nat) (sv : Value) (M : RMsg) (C : Int) : (putOut W b sv M C).heap.size = W.heap.size := by simp [putOut]
theorem RMsgSl.past {w w' : World} {v : Value} {l : List RMsg} {k : List Nat} (h : RMsgSl w w.heap.size v l) (ha : Apart w w' k) (hd : ∀ b ∈ vblocks v, b ∉ k) : RMsgSl w' w'.heap.size v l := by
  obtain ⟨p, c, rfl⟩ := h.shape
  exact h.keep ha.size (fun b hb hlt => ha.block b hlt (hd b ((own_blocks rfl).1 hb)))
/-- an answer of the callee, put into the variable: whenever that was made -/
theorem ans_in {w0 w2 : World} {l : List RMsg} {b lo : Nat} {sv : Value} (M : RMsg) (C : Int) {B : Nat} (hB : B ≤ w0.heap.size) (ho : RMsgOwn w2 lo sv l) (h2 : Below B w0 w2) (hz : ZBox w2 b) (hlo : B ≤ b) (hn : b ∉ vblocks sv) :
    BoxAt (putOut w2 b sv M C) b sv M C ∧ RMsgOwn (putOut w2 b sv M C) lo sv l ∧ b ∉ vblocks sv ∧ Below B w0 (putOut w2 b sv M C) :=
  ⟨hz.put sv M C, ho.keep (putOut_apart w2 b sv M C) (fun q hq he => by simp at he; subst he; exact hn hq), hn,
    h2.trans ((putOut_apart w2 b sv M C).below (Nat.le_trans hB h2.size) (by simpa using hlo))⟩
theorem not_early {w : World} {l : List RMsg} {b lo : Nat} {sv : Value} (ho : RMsgOwn w lo sv l) (h : b < lo) : b ∉ vblocks sv := fun hb => by
  have := ho.fresh.lo b hb
  omega
theorem not_late {w : World} {l : List RMsg} {b lo : Nat} {sv : Value} (ho : RMsgOwn w lo sv l) (h : w.heap.size ≤ b) : b ∉ vblocks sv := fun hb => by
  have := ho.fresh.hi b hb
  omega
end Go.Proofs.YtonafcifolddjaaDoor
