/- What holds of memory, whatever the program's functions: new blocks, rows of one's own; names kept apart from those of the texts on plans. -/
import Derived.Test.YtonafcifolddjaaDoorRows
import Derived.Test.YtonafcifolddjaaDoorBase
import Derived.Deep.RegionWith
import Derived.Deep.LoopGhost
import Derived.Laws.Rows
import Derived.Laws.MakeOwn
import Derived.Deep.Slices
import Derived.ChangeArms
import Derived.ChangeSame
namespace Go.Proofs.YtonafcifolddjaaDoor
open Go.RowKit

theorem malloc1 (w : World) (o : Obj) : Below w.heap.size w (w.alloc o) := (Below.refl _ _).alloc (Nat.le_refl _) o
theorem mheap_new (W : World) (o : Obj) (k : Nat) (h : k = W.heap.size) : (W.alloc o).heap[k]? = some o := by
  subst h; show (W.heap.push o)[W.heap.size]? = _; simp
theorem mheap_old (W : World) (o : Obj) (k : Nat) (h : k < W.heap.size) : (W.alloc o).heap[k]? = W.heap[k]? := Below.heap_alloc W o k h
/-- what a slice lies in is new, and may be written to -/
structure MOwn (B : Nat) (w : World) (v : Value) : Prop where
  free : ∀ b, v.ownBlock = some b → B ≤ b ∧ b < w.heap.size ∧ ∀ j, w.frozen? ⟨b, j, none⟩ = false
theorem MOwn.carry {B : Nat} {w w' : World} {v : Value} (h : MOwn B w v) (hb : Below w.heap.size w w') : MOwn B w' v :=
  ⟨fun b e => ⟨(h.free b e).1, Nat.lt_of_lt_of_le (h.free b e).2.1 hb.size, fun j => (hb.frozen (p := ⟨b, j, none⟩) (h.free b e).2.1).trans ((h.free b e).2.2 j)⟩⟩
theorem m_one_of {α : Type} {l : List α} {j : Nat} {v : α} (h : (l.drop j).take 1 = [v]) : l[j]? = some v := by
  have h1 : ((l.drop j).take 1)[0]? = some v := by rw [h]; rfl
  rw [List.getElem?_take, if_pos (by omega), List.getElem?_drop] at h1
  simpa using h1
end Go.Proofs.YtonafcifolddjaaDoor
