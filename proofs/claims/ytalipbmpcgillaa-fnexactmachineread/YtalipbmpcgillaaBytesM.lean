/- The bytes of a machine: the mathematics. -/
import Derived.Test.YtalipbmpcgillaaJoinM
import Derived.Test.YtalipbmpcgillaaMach
namespace Go.Proofs.Ytalipbmpcgillaa
open Go.RowKit

def stParts (s : RState) : List ByteArray := [putS s.kind, textS s.peer]
def edParts (e : REdge) : List ByteArray := [putS e.src, textS e.label, putS e.sort, putS e.dst]
def partsS (m : Mach) (k : Nat) : List ByteArray := putS (m.states.length : Int) :: (m.states.take k).flatMap stParts
def partsE (m : Mach) (k : Nat) : List ByteArray := partsS m m.states.length ++ putS (m.edges.length : Int) :: (m.edges.take k).flatMap edParts
def partsM (m : Mach) : List ByteArray := partsE m m.edges.length ++ [putS m.start]
def bytesM (m : Mach) : ByteArray := joinS (partsM m)
theorem partsS_succ {m : Mach} {k : Nat} (h : k < m.states.length) : partsS m (k + 1) = partsS m k ++ stParts m.states[k] := by
  rw [partsS, partsS, List.take_succ_eq_append_getElem h, List.flatMap_append, List.flatMap_cons, List.flatMap_nil, List.append_nil, List.cons_append]
theorem partsE_succ {m : Mach} {k : Nat} (h : k < m.edges.length) : partsE m (k + 1) = partsE m k ++ edParts m.edges[k] := by
  rw [partsE, partsE, List.take_succ_eq_append_getElem h, List.flatMap_append, List.flatMap_cons, List.flatMap_nil, List.append_nil, List.append_assoc, List.cons_append]
/-- names are short -/
def shortM (m : Mach) : Prop := (∀ s ∈ m.states, s.peer.size ≤ 20) ∧ (∀ e ∈ m.edges, e.label.size ≤ 20) ∧ m.states.length ≤ 40 ∧ m.edges.length ≤ 80
theorem parts_small {m : Mach} (h : shortM m) : ∀ x ∈ partsM m, x.size ≤ 30 := by
  have hp : ∀ n, (putS n).size ≤ 30 := fun n => Nat.le_trans (putS_size n) (by omega)
  have hs : ∀ x ∈ partsS m m.states.length, x.size ≤ 30 := by
    intro x hx
    simp only [partsS, List.mem_cons, List.mem_flatMap, List.take_length] at hx
    rcases hx with rfl | ⟨s, hs, hx⟩
    · exact hp _
    · simp only [stParts, List.mem_cons, List.not_mem_nil, or_false] at hx
      rcases hx with rfl | rfl
      · exact hp _
      · exact textS_size _ (h.1 s hs)
  intro x hx
  simp only [partsM, partsE, List.mem_append, List.mem_cons, List.mem_flatMap, List.take_length, List.not_mem_nil, or_false] at hx
  rcases hx with (hx | rfl | ⟨e, he, hx⟩) | rfl
  · exact hs x hx
  · exact hp _
  · simp only [edParts, List.mem_cons, List.not_mem_nil, or_false] at hx
    rcases hx with rfl | rfl | rfl | rfl
    · exact hp _
    · exact textS_size _ (h.2.1 e he)
    · exact hp _
    · exact hp _
  · exact hp _
theorem flatMap_len {α : Type} (l : List α) (f : α → List ByteArray) (n : Nat) (hf : ∀ x, (f x).length = n) : (l.flatMap f).length = l.length * n := by
  induction l with
  | nil => simp
  | cons a l ih => simp [List.flatMap_cons, hf, ih, Nat.succ_mul, Nat.add_comm]
theorem partsS_len (m : Mach) (k : Nat) (hk : k ≤ m.states.length) : (partsS m k).length = 1 + k * 2 := by
  rw [partsS, List.length_cons, flatMap_len _ _ 2 (fun _ => rfl), List.length_take]
  omega
theorem partsE_len (m : Mach) (k : Nat) (hk : k ≤ m.edges.length) : (partsE m k).length = 2 + m.states.length * 2 + k * 4 := by
  rw [partsE, List.length_append, partsS_len _ _ (Nat.le_refl _), List.length_cons, flatMap_len _ _ 4 (fun _ => rfl), List.length_take]
  omega
theorem partsM_len (m : Mach) : (partsM m).length = 3 + m.states.length * 2 + m.edges.length * 4 := by
  rw [partsM, List.length_append, partsE_len _ _ (Nat.le_refl _)]
  simp
  omega
end Go.Proofs.Ytalipbmpcgillaa
