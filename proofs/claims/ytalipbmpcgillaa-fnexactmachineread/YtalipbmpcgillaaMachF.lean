/- Facts of a right machine. -/
import Derived.Test.YtalipbmpcgillaaMachR
namespace Go.Proofs.Ytalipbmpcgillaa
open Go.RowKit
theorem mach_80 {m : Mach} (h : machB m = true) : m.edges.length ≤ 80 := by
  simp [machB, headB] at h
  exact h.1.2.1
theorem s_machineRight_at {q : Bool} {m : Mach} (hq : machB m = q) (v : Value) (w : World) (hf : m.fit) (hv : MachAt w v m) :
    Calls Try.prog 23 #[v] w fun e w' => e = .returned (.bool q) ∧ Below w.heap.size w w' := by subst hq; exact s_machineRight m v w hf hv
theorem edge_med {m : Mach} (h : machB m = true) {e : REdge} (he : e ∈ m.edges) : medB m e = true := by
  simp only [machB, Bool.and_eq_true] at h
  obtain ⟨i, hi, rfl⟩ := List.getElem_of_mem he
  have h2 := List.all_eq_true.1 h.2.2 i (List.mem_range.2 hi)
  rw [edgeOk, List.getElem?_eq_getElem hi] at h2
  simp only [Bool.and_eq_true] at h2
  exact h2.1
theorem edge_bounds {m : Mach} (h : machB m = true) {e : REdge} (he : e ∈ m.edges) : 0 ≤ e.src ∧ e.src < (m.states.length : Int) ∧ 0 ≤ e.dst ∧ e.dst < (m.states.length : Int) ∧ 0 ≤ e.sort ∧ e.sort ≤ 2 := by
  have := edge_med h he
  simp [medB, inB] at this
  omega
theorem mach_40 {m : Mach} (h : machB m = true) : 1 ≤ m.states.length ∧ m.states.length ≤ 40 := by
  simp [machB, headB, inB] at h
  omega
end Go.Proofs.Ytalipbmpcgillaa
