/- The acts of a state: of the specification. -/
import Derived.Test.YthaomohoiginnaaOwnRAct
import Derived.Test.YthaomohoiginnaaPkMach
import Derived.Test.YthaomohoiginnaaMachM
namespace Go.Proofs.Ythaomohoiginnaa
open Go.RowKit

def stAt (m : Mach) (s : Int) : RState := (m.states[s.toNat]?).getD ⟨0, ByteArray.empty⟩
def actE (m : Mach) (s : Int) (e : REdge) : RAct := ⟨(stAt m s).kind, (stAt m s).peer, e.label, e.sort⟩
def actsV (m : Mach) (s : Int) : List RAct := (m.edges.filter fun e => e.src == s).map (actE m s)
def actsK (m : Mach) (s : Int) (k : Nat) : List RAct := ((m.edges.take k).filter fun e => e.src == s).map (actE m s)
theorem actsK_no {m : Mach} {s : Int} {k : Nat} (h : k < m.edges.length) (hn : (m.edges[k].src == s) = false) : actsK m s (k + 1) = actsK m s k := by
  unfold actsK
  rw [List.take_succ_eq_append_getElem h, List.filter_append]
  simp [hn]
theorem actsK_yes {m : Mach} {s : Int} {k : Nat} (h : k < m.edges.length) (hn : (m.edges[k].src == s) = true) : actsK m s (k + 1) = actsK m s k ++ [actE m s m.edges[k]] := by
  unfold actsK
  rw [List.take_succ_eq_append_getElem h, List.filter_append, List.map_append]
  simp [hn]
theorem actsK_all {m : Mach} {s : Int} {k : Nat} (h : m.edges.length ≤ k) : actsK m s k = actsV m s := by
  unfold actsK actsV
  rw [List.take_of_length_le h]
theorem actsK_len (m : Mach) (s : Int) (k : Nat) : (actsK m s k).length ≤ k := by
  unfold actsK
  rw [List.length_map]
  exact Nat.le_trans (List.length_filter_le _ _) (List.length_take_le _ _)
theorem actsV_len (m : Mach) (s : Int) : (actsV m s).length ≤ m.edges.length := by
  unfold actsV
  rw [List.length_map]
  exact List.length_filter_le _ _
theorem Try.infoAct : (Try.prog.info? 58).map (fun i => (i.zero, i.size, i.bytes)) = some (some (.agg #[.int .i64 0, .string ByteArray.empty, .string ByteArray.empty, .int .i64 0]), 4, 48) := by kernel_rfl

theorem balloc2 (w : World) (a b : Obj) : Below w.heap.size w ((w.alloc a).alloc b) := (malloc1 _ _).trans ((malloc1 _ _).mono (by simp))
theorem new_row2 (w : World) (A : Obj) (cs : List Value) (t : TypeId) (j : Nat) (u : Value) (h : cs[j]? = some u) : ((w.alloc A).alloc (.cells cs.toArray t)).cell? (Addr.add ⟨w.heap.size + 1, 0, none⟩ j) = some u := by
  have e : ((w.alloc A).alloc (.cells cs.toArray t)).heap[w.heap.size + 1]? = some (.cells cs.toArray t) := mheap_new _ _ _ (by simp)
  have ea : Addr.add ⟨w.heap.size + 1, 0, none⟩ j = ⟨w.heap.size + 1, j, none⟩ := by
    unfold Addr.add
    split <;> simp_all
  rw [ea]
  simp only [World.cell?]
  rw [e]
  simpa using h
end Go.Proofs.Ythaomohoiginnaa
