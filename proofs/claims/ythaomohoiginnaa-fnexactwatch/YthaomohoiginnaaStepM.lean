/- Where an edge leads: the mathematics. -/
import Derived.Test.YthaomohoiginnaaActs
namespace Go.Proofs.Ythaomohoiginnaa
open Go.RowKit

theorem less_irrefl : ∀ x : List UInt8, Op.bytesLess x x = false
  | [] => rfl
  | a :: x => by simp [Op.bytesLess, less_irrefl x]
theorem less_trans : ∀ x y z : List UInt8, Op.bytesLess x y = true → Op.bytesLess y z = true → Op.bytesLess x z = true
  | _, [], _, h, _ => by simp [Op.bytesLess] at h
  | _, _ :: _, [], _, h => by simp [Op.bytesLess] at h
  | [], _ :: _, _ :: _, _, _ => rfl
  | a :: x, b :: y, c :: z, h1, h2 => by
    simp only [Op.bytesLess, Bool.or_eq_true, Bool.and_eq_true, decide_eq_true_eq, beq_iff_eq] at h1 h2 ⊢
    rcases h1 with h1 | ⟨rfl, h1⟩
    · rcases h2 with h2 | ⟨rfl, h2⟩
      · exact .inl (UInt8.lt_trans h1 h2)
      · exact .inl h1
    · rcases h2 with h2 | ⟨rfl, h2⟩
      · exact .inl h2
      · exact .inr ⟨rfl, less_trans x y z h1 h2⟩
theorem mless_trans {a b c : REdge} (h1 : mlessE a b = true) (h2 : mlessE b c = true) : mlessE a c = true := by
  simp only [mlessE, Bool.or_eq_true, Bool.and_eq_true, decide_eq_true_eq, beq_iff_eq] at h1 h2 ⊢
  rcases h1 with h1 | ⟨e1, h1⟩
  · rcases h2 with h2 | ⟨e2, h2⟩
    · exact .inl (by omega)
    · exact .inl (by omega)
  · rcases h2 with h2 | ⟨e2, h2⟩
    · exact .inl (by omega)
    · exact .inr ⟨by omega, less_trans _ _ _ h1 h2⟩
theorem mless_ne {a b : REdge} (h : mlessE a b = true) (hs : a.src = b.src) (hl : a.label = b.label) : False := by
  simp only [mlessE, Bool.or_eq_true, Bool.and_eq_true, decide_eq_true_eq, beq_iff_eq] at h
  rcases h with h | ⟨_, h⟩
  · omega
  · rw [hl, less_irrefl] at h; cases h
theorem edge_next {m : Mach} (h : machB m = true) (i : Nat) (hi : i + 1 < m.edges.length) : mlessE m.edges[i] m.edges[i + 1] = true := by
  simp only [machB, Bool.and_eq_true] at h
  have h2 := List.all_eq_true.1 h.2.2 (i + 1) (List.mem_range.2 hi)
  rw [edgeOk, List.getElem?_eq_getElem hi] at h2
  simp only [Nat.add_sub_cancel, Bool.and_eq_true] at h2
  have h3 := h2.2
  rw [List.getElem?_eq_getElem (by omega)] at h3
  exact h3
theorem edges_rise {m : Mach} (h : machB m = true) (i : Nat) : ∀ d (hi : i + d + 1 < m.edges.length), mlessE (m.edges[i]'(by omega)) m.edges[i + d + 1] = true
  | 0, hi => edge_next h i hi
  | d + 1, hi => mless_trans (edges_rise h i d (by omega)) (edge_next h (i + d + 1) hi)
/-- no two edges of a right machine are of one state and label -/
theorem edges_one {m : Mach} (h : machB m = true) (i j : Nat) (hi : i < m.edges.length) (hj : j < m.edges.length) (hs : m.edges[i].src = m.edges[j].src) (hl : m.edges[i].label = m.edges[j].label) : i = j := by
  rcases Nat.lt_trichotomy i j with h1 | h1 | h1
  · exfalso
    have := edges_rise h i (j - i - 1) (by omega)
    have e : i + (j - i - 1) + 1 = j := by omega
    simp only [e] at this
    exact mless_ne this hs hl
  · exact h1
  · exfalso
    have := edges_rise h j (i - j - 1) (by omega)
    have e : j + (i - j - 1) + 1 = i := by omega
    simp only [e] at this
    exact mless_ne this hs.symm hl.symm
theorem edge_med {m : Mach} (h : machB m = true) {e : REdge} (he : e ∈ m.edges) : medB m e = true := by
  simp only [machB, Bool.and_eq_true] at h
  obtain ⟨i, hi, rfl⟩ := List.getElem_of_mem he
  have h2 := List.all_eq_true.1 h.2.2 i (List.mem_range.2 hi)
  rw [edgeOk, List.getElem?_eq_getElem hi] at h2
  simp only [Bool.and_eq_true] at h2
  exact h2.1
theorem edge_bounds {m : Mach} (h : machB m = true) {e : REdge} (he : e ∈ m.edges) : 0 ≤ e.src ∧ e.src < (m.states.length : Int) ∧ 0 ≤ e.dst ∧ e.dst < (m.states.length : Int) ∧ 0 ≤ e.sort ∧ e.sort ≤ 2 := by
  have := edge_med h he
  simp [medB, inB] at this
  omega
theorem mach_40 {m : Mach} (h : machB m = true) : 1 ≤ m.states.length ∧ m.states.length ≤ 40 := by
  simp [machB, headB, inB] at h
  omega
theorem state_kind {m : Mach} (h : machB m = true) (s : Int) : 0 ≤ (stAt m s).kind ∧ (stAt m s).kind ≤ 2 := by
  unfold stAt
  cases hx : m.states[s.toNat]? with
  | none => simp
  | some x =>
    simp only [machB, Bool.and_eq_true] at h
    have h2 := List.all_eq_true.1 h.2.1 x (List.mem_of_getElem? hx)
    simp only [mstB] at h2
    simp only [Option.getD_some]
    split at h2
    · rename_i h3; simp at h3; omega
    · simp [inB] at h2; omega
def actEq (a b : RAct) : Bool := a.kind == b.kind && (a.peer.toList == b.peer.toList && (a.label.toList == b.label.toList && a.sort == b.sort))
theorem toList_inj {a b : ByteArray} (h : a.toList = b.toList) : a = b := by
  rw [Go.ByteArray.toList_eq, Go.ByteArray.toList_eq] at h
  apply ByteArray.ext
  exact Array.ext' h
theorem actEq_iff {a b : RAct} : actEq a b = true ↔ a = b := by
  constructor
  · intro h
    simp only [actEq, Bool.and_eq_true, beq_iff_eq] at h
    obtain ⟨h1, h2, h3, h4⟩ := h
    cases a; cases b
    simp at h1 h2 h3 h4
    rw [h1, toList_inj h2, toList_inj h3, h4]
  · rintro rfl
    simp [actEq]
def stepF (m : Mach) (s : Int) (a : RAct) : Int := match m.edges.find? (fun e => e.src == s && actEq a (actE m s e)) with
  | some e => e.dst
  | none => -1
theorem stepF_some {m : Mach} (h : machB m = true) {s : Int} {a : RAct} {e : REdge} (he : e ∈ m.edges) (hs : e.src = s) (ha : actE m s e = a) : stepF m s a = e.dst := by
  unfold stepF
  cases hf : m.edges.find? (fun e => e.src == s && actEq a (actE m s e)) with
  | none =>
    have := List.find?_eq_none.1 hf e he
    simp [hs, actEq_iff, ha] at this
  | some e' =>
    have h1 := List.find?_some hf
    have h2 := List.mem_of_find?_eq_some hf
    simp only [Bool.and_eq_true, beq_iff_eq, actEq_iff] at h1
    obtain ⟨i, hi, rfl⟩ := List.getElem_of_mem he
    obtain ⟨j, hj, rfl⟩ := List.getElem_of_mem h2
    have hl : m.edges[i].label = m.edges[j].label := by
      have := ha.trans h1.2
      simp only [actE, RAct.mk.injEq] at this
      exact this.2.2.1
    have hij := edges_one h i j hi hj (hs.trans h1.1.symm) hl
    subst hij
    rfl
theorem stepF_none {m : Mach} {s : Int} {a : RAct} (h : ∀ e ∈ m.edges, ¬ (e.src = s ∧ actE m s e = a)) : stepF m s a = -1 := by
  unfold stepF
  have : m.edges.find? (fun e => e.src == s && actEq a (actE m s e)) = none := by
    rw [List.find?_eq_none]
    intro e he h2
    simp only [Bool.and_eq_true, beq_iff_eq, actEq_iff] at h2
    exact h e he ⟨h2.1, h2.2.symm⟩
  rw [this]
end Go.Proofs.Ythaomohoiginnaa
