/- What is read, up to a place: a machine. -/
import Derived.Test.YtalipbmpcgillaaRdP
import Derived.Test.YtalipbmpcgillaaBytesM
namespace Go.Proofs.Ytalipbmpcgillaa
open Go.RowKit
def gSt1 (t : ByteArray) (a : Int) : Option (RState × Int) := (gN t a).bind fun r => (gT t r.2).bind fun x => some (⟨r.1, x.1⟩, x.2)
def gEd1 (t : ByteArray) (a : Int) : Option (REdge × Int) := (gN t a).bind fun r => (gT t r.2).bind fun x => (gN t x.2).bind fun y => (gN t y.2).bind fun z => some (⟨r.1, x.1, y.1, z.1⟩, z.2)
def gMach (t : ByteArray) : Option (Mach × Int) := (gCnt t 0 40).bind fun p => (gRow (gSt1 t) p.2 p.1).bind fun q => (gCnt t q.2 80).bind fun r => (gRow (gEd1 t) r.2 r.1).bind fun s => (gN t s.2).bind fun u => some (⟨q.1, s.1, u.1⟩, u.2)
theorem gSt1_goes {t : ByteArray} {a b : Int} {x : RState} (h : gSt1 t a = some (x, b)) : Goes t a b ((stParts x).flatMap bL) ∧ x.peer.size ≤ 8000 := by
  simp only [gSt1, Option.bind_eq_some_iff, Prod.exists] at h
  obtain ⟨z, p, h1, y, q, h2, h3⟩ := h
  simp at h3
  obtain ⟨rfl, rfl⟩ := h3
  have h4 := (gN_goes h1).1
  obtain ⟨h5, h6⟩ := gT_goes h2
  exact ⟨by simpa [stParts] using h4.trans h5, h6⟩
theorem gEd1_goes {t : ByteArray} {a b : Int} {x : REdge} (h : gEd1 t a = some (x, b)) : Goes t a b ((edParts x).flatMap bL) ∧ x.label.size ≤ 8000 := by
  simp only [gEd1, Option.bind_eq_some_iff, Prod.exists] at h
  obtain ⟨z, p, h1, y, q, h2, z2, p2, h3, z3, p3, h4, h5⟩ := h
  simp at h5
  obtain ⟨rfl, rfl⟩ := h5
  have g1 := (gN_goes h1).1
  obtain ⟨g2, g3⟩ := gT_goes h2
  have g4 := (gN_goes h3).1
  have g5 := (gN_goes h4).1
  exact ⟨by simpa [edParts] using g1.trans (g2.trans (g4.trans g5)), g3⟩
theorem gMach_goes {t : ByteArray} {m : Mach} {a : Int} (h : gMach t = some (m, a)) : Goes t 0 a (bL (bytesM m)) ∧ m.states.length ≤ 40 ∧ m.edges.length ≤ 80 ∧ (∀ x ∈ m.states, x.peer.size ≤ 8000) ∧ (∀ x ∈ m.edges, x.label.size ≤ 8000) := by
  simp only [gMach, Option.bind_eq_some_iff, Prod.exists] at h
  obtain ⟨n1, a1, h1, ls, a2, h2, n2, a3, h3, le, a4, h4, st, a5, h5, h6⟩ := h
  simp at h6
  obtain ⟨rfl, rfl⟩ := h6
  obtain ⟨g1, k1⟩ := gCnt_goes h1
  obtain ⟨i2, g2, f2⟩ := gRow_goes (pt := fun x => (stParts x).flatMap bL) (ok := fun x => x.peer.size ≤ 8000) (fun a b x hx => gSt1_goes hx) (Int.le_trans g1.lo g1.le) g1.hi n1 h2
  obtain ⟨g3, k3⟩ := gCnt_goes h3
  obtain ⟨i4, g4, f4⟩ := gRow_goes (pt := fun x => (edParts x).flatMap bL) (ok := fun x => x.label.size ≤ 8000) (fun a b x hx => gEd1_goes hx) (Int.le_trans g3.lo g3.le) g3.hi n2 h4
  have g5 := (gN_goes h5).1
  refine ⟨?_, by simp only; omega, by simp only; omega, f2, f4⟩
  have := g1.trans (g2.trans (g3.trans (g4.trans g5)))
  rw [bytesM, bL_join, partsM, partsE, partsS]
  rw [← i2, ← i4] at this
  simpa [List.take_length, List.flatMap_append, List.flatMap_cons, List.flatMap_assoc] using this
end Go.Proofs.Ytalipbmpcgillaa
