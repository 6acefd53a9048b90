/- A machine read from its bytes: what is read, pure. -/
import Derived.Test.YtalipbmpcgillaaRdN
import Derived.Test.YtalipbmpcgillaaBytesT
namespace Go.Proofs.Ytalipbmpcgillaa
open Go.RowKit

def noMach : Mach := ⟨[], [], 0⟩
def mrOk (t : ByteArray) (m : Mach) (a : Int) : Bool := decide (a = (t.size : Int)) && machB m
def machT (t : ByteArray) : Mach := if 8000 < t.size then noMach else match gMach t with
  | some (m, a) => if mrOk t m a then m else noMach
  | none => noMach
def machC (t : ByteArray) : Int := if 8000 < t.size then 2 else match gMach t with
  | some (m, a) => if mrOk t m a then 0 else 3
  | none => 3
theorem machT_big {t : ByteArray} (h : 8000 < t.size) : machT t = noMach ∧ machC t = 2 := by
  unfold machT machC; rw [if_pos h, if_pos h]; exact ⟨rfl, rfl⟩
theorem machT_none {t : ByteArray} (h : ¬ 8000 < t.size) (hg : gMach t = none) : machT t = noMach ∧ machC t = 3 := by
  unfold machT machC; rw [if_neg h, if_neg h, hg]; exact ⟨rfl, rfl⟩
theorem machT_some {t : ByteArray} {m : Mach} {a : Int} (h : ¬ 8000 < t.size) (hg : gMach t = some (m, a)) : machT t = (if mrOk t m a then m else noMach) ∧ machC t = (if mrOk t m a then 0 else 3) := by
  unfold machT machC; rw [if_neg h, if_neg h, hg]; exact ⟨rfl, rfl⟩
theorem gMach_fit {t : ByteArray} {m : Mach} {a : Int} (hg : gMach t = some (m, a)) : m.fit := by
  obtain ⟨_, h1, h2, h3, h4⟩ := gMach_goes hg
  refine ⟨fun x hx => ?_, fun x hx => ?_, by omega, by omega⟩
  · have := h3 x hx; unfold RState.fit; omega
  · have := h4 x hx; unfold REdge.fit; omega
theorem mr_same {t : ByteArray} {m : Mach} {a : Int} (hg : gMach t = some (m, a)) : mrOk t m a = true ↔ (bytesR m = t ∧ t.toList ≠ []) := by
  obtain ⟨g, _⟩ := gMach_goes hg
  have e := g.eq
  have hlen := congrArg List.length e
  rw [List.length_append, List.length_take, List.length_take] at hlen
  have hz : (bL t).length = t.size := by unfold bL; rw [← Lib.size_eq]
  have hlo := g.lo
  have hle := g.le
  have hhi := g.hi
  rw [hz] at hlen
  unfold mrOk
  simp only [Bool.and_eq_true, decide_eq_true_eq]
  constructor
  · rintro ⟨rfl, hm⟩
    have et : bytesM m = t := by
      apply ba_ext
      rw [Int.toNat_natCast, Int.toNat_zero, List.take_zero, List.nil_append, List.take_of_length_le (by rw [hz]; exact Nat.le_refl _)] at e
      exact e.symm
    refine ⟨by rw [bytesR, if_pos hm]; exact et, fun h => ?_⟩
    have h5 : (bL (putS (m.states.length : Int))).length ≤ (bL (bytesM m)).length := by
      rw [bytesM, bL_join, partsM, partsE, partsS]
      simp
    have h6 : 1 ≤ (bL (putS (m.states.length : Int))).length := by
      show 1 ≤ (putL (foldN (m.states.length : Int))).length
      unfold putL
      simp
    rw [et] at h5
    rw [Go.ByteArray.toList_eq] at h
    have h7 : (bL t).length = 0 := by unfold bL; rw [h]; rfl
    omega
  · rintro ⟨h1, h2⟩
    have hm : machB m = true := by
      cases hb : machB m
      · rw [bytesR, hb] at h1
        exfalso
        apply h2
        rw [← h1, if_neg (by simp), Go.ByteArray.toList_eq]
        rfl
      · rfl
    rw [bytesR, if_pos hm] at h1
    rw [h1, hz] at hlen
    exact ⟨by omega, hm⟩
end Go.Proofs.Ytalipbmpcgillaa
