/- Rows of numbers: in memory; the law's own helpers over them. -/
import Derived.Test.YtehodjfgojcnlaaOpenB
namespace Go.Proofs.Ytehodjfgojcnlaa
open Go.RowKit Go.ChangeShapes Go.WideShapes

def Nums (w : World) (b o : Nat) (l : List Int) : Prop := ∀ j (h : j < l.length), w.cell? ⟨b, o + j, none⟩ = some (.int .i64 l[j])
theorem Nums.carry {w w' : World} {b B o : Nat} {l : List Int} (h : Nums w b o l) (hB : b < B) (hb : Below B w w') : Nums w' b o l :=
  fun j hj => (hb.cell (p := ⟨b, o + j, none⟩) hB).trans (h j hj)
/-- a slice's value holds such a row, in a block below B -/
def NumSl (w : World) (B : Nat) (v : Value) (l : List Int) : Prop :=
  ∃ ao cap, v = .slice ao l.length cap ∧ l.length ≤ cap ∧ l.length ≤ 4294967296 ∧ (l ≠ [] → ∃ b o, ao = some ⟨b, o, none⟩ ∧ b < B ∧ Nums w b o l)
theorem NumSl.carry {w w' : World} {B : Nat} {v : Value} {l : List Int} (h : NumSl w B v l) (hb : Below B w w') : NumSl w' B v l := by
  obtain ⟨ao, cap, h1, h2, h3, h4⟩ := h
  refine ⟨ao, cap, h1, h2, h3, fun hne => ?_⟩
  obtain ⟨b, o, e, hlt, hr⟩ := h4 hne
  exact ⟨b, o, e, hlt, hr.carry hlt hb⟩
theorem NumSl.up {w : World} {B B' : Nat} {v : Value} {l : List Int} (h : NumSl w B v l) (hB : B ≤ B') : NumSl w B' v l := by
  obtain ⟨ao, cap, h1, h2, h3, h4⟩ := h
  refine ⟨ao, cap, h1, h2, h3, fun hne => ?_⟩
  obtain ⟨b, o, e, hlt, hr⟩ := h4 hne
  exact ⟨b, o, e, by omega, hr⟩
theorem NumSl.on {w w' : World} {v : Value} {l : List Int} (h : NumSl w w.heap.size v l) (hb : Below w.heap.size w w') : NumSl w' w'.heap.size v l := (h.carry hb).up hb.size
theorem NumSl.shape {w : World} {B : Nat} {v : Value} {l : List Int} (h : NumSl w B v l) : ∃ p c, v = .slice p l.length c := by
  obtain ⟨ao, cap, h1, _⟩ := h
  exact ⟨ao, cap, h1⟩
theorem Try.infoI64 : (Try.prog.info? 2).map (fun i => (i.zero, i.size, i.bytes)) = some (some (.int .i64 0), 1, 8) := by kernel_rfl
end Go.Proofs.Ytehodjfgojcnlaa
