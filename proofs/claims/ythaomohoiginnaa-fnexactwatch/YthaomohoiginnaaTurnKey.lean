/- The keys of a graph's map: a state and an act. -/
import Derived.Test.YthaomohoiginnaaRowAct
import Derived.Maps.OwnSet
import Derived.DeepKeys4
namespace Go.Proofs.Ythaomohoiginnaa
open Go.RowKit Go.Maps

def turnV (f : Int) (a : RAct) : Value := .agg #[.int .i64 f, .int .i64 a.kind, .string a.peer, .string a.label, .int .i64 a.sort]
def i64B (z : Int) : Prop := -9223372036854775808 ≤ z ∧ z ≤ 9223372036854775807
def RAct.rng (a : RAct) : Prop := i64B a.kind ∧ i64B a.sort
theorem i64_wf {z : Int} (h : i64B z) : (Lit.int .i64 z).wf = true := by
  simp [Lit.wf, IntKind.min, IntKind.max, IntKind.signed, IntKind.bits]
  exact h
theorem Try.laidOutK : laidOutB Try.prog = true := by kernel_rfl
theorem Try.turnRow : (189 : TypeId) < Try.prog.types.size := of_decide_eq_true (by kernel_rfl)
theorem Try.turnCells : Try.prog.cellsOf 189 = 5 := by kernel_rfl
theorem Try.actCells : Try.prog.cellsOf 58 = 4 := by kernel_rfl
theorem Try.i64Cells : Try.prog.cellsOf 2 = 1 := by kernel_rfl
theorem Try.strCells : Try.prog.cellsOf 9 = 1 := by kernel_rfl
theorem Try.turnType : Try.prog.keyType 189 = true := by kernel_rfl
theorem turn_keyed : Keyed Try.prog 189 := Keyed.of_law (deep_law_laid Try.laidOutK (m := 4) (by omega) Try.turnRow (by kernel_rfl) (by kernel_rfl))
theorem Try.typesTwo : 2 < Try.prog.types.size := of_decide_eq_true (by kernel_rfl)
theorem Try.typesMany : ∃ d, Try.prog.types.size + 1 = d + 3 := by
  have h := Try.typesTwo
  generalize Try.prog.types.size = n at h
  exact ⟨n - 2, by omega⟩
set_option maxRecDepth 10000 in
theorem turn_key (f : Int) (a : RAct) (hf : i64B f) (hr : a.rng) (hok : a.ok) : ∃ kl, keyOf Try.prog 189 (turnV f a) = some kl := by
  obtain ⟨d, hd⟩ := Try.typesMany
  have h1 := i64_wf hf
  have h2 := i64_wf hr.1
  have h3 := i64_wf hr.2
  have hform : (turnV f a).formed Try.prog 189 = true := by
    simp [Value.formed, turnV, Try.underlying189, Try.turnCells]
  unfold keyOf
  rw [Try.underlying189]
  simp only []
  rw [if_pos (by rw [Try.turnType, hform]; rfl), hd]
  simp +decide [Program.keyLits, turnV, Value.cells, Try.underlying189, Try.underlying2, Try.underlying58, Try.underlying9, Try.turnCells, Try.actCells, Try.i64Cells, Try.strCells, h1, h2, h3, hok.1, hok.2]
end Go.Proofs.Ythaomohoiginnaa
