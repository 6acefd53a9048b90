/- What is read as a key of a graph's map is a state and an act. -/
import Derived.Test.YtcdlceldokhnbaaTurnKey
import Derived.Maps.RangeWalk
namespace Go.Proofs.Ytcdlceldokhnbaa
open Go.RowKit Go.Maps

theorem lits_int {d : Nat} {c : Value} {ls : List Lit} (h : Try.prog.keyLits (d + 1) 2 [c] = some ls) : ∃ n, c = .int .i64 n := by
  cases c <;> simp [Program.keyLits, Try.underlying2] at h
  exact ⟨_, by rw [h.1.1]⟩
theorem lits_str {d : Nat} {c : Value} {ls : List Lit} (h : Try.prog.keyLits (d + 1) 9 [c] = some ls) : ∃ s, c = .string s := by
  cases c <;> simp [Program.keyLits, Try.underlying9] at h
  exact ⟨_, rfl⟩
set_option maxRecDepth 10000 in
theorem turn_inv {key : Value} {kl : Lit} (h : keyOf Try.prog 186 key = some kl) : ∃ x : Int × RAct, key = turnV x.1 x.2 := by
  obtain ⟨d, hd⟩ := Try.typesMany
  unfold keyOf at h
  rw [Try.underlying186] at h
  simp only [] at h
  split at h
  case isFalse => cases h
  case isTrue hc =>
    simp only [Bool.and_eq_true] at hc
    have hform := hc.2
    rw [hd] at h
    cases key <;> simp [Value.formed, Try.underlying186] at hform
    rename_i cs
    rw [Try.turnCells] at hform
    obtain ⟨l⟩ := cs
    simp at hform
    match l, hform with
    | [a, b, c, e, f], _ =>
      rw [show Value.cells (.agg (List.toArray [a, b, c, e, f])) = #[a, b, c, e, f] from rfl] at h
      unfold Program.keyLits at h
      simp +decide [Try.underlying186, Try.turnCells, Try.actCells, Try.i64Cells, Option.bind_eq_some_iff] at h
      obtain ⟨l1, h1, l2, ⟨l3, h2, -⟩, -⟩ := h
      obtain ⟨n1, rfl⟩ := lits_int h1
      unfold Program.keyLits at h2
      simp +decide [Try.underlying63, Try.actCells, Try.strCells, Try.i64Cells, Option.bind_eq_some_iff] at h2
      obtain ⟨_, k1, _, ⟨_, k2, _, ⟨_, k3, _, ⟨_, k4, -⟩, -⟩, -⟩, -⟩ := h2
      obtain ⟨n2, rfl⟩ := lits_int k1
      obtain ⟨n3, rfl⟩ := lits_str k2
      obtain ⟨n4, rfl⟩ := lits_str k3
      obtain ⟨n5, rfl⟩ := lits_int k4
      exact ⟨(n1, ⟨n2, n3, n4, n5⟩), rfl⟩
end Go.Proofs.Ytcdlceldokhnbaa
