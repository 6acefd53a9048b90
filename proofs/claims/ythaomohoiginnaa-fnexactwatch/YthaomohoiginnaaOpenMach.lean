/- A machine that is handed in, opened. -/
import Derived.Test.YthaomohoiginnaaMach
import Derived.Test.YthaomohoiginnaaOpenState
import Derived.Test.YthaomohoiginnaaOpenEdge
namespace Go.Proofs.Ythaomohoiginnaa
open Go.RowKit Go.ChangeShapes Go.WideShapes

theorem Try.cMach : Try.prog.cellsOf 39 = 3 := by kernel_rfl
theorem Try.cSts : Try.prog.cellsOf 36 = 1 := by kernel_rfl
theorem Try.cEds : Try.prog.cellsOf 37 = 1 := by kernel_rfl
theorem slice_shape {H : Type} {enc : TypeId × Value → H} {w : World} {base : Nat} {spare : Nat → Bool} {held : Bool} {fuel : Nat} {t e : TypeId} (ht : Try.prog.underlying t = some (.slice e)) {a : Value} {x : DataW H × List MemPlace} (h : DataW.trod enc Try.prog w base spare held fuel t [a] = some x) : ∃ p l c, a = .slice p l c := by
  rcases Go.Deep.open_slice ht h with ⟨h0, _⟩ | ⟨a', len, cap, m, n, D, Pl, hcs, _⟩
  · simp at h0; exact ⟨_, _, _, h0⟩
  · simp at hcs; exact ⟨_, _, _, hcs⟩
theorem open_machine {H : Type} {enc : TypeId × Value → H} {w : World} {base : Nat} {spare : Nat → Bool} {held : Bool} {fuel : Nat} {cs : Array Value} {x : DataW H × List MemPlace} (hsz : cs.size = Try.prog.cellsOf 39) (h : DataW.trod enc Try.prog w base spare held fuel 39 cs.toList = some x) :
    ∃ m sa sc ea ec, Value.agg cs = machV sa sc ea ec m ∧ MachArg w sa sc ea ec m := by
  rw [Try.cMach] at hsz
  obtain ⟨l⟩ := cs
  match l, hsz with
  | [a, b, c], _ =>
    obtain ⟨xs, n, _, _, hl, hlen, hf⟩ := DataW.trod_struct Try.underlying39 h
    have hx3 : xs.length = 3 := hlen
    match xs, hx3 with
    | [y0, y1, y2], _ =>
      have g0 : DataW.trod enc Try.prog w base spare held n 36 (([a, b, c].drop 0).take (Try.prog.cellsOf 36)) = some y0 := hf 0 _ rfl
      have g1 : DataW.trod enc Try.prog w base spare held n 37 (([a, b, c].drop 1).take (Try.prog.cellsOf 37)) = some y1 := hf 1 _ rfl
      have g2 : DataW.trod enc Try.prog w base spare held n 2 (([a, b, c].drop 2).take (Try.prog.cellsOf 2)) = some y2 := hf 2 _ rfl
      rw [Try.cSts] at g0
      rw [Try.cEds] at g1
      rw [Try.ocI] at g2
      simp only [List.drop_zero, List.drop_succ_cons, List.take_succ_cons, List.take_zero] at g0 g1 g2
      obtain ⟨sa, sl, sc, rfl⟩ := slice_shape Try.underlying36 g0
      obtain ⟨ea, el, ec, rfl⟩ := slice_shape Try.underlying37 g1
      obtain ⟨z, e2, _⟩ := DataW.trod_int Try.underlying2 g2
      obtain ⟨ss, rfl, s1, s2, s3⟩ := open_states g0
      obtain ⟨es, rfl, e1, e2', e3⟩ := open_edges g1
      have hz : c = .int .i64 z := by simpa using e2
      subst hz
      exact ⟨⟨ss, es, z⟩, sa, sc, ea, ec, rfl, ⟨s1, e1, s2, e2', s3, e3⟩⟩
end Go.Proofs.Ythaomohoiginnaa
