/- What the listed variables' condition gives: the four errors, and that they are not the same. -/
import Derived.Test.YtonafcifolddjaaDoorErrs
import Derived.Stop.LaidTwo
import Derived.ChangeVars
import Derived.OpenShut
namespace Go.Proofs.YtonafcifolddjaaDoor
open Go.RowKit Go.ChangeShapes

theorem Tryd.gNamed0 : Tryd.prog.globalNamed "loop.example/g00574/impl.errNothing" = some 0 := by kernel_rfl
theorem Tryd.gNamed1 : Tryd.prog.globalNamed "loop.example/g00574/impl.errTooLong" = some 1 := by kernel_rfl
theorem Tryd.gNamed2 : Tryd.prog.globalNamed "loop.example/g00574/impl.errNotRight" = some 2 := by kernel_rfl
theorem Tryd.gNamed3 : Tryd.prog.globalNamed "loop.example/g00574/impl.errNoRoom" = some 3 := by kernel_rfl
theorem Tryd.gType0 : (Tryd.prog.globals[0]?).map (·.type) = some 47 := by kernel_rfl
theorem Tryd.gType1 : (Tryd.prog.globals[1]?).map (·.type) = some 47 := by kernel_rfl
theorem Tryd.gType2 : (Tryd.prog.globals[2]?).map (·.type) = some 47 := by kernel_rfl
theorem Tryd.gType3 : (Tryd.prog.globals[3]?).map (·.type) = some 47 := by kernel_rfl
theorem Tryd.errsCells : Tryd.prog.cellsOf 117 = 1 := by kernel_rfl
theorem Tryd.strCellsM : Tryd.prog.cellsOf 9 = 1 := by kernel_rfl
theorem Tryd.starE : "*" ++ "errors.errorString" = "*errors.errorString" := by decide
theorem Tryd.errpRow (u : TypeId) (h : Tryd.prog.typeName? 3 u = some "*errors.errorString") : u = 92 :=
  typeName_ptr_named (nm := "errors.errorString") (by rw [Tryd.starE]; kernel_rfl) (by kernel_rfl) (by decide) u (by rw [Tryd.starE]; exact h)
theorem apart_text {W : World} {a b : Addr} {s t : ByteArray} {x y : List UInt8} (ha : W.cell? a = some (.string s)) (hb : W.cell? b = some (.string t)) (hs : s.data.toList = x) (ht : t.data.toList = y) (hne : x ≠ y) : a ≠ b := by
  rintro rfl
  rw [ha] at hb
  injection hb with hb
  injection hb with hb
  exact hne (by rw [← hs, ← ht, hb])
theorem sent_of_laid {W : World} (h : laidMet Tryd.prog [("loop.example/g00574/impl.errTooLong", Rows.laid_loop_example_g00574_impl_errTooLong), ("loop.example/g00574/impl.errNotRight", Rows.laid_loop_example_g00574_impl_errNotRight), ("loop.example/g00574/impl.errNothing", Rows.laid_loop_example_g00574_impl_errNothing), ("loop.example/g00574/impl.errNoRoom", Rows.laid_loop_example_g00574_impl_errNoRoom)] W) : ∃ E, SentAt W E := by
  have h2 := h.tail.tail
  unfold Rows.laid_loop_example_g00574_impl_errTooLong Rows.laid_loop_example_g00574_impl_errNotRight at h
  unfold Rows.laid_loop_example_g00574_impl_errNothing Rows.laid_loop_example_g00574_impl_errNoRoom at h2
  obtain ⟨aL, aR, sL, sR, cL, cR, tL, tR, vL, vR, hcL, hsL, -, hcR, hsR, -, hLR, bL, bR⟩ := laid_sentinels2 h Tryd.gNamed1 Tryd.gType1 Tryd.gNamed2 Tryd.gType2 Tryd.underlying47 Tryd.errpRow Tryd.underlying92 Tryd.underlying117 rfl rfl Tryd.underlying9 Tryd.errsCells Tryd.strCellsM
  obtain ⟨aN, aM, sN, sM, cN, cM, tN, tM, vN, vM, hcN, hsN, -, hcM, hsM, -, hNM, bN, bM⟩ := laid_sentinels2 h2 Tryd.gNamed0 Tryd.gType0 Tryd.gNamed3 Tryd.gType3 Tryd.underlying47 Tryd.errpRow Tryd.underlying92 Tryd.underlying117 rfl rfl Tryd.underlying9 Tryd.errsCells Tryd.strCellsM
  refine ⟨⟨aN, aL, aR, aM⟩, ?_, ?_, ?_, ?_, ⟨_, _, bN⟩, ⟨_, _, bL⟩, ⟨_, _, bR⟩, ⟨_, _, bM⟩, ?_, ?_, hNM, hLR, ?_, ?_⟩
  · simpa using World.var?_cell Tryd.gNamed0 vN 0
  · simpa using World.var?_cell Tryd.gNamed1 vL 0
  · simpa using World.var?_cell Tryd.gNamed2 vR 0
  · simpa using World.var?_cell Tryd.gNamed3 vM 0
  · exact apart_text hcN hcL hsN hsL (by decide)
  · exact apart_text hcN hcR hsN hsR (by decide)
  · exact apart_text hcL hcM hsL hsM (by decide)
  · exact apart_text hcR hcM hsR hsM (by decide)
theorem vars_four {H : Type} {enc : TypeId × Value → H} {P : Program} {w : World} {spare : Nat → Bool} {a b c d : String} {gs : List (DataW H)} {ps : List MemPlace} (h : DataW.TrodVars enc P w spare [a, b, c, d] gs ps) : ∃ g1 g2 g3 g4, gs = [g1, g2, g3, g4] := by
  cases gs with
  | nil => exact h.elim
  | cons g1 gs =>
    obtain ⟨_, _, _, _, _, _, _, _, _, _, h, _⟩ := h
    cases gs with
    | nil => exact h.elim
    | cons g2 gs =>
      obtain ⟨_, _, _, _, _, _, _, _, _, _, h, _⟩ := h
      obtain ⟨_, _, _, _, g3, _, _, _, _, _, g4, _, rfl, _⟩ := trodVars_two h
      exact ⟨g1, g2, g3, g4, rfl⟩
end Go.Proofs.YtonafcifolddjaaDoor
