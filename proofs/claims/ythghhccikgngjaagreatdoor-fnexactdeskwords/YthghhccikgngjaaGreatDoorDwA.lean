/- FnExactDeskWords: the call from every world that meets the condition. -/
import Derived.Test.YthghhccikgngjaaGreatDoorRows
import Derived.Test.YthghhccikgngjaaGreatDoorTie
import Derived.Test.YthghhccikgngjaaGreatDoorCards
import Derived.Test.YthghhccikgngjaaGreatDoorLawDeskWords
import Derived.WalkKit
import Derived.ProofKit
import Derived.OpenShut
import Derived.ShutString
import Derived.ChangeOld
import Derived.Below
import Derived.ChangeSame
import Derived.ChangeVars
import Derived.JoinedOf
import Derived.RowKit
import Derived.RowKitTokens
import Derived.LaidLaws
import Derived.LaidHandle
import Derived.LaidMore
import Derived.OpenVars
import Derived.Stop.Joined
import Derived.SevenTiedAt
import Derived.Test.YthghhccikgngjaaGreatDoorDwF2
namespace Go.Proofs.YthghhccikgngjaaGreatDoor
open Go.ChangeShapes Go.WideShapes Go.ChangeAt Go.RowKit
open Go.ChangeMaps (open_string)
set_option linter.unusedVariables false

theorem fnExactDeskWords_own : ownKnob Tryz.prog.godebug = none := by kernel_rfl
theorem fnExactDeskWords_laidOut : laidOutB Tryz.prog = true := dw_f2
/-- The door's own heap meets the condition. -/
theorem fnExactDeskWords_met (os : Os) (args : Array Value) : laidMetH Tryz.prog Rows.fnExactDeskWordsRow.laid ((World.doorLaid Tryz.prog 400 os).forCall (fun _ _ => 0) ⟨#[], args, []⟩).memory :=
  laidMetH_of_parts3 (fuel := 8) (laidMet_of_run' 8 (by kernel_rfl) (by kernel_rfl)) (by kernel_rfl) (by kernel_rfl)

theorem fnExactDeskWords_five {H : Type} {enc : TypeId × Value → H} {W : World} {a b c d e : String} {gs : List (DataW H)} {q : List MemPlace} (h : DataW.TrodVars enc Tryz.prog W (fun _ => true) [a, b, c, d, e] gs q) : ∃ g1 g2 g3 g4 g5, gs = [g1, g2, g3, g4, g5] := by
  cases gs with
  | nil => exact h.elim
  | cons g1 gs =>
    obtain ⟨_, _, _, _, _, _, _, _, _, _, h, _⟩ := h
    cases gs with
    | nil => exact h.elim
    | cons g2 gs =>
      obtain ⟨_, _, _, _, _, _, _, _, _, _, h, _⟩ := h
      cases gs with
      | nil => exact h.elim
      | cons g3 gs =>
        obtain ⟨_, _, _, _, _, _, _, _, _, _, h, _⟩ := h
        obtain ⟨_, _, _, _, g4, _, _, _, _, _, g5, _, rfl, _⟩ := trodVars_two h
        exact ⟨g1, g2, g3, g4, g5, rfl⟩
set_option maxRecDepth 100000 in
theorem fnExactDeskWords_lifted (os : Os) (started : os.Started) (H : Type) (enc : TypeId × Value → H) :
    ReturnsInHanded {} Tryz.checked os 7 .any (fun w args => (Rows.fnExactDeskWordsSpec.pre enc Tryz.prog Tryz.f7 [] false w args ∧ laidMetH Tryz.prog Rows.fnExactDeskWordsRow.laid w) ∧ sizedMet enc Tryz.prog Tryz.f7 (OpenSpec.ofChange Rows.fnExactDeskWordsSpec) false w args)
      (Rows.fnExactDeskWordsSpec.post enc Tryz.prog Tryz.f7 false true false false) := by
  refine returnsInHanded_of_change_and (C := Tryz.checked) (X := fun w _ => laidMetH Tryz.prog Rows.fnExactDeskWordsRow.laid w) (fun _ _ _ hh h => h.of_heap hh) fnExactDeskWords_own started (by kernel_rfl) Tryz.func7
    (ChangeSpec.witness_shaped (enc := enc) (C := Tryz.checked) (os := os) (X := fun w _ => laidMetH Tryz.prog Rows.fnExactDeskWordsRow.laid w) false (World.doorLaid Tryz.prog 400 os) #[] 8 rfl (World.shaped_of_RefB (by kernel_rfl) (by kernel_rfl)) (by kernel_rfl) (by kernel_rfl) (by kernel_rfl) (fnExactDeskWords_met os _)) ?_
  intro W base args ds gs before hval0 hW _ _ hL _
  have hval : ∀ (j : Nat) t v, Tryz.f7.params[j]? = some t → args[j]? = some v → Value.okWide Tryz.prog W .any base t v := hval0
  have hW' := hW
  obtain ⟨p, q, hA0, hV0, rfl, hfz, hnd⟩ := hW
  have hA : DataW.TrodAll enc Tryz.prog W 0 (fun _ => true) true Tryz.f7.params.toList args.toList ds p := hA0
  have hV : DataW.TrodVars enc Tryz.prog W (fun _ => true) ["loop.example/g00574/impl.errTooLong", "loop.example/g00574/impl.errNotRight", "loop.example/g00574/impl.errNothing", "loop.example/g00574/impl.errNoRoom", "loop.example/g00574/impl.sortWords"] gs q := hV0
  rw [Tryz.params7] at hA hval
  obtain ⟨hargs, rfl, rfl⟩ := trodAll_nil hA
  obtain rfl : args = #[] := by cases args; simp_all
  obtain ⟨g1, g2, g3, g4, g5, rfl⟩ := fnExactDeskWords_five hV
  clear hA0 hval0
  have e1 : Rows.fnExactDeskWordsSpec.fn H ([] ++ [g1, g2, g3, g4, g5]) = { results := [.lit (.bool true)], args := [], vars := [g1, g2, g3, g4, g5] } := by simp [Rows.fnExactDeskWordsSpec]
  refine (law_DeskWords W).mono fun e W' ⟨he, bel⟩ => ?_
  subst he
  refine ⟨_, rfl, _, _, _, [], [], q, hW', ?_, ?_, ?_, bel.frame _, fun h => by cases h⟩
  · rw [e1]; exact trodAll_mk1 (shut_bool Tryz.underlying4 true)
  · rw [e1]; exact trodAll_mk0
  · rw [e1]; exact Below.trodVars fnExactDeskWords_laidOut bel (by kernel_rfl) hV

end Go.Proofs.YthghhccikgngjaaGreatDoor
