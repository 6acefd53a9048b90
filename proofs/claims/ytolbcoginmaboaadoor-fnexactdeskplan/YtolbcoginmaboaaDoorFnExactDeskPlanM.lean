/- FnExactDeskPlan, the tied card: the law of DeskPlan returns true. Its condition: the variable impl.sortWords holds what the program's text lays there at its start, which the card ties to the translation; that nothing else writes it is the translator's report. -/
import Derived.Test.YtolbcoginmaboaaDoorRows
import Derived.Test.YtolbcoginmaboaaDoorTie
import Derived.Test.YtolbcoginmaboaaDoorCards
import Derived.Test.YtolbcoginmaboaaDoorLawDeskPlanM
import Derived.WalkKit
import Derived.ProofKit
import Derived.OpenShut
import Derived.ShutString
import Derived.ChangeOld
import Derived.Below
import Derived.ChangeSame
import Derived.ChangeVars
import Derived.JoinedOf
import Derived.RowKit
import Derived.RowKitTokens
import Derived.LaidLaws
import Derived.LaidHandle
import Derived.LaidMore
import Derived.OpenVars
import Derived.Stop.Joined
import Derived.SevenTiedAt
namespace Go.Proofs.YtolbcoginmaboaaDoor
open Go.ChangeShapes Go.WideShapes Go.ChangeAt Go.RowKit
open Go.ChangeMaps (open_string)
set_option linter.unusedVariables false

theorem fnExactDeskPlan_own : ownKnob Tryd.prog.godebug = none := by kernel_rfl
theorem fnExactDeskPlan_laidOut : laidOutB Tryd.prog = true := by kernel_rfl
theorem fnExactDeskPlan_g : Tryd.prog.globalNamed "loop.example/g00574/impl.sortWords" = some 0 := by kernel_rfl
theorem fnExactDeskPlan_t : (Tryd.prog.globals[0]?).map (·.type) = some 88 := by kernel_rfl
theorem fnExactDeskPlan_c : Tryd.prog.cellsOf 9 = 1 := by kernel_rfl

/-- The door's own heap meets the condition. -/
theorem fnExactDeskPlan_met (os : Os) (args : Array Value) : laidMetH Tryd.prog Rows.fnExactDeskPlanRow.laid ((World.doorLaid Tryd.prog 400 os).forCall (fun _ _ => 0) ⟨#[], args, []⟩).memory :=
  laidMetH_of_parts3 (fuel := 8) (laidMet_of_run' 8 (by kernel_rfl) (by kernel_rfl)) (by kernel_rfl) (by kernel_rfl)

theorem fnExactDeskPlan_key {H : Type} {enc : TypeId × Value → H} {spare : Nat → Bool} {held : Bool} {W : World} {m1 : Nat} {cs0 : Array Value} (hv0 : W.var? Tryd.prog "loop.example/g00574/impl.sortWords" = some cs0) (j : Nat) (x : DataW H × List MemPlace) (l : List UInt8)
    (hj : DataW.trod enc Tryd.prog W 0 spare held m1 9 ((cs0.toList.drop (j * Tryd.prog.cellsOf 9)).take (Tryd.prog.cellsOf 9)) = some x) (hxl : x.1 = .lit (.string l)) : W.cell? ⟨0, j, none⟩ = some (.string (ba l)) := by
  rw [fnExactDeskPlan_c, Nat.mul_one] at hj
  obtain ⟨s, e1, e2, _⟩ := DataW.trod_string Tryd.underlying9 hj
  have hs : s.data.toList = l := by rw [e2] at hxl; simpa using hxl
  have hc := World.var?_cell fnExactDeskPlan_g hv0 j
  rw [hc, ← Array.getElem?_toList, m_one_of e1]
  congr 2
  apply ba_ext
  rw [hs]; simp [ba]

set_option maxRecDepth 100000 in
/-- What the condition gives the walks: the table's three cells. -/
theorem fnExactDeskPlan_words {W : World} (h : laidMetH Tryd.prog Rows.fnExactDeskPlanRow.laid W) : SortW W := by
  rw [MakeChecks.laidMetH_plain _ _ _ (by kernel_rfl)] at h
  obtain ⟨ps, ⟨g0, t0, cs0, f0, p0, q0, hg0, ht0, hv0, hd0, _, _⟩, _, _⟩ := h
  obtain rfl := Option.some.inj (fnExactDeskPlan_g.symm.trans hg0)
  obtain rfl := Option.some.inj (fnExactDeskPlan_t.symm.trans ht0)
  obtain ⟨xs, m1, rfl, hx1, hlen, hn3, hel⟩ := DataW.trod_array Tryd.underlying88 hd0
  simp only [Prod.mk.injEq, Rows.laid_loop_example_g00574_impl_sortWords, DataW.agg.injEq] at hx1
  have h0 := hel 0 (by decide)
  have h1 := hel 1 (by decide)
  have h2 := hel 2 (by decide)
  match xs, hn3, hx1, h0, h1, h2 with
  | [x0, x1, x2], _, hx1, h0, h1, h2 =>
    simp only [List.map_cons, List.map_nil, List.cons.injEq] at hx1
    exact ⟨fnExactDeskPlan_key hv0 0 x0 _ h0 hx1.1.1.symm, fnExactDeskPlan_key hv0 1 x1 _ h1 hx1.1.2.1.symm, fnExactDeskPlan_key hv0 2 x2 _ h2 hx1.1.2.2.1.symm⟩

set_option maxRecDepth 100000 in
theorem fnExactDeskPlan_lifted (os : Os) (started : os.Started) (H : Type) (enc : TypeId × Value → H) :
    ReturnsInHanded {} Tryd.checked os 7 .any (fun w args => (Rows.fnExactDeskPlanSpec.pre enc Tryd.prog Tryd.f7 [] false w args ∧ laidMetH Tryd.prog Rows.fnExactDeskPlanRow.laid w) ∧ sizedMet enc Tryd.prog Tryd.f7 (OpenSpec.ofChange Rows.fnExactDeskPlanSpec) false w args)
      (Rows.fnExactDeskPlanSpec.post enc Tryd.prog Tryd.f7 false true false false) := by
  refine returnsInHanded_of_change_and (C := Tryd.checked) (X := fun w _ => laidMetH Tryd.prog Rows.fnExactDeskPlanRow.laid w) (fun _ _ _ hh h => h.of_heap hh) fnExactDeskPlan_own started (by kernel_rfl) Tryd.func7
    (ChangeSpec.witness_shaped (enc := enc) (C := Tryd.checked) (os := os) (X := fun w _ => laidMetH Tryd.prog Rows.fnExactDeskPlanRow.laid w) false (World.doorLaid Tryd.prog 400 os) #[] 8 rfl (World.shaped_of_RefB (by kernel_rfl) (by kernel_rfl)) (by kernel_rfl) (by kernel_rfl) (by kernel_rfl) (fnExactDeskPlan_met os _)) ?_
  intro W base args ds gs before hval0 hW _ _ hL _
  have hval : ∀ (j : Nat) t v, Tryd.f7.params[j]? = some t → args[j]? = some v → Value.okWide Tryd.prog W .any base t v := hval0
  have hW' := hW
  obtain ⟨p, q, hA0, hV0, rfl, hfz, hnd⟩ := hW
  have hA : DataW.TrodAll enc Tryd.prog W 0 (fun _ => true) true Tryd.f7.params.toList args.toList ds p := hA0
  have hV : DataW.TrodVars enc Tryd.prog W (fun _ => true) ["loop.example/g00574/impl.sortWords"] gs q := hV0
  rw [Tryd.params7] at hA hval
  obtain ⟨hargs, rfl, rfl⟩ := trodAll_nil hA
  obtain rfl : args = #[] := by cases args; simp_all
  obtain ⟨gg, tt, cs, fu, dg, pg, rfl, -⟩ := trodVars_one hV
  clear hA0 hval0
  have e1 : Rows.fnExactDeskPlanSpec.fn H ([] ++ [dg]) = { results := [.lit (.bool true)], args := [], vars := [dg] } := by simp [Rows.fnExactDeskPlanSpec]
  refine (law_DeskPlan W (fnExactDeskPlan_words hL)).mono fun e W' ⟨he, bel⟩ => ?_
  subst he
  refine ⟨_, rfl, _, _, _, [], [], q, hW', ?_, ?_, ?_, bel.frame _, fun h => by cases h⟩
  · rw [e1]; exact trodAll_mk1 (shut_bool Tryd.underlying4 true)
  · rw [e1]; exact trodAll_mk0
  · rw [e1]; exact Below.trodVars fnExactDeskPlan_laidOut bel (by kernel_rfl) hV

theorem fnExactDeskPlan_over : Rows.FnExactDeskPlanSaid :=
  OpenClaim.holds_of_wide 7 Tryd.f7 rfl rfl rfl rfl rfl rfl rfl ⟨rfl, rfl, rfl, rfl, rfl⟩ rfl rfl rfl rfl rfl (by kernel_rfl) Tryd.func7 (by kernel_rfl)
    (of_decide_eq_true (by kernel_rfl)) (by unfold Func.isWrapper; first | (rw [if_pos (by decide +kernel)]; kernel_rfl) | (rw [if_neg (by decide +kernel)]; exact ⟨rfl, rfl⟩))
    (fun os started H enc _ => fnExactDeskPlan_lifted os started H enc)

theorem fnExactDeskPlan_holds : Rows.FnExactDeskPlanCardSaid :=
  Claim7.holds_tied_plain_at .later [] _ _ _ _
    fnExactDeskPlan_over (fun _ h => by cases h) (by kernel_rfl) (fun _ h => by cases h) fnExactDeskPlan_row_tie rfl ⟨rfl, rfl⟩ (by kernel_rfl) rfl
    (fun f fn hf hfn => by
      obtain rfl : f = 7 := Option.some.inj ((show Tryd.prog.funcNamed Rows.fnExactDeskPlanRow.func = some 7 by kernel_rfl).symm.trans hf) |>.symm
      obtain rfl : fn = Tryd.f7 := (Option.some.inj (Tryd.func7.symm.trans hfn)).symm
      exact ⟨by kernel_rfl, fun j t ht => by
        rw [Tryd.params7] at ht
        simp at ht⟩)
    (by kernel_rfl)
#print axioms fnExactDeskPlan_holds
end Go.Proofs.YtolbcoginmaboaaDoor
