/-
  DERIVED. GIVEN WITH THE SEED: THE CARDS: each row of YtolbcoginmaboaaDoorRows.lean that lists a variable, with what it lists TIED to the program's text (the seventh form; the later family's looks); each row that meets fmt, with fmt's text TOLD by the authors' own Lean function (tested against real Go, not proved from fmt's source: count such statements apart). THE CARD IS WHAT COUNTS. Prove the row's statement (the work); the ties are given (YtolbcoginmaboaaDoorTie.lean); close each card by the builder's one call (the guide's Derived/Test/ToyasCard.lean, 'card_holds'). Laid BY PROGRAM, IN A SANDBOX (cutbox-door.mjs). By AI agents, Wed Nov 11 2026. No macro, syntax, notation, axiom, sorry.
-/
import Derived.Test.YtolbcoginmaboaaDoorRows
import GoSem.ClaimSeven
namespace Go.Proofs.YtolbcoginmaboaaDoor
namespace Rows

/-- THE TIED CARD OF 'laws.FnExactPlanText'. -/
def fnExactPlanTextCard : Claim7 := { stood := { row := fnExactPlanTextRow, standIns := [], harness := (true, "ff8c258e92cbca8c8c515fd50c9b9f8c2afe308aa144a0bd2ffc78ec0f19e471"), looks := false }, kinds := [], alts := [], laidByText := true, laidKinds := [.data], laidTests := true, laidLooks := .later }
def FnExactPlanTextCardSaid : Prop := Claim7.holds Tryd.pinned (.plain (OpenSpec.ofChange fnExactPlanTextSpec)) fnExactPlanTextCard

/-- THE TIED CARD OF 'laws.FnExactPlanRead'. -/
def fnExactPlanReadCard : Claim7 := { stood := { row := fnExactPlanReadRow, standIns := [], harness := (true, "ff8c258e92cbca8c8c515fd50c9b9f8c2afe308aa144a0bd2ffc78ec0f19e471"), looks := false }, kinds := [], alts := [], laidByText := true, laidKinds := [.data], laidTests := true, laidLooks := .later }
def FnExactPlanReadCardSaid : Prop := Claim7.holds Tryd.pinned (.plain (OpenSpec.ofChange fnExactPlanReadSpec)) fnExactPlanReadCard

/-- THE TIED CARD OF 'laws.FnExactPartText'. -/
def fnExactPartTextCard : Claim7 := { stood := { row := fnExactPartTextRow, standIns := [], harness := (true, "ff8c258e92cbca8c8c515fd50c9b9f8c2afe308aa144a0bd2ffc78ec0f19e471"), looks := false }, kinds := [], alts := [], laidByText := true, laidKinds := [.data], laidTests := true, laidLooks := .later }
def FnExactPartTextCardSaid : Prop := Claim7.holds Tryd.pinned (.plain (OpenSpec.ofChange fnExactPartTextSpec)) fnExactPartTextCard

/-- THE TIED CARD OF 'laws.FnExactPartRead'. -/
def fnExactPartReadCard : Claim7 := { stood := { row := fnExactPartReadRow, standIns := [], harness := (true, "ff8c258e92cbca8c8c515fd50c9b9f8c2afe308aa144a0bd2ffc78ec0f19e471"), looks := false }, kinds := [], alts := [], laidByText := true, laidKinds := [.data], laidTests := true, laidLooks := .later }
def FnExactPartReadCardSaid : Prop := Claim7.holds Tryd.pinned (.plain (OpenSpec.ofChange fnExactPartReadSpec)) fnExactPartReadCard

/-- THE TIED CARD OF 'laws.FnExactDeskPlan'. -/
def fnExactDeskPlanCard : Claim7 := { stood := { row := fnExactDeskPlanRow, standIns := [], harness := (true, "ff8c258e92cbca8c8c515fd50c9b9f8c2afe308aa144a0bd2ffc78ec0f19e471"), looks := false }, kinds := [], alts := [], laidByText := true, laidKinds := [.data], laidTests := true, laidLooks := .later }
def FnExactDeskPlanCardSaid : Prop := Claim7.holds Tryd.pinned (.plain (OpenSpec.ofChange fnExactDeskPlanSpec)) fnExactDeskPlanCard

/-- THE SECOND FORM's CARD OF 'laws.FnExactPlanText'. -/
def fnExactPlanTextUptoCard : Claim7 := { stood := { row := fnExactPlanTextUptoRow, standIns := [], harness := (true, "ff8c258e92cbca8c8c515fd50c9b9f8c2afe308aa144a0bd2ffc78ec0f19e471"), looks := false }, kinds := [], alts := [], laidByText := true, laidKinds := [.data], laidTests := true, laidLooks := .later }
def FnExactPlanTextUptoCardSaid : Prop := Claim7.holds Tryd.pinned (.plain (OpenSpec.upto fnExactPlanTextSpec)) fnExactPlanTextUptoCard

/-- THE SECOND FORM's CARD OF 'laws.FnExactPlanRead'. -/
def fnExactPlanReadUptoCard : Claim7 := { stood := { row := fnExactPlanReadUptoRow, standIns := [], harness := (true, "ff8c258e92cbca8c8c515fd50c9b9f8c2afe308aa144a0bd2ffc78ec0f19e471"), looks := false }, kinds := [], alts := [], laidByText := true, laidKinds := [.data], laidTests := true, laidLooks := .later }
def FnExactPlanReadUptoCardSaid : Prop := Claim7.holds Tryd.pinned (.plain (OpenSpec.upto fnExactPlanReadSpec)) fnExactPlanReadUptoCard

/-- THE SECOND FORM's CARD OF 'laws.FnExactPartText'. -/
def fnExactPartTextUptoCard : Claim7 := { stood := { row := fnExactPartTextUptoRow, standIns := [], harness := (true, "ff8c258e92cbca8c8c515fd50c9b9f8c2afe308aa144a0bd2ffc78ec0f19e471"), looks := false }, kinds := [], alts := [], laidByText := true, laidKinds := [.data], laidTests := true, laidLooks := .later }
def FnExactPartTextUptoCardSaid : Prop := Claim7.holds Tryd.pinned (.plain (OpenSpec.upto fnExactPartTextSpec)) fnExactPartTextUptoCard

/-- THE SECOND FORM's CARD OF 'laws.FnExactPartRead'. -/
def fnExactPartReadUptoCard : Claim7 := { stood := { row := fnExactPartReadUptoRow, standIns := [], harness := (true, "ff8c258e92cbca8c8c515fd50c9b9f8c2afe308aa144a0bd2ffc78ec0f19e471"), looks := false }, kinds := [], alts := [], laidByText := true, laidKinds := [.data], laidTests := true, laidLooks := .later }
def FnExactPartReadUptoCardSaid : Prop := Claim7.holds Tryd.pinned (.plain (OpenSpec.upto fnExactPartReadSpec)) fnExactPartReadUptoCard

/-- THE SECOND FORM's CARD OF 'laws.FnExactDeskPlan'. -/
def fnExactDeskPlanUptoCard : Claim7 := { stood := { row := fnExactDeskPlanUptoRow, standIns := [], harness := (true, "ff8c258e92cbca8c8c515fd50c9b9f8c2afe308aa144a0bd2ffc78ec0f19e471"), looks := false }, kinds := [], alts := [], laidByText := true, laidKinds := [.data], laidTests := true, laidLooks := .later }
def FnExactDeskPlanUptoCardSaid : Prop := Claim7.holds Tryd.pinned (.plain (OpenSpec.upto fnExactDeskPlanSpec)) fnExactDeskPlanUptoCard
end Rows
end Go.Proofs.YtolbcoginmaboaaDoor
