/-
  DERIVED. GIVEN WITH THE SEED: THE CARDS: each row of YtmjlblbhakppfaaGreatDoorRows.lean that lists a variable, with what it lists TIED to the program's text (the seventh form; the later family's looks); each row that meets fmt, with fmt's text TOLD by the authors' own Lean function (tested against real Go, not proved from fmt's source: count such statements apart). THE CARD IS WHAT COUNTS. Prove the row's statement (the work); the ties are given (YtmjlblbhakppfaaGreatDoorTie.lean); close each card by the builder's one call (the guide's Derived/Test/ToyasCard.lean, 'card_holds'). Laid BY PROGRAM, IN A SANDBOX (cutbox-door.mjs). By AI agents, Wed Nov 11 2026. No macro, syntax, notation, axiom, sorry.
-/
import Derived.Test.YtmjlblbhakppfaaGreatDoorRows
import GoSem.ClaimSeven
namespace Go.Proofs.YtmjlblbhakppfaaGreatDoor
namespace Rows

/-- THE TIED CARD OF 'laws.FnPlan'. -/
def fnPlanCard : Claim7 := { stood := { row := fnPlanRow, standIns := [], harness := (true, "81f57099bde6512a3516f0a045c5b72ea1be4b9d48814297ce998a79db92e01e"), looks := true }, kinds := [], alts := [], laidByText := true, laidKinds := [.data], laidTests := true, laidLooks := .later }
def FnPlanCardSaid : Prop := Claim7.holds Tryz.pinned (.plain (OpenSpec.ofChange fnPlanSpec)) fnPlanCard

/-- THE TIED CARD OF 'laws.FnPart'. -/
def fnPartCard : Claim7 := { stood := { row := fnPartRow, standIns := [], harness := (true, "81f57099bde6512a3516f0a045c5b72ea1be4b9d48814297ce998a79db92e01e"), looks := true }, kinds := [], alts := [], laidByText := true, laidKinds := [.data], laidTests := true, laidLooks := .later }
def FnPartCardSaid : Prop := Claim7.holds Tryz.pinned (.plain (OpenSpec.ofChange fnPartSpec)) fnPartCard

/-- THE SECOND FORM's CARD OF 'laws.FnPlan'. -/
def fnPlanUptoCard : Claim7 := { stood := { row := fnPlanUptoRow, standIns := [], harness := (true, "81f57099bde6512a3516f0a045c5b72ea1be4b9d48814297ce998a79db92e01e"), looks := true }, kinds := [], alts := [], laidByText := true, laidKinds := [.data], laidTests := true, laidLooks := .later }
def FnPlanUptoCardSaid : Prop := Claim7.holds Tryz.pinned (.plain (OpenSpec.upto fnPlanSpec)) fnPlanUptoCard

/-- THE SECOND FORM's CARD OF 'laws.FnPart'. -/
def fnPartUptoCard : Claim7 := { stood := { row := fnPartUptoRow, standIns := [], harness := (true, "81f57099bde6512a3516f0a045c5b72ea1be4b9d48814297ce998a79db92e01e"), looks := true }, kinds := [], alts := [], laidByText := true, laidKinds := [.data], laidTests := true, laidLooks := .later }
def FnPartUptoCardSaid : Prop := Claim7.holds Tryz.pinned (.plain (OpenSpec.upto fnPartSpec)) fnPartUptoCard
end Rows
end Go.Proofs.YtmjlblbhakppfaaGreatDoor
