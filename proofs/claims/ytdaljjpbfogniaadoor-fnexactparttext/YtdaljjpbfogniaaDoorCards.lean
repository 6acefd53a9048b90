/-
  DERIVED. GIVEN WITH THE SEED: THE CARDS: each row of YtdaljjpbfogniaaDoorRows.lean that lists a variable, with what it lists TIED to the program's text (the seventh form; the later family's looks); each row that meets fmt, with fmt's text TOLD by the authors' own Lean function (tested against real Go, not proved from fmt's source: count such statements apart). THE CARD IS WHAT COUNTS. Prove the row's statement (the work); the ties are given (YtdaljjpbfogniaaDoorTie.lean); close each card by the builder's one call (the guide's Derived/Test/ToyasCard.lean, 'card_holds'). Laid BY PROGRAM, IN A SANDBOX (cutbox-door.mjs). By AI agents, Wed Nov 11 2026. No macro, syntax, notation, axiom, sorry.
-/
import Derived.Test.YtdaljjpbfogniaaDoorRows
import GoSem.ClaimSeven
namespace Go.Proofs.YtdaljjpbfogniaaDoor
namespace Rows

/-- THE TIED CARD OF 'laws.FnExactPlanText'. -/
def fnExactPlanTextCard : Claim7 := { stood := { row := fnExactPlanTextRow, standIns := [], harness := (true, "cff6b974d6b4a5f367adbc355c4bb7b57b08ecb2cf3c84eaa8617f3cc78eef99"), looks := false }, kinds := [], alts := [], laidByText := true, laidKinds := [.data], laidTests := true, laidLooks := .later }
def FnExactPlanTextCardSaid : Prop := Claim7.holds Tryd.pinned (.plain (OpenSpec.ofChange fnExactPlanTextSpec)) fnExactPlanTextCard

/-- THE TIED CARD OF 'laws.FnExactPlanRead'. -/
def fnExactPlanReadCard : Claim7 := { stood := { row := fnExactPlanReadRow, standIns := [], harness := (true, "cff6b974d6b4a5f367adbc355c4bb7b57b08ecb2cf3c84eaa8617f3cc78eef99"), looks := false }, kinds := [], alts := [], laidByText := true, laidKinds := [.data], laidTests := true, laidLooks := .later }
def FnExactPlanReadCardSaid : Prop := Claim7.holds Tryd.pinned (.plain (OpenSpec.ofChange fnExactPlanReadSpec)) fnExactPlanReadCard

/-- THE TIED CARD OF 'laws.FnExactPartText'. -/
def fnExactPartTextCard : Claim7 := { stood := { row := fnExactPartTextRow, standIns := [], harness := (true, "cff6b974d6b4a5f367adbc355c4bb7b57b08ecb2cf3c84eaa8617f3cc78eef99"), looks := false }, kinds := [], alts := [], laidByText := true, laidKinds := [.data], laidTests := true, laidLooks := .later }
def FnExactPartTextCardSaid : Prop := Claim7.holds Tryd.pinned (.plain (OpenSpec.ofChange fnExactPartTextSpec)) fnExactPartTextCard

/-- THE TIED CARD OF 'laws.FnExactPartRead'. -/
def fnExactPartReadCard : Claim7 := { stood := { row := fnExactPartReadRow, standIns := [], harness := (true, "cff6b974d6b4a5f367adbc355c4bb7b57b08ecb2cf3c84eaa8617f3cc78eef99"), looks := false }, kinds := [], alts := [], laidByText := true, laidKinds := [.data], laidTests := true, laidLooks := .later }
def FnExactPartReadCardSaid : Prop := Claim7.holds Tryd.pinned (.plain (OpenSpec.ofChange fnExactPartReadSpec)) fnExactPartReadCard

/-- THE SECOND FORM's CARD OF 'laws.FnExactPlanText'. -/
def fnExactPlanTextUptoCard : Claim7 := { stood := { row := fnExactPlanTextUptoRow, standIns := [], harness := (true, "cff6b974d6b4a5f367adbc355c4bb7b57b08ecb2cf3c84eaa8617f3cc78eef99"), looks := false }, kinds := [], alts := [], laidByText := true, laidKinds := [.data], laidTests := true, laidLooks := .later }
def FnExactPlanTextUptoCardSaid : Prop := Claim7.holds Tryd.pinned (.plain (OpenSpec.upto fnExactPlanTextSpec)) fnExactPlanTextUptoCard

/-- THE SECOND FORM's CARD OF 'laws.FnExactPlanRead'. -/
def fnExactPlanReadUptoCard : Claim7 := { stood := { row := fnExactPlanReadUptoRow, standIns := [], harness := (true, "cff6b974d6b4a5f367adbc355c4bb7b57b08ecb2cf3c84eaa8617f3cc78eef99"), looks := false }, kinds := [], alts := [], laidByText := true, laidKinds := [.data], laidTests := true, laidLooks := .later }
def FnExactPlanReadUptoCardSaid : Prop := Claim7.holds Tryd.pinned (.plain (OpenSpec.upto fnExactPlanReadSpec)) fnExactPlanReadUptoCard

/-- THE SECOND FORM's CARD OF 'laws.FnExactPartText'. -/
def fnExactPartTextUptoCard : Claim7 := { stood := { row := fnExactPartTextUptoRow, standIns := [], harness := (true, "cff6b974d6b4a5f367adbc355c4bb7b57b08ecb2cf3c84eaa8617f3cc78eef99"), looks := false }, kinds := [], alts := [], laidByText := true, laidKinds := [.data], laidTests := true, laidLooks := .later }
def FnExactPartTextUptoCardSaid : Prop := Claim7.holds Tryd.pinned (.plain (OpenSpec.upto fnExactPartTextSpec)) fnExactPartTextUptoCard

/-- THE SECOND FORM's CARD OF 'laws.FnExactPartRead'. -/
def fnExactPartReadUptoCard : Claim7 := { stood := { row := fnExactPartReadUptoRow, standIns := [], harness := (true, "cff6b974d6b4a5f367adbc355c4bb7b57b08ecb2cf3c84eaa8617f3cc78eef99"), looks := false }, kinds := [], alts := [], laidByText := true, laidKinds := [.data], laidTests := true, laidLooks := .later }
def FnExactPartReadUptoCardSaid : Prop := Claim7.holds Tryd.pinned (.plain (OpenSpec.upto fnExactPartReadSpec)) fnExactPartReadUptoCard
end Rows
end Go.Proofs.YtdaljjpbfogniaaDoor
