/-
  DERIVED. GIVEN WITH THE SEED: THE CARDS: each row of YtdiiiijkhpdcbaaGreatDoorRows.lean that lists a variable, with what it lists TIED to the program's text (the seventh form; the later family's looks); each row that meets fmt, with fmt's text TOLD by the authors' own Lean function (tested against real Go, not proved from fmt's source: count such statements apart). THE CARD IS WHAT COUNTS. Prove the row's statement (the work); the ties are given (YtdiiiijkhpdcbaaGreatDoorTie.lean); close each card by the builder's one call (the guide's Derived/Test/ToyasCard.lean, 'card_holds'). Laid BY PROGRAM, IN A SANDBOX (cutbox-door.mjs). By AI agents, Wed Nov 11 2026. No macro, syntax, notation, axiom, sorry.
-/
import Derived.Test.YtdiiiijkhpdcbaaGreatDoorRows
import GoSem.ClaimSeven
namespace Go.Proofs.YtdiiiijkhpdcbaaGreatDoor
namespace Rows

/-- THE TIED CARD OF 'laws.FnExactRunPick'. -/
def fnExactRunPickCard : Claim7 := { stood := { row := fnExactRunPickRow, standIns := [], harness := (true, "0adbdffbe72feb4c9ee28d1b8ba28e4b2c2cda28e9a1d6e3276103188dd61926"), looks := true }, kinds := [], alts := [], laidByText := true, laidKinds := [.sentinel, .sentinel, .sentinel, .sentinel], laidTests := true, laidLooks := .later }
def FnExactRunPickCardSaid : Prop := Claim7.holds Tryz.pinned (.plain (OpenSpec.ofChange fnExactRunPickSpec)) fnExactRunPickCard

/-- THE TIED CARD OF 'laws.FnExactRunCan'. -/
def fnExactRunCanCard : Claim7 := { stood := { row := fnExactRunCanRow, standIns := [], harness := (true, "0adbdffbe72feb4c9ee28d1b8ba28e4b2c2cda28e9a1d6e3276103188dd61926"), looks := true }, kinds := [], alts := [], laidByText := true, laidKinds := [.sentinel, .sentinel, .sentinel, .sentinel], laidTests := true, laidLooks := .later }
def FnExactRunCanCardSaid : Prop := Claim7.holds Tryz.pinned (.plain (OpenSpec.ofChange fnExactRunCanSpec)) fnExactRunCanCard

/-- THE TIED CARD OF 'laws.FnExactRunTape'. -/
def fnExactRunTapeCard : Claim7 := { stood := { row := fnExactRunTapeRow, standIns := [], harness := (true, "0adbdffbe72feb4c9ee28d1b8ba28e4b2c2cda28e9a1d6e3276103188dd61926"), looks := true }, kinds := [], alts := [], laidByText := true, laidKinds := [.sentinel, .sentinel, .sentinel, .sentinel], laidTests := true, laidLooks := .later }
def FnExactRunTapeCardSaid : Prop := Claim7.holds Tryz.pinned (.plain (OpenSpec.ofChange fnExactRunTapeSpec)) fnExactRunTapeCard

/-- THE TIED CARD OF 'laws.FnExactPlayTape'. -/
def fnExactPlayTapeCard : Claim7 := { stood := { row := fnExactPlayTapeRow, standIns := [], harness := (true, "0adbdffbe72feb4c9ee28d1b8ba28e4b2c2cda28e9a1d6e3276103188dd61926"), looks := true }, kinds := [], alts := [], laidByText := true, laidKinds := [.sentinel, .sentinel, .sentinel, .sentinel], laidTests := true, laidLooks := .later }
def FnExactPlayTapeCardSaid : Prop := Claim7.holds Tryz.pinned (.plain (OpenSpec.ofChange fnExactPlayTapeSpec)) fnExactPlayTapeCard

/-- THE TIED CARD OF 'laws.FnExactFails'. -/
def fnExactFailsCard : Claim7 := { stood := { row := fnExactFailsRow, standIns := [], harness := (true, "0adbdffbe72feb4c9ee28d1b8ba28e4b2c2cda28e9a1d6e3276103188dd61926"), looks := true }, kinds := [], alts := [], laidByText := true, laidKinds := [.sentinel, .sentinel, .sentinel, .sentinel], laidTests := true, laidLooks := .later }
def FnExactFailsCardSaid : Prop := Claim7.holds Tryz.pinned (.plain (OpenSpec.ofChange fnExactFailsSpec)) fnExactFailsCard

/-- THE TIED CARD OF 'laws.FnExactShrink'. -/
def fnExactShrinkCard : Claim7 := { stood := { row := fnExactShrinkRow, standIns := [], harness := (true, "0adbdffbe72feb4c9ee28d1b8ba28e4b2c2cda28e9a1d6e3276103188dd61926"), looks := true }, kinds := [], alts := [], laidByText := true, laidKinds := [.sentinel, .sentinel, .sentinel, .sentinel], laidTests := true, laidLooks := .later }
def FnExactShrinkCardSaid : Prop := Claim7.holds Tryz.pinned (.plain (OpenSpec.ofChange fnExactShrinkSpec)) fnExactShrinkCard

/-- THE TIED CARD OF 'laws.FnExactLeast'. -/
def fnExactLeastCard : Claim7 := { stood := { row := fnExactLeastRow, standIns := [], harness := (true, "0adbdffbe72feb4c9ee28d1b8ba28e4b2c2cda28e9a1d6e3276103188dd61926"), looks := true }, kinds := [], alts := [], laidByText := true, laidKinds := [.sentinel, .sentinel, .sentinel, .sentinel], laidTests := true, laidLooks := .later }
def FnExactLeastCardSaid : Prop := Claim7.holds Tryz.pinned (.plain (OpenSpec.ofChange fnExactLeastSpec)) fnExactLeastCard

/-- THE SECOND FORM's CARD OF 'laws.FnExactRunPick'. -/
def fnExactRunPickUptoCard : Claim7 := { stood := { row := fnExactRunPickUptoRow, standIns := [], harness := (true, "0adbdffbe72feb4c9ee28d1b8ba28e4b2c2cda28e9a1d6e3276103188dd61926"), looks := true }, kinds := [], alts := [], laidByText := true, laidKinds := [.sentinel, .sentinel, .sentinel, .sentinel], laidTests := true, laidLooks := .later }
def FnExactRunPickUptoCardSaid : Prop := Claim7.holds Tryz.pinned (.plain (OpenSpec.upto fnExactRunPickSpec)) fnExactRunPickUptoCard

/-- THE SECOND FORM's CARD OF 'laws.FnExactRunCan'. -/
def fnExactRunCanUptoCard : Claim7 := { stood := { row := fnExactRunCanUptoRow, standIns := [], harness := (true, "0adbdffbe72feb4c9ee28d1b8ba28e4b2c2cda28e9a1d6e3276103188dd61926"), looks := true }, kinds := [], alts := [], laidByText := true, laidKinds := [.sentinel, .sentinel, .sentinel, .sentinel], laidTests := true, laidLooks := .later }
def FnExactRunCanUptoCardSaid : Prop := Claim7.holds Tryz.pinned (.plain (OpenSpec.upto fnExactRunCanSpec)) fnExactRunCanUptoCard

/-- THE SECOND FORM's CARD OF 'laws.FnExactRunTape'. -/
def fnExactRunTapeUptoCard : Claim7 := { stood := { row := fnExactRunTapeUptoRow, standIns := [], harness := (true, "0adbdffbe72feb4c9ee28d1b8ba28e4b2c2cda28e9a1d6e3276103188dd61926"), looks := true }, kinds := [], alts := [], laidByText := true, laidKinds := [.sentinel, .sentinel, .sentinel, .sentinel], laidTests := true, laidLooks := .later }
def FnExactRunTapeUptoCardSaid : Prop := Claim7.holds Tryz.pinned (.plain (OpenSpec.upto fnExactRunTapeSpec)) fnExactRunTapeUptoCard

/-- THE SECOND FORM's CARD OF 'laws.FnExactPlayTape'. -/
def fnExactPlayTapeUptoCard : Claim7 := { stood := { row := fnExactPlayTapeUptoRow, standIns := [], harness := (true, "0adbdffbe72feb4c9ee28d1b8ba28e4b2c2cda28e9a1d6e3276103188dd61926"), looks := true }, kinds := [], alts := [], laidByText := true, laidKinds := [.sentinel, .sentinel, .sentinel, .sentinel], laidTests := true, laidLooks := .later }
def FnExactPlayTapeUptoCardSaid : Prop := Claim7.holds Tryz.pinned (.plain (OpenSpec.upto fnExactPlayTapeSpec)) fnExactPlayTapeUptoCard

/-- THE SECOND FORM's CARD OF 'laws.FnExactFails'. -/
def fnExactFailsUptoCard : Claim7 := { stood := { row := fnExactFailsUptoRow, standIns := [], harness := (true, "0adbdffbe72feb4c9ee28d1b8ba28e4b2c2cda28e9a1d6e3276103188dd61926"), looks := true }, kinds := [], alts := [], laidByText := true, laidKinds := [.sentinel, .sentinel, .sentinel, .sentinel], laidTests := true, laidLooks := .later }
def FnExactFailsUptoCardSaid : Prop := Claim7.holds Tryz.pinned (.plain (OpenSpec.upto fnExactFailsSpec)) fnExactFailsUptoCard

/-- THE SECOND FORM's CARD OF 'laws.FnExactShrink'. -/
def fnExactShrinkUptoCard : Claim7 := { stood := { row := fnExactShrinkUptoRow, standIns := [], harness := (true, "0adbdffbe72feb4c9ee28d1b8ba28e4b2c2cda28e9a1d6e3276103188dd61926"), looks := true }, kinds := [], alts := [], laidByText := true, laidKinds := [.sentinel, .sentinel, .sentinel, .sentinel], laidTests := true, laidLooks := .later }
def FnExactShrinkUptoCardSaid : Prop := Claim7.holds Tryz.pinned (.plain (OpenSpec.upto fnExactShrinkSpec)) fnExactShrinkUptoCard

/-- THE SECOND FORM's CARD OF 'laws.FnExactLeast'. -/
def fnExactLeastUptoCard : Claim7 := { stood := { row := fnExactLeastUptoRow, standIns := [], harness := (true, "0adbdffbe72feb4c9ee28d1b8ba28e4b2c2cda28e9a1d6e3276103188dd61926"), looks := true }, kinds := [], alts := [], laidByText := true, laidKinds := [.sentinel, .sentinel, .sentinel, .sentinel], laidTests := true, laidLooks := .later }
def FnExactLeastUptoCardSaid : Prop := Claim7.holds Tryz.pinned (.plain (OpenSpec.upto fnExactLeastSpec)) fnExactLeastUptoCard
end Rows
end Go.Proofs.YtdiiiijkhpdcbaaGreatDoor
