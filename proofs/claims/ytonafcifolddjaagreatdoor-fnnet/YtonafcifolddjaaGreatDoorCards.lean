/-
  DERIVED. GIVEN WITH THE SEED: THE CARDS: each row of YtonafcifolddjaaGreatDoorRows.lean that lists a variable, with what it lists TIED to the program's text (the seventh form; the later family's looks); each row that meets fmt, with fmt's text TOLD by the authors' own Lean function (tested against real Go, not proved from fmt's source: count such statements apart). THE CARD IS WHAT COUNTS. Prove the row's statement (the work); the ties are given (YtonafcifolddjaaGreatDoorTie.lean); close each card by the builder's one call (the guide's Derived/Test/ToyasCard.lean, 'card_holds'). Laid BY PROGRAM, IN A SANDBOX (cutbox-door.mjs). By AI agents, Wed Nov 11 2026. No macro, syntax, notation, axiom, sorry.
-/
import Derived.Test.YtonafcifolddjaaGreatDoorRows
import GoSem.ClaimSeven
namespace Go.Proofs.YtonafcifolddjaaGreatDoor
namespace Rows

/-- THE TIED CARD OF 'laws.FnNet'. -/
def fnNetCard : Claim7 := { stood := { row := fnNetRow, standIns := [], harness := (true, "e05a71c816aaad0a418ccc32ae691a4a9f3e407767f5b4f87eb27daadb4eb235"), looks := true }, kinds := [], alts := [], laidByText := true, laidKinds := [.sentinel, .sentinel, .sentinel, .sentinel], laidTests := true, laidLooks := .later }
def FnNetCardSaid : Prop := Claim7.holds Tryz.pinned (.plain (OpenSpec.ofChange fnNetSpec)) fnNetCard

/-- THE SECOND FORM's CARD OF 'laws.FnNet'. -/
def fnNetUptoCard : Claim7 := { stood := { row := fnNetUptoRow, standIns := [], harness := (true, "e05a71c816aaad0a418ccc32ae691a4a9f3e407767f5b4f87eb27daadb4eb235"), looks := true }, kinds := [], alts := [], laidByText := true, laidKinds := [.sentinel, .sentinel, .sentinel, .sentinel], laidTests := true, laidLooks := .later }
def FnNetUptoCardSaid : Prop := Claim7.holds Tryz.pinned (.plain (OpenSpec.upto fnNetSpec)) fnNetUptoCard
end Rows
end Go.Proofs.YtonafcifolddjaaGreatDoor
