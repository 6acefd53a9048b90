/-
  DERIVED. GIVEN WITH THE SEED: THE CARDS: each row of YtonafcifolddjaaDoorRows.lean that lists a variable, with what it lists TIED to the program's text (the seventh form; the later family's looks); each row that meets fmt, with fmt's text TOLD by the authors' own Lean function (tested against real Go, not proved from fmt's source: count such statements apart). THE CARD IS WHAT COUNTS. Prove the row's statement (the work); the ties are given (YtonafcifolddjaaDoorTie.lean); close each card by the builder's one call (the guide's Derived/Test/ToyasCard.lean, 'card_holds'). Laid BY PROGRAM, IN A SANDBOX (cutbox-door.mjs). By AI agents, Wed Nov 11 2026. No macro, syntax, notation, axiom, sorry.
-/
import Derived.Test.YtonafcifolddjaaDoorRows
import GoSem.ClaimSeven
namespace Go.Proofs.YtonafcifolddjaaDoor
namespace Rows

/-- THE TIED CARD OF 'laws.FnExactNetPut'. -/
def fnExactNetPutCard : Claim7 := { stood := { row := fnExactNetPutRow, standIns := [], harness := (true, "0d4ba664acf6b0ae89200cf965ec236f34772544cf0f6e21675d754719b9fa79"), looks := true }, kinds := [], alts := [], laidByText := true, laidKinds := [.sentinel, .sentinel, .sentinel, .sentinel], laidTests := true, laidLooks := .later }
def FnExactNetPutCardSaid : Prop := Claim7.holds Tryd.pinned (.plain (OpenSpec.ofChange fnExactNetPutSpec)) fnExactNetPutCard

/-- THE TIED CARD OF 'laws.FnExactNetSee'. -/
def fnExactNetSeeCard : Claim7 := { stood := { row := fnExactNetSeeRow, standIns := [], harness := (true, "0d4ba664acf6b0ae89200cf965ec236f34772544cf0f6e21675d754719b9fa79"), looks := true }, kinds := [], alts := [], laidByText := true, laidKinds := [.sentinel, .sentinel, .sentinel, .sentinel], laidTests := true, laidLooks := .later }
def FnExactNetSeeCardSaid : Prop := Claim7.holds Tryd.pinned (.plain (OpenSpec.ofChange fnExactNetSeeSpec)) fnExactNetSeeCard

/-- THE TIED CARD OF 'laws.FnExactNetTake'. -/
def fnExactNetTakeCard : Claim7 := { stood := { row := fnExactNetTakeRow, standIns := [], harness := (true, "0d4ba664acf6b0ae89200cf965ec236f34772544cf0f6e21675d754719b9fa79"), looks := true }, kinds := [], alts := [], laidByText := true, laidKinds := [.sentinel, .sentinel, .sentinel, .sentinel], laidTests := true, laidLooks := .later }
def FnExactNetTakeCardSaid : Prop := Claim7.holds Tryd.pinned (.plain (OpenSpec.ofChange fnExactNetTakeSpec)) fnExactNetTakeCard

/-- THE TIED CARD OF 'laws.FnExactNetFault'. -/
def fnExactNetFaultCard : Claim7 := { stood := { row := fnExactNetFaultRow, standIns := [], harness := (true, "0d4ba664acf6b0ae89200cf965ec236f34772544cf0f6e21675d754719b9fa79"), looks := true }, kinds := [], alts := [], laidByText := true, laidKinds := [.sentinel, .sentinel, .sentinel, .sentinel], laidTests := true, laidLooks := .later }
def FnExactNetFaultCardSaid : Prop := Claim7.holds Tryd.pinned (.plain (OpenSpec.ofChange fnExactNetFaultSpec)) fnExactNetFaultCard

/-- THE SECOND FORM's CARD OF 'laws.FnExactNetPut'. -/
def fnExactNetPutUptoCard : Claim7 := { stood := { row := fnExactNetPutUptoRow, standIns := [], harness := (true, "0d4ba664acf6b0ae89200cf965ec236f34772544cf0f6e21675d754719b9fa79"), looks := true }, kinds := [], alts := [], laidByText := true, laidKinds := [.sentinel, .sentinel, .sentinel, .sentinel], laidTests := true, laidLooks := .later }
def FnExactNetPutUptoCardSaid : Prop := Claim7.holds Tryd.pinned (.plain (OpenSpec.upto fnExactNetPutSpec)) fnExactNetPutUptoCard

/-- THE SECOND FORM's CARD OF 'laws.FnExactNetSee'. -/
def fnExactNetSeeUptoCard : Claim7 := { stood := { row := fnExactNetSeeUptoRow, standIns := [], harness := (true, "0d4ba664acf6b0ae89200cf965ec236f34772544cf0f6e21675d754719b9fa79"), looks := true }, kinds := [], alts := [], laidByText := true, laidKinds := [.sentinel, .sentinel, .sentinel, .sentinel], laidTests := true, laidLooks := .later }
def FnExactNetSeeUptoCardSaid : Prop := Claim7.holds Tryd.pinned (.plain (OpenSpec.upto fnExactNetSeeSpec)) fnExactNetSeeUptoCard

/-- THE SECOND FORM's CARD OF 'laws.FnExactNetTake'. -/
def fnExactNetTakeUptoCard : Claim7 := { stood := { row := fnExactNetTakeUptoRow, standIns := [], harness := (true, "0d4ba664acf6b0ae89200cf965ec236f34772544cf0f6e21675d754719b9fa79"), looks := true }, kinds := [], alts := [], laidByText := true, laidKinds := [.sentinel, .sentinel, .sentinel, .sentinel], laidTests := true, laidLooks := .later }
def FnExactNetTakeUptoCardSaid : Prop := Claim7.holds Tryd.pinned (.plain (OpenSpec.upto fnExactNetTakeSpec)) fnExactNetTakeUptoCard

/-- THE SECOND FORM's CARD OF 'laws.FnExactNetFault'. -/
def fnExactNetFaultUptoCard : Claim7 := { stood := { row := fnExactNetFaultUptoRow, standIns := [], harness := (true, "0d4ba664acf6b0ae89200cf965ec236f34772544cf0f6e21675d754719b9fa79"), looks := true }, kinds := [], alts := [], laidByText := true, laidKinds := [.sentinel, .sentinel, .sentinel, .sentinel], laidTests := true, laidLooks := .later }
def FnExactNetFaultUptoCardSaid : Prop := Claim7.holds Tryd.pinned (.plain (OpenSpec.upto fnExactNetFaultSpec)) fnExactNetFaultUptoCard
end Rows
end Go.Proofs.YtonafcifolddjaaDoor
