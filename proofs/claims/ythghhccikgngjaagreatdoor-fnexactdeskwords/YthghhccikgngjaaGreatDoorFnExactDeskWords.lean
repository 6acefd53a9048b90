/- FnExactDeskWords, the tied card: the law of DeskWords returns true. Its condition: the package variables that its row lists hold what the program's text lays there at its start, which the card ties to the translation (the walk reads none of them). -/
import Derived.Test.YthghhccikgngjaaGreatDoorRows
import Derived.Test.YthghhccikgngjaaGreatDoorTie
import Derived.Test.YthghhccikgngjaaGreatDoorCards
import Derived.Test.YthghhccikgngjaaGreatDoorLawDeskWords
import Derived.WalkKit
import Derived.ProofKit
import Derived.OpenShut
import Derived.ShutString
import Derived.ChangeOld
import Derived.Below
import Derived.ChangeSame
import Derived.ChangeVars
import Derived.JoinedOf
import Derived.RowKit
import Derived.RowKitTokens
import Derived.LaidLaws
import Derived.LaidHandle
import Derived.LaidMore
import Derived.OpenVars
import Derived.Stop.Joined
import Derived.SevenTiedAt
import Derived.Test.YthghhccikgngjaaGreatDoorDwO
import Derived.Test.YthghhccikgngjaaGreatDoorDwG1
import Derived.Test.YthghhccikgngjaaGreatDoorDwG2
namespace Go.Proofs.YthghhccikgngjaaGreatDoor
open Go.ChangeShapes Go.WideShapes Go.ChangeAt Go.RowKit
open Go.ChangeMaps (open_string)
set_option linter.unusedVariables false

theorem fnExactDeskWords_holds : Rows.FnExactDeskWordsCardSaid :=
  Claim7.holds_tied_plain_at .later [] _ _ _ _
    fnExactDeskWords_over (fun _ h => by cases h) (by kernel_rfl) (fun _ h => by cases h) fnExactDeskWords_row_tie rfl ⟨rfl, rfl⟩ (by kernel_rfl) rfl
    (fun f fn hf hfn => by
      obtain rfl : f = 7 := Option.some.inj ((show Tryz.prog.funcNamed Rows.fnExactDeskWordsRow.func = some 7 by kernel_rfl).symm.trans hf) |>.symm
      obtain rfl : fn = Tryz.f7 := (Option.some.inj (Tryz.func7.symm.trans hfn)).symm
      exact ⟨dw_looks, fun j t ht => by
        rw [Tryz.params7] at ht
        simp at ht⟩)
    dw_goes
#print axioms fnExactDeskWords_holds
end Go.Proofs.YthghhccikgngjaaGreatDoor
