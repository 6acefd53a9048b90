/- FnPart, the tied card: at every two lists of bytes that are handed in, of whatever length and spare room, the law returns true, and both read afterwards as before. Its condition: the variable impl.sortWords holds what the program's text lays there at its start, which the card ties to the translation; that nothing else writes it is the translator's report. -/
import Derived.Test.YtmjlblbhakppfaaGreatDoorRows
import Derived.Test.YtmjlblbhakppfaaGreatDoorTie
import Derived.Test.YtmjlblbhakppfaaGreatDoorCards
import Derived.Test.YtmjlblbhakppfaaGreatDoorLawPartM
import Derived.WalkKit
import Derived.ProofKit
import Derived.OpenShut
import Derived.ShutString
import Derived.ChangeOld
import Derived.Below
import Derived.ChangeSame
import Derived.ChangeVars
import Derived.JoinedOf
import Derived.RowKit
import Derived.RowKitTokens
import Derived.LaidLaws
import Derived.LaidHandle
import Derived.LaidMore
import Derived.OpenVars
import Derived.Stop.Joined
import Derived.SevenTiedAt
import Derived.Test.YtmjlblbhakppfaaGreatDoorOwPartOM
import Derived.Test.YtmjlblbhakppfaaGreatDoorOwPartG1M
import Derived.Test.YtmjlblbhakppfaaGreatDoorOwPartG2M
namespace Go.Proofs.YtmjlblbhakppfaaGreatDoor
open Go.ChangeShapes Go.WideShapes Go.ChangeAt Go.RowKit
open Go.ChangeMaps (open_string shut_string)
set_option linter.unusedVariables false

theorem fnPart_holds : Rows.FnPartCardSaid :=
  Claim7.holds_tied_plain_at .later [] _ _ _ _
    fnPart_over (fun _ h => by cases h) (by kernel_rfl) (fun _ h => by cases h) fnPart_row_tie rfl ⟨rfl, rfl⟩ (by kernel_rfl) rfl
    (fun f fn hf hfn => by
      obtain rfl : f = 4 := Option.some.inj ((show Tryz.prog.funcNamed Rows.fnPartRow.func = some 4 by kernel_rfl).symm.trans hf) |>.symm
      obtain rfl : fn = Tryz.f4 := (Option.some.inj (Tryz.func4.symm.trans hfn)).symm
      exact ⟨fnPart_looks, fun j t ht => by
        rw [Tryz.params4] at ht
        rcases j with _ | _ | j
        · obtain rfl : t = 22 := by simpa using ht.symm
          exact (show Tryz.prog.wantsStandIn 22 = false by kernel_rfl)
        · obtain rfl : t = 22 := by simpa using ht.symm
          exact (show Tryz.prog.wantsStandIn 22 = false by kernel_rfl)
        · simp at ht⟩)
    fnPart_goes
#print axioms fnPart_holds
end Go.Proofs.YtmjlblbhakppfaaGreatDoor
