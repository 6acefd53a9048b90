/- FnNet, the tied card: at every two lists of bytes that are handed in, of whatever length and spare room, the law returns true, and both read afterwards as before. Its condition: the four errors of impl hold what the program's text lays there at its start, which the card ties to the translation; that nothing else writes them is the translator's report. -/
import Derived.Test.YtonafcifolddjaaGreatDoorRows
import Derived.Test.YtonafcifolddjaaGreatDoorTie
import Derived.Test.YtonafcifolddjaaGreatDoorCards
import Derived.Test.YtonafcifolddjaaGreatDoorLawNetM
import Derived.WalkKit
import Derived.ProofKit
import Derived.OpenShut
import Derived.ShutString
import Derived.ChangeOld
import Derived.Below
import Derived.ChangeSame
import Derived.ChangeVars
import Derived.JoinedOf
import Derived.RowKit
import Derived.RowKitTokens
import Derived.LaidLaws
import Derived.LaidHandle
import Derived.LaidMore
import Derived.OpenVars
import Derived.Stop.Joined
import Derived.SevenTiedAt
import Derived.Test.YtonafcifolddjaaGreatDoorOwNetOM
import Derived.Test.YtonafcifolddjaaGreatDoorOwNetG1M
namespace Go.Proofs.YtonafcifolddjaaGreatDoor
open Go.ChangeShapes Go.WideShapes Go.ChangeAt Go.RowKit
open Go.ChangeMaps (open_string shut_string)
set_option linter.unusedVariables false

theorem fnNet_holds : Rows.FnNetCardSaid :=
  Claim7.holds_tied_plain_at .later [] _ _ _ _
    fnNet_over (fun _ h => by cases h) (by kernel_rfl) (fun _ h => by cases h) fnNet_row_tie rfl ⟨rfl, rfl⟩ (by kernel_rfl) rfl
    (fun f fn hf hfn => by
      obtain rfl : f = 3 := Option.some.inj ((show Tryz.prog.funcNamed Rows.fnNetRow.func = some 3 by kernel_rfl).symm.trans hf) |>.symm
      obtain rfl : fn = Tryz.f3 := (Option.some.inj (Tryz.func3.symm.trans hfn)).symm
      exact ⟨fnNet_looks, fun j t ht => by
        rw [Tryz.params3] at ht
        rcases j with _ | _ | j
        · obtain rfl : t = 22 := by simpa using ht.symm
          exact (show Tryz.prog.wantsStandIn 22 = false by kernel_rfl)
        · obtain rfl : t = 22 := by simpa using ht.symm
          exact (show Tryz.prog.wantsStandIn 22 = false by kernel_rfl)
        · simp at ht⟩)
    fnNet_goes
#print axioms fnNet_holds
end Go.Proofs.YtonafcifolddjaaGreatDoor
