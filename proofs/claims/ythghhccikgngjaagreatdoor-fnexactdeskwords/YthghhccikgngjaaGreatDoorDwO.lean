/- FnExactDeskWords: the row. -/
import Derived.Test.YthghhccikgngjaaGreatDoorRows
import Derived.Test.YthghhccikgngjaaGreatDoorTie
import Derived.Test.YthghhccikgngjaaGreatDoorCards
import Derived.Test.YthghhccikgngjaaGreatDoorLawDeskWords
import Derived.WalkKit
import Derived.ProofKit
import Derived.OpenShut
import Derived.ShutString
import Derived.ChangeOld
import Derived.Below
import Derived.ChangeSame
import Derived.ChangeVars
import Derived.JoinedOf
import Derived.RowKit
import Derived.RowKitTokens
import Derived.LaidLaws
import Derived.LaidHandle
import Derived.LaidMore
import Derived.OpenVars
import Derived.Stop.Joined
import Derived.SevenTiedAt
import Derived.Test.YthghhccikgngjaaGreatDoorDwA
import Derived.Test.YthghhccikgngjaaGreatDoorDwF
namespace Go.Proofs.YthghhccikgngjaaGreatDoor
open Go.ChangeShapes Go.WideShapes Go.ChangeAt Go.RowKit
open Go.ChangeMaps (open_string)
set_option linter.unusedVariables false

theorem fnExactDeskWords_over : Rows.FnExactDeskWordsSaid :=
  OpenClaim.holds_of_wide 7 Tryz.f7 rfl rfl rfl rfl rfl rfl rfl ⟨rfl, rfl, rfl, rfl, rfl⟩ rfl rfl rfl rfl rfl (by kernel_rfl) Tryz.func7 dw_closed
    (of_decide_eq_true (by kernel_rfl)) (by unfold Func.isWrapper; first | (rw [if_pos (by decide +kernel)]; kernel_rfl) | (rw [if_neg (by decide +kernel)]; exact ⟨rfl, rfl⟩))
    (fun os started H enc _ => fnExactDeskWords_lifted os started H enc)

end Go.Proofs.YthghhccikgngjaaGreatDoor
