/- FnPart: the row. -/
import Derived.Test.YtmjlblbhakppfaaGreatDoorRows
import Derived.Test.YtmjlblbhakppfaaGreatDoorTie
import Derived.Test.YtmjlblbhakppfaaGreatDoorCards
import Derived.Test.YtmjlblbhakppfaaGreatDoorLawPartM
import Derived.WalkKit
import Derived.ProofKit
import Derived.OpenShut
import Derived.ShutString
import Derived.ChangeOld
import Derived.Below
import Derived.ChangeSame
import Derived.ChangeVars
import Derived.JoinedOf
import Derived.RowKit
import Derived.RowKitTokens
import Derived.LaidLaws
import Derived.LaidHandle
import Derived.LaidMore
import Derived.OpenVars
import Derived.Stop.Joined
import Derived.SevenTiedAt
import Derived.Test.YtmjlblbhakppfaaGreatDoorOwPartAM
import Derived.Test.YtmjlblbhakppfaaGreatDoorOwPartFM
namespace Go.Proofs.YtmjlblbhakppfaaGreatDoor
open Go.ChangeShapes Go.WideShapes Go.ChangeAt Go.RowKit
open Go.ChangeMaps (open_string shut_string)
set_option linter.unusedVariables false

theorem fnPart_over : Rows.FnPartSaid :=
  OpenClaim.holds_of_wide 4 Tryz.f4 rfl rfl rfl rfl rfl rfl rfl ⟨rfl, rfl, rfl, rfl, rfl⟩ rfl rfl rfl rfl rfl (by kernel_rfl) Tryz.func4 fnPart_closed
    (of_decide_eq_true (by kernel_rfl)) (by unfold Func.isWrapper; first | (rw [if_pos (by decide +kernel)]; kernel_rfl) | (rw [if_neg (by decide +kernel)]; exact ⟨rfl, rfl⟩))
    (fun os started H enc _ => fnPart_lifted os started H enc)

end Go.Proofs.YtmjlblbhakppfaaGreatDoor
