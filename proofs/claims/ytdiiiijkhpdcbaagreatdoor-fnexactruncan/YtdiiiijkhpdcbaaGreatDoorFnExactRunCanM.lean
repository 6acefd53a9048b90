/- FnExactRunCan, the tied card: at every Run that is handed in, of whatever lengths, spare room and texts, the law of RunCan returns true, and what was handed in reads afterwards as before. Its condition: the four errors of impl hold what the program's text lays there at its start, which the card ties to the translation; that nothing else writes them is the translator's report. -/
import Derived.Test.YtdiiiijkhpdcbaaGreatDoorRows
import Derived.Test.YtdiiiijkhpdcbaaGreatDoorTie
import Derived.Test.YtdiiiijkhpdcbaaGreatDoorCards
import Derived.Test.YtdiiiijkhpdcbaaGreatDoorLawRunCanM
import Derived.WalkKit
import Derived.ProofKit
import Derived.OpenShut
import Derived.ShutString
import Derived.ChangeOld
import Derived.Below
import Derived.ChangeSame
import Derived.ChangeVars
import Derived.JoinedOf
import Derived.RowKit
import Derived.RowKitTokens
import Derived.LaidLaws
import Derived.LaidHandle
import Derived.LaidMore
import Derived.OpenVars
import Derived.Stop.Joined
import Derived.SevenTiedAt
import Derived.Test.YtdiiiijkhpdcbaaGreatDoorOwRunCanOM
import Derived.Test.YtdiiiijkhpdcbaaGreatDoorOwRunCanG1M
import Derived.Test.YtdiiiijkhpdcbaaGreatDoorOwRunCanG2M
namespace Go.Proofs.YtdiiiijkhpdcbaaGreatDoor
open Go.RowKit
set_option linter.unusedSimpArgs false
set_option linter.unusedVariables false
section
open Go.ChangeShapes Go.WideShapes Go.ChangeAt Go.RowKit
open Go.ChangeMaps (open_string shut_string)
theorem fnExactRunCan_holds:Rows.FnExactRunCanCardSaid:=Claim7.holds_tied_plain_at .later [] _ _ _ _ mo (fun _ h=>by cases h) (by kernel_rfl) (fun _ h=>by cases h) fnExactRunCan_row_tie rfl ⟨rfl,rfl⟩ (by kernel_rfl) rfl (fun f fn I l=>by
 obtain rfl:f=4:=Option.some.inj ((show Tryz.prog.funcNamed Rows.fnExactRunCanRow.func=some 4 by kernel_rfl).symm.trans I)|>.symm;obtain rfl:fn=Tryz.f4:=(Option.some.inj (Tryz.func4.symm.trans l)).symm;exact⟨lP,fun j t C=>by
  rw[Tryz.params4]at C;rcases j with _|j;·
   obtain rfl:t=26:=by simpa using C.symm
   exact(show Tryz.prog.wantsStandIn 26=false by kernel_rfl)
  ·simp at C⟩) mn
#print axioms fnExactRunCan_holds
end
end Go.Proofs.YtdiiiijkhpdcbaaGreatDoor
