import Derived.Test.YtdiiiijkhpdcbaaGreatDoorOwRunPickOM
import Derived.Test.YtdiiiijkhpdcbaaGreatDoorOwRunPickG1M
/- FnExactRunPick, the tied card: at every Run, role and choice that are handed in, of whatever lengths, spare room and texts, the law of RunPick returns true, and what was handed in reads afterwards as before. Its condition: the four errors of impl hold what the program's text lays there at its start, which the card ties to the translation; that nothing else writes them is the translator's report. -/
namespace Go.Proofs.YtdiiiijkhpdcbaaGreatDoor
open Go.RowKit
set_option linter.unusedSimpArgs false
set_option linter.unusedVariables false
section
open Go.ChangeShapes Go.WideShapes Go.ChangeAt Go.RowKit
open Go.ChangeMaps (open_string shut_string)
theorem fnExactRunPick_holds:Rows.FnExactRunPickCardSaid:=Claim7.holds_tied_plain_at .later [] _ _ _ _ mi (fun _ h=>by cases h) (by kernel_rfl) (fun _ h=>by cases h) fnExactRunPick_row_tie rfl ⟨rfl,rfl⟩ (by kernel_rfl) rfl (fun f fn I C=>by
 obtain rfl:f=3:=Option.some.inj ((show Tryz.prog.funcNamed Rows.fnExactRunPickRow.func=some 3 by kernel_rfl).symm.trans I)|>.symm;obtain rfl:fn=Tryz.f3:=(Option.some.inj (Tryz.func3.symm.trans C)).symm;exact⟨lE,fun j t l=>by
  rw[Tryz.params3]at l;rcases j with _|_|_|j;·
   obtain rfl:t=26:=by simpa using l.symm
   exact(show Tryz.prog.wantsStandIn 26=false by kernel_rfl)
  ·obtain rfl:t=9:=by simpa using l.symm
   exact(show Tryz.prog.wantsStandIn 9=false by kernel_rfl)
  ·obtain rfl:t=2:=by simpa using l.symm
   exact(show Tryz.prog.wantsStandIn 2=false by kernel_rfl)
  ·simp at l⟩) mh
#print axioms fnExactRunPick_holds
end
