import Derived.Test.YtdiiiijkhpdcbaaGreatDoorOwRunTapeOM
import Derived.Test.YtdiiiijkhpdcbaaGreatDoorOwRunTapeG1M
/- FnExactRunTape, the tied card: at every Run and tape that are handed in, of whatever lengths, spare room and texts, the law of RunTape returns true, and what was handed in reads afterwards as before. Its condition: the four errors of impl hold what the program's text lays there at its start, which the card ties to the translation; that nothing else writes them is the translator's report. -/
namespace Go.Proofs.YtdiiiijkhpdcbaaGreatDoor
open Go.RowKit
set_option linter.unusedSimpArgs false
set_option linter.unusedVariables false
section
open Go.ChangeShapes Go.WideShapes Go.ChangeAt Go.RowKit
open Go.ChangeMaps (open_string shut_string)
theorem fnExactRunTape_holds:Rows.FnExactRunTapeCardSaid:=Claim7.holds_tied_plain_at .later [] _ _ _ _ mr (fun _ h=>by cases h) (by kernel_rfl) (fun _ h=>by cases h) fnExactRunTape_row_tie rfl ⟨rfl,rfl⟩ (by kernel_rfl) rfl (fun f fn I C=>by
 obtain rfl:f=5:=Option.some.inj ((show Tryz.prog.funcNamed Rows.fnExactRunTapeRow.func=some 5 by kernel_rfl).symm.trans I)|>.symm;obtain rfl:fn=Tryz.f5:=(Option.some.inj (Tryz.func5.symm.trans C)).symm;exact⟨lI,fun j t l=>by
  rw[Tryz.params5]at l;rcases j with _|_|j;·
   obtain rfl:t=26:=by simpa using l.symm
   exact(show Tryz.prog.wantsStandIn 26=false by kernel_rfl)
  ·obtain rfl:t=23:=by simpa using l.symm
   exact(show Tryz.prog.wantsStandIn 23=false by kernel_rfl)
  ·simp at l⟩) mq
#print axioms fnExactRunTape_holds
end
