/- strings.Clone: the same bytes. -/
import Derived.Test.YtdaljjpbfogniaaDoorRin
import Derived.Test.YtdaljjpbfogniaaDoorShelf
namespace Go.Proofs.YtdaljjpbfogniaaDoor
open Go.RowKit

theorem clone_calls : CloneCalls := by
  intro s w hs
  have HS := hide hs
  clear hs
  go_enter Tryd.func78, Tryd.ntmps78
  go_wp2_with (go_at_call 90; refine (Tryd.stringslite_Clone s _ (Nat.le_trans HS.out (by omega))).mono ?_; rintro e w1 ⟨rfl, hb1⟩; have HB1 := hide hb1; clear hb1)
  go_ret
  exact ⟨rfl, HB1.out⟩
end Go.Proofs.YtdaljjpbfogniaaDoor
