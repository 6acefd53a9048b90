/- strings.Clone: the same bytes. -/
import Derived.Test.YtdaljjpbfogniaaRin
import Derived.Test.YtdaljjpbfogniaaShelf
namespace Go.Proofs.Ytdaljjpbfogniaa
open Go.RowKit

theorem clone_calls : CloneCalls := by
  intro s w hs
  have HS := hide hs
  clear hs
  go_enter Try.func55, Try.ntmps55
  go_wp2_with (go_at_call 80; refine (Try.stringslite_Clone s _ (Nat.le_trans HS.out (by omega))).mono ?_; rintro e w1 ⟨rfl, hb1⟩; have HB1 := hide hb1; clear hb1)
  go_ret
  exact ⟨rfl, HB1.out⟩
end Go.Proofs.Ytdaljjpbfogniaa
