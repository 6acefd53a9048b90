/- FnPart: the closed facts of its row, all. -/
import Derived.Test.YtmjlblbhakppfaaGreatDoorOwPartF0M
import Derived.Test.YtmjlblbhakppfaaGreatDoorOwPartF2M
import Derived.Test.YtmjlblbhakppfaaGreatDoorOwPartF10M
import Derived.Test.YtmjlblbhakppfaaGreatDoorOwPartF12M
import Derived.Test.YtmjlblbhakppfaaGreatDoorOwPartF26M
namespace Go.Proofs.YtmjlblbhakppfaaGreatDoor

theorem and_tr {a b : Bool} (ha : a = true) (hb : b = true) : (a && b) = true := by rw [ha, hb]; rfl
theorem fnPart_closed : joinedFacts Tryz.prog 4 Tryz.f4 Rows.fnPartSpec Rows.fnPartRow = true := by
  unfold joinedFacts
  refine (and_tr (and_tr (and_tr (and_tr (and_tr (and_tr (and_tr (and_tr (and_tr (and_tr (and_tr (and_tr (and_tr (and_tr (and_tr (and_tr (and_tr (and_tr (and_tr (and_tr (and_tr (and_tr (and_tr (and_tr (and_tr (and_tr (and_tr (and_tr (and_tr (and_tr (and_tr ?a1 ?a2) ?a3) ?a4) ?a5) ?a6) ?a7) ?a8) ?a9) ?a10) ?a11) ?a12) ?a13) ?a14) ?a15) ?a16) ?a17) ?a18) ?a19) ?a20) ?a21) ?a22) ?a23) ?a24) ?a25) ?a26) ?a27) ?a28) ?a29) ?a30) ?a31) ?a32)
  case a1 => exact fnPart_f1
  case a2 => exact fnPart_f2
  case a3 => exact fnPart_f3
  case a4 => kernel_rfl
  case a5 => exact fnPart_f5
  case a6 => kernel_rfl
  case a7 => kernel_rfl
  case a8 => kernel_rfl
  case a9 => kernel_rfl
  case a10 => exact fnPart_f10
  case a11 => exact fnPart_f11
  case a12 => exact fnPart_f12
  case a13 => exact fnPart_f13
  case a14 => kernel_rfl
  case a15 => kernel_rfl
  case a16 => kernel_rfl
  case a17 => kernel_rfl
  case a18 => kernel_rfl
  case a19 => kernel_rfl
  case a20 => kernel_rfl
  case a21 => kernel_rfl
  case a22 => kernel_rfl
  case a23 => exact fnPart_f23
  case a24 => kernel_rfl
  case a25 => exact fnPart_f25
  case a26 => exact fnPart_f26
  case a27 => exact fnPart_f27
  case a28 => kernel_rfl
  case a29 => kernel_rfl
  case a30 => kernel_rfl
  case a31 => kernel_rfl
  case a32 => kernel_rfl
end Go.Proofs.YtmjlblbhakppfaaGreatDoor
