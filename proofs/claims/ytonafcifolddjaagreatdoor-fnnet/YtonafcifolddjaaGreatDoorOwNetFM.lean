/- FnNet: the closed facts of its row, all. -/
import Derived.Test.YtonafcifolddjaaGreatDoorRows
import Derived.Test.YtonafcifolddjaaGreatDoorChecked
import Derived.JoinedOf
namespace Go.Proofs.YtonafcifolddjaaGreatDoor
theorem fnNet_f1 : Rows.fnNetRow.wf (OpenSpec.ofChange Rows.fnNetSpec) = true := by kernel_rfl
theorem fnNet_f5 : namedTie Tryz.prog Rows.fnNetRow.named Rows.fnNetSpec.vars = true := by kernel_rfl
theorem fnNet_f25 : Tryz.prog.stopsHeard = true := by kernel_rfl
theorem fnNet_f27 : (Rows.fnNetRow.lifted == Tryz.prog.liftsFinal) = true := by kernel_rfl
theorem fnNet_f23 : (Rows.fnNetRow.plainKeys == Tryz.prog.plainKeys) = true := by kernel_rfl
theorem fnNet_f2 : laidOutB Tryz.prog = true := by kernel_rfl
theorem fnNet_f3 : mapsRowed Tryz.prog = true := by kernel_rfl
theorem fnNet_f10 : (Rows.fnNetRow.inPlace == Tryz.prog.inPlace 3) = true := by kernel_rfl
theorem fnNet_f11 : (Rows.fnNetRow.unfollowed == Tryz.prog.unfollowed 3) = true := by kernel_rfl
theorem fnNet_f12 : (Rows.fnNetRow.recurses == Tryz.prog.recurses 3) = true := by kernel_rfl
theorem fnNet_f13 : (Rows.fnNetRow.named == Tryz.prog.varsNamed 3) = true := by kernel_rfl
theorem fnNet_f26 : Tryz.prog.mayEnter = true := by kernel_rfl

theorem and_tr {a b : Bool} (ha : a = true) (hb : b = true) : (a && b) = true := by rw [ha, hb]; rfl
theorem fnNet_closed : joinedFacts Tryz.prog 3 Tryz.f3 Rows.fnNetSpec Rows.fnNetRow = true := by
  unfold joinedFacts
  refine (and_tr (and_tr (and_tr (and_tr (and_tr (and_tr (and_tr (and_tr (and_tr (and_tr (and_tr (and_tr (and_tr (and_tr (and_tr (and_tr (and_tr (and_tr (and_tr (and_tr (and_tr (and_tr (and_tr (and_tr (and_tr (and_tr (and_tr (and_tr (and_tr (and_tr (and_tr ?a1 ?a2) ?a3) ?a4) ?a5) ?a6) ?a7) ?a8) ?a9) ?a10) ?a11) ?a12) ?a13) ?a14) ?a15) ?a16) ?a17) ?a18) ?a19) ?a20) ?a21) ?a22) ?a23) ?a24) ?a25) ?a26) ?a27) ?a28) ?a29) ?a30) ?a31) ?a32)
  case a1 => exact fnNet_f1
  case a2 => exact fnNet_f2
  case a3 => exact fnNet_f3
  case a4 => kernel_rfl
  case a5 => exact fnNet_f5
  case a6 => kernel_rfl
  case a7 => kernel_rfl
  case a8 => kernel_rfl
  case a9 => kernel_rfl
  case a10 => exact fnNet_f10
  case a11 => exact fnNet_f11
  case a12 => exact fnNet_f12
  case a13 => exact fnNet_f13
  case a14 => kernel_rfl
  case a15 => kernel_rfl
  case a16 => kernel_rfl
  case a17 => kernel_rfl
  case a18 => kernel_rfl
  case a19 => kernel_rfl
  case a20 => kernel_rfl
  case a21 => kernel_rfl
  case a22 => kernel_rfl
  case a23 => exact fnNet_f23
  case a24 => kernel_rfl
  case a25 => exact fnNet_f25
  case a26 => exact fnNet_f26
  case a27 => exact fnNet_f27
  case a28 => kernel_rfl
  case a29 => kernel_rfl
  case a30 => kernel_rfl
  case a31 => kernel_rfl
  case a32 => kernel_rfl
end Go.Proofs.YtonafcifolddjaaGreatDoor
