/- FnNet: a closed fact of its card. -/
import Derived.Test.YtonafcifolddjaaGreatDoorRows
import Derived.Test.YtonafcifolddjaaGreatDoorChecked
import Derived.JoinedOf
import Derived.SevenTiedAt
namespace Go.Proofs.YtonafcifolddjaaGreatDoor
theorem fnNet_looks : true = Tryz.prog.looks [] := by kernel_rfl
theorem fnNet_goes : false = Rows.fnNetRow.goesBy Tryz.prog := by kernel_rfl
end Go.Proofs.YtonafcifolddjaaGreatDoor
