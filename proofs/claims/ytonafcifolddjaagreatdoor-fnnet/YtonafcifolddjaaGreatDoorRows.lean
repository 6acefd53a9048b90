/-
  NARROWER THAN 'FOR EVERY INPUT', by the rows' own cells (each row's printed sentence says how): FnNet: ifaces, laid.
  DERIVED. THE GIVEN ROWS OF THIS SEAT. 1 by the template 'for every input the law returns true; each argument reads behind the call as it read before'; 0 by the template 'total and deterministic' (their statements: YtonafcifolddjaaGreatDoorTotals.lean).
  GIVEN WITH THE SEED: the statements are not yours to turn. If you find one false, say at which input.
  Laid BY PROGRAM, IN A SANDBOX (cutbox-rows.mjs): the forced cells as the released guide's own fill.sh prints them over the translation 5004c573a51a9bab… (all of the seat's roots in one cut). By AI agents, Wed Nov 11 2026. No macro, syntax, notation, axiom, sorry.
-/
import Derived.Test.YtonafcifolddjaaGreatDoorChecked
import GoSem.Claim
import GoSem.ClaimJoined
import GoSem.ClaimMapViews
import Derived.JoinedTies
import Derived.KernelRfl
namespace Go.Proofs.YtonafcifolddjaaGreatDoor
/- THE CELL 'sum', in the pinned program and in every row, IS THE sha256 OF THE DUMP (.gsa) THAT YtonafcifolddjaaGreatDoorProg.lean LOADS. Nothing in Lean hashes anything: it is a label: what it is worth is what the hold of that sum in a sandbox is worth. -/
noncomputable def Tryz.pinned : Pinned := { name := "ytonafcifolddjaagreatdoor", sum := "5004c573a51a9babc9f1e156301e6c4012c6b08ca08ba750c8c62a8e4416d12d", checked := Tryz.checked }
namespace Rows
def none {H : Type} : Left H := { results := [], args := [] }

/- WHAT THE LISTED PACKAGE-LEVEL VARIABLES READ AS WHEN THE CALL BEGINS. Each datum BY PROGRAM (the guide's laid-datum.mjs) off the statement by which the dump's own 'gosem.cut.vars' lays the variable. In a bare row this is a premise. The card (YtonafcifolddjaaGreatDoorCards.lean) ties it to the program's text. -/
def laid_loop_example_g00574_impl_errTooLong {H : Type} : DataW H := .iface "*errors.errorString" (.ptr (.agg [.lit (.string [109, 111, 114, 101, 32, 105, 115, 32, 104, 97, 110, 100, 101, 100, 32, 105, 110, 32, 116, 104, 97, 110, 32, 97, 110, 121, 32, 99, 97, 108, 108, 32, 116, 97, 107, 101, 115])]))
def laid_loop_example_g00574_impl_errNotRight {H : Type} : DataW H := .iface "*errors.errorString" (.ptr (.agg [.lit (.string [119, 104, 97, 116, 32, 105, 115, 32, 104, 97, 110, 100, 101, 100, 32, 105, 110, 32, 105, 115, 32, 110, 111, 116, 32, 114, 105, 103, 104, 116])]))
def laid_loop_example_g00574_impl_errNothing {H : Type} : DataW H := .iface "*errors.errorString" (.ptr (.agg [.lit (.string [116, 104, 101, 114, 101, 32, 105, 115, 32, 110, 111, 32, 115, 117, 99, 104, 32, 109, 101, 115, 115, 97, 103, 101])]))
def laid_loop_example_g00574_impl_errNoRoom {H : Type} : DataW H := .iface "*errors.errorString" (.ptr (.agg [.lit (.string [111, 110, 101, 32, 109, 111, 114, 101, 32, 109, 101, 115, 115, 97, 103, 101, 32, 109, 97, 121, 32, 110, 111, 116, 32, 98, 101, 32, 111, 110, 32, 105, 116, 115, 32, 119, 97, 121])]))

/-- 'laws.FnNet': WHATEVER THE INPUT: true; the input reads as it did. -/
def fnNetSpec : ChangeSpec := { name := "fnNet", vars := ["loop.example/g00574/impl.errTooLong", "loop.example/g00574/impl.errNotRight", "loop.example/g00574/impl.errNothing", "loop.example/g00574/impl.errNoRoom"], fn := fun _ => fun
  | [d1, d2, g1, g2, g3, g4] => { results := [.lit (.bool true)], args := [d1, d2], vars := [g1, g2, g3, g4] }
  | _ => none }
def fnNetRow : OpenClaim := { program := "ytonafcifolddjaagreatdoor", sum := "5004c573a51a9babc9f1e156301e6c4012c6b08ca08ba750c8c62a8e4416d12d", func := "loop.example/g00574/laws.FnNet", spec := "fnNet", inPlace := ["internal/reflectlite.TypeOf"], unfollowed := true, recurses := true, named := ["loop.example/g00574/impl.errTooLong", "loop.example/g00574/impl.errNotRight", "loop.example/g00574/impl.errNothing", "loop.example/g00574/impl.errNoRoom"], ifaces := true, plainKeys := false, apart := false, laid := [("loop.example/g00574/impl.errTooLong", laid_loop_example_g00574_impl_errTooLong), ("loop.example/g00574/impl.errNotRight", laid_loop_example_g00574_impl_errNotRight), ("loop.example/g00574/impl.errNothing", laid_loop_example_g00574_impl_errNothing), ("loop.example/g00574/impl.errNoRoom", laid_loop_example_g00574_impl_errNoRoom)] }
def FnNetSaid : Prop := fnNetRow.holds Tryz.pinned (OpenSpec.ofChange fnNetSpec)

/-- ITS FALSE NEIGHBOUR: 'it returns false'. Refute it at one input. -/
def fnNetWrong : ChangeSpec := { name := "fnNet", vars := ["loop.example/g00574/impl.errTooLong", "loop.example/g00574/impl.errNotRight", "loop.example/g00574/impl.errNothing", "loop.example/g00574/impl.errNoRoom"], fn := fun _ => fun
  | [d1, d2, g1, g2, g3, g4] => { results := [.lit (.bool false)], args := [d1, d2], vars := [g1, g2, g3, g4] }
  | _ => none }
def FnNetWrongFalsely : Prop := fnNetRow.holds Tryz.pinned (OpenSpec.ofChange fnNetWrong)

/- THE SECOND FORM. 'bulk': how many values and letters a reading holds, each counted each time it is reached (what is shared counts as often as it is met; a slice's spare places count too). A statement '..UptoSaid' is the law's where the arguments, and the package variables that the reading takes, are together of bulk at most 1048576: NARROWER than '..Said'. Prove '..Said' where nothing that the law and all that it calls make is longer than what came in: it says more and counts as full. Else prove '..UptoSaid'. A law counts once. -/
mutual
def uptoBulk {H : Type} : DataW H → Nat
  | .lit (.string bytes) => bytes.length + 1
  | .lit _ => 1
  | .nil => 1
  | .ptr d => uptoBulk d + 1
  | .slice elems spare => uptoBulkAll elems + uptoBulkAll spare + 1
  | .agg parts => uptoBulkAll parts + 1
  | .iface _ d => uptoBulk d + 1
  | .map entries => uptoBulkEntries entries + 1
  | .held _ => 1
def uptoBulkAll {H : Type} : List (DataW H) → Nat
  | [] => 0
  | d :: r => uptoBulk d + uptoBulkAll r
def uptoBulkEntries {H : Type} : List (Lit × DataW H) → Nat
  | [] => 0
  | x :: r => uptoBulkEntry x + uptoBulkEntries r
def uptoBulkEntry {H : Type} : Lit × DataW H → Nat
  | (.string bytes, d) => bytes.length + uptoBulk d + 1
  | (_, d) => uptoBulk d + 1
 end
def uptoSmall : (H : Type) → List (DataW H) → Bool := fun _ ds => decide (uptoBulkAll ds ≤ 1048576)
def OpenSpec.upto (s : _root_.Go.ChangeSpec) : _root_.Go.OpenSpec := { _root_.Go.OpenSpec.ofChange s with cond := some uptoSmall }

/-- 'laws.FnNet', WHERE WHAT IT READS IS OF BULK AT MOST 1048576: true; the input reads as it did. -/
def fnNetUptoRow : OpenClaim := { program := "ytonafcifolddjaagreatdoor", sum := "5004c573a51a9babc9f1e156301e6c4012c6b08ca08ba750c8c62a8e4416d12d", func := "loop.example/g00574/laws.FnNet", spec := "fnNet", inPlace := ["internal/reflectlite.TypeOf"], unfollowed := true, recurses := true, named := ["loop.example/g00574/impl.errTooLong", "loop.example/g00574/impl.errNotRight", "loop.example/g00574/impl.errNothing", "loop.example/g00574/impl.errNoRoom"], ifaces := true, plainKeys := false, apart := false, laid := [("loop.example/g00574/impl.errTooLong", laid_loop_example_g00574_impl_errTooLong), ("loop.example/g00574/impl.errNotRight", laid_loop_example_g00574_impl_errNotRight), ("loop.example/g00574/impl.errNothing", laid_loop_example_g00574_impl_errNothing), ("loop.example/g00574/impl.errNoRoom", laid_loop_example_g00574_impl_errNoRoom)], narrowed := true }
def FnNetUptoSaid : Prop := fnNetUptoRow.holds Tryz.pinned (OpenSpec.upto fnNetSpec)

end Rows
end Go.Proofs.YtonafcifolddjaaGreatDoor
