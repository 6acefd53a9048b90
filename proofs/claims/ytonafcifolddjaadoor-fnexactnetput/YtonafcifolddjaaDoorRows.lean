/-
  NARROWER THAN 'FOR EVERY INPUT', by the rows' own cells (each row's printed sentence says how): FnExactNetPut: ifaces, laid · FnExactNetSee: ifaces, laid · FnExactNetTake: ifaces, laid · FnExactNetFault: ifaces, laid.
  DERIVED. THE GIVEN ROWS OF THIS SEAT. 4 by the template 'for every input the law returns true; each argument reads behind the call as it read before'; 0 by the template 'total and deterministic' (their statements: YtonafcifolddjaaDoorTotals.lean).
  GIVEN WITH THE SEED: the statements are not yours to turn. If you find one false, say at which input.
  Laid BY PROGRAM, IN A SANDBOX (cutbox-rows.mjs): the forced cells as the released guide's own fill.sh prints them over the translation ac1e38362c6f7acf… (all of the seat's roots in one cut). By AI agents, Wed Nov 11 2026. No macro, syntax, notation, axiom, sorry.
-/
import Derived.Test.YtonafcifolddjaaDoorChecked
import GoSem.Claim
import GoSem.ClaimJoined
import GoSem.ClaimMapViews
import Derived.JoinedTies
import Derived.KernelRfl
namespace Go.Proofs.YtonafcifolddjaaDoor
/- THE CELL 'sum', in the pinned program and in every row, IS THE sha256 OF THE DUMP (.gsa) THAT YtonafcifolddjaaDoorProg.lean LOADS. Nothing in Lean hashes anything: it is a label: what it is worth is what the hold of that sum in a sandbox is worth. -/
noncomputable def Tryd.pinned : Pinned := { name := "ytonafcifolddjaadoor", sum := "ac1e38362c6f7acf45b82898f37b46dae402631141ac3f9b11b0b6feb8eb8f32", checked := Tryd.checked }
namespace Rows
def none {H : Type} : Left H := { results := [], args := [] }

/- WHAT THE LISTED PACKAGE-LEVEL VARIABLES READ AS WHEN THE CALL BEGINS. Each datum BY PROGRAM (the guide's laid-datum.mjs) off the statement by which the dump's own 'gosem.cut.vars' lays the variable. In a bare row this is a premise. The card (YtonafcifolddjaaDoorCards.lean) ties it to the program's text. -/
def laid_loop_example_g00574_impl_errTooLong {H : Type} : DataW H := .iface "*errors.errorString" (.ptr (.agg [.lit (.string [109, 111, 114, 101, 32, 105, 115, 32, 104, 97, 110, 100, 101, 100, 32, 105, 110, 32, 116, 104, 97, 110, 32, 97, 110, 121, 32, 99, 97, 108, 108, 32, 116, 97, 107, 101, 115])]))
def laid_loop_example_g00574_impl_errNotRight {H : Type} : DataW H := .iface "*errors.errorString" (.ptr (.agg [.lit (.string [119, 104, 97, 116, 32, 105, 115, 32, 104, 97, 110, 100, 101, 100, 32, 105, 110, 32, 105, 115, 32, 110, 111, 116, 32, 114, 105, 103, 104, 116])]))
def laid_loop_example_g00574_impl_errNothing {H : Type} : DataW H := .iface "*errors.errorString" (.ptr (.agg [.lit (.string [116, 104, 101, 114, 101, 32, 105, 115, 32, 110, 111, 32, 115, 117, 99, 104, 32, 109, 101, 115, 115, 97, 103, 101])]))
def laid_loop_example_g00574_impl_errNoRoom {H : Type} : DataW H := .iface "*errors.errorString" (.ptr (.agg [.lit (.string [111, 110, 101, 32, 109, 111, 114, 101, 32, 109, 101, 115, 115, 97, 103, 101, 32, 109, 97, 121, 32, 110, 111, 116, 32, 98, 101, 32, 111, 110, 32, 105, 116, 115, 32, 119, 97, 121])]))

/-- 'laws.FnExactNetPut': WHATEVER THE INPUT: true; the input reads as it did. -/
def fnExactNetPutSpec : ChangeSpec := { name := "fnExactNetPut", vars := ["loop.example/g00574/impl.errTooLong", "loop.example/g00574/impl.errNotRight", "loop.example/g00574/impl.errNothing", "loop.example/g00574/impl.errNoRoom"], fn := fun _ => fun
  | [d1, d2, g1, g2, g3, g4] => { results := [.lit (.bool true)], args := [d1, d2], vars := [g1, g2, g3, g4] }
  | _ => none }
def fnExactNetPutRow : OpenClaim := { program := "ytonafcifolddjaadoor", sum := "ac1e38362c6f7acf45b82898f37b46dae402631141ac3f9b11b0b6feb8eb8f32", func := "loop.example/g00574/laws.FnExactNetPut", spec := "fnExactNetPut", inPlace := ["internal/reflectlite.TypeOf"], unfollowed := true, recurses := true, named := ["loop.example/g00574/impl.errTooLong", "loop.example/g00574/impl.errNotRight", "loop.example/g00574/impl.errNothing", "loop.example/g00574/impl.errNoRoom"], ifaces := true, plainKeys := false, apart := false, laid := [("loop.example/g00574/impl.errTooLong", laid_loop_example_g00574_impl_errTooLong), ("loop.example/g00574/impl.errNotRight", laid_loop_example_g00574_impl_errNotRight), ("loop.example/g00574/impl.errNothing", laid_loop_example_g00574_impl_errNothing), ("loop.example/g00574/impl.errNoRoom", laid_loop_example_g00574_impl_errNoRoom)] }
def FnExactNetPutSaid : Prop := fnExactNetPutRow.holds Tryd.pinned (OpenSpec.ofChange fnExactNetPutSpec)

/-- ITS FALSE NEIGHBOUR: 'it returns false'. Refute it at one input. -/
def fnExactNetPutWrong : ChangeSpec := { name := "fnExactNetPut", vars := ["loop.example/g00574/impl.errTooLong", "loop.example/g00574/impl.errNotRight", "loop.example/g00574/impl.errNothing", "loop.example/g00574/impl.errNoRoom"], fn := fun _ => fun
  | [d1, d2, g1, g2, g3, g4] => { results := [.lit (.bool false)], args := [d1, d2], vars := [g1, g2, g3, g4] }
  | _ => none }
def FnExactNetPutWrongFalsely : Prop := fnExactNetPutRow.holds Tryd.pinned (OpenSpec.ofChange fnExactNetPutWrong)

/-- 'laws.FnExactNetSee': WHATEVER THE INPUT: true; the input reads as it did. -/
def fnExactNetSeeSpec : ChangeSpec := { name := "fnExactNetSee", vars := ["loop.example/g00574/impl.errTooLong", "loop.example/g00574/impl.errNotRight", "loop.example/g00574/impl.errNothing", "loop.example/g00574/impl.errNoRoom"], fn := fun _ => fun
  | [d1, d2, d3, g1, g2, g3, g4] => { results := [.lit (.bool true)], args := [d1, d2, d3], vars := [g1, g2, g3, g4] }
  | _ => none }
def fnExactNetSeeRow : OpenClaim := { program := "ytonafcifolddjaadoor", sum := "ac1e38362c6f7acf45b82898f37b46dae402631141ac3f9b11b0b6feb8eb8f32", func := "loop.example/g00574/laws.FnExactNetSee", spec := "fnExactNetSee", inPlace := ["internal/reflectlite.TypeOf"], unfollowed := true, recurses := true, named := ["loop.example/g00574/impl.errTooLong", "loop.example/g00574/impl.errNotRight", "loop.example/g00574/impl.errNothing", "loop.example/g00574/impl.errNoRoom"], ifaces := true, plainKeys := false, apart := false, laid := [("loop.example/g00574/impl.errTooLong", laid_loop_example_g00574_impl_errTooLong), ("loop.example/g00574/impl.errNotRight", laid_loop_example_g00574_impl_errNotRight), ("loop.example/g00574/impl.errNothing", laid_loop_example_g00574_impl_errNothing), ("loop.example/g00574/impl.errNoRoom", laid_loop_example_g00574_impl_errNoRoom)] }
def FnExactNetSeeSaid : Prop := fnExactNetSeeRow.holds Tryd.pinned (OpenSpec.ofChange fnExactNetSeeSpec)

/-- ITS FALSE NEIGHBOUR: 'it returns false'. Refute it at one input. -/
def fnExactNetSeeWrong : ChangeSpec := { name := "fnExactNetSee", vars := ["loop.example/g00574/impl.errTooLong", "loop.example/g00574/impl.errNotRight", "loop.example/g00574/impl.errNothing", "loop.example/g00574/impl.errNoRoom"], fn := fun _ => fun
  | [d1, d2, d3, g1, g2, g3, g4] => { results := [.lit (.bool false)], args := [d1, d2, d3], vars := [g1, g2, g3, g4] }
  | _ => none }
def FnExactNetSeeWrongFalsely : Prop := fnExactNetSeeRow.holds Tryd.pinned (OpenSpec.ofChange fnExactNetSeeWrong)

/-- 'laws.FnExactNetTake': WHATEVER THE INPUT: true; the input reads as it did. -/
def fnExactNetTakeSpec : ChangeSpec := { name := "fnExactNetTake", vars := ["loop.example/g00574/impl.errTooLong", "loop.example/g00574/impl.errNotRight", "loop.example/g00574/impl.errNothing", "loop.example/g00574/impl.errNoRoom"], fn := fun _ => fun
  | [d1, d2, d3, g1, g2, g3, g4] => { results := [.lit (.bool true)], args := [d1, d2, d3], vars := [g1, g2, g3, g4] }
  | _ => none }
def fnExactNetTakeRow : OpenClaim := { program := "ytonafcifolddjaadoor", sum := "ac1e38362c6f7acf45b82898f37b46dae402631141ac3f9b11b0b6feb8eb8f32", func := "loop.example/g00574/laws.FnExactNetTake", spec := "fnExactNetTake", inPlace := ["internal/reflectlite.TypeOf"], unfollowed := true, recurses := true, named := ["loop.example/g00574/impl.errTooLong", "loop.example/g00574/impl.errNotRight", "loop.example/g00574/impl.errNothing", "loop.example/g00574/impl.errNoRoom"], ifaces := true, plainKeys := false, apart := false, laid := [("loop.example/g00574/impl.errTooLong", laid_loop_example_g00574_impl_errTooLong), ("loop.example/g00574/impl.errNotRight", laid_loop_example_g00574_impl_errNotRight), ("loop.example/g00574/impl.errNothing", laid_loop_example_g00574_impl_errNothing), ("loop.example/g00574/impl.errNoRoom", laid_loop_example_g00574_impl_errNoRoom)] }
def FnExactNetTakeSaid : Prop := fnExactNetTakeRow.holds Tryd.pinned (OpenSpec.ofChange fnExactNetTakeSpec)

/-- ITS FALSE NEIGHBOUR: 'it returns false'. Refute it at one input. -/
def fnExactNetTakeWrong : ChangeSpec := { name := "fnExactNetTake", vars := ["loop.example/g00574/impl.errTooLong", "loop.example/g00574/impl.errNotRight", "loop.example/g00574/impl.errNothing", "loop.example/g00574/impl.errNoRoom"], fn := fun _ => fun
  | [d1, d2, d3, g1, g2, g3, g4] => { results := [.lit (.bool false)], args := [d1, d2, d3], vars := [g1, g2, g3, g4] }
  | _ => none }
def FnExactNetTakeWrongFalsely : Prop := fnExactNetTakeRow.holds Tryd.pinned (OpenSpec.ofChange fnExactNetTakeWrong)

/-- 'laws.FnExactNetFault': WHATEVER THE INPUT: true; the input reads as it did. -/
def fnExactNetFaultSpec : ChangeSpec := { name := "fnExactNetFault", vars := ["loop.example/g00574/impl.errNothing", "loop.example/g00574/impl.errTooLong", "loop.example/g00574/impl.errNotRight", "loop.example/g00574/impl.errNoRoom"], fn := fun _ => fun
  | [d1, d2, d3, g1, g2, g3, g4] => { results := [.lit (.bool true)], args := [d1, d2, d3], vars := [g1, g2, g3, g4] }
  | _ => none }
def fnExactNetFaultRow : OpenClaim := { program := "ytonafcifolddjaadoor", sum := "ac1e38362c6f7acf45b82898f37b46dae402631141ac3f9b11b0b6feb8eb8f32", func := "loop.example/g00574/laws.FnExactNetFault", spec := "fnExactNetFault", inPlace := ["internal/reflectlite.TypeOf"], unfollowed := true, recurses := true, named := ["loop.example/g00574/impl.errNothing", "loop.example/g00574/impl.errTooLong", "loop.example/g00574/impl.errNotRight", "loop.example/g00574/impl.errNoRoom"], ifaces := true, plainKeys := false, apart := false, laid := [("loop.example/g00574/impl.errTooLong", laid_loop_example_g00574_impl_errTooLong), ("loop.example/g00574/impl.errNotRight", laid_loop_example_g00574_impl_errNotRight), ("loop.example/g00574/impl.errNothing", laid_loop_example_g00574_impl_errNothing), ("loop.example/g00574/impl.errNoRoom", laid_loop_example_g00574_impl_errNoRoom)] }
def FnExactNetFaultSaid : Prop := fnExactNetFaultRow.holds Tryd.pinned (OpenSpec.ofChange fnExactNetFaultSpec)

/-- ITS FALSE NEIGHBOUR: 'it returns false'. Refute it at one input. -/
def fnExactNetFaultWrong : ChangeSpec := { name := "fnExactNetFault", vars := ["loop.example/g00574/impl.errNothing", "loop.example/g00574/impl.errTooLong", "loop.example/g00574/impl.errNotRight", "loop.example/g00574/impl.errNoRoom"], fn := fun _ => fun
  | [d1, d2, d3, g1, g2, g3, g4] => { results := [.lit (.bool false)], args := [d1, d2, d3], vars := [g1, g2, g3, g4] }
  | _ => none }
def FnExactNetFaultWrongFalsely : Prop := fnExactNetFaultRow.holds Tryd.pinned (OpenSpec.ofChange fnExactNetFaultWrong)

/- THE SECOND FORM. 'bulk': how many values and letters a reading holds, each counted each time it is reached (what is shared counts as often as it is met; a slice's spare places count too). A statement '..UptoSaid' is the law's where the arguments, and the package variables that the reading takes, are together of bulk at most 1048576: NARROWER than '..Said'. Prove '..Said' where nothing that the law and all that it calls make is longer than what came in: it says more and counts as full. Else prove '..UptoSaid'. A law counts once. -/
mutual
def uptoBulk {H : Type} : DataW H → Nat
  | .lit (.string bytes) => bytes.length + 1
  | .lit _ => 1
  | .nil => 1
  | .ptr d => uptoBulk d + 1
  | .slice elems spare => uptoBulkAll elems + uptoBulkAll spare + 1
  | .agg parts => uptoBulkAll parts + 1
  | .iface _ d => uptoBulk d + 1
  | .map entries => uptoBulkEntries entries + 1
  | .held _ => 1
def uptoBulkAll {H : Type} : List (DataW H) → Nat
  | [] => 0
  | d :: r => uptoBulk d + uptoBulkAll r
def uptoBulkEntries {H : Type} : List (Lit × DataW H) → Nat
  | [] => 0
  | x :: r => uptoBulkEntry x + uptoBulkEntries r
def uptoBulkEntry {H : Type} : Lit × DataW H → Nat
  | (.string bytes, d) => bytes.length + uptoBulk d + 1
  | (_, d) => uptoBulk d + 1
 end
def uptoSmall : (H : Type) → List (DataW H) → Bool := fun _ ds => decide (uptoBulkAll ds ≤ 1048576)
def OpenSpec.upto (s : _root_.Go.ChangeSpec) : _root_.Go.OpenSpec := { _root_.Go.OpenSpec.ofChange s with cond := some uptoSmall }

/-- 'laws.FnExactNetPut', WHERE WHAT IT READS IS OF BULK AT MOST 1048576: true; the input reads as it did. -/
def fnExactNetPutUptoRow : OpenClaim := { program := "ytonafcifolddjaadoor", sum := "ac1e38362c6f7acf45b82898f37b46dae402631141ac3f9b11b0b6feb8eb8f32", func := "loop.example/g00574/laws.FnExactNetPut", spec := "fnExactNetPut", inPlace := ["internal/reflectlite.TypeOf"], unfollowed := true, recurses := true, named := ["loop.example/g00574/impl.errTooLong", "loop.example/g00574/impl.errNotRight", "loop.example/g00574/impl.errNothing", "loop.example/g00574/impl.errNoRoom"], ifaces := true, plainKeys := false, apart := false, laid := [("loop.example/g00574/impl.errTooLong", laid_loop_example_g00574_impl_errTooLong), ("loop.example/g00574/impl.errNotRight", laid_loop_example_g00574_impl_errNotRight), ("loop.example/g00574/impl.errNothing", laid_loop_example_g00574_impl_errNothing), ("loop.example/g00574/impl.errNoRoom", laid_loop_example_g00574_impl_errNoRoom)], narrowed := true }
def FnExactNetPutUptoSaid : Prop := fnExactNetPutUptoRow.holds Tryd.pinned (OpenSpec.upto fnExactNetPutSpec)

/-- 'laws.FnExactNetSee', WHERE WHAT IT READS IS OF BULK AT MOST 1048576: true; the input reads as it did. -/
def fnExactNetSeeUptoRow : OpenClaim := { program := "ytonafcifolddjaadoor", sum := "ac1e38362c6f7acf45b82898f37b46dae402631141ac3f9b11b0b6feb8eb8f32", func := "loop.example/g00574/laws.FnExactNetSee", spec := "fnExactNetSee", inPlace := ["internal/reflectlite.TypeOf"], unfollowed := true, recurses := true, named := ["loop.example/g00574/impl.errTooLong", "loop.example/g00574/impl.errNotRight", "loop.example/g00574/impl.errNothing", "loop.example/g00574/impl.errNoRoom"], ifaces := true, plainKeys := false, apart := false, laid := [("loop.example/g00574/impl.errTooLong", laid_loop_example_g00574_impl_errTooLong), ("loop.example/g00574/impl.errNotRight", laid_loop_example_g00574_impl_errNotRight), ("loop.example/g00574/impl.errNothing", laid_loop_example_g00574_impl_errNothing), ("loop.example/g00574/impl.errNoRoom", laid_loop_example_g00574_impl_errNoRoom)], narrowed := true }
def FnExactNetSeeUptoSaid : Prop := fnExactNetSeeUptoRow.holds Tryd.pinned (OpenSpec.upto fnExactNetSeeSpec)

/-- 'laws.FnExactNetTake', WHERE WHAT IT READS IS OF BULK AT MOST 1048576: true; the input reads as it did. -/
def fnExactNetTakeUptoRow : OpenClaim := { program := "ytonafcifolddjaadoor", sum := "ac1e38362c6f7acf45b82898f37b46dae402631141ac3f9b11b0b6feb8eb8f32", func := "loop.example/g00574/laws.FnExactNetTake", spec := "fnExactNetTake", inPlace := ["internal/reflectlite.TypeOf"], unfollowed := true, recurses := true, named := ["loop.example/g00574/impl.errTooLong", "loop.example/g00574/impl.errNotRight", "loop.example/g00574/impl.errNothing", "loop.example/g00574/impl.errNoRoom"], ifaces := true, plainKeys := false, apart := false, laid := [("loop.example/g00574/impl.errTooLong", laid_loop_example_g00574_impl_errTooLong), ("loop.example/g00574/impl.errNotRight", laid_loop_example_g00574_impl_errNotRight), ("loop.example/g00574/impl.errNothing", laid_loop_example_g00574_impl_errNothing), ("loop.example/g00574/impl.errNoRoom", laid_loop_example_g00574_impl_errNoRoom)], narrowed := true }
def FnExactNetTakeUptoSaid : Prop := fnExactNetTakeUptoRow.holds Tryd.pinned (OpenSpec.upto fnExactNetTakeSpec)

/-- 'laws.FnExactNetFault', WHERE WHAT IT READS IS OF BULK AT MOST 1048576: true; the input reads as it did. -/
def fnExactNetFaultUptoRow : OpenClaim := { program := "ytonafcifolddjaadoor", sum := "ac1e38362c6f7acf45b82898f37b46dae402631141ac3f9b11b0b6feb8eb8f32", func := "loop.example/g00574/laws.FnExactNetFault", spec := "fnExactNetFault", inPlace := ["internal/reflectlite.TypeOf"], unfollowed := true, recurses := true, named := ["loop.example/g00574/impl.errNothing", "loop.example/g00574/impl.errTooLong", "loop.example/g00574/impl.errNotRight", "loop.example/g00574/impl.errNoRoom"], ifaces := true, plainKeys := false, apart := false, laid := [("loop.example/g00574/impl.errTooLong", laid_loop_example_g00574_impl_errTooLong), ("loop.example/g00574/impl.errNotRight", laid_loop_example_g00574_impl_errNotRight), ("loop.example/g00574/impl.errNothing", laid_loop_example_g00574_impl_errNothing), ("loop.example/g00574/impl.errNoRoom", laid_loop_example_g00574_impl_errNoRoom)], narrowed := true }
def FnExactNetFaultUptoSaid : Prop := fnExactNetFaultUptoRow.holds Tryd.pinned (OpenSpec.upto fnExactNetFaultSpec)

end Rows
end Go.Proofs.YtonafcifolddjaaDoor
