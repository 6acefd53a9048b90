/-
  NARROWER THAN 'FOR EVERY INPUT', by the rows' own cells (each row's printed sentence says how): FnExactRunPick: ifaces, laid · FnExactRunCan: ifaces, laid · FnExactRunTape: ifaces, laid · FnExactPlayTape: ifaces, laid · FnExactFails: ifaces, laid · FnExactShrink: ifaces, laid · FnExactLeast: ifaces, laid.
  DERIVED. THE GIVEN ROWS OF THIS SEAT. 7 by the template 'for every input the law returns true; each argument reads behind the call as it read before'; 0 by the template 'total and deterministic' (their statements: YtdiiiijkhpdcbaaGreatDoorTotals.lean).
  GIVEN WITH THE SEED: the statements are not yours to turn. If you find one false, say at which input.
  Laid BY PROGRAM, IN A SANDBOX (cutbox-rows.mjs): the forced cells as the released guide's own fill.sh prints them over the translation 6aade289392a983b… (all of the seat's roots in one cut). By AI agents, Wed Nov 11 2026. No macro, syntax, notation, axiom, sorry.
-/
import Derived.Test.YtdiiiijkhpdcbaaGreatDoorChecked
import GoSem.Claim
import GoSem.ClaimJoined
import GoSem.ClaimMapViews
import Derived.JoinedTies
import Derived.KernelRfl
namespace Go.Proofs.YtdiiiijkhpdcbaaGreatDoor
/- THE CELL 'sum', in the pinned program and in every row, IS THE sha256 OF THE DUMP (.gsa) THAT YtdiiiijkhpdcbaaGreatDoorProg.lean LOADS. Nothing in Lean hashes anything: it is a label: what it is worth is what the hold of that sum in a sandbox is worth. -/
noncomputable def Tryz.pinned : Pinned := { name := "ytdiiiijkhpdcbaagreatdoor", sum := "6aade289392a983b93f688efb5f3c0db4747e8cc5a3b21d6e3453dea42df43af", checked := Tryz.checked }
namespace Rows
def none {H : Type} : Left H := { results := [], args := [] }

/- WHAT THE LISTED PACKAGE-LEVEL VARIABLES READ AS WHEN THE CALL BEGINS. Each datum BY PROGRAM (the guide's laid-datum.mjs) off the statement by which the dump's own 'gosem.cut.vars' lays the variable. In a bare row this is a premise. The card (YtdiiiijkhpdcbaaGreatDoorCards.lean) ties it to the program's text. -/
def laid_loop_example_g00574_impl_errTooLong {H : Type} : DataW H := .iface "*errors.errorString" (.ptr (.agg [.lit (.string [109, 111, 114, 101, 32, 105, 115, 32, 104, 97, 110, 100, 101, 100, 32, 105, 110, 32, 116, 104, 97, 110, 32, 97, 110, 121, 32, 99, 97, 108, 108, 32, 116, 97, 107, 101, 115])]))
def laid_loop_example_g00574_impl_errNotRight {H : Type} : DataW H := .iface "*errors.errorString" (.ptr (.agg [.lit (.string [119, 104, 97, 116, 32, 105, 115, 32, 104, 97, 110, 100, 101, 100, 32, 105, 110, 32, 105, 115, 32, 110, 111, 116, 32, 114, 105, 103, 104, 116])]))
def laid_loop_example_g00574_impl_errNothing {H : Type} : DataW H := .iface "*errors.errorString" (.ptr (.agg [.lit (.string [116, 104, 101, 114, 101, 32, 105, 115, 32, 110, 111, 32, 115, 117, 99, 104, 32, 109, 101, 115, 115, 97, 103, 101])]))
def laid_loop_example_g00574_impl_errNoRoom {H : Type} : DataW H := .iface "*errors.errorString" (.ptr (.agg [.lit (.string [111, 110, 101, 32, 109, 111, 114, 101, 32, 109, 101, 115, 115, 97, 103, 101, 32, 109, 97, 121, 32, 110, 111, 116, 32, 98, 101, 32, 111, 110, 32, 105, 116, 115, 32, 119, 97, 121])]))

/-- 'laws.FnExactRunPick': WHATEVER THE INPUT: true; the input reads as it did. -/
def fnExactRunPickSpec : ChangeSpec := { name := "fnExactRunPick", vars := ["loop.example/g00574/impl.errTooLong", "loop.example/g00574/impl.errNotRight", "loop.example/g00574/impl.errNothing", "loop.example/g00574/impl.errNoRoom"], fn := fun _ => fun
  | [d1, d2, d3, g1, g2, g3, g4] => { results := [.lit (.bool true)], args := [d1, d2, d3], vars := [g1, g2, g3, g4] }
  | _ => none }
def fnExactRunPickRow : OpenClaim := { program := "ytdiiiijkhpdcbaagreatdoor", sum := "6aade289392a983b93f688efb5f3c0db4747e8cc5a3b21d6e3453dea42df43af", func := "loop.example/g00574/laws.FnExactRunPick", spec := "fnExactRunPick", inPlace := ["internal/reflectlite.TypeOf"], unfollowed := true, recurses := true, named := ["loop.example/g00574/impl.errTooLong", "loop.example/g00574/impl.errNotRight", "loop.example/g00574/impl.errNothing", "loop.example/g00574/impl.errNoRoom"], ifaces := true, plainKeys := false, apart := false, laid := [("loop.example/g00574/impl.errTooLong", laid_loop_example_g00574_impl_errTooLong), ("loop.example/g00574/impl.errNotRight", laid_loop_example_g00574_impl_errNotRight), ("loop.example/g00574/impl.errNothing", laid_loop_example_g00574_impl_errNothing), ("loop.example/g00574/impl.errNoRoom", laid_loop_example_g00574_impl_errNoRoom)] }
def FnExactRunPickSaid : Prop := fnExactRunPickRow.holds Tryz.pinned (OpenSpec.ofChange fnExactRunPickSpec)

/-- ITS FALSE NEIGHBOUR: 'it returns false'. Refute it at one input. -/
def fnExactRunPickWrong : ChangeSpec := { name := "fnExactRunPick", vars := ["loop.example/g00574/impl.errTooLong", "loop.example/g00574/impl.errNotRight", "loop.example/g00574/impl.errNothing", "loop.example/g00574/impl.errNoRoom"], fn := fun _ => fun
  | [d1, d2, d3, g1, g2, g3, g4] => { results := [.lit (.bool false)], args := [d1, d2, d3], vars := [g1, g2, g3, g4] }
  | _ => none }
def FnExactRunPickWrongFalsely : Prop := fnExactRunPickRow.holds Tryz.pinned (OpenSpec.ofChange fnExactRunPickWrong)

/-- 'laws.FnExactRunCan': WHATEVER THE INPUT: true; the input reads as it did. -/
def fnExactRunCanSpec : ChangeSpec := { name := "fnExactRunCan", vars := ["loop.example/g00574/impl.errTooLong", "loop.example/g00574/impl.errNotRight", "loop.example/g00574/impl.errNothing", "loop.example/g00574/impl.errNoRoom"], fn := fun _ => fun
  | [d, g1, g2, g3, g4] => { results := [.lit (.bool true)], args := [d], vars := [g1, g2, g3, g4] }
  | _ => none }
def fnExactRunCanRow : OpenClaim := { program := "ytdiiiijkhpdcbaagreatdoor", sum := "6aade289392a983b93f688efb5f3c0db4747e8cc5a3b21d6e3453dea42df43af", func := "loop.example/g00574/laws.FnExactRunCan", spec := "fnExactRunCan", inPlace := ["internal/reflectlite.TypeOf"], unfollowed := true, recurses := true, named := ["loop.example/g00574/impl.errTooLong", "loop.example/g00574/impl.errNotRight", "loop.example/g00574/impl.errNothing", "loop.example/g00574/impl.errNoRoom"], ifaces := true, plainKeys := false, apart := false, laid := [("loop.example/g00574/impl.errTooLong", laid_loop_example_g00574_impl_errTooLong), ("loop.example/g00574/impl.errNotRight", laid_loop_example_g00574_impl_errNotRight), ("loop.example/g00574/impl.errNothing", laid_loop_example_g00574_impl_errNothing), ("loop.example/g00574/impl.errNoRoom", laid_loop_example_g00574_impl_errNoRoom)] }
def FnExactRunCanSaid : Prop := fnExactRunCanRow.holds Tryz.pinned (OpenSpec.ofChange fnExactRunCanSpec)

/-- ITS FALSE NEIGHBOUR: 'it returns false'. Refute it at one input. -/
def fnExactRunCanWrong : ChangeSpec := { name := "fnExactRunCan", vars := ["loop.example/g00574/impl.errTooLong", "loop.example/g00574/impl.errNotRight", "loop.example/g00574/impl.errNothing", "loop.example/g00574/impl.errNoRoom"], fn := fun _ => fun
  | [d, g1, g2, g3, g4] => { results := [.lit (.bool false)], args := [d], vars := [g1, g2, g3, g4] }
  | _ => none }
def FnExactRunCanWrongFalsely : Prop := fnExactRunCanRow.holds Tryz.pinned (OpenSpec.ofChange fnExactRunCanWrong)

/-- 'laws.FnExactRunTape': WHATEVER THE INPUT: true; the input reads as it did. -/
def fnExactRunTapeSpec : ChangeSpec := { name := "fnExactRunTape", vars := ["loop.example/g00574/impl.errTooLong", "loop.example/g00574/impl.errNotRight", "loop.example/g00574/impl.errNothing", "loop.example/g00574/impl.errNoRoom"], fn := fun _ => fun
  | [d1, d2, g1, g2, g3, g4] => { results := [.lit (.bool true)], args := [d1, d2], vars := [g1, g2, g3, g4] }
  | _ => none }
def fnExactRunTapeRow : OpenClaim := { program := "ytdiiiijkhpdcbaagreatdoor", sum := "6aade289392a983b93f688efb5f3c0db4747e8cc5a3b21d6e3453dea42df43af", func := "loop.example/g00574/laws.FnExactRunTape", spec := "fnExactRunTape", inPlace := ["internal/reflectlite.TypeOf"], unfollowed := true, recurses := true, named := ["loop.example/g00574/impl.errTooLong", "loop.example/g00574/impl.errNotRight", "loop.example/g00574/impl.errNothing", "loop.example/g00574/impl.errNoRoom"], ifaces := true, plainKeys := false, apart := false, laid := [("loop.example/g00574/impl.errTooLong", laid_loop_example_g00574_impl_errTooLong), ("loop.example/g00574/impl.errNotRight", laid_loop_example_g00574_impl_errNotRight), ("loop.example/g00574/impl.errNothing", laid_loop_example_g00574_impl_errNothing), ("loop.example/g00574/impl.errNoRoom", laid_loop_example_g00574_impl_errNoRoom)] }
def FnExactRunTapeSaid : Prop := fnExactRunTapeRow.holds Tryz.pinned (OpenSpec.ofChange fnExactRunTapeSpec)

/-- ITS FALSE NEIGHBOUR: 'it returns false'. Refute it at one input. -/
def fnExactRunTapeWrong : ChangeSpec := { name := "fnExactRunTape", vars := ["loop.example/g00574/impl.errTooLong", "loop.example/g00574/impl.errNotRight", "loop.example/g00574/impl.errNothing", "loop.example/g00574/impl.errNoRoom"], fn := fun _ => fun
  | [d1, d2, g1, g2, g3, g4] => { results := [.lit (.bool false)], args := [d1, d2], vars := [g1, g2, g3, g4] }
  | _ => none }
def FnExactRunTapeWrongFalsely : Prop := fnExactRunTapeRow.holds Tryz.pinned (OpenSpec.ofChange fnExactRunTapeWrong)

/-- 'laws.FnExactPlayTape': WHATEVER THE INPUT: true; the input reads as it did. -/
def fnExactPlayTapeSpec : ChangeSpec := { name := "fnExactPlayTape", vars := ["loop.example/g00574/impl.errNothing", "loop.example/g00574/impl.errTooLong", "loop.example/g00574/impl.errNotRight", "loop.example/g00574/impl.errNoRoom"], fn := fun _ => fun
  | [d1, d2, g1, g2, g3, g4] => { results := [.lit (.bool true)], args := [d1, d2], vars := [g1, g2, g3, g4] }
  | _ => none }
def fnExactPlayTapeRow : OpenClaim := { program := "ytdiiiijkhpdcbaagreatdoor", sum := "6aade289392a983b93f688efb5f3c0db4747e8cc5a3b21d6e3453dea42df43af", func := "loop.example/g00574/laws.FnExactPlayTape", spec := "fnExactPlayTape", inPlace := ["internal/reflectlite.TypeOf"], unfollowed := true, recurses := true, named := ["loop.example/g00574/impl.errNothing", "loop.example/g00574/impl.errTooLong", "loop.example/g00574/impl.errNotRight", "loop.example/g00574/impl.errNoRoom"], ifaces := true, plainKeys := false, apart := false, laid := [("loop.example/g00574/impl.errTooLong", laid_loop_example_g00574_impl_errTooLong), ("loop.example/g00574/impl.errNotRight", laid_loop_example_g00574_impl_errNotRight), ("loop.example/g00574/impl.errNothing", laid_loop_example_g00574_impl_errNothing), ("loop.example/g00574/impl.errNoRoom", laid_loop_example_g00574_impl_errNoRoom)] }
def FnExactPlayTapeSaid : Prop := fnExactPlayTapeRow.holds Tryz.pinned (OpenSpec.ofChange fnExactPlayTapeSpec)

/-- ITS FALSE NEIGHBOUR: 'it returns false'. Refute it at one input. -/
def fnExactPlayTapeWrong : ChangeSpec := { name := "fnExactPlayTape", vars := ["loop.example/g00574/impl.errNothing", "loop.example/g00574/impl.errTooLong", "loop.example/g00574/impl.errNotRight", "loop.example/g00574/impl.errNoRoom"], fn := fun _ => fun
  | [d1, d2, g1, g2, g3, g4] => { results := [.lit (.bool false)], args := [d1, d2], vars := [g1, g2, g3, g4] }
  | _ => none }
def FnExactPlayTapeWrongFalsely : Prop := fnExactPlayTapeRow.holds Tryz.pinned (OpenSpec.ofChange fnExactPlayTapeWrong)

/-- 'laws.FnExactFails': WHATEVER THE INPUT: true; the input reads as it did. -/
def fnExactFailsSpec : ChangeSpec := { name := "fnExactFails", vars := ["loop.example/g00574/impl.errNothing", "loop.example/g00574/impl.errTooLong", "loop.example/g00574/impl.errNotRight", "loop.example/g00574/impl.errNoRoom"], fn := fun _ => fun
  | [d1, d2, g1, g2, g3, g4] => { results := [.lit (.bool true)], args := [d1, d2], vars := [g1, g2, g3, g4] }
  | _ => none }
def fnExactFailsRow : OpenClaim := { program := "ytdiiiijkhpdcbaagreatdoor", sum := "6aade289392a983b93f688efb5f3c0db4747e8cc5a3b21d6e3453dea42df43af", func := "loop.example/g00574/laws.FnExactFails", spec := "fnExactFails", inPlace := ["internal/reflectlite.TypeOf"], unfollowed := true, recurses := true, named := ["loop.example/g00574/impl.errNothing", "loop.example/g00574/impl.errTooLong", "loop.example/g00574/impl.errNotRight", "loop.example/g00574/impl.errNoRoom"], ifaces := true, plainKeys := false, apart := false, laid := [("loop.example/g00574/impl.errTooLong", laid_loop_example_g00574_impl_errTooLong), ("loop.example/g00574/impl.errNotRight", laid_loop_example_g00574_impl_errNotRight), ("loop.example/g00574/impl.errNothing", laid_loop_example_g00574_impl_errNothing), ("loop.example/g00574/impl.errNoRoom", laid_loop_example_g00574_impl_errNoRoom)] }
def FnExactFailsSaid : Prop := fnExactFailsRow.holds Tryz.pinned (OpenSpec.ofChange fnExactFailsSpec)

/-- ITS FALSE NEIGHBOUR: 'it returns false'. Refute it at one input. -/
def fnExactFailsWrong : ChangeSpec := { name := "fnExactFails", vars := ["loop.example/g00574/impl.errNothing", "loop.example/g00574/impl.errTooLong", "loop.example/g00574/impl.errNotRight", "loop.example/g00574/impl.errNoRoom"], fn := fun _ => fun
  | [d1, d2, g1, g2, g3, g4] => { results := [.lit (.bool false)], args := [d1, d2], vars := [g1, g2, g3, g4] }
  | _ => none }
def FnExactFailsWrongFalsely : Prop := fnExactFailsRow.holds Tryz.pinned (OpenSpec.ofChange fnExactFailsWrong)

/-- 'laws.FnExactShrink': WHATEVER THE INPUT: true; the input reads as it did. -/
def fnExactShrinkSpec : ChangeSpec := { name := "fnExactShrink", vars := ["loop.example/g00574/impl.errNothing", "loop.example/g00574/impl.errTooLong", "loop.example/g00574/impl.errNotRight", "loop.example/g00574/impl.errNoRoom"], fn := fun _ => fun
  | [d1, d2, g1, g2, g3, g4] => { results := [.lit (.bool true)], args := [d1, d2], vars := [g1, g2, g3, g4] }
  | _ => none }
def fnExactShrinkRow : OpenClaim := { program := "ytdiiiijkhpdcbaagreatdoor", sum := "6aade289392a983b93f688efb5f3c0db4747e8cc5a3b21d6e3453dea42df43af", func := "loop.example/g00574/laws.FnExactShrink", spec := "fnExactShrink", inPlace := ["internal/reflectlite.TypeOf"], unfollowed := true, recurses := true, named := ["loop.example/g00574/impl.errNothing", "loop.example/g00574/impl.errTooLong", "loop.example/g00574/impl.errNotRight", "loop.example/g00574/impl.errNoRoom"], ifaces := true, plainKeys := false, apart := false, laid := [("loop.example/g00574/impl.errTooLong", laid_loop_example_g00574_impl_errTooLong), ("loop.example/g00574/impl.errNotRight", laid_loop_example_g00574_impl_errNotRight), ("loop.example/g00574/impl.errNothing", laid_loop_example_g00574_impl_errNothing), ("loop.example/g00574/impl.errNoRoom", laid_loop_example_g00574_impl_errNoRoom)] }
def FnExactShrinkSaid : Prop := fnExactShrinkRow.holds Tryz.pinned (OpenSpec.ofChange fnExactShrinkSpec)

/-- ITS FALSE NEIGHBOUR: 'it returns false'. Refute it at one input. -/
def fnExactShrinkWrong : ChangeSpec := { name := "fnExactShrink", vars := ["loop.example/g00574/impl.errNothing", "loop.example/g00574/impl.errTooLong", "loop.example/g00574/impl.errNotRight", "loop.example/g00574/impl.errNoRoom"], fn := fun _ => fun
  | [d1, d2, g1, g2, g3, g4] => { results := [.lit (.bool false)], args := [d1, d2], vars := [g1, g2, g3, g4] }
  | _ => none }
def FnExactShrinkWrongFalsely : Prop := fnExactShrinkRow.holds Tryz.pinned (OpenSpec.ofChange fnExactShrinkWrong)

/-- 'laws.FnExactLeast': WHATEVER THE INPUT: true; the input reads as it did. -/
def fnExactLeastSpec : ChangeSpec := { name := "fnExactLeast", vars := ["loop.example/g00574/impl.errNothing", "loop.example/g00574/impl.errTooLong", "loop.example/g00574/impl.errNotRight", "loop.example/g00574/impl.errNoRoom"], fn := fun _ => fun
  | [d1, d2, g1, g2, g3, g4] => { results := [.lit (.bool true)], args := [d1, d2], vars := [g1, g2, g3, g4] }
  | _ => none }
def fnExactLeastRow : OpenClaim := { program := "ytdiiiijkhpdcbaagreatdoor", sum := "6aade289392a983b93f688efb5f3c0db4747e8cc5a3b21d6e3453dea42df43af", func := "loop.example/g00574/laws.FnExactLeast", spec := "fnExactLeast", inPlace := ["internal/reflectlite.TypeOf"], unfollowed := true, recurses := true, named := ["loop.example/g00574/impl.errNothing", "loop.example/g00574/impl.errTooLong", "loop.example/g00574/impl.errNotRight", "loop.example/g00574/impl.errNoRoom"], ifaces := true, plainKeys := false, apart := false, laid := [("loop.example/g00574/impl.errTooLong", laid_loop_example_g00574_impl_errTooLong), ("loop.example/g00574/impl.errNotRight", laid_loop_example_g00574_impl_errNotRight), ("loop.example/g00574/impl.errNothing", laid_loop_example_g00574_impl_errNothing), ("loop.example/g00574/impl.errNoRoom", laid_loop_example_g00574_impl_errNoRoom)] }
def FnExactLeastSaid : Prop := fnExactLeastRow.holds Tryz.pinned (OpenSpec.ofChange fnExactLeastSpec)

/-- ITS FALSE NEIGHBOUR: 'it returns false'. Refute it at one input. -/
def fnExactLeastWrong : ChangeSpec := { name := "fnExactLeast", vars := ["loop.example/g00574/impl.errNothing", "loop.example/g00574/impl.errTooLong", "loop.example/g00574/impl.errNotRight", "loop.example/g00574/impl.errNoRoom"], fn := fun _ => fun
  | [d1, d2, g1, g2, g3, g4] => { results := [.lit (.bool false)], args := [d1, d2], vars := [g1, g2, g3, g4] }
  | _ => none }
def FnExactLeastWrongFalsely : Prop := fnExactLeastRow.holds Tryz.pinned (OpenSpec.ofChange fnExactLeastWrong)

/- THE SECOND FORM. 'bulk': how many values and letters a reading holds, each counted each time it is reached (what is shared counts as often as it is met; a slice's spare places count too). A statement '..UptoSaid' is the law's where the arguments, and the package variables that the reading takes, are together of bulk at most 1048576: NARROWER than '..Said'. Prove '..Said' where nothing that the law and all that it calls make is longer than what came in: it says more and counts as full. Else prove '..UptoSaid'. A law counts once. -/
mutual
def uptoBulk {H : Type} : DataW H → Nat
  | .lit (.string bytes) => bytes.length + 1
  | .lit _ => 1
  | .nil => 1
  | .ptr d => uptoBulk d + 1
  | .slice elems spare => uptoBulkAll elems + uptoBulkAll spare + 1
  | .agg parts => uptoBulkAll parts + 1
  | .iface _ d => uptoBulk d + 1
  | .map entries => uptoBulkEntries entries + 1
  | .held _ => 1
def uptoBulkAll {H : Type} : List (DataW H) → Nat
  | [] => 0
  | d :: r => uptoBulk d + uptoBulkAll r
def uptoBulkEntries {H : Type} : List (Lit × DataW H) → Nat
  | [] => 0
  | x :: r => uptoBulkEntry x + uptoBulkEntries r
def uptoBulkEntry {H : Type} : Lit × DataW H → Nat
  | (.string bytes, d) => bytes.length + uptoBulk d + 1
  | (_, d) => uptoBulk d + 1
 end
def uptoSmall : (H : Type) → List (DataW H) → Bool := fun _ ds => decide (uptoBulkAll ds ≤ 1048576)
def OpenSpec.upto (s : _root_.Go.ChangeSpec) : _root_.Go.OpenSpec := { _root_.Go.OpenSpec.ofChange s with cond := some uptoSmall }

/-- 'laws.FnExactRunPick', WHERE WHAT IT READS IS OF BULK AT MOST 1048576: true; the input reads as it did. -/
def fnExactRunPickUptoRow : OpenClaim := { program := "ytdiiiijkhpdcbaagreatdoor", sum := "6aade289392a983b93f688efb5f3c0db4747e8cc5a3b21d6e3453dea42df43af", func := "loop.example/g00574/laws.FnExactRunPick", spec := "fnExactRunPick", inPlace := ["internal/reflectlite.TypeOf"], unfollowed := true, recurses := true, named := ["loop.example/g00574/impl.errTooLong", "loop.example/g00574/impl.errNotRight", "loop.example/g00574/impl.errNothing", "loop.example/g00574/impl.errNoRoom"], ifaces := true, plainKeys := false, apart := false, laid := [("loop.example/g00574/impl.errTooLong", laid_loop_example_g00574_impl_errTooLong), ("loop.example/g00574/impl.errNotRight", laid_loop_example_g00574_impl_errNotRight), ("loop.example/g00574/impl.errNothing", laid_loop_example_g00574_impl_errNothing), ("loop.example/g00574/impl.errNoRoom", laid_loop_example_g00574_impl_errNoRoom)], narrowed := true }
def FnExactRunPickUptoSaid : Prop := fnExactRunPickUptoRow.holds Tryz.pinned (OpenSpec.upto fnExactRunPickSpec)

/-- 'laws.FnExactRunCan', WHERE WHAT IT READS IS OF BULK AT MOST 1048576: true; the input reads as it did. -/
def fnExactRunCanUptoRow : OpenClaim := { program := "ytdiiiijkhpdcbaagreatdoor", sum := "6aade289392a983b93f688efb5f3c0db4747e8cc5a3b21d6e3453dea42df43af", func := "loop.example/g00574/laws.FnExactRunCan", spec := "fnExactRunCan", inPlace := ["internal/reflectlite.TypeOf"], unfollowed := true, recurses := true, named := ["loop.example/g00574/impl.errTooLong", "loop.example/g00574/impl.errNotRight", "loop.example/g00574/impl.errNothing", "loop.example/g00574/impl.errNoRoom"], ifaces := true, plainKeys := false, apart := false, laid := [("loop.example/g00574/impl.errTooLong", laid_loop_example_g00574_impl_errTooLong), ("loop.example/g00574/impl.errNotRight", laid_loop_example_g00574_impl_errNotRight), ("loop.example/g00574/impl.errNothing", laid_loop_example_g00574_impl_errNothing), ("loop.example/g00574/impl.errNoRoom", laid_loop_example_g00574_impl_errNoRoom)], narrowed := true }
def FnExactRunCanUptoSaid : Prop := fnExactRunCanUptoRow.holds Tryz.pinned (OpenSpec.upto fnExactRunCanSpec)

/-- 'laws.FnExactRunTape', WHERE WHAT IT READS IS OF BULK AT MOST 1048576: true; the input reads as it did. -/
def fnExactRunTapeUptoRow : OpenClaim := { program := "ytdiiiijkhpdcbaagreatdoor", sum := "6aade289392a983b93f688efb5f3c0db4747e8cc5a3b21d6e3453dea42df43af", func := "loop.example/g00574/laws.FnExactRunTape", spec := "fnExactRunTape", inPlace := ["internal/reflectlite.TypeOf"], unfollowed := true, recurses := true, named := ["loop.example/g00574/impl.errTooLong", "loop.example/g00574/impl.errNotRight", "loop.example/g00574/impl.errNothing", "loop.example/g00574/impl.errNoRoom"], ifaces := true, plainKeys := false, apart := false, laid := [("loop.example/g00574/impl.errTooLong", laid_loop_example_g00574_impl_errTooLong), ("loop.example/g00574/impl.errNotRight", laid_loop_example_g00574_impl_errNotRight), ("loop.example/g00574/impl.errNothing", laid_loop_example_g00574_impl_errNothing), ("loop.example/g00574/impl.errNoRoom", laid_loop_example_g00574_impl_errNoRoom)], narrowed := true }
def FnExactRunTapeUptoSaid : Prop := fnExactRunTapeUptoRow.holds Tryz.pinned (OpenSpec.upto fnExactRunTapeSpec)

/-- 'laws.FnExactPlayTape', WHERE WHAT IT READS IS OF BULK AT MOST 1048576: true; the input reads as it did. -/
def fnExactPlayTapeUptoRow : OpenClaim := { program := "ytdiiiijkhpdcbaagreatdoor", sum := "6aade289392a983b93f688efb5f3c0db4747e8cc5a3b21d6e3453dea42df43af", func := "loop.example/g00574/laws.FnExactPlayTape", spec := "fnExactPlayTape", inPlace := ["internal/reflectlite.TypeOf"], unfollowed := true, recurses := true, named := ["loop.example/g00574/impl.errNothing", "loop.example/g00574/impl.errTooLong", "loop.example/g00574/impl.errNotRight", "loop.example/g00574/impl.errNoRoom"], ifaces := true, plainKeys := false, apart := false, laid := [("loop.example/g00574/impl.errTooLong", laid_loop_example_g00574_impl_errTooLong), ("loop.example/g00574/impl.errNotRight", laid_loop_example_g00574_impl_errNotRight), ("loop.example/g00574/impl.errNothing", laid_loop_example_g00574_impl_errNothing), ("loop.example/g00574/impl.errNoRoom", laid_loop_example_g00574_impl_errNoRoom)], narrowed := true }
def FnExactPlayTapeUptoSaid : Prop := fnExactPlayTapeUptoRow.holds Tryz.pinned (OpenSpec.upto fnExactPlayTapeSpec)

/-- 'laws.FnExactFails', WHERE WHAT IT READS IS OF BULK AT MOST 1048576: true; the input reads as it did. -/
def fnExactFailsUptoRow : OpenClaim := { program := "ytdiiiijkhpdcbaagreatdoor", sum := "6aade289392a983b93f688efb5f3c0db4747e8cc5a3b21d6e3453dea42df43af", func := "loop.example/g00574/laws.FnExactFails", spec := "fnExactFails", inPlace := ["internal/reflectlite.TypeOf"], unfollowed := true, recurses := true, named := ["loop.example/g00574/impl.errNothing", "loop.example/g00574/impl.errTooLong", "loop.example/g00574/impl.errNotRight", "loop.example/g00574/impl.errNoRoom"], ifaces := true, plainKeys := false, apart := false, laid := [("loop.example/g00574/impl.errTooLong", laid_loop_example_g00574_impl_errTooLong), ("loop.example/g00574/impl.errNotRight", laid_loop_example_g00574_impl_errNotRight), ("loop.example/g00574/impl.errNothing", laid_loop_example_g00574_impl_errNothing), ("loop.example/g00574/impl.errNoRoom", laid_loop_example_g00574_impl_errNoRoom)], narrowed := true }
def FnExactFailsUptoSaid : Prop := fnExactFailsUptoRow.holds Tryz.pinned (OpenSpec.upto fnExactFailsSpec)

/-- 'laws.FnExactShrink', WHERE WHAT IT READS IS OF BULK AT MOST 1048576: true; the input reads as it did. -/
def fnExactShrinkUptoRow : OpenClaim := { program := "ytdiiiijkhpdcbaagreatdoor", sum := "6aade289392a983b93f688efb5f3c0db4747e8cc5a3b21d6e3453dea42df43af", func := "loop.example/g00574/laws.FnExactShrink", spec := "fnExactShrink", inPlace := ["internal/reflectlite.TypeOf"], unfollowed := true, recurses := true, named := ["loop.example/g00574/impl.errNothing", "loop.example/g00574/impl.errTooLong", "loop.example/g00574/impl.errNotRight", "loop.example/g00574/impl.errNoRoom"], ifaces := true, plainKeys := false, apart := false, laid := [("loop.example/g00574/impl.errTooLong", laid_loop_example_g00574_impl_errTooLong), ("loop.example/g00574/impl.errNotRight", laid_loop_example_g00574_impl_errNotRight), ("loop.example/g00574/impl.errNothing", laid_loop_example_g00574_impl_errNothing), ("loop.example/g00574/impl.errNoRoom", laid_loop_example_g00574_impl_errNoRoom)], narrowed := true }
def FnExactShrinkUptoSaid : Prop := fnExactShrinkUptoRow.holds Tryz.pinned (OpenSpec.upto fnExactShrinkSpec)

/-- 'laws.FnExactLeast', WHERE WHAT IT READS IS OF BULK AT MOST 1048576: true; the input reads as it did. -/
def fnExactLeastUptoRow : OpenClaim := { program := "ytdiiiijkhpdcbaagreatdoor", sum := "6aade289392a983b93f688efb5f3c0db4747e8cc5a3b21d6e3453dea42df43af", func := "loop.example/g00574/laws.FnExactLeast", spec := "fnExactLeast", inPlace := ["internal/reflectlite.TypeOf"], unfollowed := true, recurses := true, named := ["loop.example/g00574/impl.errNothing", "loop.example/g00574/impl.errTooLong", "loop.example/g00574/impl.errNotRight", "loop.example/g00574/impl.errNoRoom"], ifaces := true, plainKeys := false, apart := false, laid := [("loop.example/g00574/impl.errTooLong", laid_loop_example_g00574_impl_errTooLong), ("loop.example/g00574/impl.errNotRight", laid_loop_example_g00574_impl_errNotRight), ("loop.example/g00574/impl.errNothing", laid_loop_example_g00574_impl_errNothing), ("loop.example/g00574/impl.errNoRoom", laid_loop_example_g00574_impl_errNoRoom)], narrowed := true }
def FnExactLeastUptoSaid : Prop := fnExactLeastUptoRow.holds Tryz.pinned (OpenSpec.upto fnExactLeastSpec)

end Rows
end Go.Proofs.YtdiiiijkhpdcbaaGreatDoor
