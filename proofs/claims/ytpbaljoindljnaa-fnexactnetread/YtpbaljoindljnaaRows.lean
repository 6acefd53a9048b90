/-
  No cell of these rows narrows 'for every input' (looked for: loops, veiled, ifaces, maps, wideKeys, modest, calm, conditions, laid).
  DERIVED. THE GIVEN ROWS OF THIS SEAT. 4 by the template 'for every input the law returns true; each argument reads behind the call as it read before'; 0 by the template 'total and deterministic' (their statements: YtpbaljoindljnaaTotals.lean).
  GIVEN WITH THE SEED: the statements are not yours to turn. If you find one false, say at which input.
  Laid BY PROGRAM, IN A SANDBOX (cutbox-rows.mjs): the forced cells as the released guide's own fill.sh prints them over the translation 592ad375a29fe829… (all of the seat's roots in one cut). By AI agents, Wed Nov 11 2026. No macro, syntax, notation, axiom, sorry.
-/
import Derived.Test.YtpbaljoindljnaaChecked
import GoSem.Claim
import GoSem.ClaimJoined
import GoSem.ClaimMapViews
import Derived.JoinedTies
import Derived.KernelRfl
namespace Go.Proofs.Ytpbaljoindljnaa
/- THE CELL 'sum', in the pinned program and in every row, IS THE sha256 OF THE DUMP (.gsa) THAT YtpbaljoindljnaaProg.lean LOADS. Nothing in Lean hashes anything: it is a label: what it is worth is what the hold of that sum in a sandbox is worth. -/
noncomputable def Try.pinned : Pinned := { name := "ytpbaljoindljnaa", sum := "592ad375a29fe8291a3057004d6d30bb3c14854791936739650651b948abea4e", checked := Try.checked }
namespace Rows
def none {H : Type} : Left H := { results := [], args := [] }

/-- 'laws.FnExactMsgRight': WHATEVER THE INPUT: true; the input reads as it did. -/
def fnExactMsgRightSpec : ChangeSpec := { name := "fnExactMsgRight", fn := fun _ => fun
  | [d] => { results := [.lit (.bool true)], args := [d] }
  | _ => none }
def fnExactMsgRightRow : OpenClaim := { program := "ytpbaljoindljnaa", sum := "592ad375a29fe8291a3057004d6d30bb3c14854791936739650651b948abea4e", func := "loop.example/g00574/laws.FnExactMsgRight", spec := "fnExactMsgRight", plainKeys := false, apart := false }
def FnExactMsgRightSaid : Prop := fnExactMsgRightRow.holds Try.pinned (OpenSpec.ofChange fnExactMsgRightSpec)

/-- ITS FALSE NEIGHBOUR: 'it returns false'. Refute it at one input. -/
def fnExactMsgRightWrong : ChangeSpec := { name := "fnExactMsgRight", fn := fun _ => fun
  | [d] => { results := [.lit (.bool false)], args := [d] }
  | _ => none }
def FnExactMsgRightWrongFalsely : Prop := fnExactMsgRightRow.holds Try.pinned (OpenSpec.ofChange fnExactMsgRightWrong)

/-- 'laws.FnExactNetRight': WHATEVER THE INPUT: true; the input reads as it did. -/
def fnExactNetRightSpec : ChangeSpec := { name := "fnExactNetRight", fn := fun _ => fun
  | [d] => { results := [.lit (.bool true)], args := [d] }
  | _ => none }
def fnExactNetRightRow : OpenClaim := { program := "ytpbaljoindljnaa", sum := "592ad375a29fe8291a3057004d6d30bb3c14854791936739650651b948abea4e", func := "loop.example/g00574/laws.FnExactNetRight", spec := "fnExactNetRight", plainKeys := false, apart := false }
def FnExactNetRightSaid : Prop := fnExactNetRightRow.holds Try.pinned (OpenSpec.ofChange fnExactNetRightSpec)

/-- ITS FALSE NEIGHBOUR: 'it returns false'. Refute it at one input. -/
def fnExactNetRightWrong : ChangeSpec := { name := "fnExactNetRight", fn := fun _ => fun
  | [d] => { results := [.lit (.bool false)], args := [d] }
  | _ => none }
def FnExactNetRightWrongFalsely : Prop := fnExactNetRightRow.holds Try.pinned (OpenSpec.ofChange fnExactNetRightWrong)

/-- 'laws.FnExactNetBytes': WHATEVER THE INPUT: true; the input reads as it did. -/
def fnExactNetBytesSpec : ChangeSpec := { name := "fnExactNetBytes", fn := fun _ => fun
  | [d] => { results := [.lit (.bool true)], args := [d] }
  | _ => none }
def fnExactNetBytesRow : OpenClaim := { program := "ytpbaljoindljnaa", sum := "592ad375a29fe8291a3057004d6d30bb3c14854791936739650651b948abea4e", func := "loop.example/g00574/laws.FnExactNetBytes", spec := "fnExactNetBytes", plainKeys := false, apart := false }
def FnExactNetBytesSaid : Prop := fnExactNetBytesRow.holds Try.pinned (OpenSpec.ofChange fnExactNetBytesSpec)

/-- ITS FALSE NEIGHBOUR: 'it returns false'. Refute it at one input. -/
def fnExactNetBytesWrong : ChangeSpec := { name := "fnExactNetBytes", fn := fun _ => fun
  | [d] => { results := [.lit (.bool false)], args := [d] }
  | _ => none }
def FnExactNetBytesWrongFalsely : Prop := fnExactNetBytesRow.holds Try.pinned (OpenSpec.ofChange fnExactNetBytesWrong)

/-- 'laws.FnExactNetRead': WHATEVER THE INPUT: true; the input reads as it did. -/
def fnExactNetReadSpec : ChangeSpec := { name := "fnExactNetRead", fn := fun _ => fun
  | [d] => { results := [.lit (.bool true)], args := [d] }
  | _ => none }
def fnExactNetReadRow : OpenClaim := { program := "ytpbaljoindljnaa", sum := "592ad375a29fe8291a3057004d6d30bb3c14854791936739650651b948abea4e", func := "loop.example/g00574/laws.FnExactNetRead", spec := "fnExactNetRead", plainKeys := false, apart := false }
def FnExactNetReadSaid : Prop := fnExactNetReadRow.holds Try.pinned (OpenSpec.ofChange fnExactNetReadSpec)

/-- ITS FALSE NEIGHBOUR: 'it returns false'. Refute it at one input. -/
def fnExactNetReadWrong : ChangeSpec := { name := "fnExactNetRead", fn := fun _ => fun
  | [d] => { results := [.lit (.bool false)], args := [d] }
  | _ => none }
def FnExactNetReadWrongFalsely : Prop := fnExactNetReadRow.holds Try.pinned (OpenSpec.ofChange fnExactNetReadWrong)

/- THE SECOND FORM. 'bulk': how many values and letters a reading holds, each counted each time it is reached (what is shared counts as often as it is met; a slice's spare places count too). A statement '..UptoSaid' is the law's where the arguments, and the package variables that the reading takes, are together of bulk at most 1048576: NARROWER than '..Said'. Prove '..Said' where nothing that the law and all that it calls make is longer than what came in: it says more and counts as full. Else prove '..UptoSaid'. A law counts once. -/
mutual
def uptoBulk {H : Type} : DataW H → Nat
  | .lit (.string bytes) => bytes.length + 1
  | .lit _ => 1
  | .nil => 1
  | .ptr d => uptoBulk d + 1
  | .slice elems spare => uptoBulkAll elems + uptoBulkAll spare + 1
  | .agg parts => uptoBulkAll parts + 1
  | .iface _ d => uptoBulk d + 1
  | .map entries => uptoBulkEntries entries + 1
  | .held _ => 1
def uptoBulkAll {H : Type} : List (DataW H) → Nat
  | [] => 0
  | d :: r => uptoBulk d + uptoBulkAll r
def uptoBulkEntries {H : Type} : List (Lit × DataW H) → Nat
  | [] => 0
  | x :: r => uptoBulkEntry x + uptoBulkEntries r
def uptoBulkEntry {H : Type} : Lit × DataW H → Nat
  | (.string bytes, d) => bytes.length + uptoBulk d + 1
  | (_, d) => uptoBulk d + 1
 end
def uptoSmall : (H : Type) → List (DataW H) → Bool := fun _ ds => decide (uptoBulkAll ds ≤ 1048576)
def OpenSpec.upto (s : _root_.Go.ChangeSpec) : _root_.Go.OpenSpec := { _root_.Go.OpenSpec.ofChange s with cond := some uptoSmall }

/-- 'laws.FnExactMsgRight', WHERE WHAT IT READS IS OF BULK AT MOST 1048576: true; the input reads as it did. -/
def fnExactMsgRightUptoRow : OpenClaim := { program := "ytpbaljoindljnaa", sum := "592ad375a29fe8291a3057004d6d30bb3c14854791936739650651b948abea4e", func := "loop.example/g00574/laws.FnExactMsgRight", spec := "fnExactMsgRight", plainKeys := false, apart := false, narrowed := true }
def FnExactMsgRightUptoSaid : Prop := fnExactMsgRightUptoRow.holds Try.pinned (OpenSpec.upto fnExactMsgRightSpec)

/-- 'laws.FnExactNetRight', WHERE WHAT IT READS IS OF BULK AT MOST 1048576: true; the input reads as it did. -/
def fnExactNetRightUptoRow : OpenClaim := { program := "ytpbaljoindljnaa", sum := "592ad375a29fe8291a3057004d6d30bb3c14854791936739650651b948abea4e", func := "loop.example/g00574/laws.FnExactNetRight", spec := "fnExactNetRight", plainKeys := false, apart := false, narrowed := true }
def FnExactNetRightUptoSaid : Prop := fnExactNetRightUptoRow.holds Try.pinned (OpenSpec.upto fnExactNetRightSpec)

/-- 'laws.FnExactNetBytes', WHERE WHAT IT READS IS OF BULK AT MOST 1048576: true; the input reads as it did. -/
def fnExactNetBytesUptoRow : OpenClaim := { program := "ytpbaljoindljnaa", sum := "592ad375a29fe8291a3057004d6d30bb3c14854791936739650651b948abea4e", func := "loop.example/g00574/laws.FnExactNetBytes", spec := "fnExactNetBytes", plainKeys := false, apart := false, narrowed := true }
def FnExactNetBytesUptoSaid : Prop := fnExactNetBytesUptoRow.holds Try.pinned (OpenSpec.upto fnExactNetBytesSpec)

/-- 'laws.FnExactNetRead', WHERE WHAT IT READS IS OF BULK AT MOST 1048576: true; the input reads as it did. -/
def fnExactNetReadUptoRow : OpenClaim := { program := "ytpbaljoindljnaa", sum := "592ad375a29fe8291a3057004d6d30bb3c14854791936739650651b948abea4e", func := "loop.example/g00574/laws.FnExactNetRead", spec := "fnExactNetRead", plainKeys := false, apart := false, narrowed := true }
def FnExactNetReadUptoSaid : Prop := fnExactNetReadUptoRow.holds Try.pinned (OpenSpec.upto fnExactNetReadSpec)

end Rows
end Go.Proofs.Ytpbaljoindljnaa
