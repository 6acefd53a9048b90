/-
  No cell of these rows narrows 'for every input' (looked for: loops, veiled, ifaces, maps, wideKeys, modest, calm, conditions, laid).
  DERIVED. THE GIVEN ROWS OF THIS SEAT. 10 by the template 'for every input the law returns true; each argument reads behind the call as it read before'; 0 by the template 'total and deterministic' (their statements: YthaomohoiginnaaTotals.lean).
  GIVEN WITH THE SEED: the statements are not yours to turn. If you find one false, say at which input.
  Laid BY PROGRAM, IN A SANDBOX (cutbox-rows.mjs): the forced cells as the released guide's own fill.sh prints them over the translation 58e81a77bc4dede7… (all of the seat's roots in one cut). By AI agents, Wed Nov 11 2026. No macro, syntax, notation, axiom, sorry.
-/
import Derived.Test.YthaomohoiginnaaChecked
import GoSem.Claim
import GoSem.ClaimJoined
import GoSem.ClaimMapViews
import Derived.JoinedTies
import Derived.KernelRfl
namespace Go.Proofs.Ythaomohoiginnaa
/- THE CELL 'sum', in the pinned program and in every row, IS THE sha256 OF THE DUMP (.gsa) THAT YthaomohoiginnaaProg.lean LOADS. Nothing in Lean hashes anything: it is a label: what it is worth is what the hold of that sum in a sandbox is worth. -/
noncomputable def Try.pinned : Pinned := { name := "ythaomohoiginnaa", sum := "58e81a77bc4dede7eb5fd23a1ffab3972b301076783fec15b8a3e387caf453dc", checked := Try.checked }
namespace Rows
def none {H : Type} : Left H := { results := [], args := [] }

/-- 'laws.FnExactPartRight': WHATEVER THE INPUT: true; the input reads as it did. -/
def fnExactPartRightSpec : ChangeSpec := { name := "fnExactPartRight", fn := fun _ => fun
  | [d] => { results := [.lit (.bool true)], args := [d] }
  | _ => none }
def fnExactPartRightRow : OpenClaim := { program := "ythaomohoiginnaa", sum := "58e81a77bc4dede7eb5fd23a1ffab3972b301076783fec15b8a3e387caf453dc", func := "loop.example/g00574/laws.FnExactPartRight", spec := "fnExactPartRight", recurses := true, plainKeys := false, apart := false }
def FnExactPartRightSaid : Prop := fnExactPartRightRow.holds Try.pinned (OpenSpec.ofChange fnExactPartRightSpec)

/-- ITS FALSE NEIGHBOUR: 'it returns false'. Refute it at one input. -/
def fnExactPartRightWrong : ChangeSpec := { name := "fnExactPartRight", fn := fun _ => fun
  | [d] => { results := [.lit (.bool false)], args := [d] }
  | _ => none }
def FnExactPartRightWrongFalsely : Prop := fnExactPartRightRow.holds Try.pinned (OpenSpec.ofChange fnExactPartRightWrong)

/-- 'laws.FnExactPartOf': WHATEVER THE INPUT: true; the input reads as it did. -/
def fnExactPartOfSpec : ChangeSpec := { name := "fnExactPartOf", fn := fun _ => fun
  | [d1, d2] => { results := [.lit (.bool true)], args := [d1, d2] }
  | _ => none }
def fnExactPartOfRow : OpenClaim := { program := "ythaomohoiginnaa", sum := "58e81a77bc4dede7eb5fd23a1ffab3972b301076783fec15b8a3e387caf453dc", func := "loop.example/g00574/laws.FnExactPartOf", spec := "fnExactPartOf", unfollowed := true, recurses := true, plainKeys := false, apart := false }
def FnExactPartOfSaid : Prop := fnExactPartOfRow.holds Try.pinned (OpenSpec.ofChange fnExactPartOfSpec)

/-- ITS FALSE NEIGHBOUR: 'it returns false'. Refute it at one input. -/
def fnExactPartOfWrong : ChangeSpec := { name := "fnExactPartOf", fn := fun _ => fun
  | [d1, d2] => { results := [.lit (.bool false)], args := [d1, d2] }
  | _ => none }
def FnExactPartOfWrongFalsely : Prop := fnExactPartOfRow.holds Try.pinned (OpenSpec.ofChange fnExactPartOfWrong)

/-- 'laws.FnExactMachineRight': WHATEVER THE INPUT: true; the input reads as it did. -/
def fnExactMachineRightSpec : ChangeSpec := { name := "fnExactMachineRight", fn := fun _ => fun
  | [d] => { results := [.lit (.bool true)], args := [d] }
  | _ => none }
def fnExactMachineRightRow : OpenClaim := { program := "ythaomohoiginnaa", sum := "58e81a77bc4dede7eb5fd23a1ffab3972b301076783fec15b8a3e387caf453dc", func := "loop.example/g00574/laws.FnExactMachineRight", spec := "fnExactMachineRight", plainKeys := false, apart := false }
def FnExactMachineRightSaid : Prop := fnExactMachineRightRow.holds Try.pinned (OpenSpec.ofChange fnExactMachineRightSpec)

/-- ITS FALSE NEIGHBOUR: 'it returns false'. Refute it at one input. -/
def fnExactMachineRightWrong : ChangeSpec := { name := "fnExactMachineRight", fn := fun _ => fun
  | [d] => { results := [.lit (.bool false)], args := [d] }
  | _ => none }
def FnExactMachineRightWrongFalsely : Prop := fnExactMachineRightRow.holds Try.pinned (OpenSpec.ofChange fnExactMachineRightWrong)

/-- 'laws.FnExactMachineOf': WHATEVER THE INPUT: true; the input reads as it did. -/
def fnExactMachineOfSpec : ChangeSpec := { name := "fnExactMachineOf", fn := fun _ => fun
  | [d] => { results := [.lit (.bool true)], args := [d] }
  | _ => none }
def fnExactMachineOfRow : OpenClaim := { program := "ythaomohoiginnaa", sum := "58e81a77bc4dede7eb5fd23a1ffab3972b301076783fec15b8a3e387caf453dc", func := "loop.example/g00574/laws.FnExactMachineOf", spec := "fnExactMachineOf", unfollowed := true, recurses := true, plainKeys := false, apart := false }
def FnExactMachineOfSaid : Prop := fnExactMachineOfRow.holds Try.pinned (OpenSpec.ofChange fnExactMachineOfSpec)

/-- ITS FALSE NEIGHBOUR: 'it returns false'. Refute it at one input. -/
def fnExactMachineOfWrong : ChangeSpec := { name := "fnExactMachineOf", fn := fun _ => fun
  | [d] => { results := [.lit (.bool false)], args := [d] }
  | _ => none }
def FnExactMachineOfWrongFalsely : Prop := fnExactMachineOfRow.holds Try.pinned (OpenSpec.ofChange fnExactMachineOfWrong)

/-- 'laws.FnExactStepOf': WHATEVER THE INPUT: true; the input reads as it did. -/
def fnExactStepOfSpec : ChangeSpec := { name := "fnExactStepOf", fn := fun _ => fun
  | [d1, d2, d3] => { results := [.lit (.bool true)], args := [d1, d2, d3] }
  | _ => none }
def fnExactStepOfRow : OpenClaim := { program := "ythaomohoiginnaa", sum := "58e81a77bc4dede7eb5fd23a1ffab3972b301076783fec15b8a3e387caf453dc", func := "loop.example/g00574/laws.FnExactStepOf", spec := "fnExactStepOf", plainKeys := false, apart := false }
def FnExactStepOfSaid : Prop := fnExactStepOfRow.holds Try.pinned (OpenSpec.ofChange fnExactStepOfSpec)

/-- ITS FALSE NEIGHBOUR: 'it returns false'. Refute it at one input. -/
def fnExactStepOfWrong : ChangeSpec := { name := "fnExactStepOf", fn := fun _ => fun
  | [d1, d2, d3] => { results := [.lit (.bool false)], args := [d1, d2, d3] }
  | _ => none }
def FnExactStepOfWrongFalsely : Prop := fnExactStepOfRow.holds Try.pinned (OpenSpec.ofChange fnExactStepOfWrong)

/-- 'laws.FnExactFollow': WHATEVER THE INPUT: true; the input reads as it did. -/
def fnExactFollowSpec : ChangeSpec := { name := "fnExactFollow", fn := fun _ => fun
  | [d1, d2] => { results := [.lit (.bool true)], args := [d1, d2] }
  | _ => none }
def fnExactFollowRow : OpenClaim := { program := "ythaomohoiginnaa", sum := "58e81a77bc4dede7eb5fd23a1ffab3972b301076783fec15b8a3e387caf453dc", func := "loop.example/g00574/laws.FnExactFollow", spec := "fnExactFollow", plainKeys := false, apart := false }
def FnExactFollowSaid : Prop := fnExactFollowRow.holds Try.pinned (OpenSpec.ofChange fnExactFollowSpec)

/-- ITS FALSE NEIGHBOUR: 'it returns false'. Refute it at one input. -/
def fnExactFollowWrong : ChangeSpec := { name := "fnExactFollow", fn := fun _ => fun
  | [d1, d2] => { results := [.lit (.bool false)], args := [d1, d2] }
  | _ => none }
def FnExactFollowWrongFalsely : Prop := fnExactFollowRow.holds Try.pinned (OpenSpec.ofChange fnExactFollowWrong)

/-- 'laws.FnExactMachineBytes': WHATEVER THE INPUT: true; the input reads as it did. -/
def fnExactMachineBytesSpec : ChangeSpec := { name := "fnExactMachineBytes", fn := fun _ => fun
  | [d] => { results := [.lit (.bool true)], args := [d] }
  | _ => none }
def fnExactMachineBytesRow : OpenClaim := { program := "ythaomohoiginnaa", sum := "58e81a77bc4dede7eb5fd23a1ffab3972b301076783fec15b8a3e387caf453dc", func := "loop.example/g00574/laws.FnExactMachineBytes", spec := "fnExactMachineBytes", plainKeys := false, apart := false }
def FnExactMachineBytesSaid : Prop := fnExactMachineBytesRow.holds Try.pinned (OpenSpec.ofChange fnExactMachineBytesSpec)

/-- ITS FALSE NEIGHBOUR: 'it returns false'. Refute it at one input. -/
def fnExactMachineBytesWrong : ChangeSpec := { name := "fnExactMachineBytes", fn := fun _ => fun
  | [d] => { results := [.lit (.bool false)], args := [d] }
  | _ => none }
def FnExactMachineBytesWrongFalsely : Prop := fnExactMachineBytesRow.holds Try.pinned (OpenSpec.ofChange fnExactMachineBytesWrong)

/-- 'laws.FnExactMachineRead': WHATEVER THE INPUT: true; the input reads as it did. -/
def fnExactMachineReadSpec : ChangeSpec := { name := "fnExactMachineRead", fn := fun _ => fun
  | [d] => { results := [.lit (.bool true)], args := [d] }
  | _ => none }
def fnExactMachineReadRow : OpenClaim := { program := "ythaomohoiginnaa", sum := "58e81a77bc4dede7eb5fd23a1ffab3972b301076783fec15b8a3e387caf453dc", func := "loop.example/g00574/laws.FnExactMachineRead", spec := "fnExactMachineRead", plainKeys := false, apart := false }
def FnExactMachineReadSaid : Prop := fnExactMachineReadRow.holds Try.pinned (OpenSpec.ofChange fnExactMachineReadSpec)

/-- ITS FALSE NEIGHBOUR: 'it returns false'. Refute it at one input. -/
def fnExactMachineReadWrong : ChangeSpec := { name := "fnExactMachineRead", fn := fun _ => fun
  | [d] => { results := [.lit (.bool false)], args := [d] }
  | _ => none }
def FnExactMachineReadWrongFalsely : Prop := fnExactMachineReadRow.holds Try.pinned (OpenSpec.ofChange fnExactMachineReadWrong)

/-- 'laws.FnExactTapeRight': WHATEVER THE INPUT: true; the input reads as it did. -/
def fnExactTapeRightSpec : ChangeSpec := { name := "fnExactTapeRight", fn := fun _ => fun
  | [d] => { results := [.lit (.bool true)], args := [d] }
  | _ => none }
def fnExactTapeRightRow : OpenClaim := { program := "ythaomohoiginnaa", sum := "58e81a77bc4dede7eb5fd23a1ffab3972b301076783fec15b8a3e387caf453dc", func := "loop.example/g00574/laws.FnExactTapeRight", spec := "fnExactTapeRight", plainKeys := false, apart := false }
def FnExactTapeRightSaid : Prop := fnExactTapeRightRow.holds Try.pinned (OpenSpec.ofChange fnExactTapeRightSpec)

/-- ITS FALSE NEIGHBOUR: 'it returns false'. Refute it at one input. -/
def fnExactTapeRightWrong : ChangeSpec := { name := "fnExactTapeRight", fn := fun _ => fun
  | [d] => { results := [.lit (.bool false)], args := [d] }
  | _ => none }
def FnExactTapeRightWrongFalsely : Prop := fnExactTapeRightRow.holds Try.pinned (OpenSpec.ofChange fnExactTapeRightWrong)

/-- 'laws.FnExactWatch': WHATEVER THE INPUT: true; the input reads as it did. -/
def fnExactWatchSpec : ChangeSpec := { name := "fnExactWatch", fn := fun _ => fun
  | [d1, d2] => { results := [.lit (.bool true)], args := [d1, d2] }
  | _ => none }
def fnExactWatchRow : OpenClaim := { program := "ythaomohoiginnaa", sum := "58e81a77bc4dede7eb5fd23a1ffab3972b301076783fec15b8a3e387caf453dc", func := "loop.example/g00574/laws.FnExactWatch", spec := "fnExactWatch", plainKeys := false, apart := false }
def FnExactWatchSaid : Prop := fnExactWatchRow.holds Try.pinned (OpenSpec.ofChange fnExactWatchSpec)

/-- ITS FALSE NEIGHBOUR: 'it returns false'. Refute it at one input. -/
def fnExactWatchWrong : ChangeSpec := { name := "fnExactWatch", fn := fun _ => fun
  | [d1, d2] => { results := [.lit (.bool false)], args := [d1, d2] }
  | _ => none }
def FnExactWatchWrongFalsely : Prop := fnExactWatchRow.holds Try.pinned (OpenSpec.ofChange fnExactWatchWrong)

/- THE SECOND FORM. 'bulk': how many values and letters a reading holds, each counted each time it is reached (what is shared counts as often as it is met; a slice's spare places count too). A statement '..UptoSaid' is the law's where the arguments, and the package variables that the reading takes, are together of bulk at most 1048576: NARROWER than '..Said'. Prove '..Said' where nothing that the law and all that it calls make is longer than what came in: it says more and counts as full. Else prove '..UptoSaid'. A law counts once. -/
mutual
def uptoBulk {H : Type} : DataW H → Nat
  | .lit (.string bytes) => bytes.length + 1
  | .lit _ => 1
  | .nil => 1
  | .ptr d => uptoBulk d + 1
  | .slice elems spare => uptoBulkAll elems + uptoBulkAll spare + 1
  | .agg parts => uptoBulkAll parts + 1
  | .iface _ d => uptoBulk d + 1
  | .map entries => uptoBulkEntries entries + 1
  | .held _ => 1
def uptoBulkAll {H : Type} : List (DataW H) → Nat
  | [] => 0
  | d :: r => uptoBulk d + uptoBulkAll r
def uptoBulkEntries {H : Type} : List (Lit × DataW H) → Nat
  | [] => 0
  | x :: r => uptoBulkEntry x + uptoBulkEntries r
def uptoBulkEntry {H : Type} : Lit × DataW H → Nat
  | (.string bytes, d) => bytes.length + uptoBulk d + 1
  | (_, d) => uptoBulk d + 1
 end
def uptoSmall : (H : Type) → List (DataW H) → Bool := fun _ ds => decide (uptoBulkAll ds ≤ 1048576)
def OpenSpec.upto (s : _root_.Go.ChangeSpec) : _root_.Go.OpenSpec := { _root_.Go.OpenSpec.ofChange s with cond := some uptoSmall }

/-- 'laws.FnExactPartRight', WHERE WHAT IT READS IS OF BULK AT MOST 1048576: true; the input reads as it did. -/
def fnExactPartRightUptoRow : OpenClaim := { program := "ythaomohoiginnaa", sum := "58e81a77bc4dede7eb5fd23a1ffab3972b301076783fec15b8a3e387caf453dc", func := "loop.example/g00574/laws.FnExactPartRight", spec := "fnExactPartRight", recurses := true, plainKeys := false, apart := false, narrowed := true }
def FnExactPartRightUptoSaid : Prop := fnExactPartRightUptoRow.holds Try.pinned (OpenSpec.upto fnExactPartRightSpec)

/-- 'laws.FnExactPartOf', WHERE WHAT IT READS IS OF BULK AT MOST 1048576: true; the input reads as it did. -/
def fnExactPartOfUptoRow : OpenClaim := { program := "ythaomohoiginnaa", sum := "58e81a77bc4dede7eb5fd23a1ffab3972b301076783fec15b8a3e387caf453dc", func := "loop.example/g00574/laws.FnExactPartOf", spec := "fnExactPartOf", unfollowed := true, recurses := true, plainKeys := false, apart := false, narrowed := true }
def FnExactPartOfUptoSaid : Prop := fnExactPartOfUptoRow.holds Try.pinned (OpenSpec.upto fnExactPartOfSpec)

/-- 'laws.FnExactMachineRight', WHERE WHAT IT READS IS OF BULK AT MOST 1048576: true; the input reads as it did. -/
def fnExactMachineRightUptoRow : OpenClaim := { program := "ythaomohoiginnaa", sum := "58e81a77bc4dede7eb5fd23a1ffab3972b301076783fec15b8a3e387caf453dc", func := "loop.example/g00574/laws.FnExactMachineRight", spec := "fnExactMachineRight", plainKeys := false, apart := false, narrowed := true }
def FnExactMachineRightUptoSaid : Prop := fnExactMachineRightUptoRow.holds Try.pinned (OpenSpec.upto fnExactMachineRightSpec)

/-- 'laws.FnExactMachineOf', WHERE WHAT IT READS IS OF BULK AT MOST 1048576: true; the input reads as it did. -/
def fnExactMachineOfUptoRow : OpenClaim := { program := "ythaomohoiginnaa", sum := "58e81a77bc4dede7eb5fd23a1ffab3972b301076783fec15b8a3e387caf453dc", func := "loop.example/g00574/laws.FnExactMachineOf", spec := "fnExactMachineOf", unfollowed := true, recurses := true, plainKeys := false, apart := false, narrowed := true }
def FnExactMachineOfUptoSaid : Prop := fnExactMachineOfUptoRow.holds Try.pinned (OpenSpec.upto fnExactMachineOfSpec)

/-- 'laws.FnExactStepOf', WHERE WHAT IT READS IS OF BULK AT MOST 1048576: true; the input reads as it did. -/
def fnExactStepOfUptoRow : OpenClaim := { program := "ythaomohoiginnaa", sum := "58e81a77bc4dede7eb5fd23a1ffab3972b301076783fec15b8a3e387caf453dc", func := "loop.example/g00574/laws.FnExactStepOf", spec := "fnExactStepOf", plainKeys := false, apart := false, narrowed := true }
def FnExactStepOfUptoSaid : Prop := fnExactStepOfUptoRow.holds Try.pinned (OpenSpec.upto fnExactStepOfSpec)

/-- 'laws.FnExactFollow', WHERE WHAT IT READS IS OF BULK AT MOST 1048576: true; the input reads as it did. -/
def fnExactFollowUptoRow : OpenClaim := { program := "ythaomohoiginnaa", sum := "58e81a77bc4dede7eb5fd23a1ffab3972b301076783fec15b8a3e387caf453dc", func := "loop.example/g00574/laws.FnExactFollow", spec := "fnExactFollow", plainKeys := false, apart := false, narrowed := true }
def FnExactFollowUptoSaid : Prop := fnExactFollowUptoRow.holds Try.pinned (OpenSpec.upto fnExactFollowSpec)

/-- 'laws.FnExactMachineBytes', WHERE WHAT IT READS IS OF BULK AT MOST 1048576: true; the input reads as it did. -/
def fnExactMachineBytesUptoRow : OpenClaim := { program := "ythaomohoiginnaa", sum := "58e81a77bc4dede7eb5fd23a1ffab3972b301076783fec15b8a3e387caf453dc", func := "loop.example/g00574/laws.FnExactMachineBytes", spec := "fnExactMachineBytes", plainKeys := false, apart := false, narrowed := true }
def FnExactMachineBytesUptoSaid : Prop := fnExactMachineBytesUptoRow.holds Try.pinned (OpenSpec.upto fnExactMachineBytesSpec)

/-- 'laws.FnExactMachineRead', WHERE WHAT IT READS IS OF BULK AT MOST 1048576: true; the input reads as it did. -/
def fnExactMachineReadUptoRow : OpenClaim := { program := "ythaomohoiginnaa", sum := "58e81a77bc4dede7eb5fd23a1ffab3972b301076783fec15b8a3e387caf453dc", func := "loop.example/g00574/laws.FnExactMachineRead", spec := "fnExactMachineRead", plainKeys := false, apart := false, narrowed := true }
def FnExactMachineReadUptoSaid : Prop := fnExactMachineReadUptoRow.holds Try.pinned (OpenSpec.upto fnExactMachineReadSpec)

/-- 'laws.FnExactTapeRight', WHERE WHAT IT READS IS OF BULK AT MOST 1048576: true; the input reads as it did. -/
def fnExactTapeRightUptoRow : OpenClaim := { program := "ythaomohoiginnaa", sum := "58e81a77bc4dede7eb5fd23a1ffab3972b301076783fec15b8a3e387caf453dc", func := "loop.example/g00574/laws.FnExactTapeRight", spec := "fnExactTapeRight", plainKeys := false, apart := false, narrowed := true }
def FnExactTapeRightUptoSaid : Prop := fnExactTapeRightUptoRow.holds Try.pinned (OpenSpec.upto fnExactTapeRightSpec)

/-- 'laws.FnExactWatch', WHERE WHAT IT READS IS OF BULK AT MOST 1048576: true; the input reads as it did. -/
def fnExactWatchUptoRow : OpenClaim := { program := "ythaomohoiginnaa", sum := "58e81a77bc4dede7eb5fd23a1ffab3972b301076783fec15b8a3e387caf453dc", func := "loop.example/g00574/laws.FnExactWatch", spec := "fnExactWatch", plainKeys := false, apart := false, narrowed := true }
def FnExactWatchUptoSaid : Prop := fnExactWatchUptoRow.holds Try.pinned (OpenSpec.upto fnExactWatchSpec)

end Rows
end Go.Proofs.Ythaomohoiginnaa
