/-
  No cell of these rows narrows 'for every input' (looked for: loops, veiled, ifaces, maps, wideKeys, modest, calm, conditions, laid).
  DERIVED. THE GIVEN ROWS OF THIS SEAT. 7 by the template 'for every input the law returns true; each argument reads behind the call as it read before'; 0 by the template 'total and deterministic' (their statements: YtmlkfnclniamiaaTotals.lean).
  GIVEN WITH THE SEED: the statements are not yours to turn. If you find one false, say at which input.
  Laid BY PROGRAM, IN A SANDBOX (cutbox-rows.mjs): the forced cells as the released guide's own fill.sh prints them over the translation 3819b88ae8706ace… (all of the seat's roots in one cut). By AI agents, Wed Nov 11 2026. No macro, syntax, notation, axiom, sorry.
-/
import Derived.Test.YtmlkfnclniamiaaChecked
import GoSem.Claim
import GoSem.ClaimJoined
import GoSem.ClaimMapViews
import Derived.JoinedTies
import Derived.KernelRfl
namespace Go.Proofs.Ytmlkfnclniamiaa
/- THE CELL 'sum', in the pinned program and in every row, IS THE sha256 OF THE DUMP (.gsa) THAT YtmlkfnclniamiaaProg.lean LOADS. Nothing in Lean hashes anything: it is a label: what it is worth is what the hold of that sum in a sandbox is worth. -/
noncomputable def Try.pinned : Pinned := { name := "ytmlkfnclniamiaa", sum := "3819b88ae8706acedb166fcba9f58f409483767bf49b040582b4df5e42ae7450", checked := Try.checked }
namespace Rows
def none {H : Type} : Left H := { results := [], args := [] }

/-- 'laws.FnExactPlanRight': WHATEVER THE INPUT: true; the input reads as it did. -/
def fnExactPlanRightSpec : ChangeSpec := { name := "fnExactPlanRight", fn := fun _ => fun
  | [d] => { results := [.lit (.bool true)], args := [d] }
  | _ => none }
def fnExactPlanRightRow : OpenClaim := { program := "ytmlkfnclniamiaa", sum := "3819b88ae8706acedb166fcba9f58f409483767bf49b040582b4df5e42ae7450", func := "loop.example/g00574/laws.FnExactPlanRight", spec := "fnExactPlanRight", recurses := true, apart := false }
def FnExactPlanRightSaid : Prop := fnExactPlanRightRow.holds Try.pinned (OpenSpec.ofChange fnExactPlanRightSpec)

/-- ITS FALSE NEIGHBOUR: 'it returns false'. Refute it at one input. -/
def fnExactPlanRightWrong : ChangeSpec := { name := "fnExactPlanRight", fn := fun _ => fun
  | [d] => { results := [.lit (.bool false)], args := [d] }
  | _ => none }
def FnExactPlanRightWrongFalsely : Prop := fnExactPlanRightRow.holds Try.pinned (OpenSpec.ofChange fnExactPlanRightWrong)

/-- 'laws.FnExactRolesOf': WHATEVER THE INPUT: true; the input reads as it did. -/
def fnExactRolesOfSpec : ChangeSpec := { name := "fnExactRolesOf", fn := fun _ => fun
  | [d] => { results := [.lit (.bool true)], args := [d] }
  | _ => none }
def fnExactRolesOfRow : OpenClaim := { program := "ytmlkfnclniamiaa", sum := "3819b88ae8706acedb166fcba9f58f409483767bf49b040582b4df5e42ae7450", func := "loop.example/g00574/laws.FnExactRolesOf", spec := "fnExactRolesOf", recurses := true, apart := false }
def FnExactRolesOfSaid : Prop := fnExactRolesOfRow.holds Try.pinned (OpenSpec.ofChange fnExactRolesOfSpec)

/-- ITS FALSE NEIGHBOUR: 'it returns false'. Refute it at one input. -/
def fnExactRolesOfWrong : ChangeSpec := { name := "fnExactRolesOf", fn := fun _ => fun
  | [d] => { results := [.lit (.bool false)], args := [d] }
  | _ => none }
def FnExactRolesOfWrongFalsely : Prop := fnExactRolesOfRow.holds Try.pinned (OpenSpec.ofChange fnExactRolesOfWrong)

/-- 'laws.FnExactPartRight': WHATEVER THE INPUT: true; the input reads as it did. -/
def fnExactPartRightSpec : ChangeSpec := { name := "fnExactPartRight", fn := fun _ => fun
  | [d] => { results := [.lit (.bool true)], args := [d] }
  | _ => none }
def fnExactPartRightRow : OpenClaim := { program := "ytmlkfnclniamiaa", sum := "3819b88ae8706acedb166fcba9f58f409483767bf49b040582b4df5e42ae7450", func := "loop.example/g00574/laws.FnExactPartRight", spec := "fnExactPartRight", recurses := true, apart := false }
def FnExactPartRightSaid : Prop := fnExactPartRightRow.holds Try.pinned (OpenSpec.ofChange fnExactPartRightSpec)

/-- ITS FALSE NEIGHBOUR: 'it returns false'. Refute it at one input. -/
def fnExactPartRightWrong : ChangeSpec := { name := "fnExactPartRight", fn := fun _ => fun
  | [d] => { results := [.lit (.bool false)], args := [d] }
  | _ => none }
def FnExactPartRightWrongFalsely : Prop := fnExactPartRightRow.holds Try.pinned (OpenSpec.ofChange fnExactPartRightWrong)

/-- 'laws.FnExactPartOf': WHATEVER THE INPUT: true; the input reads as it did. -/
def fnExactPartOfSpec : ChangeSpec := { name := "fnExactPartOf", fn := fun _ => fun
  | [d1, d2] => { results := [.lit (.bool true)], args := [d1, d2] }
  | _ => none }
def fnExactPartOfRow : OpenClaim := { program := "ytmlkfnclniamiaa", sum := "3819b88ae8706acedb166fcba9f58f409483767bf49b040582b4df5e42ae7450", func := "loop.example/g00574/laws.FnExactPartOf", spec := "fnExactPartOf", unfollowed := true, recurses := true, apart := false }
def FnExactPartOfSaid : Prop := fnExactPartOfRow.holds Try.pinned (OpenSpec.ofChange fnExactPartOfSpec)

/-- ITS FALSE NEIGHBOUR: 'it returns false'. Refute it at one input. -/
def fnExactPartOfWrong : ChangeSpec := { name := "fnExactPartOf", fn := fun _ => fun
  | [d1, d2] => { results := [.lit (.bool false)], args := [d1, d2] }
  | _ => none }
def FnExactPartOfWrongFalsely : Prop := fnExactPartOfRow.holds Try.pinned (OpenSpec.ofChange fnExactPartOfWrong)

/-- 'laws.FnExactTapeRight': WHATEVER THE INPUT: true; the input reads as it did. -/
def fnExactTapeRightSpec : ChangeSpec := { name := "fnExactTapeRight", fn := fun _ => fun
  | [d] => { results := [.lit (.bool true)], args := [d] }
  | _ => none }
def fnExactTapeRightRow : OpenClaim := { program := "ytmlkfnclniamiaa", sum := "3819b88ae8706acedb166fcba9f58f409483767bf49b040582b4df5e42ae7450", func := "loop.example/g00574/laws.FnExactTapeRight", spec := "fnExactTapeRight", apart := false }
def FnExactTapeRightSaid : Prop := fnExactTapeRightRow.holds Try.pinned (OpenSpec.ofChange fnExactTapeRightSpec)

/-- ITS FALSE NEIGHBOUR: 'it returns false'. Refute it at one input. -/
def fnExactTapeRightWrong : ChangeSpec := { name := "fnExactTapeRight", fn := fun _ => fun
  | [d] => { results := [.lit (.bool false)], args := [d] }
  | _ => none }
def FnExactTapeRightWrongFalsely : Prop := fnExactTapeRightRow.holds Try.pinned (OpenSpec.ofChange fnExactTapeRightWrong)

/-- 'laws.FnExactTapeLess': WHATEVER THE INPUT: true; the input reads as it did. -/
def fnExactTapeLessSpec : ChangeSpec := { name := "fnExactTapeLess", fn := fun _ => fun
  | [d1, d2] => { results := [.lit (.bool true)], args := [d1, d2] }
  | _ => none }
def fnExactTapeLessRow : OpenClaim := { program := "ytmlkfnclniamiaa", sum := "3819b88ae8706acedb166fcba9f58f409483767bf49b040582b4df5e42ae7450", func := "loop.example/g00574/laws.FnExactTapeLess", spec := "fnExactTapeLess", apart := false }
def FnExactTapeLessSaid : Prop := fnExactTapeLessRow.holds Try.pinned (OpenSpec.ofChange fnExactTapeLessSpec)

/-- ITS FALSE NEIGHBOUR: 'it returns false'. Refute it at one input. -/
def fnExactTapeLessWrong : ChangeSpec := { name := "fnExactTapeLess", fn := fun _ => fun
  | [d1, d2] => { results := [.lit (.bool false)], args := [d1, d2] }
  | _ => none }
def FnExactTapeLessWrongFalsely : Prop := fnExactTapeLessRow.holds Try.pinned (OpenSpec.ofChange fnExactTapeLessWrong)

/-- 'laws.FnExactSmallerOf': WHATEVER THE INPUT: true; the input reads as it did. -/
def fnExactSmallerOfSpec : ChangeSpec := { name := "fnExactSmallerOf", fn := fun _ => fun
  | [d] => { results := [.lit (.bool true)], args := [d] }
  | _ => none }
def fnExactSmallerOfRow : OpenClaim := { program := "ytmlkfnclniamiaa", sum := "3819b88ae8706acedb166fcba9f58f409483767bf49b040582b4df5e42ae7450", func := "loop.example/g00574/laws.FnExactSmallerOf", spec := "fnExactSmallerOf", unfollowed := true, recurses := true, apart := false }
def FnExactSmallerOfSaid : Prop := fnExactSmallerOfRow.holds Try.pinned (OpenSpec.ofChange fnExactSmallerOfSpec)

/-- ITS FALSE NEIGHBOUR: 'it returns false'. Refute it at one input. -/
def fnExactSmallerOfWrong : ChangeSpec := { name := "fnExactSmallerOf", fn := fun _ => fun
  | [d] => { results := [.lit (.bool false)], args := [d] }
  | _ => none }
def FnExactSmallerOfWrongFalsely : Prop := fnExactSmallerOfRow.holds Try.pinned (OpenSpec.ofChange fnExactSmallerOfWrong)

/- THE SECOND FORM. 'bulk': how many values and letters a reading holds, each counted each time it is reached (what is shared counts as often as it is met; a slice's spare places count too). A statement '..UptoSaid' is the law's where the arguments, and the package variables that the reading takes, are together of bulk at most 1048576: NARROWER than '..Said'. Prove '..Said' where nothing that the law and all that it calls make is longer than what came in: it says more and counts as full. Else prove '..UptoSaid'. A law counts once. -/
mutual
def uptoBulk {H : Type} : DataW H → Nat
  | .lit (.string bytes) => bytes.length + 1
  | .lit _ => 1
  | .nil => 1
  | .ptr d => uptoBulk d + 1
  | .slice elems spare => uptoBulkAll elems + uptoBulkAll spare + 1
  | .agg parts => uptoBulkAll parts + 1
  | .iface _ d => uptoBulk d + 1
  | .map entries => uptoBulkEntries entries + 1
  | .held _ => 1
def uptoBulkAll {H : Type} : List (DataW H) → Nat
  | [] => 0
  | d :: r => uptoBulk d + uptoBulkAll r
def uptoBulkEntries {H : Type} : List (Lit × DataW H) → Nat
  | [] => 0
  | x :: r => uptoBulkEntry x + uptoBulkEntries r
def uptoBulkEntry {H : Type} : Lit × DataW H → Nat
  | (.string bytes, d) => bytes.length + uptoBulk d + 1
  | (_, d) => uptoBulk d + 1
 end
def uptoSmall : (H : Type) → List (DataW H) → Bool := fun _ ds => decide (uptoBulkAll ds ≤ 1048576)
def OpenSpec.upto (s : _root_.Go.ChangeSpec) : _root_.Go.OpenSpec := { _root_.Go.OpenSpec.ofChange s with cond := some uptoSmall }

/-- 'laws.FnExactPlanRight', WHERE WHAT IT READS IS OF BULK AT MOST 1048576: true; the input reads as it did. -/
def fnExactPlanRightUptoRow : OpenClaim := { program := "ytmlkfnclniamiaa", sum := "3819b88ae8706acedb166fcba9f58f409483767bf49b040582b4df5e42ae7450", func := "loop.example/g00574/laws.FnExactPlanRight", spec := "fnExactPlanRight", recurses := true, apart := false, narrowed := true }
def FnExactPlanRightUptoSaid : Prop := fnExactPlanRightUptoRow.holds Try.pinned (OpenSpec.upto fnExactPlanRightSpec)

/-- 'laws.FnExactRolesOf', WHERE WHAT IT READS IS OF BULK AT MOST 1048576: true; the input reads as it did. -/
def fnExactRolesOfUptoRow : OpenClaim := { program := "ytmlkfnclniamiaa", sum := "3819b88ae8706acedb166fcba9f58f409483767bf49b040582b4df5e42ae7450", func := "loop.example/g00574/laws.FnExactRolesOf", spec := "fnExactRolesOf", recurses := true, apart := false, narrowed := true }
def FnExactRolesOfUptoSaid : Prop := fnExactRolesOfUptoRow.holds Try.pinned (OpenSpec.upto fnExactRolesOfSpec)

/-- 'laws.FnExactPartRight', WHERE WHAT IT READS IS OF BULK AT MOST 1048576: true; the input reads as it did. -/
def fnExactPartRightUptoRow : OpenClaim := { program := "ytmlkfnclniamiaa", sum := "3819b88ae8706acedb166fcba9f58f409483767bf49b040582b4df5e42ae7450", func := "loop.example/g00574/laws.FnExactPartRight", spec := "fnExactPartRight", recurses := true, apart := false, narrowed := true }
def FnExactPartRightUptoSaid : Prop := fnExactPartRightUptoRow.holds Try.pinned (OpenSpec.upto fnExactPartRightSpec)

/-- 'laws.FnExactPartOf', WHERE WHAT IT READS IS OF BULK AT MOST 1048576: true; the input reads as it did. -/
def fnExactPartOfUptoRow : OpenClaim := { program := "ytmlkfnclniamiaa", sum := "3819b88ae8706acedb166fcba9f58f409483767bf49b040582b4df5e42ae7450", func := "loop.example/g00574/laws.FnExactPartOf", spec := "fnExactPartOf", unfollowed := true, recurses := true, apart := false, narrowed := true }
def FnExactPartOfUptoSaid : Prop := fnExactPartOfUptoRow.holds Try.pinned (OpenSpec.upto fnExactPartOfSpec)

/-- 'laws.FnExactTapeRight', WHERE WHAT IT READS IS OF BULK AT MOST 1048576: true; the input reads as it did. -/
def fnExactTapeRightUptoRow : OpenClaim := { program := "ytmlkfnclniamiaa", sum := "3819b88ae8706acedb166fcba9f58f409483767bf49b040582b4df5e42ae7450", func := "loop.example/g00574/laws.FnExactTapeRight", spec := "fnExactTapeRight", apart := false, narrowed := true }
def FnExactTapeRightUptoSaid : Prop := fnExactTapeRightUptoRow.holds Try.pinned (OpenSpec.upto fnExactTapeRightSpec)

/-- 'laws.FnExactTapeLess', WHERE WHAT IT READS IS OF BULK AT MOST 1048576: true; the input reads as it did. -/
def fnExactTapeLessUptoRow : OpenClaim := { program := "ytmlkfnclniamiaa", sum := "3819b88ae8706acedb166fcba9f58f409483767bf49b040582b4df5e42ae7450", func := "loop.example/g00574/laws.FnExactTapeLess", spec := "fnExactTapeLess", apart := false, narrowed := true }
def FnExactTapeLessUptoSaid : Prop := fnExactTapeLessUptoRow.holds Try.pinned (OpenSpec.upto fnExactTapeLessSpec)

/-- 'laws.FnExactSmallerOf', WHERE WHAT IT READS IS OF BULK AT MOST 1048576: true; the input reads as it did. -/
def fnExactSmallerOfUptoRow : OpenClaim := { program := "ytmlkfnclniamiaa", sum := "3819b88ae8706acedb166fcba9f58f409483767bf49b040582b4df5e42ae7450", func := "loop.example/g00574/laws.FnExactSmallerOf", spec := "fnExactSmallerOf", unfollowed := true, recurses := true, apart := false, narrowed := true }
def FnExactSmallerOfUptoSaid : Prop := fnExactSmallerOfUptoRow.holds Try.pinned (OpenSpec.upto fnExactSmallerOfSpec)

end Rows
end Go.Proofs.Ytmlkfnclniamiaa
