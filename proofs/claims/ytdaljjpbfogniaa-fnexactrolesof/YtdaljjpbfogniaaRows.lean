/-
  No cell of these rows narrows 'for every input' (looked for: loops, veiled, ifaces, maps, wideKeys, modest, calm, conditions, laid).
  DERIVED. THE GIVEN ROWS OF THIS SEAT. 6 by the template 'for every input the law returns true; each argument reads behind the call as it read before'; 0 by the template 'total and deterministic' (their statements: YtdaljjpbfogniaaTotals.lean).
  GIVEN WITH THE SEED: the statements are not yours to turn. If you find one false, say at which input.
  Laid BY PROGRAM, IN A SANDBOX (cutbox-rows.mjs): the forced cells as the released guide's own fill.sh prints them over the translation 192a9b93d400b2f0… (all of the seat's roots in one cut). By AI agents, Wed Nov 11 2026. No macro, syntax, notation, axiom, sorry.
-/
import Derived.Test.YtdaljjpbfogniaaChecked
import GoSem.Claim
import GoSem.ClaimJoined
import GoSem.ClaimMapViews
import Derived.JoinedTies
import Derived.KernelRfl
namespace Go.Proofs.Ytdaljjpbfogniaa
/- THE CELL 'sum', in the pinned program and in every row, IS THE sha256 OF THE DUMP (.gsa) THAT YtdaljjpbfogniaaProg.lean LOADS. Nothing in Lean hashes anything: it is a label: what it is worth is what the hold of that sum in a sandbox is worth. -/
noncomputable def Try.pinned : Pinned := { name := "ytdaljjpbfogniaa", sum := "192a9b93d400b2f01206c9e07af7e5575839dea8ceb8c64dd40bd028612aa866", checked := Try.checked }
namespace Rows
def none {H : Type} : Left H := { results := [], args := [] }

/-- 'laws.FnExactPlanRight': WHATEVER THE INPUT: true; the input reads as it did. -/
def fnExactPlanRightSpec : ChangeSpec := { name := "fnExactPlanRight", fn := fun _ => fun
  | [d] => { results := [.lit (.bool true)], args := [d] }
  | _ => none }
def fnExactPlanRightRow : OpenClaim := { program := "ytdaljjpbfogniaa", sum := "192a9b93d400b2f01206c9e07af7e5575839dea8ceb8c64dd40bd028612aa866", func := "loop.example/g00574/laws.FnExactPlanRight", spec := "fnExactPlanRight", recurses := true, apart := false }
def FnExactPlanRightSaid : Prop := fnExactPlanRightRow.holds Try.pinned (OpenSpec.ofChange fnExactPlanRightSpec)

/-- ITS FALSE NEIGHBOUR: 'it returns false'. Refute it at one input. -/
def fnExactPlanRightWrong : ChangeSpec := { name := "fnExactPlanRight", fn := fun _ => fun
  | [d] => { results := [.lit (.bool false)], args := [d] }
  | _ => none }
def FnExactPlanRightWrongFalsely : Prop := fnExactPlanRightRow.holds Try.pinned (OpenSpec.ofChange fnExactPlanRightWrong)

/-- 'laws.FnExactRolesOf': WHATEVER THE INPUT: true; the input reads as it did. -/
def fnExactRolesOfSpec : ChangeSpec := { name := "fnExactRolesOf", fn := fun _ => fun
  | [d] => { results := [.lit (.bool true)], args := [d] }
  | _ => none }
def fnExactRolesOfRow : OpenClaim := { program := "ytdaljjpbfogniaa", sum := "192a9b93d400b2f01206c9e07af7e5575839dea8ceb8c64dd40bd028612aa866", func := "loop.example/g00574/laws.FnExactRolesOf", spec := "fnExactRolesOf", recurses := true, apart := false }
def FnExactRolesOfSaid : Prop := fnExactRolesOfRow.holds Try.pinned (OpenSpec.ofChange fnExactRolesOfSpec)

/-- ITS FALSE NEIGHBOUR: 'it returns false'. Refute it at one input. -/
def fnExactRolesOfWrong : ChangeSpec := { name := "fnExactRolesOf", fn := fun _ => fun
  | [d] => { results := [.lit (.bool false)], args := [d] }
  | _ => none }
def FnExactRolesOfWrongFalsely : Prop := fnExactRolesOfRow.holds Try.pinned (OpenSpec.ofChange fnExactRolesOfWrong)

/-- 'laws.FnExactTalksIn': WHATEVER THE INPUT: true; the input reads as it did. -/
def fnExactTalksInSpec : ChangeSpec := { name := "fnExactTalksIn", fn := fun _ => fun
  | [d1, d2] => { results := [.lit (.bool true)], args := [d1, d2] }
  | _ => none }
def fnExactTalksInRow : OpenClaim := { program := "ytdaljjpbfogniaa", sum := "192a9b93d400b2f01206c9e07af7e5575839dea8ceb8c64dd40bd028612aa866", func := "loop.example/g00574/laws.FnExactTalksIn", spec := "fnExactTalksIn", recurses := true, apart := false }
def FnExactTalksInSaid : Prop := fnExactTalksInRow.holds Try.pinned (OpenSpec.ofChange fnExactTalksInSpec)

/-- ITS FALSE NEIGHBOUR: 'it returns false'. Refute it at one input. -/
def fnExactTalksInWrong : ChangeSpec := { name := "fnExactTalksIn", fn := fun _ => fun
  | [d1, d2] => { results := [.lit (.bool false)], args := [d1, d2] }
  | _ => none }
def FnExactTalksInWrongFalsely : Prop := fnExactTalksInRow.holds Try.pinned (OpenSpec.ofChange fnExactTalksInWrong)

/-- 'laws.FnExactNodesOf': WHATEVER THE INPUT: true; the input reads as it did. -/
def fnExactNodesOfSpec : ChangeSpec := { name := "fnExactNodesOf", fn := fun _ => fun
  | [d] => { results := [.lit (.bool true)], args := [d] }
  | _ => none }
def fnExactNodesOfRow : OpenClaim := { program := "ytdaljjpbfogniaa", sum := "192a9b93d400b2f01206c9e07af7e5575839dea8ceb8c64dd40bd028612aa866", func := "loop.example/g00574/laws.FnExactNodesOf", spec := "fnExactNodesOf", recurses := true, apart := false }
def FnExactNodesOfSaid : Prop := fnExactNodesOfRow.holds Try.pinned (OpenSpec.ofChange fnExactNodesOfSpec)

/-- ITS FALSE NEIGHBOUR: 'it returns false'. Refute it at one input. -/
def fnExactNodesOfWrong : ChangeSpec := { name := "fnExactNodesOf", fn := fun _ => fun
  | [d] => { results := [.lit (.bool false)], args := [d] }
  | _ => none }
def FnExactNodesOfWrongFalsely : Prop := fnExactNodesOfRow.holds Try.pinned (OpenSpec.ofChange fnExactNodesOfWrong)

/-- 'laws.FnExactPartRight': WHATEVER THE INPUT: true; the input reads as it did. -/
def fnExactPartRightSpec : ChangeSpec := { name := "fnExactPartRight", fn := fun _ => fun
  | [d] => { results := [.lit (.bool true)], args := [d] }
  | _ => none }
def fnExactPartRightRow : OpenClaim := { program := "ytdaljjpbfogniaa", sum := "192a9b93d400b2f01206c9e07af7e5575839dea8ceb8c64dd40bd028612aa866", func := "loop.example/g00574/laws.FnExactPartRight", spec := "fnExactPartRight", recurses := true, apart := false }
def FnExactPartRightSaid : Prop := fnExactPartRightRow.holds Try.pinned (OpenSpec.ofChange fnExactPartRightSpec)

/-- ITS FALSE NEIGHBOUR: 'it returns false'. Refute it at one input. -/
def fnExactPartRightWrong : ChangeSpec := { name := "fnExactPartRight", fn := fun _ => fun
  | [d] => { results := [.lit (.bool false)], args := [d] }
  | _ => none }
def FnExactPartRightWrongFalsely : Prop := fnExactPartRightRow.holds Try.pinned (OpenSpec.ofChange fnExactPartRightWrong)

/-- 'laws.FnExactPartOf': WHATEVER THE INPUT: true; the input reads as it did. -/
def fnExactPartOfSpec : ChangeSpec := { name := "fnExactPartOf", fn := fun _ => fun
  | [d1, d2] => { results := [.lit (.bool true)], args := [d1, d2] }
  | _ => none }
def fnExactPartOfRow : OpenClaim := { program := "ytdaljjpbfogniaa", sum := "192a9b93d400b2f01206c9e07af7e5575839dea8ceb8c64dd40bd028612aa866", func := "loop.example/g00574/laws.FnExactPartOf", spec := "fnExactPartOf", unfollowed := true, recurses := true, apart := false }
def FnExactPartOfSaid : Prop := fnExactPartOfRow.holds Try.pinned (OpenSpec.ofChange fnExactPartOfSpec)

/-- ITS FALSE NEIGHBOUR: 'it returns false'. Refute it at one input. -/
def fnExactPartOfWrong : ChangeSpec := { name := "fnExactPartOf", fn := fun _ => fun
  | [d1, d2] => { results := [.lit (.bool false)], args := [d1, d2] }
  | _ => none }
def FnExactPartOfWrongFalsely : Prop := fnExactPartOfRow.holds Try.pinned (OpenSpec.ofChange fnExactPartOfWrong)

/- THE SECOND FORM. 'bulk': how many values and letters a reading holds, each counted each time it is reached (what is shared counts as often as it is met; a slice's spare places count too). A statement '..UptoSaid' is the law's where the arguments, and the package variables that the reading takes, are together of bulk at most 1048576: NARROWER than '..Said'. Prove '..Said' where nothing that the law and all that it calls make is longer than what came in: it says more and counts as full. Else prove '..UptoSaid'. A law counts once. -/
mutual
def uptoBulk {H : Type} : DataW H → Nat
  | .lit (.string bytes) => bytes.length + 1
  | .lit _ => 1
  | .nil => 1
  | .ptr d => uptoBulk d + 1
  | .slice elems spare => uptoBulkAll elems + uptoBulkAll spare + 1
  | .agg parts => uptoBulkAll parts + 1
  | .iface _ d => uptoBulk d + 1
  | .map entries => uptoBulkEntries entries + 1
  | .held _ => 1
def uptoBulkAll {H : Type} : List (DataW H) → Nat
  | [] => 0
  | d :: r => uptoBulk d + uptoBulkAll r
def uptoBulkEntries {H : Type} : List (Lit × DataW H) → Nat
  | [] => 0
  | x :: r => uptoBulkEntry x + uptoBulkEntries r
def uptoBulkEntry {H : Type} : Lit × DataW H → Nat
  | (.string bytes, d) => bytes.length + uptoBulk d + 1
  | (_, d) => uptoBulk d + 1
 end
def uptoSmall : (H : Type) → List (DataW H) → Bool := fun _ ds => decide (uptoBulkAll ds ≤ 1048576)
def OpenSpec.upto (s : _root_.Go.ChangeSpec) : _root_.Go.OpenSpec := { _root_.Go.OpenSpec.ofChange s with cond := some uptoSmall }

/-- 'laws.FnExactPlanRight', WHERE WHAT IT READS IS OF BULK AT MOST 1048576: true; the input reads as it did. -/
def fnExactPlanRightUptoRow : OpenClaim := { program := "ytdaljjpbfogniaa", sum := "192a9b93d400b2f01206c9e07af7e5575839dea8ceb8c64dd40bd028612aa866", func := "loop.example/g00574/laws.FnExactPlanRight", spec := "fnExactPlanRight", recurses := true, apart := false, narrowed := true }
def FnExactPlanRightUptoSaid : Prop := fnExactPlanRightUptoRow.holds Try.pinned (OpenSpec.upto fnExactPlanRightSpec)

/-- 'laws.FnExactRolesOf', WHERE WHAT IT READS IS OF BULK AT MOST 1048576: true; the input reads as it did. -/
def fnExactRolesOfUptoRow : OpenClaim := { program := "ytdaljjpbfogniaa", sum := "192a9b93d400b2f01206c9e07af7e5575839dea8ceb8c64dd40bd028612aa866", func := "loop.example/g00574/laws.FnExactRolesOf", spec := "fnExactRolesOf", recurses := true, apart := false, narrowed := true }
def FnExactRolesOfUptoSaid : Prop := fnExactRolesOfUptoRow.holds Try.pinned (OpenSpec.upto fnExactRolesOfSpec)

/-- 'laws.FnExactTalksIn', WHERE WHAT IT READS IS OF BULK AT MOST 1048576: true; the input reads as it did. -/
def fnExactTalksInUptoRow : OpenClaim := { program := "ytdaljjpbfogniaa", sum := "192a9b93d400b2f01206c9e07af7e5575839dea8ceb8c64dd40bd028612aa866", func := "loop.example/g00574/laws.FnExactTalksIn", spec := "fnExactTalksIn", recurses := true, apart := false, narrowed := true }
def FnExactTalksInUptoSaid : Prop := fnExactTalksInUptoRow.holds Try.pinned (OpenSpec.upto fnExactTalksInSpec)

/-- 'laws.FnExactNodesOf', WHERE WHAT IT READS IS OF BULK AT MOST 1048576: true; the input reads as it did. -/
def fnExactNodesOfUptoRow : OpenClaim := { program := "ytdaljjpbfogniaa", sum := "192a9b93d400b2f01206c9e07af7e5575839dea8ceb8c64dd40bd028612aa866", func := "loop.example/g00574/laws.FnExactNodesOf", spec := "fnExactNodesOf", recurses := true, apart := false, narrowed := true }
def FnExactNodesOfUptoSaid : Prop := fnExactNodesOfUptoRow.holds Try.pinned (OpenSpec.upto fnExactNodesOfSpec)

/-- 'laws.FnExactPartRight', WHERE WHAT IT READS IS OF BULK AT MOST 1048576: true; the input reads as it did. -/
def fnExactPartRightUptoRow : OpenClaim := { program := "ytdaljjpbfogniaa", sum := "192a9b93d400b2f01206c9e07af7e5575839dea8ceb8c64dd40bd028612aa866", func := "loop.example/g00574/laws.FnExactPartRight", spec := "fnExactPartRight", recurses := true, apart := false, narrowed := true }
def FnExactPartRightUptoSaid : Prop := fnExactPartRightUptoRow.holds Try.pinned (OpenSpec.upto fnExactPartRightSpec)

/-- 'laws.FnExactPartOf', WHERE WHAT IT READS IS OF BULK AT MOST 1048576: true; the input reads as it did. -/
def fnExactPartOfUptoRow : OpenClaim := { program := "ytdaljjpbfogniaa", sum := "192a9b93d400b2f01206c9e07af7e5575839dea8ceb8c64dd40bd028612aa866", func := "loop.example/g00574/laws.FnExactPartOf", spec := "fnExactPartOf", unfollowed := true, recurses := true, apart := false, narrowed := true }
def FnExactPartOfUptoSaid : Prop := fnExactPartOfUptoRow.holds Try.pinned (OpenSpec.upto fnExactPartOfSpec)

end Rows
end Go.Proofs.Ytdaljjpbfogniaa
