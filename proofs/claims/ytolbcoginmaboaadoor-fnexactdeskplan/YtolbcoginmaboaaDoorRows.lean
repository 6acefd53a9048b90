/-
  NARROWER THAN 'FOR EVERY INPUT', by the rows' own cells (each row's printed sentence says how): FnExactPlanText: laid · FnExactPlanRead: laid · FnExactPartText: laid · FnExactPartRead: laid · FnExactDeskPlan: laid.
  DERIVED. THE GIVEN ROWS OF THIS SEAT. 5 by the template 'for every input the law returns true; each argument reads behind the call as it read before'; 0 by the template 'total and deterministic' (their statements: YtolbcoginmaboaaDoorTotals.lean).
  GIVEN WITH THE SEED: the statements are not yours to turn. If you find one false, say at which input.
  Laid BY PROGRAM, IN A SANDBOX (cutbox-rows.mjs): the forced cells as the released guide's own fill.sh prints them over the translation 724d3aae2a18ede8… (all of the seat's roots in one cut). By AI agents, Wed Nov 11 2026. No macro, syntax, notation, axiom, sorry.
-/
import Derived.Test.YtolbcoginmaboaaDoorChecked
import GoSem.Claim
import GoSem.ClaimJoined
import GoSem.ClaimMapViews
import Derived.JoinedTies
import Derived.KernelRfl
namespace Go.Proofs.YtolbcoginmaboaaDoor
/- THE CELL 'sum', in the pinned program and in every row, IS THE sha256 OF THE DUMP (.gsa) THAT YtolbcoginmaboaaDoorProg.lean LOADS. Nothing in Lean hashes anything: it is a label: what it is worth is what the hold of that sum in a sandbox is worth. -/
noncomputable def Tryd.pinned : Pinned := { name := "ytolbcoginmaboaadoor", sum := "724d3aae2a18ede8fc422e9a1bdc3913b5bf5d9fb1553b4c41d75ac04dc3f002", checked := Tryd.checked }
namespace Rows
def none {H : Type} : Left H := { results := [], args := [] }

/- WHAT THE LISTED PACKAGE-LEVEL VARIABLES READ AS WHEN THE CALL BEGINS. Each datum BY PROGRAM (the guide's laid-datum.mjs) off the statement by which the dump's own 'gosem.cut.vars' lays the variable. In a bare row this is a premise. The card (YtolbcoginmaboaaDoorCards.lean) ties it to the program's text. -/
def laid_loop_example_g00574_impl_sortWords {H : Type} : DataW H := .agg [.lit (.string [110, 111, 110, 101]), .lit (.string [105, 110, 116]), .lit (.string [116, 101, 120, 116])]

/-- 'laws.FnExactPlanText': WHATEVER THE INPUT: true; the input reads as it did. -/
def fnExactPlanTextSpec : ChangeSpec := { name := "fnExactPlanText", vars := ["loop.example/g00574/impl.sortWords"], fn := fun _ => fun
  | [d, g1] => { results := [.lit (.bool true)], args := [d], vars := [g1] }
  | _ => none }
def fnExactPlanTextRow : OpenClaim := { program := "ytolbcoginmaboaadoor", sum := "724d3aae2a18ede8fc422e9a1bdc3913b5bf5d9fb1553b4c41d75ac04dc3f002", func := "loop.example/g00574/laws.FnExactPlanText", spec := "fnExactPlanText", inPlace := ["internal/abi.NoEscape", "internal/bytealg.MakeNoZero"], recurses := true, named := ["loop.example/g00574/impl.sortWords"], apart := false, laid := [("loop.example/g00574/impl.sortWords", laid_loop_example_g00574_impl_sortWords)] }
def FnExactPlanTextSaid : Prop := fnExactPlanTextRow.holds Tryd.pinned (OpenSpec.ofChange fnExactPlanTextSpec)

/-- ITS FALSE NEIGHBOUR: 'it returns false'. Refute it at one input. -/
def fnExactPlanTextWrong : ChangeSpec := { name := "fnExactPlanText", vars := ["loop.example/g00574/impl.sortWords"], fn := fun _ => fun
  | [d, g1] => { results := [.lit (.bool false)], args := [d], vars := [g1] }
  | _ => none }
def FnExactPlanTextWrongFalsely : Prop := fnExactPlanTextRow.holds Tryd.pinned (OpenSpec.ofChange fnExactPlanTextWrong)

/-- 'laws.FnExactPlanRead': WHATEVER THE INPUT: true; the input reads as it did. -/
def fnExactPlanReadSpec : ChangeSpec := { name := "fnExactPlanRead", vars := ["loop.example/g00574/impl.sortWords"], fn := fun _ => fun
  | [d, g1] => { results := [.lit (.bool true)], args := [d], vars := [g1] }
  | _ => none }
def fnExactPlanReadRow : OpenClaim := { program := "ytolbcoginmaboaadoor", sum := "724d3aae2a18ede8fc422e9a1bdc3913b5bf5d9fb1553b4c41d75ac04dc3f002", func := "loop.example/g00574/laws.FnExactPlanRead", spec := "fnExactPlanRead", recurses := true, named := ["loop.example/g00574/impl.sortWords"], apart := false, laid := [("loop.example/g00574/impl.sortWords", laid_loop_example_g00574_impl_sortWords)] }
def FnExactPlanReadSaid : Prop := fnExactPlanReadRow.holds Tryd.pinned (OpenSpec.ofChange fnExactPlanReadSpec)

/-- ITS FALSE NEIGHBOUR: 'it returns false'. Refute it at one input. -/
def fnExactPlanReadWrong : ChangeSpec := { name := "fnExactPlanRead", vars := ["loop.example/g00574/impl.sortWords"], fn := fun _ => fun
  | [d, g1] => { results := [.lit (.bool false)], args := [d], vars := [g1] }
  | _ => none }
def FnExactPlanReadWrongFalsely : Prop := fnExactPlanReadRow.holds Tryd.pinned (OpenSpec.ofChange fnExactPlanReadWrong)

/-- 'laws.FnExactPartText': WHATEVER THE INPUT: true; the input reads as it did. -/
def fnExactPartTextSpec : ChangeSpec := { name := "fnExactPartText", vars := ["loop.example/g00574/impl.sortWords"], fn := fun _ => fun
  | [d, g1] => { results := [.lit (.bool true)], args := [d], vars := [g1] }
  | _ => none }
def fnExactPartTextRow : OpenClaim := { program := "ytolbcoginmaboaadoor", sum := "724d3aae2a18ede8fc422e9a1bdc3913b5bf5d9fb1553b4c41d75ac04dc3f002", func := "loop.example/g00574/laws.FnExactPartText", spec := "fnExactPartText", inPlace := ["internal/abi.NoEscape", "internal/bytealg.MakeNoZero"], recurses := true, named := ["loop.example/g00574/impl.sortWords"], apart := false, laid := [("loop.example/g00574/impl.sortWords", laid_loop_example_g00574_impl_sortWords)] }
def FnExactPartTextSaid : Prop := fnExactPartTextRow.holds Tryd.pinned (OpenSpec.ofChange fnExactPartTextSpec)

/-- ITS FALSE NEIGHBOUR: 'it returns false'. Refute it at one input. -/
def fnExactPartTextWrong : ChangeSpec := { name := "fnExactPartText", vars := ["loop.example/g00574/impl.sortWords"], fn := fun _ => fun
  | [d, g1] => { results := [.lit (.bool false)], args := [d], vars := [g1] }
  | _ => none }
def FnExactPartTextWrongFalsely : Prop := fnExactPartTextRow.holds Tryd.pinned (OpenSpec.ofChange fnExactPartTextWrong)

/-- 'laws.FnExactPartRead': WHATEVER THE INPUT: true; the input reads as it did. -/
def fnExactPartReadSpec : ChangeSpec := { name := "fnExactPartRead", vars := ["loop.example/g00574/impl.sortWords"], fn := fun _ => fun
  | [d, g1] => { results := [.lit (.bool true)], args := [d], vars := [g1] }
  | _ => none }
def fnExactPartReadRow : OpenClaim := { program := "ytolbcoginmaboaadoor", sum := "724d3aae2a18ede8fc422e9a1bdc3913b5bf5d9fb1553b4c41d75ac04dc3f002", func := "loop.example/g00574/laws.FnExactPartRead", spec := "fnExactPartRead", recurses := true, named := ["loop.example/g00574/impl.sortWords"], apart := false, laid := [("loop.example/g00574/impl.sortWords", laid_loop_example_g00574_impl_sortWords)] }
def FnExactPartReadSaid : Prop := fnExactPartReadRow.holds Tryd.pinned (OpenSpec.ofChange fnExactPartReadSpec)

/-- ITS FALSE NEIGHBOUR: 'it returns false'. Refute it at one input. -/
def fnExactPartReadWrong : ChangeSpec := { name := "fnExactPartRead", vars := ["loop.example/g00574/impl.sortWords"], fn := fun _ => fun
  | [d, g1] => { results := [.lit (.bool false)], args := [d], vars := [g1] }
  | _ => none }
def FnExactPartReadWrongFalsely : Prop := fnExactPartReadRow.holds Tryd.pinned (OpenSpec.ofChange fnExactPartReadWrong)

/-- 'laws.FnExactDeskPlan': WHATEVER THE INPUT: true; the input reads as it did. -/
def fnExactDeskPlanSpec : ChangeSpec := { name := "fnExactDeskPlan", vars := ["loop.example/g00574/impl.sortWords"], fn := fun _ => fun
  | [g1] => { results := [.lit (.bool true)], args := [], vars := [g1] }
  | _ => none }
def fnExactDeskPlanRow : OpenClaim := { program := "ytolbcoginmaboaadoor", sum := "724d3aae2a18ede8fc422e9a1bdc3913b5bf5d9fb1553b4c41d75ac04dc3f002", func := "loop.example/g00574/laws.FnExactDeskPlan", spec := "fnExactDeskPlan", recurses := true, named := ["loop.example/g00574/impl.sortWords"], apart := false, laid := [("loop.example/g00574/impl.sortWords", laid_loop_example_g00574_impl_sortWords)] }
def FnExactDeskPlanSaid : Prop := fnExactDeskPlanRow.holds Tryd.pinned (OpenSpec.ofChange fnExactDeskPlanSpec)

/-- ITS FALSE NEIGHBOUR: 'it returns false'. Refute it at one input. -/
def fnExactDeskPlanWrong : ChangeSpec := { name := "fnExactDeskPlan", vars := ["loop.example/g00574/impl.sortWords"], fn := fun _ => fun
  | [g1] => { results := [.lit (.bool false)], args := [], vars := [g1] }
  | _ => none }
def FnExactDeskPlanWrongFalsely : Prop := fnExactDeskPlanRow.holds Tryd.pinned (OpenSpec.ofChange fnExactDeskPlanWrong)

/- THE SECOND FORM. 'bulk': how many values and letters a reading holds, each counted each time it is reached (what is shared counts as often as it is met; a slice's spare places count too). A statement '..UptoSaid' is the law's where the arguments, and the package variables that the reading takes, are together of bulk at most 1048576: NARROWER than '..Said'. Prove '..Said' where nothing that the law and all that it calls make is longer than what came in: it says more and counts as full. Else prove '..UptoSaid'. A law counts once. -/
mutual
def uptoBulk {H : Type} : DataW H → Nat
  | .lit (.string bytes) => bytes.length + 1
  | .lit _ => 1
  | .nil => 1
  | .ptr d => uptoBulk d + 1
  | .slice elems spare => uptoBulkAll elems + uptoBulkAll spare + 1
  | .agg parts => uptoBulkAll parts + 1
  | .iface _ d => uptoBulk d + 1
  | .map entries => uptoBulkEntries entries + 1
  | .held _ => 1
def uptoBulkAll {H : Type} : List (DataW H) → Nat
  | [] => 0
  | d :: r => uptoBulk d + uptoBulkAll r
def uptoBulkEntries {H : Type} : List (Lit × DataW H) → Nat
  | [] => 0
  | x :: r => uptoBulkEntry x + uptoBulkEntries r
def uptoBulkEntry {H : Type} : Lit × DataW H → Nat
  | (.string bytes, d) => bytes.length + uptoBulk d + 1
  | (_, d) => uptoBulk d + 1
 end
def uptoSmall : (H : Type) → List (DataW H) → Bool := fun _ ds => decide (uptoBulkAll ds ≤ 1048576)
def OpenSpec.upto (s : _root_.Go.ChangeSpec) : _root_.Go.OpenSpec := { _root_.Go.OpenSpec.ofChange s with cond := some uptoSmall }

/-- 'laws.FnExactPlanText', WHERE WHAT IT READS IS OF BULK AT MOST 1048576: true; the input reads as it did. -/
def fnExactPlanTextUptoRow : OpenClaim := { program := "ytolbcoginmaboaadoor", sum := "724d3aae2a18ede8fc422e9a1bdc3913b5bf5d9fb1553b4c41d75ac04dc3f002", func := "loop.example/g00574/laws.FnExactPlanText", spec := "fnExactPlanText", inPlace := ["internal/abi.NoEscape", "internal/bytealg.MakeNoZero"], recurses := true, named := ["loop.example/g00574/impl.sortWords"], apart := false, laid := [("loop.example/g00574/impl.sortWords", laid_loop_example_g00574_impl_sortWords)], narrowed := true }
def FnExactPlanTextUptoSaid : Prop := fnExactPlanTextUptoRow.holds Tryd.pinned (OpenSpec.upto fnExactPlanTextSpec)

/-- 'laws.FnExactPlanRead', WHERE WHAT IT READS IS OF BULK AT MOST 1048576: true; the input reads as it did. -/
def fnExactPlanReadUptoRow : OpenClaim := { program := "ytolbcoginmaboaadoor", sum := "724d3aae2a18ede8fc422e9a1bdc3913b5bf5d9fb1553b4c41d75ac04dc3f002", func := "loop.example/g00574/laws.FnExactPlanRead", spec := "fnExactPlanRead", recurses := true, named := ["loop.example/g00574/impl.sortWords"], apart := false, laid := [("loop.example/g00574/impl.sortWords", laid_loop_example_g00574_impl_sortWords)], narrowed := true }
def FnExactPlanReadUptoSaid : Prop := fnExactPlanReadUptoRow.holds Tryd.pinned (OpenSpec.upto fnExactPlanReadSpec)

/-- 'laws.FnExactPartText', WHERE WHAT IT READS IS OF BULK AT MOST 1048576: true; the input reads as it did. -/
def fnExactPartTextUptoRow : OpenClaim := { program := "ytolbcoginmaboaadoor", sum := "724d3aae2a18ede8fc422e9a1bdc3913b5bf5d9fb1553b4c41d75ac04dc3f002", func := "loop.example/g00574/laws.FnExactPartText", spec := "fnExactPartText", inPlace := ["internal/abi.NoEscape", "internal/bytealg.MakeNoZero"], recurses := true, named := ["loop.example/g00574/impl.sortWords"], apart := false, laid := [("loop.example/g00574/impl.sortWords", laid_loop_example_g00574_impl_sortWords)], narrowed := true }
def FnExactPartTextUptoSaid : Prop := fnExactPartTextUptoRow.holds Tryd.pinned (OpenSpec.upto fnExactPartTextSpec)

/-- 'laws.FnExactPartRead', WHERE WHAT IT READS IS OF BULK AT MOST 1048576: true; the input reads as it did. -/
def fnExactPartReadUptoRow : OpenClaim := { program := "ytolbcoginmaboaadoor", sum := "724d3aae2a18ede8fc422e9a1bdc3913b5bf5d9fb1553b4c41d75ac04dc3f002", func := "loop.example/g00574/laws.FnExactPartRead", spec := "fnExactPartRead", recurses := true, named := ["loop.example/g00574/impl.sortWords"], apart := false, laid := [("loop.example/g00574/impl.sortWords", laid_loop_example_g00574_impl_sortWords)], narrowed := true }
def FnExactPartReadUptoSaid : Prop := fnExactPartReadUptoRow.holds Tryd.pinned (OpenSpec.upto fnExactPartReadSpec)

/-- 'laws.FnExactDeskPlan', WHERE WHAT IT READS IS OF BULK AT MOST 1048576: true; the input reads as it did. -/
def fnExactDeskPlanUptoRow : OpenClaim := { program := "ytolbcoginmaboaadoor", sum := "724d3aae2a18ede8fc422e9a1bdc3913b5bf5d9fb1553b4c41d75ac04dc3f002", func := "loop.example/g00574/laws.FnExactDeskPlan", spec := "fnExactDeskPlan", recurses := true, named := ["loop.example/g00574/impl.sortWords"], apart := false, laid := [("loop.example/g00574/impl.sortWords", laid_loop_example_g00574_impl_sortWords)], narrowed := true }
def FnExactDeskPlanUptoSaid : Prop := fnExactDeskPlanUptoRow.holds Tryd.pinned (OpenSpec.upto fnExactDeskPlanSpec)

end Rows
end Go.Proofs.YtolbcoginmaboaaDoor
