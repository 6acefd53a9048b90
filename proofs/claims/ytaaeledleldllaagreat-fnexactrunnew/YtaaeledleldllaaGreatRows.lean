/-
  No cell of these rows narrows 'for every input' (looked for: loops, veiled, ifaces, maps, wideKeys, modest, calm, conditions, laid).
  DERIVED. THE GIVEN ROWS OF THIS SEAT. 5 by the template 'for every input the law returns true; each argument reads behind the call as it read before'; 0 by the template 'total and deterministic' (their statements: YtaaeledleldllaaGreatTotals.lean).
  GIVEN WITH THE SEED: the statements are not yours to turn. If you find one false, say at which input.
  Laid BY PROGRAM, IN A SANDBOX (cutbox-rows.mjs): the forced cells as the released guide's own fill.sh prints them over the translation 021813cc9c909b0a… (all of the seat's roots in one cut). By AI agents, Wed Nov 11 2026. No macro, syntax, notation, axiom, sorry.
-/
import Derived.Test.YtaaeledleldllaaGreatChecked
import GoSem.Claim
import GoSem.ClaimJoined
import GoSem.ClaimMapViews
import Derived.JoinedTies
import Derived.KernelRfl
namespace Go.Proofs.YtaaeledleldllaaGreat
/- THE CELL 'sum', in the pinned program and in every row, IS THE sha256 OF THE DUMP (.gsa) THAT YtaaeledleldllaaGreatProg.lean LOADS. Nothing in Lean hashes anything: it is a label: what it is worth is what the hold of that sum in a sandbox is worth. -/
noncomputable def Tryz.pinned : Pinned := { name := "ytaaeledleldllaagreat", sum := "021813cc9c909b0adcf7f4c0f6f0e0950d943ccdc19899b0be3a0381b35f44cd", checked := Tryz.checked }
namespace Rows
def none {H : Type} : Left H := { results := [], args := [] }

/-- 'laws.FnExactSound': WHATEVER THE INPUT: true; the input reads as it did. -/
def fnExactSoundSpec : ChangeSpec := { name := "fnExactSound", fn := fun _ => fun
  | [d] => { results := [.lit (.bool true)], args := [d] }
  | _ => none }
def fnExactSoundRow : OpenClaim := { program := "ytaaeledleldllaagreat", sum := "021813cc9c909b0adcf7f4c0f6f0e0950d943ccdc19899b0be3a0381b35f44cd", func := "loop.example/g00574/laws.FnExactSound", spec := "fnExactSound", unfollowed := true, recurses := true, plainKeys := false, apart := false }
def FnExactSoundSaid : Prop := fnExactSoundRow.holds Tryz.pinned (OpenSpec.ofChange fnExactSoundSpec)

/-- ITS FALSE NEIGHBOUR: 'it returns false'. Refute it at one input. -/
def fnExactSoundWrong : ChangeSpec := { name := "fnExactSound", fn := fun _ => fun
  | [d] => { results := [.lit (.bool false)], args := [d] }
  | _ => none }
def FnExactSoundWrongFalsely : Prop := fnExactSoundRow.holds Tryz.pinned (OpenSpec.ofChange fnExactSoundWrong)

/-- 'laws.FnExactRunRight': WHATEVER THE INPUT: true; the input reads as it did. -/
def fnExactRunRightSpec : ChangeSpec := { name := "fnExactRunRight", fn := fun _ => fun
  | [d] => { results := [.lit (.bool true)], args := [d] }
  | _ => none }
def fnExactRunRightRow : OpenClaim := { program := "ytaaeledleldllaagreat", sum := "021813cc9c909b0adcf7f4c0f6f0e0950d943ccdc19899b0be3a0381b35f44cd", func := "loop.example/g00574/laws.FnExactRunRight", spec := "fnExactRunRight", unfollowed := true, recurses := true, plainKeys := false, apart := false }
def FnExactRunRightSaid : Prop := fnExactRunRightRow.holds Tryz.pinned (OpenSpec.ofChange fnExactRunRightSpec)

/-- ITS FALSE NEIGHBOUR: 'it returns false'. Refute it at one input. -/
def fnExactRunRightWrong : ChangeSpec := { name := "fnExactRunRight", fn := fun _ => fun
  | [d] => { results := [.lit (.bool false)], args := [d] }
  | _ => none }
def FnExactRunRightWrongFalsely : Prop := fnExactRunRightRow.holds Tryz.pinned (OpenSpec.ofChange fnExactRunRightWrong)

/-- 'laws.FnExactRunNew': WHATEVER THE INPUT: true; the input reads as it did. -/
def fnExactRunNewSpec : ChangeSpec := { name := "fnExactRunNew", fn := fun _ => fun
  | [d] => { results := [.lit (.bool true)], args := [d] }
  | _ => none }
def fnExactRunNewRow : OpenClaim := { program := "ytaaeledleldllaagreat", sum := "021813cc9c909b0adcf7f4c0f6f0e0950d943ccdc19899b0be3a0381b35f44cd", func := "loop.example/g00574/laws.FnExactRunNew", spec := "fnExactRunNew", unfollowed := true, recurses := true, plainKeys := false, apart := false }
def FnExactRunNewSaid : Prop := fnExactRunNewRow.holds Tryz.pinned (OpenSpec.ofChange fnExactRunNewSpec)

/-- ITS FALSE NEIGHBOUR: 'it returns false'. Refute it at one input. -/
def fnExactRunNewWrong : ChangeSpec := { name := "fnExactRunNew", fn := fun _ => fun
  | [d] => { results := [.lit (.bool false)], args := [d] }
  | _ => none }
def FnExactRunNewWrongFalsely : Prop := fnExactRunNewRow.holds Tryz.pinned (OpenSpec.ofChange fnExactRunNewWrong)

/-- 'laws.FnExactRunDone': WHATEVER THE INPUT: true; the input reads as it did. -/
def fnExactRunDoneSpec : ChangeSpec := { name := "fnExactRunDone", fn := fun _ => fun
  | [d] => { results := [.lit (.bool true)], args := [d] }
  | _ => none }
def fnExactRunDoneRow : OpenClaim := { program := "ytaaeledleldllaagreat", sum := "021813cc9c909b0adcf7f4c0f6f0e0950d943ccdc19899b0be3a0381b35f44cd", func := "loop.example/g00574/laws.FnExactRunDone", spec := "fnExactRunDone", unfollowed := true, recurses := true, plainKeys := false, apart := false }
def FnExactRunDoneSaid : Prop := fnExactRunDoneRow.holds Tryz.pinned (OpenSpec.ofChange fnExactRunDoneSpec)

/-- ITS FALSE NEIGHBOUR: 'it returns false'. Refute it at one input. -/
def fnExactRunDoneWrong : ChangeSpec := { name := "fnExactRunDone", fn := fun _ => fun
  | [d] => { results := [.lit (.bool false)], args := [d] }
  | _ => none }
def FnExactRunDoneWrongFalsely : Prop := fnExactRunDoneRow.holds Tryz.pinned (OpenSpec.ofChange fnExactRunDoneWrong)

/-- 'laws.FnExactPlayRight': WHATEVER THE INPUT: true; the input reads as it did. -/
def fnExactPlayRightSpec : ChangeSpec := { name := "fnExactPlayRight", fn := fun _ => fun
  | [d] => { results := [.lit (.bool true)], args := [d] }
  | _ => none }
def fnExactPlayRightRow : OpenClaim := { program := "ytaaeledleldllaagreat", sum := "021813cc9c909b0adcf7f4c0f6f0e0950d943ccdc19899b0be3a0381b35f44cd", func := "loop.example/g00574/laws.FnExactPlayRight", spec := "fnExactPlayRight", unfollowed := true, recurses := true, plainKeys := false, apart := false }
def FnExactPlayRightSaid : Prop := fnExactPlayRightRow.holds Tryz.pinned (OpenSpec.ofChange fnExactPlayRightSpec)

/-- ITS FALSE NEIGHBOUR: 'it returns false'. Refute it at one input. -/
def fnExactPlayRightWrong : ChangeSpec := { name := "fnExactPlayRight", fn := fun _ => fun
  | [d] => { results := [.lit (.bool false)], args := [d] }
  | _ => none }
def FnExactPlayRightWrongFalsely : Prop := fnExactPlayRightRow.holds Tryz.pinned (OpenSpec.ofChange fnExactPlayRightWrong)

/- THE SECOND FORM. 'bulk': how many values and letters a reading holds, each counted each time it is reached (what is shared counts as often as it is met; a slice's spare places count too). A statement '..UptoSaid' is the law's where the arguments, and the package variables that the reading takes, are together of bulk at most 1048576: NARROWER than '..Said'. Prove '..Said' where nothing that the law and all that it calls make is longer than what came in: it says more and counts as full. Else prove '..UptoSaid'. A law counts once. -/
mutual
def uptoBulk {H : Type} : DataW H → Nat
  | .lit (.string bytes) => bytes.length + 1
  | .lit _ => 1
  | .nil => 1
  | .ptr d => uptoBulk d + 1
  | .slice elems spare => uptoBulkAll elems + uptoBulkAll spare + 1
  | .agg parts => uptoBulkAll parts + 1
  | .iface _ d => uptoBulk d + 1
  | .map entries => uptoBulkEntries entries + 1
  | .held _ => 1
def uptoBulkAll {H : Type} : List (DataW H) → Nat
  | [] => 0
  | d :: r => uptoBulk d + uptoBulkAll r
def uptoBulkEntries {H : Type} : List (Lit × DataW H) → Nat
  | [] => 0
  | x :: r => uptoBulkEntry x + uptoBulkEntries r
def uptoBulkEntry {H : Type} : Lit × DataW H → Nat
  | (.string bytes, d) => bytes.length + uptoBulk d + 1
  | (_, d) => uptoBulk d + 1
 end
def uptoSmall : (H : Type) → List (DataW H) → Bool := fun _ ds => decide (uptoBulkAll ds ≤ 1048576)
def OpenSpec.upto (s : _root_.Go.ChangeSpec) : _root_.Go.OpenSpec := { _root_.Go.OpenSpec.ofChange s with cond := some uptoSmall }

/-- 'laws.FnExactSound', WHERE WHAT IT READS IS OF BULK AT MOST 1048576: true; the input reads as it did. -/
def fnExactSoundUptoRow : OpenClaim := { program := "ytaaeledleldllaagreat", sum := "021813cc9c909b0adcf7f4c0f6f0e0950d943ccdc19899b0be3a0381b35f44cd", func := "loop.example/g00574/laws.FnExactSound", spec := "fnExactSound", unfollowed := true, recurses := true, plainKeys := false, apart := false, narrowed := true }
def FnExactSoundUptoSaid : Prop := fnExactSoundUptoRow.holds Tryz.pinned (OpenSpec.upto fnExactSoundSpec)

/-- 'laws.FnExactRunRight', WHERE WHAT IT READS IS OF BULK AT MOST 1048576: true; the input reads as it did. -/
def fnExactRunRightUptoRow : OpenClaim := { program := "ytaaeledleldllaagreat", sum := "021813cc9c909b0adcf7f4c0f6f0e0950d943ccdc19899b0be3a0381b35f44cd", func := "loop.example/g00574/laws.FnExactRunRight", spec := "fnExactRunRight", unfollowed := true, recurses := true, plainKeys := false, apart := false, narrowed := true }
def FnExactRunRightUptoSaid : Prop := fnExactRunRightUptoRow.holds Tryz.pinned (OpenSpec.upto fnExactRunRightSpec)

/-- 'laws.FnExactRunNew', WHERE WHAT IT READS IS OF BULK AT MOST 1048576: true; the input reads as it did. -/
def fnExactRunNewUptoRow : OpenClaim := { program := "ytaaeledleldllaagreat", sum := "021813cc9c909b0adcf7f4c0f6f0e0950d943ccdc19899b0be3a0381b35f44cd", func := "loop.example/g00574/laws.FnExactRunNew", spec := "fnExactRunNew", unfollowed := true, recurses := true, plainKeys := false, apart := false, narrowed := true }
def FnExactRunNewUptoSaid : Prop := fnExactRunNewUptoRow.holds Tryz.pinned (OpenSpec.upto fnExactRunNewSpec)

/-- 'laws.FnExactRunDone', WHERE WHAT IT READS IS OF BULK AT MOST 1048576: true; the input reads as it did. -/
def fnExactRunDoneUptoRow : OpenClaim := { program := "ytaaeledleldllaagreat", sum := "021813cc9c909b0adcf7f4c0f6f0e0950d943ccdc19899b0be3a0381b35f44cd", func := "loop.example/g00574/laws.FnExactRunDone", spec := "fnExactRunDone", unfollowed := true, recurses := true, plainKeys := false, apart := false, narrowed := true }
def FnExactRunDoneUptoSaid : Prop := fnExactRunDoneUptoRow.holds Tryz.pinned (OpenSpec.upto fnExactRunDoneSpec)

/-- 'laws.FnExactPlayRight', WHERE WHAT IT READS IS OF BULK AT MOST 1048576: true; the input reads as it did. -/
def fnExactPlayRightUptoRow : OpenClaim := { program := "ytaaeledleldllaagreat", sum := "021813cc9c909b0adcf7f4c0f6f0e0950d943ccdc19899b0be3a0381b35f44cd", func := "loop.example/g00574/laws.FnExactPlayRight", spec := "fnExactPlayRight", unfollowed := true, recurses := true, plainKeys := false, apart := false, narrowed := true }
def FnExactPlayRightUptoSaid : Prop := fnExactPlayRightUptoRow.holds Tryz.pinned (OpenSpec.upto fnExactPlayRightSpec)

end Rows
end Go.Proofs.YtaaeledleldllaaGreat
