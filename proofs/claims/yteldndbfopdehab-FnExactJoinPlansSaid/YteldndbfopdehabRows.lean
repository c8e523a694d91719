/-
  No cell of these rows narrows 'for every input' (looked for: loops, veiled, ifaces, maps, wideKeys, modest, calm, conditions, laid).
  DERIVED. THE GIVEN ROWS OF THIS SEAT. 7 by the template 'for every input the law returns true; each argument reads behind the call as it read before'; 0 by the template 'total and deterministic' (their statements: YteldndbfopdehabTotals.lean).
  GIVEN WITH THE SEED: the statements are not yours to turn. If you find one false, say at which input.
  Laid BY PROGRAM, IN A SANDBOX (cutbox-rows.mjs): the forced cells as the released guide's own fill.sh prints them over the translation 9dd09f0b8fcf92d2… (all of the seat's roots in one cut). By AI agents, Wed Nov 11 2026. No macro, syntax, notation, axiom, sorry.
-/
import Derived.Test.YteldndbfopdehabChecked
import GoSem.Claim
import GoSem.ClaimJoined
import GoSem.ClaimMapViews
import Derived.JoinedTies
import Derived.KernelRfl
namespace Go.Proofs.Yteldndbfopdehab
/- THE CELL 'sum', in the pinned program and in every row, IS THE sha256 OF THE DUMP (.gsa) THAT YteldndbfopdehabProg.lean LOADS. Nothing in Lean hashes anything: it is a label: what it is worth is what the hold of that sum in a sandbox is worth. -/
noncomputable def Try.pinned : Pinned := { name := "yteldndbfopdehab", sum := "9dd09f0b8fcf92d240d00bfa01ae465be2053c56ca31e5dbb1872ed40b095336", checked := Try.checked }
namespace Rows
def none {H : Type} : Left H := { results := [], args := [] }

/-- 'laws.FnExactScaleChain': WHATEVER THE INPUT: true; the input reads as it did. -/
def fnExactScaleChainSpec : ChangeSpec := { name := "fnExactScaleChain", fn := fun _ => fun
  | [d1, d2] => { results := [.lit (.bool true)], args := [d1, d2] }
  | _ => none }
def fnExactScaleChainRow : OpenClaim := { program := "yteldndbfopdehab", sum := "9dd09f0b8fcf92d240d00bfa01ae465be2053c56ca31e5dbb1872ed40b095336", func := "loop.example/g01098/laws.FnExactScaleChain", spec := "fnExactScaleChain", apart := false }
def FnExactScaleChainSaid : Prop := fnExactScaleChainRow.holds Try.pinned (OpenSpec.ofChange fnExactScaleChainSpec)

/-- ITS FALSE NEIGHBOUR: 'it returns false'. Refute it at one input. -/
def fnExactScaleChainWrong : ChangeSpec := { name := "fnExactScaleChain", fn := fun _ => fun
  | [d1, d2] => { results := [.lit (.bool false)], args := [d1, d2] }
  | _ => none }
def FnExactScaleChainWrongFalsely : Prop := fnExactScaleChainRow.holds Try.pinned (OpenSpec.ofChange fnExactScaleChainWrong)

/-- 'laws.FnExactChainOfPlan': WHATEVER THE INPUT: true; the input reads as it did. -/
def fnExactChainOfPlanSpec : ChangeSpec := { name := "fnExactChainOfPlan", fn := fun _ => fun
  | [d] => { results := [.lit (.bool true)], args := [d] }
  | _ => none }
def fnExactChainOfPlanRow : OpenClaim := { program := "yteldndbfopdehab", sum := "9dd09f0b8fcf92d240d00bfa01ae465be2053c56ca31e5dbb1872ed40b095336", func := "loop.example/g01098/laws.FnExactChainOfPlan", spec := "fnExactChainOfPlan", inPlace := ["slices.overlaps[int]"], apart := false }
def FnExactChainOfPlanSaid : Prop := fnExactChainOfPlanRow.holds Try.pinned (OpenSpec.ofChange fnExactChainOfPlanSpec)

/-- ITS FALSE NEIGHBOUR: 'it returns false'. Refute it at one input. -/
def fnExactChainOfPlanWrong : ChangeSpec := { name := "fnExactChainOfPlan", fn := fun _ => fun
  | [d] => { results := [.lit (.bool false)], args := [d] }
  | _ => none }
def FnExactChainOfPlanWrongFalsely : Prop := fnExactChainOfPlanRow.holds Try.pinned (OpenSpec.ofChange fnExactChainOfPlanWrong)

/-- 'laws.FnExactNeededPart': WHATEVER THE INPUT: true; the input reads as it did. -/
def fnExactNeededPartSpec : ChangeSpec := { name := "fnExactNeededPart", fn := fun _ => fun
  | [d] => { results := [.lit (.bool true)], args := [d] }
  | _ => none }
def fnExactNeededPartRow : OpenClaim := { program := "yteldndbfopdehab", sum := "9dd09f0b8fcf92d240d00bfa01ae465be2053c56ca31e5dbb1872ed40b095336", func := "loop.example/g01098/laws.FnExactNeededPart", spec := "fnExactNeededPart", inPlace := ["slices.overlaps[int]"], apart := false }
def FnExactNeededPartSaid : Prop := fnExactNeededPartRow.holds Try.pinned (OpenSpec.ofChange fnExactNeededPartSpec)

/-- ITS FALSE NEIGHBOUR: 'it returns false'. Refute it at one input. -/
def fnExactNeededPartWrong : ChangeSpec := { name := "fnExactNeededPart", fn := fun _ => fun
  | [d] => { results := [.lit (.bool false)], args := [d] }
  | _ => none }
def FnExactNeededPartWrongFalsely : Prop := fnExactNeededPartRow.holds Try.pinned (OpenSpec.ofChange fnExactNeededPartWrong)

/-- 'laws.FnExactSequencePlan': WHATEVER THE INPUT: true; the input reads as it did. -/
def fnExactSequencePlanSpec : ChangeSpec := { name := "fnExactSequencePlan", fn := fun _ => fun
  | [d1, d2] => { results := [.lit (.bool true)], args := [d1, d2] }
  | _ => none }
def fnExactSequencePlanRow : OpenClaim := { program := "yteldndbfopdehab", sum := "9dd09f0b8fcf92d240d00bfa01ae465be2053c56ca31e5dbb1872ed40b095336", func := "loop.example/g01098/laws.FnExactSequencePlan", spec := "fnExactSequencePlan", apart := false }
def FnExactSequencePlanSaid : Prop := fnExactSequencePlanRow.holds Try.pinned (OpenSpec.ofChange fnExactSequencePlanSpec)

/-- ITS FALSE NEIGHBOUR: 'it returns false'. Refute it at one input. -/
def fnExactSequencePlanWrong : ChangeSpec := { name := "fnExactSequencePlan", fn := fun _ => fun
  | [d1, d2] => { results := [.lit (.bool false)], args := [d1, d2] }
  | _ => none }
def FnExactSequencePlanWrongFalsely : Prop := fnExactSequencePlanRow.holds Try.pinned (OpenSpec.ofChange fnExactSequencePlanWrong)

/-- 'laws.FnExactComposePlans': WHATEVER THE INPUT: true; the input reads as it did. -/
def fnExactComposePlansSpec : ChangeSpec := { name := "fnExactComposePlans", fn := fun _ => fun
  | [d1, d2] => { results := [.lit (.bool true)], args := [d1, d2] }
  | _ => none }
def fnExactComposePlansRow : OpenClaim := { program := "yteldndbfopdehab", sum := "9dd09f0b8fcf92d240d00bfa01ae465be2053c56ca31e5dbb1872ed40b095336", func := "loop.example/g01098/laws.FnExactComposePlans", spec := "fnExactComposePlans", apart := false }
def FnExactComposePlansSaid : Prop := fnExactComposePlansRow.holds Try.pinned (OpenSpec.ofChange fnExactComposePlansSpec)

/-- ITS FALSE NEIGHBOUR: 'it returns false'. Refute it at one input. -/
def fnExactComposePlansWrong : ChangeSpec := { name := "fnExactComposePlans", fn := fun _ => fun
  | [d1, d2] => { results := [.lit (.bool false)], args := [d1, d2] }
  | _ => none }
def FnExactComposePlansWrongFalsely : Prop := fnExactComposePlansRow.holds Try.pinned (OpenSpec.ofChange fnExactComposePlansWrong)

/-- 'laws.FnExactJoinPlans': WHATEVER THE INPUT: true; the input reads as it did. -/
def fnExactJoinPlansSpec : ChangeSpec := { name := "fnExactJoinPlans", fn := fun _ => fun
  | [d1, d2] => { results := [.lit (.bool true)], args := [d1, d2] }
  | _ => none }
def fnExactJoinPlansRow : OpenClaim := { program := "yteldndbfopdehab", sum := "9dd09f0b8fcf92d240d00bfa01ae465be2053c56ca31e5dbb1872ed40b095336", func := "loop.example/g01098/laws.FnExactJoinPlans", spec := "fnExactJoinPlans", apart := false }
def FnExactJoinPlansSaid : Prop := fnExactJoinPlansRow.holds Try.pinned (OpenSpec.ofChange fnExactJoinPlansSpec)

/-- ITS FALSE NEIGHBOUR: 'it returns false'. Refute it at one input. -/
def fnExactJoinPlansWrong : ChangeSpec := { name := "fnExactJoinPlans", fn := fun _ => fun
  | [d1, d2] => { results := [.lit (.bool false)], args := [d1, d2] }
  | _ => none }
def FnExactJoinPlansWrongFalsely : Prop := fnExactJoinPlansRow.holds Try.pinned (OpenSpec.ofChange fnExactJoinPlansWrong)

/-- 'laws.FnComposedExponents': WHATEVER THE INPUT: true; the input reads as it did. -/
def fnComposedExponentsSpec : ChangeSpec := { name := "fnComposedExponents", fn := fun _ => fun
  | [d1, d2] => { results := [.lit (.bool true)], args := [d1, d2] }
  | _ => none }
def fnComposedExponentsRow : OpenClaim := { program := "yteldndbfopdehab", sum := "9dd09f0b8fcf92d240d00bfa01ae465be2053c56ca31e5dbb1872ed40b095336", func := "loop.example/g01098/laws.FnComposedExponents", spec := "fnComposedExponents", apart := false }
def FnComposedExponentsSaid : Prop := fnComposedExponentsRow.holds Try.pinned (OpenSpec.ofChange fnComposedExponentsSpec)

/-- ITS FALSE NEIGHBOUR: 'it returns false'. Refute it at one input. -/
def fnComposedExponentsWrong : ChangeSpec := { name := "fnComposedExponents", fn := fun _ => fun
  | [d1, d2] => { results := [.lit (.bool false)], args := [d1, d2] }
  | _ => none }
def FnComposedExponentsWrongFalsely : Prop := fnComposedExponentsRow.holds Try.pinned (OpenSpec.ofChange fnComposedExponentsWrong)

/- THE SECOND FORM. 'bulk': how many values and letters a reading holds, each counted each time it is reached (what is shared counts as often as it is met; a slice's spare places count too). A statement '..UptoSaid' is the law's where the arguments, and the package variables that the reading takes, are together of bulk at most 1048576: NARROWER than '..Said'. Prove '..Said' where nothing that the law and all that it calls make is longer than what came in: it says more and counts as full. Else prove '..UptoSaid'. A law counts once. -/
mutual
def uptoBulk {H : Type} : DataW H → Nat
  | .lit (.string bytes) => bytes.length + 1
  | .lit _ => 1
  | .nil => 1
  | .ptr d => uptoBulk d + 1
  | .slice elems spare => uptoBulkAll elems + uptoBulkAll spare + 1
  | .agg parts => uptoBulkAll parts + 1
  | .iface _ d => uptoBulk d + 1
  | .map entries => uptoBulkEntries entries + 1
  | .held _ => 1
def uptoBulkAll {H : Type} : List (DataW H) → Nat
  | [] => 0
  | d :: r => uptoBulk d + uptoBulkAll r
def uptoBulkEntries {H : Type} : List (Lit × DataW H) → Nat
  | [] => 0
  | x :: r => uptoBulkEntry x + uptoBulkEntries r
def uptoBulkEntry {H : Type} : Lit × DataW H → Nat
  | (.string bytes, d) => bytes.length + uptoBulk d + 1
  | (_, d) => uptoBulk d + 1
 end
def uptoSmall : (H : Type) → List (DataW H) → Bool := fun _ ds => decide (uptoBulkAll ds ≤ 1048576)
def OpenSpec.upto (s : _root_.Go.ChangeSpec) : _root_.Go.OpenSpec := { _root_.Go.OpenSpec.ofChange s with cond := some uptoSmall }

/-- 'laws.FnExactScaleChain', WHERE WHAT IT READS IS OF BULK AT MOST 1048576: true; the input reads as it did. -/
def fnExactScaleChainUptoRow : OpenClaim := { program := "yteldndbfopdehab", sum := "9dd09f0b8fcf92d240d00bfa01ae465be2053c56ca31e5dbb1872ed40b095336", func := "loop.example/g01098/laws.FnExactScaleChain", spec := "fnExactScaleChain", apart := false, narrowed := true }
def FnExactScaleChainUptoSaid : Prop := fnExactScaleChainUptoRow.holds Try.pinned (OpenSpec.upto fnExactScaleChainSpec)

/-- 'laws.FnExactChainOfPlan', WHERE WHAT IT READS IS OF BULK AT MOST 1048576: true; the input reads as it did. -/
def fnExactChainOfPlanUptoRow : OpenClaim := { program := "yteldndbfopdehab", sum := "9dd09f0b8fcf92d240d00bfa01ae465be2053c56ca31e5dbb1872ed40b095336", func := "loop.example/g01098/laws.FnExactChainOfPlan", spec := "fnExactChainOfPlan", inPlace := ["slices.overlaps[int]"], apart := false, narrowed := true }
def FnExactChainOfPlanUptoSaid : Prop := fnExactChainOfPlanUptoRow.holds Try.pinned (OpenSpec.upto fnExactChainOfPlanSpec)

/-- 'laws.FnExactNeededPart', WHERE WHAT IT READS IS OF BULK AT MOST 1048576: true; the input reads as it did. -/
def fnExactNeededPartUptoRow : OpenClaim := { program := "yteldndbfopdehab", sum := "9dd09f0b8fcf92d240d00bfa01ae465be2053c56ca31e5dbb1872ed40b095336", func := "loop.example/g01098/laws.FnExactNeededPart", spec := "fnExactNeededPart", inPlace := ["slices.overlaps[int]"], apart := false, narrowed := true }
def FnExactNeededPartUptoSaid : Prop := fnExactNeededPartUptoRow.holds Try.pinned (OpenSpec.upto fnExactNeededPartSpec)

/-- 'laws.FnExactSequencePlan', WHERE WHAT IT READS IS OF BULK AT MOST 1048576: true; the input reads as it did. -/
def fnExactSequencePlanUptoRow : OpenClaim := { program := "yteldndbfopdehab", sum := "9dd09f0b8fcf92d240d00bfa01ae465be2053c56ca31e5dbb1872ed40b095336", func := "loop.example/g01098/laws.FnExactSequencePlan", spec := "fnExactSequencePlan", apart := false, narrowed := true }
def FnExactSequencePlanUptoSaid : Prop := fnExactSequencePlanUptoRow.holds Try.pinned (OpenSpec.upto fnExactSequencePlanSpec)

/-- 'laws.FnExactComposePlans', WHERE WHAT IT READS IS OF BULK AT MOST 1048576: true; the input reads as it did. -/
def fnExactComposePlansUptoRow : OpenClaim := { program := "yteldndbfopdehab", sum := "9dd09f0b8fcf92d240d00bfa01ae465be2053c56ca31e5dbb1872ed40b095336", func := "loop.example/g01098/laws.FnExactComposePlans", spec := "fnExactComposePlans", apart := false, narrowed := true }
def FnExactComposePlansUptoSaid : Prop := fnExactComposePlansUptoRow.holds Try.pinned (OpenSpec.upto fnExactComposePlansSpec)

/-- 'laws.FnExactJoinPlans', WHERE WHAT IT READS IS OF BULK AT MOST 1048576: true; the input reads as it did. -/
def fnExactJoinPlansUptoRow : OpenClaim := { program := "yteldndbfopdehab", sum := "9dd09f0b8fcf92d240d00bfa01ae465be2053c56ca31e5dbb1872ed40b095336", func := "loop.example/g01098/laws.FnExactJoinPlans", spec := "fnExactJoinPlans", apart := false, narrowed := true }
def FnExactJoinPlansUptoSaid : Prop := fnExactJoinPlansUptoRow.holds Try.pinned (OpenSpec.upto fnExactJoinPlansSpec)

/-- 'laws.FnComposedExponents', WHERE WHAT IT READS IS OF BULK AT MOST 1048576: true; the input reads as it did. -/
def fnComposedExponentsUptoRow : OpenClaim := { program := "yteldndbfopdehab", sum := "9dd09f0b8fcf92d240d00bfa01ae465be2053c56ca31e5dbb1872ed40b095336", func := "loop.example/g01098/laws.FnComposedExponents", spec := "fnComposedExponents", apart := false, narrowed := true }
def FnComposedExponentsUptoSaid : Prop := fnComposedExponentsUptoRow.holds Try.pinned (OpenSpec.upto fnComposedExponentsSpec)

end Rows
end Go.Proofs.Yteldndbfopdehab
