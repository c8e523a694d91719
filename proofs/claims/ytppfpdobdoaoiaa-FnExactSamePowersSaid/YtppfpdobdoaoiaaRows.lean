/-
  No cell of these rows narrows 'for every input' (looked for: loops, veiled, ifaces, maps, wideKeys, modest, calm, conditions, laid).
  DERIVED. THE GIVEN ROWS OF THIS SEAT. 12 by the template 'for every input the law returns true; each argument reads behind the call as it read before'; 0 by the template 'total and deterministic' (their statements: YtppfpdobdoaoiaaTotals.lean).
  GIVEN WITH THE SEED: the statements are not yours to turn. If you find one false, say at which input.
  Laid BY PROGRAM, IN A SANDBOX (cutbox-rows.mjs): the forced cells as the released guide's own fill.sh prints them over the translation 3ea514cc5bf6dff2… (all of the seat's roots in one cut). By AI agents, Wed Nov 11 2026. No macro, syntax, notation, axiom, sorry.
-/
import Derived.Test.YtppfpdobdoaoiaaChecked
import GoSem.Claim
import GoSem.ClaimJoined
import GoSem.ClaimMapViews
import Derived.JoinedTies
import Derived.KernelRfl
namespace Go.Proofs.Ytppfpdobdoaoiaa
/- THE CELL 'sum', in the pinned program and in every row, IS THE sha256 OF THE DUMP (.gsa) THAT YtppfpdobdoaoiaaProg.lean LOADS. Nothing in Lean hashes anything: it is a label: what it is worth is what the hold of that sum in a sandbox is worth. -/
noncomputable def Try.pinned : Pinned := { name := "ytppfpdobdoaoiaa", sum := "3ea514cc5bf6dff2d79b7bfc8bc844790c0fa53c0d28aca730d03d6f9e13d1df", checked := Try.checked }
namespace Rows
def none {H : Type} : Left H := { results := [], args := [] }

/-- 'laws.FnComposedExponents': WHATEVER THE INPUT: true; the input reads as it did. -/
def fnComposedExponentsSpec : ChangeSpec := { name := "fnComposedExponents", fn := fun _ => fun
  | [d1, d2] => { results := [.lit (.bool true)], args := [d1, d2] }
  | _ => none }
def fnComposedExponentsRow : OpenClaim := { program := "ytppfpdobdoaoiaa", sum := "3ea514cc5bf6dff2d79b7bfc8bc844790c0fa53c0d28aca730d03d6f9e13d1df", func := "loop.example/g01098/laws.FnComposedExponents", spec := "fnComposedExponents", apart := false }
def FnComposedExponentsSaid : Prop := fnComposedExponentsRow.holds Try.pinned (OpenSpec.ofChange fnComposedExponentsSpec)

/-- ITS FALSE NEIGHBOUR: 'it returns false'. Refute it at one input. -/
def fnComposedExponentsWrong : ChangeSpec := { name := "fnComposedExponents", fn := fun _ => fun
  | [d1, d2] => { results := [.lit (.bool false)], args := [d1, d2] }
  | _ => none }
def FnComposedExponentsWrongFalsely : Prop := fnComposedExponentsRow.holds Try.pinned (OpenSpec.ofChange fnComposedExponentsWrong)

/-- 'laws.FnExactIsPlan': WHATEVER THE INPUT: true; the input reads as it did. -/
def fnExactIsPlanSpec : ChangeSpec := { name := "fnExactIsPlan", fn := fun _ => fun
  | [d] => { results := [.lit (.bool true)], args := [d] }
  | _ => none }
def fnExactIsPlanRow : OpenClaim := { program := "ytppfpdobdoaoiaa", sum := "3ea514cc5bf6dff2d79b7bfc8bc844790c0fa53c0d28aca730d03d6f9e13d1df", func := "loop.example/g01098/laws.FnExactIsPlan", spec := "fnExactIsPlan", apart := false }
def FnExactIsPlanSaid : Prop := fnExactIsPlanRow.holds Try.pinned (OpenSpec.ofChange fnExactIsPlanSpec)

/-- ITS FALSE NEIGHBOUR: 'it returns false'. Refute it at one input. -/
def fnExactIsPlanWrong : ChangeSpec := { name := "fnExactIsPlan", fn := fun _ => fun
  | [d] => { results := [.lit (.bool false)], args := [d] }
  | _ => none }
def FnExactIsPlanWrongFalsely : Prop := fnExactIsPlanRow.holds Try.pinned (OpenSpec.ofChange fnExactIsPlanWrong)

/-- 'laws.FnExactValueExponents': WHATEVER THE INPUT: true; the input reads as it did. -/
def fnExactValueExponentsSpec : ChangeSpec := { name := "fnExactValueExponents", fn := fun _ => fun
  | [d1, d2] => { results := [.lit (.bool true)], args := [d1, d2] }
  | _ => none }
def fnExactValueExponentsRow : OpenClaim := { program := "ytppfpdobdoaoiaa", sum := "3ea514cc5bf6dff2d79b7bfc8bc844790c0fa53c0d28aca730d03d6f9e13d1df", func := "loop.example/g01098/laws.FnExactValueExponents", spec := "fnExactValueExponents", apart := false }
def FnExactValueExponentsSaid : Prop := fnExactValueExponentsRow.holds Try.pinned (OpenSpec.ofChange fnExactValueExponentsSpec)

/-- ITS FALSE NEIGHBOUR: 'it returns false'. Refute it at one input. -/
def fnExactValueExponentsWrong : ChangeSpec := { name := "fnExactValueExponents", fn := fun _ => fun
  | [d1, d2] => { results := [.lit (.bool false)], args := [d1, d2] }
  | _ => none }
def FnExactValueExponentsWrongFalsely : Prop := fnExactValueExponentsRow.holds Try.pinned (OpenSpec.ofChange fnExactValueExponentsWrong)

/-- 'laws.FnExactOutputExponents': WHATEVER THE INPUT: true; the input reads as it did. -/
def fnExactOutputExponentsSpec : ChangeSpec := { name := "fnExactOutputExponents", fn := fun _ => fun
  | [d] => { results := [.lit (.bool true)], args := [d] }
  | _ => none }
def fnExactOutputExponentsRow : OpenClaim := { program := "ytppfpdobdoaoiaa", sum := "3ea514cc5bf6dff2d79b7bfc8bc844790c0fa53c0d28aca730d03d6f9e13d1df", func := "loop.example/g01098/laws.FnExactOutputExponents", spec := "fnExactOutputExponents", apart := false }
def FnExactOutputExponentsSaid : Prop := fnExactOutputExponentsRow.holds Try.pinned (OpenSpec.ofChange fnExactOutputExponentsSpec)

/-- ITS FALSE NEIGHBOUR: 'it returns false'. Refute it at one input. -/
def fnExactOutputExponentsWrong : ChangeSpec := { name := "fnExactOutputExponents", fn := fun _ => fun
  | [d] => { results := [.lit (.bool false)], args := [d] }
  | _ => none }
def FnExactOutputExponentsWrongFalsely : Prop := fnExactOutputExponentsRow.holds Try.pinned (OpenSpec.ofChange fnExactOutputExponentsWrong)

/-- 'laws.FnExactSamePowers': WHATEVER THE INPUT: true; the input reads as it did. -/
def fnExactSamePowersSpec : ChangeSpec := { name := "fnExactSamePowers", fn := fun _ => fun
  | [d1, d2] => { results := [.lit (.bool true)], args := [d1, d2] }
  | _ => none }
def fnExactSamePowersRow : OpenClaim := { program := "ytppfpdobdoaoiaa", sum := "3ea514cc5bf6dff2d79b7bfc8bc844790c0fa53c0d28aca730d03d6f9e13d1df", func := "loop.example/g01098/laws.FnExactSamePowers", spec := "fnExactSamePowers", unfollowed := true, recurses := true, apart := false }
def FnExactSamePowersSaid : Prop := fnExactSamePowersRow.holds Try.pinned (OpenSpec.ofChange fnExactSamePowersSpec)

/-- ITS FALSE NEIGHBOUR: 'it returns false'. Refute it at one input. -/
def fnExactSamePowersWrong : ChangeSpec := { name := "fnExactSamePowers", fn := fun _ => fun
  | [d1, d2] => { results := [.lit (.bool false)], args := [d1, d2] }
  | _ => none }
def FnExactSamePowersWrongFalsely : Prop := fnExactSamePowersRow.holds Try.pinned (OpenSpec.ofChange fnExactSamePowersWrong)

/-- 'laws.FnExactCountsOf': WHATEVER THE INPUT: true; the input reads as it did. -/
def fnExactCountsOfSpec : ChangeSpec := { name := "fnExactCountsOf", fn := fun _ => fun
  | [d] => { results := [.lit (.bool true)], args := [d] }
  | _ => none }
def fnExactCountsOfRow : OpenClaim := { program := "ytppfpdobdoaoiaa", sum := "3ea514cc5bf6dff2d79b7bfc8bc844790c0fa53c0d28aca730d03d6f9e13d1df", func := "loop.example/g01098/laws.FnExactCountsOf", spec := "fnExactCountsOf", apart := false }
def FnExactCountsOfSaid : Prop := fnExactCountsOfRow.holds Try.pinned (OpenSpec.ofChange fnExactCountsOfSpec)

/-- ITS FALSE NEIGHBOUR: 'it returns false'. Refute it at one input. -/
def fnExactCountsOfWrong : ChangeSpec := { name := "fnExactCountsOf", fn := fun _ => fun
  | [d] => { results := [.lit (.bool false)], args := [d] }
  | _ => none }
def FnExactCountsOfWrongFalsely : Prop := fnExactCountsOfRow.holds Try.pinned (OpenSpec.ofChange fnExactCountsOfWrong)

/-- 'laws.FnExactDepthOf': WHATEVER THE INPUT: true; the input reads as it did. -/
def fnExactDepthOfSpec : ChangeSpec := { name := "fnExactDepthOf", fn := fun _ => fun
  | [d] => { results := [.lit (.bool true)], args := [d] }
  | _ => none }
def fnExactDepthOfRow : OpenClaim := { program := "ytppfpdobdoaoiaa", sum := "3ea514cc5bf6dff2d79b7bfc8bc844790c0fa53c0d28aca730d03d6f9e13d1df", func := "loop.example/g01098/laws.FnExactDepthOf", spec := "fnExactDepthOf", apart := false }
def FnExactDepthOfSaid : Prop := fnExactDepthOfRow.holds Try.pinned (OpenSpec.ofChange fnExactDepthOfSpec)

/-- ITS FALSE NEIGHBOUR: 'it returns false'. Refute it at one input. -/
def fnExactDepthOfWrong : ChangeSpec := { name := "fnExactDepthOf", fn := fun _ => fun
  | [d] => { results := [.lit (.bool false)], args := [d] }
  | _ => none }
def FnExactDepthOfWrongFalsely : Prop := fnExactDepthOfRow.holds Try.pinned (OpenSpec.ofChange fnExactDepthOfWrong)

/-- 'laws.FnExactUsedSteps': WHATEVER THE INPUT: true; the input reads as it did. -/
def fnExactUsedStepsSpec : ChangeSpec := { name := "fnExactUsedSteps", fn := fun _ => fun
  | [d] => { results := [.lit (.bool true)], args := [d] }
  | _ => none }
def fnExactUsedStepsRow : OpenClaim := { program := "ytppfpdobdoaoiaa", sum := "3ea514cc5bf6dff2d79b7bfc8bc844790c0fa53c0d28aca730d03d6f9e13d1df", func := "loop.example/g01098/laws.FnExactUsedSteps", spec := "fnExactUsedSteps", apart := false }
def FnExactUsedStepsSaid : Prop := fnExactUsedStepsRow.holds Try.pinned (OpenSpec.ofChange fnExactUsedStepsSpec)

/-- ITS FALSE NEIGHBOUR: 'it returns false'. Refute it at one input. -/
def fnExactUsedStepsWrong : ChangeSpec := { name := "fnExactUsedSteps", fn := fun _ => fun
  | [d] => { results := [.lit (.bool false)], args := [d] }
  | _ => none }
def FnExactUsedStepsWrongFalsely : Prop := fnExactUsedStepsRow.holds Try.pinned (OpenSpec.ofChange fnExactUsedStepsWrong)

/-- 'laws.FnExactIsTrim': WHATEVER THE INPUT: true; the input reads as it did. -/
def fnExactIsTrimSpec : ChangeSpec := { name := "fnExactIsTrim", fn := fun _ => fun
  | [d] => { results := [.lit (.bool true)], args := [d] }
  | _ => none }
def fnExactIsTrimRow : OpenClaim := { program := "ytppfpdobdoaoiaa", sum := "3ea514cc5bf6dff2d79b7bfc8bc844790c0fa53c0d28aca730d03d6f9e13d1df", func := "loop.example/g01098/laws.FnExactIsTrim", spec := "fnExactIsTrim", apart := false }
def FnExactIsTrimSaid : Prop := fnExactIsTrimRow.holds Try.pinned (OpenSpec.ofChange fnExactIsTrimSpec)

/-- ITS FALSE NEIGHBOUR: 'it returns false'. Refute it at one input. -/
def fnExactIsTrimWrong : ChangeSpec := { name := "fnExactIsTrim", fn := fun _ => fun
  | [d] => { results := [.lit (.bool false)], args := [d] }
  | _ => none }
def FnExactIsTrimWrongFalsely : Prop := fnExactIsTrimRow.holds Try.pinned (OpenSpec.ofChange fnExactIsTrimWrong)

/-- 'laws.FnExactTrimPlan': WHATEVER THE INPUT: true; the input reads as it did. -/
def fnExactTrimPlanSpec : ChangeSpec := { name := "fnExactTrimPlan", fn := fun _ => fun
  | [d] => { results := [.lit (.bool true)], args := [d] }
  | _ => none }
def fnExactTrimPlanRow : OpenClaim := { program := "ytppfpdobdoaoiaa", sum := "3ea514cc5bf6dff2d79b7bfc8bc844790c0fa53c0d28aca730d03d6f9e13d1df", func := "loop.example/g01098/laws.FnExactTrimPlan", spec := "fnExactTrimPlan", apart := false }
def FnExactTrimPlanSaid : Prop := fnExactTrimPlanRow.holds Try.pinned (OpenSpec.ofChange fnExactTrimPlanSpec)

/-- ITS FALSE NEIGHBOUR: 'it returns false'. Refute it at one input. -/
def fnExactTrimPlanWrong : ChangeSpec := { name := "fnExactTrimPlan", fn := fun _ => fun
  | [d] => { results := [.lit (.bool false)], args := [d] }
  | _ => none }
def FnExactTrimPlanWrongFalsely : Prop := fnExactTrimPlanRow.holds Try.pinned (OpenSpec.ofChange fnExactTrimPlanWrong)

/-- 'laws.FnExactSharePlan': WHATEVER THE INPUT: true; the input reads as it did. -/
def fnExactSharePlanSpec : ChangeSpec := { name := "fnExactSharePlan", fn := fun _ => fun
  | [d] => { results := [.lit (.bool true)], args := [d] }
  | _ => none }
def fnExactSharePlanRow : OpenClaim := { program := "ytppfpdobdoaoiaa", sum := "3ea514cc5bf6dff2d79b7bfc8bc844790c0fa53c0d28aca730d03d6f9e13d1df", func := "loop.example/g01098/laws.FnExactSharePlan", spec := "fnExactSharePlan", apart := false }
def FnExactSharePlanSaid : Prop := fnExactSharePlanRow.holds Try.pinned (OpenSpec.ofChange fnExactSharePlanSpec)

/-- ITS FALSE NEIGHBOUR: 'it returns false'. Refute it at one input. -/
def fnExactSharePlanWrong : ChangeSpec := { name := "fnExactSharePlan", fn := fun _ => fun
  | [d] => { results := [.lit (.bool false)], args := [d] }
  | _ => none }
def FnExactSharePlanWrongFalsely : Prop := fnExactSharePlanRow.holds Try.pinned (OpenSpec.ofChange fnExactSharePlanWrong)

/-- 'laws.FnExactComposePlans': WHATEVER THE INPUT: true; the input reads as it did. -/
def fnExactComposePlansSpec : ChangeSpec := { name := "fnExactComposePlans", fn := fun _ => fun
  | [d1, d2] => { results := [.lit (.bool true)], args := [d1, d2] }
  | _ => none }
def fnExactComposePlansRow : OpenClaim := { program := "ytppfpdobdoaoiaa", sum := "3ea514cc5bf6dff2d79b7bfc8bc844790c0fa53c0d28aca730d03d6f9e13d1df", func := "loop.example/g01098/laws.FnExactComposePlans", spec := "fnExactComposePlans", apart := false }
def FnExactComposePlansSaid : Prop := fnExactComposePlansRow.holds Try.pinned (OpenSpec.ofChange fnExactComposePlansSpec)

/-- ITS FALSE NEIGHBOUR: 'it returns false'. Refute it at one input. -/
def fnExactComposePlansWrong : ChangeSpec := { name := "fnExactComposePlans", fn := fun _ => fun
  | [d1, d2] => { results := [.lit (.bool false)], args := [d1, d2] }
  | _ => none }
def FnExactComposePlansWrongFalsely : Prop := fnExactComposePlansRow.holds Try.pinned (OpenSpec.ofChange fnExactComposePlansWrong)

/- THE SECOND FORM. 'bulk': how many values and letters a reading holds, each counted each time it is reached (what is shared counts as often as it is met; a slice's spare places count too). A statement '..UptoSaid' is the law's where the arguments, and the package variables that the reading takes, are together of bulk at most 1048576: NARROWER than '..Said'. Prove '..Said' where nothing that the law and all that it calls make is longer than what came in: it says more and counts as full. Else prove '..UptoSaid'. A law counts once. -/
mutual
def uptoBulk {H : Type} : DataW H → Nat
  | .lit (.string bytes) => bytes.length + 1
  | .lit _ => 1
  | .nil => 1
  | .ptr d => uptoBulk d + 1
  | .slice elems spare => uptoBulkAll elems + uptoBulkAll spare + 1
  | .agg parts => uptoBulkAll parts + 1
  | .iface _ d => uptoBulk d + 1
  | .map entries => uptoBulkEntries entries + 1
  | .held _ => 1
def uptoBulkAll {H : Type} : List (DataW H) → Nat
  | [] => 0
  | d :: r => uptoBulk d + uptoBulkAll r
def uptoBulkEntries {H : Type} : List (Lit × DataW H) → Nat
  | [] => 0
  | x :: r => uptoBulkEntry x + uptoBulkEntries r
def uptoBulkEntry {H : Type} : Lit × DataW H → Nat
  | (.string bytes, d) => bytes.length + uptoBulk d + 1
  | (_, d) => uptoBulk d + 1
 end
def uptoSmall : (H : Type) → List (DataW H) → Bool := fun _ ds => decide (uptoBulkAll ds ≤ 1048576)
def OpenSpec.upto (s : _root_.Go.ChangeSpec) : _root_.Go.OpenSpec := { _root_.Go.OpenSpec.ofChange s with cond := some uptoSmall }

/-- 'laws.FnComposedExponents', WHERE WHAT IT READS IS OF BULK AT MOST 1048576: true; the input reads as it did. -/
def fnComposedExponentsUptoRow : OpenClaim := { program := "ytppfpdobdoaoiaa", sum := "3ea514cc5bf6dff2d79b7bfc8bc844790c0fa53c0d28aca730d03d6f9e13d1df", func := "loop.example/g01098/laws.FnComposedExponents", spec := "fnComposedExponents", apart := false, narrowed := true }
def FnComposedExponentsUptoSaid : Prop := fnComposedExponentsUptoRow.holds Try.pinned (OpenSpec.upto fnComposedExponentsSpec)

/-- 'laws.FnExactIsPlan', WHERE WHAT IT READS IS OF BULK AT MOST 1048576: true; the input reads as it did. -/
def fnExactIsPlanUptoRow : OpenClaim := { program := "ytppfpdobdoaoiaa", sum := "3ea514cc5bf6dff2d79b7bfc8bc844790c0fa53c0d28aca730d03d6f9e13d1df", func := "loop.example/g01098/laws.FnExactIsPlan", spec := "fnExactIsPlan", apart := false, narrowed := true }
def FnExactIsPlanUptoSaid : Prop := fnExactIsPlanUptoRow.holds Try.pinned (OpenSpec.upto fnExactIsPlanSpec)

/-- 'laws.FnExactValueExponents', WHERE WHAT IT READS IS OF BULK AT MOST 1048576: true; the input reads as it did. -/
def fnExactValueExponentsUptoRow : OpenClaim := { program := "ytppfpdobdoaoiaa", sum := "3ea514cc5bf6dff2d79b7bfc8bc844790c0fa53c0d28aca730d03d6f9e13d1df", func := "loop.example/g01098/laws.FnExactValueExponents", spec := "fnExactValueExponents", apart := false, narrowed := true }
def FnExactValueExponentsUptoSaid : Prop := fnExactValueExponentsUptoRow.holds Try.pinned (OpenSpec.upto fnExactValueExponentsSpec)

/-- 'laws.FnExactOutputExponents', WHERE WHAT IT READS IS OF BULK AT MOST 1048576: true; the input reads as it did. -/
def fnExactOutputExponentsUptoRow : OpenClaim := { program := "ytppfpdobdoaoiaa", sum := "3ea514cc5bf6dff2d79b7bfc8bc844790c0fa53c0d28aca730d03d6f9e13d1df", func := "loop.example/g01098/laws.FnExactOutputExponents", spec := "fnExactOutputExponents", apart := false, narrowed := true }
def FnExactOutputExponentsUptoSaid : Prop := fnExactOutputExponentsUptoRow.holds Try.pinned (OpenSpec.upto fnExactOutputExponentsSpec)

/-- 'laws.FnExactSamePowers', WHERE WHAT IT READS IS OF BULK AT MOST 1048576: true; the input reads as it did. -/
def fnExactSamePowersUptoRow : OpenClaim := { program := "ytppfpdobdoaoiaa", sum := "3ea514cc5bf6dff2d79b7bfc8bc844790c0fa53c0d28aca730d03d6f9e13d1df", func := "loop.example/g01098/laws.FnExactSamePowers", spec := "fnExactSamePowers", unfollowed := true, recurses := true, apart := false, narrowed := true }
def FnExactSamePowersUptoSaid : Prop := fnExactSamePowersUptoRow.holds Try.pinned (OpenSpec.upto fnExactSamePowersSpec)

/-- 'laws.FnExactCountsOf', WHERE WHAT IT READS IS OF BULK AT MOST 1048576: true; the input reads as it did. -/
def fnExactCountsOfUptoRow : OpenClaim := { program := "ytppfpdobdoaoiaa", sum := "3ea514cc5bf6dff2d79b7bfc8bc844790c0fa53c0d28aca730d03d6f9e13d1df", func := "loop.example/g01098/laws.FnExactCountsOf", spec := "fnExactCountsOf", apart := false, narrowed := true }
def FnExactCountsOfUptoSaid : Prop := fnExactCountsOfUptoRow.holds Try.pinned (OpenSpec.upto fnExactCountsOfSpec)

/-- 'laws.FnExactDepthOf', WHERE WHAT IT READS IS OF BULK AT MOST 1048576: true; the input reads as it did. -/
def fnExactDepthOfUptoRow : OpenClaim := { program := "ytppfpdobdoaoiaa", sum := "3ea514cc5bf6dff2d79b7bfc8bc844790c0fa53c0d28aca730d03d6f9e13d1df", func := "loop.example/g01098/laws.FnExactDepthOf", spec := "fnExactDepthOf", apart := false, narrowed := true }
def FnExactDepthOfUptoSaid : Prop := fnExactDepthOfUptoRow.holds Try.pinned (OpenSpec.upto fnExactDepthOfSpec)

/-- 'laws.FnExactUsedSteps', WHERE WHAT IT READS IS OF BULK AT MOST 1048576: true; the input reads as it did. -/
def fnExactUsedStepsUptoRow : OpenClaim := { program := "ytppfpdobdoaoiaa", sum := "3ea514cc5bf6dff2d79b7bfc8bc844790c0fa53c0d28aca730d03d6f9e13d1df", func := "loop.example/g01098/laws.FnExactUsedSteps", spec := "fnExactUsedSteps", apart := false, narrowed := true }
def FnExactUsedStepsUptoSaid : Prop := fnExactUsedStepsUptoRow.holds Try.pinned (OpenSpec.upto fnExactUsedStepsSpec)

/-- 'laws.FnExactIsTrim', WHERE WHAT IT READS IS OF BULK AT MOST 1048576: true; the input reads as it did. -/
def fnExactIsTrimUptoRow : OpenClaim := { program := "ytppfpdobdoaoiaa", sum := "3ea514cc5bf6dff2d79b7bfc8bc844790c0fa53c0d28aca730d03d6f9e13d1df", func := "loop.example/g01098/laws.FnExactIsTrim", spec := "fnExactIsTrim", apart := false, narrowed := true }
def FnExactIsTrimUptoSaid : Prop := fnExactIsTrimUptoRow.holds Try.pinned (OpenSpec.upto fnExactIsTrimSpec)

/-- 'laws.FnExactTrimPlan', WHERE WHAT IT READS IS OF BULK AT MOST 1048576: true; the input reads as it did. -/
def fnExactTrimPlanUptoRow : OpenClaim := { program := "ytppfpdobdoaoiaa", sum := "3ea514cc5bf6dff2d79b7bfc8bc844790c0fa53c0d28aca730d03d6f9e13d1df", func := "loop.example/g01098/laws.FnExactTrimPlan", spec := "fnExactTrimPlan", apart := false, narrowed := true }
def FnExactTrimPlanUptoSaid : Prop := fnExactTrimPlanUptoRow.holds Try.pinned (OpenSpec.upto fnExactTrimPlanSpec)

/-- 'laws.FnExactSharePlan', WHERE WHAT IT READS IS OF BULK AT MOST 1048576: true; the input reads as it did. -/
def fnExactSharePlanUptoRow : OpenClaim := { program := "ytppfpdobdoaoiaa", sum := "3ea514cc5bf6dff2d79b7bfc8bc844790c0fa53c0d28aca730d03d6f9e13d1df", func := "loop.example/g01098/laws.FnExactSharePlan", spec := "fnExactSharePlan", apart := false, narrowed := true }
def FnExactSharePlanUptoSaid : Prop := fnExactSharePlanUptoRow.holds Try.pinned (OpenSpec.upto fnExactSharePlanSpec)

/-- 'laws.FnExactComposePlans', WHERE WHAT IT READS IS OF BULK AT MOST 1048576: true; the input reads as it did. -/
def fnExactComposePlansUptoRow : OpenClaim := { program := "ytppfpdobdoaoiaa", sum := "3ea514cc5bf6dff2d79b7bfc8bc844790c0fa53c0d28aca730d03d6f9e13d1df", func := "loop.example/g01098/laws.FnExactComposePlans", spec := "fnExactComposePlans", apart := false, narrowed := true }
def FnExactComposePlansUptoSaid : Prop := fnExactComposePlansUptoRow.holds Try.pinned (OpenSpec.upto fnExactComposePlansSpec)

end Rows
end Go.Proofs.Ytppfpdobdoaoiaa
