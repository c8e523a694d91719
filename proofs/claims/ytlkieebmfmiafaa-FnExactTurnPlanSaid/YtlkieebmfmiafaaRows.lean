/-
  No cell of these rows narrows 'for every input' (looked for: loops, veiled, ifaces, maps, wideKeys, modest, calm, conditions, laid).
  DERIVED. THE GIVEN ROWS OF THIS SEAT. 12 by the template 'for every input the law returns true; each argument reads behind the call as it read before'; 0 by the template 'total and deterministic' (their statements: YtlkieebmfmiafaaTotals.lean).
  GIVEN WITH THE SEED: the statements are not yours to turn. If you find one false, say at which input.
  Laid BY PROGRAM, IN A SANDBOX (cutbox-rows.mjs): the forced cells as the released guide's own fill.sh prints them over the translation 24cb817c8bf17b50… (all of the seat's roots in one cut). By AI agents, Wed Nov 11 2026. No macro, syntax, notation, axiom, sorry.
-/
import Derived.Test.YtlkieebmfmiafaaChecked
import GoSem.Claim
import GoSem.ClaimJoined
import GoSem.ClaimMapViews
import Derived.JoinedTies
import Derived.KernelRfl
namespace Go.Proofs.Ytlkieebmfmiafaa
/- THE CELL 'sum', in the pinned program and in every row, IS THE sha256 OF THE DUMP (.gsa) THAT YtlkieebmfmiafaaProg.lean LOADS. Nothing in Lean hashes anything: it is a label: what it is worth is what the hold of that sum in a sandbox is worth. -/
noncomputable def Try.pinned : Pinned := { name := "ytlkieebmfmiafaa", sum := "24cb817c8bf17b50887493080c69f18962e0de1279dfc84013e8253f19e3e830", checked := Try.checked }
namespace Rows
def none {H : Type} : Left H := { results := [], args := [] }

/-- 'laws.FnExactUsesOf': WHATEVER THE INPUT: true; the input reads as it did. -/
def fnExactUsesOfSpec : ChangeSpec := { name := "fnExactUsesOf", fn := fun _ => fun
  | [d] => { results := [.lit (.bool true)], args := [d] }
  | _ => none }
def fnExactUsesOfRow : OpenClaim := { program := "ytlkieebmfmiafaa", sum := "24cb817c8bf17b50887493080c69f18962e0de1279dfc84013e8253f19e3e830", func := "loop.example/g01098/laws.FnExactUsesOf", spec := "fnExactUsesOf", apart := false }
def FnExactUsesOfSaid : Prop := fnExactUsesOfRow.holds Try.pinned (OpenSpec.ofChange fnExactUsesOfSpec)

/-- ITS FALSE NEIGHBOUR: 'it returns false'. Refute it at one input. -/
def fnExactUsesOfWrong : ChangeSpec := { name := "fnExactUsesOf", fn := fun _ => fun
  | [d] => { results := [.lit (.bool false)], args := [d] }
  | _ => none }
def FnExactUsesOfWrongFalsely : Prop := fnExactUsesOfRow.holds Try.pinned (OpenSpec.ofChange fnExactUsesOfWrong)

/-- 'laws.FnExactCanTurn': WHATEVER THE INPUT: true; the input reads as it did. -/
def fnExactCanTurnSpec : ChangeSpec := { name := "fnExactCanTurn", fn := fun _ => fun
  | [d] => { results := [.lit (.bool true)], args := [d] }
  | _ => none }
def fnExactCanTurnRow : OpenClaim := { program := "ytlkieebmfmiafaa", sum := "24cb817c8bf17b50887493080c69f18962e0de1279dfc84013e8253f19e3e830", func := "loop.example/g01098/laws.FnExactCanTurn", spec := "fnExactCanTurn", unfollowed := true, recurses := true, apart := false }
def FnExactCanTurnSaid : Prop := fnExactCanTurnRow.holds Try.pinned (OpenSpec.ofChange fnExactCanTurnSpec)

/-- ITS FALSE NEIGHBOUR: 'it returns false'. Refute it at one input. -/
def fnExactCanTurnWrong : ChangeSpec := { name := "fnExactCanTurn", fn := fun _ => fun
  | [d] => { results := [.lit (.bool false)], args := [d] }
  | _ => none }
def FnExactCanTurnWrongFalsely : Prop := fnExactCanTurnRow.holds Try.pinned (OpenSpec.ofChange fnExactCanTurnWrong)

/-- 'laws.FnExactTurnPlan': WHATEVER THE INPUT: true; the input reads as it did. -/
def fnExactTurnPlanSpec : ChangeSpec := { name := "fnExactTurnPlan", fn := fun _ => fun
  | [d] => { results := [.lit (.bool true)], args := [d] }
  | _ => none }
def fnExactTurnPlanRow : OpenClaim := { program := "ytlkieebmfmiafaa", sum := "24cb817c8bf17b50887493080c69f18962e0de1279dfc84013e8253f19e3e830", func := "loop.example/g01098/laws.FnExactTurnPlan", spec := "fnExactTurnPlan", unfollowed := true, recurses := true, apart := false }
def FnExactTurnPlanSaid : Prop := fnExactTurnPlanRow.holds Try.pinned (OpenSpec.ofChange fnExactTurnPlanSpec)

/-- ITS FALSE NEIGHBOUR: 'it returns false'. Refute it at one input. -/
def fnExactTurnPlanWrong : ChangeSpec := { name := "fnExactTurnPlan", fn := fun _ => fun
  | [d] => { results := [.lit (.bool false)], args := [d] }
  | _ => none }
def FnExactTurnPlanWrongFalsely : Prop := fnExactTurnPlanRow.holds Try.pinned (OpenSpec.ofChange fnExactTurnPlanWrong)

/-- 'laws.FnExactTurnedCost': WHATEVER THE INPUT: true; the input reads as it did. -/
def fnExactTurnedCostSpec : ChangeSpec := { name := "fnExactTurnedCost", fn := fun _ => fun
  | [d] => { results := [.lit (.bool true)], args := [d] }
  | _ => none }
def fnExactTurnedCostRow : OpenClaim := { program := "ytlkieebmfmiafaa", sum := "24cb817c8bf17b50887493080c69f18962e0de1279dfc84013e8253f19e3e830", func := "loop.example/g01098/laws.FnExactTurnedCost", spec := "fnExactTurnedCost", unfollowed := true, recurses := true, apart := false }
def FnExactTurnedCostSaid : Prop := fnExactTurnedCostRow.holds Try.pinned (OpenSpec.ofChange fnExactTurnedCostSpec)

/-- ITS FALSE NEIGHBOUR: 'it returns false'. Refute it at one input. -/
def fnExactTurnedCostWrong : ChangeSpec := { name := "fnExactTurnedCost", fn := fun _ => fun
  | [d] => { results := [.lit (.bool false)], args := [d] }
  | _ => none }
def FnExactTurnedCostWrongFalsely : Prop := fnExactTurnedCostRow.holds Try.pinned (OpenSpec.ofChange fnExactTurnedCostWrong)

/-- 'laws.FnExactTransposeRows': WHATEVER THE INPUT: true; the input reads as it did. -/
def fnExactTransposeRowsSpec : ChangeSpec := { name := "fnExactTransposeRows", fn := fun _ => fun
  | [d] => { results := [.lit (.bool true)], args := [d] }
  | _ => none }
def fnExactTransposeRowsRow : OpenClaim := { program := "ytlkieebmfmiafaa", sum := "24cb817c8bf17b50887493080c69f18962e0de1279dfc84013e8253f19e3e830", func := "loop.example/g01098/laws.FnExactTransposeRows", spec := "fnExactTransposeRows", apart := false }
def FnExactTransposeRowsSaid : Prop := fnExactTransposeRowsRow.holds Try.pinned (OpenSpec.ofChange fnExactTransposeRowsSpec)

/-- ITS FALSE NEIGHBOUR: 'it returns false'. Refute it at one input. -/
def fnExactTransposeRowsWrong : ChangeSpec := { name := "fnExactTransposeRows", fn := fun _ => fun
  | [d] => { results := [.lit (.bool false)], args := [d] }
  | _ => none }
def FnExactTransposeRowsWrongFalsely : Prop := fnExactTransposeRowsRow.holds Try.pinned (OpenSpec.ofChange fnExactTransposeRowsWrong)

/-- 'laws.FnExactCountPaths': WHATEVER THE INPUT: true; the input reads as it did. -/
def fnExactCountPathsSpec : ChangeSpec := { name := "fnExactCountPaths", fn := fun _ => fun
  | [d1, d2, d3] => { results := [.lit (.bool true)], args := [d1, d2, d3] }
  | _ => none }
def fnExactCountPathsRow : OpenClaim := { program := "ytlkieebmfmiafaa", sum := "24cb817c8bf17b50887493080c69f18962e0de1279dfc84013e8253f19e3e830", func := "loop.example/g01098/laws.FnExactCountPaths", spec := "fnExactCountPaths", unfollowed := true, recurses := true, apart := false }
def FnExactCountPathsSaid : Prop := fnExactCountPathsRow.holds Try.pinned (OpenSpec.ofChange fnExactCountPathsSpec)

/-- ITS FALSE NEIGHBOUR: 'it returns false'. Refute it at one input. -/
def fnExactCountPathsWrong : ChangeSpec := { name := "fnExactCountPaths", fn := fun _ => fun
  | [d1, d2, d3] => { results := [.lit (.bool false)], args := [d1, d2, d3] }
  | _ => none }
def FnExactCountPathsWrongFalsely : Prop := fnExactCountPathsRow.holds Try.pinned (OpenSpec.ofChange fnExactCountPathsWrong)

/-- 'laws.FnExactFoldOutputs': WHATEVER THE INPUT: true; the input reads as it did. -/
def fnExactFoldOutputsSpec : ChangeSpec := { name := "fnExactFoldOutputs", fn := fun _ => fun
  | [d] => { results := [.lit (.bool true)], args := [d] }
  | _ => none }
def fnExactFoldOutputsRow : OpenClaim := { program := "ytlkieebmfmiafaa", sum := "24cb817c8bf17b50887493080c69f18962e0de1279dfc84013e8253f19e3e830", func := "loop.example/g01098/laws.FnExactFoldOutputs", spec := "fnExactFoldOutputs", apart := false }
def FnExactFoldOutputsSaid : Prop := fnExactFoldOutputsRow.holds Try.pinned (OpenSpec.ofChange fnExactFoldOutputsSpec)

/-- ITS FALSE NEIGHBOUR: 'it returns false'. Refute it at one input. -/
def fnExactFoldOutputsWrong : ChangeSpec := { name := "fnExactFoldOutputs", fn := fun _ => fun
  | [d] => { results := [.lit (.bool false)], args := [d] }
  | _ => none }
def FnExactFoldOutputsWrongFalsely : Prop := fnExactFoldOutputsRow.holds Try.pinned (OpenSpec.ofChange fnExactFoldOutputsWrong)

/-- 'laws.FnExactCollapseInputs': WHATEVER THE INPUT: true; the input reads as it did. -/
def fnExactCollapseInputsSpec : ChangeSpec := { name := "fnExactCollapseInputs", fn := fun _ => fun
  | [d] => { results := [.lit (.bool true)], args := [d] }
  | _ => none }
def fnExactCollapseInputsRow : OpenClaim := { program := "ytlkieebmfmiafaa", sum := "24cb817c8bf17b50887493080c69f18962e0de1279dfc84013e8253f19e3e830", func := "loop.example/g01098/laws.FnExactCollapseInputs", spec := "fnExactCollapseInputs", apart := false }
def FnExactCollapseInputsSaid : Prop := fnExactCollapseInputsRow.holds Try.pinned (OpenSpec.ofChange fnExactCollapseInputsSpec)

/-- ITS FALSE NEIGHBOUR: 'it returns false'. Refute it at one input. -/
def fnExactCollapseInputsWrong : ChangeSpec := { name := "fnExactCollapseInputs", fn := fun _ => fun
  | [d] => { results := [.lit (.bool false)], args := [d] }
  | _ => none }
def FnExactCollapseInputsWrongFalsely : Prop := fnExactCollapseInputsRow.holds Try.pinned (OpenSpec.ofChange fnExactCollapseInputsWrong)

/-- 'laws.FnExactLiveAt': WHATEVER THE INPUT: true; the input reads as it did. -/
def fnExactLiveAtSpec : ChangeSpec := { name := "fnExactLiveAt", fn := fun _ => fun
  | [d1, d2] => { results := [.lit (.bool true)], args := [d1, d2] }
  | _ => none }
def fnExactLiveAtRow : OpenClaim := { program := "ytlkieebmfmiafaa", sum := "24cb817c8bf17b50887493080c69f18962e0de1279dfc84013e8253f19e3e830", func := "loop.example/g01098/laws.FnExactLiveAt", spec := "fnExactLiveAt", unfollowed := true, recurses := true, apart := false }
def FnExactLiveAtSaid : Prop := fnExactLiveAtRow.holds Try.pinned (OpenSpec.ofChange fnExactLiveAtSpec)

/-- ITS FALSE NEIGHBOUR: 'it returns false'. Refute it at one input. -/
def fnExactLiveAtWrong : ChangeSpec := { name := "fnExactLiveAt", fn := fun _ => fun
  | [d1, d2] => { results := [.lit (.bool false)], args := [d1, d2] }
  | _ => none }
def FnExactLiveAtWrongFalsely : Prop := fnExactLiveAtRow.holds Try.pinned (OpenSpec.ofChange fnExactLiveAtWrong)

/-- 'laws.FnExactWidthOf': WHATEVER THE INPUT: true; the input reads as it did. -/
def fnExactWidthOfSpec : ChangeSpec := { name := "fnExactWidthOf", fn := fun _ => fun
  | [d] => { results := [.lit (.bool true)], args := [d] }
  | _ => none }
def fnExactWidthOfRow : OpenClaim := { program := "ytlkieebmfmiafaa", sum := "24cb817c8bf17b50887493080c69f18962e0de1279dfc84013e8253f19e3e830", func := "loop.example/g01098/laws.FnExactWidthOf", spec := "fnExactWidthOf", unfollowed := true, recurses := true, apart := false }
def FnExactWidthOfSaid : Prop := fnExactWidthOfRow.holds Try.pinned (OpenSpec.ofChange fnExactWidthOfSpec)

/-- ITS FALSE NEIGHBOUR: 'it returns false'. Refute it at one input. -/
def fnExactWidthOfWrong : ChangeSpec := { name := "fnExactWidthOf", fn := fun _ => fun
  | [d] => { results := [.lit (.bool false)], args := [d] }
  | _ => none }
def FnExactWidthOfWrongFalsely : Prop := fnExactWidthOfRow.holds Try.pinned (OpenSpec.ofChange fnExactWidthOfWrong)

/-- 'laws.FnExactSplitPlan': WHATEVER THE INPUT: true; the input reads as it did. -/
def fnExactSplitPlanSpec : ChangeSpec := { name := "fnExactSplitPlan", fn := fun _ => fun
  | [d1, d2] => { results := [.lit (.bool true)], args := [d1, d2] }
  | _ => none }
def fnExactSplitPlanRow : OpenClaim := { program := "ytlkieebmfmiafaa", sum := "24cb817c8bf17b50887493080c69f18962e0de1279dfc84013e8253f19e3e830", func := "loop.example/g01098/laws.FnExactSplitPlan", spec := "fnExactSplitPlan", unfollowed := true, recurses := true, apart := false }
def FnExactSplitPlanSaid : Prop := fnExactSplitPlanRow.holds Try.pinned (OpenSpec.ofChange fnExactSplitPlanSpec)

/-- ITS FALSE NEIGHBOUR: 'it returns false'. Refute it at one input. -/
def fnExactSplitPlanWrong : ChangeSpec := { name := "fnExactSplitPlan", fn := fun _ => fun
  | [d1, d2] => { results := [.lit (.bool false)], args := [d1, d2] }
  | _ => none }
def FnExactSplitPlanWrongFalsely : Prop := fnExactSplitPlanRow.holds Try.pinned (OpenSpec.ofChange fnExactSplitPlanWrong)

/-- 'laws.FnComposedExponents': WHATEVER THE INPUT: true; the input reads as it did. -/
def fnComposedExponentsSpec : ChangeSpec := { name := "fnComposedExponents", fn := fun _ => fun
  | [d1, d2] => { results := [.lit (.bool true)], args := [d1, d2] }
  | _ => none }
def fnComposedExponentsRow : OpenClaim := { program := "ytlkieebmfmiafaa", sum := "24cb817c8bf17b50887493080c69f18962e0de1279dfc84013e8253f19e3e830", func := "loop.example/g01098/laws.FnComposedExponents", spec := "fnComposedExponents", apart := false }
def FnComposedExponentsSaid : Prop := fnComposedExponentsRow.holds Try.pinned (OpenSpec.ofChange fnComposedExponentsSpec)

/-- ITS FALSE NEIGHBOUR: 'it returns false'. Refute it at one input. -/
def fnComposedExponentsWrong : ChangeSpec := { name := "fnComposedExponents", fn := fun _ => fun
  | [d1, d2] => { results := [.lit (.bool false)], args := [d1, d2] }
  | _ => none }
def FnComposedExponentsWrongFalsely : Prop := fnComposedExponentsRow.holds Try.pinned (OpenSpec.ofChange fnComposedExponentsWrong)

/- THE SECOND FORM. 'bulk': how many values and letters a reading holds, each counted each time it is reached (what is shared counts as often as it is met; a slice's spare places count too). A statement '..UptoSaid' is the law's where the arguments, and the package variables that the reading takes, are together of bulk at most 1048576: NARROWER than '..Said'. Prove '..Said' where nothing that the law and all that it calls make is longer than what came in: it says more and counts as full. Else prove '..UptoSaid'. A law counts once. -/
mutual
def uptoBulk {H : Type} : DataW H → Nat
  | .lit (.string bytes) => bytes.length + 1
  | .lit _ => 1
  | .nil => 1
  | .ptr d => uptoBulk d + 1
  | .slice elems spare => uptoBulkAll elems + uptoBulkAll spare + 1
  | .agg parts => uptoBulkAll parts + 1
  | .iface _ d => uptoBulk d + 1
  | .map entries => uptoBulkEntries entries + 1
  | .held _ => 1
def uptoBulkAll {H : Type} : List (DataW H) → Nat
  | [] => 0
  | d :: r => uptoBulk d + uptoBulkAll r
def uptoBulkEntries {H : Type} : List (Lit × DataW H) → Nat
  | [] => 0
  | x :: r => uptoBulkEntry x + uptoBulkEntries r
def uptoBulkEntry {H : Type} : Lit × DataW H → Nat
  | (.string bytes, d) => bytes.length + uptoBulk d + 1
  | (_, d) => uptoBulk d + 1
 end
def uptoSmall : (H : Type) → List (DataW H) → Bool := fun _ ds => decide (uptoBulkAll ds ≤ 1048576)
def OpenSpec.upto (s : _root_.Go.ChangeSpec) : _root_.Go.OpenSpec := { _root_.Go.OpenSpec.ofChange s with cond := some uptoSmall }

/-- 'laws.FnExactUsesOf', WHERE WHAT IT READS IS OF BULK AT MOST 1048576: true; the input reads as it did. -/
def fnExactUsesOfUptoRow : OpenClaim := { program := "ytlkieebmfmiafaa", sum := "24cb817c8bf17b50887493080c69f18962e0de1279dfc84013e8253f19e3e830", func := "loop.example/g01098/laws.FnExactUsesOf", spec := "fnExactUsesOf", apart := false, narrowed := true }
def FnExactUsesOfUptoSaid : Prop := fnExactUsesOfUptoRow.holds Try.pinned (OpenSpec.upto fnExactUsesOfSpec)

/-- 'laws.FnExactCanTurn', WHERE WHAT IT READS IS OF BULK AT MOST 1048576: true; the input reads as it did. -/
def fnExactCanTurnUptoRow : OpenClaim := { program := "ytlkieebmfmiafaa", sum := "24cb817c8bf17b50887493080c69f18962e0de1279dfc84013e8253f19e3e830", func := "loop.example/g01098/laws.FnExactCanTurn", spec := "fnExactCanTurn", unfollowed := true, recurses := true, apart := false, narrowed := true }
def FnExactCanTurnUptoSaid : Prop := fnExactCanTurnUptoRow.holds Try.pinned (OpenSpec.upto fnExactCanTurnSpec)

/-- 'laws.FnExactTurnPlan', WHERE WHAT IT READS IS OF BULK AT MOST 1048576: true; the input reads as it did. -/
def fnExactTurnPlanUptoRow : OpenClaim := { program := "ytlkieebmfmiafaa", sum := "24cb817c8bf17b50887493080c69f18962e0de1279dfc84013e8253f19e3e830", func := "loop.example/g01098/laws.FnExactTurnPlan", spec := "fnExactTurnPlan", unfollowed := true, recurses := true, apart := false, narrowed := true }
def FnExactTurnPlanUptoSaid : Prop := fnExactTurnPlanUptoRow.holds Try.pinned (OpenSpec.upto fnExactTurnPlanSpec)

/-- 'laws.FnExactTurnedCost', WHERE WHAT IT READS IS OF BULK AT MOST 1048576: true; the input reads as it did. -/
def fnExactTurnedCostUptoRow : OpenClaim := { program := "ytlkieebmfmiafaa", sum := "24cb817c8bf17b50887493080c69f18962e0de1279dfc84013e8253f19e3e830", func := "loop.example/g01098/laws.FnExactTurnedCost", spec := "fnExactTurnedCost", unfollowed := true, recurses := true, apart := false, narrowed := true }
def FnExactTurnedCostUptoSaid : Prop := fnExactTurnedCostUptoRow.holds Try.pinned (OpenSpec.upto fnExactTurnedCostSpec)

/-- 'laws.FnExactTransposeRows', WHERE WHAT IT READS IS OF BULK AT MOST 1048576: true; the input reads as it did. -/
def fnExactTransposeRowsUptoRow : OpenClaim := { program := "ytlkieebmfmiafaa", sum := "24cb817c8bf17b50887493080c69f18962e0de1279dfc84013e8253f19e3e830", func := "loop.example/g01098/laws.FnExactTransposeRows", spec := "fnExactTransposeRows", apart := false, narrowed := true }
def FnExactTransposeRowsUptoSaid : Prop := fnExactTransposeRowsUptoRow.holds Try.pinned (OpenSpec.upto fnExactTransposeRowsSpec)

/-- 'laws.FnExactCountPaths', WHERE WHAT IT READS IS OF BULK AT MOST 1048576: true; the input reads as it did. -/
def fnExactCountPathsUptoRow : OpenClaim := { program := "ytlkieebmfmiafaa", sum := "24cb817c8bf17b50887493080c69f18962e0de1279dfc84013e8253f19e3e830", func := "loop.example/g01098/laws.FnExactCountPaths", spec := "fnExactCountPaths", unfollowed := true, recurses := true, apart := false, narrowed := true }
def FnExactCountPathsUptoSaid : Prop := fnExactCountPathsUptoRow.holds Try.pinned (OpenSpec.upto fnExactCountPathsSpec)

/-- 'laws.FnExactFoldOutputs', WHERE WHAT IT READS IS OF BULK AT MOST 1048576: true; the input reads as it did. -/
def fnExactFoldOutputsUptoRow : OpenClaim := { program := "ytlkieebmfmiafaa", sum := "24cb817c8bf17b50887493080c69f18962e0de1279dfc84013e8253f19e3e830", func := "loop.example/g01098/laws.FnExactFoldOutputs", spec := "fnExactFoldOutputs", apart := false, narrowed := true }
def FnExactFoldOutputsUptoSaid : Prop := fnExactFoldOutputsUptoRow.holds Try.pinned (OpenSpec.upto fnExactFoldOutputsSpec)

/-- 'laws.FnExactCollapseInputs', WHERE WHAT IT READS IS OF BULK AT MOST 1048576: true; the input reads as it did. -/
def fnExactCollapseInputsUptoRow : OpenClaim := { program := "ytlkieebmfmiafaa", sum := "24cb817c8bf17b50887493080c69f18962e0de1279dfc84013e8253f19e3e830", func := "loop.example/g01098/laws.FnExactCollapseInputs", spec := "fnExactCollapseInputs", apart := false, narrowed := true }
def FnExactCollapseInputsUptoSaid : Prop := fnExactCollapseInputsUptoRow.holds Try.pinned (OpenSpec.upto fnExactCollapseInputsSpec)

/-- 'laws.FnExactLiveAt', WHERE WHAT IT READS IS OF BULK AT MOST 1048576: true; the input reads as it did. -/
def fnExactLiveAtUptoRow : OpenClaim := { program := "ytlkieebmfmiafaa", sum := "24cb817c8bf17b50887493080c69f18962e0de1279dfc84013e8253f19e3e830", func := "loop.example/g01098/laws.FnExactLiveAt", spec := "fnExactLiveAt", unfollowed := true, recurses := true, apart := false, narrowed := true }
def FnExactLiveAtUptoSaid : Prop := fnExactLiveAtUptoRow.holds Try.pinned (OpenSpec.upto fnExactLiveAtSpec)

/-- 'laws.FnExactWidthOf', WHERE WHAT IT READS IS OF BULK AT MOST 1048576: true; the input reads as it did. -/
def fnExactWidthOfUptoRow : OpenClaim := { program := "ytlkieebmfmiafaa", sum := "24cb817c8bf17b50887493080c69f18962e0de1279dfc84013e8253f19e3e830", func := "loop.example/g01098/laws.FnExactWidthOf", spec := "fnExactWidthOf", unfollowed := true, recurses := true, apart := false, narrowed := true }
def FnExactWidthOfUptoSaid : Prop := fnExactWidthOfUptoRow.holds Try.pinned (OpenSpec.upto fnExactWidthOfSpec)

/-- 'laws.FnExactSplitPlan', WHERE WHAT IT READS IS OF BULK AT MOST 1048576: true; the input reads as it did. -/
def fnExactSplitPlanUptoRow : OpenClaim := { program := "ytlkieebmfmiafaa", sum := "24cb817c8bf17b50887493080c69f18962e0de1279dfc84013e8253f19e3e830", func := "loop.example/g01098/laws.FnExactSplitPlan", spec := "fnExactSplitPlan", unfollowed := true, recurses := true, apart := false, narrowed := true }
def FnExactSplitPlanUptoSaid : Prop := fnExactSplitPlanUptoRow.holds Try.pinned (OpenSpec.upto fnExactSplitPlanSpec)

/-- 'laws.FnComposedExponents', WHERE WHAT IT READS IS OF BULK AT MOST 1048576: true; the input reads as it did. -/
def fnComposedExponentsUptoRow : OpenClaim := { program := "ytlkieebmfmiafaa", sum := "24cb817c8bf17b50887493080c69f18962e0de1279dfc84013e8253f19e3e830", func := "loop.example/g01098/laws.FnComposedExponents", spec := "fnComposedExponents", apart := false, narrowed := true }
def FnComposedExponentsUptoSaid : Prop := fnComposedExponentsUptoRow.holds Try.pinned (OpenSpec.upto fnComposedExponentsSpec)

end Rows
end Go.Proofs.Ytlkieebmfmiafaa
