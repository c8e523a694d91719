/-
  No cell of these rows narrows 'for every input' (looked for: loops, veiled, ifaces, maps, wideKeys, modest, calm, conditions, laid).
  DERIVED. THE GIVEN ROWS OF THIS SEAT. 12 by the template 'for every input the law returns true; each argument reads behind the call as it read before'; 0 by the template 'total and deterministic' (their statements: YtbbjgcagkmlngabTotals.lean).
  GIVEN WITH THE SEED: the statements are not yours to turn. If you find one false, say at which input.
  Laid BY PROGRAM, IN A SANDBOX (cutbox-rows.mjs): the forced cells as the released guide's own fill.sh prints them over the translation d02da707b7c04b80… (all of the seat's roots in one cut). By AI agents, Wed Nov 11 2026. No macro, syntax, notation, axiom, sorry.
-/
import Derived.Test.YtbbjgcagkmlngabChecked
import GoSem.Claim
import GoSem.ClaimJoined
import GoSem.ClaimMapViews
import Derived.JoinedTies
import Derived.KernelRfl
namespace Go.Proofs.Ytbbjgcagkmlngab
/- THE CELL 'sum', in the pinned program and in every row, IS THE sha256 OF THE DUMP (.gsa) THAT YtbbjgcagkmlngabProg.lean LOADS. Nothing in Lean hashes anything: it is a label: what it is worth is what the hold of that sum in a sandbox is worth. -/
noncomputable def Try.pinned : Pinned := { name := "ytbbjgcagkmlngab", sum := "d02da707b7c04b80364ef589fa1984536c5b00fe6475fc8fb90767e9df8716d8", checked := Try.checked }
namespace Rows
def none {H : Type} : Left H := { results := [], args := [] }

/-- 'laws.FnExactPackRegisters': WHATEVER THE INPUT: true; the input reads as it did. -/
def fnExactPackRegistersSpec : ChangeSpec := { name := "fnExactPackRegisters", fn := fun _ => fun
  | [d] => { results := [.lit (.bool true)], args := [d] }
  | _ => none }
def fnExactPackRegistersRow : OpenClaim := { program := "ytbbjgcagkmlngab", sum := "d02da707b7c04b80364ef589fa1984536c5b00fe6475fc8fb90767e9df8716d8", func := "loop.example/g01098/laws.FnExactPackRegisters", spec := "fnExactPackRegisters", unfollowed := true, recurses := true, apart := false }
def FnExactPackRegistersSaid : Prop := fnExactPackRegistersRow.holds Try.pinned (OpenSpec.ofChange fnExactPackRegistersSpec)

/-- ITS FALSE NEIGHBOUR: 'it returns false'. Refute it at one input. -/
def fnExactPackRegistersWrong : ChangeSpec := { name := "fnExactPackRegisters", fn := fun _ => fun
  | [d] => { results := [.lit (.bool false)], args := [d] }
  | _ => none }
def FnExactPackRegistersWrongFalsely : Prop := fnExactPackRegistersRow.holds Try.pinned (OpenSpec.ofChange fnExactPackRegistersWrong)

/-- 'laws.FnExactLiveAt': WHATEVER THE INPUT: true; the input reads as it did. -/
def fnExactLiveAtSpec : ChangeSpec := { name := "fnExactLiveAt", fn := fun _ => fun
  | [d1, d2] => { results := [.lit (.bool true)], args := [d1, d2] }
  | _ => none }
def fnExactLiveAtRow : OpenClaim := { program := "ytbbjgcagkmlngab", sum := "d02da707b7c04b80364ef589fa1984536c5b00fe6475fc8fb90767e9df8716d8", func := "loop.example/g01098/laws.FnExactLiveAt", spec := "fnExactLiveAt", unfollowed := true, recurses := true, apart := false }
def FnExactLiveAtSaid : Prop := fnExactLiveAtRow.holds Try.pinned (OpenSpec.ofChange fnExactLiveAtSpec)

/-- ITS FALSE NEIGHBOUR: 'it returns false'. Refute it at one input. -/
def fnExactLiveAtWrong : ChangeSpec := { name := "fnExactLiveAt", fn := fun _ => fun
  | [d1, d2] => { results := [.lit (.bool false)], args := [d1, d2] }
  | _ => none }
def FnExactLiveAtWrongFalsely : Prop := fnExactLiveAtRow.holds Try.pinned (OpenSpec.ofChange fnExactLiveAtWrong)

/-- 'laws.FnExactWidthOf': WHATEVER THE INPUT: true; the input reads as it did. -/
def fnExactWidthOfSpec : ChangeSpec := { name := "fnExactWidthOf", fn := fun _ => fun
  | [d] => { results := [.lit (.bool true)], args := [d] }
  | _ => none }
def fnExactWidthOfRow : OpenClaim := { program := "ytbbjgcagkmlngab", sum := "d02da707b7c04b80364ef589fa1984536c5b00fe6475fc8fb90767e9df8716d8", func := "loop.example/g01098/laws.FnExactWidthOf", spec := "fnExactWidthOf", unfollowed := true, recurses := true, apart := false }
def FnExactWidthOfSaid : Prop := fnExactWidthOfRow.holds Try.pinned (OpenSpec.ofChange fnExactWidthOfSpec)

/-- ITS FALSE NEIGHBOUR: 'it returns false'. Refute it at one input. -/
def fnExactWidthOfWrong : ChangeSpec := { name := "fnExactWidthOf", fn := fun _ => fun
  | [d] => { results := [.lit (.bool false)], args := [d] }
  | _ => none }
def FnExactWidthOfWrongFalsely : Prop := fnExactWidthOfRow.holds Try.pinned (OpenSpec.ofChange fnExactWidthOfWrong)

/-- 'laws.FnExactSplitPlan': WHATEVER THE INPUT: true; the input reads as it did. -/
def fnExactSplitPlanSpec : ChangeSpec := { name := "fnExactSplitPlan", fn := fun _ => fun
  | [d1, d2] => { results := [.lit (.bool true)], args := [d1, d2] }
  | _ => none }
def fnExactSplitPlanRow : OpenClaim := { program := "ytbbjgcagkmlngab", sum := "d02da707b7c04b80364ef589fa1984536c5b00fe6475fc8fb90767e9df8716d8", func := "loop.example/g01098/laws.FnExactSplitPlan", spec := "fnExactSplitPlan", unfollowed := true, recurses := true, apart := false }
def FnExactSplitPlanSaid : Prop := fnExactSplitPlanRow.holds Try.pinned (OpenSpec.ofChange fnExactSplitPlanSpec)

/-- ITS FALSE NEIGHBOUR: 'it returns false'. Refute it at one input. -/
def fnExactSplitPlanWrong : ChangeSpec := { name := "fnExactSplitPlan", fn := fun _ => fun
  | [d1, d2] => { results := [.lit (.bool false)], args := [d1, d2] }
  | _ => none }
def FnExactSplitPlanWrongFalsely : Prop := fnExactSplitPlanRow.holds Try.pinned (OpenSpec.ofChange fnExactSplitPlanWrong)

/-- 'laws.FnExactTransposeRows': WHATEVER THE INPUT: true; the input reads as it did. -/
def fnExactTransposeRowsSpec : ChangeSpec := { name := "fnExactTransposeRows", fn := fun _ => fun
  | [d] => { results := [.lit (.bool true)], args := [d] }
  | _ => none }
def fnExactTransposeRowsRow : OpenClaim := { program := "ytbbjgcagkmlngab", sum := "d02da707b7c04b80364ef589fa1984536c5b00fe6475fc8fb90767e9df8716d8", func := "loop.example/g01098/laws.FnExactTransposeRows", spec := "fnExactTransposeRows", apart := false }
def FnExactTransposeRowsSaid : Prop := fnExactTransposeRowsRow.holds Try.pinned (OpenSpec.ofChange fnExactTransposeRowsSpec)

/-- ITS FALSE NEIGHBOUR: 'it returns false'. Refute it at one input. -/
def fnExactTransposeRowsWrong : ChangeSpec := { name := "fnExactTransposeRows", fn := fun _ => fun
  | [d] => { results := [.lit (.bool false)], args := [d] }
  | _ => none }
def FnExactTransposeRowsWrongFalsely : Prop := fnExactTransposeRowsRow.holds Try.pinned (OpenSpec.ofChange fnExactTransposeRowsWrong)

/-- 'laws.FnExactRunMatrices': WHATEVER THE INPUT: true; the input reads as it did. -/
def fnExactRunMatricesSpec : ChangeSpec := { name := "fnExactRunMatrices", fn := fun _ => fun
  | [d1, d2, d3] => { results := [.lit (.bool true)], args := [d1, d2, d3] }
  | _ => none }
def fnExactRunMatricesRow : OpenClaim := { program := "ytbbjgcagkmlngab", sum := "d02da707b7c04b80364ef589fa1984536c5b00fe6475fc8fb90767e9df8716d8", func := "loop.example/g01098/laws.FnExactRunMatrices", spec := "fnExactRunMatrices", unfollowed := true, recurses := true, apart := false }
def FnExactRunMatricesSaid : Prop := fnExactRunMatricesRow.holds Try.pinned (OpenSpec.ofChange fnExactRunMatricesSpec)

/-- ITS FALSE NEIGHBOUR: 'it returns false'. Refute it at one input. -/
def fnExactRunMatricesWrong : ChangeSpec := { name := "fnExactRunMatrices", fn := fun _ => fun
  | [d1, d2, d3] => { results := [.lit (.bool false)], args := [d1, d2, d3] }
  | _ => none }
def FnExactRunMatricesWrongFalsely : Prop := fnExactRunMatricesRow.holds Try.pinned (OpenSpec.ofChange fnExactRunMatricesWrong)

/-- 'laws.FnExactRunPermutations': WHATEVER THE INPUT: true; the input reads as it did. -/
def fnExactRunPermutationsSpec : ChangeSpec := { name := "fnExactRunPermutations", fn := fun _ => fun
  | [d1, d2] => { results := [.lit (.bool true)], args := [d1, d2] }
  | _ => none }
def fnExactRunPermutationsRow : OpenClaim := { program := "ytbbjgcagkmlngab", sum := "d02da707b7c04b80364ef589fa1984536c5b00fe6475fc8fb90767e9df8716d8", func := "loop.example/g01098/laws.FnExactRunPermutations", spec := "fnExactRunPermutations", unfollowed := true, recurses := true, apart := false }
def FnExactRunPermutationsSaid : Prop := fnExactRunPermutationsRow.holds Try.pinned (OpenSpec.ofChange fnExactRunPermutationsSpec)

/-- ITS FALSE NEIGHBOUR: 'it returns false'. Refute it at one input. -/
def fnExactRunPermutationsWrong : ChangeSpec := { name := "fnExactRunPermutations", fn := fun _ => fun
  | [d1, d2] => { results := [.lit (.bool false)], args := [d1, d2] }
  | _ => none }
def FnExactRunPermutationsWrongFalsely : Prop := fnExactRunPermutationsRow.holds Try.pinned (OpenSpec.ofChange fnExactRunPermutationsWrong)

/-- 'laws.FnExactRunWords': WHATEVER THE INPUT: true; the input reads as it did. -/
def fnExactRunWordsSpec : ChangeSpec := { name := "fnExactRunWords", fn := fun _ => fun
  | [d1, d2] => { results := [.lit (.bool true)], args := [d1, d2] }
  | _ => none }
def fnExactRunWordsRow : OpenClaim := { program := "ytbbjgcagkmlngab", sum := "d02da707b7c04b80364ef589fa1984536c5b00fe6475fc8fb90767e9df8716d8", func := "loop.example/g01098/laws.FnExactRunWords", spec := "fnExactRunWords", unfollowed := true, recurses := true, apart := false }
def FnExactRunWordsSaid : Prop := fnExactRunWordsRow.holds Try.pinned (OpenSpec.ofChange fnExactRunWordsSpec)

/-- ITS FALSE NEIGHBOUR: 'it returns false'. Refute it at one input. -/
def fnExactRunWordsWrong : ChangeSpec := { name := "fnExactRunWords", fn := fun _ => fun
  | [d1, d2] => { results := [.lit (.bool false)], args := [d1, d2] }
  | _ => none }
def FnExactRunWordsWrongFalsely : Prop := fnExactRunWordsRow.holds Try.pinned (OpenSpec.ofChange fnExactRunWordsWrong)

/-- 'laws.FnExactTreeLevel': WHATEVER THE INPUT: true; the input reads as it did. -/
def fnExactTreeLevelSpec : ChangeSpec := { name := "fnExactTreeLevel", fn := fun _ => fun
  | [d] => { results := [.lit (.bool true)], args := [d] }
  | _ => none }
def fnExactTreeLevelRow : OpenClaim := { program := "ytbbjgcagkmlngab", sum := "d02da707b7c04b80364ef589fa1984536c5b00fe6475fc8fb90767e9df8716d8", func := "loop.example/g01098/laws.FnExactTreeLevel", spec := "fnExactTreeLevel", apart := false }
def FnExactTreeLevelSaid : Prop := fnExactTreeLevelRow.holds Try.pinned (OpenSpec.ofChange fnExactTreeLevelSpec)

/-- ITS FALSE NEIGHBOUR: 'it returns false'. Refute it at one input. -/
def fnExactTreeLevelWrong : ChangeSpec := { name := "fnExactTreeLevel", fn := fun _ => fun
  | [d] => { results := [.lit (.bool false)], args := [d] }
  | _ => none }
def FnExactTreeLevelWrongFalsely : Prop := fnExactTreeLevelRow.holds Try.pinned (OpenSpec.ofChange fnExactTreeLevelWrong)

/-- 'laws.FnExactTreePath': WHATEVER THE INPUT: true; the input reads as it did. -/
def fnExactTreePathSpec : ChangeSpec := { name := "fnExactTreePath", fn := fun _ => fun
  | [d] => { results := [.lit (.bool true)], args := [d] }
  | _ => none }
def fnExactTreePathRow : OpenClaim := { program := "ytbbjgcagkmlngab", sum := "d02da707b7c04b80364ef589fa1984536c5b00fe6475fc8fb90767e9df8716d8", func := "loop.example/g01098/laws.FnExactTreePath", spec := "fnExactTreePath", unfollowed := true, recurses := true, apart := false }
def FnExactTreePathSaid : Prop := fnExactTreePathRow.holds Try.pinned (OpenSpec.ofChange fnExactTreePathSpec)

/-- ITS FALSE NEIGHBOUR: 'it returns false'. Refute it at one input. -/
def fnExactTreePathWrong : ChangeSpec := { name := "fnExactTreePath", fn := fun _ => fun
  | [d] => { results := [.lit (.bool false)], args := [d] }
  | _ => none }
def FnExactTreePathWrongFalsely : Prop := fnExactTreePathRow.holds Try.pinned (OpenSpec.ofChange fnExactTreePathWrong)

/-- 'laws.FnExactTreeParent': WHATEVER THE INPUT: true; the input reads as it did. -/
def fnExactTreeParentSpec : ChangeSpec := { name := "fnExactTreeParent", fn := fun _ => fun
  | [d] => { results := [.lit (.bool true)], args := [d] }
  | _ => none }
def fnExactTreeParentRow : OpenClaim := { program := "ytbbjgcagkmlngab", sum := "d02da707b7c04b80364ef589fa1984536c5b00fe6475fc8fb90767e9df8716d8", func := "loop.example/g01098/laws.FnExactTreeParent", spec := "fnExactTreeParent", unfollowed := true, recurses := true, apart := false }
def FnExactTreeParentSaid : Prop := fnExactTreeParentRow.holds Try.pinned (OpenSpec.ofChange fnExactTreeParentSpec)

/-- ITS FALSE NEIGHBOUR: 'it returns false'. Refute it at one input. -/
def fnExactTreeParentWrong : ChangeSpec := { name := "fnExactTreeParent", fn := fun _ => fun
  | [d] => { results := [.lit (.bool false)], args := [d] }
  | _ => none }
def FnExactTreeParentWrongFalsely : Prop := fnExactTreeParentRow.holds Try.pinned (OpenSpec.ofChange fnExactTreeParentWrong)

/-- 'laws.FnExactTreeChain': WHATEVER THE INPUT: true; the input reads as it did. -/
def fnExactTreeChainSpec : ChangeSpec := { name := "fnExactTreeChain", fn := fun _ => fun
  | [d] => { results := [.lit (.bool true)], args := [d] }
  | _ => none }
def fnExactTreeChainRow : OpenClaim := { program := "ytbbjgcagkmlngab", sum := "d02da707b7c04b80364ef589fa1984536c5b00fe6475fc8fb90767e9df8716d8", func := "loop.example/g01098/laws.FnExactTreeChain", spec := "fnExactTreeChain", unfollowed := true, recurses := true, apart := false }
def FnExactTreeChainSaid : Prop := fnExactTreeChainRow.holds Try.pinned (OpenSpec.ofChange fnExactTreeChainSpec)

/-- ITS FALSE NEIGHBOUR: 'it returns false'. Refute it at one input. -/
def fnExactTreeChainWrong : ChangeSpec := { name := "fnExactTreeChain", fn := fun _ => fun
  | [d] => { results := [.lit (.bool false)], args := [d] }
  | _ => none }
def FnExactTreeChainWrongFalsely : Prop := fnExactTreeChainRow.holds Try.pinned (OpenSpec.ofChange fnExactTreeChainWrong)

/- THE SECOND FORM. 'bulk': how many values and letters a reading holds, each counted each time it is reached (what is shared counts as often as it is met; a slice's spare places count too). A statement '..UptoSaid' is the law's where the arguments, and the package variables that the reading takes, are together of bulk at most 1048576: NARROWER than '..Said'. Prove '..Said' where nothing that the law and all that it calls make is longer than what came in: it says more and counts as full. Else prove '..UptoSaid'. A law counts once. -/
mutual
def uptoBulk {H : Type} : DataW H → Nat
  | .lit (.string bytes) => bytes.length + 1
  | .lit _ => 1
  | .nil => 1
  | .ptr d => uptoBulk d + 1
  | .slice elems spare => uptoBulkAll elems + uptoBulkAll spare + 1
  | .agg parts => uptoBulkAll parts + 1
  | .iface _ d => uptoBulk d + 1
  | .map entries => uptoBulkEntries entries + 1
  | .held _ => 1
def uptoBulkAll {H : Type} : List (DataW H) → Nat
  | [] => 0
  | d :: r => uptoBulk d + uptoBulkAll r
def uptoBulkEntries {H : Type} : List (Lit × DataW H) → Nat
  | [] => 0
  | x :: r => uptoBulkEntry x + uptoBulkEntries r
def uptoBulkEntry {H : Type} : Lit × DataW H → Nat
  | (.string bytes, d) => bytes.length + uptoBulk d + 1
  | (_, d) => uptoBulk d + 1
 end
def uptoSmall : (H : Type) → List (DataW H) → Bool := fun _ ds => decide (uptoBulkAll ds ≤ 1048576)
def OpenSpec.upto (s : _root_.Go.ChangeSpec) : _root_.Go.OpenSpec := { _root_.Go.OpenSpec.ofChange s with cond := some uptoSmall }

/-- 'laws.FnExactPackRegisters', WHERE WHAT IT READS IS OF BULK AT MOST 1048576: true; the input reads as it did. -/
def fnExactPackRegistersUptoRow : OpenClaim := { program := "ytbbjgcagkmlngab", sum := "d02da707b7c04b80364ef589fa1984536c5b00fe6475fc8fb90767e9df8716d8", func := "loop.example/g01098/laws.FnExactPackRegisters", spec := "fnExactPackRegisters", unfollowed := true, recurses := true, apart := false, narrowed := true }
def FnExactPackRegistersUptoSaid : Prop := fnExactPackRegistersUptoRow.holds Try.pinned (OpenSpec.upto fnExactPackRegistersSpec)

/-- 'laws.FnExactLiveAt', WHERE WHAT IT READS IS OF BULK AT MOST 1048576: true; the input reads as it did. -/
def fnExactLiveAtUptoRow : OpenClaim := { program := "ytbbjgcagkmlngab", sum := "d02da707b7c04b80364ef589fa1984536c5b00fe6475fc8fb90767e9df8716d8", func := "loop.example/g01098/laws.FnExactLiveAt", spec := "fnExactLiveAt", unfollowed := true, recurses := true, apart := false, narrowed := true }
def FnExactLiveAtUptoSaid : Prop := fnExactLiveAtUptoRow.holds Try.pinned (OpenSpec.upto fnExactLiveAtSpec)

/-- 'laws.FnExactWidthOf', WHERE WHAT IT READS IS OF BULK AT MOST 1048576: true; the input reads as it did. -/
def fnExactWidthOfUptoRow : OpenClaim := { program := "ytbbjgcagkmlngab", sum := "d02da707b7c04b80364ef589fa1984536c5b00fe6475fc8fb90767e9df8716d8", func := "loop.example/g01098/laws.FnExactWidthOf", spec := "fnExactWidthOf", unfollowed := true, recurses := true, apart := false, narrowed := true }
def FnExactWidthOfUptoSaid : Prop := fnExactWidthOfUptoRow.holds Try.pinned (OpenSpec.upto fnExactWidthOfSpec)

/-- 'laws.FnExactSplitPlan', WHERE WHAT IT READS IS OF BULK AT MOST 1048576: true; the input reads as it did. -/
def fnExactSplitPlanUptoRow : OpenClaim := { program := "ytbbjgcagkmlngab", sum := "d02da707b7c04b80364ef589fa1984536c5b00fe6475fc8fb90767e9df8716d8", func := "loop.example/g01098/laws.FnExactSplitPlan", spec := "fnExactSplitPlan", unfollowed := true, recurses := true, apart := false, narrowed := true }
def FnExactSplitPlanUptoSaid : Prop := fnExactSplitPlanUptoRow.holds Try.pinned (OpenSpec.upto fnExactSplitPlanSpec)

/-- 'laws.FnExactTransposeRows', WHERE WHAT IT READS IS OF BULK AT MOST 1048576: true; the input reads as it did. -/
def fnExactTransposeRowsUptoRow : OpenClaim := { program := "ytbbjgcagkmlngab", sum := "d02da707b7c04b80364ef589fa1984536c5b00fe6475fc8fb90767e9df8716d8", func := "loop.example/g01098/laws.FnExactTransposeRows", spec := "fnExactTransposeRows", apart := false, narrowed := true }
def FnExactTransposeRowsUptoSaid : Prop := fnExactTransposeRowsUptoRow.holds Try.pinned (OpenSpec.upto fnExactTransposeRowsSpec)

/-- 'laws.FnExactRunMatrices', WHERE WHAT IT READS IS OF BULK AT MOST 1048576: true; the input reads as it did. -/
def fnExactRunMatricesUptoRow : OpenClaim := { program := "ytbbjgcagkmlngab", sum := "d02da707b7c04b80364ef589fa1984536c5b00fe6475fc8fb90767e9df8716d8", func := "loop.example/g01098/laws.FnExactRunMatrices", spec := "fnExactRunMatrices", unfollowed := true, recurses := true, apart := false, narrowed := true }
def FnExactRunMatricesUptoSaid : Prop := fnExactRunMatricesUptoRow.holds Try.pinned (OpenSpec.upto fnExactRunMatricesSpec)

/-- 'laws.FnExactRunPermutations', WHERE WHAT IT READS IS OF BULK AT MOST 1048576: true; the input reads as it did. -/
def fnExactRunPermutationsUptoRow : OpenClaim := { program := "ytbbjgcagkmlngab", sum := "d02da707b7c04b80364ef589fa1984536c5b00fe6475fc8fb90767e9df8716d8", func := "loop.example/g01098/laws.FnExactRunPermutations", spec := "fnExactRunPermutations", unfollowed := true, recurses := true, apart := false, narrowed := true }
def FnExactRunPermutationsUptoSaid : Prop := fnExactRunPermutationsUptoRow.holds Try.pinned (OpenSpec.upto fnExactRunPermutationsSpec)

/-- 'laws.FnExactRunWords', WHERE WHAT IT READS IS OF BULK AT MOST 1048576: true; the input reads as it did. -/
def fnExactRunWordsUptoRow : OpenClaim := { program := "ytbbjgcagkmlngab", sum := "d02da707b7c04b80364ef589fa1984536c5b00fe6475fc8fb90767e9df8716d8", func := "loop.example/g01098/laws.FnExactRunWords", spec := "fnExactRunWords", unfollowed := true, recurses := true, apart := false, narrowed := true }
def FnExactRunWordsUptoSaid : Prop := fnExactRunWordsUptoRow.holds Try.pinned (OpenSpec.upto fnExactRunWordsSpec)

/-- 'laws.FnExactTreeLevel', WHERE WHAT IT READS IS OF BULK AT MOST 1048576: true; the input reads as it did. -/
def fnExactTreeLevelUptoRow : OpenClaim := { program := "ytbbjgcagkmlngab", sum := "d02da707b7c04b80364ef589fa1984536c5b00fe6475fc8fb90767e9df8716d8", func := "loop.example/g01098/laws.FnExactTreeLevel", spec := "fnExactTreeLevel", apart := false, narrowed := true }
def FnExactTreeLevelUptoSaid : Prop := fnExactTreeLevelUptoRow.holds Try.pinned (OpenSpec.upto fnExactTreeLevelSpec)

/-- 'laws.FnExactTreePath', WHERE WHAT IT READS IS OF BULK AT MOST 1048576: true; the input reads as it did. -/
def fnExactTreePathUptoRow : OpenClaim := { program := "ytbbjgcagkmlngab", sum := "d02da707b7c04b80364ef589fa1984536c5b00fe6475fc8fb90767e9df8716d8", func := "loop.example/g01098/laws.FnExactTreePath", spec := "fnExactTreePath", unfollowed := true, recurses := true, apart := false, narrowed := true }
def FnExactTreePathUptoSaid : Prop := fnExactTreePathUptoRow.holds Try.pinned (OpenSpec.upto fnExactTreePathSpec)

/-- 'laws.FnExactTreeParent', WHERE WHAT IT READS IS OF BULK AT MOST 1048576: true; the input reads as it did. -/
def fnExactTreeParentUptoRow : OpenClaim := { program := "ytbbjgcagkmlngab", sum := "d02da707b7c04b80364ef589fa1984536c5b00fe6475fc8fb90767e9df8716d8", func := "loop.example/g01098/laws.FnExactTreeParent", spec := "fnExactTreeParent", unfollowed := true, recurses := true, apart := false, narrowed := true }
def FnExactTreeParentUptoSaid : Prop := fnExactTreeParentUptoRow.holds Try.pinned (OpenSpec.upto fnExactTreeParentSpec)

/-- 'laws.FnExactTreeChain', WHERE WHAT IT READS IS OF BULK AT MOST 1048576: true; the input reads as it did. -/
def fnExactTreeChainUptoRow : OpenClaim := { program := "ytbbjgcagkmlngab", sum := "d02da707b7c04b80364ef589fa1984536c5b00fe6475fc8fb90767e9df8716d8", func := "loop.example/g01098/laws.FnExactTreeChain", spec := "fnExactTreeChain", unfollowed := true, recurses := true, apart := false, narrowed := true }
def FnExactTreeChainUptoSaid : Prop := fnExactTreeChainUptoRow.holds Try.pinned (OpenSpec.upto fnExactTreeChainSpec)

end Rows
end Go.Proofs.Ytbbjgcagkmlngab
