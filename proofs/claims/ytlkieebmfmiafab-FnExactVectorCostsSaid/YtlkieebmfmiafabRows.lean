/-
  No cell of these rows narrows 'for every input' (looked for: loops, veiled, ifaces, maps, wideKeys, modest, calm, conditions, laid).
  DERIVED. THE GIVEN ROWS OF THIS SEAT. 6 by the template 'for every input the law returns true; each argument reads behind the call as it read before'; 0 by the template 'total and deterministic' (their statements: YtlkieebmfmiafabTotals.lean).
  GIVEN WITH THE SEED: the statements are not yours to turn. If you find one false, say at which input.
  Laid BY PROGRAM, IN A SANDBOX (cutbox-rows.mjs): the forced cells as the released guide's own fill.sh prints them over the translation 5ef0c433004a0927… (all of the seat's roots in one cut). By AI agents, Wed Nov 11 2026. No macro, syntax, notation, axiom, sorry.
-/
import Derived.Test.YtlkieebmfmiafabChecked
import GoSem.Claim
import GoSem.ClaimJoined
import GoSem.ClaimMapViews
import Derived.JoinedTies
import Derived.KernelRfl
namespace Go.Proofs.Ytlkieebmfmiafab
/- THE CELL 'sum', in the pinned program and in every row, IS THE sha256 OF THE DUMP (.gsa) THAT YtlkieebmfmiafabProg.lean LOADS. Nothing in Lean hashes anything: it is a label: what it is worth is what the hold of that sum in a sandbox is worth. -/
noncomputable def Try.pinned : Pinned := { name := "ytlkieebmfmiafab", sum := "5ef0c433004a0927b40cbfcb52b69bab68c3b0bffcd0268b0a32e2705e55716a", checked := Try.checked }
namespace Rows
def none {H : Type} : Left H := { results := [], args := [] }

/-- 'laws.FnExactVectorPlan': WHATEVER THE INPUT: true; the input reads as it did. -/
def fnExactVectorPlanSpec : ChangeSpec := { name := "fnExactVectorPlan", fn := fun _ => fun
  | [d] => { results := [.lit (.bool true)], args := [d] }
  | _ => none }
def fnExactVectorPlanRow : OpenClaim := { program := "ytlkieebmfmiafab", sum := "5ef0c433004a0927b40cbfcb52b69bab68c3b0bffcd0268b0a32e2705e55716a", func := "loop.example/g01098/laws.FnExactVectorPlan", spec := "fnExactVectorPlan", unfollowed := true, recurses := true, apart := false }
def FnExactVectorPlanSaid : Prop := fnExactVectorPlanRow.holds Try.pinned (OpenSpec.ofChange fnExactVectorPlanSpec)

/-- ITS FALSE NEIGHBOUR: 'it returns false'. Refute it at one input. -/
def fnExactVectorPlanWrong : ChangeSpec := { name := "fnExactVectorPlan", fn := fun _ => fun
  | [d] => { results := [.lit (.bool false)], args := [d] }
  | _ => none }
def FnExactVectorPlanWrongFalsely : Prop := fnExactVectorPlanRow.holds Try.pinned (OpenSpec.ofChange fnExactVectorPlanWrong)

/-- 'laws.FnExactVectorCosts': WHATEVER THE INPUT: true; the input reads as it did. -/
def fnExactVectorCostsSpec : ChangeSpec := { name := "fnExactVectorCosts", fn := fun _ => fun
  | [d] => { results := [.lit (.bool true)], args := [d] }
  | _ => none }
def fnExactVectorCostsRow : OpenClaim := { program := "ytlkieebmfmiafab", sum := "5ef0c433004a0927b40cbfcb52b69bab68c3b0bffcd0268b0a32e2705e55716a", func := "loop.example/g01098/laws.FnExactVectorCosts", spec := "fnExactVectorCosts", unfollowed := true, recurses := true, apart := false }
def FnExactVectorCostsSaid : Prop := fnExactVectorCostsRow.holds Try.pinned (OpenSpec.ofChange fnExactVectorCostsSpec)

/-- ITS FALSE NEIGHBOUR: 'it returns false'. Refute it at one input. -/
def fnExactVectorCostsWrong : ChangeSpec := { name := "fnExactVectorCosts", fn := fun _ => fun
  | [d] => { results := [.lit (.bool false)], args := [d] }
  | _ => none }
def FnExactVectorCostsWrongFalsely : Prop := fnExactVectorCostsRow.holds Try.pinned (OpenSpec.ofChange fnExactVectorCostsWrong)

/-- 'laws.FnExactTreeLevel': WHATEVER THE INPUT: true; the input reads as it did. -/
def fnExactTreeLevelSpec : ChangeSpec := { name := "fnExactTreeLevel", fn := fun _ => fun
  | [d] => { results := [.lit (.bool true)], args := [d] }
  | _ => none }
def fnExactTreeLevelRow : OpenClaim := { program := "ytlkieebmfmiafab", sum := "5ef0c433004a0927b40cbfcb52b69bab68c3b0bffcd0268b0a32e2705e55716a", func := "loop.example/g01098/laws.FnExactTreeLevel", spec := "fnExactTreeLevel", apart := false }
def FnExactTreeLevelSaid : Prop := fnExactTreeLevelRow.holds Try.pinned (OpenSpec.ofChange fnExactTreeLevelSpec)

/-- ITS FALSE NEIGHBOUR: 'it returns false'. Refute it at one input. -/
def fnExactTreeLevelWrong : ChangeSpec := { name := "fnExactTreeLevel", fn := fun _ => fun
  | [d] => { results := [.lit (.bool false)], args := [d] }
  | _ => none }
def FnExactTreeLevelWrongFalsely : Prop := fnExactTreeLevelRow.holds Try.pinned (OpenSpec.ofChange fnExactTreeLevelWrong)

/-- 'laws.FnExactTreePath': WHATEVER THE INPUT: true; the input reads as it did. -/
def fnExactTreePathSpec : ChangeSpec := { name := "fnExactTreePath", fn := fun _ => fun
  | [d] => { results := [.lit (.bool true)], args := [d] }
  | _ => none }
def fnExactTreePathRow : OpenClaim := { program := "ytlkieebmfmiafab", sum := "5ef0c433004a0927b40cbfcb52b69bab68c3b0bffcd0268b0a32e2705e55716a", func := "loop.example/g01098/laws.FnExactTreePath", spec := "fnExactTreePath", unfollowed := true, recurses := true, apart := false }
def FnExactTreePathSaid : Prop := fnExactTreePathRow.holds Try.pinned (OpenSpec.ofChange fnExactTreePathSpec)

/-- ITS FALSE NEIGHBOUR: 'it returns false'. Refute it at one input. -/
def fnExactTreePathWrong : ChangeSpec := { name := "fnExactTreePath", fn := fun _ => fun
  | [d] => { results := [.lit (.bool false)], args := [d] }
  | _ => none }
def FnExactTreePathWrongFalsely : Prop := fnExactTreePathRow.holds Try.pinned (OpenSpec.ofChange fnExactTreePathWrong)

/-- 'laws.FnExactTreeParent': WHATEVER THE INPUT: true; the input reads as it did. -/
def fnExactTreeParentSpec : ChangeSpec := { name := "fnExactTreeParent", fn := fun _ => fun
  | [d] => { results := [.lit (.bool true)], args := [d] }
  | _ => none }
def fnExactTreeParentRow : OpenClaim := { program := "ytlkieebmfmiafab", sum := "5ef0c433004a0927b40cbfcb52b69bab68c3b0bffcd0268b0a32e2705e55716a", func := "loop.example/g01098/laws.FnExactTreeParent", spec := "fnExactTreeParent", unfollowed := true, recurses := true, apart := false }
def FnExactTreeParentSaid : Prop := fnExactTreeParentRow.holds Try.pinned (OpenSpec.ofChange fnExactTreeParentSpec)

/-- ITS FALSE NEIGHBOUR: 'it returns false'. Refute it at one input. -/
def fnExactTreeParentWrong : ChangeSpec := { name := "fnExactTreeParent", fn := fun _ => fun
  | [d] => { results := [.lit (.bool false)], args := [d] }
  | _ => none }
def FnExactTreeParentWrongFalsely : Prop := fnExactTreeParentRow.holds Try.pinned (OpenSpec.ofChange fnExactTreeParentWrong)

/-- 'laws.FnExactTreeChain': WHATEVER THE INPUT: true; the input reads as it did. -/
def fnExactTreeChainSpec : ChangeSpec := { name := "fnExactTreeChain", fn := fun _ => fun
  | [d] => { results := [.lit (.bool true)], args := [d] }
  | _ => none }
def fnExactTreeChainRow : OpenClaim := { program := "ytlkieebmfmiafab", sum := "5ef0c433004a0927b40cbfcb52b69bab68c3b0bffcd0268b0a32e2705e55716a", func := "loop.example/g01098/laws.FnExactTreeChain", spec := "fnExactTreeChain", unfollowed := true, recurses := true, apart := false }
def FnExactTreeChainSaid : Prop := fnExactTreeChainRow.holds Try.pinned (OpenSpec.ofChange fnExactTreeChainSpec)

/-- ITS FALSE NEIGHBOUR: 'it returns false'. Refute it at one input. -/
def fnExactTreeChainWrong : ChangeSpec := { name := "fnExactTreeChain", fn := fun _ => fun
  | [d] => { results := [.lit (.bool false)], args := [d] }
  | _ => none }
def FnExactTreeChainWrongFalsely : Prop := fnExactTreeChainRow.holds Try.pinned (OpenSpec.ofChange fnExactTreeChainWrong)

/- THE SECOND FORM. 'bulk': how many values and letters a reading holds, each counted each time it is reached (what is shared counts as often as it is met; a slice's spare places count too). A statement '..UptoSaid' is the law's where the arguments, and the package variables that the reading takes, are together of bulk at most 1048576: NARROWER than '..Said'. Prove '..Said' where nothing that the law and all that it calls make is longer than what came in: it says more and counts as full. Else prove '..UptoSaid'. A law counts once. -/
mutual
def uptoBulk {H : Type} : DataW H → Nat
  | .lit (.string bytes) => bytes.length + 1
  | .lit _ => 1
  | .nil => 1
  | .ptr d => uptoBulk d + 1
  | .slice elems spare => uptoBulkAll elems + uptoBulkAll spare + 1
  | .agg parts => uptoBulkAll parts + 1
  | .iface _ d => uptoBulk d + 1
  | .map entries => uptoBulkEntries entries + 1
  | .held _ => 1
def uptoBulkAll {H : Type} : List (DataW H) → Nat
  | [] => 0
  | d :: r => uptoBulk d + uptoBulkAll r
def uptoBulkEntries {H : Type} : List (Lit × DataW H) → Nat
  | [] => 0
  | x :: r => uptoBulkEntry x + uptoBulkEntries r
def uptoBulkEntry {H : Type} : Lit × DataW H → Nat
  | (.string bytes, d) => bytes.length + uptoBulk d + 1
  | (_, d) => uptoBulk d + 1
 end
def uptoSmall : (H : Type) → List (DataW H) → Bool := fun _ ds => decide (uptoBulkAll ds ≤ 1048576)
def OpenSpec.upto (s : _root_.Go.ChangeSpec) : _root_.Go.OpenSpec := { _root_.Go.OpenSpec.ofChange s with cond := some uptoSmall }

/-- 'laws.FnExactVectorPlan', WHERE WHAT IT READS IS OF BULK AT MOST 1048576: true; the input reads as it did. -/
def fnExactVectorPlanUptoRow : OpenClaim := { program := "ytlkieebmfmiafab", sum := "5ef0c433004a0927b40cbfcb52b69bab68c3b0bffcd0268b0a32e2705e55716a", func := "loop.example/g01098/laws.FnExactVectorPlan", spec := "fnExactVectorPlan", unfollowed := true, recurses := true, apart := false, narrowed := true }
def FnExactVectorPlanUptoSaid : Prop := fnExactVectorPlanUptoRow.holds Try.pinned (OpenSpec.upto fnExactVectorPlanSpec)

/-- 'laws.FnExactVectorCosts', WHERE WHAT IT READS IS OF BULK AT MOST 1048576: true; the input reads as it did. -/
def fnExactVectorCostsUptoRow : OpenClaim := { program := "ytlkieebmfmiafab", sum := "5ef0c433004a0927b40cbfcb52b69bab68c3b0bffcd0268b0a32e2705e55716a", func := "loop.example/g01098/laws.FnExactVectorCosts", spec := "fnExactVectorCosts", unfollowed := true, recurses := true, apart := false, narrowed := true }
def FnExactVectorCostsUptoSaid : Prop := fnExactVectorCostsUptoRow.holds Try.pinned (OpenSpec.upto fnExactVectorCostsSpec)

/-- 'laws.FnExactTreeLevel', WHERE WHAT IT READS IS OF BULK AT MOST 1048576: true; the input reads as it did. -/
def fnExactTreeLevelUptoRow : OpenClaim := { program := "ytlkieebmfmiafab", sum := "5ef0c433004a0927b40cbfcb52b69bab68c3b0bffcd0268b0a32e2705e55716a", func := "loop.example/g01098/laws.FnExactTreeLevel", spec := "fnExactTreeLevel", apart := false, narrowed := true }
def FnExactTreeLevelUptoSaid : Prop := fnExactTreeLevelUptoRow.holds Try.pinned (OpenSpec.upto fnExactTreeLevelSpec)

/-- 'laws.FnExactTreePath', WHERE WHAT IT READS IS OF BULK AT MOST 1048576: true; the input reads as it did. -/
def fnExactTreePathUptoRow : OpenClaim := { program := "ytlkieebmfmiafab", sum := "5ef0c433004a0927b40cbfcb52b69bab68c3b0bffcd0268b0a32e2705e55716a", func := "loop.example/g01098/laws.FnExactTreePath", spec := "fnExactTreePath", unfollowed := true, recurses := true, apart := false, narrowed := true }
def FnExactTreePathUptoSaid : Prop := fnExactTreePathUptoRow.holds Try.pinned (OpenSpec.upto fnExactTreePathSpec)

/-- 'laws.FnExactTreeParent', WHERE WHAT IT READS IS OF BULK AT MOST 1048576: true; the input reads as it did. -/
def fnExactTreeParentUptoRow : OpenClaim := { program := "ytlkieebmfmiafab", sum := "5ef0c433004a0927b40cbfcb52b69bab68c3b0bffcd0268b0a32e2705e55716a", func := "loop.example/g01098/laws.FnExactTreeParent", spec := "fnExactTreeParent", unfollowed := true, recurses := true, apart := false, narrowed := true }
def FnExactTreeParentUptoSaid : Prop := fnExactTreeParentUptoRow.holds Try.pinned (OpenSpec.upto fnExactTreeParentSpec)

/-- 'laws.FnExactTreeChain', WHERE WHAT IT READS IS OF BULK AT MOST 1048576: true; the input reads as it did. -/
def fnExactTreeChainUptoRow : OpenClaim := { program := "ytlkieebmfmiafab", sum := "5ef0c433004a0927b40cbfcb52b69bab68c3b0bffcd0268b0a32e2705e55716a", func := "loop.example/g01098/laws.FnExactTreeChain", spec := "fnExactTreeChain", unfollowed := true, recurses := true, apart := false, narrowed := true }
def FnExactTreeChainUptoSaid : Prop := fnExactTreeChainUptoRow.holds Try.pinned (OpenSpec.upto fnExactTreeChainSpec)

end Rows
end Go.Proofs.Ytlkieebmfmiafab
