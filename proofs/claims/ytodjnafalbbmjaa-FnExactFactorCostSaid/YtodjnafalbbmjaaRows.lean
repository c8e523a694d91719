/-
  No cell of these rows narrows 'for every input' (looked for: loops, veiled, ifaces, maps, wideKeys, modest, calm, conditions, laid).
  DERIVED. THE GIVEN ROWS OF THIS SEAT. 10 by the template 'for every input the law returns true; each argument reads behind the call as it read before'; 0 by the template 'total and deterministic' (their statements: YtodjnafalbbmjaaTotals.lean).
  GIVEN WITH THE SEED: the statements are not yours to turn. If you find one false, say at which input.
  Laid BY PROGRAM, IN A SANDBOX (cutbox-rows.mjs): the forced cells as the released guide's own fill.sh prints them over the translation 9fa27439d52b90f3… (all of the seat's roots in one cut). By AI agents, Wed Nov 11 2026. No macro, syntax, notation, axiom, sorry.
-/
import Derived.Test.YtodjnafalbbmjaaChecked
import GoSem.Claim
import GoSem.ClaimJoined
import GoSem.ClaimMapViews
import Derived.JoinedTies
import Derived.KernelRfl
namespace Go.Proofs.Ytodjnafalbbmjaa
/- THE CELL 'sum', in the pinned program and in every row, IS THE sha256 OF THE DUMP (.gsa) THAT YtodjnafalbbmjaaProg.lean LOADS. Nothing in Lean hashes anything: it is a label: what it is worth is what the hold of that sum in a sandbox is worth. -/
noncomputable def Try.pinned : Pinned := { name := "ytodjnafalbbmjaa", sum := "9fa27439d52b90f3da57869ef845e42d444f98a9d165bd8fef5b3a68602ccf98", checked := Try.checked }
namespace Rows
def none {H : Type} : Left H := { results := [], args := [] }

/-- 'laws.FnExactDigitsOf': WHATEVER THE INPUT: true; the input reads as it did. -/
def fnExactDigitsOfSpec : ChangeSpec := { name := "fnExactDigitsOf", fn := fun _ => fun
  | [d1, d2] => { results := [.lit (.bool true)], args := [d1, d2] }
  | _ => none }
def fnExactDigitsOfRow : OpenClaim := { program := "ytodjnafalbbmjaa", sum := "9fa27439d52b90f3da57869ef845e42d444f98a9d165bd8fef5b3a68602ccf98", func := "loop.example/g01098/laws.FnExactDigitsOf", spec := "fnExactDigitsOf", apart := false }
def FnExactDigitsOfSaid : Prop := fnExactDigitsOfRow.holds Try.pinned (OpenSpec.ofChange fnExactDigitsOfSpec)

/-- ITS FALSE NEIGHBOUR: 'it returns false'. Refute it at one input. -/
def fnExactDigitsOfWrong : ChangeSpec := { name := "fnExactDigitsOf", fn := fun _ => fun
  | [d1, d2] => { results := [.lit (.bool false)], args := [d1, d2] }
  | _ => none }
def FnExactDigitsOfWrongFalsely : Prop := fnExactDigitsOfRow.holds Try.pinned (OpenSpec.ofChange fnExactDigitsOfWrong)

/-- 'laws.FnExactLeastFactor': WHATEVER THE INPUT: true; the input reads as it did. -/
def fnExactLeastFactorSpec : ChangeSpec := { name := "fnExactLeastFactor", fn := fun _ => fun
  | [d] => { results := [.lit (.bool true)], args := [d] }
  | _ => none }
def fnExactLeastFactorRow : OpenClaim := { program := "ytodjnafalbbmjaa", sum := "9fa27439d52b90f3da57869ef845e42d444f98a9d165bd8fef5b3a68602ccf98", func := "loop.example/g01098/laws.FnExactLeastFactor", spec := "fnExactLeastFactor", apart := false }
def FnExactLeastFactorSaid : Prop := fnExactLeastFactorRow.holds Try.pinned (OpenSpec.ofChange fnExactLeastFactorSpec)

/-- ITS FALSE NEIGHBOUR: 'it returns false'. Refute it at one input. -/
def fnExactLeastFactorWrong : ChangeSpec := { name := "fnExactLeastFactor", fn := fun _ => fun
  | [d] => { results := [.lit (.bool false)], args := [d] }
  | _ => none }
def FnExactLeastFactorWrongFalsely : Prop := fnExactLeastFactorRow.holds Try.pinned (OpenSpec.ofChange fnExactLeastFactorWrong)

/-- 'laws.FnExactBinaryPlan': WHATEVER THE INPUT: true; the input reads as it did. -/
def fnExactBinaryPlanSpec : ChangeSpec := { name := "fnExactBinaryPlan", fn := fun _ => fun
  | [d] => { results := [.lit (.bool true)], args := [d] }
  | _ => none }
def fnExactBinaryPlanRow : OpenClaim := { program := "ytodjnafalbbmjaa", sum := "9fa27439d52b90f3da57869ef845e42d444f98a9d165bd8fef5b3a68602ccf98", func := "loop.example/g01098/laws.FnExactBinaryPlan", spec := "fnExactBinaryPlan", unfollowed := true, recurses := true, apart := false }
def FnExactBinaryPlanSaid : Prop := fnExactBinaryPlanRow.holds Try.pinned (OpenSpec.ofChange fnExactBinaryPlanSpec)

/-- ITS FALSE NEIGHBOUR: 'it returns false'. Refute it at one input. -/
def fnExactBinaryPlanWrong : ChangeSpec := { name := "fnExactBinaryPlan", fn := fun _ => fun
  | [d] => { results := [.lit (.bool false)], args := [d] }
  | _ => none }
def FnExactBinaryPlanWrongFalsely : Prop := fnExactBinaryPlanRow.holds Try.pinned (OpenSpec.ofChange fnExactBinaryPlanWrong)

/-- 'laws.FnExactBinaryCost': WHATEVER THE INPUT: true; the input reads as it did. -/
def fnExactBinaryCostSpec : ChangeSpec := { name := "fnExactBinaryCost", fn := fun _ => fun
  | [d] => { results := [.lit (.bool true)], args := [d] }
  | _ => none }
def fnExactBinaryCostRow : OpenClaim := { program := "ytodjnafalbbmjaa", sum := "9fa27439d52b90f3da57869ef845e42d444f98a9d165bd8fef5b3a68602ccf98", func := "loop.example/g01098/laws.FnExactBinaryCost", spec := "fnExactBinaryCost", unfollowed := true, recurses := true, apart := false }
def FnExactBinaryCostSaid : Prop := fnExactBinaryCostRow.holds Try.pinned (OpenSpec.ofChange fnExactBinaryCostSpec)

/-- ITS FALSE NEIGHBOUR: 'it returns false'. Refute it at one input. -/
def fnExactBinaryCostWrong : ChangeSpec := { name := "fnExactBinaryCost", fn := fun _ => fun
  | [d] => { results := [.lit (.bool false)], args := [d] }
  | _ => none }
def FnExactBinaryCostWrongFalsely : Prop := fnExactBinaryCostRow.holds Try.pinned (OpenSpec.ofChange fnExactBinaryCostWrong)

/-- 'laws.FnExactRightPlan': WHATEVER THE INPUT: true; the input reads as it did. -/
def fnExactRightPlanSpec : ChangeSpec := { name := "fnExactRightPlan", fn := fun _ => fun
  | [d] => { results := [.lit (.bool true)], args := [d] }
  | _ => none }
def fnExactRightPlanRow : OpenClaim := { program := "ytodjnafalbbmjaa", sum := "9fa27439d52b90f3da57869ef845e42d444f98a9d165bd8fef5b3a68602ccf98", func := "loop.example/g01098/laws.FnExactRightPlan", spec := "fnExactRightPlan", unfollowed := true, recurses := true, apart := false }
def FnExactRightPlanSaid : Prop := fnExactRightPlanRow.holds Try.pinned (OpenSpec.ofChange fnExactRightPlanSpec)

/-- ITS FALSE NEIGHBOUR: 'it returns false'. Refute it at one input. -/
def fnExactRightPlanWrong : ChangeSpec := { name := "fnExactRightPlan", fn := fun _ => fun
  | [d] => { results := [.lit (.bool false)], args := [d] }
  | _ => none }
def FnExactRightPlanWrongFalsely : Prop := fnExactRightPlanRow.holds Try.pinned (OpenSpec.ofChange fnExactRightPlanWrong)

/-- 'laws.FnExactWindowPlan': WHATEVER THE INPUT: true; the input reads as it did. -/
def fnExactWindowPlanSpec : ChangeSpec := { name := "fnExactWindowPlan", fn := fun _ => fun
  | [d1, d2] => { results := [.lit (.bool true)], args := [d1, d2] }
  | _ => none }
def fnExactWindowPlanRow : OpenClaim := { program := "ytodjnafalbbmjaa", sum := "9fa27439d52b90f3da57869ef845e42d444f98a9d165bd8fef5b3a68602ccf98", func := "loop.example/g01098/laws.FnExactWindowPlan", spec := "fnExactWindowPlan", unfollowed := true, recurses := true, apart := false }
def FnExactWindowPlanSaid : Prop := fnExactWindowPlanRow.holds Try.pinned (OpenSpec.ofChange fnExactWindowPlanSpec)

/-- ITS FALSE NEIGHBOUR: 'it returns false'. Refute it at one input. -/
def fnExactWindowPlanWrong : ChangeSpec := { name := "fnExactWindowPlan", fn := fun _ => fun
  | [d1, d2] => { results := [.lit (.bool false)], args := [d1, d2] }
  | _ => none }
def FnExactWindowPlanWrongFalsely : Prop := fnExactWindowPlanRow.holds Try.pinned (OpenSpec.ofChange fnExactWindowPlanWrong)

/-- 'laws.FnExactSlidingPlan': WHATEVER THE INPUT: true; the input reads as it did. -/
def fnExactSlidingPlanSpec : ChangeSpec := { name := "fnExactSlidingPlan", fn := fun _ => fun
  | [d1, d2] => { results := [.lit (.bool true)], args := [d1, d2] }
  | _ => none }
def fnExactSlidingPlanRow : OpenClaim := { program := "ytodjnafalbbmjaa", sum := "9fa27439d52b90f3da57869ef845e42d444f98a9d165bd8fef5b3a68602ccf98", func := "loop.example/g01098/laws.FnExactSlidingPlan", spec := "fnExactSlidingPlan", unfollowed := true, recurses := true, apart := false }
def FnExactSlidingPlanSaid : Prop := fnExactSlidingPlanRow.holds Try.pinned (OpenSpec.ofChange fnExactSlidingPlanSpec)

/-- ITS FALSE NEIGHBOUR: 'it returns false'. Refute it at one input. -/
def fnExactSlidingPlanWrong : ChangeSpec := { name := "fnExactSlidingPlan", fn := fun _ => fun
  | [d1, d2] => { results := [.lit (.bool false)], args := [d1, d2] }
  | _ => none }
def FnExactSlidingPlanWrongFalsely : Prop := fnExactSlidingPlanRow.holds Try.pinned (OpenSpec.ofChange fnExactSlidingPlanWrong)

/-- 'laws.FnExactFactorPlan': WHATEVER THE INPUT: true; the input reads as it did. -/
def fnExactFactorPlanSpec : ChangeSpec := { name := "fnExactFactorPlan", fn := fun _ => fun
  | [d] => { results := [.lit (.bool true)], args := [d] }
  | _ => none }
def fnExactFactorPlanRow : OpenClaim := { program := "ytodjnafalbbmjaa", sum := "9fa27439d52b90f3da57869ef845e42d444f98a9d165bd8fef5b3a68602ccf98", func := "loop.example/g01098/laws.FnExactFactorPlan", spec := "fnExactFactorPlan", unfollowed := true, recurses := true, apart := false }
def FnExactFactorPlanSaid : Prop := fnExactFactorPlanRow.holds Try.pinned (OpenSpec.ofChange fnExactFactorPlanSpec)

/-- ITS FALSE NEIGHBOUR: 'it returns false'. Refute it at one input. -/
def fnExactFactorPlanWrong : ChangeSpec := { name := "fnExactFactorPlan", fn := fun _ => fun
  | [d] => { results := [.lit (.bool false)], args := [d] }
  | _ => none }
def FnExactFactorPlanWrongFalsely : Prop := fnExactFactorPlanRow.holds Try.pinned (OpenSpec.ofChange fnExactFactorPlanWrong)

/-- 'laws.FnExactFactorCost': WHATEVER THE INPUT: true; the input reads as it did. -/
def fnExactFactorCostSpec : ChangeSpec := { name := "fnExactFactorCost", fn := fun _ => fun
  | [d] => { results := [.lit (.bool true)], args := [d] }
  | _ => none }
def fnExactFactorCostRow : OpenClaim := { program := "ytodjnafalbbmjaa", sum := "9fa27439d52b90f3da57869ef845e42d444f98a9d165bd8fef5b3a68602ccf98", func := "loop.example/g01098/laws.FnExactFactorCost", spec := "fnExactFactorCost", unfollowed := true, recurses := true, apart := false }
def FnExactFactorCostSaid : Prop := fnExactFactorCostRow.holds Try.pinned (OpenSpec.ofChange fnExactFactorCostSpec)

/-- ITS FALSE NEIGHBOUR: 'it returns false'. Refute it at one input. -/
def fnExactFactorCostWrong : ChangeSpec := { name := "fnExactFactorCost", fn := fun _ => fun
  | [d] => { results := [.lit (.bool false)], args := [d] }
  | _ => none }
def FnExactFactorCostWrongFalsely : Prop := fnExactFactorCostRow.holds Try.pinned (OpenSpec.ofChange fnExactFactorCostWrong)

/-- 'laws.FnExactMethodCosts': WHATEVER THE INPUT: true; the input reads as it did. -/
def fnExactMethodCostsSpec : ChangeSpec := { name := "fnExactMethodCosts", fn := fun _ => fun
  | [d] => { results := [.lit (.bool true)], args := [d] }
  | _ => none }
def fnExactMethodCostsRow : OpenClaim := { program := "ytodjnafalbbmjaa", sum := "9fa27439d52b90f3da57869ef845e42d444f98a9d165bd8fef5b3a68602ccf98", func := "loop.example/g01098/laws.FnExactMethodCosts", spec := "fnExactMethodCosts", unfollowed := true, recurses := true, apart := false }
def FnExactMethodCostsSaid : Prop := fnExactMethodCostsRow.holds Try.pinned (OpenSpec.ofChange fnExactMethodCostsSpec)

/-- ITS FALSE NEIGHBOUR: 'it returns false'. Refute it at one input. -/
def fnExactMethodCostsWrong : ChangeSpec := { name := "fnExactMethodCosts", fn := fun _ => fun
  | [d] => { results := [.lit (.bool false)], args := [d] }
  | _ => none }
def FnExactMethodCostsWrongFalsely : Prop := fnExactMethodCostsRow.holds Try.pinned (OpenSpec.ofChange fnExactMethodCostsWrong)

/- THE SECOND FORM. 'bulk': how many values and letters a reading holds, each counted each time it is reached (what is shared counts as often as it is met; a slice's spare places count too). A statement '..UptoSaid' is the law's where the arguments, and the package variables that the reading takes, are together of bulk at most 1048576: NARROWER than '..Said'. Prove '..Said' where nothing that the law and all that it calls make is longer than what came in: it says more and counts as full. Else prove '..UptoSaid'. A law counts once. -/
mutual
def uptoBulk {H : Type} : DataW H → Nat
  | .lit (.string bytes) => bytes.length + 1
  | .lit _ => 1
  | .nil => 1
  | .ptr d => uptoBulk d + 1
  | .slice elems spare => uptoBulkAll elems + uptoBulkAll spare + 1
  | .agg parts => uptoBulkAll parts + 1
  | .iface _ d => uptoBulk d + 1
  | .map entries => uptoBulkEntries entries + 1
  | .held _ => 1
def uptoBulkAll {H : Type} : List (DataW H) → Nat
  | [] => 0
  | d :: r => uptoBulk d + uptoBulkAll r
def uptoBulkEntries {H : Type} : List (Lit × DataW H) → Nat
  | [] => 0
  | x :: r => uptoBulkEntry x + uptoBulkEntries r
def uptoBulkEntry {H : Type} : Lit × DataW H → Nat
  | (.string bytes, d) => bytes.length + uptoBulk d + 1
  | (_, d) => uptoBulk d + 1
 end
def uptoSmall : (H : Type) → List (DataW H) → Bool := fun _ ds => decide (uptoBulkAll ds ≤ 1048576)
def OpenSpec.upto (s : _root_.Go.ChangeSpec) : _root_.Go.OpenSpec := { _root_.Go.OpenSpec.ofChange s with cond := some uptoSmall }

/-- 'laws.FnExactDigitsOf', WHERE WHAT IT READS IS OF BULK AT MOST 1048576: true; the input reads as it did. -/
def fnExactDigitsOfUptoRow : OpenClaim := { program := "ytodjnafalbbmjaa", sum := "9fa27439d52b90f3da57869ef845e42d444f98a9d165bd8fef5b3a68602ccf98", func := "loop.example/g01098/laws.FnExactDigitsOf", spec := "fnExactDigitsOf", apart := false, narrowed := true }
def FnExactDigitsOfUptoSaid : Prop := fnExactDigitsOfUptoRow.holds Try.pinned (OpenSpec.upto fnExactDigitsOfSpec)

/-- 'laws.FnExactLeastFactor', WHERE WHAT IT READS IS OF BULK AT MOST 1048576: true; the input reads as it did. -/
def fnExactLeastFactorUptoRow : OpenClaim := { program := "ytodjnafalbbmjaa", sum := "9fa27439d52b90f3da57869ef845e42d444f98a9d165bd8fef5b3a68602ccf98", func := "loop.example/g01098/laws.FnExactLeastFactor", spec := "fnExactLeastFactor", apart := false, narrowed := true }
def FnExactLeastFactorUptoSaid : Prop := fnExactLeastFactorUptoRow.holds Try.pinned (OpenSpec.upto fnExactLeastFactorSpec)

/-- 'laws.FnExactBinaryPlan', WHERE WHAT IT READS IS OF BULK AT MOST 1048576: true; the input reads as it did. -/
def fnExactBinaryPlanUptoRow : OpenClaim := { program := "ytodjnafalbbmjaa", sum := "9fa27439d52b90f3da57869ef845e42d444f98a9d165bd8fef5b3a68602ccf98", func := "loop.example/g01098/laws.FnExactBinaryPlan", spec := "fnExactBinaryPlan", unfollowed := true, recurses := true, apart := false, narrowed := true }
def FnExactBinaryPlanUptoSaid : Prop := fnExactBinaryPlanUptoRow.holds Try.pinned (OpenSpec.upto fnExactBinaryPlanSpec)

/-- 'laws.FnExactBinaryCost', WHERE WHAT IT READS IS OF BULK AT MOST 1048576: true; the input reads as it did. -/
def fnExactBinaryCostUptoRow : OpenClaim := { program := "ytodjnafalbbmjaa", sum := "9fa27439d52b90f3da57869ef845e42d444f98a9d165bd8fef5b3a68602ccf98", func := "loop.example/g01098/laws.FnExactBinaryCost", spec := "fnExactBinaryCost", unfollowed := true, recurses := true, apart := false, narrowed := true }
def FnExactBinaryCostUptoSaid : Prop := fnExactBinaryCostUptoRow.holds Try.pinned (OpenSpec.upto fnExactBinaryCostSpec)

/-- 'laws.FnExactRightPlan', WHERE WHAT IT READS IS OF BULK AT MOST 1048576: true; the input reads as it did. -/
def fnExactRightPlanUptoRow : OpenClaim := { program := "ytodjnafalbbmjaa", sum := "9fa27439d52b90f3da57869ef845e42d444f98a9d165bd8fef5b3a68602ccf98", func := "loop.example/g01098/laws.FnExactRightPlan", spec := "fnExactRightPlan", unfollowed := true, recurses := true, apart := false, narrowed := true }
def FnExactRightPlanUptoSaid : Prop := fnExactRightPlanUptoRow.holds Try.pinned (OpenSpec.upto fnExactRightPlanSpec)

/-- 'laws.FnExactWindowPlan', WHERE WHAT IT READS IS OF BULK AT MOST 1048576: true; the input reads as it did. -/
def fnExactWindowPlanUptoRow : OpenClaim := { program := "ytodjnafalbbmjaa", sum := "9fa27439d52b90f3da57869ef845e42d444f98a9d165bd8fef5b3a68602ccf98", func := "loop.example/g01098/laws.FnExactWindowPlan", spec := "fnExactWindowPlan", unfollowed := true, recurses := true, apart := false, narrowed := true }
def FnExactWindowPlanUptoSaid : Prop := fnExactWindowPlanUptoRow.holds Try.pinned (OpenSpec.upto fnExactWindowPlanSpec)

/-- 'laws.FnExactSlidingPlan', WHERE WHAT IT READS IS OF BULK AT MOST 1048576: true; the input reads as it did. -/
def fnExactSlidingPlanUptoRow : OpenClaim := { program := "ytodjnafalbbmjaa", sum := "9fa27439d52b90f3da57869ef845e42d444f98a9d165bd8fef5b3a68602ccf98", func := "loop.example/g01098/laws.FnExactSlidingPlan", spec := "fnExactSlidingPlan", unfollowed := true, recurses := true, apart := false, narrowed := true }
def FnExactSlidingPlanUptoSaid : Prop := fnExactSlidingPlanUptoRow.holds Try.pinned (OpenSpec.upto fnExactSlidingPlanSpec)

/-- 'laws.FnExactFactorPlan', WHERE WHAT IT READS IS OF BULK AT MOST 1048576: true; the input reads as it did. -/
def fnExactFactorPlanUptoRow : OpenClaim := { program := "ytodjnafalbbmjaa", sum := "9fa27439d52b90f3da57869ef845e42d444f98a9d165bd8fef5b3a68602ccf98", func := "loop.example/g01098/laws.FnExactFactorPlan", spec := "fnExactFactorPlan", unfollowed := true, recurses := true, apart := false, narrowed := true }
def FnExactFactorPlanUptoSaid : Prop := fnExactFactorPlanUptoRow.holds Try.pinned (OpenSpec.upto fnExactFactorPlanSpec)

/-- 'laws.FnExactFactorCost', WHERE WHAT IT READS IS OF BULK AT MOST 1048576: true; the input reads as it did. -/
def fnExactFactorCostUptoRow : OpenClaim := { program := "ytodjnafalbbmjaa", sum := "9fa27439d52b90f3da57869ef845e42d444f98a9d165bd8fef5b3a68602ccf98", func := "loop.example/g01098/laws.FnExactFactorCost", spec := "fnExactFactorCost", unfollowed := true, recurses := true, apart := false, narrowed := true }
def FnExactFactorCostUptoSaid : Prop := fnExactFactorCostUptoRow.holds Try.pinned (OpenSpec.upto fnExactFactorCostSpec)

/-- 'laws.FnExactMethodCosts', WHERE WHAT IT READS IS OF BULK AT MOST 1048576: true; the input reads as it did. -/
def fnExactMethodCostsUptoRow : OpenClaim := { program := "ytodjnafalbbmjaa", sum := "9fa27439d52b90f3da57869ef845e42d444f98a9d165bd8fef5b3a68602ccf98", func := "loop.example/g01098/laws.FnExactMethodCosts", spec := "fnExactMethodCosts", unfollowed := true, recurses := true, apart := false, narrowed := true }
def FnExactMethodCostsUptoSaid : Prop := fnExactMethodCostsUptoRow.holds Try.pinned (OpenSpec.upto fnExactMethodCostsSpec)

end Rows
end Go.Proofs.Ytodjnafalbbmjaa
