/-
  No cell of these rows narrows 'for every input' (looked for: loops, veiled, ifaces, maps, wideKeys, modest, calm, conditions, laid).
  DERIVED. THE GIVEN ROWS OF THIS SEAT. 4 by the template 'for every input the law returns true; each argument reads behind the call as it read before'; 0 by the template 'total and deterministic' (their statements: YtppfpdobdoaoiabTotals.lean).
  GIVEN WITH THE SEED: the statements are not yours to turn. If you find one false, say at which input.
  Laid BY PROGRAM, IN A SANDBOX (cutbox-rows.mjs): the forced cells as the released guide's own fill.sh prints them over the translation a40ad472c83e55cc… (all of the seat's roots in one cut). By AI agents, Wed Nov 11 2026. No macro, syntax, notation, axiom, sorry.
-/
import Derived.Test.YtppfpdobdoaoiabChecked
import GoSem.Claim
import GoSem.ClaimJoined
import GoSem.ClaimMapViews
import Derived.JoinedTies
import Derived.KernelRfl
namespace Go.Proofs.Ytppfpdobdoaoiab
/- THE CELL 'sum', in the pinned program and in every row, IS THE sha256 OF THE DUMP (.gsa) THAT YtppfpdobdoaoiabProg.lean LOADS. Nothing in Lean hashes anything: it is a label: what it is worth is what the hold of that sum in a sandbox is worth. -/
noncomputable def Try.pinned : Pinned := { name := "ytppfpdobdoaoiab", sum := "a40ad472c83e55ccc39679b1428c064bd0ef2b4865337dec3c2edaad990ada55", checked := Try.checked }
namespace Rows
def none {H : Type} : Left H := { results := [], args := [] }

/-- 'laws.FnExactJoinPlans': WHATEVER THE INPUT: true; the input reads as it did. -/
def fnExactJoinPlansSpec : ChangeSpec := { name := "fnExactJoinPlans", fn := fun _ => fun
  | [d1, d2] => { results := [.lit (.bool true)], args := [d1, d2] }
  | _ => none }
def fnExactJoinPlansRow : OpenClaim := { program := "ytppfpdobdoaoiab", sum := "a40ad472c83e55ccc39679b1428c064bd0ef2b4865337dec3c2edaad990ada55", func := "loop.example/g01098/laws.FnExactJoinPlans", spec := "fnExactJoinPlans", apart := false }
def FnExactJoinPlansSaid : Prop := fnExactJoinPlansRow.holds Try.pinned (OpenSpec.ofChange fnExactJoinPlansSpec)

/-- ITS FALSE NEIGHBOUR: 'it returns false'. Refute it at one input. -/
def fnExactJoinPlansWrong : ChangeSpec := { name := "fnExactJoinPlans", fn := fun _ => fun
  | [d1, d2] => { results := [.lit (.bool false)], args := [d1, d2] }
  | _ => none }
def FnExactJoinPlansWrongFalsely : Prop := fnExactJoinPlansRow.holds Try.pinned (OpenSpec.ofChange fnExactJoinPlansWrong)

/-- 'laws.FnExactPickOutputs': WHATEVER THE INPUT: true; the input reads as it did. -/
def fnExactPickOutputsSpec : ChangeSpec := { name := "fnExactPickOutputs", fn := fun _ => fun
  | [d1, d2] => { results := [.lit (.bool true)], args := [d1, d2] }
  | _ => none }
def fnExactPickOutputsRow : OpenClaim := { program := "ytppfpdobdoaoiab", sum := "a40ad472c83e55ccc39679b1428c064bd0ef2b4865337dec3c2edaad990ada55", func := "loop.example/g01098/laws.FnExactPickOutputs", spec := "fnExactPickOutputs", apart := false }
def FnExactPickOutputsSaid : Prop := fnExactPickOutputsRow.holds Try.pinned (OpenSpec.ofChange fnExactPickOutputsSpec)

/-- ITS FALSE NEIGHBOUR: 'it returns false'. Refute it at one input. -/
def fnExactPickOutputsWrong : ChangeSpec := { name := "fnExactPickOutputs", fn := fun _ => fun
  | [d1, d2] => { results := [.lit (.bool false)], args := [d1, d2] }
  | _ => none }
def FnExactPickOutputsWrongFalsely : Prop := fnExactPickOutputsRow.holds Try.pinned (OpenSpec.ofChange fnExactPickOutputsWrong)

/-- 'laws.FnExactFirstExponents': WHATEVER THE INPUT: true; the input reads as it did. -/
def fnExactFirstExponentsSpec : ChangeSpec := { name := "fnExactFirstExponents", fn := fun _ => fun
  | [d] => { results := [.lit (.bool true)], args := [d] }
  | _ => none }
def fnExactFirstExponentsRow : OpenClaim := { program := "ytppfpdobdoaoiab", sum := "a40ad472c83e55ccc39679b1428c064bd0ef2b4865337dec3c2edaad990ada55", func := "loop.example/g01098/laws.FnExactFirstExponents", spec := "fnExactFirstExponents", apart := false }
def FnExactFirstExponentsSaid : Prop := fnExactFirstExponentsRow.holds Try.pinned (OpenSpec.ofChange fnExactFirstExponentsSpec)

/-- ITS FALSE NEIGHBOUR: 'it returns false'. Refute it at one input. -/
def fnExactFirstExponentsWrong : ChangeSpec := { name := "fnExactFirstExponents", fn := fun _ => fun
  | [d] => { results := [.lit (.bool false)], args := [d] }
  | _ => none }
def FnExactFirstExponentsWrongFalsely : Prop := fnExactFirstExponentsRow.holds Try.pinned (OpenSpec.ofChange fnExactFirstExponentsWrong)

/-- 'laws.FnExactReorderSteps': WHATEVER THE INPUT: true; the input reads as it did. -/
def fnExactReorderStepsSpec : ChangeSpec := { name := "fnExactReorderSteps", fn := fun _ => fun
  | [d1, d2] => { results := [.lit (.bool true)], args := [d1, d2] }
  | _ => none }
def fnExactReorderStepsRow : OpenClaim := { program := "ytppfpdobdoaoiab", sum := "a40ad472c83e55ccc39679b1428c064bd0ef2b4865337dec3c2edaad990ada55", func := "loop.example/g01098/laws.FnExactReorderSteps", spec := "fnExactReorderSteps", apart := false }
def FnExactReorderStepsSaid : Prop := fnExactReorderStepsRow.holds Try.pinned (OpenSpec.ofChange fnExactReorderStepsSpec)

/-- ITS FALSE NEIGHBOUR: 'it returns false'. Refute it at one input. -/
def fnExactReorderStepsWrong : ChangeSpec := { name := "fnExactReorderSteps", fn := fun _ => fun
  | [d1, d2] => { results := [.lit (.bool false)], args := [d1, d2] }
  | _ => none }
def FnExactReorderStepsWrongFalsely : Prop := fnExactReorderStepsRow.holds Try.pinned (OpenSpec.ofChange fnExactReorderStepsWrong)

/- THE SECOND FORM. 'bulk': how many values and letters a reading holds, each counted each time it is reached (what is shared counts as often as it is met; a slice's spare places count too). A statement '..UptoSaid' is the law's where the arguments, and the package variables that the reading takes, are together of bulk at most 1048576: NARROWER than '..Said'. Prove '..Said' where nothing that the law and all that it calls make is longer than what came in: it says more and counts as full. Else prove '..UptoSaid'. A law counts once. -/
mutual
def uptoBulk {H : Type} : DataW H → Nat
  | .lit (.string bytes) => bytes.length + 1
  | .lit _ => 1
  | .nil => 1
  | .ptr d => uptoBulk d + 1
  | .slice elems spare => uptoBulkAll elems + uptoBulkAll spare + 1
  | .agg parts => uptoBulkAll parts + 1
  | .iface _ d => uptoBulk d + 1
  | .map entries => uptoBulkEntries entries + 1
  | .held _ => 1
def uptoBulkAll {H : Type} : List (DataW H) → Nat
  | [] => 0
  | d :: r => uptoBulk d + uptoBulkAll r
def uptoBulkEntries {H : Type} : List (Lit × DataW H) → Nat
  | [] => 0
  | x :: r => uptoBulkEntry x + uptoBulkEntries r
def uptoBulkEntry {H : Type} : Lit × DataW H → Nat
  | (.string bytes, d) => bytes.length + uptoBulk d + 1
  | (_, d) => uptoBulk d + 1
 end
def uptoSmall : (H : Type) → List (DataW H) → Bool := fun _ ds => decide (uptoBulkAll ds ≤ 1048576)
def OpenSpec.upto (s : _root_.Go.ChangeSpec) : _root_.Go.OpenSpec := { _root_.Go.OpenSpec.ofChange s with cond := some uptoSmall }

/-- 'laws.FnExactJoinPlans', WHERE WHAT IT READS IS OF BULK AT MOST 1048576: true; the input reads as it did. -/
def fnExactJoinPlansUptoRow : OpenClaim := { program := "ytppfpdobdoaoiab", sum := "a40ad472c83e55ccc39679b1428c064bd0ef2b4865337dec3c2edaad990ada55", func := "loop.example/g01098/laws.FnExactJoinPlans", spec := "fnExactJoinPlans", apart := false, narrowed := true }
def FnExactJoinPlansUptoSaid : Prop := fnExactJoinPlansUptoRow.holds Try.pinned (OpenSpec.upto fnExactJoinPlansSpec)

/-- 'laws.FnExactPickOutputs', WHERE WHAT IT READS IS OF BULK AT MOST 1048576: true; the input reads as it did. -/
def fnExactPickOutputsUptoRow : OpenClaim := { program := "ytppfpdobdoaoiab", sum := "a40ad472c83e55ccc39679b1428c064bd0ef2b4865337dec3c2edaad990ada55", func := "loop.example/g01098/laws.FnExactPickOutputs", spec := "fnExactPickOutputs", apart := false, narrowed := true }
def FnExactPickOutputsUptoSaid : Prop := fnExactPickOutputsUptoRow.holds Try.pinned (OpenSpec.upto fnExactPickOutputsSpec)

/-- 'laws.FnExactFirstExponents', WHERE WHAT IT READS IS OF BULK AT MOST 1048576: true; the input reads as it did. -/
def fnExactFirstExponentsUptoRow : OpenClaim := { program := "ytppfpdobdoaoiab", sum := "a40ad472c83e55ccc39679b1428c064bd0ef2b4865337dec3c2edaad990ada55", func := "loop.example/g01098/laws.FnExactFirstExponents", spec := "fnExactFirstExponents", apart := false, narrowed := true }
def FnExactFirstExponentsUptoSaid : Prop := fnExactFirstExponentsUptoRow.holds Try.pinned (OpenSpec.upto fnExactFirstExponentsSpec)

/-- 'laws.FnExactReorderSteps', WHERE WHAT IT READS IS OF BULK AT MOST 1048576: true; the input reads as it did. -/
def fnExactReorderStepsUptoRow : OpenClaim := { program := "ytppfpdobdoaoiab", sum := "a40ad472c83e55ccc39679b1428c064bd0ef2b4865337dec3c2edaad990ada55", func := "loop.example/g01098/laws.FnExactReorderSteps", spec := "fnExactReorderSteps", apart := false, narrowed := true }
def FnExactReorderStepsUptoSaid : Prop := fnExactReorderStepsUptoRow.holds Try.pinned (OpenSpec.upto fnExactReorderStepsSpec)

end Rows
end Go.Proofs.Ytppfpdobdoaoiab
