/-
  No cell of these rows narrows 'for every input' (looked for: loops, veiled, ifaces, maps, wideKeys, modest, calm, conditions, laid).
  DERIVED. THE GIVEN ROWS OF THIS SEAT. 12 by the template 'for every input the law returns true; each argument reads behind the call as it read before'; 0 by the template 'total and deterministic' (their statements: YtbbjgcagkmlngacTotals.lean).
  GIVEN WITH THE SEED: the statements are not yours to turn. If you find one false, say at which input.
  Laid BY PROGRAM, IN A SANDBOX (cutbox-rows.mjs): the forced cells as the released guide's own fill.sh prints them over the translation bcc3492a9806c4bc… (all of the seat's roots in one cut). By AI agents, Wed Nov 11 2026. No macro, syntax, notation, axiom, sorry.
-/
import Derived.Test.YtbbjgcagkmlngacChecked
import GoSem.Claim
import GoSem.ClaimJoined
import GoSem.ClaimMapViews
import Derived.JoinedTies
import Derived.KernelRfl
namespace Go.Proofs.Ytbbjgcagkmlngac
/- THE CELL 'sum', in the pinned program and in every row, IS THE sha256 OF THE DUMP (.gsa) THAT YtbbjgcagkmlngacProg.lean LOADS. Nothing in Lean hashes anything: it is a label: what it is worth is what the hold of that sum in a sandbox is worth. -/
noncomputable def Try.pinned : Pinned := { name := "ytbbjgcagkmlngac", sum := "bcc3492a9806c4bcedf012065d167a3b13b52ee1569cb747fad24f6cf644387f", checked := Try.checked }
namespace Rows
def none {H : Type} : Left H := { results := [], args := [] }

/-- 'laws.FnExactIsChain': WHATEVER THE INPUT: true; the input reads as it did. -/
def fnExactIsChainSpec : ChangeSpec := { name := "fnExactIsChain", fn := fun _ => fun
  | [d] => { results := [.lit (.bool true)], args := [d] }
  | _ => none }
def fnExactIsChainRow : OpenClaim := { program := "ytbbjgcagkmlngac", sum := "bcc3492a9806c4bcedf012065d167a3b13b52ee1569cb747fad24f6cf644387f", func := "loop.example/g01098/laws.FnExactIsChain", spec := "fnExactIsChain", apart := false }
def FnExactIsChainSaid : Prop := fnExactIsChainRow.holds Try.pinned (OpenSpec.ofChange fnExactIsChainSpec)

/-- ITS FALSE NEIGHBOUR: 'it returns false'. Refute it at one input. -/
def fnExactIsChainWrong : ChangeSpec := { name := "fnExactIsChain", fn := fun _ => fun
  | [d] => { results := [.lit (.bool false)], args := [d] }
  | _ => none }
def FnExactIsChainWrongFalsely : Prop := fnExactIsChainRow.holds Try.pinned (OpenSpec.ofChange fnExactIsChainWrong)

/-- 'laws.FnExactChainSteps': WHATEVER THE INPUT: true; the input reads as it did. -/
def fnExactChainStepsSpec : ChangeSpec := { name := "fnExactChainSteps", fn := fun _ => fun
  | [d] => { results := [.lit (.bool true)], args := [d] }
  | _ => none }
def fnExactChainStepsRow : OpenClaim := { program := "ytbbjgcagkmlngac", sum := "bcc3492a9806c4bcedf012065d167a3b13b52ee1569cb747fad24f6cf644387f", func := "loop.example/g01098/laws.FnExactChainSteps", spec := "fnExactChainSteps", apart := false }
def FnExactChainStepsSaid : Prop := fnExactChainStepsRow.holds Try.pinned (OpenSpec.ofChange fnExactChainStepsSpec)

/-- ITS FALSE NEIGHBOUR: 'it returns false'. Refute it at one input. -/
def fnExactChainStepsWrong : ChangeSpec := { name := "fnExactChainSteps", fn := fun _ => fun
  | [d] => { results := [.lit (.bool false)], args := [d] }
  | _ => none }
def FnExactChainStepsWrongFalsely : Prop := fnExactChainStepsRow.holds Try.pinned (OpenSpec.ofChange fnExactChainStepsWrong)

/-- 'laws.FnExactIsStepByStep': WHATEVER THE INPUT: true; the input reads as it did. -/
def fnExactIsStepByStepSpec : ChangeSpec := { name := "fnExactIsStepByStep", fn := fun _ => fun
  | [d] => { results := [.lit (.bool true)], args := [d] }
  | _ => none }
def fnExactIsStepByStepRow : OpenClaim := { program := "ytbbjgcagkmlngac", sum := "bcc3492a9806c4bcedf012065d167a3b13b52ee1569cb747fad24f6cf644387f", func := "loop.example/g01098/laws.FnExactIsStepByStep", spec := "fnExactIsStepByStep", apart := false }
def FnExactIsStepByStepSaid : Prop := fnExactIsStepByStepRow.holds Try.pinned (OpenSpec.ofChange fnExactIsStepByStepSpec)

/-- ITS FALSE NEIGHBOUR: 'it returns false'. Refute it at one input. -/
def fnExactIsStepByStepWrong : ChangeSpec := { name := "fnExactIsStepByStep", fn := fun _ => fun
  | [d] => { results := [.lit (.bool false)], args := [d] }
  | _ => none }
def FnExactIsStepByStepWrongFalsely : Prop := fnExactIsStepByStepRow.holds Try.pinned (OpenSpec.ofChange fnExactIsStepByStepWrong)

/-- 'laws.FnExactCountSums': WHATEVER THE INPUT: true; the input reads as it did. -/
def fnExactCountSumsSpec : ChangeSpec := { name := "fnExactCountSums", fn := fun _ => fun
  | [d] => { results := [.lit (.bool true)], args := [d] }
  | _ => none }
def fnExactCountSumsRow : OpenClaim := { program := "ytbbjgcagkmlngac", sum := "bcc3492a9806c4bcedf012065d167a3b13b52ee1569cb747fad24f6cf644387f", func := "loop.example/g01098/laws.FnExactCountSums", spec := "fnExactCountSums", apart := false }
def FnExactCountSumsSaid : Prop := fnExactCountSumsRow.holds Try.pinned (OpenSpec.ofChange fnExactCountSumsSpec)

/-- ITS FALSE NEIGHBOUR: 'it returns false'. Refute it at one input. -/
def fnExactCountSumsWrong : ChangeSpec := { name := "fnExactCountSums", fn := fun _ => fun
  | [d] => { results := [.lit (.bool false)], args := [d] }
  | _ => none }
def FnExactCountSumsWrongFalsely : Prop := fnExactCountSumsRow.holds Try.pinned (OpenSpec.ofChange fnExactCountSumsWrong)

/-- 'laws.FnExactSmallSteps': WHATEVER THE INPUT: true; the input reads as it did. -/
def fnExactSmallStepsSpec : ChangeSpec := { name := "fnExactSmallSteps", fn := fun _ => fun
  | [d] => { results := [.lit (.bool true)], args := [d] }
  | _ => none }
def fnExactSmallStepsRow : OpenClaim := { program := "ytbbjgcagkmlngac", sum := "bcc3492a9806c4bcedf012065d167a3b13b52ee1569cb747fad24f6cf644387f", func := "loop.example/g01098/laws.FnExactSmallSteps", spec := "fnExactSmallSteps", apart := false }
def FnExactSmallStepsSaid : Prop := fnExactSmallStepsRow.holds Try.pinned (OpenSpec.ofChange fnExactSmallStepsSpec)

/-- ITS FALSE NEIGHBOUR: 'it returns false'. Refute it at one input. -/
def fnExactSmallStepsWrong : ChangeSpec := { name := "fnExactSmallSteps", fn := fun _ => fun
  | [d] => { results := [.lit (.bool false)], args := [d] }
  | _ => none }
def FnExactSmallStepsWrongFalsely : Prop := fnExactSmallStepsRow.holds Try.pinned (OpenSpec.ofChange fnExactSmallStepsWrong)

/-- 'laws.FnExactChainPlan': WHATEVER THE INPUT: true; the input reads as it did. -/
def fnExactChainPlanSpec : ChangeSpec := { name := "fnExactChainPlan", fn := fun _ => fun
  | [d] => { results := [.lit (.bool true)], args := [d] }
  | _ => none }
def fnExactChainPlanRow : OpenClaim := { program := "ytbbjgcagkmlngac", sum := "bcc3492a9806c4bcedf012065d167a3b13b52ee1569cb747fad24f6cf644387f", func := "loop.example/g01098/laws.FnExactChainPlan", spec := "fnExactChainPlan", apart := false }
def FnExactChainPlanSaid : Prop := fnExactChainPlanRow.holds Try.pinned (OpenSpec.ofChange fnExactChainPlanSpec)

/-- ITS FALSE NEIGHBOUR: 'it returns false'. Refute it at one input. -/
def fnExactChainPlanWrong : ChangeSpec := { name := "fnExactChainPlan", fn := fun _ => fun
  | [d] => { results := [.lit (.bool false)], args := [d] }
  | _ => none }
def FnExactChainPlanWrongFalsely : Prop := fnExactChainPlanRow.holds Try.pinned (OpenSpec.ofChange fnExactChainPlanWrong)

/-- 'laws.FnExactExtendChain': WHATEVER THE INPUT: true; the input reads as it did. -/
def fnExactExtendChainSpec : ChangeSpec := { name := "fnExactExtendChain", fn := fun _ => fun
  | [d1, d2] => { results := [.lit (.bool true)], args := [d1, d2] }
  | _ => none }
def fnExactExtendChainRow : OpenClaim := { program := "ytbbjgcagkmlngac", sum := "bcc3492a9806c4bcedf012065d167a3b13b52ee1569cb747fad24f6cf644387f", func := "loop.example/g01098/laws.FnExactExtendChain", spec := "fnExactExtendChain", apart := false }
def FnExactExtendChainSaid : Prop := fnExactExtendChainRow.holds Try.pinned (OpenSpec.ofChange fnExactExtendChainSpec)

/-- ITS FALSE NEIGHBOUR: 'it returns false'. Refute it at one input. -/
def fnExactExtendChainWrong : ChangeSpec := { name := "fnExactExtendChain", fn := fun _ => fun
  | [d1, d2] => { results := [.lit (.bool false)], args := [d1, d2] }
  | _ => none }
def FnExactExtendChainWrongFalsely : Prop := fnExactExtendChainRow.holds Try.pinned (OpenSpec.ofChange fnExactExtendChainWrong)

/-- 'laws.FnExactInsertNumber': WHATEVER THE INPUT: true; the input reads as it did. -/
def fnExactInsertNumberSpec : ChangeSpec := { name := "fnExactInsertNumber", fn := fun _ => fun
  | [d1, d2] => { results := [.lit (.bool true)], args := [d1, d2] }
  | _ => none }
def fnExactInsertNumberRow : OpenClaim := { program := "ytbbjgcagkmlngac", sum := "bcc3492a9806c4bcedf012065d167a3b13b52ee1569cb747fad24f6cf644387f", func := "loop.example/g01098/laws.FnExactInsertNumber", spec := "fnExactInsertNumber", inPlace := ["slices.overlaps[int]"], apart := false }
def FnExactInsertNumberSaid : Prop := fnExactInsertNumberRow.holds Try.pinned (OpenSpec.ofChange fnExactInsertNumberSpec)

/-- ITS FALSE NEIGHBOUR: 'it returns false'. Refute it at one input. -/
def fnExactInsertNumberWrong : ChangeSpec := { name := "fnExactInsertNumber", fn := fun _ => fun
  | [d1, d2] => { results := [.lit (.bool false)], args := [d1, d2] }
  | _ => none }
def FnExactInsertNumberWrongFalsely : Prop := fnExactInsertNumberRow.holds Try.pinned (OpenSpec.ofChange fnExactInsertNumberWrong)

/-- 'laws.FnExactMeetChains': WHATEVER THE INPUT: true; the input reads as it did. -/
def fnExactMeetChainsSpec : ChangeSpec := { name := "fnExactMeetChains", fn := fun _ => fun
  | [d1, d2] => { results := [.lit (.bool true)], args := [d1, d2] }
  | _ => none }
def fnExactMeetChainsRow : OpenClaim := { program := "ytbbjgcagkmlngac", sum := "bcc3492a9806c4bcedf012065d167a3b13b52ee1569cb747fad24f6cf644387f", func := "loop.example/g01098/laws.FnExactMeetChains", spec := "fnExactMeetChains", apart := false }
def FnExactMeetChainsSaid : Prop := fnExactMeetChainsRow.holds Try.pinned (OpenSpec.ofChange fnExactMeetChainsSpec)

/-- ITS FALSE NEIGHBOUR: 'it returns false'. Refute it at one input. -/
def fnExactMeetChainsWrong : ChangeSpec := { name := "fnExactMeetChains", fn := fun _ => fun
  | [d1, d2] => { results := [.lit (.bool false)], args := [d1, d2] }
  | _ => none }
def FnExactMeetChainsWrongFalsely : Prop := fnExactMeetChainsRow.holds Try.pinned (OpenSpec.ofChange fnExactMeetChainsWrong)

/-- 'laws.FnExactUnionChains': WHATEVER THE INPUT: true; the input reads as it did. -/
def fnExactUnionChainsSpec : ChangeSpec := { name := "fnExactUnionChains", fn := fun _ => fun
  | [d1, d2] => { results := [.lit (.bool true)], args := [d1, d2] }
  | _ => none }
def fnExactUnionChainsRow : OpenClaim := { program := "ytbbjgcagkmlngac", sum := "bcc3492a9806c4bcedf012065d167a3b13b52ee1569cb747fad24f6cf644387f", func := "loop.example/g01098/laws.FnExactUnionChains", spec := "fnExactUnionChains", inPlace := ["slices.overlaps[int]"], apart := false }
def FnExactUnionChainsSaid : Prop := fnExactUnionChainsRow.holds Try.pinned (OpenSpec.ofChange fnExactUnionChainsSpec)

/-- ITS FALSE NEIGHBOUR: 'it returns false'. Refute it at one input. -/
def fnExactUnionChainsWrong : ChangeSpec := { name := "fnExactUnionChains", fn := fun _ => fun
  | [d1, d2] => { results := [.lit (.bool false)], args := [d1, d2] }
  | _ => none }
def FnExactUnionChainsWrongFalsely : Prop := fnExactUnionChainsRow.holds Try.pinned (OpenSpec.ofChange fnExactUnionChainsWrong)

/-- 'laws.FnExactNeededPart': WHATEVER THE INPUT: true; the input reads as it did. -/
def fnExactNeededPartSpec : ChangeSpec := { name := "fnExactNeededPart", fn := fun _ => fun
  | [d] => { results := [.lit (.bool true)], args := [d] }
  | _ => none }
def fnExactNeededPartRow : OpenClaim := { program := "ytbbjgcagkmlngac", sum := "bcc3492a9806c4bcedf012065d167a3b13b52ee1569cb747fad24f6cf644387f", func := "loop.example/g01098/laws.FnExactNeededPart", spec := "fnExactNeededPart", inPlace := ["slices.overlaps[int]"], apart := false }
def FnExactNeededPartSaid : Prop := fnExactNeededPartRow.holds Try.pinned (OpenSpec.ofChange fnExactNeededPartSpec)

/-- ITS FALSE NEIGHBOUR: 'it returns false'. Refute it at one input. -/
def fnExactNeededPartWrong : ChangeSpec := { name := "fnExactNeededPart", fn := fun _ => fun
  | [d] => { results := [.lit (.bool false)], args := [d] }
  | _ => none }
def FnExactNeededPartWrongFalsely : Prop := fnExactNeededPartRow.holds Try.pinned (OpenSpec.ofChange fnExactNeededPartWrong)

/-- 'laws.FnExactSequencePlan': WHATEVER THE INPUT: true; the input reads as it did. -/
def fnExactSequencePlanSpec : ChangeSpec := { name := "fnExactSequencePlan", fn := fun _ => fun
  | [d1, d2] => { results := [.lit (.bool true)], args := [d1, d2] }
  | _ => none }
def fnExactSequencePlanRow : OpenClaim := { program := "ytbbjgcagkmlngac", sum := "bcc3492a9806c4bcedf012065d167a3b13b52ee1569cb747fad24f6cf644387f", func := "loop.example/g01098/laws.FnExactSequencePlan", spec := "fnExactSequencePlan", apart := false }
def FnExactSequencePlanSaid : Prop := fnExactSequencePlanRow.holds Try.pinned (OpenSpec.ofChange fnExactSequencePlanSpec)

/-- ITS FALSE NEIGHBOUR: 'it returns false'. Refute it at one input. -/
def fnExactSequencePlanWrong : ChangeSpec := { name := "fnExactSequencePlan", fn := fun _ => fun
  | [d1, d2] => { results := [.lit (.bool false)], args := [d1, d2] }
  | _ => none }
def FnExactSequencePlanWrongFalsely : Prop := fnExactSequencePlanRow.holds Try.pinned (OpenSpec.ofChange fnExactSequencePlanWrong)

/- THE SECOND FORM. 'bulk': how many values and letters a reading holds, each counted each time it is reached (what is shared counts as often as it is met; a slice's spare places count too). A statement '..UptoSaid' is the law's where the arguments, and the package variables that the reading takes, are together of bulk at most 1048576: NARROWER than '..Said'. Prove '..Said' where nothing that the law and all that it calls make is longer than what came in: it says more and counts as full. Else prove '..UptoSaid'. A law counts once. -/
mutual
def uptoBulk {H : Type} : DataW H → Nat
  | .lit (.string bytes) => bytes.length + 1
  | .lit _ => 1
  | .nil => 1
  | .ptr d => uptoBulk d + 1
  | .slice elems spare => uptoBulkAll elems + uptoBulkAll spare + 1
  | .agg parts => uptoBulkAll parts + 1
  | .iface _ d => uptoBulk d + 1
  | .map entries => uptoBulkEntries entries + 1
  | .held _ => 1
def uptoBulkAll {H : Type} : List (DataW H) → Nat
  | [] => 0
  | d :: r => uptoBulk d + uptoBulkAll r
def uptoBulkEntries {H : Type} : List (Lit × DataW H) → Nat
  | [] => 0
  | x :: r => uptoBulkEntry x + uptoBulkEntries r
def uptoBulkEntry {H : Type} : Lit × DataW H → Nat
  | (.string bytes, d) => bytes.length + uptoBulk d + 1
  | (_, d) => uptoBulk d + 1
 end
def uptoSmall : (H : Type) → List (DataW H) → Bool := fun _ ds => decide (uptoBulkAll ds ≤ 1048576)
def OpenSpec.upto (s : _root_.Go.ChangeSpec) : _root_.Go.OpenSpec := { _root_.Go.OpenSpec.ofChange s with cond := some uptoSmall }

/-- 'laws.FnExactIsChain', WHERE WHAT IT READS IS OF BULK AT MOST 1048576: true; the input reads as it did. -/
def fnExactIsChainUptoRow : OpenClaim := { program := "ytbbjgcagkmlngac", sum := "bcc3492a9806c4bcedf012065d167a3b13b52ee1569cb747fad24f6cf644387f", func := "loop.example/g01098/laws.FnExactIsChain", spec := "fnExactIsChain", apart := false, narrowed := true }
def FnExactIsChainUptoSaid : Prop := fnExactIsChainUptoRow.holds Try.pinned (OpenSpec.upto fnExactIsChainSpec)

/-- 'laws.FnExactChainSteps', WHERE WHAT IT READS IS OF BULK AT MOST 1048576: true; the input reads as it did. -/
def fnExactChainStepsUptoRow : OpenClaim := { program := "ytbbjgcagkmlngac", sum := "bcc3492a9806c4bcedf012065d167a3b13b52ee1569cb747fad24f6cf644387f", func := "loop.example/g01098/laws.FnExactChainSteps", spec := "fnExactChainSteps", apart := false, narrowed := true }
def FnExactChainStepsUptoSaid : Prop := fnExactChainStepsUptoRow.holds Try.pinned (OpenSpec.upto fnExactChainStepsSpec)

/-- 'laws.FnExactIsStepByStep', WHERE WHAT IT READS IS OF BULK AT MOST 1048576: true; the input reads as it did. -/
def fnExactIsStepByStepUptoRow : OpenClaim := { program := "ytbbjgcagkmlngac", sum := "bcc3492a9806c4bcedf012065d167a3b13b52ee1569cb747fad24f6cf644387f", func := "loop.example/g01098/laws.FnExactIsStepByStep", spec := "fnExactIsStepByStep", apart := false, narrowed := true }
def FnExactIsStepByStepUptoSaid : Prop := fnExactIsStepByStepUptoRow.holds Try.pinned (OpenSpec.upto fnExactIsStepByStepSpec)

/-- 'laws.FnExactCountSums', WHERE WHAT IT READS IS OF BULK AT MOST 1048576: true; the input reads as it did. -/
def fnExactCountSumsUptoRow : OpenClaim := { program := "ytbbjgcagkmlngac", sum := "bcc3492a9806c4bcedf012065d167a3b13b52ee1569cb747fad24f6cf644387f", func := "loop.example/g01098/laws.FnExactCountSums", spec := "fnExactCountSums", apart := false, narrowed := true }
def FnExactCountSumsUptoSaid : Prop := fnExactCountSumsUptoRow.holds Try.pinned (OpenSpec.upto fnExactCountSumsSpec)

/-- 'laws.FnExactSmallSteps', WHERE WHAT IT READS IS OF BULK AT MOST 1048576: true; the input reads as it did. -/
def fnExactSmallStepsUptoRow : OpenClaim := { program := "ytbbjgcagkmlngac", sum := "bcc3492a9806c4bcedf012065d167a3b13b52ee1569cb747fad24f6cf644387f", func := "loop.example/g01098/laws.FnExactSmallSteps", spec := "fnExactSmallSteps", apart := false, narrowed := true }
def FnExactSmallStepsUptoSaid : Prop := fnExactSmallStepsUptoRow.holds Try.pinned (OpenSpec.upto fnExactSmallStepsSpec)

/-- 'laws.FnExactChainPlan', WHERE WHAT IT READS IS OF BULK AT MOST 1048576: true; the input reads as it did. -/
def fnExactChainPlanUptoRow : OpenClaim := { program := "ytbbjgcagkmlngac", sum := "bcc3492a9806c4bcedf012065d167a3b13b52ee1569cb747fad24f6cf644387f", func := "loop.example/g01098/laws.FnExactChainPlan", spec := "fnExactChainPlan", apart := false, narrowed := true }
def FnExactChainPlanUptoSaid : Prop := fnExactChainPlanUptoRow.holds Try.pinned (OpenSpec.upto fnExactChainPlanSpec)

/-- 'laws.FnExactExtendChain', WHERE WHAT IT READS IS OF BULK AT MOST 1048576: true; the input reads as it did. -/
def fnExactExtendChainUptoRow : OpenClaim := { program := "ytbbjgcagkmlngac", sum := "bcc3492a9806c4bcedf012065d167a3b13b52ee1569cb747fad24f6cf644387f", func := "loop.example/g01098/laws.FnExactExtendChain", spec := "fnExactExtendChain", apart := false, narrowed := true }
def FnExactExtendChainUptoSaid : Prop := fnExactExtendChainUptoRow.holds Try.pinned (OpenSpec.upto fnExactExtendChainSpec)

/-- 'laws.FnExactInsertNumber', WHERE WHAT IT READS IS OF BULK AT MOST 1048576: true; the input reads as it did. -/
def fnExactInsertNumberUptoRow : OpenClaim := { program := "ytbbjgcagkmlngac", sum := "bcc3492a9806c4bcedf012065d167a3b13b52ee1569cb747fad24f6cf644387f", func := "loop.example/g01098/laws.FnExactInsertNumber", spec := "fnExactInsertNumber", inPlace := ["slices.overlaps[int]"], apart := false, narrowed := true }
def FnExactInsertNumberUptoSaid : Prop := fnExactInsertNumberUptoRow.holds Try.pinned (OpenSpec.upto fnExactInsertNumberSpec)

/-- 'laws.FnExactMeetChains', WHERE WHAT IT READS IS OF BULK AT MOST 1048576: true; the input reads as it did. -/
def fnExactMeetChainsUptoRow : OpenClaim := { program := "ytbbjgcagkmlngac", sum := "bcc3492a9806c4bcedf012065d167a3b13b52ee1569cb747fad24f6cf644387f", func := "loop.example/g01098/laws.FnExactMeetChains", spec := "fnExactMeetChains", apart := false, narrowed := true }
def FnExactMeetChainsUptoSaid : Prop := fnExactMeetChainsUptoRow.holds Try.pinned (OpenSpec.upto fnExactMeetChainsSpec)

/-- 'laws.FnExactUnionChains', WHERE WHAT IT READS IS OF BULK AT MOST 1048576: true; the input reads as it did. -/
def fnExactUnionChainsUptoRow : OpenClaim := { program := "ytbbjgcagkmlngac", sum := "bcc3492a9806c4bcedf012065d167a3b13b52ee1569cb747fad24f6cf644387f", func := "loop.example/g01098/laws.FnExactUnionChains", spec := "fnExactUnionChains", inPlace := ["slices.overlaps[int]"], apart := false, narrowed := true }
def FnExactUnionChainsUptoSaid : Prop := fnExactUnionChainsUptoRow.holds Try.pinned (OpenSpec.upto fnExactUnionChainsSpec)

/-- 'laws.FnExactNeededPart', WHERE WHAT IT READS IS OF BULK AT MOST 1048576: true; the input reads as it did. -/
def fnExactNeededPartUptoRow : OpenClaim := { program := "ytbbjgcagkmlngac", sum := "bcc3492a9806c4bcedf012065d167a3b13b52ee1569cb747fad24f6cf644387f", func := "loop.example/g01098/laws.FnExactNeededPart", spec := "fnExactNeededPart", inPlace := ["slices.overlaps[int]"], apart := false, narrowed := true }
def FnExactNeededPartUptoSaid : Prop := fnExactNeededPartUptoRow.holds Try.pinned (OpenSpec.upto fnExactNeededPartSpec)

/-- 'laws.FnExactSequencePlan', WHERE WHAT IT READS IS OF BULK AT MOST 1048576: true; the input reads as it did. -/
def fnExactSequencePlanUptoRow : OpenClaim := { program := "ytbbjgcagkmlngac", sum := "bcc3492a9806c4bcedf012065d167a3b13b52ee1569cb747fad24f6cf644387f", func := "loop.example/g01098/laws.FnExactSequencePlan", spec := "fnExactSequencePlan", apart := false, narrowed := true }
def FnExactSequencePlanUptoSaid : Prop := fnExactSequencePlanUptoRow.holds Try.pinned (OpenSpec.upto fnExactSequencePlanSpec)

end Rows
end Go.Proofs.Ytbbjgcagkmlngac
