/-
  No cell of these rows narrows 'for every input' (looked for: loops, veiled, ifaces, maps, wideKeys, modest, calm, conditions, laid).
  DERIVED. THE GIVEN ROWS OF THIS SEAT. 16 by the template 'for every input the law returns true; each argument reads behind the call as it read before'; 0 by the template 'total and deterministic' (their statements: YtpopomcaknbhnaaTotals.lean).
  GIVEN WITH THE SEED: the statements are not yours to turn. If you find one false, say at which input.
  Laid BY PROGRAM, IN A SANDBOX (cutbox-rows.mjs): the forced cells as the released guide's own fill.sh prints them over the translation 7bcc85e87a759208… (all of the seat's roots in one cut). By AI agents, Wed Nov 11 2026. No macro, syntax, notation, axiom, sorry.
-/
import Derived.Test.YtpopomcaknbhnaaChecked
import GoSem.Claim
import GoSem.ClaimJoined
import GoSem.ClaimMapViews
import Derived.JoinedTies
import Derived.KernelRfl
namespace Go.Proofs.Ytpopomcaknbhnaa
/- THE CELL 'sum', in the pinned program and in every row, IS THE sha256 OF THE DUMP (.gsa) THAT YtpopomcaknbhnaaProg.lean LOADS. Nothing in Lean hashes anything: it is a label: what it is worth is what the hold of that sum in a sandbox is worth. -/
noncomputable def Try.pinned : Pinned := { name := "ytpopomcaknbhnaa", sum := "7bcc85e87a759208df30e0616a608b5c24258d844c769e03661aba5218bff3b8", checked := Try.checked }
namespace Rows
def none {H : Type} : Left H := { results := [], args := [] }

/-- 'laws.FnExactIsCode': WHATEVER THE INPUT: true; the input reads as it did. -/
def fnExactIsCodeSpec : ChangeSpec := { name := "fnExactIsCode", fn := fun _ => fun
  | [d] => { results := [.lit (.bool true)], args := [d] }
  | _ => none }
def fnExactIsCodeRow : OpenClaim := { program := "ytpopomcaknbhnaa", sum := "7bcc85e87a759208df30e0616a608b5c24258d844c769e03661aba5218bff3b8", func := "loop.example/g01098/laws.FnExactIsCode", spec := "fnExactIsCode", unfollowed := true, recurses := true, apart := false }
def FnExactIsCodeSaid : Prop := fnExactIsCodeRow.holds Try.pinned (OpenSpec.ofChange fnExactIsCodeSpec)

/-- ITS FALSE NEIGHBOUR: 'it returns false'. Refute it at one input. -/
def fnExactIsCodeWrong : ChangeSpec := { name := "fnExactIsCode", fn := fun _ => fun
  | [d] => { results := [.lit (.bool false)], args := [d] }
  | _ => none }
def FnExactIsCodeWrongFalsely : Prop := fnExactIsCodeRow.holds Try.pinned (OpenSpec.ofChange fnExactIsCodeWrong)

/-- 'laws.FnExactRunCode': WHATEVER THE INPUT: true; the input reads as it did. -/
def fnExactRunCodeSpec : ChangeSpec := { name := "fnExactRunCode", fn := fun _ => fun
  | [d1, d2, d3] => { results := [.lit (.bool true)], args := [d1, d2, d3] }
  | _ => none }
def fnExactRunCodeRow : OpenClaim := { program := "ytpopomcaknbhnaa", sum := "7bcc85e87a759208df30e0616a608b5c24258d844c769e03661aba5218bff3b8", func := "loop.example/g01098/laws.FnExactRunCode", spec := "fnExactRunCode", unfollowed := true, recurses := true, apart := false }
def FnExactRunCodeSaid : Prop := fnExactRunCodeRow.holds Try.pinned (OpenSpec.ofChange fnExactRunCodeSpec)

/-- ITS FALSE NEIGHBOUR: 'it returns false'. Refute it at one input. -/
def fnExactRunCodeWrong : ChangeSpec := { name := "fnExactRunCode", fn := fun _ => fun
  | [d1, d2, d3] => { results := [.lit (.bool false)], args := [d1, d2, d3] }
  | _ => none }
def FnExactRunCodeWrongFalsely : Prop := fnExactRunCodeRow.holds Try.pinned (OpenSpec.ofChange fnExactRunCodeWrong)

/-- 'laws.FnExactPolynomialOf': WHATEVER THE INPUT: true; the input reads as it did. -/
def fnExactPolynomialOfSpec : ChangeSpec := { name := "fnExactPolynomialOf", fn := fun _ => fun
  | [d] => { results := [.lit (.bool true)], args := [d] }
  | _ => none }
def fnExactPolynomialOfRow : OpenClaim := { program := "ytpopomcaknbhnaa", sum := "7bcc85e87a759208df30e0616a608b5c24258d844c769e03661aba5218bff3b8", func := "loop.example/g01098/laws.FnExactPolynomialOf", spec := "fnExactPolynomialOf", unfollowed := true, recurses := true, apart := false }
def FnExactPolynomialOfSaid : Prop := fnExactPolynomialOfRow.holds Try.pinned (OpenSpec.ofChange fnExactPolynomialOfSpec)

/-- ITS FALSE NEIGHBOUR: 'it returns false'. Refute it at one input. -/
def fnExactPolynomialOfWrong : ChangeSpec := { name := "fnExactPolynomialOf", fn := fun _ => fun
  | [d] => { results := [.lit (.bool false)], args := [d] }
  | _ => none }
def FnExactPolynomialOfWrongFalsely : Prop := fnExactPolynomialOfRow.holds Try.pinned (OpenSpec.ofChange fnExactPolynomialOfWrong)

/-- 'laws.FnExactCountOps': WHATEVER THE INPUT: true; the input reads as it did. -/
def fnExactCountOpsSpec : ChangeSpec := { name := "fnExactCountOps", fn := fun _ => fun
  | [d] => { results := [.lit (.bool true)], args := [d] }
  | _ => none }
def fnExactCountOpsRow : OpenClaim := { program := "ytpopomcaknbhnaa", sum := "7bcc85e87a759208df30e0616a608b5c24258d844c769e03661aba5218bff3b8", func := "loop.example/g01098/laws.FnExactCountOps", spec := "fnExactCountOps", unfollowed := true, recurses := true, apart := false }
def FnExactCountOpsSaid : Prop := fnExactCountOpsRow.holds Try.pinned (OpenSpec.ofChange fnExactCountOpsSpec)

/-- ITS FALSE NEIGHBOUR: 'it returns false'. Refute it at one input. -/
def fnExactCountOpsWrong : ChangeSpec := { name := "fnExactCountOps", fn := fun _ => fun
  | [d] => { results := [.lit (.bool false)], args := [d] }
  | _ => none }
def FnExactCountOpsWrongFalsely : Prop := fnExactCountOpsRow.holds Try.pinned (OpenSpec.ofChange fnExactCountOpsWrong)

/-- 'laws.FnExactCodeDepth': WHATEVER THE INPUT: true; the input reads as it did. -/
def fnExactCodeDepthSpec : ChangeSpec := { name := "fnExactCodeDepth", fn := fun _ => fun
  | [d] => { results := [.lit (.bool true)], args := [d] }
  | _ => none }
def fnExactCodeDepthRow : OpenClaim := { program := "ytpopomcaknbhnaa", sum := "7bcc85e87a759208df30e0616a608b5c24258d844c769e03661aba5218bff3b8", func := "loop.example/g01098/laws.FnExactCodeDepth", spec := "fnExactCodeDepth", unfollowed := true, recurses := true, apart := false }
def FnExactCodeDepthSaid : Prop := fnExactCodeDepthRow.holds Try.pinned (OpenSpec.ofChange fnExactCodeDepthSpec)

/-- ITS FALSE NEIGHBOUR: 'it returns false'. Refute it at one input. -/
def fnExactCodeDepthWrong : ChangeSpec := { name := "fnExactCodeDepth", fn := fun _ => fun
  | [d] => { results := [.lit (.bool false)], args := [d] }
  | _ => none }
def FnExactCodeDepthWrongFalsely : Prop := fnExactCodeDepthRow.holds Try.pinned (OpenSpec.ofChange fnExactCodeDepthWrong)

/-- 'laws.FnExactTrimCode': WHATEVER THE INPUT: true; the input reads as it did. -/
def fnExactTrimCodeSpec : ChangeSpec := { name := "fnExactTrimCode", fn := fun _ => fun
  | [d] => { results := [.lit (.bool true)], args := [d] }
  | _ => none }
def fnExactTrimCodeRow : OpenClaim := { program := "ytpopomcaknbhnaa", sum := "7bcc85e87a759208df30e0616a608b5c24258d844c769e03661aba5218bff3b8", func := "loop.example/g01098/laws.FnExactTrimCode", spec := "fnExactTrimCode", unfollowed := true, recurses := true, apart := false }
def FnExactTrimCodeSaid : Prop := fnExactTrimCodeRow.holds Try.pinned (OpenSpec.ofChange fnExactTrimCodeSpec)

/-- ITS FALSE NEIGHBOUR: 'it returns false'. Refute it at one input. -/
def fnExactTrimCodeWrong : ChangeSpec := { name := "fnExactTrimCode", fn := fun _ => fun
  | [d] => { results := [.lit (.bool false)], args := [d] }
  | _ => none }
def FnExactTrimCodeWrongFalsely : Prop := fnExactTrimCodeRow.holds Try.pinned (OpenSpec.ofChange fnExactTrimCodeWrong)

/-- 'laws.FnExactHornerCode': WHATEVER THE INPUT: true; the input reads as it did. -/
def fnExactHornerCodeSpec : ChangeSpec := { name := "fnExactHornerCode", fn := fun _ => fun
  | [d] => { results := [.lit (.bool true)], args := [d] }
  | _ => none }
def fnExactHornerCodeRow : OpenClaim := { program := "ytpopomcaknbhnaa", sum := "7bcc85e87a759208df30e0616a608b5c24258d844c769e03661aba5218bff3b8", func := "loop.example/g01098/laws.FnExactHornerCode", spec := "fnExactHornerCode", unfollowed := true, recurses := true, apart := false }
def FnExactHornerCodeSaid : Prop := fnExactHornerCodeRow.holds Try.pinned (OpenSpec.ofChange fnExactHornerCodeSpec)

/-- ITS FALSE NEIGHBOUR: 'it returns false'. Refute it at one input. -/
def fnExactHornerCodeWrong : ChangeSpec := { name := "fnExactHornerCode", fn := fun _ => fun
  | [d] => { results := [.lit (.bool false)], args := [d] }
  | _ => none }
def FnExactHornerCodeWrongFalsely : Prop := fnExactHornerCodeRow.holds Try.pinned (OpenSpec.ofChange fnExactHornerCodeWrong)

/-- 'laws.FnExactPowersCode': WHATEVER THE INPUT: true; the input reads as it did. -/
def fnExactPowersCodeSpec : ChangeSpec := { name := "fnExactPowersCode", fn := fun _ => fun
  | [d] => { results := [.lit (.bool true)], args := [d] }
  | _ => none }
def fnExactPowersCodeRow : OpenClaim := { program := "ytpopomcaknbhnaa", sum := "7bcc85e87a759208df30e0616a608b5c24258d844c769e03661aba5218bff3b8", func := "loop.example/g01098/laws.FnExactPowersCode", spec := "fnExactPowersCode", unfollowed := true, recurses := true, apart := false }
def FnExactPowersCodeSaid : Prop := fnExactPowersCodeRow.holds Try.pinned (OpenSpec.ofChange fnExactPowersCodeSpec)

/-- ITS FALSE NEIGHBOUR: 'it returns false'. Refute it at one input. -/
def fnExactPowersCodeWrong : ChangeSpec := { name := "fnExactPowersCode", fn := fun _ => fun
  | [d] => { results := [.lit (.bool false)], args := [d] }
  | _ => none }
def FnExactPowersCodeWrongFalsely : Prop := fnExactPowersCodeRow.holds Try.pinned (OpenSpec.ofChange fnExactPowersCodeWrong)

/-- 'laws.FnExactEstrinCode': WHATEVER THE INPUT: true; the input reads as it did. -/
def fnExactEstrinCodeSpec : ChangeSpec := { name := "fnExactEstrinCode", fn := fun _ => fun
  | [d] => { results := [.lit (.bool true)], args := [d] }
  | _ => none }
def fnExactEstrinCodeRow : OpenClaim := { program := "ytpopomcaknbhnaa", sum := "7bcc85e87a759208df30e0616a608b5c24258d844c769e03661aba5218bff3b8", func := "loop.example/g01098/laws.FnExactEstrinCode", spec := "fnExactEstrinCode", unfollowed := true, recurses := true, apart := false }
def FnExactEstrinCodeSaid : Prop := fnExactEstrinCodeRow.holds Try.pinned (OpenSpec.ofChange fnExactEstrinCodeSpec)

/-- ITS FALSE NEIGHBOUR: 'it returns false'. Refute it at one input. -/
def fnExactEstrinCodeWrong : ChangeSpec := { name := "fnExactEstrinCode", fn := fun _ => fun
  | [d] => { results := [.lit (.bool false)], args := [d] }
  | _ => none }
def FnExactEstrinCodeWrongFalsely : Prop := fnExactEstrinCodeRow.holds Try.pinned (OpenSpec.ofChange fnExactEstrinCodeWrong)

/-- 'laws.FnExactGiantCode': WHATEVER THE INPUT: true; the input reads as it did. -/
def fnExactGiantCodeSpec : ChangeSpec := { name := "fnExactGiantCode", fn := fun _ => fun
  | [d1, d2] => { results := [.lit (.bool true)], args := [d1, d2] }
  | _ => none }
def fnExactGiantCodeRow : OpenClaim := { program := "ytpopomcaknbhnaa", sum := "7bcc85e87a759208df30e0616a608b5c24258d844c769e03661aba5218bff3b8", func := "loop.example/g01098/laws.FnExactGiantCode", spec := "fnExactGiantCode", unfollowed := true, recurses := true, apart := false }
def FnExactGiantCodeSaid : Prop := fnExactGiantCodeRow.holds Try.pinned (OpenSpec.ofChange fnExactGiantCodeSpec)

/-- ITS FALSE NEIGHBOUR: 'it returns false'. Refute it at one input. -/
def fnExactGiantCodeWrong : ChangeSpec := { name := "fnExactGiantCode", fn := fun _ => fun
  | [d1, d2] => { results := [.lit (.bool false)], args := [d1, d2] }
  | _ => none }
def FnExactGiantCodeWrongFalsely : Prop := fnExactGiantCodeRow.holds Try.pinned (OpenSpec.ofChange fnExactGiantCodeWrong)

/-- 'laws.FnExactGiantProducts': WHATEVER THE INPUT: true; the input reads as it did. -/
def fnExactGiantProductsSpec : ChangeSpec := { name := "fnExactGiantProducts", fn := fun _ => fun
  | [d1, d2] => { results := [.lit (.bool true)], args := [d1, d2] }
  | _ => none }
def fnExactGiantProductsRow : OpenClaim := { program := "ytpopomcaknbhnaa", sum := "7bcc85e87a759208df30e0616a608b5c24258d844c769e03661aba5218bff3b8", func := "loop.example/g01098/laws.FnExactGiantProducts", spec := "fnExactGiantProducts", unfollowed := true, recurses := true, apart := false }
def FnExactGiantProductsSaid : Prop := fnExactGiantProductsRow.holds Try.pinned (OpenSpec.ofChange fnExactGiantProductsSpec)

/-- ITS FALSE NEIGHBOUR: 'it returns false'. Refute it at one input. -/
def fnExactGiantProductsWrong : ChangeSpec := { name := "fnExactGiantProducts", fn := fun _ => fun
  | [d1, d2] => { results := [.lit (.bool false)], args := [d1, d2] }
  | _ => none }
def FnExactGiantProductsWrongFalsely : Prop := fnExactGiantProductsRow.holds Try.pinned (OpenSpec.ofChange fnExactGiantProductsWrong)

/-- 'laws.FnExactBestGiant': WHATEVER THE INPUT: true; the input reads as it did. -/
def fnExactBestGiantSpec : ChangeSpec := { name := "fnExactBestGiant", fn := fun _ => fun
  | [d] => { results := [.lit (.bool true)], args := [d] }
  | _ => none }
def fnExactBestGiantRow : OpenClaim := { program := "ytpopomcaknbhnaa", sum := "7bcc85e87a759208df30e0616a608b5c24258d844c769e03661aba5218bff3b8", func := "loop.example/g01098/laws.FnExactBestGiant", spec := "fnExactBestGiant", unfollowed := true, recurses := true, apart := false }
def FnExactBestGiantSaid : Prop := fnExactBestGiantRow.holds Try.pinned (OpenSpec.ofChange fnExactBestGiantSpec)

/-- ITS FALSE NEIGHBOUR: 'it returns false'. Refute it at one input. -/
def fnExactBestGiantWrong : ChangeSpec := { name := "fnExactBestGiant", fn := fun _ => fun
  | [d] => { results := [.lit (.bool false)], args := [d] }
  | _ => none }
def FnExactBestGiantWrongFalsely : Prop := fnExactBestGiantRow.holds Try.pinned (OpenSpec.ofChange fnExactBestGiantWrong)

/-- 'laws.FnExactValueAt': WHATEVER THE INPUT: true; the input reads as it did. -/
def fnExactValueAtSpec : ChangeSpec := { name := "fnExactValueAt", fn := fun _ => fun
  | [d1, d2, d3] => { results := [.lit (.bool true)], args := [d1, d2, d3] }
  | _ => none }
def fnExactValueAtRow : OpenClaim := { program := "ytpopomcaknbhnaa", sum := "7bcc85e87a759208df30e0616a608b5c24258d844c769e03661aba5218bff3b8", func := "loop.example/g01098/laws.FnExactValueAt", spec := "fnExactValueAt", unfollowed := true, recurses := true, apart := false }
def FnExactValueAtSaid : Prop := fnExactValueAtRow.holds Try.pinned (OpenSpec.ofChange fnExactValueAtSpec)

/-- ITS FALSE NEIGHBOUR: 'it returns false'. Refute it at one input. -/
def fnExactValueAtWrong : ChangeSpec := { name := "fnExactValueAt", fn := fun _ => fun
  | [d1, d2, d3] => { results := [.lit (.bool false)], args := [d1, d2, d3] }
  | _ => none }
def FnExactValueAtWrongFalsely : Prop := fnExactValueAtRow.holds Try.pinned (OpenSpec.ofChange fnExactValueAtWrong)

/-- 'laws.FnExactCodeOfPlan': WHATEVER THE INPUT: true; the input reads as it did. -/
def fnExactCodeOfPlanSpec : ChangeSpec := { name := "fnExactCodeOfPlan", fn := fun _ => fun
  | [d] => { results := [.lit (.bool true)], args := [d] }
  | _ => none }
def fnExactCodeOfPlanRow : OpenClaim := { program := "ytpopomcaknbhnaa", sum := "7bcc85e87a759208df30e0616a608b5c24258d844c769e03661aba5218bff3b8", func := "loop.example/g01098/laws.FnExactCodeOfPlan", spec := "fnExactCodeOfPlan", unfollowed := true, recurses := true, apart := false }
def FnExactCodeOfPlanSaid : Prop := fnExactCodeOfPlanRow.holds Try.pinned (OpenSpec.ofChange fnExactCodeOfPlanSpec)

/-- ITS FALSE NEIGHBOUR: 'it returns false'. Refute it at one input. -/
def fnExactCodeOfPlanWrong : ChangeSpec := { name := "fnExactCodeOfPlan", fn := fun _ => fun
  | [d] => { results := [.lit (.bool false)], args := [d] }
  | _ => none }
def FnExactCodeOfPlanWrongFalsely : Prop := fnExactCodeOfPlanRow.holds Try.pinned (OpenSpec.ofChange fnExactCodeOfPlanWrong)

/-- 'laws.FnExactThenCode': WHATEVER THE INPUT: true; the input reads as it did. -/
def fnExactThenCodeSpec : ChangeSpec := { name := "fnExactThenCode", fn := fun _ => fun
  | [d1, d2] => { results := [.lit (.bool true)], args := [d1, d2] }
  | _ => none }
def fnExactThenCodeRow : OpenClaim := { program := "ytpopomcaknbhnaa", sum := "7bcc85e87a759208df30e0616a608b5c24258d844c769e03661aba5218bff3b8", func := "loop.example/g01098/laws.FnExactThenCode", spec := "fnExactThenCode", unfollowed := true, recurses := true, apart := false }
def FnExactThenCodeSaid : Prop := fnExactThenCodeRow.holds Try.pinned (OpenSpec.ofChange fnExactThenCodeSpec)

/-- ITS FALSE NEIGHBOUR: 'it returns false'. Refute it at one input. -/
def fnExactThenCodeWrong : ChangeSpec := { name := "fnExactThenCode", fn := fun _ => fun
  | [d1, d2] => { results := [.lit (.bool false)], args := [d1, d2] }
  | _ => none }
def FnExactThenCodeWrongFalsely : Prop := fnExactThenCodeRow.holds Try.pinned (OpenSpec.ofChange fnExactThenCodeWrong)

/-- 'laws.FnExactSameCode': WHATEVER THE INPUT: true; the input reads as it did. -/
def fnExactSameCodeSpec : ChangeSpec := { name := "fnExactSameCode", fn := fun _ => fun
  | [d1, d2] => { results := [.lit (.bool true)], args := [d1, d2] }
  | _ => none }
def fnExactSameCodeRow : OpenClaim := { program := "ytpopomcaknbhnaa", sum := "7bcc85e87a759208df30e0616a608b5c24258d844c769e03661aba5218bff3b8", func := "loop.example/g01098/laws.FnExactSameCode", spec := "fnExactSameCode", unfollowed := true, recurses := true, apart := false }
def FnExactSameCodeSaid : Prop := fnExactSameCodeRow.holds Try.pinned (OpenSpec.ofChange fnExactSameCodeSpec)

/-- ITS FALSE NEIGHBOUR: 'it returns false'. Refute it at one input. -/
def fnExactSameCodeWrong : ChangeSpec := { name := "fnExactSameCode", fn := fun _ => fun
  | [d1, d2] => { results := [.lit (.bool false)], args := [d1, d2] }
  | _ => none }
def FnExactSameCodeWrongFalsely : Prop := fnExactSameCodeRow.holds Try.pinned (OpenSpec.ofChange fnExactSameCodeWrong)

/- THE SECOND FORM. 'bulk': how many values and letters a reading holds, each counted each time it is reached (what is shared counts as often as it is met; a slice's spare places count too). A statement '..UptoSaid' is the law's where the arguments, and the package variables that the reading takes, are together of bulk at most 1048576: NARROWER than '..Said'. Prove '..Said' where nothing that the law and all that it calls make is longer than what came in: it says more and counts as full. Else prove '..UptoSaid'. A law counts once. -/
mutual
def uptoBulk {H : Type} : DataW H → Nat
  | .lit (.string bytes) => bytes.length + 1
  | .lit _ => 1
  | .nil => 1
  | .ptr d => uptoBulk d + 1
  | .slice elems spare => uptoBulkAll elems + uptoBulkAll spare + 1
  | .agg parts => uptoBulkAll parts + 1
  | .iface _ d => uptoBulk d + 1
  | .map entries => uptoBulkEntries entries + 1
  | .held _ => 1
def uptoBulkAll {H : Type} : List (DataW H) → Nat
  | [] => 0
  | d :: r => uptoBulk d + uptoBulkAll r
def uptoBulkEntries {H : Type} : List (Lit × DataW H) → Nat
  | [] => 0
  | x :: r => uptoBulkEntry x + uptoBulkEntries r
def uptoBulkEntry {H : Type} : Lit × DataW H → Nat
  | (.string bytes, d) => bytes.length + uptoBulk d + 1
  | (_, d) => uptoBulk d + 1
 end
def uptoSmall : (H : Type) → List (DataW H) → Bool := fun _ ds => decide (uptoBulkAll ds ≤ 1048576)
def OpenSpec.upto (s : _root_.Go.ChangeSpec) : _root_.Go.OpenSpec := { _root_.Go.OpenSpec.ofChange s with cond := some uptoSmall }

/-- 'laws.FnExactIsCode', WHERE WHAT IT READS IS OF BULK AT MOST 1048576: true; the input reads as it did. -/
def fnExactIsCodeUptoRow : OpenClaim := { program := "ytpopomcaknbhnaa", sum := "7bcc85e87a759208df30e0616a608b5c24258d844c769e03661aba5218bff3b8", func := "loop.example/g01098/laws.FnExactIsCode", spec := "fnExactIsCode", unfollowed := true, recurses := true, apart := false, narrowed := true }
def FnExactIsCodeUptoSaid : Prop := fnExactIsCodeUptoRow.holds Try.pinned (OpenSpec.upto fnExactIsCodeSpec)

/-- 'laws.FnExactRunCode', WHERE WHAT IT READS IS OF BULK AT MOST 1048576: true; the input reads as it did. -/
def fnExactRunCodeUptoRow : OpenClaim := { program := "ytpopomcaknbhnaa", sum := "7bcc85e87a759208df30e0616a608b5c24258d844c769e03661aba5218bff3b8", func := "loop.example/g01098/laws.FnExactRunCode", spec := "fnExactRunCode", unfollowed := true, recurses := true, apart := false, narrowed := true }
def FnExactRunCodeUptoSaid : Prop := fnExactRunCodeUptoRow.holds Try.pinned (OpenSpec.upto fnExactRunCodeSpec)

/-- 'laws.FnExactPolynomialOf', WHERE WHAT IT READS IS OF BULK AT MOST 1048576: true; the input reads as it did. -/
def fnExactPolynomialOfUptoRow : OpenClaim := { program := "ytpopomcaknbhnaa", sum := "7bcc85e87a759208df30e0616a608b5c24258d844c769e03661aba5218bff3b8", func := "loop.example/g01098/laws.FnExactPolynomialOf", spec := "fnExactPolynomialOf", unfollowed := true, recurses := true, apart := false, narrowed := true }
def FnExactPolynomialOfUptoSaid : Prop := fnExactPolynomialOfUptoRow.holds Try.pinned (OpenSpec.upto fnExactPolynomialOfSpec)

/-- 'laws.FnExactCountOps', WHERE WHAT IT READS IS OF BULK AT MOST 1048576: true; the input reads as it did. -/
def fnExactCountOpsUptoRow : OpenClaim := { program := "ytpopomcaknbhnaa", sum := "7bcc85e87a759208df30e0616a608b5c24258d844c769e03661aba5218bff3b8", func := "loop.example/g01098/laws.FnExactCountOps", spec := "fnExactCountOps", unfollowed := true, recurses := true, apart := false, narrowed := true }
def FnExactCountOpsUptoSaid : Prop := fnExactCountOpsUptoRow.holds Try.pinned (OpenSpec.upto fnExactCountOpsSpec)

/-- 'laws.FnExactCodeDepth', WHERE WHAT IT READS IS OF BULK AT MOST 1048576: true; the input reads as it did. -/
def fnExactCodeDepthUptoRow : OpenClaim := { program := "ytpopomcaknbhnaa", sum := "7bcc85e87a759208df30e0616a608b5c24258d844c769e03661aba5218bff3b8", func := "loop.example/g01098/laws.FnExactCodeDepth", spec := "fnExactCodeDepth", unfollowed := true, recurses := true, apart := false, narrowed := true }
def FnExactCodeDepthUptoSaid : Prop := fnExactCodeDepthUptoRow.holds Try.pinned (OpenSpec.upto fnExactCodeDepthSpec)

/-- 'laws.FnExactTrimCode', WHERE WHAT IT READS IS OF BULK AT MOST 1048576: true; the input reads as it did. -/
def fnExactTrimCodeUptoRow : OpenClaim := { program := "ytpopomcaknbhnaa", sum := "7bcc85e87a759208df30e0616a608b5c24258d844c769e03661aba5218bff3b8", func := "loop.example/g01098/laws.FnExactTrimCode", spec := "fnExactTrimCode", unfollowed := true, recurses := true, apart := false, narrowed := true }
def FnExactTrimCodeUptoSaid : Prop := fnExactTrimCodeUptoRow.holds Try.pinned (OpenSpec.upto fnExactTrimCodeSpec)

/-- 'laws.FnExactHornerCode', WHERE WHAT IT READS IS OF BULK AT MOST 1048576: true; the input reads as it did. -/
def fnExactHornerCodeUptoRow : OpenClaim := { program := "ytpopomcaknbhnaa", sum := "7bcc85e87a759208df30e0616a608b5c24258d844c769e03661aba5218bff3b8", func := "loop.example/g01098/laws.FnExactHornerCode", spec := "fnExactHornerCode", unfollowed := true, recurses := true, apart := false, narrowed := true }
def FnExactHornerCodeUptoSaid : Prop := fnExactHornerCodeUptoRow.holds Try.pinned (OpenSpec.upto fnExactHornerCodeSpec)

/-- 'laws.FnExactPowersCode', WHERE WHAT IT READS IS OF BULK AT MOST 1048576: true; the input reads as it did. -/
def fnExactPowersCodeUptoRow : OpenClaim := { program := "ytpopomcaknbhnaa", sum := "7bcc85e87a759208df30e0616a608b5c24258d844c769e03661aba5218bff3b8", func := "loop.example/g01098/laws.FnExactPowersCode", spec := "fnExactPowersCode", unfollowed := true, recurses := true, apart := false, narrowed := true }
def FnExactPowersCodeUptoSaid : Prop := fnExactPowersCodeUptoRow.holds Try.pinned (OpenSpec.upto fnExactPowersCodeSpec)

/-- 'laws.FnExactEstrinCode', WHERE WHAT IT READS IS OF BULK AT MOST 1048576: true; the input reads as it did. -/
def fnExactEstrinCodeUptoRow : OpenClaim := { program := "ytpopomcaknbhnaa", sum := "7bcc85e87a759208df30e0616a608b5c24258d844c769e03661aba5218bff3b8", func := "loop.example/g01098/laws.FnExactEstrinCode", spec := "fnExactEstrinCode", unfollowed := true, recurses := true, apart := false, narrowed := true }
def FnExactEstrinCodeUptoSaid : Prop := fnExactEstrinCodeUptoRow.holds Try.pinned (OpenSpec.upto fnExactEstrinCodeSpec)

/-- 'laws.FnExactGiantCode', WHERE WHAT IT READS IS OF BULK AT MOST 1048576: true; the input reads as it did. -/
def fnExactGiantCodeUptoRow : OpenClaim := { program := "ytpopomcaknbhnaa", sum := "7bcc85e87a759208df30e0616a608b5c24258d844c769e03661aba5218bff3b8", func := "loop.example/g01098/laws.FnExactGiantCode", spec := "fnExactGiantCode", unfollowed := true, recurses := true, apart := false, narrowed := true }
def FnExactGiantCodeUptoSaid : Prop := fnExactGiantCodeUptoRow.holds Try.pinned (OpenSpec.upto fnExactGiantCodeSpec)

/-- 'laws.FnExactGiantProducts', WHERE WHAT IT READS IS OF BULK AT MOST 1048576: true; the input reads as it did. -/
def fnExactGiantProductsUptoRow : OpenClaim := { program := "ytpopomcaknbhnaa", sum := "7bcc85e87a759208df30e0616a608b5c24258d844c769e03661aba5218bff3b8", func := "loop.example/g01098/laws.FnExactGiantProducts", spec := "fnExactGiantProducts", unfollowed := true, recurses := true, apart := false, narrowed := true }
def FnExactGiantProductsUptoSaid : Prop := fnExactGiantProductsUptoRow.holds Try.pinned (OpenSpec.upto fnExactGiantProductsSpec)

/-- 'laws.FnExactBestGiant', WHERE WHAT IT READS IS OF BULK AT MOST 1048576: true; the input reads as it did. -/
def fnExactBestGiantUptoRow : OpenClaim := { program := "ytpopomcaknbhnaa", sum := "7bcc85e87a759208df30e0616a608b5c24258d844c769e03661aba5218bff3b8", func := "loop.example/g01098/laws.FnExactBestGiant", spec := "fnExactBestGiant", unfollowed := true, recurses := true, apart := false, narrowed := true }
def FnExactBestGiantUptoSaid : Prop := fnExactBestGiantUptoRow.holds Try.pinned (OpenSpec.upto fnExactBestGiantSpec)

/-- 'laws.FnExactValueAt', WHERE WHAT IT READS IS OF BULK AT MOST 1048576: true; the input reads as it did. -/
def fnExactValueAtUptoRow : OpenClaim := { program := "ytpopomcaknbhnaa", sum := "7bcc85e87a759208df30e0616a608b5c24258d844c769e03661aba5218bff3b8", func := "loop.example/g01098/laws.FnExactValueAt", spec := "fnExactValueAt", unfollowed := true, recurses := true, apart := false, narrowed := true }
def FnExactValueAtUptoSaid : Prop := fnExactValueAtUptoRow.holds Try.pinned (OpenSpec.upto fnExactValueAtSpec)

/-- 'laws.FnExactCodeOfPlan', WHERE WHAT IT READS IS OF BULK AT MOST 1048576: true; the input reads as it did. -/
def fnExactCodeOfPlanUptoRow : OpenClaim := { program := "ytpopomcaknbhnaa", sum := "7bcc85e87a759208df30e0616a608b5c24258d844c769e03661aba5218bff3b8", func := "loop.example/g01098/laws.FnExactCodeOfPlan", spec := "fnExactCodeOfPlan", unfollowed := true, recurses := true, apart := false, narrowed := true }
def FnExactCodeOfPlanUptoSaid : Prop := fnExactCodeOfPlanUptoRow.holds Try.pinned (OpenSpec.upto fnExactCodeOfPlanSpec)

/-- 'laws.FnExactThenCode', WHERE WHAT IT READS IS OF BULK AT MOST 1048576: true; the input reads as it did. -/
def fnExactThenCodeUptoRow : OpenClaim := { program := "ytpopomcaknbhnaa", sum := "7bcc85e87a759208df30e0616a608b5c24258d844c769e03661aba5218bff3b8", func := "loop.example/g01098/laws.FnExactThenCode", spec := "fnExactThenCode", unfollowed := true, recurses := true, apart := false, narrowed := true }
def FnExactThenCodeUptoSaid : Prop := fnExactThenCodeUptoRow.holds Try.pinned (OpenSpec.upto fnExactThenCodeSpec)

/-- 'laws.FnExactSameCode', WHERE WHAT IT READS IS OF BULK AT MOST 1048576: true; the input reads as it did. -/
def fnExactSameCodeUptoRow : OpenClaim := { program := "ytpopomcaknbhnaa", sum := "7bcc85e87a759208df30e0616a608b5c24258d844c769e03661aba5218bff3b8", func := "loop.example/g01098/laws.FnExactSameCode", spec := "fnExactSameCode", unfollowed := true, recurses := true, apart := false, narrowed := true }
def FnExactSameCodeUptoSaid : Prop := fnExactSameCodeUptoRow.holds Try.pinned (OpenSpec.upto fnExactSameCodeSpec)

end Rows
end Go.Proofs.Ytpopomcaknbhnaa
