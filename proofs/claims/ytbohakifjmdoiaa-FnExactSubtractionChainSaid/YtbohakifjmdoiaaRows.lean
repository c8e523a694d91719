/-
  No cell of these rows narrows 'for every input' (looked for: loops, veiled, ifaces, maps, wideKeys, modest, calm, conditions, laid).
  DERIVED. THE GIVEN ROWS OF THIS SEAT. 12 by the template 'for every input the law returns true; each argument reads behind the call as it read before'; 0 by the template 'total and deterministic' (their statements: YtbohakifjmdoiaaTotals.lean).
  GIVEN WITH THE SEED: the statements are not yours to turn. If you find one false, say at which input.
  Laid BY PROGRAM, IN A SANDBOX (cutbox-rows.mjs): the forced cells as the released guide's own fill.sh prints them over the translation 6a7cad5df81a50e8… (all of the seat's roots in one cut). By AI agents, Wed Nov 11 2026. No macro, syntax, notation, axiom, sorry.
-/
import Derived.Test.YtbohakifjmdoiaaChecked
import GoSem.Claim
import GoSem.ClaimJoined
import GoSem.ClaimMapViews
import Derived.JoinedTies
import Derived.KernelRfl
namespace Go.Proofs.Ytbohakifjmdoiaa
/- THE CELL 'sum', in the pinned program and in every row, IS THE sha256 OF THE DUMP (.gsa) THAT YtbohakifjmdoiaaProg.lean LOADS. Nothing in Lean hashes anything: it is a label: what it is worth is what the hold of that sum in a sandbox is worth. -/
noncomputable def Try.pinned : Pinned := { name := "ytbohakifjmdoiaa", sum := "6a7cad5df81a50e85219c6a0f05c735c741e7256d0ed36291a058467903037c2", checked := Try.checked }
namespace Rows
def none {H : Type} : Left H := { results := [], args := [] }

/-- 'laws.FnExactWindowDigits': WHATEVER THE INPUT: true; the input reads as it did. -/
def fnExactWindowDigitsSpec : ChangeSpec := { name := "fnExactWindowDigits", fn := fun _ => fun
  | [d1, d2] => { results := [.lit (.bool true)], args := [d1, d2] }
  | _ => none }
def fnExactWindowDigitsRow : OpenClaim := { program := "ytbohakifjmdoiaa", sum := "6a7cad5df81a50e85219c6a0f05c735c741e7256d0ed36291a058467903037c2", func := "loop.example/g01098/laws.FnExactWindowDigits", spec := "fnExactWindowDigits", apart := false }
def FnExactWindowDigitsSaid : Prop := fnExactWindowDigitsRow.holds Try.pinned (OpenSpec.ofChange fnExactWindowDigitsSpec)

/-- ITS FALSE NEIGHBOUR: 'it returns false'. Refute it at one input. -/
def fnExactWindowDigitsWrong : ChangeSpec := { name := "fnExactWindowDigits", fn := fun _ => fun
  | [d1, d2] => { results := [.lit (.bool false)], args := [d1, d2] }
  | _ => none }
def FnExactWindowDigitsWrongFalsely : Prop := fnExactWindowDigitsRow.holds Try.pinned (OpenSpec.ofChange fnExactWindowDigitsWrong)

/-- 'laws.FnExactSignedDigits': WHATEVER THE INPUT: true; the input reads as it did. -/
def fnExactSignedDigitsSpec : ChangeSpec := { name := "fnExactSignedDigits", fn := fun _ => fun
  | [d] => { results := [.lit (.bool true)], args := [d] }
  | _ => none }
def fnExactSignedDigitsRow : OpenClaim := { program := "ytbohakifjmdoiaa", sum := "6a7cad5df81a50e85219c6a0f05c735c741e7256d0ed36291a058467903037c2", func := "loop.example/g01098/laws.FnExactSignedDigits", spec := "fnExactSignedDigits", apart := false }
def FnExactSignedDigitsSaid : Prop := fnExactSignedDigitsRow.holds Try.pinned (OpenSpec.ofChange fnExactSignedDigitsSpec)

/-- ITS FALSE NEIGHBOUR: 'it returns false'. Refute it at one input. -/
def fnExactSignedDigitsWrong : ChangeSpec := { name := "fnExactSignedDigits", fn := fun _ => fun
  | [d] => { results := [.lit (.bool false)], args := [d] }
  | _ => none }
def FnExactSignedDigitsWrongFalsely : Prop := fnExactSignedDigitsRow.holds Try.pinned (OpenSpec.ofChange fnExactSignedDigitsWrong)

/-- 'laws.FnExactFromSigned': WHATEVER THE INPUT: true; the input reads as it did. -/
def fnExactFromSignedSpec : ChangeSpec := { name := "fnExactFromSigned", fn := fun _ => fun
  | [d] => { results := [.lit (.bool true)], args := [d] }
  | _ => none }
def fnExactFromSignedRow : OpenClaim := { program := "ytbohakifjmdoiaa", sum := "6a7cad5df81a50e85219c6a0f05c735c741e7256d0ed36291a058467903037c2", func := "loop.example/g01098/laws.FnExactFromSigned", spec := "fnExactFromSigned", unfollowed := true, recurses := true, apart := false }
def FnExactFromSignedSaid : Prop := fnExactFromSignedRow.holds Try.pinned (OpenSpec.ofChange fnExactFromSignedSpec)

/-- ITS FALSE NEIGHBOUR: 'it returns false'. Refute it at one input. -/
def fnExactFromSignedWrong : ChangeSpec := { name := "fnExactFromSigned", fn := fun _ => fun
  | [d] => { results := [.lit (.bool false)], args := [d] }
  | _ => none }
def FnExactFromSignedWrongFalsely : Prop := fnExactFromSignedRow.holds Try.pinned (OpenSpec.ofChange fnExactFromSignedWrong)

/-- 'laws.FnExactWeightOf': WHATEVER THE INPUT: true; the input reads as it did. -/
def fnExactWeightOfSpec : ChangeSpec := { name := "fnExactWeightOf", fn := fun _ => fun
  | [d] => { results := [.lit (.bool true)], args := [d] }
  | _ => none }
def fnExactWeightOfRow : OpenClaim := { program := "ytbohakifjmdoiaa", sum := "6a7cad5df81a50e85219c6a0f05c735c741e7256d0ed36291a058467903037c2", func := "loop.example/g01098/laws.FnExactWeightOf", spec := "fnExactWeightOf", unfollowed := true, recurses := true, apart := false }
def FnExactWeightOfSaid : Prop := fnExactWeightOfRow.holds Try.pinned (OpenSpec.ofChange fnExactWeightOfSpec)

/-- ITS FALSE NEIGHBOUR: 'it returns false'. Refute it at one input. -/
def fnExactWeightOfWrong : ChangeSpec := { name := "fnExactWeightOf", fn := fun _ => fun
  | [d] => { results := [.lit (.bool false)], args := [d] }
  | _ => none }
def FnExactWeightOfWrongFalsely : Prop := fnExactWeightOfRow.holds Try.pinned (OpenSpec.ofChange fnExactWeightOfWrong)

/-- 'laws.FnExactIsSparseForm': WHATEVER THE INPUT: true; the input reads as it did. -/
def fnExactIsSparseFormSpec : ChangeSpec := { name := "fnExactIsSparseForm", fn := fun _ => fun
  | [d] => { results := [.lit (.bool true)], args := [d] }
  | _ => none }
def fnExactIsSparseFormRow : OpenClaim := { program := "ytbohakifjmdoiaa", sum := "6a7cad5df81a50e85219c6a0f05c735c741e7256d0ed36291a058467903037c2", func := "loop.example/g01098/laws.FnExactIsSparseForm", spec := "fnExactIsSparseForm", unfollowed := true, recurses := true, apart := false }
def FnExactIsSparseFormSaid : Prop := fnExactIsSparseFormRow.holds Try.pinned (OpenSpec.ofChange fnExactIsSparseFormSpec)

/-- ITS FALSE NEIGHBOUR: 'it returns false'. Refute it at one input. -/
def fnExactIsSparseFormWrong : ChangeSpec := { name := "fnExactIsSparseForm", fn := fun _ => fun
  | [d] => { results := [.lit (.bool false)], args := [d] }
  | _ => none }
def FnExactIsSparseFormWrongFalsely : Prop := fnExactIsSparseFormRow.holds Try.pinned (OpenSpec.ofChange fnExactIsSparseFormWrong)

/-- 'laws.FnExactFromWindow': WHATEVER THE INPUT: true; the input reads as it did. -/
def fnExactFromWindowSpec : ChangeSpec := { name := "fnExactFromWindow", fn := fun _ => fun
  | [d1, d2] => { results := [.lit (.bool true)], args := [d1, d2] }
  | _ => none }
def fnExactFromWindowRow : OpenClaim := { program := "ytbohakifjmdoiaa", sum := "6a7cad5df81a50e85219c6a0f05c735c741e7256d0ed36291a058467903037c2", func := "loop.example/g01098/laws.FnExactFromWindow", spec := "fnExactFromWindow", unfollowed := true, recurses := true, apart := false }
def FnExactFromWindowSaid : Prop := fnExactFromWindowRow.holds Try.pinned (OpenSpec.ofChange fnExactFromWindowSpec)

/-- ITS FALSE NEIGHBOUR: 'it returns false'. Refute it at one input. -/
def fnExactFromWindowWrong : ChangeSpec := { name := "fnExactFromWindow", fn := fun _ => fun
  | [d1, d2] => { results := [.lit (.bool false)], args := [d1, d2] }
  | _ => none }
def FnExactFromWindowWrongFalsely : Prop := fnExactFromWindowRow.holds Try.pinned (OpenSpec.ofChange fnExactFromWindowWrong)

/-- 'laws.FnExactSubtractionChain': WHATEVER THE INPUT: true; the input reads as it did. -/
def fnExactSubtractionChainSpec : ChangeSpec := { name := "fnExactSubtractionChain", fn := fun _ => fun
  | [d] => { results := [.lit (.bool true)], args := [d] }
  | _ => none }
def fnExactSubtractionChainRow : OpenClaim := { program := "ytbohakifjmdoiaa", sum := "6a7cad5df81a50e85219c6a0f05c735c741e7256d0ed36291a058467903037c2", func := "loop.example/g01098/laws.FnExactSubtractionChain", spec := "fnExactSubtractionChain", unfollowed := true, recurses := true, apart := false }
def FnExactSubtractionChainSaid : Prop := fnExactSubtractionChainRow.holds Try.pinned (OpenSpec.ofChange fnExactSubtractionChainSpec)

/-- ITS FALSE NEIGHBOUR: 'it returns false'. Refute it at one input. -/
def fnExactSubtractionChainWrong : ChangeSpec := { name := "fnExactSubtractionChain", fn := fun _ => fun
  | [d] => { results := [.lit (.bool false)], args := [d] }
  | _ => none }
def FnExactSubtractionChainWrongFalsely : Prop := fnExactSubtractionChainRow.holds Try.pinned (OpenSpec.ofChange fnExactSubtractionChainWrong)

/-- 'laws.FnExactIsSubtractionChain': WHATEVER THE INPUT: true; the input reads as it did. -/
def fnExactIsSubtractionChainSpec : ChangeSpec := { name := "fnExactIsSubtractionChain", fn := fun _ => fun
  | [d] => { results := [.lit (.bool true)], args := [d] }
  | _ => none }
def fnExactIsSubtractionChainRow : OpenClaim := { program := "ytbohakifjmdoiaa", sum := "6a7cad5df81a50e85219c6a0f05c735c741e7256d0ed36291a058467903037c2", func := "loop.example/g01098/laws.FnExactIsSubtractionChain", spec := "fnExactIsSubtractionChain", unfollowed := true, recurses := true, apart := false }
def FnExactIsSubtractionChainSaid : Prop := fnExactIsSubtractionChainRow.holds Try.pinned (OpenSpec.ofChange fnExactIsSubtractionChainSpec)

/-- ITS FALSE NEIGHBOUR: 'it returns false'. Refute it at one input. -/
def fnExactIsSubtractionChainWrong : ChangeSpec := { name := "fnExactIsSubtractionChain", fn := fun _ => fun
  | [d] => { results := [.lit (.bool false)], args := [d] }
  | _ => none }
def FnExactIsSubtractionChainWrongFalsely : Prop := fnExactIsSubtractionChainRow.holds Try.pinned (OpenSpec.ofChange fnExactIsSubtractionChainWrong)

/-- 'laws.FnExactOneAdder': WHATEVER THE INPUT: true; the input reads as it did. -/
def fnExactOneAdderSpec : ChangeSpec := { name := "fnExactOneAdder", fn := fun _ => fun
  | [d] => { results := [.lit (.bool true)], args := [d] }
  | _ => none }
def fnExactOneAdderRow : OpenClaim := { program := "ytbohakifjmdoiaa", sum := "6a7cad5df81a50e85219c6a0f05c735c741e7256d0ed36291a058467903037c2", func := "loop.example/g01098/laws.FnExactOneAdder", spec := "fnExactOneAdder", apart := false }
def FnExactOneAdderSaid : Prop := fnExactOneAdderRow.holds Try.pinned (OpenSpec.ofChange fnExactOneAdderSpec)

/-- ITS FALSE NEIGHBOUR: 'it returns false'. Refute it at one input. -/
def fnExactOneAdderWrong : ChangeSpec := { name := "fnExactOneAdder", fn := fun _ => fun
  | [d] => { results := [.lit (.bool false)], args := [d] }
  | _ => none }
def FnExactOneAdderWrongFalsely : Prop := fnExactOneAdderRow.holds Try.pinned (OpenSpec.ofChange fnExactOneAdderWrong)

/-- 'laws.FnExactIsAdders': WHATEVER THE INPUT: true; the input reads as it did. -/
def fnExactIsAddersSpec : ChangeSpec := { name := "fnExactIsAdders", fn := fun _ => fun
  | [d] => { results := [.lit (.bool true)], args := [d] }
  | _ => none }
def fnExactIsAddersRow : OpenClaim := { program := "ytbohakifjmdoiaa", sum := "6a7cad5df81a50e85219c6a0f05c735c741e7256d0ed36291a058467903037c2", func := "loop.example/g01098/laws.FnExactIsAdders", spec := "fnExactIsAdders", apart := false }
def FnExactIsAddersSaid : Prop := fnExactIsAddersRow.holds Try.pinned (OpenSpec.ofChange fnExactIsAddersSpec)

/-- ITS FALSE NEIGHBOUR: 'it returns false'. Refute it at one input. -/
def fnExactIsAddersWrong : ChangeSpec := { name := "fnExactIsAdders", fn := fun _ => fun
  | [d] => { results := [.lit (.bool false)], args := [d] }
  | _ => none }
def FnExactIsAddersWrongFalsely : Prop := fnExactIsAddersRow.holds Try.pinned (OpenSpec.ofChange fnExactIsAddersWrong)

/-- 'laws.FnExactRunAdders': WHATEVER THE INPUT: true; the input reads as it did. -/
def fnExactRunAddersSpec : ChangeSpec := { name := "fnExactRunAdders", fn := fun _ => fun
  | [d1, d2] => { results := [.lit (.bool true)], args := [d1, d2] }
  | _ => none }
def fnExactRunAddersRow : OpenClaim := { program := "ytbohakifjmdoiaa", sum := "6a7cad5df81a50e85219c6a0f05c735c741e7256d0ed36291a058467903037c2", func := "loop.example/g01098/laws.FnExactRunAdders", spec := "fnExactRunAdders", apart := false }
def FnExactRunAddersSaid : Prop := fnExactRunAddersRow.holds Try.pinned (OpenSpec.ofChange fnExactRunAddersSpec)

/-- ITS FALSE NEIGHBOUR: 'it returns false'. Refute it at one input. -/
def fnExactRunAddersWrong : ChangeSpec := { name := "fnExactRunAdders", fn := fun _ => fun
  | [d1, d2] => { results := [.lit (.bool false)], args := [d1, d2] }
  | _ => none }
def FnExactRunAddersWrongFalsely : Prop := fnExactRunAddersRow.holds Try.pinned (OpenSpec.ofChange fnExactRunAddersWrong)

/-- 'laws.FnExactAddersOf': WHATEVER THE INPUT: true; the input reads as it did. -/
def fnExactAddersOfSpec : ChangeSpec := { name := "fnExactAddersOf", fn := fun _ => fun
  | [d] => { results := [.lit (.bool true)], args := [d] }
  | _ => none }
def fnExactAddersOfRow : OpenClaim := { program := "ytbohakifjmdoiaa", sum := "6a7cad5df81a50e85219c6a0f05c735c741e7256d0ed36291a058467903037c2", func := "loop.example/g01098/laws.FnExactAddersOf", spec := "fnExactAddersOf", unfollowed := true, recurses := true, apart := false }
def FnExactAddersOfSaid : Prop := fnExactAddersOfRow.holds Try.pinned (OpenSpec.ofChange fnExactAddersOfSpec)

/-- ITS FALSE NEIGHBOUR: 'it returns false'. Refute it at one input. -/
def fnExactAddersOfWrong : ChangeSpec := { name := "fnExactAddersOf", fn := fun _ => fun
  | [d] => { results := [.lit (.bool false)], args := [d] }
  | _ => none }
def FnExactAddersOfWrongFalsely : Prop := fnExactAddersOfRow.holds Try.pinned (OpenSpec.ofChange fnExactAddersOfWrong)

/- THE SECOND FORM. 'bulk': how many values and letters a reading holds, each counted each time it is reached (what is shared counts as often as it is met; a slice's spare places count too). A statement '..UptoSaid' is the law's where the arguments, and the package variables that the reading takes, are together of bulk at most 1048576: NARROWER than '..Said'. Prove '..Said' where nothing that the law and all that it calls make is longer than what came in: it says more and counts as full. Else prove '..UptoSaid'. A law counts once. -/
mutual
def uptoBulk {H : Type} : DataW H → Nat
  | .lit (.string bytes) => bytes.length + 1
  | .lit _ => 1
  | .nil => 1
  | .ptr d => uptoBulk d + 1
  | .slice elems spare => uptoBulkAll elems + uptoBulkAll spare + 1
  | .agg parts => uptoBulkAll parts + 1
  | .iface _ d => uptoBulk d + 1
  | .map entries => uptoBulkEntries entries + 1
  | .held _ => 1
def uptoBulkAll {H : Type} : List (DataW H) → Nat
  | [] => 0
  | d :: r => uptoBulk d + uptoBulkAll r
def uptoBulkEntries {H : Type} : List (Lit × DataW H) → Nat
  | [] => 0
  | x :: r => uptoBulkEntry x + uptoBulkEntries r
def uptoBulkEntry {H : Type} : Lit × DataW H → Nat
  | (.string bytes, d) => bytes.length + uptoBulk d + 1
  | (_, d) => uptoBulk d + 1
 end
def uptoSmall : (H : Type) → List (DataW H) → Bool := fun _ ds => decide (uptoBulkAll ds ≤ 1048576)
def OpenSpec.upto (s : _root_.Go.ChangeSpec) : _root_.Go.OpenSpec := { _root_.Go.OpenSpec.ofChange s with cond := some uptoSmall }

/-- 'laws.FnExactWindowDigits', WHERE WHAT IT READS IS OF BULK AT MOST 1048576: true; the input reads as it did. -/
def fnExactWindowDigitsUptoRow : OpenClaim := { program := "ytbohakifjmdoiaa", sum := "6a7cad5df81a50e85219c6a0f05c735c741e7256d0ed36291a058467903037c2", func := "loop.example/g01098/laws.FnExactWindowDigits", spec := "fnExactWindowDigits", apart := false, narrowed := true }
def FnExactWindowDigitsUptoSaid : Prop := fnExactWindowDigitsUptoRow.holds Try.pinned (OpenSpec.upto fnExactWindowDigitsSpec)

/-- 'laws.FnExactSignedDigits', WHERE WHAT IT READS IS OF BULK AT MOST 1048576: true; the input reads as it did. -/
def fnExactSignedDigitsUptoRow : OpenClaim := { program := "ytbohakifjmdoiaa", sum := "6a7cad5df81a50e85219c6a0f05c735c741e7256d0ed36291a058467903037c2", func := "loop.example/g01098/laws.FnExactSignedDigits", spec := "fnExactSignedDigits", apart := false, narrowed := true }
def FnExactSignedDigitsUptoSaid : Prop := fnExactSignedDigitsUptoRow.holds Try.pinned (OpenSpec.upto fnExactSignedDigitsSpec)

/-- 'laws.FnExactFromSigned', WHERE WHAT IT READS IS OF BULK AT MOST 1048576: true; the input reads as it did. -/
def fnExactFromSignedUptoRow : OpenClaim := { program := "ytbohakifjmdoiaa", sum := "6a7cad5df81a50e85219c6a0f05c735c741e7256d0ed36291a058467903037c2", func := "loop.example/g01098/laws.FnExactFromSigned", spec := "fnExactFromSigned", unfollowed := true, recurses := true, apart := false, narrowed := true }
def FnExactFromSignedUptoSaid : Prop := fnExactFromSignedUptoRow.holds Try.pinned (OpenSpec.upto fnExactFromSignedSpec)

/-- 'laws.FnExactWeightOf', WHERE WHAT IT READS IS OF BULK AT MOST 1048576: true; the input reads as it did. -/
def fnExactWeightOfUptoRow : OpenClaim := { program := "ytbohakifjmdoiaa", sum := "6a7cad5df81a50e85219c6a0f05c735c741e7256d0ed36291a058467903037c2", func := "loop.example/g01098/laws.FnExactWeightOf", spec := "fnExactWeightOf", unfollowed := true, recurses := true, apart := false, narrowed := true }
def FnExactWeightOfUptoSaid : Prop := fnExactWeightOfUptoRow.holds Try.pinned (OpenSpec.upto fnExactWeightOfSpec)

/-- 'laws.FnExactIsSparseForm', WHERE WHAT IT READS IS OF BULK AT MOST 1048576: true; the input reads as it did. -/
def fnExactIsSparseFormUptoRow : OpenClaim := { program := "ytbohakifjmdoiaa", sum := "6a7cad5df81a50e85219c6a0f05c735c741e7256d0ed36291a058467903037c2", func := "loop.example/g01098/laws.FnExactIsSparseForm", spec := "fnExactIsSparseForm", unfollowed := true, recurses := true, apart := false, narrowed := true }
def FnExactIsSparseFormUptoSaid : Prop := fnExactIsSparseFormUptoRow.holds Try.pinned (OpenSpec.upto fnExactIsSparseFormSpec)

/-- 'laws.FnExactFromWindow', WHERE WHAT IT READS IS OF BULK AT MOST 1048576: true; the input reads as it did. -/
def fnExactFromWindowUptoRow : OpenClaim := { program := "ytbohakifjmdoiaa", sum := "6a7cad5df81a50e85219c6a0f05c735c741e7256d0ed36291a058467903037c2", func := "loop.example/g01098/laws.FnExactFromWindow", spec := "fnExactFromWindow", unfollowed := true, recurses := true, apart := false, narrowed := true }
def FnExactFromWindowUptoSaid : Prop := fnExactFromWindowUptoRow.holds Try.pinned (OpenSpec.upto fnExactFromWindowSpec)

/-- 'laws.FnExactSubtractionChain', WHERE WHAT IT READS IS OF BULK AT MOST 1048576: true; the input reads as it did. -/
def fnExactSubtractionChainUptoRow : OpenClaim := { program := "ytbohakifjmdoiaa", sum := "6a7cad5df81a50e85219c6a0f05c735c741e7256d0ed36291a058467903037c2", func := "loop.example/g01098/laws.FnExactSubtractionChain", spec := "fnExactSubtractionChain", unfollowed := true, recurses := true, apart := false, narrowed := true }
def FnExactSubtractionChainUptoSaid : Prop := fnExactSubtractionChainUptoRow.holds Try.pinned (OpenSpec.upto fnExactSubtractionChainSpec)

/-- 'laws.FnExactIsSubtractionChain', WHERE WHAT IT READS IS OF BULK AT MOST 1048576: true; the input reads as it did. -/
def fnExactIsSubtractionChainUptoRow : OpenClaim := { program := "ytbohakifjmdoiaa", sum := "6a7cad5df81a50e85219c6a0f05c735c741e7256d0ed36291a058467903037c2", func := "loop.example/g01098/laws.FnExactIsSubtractionChain", spec := "fnExactIsSubtractionChain", unfollowed := true, recurses := true, apart := false, narrowed := true }
def FnExactIsSubtractionChainUptoSaid : Prop := fnExactIsSubtractionChainUptoRow.holds Try.pinned (OpenSpec.upto fnExactIsSubtractionChainSpec)

/-- 'laws.FnExactOneAdder', WHERE WHAT IT READS IS OF BULK AT MOST 1048576: true; the input reads as it did. -/
def fnExactOneAdderUptoRow : OpenClaim := { program := "ytbohakifjmdoiaa", sum := "6a7cad5df81a50e85219c6a0f05c735c741e7256d0ed36291a058467903037c2", func := "loop.example/g01098/laws.FnExactOneAdder", spec := "fnExactOneAdder", apart := false, narrowed := true }
def FnExactOneAdderUptoSaid : Prop := fnExactOneAdderUptoRow.holds Try.pinned (OpenSpec.upto fnExactOneAdderSpec)

/-- 'laws.FnExactIsAdders', WHERE WHAT IT READS IS OF BULK AT MOST 1048576: true; the input reads as it did. -/
def fnExactIsAddersUptoRow : OpenClaim := { program := "ytbohakifjmdoiaa", sum := "6a7cad5df81a50e85219c6a0f05c735c741e7256d0ed36291a058467903037c2", func := "loop.example/g01098/laws.FnExactIsAdders", spec := "fnExactIsAdders", apart := false, narrowed := true }
def FnExactIsAddersUptoSaid : Prop := fnExactIsAddersUptoRow.holds Try.pinned (OpenSpec.upto fnExactIsAddersSpec)

/-- 'laws.FnExactRunAdders', WHERE WHAT IT READS IS OF BULK AT MOST 1048576: true; the input reads as it did. -/
def fnExactRunAddersUptoRow : OpenClaim := { program := "ytbohakifjmdoiaa", sum := "6a7cad5df81a50e85219c6a0f05c735c741e7256d0ed36291a058467903037c2", func := "loop.example/g01098/laws.FnExactRunAdders", spec := "fnExactRunAdders", apart := false, narrowed := true }
def FnExactRunAddersUptoSaid : Prop := fnExactRunAddersUptoRow.holds Try.pinned (OpenSpec.upto fnExactRunAddersSpec)

/-- 'laws.FnExactAddersOf', WHERE WHAT IT READS IS OF BULK AT MOST 1048576: true; the input reads as it did. -/
def fnExactAddersOfUptoRow : OpenClaim := { program := "ytbohakifjmdoiaa", sum := "6a7cad5df81a50e85219c6a0f05c735c741e7256d0ed36291a058467903037c2", func := "loop.example/g01098/laws.FnExactAddersOf", spec := "fnExactAddersOf", unfollowed := true, recurses := true, apart := false, narrowed := true }
def FnExactAddersOfUptoSaid : Prop := fnExactAddersOfUptoRow.holds Try.pinned (OpenSpec.upto fnExactAddersOfSpec)

end Rows
end Go.Proofs.Ytbohakifjmdoiaa
