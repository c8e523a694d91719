/-
  NARROWER THAN 'FOR EVERY INPUT', by the rows' own cells (each row's printed sentence says how): FnExactSignedText: laid · FnExactParseSigned: laid.
  DERIVED. THE GIVEN ROWS OF THIS SEAT. 2 by the template 'for every input the law returns true; each argument reads behind the call as it read before'; 0 by the template 'total and deterministic' (their statements: YtbohakifjmdoiabDoorTotals.lean).
  GIVEN WITH THE SEED: the statements are not yours to turn. If you find one false, say at which input.
  Laid BY PROGRAM, IN A SANDBOX (cutbox-rows.mjs): the forced cells as the released guide's own fill.sh prints them over the translation 9484139d7646adfc… (all of the seat's roots in one cut). By AI agents, Wed Nov 11 2026. No macro, syntax, notation, axiom, sorry.
-/
import Derived.Test.YtbohakifjmdoiabDoorChecked
import GoSem.Claim
import GoSem.ClaimJoined
import GoSem.ClaimMapViews
import Derived.JoinedTies
import Derived.KernelRfl
namespace Go.Proofs.YtbohakifjmdoiabDoor
/- THE CELL 'sum', in the pinned program and in every row, IS THE sha256 OF THE DUMP (.gsa) THAT YtbohakifjmdoiabDoorProg.lean LOADS. Nothing in Lean hashes anything: it is a label: what it is worth is what the hold of that sum in a sandbox is worth. -/
noncomputable def Tryd.pinned : Pinned := { name := "ytbohakifjmdoiabdoor", sum := "9484139d7646adfc064ed40bda92dddda89e183b2aaa82f5cacb7e6014cfec84", checked := Tryd.checked }
namespace Rows
def none {H : Type} : Left H := { results := [], args := [] }

/- WHAT THE LISTED PACKAGE-LEVEL VARIABLES READ AS WHEN THE CALL BEGINS. Each datum BY PROGRAM (the guide's laid-datum.mjs) off the statement by which the dump's own 'gosem.cut.vars' lays the variable. In a bare row this is a premise. The card (YtbohakifjmdoiabDoorCards.lean) ties it to the program's text. -/
def laid_loop_example_g01098_impl_digitLetters {H : Type} : DataW H := .agg [.lit (.int .u8 45), .lit (.int .u8 48), .lit (.int .u8 43)]

/-- 'laws.FnExactSignedText': WHATEVER THE INPUT: true; the input reads as it did. -/
def fnExactSignedTextSpec : ChangeSpec := { name := "fnExactSignedText", vars := ["loop.example/g01098/impl.digitLetters"], fn := fun _ => fun
  | [d, g1] => { results := [.lit (.bool true)], args := [d], vars := [g1] }
  | _ => none }
def fnExactSignedTextRow : OpenClaim := { program := "ytbohakifjmdoiabdoor", sum := "9484139d7646adfc064ed40bda92dddda89e183b2aaa82f5cacb7e6014cfec84", func := "loop.example/g01098/laws.FnExactSignedText", spec := "fnExactSignedText", unfollowed := true, recurses := true, named := ["loop.example/g01098/impl.digitLetters"], apart := false, laid := [("loop.example/g01098/impl.digitLetters", laid_loop_example_g01098_impl_digitLetters)] }
def FnExactSignedTextSaid : Prop := fnExactSignedTextRow.holds Tryd.pinned (OpenSpec.ofChange fnExactSignedTextSpec)

/-- ITS FALSE NEIGHBOUR: 'it returns false'. Refute it at one input. -/
def fnExactSignedTextWrong : ChangeSpec := { name := "fnExactSignedText", vars := ["loop.example/g01098/impl.digitLetters"], fn := fun _ => fun
  | [d, g1] => { results := [.lit (.bool false)], args := [d], vars := [g1] }
  | _ => none }
def FnExactSignedTextWrongFalsely : Prop := fnExactSignedTextRow.holds Tryd.pinned (OpenSpec.ofChange fnExactSignedTextWrong)

/-- 'laws.FnExactParseSigned': WHATEVER THE INPUT: true; the input reads as it did. -/
def fnExactParseSignedSpec : ChangeSpec := { name := "fnExactParseSigned", vars := ["loop.example/g01098/impl.digitLetters"], fn := fun _ => fun
  | [d, g1] => { results := [.lit (.bool true)], args := [d], vars := [g1] }
  | _ => none }
def fnExactParseSignedRow : OpenClaim := { program := "ytbohakifjmdoiabdoor", sum := "9484139d7646adfc064ed40bda92dddda89e183b2aaa82f5cacb7e6014cfec84", func := "loop.example/g01098/laws.FnExactParseSigned", spec := "fnExactParseSigned", unfollowed := true, recurses := true, named := ["loop.example/g01098/impl.digitLetters"], apart := false, laid := [("loop.example/g01098/impl.digitLetters", laid_loop_example_g01098_impl_digitLetters)] }
def FnExactParseSignedSaid : Prop := fnExactParseSignedRow.holds Tryd.pinned (OpenSpec.ofChange fnExactParseSignedSpec)

/-- ITS FALSE NEIGHBOUR: 'it returns false'. Refute it at one input. -/
def fnExactParseSignedWrong : ChangeSpec := { name := "fnExactParseSigned", vars := ["loop.example/g01098/impl.digitLetters"], fn := fun _ => fun
  | [d, g1] => { results := [.lit (.bool false)], args := [d], vars := [g1] }
  | _ => none }
def FnExactParseSignedWrongFalsely : Prop := fnExactParseSignedRow.holds Tryd.pinned (OpenSpec.ofChange fnExactParseSignedWrong)

/- THE SECOND FORM. 'bulk': how many values and letters a reading holds, each counted each time it is reached (what is shared counts as often as it is met; a slice's spare places count too). A statement '..UptoSaid' is the law's where the arguments, and the package variables that the reading takes, are together of bulk at most 1048576: NARROWER than '..Said'. Prove '..Said' where nothing that the law and all that it calls make is longer than what came in: it says more and counts as full. Else prove '..UptoSaid'. A law counts once. -/
mutual
def uptoBulk {H : Type} : DataW H → Nat
  | .lit (.string bytes) => bytes.length + 1
  | .lit _ => 1
  | .nil => 1
  | .ptr d => uptoBulk d + 1
  | .slice elems spare => uptoBulkAll elems + uptoBulkAll spare + 1
  | .agg parts => uptoBulkAll parts + 1
  | .iface _ d => uptoBulk d + 1
  | .map entries => uptoBulkEntries entries + 1
  | .held _ => 1
def uptoBulkAll {H : Type} : List (DataW H) → Nat
  | [] => 0
  | d :: r => uptoBulk d + uptoBulkAll r
def uptoBulkEntries {H : Type} : List (Lit × DataW H) → Nat
  | [] => 0
  | x :: r => uptoBulkEntry x + uptoBulkEntries r
def uptoBulkEntry {H : Type} : Lit × DataW H → Nat
  | (.string bytes, d) => bytes.length + uptoBulk d + 1
  | (_, d) => uptoBulk d + 1
 end
def uptoSmall : (H : Type) → List (DataW H) → Bool := fun _ ds => decide (uptoBulkAll ds ≤ 1048576)
def OpenSpec.upto (s : _root_.Go.ChangeSpec) : _root_.Go.OpenSpec := { _root_.Go.OpenSpec.ofChange s with cond := some uptoSmall }

/-- 'laws.FnExactSignedText', WHERE WHAT IT READS IS OF BULK AT MOST 1048576: true; the input reads as it did. -/
def fnExactSignedTextUptoRow : OpenClaim := { program := "ytbohakifjmdoiabdoor", sum := "9484139d7646adfc064ed40bda92dddda89e183b2aaa82f5cacb7e6014cfec84", func := "loop.example/g01098/laws.FnExactSignedText", spec := "fnExactSignedText", unfollowed := true, recurses := true, named := ["loop.example/g01098/impl.digitLetters"], apart := false, laid := [("loop.example/g01098/impl.digitLetters", laid_loop_example_g01098_impl_digitLetters)], narrowed := true }
def FnExactSignedTextUptoSaid : Prop := fnExactSignedTextUptoRow.holds Tryd.pinned (OpenSpec.upto fnExactSignedTextSpec)

/-- 'laws.FnExactParseSigned', WHERE WHAT IT READS IS OF BULK AT MOST 1048576: true; the input reads as it did. -/
def fnExactParseSignedUptoRow : OpenClaim := { program := "ytbohakifjmdoiabdoor", sum := "9484139d7646adfc064ed40bda92dddda89e183b2aaa82f5cacb7e6014cfec84", func := "loop.example/g01098/laws.FnExactParseSigned", spec := "fnExactParseSigned", unfollowed := true, recurses := true, named := ["loop.example/g01098/impl.digitLetters"], apart := false, laid := [("loop.example/g01098/impl.digitLetters", laid_loop_example_g01098_impl_digitLetters)], narrowed := true }
def FnExactParseSignedUptoSaid : Prop := fnExactParseSignedUptoRow.holds Tryd.pinned (OpenSpec.upto fnExactParseSignedSpec)

end Rows
end Go.Proofs.YtbohakifjmdoiabDoor
