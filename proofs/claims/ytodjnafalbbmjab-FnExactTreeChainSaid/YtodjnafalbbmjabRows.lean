/-
  No cell of these rows narrows 'for every input' (looked for: loops, veiled, ifaces, maps, wideKeys, modest, calm, conditions, laid).
  DERIVED. THE GIVEN ROWS OF THIS SEAT. 5 by the template 'for every input the law returns true; each argument reads behind the call as it read before'; 0 by the template 'total and deterministic' (their statements: YtodjnafalbbmjabTotals.lean).
  GIVEN WITH THE SEED: the statements are not yours to turn. If you find one false, say at which input.
  Laid BY PROGRAM, IN A SANDBOX (cutbox-rows.mjs): the forced cells as the released guide's own fill.sh prints them over the translation 2db8c84694ccfe91… (all of the seat's roots in one cut). By AI agents, Wed Nov 11 2026. No macro, syntax, notation, axiom, sorry.
-/
import Derived.Test.YtodjnafalbbmjabChecked
import GoSem.Claim
import GoSem.ClaimJoined
import GoSem.ClaimMapViews
import Derived.JoinedTies
import Derived.KernelRfl
namespace Go.Proofs.Ytodjnafalbbmjab
/- THE CELL 'sum', in the pinned program and in every row, IS THE sha256 OF THE DUMP (.gsa) THAT YtodjnafalbbmjabProg.lean LOADS. Nothing in Lean hashes anything: it is a label: what it is worth is what the hold of that sum in a sandbox is worth. -/
noncomputable def Try.pinned : Pinned := { name := "ytodjnafalbbmjab", sum := "2db8c84694ccfe91e449df5fb96ebf053973e59a015a2d86971314e1b8681c4e", checked := Try.checked }
namespace Rows
def none {H : Type} : Left H := { results := [], args := [] }

/-- 'laws.FnExactFromDigits': WHATEVER THE INPUT: true; the input reads as it did. -/
def fnExactFromDigitsSpec : ChangeSpec := { name := "fnExactFromDigits", fn := fun _ => fun
  | [d1, d2] => { results := [.lit (.bool true)], args := [d1, d2] }
  | _ => none }
def fnExactFromDigitsRow : OpenClaim := { program := "ytodjnafalbbmjab", sum := "2db8c84694ccfe91e449df5fb96ebf053973e59a015a2d86971314e1b8681c4e", func := "loop.example/g01098/laws.FnExactFromDigits", spec := "fnExactFromDigits", unfollowed := true, recurses := true, apart := false }
def FnExactFromDigitsSaid : Prop := fnExactFromDigitsRow.holds Try.pinned (OpenSpec.ofChange fnExactFromDigitsSpec)

/-- ITS FALSE NEIGHBOUR: 'it returns false'. Refute it at one input. -/
def fnExactFromDigitsWrong : ChangeSpec := { name := "fnExactFromDigits", fn := fun _ => fun
  | [d1, d2] => { results := [.lit (.bool false)], args := [d1, d2] }
  | _ => none }
def FnExactFromDigitsWrongFalsely : Prop := fnExactFromDigitsRow.holds Try.pinned (OpenSpec.ofChange fnExactFromDigitsWrong)

/-- 'laws.FnExactTreeChain': WHATEVER THE INPUT: true; the input reads as it did. -/
def fnExactTreeChainSpec : ChangeSpec := { name := "fnExactTreeChain", fn := fun _ => fun
  | [d] => { results := [.lit (.bool true)], args := [d] }
  | _ => none }
def fnExactTreeChainRow : OpenClaim := { program := "ytodjnafalbbmjab", sum := "2db8c84694ccfe91e449df5fb96ebf053973e59a015a2d86971314e1b8681c4e", func := "loop.example/g01098/laws.FnExactTreeChain", spec := "fnExactTreeChain", apart := false }
def FnExactTreeChainSaid : Prop := fnExactTreeChainRow.holds Try.pinned (OpenSpec.ofChange fnExactTreeChainSpec)

/-- ITS FALSE NEIGHBOUR: 'it returns false'. Refute it at one input. -/
def fnExactTreeChainWrong : ChangeSpec := { name := "fnExactTreeChain", fn := fun _ => fun
  | [d] => { results := [.lit (.bool false)], args := [d] }
  | _ => none }
def FnExactTreeChainWrongFalsely : Prop := fnExactTreeChainRow.holds Try.pinned (OpenSpec.ofChange fnExactTreeChainWrong)

/-- 'laws.FnExactTogetherPlan': WHATEVER THE INPUT: true; the input reads as it did. -/
def fnExactTogetherPlanSpec : ChangeSpec := { name := "fnExactTogetherPlan", fn := fun _ => fun
  | [d] => { results := [.lit (.bool true)], args := [d] }
  | _ => none }
def fnExactTogetherPlanRow : OpenClaim := { program := "ytodjnafalbbmjab", sum := "2db8c84694ccfe91e449df5fb96ebf053973e59a015a2d86971314e1b8681c4e", func := "loop.example/g01098/laws.FnExactTogetherPlan", spec := "fnExactTogetherPlan", apart := false }
def FnExactTogetherPlanSaid : Prop := fnExactTogetherPlanRow.holds Try.pinned (OpenSpec.ofChange fnExactTogetherPlanSpec)

/-- ITS FALSE NEIGHBOUR: 'it returns false'. Refute it at one input. -/
def fnExactTogetherPlanWrong : ChangeSpec := { name := "fnExactTogetherPlan", fn := fun _ => fun
  | [d] => { results := [.lit (.bool false)], args := [d] }
  | _ => none }
def FnExactTogetherPlanWrongFalsely : Prop := fnExactTogetherPlanRow.holds Try.pinned (OpenSpec.ofChange fnExactTogetherPlanWrong)

/-- 'laws.FnExactSquaresPlan': WHATEVER THE INPUT: true; the input reads as it did. -/
def fnExactSquaresPlanSpec : ChangeSpec := { name := "fnExactSquaresPlan", fn := fun _ => fun
  | [d] => { results := [.lit (.bool true)], args := [d] }
  | _ => none }
def fnExactSquaresPlanRow : OpenClaim := { program := "ytodjnafalbbmjab", sum := "2db8c84694ccfe91e449df5fb96ebf053973e59a015a2d86971314e1b8681c4e", func := "loop.example/g01098/laws.FnExactSquaresPlan", spec := "fnExactSquaresPlan", apart := false }
def FnExactSquaresPlanSaid : Prop := fnExactSquaresPlanRow.holds Try.pinned (OpenSpec.ofChange fnExactSquaresPlanSpec)

/-- ITS FALSE NEIGHBOUR: 'it returns false'. Refute it at one input. -/
def fnExactSquaresPlanWrong : ChangeSpec := { name := "fnExactSquaresPlan", fn := fun _ => fun
  | [d] => { results := [.lit (.bool false)], args := [d] }
  | _ => none }
def FnExactSquaresPlanWrongFalsely : Prop := fnExactSquaresPlanRow.holds Try.pinned (OpenSpec.ofChange fnExactSquaresPlanWrong)

/-- 'laws.FnComposedExponents': WHATEVER THE INPUT: true; the input reads as it did. -/
def fnComposedExponentsSpec : ChangeSpec := { name := "fnComposedExponents", fn := fun _ => fun
  | [d1, d2] => { results := [.lit (.bool true)], args := [d1, d2] }
  | _ => none }
def fnComposedExponentsRow : OpenClaim := { program := "ytodjnafalbbmjab", sum := "2db8c84694ccfe91e449df5fb96ebf053973e59a015a2d86971314e1b8681c4e", func := "loop.example/g01098/laws.FnComposedExponents", spec := "fnComposedExponents", apart := false }
def FnComposedExponentsSaid : Prop := fnComposedExponentsRow.holds Try.pinned (OpenSpec.ofChange fnComposedExponentsSpec)

/-- ITS FALSE NEIGHBOUR: 'it returns false'. Refute it at one input. -/
def fnComposedExponentsWrong : ChangeSpec := { name := "fnComposedExponents", fn := fun _ => fun
  | [d1, d2] => { results := [.lit (.bool false)], args := [d1, d2] }
  | _ => none }
def FnComposedExponentsWrongFalsely : Prop := fnComposedExponentsRow.holds Try.pinned (OpenSpec.ofChange fnComposedExponentsWrong)

/- THE SECOND FORM. 'bulk': how many values and letters a reading holds, each counted each time it is reached (what is shared counts as often as it is met; a slice's spare places count too). A statement '..UptoSaid' is the law's where the arguments, and the package variables that the reading takes, are together of bulk at most 1048576: NARROWER than '..Said'. Prove '..Said' where nothing that the law and all that it calls make is longer than what came in: it says more and counts as full. Else prove '..UptoSaid'. A law counts once. -/
mutual
def uptoBulk {H : Type} : DataW H → Nat
  | .lit (.string bytes) => bytes.length + 1
  | .lit _ => 1
  | .nil => 1
  | .ptr d => uptoBulk d + 1
  | .slice elems spare => uptoBulkAll elems + uptoBulkAll spare + 1
  | .agg parts => uptoBulkAll parts + 1
  | .iface _ d => uptoBulk d + 1
  | .map entries => uptoBulkEntries entries + 1
  | .held _ => 1
def uptoBulkAll {H : Type} : List (DataW H) → Nat
  | [] => 0
  | d :: r => uptoBulk d + uptoBulkAll r
def uptoBulkEntries {H : Type} : List (Lit × DataW H) → Nat
  | [] => 0
  | x :: r => uptoBulkEntry x + uptoBulkEntries r
def uptoBulkEntry {H : Type} : Lit × DataW H → Nat
  | (.string bytes, d) => bytes.length + uptoBulk d + 1
  | (_, d) => uptoBulk d + 1
 end
def uptoSmall : (H : Type) → List (DataW H) → Bool := fun _ ds => decide (uptoBulkAll ds ≤ 1048576)
def OpenSpec.upto (s : _root_.Go.ChangeSpec) : _root_.Go.OpenSpec := { _root_.Go.OpenSpec.ofChange s with cond := some uptoSmall }

/-- 'laws.FnExactFromDigits', WHERE WHAT IT READS IS OF BULK AT MOST 1048576: true; the input reads as it did. -/
def fnExactFromDigitsUptoRow : OpenClaim := { program := "ytodjnafalbbmjab", sum := "2db8c84694ccfe91e449df5fb96ebf053973e59a015a2d86971314e1b8681c4e", func := "loop.example/g01098/laws.FnExactFromDigits", spec := "fnExactFromDigits", unfollowed := true, recurses := true, apart := false, narrowed := true }
def FnExactFromDigitsUptoSaid : Prop := fnExactFromDigitsUptoRow.holds Try.pinned (OpenSpec.upto fnExactFromDigitsSpec)

/-- 'laws.FnExactTreeChain', WHERE WHAT IT READS IS OF BULK AT MOST 1048576: true; the input reads as it did. -/
def fnExactTreeChainUptoRow : OpenClaim := { program := "ytodjnafalbbmjab", sum := "2db8c84694ccfe91e449df5fb96ebf053973e59a015a2d86971314e1b8681c4e", func := "loop.example/g01098/laws.FnExactTreeChain", spec := "fnExactTreeChain", apart := false, narrowed := true }
def FnExactTreeChainUptoSaid : Prop := fnExactTreeChainUptoRow.holds Try.pinned (OpenSpec.upto fnExactTreeChainSpec)

/-- 'laws.FnExactTogetherPlan', WHERE WHAT IT READS IS OF BULK AT MOST 1048576: true; the input reads as it did. -/
def fnExactTogetherPlanUptoRow : OpenClaim := { program := "ytodjnafalbbmjab", sum := "2db8c84694ccfe91e449df5fb96ebf053973e59a015a2d86971314e1b8681c4e", func := "loop.example/g01098/laws.FnExactTogetherPlan", spec := "fnExactTogetherPlan", apart := false, narrowed := true }
def FnExactTogetherPlanUptoSaid : Prop := fnExactTogetherPlanUptoRow.holds Try.pinned (OpenSpec.upto fnExactTogetherPlanSpec)

/-- 'laws.FnExactSquaresPlan', WHERE WHAT IT READS IS OF BULK AT MOST 1048576: true; the input reads as it did. -/
def fnExactSquaresPlanUptoRow : OpenClaim := { program := "ytodjnafalbbmjab", sum := "2db8c84694ccfe91e449df5fb96ebf053973e59a015a2d86971314e1b8681c4e", func := "loop.example/g01098/laws.FnExactSquaresPlan", spec := "fnExactSquaresPlan", apart := false, narrowed := true }
def FnExactSquaresPlanUptoSaid : Prop := fnExactSquaresPlanUptoRow.holds Try.pinned (OpenSpec.upto fnExactSquaresPlanSpec)

/-- 'laws.FnComposedExponents', WHERE WHAT IT READS IS OF BULK AT MOST 1048576: true; the input reads as it did. -/
def fnComposedExponentsUptoRow : OpenClaim := { program := "ytodjnafalbbmjab", sum := "2db8c84694ccfe91e449df5fb96ebf053973e59a015a2d86971314e1b8681c4e", func := "loop.example/g01098/laws.FnComposedExponents", spec := "fnComposedExponents", apart := false, narrowed := true }
def FnComposedExponentsUptoSaid : Prop := fnComposedExponentsUptoRow.holds Try.pinned (OpenSpec.upto fnComposedExponentsSpec)

end Rows
end Go.Proofs.Ytodjnafalbbmjab
