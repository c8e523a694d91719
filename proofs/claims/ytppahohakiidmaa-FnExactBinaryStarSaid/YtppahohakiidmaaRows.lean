/-
  No cell of these rows narrows 'for every input' (looked for: loops, veiled, ifaces, maps, wideKeys, modest, calm, conditions, laid).
  DERIVED. THE GIVEN ROWS OF THIS SEAT. 12 by the template 'for every input the law returns true; each argument reads behind the call as it read before'; 0 by the template 'total and deterministic' (their statements: YtppahohakiidmaaTotals.lean).
  GIVEN WITH THE SEED: the statements are not yours to turn. If you find one false, say at which input.
  Laid BY PROGRAM, IN A SANDBOX (cutbox-rows.mjs): the forced cells as the released guide's own fill.sh prints them over the translation ed854f91984e2caf… (all of the seat's roots in one cut). By AI agents, Wed Nov 11 2026. No macro, syntax, notation, axiom, sorry.
-/
import Derived.Test.YtppahohakiidmaaChecked
import GoSem.Claim
import GoSem.ClaimJoined
import GoSem.ClaimMapViews
import Derived.JoinedTies
import Derived.KernelRfl
namespace Go.Proofs.Ytppahohakiidmaa
/- THE CELL 'sum', in the pinned program and in every row, IS THE sha256 OF THE DUMP (.gsa) THAT YtppahohakiidmaaProg.lean LOADS. Nothing in Lean hashes anything: it is a label: what it is worth is what the hold of that sum in a sandbox is worth. -/
noncomputable def Try.pinned : Pinned := { name := "ytppahohakiidmaa", sum := "ed854f91984e2caf199bdb80dd1031bc20a9229a80e4084493bc0a20f6d2ab7d", checked := Try.checked }
namespace Rows
def none {H : Type} : Left H := { results := [], args := [] }

/-- 'laws.FnExactIsStarChain': WHATEVER THE INPUT: true; the input reads as it did. -/
def fnExactIsStarChainSpec : ChangeSpec := { name := "fnExactIsStarChain", fn := fun _ => fun
  | [d] => { results := [.lit (.bool true)], args := [d] }
  | _ => none }
def fnExactIsStarChainRow : OpenClaim := { program := "ytppahohakiidmaa", sum := "ed854f91984e2caf199bdb80dd1031bc20a9229a80e4084493bc0a20f6d2ab7d", func := "loop.example/g01098/laws.FnExactIsStarChain", spec := "fnExactIsStarChain", apart := false }
def FnExactIsStarChainSaid : Prop := fnExactIsStarChainRow.holds Try.pinned (OpenSpec.ofChange fnExactIsStarChainSpec)

/-- ITS FALSE NEIGHBOUR: 'it returns false'. Refute it at one input. -/
def fnExactIsStarChainWrong : ChangeSpec := { name := "fnExactIsStarChain", fn := fun _ => fun
  | [d] => { results := [.lit (.bool false)], args := [d] }
  | _ => none }
def FnExactIsStarChainWrongFalsely : Prop := fnExactIsStarChainRow.holds Try.pinned (OpenSpec.ofChange fnExactIsStarChainWrong)

/-- 'laws.FnExactStarLength': WHATEVER THE INPUT: true; the input reads as it did. -/
def fnExactStarLengthSpec : ChangeSpec := { name := "fnExactStarLength", fn := fun _ => fun
  | [d] => { results := [.lit (.bool true)], args := [d] }
  | _ => none }
def fnExactStarLengthRow : OpenClaim := { program := "ytppahohakiidmaa", sum := "ed854f91984e2caf199bdb80dd1031bc20a9229a80e4084493bc0a20f6d2ab7d", func := "loop.example/g01098/laws.FnExactStarLength", spec := "fnExactStarLength", unfollowed := true, recurses := true, apart := false }
def FnExactStarLengthSaid : Prop := fnExactStarLengthRow.holds Try.pinned (OpenSpec.ofChange fnExactStarLengthSpec)

/-- ITS FALSE NEIGHBOUR: 'it returns false'. Refute it at one input. -/
def fnExactStarLengthWrong : ChangeSpec := { name := "fnExactStarLength", fn := fun _ => fun
  | [d] => { results := [.lit (.bool false)], args := [d] }
  | _ => none }
def FnExactStarLengthWrongFalsely : Prop := fnExactStarLengthRow.holds Try.pinned (OpenSpec.ofChange fnExactStarLengthWrong)

/-- 'laws.FnExactFirstStar': WHATEVER THE INPUT: true; the input reads as it did. -/
def fnExactFirstStarSpec : ChangeSpec := { name := "fnExactFirstStar", fn := fun _ => fun
  | [d1, d2] => { results := [.lit (.bool true)], args := [d1, d2] }
  | _ => none }
def fnExactFirstStarRow : OpenClaim := { program := "ytppahohakiidmaa", sum := "ed854f91984e2caf199bdb80dd1031bc20a9229a80e4084493bc0a20f6d2ab7d", func := "loop.example/g01098/laws.FnExactFirstStar", spec := "fnExactFirstStar", unfollowed := true, recurses := true, apart := false }
def FnExactFirstStarSaid : Prop := fnExactFirstStarRow.holds Try.pinned (OpenSpec.ofChange fnExactFirstStarSpec)

/-- ITS FALSE NEIGHBOUR: 'it returns false'. Refute it at one input. -/
def fnExactFirstStarWrong : ChangeSpec := { name := "fnExactFirstStar", fn := fun _ => fun
  | [d1, d2] => { results := [.lit (.bool false)], args := [d1, d2] }
  | _ => none }
def FnExactFirstStarWrongFalsely : Prop := fnExactFirstStarRow.holds Try.pinned (OpenSpec.ofChange fnExactFirstStarWrong)

/-- 'laws.FnExactShortestStar': WHATEVER THE INPUT: true; the input reads as it did. -/
def fnExactShortestStarSpec : ChangeSpec := { name := "fnExactShortestStar", fn := fun _ => fun
  | [d] => { results := [.lit (.bool true)], args := [d] }
  | _ => none }
def fnExactShortestStarRow : OpenClaim := { program := "ytppahohakiidmaa", sum := "ed854f91984e2caf199bdb80dd1031bc20a9229a80e4084493bc0a20f6d2ab7d", func := "loop.example/g01098/laws.FnExactShortestStar", spec := "fnExactShortestStar", unfollowed := true, recurses := true, apart := false }
def FnExactShortestStarSaid : Prop := fnExactShortestStarRow.holds Try.pinned (OpenSpec.ofChange fnExactShortestStarSpec)

/-- ITS FALSE NEIGHBOUR: 'it returns false'. Refute it at one input. -/
def fnExactShortestStarWrong : ChangeSpec := { name := "fnExactShortestStar", fn := fun _ => fun
  | [d] => { results := [.lit (.bool false)], args := [d] }
  | _ => none }
def FnExactShortestStarWrongFalsely : Prop := fnExactShortestStarRow.holds Try.pinned (OpenSpec.ofChange fnExactShortestStarWrong)

/-- 'laws.FnExactCountStars': WHATEVER THE INPUT: true; the input reads as it did. -/
def fnExactCountStarsSpec : ChangeSpec := { name := "fnExactCountStars", fn := fun _ => fun
  | [d1, d2] => { results := [.lit (.bool true)], args := [d1, d2] }
  | _ => none }
def fnExactCountStarsRow : OpenClaim := { program := "ytppahohakiidmaa", sum := "ed854f91984e2caf199bdb80dd1031bc20a9229a80e4084493bc0a20f6d2ab7d", func := "loop.example/g01098/laws.FnExactCountStars", spec := "fnExactCountStars", unfollowed := true, recurses := true, apart := false }
def FnExactCountStarsSaid : Prop := fnExactCountStarsRow.holds Try.pinned (OpenSpec.ofChange fnExactCountStarsSpec)

/-- ITS FALSE NEIGHBOUR: 'it returns false'. Refute it at one input. -/
def fnExactCountStarsWrong : ChangeSpec := { name := "fnExactCountStars", fn := fun _ => fun
  | [d1, d2] => { results := [.lit (.bool false)], args := [d1, d2] }
  | _ => none }
def FnExactCountStarsWrongFalsely : Prop := fnExactCountStarsRow.holds Try.pinned (OpenSpec.ofChange fnExactCountStarsWrong)

/-- 'laws.FnExactLiveStars': WHATEVER THE INPUT: true; the input reads as it did. -/
def fnExactLiveStarsSpec : ChangeSpec := { name := "fnExactLiveStars", fn := fun _ => fun
  | [d1, d2] => { results := [.lit (.bool true)], args := [d1, d2] }
  | _ => none }
def fnExactLiveStarsRow : OpenClaim := { program := "ytppahohakiidmaa", sum := "ed854f91984e2caf199bdb80dd1031bc20a9229a80e4084493bc0a20f6d2ab7d", func := "loop.example/g01098/laws.FnExactLiveStars", spec := "fnExactLiveStars", unfollowed := true, recurses := true, apart := false }
def FnExactLiveStarsSaid : Prop := fnExactLiveStarsRow.holds Try.pinned (OpenSpec.ofChange fnExactLiveStarsSpec)

/-- ITS FALSE NEIGHBOUR: 'it returns false'. Refute it at one input. -/
def fnExactLiveStarsWrong : ChangeSpec := { name := "fnExactLiveStars", fn := fun _ => fun
  | [d1, d2] => { results := [.lit (.bool false)], args := [d1, d2] }
  | _ => none }
def FnExactLiveStarsWrongFalsely : Prop := fnExactLiveStarsRow.holds Try.pinned (OpenSpec.ofChange fnExactLiveStarsWrong)

/-- 'laws.FnExactAllShortest': WHATEVER THE INPUT: true; the input reads as it did. -/
def fnExactAllShortestSpec : ChangeSpec := { name := "fnExactAllShortest", fn := fun _ => fun
  | [d] => { results := [.lit (.bool true)], args := [d] }
  | _ => none }
def fnExactAllShortestRow : OpenClaim := { program := "ytppahohakiidmaa", sum := "ed854f91984e2caf199bdb80dd1031bc20a9229a80e4084493bc0a20f6d2ab7d", func := "loop.example/g01098/laws.FnExactAllShortest", spec := "fnExactAllShortest", unfollowed := true, recurses := true, apart := false }
def FnExactAllShortestSaid : Prop := fnExactAllShortestRow.holds Try.pinned (OpenSpec.ofChange fnExactAllShortestSpec)

/-- ITS FALSE NEIGHBOUR: 'it returns false'. Refute it at one input. -/
def fnExactAllShortestWrong : ChangeSpec := { name := "fnExactAllShortest", fn := fun _ => fun
  | [d] => { results := [.lit (.bool false)], args := [d] }
  | _ => none }
def FnExactAllShortestWrongFalsely : Prop := fnExactAllShortestRow.holds Try.pinned (OpenSpec.ofChange fnExactAllShortestWrong)

/-- 'laws.FnExactStarEnds': WHATEVER THE INPUT: true; the input reads as it did. -/
def fnExactStarEndsSpec : ChangeSpec := { name := "fnExactStarEnds", fn := fun _ => fun
  | [d] => { results := [.lit (.bool true)], args := [d] }
  | _ => none }
def fnExactStarEndsRow : OpenClaim := { program := "ytppahohakiidmaa", sum := "ed854f91984e2caf199bdb80dd1031bc20a9229a80e4084493bc0a20f6d2ab7d", func := "loop.example/g01098/laws.FnExactStarEnds", spec := "fnExactStarEnds", inPlace := ["slices.overlaps[int]"], unfollowed := true, recurses := true, apart := false }
def FnExactStarEndsSaid : Prop := fnExactStarEndsRow.holds Try.pinned (OpenSpec.ofChange fnExactStarEndsSpec)

/-- ITS FALSE NEIGHBOUR: 'it returns false'. Refute it at one input. -/
def fnExactStarEndsWrong : ChangeSpec := { name := "fnExactStarEnds", fn := fun _ => fun
  | [d] => { results := [.lit (.bool false)], args := [d] }
  | _ => none }
def FnExactStarEndsWrongFalsely : Prop := fnExactStarEndsRow.holds Try.pinned (OpenSpec.ofChange fnExactStarEndsWrong)

/-- 'laws.FnExactLowerBound': WHATEVER THE INPUT: true; the input reads as it did. -/
def fnExactLowerBoundSpec : ChangeSpec := { name := "fnExactLowerBound", fn := fun _ => fun
  | [d] => { results := [.lit (.bool true)], args := [d] }
  | _ => none }
def fnExactLowerBoundRow : OpenClaim := { program := "ytppahohakiidmaa", sum := "ed854f91984e2caf199bdb80dd1031bc20a9229a80e4084493bc0a20f6d2ab7d", func := "loop.example/g01098/laws.FnExactLowerBound", spec := "fnExactLowerBound", apart := false }
def FnExactLowerBoundSaid : Prop := fnExactLowerBoundRow.holds Try.pinned (OpenSpec.ofChange fnExactLowerBoundSpec)

/-- ITS FALSE NEIGHBOUR: 'it returns false'. Refute it at one input. -/
def fnExactLowerBoundWrong : ChangeSpec := { name := "fnExactLowerBound", fn := fun _ => fun
  | [d] => { results := [.lit (.bool false)], args := [d] }
  | _ => none }
def FnExactLowerBoundWrongFalsely : Prop := fnExactLowerBoundRow.holds Try.pinned (OpenSpec.ofChange fnExactLowerBoundWrong)

/-- 'laws.FnExactUpperBound': WHATEVER THE INPUT: true; the input reads as it did. -/
def fnExactUpperBoundSpec : ChangeSpec := { name := "fnExactUpperBound", fn := fun _ => fun
  | [d] => { results := [.lit (.bool true)], args := [d] }
  | _ => none }
def fnExactUpperBoundRow : OpenClaim := { program := "ytppahohakiidmaa", sum := "ed854f91984e2caf199bdb80dd1031bc20a9229a80e4084493bc0a20f6d2ab7d", func := "loop.example/g01098/laws.FnExactUpperBound", spec := "fnExactUpperBound", apart := false }
def FnExactUpperBoundSaid : Prop := fnExactUpperBoundRow.holds Try.pinned (OpenSpec.ofChange fnExactUpperBoundSpec)

/-- ITS FALSE NEIGHBOUR: 'it returns false'. Refute it at one input. -/
def fnExactUpperBoundWrong : ChangeSpec := { name := "fnExactUpperBound", fn := fun _ => fun
  | [d] => { results := [.lit (.bool false)], args := [d] }
  | _ => none }
def FnExactUpperBoundWrongFalsely : Prop := fnExactUpperBoundRow.holds Try.pinned (OpenSpec.ofChange fnExactUpperBoundWrong)

/-- 'laws.FnExactBinaryStar': WHATEVER THE INPUT: true; the input reads as it did. -/
def fnExactBinaryStarSpec : ChangeSpec := { name := "fnExactBinaryStar", fn := fun _ => fun
  | [d] => { results := [.lit (.bool true)], args := [d] }
  | _ => none }
def fnExactBinaryStarRow : OpenClaim := { program := "ytppahohakiidmaa", sum := "ed854f91984e2caf199bdb80dd1031bc20a9229a80e4084493bc0a20f6d2ab7d", func := "loop.example/g01098/laws.FnExactBinaryStar", spec := "fnExactBinaryStar", inPlace := ["slices.overlaps[int]"], unfollowed := true, recurses := true, apart := false }
def FnExactBinaryStarSaid : Prop := fnExactBinaryStarRow.holds Try.pinned (OpenSpec.ofChange fnExactBinaryStarSpec)

/-- ITS FALSE NEIGHBOUR: 'it returns false'. Refute it at one input. -/
def fnExactBinaryStarWrong : ChangeSpec := { name := "fnExactBinaryStar", fn := fun _ => fun
  | [d] => { results := [.lit (.bool false)], args := [d] }
  | _ => none }
def FnExactBinaryStarWrongFalsely : Prop := fnExactBinaryStarRow.holds Try.pinned (OpenSpec.ofChange fnExactBinaryStarWrong)

/-- 'laws.FnExactTreeLevel': WHATEVER THE INPUT: true; the input reads as it did. -/
def fnExactTreeLevelSpec : ChangeSpec := { name := "fnExactTreeLevel", fn := fun _ => fun
  | [d] => { results := [.lit (.bool true)], args := [d] }
  | _ => none }
def fnExactTreeLevelRow : OpenClaim := { program := "ytppahohakiidmaa", sum := "ed854f91984e2caf199bdb80dd1031bc20a9229a80e4084493bc0a20f6d2ab7d", func := "loop.example/g01098/laws.FnExactTreeLevel", spec := "fnExactTreeLevel", apart := false }
def FnExactTreeLevelSaid : Prop := fnExactTreeLevelRow.holds Try.pinned (OpenSpec.ofChange fnExactTreeLevelSpec)

/-- ITS FALSE NEIGHBOUR: 'it returns false'. Refute it at one input. -/
def fnExactTreeLevelWrong : ChangeSpec := { name := "fnExactTreeLevel", fn := fun _ => fun
  | [d] => { results := [.lit (.bool false)], args := [d] }
  | _ => none }
def FnExactTreeLevelWrongFalsely : Prop := fnExactTreeLevelRow.holds Try.pinned (OpenSpec.ofChange fnExactTreeLevelWrong)

/- THE SECOND FORM. 'bulk': how many values and letters a reading holds, each counted each time it is reached (what is shared counts as often as it is met; a slice's spare places count too). A statement '..UptoSaid' is the law's where the arguments, and the package variables that the reading takes, are together of bulk at most 1048576: NARROWER than '..Said'. Prove '..Said' where nothing that the law and all that it calls make is longer than what came in: it says more and counts as full. Else prove '..UptoSaid'. A law counts once. -/
mutual
def uptoBulk {H : Type} : DataW H → Nat
  | .lit (.string bytes) => bytes.length + 1
  | .lit _ => 1
  | .nil => 1
  | .ptr d => uptoBulk d + 1
  | .slice elems spare => uptoBulkAll elems + uptoBulkAll spare + 1
  | .agg parts => uptoBulkAll parts + 1
  | .iface _ d => uptoBulk d + 1
  | .map entries => uptoBulkEntries entries + 1
  | .held _ => 1
def uptoBulkAll {H : Type} : List (DataW H) → Nat
  | [] => 0
  | d :: r => uptoBulk d + uptoBulkAll r
def uptoBulkEntries {H : Type} : List (Lit × DataW H) → Nat
  | [] => 0
  | x :: r => uptoBulkEntry x + uptoBulkEntries r
def uptoBulkEntry {H : Type} : Lit × DataW H → Nat
  | (.string bytes, d) => bytes.length + uptoBulk d + 1
  | (_, d) => uptoBulk d + 1
 end
def uptoSmall : (H : Type) → List (DataW H) → Bool := fun _ ds => decide (uptoBulkAll ds ≤ 1048576)
def OpenSpec.upto (s : _root_.Go.ChangeSpec) : _root_.Go.OpenSpec := { _root_.Go.OpenSpec.ofChange s with cond := some uptoSmall }

/-- 'laws.FnExactIsStarChain', WHERE WHAT IT READS IS OF BULK AT MOST 1048576: true; the input reads as it did. -/
def fnExactIsStarChainUptoRow : OpenClaim := { program := "ytppahohakiidmaa", sum := "ed854f91984e2caf199bdb80dd1031bc20a9229a80e4084493bc0a20f6d2ab7d", func := "loop.example/g01098/laws.FnExactIsStarChain", spec := "fnExactIsStarChain", apart := false, narrowed := true }
def FnExactIsStarChainUptoSaid : Prop := fnExactIsStarChainUptoRow.holds Try.pinned (OpenSpec.upto fnExactIsStarChainSpec)

/-- 'laws.FnExactStarLength', WHERE WHAT IT READS IS OF BULK AT MOST 1048576: true; the input reads as it did. -/
def fnExactStarLengthUptoRow : OpenClaim := { program := "ytppahohakiidmaa", sum := "ed854f91984e2caf199bdb80dd1031bc20a9229a80e4084493bc0a20f6d2ab7d", func := "loop.example/g01098/laws.FnExactStarLength", spec := "fnExactStarLength", unfollowed := true, recurses := true, apart := false, narrowed := true }
def FnExactStarLengthUptoSaid : Prop := fnExactStarLengthUptoRow.holds Try.pinned (OpenSpec.upto fnExactStarLengthSpec)

/-- 'laws.FnExactFirstStar', WHERE WHAT IT READS IS OF BULK AT MOST 1048576: true; the input reads as it did. -/
def fnExactFirstStarUptoRow : OpenClaim := { program := "ytppahohakiidmaa", sum := "ed854f91984e2caf199bdb80dd1031bc20a9229a80e4084493bc0a20f6d2ab7d", func := "loop.example/g01098/laws.FnExactFirstStar", spec := "fnExactFirstStar", unfollowed := true, recurses := true, apart := false, narrowed := true }
def FnExactFirstStarUptoSaid : Prop := fnExactFirstStarUptoRow.holds Try.pinned (OpenSpec.upto fnExactFirstStarSpec)

/-- 'laws.FnExactShortestStar', WHERE WHAT IT READS IS OF BULK AT MOST 1048576: true; the input reads as it did. -/
def fnExactShortestStarUptoRow : OpenClaim := { program := "ytppahohakiidmaa", sum := "ed854f91984e2caf199bdb80dd1031bc20a9229a80e4084493bc0a20f6d2ab7d", func := "loop.example/g01098/laws.FnExactShortestStar", spec := "fnExactShortestStar", unfollowed := true, recurses := true, apart := false, narrowed := true }
def FnExactShortestStarUptoSaid : Prop := fnExactShortestStarUptoRow.holds Try.pinned (OpenSpec.upto fnExactShortestStarSpec)

/-- 'laws.FnExactCountStars', WHERE WHAT IT READS IS OF BULK AT MOST 1048576: true; the input reads as it did. -/
def fnExactCountStarsUptoRow : OpenClaim := { program := "ytppahohakiidmaa", sum := "ed854f91984e2caf199bdb80dd1031bc20a9229a80e4084493bc0a20f6d2ab7d", func := "loop.example/g01098/laws.FnExactCountStars", spec := "fnExactCountStars", unfollowed := true, recurses := true, apart := false, narrowed := true }
def FnExactCountStarsUptoSaid : Prop := fnExactCountStarsUptoRow.holds Try.pinned (OpenSpec.upto fnExactCountStarsSpec)

/-- 'laws.FnExactLiveStars', WHERE WHAT IT READS IS OF BULK AT MOST 1048576: true; the input reads as it did. -/
def fnExactLiveStarsUptoRow : OpenClaim := { program := "ytppahohakiidmaa", sum := "ed854f91984e2caf199bdb80dd1031bc20a9229a80e4084493bc0a20f6d2ab7d", func := "loop.example/g01098/laws.FnExactLiveStars", spec := "fnExactLiveStars", unfollowed := true, recurses := true, apart := false, narrowed := true }
def FnExactLiveStarsUptoSaid : Prop := fnExactLiveStarsUptoRow.holds Try.pinned (OpenSpec.upto fnExactLiveStarsSpec)

/-- 'laws.FnExactAllShortest', WHERE WHAT IT READS IS OF BULK AT MOST 1048576: true; the input reads as it did. -/
def fnExactAllShortestUptoRow : OpenClaim := { program := "ytppahohakiidmaa", sum := "ed854f91984e2caf199bdb80dd1031bc20a9229a80e4084493bc0a20f6d2ab7d", func := "loop.example/g01098/laws.FnExactAllShortest", spec := "fnExactAllShortest", unfollowed := true, recurses := true, apart := false, narrowed := true }
def FnExactAllShortestUptoSaid : Prop := fnExactAllShortestUptoRow.holds Try.pinned (OpenSpec.upto fnExactAllShortestSpec)

/-- 'laws.FnExactStarEnds', WHERE WHAT IT READS IS OF BULK AT MOST 1048576: true; the input reads as it did. -/
def fnExactStarEndsUptoRow : OpenClaim := { program := "ytppahohakiidmaa", sum := "ed854f91984e2caf199bdb80dd1031bc20a9229a80e4084493bc0a20f6d2ab7d", func := "loop.example/g01098/laws.FnExactStarEnds", spec := "fnExactStarEnds", inPlace := ["slices.overlaps[int]"], unfollowed := true, recurses := true, apart := false, narrowed := true }
def FnExactStarEndsUptoSaid : Prop := fnExactStarEndsUptoRow.holds Try.pinned (OpenSpec.upto fnExactStarEndsSpec)

/-- 'laws.FnExactLowerBound', WHERE WHAT IT READS IS OF BULK AT MOST 1048576: true; the input reads as it did. -/
def fnExactLowerBoundUptoRow : OpenClaim := { program := "ytppahohakiidmaa", sum := "ed854f91984e2caf199bdb80dd1031bc20a9229a80e4084493bc0a20f6d2ab7d", func := "loop.example/g01098/laws.FnExactLowerBound", spec := "fnExactLowerBound", apart := false, narrowed := true }
def FnExactLowerBoundUptoSaid : Prop := fnExactLowerBoundUptoRow.holds Try.pinned (OpenSpec.upto fnExactLowerBoundSpec)

/-- 'laws.FnExactUpperBound', WHERE WHAT IT READS IS OF BULK AT MOST 1048576: true; the input reads as it did. -/
def fnExactUpperBoundUptoRow : OpenClaim := { program := "ytppahohakiidmaa", sum := "ed854f91984e2caf199bdb80dd1031bc20a9229a80e4084493bc0a20f6d2ab7d", func := "loop.example/g01098/laws.FnExactUpperBound", spec := "fnExactUpperBound", apart := false, narrowed := true }
def FnExactUpperBoundUptoSaid : Prop := fnExactUpperBoundUptoRow.holds Try.pinned (OpenSpec.upto fnExactUpperBoundSpec)

/-- 'laws.FnExactBinaryStar', WHERE WHAT IT READS IS OF BULK AT MOST 1048576: true; the input reads as it did. -/
def fnExactBinaryStarUptoRow : OpenClaim := { program := "ytppahohakiidmaa", sum := "ed854f91984e2caf199bdb80dd1031bc20a9229a80e4084493bc0a20f6d2ab7d", func := "loop.example/g01098/laws.FnExactBinaryStar", spec := "fnExactBinaryStar", inPlace := ["slices.overlaps[int]"], unfollowed := true, recurses := true, apart := false, narrowed := true }
def FnExactBinaryStarUptoSaid : Prop := fnExactBinaryStarUptoRow.holds Try.pinned (OpenSpec.upto fnExactBinaryStarSpec)

/-- 'laws.FnExactTreeLevel', WHERE WHAT IT READS IS OF BULK AT MOST 1048576: true; the input reads as it did. -/
def fnExactTreeLevelUptoRow : OpenClaim := { program := "ytppahohakiidmaa", sum := "ed854f91984e2caf199bdb80dd1031bc20a9229a80e4084493bc0a20f6d2ab7d", func := "loop.example/g01098/laws.FnExactTreeLevel", spec := "fnExactTreeLevel", apart := false, narrowed := true }
def FnExactTreeLevelUptoSaid : Prop := fnExactTreeLevelUptoRow.holds Try.pinned (OpenSpec.upto fnExactTreeLevelSpec)

end Rows
end Go.Proofs.Ytppahohakiidmaa
