/-
  No cell of these rows narrows 'for every input' (looked for: loops, veiled, ifaces, maps, wideKeys, modest, calm, conditions, laid).
  DERIVED. THE GIVEN ROWS OF THIS SEAT. 12 by the template 'for every input the law returns true; each argument reads behind the call as it read before'; 0 by the template 'total and deterministic' (their statements: YtbbfbccemonihaaTotals.lean).
  GIVEN WITH THE SEED: the statements are not yours to turn. If you find one false, say at which input.
  Laid BY PROGRAM, IN A SANDBOX (cutbox-rows.mjs): the forced cells as the released guide's own fill.sh prints them over the translation 6d8a06bad6f42887… (all of the seat's roots in one cut). By AI agents, Wed Nov 11 2026. No macro, syntax, notation, axiom, sorry.
-/
import Derived.Test.YtbbfbccemonihaaChecked
import GoSem.Claim
import GoSem.ClaimJoined
import GoSem.ClaimMapViews
import Derived.JoinedTies
import Derived.KernelRfl
namespace Go.Proofs.Ytbbfbccemonihaa
/- THE CELL 'sum', in the pinned program and in every row, IS THE sha256 OF THE DUMP (.gsa) THAT YtbbfbccemonihaaProg.lean LOADS. Nothing in Lean hashes anything: it is a label: what it is worth is what the hold of that sum in a sandbox is worth. -/
noncomputable def Try.pinned : Pinned := { name := "ytbbfbccemonihaa", sum := "6d8a06bad6f428879b63376af4baa9c4f7a08e0c72da8f84c8345d484a6f3f8e", checked := Try.checked }
namespace Rows
def none {H : Type} : Left H := { results := [], args := [] }

/-- 'laws.FnExactRunResidues': WHATEVER THE INPUT: true; the input reads as it did. -/
def fnExactRunResiduesSpec : ChangeSpec := { name := "fnExactRunResidues", fn := fun _ => fun
  | [d1, d2, d3] => { results := [.lit (.bool true)], args := [d1, d2, d3] }
  | _ => none }
def fnExactRunResiduesRow : OpenClaim := { program := "ytbbfbccemonihaa", sum := "6d8a06bad6f428879b63376af4baa9c4f7a08e0c72da8f84c8345d484a6f3f8e", func := "loop.example/g01098/laws.FnExactRunResidues", spec := "fnExactRunResidues", unfollowed := true, recurses := true, apart := false }
def FnExactRunResiduesSaid : Prop := fnExactRunResiduesRow.holds Try.pinned (OpenSpec.ofChange fnExactRunResiduesSpec)

/-- ITS FALSE NEIGHBOUR: 'it returns false'. Refute it at one input. -/
def fnExactRunResiduesWrong : ChangeSpec := { name := "fnExactRunResidues", fn := fun _ => fun
  | [d1, d2, d3] => { results := [.lit (.bool false)], args := [d1, d2, d3] }
  | _ => none }
def FnExactRunResiduesWrongFalsely : Prop := fnExactRunResiduesRow.holds Try.pinned (OpenSpec.ofChange fnExactRunResiduesWrong)

/-- 'laws.FnExactPowersModulo': WHATEVER THE INPUT: true; the input reads as it did. -/
def fnExactPowersModuloSpec : ChangeSpec := { name := "fnExactPowersModulo", fn := fun _ => fun
  | [d1, d2, d3] => { results := [.lit (.bool true)], args := [d1, d2, d3] }
  | _ => none }
def fnExactPowersModuloRow : OpenClaim := { program := "ytbbfbccemonihaa", sum := "6d8a06bad6f428879b63376af4baa9c4f7a08e0c72da8f84c8345d484a6f3f8e", func := "loop.example/g01098/laws.FnExactPowersModulo", spec := "fnExactPowersModulo", unfollowed := true, recurses := true, apart := false }
def FnExactPowersModuloSaid : Prop := fnExactPowersModuloRow.holds Try.pinned (OpenSpec.ofChange fnExactPowersModuloSpec)

/-- ITS FALSE NEIGHBOUR: 'it returns false'. Refute it at one input. -/
def fnExactPowersModuloWrong : ChangeSpec := { name := "fnExactPowersModulo", fn := fun _ => fun
  | [d1, d2, d3] => { results := [.lit (.bool false)], args := [d1, d2, d3] }
  | _ => none }
def FnExactPowersModuloWrongFalsely : Prop := fnExactPowersModuloRow.holds Try.pinned (OpenSpec.ofChange fnExactPowersModuloWrong)

/-- 'laws.FnExactOrderModulo': WHATEVER THE INPUT: true; the input reads as it did. -/
def fnExactOrderModuloSpec : ChangeSpec := { name := "fnExactOrderModulo", fn := fun _ => fun
  | [d1, d2] => { results := [.lit (.bool true)], args := [d1, d2] }
  | _ => none }
def fnExactOrderModuloRow : OpenClaim := { program := "ytbbfbccemonihaa", sum := "6d8a06bad6f428879b63376af4baa9c4f7a08e0c72da8f84c8345d484a6f3f8e", func := "loop.example/g01098/laws.FnExactOrderModulo", spec := "fnExactOrderModulo", apart := false }
def FnExactOrderModuloSaid : Prop := fnExactOrderModuloRow.holds Try.pinned (OpenSpec.ofChange fnExactOrderModuloSpec)

/-- ITS FALSE NEIGHBOUR: 'it returns false'. Refute it at one input. -/
def fnExactOrderModuloWrong : ChangeSpec := { name := "fnExactOrderModulo", fn := fun _ => fun
  | [d1, d2] => { results := [.lit (.bool false)], args := [d1, d2] }
  | _ => none }
def FnExactOrderModuloWrongFalsely : Prop := fnExactOrderModuloRow.holds Try.pinned (OpenSpec.ofChange fnExactOrderModuloWrong)

/-- 'laws.FnExactMatrixProduct': WHATEVER THE INPUT: true; the input reads as it did. -/
def fnExactMatrixProductSpec : ChangeSpec := { name := "fnExactMatrixProduct", fn := fun _ => fun
  | [d1, d2, d3] => { results := [.lit (.bool true)], args := [d1, d2, d3] }
  | _ => none }
def fnExactMatrixProductRow : OpenClaim := { program := "ytbbfbccemonihaa", sum := "6d8a06bad6f428879b63376af4baa9c4f7a08e0c72da8f84c8345d484a6f3f8e", func := "loop.example/g01098/laws.FnExactMatrixProduct", spec := "fnExactMatrixProduct", unfollowed := true, recurses := true, apart := false }
def FnExactMatrixProductSaid : Prop := fnExactMatrixProductRow.holds Try.pinned (OpenSpec.ofChange fnExactMatrixProductSpec)

/-- ITS FALSE NEIGHBOUR: 'it returns false'. Refute it at one input. -/
def fnExactMatrixProductWrong : ChangeSpec := { name := "fnExactMatrixProduct", fn := fun _ => fun
  | [d1, d2, d3] => { results := [.lit (.bool false)], args := [d1, d2, d3] }
  | _ => none }
def FnExactMatrixProductWrongFalsely : Prop := fnExactMatrixProductRow.holds Try.pinned (OpenSpec.ofChange fnExactMatrixProductWrong)

/-- 'laws.FnExactMatrixPower': WHATEVER THE INPUT: true; the input reads as it did. -/
def fnExactMatrixPowerSpec : ChangeSpec := { name := "fnExactMatrixPower", fn := fun _ => fun
  | [d1, d2, d3] => { results := [.lit (.bool true)], args := [d1, d2, d3] }
  | _ => none }
def fnExactMatrixPowerRow : OpenClaim := { program := "ytbbfbccemonihaa", sum := "6d8a06bad6f428879b63376af4baa9c4f7a08e0c72da8f84c8345d484a6f3f8e", func := "loop.example/g01098/laws.FnExactMatrixPower", spec := "fnExactMatrixPower", unfollowed := true, recurses := true, apart := false }
def FnExactMatrixPowerSaid : Prop := fnExactMatrixPowerRow.holds Try.pinned (OpenSpec.ofChange fnExactMatrixPowerSpec)

/-- ITS FALSE NEIGHBOUR: 'it returns false'. Refute it at one input. -/
def fnExactMatrixPowerWrong : ChangeSpec := { name := "fnExactMatrixPower", fn := fun _ => fun
  | [d1, d2, d3] => { results := [.lit (.bool false)], args := [d1, d2, d3] }
  | _ => none }
def FnExactMatrixPowerWrongFalsely : Prop := fnExactMatrixPowerRow.holds Try.pinned (OpenSpec.ofChange fnExactMatrixPowerWrong)

/-- 'laws.FnExactRunMatrices': WHATEVER THE INPUT: true; the input reads as it did. -/
def fnExactRunMatricesSpec : ChangeSpec := { name := "fnExactRunMatrices", fn := fun _ => fun
  | [d1, d2, d3] => { results := [.lit (.bool true)], args := [d1, d2, d3] }
  | _ => none }
def fnExactRunMatricesRow : OpenClaim := { program := "ytbbfbccemonihaa", sum := "6d8a06bad6f428879b63376af4baa9c4f7a08e0c72da8f84c8345d484a6f3f8e", func := "loop.example/g01098/laws.FnExactRunMatrices", spec := "fnExactRunMatrices", unfollowed := true, recurses := true, apart := false }
def FnExactRunMatricesSaid : Prop := fnExactRunMatricesRow.holds Try.pinned (OpenSpec.ofChange fnExactRunMatricesSpec)

/-- ITS FALSE NEIGHBOUR: 'it returns false'. Refute it at one input. -/
def fnExactRunMatricesWrong : ChangeSpec := { name := "fnExactRunMatrices", fn := fun _ => fun
  | [d1, d2, d3] => { results := [.lit (.bool false)], args := [d1, d2, d3] }
  | _ => none }
def FnExactRunMatricesWrongFalsely : Prop := fnExactRunMatricesRow.holds Try.pinned (OpenSpec.ofChange fnExactRunMatricesWrong)

/-- 'laws.FnExactIsPermutation': WHATEVER THE INPUT: true; the input reads as it did. -/
def fnExactIsPermutationSpec : ChangeSpec := { name := "fnExactIsPermutation", fn := fun _ => fun
  | [d] => { results := [.lit (.bool true)], args := [d] }
  | _ => none }
def fnExactIsPermutationRow : OpenClaim := { program := "ytbbfbccemonihaa", sum := "6d8a06bad6f428879b63376af4baa9c4f7a08e0c72da8f84c8345d484a6f3f8e", func := "loop.example/g01098/laws.FnExactIsPermutation", spec := "fnExactIsPermutation", apart := false }
def FnExactIsPermutationSaid : Prop := fnExactIsPermutationRow.holds Try.pinned (OpenSpec.ofChange fnExactIsPermutationSpec)

/-- ITS FALSE NEIGHBOUR: 'it returns false'. Refute it at one input. -/
def fnExactIsPermutationWrong : ChangeSpec := { name := "fnExactIsPermutation", fn := fun _ => fun
  | [d] => { results := [.lit (.bool false)], args := [d] }
  | _ => none }
def FnExactIsPermutationWrongFalsely : Prop := fnExactIsPermutationRow.holds Try.pinned (OpenSpec.ofChange fnExactIsPermutationWrong)

/-- 'laws.FnExactThenPermutation': WHATEVER THE INPUT: true; the input reads as it did. -/
def fnExactThenPermutationSpec : ChangeSpec := { name := "fnExactThenPermutation", fn := fun _ => fun
  | [d1, d2] => { results := [.lit (.bool true)], args := [d1, d2] }
  | _ => none }
def fnExactThenPermutationRow : OpenClaim := { program := "ytbbfbccemonihaa", sum := "6d8a06bad6f428879b63376af4baa9c4f7a08e0c72da8f84c8345d484a6f3f8e", func := "loop.example/g01098/laws.FnExactThenPermutation", spec := "fnExactThenPermutation", apart := false }
def FnExactThenPermutationSaid : Prop := fnExactThenPermutationRow.holds Try.pinned (OpenSpec.ofChange fnExactThenPermutationSpec)

/-- ITS FALSE NEIGHBOUR: 'it returns false'. Refute it at one input. -/
def fnExactThenPermutationWrong : ChangeSpec := { name := "fnExactThenPermutation", fn := fun _ => fun
  | [d1, d2] => { results := [.lit (.bool false)], args := [d1, d2] }
  | _ => none }
def FnExactThenPermutationWrongFalsely : Prop := fnExactThenPermutationRow.holds Try.pinned (OpenSpec.ofChange fnExactThenPermutationWrong)

/-- 'laws.FnExactPermutationPower': WHATEVER THE INPUT: true; the input reads as it did. -/
def fnExactPermutationPowerSpec : ChangeSpec := { name := "fnExactPermutationPower", fn := fun _ => fun
  | [d1, d2] => { results := [.lit (.bool true)], args := [d1, d2] }
  | _ => none }
def fnExactPermutationPowerRow : OpenClaim := { program := "ytbbfbccemonihaa", sum := "6d8a06bad6f428879b63376af4baa9c4f7a08e0c72da8f84c8345d484a6f3f8e", func := "loop.example/g01098/laws.FnExactPermutationPower", spec := "fnExactPermutationPower", unfollowed := true, recurses := true, apart := false }
def FnExactPermutationPowerSaid : Prop := fnExactPermutationPowerRow.holds Try.pinned (OpenSpec.ofChange fnExactPermutationPowerSpec)

/-- ITS FALSE NEIGHBOUR: 'it returns false'. Refute it at one input. -/
def fnExactPermutationPowerWrong : ChangeSpec := { name := "fnExactPermutationPower", fn := fun _ => fun
  | [d1, d2] => { results := [.lit (.bool false)], args := [d1, d2] }
  | _ => none }
def FnExactPermutationPowerWrongFalsely : Prop := fnExactPermutationPowerRow.holds Try.pinned (OpenSpec.ofChange fnExactPermutationPowerWrong)

/-- 'laws.FnExactPermutationOrder': WHATEVER THE INPUT: true; the input reads as it did. -/
def fnExactPermutationOrderSpec : ChangeSpec := { name := "fnExactPermutationOrder", fn := fun _ => fun
  | [d] => { results := [.lit (.bool true)], args := [d] }
  | _ => none }
def fnExactPermutationOrderRow : OpenClaim := { program := "ytbbfbccemonihaa", sum := "6d8a06bad6f428879b63376af4baa9c4f7a08e0c72da8f84c8345d484a6f3f8e", func := "loop.example/g01098/laws.FnExactPermutationOrder", spec := "fnExactPermutationOrder", apart := false }
def FnExactPermutationOrderSaid : Prop := fnExactPermutationOrderRow.holds Try.pinned (OpenSpec.ofChange fnExactPermutationOrderSpec)

/-- ITS FALSE NEIGHBOUR: 'it returns false'. Refute it at one input. -/
def fnExactPermutationOrderWrong : ChangeSpec := { name := "fnExactPermutationOrder", fn := fun _ => fun
  | [d] => { results := [.lit (.bool false)], args := [d] }
  | _ => none }
def FnExactPermutationOrderWrongFalsely : Prop := fnExactPermutationOrderRow.holds Try.pinned (OpenSpec.ofChange fnExactPermutationOrderWrong)

/-- 'laws.FnExactDoCommute': WHATEVER THE INPUT: true; the input reads as it did. -/
def fnExactDoCommuteSpec : ChangeSpec := { name := "fnExactDoCommute", fn := fun _ => fun
  | [d] => { results := [.lit (.bool true)], args := [d] }
  | _ => none }
def fnExactDoCommuteRow : OpenClaim := { program := "ytbbfbccemonihaa", sum := "6d8a06bad6f428879b63376af4baa9c4f7a08e0c72da8f84c8345d484a6f3f8e", func := "loop.example/g01098/laws.FnExactDoCommute", spec := "fnExactDoCommute", unfollowed := true, recurses := true, apart := false }
def FnExactDoCommuteSaid : Prop := fnExactDoCommuteRow.holds Try.pinned (OpenSpec.ofChange fnExactDoCommuteSpec)

/-- ITS FALSE NEIGHBOUR: 'it returns false'. Refute it at one input. -/
def fnExactDoCommuteWrong : ChangeSpec := { name := "fnExactDoCommute", fn := fun _ => fun
  | [d] => { results := [.lit (.bool false)], args := [d] }
  | _ => none }
def FnExactDoCommuteWrongFalsely : Prop := fnExactDoCommuteRow.holds Try.pinned (OpenSpec.ofChange fnExactDoCommuteWrong)

/-- 'laws.FnExactRunPermutations': WHATEVER THE INPUT: true; the input reads as it did. -/
def fnExactRunPermutationsSpec : ChangeSpec := { name := "fnExactRunPermutations", fn := fun _ => fun
  | [d1, d2] => { results := [.lit (.bool true)], args := [d1, d2] }
  | _ => none }
def fnExactRunPermutationsRow : OpenClaim := { program := "ytbbfbccemonihaa", sum := "6d8a06bad6f428879b63376af4baa9c4f7a08e0c72da8f84c8345d484a6f3f8e", func := "loop.example/g01098/laws.FnExactRunPermutations", spec := "fnExactRunPermutations", unfollowed := true, recurses := true, apart := false }
def FnExactRunPermutationsSaid : Prop := fnExactRunPermutationsRow.holds Try.pinned (OpenSpec.ofChange fnExactRunPermutationsSpec)

/-- ITS FALSE NEIGHBOUR: 'it returns false'. Refute it at one input. -/
def fnExactRunPermutationsWrong : ChangeSpec := { name := "fnExactRunPermutations", fn := fun _ => fun
  | [d1, d2] => { results := [.lit (.bool false)], args := [d1, d2] }
  | _ => none }
def FnExactRunPermutationsWrongFalsely : Prop := fnExactRunPermutationsRow.holds Try.pinned (OpenSpec.ofChange fnExactRunPermutationsWrong)

/- THE SECOND FORM. 'bulk': how many values and letters a reading holds, each counted each time it is reached (what is shared counts as often as it is met; a slice's spare places count too). A statement '..UptoSaid' is the law's where the arguments, and the package variables that the reading takes, are together of bulk at most 1048576: NARROWER than '..Said'. Prove '..Said' where nothing that the law and all that it calls make is longer than what came in: it says more and counts as full. Else prove '..UptoSaid'. A law counts once. -/
mutual
def uptoBulk {H : Type} : DataW H → Nat
  | .lit (.string bytes) => bytes.length + 1
  | .lit _ => 1
  | .nil => 1
  | .ptr d => uptoBulk d + 1
  | .slice elems spare => uptoBulkAll elems + uptoBulkAll spare + 1
  | .agg parts => uptoBulkAll parts + 1
  | .iface _ d => uptoBulk d + 1
  | .map entries => uptoBulkEntries entries + 1
  | .held _ => 1
def uptoBulkAll {H : Type} : List (DataW H) → Nat
  | [] => 0
  | d :: r => uptoBulk d + uptoBulkAll r
def uptoBulkEntries {H : Type} : List (Lit × DataW H) → Nat
  | [] => 0
  | x :: r => uptoBulkEntry x + uptoBulkEntries r
def uptoBulkEntry {H : Type} : Lit × DataW H → Nat
  | (.string bytes, d) => bytes.length + uptoBulk d + 1
  | (_, d) => uptoBulk d + 1
 end
def uptoSmall : (H : Type) → List (DataW H) → Bool := fun _ ds => decide (uptoBulkAll ds ≤ 1048576)
def OpenSpec.upto (s : _root_.Go.ChangeSpec) : _root_.Go.OpenSpec := { _root_.Go.OpenSpec.ofChange s with cond := some uptoSmall }

/-- 'laws.FnExactRunResidues', WHERE WHAT IT READS IS OF BULK AT MOST 1048576: true; the input reads as it did. -/
def fnExactRunResiduesUptoRow : OpenClaim := { program := "ytbbfbccemonihaa", sum := "6d8a06bad6f428879b63376af4baa9c4f7a08e0c72da8f84c8345d484a6f3f8e", func := "loop.example/g01098/laws.FnExactRunResidues", spec := "fnExactRunResidues", unfollowed := true, recurses := true, apart := false, narrowed := true }
def FnExactRunResiduesUptoSaid : Prop := fnExactRunResiduesUptoRow.holds Try.pinned (OpenSpec.upto fnExactRunResiduesSpec)

/-- 'laws.FnExactPowersModulo', WHERE WHAT IT READS IS OF BULK AT MOST 1048576: true; the input reads as it did. -/
def fnExactPowersModuloUptoRow : OpenClaim := { program := "ytbbfbccemonihaa", sum := "6d8a06bad6f428879b63376af4baa9c4f7a08e0c72da8f84c8345d484a6f3f8e", func := "loop.example/g01098/laws.FnExactPowersModulo", spec := "fnExactPowersModulo", unfollowed := true, recurses := true, apart := false, narrowed := true }
def FnExactPowersModuloUptoSaid : Prop := fnExactPowersModuloUptoRow.holds Try.pinned (OpenSpec.upto fnExactPowersModuloSpec)

/-- 'laws.FnExactOrderModulo', WHERE WHAT IT READS IS OF BULK AT MOST 1048576: true; the input reads as it did. -/
def fnExactOrderModuloUptoRow : OpenClaim := { program := "ytbbfbccemonihaa", sum := "6d8a06bad6f428879b63376af4baa9c4f7a08e0c72da8f84c8345d484a6f3f8e", func := "loop.example/g01098/laws.FnExactOrderModulo", spec := "fnExactOrderModulo", apart := false, narrowed := true }
def FnExactOrderModuloUptoSaid : Prop := fnExactOrderModuloUptoRow.holds Try.pinned (OpenSpec.upto fnExactOrderModuloSpec)

/-- 'laws.FnExactMatrixProduct', WHERE WHAT IT READS IS OF BULK AT MOST 1048576: true; the input reads as it did. -/
def fnExactMatrixProductUptoRow : OpenClaim := { program := "ytbbfbccemonihaa", sum := "6d8a06bad6f428879b63376af4baa9c4f7a08e0c72da8f84c8345d484a6f3f8e", func := "loop.example/g01098/laws.FnExactMatrixProduct", spec := "fnExactMatrixProduct", unfollowed := true, recurses := true, apart := false, narrowed := true }
def FnExactMatrixProductUptoSaid : Prop := fnExactMatrixProductUptoRow.holds Try.pinned (OpenSpec.upto fnExactMatrixProductSpec)

/-- 'laws.FnExactMatrixPower', WHERE WHAT IT READS IS OF BULK AT MOST 1048576: true; the input reads as it did. -/
def fnExactMatrixPowerUptoRow : OpenClaim := { program := "ytbbfbccemonihaa", sum := "6d8a06bad6f428879b63376af4baa9c4f7a08e0c72da8f84c8345d484a6f3f8e", func := "loop.example/g01098/laws.FnExactMatrixPower", spec := "fnExactMatrixPower", unfollowed := true, recurses := true, apart := false, narrowed := true }
def FnExactMatrixPowerUptoSaid : Prop := fnExactMatrixPowerUptoRow.holds Try.pinned (OpenSpec.upto fnExactMatrixPowerSpec)

/-- 'laws.FnExactRunMatrices', WHERE WHAT IT READS IS OF BULK AT MOST 1048576: true; the input reads as it did. -/
def fnExactRunMatricesUptoRow : OpenClaim := { program := "ytbbfbccemonihaa", sum := "6d8a06bad6f428879b63376af4baa9c4f7a08e0c72da8f84c8345d484a6f3f8e", func := "loop.example/g01098/laws.FnExactRunMatrices", spec := "fnExactRunMatrices", unfollowed := true, recurses := true, apart := false, narrowed := true }
def FnExactRunMatricesUptoSaid : Prop := fnExactRunMatricesUptoRow.holds Try.pinned (OpenSpec.upto fnExactRunMatricesSpec)

/-- 'laws.FnExactIsPermutation', WHERE WHAT IT READS IS OF BULK AT MOST 1048576: true; the input reads as it did. -/
def fnExactIsPermutationUptoRow : OpenClaim := { program := "ytbbfbccemonihaa", sum := "6d8a06bad6f428879b63376af4baa9c4f7a08e0c72da8f84c8345d484a6f3f8e", func := "loop.example/g01098/laws.FnExactIsPermutation", spec := "fnExactIsPermutation", apart := false, narrowed := true }
def FnExactIsPermutationUptoSaid : Prop := fnExactIsPermutationUptoRow.holds Try.pinned (OpenSpec.upto fnExactIsPermutationSpec)

/-- 'laws.FnExactThenPermutation', WHERE WHAT IT READS IS OF BULK AT MOST 1048576: true; the input reads as it did. -/
def fnExactThenPermutationUptoRow : OpenClaim := { program := "ytbbfbccemonihaa", sum := "6d8a06bad6f428879b63376af4baa9c4f7a08e0c72da8f84c8345d484a6f3f8e", func := "loop.example/g01098/laws.FnExactThenPermutation", spec := "fnExactThenPermutation", apart := false, narrowed := true }
def FnExactThenPermutationUptoSaid : Prop := fnExactThenPermutationUptoRow.holds Try.pinned (OpenSpec.upto fnExactThenPermutationSpec)

/-- 'laws.FnExactPermutationPower', WHERE WHAT IT READS IS OF BULK AT MOST 1048576: true; the input reads as it did. -/
def fnExactPermutationPowerUptoRow : OpenClaim := { program := "ytbbfbccemonihaa", sum := "6d8a06bad6f428879b63376af4baa9c4f7a08e0c72da8f84c8345d484a6f3f8e", func := "loop.example/g01098/laws.FnExactPermutationPower", spec := "fnExactPermutationPower", unfollowed := true, recurses := true, apart := false, narrowed := true }
def FnExactPermutationPowerUptoSaid : Prop := fnExactPermutationPowerUptoRow.holds Try.pinned (OpenSpec.upto fnExactPermutationPowerSpec)

/-- 'laws.FnExactPermutationOrder', WHERE WHAT IT READS IS OF BULK AT MOST 1048576: true; the input reads as it did. -/
def fnExactPermutationOrderUptoRow : OpenClaim := { program := "ytbbfbccemonihaa", sum := "6d8a06bad6f428879b63376af4baa9c4f7a08e0c72da8f84c8345d484a6f3f8e", func := "loop.example/g01098/laws.FnExactPermutationOrder", spec := "fnExactPermutationOrder", apart := false, narrowed := true }
def FnExactPermutationOrderUptoSaid : Prop := fnExactPermutationOrderUptoRow.holds Try.pinned (OpenSpec.upto fnExactPermutationOrderSpec)

/-- 'laws.FnExactDoCommute', WHERE WHAT IT READS IS OF BULK AT MOST 1048576: true; the input reads as it did. -/
def fnExactDoCommuteUptoRow : OpenClaim := { program := "ytbbfbccemonihaa", sum := "6d8a06bad6f428879b63376af4baa9c4f7a08e0c72da8f84c8345d484a6f3f8e", func := "loop.example/g01098/laws.FnExactDoCommute", spec := "fnExactDoCommute", unfollowed := true, recurses := true, apart := false, narrowed := true }
def FnExactDoCommuteUptoSaid : Prop := fnExactDoCommuteUptoRow.holds Try.pinned (OpenSpec.upto fnExactDoCommuteSpec)

/-- 'laws.FnExactRunPermutations', WHERE WHAT IT READS IS OF BULK AT MOST 1048576: true; the input reads as it did. -/
def fnExactRunPermutationsUptoRow : OpenClaim := { program := "ytbbfbccemonihaa", sum := "6d8a06bad6f428879b63376af4baa9c4f7a08e0c72da8f84c8345d484a6f3f8e", func := "loop.example/g01098/laws.FnExactRunPermutations", spec := "fnExactRunPermutations", unfollowed := true, recurses := true, apart := false, narrowed := true }
def FnExactRunPermutationsUptoSaid : Prop := fnExactRunPermutationsUptoRow.holds Try.pinned (OpenSpec.upto fnExactRunPermutationsSpec)

end Rows
end Go.Proofs.Ytbbfbccemonihaa
