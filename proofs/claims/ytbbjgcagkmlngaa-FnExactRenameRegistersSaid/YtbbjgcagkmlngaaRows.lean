/-
  No cell of these rows narrows 'for every input' (looked for: loops, veiled, ifaces, maps, wideKeys, modest, calm, conditions, laid).
  DERIVED. THE GIVEN ROWS OF THIS SEAT. 12 by the template 'for every input the law returns true; each argument reads behind the call as it read before'; 0 by the template 'total and deterministic' (their statements: YtbbjgcagkmlngaaTotals.lean).
  GIVEN WITH THE SEED: the statements are not yours to turn. If you find one false, say at which input.
  Laid BY PROGRAM, IN A SANDBOX (cutbox-rows.mjs): the forced cells as the released guide's own fill.sh prints them over the translation c12cea5922de631f… (all of the seat's roots in one cut). By AI agents, Wed Nov 11 2026. No macro, syntax, notation, axiom, sorry.
-/
import Derived.Test.YtbbjgcagkmlngaaChecked
import GoSem.Claim
import GoSem.ClaimJoined
import GoSem.ClaimMapViews
import Derived.JoinedTies
import Derived.KernelRfl
namespace Go.Proofs.Ytbbjgcagkmlngaa
/- THE CELL 'sum', in the pinned program and in every row, IS THE sha256 OF THE DUMP (.gsa) THAT YtbbjgcagkmlngaaProg.lean LOADS. Nothing in Lean hashes anything: it is a label: what it is worth is what the hold of that sum in a sandbox is worth. -/
noncomputable def Try.pinned : Pinned := { name := "ytbbjgcagkmlngaa", sum := "c12cea5922de631f85f22ee150f349fe743ec4193d35174cf7f96d63adc9363e", checked := Try.checked }
namespace Rows
def none {H : Type} : Left H := { results := [], args := [] }

/-- 'laws.FnExactIsRegCode': WHATEVER THE INPUT: true; the input reads as it did. -/
def fnExactIsRegCodeSpec : ChangeSpec := { name := "fnExactIsRegCode", fn := fun _ => fun
  | [d] => { results := [.lit (.bool true)], args := [d] }
  | _ => none }
def fnExactIsRegCodeRow : OpenClaim := { program := "ytbbjgcagkmlngaa", sum := "c12cea5922de631f85f22ee150f349fe743ec4193d35174cf7f96d63adc9363e", func := "loop.example/g01098/laws.FnExactIsRegCode", spec := "fnExactIsRegCode", unfollowed := true, recurses := true, plainKeys := false, apart := false }
def FnExactIsRegCodeSaid : Prop := fnExactIsRegCodeRow.holds Try.pinned (OpenSpec.ofChange fnExactIsRegCodeSpec)

/-- ITS FALSE NEIGHBOUR: 'it returns false'. Refute it at one input. -/
def fnExactIsRegCodeWrong : ChangeSpec := { name := "fnExactIsRegCode", fn := fun _ => fun
  | [d] => { results := [.lit (.bool false)], args := [d] }
  | _ => none }
def FnExactIsRegCodeWrongFalsely : Prop := fnExactIsRegCodeRow.holds Try.pinned (OpenSpec.ofChange fnExactIsRegCodeWrong)

/-- 'laws.FnExactRegCodePlan': WHATEVER THE INPUT: true; the input reads as it did. -/
def fnExactRegCodePlanSpec : ChangeSpec := { name := "fnExactRegCodePlan", fn := fun _ => fun
  | [d] => { results := [.lit (.bool true)], args := [d] }
  | _ => none }
def fnExactRegCodePlanRow : OpenClaim := { program := "ytbbjgcagkmlngaa", sum := "c12cea5922de631f85f22ee150f349fe743ec4193d35174cf7f96d63adc9363e", func := "loop.example/g01098/laws.FnExactRegCodePlan", spec := "fnExactRegCodePlan", unfollowed := true, recurses := true, plainKeys := false, apart := false }
def FnExactRegCodePlanSaid : Prop := fnExactRegCodePlanRow.holds Try.pinned (OpenSpec.ofChange fnExactRegCodePlanSpec)

/-- ITS FALSE NEIGHBOUR: 'it returns false'. Refute it at one input. -/
def fnExactRegCodePlanWrong : ChangeSpec := { name := "fnExactRegCodePlan", fn := fun _ => fun
  | [d] => { results := [.lit (.bool false)], args := [d] }
  | _ => none }
def FnExactRegCodePlanWrongFalsely : Prop := fnExactRegCodePlanRow.holds Try.pinned (OpenSpec.ofChange fnExactRegCodePlanWrong)

/-- 'laws.FnExactRunRegCode': WHATEVER THE INPUT: true; the input reads as it did. -/
def fnExactRunRegCodeSpec : ChangeSpec := { name := "fnExactRunRegCode", fn := fun _ => fun
  | [d1, d2, d3] => { results := [.lit (.bool true)], args := [d1, d2, d3] }
  | _ => none }
def fnExactRunRegCodeRow : OpenClaim := { program := "ytbbjgcagkmlngaa", sum := "c12cea5922de631f85f22ee150f349fe743ec4193d35174cf7f96d63adc9363e", func := "loop.example/g01098/laws.FnExactRunRegCode", spec := "fnExactRunRegCode", unfollowed := true, recurses := true, plainKeys := false, apart := false }
def FnExactRunRegCodeSaid : Prop := fnExactRunRegCodeRow.holds Try.pinned (OpenSpec.ofChange fnExactRunRegCodeSpec)

/-- ITS FALSE NEIGHBOUR: 'it returns false'. Refute it at one input. -/
def fnExactRunRegCodeWrong : ChangeSpec := { name := "fnExactRunRegCode", fn := fun _ => fun
  | [d1, d2, d3] => { results := [.lit (.bool false)], args := [d1, d2, d3] }
  | _ => none }
def FnExactRunRegCodeWrongFalsely : Prop := fnExactRunRegCodeRow.holds Try.pinned (OpenSpec.ofChange fnExactRunRegCodeWrong)

/-- 'laws.FnExactNeededAfter': WHATEVER THE INPUT: true; the input reads as it did. -/
def fnExactNeededAfterSpec : ChangeSpec := { name := "fnExactNeededAfter", fn := fun _ => fun
  | [d1, d2] => { results := [.lit (.bool true)], args := [d1, d2] }
  | _ => none }
def fnExactNeededAfterRow : OpenClaim := { program := "ytbbjgcagkmlngaa", sum := "c12cea5922de631f85f22ee150f349fe743ec4193d35174cf7f96d63adc9363e", func := "loop.example/g01098/laws.FnExactNeededAfter", spec := "fnExactNeededAfter", unfollowed := true, recurses := true, plainKeys := false, apart := false }
def FnExactNeededAfterSaid : Prop := fnExactNeededAfterRow.holds Try.pinned (OpenSpec.ofChange fnExactNeededAfterSpec)

/-- ITS FALSE NEIGHBOUR: 'it returns false'. Refute it at one input. -/
def fnExactNeededAfterWrong : ChangeSpec := { name := "fnExactNeededAfter", fn := fun _ => fun
  | [d1, d2] => { results := [.lit (.bool false)], args := [d1, d2] }
  | _ => none }
def FnExactNeededAfterWrongFalsely : Prop := fnExactNeededAfterRow.holds Try.pinned (OpenSpec.ofChange fnExactNeededAfterWrong)

/-- 'laws.FnExactPressureOf': WHATEVER THE INPUT: true; the input reads as it did. -/
def fnExactPressureOfSpec : ChangeSpec := { name := "fnExactPressureOf", fn := fun _ => fun
  | [d] => { results := [.lit (.bool true)], args := [d] }
  | _ => none }
def fnExactPressureOfRow : OpenClaim := { program := "ytbbjgcagkmlngaa", sum := "c12cea5922de631f85f22ee150f349fe743ec4193d35174cf7f96d63adc9363e", func := "loop.example/g01098/laws.FnExactPressureOf", spec := "fnExactPressureOf", inPlace := ["slices.overlaps[int]"], unfollowed := true, recurses := true, plainKeys := false, apart := false }
def FnExactPressureOfSaid : Prop := fnExactPressureOfRow.holds Try.pinned (OpenSpec.ofChange fnExactPressureOfSpec)

/-- ITS FALSE NEIGHBOUR: 'it returns false'. Refute it at one input. -/
def fnExactPressureOfWrong : ChangeSpec := { name := "fnExactPressureOf", fn := fun _ => fun
  | [d] => { results := [.lit (.bool false)], args := [d] }
  | _ => none }
def FnExactPressureOfWrongFalsely : Prop := fnExactPressureOfRow.holds Try.pinned (OpenSpec.ofChange fnExactPressureOfWrong)

/-- 'laws.FnExactAllocatePlan': WHATEVER THE INPUT: true; the input reads as it did. -/
def fnExactAllocatePlanSpec : ChangeSpec := { name := "fnExactAllocatePlan", fn := fun _ => fun
  | [d] => { results := [.lit (.bool true)], args := [d] }
  | _ => none }
def fnExactAllocatePlanRow : OpenClaim := { program := "ytbbjgcagkmlngaa", sum := "c12cea5922de631f85f22ee150f349fe743ec4193d35174cf7f96d63adc9363e", func := "loop.example/g01098/laws.FnExactAllocatePlan", spec := "fnExactAllocatePlan", inPlace := ["slices.overlaps[int]"], unfollowed := true, recurses := true, plainKeys := false, apart := false }
def FnExactAllocatePlanSaid : Prop := fnExactAllocatePlanRow.holds Try.pinned (OpenSpec.ofChange fnExactAllocatePlanSpec)

/-- ITS FALSE NEIGHBOUR: 'it returns false'. Refute it at one input. -/
def fnExactAllocatePlanWrong : ChangeSpec := { name := "fnExactAllocatePlan", fn := fun _ => fun
  | [d] => { results := [.lit (.bool false)], args := [d] }
  | _ => none }
def FnExactAllocatePlanWrongFalsely : Prop := fnExactAllocatePlanRow.holds Try.pinned (OpenSpec.ofChange fnExactAllocatePlanWrong)

/-- 'laws.FnExactCheckRegCode': WHATEVER THE INPUT: true; the input reads as it did. -/
def fnExactCheckRegCodeSpec : ChangeSpec := { name := "fnExactCheckRegCode", fn := fun _ => fun
  | [d1, d2] => { results := [.lit (.bool true)], args := [d1, d2] }
  | _ => none }
def fnExactCheckRegCodeRow : OpenClaim := { program := "ytbbjgcagkmlngaa", sum := "c12cea5922de631f85f22ee150f349fe743ec4193d35174cf7f96d63adc9363e", func := "loop.example/g01098/laws.FnExactCheckRegCode", spec := "fnExactCheckRegCode", unfollowed := true, recurses := true, plainKeys := false, apart := false }
def FnExactCheckRegCodeSaid : Prop := fnExactCheckRegCodeRow.holds Try.pinned (OpenSpec.ofChange fnExactCheckRegCodeSpec)

/-- ITS FALSE NEIGHBOUR: 'it returns false'. Refute it at one input. -/
def fnExactCheckRegCodeWrong : ChangeSpec := { name := "fnExactCheckRegCode", fn := fun _ => fun
  | [d1, d2] => { results := [.lit (.bool false)], args := [d1, d2] }
  | _ => none }
def FnExactCheckRegCodeWrongFalsely : Prop := fnExactCheckRegCodeRow.holds Try.pinned (OpenSpec.ofChange fnExactCheckRegCodeWrong)

/-- 'laws.FnExactCountOrders': WHATEVER THE INPUT: true; the input reads as it did. -/
def fnExactCountOrdersSpec : ChangeSpec := { name := "fnExactCountOrders", fn := fun _ => fun
  | [d] => { results := [.lit (.bool true)], args := [d] }
  | _ => none }
def fnExactCountOrdersRow : OpenClaim := { program := "ytbbjgcagkmlngaa", sum := "c12cea5922de631f85f22ee150f349fe743ec4193d35174cf7f96d63adc9363e", func := "loop.example/g01098/laws.FnExactCountOrders", spec := "fnExactCountOrders", inPlace := ["slices.overlaps[int]"], unfollowed := true, recurses := true, plainKeys := false, apart := false }
def FnExactCountOrdersSaid : Prop := fnExactCountOrdersRow.holds Try.pinned (OpenSpec.ofChange fnExactCountOrdersSpec)

/-- ITS FALSE NEIGHBOUR: 'it returns false'. Refute it at one input. -/
def fnExactCountOrdersWrong : ChangeSpec := { name := "fnExactCountOrders", fn := fun _ => fun
  | [d] => { results := [.lit (.bool false)], args := [d] }
  | _ => none }
def FnExactCountOrdersWrongFalsely : Prop := fnExactCountOrdersRow.holds Try.pinned (OpenSpec.ofChange fnExactCountOrdersWrong)

/-- 'laws.FnExactFewestRegisters': WHATEVER THE INPUT: true; the input reads as it did. -/
def fnExactFewestRegistersSpec : ChangeSpec := { name := "fnExactFewestRegisters", fn := fun _ => fun
  | [d] => { results := [.lit (.bool true)], args := [d] }
  | _ => none }
def fnExactFewestRegistersRow : OpenClaim := { program := "ytbbjgcagkmlngaa", sum := "c12cea5922de631f85f22ee150f349fe743ec4193d35174cf7f96d63adc9363e", func := "loop.example/g01098/laws.FnExactFewestRegisters", spec := "fnExactFewestRegisters", inPlace := ["slices.overlaps[int]"], unfollowed := true, recurses := true, plainKeys := false, apart := false }
def FnExactFewestRegistersSaid : Prop := fnExactFewestRegistersRow.holds Try.pinned (OpenSpec.ofChange fnExactFewestRegistersSpec)

/-- ITS FALSE NEIGHBOUR: 'it returns false'. Refute it at one input. -/
def fnExactFewestRegistersWrong : ChangeSpec := { name := "fnExactFewestRegisters", fn := fun _ => fun
  | [d] => { results := [.lit (.bool false)], args := [d] }
  | _ => none }
def FnExactFewestRegistersWrongFalsely : Prop := fnExactFewestRegistersRow.holds Try.pinned (OpenSpec.ofChange fnExactFewestRegistersWrong)

/-- 'laws.FnExactBestOrder': WHATEVER THE INPUT: true; the input reads as it did. -/
def fnExactBestOrderSpec : ChangeSpec := { name := "fnExactBestOrder", fn := fun _ => fun
  | [d] => { results := [.lit (.bool true)], args := [d] }
  | _ => none }
def fnExactBestOrderRow : OpenClaim := { program := "ytbbjgcagkmlngaa", sum := "c12cea5922de631f85f22ee150f349fe743ec4193d35174cf7f96d63adc9363e", func := "loop.example/g01098/laws.FnExactBestOrder", spec := "fnExactBestOrder", inPlace := ["slices.overlaps[int]"], unfollowed := true, recurses := true, plainKeys := false, apart := false }
def FnExactBestOrderSaid : Prop := fnExactBestOrderRow.holds Try.pinned (OpenSpec.ofChange fnExactBestOrderSpec)

/-- ITS FALSE NEIGHBOUR: 'it returns false'. Refute it at one input. -/
def fnExactBestOrderWrong : ChangeSpec := { name := "fnExactBestOrder", fn := fun _ => fun
  | [d] => { results := [.lit (.bool false)], args := [d] }
  | _ => none }
def FnExactBestOrderWrongFalsely : Prop := fnExactBestOrderRow.holds Try.pinned (OpenSpec.ofChange fnExactBestOrderWrong)

/-- 'laws.FnExactOrdersWithin': WHATEVER THE INPUT: true; the input reads as it did. -/
def fnExactOrdersWithinSpec : ChangeSpec := { name := "fnExactOrdersWithin", fn := fun _ => fun
  | [d1, d2] => { results := [.lit (.bool true)], args := [d1, d2] }
  | _ => none }
def fnExactOrdersWithinRow : OpenClaim := { program := "ytbbjgcagkmlngaa", sum := "c12cea5922de631f85f22ee150f349fe743ec4193d35174cf7f96d63adc9363e", func := "loop.example/g01098/laws.FnExactOrdersWithin", spec := "fnExactOrdersWithin", inPlace := ["slices.overlaps[int]"], unfollowed := true, recurses := true, plainKeys := false, apart := false }
def FnExactOrdersWithinSaid : Prop := fnExactOrdersWithinRow.holds Try.pinned (OpenSpec.ofChange fnExactOrdersWithinSpec)

/-- ITS FALSE NEIGHBOUR: 'it returns false'. Refute it at one input. -/
def fnExactOrdersWithinWrong : ChangeSpec := { name := "fnExactOrdersWithin", fn := fun _ => fun
  | [d1, d2] => { results := [.lit (.bool false)], args := [d1, d2] }
  | _ => none }
def FnExactOrdersWithinWrongFalsely : Prop := fnExactOrdersWithinRow.holds Try.pinned (OpenSpec.ofChange fnExactOrdersWithinWrong)

/-- 'laws.FnExactRenameRegisters': WHATEVER THE INPUT: true; the input reads as it did. -/
def fnExactRenameRegistersSpec : ChangeSpec := { name := "fnExactRenameRegisters", fn := fun _ => fun
  | [d1, d2] => { results := [.lit (.bool true)], args := [d1, d2] }
  | _ => none }
def fnExactRenameRegistersRow : OpenClaim := { program := "ytbbjgcagkmlngaa", sum := "c12cea5922de631f85f22ee150f349fe743ec4193d35174cf7f96d63adc9363e", func := "loop.example/g01098/laws.FnExactRenameRegisters", spec := "fnExactRenameRegisters", unfollowed := true, recurses := true, plainKeys := false, apart := false }
def FnExactRenameRegistersSaid : Prop := fnExactRenameRegistersRow.holds Try.pinned (OpenSpec.ofChange fnExactRenameRegistersSpec)

/-- ITS FALSE NEIGHBOUR: 'it returns false'. Refute it at one input. -/
def fnExactRenameRegistersWrong : ChangeSpec := { name := "fnExactRenameRegisters", fn := fun _ => fun
  | [d1, d2] => { results := [.lit (.bool false)], args := [d1, d2] }
  | _ => none }
def FnExactRenameRegistersWrongFalsely : Prop := fnExactRenameRegistersRow.holds Try.pinned (OpenSpec.ofChange fnExactRenameRegistersWrong)

/- THE SECOND FORM. 'bulk': how many values and letters a reading holds, each counted each time it is reached (what is shared counts as often as it is met; a slice's spare places count too). A statement '..UptoSaid' is the law's where the arguments, and the package variables that the reading takes, are together of bulk at most 1048576: NARROWER than '..Said'. Prove '..Said' where nothing that the law and all that it calls make is longer than what came in: it says more and counts as full. Else prove '..UptoSaid'. A law counts once. -/
mutual
def uptoBulk {H : Type} : DataW H → Nat
  | .lit (.string bytes) => bytes.length + 1
  | .lit _ => 1
  | .nil => 1
  | .ptr d => uptoBulk d + 1
  | .slice elems spare => uptoBulkAll elems + uptoBulkAll spare + 1
  | .agg parts => uptoBulkAll parts + 1
  | .iface _ d => uptoBulk d + 1
  | .map entries => uptoBulkEntries entries + 1
  | .held _ => 1
def uptoBulkAll {H : Type} : List (DataW H) → Nat
  | [] => 0
  | d :: r => uptoBulk d + uptoBulkAll r
def uptoBulkEntries {H : Type} : List (Lit × DataW H) → Nat
  | [] => 0
  | x :: r => uptoBulkEntry x + uptoBulkEntries r
def uptoBulkEntry {H : Type} : Lit × DataW H → Nat
  | (.string bytes, d) => bytes.length + uptoBulk d + 1
  | (_, d) => uptoBulk d + 1
 end
def uptoSmall : (H : Type) → List (DataW H) → Bool := fun _ ds => decide (uptoBulkAll ds ≤ 1048576)
def OpenSpec.upto (s : _root_.Go.ChangeSpec) : _root_.Go.OpenSpec := { _root_.Go.OpenSpec.ofChange s with cond := some uptoSmall }

/-- 'laws.FnExactIsRegCode', WHERE WHAT IT READS IS OF BULK AT MOST 1048576: true; the input reads as it did. -/
def fnExactIsRegCodeUptoRow : OpenClaim := { program := "ytbbjgcagkmlngaa", sum := "c12cea5922de631f85f22ee150f349fe743ec4193d35174cf7f96d63adc9363e", func := "loop.example/g01098/laws.FnExactIsRegCode", spec := "fnExactIsRegCode", unfollowed := true, recurses := true, plainKeys := false, apart := false, narrowed := true }
def FnExactIsRegCodeUptoSaid : Prop := fnExactIsRegCodeUptoRow.holds Try.pinned (OpenSpec.upto fnExactIsRegCodeSpec)

/-- 'laws.FnExactRegCodePlan', WHERE WHAT IT READS IS OF BULK AT MOST 1048576: true; the input reads as it did. -/
def fnExactRegCodePlanUptoRow : OpenClaim := { program := "ytbbjgcagkmlngaa", sum := "c12cea5922de631f85f22ee150f349fe743ec4193d35174cf7f96d63adc9363e", func := "loop.example/g01098/laws.FnExactRegCodePlan", spec := "fnExactRegCodePlan", unfollowed := true, recurses := true, plainKeys := false, apart := false, narrowed := true }
def FnExactRegCodePlanUptoSaid : Prop := fnExactRegCodePlanUptoRow.holds Try.pinned (OpenSpec.upto fnExactRegCodePlanSpec)

/-- 'laws.FnExactRunRegCode', WHERE WHAT IT READS IS OF BULK AT MOST 1048576: true; the input reads as it did. -/
def fnExactRunRegCodeUptoRow : OpenClaim := { program := "ytbbjgcagkmlngaa", sum := "c12cea5922de631f85f22ee150f349fe743ec4193d35174cf7f96d63adc9363e", func := "loop.example/g01098/laws.FnExactRunRegCode", spec := "fnExactRunRegCode", unfollowed := true, recurses := true, plainKeys := false, apart := false, narrowed := true }
def FnExactRunRegCodeUptoSaid : Prop := fnExactRunRegCodeUptoRow.holds Try.pinned (OpenSpec.upto fnExactRunRegCodeSpec)

/-- 'laws.FnExactNeededAfter', WHERE WHAT IT READS IS OF BULK AT MOST 1048576: true; the input reads as it did. -/
def fnExactNeededAfterUptoRow : OpenClaim := { program := "ytbbjgcagkmlngaa", sum := "c12cea5922de631f85f22ee150f349fe743ec4193d35174cf7f96d63adc9363e", func := "loop.example/g01098/laws.FnExactNeededAfter", spec := "fnExactNeededAfter", unfollowed := true, recurses := true, plainKeys := false, apart := false, narrowed := true }
def FnExactNeededAfterUptoSaid : Prop := fnExactNeededAfterUptoRow.holds Try.pinned (OpenSpec.upto fnExactNeededAfterSpec)

/-- 'laws.FnExactPressureOf', WHERE WHAT IT READS IS OF BULK AT MOST 1048576: true; the input reads as it did. -/
def fnExactPressureOfUptoRow : OpenClaim := { program := "ytbbjgcagkmlngaa", sum := "c12cea5922de631f85f22ee150f349fe743ec4193d35174cf7f96d63adc9363e", func := "loop.example/g01098/laws.FnExactPressureOf", spec := "fnExactPressureOf", inPlace := ["slices.overlaps[int]"], unfollowed := true, recurses := true, plainKeys := false, apart := false, narrowed := true }
def FnExactPressureOfUptoSaid : Prop := fnExactPressureOfUptoRow.holds Try.pinned (OpenSpec.upto fnExactPressureOfSpec)

/-- 'laws.FnExactAllocatePlan', WHERE WHAT IT READS IS OF BULK AT MOST 1048576: true; the input reads as it did. -/
def fnExactAllocatePlanUptoRow : OpenClaim := { program := "ytbbjgcagkmlngaa", sum := "c12cea5922de631f85f22ee150f349fe743ec4193d35174cf7f96d63adc9363e", func := "loop.example/g01098/laws.FnExactAllocatePlan", spec := "fnExactAllocatePlan", inPlace := ["slices.overlaps[int]"], unfollowed := true, recurses := true, plainKeys := false, apart := false, narrowed := true }
def FnExactAllocatePlanUptoSaid : Prop := fnExactAllocatePlanUptoRow.holds Try.pinned (OpenSpec.upto fnExactAllocatePlanSpec)

/-- 'laws.FnExactCheckRegCode', WHERE WHAT IT READS IS OF BULK AT MOST 1048576: true; the input reads as it did. -/
def fnExactCheckRegCodeUptoRow : OpenClaim := { program := "ytbbjgcagkmlngaa", sum := "c12cea5922de631f85f22ee150f349fe743ec4193d35174cf7f96d63adc9363e", func := "loop.example/g01098/laws.FnExactCheckRegCode", spec := "fnExactCheckRegCode", unfollowed := true, recurses := true, plainKeys := false, apart := false, narrowed := true }
def FnExactCheckRegCodeUptoSaid : Prop := fnExactCheckRegCodeUptoRow.holds Try.pinned (OpenSpec.upto fnExactCheckRegCodeSpec)

/-- 'laws.FnExactCountOrders', WHERE WHAT IT READS IS OF BULK AT MOST 1048576: true; the input reads as it did. -/
def fnExactCountOrdersUptoRow : OpenClaim := { program := "ytbbjgcagkmlngaa", sum := "c12cea5922de631f85f22ee150f349fe743ec4193d35174cf7f96d63adc9363e", func := "loop.example/g01098/laws.FnExactCountOrders", spec := "fnExactCountOrders", inPlace := ["slices.overlaps[int]"], unfollowed := true, recurses := true, plainKeys := false, apart := false, narrowed := true }
def FnExactCountOrdersUptoSaid : Prop := fnExactCountOrdersUptoRow.holds Try.pinned (OpenSpec.upto fnExactCountOrdersSpec)

/-- 'laws.FnExactFewestRegisters', WHERE WHAT IT READS IS OF BULK AT MOST 1048576: true; the input reads as it did. -/
def fnExactFewestRegistersUptoRow : OpenClaim := { program := "ytbbjgcagkmlngaa", sum := "c12cea5922de631f85f22ee150f349fe743ec4193d35174cf7f96d63adc9363e", func := "loop.example/g01098/laws.FnExactFewestRegisters", spec := "fnExactFewestRegisters", inPlace := ["slices.overlaps[int]"], unfollowed := true, recurses := true, plainKeys := false, apart := false, narrowed := true }
def FnExactFewestRegistersUptoSaid : Prop := fnExactFewestRegistersUptoRow.holds Try.pinned (OpenSpec.upto fnExactFewestRegistersSpec)

/-- 'laws.FnExactBestOrder', WHERE WHAT IT READS IS OF BULK AT MOST 1048576: true; the input reads as it did. -/
def fnExactBestOrderUptoRow : OpenClaim := { program := "ytbbjgcagkmlngaa", sum := "c12cea5922de631f85f22ee150f349fe743ec4193d35174cf7f96d63adc9363e", func := "loop.example/g01098/laws.FnExactBestOrder", spec := "fnExactBestOrder", inPlace := ["slices.overlaps[int]"], unfollowed := true, recurses := true, plainKeys := false, apart := false, narrowed := true }
def FnExactBestOrderUptoSaid : Prop := fnExactBestOrderUptoRow.holds Try.pinned (OpenSpec.upto fnExactBestOrderSpec)

/-- 'laws.FnExactOrdersWithin', WHERE WHAT IT READS IS OF BULK AT MOST 1048576: true; the input reads as it did. -/
def fnExactOrdersWithinUptoRow : OpenClaim := { program := "ytbbjgcagkmlngaa", sum := "c12cea5922de631f85f22ee150f349fe743ec4193d35174cf7f96d63adc9363e", func := "loop.example/g01098/laws.FnExactOrdersWithin", spec := "fnExactOrdersWithin", inPlace := ["slices.overlaps[int]"], unfollowed := true, recurses := true, plainKeys := false, apart := false, narrowed := true }
def FnExactOrdersWithinUptoSaid : Prop := fnExactOrdersWithinUptoRow.holds Try.pinned (OpenSpec.upto fnExactOrdersWithinSpec)

/-- 'laws.FnExactRenameRegisters', WHERE WHAT IT READS IS OF BULK AT MOST 1048576: true; the input reads as it did. -/
def fnExactRenameRegistersUptoRow : OpenClaim := { program := "ytbbjgcagkmlngaa", sum := "c12cea5922de631f85f22ee150f349fe743ec4193d35174cf7f96d63adc9363e", func := "loop.example/g01098/laws.FnExactRenameRegisters", spec := "fnExactRenameRegisters", unfollowed := true, recurses := true, plainKeys := false, apart := false, narrowed := true }
def FnExactRenameRegistersUptoSaid : Prop := fnExactRenameRegistersUptoRow.holds Try.pinned (OpenSpec.upto fnExactRenameRegistersSpec)

end Rows
end Go.Proofs.Ytbbjgcagkmlngaa
