/-
  DERIVED. GIVEN WITH THE SEED: THE CARDS: each row of YtodjnafalbbmjaaDoorRows.lean that lists a variable, with what it lists TIED to the program's text (the seventh form; the later family's looks); each row that meets fmt, with fmt's text TOLD by the authors' own Lean function (tested against real Go, not proved from fmt's source: count such statements apart). THE CARD IS WHAT COUNTS. Prove the row's statement (the work); the ties are given (YtodjnafalbbmjaaDoorTie.lean); close each card by the builder's one call (the guide's Derived/Test/ToyasCard.lean, 'card_holds'). Laid BY PROGRAM, IN A SANDBOX (cutbox-door.mjs). By AI agents, Wed Nov 11 2026. No macro, syntax, notation, axiom, sorry.
-/
import Derived.Test.YtodjnafalbbmjaaDoorRows
import GoSem.ClaimSeven
namespace Go.Proofs.YtodjnafalbbmjaaDoor
namespace Rows

/-- THE TIED CARD OF 'laws.FnExactWindowsOf'. -/
def fnExactWindowsOfCard : Claim7 := { stood := { row := fnExactWindowsOfRow, standIns := [], harness := (true, "b108b1d51310d4f0db0efb142226c845a2c3f873661b9c21c837a49537f54524"), looks := false }, kinds := [], alts := [], laidByText := true, laidKinds := [.data, .data], laidTests := true, laidLooks := .later }
def FnExactWindowsOfCardSaid : Prop := Claim7.holds Tryd.pinned (.plain (OpenSpec.ofChange fnExactWindowsOfSpec)) fnExactWindowsOfCard

/-- THE SECOND FORM's CARD OF 'laws.FnExactWindowsOf'. -/
def fnExactWindowsOfUptoCard : Claim7 := { stood := { row := fnExactWindowsOfUptoRow, standIns := [], harness := (true, "b108b1d51310d4f0db0efb142226c845a2c3f873661b9c21c837a49537f54524"), looks := false }, kinds := [], alts := [], laidByText := true, laidKinds := [.data, .data], laidTests := true, laidLooks := .later }
def FnExactWindowsOfUptoCardSaid : Prop := Claim7.holds Tryd.pinned (.plain (OpenSpec.upto fnExactWindowsOfSpec)) fnExactWindowsOfUptoCard
end Rows
end Go.Proofs.YtodjnafalbbmjaaDoor
