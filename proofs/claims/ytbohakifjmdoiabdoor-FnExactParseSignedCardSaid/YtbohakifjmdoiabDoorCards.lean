/-
  DERIVED. GIVEN WITH THE SEED: THE CARDS: each row of YtbohakifjmdoiabDoorRows.lean that lists a variable, with what it lists TIED to the program's text (the seventh form; the later family's looks); each row that meets fmt, with fmt's text TOLD by the authors' own Lean function (tested against real Go, not proved from fmt's source: count such statements apart). THE CARD IS WHAT COUNTS. Prove the row's statement (the work); the ties are given (YtbohakifjmdoiabDoorTie.lean); close each card by the builder's one call (the guide's Derived/Test/ToyasCard.lean, 'card_holds'). Laid BY PROGRAM, IN A SANDBOX (cutbox-door.mjs). By AI agents, Wed Nov 11 2026. No macro, syntax, notation, axiom, sorry.
-/
import Derived.Test.YtbohakifjmdoiabDoorRows
import GoSem.ClaimSeven
namespace Go.Proofs.YtbohakifjmdoiabDoor
namespace Rows

/-- THE TIED CARD OF 'laws.FnExactSignedText'. -/
def fnExactSignedTextCard : Claim7 := { stood := { row := fnExactSignedTextRow, standIns := [], harness := (true, "074d6b7efdb7a9d44c26c8a109377a775c6b388128770561cd41cb1eb9667def"), looks := false }, kinds := [], alts := [], laidByText := true, laidKinds := [.data], laidTests := true, laidLooks := .later }
def FnExactSignedTextCardSaid : Prop := Claim7.holds Tryd.pinned (.plain (OpenSpec.ofChange fnExactSignedTextSpec)) fnExactSignedTextCard

/-- THE TIED CARD OF 'laws.FnExactParseSigned'. -/
def fnExactParseSignedCard : Claim7 := { stood := { row := fnExactParseSignedRow, standIns := [], harness := (true, "074d6b7efdb7a9d44c26c8a109377a775c6b388128770561cd41cb1eb9667def"), looks := false }, kinds := [], alts := [], laidByText := true, laidKinds := [.data], laidTests := true, laidLooks := .later }
def FnExactParseSignedCardSaid : Prop := Claim7.holds Tryd.pinned (.plain (OpenSpec.ofChange fnExactParseSignedSpec)) fnExactParseSignedCard

/-- THE SECOND FORM's CARD OF 'laws.FnExactSignedText'. -/
def fnExactSignedTextUptoCard : Claim7 := { stood := { row := fnExactSignedTextUptoRow, standIns := [], harness := (true, "074d6b7efdb7a9d44c26c8a109377a775c6b388128770561cd41cb1eb9667def"), looks := false }, kinds := [], alts := [], laidByText := true, laidKinds := [.data], laidTests := true, laidLooks := .later }
def FnExactSignedTextUptoCardSaid : Prop := Claim7.holds Tryd.pinned (.plain (OpenSpec.upto fnExactSignedTextSpec)) fnExactSignedTextUptoCard

/-- THE SECOND FORM's CARD OF 'laws.FnExactParseSigned'. -/
def fnExactParseSignedUptoCard : Claim7 := { stood := { row := fnExactParseSignedUptoRow, standIns := [], harness := (true, "074d6b7efdb7a9d44c26c8a109377a775c6b388128770561cd41cb1eb9667def"), looks := false }, kinds := [], alts := [], laidByText := true, laidKinds := [.data], laidTests := true, laidLooks := .later }
def FnExactParseSignedUptoCardSaid : Prop := Claim7.holds Tryd.pinned (.plain (OpenSpec.upto fnExactParseSignedSpec)) fnExactParseSignedUptoCard
end Rows
end Go.Proofs.YtbohakifjmdoiabDoor
