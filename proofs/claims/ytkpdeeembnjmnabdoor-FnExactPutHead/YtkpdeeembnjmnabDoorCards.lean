/-
  DERIVED. GIVEN WITH THE SEED: THE CARDS: each row of YtkpdeeembnjmnabDoorRows.lean that lists a variable, with what it lists TIED to the program's text (the seventh form; the later family's looks); each row that meets fmt, with fmt's text TOLD by the authors' own Lean function (tested against real Go, not proved from fmt's source: count such statements apart). THE CARD IS WHAT COUNTS. Prove the row's statement (the work); the ties are given (YtkpdeeembnjmnabDoorTie.lean); close each card by the builder's one call (the guide's Derived/Test/ToyasCard.lean, 'card_holds'). Laid BY PROGRAM, IN A SANDBOX (cutbox-door.mjs). By AI agents, Wed Nov 11 2026. No macro, syntax, notation, axiom, sorry.
-/
import Derived.Test.YtkpdeeembnjmnabDoorRows
import GoSem.ClaimSeven
namespace Go.Proofs.YtkpdeeembnjmnabDoor
namespace Rows

/-- THE TIED CARD OF 'laws.FnExactPutHead'. -/
def fnExactPutHeadCard : Claim7 := { stood := { row := fnExactPutHeadRow, standIns := [], harness := (true, "b6b82aa830c270eba54b10c3c4fade781d728413ebdf462c686e73019e0aa7bc"), looks := false }, kinds := [], alts := [], laidByText := true, laidKinds := [.data, .data, .data, .data], laidTests := true, laidLooks := .later }
def FnExactPutHeadCardSaid : Prop := Claim7.holds Tryd.pinned (.plain (OpenSpec.ofChange fnExactPutHeadSpec)) fnExactPutHeadCard

/-- THE SECOND FORM's CARD OF 'laws.FnExactPutHead'. -/
def fnExactPutHeadUptoCard : Claim7 := { stood := { row := fnExactPutHeadUptoRow, standIns := [], harness := (true, "b6b82aa830c270eba54b10c3c4fade781d728413ebdf462c686e73019e0aa7bc"), looks := false }, kinds := [], alts := [], laidByText := true, laidKinds := [.data, .data, .data, .data], laidTests := true, laidLooks := .later }
def FnExactPutHeadUptoCardSaid : Prop := Claim7.holds Tryd.pinned (.plain (OpenSpec.upto fnExactPutHeadSpec)) fnExactPutHeadUptoCard
end Rows
end Go.Proofs.YtkpdeeembnjmnabDoor
