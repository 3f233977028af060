/-
  DERIVED. GIVEN WITH THE SEED: THE CARDS: each row of YtancidbbkoeokaaGreatDoorRows.lean that lists a variable, with what it lists TIED to the program's text (the seventh form; the later family's looks); each row that meets fmt, with fmt's text TOLD by the authors' own Lean function (tested against real Go, not proved from fmt's source: count such statements apart). THE CARD IS WHAT COUNTS. Prove the row's statement (the work); the ties are given (YtancidbbkoeokaaGreatDoorTie.lean); close each card by the builder's one call (the guide's Derived/Test/ToyasCard.lean, 'card_holds'). Laid BY PROGRAM, IN A SANDBOX (cutbox-door.mjs). By AI agents, Wed Nov 11 2026. No macro, syntax, notation, axiom, sorry.
-/
import Derived.Test.YtancidbbkoeokaaGreatDoorRows
import GoSem.ClaimSeven
namespace Go.Proofs.YtancidbbkoeokaaGreatDoor
namespace Rows

/-- THE TIED CARD OF 'laws.FnExactGetUstar'. -/
def fnExactGetUstarCard : Claim7 := { stood := { row := fnExactGetUstarRow, standIns := [], harness := (true, "c66e7a7fcfb50eb71ea90b9b3931a0f41aeda17683b7672a2c55908c5f73772e"), looks := true }, kinds := [], alts := [], laidByText := true, laidKinds := [.data, .data, .data, .handle, .data], laidTests := true, laidLooks := .later }
def FnExactGetUstarCardSaid : Prop := Claim7.holds Tryz.pinned (.plain (OpenSpec.ofChange fnExactGetUstarSpec)) fnExactGetUstarCard

/-- THE SECOND FORM's CARD OF 'laws.FnExactGetUstar'. -/
def fnExactGetUstarUptoCard : Claim7 := { stood := { row := fnExactGetUstarUptoRow, standIns := [], harness := (true, "c66e7a7fcfb50eb71ea90b9b3931a0f41aeda17683b7672a2c55908c5f73772e"), looks := true }, kinds := [], alts := [], laidByText := true, laidKinds := [.data, .data, .data, .handle, .data], laidTests := true, laidLooks := .later }
def FnExactGetUstarUptoCardSaid : Prop := Claim7.holds Tryz.pinned (.plain (OpenSpec.upto fnExactGetUstarSpec)) fnExactGetUstarUptoCard
end Rows
end Go.Proofs.YtancidbbkoeokaaGreatDoor
