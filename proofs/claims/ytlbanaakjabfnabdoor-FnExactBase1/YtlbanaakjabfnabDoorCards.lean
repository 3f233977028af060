/-
  DERIVED. GIVEN WITH THE SEED: THE CARDS: each row of YtlbanaakjabfnabDoorRows.lean that lists a variable, with what it lists TIED to the program's text (the seventh form; the later family's looks); each row that meets fmt, with fmt's text TOLD by the authors' own Lean function (tested against real Go, not proved from fmt's source: count such statements apart). THE CARD IS WHAT COUNTS. Prove the row's statement (the work); the ties are given (YtlbanaakjabfnabDoorTie.lean); close each card by the builder's one call (the guide's Derived/Test/ToyasCard.lean, 'card_holds'). Laid BY PROGRAM, IN A SANDBOX (cutbox-door.mjs). By AI agents, Wed Nov 11 2026. No macro, syntax, notation, axiom, sorry.
-/
import Derived.Test.YtlbanaakjabfnabDoorRows
import GoSem.ClaimSeven
namespace Go.Proofs.YtlbanaakjabfnabDoor
namespace Rows

/-- THE TIED CARD OF 'laws.FnExactBase1'. -/
def fnExactBase1Card : Claim7 := { stood := { row := fnExactBase1Row, standIns := [], harness := (true, "e4f5314fec89db002ebdc3c9e63332bb5cae29860d1cb3dbc528737c1990a069"), looks := false }, kinds := [], alts := [], laidByText := true, laidKinds := [.data, .data, .data], laidTests := true, laidLooks := .later }
def FnExactBase1CardSaid : Prop := Claim7.holds Tryd.pinned (.plain (OpenSpec.ofChange fnExactBase1Spec)) fnExactBase1Card

/-- THE TIED CARD OF 'laws.FnExactApply'. -/
def fnExactApplyCard : Claim7 := { stood := { row := fnExactApplyRow, standIns := [], harness := (true, "e4f5314fec89db002ebdc3c9e63332bb5cae29860d1cb3dbc528737c1990a069"), looks := false }, kinds := [], alts := [], laidByText := true, laidKinds := [.data, .data, .data], laidTests := true, laidLooks := .later }
def FnExactApplyCardSaid : Prop := Claim7.holds Tryd.pinned (.plain (OpenSpec.ofChange fnExactApplySpec)) fnExactApplyCard

/-- THE SECOND FORM's CARD OF 'laws.FnExactBase1'. -/
def fnExactBase1UptoCard : Claim7 := { stood := { row := fnExactBase1UptoRow, standIns := [], harness := (true, "e4f5314fec89db002ebdc3c9e63332bb5cae29860d1cb3dbc528737c1990a069"), looks := false }, kinds := [], alts := [], laidByText := true, laidKinds := [.data, .data, .data], laidTests := true, laidLooks := .later }
def FnExactBase1UptoCardSaid : Prop := Claim7.holds Tryd.pinned (.plain (OpenSpec.upto fnExactBase1Spec)) fnExactBase1UptoCard

/-- THE SECOND FORM's CARD OF 'laws.FnExactApply'. -/
def fnExactApplyUptoCard : Claim7 := { stood := { row := fnExactApplyUptoRow, standIns := [], harness := (true, "e4f5314fec89db002ebdc3c9e63332bb5cae29860d1cb3dbc528737c1990a069"), looks := false }, kinds := [], alts := [], laidByText := true, laidKinds := [.data, .data, .data], laidTests := true, laidLooks := .later }
def FnExactApplyUptoCardSaid : Prop := Claim7.holds Tryd.pinned (.plain (OpenSpec.upto fnExactApplySpec)) fnExactApplyUptoCard
end Rows
end Go.Proofs.YtlbanaakjabfnabDoor
