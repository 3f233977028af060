/-
  DERIVED. GIVEN WITH THE SEED: THE CARDS: each row of YtlbanaakjabfnaaDoorRows.lean that lists a variable, with what it lists TIED to the program's text (the seventh form; the later family's looks); each row that meets fmt, with fmt's text TOLD by the authors' own Lean function (tested against real Go, not proved from fmt's source: count such statements apart). THE CARD IS WHAT COUNTS. Prove the row's statement (the work); the ties are given (YtlbanaakjabfnaaDoorTie.lean); close each card by the builder's one call (the guide's Derived/Test/ToyasCard.lean, 'card_holds'). Laid BY PROGRAM, IN A SANDBOX (cutbox-door.mjs). By AI agents, Wed Nov 11 2026. No macro, syntax, notation, axiom, sorry.
-/
import Derived.Test.YtlbanaakjabfnaaDoorRows
import GoSem.ClaimSeven
namespace Go.Proofs.YtlbanaakjabfnaaDoor
namespace Rows

/-- THE TIED CARD OF 'laws.FnExactPutRecord'. -/
def fnExactPutRecordCard : Claim7 := { stood := { row := fnExactPutRecordRow, standIns := [], harness := (true, "43ad2cf615438bf45d879f154fa17b2b34a8b7df22536d8c138fafe7e401f35f"), looks := false }, kinds := [], alts := [], laidByText := true, laidKinds := [.data, .data, .data], laidTests := true, laidLooks := .later }
def FnExactPutRecordCardSaid : Prop := Claim7.holds Tryd.pinned (.plain (OpenSpec.ofChange fnExactPutRecordSpec)) fnExactPutRecordCard

/-- THE TIED CARD OF 'laws.FnExactGetRecord'. -/
def fnExactGetRecordCard : Claim7 := { stood := { row := fnExactGetRecordRow, standIns := [], harness := (true, "43ad2cf615438bf45d879f154fa17b2b34a8b7df22536d8c138fafe7e401f35f"), looks := false }, kinds := [], alts := [], laidByText := true, laidKinds := [.data, .data, .data], laidTests := true, laidLooks := .later }
def FnExactGetRecordCardSaid : Prop := Claim7.holds Tryd.pinned (.plain (OpenSpec.ofChange fnExactGetRecordSpec)) fnExactGetRecordCard

/-- THE TIED CARD OF 'laws.FnExactPutRecords'. -/
def fnExactPutRecordsCard : Claim7 := { stood := { row := fnExactPutRecordsRow, standIns := [], harness := (true, "43ad2cf615438bf45d879f154fa17b2b34a8b7df22536d8c138fafe7e401f35f"), looks := false }, kinds := [], alts := [], laidByText := true, laidKinds := [.data, .data, .data], laidTests := true, laidLooks := .later }
def FnExactPutRecordsCardSaid : Prop := Claim7.holds Tryd.pinned (.plain (OpenSpec.ofChange fnExactPutRecordsSpec)) fnExactPutRecordsCard

/-- THE TIED CARD OF 'laws.FnExactGetRecords'. -/
def fnExactGetRecordsCard : Claim7 := { stood := { row := fnExactGetRecordsRow, standIns := [], harness := (true, "43ad2cf615438bf45d879f154fa17b2b34a8b7df22536d8c138fafe7e401f35f"), looks := false }, kinds := [], alts := [], laidByText := true, laidKinds := [.data, .data, .data], laidTests := true, laidLooks := .later }
def FnExactGetRecordsCardSaid : Prop := Claim7.holds Tryd.pinned (.plain (OpenSpec.ofChange fnExactGetRecordsSpec)) fnExactGetRecordsCard

/-- THE SECOND FORM's CARD OF 'laws.FnExactPutRecord'. -/
def fnExactPutRecordUptoCard : Claim7 := { stood := { row := fnExactPutRecordUptoRow, standIns := [], harness := (true, "43ad2cf615438bf45d879f154fa17b2b34a8b7df22536d8c138fafe7e401f35f"), looks := false }, kinds := [], alts := [], laidByText := true, laidKinds := [.data, .data, .data], laidTests := true, laidLooks := .later }
def FnExactPutRecordUptoCardSaid : Prop := Claim7.holds Tryd.pinned (.plain (OpenSpec.upto fnExactPutRecordSpec)) fnExactPutRecordUptoCard

/-- THE SECOND FORM's CARD OF 'laws.FnExactGetRecord'. -/
def fnExactGetRecordUptoCard : Claim7 := { stood := { row := fnExactGetRecordUptoRow, standIns := [], harness := (true, "43ad2cf615438bf45d879f154fa17b2b34a8b7df22536d8c138fafe7e401f35f"), looks := false }, kinds := [], alts := [], laidByText := true, laidKinds := [.data, .data, .data], laidTests := true, laidLooks := .later }
def FnExactGetRecordUptoCardSaid : Prop := Claim7.holds Tryd.pinned (.plain (OpenSpec.upto fnExactGetRecordSpec)) fnExactGetRecordUptoCard

/-- THE SECOND FORM's CARD OF 'laws.FnExactPutRecords'. -/
def fnExactPutRecordsUptoCard : Claim7 := { stood := { row := fnExactPutRecordsUptoRow, standIns := [], harness := (true, "43ad2cf615438bf45d879f154fa17b2b34a8b7df22536d8c138fafe7e401f35f"), looks := false }, kinds := [], alts := [], laidByText := true, laidKinds := [.data, .data, .data], laidTests := true, laidLooks := .later }
def FnExactPutRecordsUptoCardSaid : Prop := Claim7.holds Tryd.pinned (.plain (OpenSpec.upto fnExactPutRecordsSpec)) fnExactPutRecordsUptoCard

/-- THE SECOND FORM's CARD OF 'laws.FnExactGetRecords'. -/
def fnExactGetRecordsUptoCard : Claim7 := { stood := { row := fnExactGetRecordsUptoRow, standIns := [], harness := (true, "43ad2cf615438bf45d879f154fa17b2b34a8b7df22536d8c138fafe7e401f35f"), looks := false }, kinds := [], alts := [], laidByText := true, laidKinds := [.data, .data, .data], laidTests := true, laidLooks := .later }
def FnExactGetRecordsUptoCardSaid : Prop := Claim7.holds Tryd.pinned (.plain (OpenSpec.upto fnExactGetRecordsSpec)) fnExactGetRecordsUptoCard
end Rows
end Go.Proofs.YtlbanaakjabfnaaDoor
