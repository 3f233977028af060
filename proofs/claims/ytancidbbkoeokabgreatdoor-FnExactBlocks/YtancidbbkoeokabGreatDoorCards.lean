/-
  DERIVED. GIVEN WITH THE SEED: THE CARDS: each row of YtancidbbkoeokabGreatDoorRows.lean that lists a variable, with what it lists TIED to the program's text (the seventh form; the later family's looks); each row that meets fmt, with fmt's text TOLD by the authors' own Lean function (tested against real Go, not proved from fmt's source: count such statements apart). THE CARD IS WHAT COUNTS. Prove the row's statement (the work); the ties are given (YtancidbbkoeokabGreatDoorTie.lean); close each card by the builder's one call (the guide's Derived/Test/ToyasCard.lean, 'card_holds'). Laid BY PROGRAM, IN A SANDBOX (cutbox-door.mjs). By AI agents, Wed Nov 11 2026. No macro, syntax, notation, axiom, sorry.
-/
import Derived.Test.YtancidbbkoeokabGreatDoorRows
import GoSem.ClaimSeven
namespace Go.Proofs.YtancidbbkoeokabGreatDoor
namespace Rows

/-- THE TIED CARD OF 'laws.FnExactGetGnu'. -/
def fnExactGetGnuCard : Claim7 := { stood := { row := fnExactGetGnuRow, standIns := [], harness := (true, "14c95c251585677609e71b3c7fb598ebd60ae5eb4e1da76f09d9de8d74ebe8ff"), looks := true }, kinds := [], alts := [], laidByText := true, laidKinds := [.data, .data, .data, .handle, .data], laidTests := true, laidLooks := .later }
def FnExactGetGnuCardSaid : Prop := Claim7.holds Tryz.pinned (.plain (OpenSpec.ofChange fnExactGetGnuSpec)) fnExactGetGnuCard

/-- THE TIED CARD OF 'laws.FnExactGetPax'. -/
def fnExactGetPaxCard : Claim7 := { stood := { row := fnExactGetPaxRow, standIns := [], harness := (true, "14c95c251585677609e71b3c7fb598ebd60ae5eb4e1da76f09d9de8d74ebe8ff"), looks := true }, kinds := [], alts := [], laidByText := true, laidKinds := [.data, .data, .data, .handle, .data], laidTests := true, laidLooks := .later }
def FnExactGetPaxCardSaid : Prop := Claim7.holds Tryz.pinned (.plain (OpenSpec.ofChange fnExactGetPaxSpec)) fnExactGetPaxCard

/-- THE TIED CARD OF 'laws.FnExactRecords'. -/
def fnExactRecordsCard : Claim7 := { stood := { row := fnExactRecordsRow, standIns := [], harness := (true, "14c95c251585677609e71b3c7fb598ebd60ae5eb4e1da76f09d9de8d74ebe8ff"), looks := true }, kinds := [], alts := [], laidByText := true, laidKinds := [.data, .data, .data, .handle, .data], laidTests := true, laidLooks := .later }
def FnExactRecordsCardSaid : Prop := Claim7.holds Tryz.pinned (.plain (OpenSpec.ofChange fnExactRecordsSpec)) fnExactRecordsCard

/-- THE TIED CARD OF 'laws.FnExactBlocks'. -/
def fnExactBlocksCard : Claim7 := { stood := { row := fnExactBlocksRow, standIns := [], harness := (true, "14c95c251585677609e71b3c7fb598ebd60ae5eb4e1da76f09d9de8d74ebe8ff"), looks := true }, kinds := [], alts := [], laidByText := true, laidKinds := [.data, .data, .data, .data], laidTests := true, laidLooks := .later }
def FnExactBlocksCardSaid : Prop := Claim7.holds Tryz.pinned (.plain (OpenSpec.ofChange fnExactBlocksSpec)) fnExactBlocksCard

/-- THE SECOND FORM's CARD OF 'laws.FnExactGetGnu'. -/
def fnExactGetGnuUptoCard : Claim7 := { stood := { row := fnExactGetGnuUptoRow, standIns := [], harness := (true, "14c95c251585677609e71b3c7fb598ebd60ae5eb4e1da76f09d9de8d74ebe8ff"), looks := true }, kinds := [], alts := [], laidByText := true, laidKinds := [.data, .data, .data, .handle, .data], laidTests := true, laidLooks := .later }
def FnExactGetGnuUptoCardSaid : Prop := Claim7.holds Tryz.pinned (.plain (OpenSpec.upto fnExactGetGnuSpec)) fnExactGetGnuUptoCard

/-- THE SECOND FORM's CARD OF 'laws.FnExactGetPax'. -/
def fnExactGetPaxUptoCard : Claim7 := { stood := { row := fnExactGetPaxUptoRow, standIns := [], harness := (true, "14c95c251585677609e71b3c7fb598ebd60ae5eb4e1da76f09d9de8d74ebe8ff"), looks := true }, kinds := [], alts := [], laidByText := true, laidKinds := [.data, .data, .data, .handle, .data], laidTests := true, laidLooks := .later }
def FnExactGetPaxUptoCardSaid : Prop := Claim7.holds Tryz.pinned (.plain (OpenSpec.upto fnExactGetPaxSpec)) fnExactGetPaxUptoCard

/-- THE SECOND FORM's CARD OF 'laws.FnExactRecords'. -/
def fnExactRecordsUptoCard : Claim7 := { stood := { row := fnExactRecordsUptoRow, standIns := [], harness := (true, "14c95c251585677609e71b3c7fb598ebd60ae5eb4e1da76f09d9de8d74ebe8ff"), looks := true }, kinds := [], alts := [], laidByText := true, laidKinds := [.data, .data, .data, .handle, .data], laidTests := true, laidLooks := .later }
def FnExactRecordsUptoCardSaid : Prop := Claim7.holds Tryz.pinned (.plain (OpenSpec.upto fnExactRecordsSpec)) fnExactRecordsUptoCard

/-- THE SECOND FORM's CARD OF 'laws.FnExactBlocks'. -/
def fnExactBlocksUptoCard : Claim7 := { stood := { row := fnExactBlocksUptoRow, standIns := [], harness := (true, "14c95c251585677609e71b3c7fb598ebd60ae5eb4e1da76f09d9de8d74ebe8ff"), looks := true }, kinds := [], alts := [], laidByText := true, laidKinds := [.data, .data, .data, .data], laidTests := true, laidLooks := .later }
def FnExactBlocksUptoCardSaid : Prop := Claim7.holds Tryz.pinned (.plain (OpenSpec.upto fnExactBlocksSpec)) fnExactBlocksUptoCard
end Rows
end Go.Proofs.YtancidbbkoeokabGreatDoor
