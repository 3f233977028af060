/-
  DERIVED. GIVEN WITH THE SEED: THE CARDS: each row of YtgpgkgahbkmdiabGreatDoorRows.lean that lists a variable, with what it lists TIED to the program's text (the seventh form; the later family's looks); each row that meets fmt, with fmt's text TOLD by the authors' own Lean function (tested against real Go, not proved from fmt's source: count such statements apart). THE CARD IS WHAT COUNTS. Prove the row's statement (the work); the ties are given (YtgpgkgahbkmdiabGreatDoorTie.lean); close each card by the builder's one call (the guide's Derived/Test/ToyasCard.lean, 'card_holds'). Laid BY PROGRAM, IN A SANDBOX (cutbox-door.mjs). By AI agents, Wed Nov 11 2026. No macro, syntax, notation, axiom, sorry.
-/
import Derived.Test.YtgpgkgahbkmdiabGreatDoorRows
import GoSem.ClaimSeven
namespace Go.Proofs.YtgpgkgahbkmdiabGreatDoor
namespace Rows

/-- THE TIED CARD OF 'laws.FnExactGetHead'. -/
def fnExactGetHeadCard : Claim7 := { stood := { row := fnExactGetHeadRow, standIns := [], harness := (true, "8d546f54d96231eb9707e4c921249a5a67901b81febece31a15054ef8933101e"), looks := true }, kinds := [], alts := [], laidByText := true, laidKinds := [.data, .data, .data, .handle, .data], laidTests := true, laidLooks := .later }
def FnExactGetHeadCardSaid : Prop := Claim7.holds Tryz.pinned (.plain (OpenSpec.ofChange fnExactGetHeadSpec)) fnExactGetHeadCard

/-- THE TIED CARD OF 'laws.FnExactGetLong'. -/
def fnExactGetLongCard : Claim7 := { stood := { row := fnExactGetLongRow, standIns := [], harness := (true, "8d546f54d96231eb9707e4c921249a5a67901b81febece31a15054ef8933101e"), looks := true }, kinds := [], alts := [], laidByText := true, laidKinds := [.data, .data, .data, .handle, .data], laidTests := true, laidLooks := .later }
def FnExactGetLongCardSaid : Prop := Claim7.holds Tryz.pinned (.plain (OpenSpec.ofChange fnExactGetLongSpec)) fnExactGetLongCard

/-- THE TIED CARD OF 'laws.FnExactGetUstar'. -/
def fnExactGetUstarCard : Claim7 := { stood := { row := fnExactGetUstarRow, standIns := [], harness := (true, "8d546f54d96231eb9707e4c921249a5a67901b81febece31a15054ef8933101e"), looks := true }, kinds := [], alts := [], laidByText := true, laidKinds := [.data, .data, .data, .handle, .data], laidTests := true, laidLooks := .later }
def FnExactGetUstarCardSaid : Prop := Claim7.holds Tryz.pinned (.plain (OpenSpec.ofChange fnExactGetUstarSpec)) fnExactGetUstarCard

/-- THE TIED CARD OF 'laws.FnExactGetGnu'. -/
def fnExactGetGnuCard : Claim7 := { stood := { row := fnExactGetGnuRow, standIns := [], harness := (true, "8d546f54d96231eb9707e4c921249a5a67901b81febece31a15054ef8933101e"), looks := true }, kinds := [], alts := [], laidByText := true, laidKinds := [.data, .data, .data, .handle, .data], laidTests := true, laidLooks := .later }
def FnExactGetGnuCardSaid : Prop := Claim7.holds Tryz.pinned (.plain (OpenSpec.ofChange fnExactGetGnuSpec)) fnExactGetGnuCard

/-- THE TIED CARD OF 'laws.FnExactRecords'. -/
def fnExactRecordsCard : Claim7 := { stood := { row := fnExactRecordsRow, standIns := [], harness := (true, "8d546f54d96231eb9707e4c921249a5a67901b81febece31a15054ef8933101e"), looks := true }, kinds := [], alts := [], laidByText := true, laidKinds := [.data, .data, .data, .handle, .data], laidTests := true, laidLooks := .later }
def FnExactRecordsCardSaid : Prop := Claim7.holds Tryz.pinned (.plain (OpenSpec.ofChange fnExactRecordsSpec)) fnExactRecordsCard

/-- THE SECOND FORM's CARD OF 'laws.FnExactGetHead'. -/
def fnExactGetHeadUptoCard : Claim7 := { stood := { row := fnExactGetHeadUptoRow, standIns := [], harness := (true, "8d546f54d96231eb9707e4c921249a5a67901b81febece31a15054ef8933101e"), looks := true }, kinds := [], alts := [], laidByText := true, laidKinds := [.data, .data, .data, .handle, .data], laidTests := true, laidLooks := .later }
def FnExactGetHeadUptoCardSaid : Prop := Claim7.holds Tryz.pinned (.plain (OpenSpec.upto fnExactGetHeadSpec)) fnExactGetHeadUptoCard

/-- THE SECOND FORM's CARD OF 'laws.FnExactGetLong'. -/
def fnExactGetLongUptoCard : Claim7 := { stood := { row := fnExactGetLongUptoRow, standIns := [], harness := (true, "8d546f54d96231eb9707e4c921249a5a67901b81febece31a15054ef8933101e"), looks := true }, kinds := [], alts := [], laidByText := true, laidKinds := [.data, .data, .data, .handle, .data], laidTests := true, laidLooks := .later }
def FnExactGetLongUptoCardSaid : Prop := Claim7.holds Tryz.pinned (.plain (OpenSpec.upto fnExactGetLongSpec)) fnExactGetLongUptoCard

/-- THE SECOND FORM's CARD OF 'laws.FnExactGetUstar'. -/
def fnExactGetUstarUptoCard : Claim7 := { stood := { row := fnExactGetUstarUptoRow, standIns := [], harness := (true, "8d546f54d96231eb9707e4c921249a5a67901b81febece31a15054ef8933101e"), looks := true }, kinds := [], alts := [], laidByText := true, laidKinds := [.data, .data, .data, .handle, .data], laidTests := true, laidLooks := .later }
def FnExactGetUstarUptoCardSaid : Prop := Claim7.holds Tryz.pinned (.plain (OpenSpec.upto fnExactGetUstarSpec)) fnExactGetUstarUptoCard

/-- THE SECOND FORM's CARD OF 'laws.FnExactGetGnu'. -/
def fnExactGetGnuUptoCard : Claim7 := { stood := { row := fnExactGetGnuUptoRow, standIns := [], harness := (true, "8d546f54d96231eb9707e4c921249a5a67901b81febece31a15054ef8933101e"), looks := true }, kinds := [], alts := [], laidByText := true, laidKinds := [.data, .data, .data, .handle, .data], laidTests := true, laidLooks := .later }
def FnExactGetGnuUptoCardSaid : Prop := Claim7.holds Tryz.pinned (.plain (OpenSpec.upto fnExactGetGnuSpec)) fnExactGetGnuUptoCard

/-- THE SECOND FORM's CARD OF 'laws.FnExactRecords'. -/
def fnExactRecordsUptoCard : Claim7 := { stood := { row := fnExactRecordsUptoRow, standIns := [], harness := (true, "8d546f54d96231eb9707e4c921249a5a67901b81febece31a15054ef8933101e"), looks := true }, kinds := [], alts := [], laidByText := true, laidKinds := [.data, .data, .data, .handle, .data], laidTests := true, laidLooks := .later }
def FnExactRecordsUptoCardSaid : Prop := Claim7.holds Tryz.pinned (.plain (OpenSpec.upto fnExactRecordsSpec)) fnExactRecordsUptoCard
end Rows
end Go.Proofs.YtgpgkgahbkmdiabGreatDoor
