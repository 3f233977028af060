/-
  DERIVED. GIVEN WITH THE SEED: THE CARDS: each row of YtkpdeeembnjmnabGreatDoorRows.lean that lists a variable, with what it lists TIED to the program's text (the seventh form; the later family's looks); each row that meets fmt, with fmt's text TOLD by the authors' own Lean function (tested against real Go, not proved from fmt's source: count such statements apart). THE CARD IS WHAT COUNTS. Prove the row's statement (the work); the ties are given (YtkpdeeembnjmnabGreatDoorTie.lean); close each card by the builder's one call (the guide's Derived/Test/ToyasCard.lean, 'card_holds'). Laid BY PROGRAM, IN A SANDBOX (cutbox-door.mjs). By AI agents, Wed Nov 11 2026. No macro, syntax, notation, axiom, sorry.
-/
import Derived.Test.YtkpdeeembnjmnabGreatDoorRows
import GoSem.ClaimSeven
namespace Go.Proofs.YtkpdeeembnjmnabGreatDoor
namespace Rows

/-- THE TIED CARD OF 'laws.FnExactGetHead'. -/
def fnExactGetHeadCard : Claim7 := { stood := { row := fnExactGetHeadRow, standIns := [], harness := (true, "b5b4a58afde6df5d9c12c398e9d952a5bf07ae8d64f10d3f74521a044e09660d"), looks := true }, kinds := [], alts := [], laidByText := true, laidKinds := [.data, .data, .data, .handle, .data], laidTests := true, laidLooks := .later }
def FnExactGetHeadCardSaid : Prop := Claim7.holds Tryz.pinned (.plain (OpenSpec.ofChange fnExactGetHeadSpec)) fnExactGetHeadCard

/-- THE TIED CARD OF 'laws.FnExactPutUstar'. -/
def fnExactPutUstarCard : Claim7 := { stood := { row := fnExactPutUstarRow, standIns := [], harness := (true, "b5b4a58afde6df5d9c12c398e9d952a5bf07ae8d64f10d3f74521a044e09660d"), looks := true }, kinds := [], alts := [], laidByText := true, laidKinds := [.data, .data, .data, .data], laidTests := true, laidLooks := .later }
def FnExactPutUstarCardSaid : Prop := Claim7.holds Tryz.pinned (.plain (OpenSpec.ofChange fnExactPutUstarSpec)) fnExactPutUstarCard

/-- THE TIED CARD OF 'laws.FnExactGetUstar'. -/
def fnExactGetUstarCard : Claim7 := { stood := { row := fnExactGetUstarRow, standIns := [], harness := (true, "b5b4a58afde6df5d9c12c398e9d952a5bf07ae8d64f10d3f74521a044e09660d"), looks := true }, kinds := [], alts := [], laidByText := true, laidKinds := [.data, .data, .data, .handle, .data], laidTests := true, laidLooks := .later }
def FnExactGetUstarCardSaid : Prop := Claim7.holds Tryz.pinned (.plain (OpenSpec.ofChange fnExactGetUstarSpec)) fnExactGetUstarCard

/-- THE TIED CARD OF 'laws.FnExactBlocks'. -/
def fnExactBlocksCard : Claim7 := { stood := { row := fnExactBlocksRow, standIns := [], harness := (true, "b5b4a58afde6df5d9c12c398e9d952a5bf07ae8d64f10d3f74521a044e09660d"), looks := true }, kinds := [], alts := [], laidByText := true, laidKinds := [.data, .data, .data, .data], laidTests := true, laidLooks := .later }
def FnExactBlocksCardSaid : Prop := Claim7.holds Tryz.pinned (.plain (OpenSpec.ofChange fnExactBlocksSpec)) fnExactBlocksCard

/-- THE SECOND FORM's CARD OF 'laws.FnExactGetHead'. -/
def fnExactGetHeadUptoCard : Claim7 := { stood := { row := fnExactGetHeadUptoRow, standIns := [], harness := (true, "b5b4a58afde6df5d9c12c398e9d952a5bf07ae8d64f10d3f74521a044e09660d"), looks := true }, kinds := [], alts := [], laidByText := true, laidKinds := [.data, .data, .data, .handle, .data], laidTests := true, laidLooks := .later }
def FnExactGetHeadUptoCardSaid : Prop := Claim7.holds Tryz.pinned (.plain (OpenSpec.upto fnExactGetHeadSpec)) fnExactGetHeadUptoCard

/-- THE SECOND FORM's CARD OF 'laws.FnExactPutUstar'. -/
def fnExactPutUstarUptoCard : Claim7 := { stood := { row := fnExactPutUstarUptoRow, standIns := [], harness := (true, "b5b4a58afde6df5d9c12c398e9d952a5bf07ae8d64f10d3f74521a044e09660d"), looks := true }, kinds := [], alts := [], laidByText := true, laidKinds := [.data, .data, .data, .data], laidTests := true, laidLooks := .later }
def FnExactPutUstarUptoCardSaid : Prop := Claim7.holds Tryz.pinned (.plain (OpenSpec.upto fnExactPutUstarSpec)) fnExactPutUstarUptoCard

/-- THE SECOND FORM's CARD OF 'laws.FnExactGetUstar'. -/
def fnExactGetUstarUptoCard : Claim7 := { stood := { row := fnExactGetUstarUptoRow, standIns := [], harness := (true, "b5b4a58afde6df5d9c12c398e9d952a5bf07ae8d64f10d3f74521a044e09660d"), looks := true }, kinds := [], alts := [], laidByText := true, laidKinds := [.data, .data, .data, .handle, .data], laidTests := true, laidLooks := .later }
def FnExactGetUstarUptoCardSaid : Prop := Claim7.holds Tryz.pinned (.plain (OpenSpec.upto fnExactGetUstarSpec)) fnExactGetUstarUptoCard

/-- THE SECOND FORM's CARD OF 'laws.FnExactBlocks'. -/
def fnExactBlocksUptoCard : Claim7 := { stood := { row := fnExactBlocksUptoRow, standIns := [], harness := (true, "b5b4a58afde6df5d9c12c398e9d952a5bf07ae8d64f10d3f74521a044e09660d"), looks := true }, kinds := [], alts := [], laidByText := true, laidKinds := [.data, .data, .data, .data], laidTests := true, laidLooks := .later }
def FnExactBlocksUptoCardSaid : Prop := Claim7.holds Tryz.pinned (.plain (OpenSpec.upto fnExactBlocksSpec)) fnExactBlocksUptoCard
end Rows
end Go.Proofs.YtkpdeeembnjmnabGreatDoor
