/-
  DERIVED. GIVEN WITH THE SEED: THE CARDS: each row of YtcnmbolmgifgfabGreatDoorRows.lean that lists a variable, with what it lists TIED to the program's text (the seventh form; the later family's looks); each row that meets fmt, with fmt's text TOLD by the authors' own Lean function (tested against real Go, not proved from fmt's source: count such statements apart). THE CARD IS WHAT COUNTS. Prove the row's statement (the work); the ties are given (YtcnmbolmgifgfabGreatDoorTie.lean); close each card by the builder's one call (the guide's Derived/Test/ToyasCard.lean, 'card_holds'). Laid BY PROGRAM, IN A SANDBOX (cutbox-door.mjs). By AI agents, Wed Nov 11 2026. No macro, syntax, notation, axiom, sorry.
-/
import Derived.Test.YtcnmbolmgifgfabGreatDoorRows
import GoSem.ClaimSeven
namespace Go.Proofs.YtcnmbolmgifgfabGreatDoor
namespace Rows

/-- THE TIED CARD OF 'laws.FnExactPutNewc'. -/
def fnExactPutNewcCard : Claim7 := { stood := { row := fnExactPutNewcRow, standIns := [], harness := (true, "19e7aa53b3fbb7c752b097484022b0042b0978475e5211a42b45335f90259f35"), looks := true }, kinds := [], alts := [], laidByText := true, laidKinds := [.data, .data, .data], laidTests := true, laidLooks := .later }
def FnExactPutNewcCardSaid : Prop := Claim7.holds Tryz.pinned (.plain (OpenSpec.ofChange fnExactPutNewcSpec)) fnExactPutNewcCard

/-- THE TIED CARD OF 'laws.FnExactPutOdc'. -/
def fnExactPutOdcCard : Claim7 := { stood := { row := fnExactPutOdcRow, standIns := [], harness := (true, "19e7aa53b3fbb7c752b097484022b0042b0978475e5211a42b45335f90259f35"), looks := true }, kinds := [], alts := [], laidByText := true, laidKinds := [.data, .data, .data], laidTests := true, laidLooks := .later }
def FnExactPutOdcCardSaid : Prop := Claim7.holds Tryz.pinned (.plain (OpenSpec.ofChange fnExactPutOdcSpec)) fnExactPutOdcCard

/-- THE TIED CARD OF 'laws.FnExactGetOdc'. -/
def fnExactGetOdcCard : Claim7 := { stood := { row := fnExactGetOdcRow, standIns := [], harness := (true, "19e7aa53b3fbb7c752b097484022b0042b0978475e5211a42b45335f90259f35"), looks := true }, kinds := [], alts := [], laidByText := true, laidKinds := [.data, .data, .data], laidTests := true, laidLooks := .later }
def FnExactGetOdcCardSaid : Prop := Claim7.holds Tryz.pinned (.plain (OpenSpec.ofChange fnExactGetOdcSpec)) fnExactGetOdcCard

/-- THE TIED CARD OF 'laws.FnExactGetNewc'. -/
def fnExactGetNewcCard : Claim7 := { stood := { row := fnExactGetNewcRow, standIns := [], harness := (true, "19e7aa53b3fbb7c752b097484022b0042b0978475e5211a42b45335f90259f35"), looks := true }, kinds := [], alts := [], laidByText := true, laidKinds := [.data, .data, .data], laidTests := true, laidLooks := .later }
def FnExactGetNewcCardSaid : Prop := Claim7.holds Tryz.pinned (.plain (OpenSpec.ofChange fnExactGetNewcSpec)) fnExactGetNewcCard

/-- THE TIED CARD OF 'laws.FnExactGetUstar'. -/
def fnExactGetUstarCard : Claim7 := { stood := { row := fnExactGetUstarRow, standIns := [], harness := (true, "19e7aa53b3fbb7c752b097484022b0042b0978475e5211a42b45335f90259f35"), looks := true }, kinds := [], alts := [], laidByText := true, laidKinds := [.data, .data, .data, .handle, .data], laidTests := true, laidLooks := .later }
def FnExactGetUstarCardSaid : Prop := Claim7.holds Tryz.pinned (.plain (OpenSpec.ofChange fnExactGetUstarSpec)) fnExactGetUstarCard

/-- THE SECOND FORM's CARD OF 'laws.FnExactPutNewc'. -/
def fnExactPutNewcUptoCard : Claim7 := { stood := { row := fnExactPutNewcUptoRow, standIns := [], harness := (true, "19e7aa53b3fbb7c752b097484022b0042b0978475e5211a42b45335f90259f35"), looks := true }, kinds := [], alts := [], laidByText := true, laidKinds := [.data, .data, .data], laidTests := true, laidLooks := .later }
def FnExactPutNewcUptoCardSaid : Prop := Claim7.holds Tryz.pinned (.plain (OpenSpec.upto fnExactPutNewcSpec)) fnExactPutNewcUptoCard

/-- THE SECOND FORM's CARD OF 'laws.FnExactPutOdc'. -/
def fnExactPutOdcUptoCard : Claim7 := { stood := { row := fnExactPutOdcUptoRow, standIns := [], harness := (true, "19e7aa53b3fbb7c752b097484022b0042b0978475e5211a42b45335f90259f35"), looks := true }, kinds := [], alts := [], laidByText := true, laidKinds := [.data, .data, .data], laidTests := true, laidLooks := .later }
def FnExactPutOdcUptoCardSaid : Prop := Claim7.holds Tryz.pinned (.plain (OpenSpec.upto fnExactPutOdcSpec)) fnExactPutOdcUptoCard

/-- THE SECOND FORM's CARD OF 'laws.FnExactGetOdc'. -/
def fnExactGetOdcUptoCard : Claim7 := { stood := { row := fnExactGetOdcUptoRow, standIns := [], harness := (true, "19e7aa53b3fbb7c752b097484022b0042b0978475e5211a42b45335f90259f35"), looks := true }, kinds := [], alts := [], laidByText := true, laidKinds := [.data, .data, .data], laidTests := true, laidLooks := .later }
def FnExactGetOdcUptoCardSaid : Prop := Claim7.holds Tryz.pinned (.plain (OpenSpec.upto fnExactGetOdcSpec)) fnExactGetOdcUptoCard

/-- THE SECOND FORM's CARD OF 'laws.FnExactGetNewc'. -/
def fnExactGetNewcUptoCard : Claim7 := { stood := { row := fnExactGetNewcUptoRow, standIns := [], harness := (true, "19e7aa53b3fbb7c752b097484022b0042b0978475e5211a42b45335f90259f35"), looks := true }, kinds := [], alts := [], laidByText := true, laidKinds := [.data, .data, .data], laidTests := true, laidLooks := .later }
def FnExactGetNewcUptoCardSaid : Prop := Claim7.holds Tryz.pinned (.plain (OpenSpec.upto fnExactGetNewcSpec)) fnExactGetNewcUptoCard

/-- THE SECOND FORM's CARD OF 'laws.FnExactGetUstar'. -/
def fnExactGetUstarUptoCard : Claim7 := { stood := { row := fnExactGetUstarUptoRow, standIns := [], harness := (true, "19e7aa53b3fbb7c752b097484022b0042b0978475e5211a42b45335f90259f35"), looks := true }, kinds := [], alts := [], laidByText := true, laidKinds := [.data, .data, .data, .handle, .data], laidTests := true, laidLooks := .later }
def FnExactGetUstarUptoCardSaid : Prop := Claim7.holds Tryz.pinned (.plain (OpenSpec.upto fnExactGetUstarSpec)) fnExactGetUstarUptoCard
end Rows
end Go.Proofs.YtcnmbolmgifgfabGreatDoor
