/-
  DERIVED. GIVEN WITH THE SEED: THE CARDS: each row of YtgpgkgahbkmdiaaDoorRows.lean that lists a variable, with what it lists TIED to the program's text (the seventh form; the later family's looks); each row that meets fmt, with fmt's text TOLD by the authors' own Lean function (tested against real Go, not proved from fmt's source: count such statements apart). THE CARD IS WHAT COUNTS. Prove the row's statement (the work); the ties are given (YtgpgkgahbkmdiaaDoorTie.lean); close each card by the builder's one call (the guide's Derived/Test/ToyasCard.lean, 'card_holds'). Laid BY PROGRAM, IN A SANDBOX (cutbox-door.mjs). By AI agents, Wed Nov 11 2026. No macro, syntax, notation, axiom, sorry.
-/
import Derived.Test.YtgpgkgahbkmdiaaDoorRows
import GoSem.ClaimSeven
namespace Go.Proofs.YtgpgkgahbkmdiaaDoor
namespace Rows

/-- THE TIED CARD OF 'laws.FnExactPutHead'. -/
def fnExactPutHeadCard : Claim7 := { stood := { row := fnExactPutHeadRow, standIns := [], harness := (true, "cdfcaf579be43c58fb791346fa6a7fa6958d8ac8a1c9fbd959a3be7ebc113b52"), looks := false }, kinds := [], alts := [], laidByText := true, laidKinds := [.data, .data, .data, .data], laidTests := true, laidLooks := .later }
def FnExactPutHeadCardSaid : Prop := Claim7.holds Tryd.pinned (.plain (OpenSpec.ofChange fnExactPutHeadSpec)) fnExactPutHeadCard

/-- THE TIED CARD OF 'laws.FnExactPutLong'. -/
def fnExactPutLongCard : Claim7 := { stood := { row := fnExactPutLongRow, standIns := [], harness := (true, "cdfcaf579be43c58fb791346fa6a7fa6958d8ac8a1c9fbd959a3be7ebc113b52"), looks := false }, kinds := [], alts := [], laidByText := true, laidKinds := [.data, .data, .data, .data], laidTests := true, laidLooks := .later }
def FnExactPutLongCardSaid : Prop := Claim7.holds Tryd.pinned (.plain (OpenSpec.ofChange fnExactPutLongSpec)) fnExactPutLongCard

/-- THE TIED CARD OF 'laws.FnExactLongName'. -/
def fnExactLongNameCard : Claim7 := { stood := { row := fnExactLongNameRow, standIns := [], harness := (true, "cdfcaf579be43c58fb791346fa6a7fa6958d8ac8a1c9fbd959a3be7ebc113b52"), looks := false }, kinds := [], alts := [], laidByText := true, laidKinds := [.data, .data, .data, .data], laidTests := true, laidLooks := .later }
def FnExactLongNameCardSaid : Prop := Claim7.holds Tryd.pinned (.plain (OpenSpec.ofChange fnExactLongNameSpec)) fnExactLongNameCard

/-- THE SECOND FORM's CARD OF 'laws.FnExactPutHead'. -/
def fnExactPutHeadUptoCard : Claim7 := { stood := { row := fnExactPutHeadUptoRow, standIns := [], harness := (true, "cdfcaf579be43c58fb791346fa6a7fa6958d8ac8a1c9fbd959a3be7ebc113b52"), looks := false }, kinds := [], alts := [], laidByText := true, laidKinds := [.data, .data, .data, .data], laidTests := true, laidLooks := .later }
def FnExactPutHeadUptoCardSaid : Prop := Claim7.holds Tryd.pinned (.plain (OpenSpec.upto fnExactPutHeadSpec)) fnExactPutHeadUptoCard

/-- THE SECOND FORM's CARD OF 'laws.FnExactPutLong'. -/
def fnExactPutLongUptoCard : Claim7 := { stood := { row := fnExactPutLongUptoRow, standIns := [], harness := (true, "cdfcaf579be43c58fb791346fa6a7fa6958d8ac8a1c9fbd959a3be7ebc113b52"), looks := false }, kinds := [], alts := [], laidByText := true, laidKinds := [.data, .data, .data, .data], laidTests := true, laidLooks := .later }
def FnExactPutLongUptoCardSaid : Prop := Claim7.holds Tryd.pinned (.plain (OpenSpec.upto fnExactPutLongSpec)) fnExactPutLongUptoCard

/-- THE SECOND FORM's CARD OF 'laws.FnExactLongName'. -/
def fnExactLongNameUptoCard : Claim7 := { stood := { row := fnExactLongNameUptoRow, standIns := [], harness := (true, "cdfcaf579be43c58fb791346fa6a7fa6958d8ac8a1c9fbd959a3be7ebc113b52"), looks := false }, kinds := [], alts := [], laidByText := true, laidKinds := [.data, .data, .data, .data], laidTests := true, laidLooks := .later }
def FnExactLongNameUptoCardSaid : Prop := Claim7.holds Tryd.pinned (.plain (OpenSpec.upto fnExactLongNameSpec)) fnExactLongNameUptoCard
end Rows
end Go.Proofs.YtgpgkgahbkmdiaaDoor
