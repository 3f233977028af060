/-
  DERIVED. GIVEN WITH THE SEED: THE CARDS: each row of YtpimeekcnndhiaaGreatDoorRows.lean that lists a variable, with what it lists TIED to the program's text (the seventh form; the later family's looks); each row that meets fmt, with fmt's text TOLD by the authors' own Lean function (tested against real Go, not proved from fmt's source: count such statements apart). THE CARD IS WHAT COUNTS. Prove the row's statement (the work); the ties are given (YtpimeekcnndhiaaGreatDoorTie.lean); close each card by the builder's one call (the guide's Derived/Test/ToyasCard.lean, 'card_holds'). Laid BY PROGRAM, IN A SANDBOX (cutbox-door.mjs). By AI agents, Wed Nov 11 2026. No macro, syntax, notation, axiom, sorry.
-/
import Derived.Test.YtpimeekcnndhiaaGreatDoorRows
import GoSem.ClaimSeven
namespace Go.Proofs.YtpimeekcnndhiaaGreatDoor
namespace Rows

/-- THE TIED CARD OF 'laws.FnExactPutOdc'. -/
def fnExactPutOdcCard : Claim7 := { stood := { row := fnExactPutOdcRow, standIns := [], harness := (true, "0ed3f85e35eb909e8170f5d819ab1fa4c5248181ac9bc24803d7880638c0a8ed"), looks := true }, kinds := [], alts := [], laidByText := true, laidKinds := [.data, .data, .data], laidTests := true, laidLooks := .later }
def FnExactPutOdcCardSaid : Prop := Claim7.holds Tryz.pinned (.plain (OpenSpec.ofChange fnExactPutOdcSpec)) fnExactPutOdcCard

/-- THE SECOND FORM's CARD OF 'laws.FnExactPutOdc'. -/
def fnExactPutOdcUptoCard : Claim7 := { stood := { row := fnExactPutOdcUptoRow, standIns := [], harness := (true, "0ed3f85e35eb909e8170f5d819ab1fa4c5248181ac9bc24803d7880638c0a8ed"), looks := true }, kinds := [], alts := [], laidByText := true, laidKinds := [.data, .data, .data], laidTests := true, laidLooks := .later }
def FnExactPutOdcUptoCardSaid : Prop := Claim7.holds Tryz.pinned (.plain (OpenSpec.upto fnExactPutOdcSpec)) fnExactPutOdcUptoCard
end Rows
end Go.Proofs.YtpimeekcnndhiaaGreatDoor
