/-
  DERIVED. GIVEN WITH THE SEED: THE CARDS: each row of YtpimeekcnndhiaaDoorRows.lean that lists a variable, with what it lists TIED to the program's text (the seventh form; the later family's looks); each row that meets fmt, with fmt's text TOLD by the authors' own Lean function (tested against real Go, not proved from fmt's source: count such statements apart). THE CARD IS WHAT COUNTS. Prove the row's statement (the work); the ties are given (YtpimeekcnndhiaaDoorTie.lean); close each card by the builder's one call (the guide's Derived/Test/ToyasCard.lean, 'card_holds'). Laid BY PROGRAM, IN A SANDBOX (cutbox-door.mjs). By AI agents, Wed Nov 11 2026. No macro, syntax, notation, axiom, sorry.
-/
import Derived.Test.YtpimeekcnndhiaaDoorRows
import GoSem.ClaimSeven
namespace Go.Proofs.YtpimeekcnndhiaaDoor
namespace Rows

/-- THE TIED CARD OF 'laws.FnExactPutCard'. -/
def fnExactPutCardCard : Claim7 := { stood := { row := fnExactPutCardRow, standIns := [], harness := (true, "bf24216e04efba54281e34904799db090397c326587ccf30bf75de71c72ef7f9"), looks := true }, kinds := [], alts := [], laidByText := true, laidKinds := [.data, .data, .data], laidTests := true, laidLooks := .later }
def FnExactPutCardCardSaid : Prop := Claim7.holds Tryd.pinned (.plain (OpenSpec.ofChange fnExactPutCardSpec)) fnExactPutCardCard

/-- THE SECOND FORM's CARD OF 'laws.FnExactPutCard'. -/
def fnExactPutCardUptoCard : Claim7 := { stood := { row := fnExactPutCardUptoRow, standIns := [], harness := (true, "bf24216e04efba54281e34904799db090397c326587ccf30bf75de71c72ef7f9"), looks := true }, kinds := [], alts := [], laidByText := true, laidKinds := [.data, .data, .data], laidTests := true, laidLooks := .later }
def FnExactPutCardUptoCardSaid : Prop := Claim7.holds Tryd.pinned (.plain (OpenSpec.upto fnExactPutCardSpec)) fnExactPutCardUptoCard
end Rows
end Go.Proofs.YtpimeekcnndhiaaDoor
