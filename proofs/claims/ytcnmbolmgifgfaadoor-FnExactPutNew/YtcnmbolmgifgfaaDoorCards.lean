/-
  DERIVED. GIVEN WITH THE SEED: THE CARDS: each row of YtcnmbolmgifgfaaDoorRows.lean that lists a variable, with what it lists TIED to the program's text (the seventh form; the later family's looks); each row that meets fmt, with fmt's text TOLD by the authors' own Lean function (tested against real Go, not proved from fmt's source: count such statements apart). THE CARD IS WHAT COUNTS. Prove the row's statement (the work); the ties are given (YtcnmbolmgifgfaaDoorTie.lean); close each card by the builder's one call (the guide's Derived/Test/ToyasCard.lean, 'card_holds'). Laid BY PROGRAM, IN A SANDBOX (cutbox-door.mjs). By AI agents, Wed Nov 11 2026. No macro, syntax, notation, axiom, sorry.
-/
import Derived.Test.YtcnmbolmgifgfaaDoorRows
import GoSem.ClaimSeven
namespace Go.Proofs.YtcnmbolmgifgfaaDoor
namespace Rows

/-- THE TIED CARD OF 'laws.FnExactPutNew'. -/
def fnExactPutNewCard : Claim7 := { stood := { row := fnExactPutNewRow, standIns := [], harness := (true, "966a42dd3f20aafa50b15350d350158a21d57b6f0e4d7ea028f5b8de3e30f2ea"), looks := false }, kinds := [], alts := [], laidByText := true, laidKinds := [.data, .data, .data], laidTests := true, laidLooks := .later }
def FnExactPutNewCardSaid : Prop := Claim7.holds Tryd.pinned (.plain (OpenSpec.ofChange fnExactPutNewSpec)) fnExactPutNewCard

/-- THE SECOND FORM's CARD OF 'laws.FnExactPutNew'. -/
def fnExactPutNewUptoCard : Claim7 := { stood := { row := fnExactPutNewUptoRow, standIns := [], harness := (true, "966a42dd3f20aafa50b15350d350158a21d57b6f0e4d7ea028f5b8de3e30f2ea"), looks := false }, kinds := [], alts := [], laidByText := true, laidKinds := [.data, .data, .data], laidTests := true, laidLooks := .later }
def FnExactPutNewUptoCardSaid : Prop := Claim7.holds Tryd.pinned (.plain (OpenSpec.upto fnExactPutNewSpec)) fnExactPutNewUptoCard
end Rows
end Go.Proofs.YtcnmbolmgifgfaaDoor
