/-
  DERIVED. GIVEN WITH THE SEED: THE CARDS: each row of YtkpdeeembnjmnaaDoorRows.lean that lists a variable, with what it lists TIED to the program's text (the seventh form; the later family's looks); each row that meets fmt, with fmt's text TOLD by the authors' own Lean function (tested against real Go, not proved from fmt's source: count such statements apart). THE CARD IS WHAT COUNTS. Prove the row's statement (the work); the ties are given (YtkpdeeembnjmnaaDoorTie.lean); close each card by the builder's one call (the guide's Derived/Test/ToyasCard.lean, 'card_holds'). Laid BY PROGRAM, IN A SANDBOX (cutbox-door.mjs). By AI agents, Wed Nov 11 2026. No macro, syntax, notation, axiom, sorry.
-/
import Derived.Test.YtkpdeeembnjmnaaDoorRows
import GoSem.ClaimSeven
namespace Go.Proofs.YtkpdeeembnjmnaaDoor
namespace Rows

/-- THE TIED CARD OF 'laws.FnExactHeadSum'. -/
def fnExactHeadSumCard : Claim7 := { stood := { row := fnExactHeadSumRow, standIns := [], harness := (true, "5c28b7b1a6c690d8b08c84e412b1bdeaf866757408987a8c6da317c1a51928e8"), looks := false }, kinds := [], alts := [], laidByText := true, laidKinds := [.data], laidTests := true, laidLooks := .later }
def FnExactHeadSumCardSaid : Prop := Claim7.holds Tryd.pinned (.plain (OpenSpec.ofChange fnExactHeadSumSpec)) fnExactHeadSumCard

/-- THE SECOND FORM's CARD OF 'laws.FnExactHeadSum'. -/
def fnExactHeadSumUptoCard : Claim7 := { stood := { row := fnExactHeadSumUptoRow, standIns := [], harness := (true, "5c28b7b1a6c690d8b08c84e412b1bdeaf866757408987a8c6da317c1a51928e8"), looks := false }, kinds := [], alts := [], laidByText := true, laidKinds := [.data], laidTests := true, laidLooks := .later }
def FnExactHeadSumUptoCardSaid : Prop := Claim7.holds Tryd.pinned (.plain (OpenSpec.upto fnExactHeadSumSpec)) fnExactHeadSumUptoCard
end Rows
end Go.Proofs.YtkpdeeembnjmnaaDoor
