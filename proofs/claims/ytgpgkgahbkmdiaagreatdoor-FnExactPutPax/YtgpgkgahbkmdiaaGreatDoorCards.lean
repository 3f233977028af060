/-
  DERIVED. GIVEN WITH THE SEED: THE CARDS: each row of YtgpgkgahbkmdiaaGreatDoorRows.lean that lists a variable, with what it lists TIED to the program's text (the seventh form; the later family's looks); each row that meets fmt, with fmt's text TOLD by the authors' own Lean function (tested against real Go, not proved from fmt's source: count such statements apart). THE CARD IS WHAT COUNTS. Prove the row's statement (the work); the ties are given (YtgpgkgahbkmdiaaGreatDoorTie.lean); close each card by the builder's one call (the guide's Derived/Test/ToyasCard.lean, 'card_holds'). Laid BY PROGRAM, IN A SANDBOX (cutbox-door.mjs). By AI agents, Wed Nov 11 2026. No macro, syntax, notation, axiom, sorry.
-/
import Derived.Test.YtgpgkgahbkmdiaaGreatDoorRows
import GoSem.ClaimSeven
namespace Go.Proofs.YtgpgkgahbkmdiaaGreatDoor
namespace Rows

/-- THE TIED CARD OF 'laws.FnExactPutGnu'. -/
def fnExactPutGnuCard : Claim7 := { stood := { row := fnExactPutGnuRow, standIns := [], harness := (true, "aa7e5d9ad11b87acf4d6f3230154bcf542b0392fdf34be127154442f794307ef"), looks := false }, kinds := [], alts := [], laidByText := true, laidKinds := [.data, .data, .data, .data], laidTests := true, laidLooks := .later }
def FnExactPutGnuCardSaid : Prop := Claim7.holds Tryz.pinned (.plain (OpenSpec.ofChange fnExactPutGnuSpec)) fnExactPutGnuCard

/-- THE TIED CARD OF 'laws.FnExactPutUstar'. -/
def fnExactPutUstarCard : Claim7 := { stood := { row := fnExactPutUstarRow, standIns := [], harness := (true, "aa7e5d9ad11b87acf4d6f3230154bcf542b0392fdf34be127154442f794307ef"), looks := false }, kinds := [], alts := [], laidByText := true, laidKinds := [.data, .data, .data, .data], laidTests := true, laidLooks := .later }
def FnExactPutUstarCardSaid : Prop := Claim7.holds Tryz.pinned (.plain (OpenSpec.ofChange fnExactPutUstarSpec)) fnExactPutUstarCard

/-- THE TIED CARD OF 'laws.FnExactPutPax'. -/
def fnExactPutPaxCard : Claim7 := { stood := { row := fnExactPutPaxRow, standIns := [], harness := (true, "aa7e5d9ad11b87acf4d6f3230154bcf542b0392fdf34be127154442f794307ef"), looks := false }, kinds := [], alts := [], laidByText := true, laidKinds := [.data, .data, .data, .data], laidTests := true, laidLooks := .later }
def FnExactPutPaxCardSaid : Prop := Claim7.holds Tryz.pinned (.plain (OpenSpec.ofChange fnExactPutPaxSpec)) fnExactPutPaxCard

/-- THE SECOND FORM's CARD OF 'laws.FnExactPutGnu'. -/
def fnExactPutGnuUptoCard : Claim7 := { stood := { row := fnExactPutGnuUptoRow, standIns := [], harness := (true, "aa7e5d9ad11b87acf4d6f3230154bcf542b0392fdf34be127154442f794307ef"), looks := false }, kinds := [], alts := [], laidByText := true, laidKinds := [.data, .data, .data, .data], laidTests := true, laidLooks := .later }
def FnExactPutGnuUptoCardSaid : Prop := Claim7.holds Tryz.pinned (.plain (OpenSpec.upto fnExactPutGnuSpec)) fnExactPutGnuUptoCard

/-- THE SECOND FORM's CARD OF 'laws.FnExactPutUstar'. -/
def fnExactPutUstarUptoCard : Claim7 := { stood := { row := fnExactPutUstarUptoRow, standIns := [], harness := (true, "aa7e5d9ad11b87acf4d6f3230154bcf542b0392fdf34be127154442f794307ef"), looks := false }, kinds := [], alts := [], laidByText := true, laidKinds := [.data, .data, .data, .data], laidTests := true, laidLooks := .later }
def FnExactPutUstarUptoCardSaid : Prop := Claim7.holds Tryz.pinned (.plain (OpenSpec.upto fnExactPutUstarSpec)) fnExactPutUstarUptoCard

/-- THE SECOND FORM's CARD OF 'laws.FnExactPutPax'. -/
def fnExactPutPaxUptoCard : Claim7 := { stood := { row := fnExactPutPaxUptoRow, standIns := [], harness := (true, "aa7e5d9ad11b87acf4d6f3230154bcf542b0392fdf34be127154442f794307ef"), looks := false }, kinds := [], alts := [], laidByText := true, laidKinds := [.data, .data, .data, .data], laidTests := true, laidLooks := .later }
def FnExactPutPaxUptoCardSaid : Prop := Claim7.holds Tryz.pinned (.plain (OpenSpec.upto fnExactPutPaxSpec)) fnExactPutPaxUptoCard
end Rows
end Go.Proofs.YtgpgkgahbkmdiaaGreatDoor
