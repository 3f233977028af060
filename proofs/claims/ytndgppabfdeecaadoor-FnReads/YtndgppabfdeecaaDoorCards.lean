/-
  DERIVED. GIVEN WITH THE SEED: THE CARDS: each row of YtndgppabfdeecaaDoorRows.lean that lists a variable, with what it lists TIED to the program's text (the seventh form; the later family's looks); each row that meets fmt, with fmt's text TOLD by the authors' own Lean function (tested against real Go, not proved from fmt's source: count such statements apart). THE CARD IS WHAT COUNTS. Prove the row's statement (the work); the ties are given (YtndgppabfdeecaaDoorTie.lean); close each card by the builder's one call (the guide's Derived/Test/ToyasCard.lean, 'card_holds'). Laid BY PROGRAM, IN A SANDBOX (cutbox-door.mjs). By AI agents, Wed Nov 11 2026. No macro, syntax, notation, axiom, sorry.
-/
import Derived.Test.YtndgppabfdeecaaDoorRows
import GoSem.ClaimSeven
namespace Go.Proofs.YtndgppabfdeecaaDoor
namespace Rows

/-- THE TIED CARD OF 'laws.FnExactPutOct'. -/
def fnExactPutOctCard : Claim7 := { stood := { row := fnExactPutOctRow, standIns := [], harness := (true, "5926e6799ac79b282271212ff1c2b608ee57678e0dc4f18bddd8aba903117809"), looks := false }, kinds := [], alts := [], laidByText := true, laidKinds := [.data, .data, .data], laidTests := true, laidLooks := .later }
def FnExactPutOctCardSaid : Prop := Claim7.holds Tryd.pinned (.plain (OpenSpec.ofChange fnExactPutOctSpec)) fnExactPutOctCard

/-- THE TIED CARD OF 'laws.FnExactPutHex'. -/
def fnExactPutHexCard : Claim7 := { stood := { row := fnExactPutHexRow, standIns := [], harness := (true, "5926e6799ac79b282271212ff1c2b608ee57678e0dc4f18bddd8aba903117809"), looks := false }, kinds := [], alts := [], laidByText := true, laidKinds := [.data, .data, .data], laidTests := true, laidLooks := .later }
def FnExactPutHexCardSaid : Prop := Claim7.holds Tryd.pinned (.plain (OpenSpec.ofChange fnExactPutHexSpec)) fnExactPutHexCard

/-- THE TIED CARD OF 'laws.FnExactPutDec'. -/
def fnExactPutDecCard : Claim7 := { stood := { row := fnExactPutDecRow, standIns := [], harness := (true, "5926e6799ac79b282271212ff1c2b608ee57678e0dc4f18bddd8aba903117809"), looks := false }, kinds := [], alts := [], laidByText := true, laidKinds := [.data, .data, .data], laidTests := true, laidLooks := .later }
def FnExactPutDecCardSaid : Prop := Claim7.holds Tryd.pinned (.plain (OpenSpec.ofChange fnExactPutDecSpec)) fnExactPutDecCard

/-- THE TIED CARD OF 'laws.FnExactGetDec'. -/
def fnExactGetDecCard : Claim7 := { stood := { row := fnExactGetDecRow, standIns := [], harness := (true, "5926e6799ac79b282271212ff1c2b608ee57678e0dc4f18bddd8aba903117809"), looks := false }, kinds := [], alts := [], laidByText := true, laidKinds := [.data, .data, .data], laidTests := true, laidLooks := .later }
def FnExactGetDecCardSaid : Prop := Claim7.holds Tryd.pinned (.plain (OpenSpec.ofChange fnExactGetDecSpec)) fnExactGetDecCard

/-- THE TIED CARD OF 'laws.FnExactReadDec'. -/
def fnExactReadDecCard : Claim7 := { stood := { row := fnExactReadDecRow, standIns := [], harness := (true, "5926e6799ac79b282271212ff1c2b608ee57678e0dc4f18bddd8aba903117809"), looks := false }, kinds := [], alts := [], laidByText := true, laidKinds := [.data, .data, .data], laidTests := true, laidLooks := .later }
def FnExactReadDecCardSaid : Prop := Claim7.holds Tryd.pinned (.plain (OpenSpec.ofChange fnExactReadDecSpec)) fnExactReadDecCard

/-- THE TIED CARD OF 'laws.FnExactDecText'. -/
def fnExactDecTextCard : Claim7 := { stood := { row := fnExactDecTextRow, standIns := [], harness := (true, "5926e6799ac79b282271212ff1c2b608ee57678e0dc4f18bddd8aba903117809"), looks := false }, kinds := [], alts := [], laidByText := true, laidKinds := [.data, .data, .data], laidTests := true, laidLooks := .later }
def FnExactDecTextCardSaid : Prop := Claim7.holds Tryd.pinned (.plain (OpenSpec.ofChange fnExactDecTextSpec)) fnExactDecTextCard

/-- THE TIED CARD OF 'laws.FnNums'. -/
def fnNumsCard : Claim7 := { stood := { row := fnNumsRow, standIns := [], harness := (true, "5926e6799ac79b282271212ff1c2b608ee57678e0dc4f18bddd8aba903117809"), looks := false }, kinds := [], alts := [], laidByText := true, laidKinds := [.data, .data, .data], laidTests := true, laidLooks := .later }
def FnNumsCardSaid : Prop := Claim7.holds Tryd.pinned (.plain (OpenSpec.ofChange fnNumsSpec)) fnNumsCard

/-- THE TIED CARD OF 'laws.FnReads'. -/
def fnReadsCard : Claim7 := { stood := { row := fnReadsRow, standIns := [], harness := (true, "5926e6799ac79b282271212ff1c2b608ee57678e0dc4f18bddd8aba903117809"), looks := false }, kinds := [], alts := [], laidByText := true, laidKinds := [.data, .data, .data], laidTests := true, laidLooks := .later }
def FnReadsCardSaid : Prop := Claim7.holds Tryd.pinned (.plain (OpenSpec.ofChange fnReadsSpec)) fnReadsCard

/-- THE SECOND FORM's CARD OF 'laws.FnExactPutOct'. -/
def fnExactPutOctUptoCard : Claim7 := { stood := { row := fnExactPutOctUptoRow, standIns := [], harness := (true, "5926e6799ac79b282271212ff1c2b608ee57678e0dc4f18bddd8aba903117809"), looks := false }, kinds := [], alts := [], laidByText := true, laidKinds := [.data, .data, .data], laidTests := true, laidLooks := .later }
def FnExactPutOctUptoCardSaid : Prop := Claim7.holds Tryd.pinned (.plain (OpenSpec.upto fnExactPutOctSpec)) fnExactPutOctUptoCard

/-- THE SECOND FORM's CARD OF 'laws.FnExactPutHex'. -/
def fnExactPutHexUptoCard : Claim7 := { stood := { row := fnExactPutHexUptoRow, standIns := [], harness := (true, "5926e6799ac79b282271212ff1c2b608ee57678e0dc4f18bddd8aba903117809"), looks := false }, kinds := [], alts := [], laidByText := true, laidKinds := [.data, .data, .data], laidTests := true, laidLooks := .later }
def FnExactPutHexUptoCardSaid : Prop := Claim7.holds Tryd.pinned (.plain (OpenSpec.upto fnExactPutHexSpec)) fnExactPutHexUptoCard

/-- THE SECOND FORM's CARD OF 'laws.FnExactPutDec'. -/
def fnExactPutDecUptoCard : Claim7 := { stood := { row := fnExactPutDecUptoRow, standIns := [], harness := (true, "5926e6799ac79b282271212ff1c2b608ee57678e0dc4f18bddd8aba903117809"), looks := false }, kinds := [], alts := [], laidByText := true, laidKinds := [.data, .data, .data], laidTests := true, laidLooks := .later }
def FnExactPutDecUptoCardSaid : Prop := Claim7.holds Tryd.pinned (.plain (OpenSpec.upto fnExactPutDecSpec)) fnExactPutDecUptoCard

/-- THE SECOND FORM's CARD OF 'laws.FnExactGetDec'. -/
def fnExactGetDecUptoCard : Claim7 := { stood := { row := fnExactGetDecUptoRow, standIns := [], harness := (true, "5926e6799ac79b282271212ff1c2b608ee57678e0dc4f18bddd8aba903117809"), looks := false }, kinds := [], alts := [], laidByText := true, laidKinds := [.data, .data, .data], laidTests := true, laidLooks := .later }
def FnExactGetDecUptoCardSaid : Prop := Claim7.holds Tryd.pinned (.plain (OpenSpec.upto fnExactGetDecSpec)) fnExactGetDecUptoCard

/-- THE SECOND FORM's CARD OF 'laws.FnExactReadDec'. -/
def fnExactReadDecUptoCard : Claim7 := { stood := { row := fnExactReadDecUptoRow, standIns := [], harness := (true, "5926e6799ac79b282271212ff1c2b608ee57678e0dc4f18bddd8aba903117809"), looks := false }, kinds := [], alts := [], laidByText := true, laidKinds := [.data, .data, .data], laidTests := true, laidLooks := .later }
def FnExactReadDecUptoCardSaid : Prop := Claim7.holds Tryd.pinned (.plain (OpenSpec.upto fnExactReadDecSpec)) fnExactReadDecUptoCard

/-- THE SECOND FORM's CARD OF 'laws.FnExactDecText'. -/
def fnExactDecTextUptoCard : Claim7 := { stood := { row := fnExactDecTextUptoRow, standIns := [], harness := (true, "5926e6799ac79b282271212ff1c2b608ee57678e0dc4f18bddd8aba903117809"), looks := false }, kinds := [], alts := [], laidByText := true, laidKinds := [.data, .data, .data], laidTests := true, laidLooks := .later }
def FnExactDecTextUptoCardSaid : Prop := Claim7.holds Tryd.pinned (.plain (OpenSpec.upto fnExactDecTextSpec)) fnExactDecTextUptoCard

/-- THE SECOND FORM's CARD OF 'laws.FnNums'. -/
def fnNumsUptoCard : Claim7 := { stood := { row := fnNumsUptoRow, standIns := [], harness := (true, "5926e6799ac79b282271212ff1c2b608ee57678e0dc4f18bddd8aba903117809"), looks := false }, kinds := [], alts := [], laidByText := true, laidKinds := [.data, .data, .data], laidTests := true, laidLooks := .later }
def FnNumsUptoCardSaid : Prop := Claim7.holds Tryd.pinned (.plain (OpenSpec.upto fnNumsSpec)) fnNumsUptoCard

/-- THE SECOND FORM's CARD OF 'laws.FnReads'. -/
def fnReadsUptoCard : Claim7 := { stood := { row := fnReadsUptoRow, standIns := [], harness := (true, "5926e6799ac79b282271212ff1c2b608ee57678e0dc4f18bddd8aba903117809"), looks := false }, kinds := [], alts := [], laidByText := true, laidKinds := [.data, .data, .data], laidTests := true, laidLooks := .later }
def FnReadsUptoCardSaid : Prop := Claim7.holds Tryd.pinned (.plain (OpenSpec.upto fnReadsSpec)) fnReadsUptoCard
end Rows
end Go.Proofs.YtndgppabfdeecaaDoor
