/- The tables that strconv reads, carried from world to world; strconv.FormatInt at the bases 8, 10 and 16; impl.fieldDigits and impl.zeros. -/
import Derived.Test.YtcnmbolmgifgfaaPutBase
import Derived.Test.YtcnmbolmgifgfaaFmtInt
import Derived.Test.YtcnmbolmgifgfaaDecText
namespace Go.Proofs.Ytcnmbolmgifgfaa
open Go.ChangeShapes Go.WideShapes Go.ChangeAt Go.RowKit

theorem numv_size (b : Nat) (n : Int) : (numv b n).size = (numeral b n.toNat).length := ba_size _
def Valid (n width : Int) : Prop := 0 ≤ n ∧ n ≤ 9007199254740991 ∧ 1 ≤ width ∧ width ≤ 20

end Go.Proofs.Ytcnmbolmgifgfaa
