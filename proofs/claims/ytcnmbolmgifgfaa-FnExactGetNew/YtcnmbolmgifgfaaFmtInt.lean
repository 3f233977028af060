/- Contracts of internal/strconv.FormatInt and strconv.FormatInt at the bases 8 and 16, for numbers of 0 to 2^53 - 1: the numeral. -/
import Derived.Test.YtcnmbolmgifgfaaFmtBits
namespace Go.Proofs.Ytcnmbolmgifgfaa
open Go.ChangeShapes Go.WideShapes Go.ChangeAt Go.RowKit

end Go.Proofs.Ytcnmbolmgifgfaa
