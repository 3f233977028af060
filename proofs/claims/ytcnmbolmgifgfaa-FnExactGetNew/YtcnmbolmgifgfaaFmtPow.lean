/- Contracts of internal/strconv.formatBits and strconv.FormatInt at the bases 8 and 16, for numbers of 0 to 2^53 - 1. -/
import Derived.Test.YtcnmbolmgifgfaaDig
import Derived.Test.YtcnmbolmgifgfaaOwn
import Derived.Lib.LaidTab
import Derived.Lib.AppendIntMem
namespace Go.Proofs.Ytcnmbolmgifgfaa
open Go.ChangeShapes Go.WideShapes Go.ChangeAt Go.RowKit

end Go.Proofs.Ytcnmbolmgifgfaa
