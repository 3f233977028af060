/- Contracts of internal/strconv.formatBits and strconv.FormatInt at the bases 8 and 16, for numbers of 0 to 2^53 - 1. -/
import Derived.Test.YtancidbbkoeokaaGreatDig
import Derived.Test.YtancidbbkoeokaaGreatOwn
import Derived.Lib.LaidTab
import Derived.Lib.AppendIntMem
namespace Go.Proofs.YtancidbbkoeokaaGreat
open Go.ChangeShapes Go.WideShapes Go.ChangeAt Go.RowKit

end Go.Proofs.YtancidbbkoeokaaGreat
