/- Contract of impl.leadNumber at the bases 8, 10 and 16: the number at the start of a string and how many digits it has. -/
import Derived.Test.YtlbanaakjabfnaaDoorNum
import Derived.WalkMore
namespace Go.Proofs.YtlbanaakjabfnaaDoor
open Go.ChangeShapes Go.WideShapes Go.ChangeAt Go.RowKit

theorem ret_pair {a b c d : Int} (h : a = b) (h' : c = d) : Ending.returned (.tuple #[.int .i64 a, .int .i64 c]) = .returned (.tuple #[.int .i64 b, .int .i64 d]) := by rw [h, h']

end Go.Proofs.YtlbanaakjabfnaaDoor
