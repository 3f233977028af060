/- Contracts of laws.toEntry and laws.szEntry. -/
import Derived.Test.YtgpgkgahbkmdiabGreatDoorEnt
import Derived.Test.YtgpgkgahbkmdiabGreatDoorCom
import Derived.Lib.Hide
namespace Go.Proofs.YtgpgkgahbkmdiabGreatDoor
open Go.ChangeShapes Go.WideShapes Go.ChangeAt Go.RowKit

/-- What is left of a bound behind an entry's texts, or -1. -/
def szv (p l us gr b : ByteArray) (left : Int) : Int := if left < (p.size : Int) + l.size + us.size + gr.size + b.size then -1 else left - ((p.size : Int) + l.size + us.size + gr.size + b.size)
end Go.Proofs.YtgpgkgahbkmdiabGreatDoor
