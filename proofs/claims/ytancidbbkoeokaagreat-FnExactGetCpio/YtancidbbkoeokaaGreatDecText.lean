/- Contracts of spec.DecText, impl.DecText and the law laws.FnExactDecText, for every int. -/
import Derived.Test.YtancidbbkoeokaaGreatDigSl
import Derived.Test.YtancidbbkoeokaaGreatShelf
import Derived.Lib.AppendIntMem
import Derived.Lib.ItoaLen
namespace Go.Proofs.YtancidbbkoeokaaGreat
open Go.ChangeShapes Go.WideShapes Go.ChangeAt Go.RowKit

theorem below_grow (w : World) (q : Nat) (os : Array Obj) : Below w.heap.size w (Sort.grow (w.drewN q) os) :=
  ⟨rfl, rfl, rfl, by simp [Sort.grow, World.drewN], fun k hk => by simp [Sort.grow, World.drewN, Array.getElem?_append, hk]⟩

def decText (n : Int) : List UInt8 := if n < 0 then 45 :: numeral 10 n.natAbs else numeral 10 n.toNat
def decTextv (n : Int) : ByteArray := ⟨(decText n).toArray⟩
theorem itoa_eq (n : Int) : Lib.itoa n = decText n := by
  unfold Lib.itoa decText; rw [decDigits_eq, decDigits_eq]

end Go.Proofs.YtancidbbkoeokaaGreat
