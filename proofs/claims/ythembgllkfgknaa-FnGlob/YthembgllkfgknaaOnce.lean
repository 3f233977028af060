/- Contract of spec.l01Once. -/
import Derived.Test.YthembgllkfgknaaDraw
namespace Go.Proofs.Ythembgllkfgknaa
open Go.ChangeShapes Go.WideShapes Go.ChangeAt Go.RowKit

/-- A bool drawn. -/
def DrawnB (base : Nat) (a : Option Addr) (len cap c : Nat) (w : World) (e : Ending) (w' : World) : Prop :=
  ∃ b : Bool, e = .returned (.bool b) ∧ CurAt base a len cap w' c ∧ w.grownBy w' (some c)
theorem once_any (base : Nat) (a : Option Addr) (len cap c : Nat) (n : Int) (w : World) (hC : CurAt base a len cap w c) (h0 : 1 ≤ n) (h1 : n ≤ 256) :
    Calls Try.prog 27 #[.pointer (some ⟨c, 0, none⟩), .int .i64 n] w (DrawnB base a len cap c w) := by
  have HC := Lib.hid hC
  clear hC
  go_enter Try.func27, Try.ntmps27
  go_wp2_with fail
  refine (below_any base a len cap c n _ HC.out h0 (by omega)).mono ?_
  rintro e w1 ⟨x, hx, rfl, hc1, g1⟩
  go_wp2_with fail
  go_ret
  exact ⟨_, rfl, hc1, g1⟩

end Go.Proofs.Ythembgllkfgknaa
