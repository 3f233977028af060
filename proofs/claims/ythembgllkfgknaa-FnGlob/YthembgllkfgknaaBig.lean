/- Contract of laws.big; what is grown twice is grown. -/
import Derived.Test.YthembgllkfgknaaPathOk
namespace Go.Proofs.Ythembgllkfgknaa
open Go.RowKit Go.Shelf

theorem bigc_any (a : Option Addr) (len cap : Nat) (w : World) : Calls Try.prog 5 #[.slice a len cap] w fun e w' => e = .returned (.bool (decide (1048576 < (len : Int)))) ∧ w = w' := by
  go_enter Try.func5, Try.ntmps5
  go_wp2
  go_ret
  exact ⟨rfl, rfl⟩
theorem bt {a b c : World} (h : Below a.heap.size a b) (k : Below b.heap.size b c) : Below a.heap.size a c := h.trans (k.mono h.size)
end Go.Proofs.Ythembgllkfgknaa
