/- The law laws.FnExactFlag returns true. -/
import Derived.Test.YtkpdeeembnjmnaaFlagK
namespace Go.Proofs.Ytkpdeeembnjmnaa
open Go.RowKit Go.Shelf

theorem flag_law (k : Int) (w : World) :
    Calls Try.prog 3 #[.int .i64 k] w fun e w' => e = .returned (.bool true) ∧ Below w.heap.size w w' := by
  have H1 := Lib.hid (fun w => flag_spec k w)
  have H2 := Lib.hid (fun w => flag_impl k w)
  generalize flagv k = b at H1 H2
  go_enter Try.func3, Try.ntmps3
  go_wp2_with fail
  refine (H1.out _).mono ?_
  rintro e w1 ⟨rfl, hb1⟩
  go_wp2_with fail
  refine (H2.out _).mono ?_
  rintro e w2 ⟨rfl, rfl⟩
  go_wp2_with fail
  go_ret
  exact ⟨rfl, hb1⟩
end Go.Proofs.Ytkpdeeembnjmnaa
