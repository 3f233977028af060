/- The law laws.FnExactStrip returns true. -/
import Derived.Test.YtifkgihhdmmhdaaStrip
namespace Go.Proofs.Ytifkgihhdmmhdaa
open Go.RowKit Go.Shelf

theorem strip_law (s : ByteArray) (n : Int) (w : World) :
    Calls Try.prog 14 #[.string s, .int .i64 n] w fun e w' => e = .returned (.bool true) ∧ Below w.heap.size w w' := by
  by_cases hs : s.size ≤ 1048576
  · have H1 := Lib.hid (fun w => strip_spec s n w (by omega))
    have H2 := Lib.hid (fun w => strip_impl s n w (by omega))
    generalize stripv s n = b at H1 H2
    go_enter Try.func14, Try.ntmps14
    go_wp2_with fail
    refine (H1.out _).mono ?_
    rintro e w1 ⟨rfl, hb1⟩
    go_wp2_with fail
    refine (H2.out _).mono ?_
    rintro e w2 ⟨rfl, hb2⟩
    go_wp2_with fail
    go_ret
    exact ⟨rfl, hb1.trans (hb2.mono hb1.size)⟩
  · go_enter Try.func14, Try.ntmps14
    go_wp2_with fail
    go_ret
    exact ⟨rfl, Below.refl _ _⟩
end Go.Proofs.Ytifkgihhdmmhdaa
