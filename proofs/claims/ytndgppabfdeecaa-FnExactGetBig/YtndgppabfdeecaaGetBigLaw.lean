/- The law laws.FnExactGetBig returns true, the world unchanged. -/
import Derived.Test.YtndgppabfdeecaaGetBig
namespace Go.Proofs.Ytndgppabfdeecaa
open Go.ChangeShapes Go.WideShapes Go.ChangeAt Go.RowKit

theorem getBig_law (s : ByteArray) (w : World) :
    Calls Try.prog 6 #[.string s] w fun e w' => e = .returned (.bool true) ∧ Below w.heap.size w w' := by
  by_cases hs : s.size ≤ 1048576
  · have c1 := fun w => getBig_spec s w (by omega)
    have c2 := fun w => getBig_impl s w (by omega)
    generalize bigv s = v at c1 c2
    obtain ⟨n, f⟩ := v
    have C1 := Lib.hid c1
    have C2 := Lib.hid c2
    clear c1 c2
    have hz : (n != n) = false := by simp
    have hy : (f != f) = false := by simp
    go_enter Try.func6, Try.ntmps6
    go_wp2_with (first | (go_at_call 13; refine (C1.out _).mono ?_; rintro e w' ⟨rfl, rfl⟩) | (go_at_call 14; refine (C2.out _).mono ?_; rintro e w' ⟨rfl, rfl⟩))
    go_ret
    exact ⟨rfl, Below.refl _ _⟩
  · go_enter Try.func6, Try.ntmps6
    go_wp2_with fail
    go_ret
    exact ⟨rfl, Below.refl _ _⟩
end Go.Proofs.Ytndgppabfdeecaa
