/- The laws laws.FnExactGetOct and laws.FnExactGetHex return true, the world unchanged. -/
import Derived.Test.YtndgppabfdeecaaGetOH
namespace Go.Proofs.Ytndgppabfdeecaa
open Go.ChangeShapes Go.WideShapes Go.ChangeAt Go.RowKit

theorem getOct_law (s : ByteArray) (w : World) :
    Calls Try.prog 3 #[.string s] w fun e w' => e = .returned (.bool true) ∧ Below w.heap.size w w' := by
  by_cases hs : s.size ≤ 1048576
  · have c1 := fun w => getOct_spec s w (by omega)
    have c2 := fun w => getOct_impl s w (by omega)
    generalize getOctv s.data.toList = v at c1 c2
    obtain ⟨n, f⟩ := v
    have C1 := Lib.hid c1
    have C2 := Lib.hid c2
    clear c1 c2
    have hz : (n != n) = false := by simp
    have hy : (f != f) = false := by simp
    go_enter Try.func3, Try.ntmps3
    go_wp2_with (first | (go_at_call 7; refine (C1.out _).mono ?_; rintro e w' ⟨rfl, rfl⟩) | (go_at_call 8; refine (C2.out _).mono ?_; rintro e w' ⟨rfl, rfl⟩))
    go_ret
    exact ⟨rfl, Below.refl _ _⟩
  · go_enter Try.func3, Try.ntmps3
    go_wp2_with fail
    go_ret
    exact ⟨rfl, Below.refl _ _⟩

theorem getHex_law (s : ByteArray) (w : World) :
    Calls Try.prog 4 #[.string s] w fun e w' => e = .returned (.bool true) ∧ Below w.heap.size w w' := by
  by_cases hs : s.size ≤ 1048576
  · have c1 := fun w => getHex_spec s w (by omega)
    have c2 := fun w => getHex_impl s w (by omega)
    generalize getHexv s.data.toList = v at c1 c2
    obtain ⟨n, f⟩ := v
    have C1 := Lib.hid c1
    have C2 := Lib.hid c2
    clear c1 c2
    have hz : (n != n) = false := by simp
    have hy : (f != f) = false := by simp
    go_enter Try.func4, Try.ntmps4
    go_wp2_with (first | (go_at_call 9; refine (C1.out _).mono ?_; rintro e w' ⟨rfl, rfl⟩) | (go_at_call 10; refine (C2.out _).mono ?_; rintro e w' ⟨rfl, rfl⟩))
    go_ret
    exact ⟨rfl, Below.refl _ _⟩
  · go_enter Try.func4, Try.ntmps4
    go_wp2_with fail
    go_ret
    exact ⟨rfl, Below.refl _ _⟩

end Go.Proofs.Ytndgppabfdeecaa
