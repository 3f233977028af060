/- The law laws.FnExactDepth returns true. -/
import Derived.Test.YtifkgihhdmmhdaaDepth
namespace Go.Proofs.Ytifkgihhdmmhdaa
open Go.RowKit Go.Shelf

theorem depth_law (s : ByteArray) (w : World) :
    Calls Try.prog 9 #[.string s] w fun e w' => e = .returned (.bool true) ∧ Below w.heap.size w w' := by
  by_cases hs : s.size ≤ 1048576
  · have H1 := Lib.hid (fun w => depth_spec s w (by omega))
    have H2 := Lib.hid (fun w => depth_impl s w (by omega))
    generalize depthv s = b at H1 H2
    have hz : (b != b) = false := by simp
    go_enter Try.func9, Try.ntmps9
    go_wp2_with fail
    refine (H1.out _).mono ?_
    rintro e w1 ⟨rfl, hb1⟩
    go_wp2_with fail
    refine (H2.out _).mono ?_
    rintro e w2 ⟨rfl, hb2⟩
    go_wp2_with fail
    go_ret
    exact ⟨rfl, hb1.trans (hb2.mono hb1.size)⟩
  · go_enter Try.func9, Try.ntmps9
    go_wp2_with fail
    go_ret
    exact ⟨rfl, Below.refl _ _⟩
end Go.Proofs.Ytifkgihhdmmhdaa
