/- The law laws.FnExactClean returns true. -/
import Derived.Test.YtifkgihhdmmhdaaClean
namespace Go.Proofs.Ytifkgihhdmmhdaa
open Go.RowKit Go.Shelf

theorem clean_law (s : ByteArray) (w : World) :
    Calls Try.prog 12 #[.string s] w fun e w' => e = .returned (.bool true) ∧ Below w.heap.size w w' := by
  by_cases hs : s.size ≤ 1048576
  · have H1 := Lib.hid (fun w => clean_spec s w (by omega))
    have H2 := Lib.hid (fun w => clean_impl s w (by omega))
    generalize cleanv s = c at H1 H2
    obtain ⟨a, b⟩ := c
    have q := self_eq a
    go_enter Try.func12, Try.ntmps12
    go_wp2_with fail
    refine (H1.out _).mono ?_
    rintro e w1 ⟨rfl, hb1⟩
    go_wp2_with fail
    refine (H2.out _).mono ?_
    rintro e w2 ⟨rfl, hb2⟩
    go_wp2_with fail
    go_ret
    exact ⟨rfl, hb1.trans (hb2.mono hb1.size)⟩
  · go_enter Try.func12, Try.ntmps12
    go_wp2_with fail
    go_ret
    exact ⟨rfl, Below.refl _ _⟩
end Go.Proofs.Ytifkgihhdmmhdaa
