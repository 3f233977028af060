/- The law laws.FnExactKind returns true. -/
import Derived.Test.YtkpdeeembnjmnaaFlagK
namespace Go.Proofs.Ytkpdeeembnjmnaa
open Go.RowKit Go.Shelf

theorem kind_law (s : ByteArray) (w : World) :
    Calls Try.prog 4 #[.string s] w fun e w' => e = .returned (.bool true) ∧ Below w.heap.size w w' := by
  by_cases hs : s.size ≤ 1048576
  · have H1 := Lib.hid (fun w => kind_spec s w)
    have H2 := Lib.hid (fun w => kind_impl s w)
    generalize kindv s = b at H1 H2
    have q : (b != b) = false := by simp
    go_enter Try.func4, Try.ntmps4
    go_wp2_with fail
    refine (H1.out _).mono ?_
    rintro e w1 ⟨rfl, hb1⟩
    go_wp2_with fail
    refine (H2.out _).mono ?_
    rintro e w2 ⟨rfl, rfl⟩
    go_wp2_with fail
    go_ret
    exact ⟨rfl, hb1⟩
  · go_enter Try.func4, Try.ntmps4
    go_wp2_with fail
    go_ret
    exact ⟨rfl, Below.refl _ _⟩
end Go.Proofs.Ytkpdeeembnjmnaa
