/- The law laws.FnExactHeadSum returns true. -/
import Derived.Test.YtkpdeeembnjmnaaDoorHeadSum
namespace Go.Proofs.YtkpdeeembnjmnaaDoor
open Go.RowKit

theorem headSum_law (s : ByteArray) (w : World) (hF : FW w) :
    Calls Tryd.prog 3 #[.string s] w fun e w' => e = .returned (.bool true) ∧ Below w.heap.size w w' := by
  by_cases hs : s.size ≤ 1048576
  · have H1 := Lib.hid (fun w => headSum_spec s w hs)
    have H2 := Lib.hid (fun w h => headSum_impl s w hs h)
    have HF := Lib.hid hF
    generalize headSumv s = b at H1 H2
    have q : (b != b) = false := by simp
    clear hF
    go_enter Tryd.func3, Tryd.ntmps3
    go_wp2_with fail
    refine (H1.out _).mono ?_
    rintro e w1 ⟨rfl, hb1⟩
    have F1 := Lib.hid (HF.out.below hb1)
    go_wp2_with fail
    refine (H2.out _ F1.out).mono ?_
    rintro e w2 ⟨rfl, hb2⟩
    go_wp2_with fail
    go_ret
    exact ⟨rfl, hb1.trans (hb2.mono hb1.size)⟩
  · go_enter Tryd.func3, Tryd.ntmps3
    go_wp2_with fail
    go_ret
    exact ⟨rfl, Below.refl _ _⟩
end Go.Proofs.YtkpdeeembnjmnaaDoor
