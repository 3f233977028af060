/- The law laws.FnExactPartOk returns true. -/
import Derived.Test.YtlbanaakjabfnaaPartOk
namespace Go.Proofs.Ytlbanaakjabfnaa
open Go.ChangeShapes Go.WideShapes Go.ChangeAt Go.RowKit

theorem partOk_law (s : ByteArray) (w : World) :
    Calls Try.prog 4 #[.string s] w fun e w' => e = .returned (.bool true) ∧ Below w.heap.size w w' := by
  by_cases hs : s.size ≤ 1048576
  · have H1 := Lib.hid (fun w => partOk_spec s w (by omega))
    have H2 := Lib.hid (fun w => partOk_impl s w)
    generalize partOkv s = b at H1 H2
    go_enter Try.func4, Try.ntmps4
    go_wp2_with fail
    refine (H1.out _).mono ?_
    rintro e w' ⟨rfl, rfl⟩
    go_wp2_with fail
    refine (H2.out _).mono ?_
    rintro e w' ⟨rfl, rfl⟩
    go_wp2_with fail
    go_ret
    exact ⟨rfl, Below.refl _ _⟩
  · go_enter Try.func4, Try.ntmps4
    go_wp2_with fail
    go_ret
    exact ⟨rfl, Below.refl _ _⟩
end Go.Proofs.Ytlbanaakjabfnaa
