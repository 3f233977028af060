/- The law laws.FnExactPathOk returns true. -/
import Derived.Test.YtlbanaakjabfnabPathOk
namespace Go.Proofs.Ytlbanaakjabfnab
open Go.RowKit Go.Shelf

theorem pathOk_law (s : ByteArray) (w : World) :
    Calls Try.prog 3 #[.string s] w fun e w' => e = .returned (.bool true) ∧ Below w.heap.size w w' := by
  by_cases hs : s.size ≤ 1048576
  · have H1 := Lib.hid (fun w => pathOk_spec s w (by omega))
    have H2 := Lib.hid (fun w => pathOk_impl s w (by omega))
    generalize pathOkv s = b at H1 H2
    go_enter Try.func3, Try.ntmps3
    go_wp2_with fail
    refine (H1.out _).mono ?_
    rintro e w1 ⟨rfl, hb1⟩
    go_wp2_with fail
    refine (H2.out _).mono ?_
    rintro e w2 ⟨rfl, hb2⟩
    go_wp2_with fail
    go_ret
    exact ⟨rfl, hb1.trans (hb2.mono hb1.size)⟩
  · go_enter Try.func3, Try.ntmps3
    go_wp2_with fail
    go_ret
    exact ⟨rfl, Below.refl _ _⟩
end Go.Proofs.Ytlbanaakjabfnab
