/- The law laws.FnExactSplit returns true. -/
import Derived.Test.YtlbanaakjabfnabSplit
namespace Go.Proofs.Ytlbanaakjabfnab
open Go.RowKit Go.Shelf

theorem split_law (s : ByteArray) (w : World) :
    Calls Try.prog 6 #[.string s] w fun e w' => e = .returned (.bool true) ∧ Below w.heap.size w w' := by
  by_cases hs : s.size ≤ 1048576
  · have H1 := Lib.hid (fun w => split_spec s w (by omega))
    have H2 := Lib.hid (fun w => split_impl s w (by omega))
    generalize splitP s = p at H1 H2
    generalize splitN s = n at H1 H2
    generalize splitOk s = o at H1 H2
    have q : (o != o) = false := by simp
    go_enter Try.func6, Try.ntmps6
    go_wp2_with fail
    refine (H1.out _).mono ?_
    rintro e w1 ⟨rfl, hb1⟩
    go_wp2_with fail
    refine (H2.out _).mono ?_
    rintro e w2 ⟨rfl, hb2⟩
    go_wp2_with fail
    go_ret
    exact ⟨rfl, hb1.trans (hb2.mono hb1.size)⟩
  · go_enter Try.func6, Try.ntmps6
    go_wp2_with fail
    go_ret
    exact ⟨rfl, Below.refl _ _⟩
end Go.Proofs.Ytlbanaakjabfnab
