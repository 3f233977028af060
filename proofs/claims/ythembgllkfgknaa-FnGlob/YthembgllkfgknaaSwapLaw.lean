/- The law laws.FnExactSwap returns true. -/
import Derived.Test.YthembgllkfgknaaSwapI
namespace Go.Proofs.Ythembgllkfgknaa
open Go.RowKit Go.Shelf

theorem swap_law (s f t : ByteArray) (w : World) :
    Calls Try.prog 4 #[.string s, .string f, .string t] w fun e w' => e = .returned (.bool true) ∧ Below w.heap.size w w' := by
  by_cases hs : s.size ≤ 1048576
  · by_cases hf : f.size ≤ 1048576
    · by_cases ht : t.size ≤ 1048576
      · have H1 := Lib.hid (fun w => swap_spec s f t w hs hf ht)
        have H2 := Lib.hid (fun w => swap_impl s f t w hs hf ht)
        generalize swapv s f t = b at H1 H2
        have q : (b.toList == b.toList) = true := by simp
        go_enter Try.func4, Try.ntmps4
        go_wp2_with fail
        refine (H1.out _).mono ?_
        rintro e w1 ⟨rfl, hb1⟩
        go_wp2_with fail
        refine (H2.out _).mono ?_
        rintro e w2 ⟨rfl, hb2⟩
        go_wp2_with fail
        go_ret
        exact ⟨rfl, hb1.trans (hb2.mono hb1.size)⟩
      · go_enter Try.func4, Try.ntmps4
        go_wp2_with fail
        go_ret
        exact ⟨rfl, Below.refl _ _⟩
    · go_enter Try.func4, Try.ntmps4
      go_wp2_with fail
      go_ret
      exact ⟨rfl, Below.refl _ _⟩
  · go_enter Try.func4, Try.ntmps4
    go_wp2_with fail
    go_ret
    exact ⟨rfl, Below.refl _ _⟩
end Go.Proofs.Ythembgllkfgknaa
