/- The law laws.FnExactFollow returns true. -/
import Derived.Test.YtifkgihhdmmhdaaFollow
namespace Go.Proofs.Ytifkgihhdmmhdaa
open Go.RowKit Go.Shelf

theorem follow_law (s d : ByteArray) (w : World) :
    Calls Try.prog 13 #[.string s, .string d] w fun e w' => e = .returned (.bool true) ∧ Below w.heap.size w w' := by
  by_cases hs : s.size ≤ 1048576
  · by_cases hd : d.size ≤ 1048576
    · have H1 := Lib.hid (fun w => follow_spec s d w (by omega) (by omega))
      have H2 := Lib.hid (fun w => follow_impl s d w (by omega) (by omega))
      generalize followv s d = c at H1 H2
      obtain ⟨a, b⟩ := c
      have q := self_eq a
      go_enter Try.func13, Try.ntmps13
      go_wp2_with fail
      refine (H1.out _).mono ?_
      rintro e w1 ⟨rfl, hb1⟩
      go_wp2_with fail
      refine (H2.out _).mono ?_
      rintro e w2 ⟨rfl, hb2⟩
      go_wp2_with fail
      go_ret
      exact ⟨rfl, hb1.trans (hb2.mono hb1.size)⟩
    · go_enter Try.func13, Try.ntmps13
      go_wp2_with fail
      go_ret
      exact ⟨rfl, Below.refl _ _⟩
  · go_enter Try.func13, Try.ntmps13
    go_wp2_with fail
    go_ret
    exact ⟨rfl, Below.refl _ _⟩
end Go.Proofs.Ytifkgihhdmmhdaa
