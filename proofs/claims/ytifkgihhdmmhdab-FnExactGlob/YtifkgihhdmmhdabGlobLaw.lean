/- The law laws.FnExactGlob returns true. -/
import Derived.Test.YtifkgihhdmmhdabGlobS
namespace Go.Proofs.Ytifkgihhdmmhdab
open Go.RowKit Go.Shelf

theorem glob_spec (p s : ByteArray) (w : World) (hp : p.size ≤ 1048576) (hs : s.size ≤ 1048576) :
    Calls Try.prog 6 #[.string p, .string s] w fun e w' => e = .returned (.bool (globv p s)) ∧ Below w.heap.size w w' := by
  by_cases h1 : p.size ≤ 50
  · have g1 : (p.size : Int) ≤ 50 := by omega
    by_cases h2 : s.size ≤ 300
    · have g2 : (s.size : Int) ≤ 300 := by omega
      have H := Lib.hid (fun w => l02Glob_any p s w h1 h2)
      rw [globv_short h1 h2]
      generalize globFold s (toksAt p 0) zeroR s.size = b at H
      go_enter Try.func6, Try.ntmps6
      go_wp2_with fail
      refine (H.out _).mono ?_
      rintro e w1 ⟨rfl, hb1⟩
      go_wp2_with fail
      go_ret
      exact ⟨rfl, hb1⟩
    · have g2 : ¬ (s.size : Int) ≤ 300 := by omega
      rw [globv_long (by omega)]
      go_enter Try.func6, Try.ntmps6
      go_wp2_with fail
      go_ret
      exact ⟨rfl, Below.refl _ _⟩
  · have g1 : ¬ (p.size : Int) ≤ 50 := by omega
    rw [globv_long (by omega)]
    go_enter Try.func6, Try.ntmps6
    go_wp2_with fail
    go_ret
    exact ⟨rfl, Below.refl _ _⟩

theorem glob_law (p s : ByteArray) (w : World) :
    Calls Try.prog 3 #[.string p, .string s] w fun e w' => e = .returned (.bool true) ∧ Below w.heap.size w w' := by
  by_cases hs : p.size ≤ 1048576
  · by_cases hd : s.size ≤ 1048576
    · have H1 := Lib.hid (fun w => glob_spec p s w (by omega) (by omega))
      have H2 := Lib.hid (fun w => glob_impl p s w (by omega) (by omega))
      generalize globv p s = b at H1 H2
      go_enter Try.func3, Try.ntmps3
      go_wp2_with fail
      refine (H1.out _).mono ?_
      rintro e w1 ⟨rfl, hb1⟩
      go_wp2_with fail
      refine (H2.out _).mono ?_
      rintro e w2 ⟨rfl, hb2⟩
      go_wp2_with fail
      go_ret
      exact ⟨rfl, hb1.trans (hb2.mono hb1.size)⟩
    · go_enter Try.func3, Try.ntmps3
      go_wp2_with fail
      go_ret
      exact ⟨rfl, Below.refl _ _⟩
  · go_enter Try.func3, Try.ntmps3
    go_wp2_with fail
    go_ret
    exact ⟨rfl, Below.refl _ _⟩
end Go.Proofs.Ytifkgihhdmmhdab
