/- Contract of spec.Glob. -/
import Derived.Test.YthembgllkfgknaaGlobS
namespace Go.Proofs.Ythembgllkfgknaa
open Go.RowKit Go.Shelf

theorem glob_spec (p s : ByteArray) (w : World) (hp : p.size ≤ 1048576) (hs : s.size ≤ 1048576) :
    Calls Try.prog 12 #[.string p, .string s] w fun e w' => e = .returned (.bool (globv p s)) ∧ Below w.heap.size w w' := by
  by_cases h1 : p.size ≤ 50
  · have g1 : (p.size : Int) ≤ 50 := by omega
    by_cases h2 : s.size ≤ 300
    · have g2 : (s.size : Int) ≤ 300 := by omega
      have H := Lib.hid (fun w => l02Glob_any p s w h1 h2)
      rw [globv_short h1 h2]
      generalize globFold s (toksAt p 0) zeroR s.size = b at H
      go_enter Try.func12, Try.ntmps12
      go_wp2_with fail
      refine (H.out _).mono ?_
      rintro e w1 ⟨rfl, hb1⟩
      go_wp2_with fail
      go_ret
      exact ⟨rfl, hb1⟩
    · have g2 : ¬ (s.size : Int) ≤ 300 := by omega
      rw [globv_long (by omega)]
      go_enter Try.func12, Try.ntmps12
      go_wp2_with fail
      go_ret
      exact ⟨rfl, Below.refl _ _⟩
  · have g1 : ¬ (p.size : Int) ≤ 50 := by omega
    rw [globv_long (by omega)]
    go_enter Try.func12, Try.ntmps12
    go_wp2_with fail
    go_ret
    exact ⟨rfl, Below.refl _ _⟩

end Go.Proofs.Ythembgllkfgknaa
