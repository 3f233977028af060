/- The draw of Swap's arguments. -/
import Derived.Test.YthembgllkfgknaaDrawPaths
import Derived.OwnWalk
namespace Go.Proofs.Ythembgllkfgknaa
open Go.RowKit Go.Shelf

theorem drawSwap (a : Option Addr) (len cap : Nat) (w : World) (hC : CodeIn w a len) : Calls Try.prog 8 #[.slice a len cap] w fun e w' => ∃ s f t : ByteArray, s.size ≤ 400 ∧ f.size ≤ 400 ∧ t.size ≤ 400 ∧ e = .returned (.tuple #[.string s, .string f, .string t]) ∧ Below w.heap.size w w' := by
  have HC := Lib.hid hC
  clear hC
  go_enter Try.func8, Try.ntmps8
  go_wp2_with fail
  refine (new_any a len cap _ HC.out).mono ?_
  rintro e w1 ⟨rfl, hc1, b1⟩
  have C1 := Lib.hid hc1
  have B1 := Lib.hid b1
  have K1 := Lib.hid (HC.out.below b1)
  clear hc1 b1
  go_wp2_with fail
  refine (drawUnder a len cap _ K1.out).mono ?_
  rintro e w2 ⟨s, f, hs, hf, rfl, b2⟩
  have C2 := Lib.hid (C1.out.below b2)
  have B2 := Lib.hid (B1.out.trans (b2.mono B1.out.size))
  clear b2 C1 B1 K1
  go_wp2_with fail
  refine (once_any _ a len cap _ _ _ C2.out (by omega) (by omega)).mono ?_
  rintro e w3 ⟨b, rfl, hc3, g3⟩
  have C3 := Lib.hid hc3
  have B3 := Lib.hid (below_of_g B2.out (Nat.le_refl _) g3)
  clear hc3 g3 C2 B2
  cases b with
  | true =>
    go_wp2_with fail
    refine (anyT_any _ a len cap _ _ C3.out).mono ?_
    rintro e w4 ⟨t, ht, rfl, hc4, g4⟩
    go_wp2_with fail
    go_ret3
    exact ⟨s, s, t, by omega, by omega, by omega, rfl, below_of_g B3.out (Nat.le_refl _) g4⟩
  | false =>
    go_wp2_with fail
    refine (anyT_any _ a len cap _ _ C3.out).mono ?_
    rintro e w4 ⟨t, ht, rfl, hc4, g4⟩
    go_wp2_with fail
    go_ret3
    exact ⟨s, f, t, by omega, by omega, by omega, rfl, below_of_g B3.out (Nat.le_refl _) g4⟩
end Go.Proofs.Ythembgllkfgknaa
