/- The law laws.FnExactJoin returns true. -/
import Derived.Test.YtifkgihhdmmhdaaJoin
import Derived.Test.YtifkgihhdmmhdaaArgS
namespace Go.Proofs.Ytifkgihhdmmhdaa
open Go.ChangeShapes Go.WideShapes Go.ChangeAt Go.RowKit

theorem join_law (L : List ByteArray) (a : Option Addr) (len cap : Nat) (w : World) (h : ArgS w a len L) (hl : len ≤ maxLen) (hz : ∀ x ∈ L, x.size ≤ maxLen) :
    Calls Try.prog 6 #[.slice a len cap] w fun e w' => e = .returned (.bool true) ∧ Below w.heap.size w w' := by
  have H1 := Lib.hid (fun w h => szS_any L a len cap 1048576 w h hl hz (by omega) (by omega))
  have HA := Lib.hid h
  by_cases ht : totB L ≤ 1048576
  · have e : szL L 1048576 = 1048576 - totB L := by rw [szL, if_pos (by omega)]
    rw [e] at H1
    have htl := totB_len L
    obtain rfl := h.1
    have H2 := Lib.hid (fun w h => toS_any L a L.length cap w h (by omega))
    have H3 := Lib.hid (fun g cap w h => join_spec L g 0 cap w (by omega) h)
    have H4 := Lib.hid (fun g cap w hg h => join_impl L g 0 cap w hg (by omega) h)
    have H5 := Lib.hid (fun g g2 ca cb w hg hg2 h1 h2 => eqS_any (rowOf L) L.length g g2 ca cb w (by omega) hg hg2 h1 h2)
    have HF : Hid (∀ {w : World} {base g cap : Nat}, OwnT w base (.slice (some ⟨g, 0, none⟩) L.length cap) L.length (strVals L) → RowF w g L.length (rowOf L)) := Lib.hid (fun h => h.rowF)
    have hn1 : ¬ (1048576 - (totB L : Int)) < 0 := by omega
    clear h hl hz e ht htl
    generalize joinv L = j at H3 H4
    have q := self_eq j
    generalize totB L = t at H1 hn1
    go_enter Try.func6, Try.ntmps6
    go_wp2_with fail
    refine (H1.out _ HA.out).mono ?_
    rintro e w0 ⟨rfl, rfl⟩
    go_wp2_with fail
    refine (H2.out _ HA.out).mono ?_
    rintro e w1 ⟨v, rfl, ⟨ho1, g1, cap1, rfl⟩, hb1⟩
    have R1 := Lib.hid (HF.out ho1).toO
    have B1 := Lib.hid hb1
    clear ho1 hb1
    go_wp2_with fail
    refine (H3.out _ _ _ R1.out).mono ?_
    rintro e w2 ⟨rfl, rfl⟩
    have HA1 := Lib.hid (HA.out.below B1.out)
    clear R1
    go_wp2_with fail
    refine (H2.out _ HA1.out).mono ?_
    rintro e w3 ⟨v, rfl, ⟨ho3, g3, cap3, rfl⟩, hb3⟩
    have R3 := Lib.hid (HF.out ho3)
    have l3 := (World.ownsRow.lt ho3 g3 rfl).2
    have z1 := B1.out.size
    have B3 := Lib.hid (B1.out.trans (hb3.mono z1))
    clear ho3 hb3 B1
    go_wp2_with fail
    refine (H4.out _ _ _ l3 R3.out.toO).mono ?_
    rintro e w4 ⟨rfl, hb4⟩
    have R4 := Lib.hid (R3.out.below hb4 l3)
    have z4 := hb4.size
    have z3 := B3.out.size
    have B4 := Lib.hid (B3.out.trans (hb4.mono z3))
    have HA4 := Lib.hid (HA.out.below B4.out)
    clear hb4 B3 R3 HA1
    go_wp2_with fail
    refine (H2.out _ HA4.out).mono ?_
    rintro e w5 ⟨v, rfl, ⟨ho5, g5, cap5, rfl⟩, hb5⟩
    have R5 := Lib.hid (HF.out ho5)
    have l5 := (World.ownsRow.lt ho5 g5 rfl).2
    have R45 := Lib.hid (R4.out.below hb5 (by omega))
    have z5 := hb5.size
    have B5 := Lib.hid (B4.out.trans (hb5.mono (by have := B4.out.size; omega)))
    clear ho5 hb5 B4 R4 HA4
    go_wp2_with fail
    refine (H5.out _ _ _ _ _ (by omega) l5 R45.out R5.out).mono ?_
    rintro e w6 ⟨rfl, hb6⟩
    have B6 := Lib.hid (B5.out.trans (hb6.mono B5.out.size))
    clear hb6 B5
    go_wp2_with fail
    go_ret
    exact ⟨rfl, B6.out⟩
  · have e : szL L 1048576 = -1 := by rw [szL, if_neg (by omega)]
    rw [e] at H1
    clear h hl hz e ht
    go_enter Try.func6, Try.ntmps6
    go_wp2_with fail
    refine (H1.out _ HA.out).mono ?_
    rintro e w0 ⟨rfl, rfl⟩
    go_wp2_with fail
    go_ret
    exact ⟨rfl, Below.refl _ _⟩
end Go.Proofs.Ytifkgihhdmmhdaa
