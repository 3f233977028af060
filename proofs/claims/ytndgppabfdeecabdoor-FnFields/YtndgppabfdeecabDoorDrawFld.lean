/- The draws of laws.FnFields, and laws.sameTexts. -/
import Derived.Test.YtndgppabfdeecabDoorText
import Derived.Test.YtndgppabfdeecabDoorRowS
import Derived.Test.YtndgppabfdeecabDoorFill
namespace Go.Proofs.YtndgppabfdeecabDoor
open Go.ChangeShapes Go.WideShapes Go.ChangeAt Go.RowKit

theorem sameT_any (R : Nat → ByteArray) (n g g2 ca cb : Nat) (w : World) (hn : n ≤ 2097152) (hg : g < w.heap.size) (hg2 : g2 < w.heap.size) (h1 : RowF w g n R) (h2 : RowF w g2 n R) :
    Calls Tryd.prog 30 #[.slice (some ⟨g, 0, none⟩) n ca, .slice (some ⟨g2, 0, none⟩) n cb] w fun e w' => e = .returned (.bool true) ∧ Below w.heap.size w w' := by
  have H1 := Lib.hid h1
  have H2 := Lib.hid h2
  clear h1 h2
  go_enter Tryd.func30, Tryd.ntmps30
  go_wp2
  go_loopw [5] (fun i wr => ∃ k : Nat, k ≤ n ∧ i = .int .i64 k ∧ Below w.heap.size w wr) (fun i _ => n - (intOf i).toNat)
  case atStart => exact ⟨0, Nat.zero_le _, rfl, Below.refl _ _⟩
  case round =>
    obtain ⟨k, hk, rfl, hb⟩ := hrel
    have HB := Lib.hid hb
    clear hb
    by_cases hlt : k < n
    · have c1 : wr.cell? ⟨g, k, none⟩ = some (.string (R k)) := (H1.out.below HB.out hg) k hlt
      have c2 : wr.cell? ⟨g2, k, none⟩ = some (.string (R k)) := (H2.out.below HB.out hg2) k hlt
      have he := self_eq (R k)
      generalize R k = x at c1 c2 he
      go_wp2
      go_quiet (fail)
      go_wp2
      go_roundw
      case rel => exact ⟨k + 1, by omega, by go_num, HB.out.os, HB.out.tape, HB.out.output, HB.out.size, HB.out.block⟩
      case measure => simp [intOf]; omega
    · go_wp2
      go_ret
      exact ⟨rfl, HB.out⟩

def UnitR (x : Int) : Prop := -1 ≤ x ∧ x ≤ 1025
theorem drawPad (a : Option Addr) (len cap : Nat) (w : World) (hC : CodeIn w a len) :
    Calls Tryd.prog 11 #[.slice a len cap] w (fun e w' => ∃ n m : Int, NumR n ∧ UnitR m ∧ e = .returned (.tuple #[.int .i64 n, .int .i64 m]) ∧ Below w.heap.size w w') := by
  have HC := Lib.hid hC
  clear hC
  go_enter Tryd.func11, Tryd.ntmps11
  go_wp2_with fail
  refine (new_any a len cap _ HC.out).mono ?_
  rintro e w1 ⟨rfl, hc1, b1⟩
  have C1 := Lib.hid hc1
  have B1 := Lib.hid b1
  clear hc1 b1
  go_wp2_with fail
  refine (num_any _ a len cap _ _ C1.out).mono ?_
  rintro e w2 ⟨n, hn, rfl, hc2, g2⟩
  have C2 := Lib.hid hc2
  have G2 := Lib.hid g2
  have HN := Lib.hid hn
  clear hc2 g2 hn
  go_wp2_with fail
  have hL := listAt_lit UnitR w2 [1, 2, 4, 512, 513, 0, -1] (by
    intro z hz
    simp only [List.mem_cons, List.mem_nil_iff, or_false] at hz
    unfold UnitR
    omega) 3
  refine (pickInt_any UnitR _ a len cap _ w2.heap.size 7 _ (C2.out.alloc _) hL (Nat.ne_of_gt C2.out.lt) (by omega) (by omega)).mono ?_
  rintro e w3 ⟨m, hm, rfl, hc3, g3⟩
  have HM := Lib.hid hm
  have G3 := Lib.hid (gtrans G2.out (gtrans (galloc _ _ _) g3))
  clear hc3 g3 hm hL
  go_wp2_with fail
  go_ret2
  exact ⟨n, m, HN.out, HM.out, rfl, below_of_g B1.out (Nat.le_refl _) G3.out⟩

theorem drawFill (a : Option Addr) (len cap : Nat) (w : World) (hC : CodeIn w a len) :
    Calls Tryd.prog 13 #[.slice a len cap] w (fun e w' => ∃ (s : ByteArray) (m : Int), s.size ≤ 12 ∧ UnitR m ∧ e = .returned (.tuple #[.string s, .int .i64 m]) ∧ Below w.heap.size w w') := by
  have HC := Lib.hid hC
  clear hC
  go_enter Tryd.func13, Tryd.ntmps13
  go_wp2_with fail
  refine (new_any a len cap _ HC.out).mono ?_
  rintro e w1 ⟨rfl, hc1, b1⟩
  have C1 := Lib.hid hc1
  have B1 := Lib.hid b1
  clear hc1 b1
  go_wp2_with fail
  refine (below_any _ a len cap _ _ _ C1.out (by omega) (by omega)).mono ?_
  rintro e w2 ⟨x, hx, rfl, hc2, g2⟩
  have C2 := Lib.hid hc2
  have G2 := Lib.hid g2
  clear hc2 g2
  obtain ⟨n, rfl⟩ := Int.eq_ofNat_of_zero_le hx.1
  go_wp2_with fail
  refine (text_any _ a len cap _ n _ C2.out (by omega)).mono ?_
  rintro e w3 ⟨s, hs, rfl, hc3, g3⟩
  have C3 := Lib.hid hc3
  have G3 := Lib.hid (gtrans G2.out g3)
  have HS := Lib.hid (show s.size ≤ 12 by omega)
  clear hc3 g3 hs
  go_wp2_with fail
  have hL := listAt_lit UnitR w3 [0, 8, 100, -1, 1024, 1025, 5] (by
    intro z hz
    simp only [List.mem_cons, List.mem_nil_iff, or_false] at hz
    unfold UnitR
    omega) 3
  refine (pickInt_any UnitR _ a len cap _ w3.heap.size 7 _ (C3.out.alloc _) hL (Nat.ne_of_gt C3.out.lt) (by omega) (by omega)).mono ?_
  rintro e w4 ⟨m, hm, rfl, hc4, g4⟩
  have HM := Lib.hid hm
  have G4 := Lib.hid (gtrans G3.out (gtrans (galloc _ _ _) g4))
  clear hc4 g4 hm hL
  go_wp2_with fail
  go_ret2
  exact ⟨s, m, HS.out, HM.out, rfl, below_of_g B1.out (Nat.le_refl _) G4.out⟩
end Go.Proofs.YtndgppabfdeecabDoor
