/- The draws of fields, and the law laws.FnReads: for every slice of bytes it returns true. -/
import Derived.Test.YtndgppabfdeecaaDoorNumsLaw
import Derived.Test.YtndgppabfdeecaaDoorReadsMath
import Derived.Test.YtndgppabfdeecaaDoorDrawStr
namespace Go.Proofs.YtndgppabfdeecaaDoor
open Go.ChangeShapes Go.WideShapes Go.ChangeAt Go.RowKit

/-- A string of at most 80 bytes drawn. -/
def DrawS (w : World) (e : Ending) (w' : World) : Prop := ∃ s : ByteArray, s.size ≤ 80 ∧ e = .returned (.string s) ∧ Below w.heap.size w w'

theorem drawGetOct (a : Option Addr) (len cap : Nat) (w : World) (hC : CodeIn w a len) :
    Calls Tryd.prog 33 #[.slice a len cap] w (DrawS w) := by
  have HC := Lib.hid hC
  clear hC
  go_enter Tryd.func33, Tryd.ntmps33
  go_wp2_with fail
  refine (new_any a len cap _ HC.out).mono ?_
  rintro e w1 ⟨rfl, hc1, b1⟩
  have C1 := Lib.hid hc1
  have B1 := Lib.hid b1
  clear hc1 b1
  go_wp2_with fail
  refine (num_any _ a len cap _ _ C1.out).mono ?_
  rintro e w2 ⟨n, hn, rfl, hc2, g2⟩
  have C2 := Lib.hid hc2
  have G2 := Lib.hid g2
  clear hc2 g2 hn
  go_wp2_with fail
  refine (wide_any _ a len cap _ _ C2.out).mono ?_
  rintro e w3 ⟨m, hm, rfl, hc3, g3⟩
  have C3 := Lib.hid hc3
  have G3 := Lib.hid (gtrans G2.out g3)
  clear hc3 g3 hm
  have S1 := Lib.hid (fun w => putOct_spec n m w)
  have z1 := putOctv_size n m
  generalize putOctv n m = p1 at S1 z1
  obtain ⟨r1, f1⟩ := p1
  simp only at S1 z1
  go_wp2_with fail
  refine (S1.out _).mono ?_
  rintro e w4 ⟨rfl, rfl⟩
  have C4 := Lib.hid C3.out
  have G4 := Lib.hid G3.out
  go_wp2_with fail
  refine (bent_any _ a len cap _ r1 _ C4.out (by omega)).mono ?_
  rintro e w5 ⟨t, hts, rfl, hc5, g5⟩
  have G5 := Lib.hid (gtrans G4.out g5)
  clear hc5 g5
  go_wp2_with fail
  go_ret
  exact ⟨t, by omega, rfl, below_of_g B1.out (Nat.le_refl _) G5.out⟩

theorem drawGetHex (a : Option Addr) (len cap : Nat) (w : World) (hC : CodeIn w a len) :
    Calls Tryd.prog 35 #[.slice a len cap] w (DrawS w) := by
  have HC := Lib.hid hC
  clear hC
  go_enter Tryd.func35, Tryd.ntmps35
  go_wp2_with fail
  refine (new_any a len cap _ HC.out).mono ?_
  rintro e w1 ⟨rfl, hc1, b1⟩
  have C1 := Lib.hid hc1
  have B1 := Lib.hid b1
  clear hc1 b1
  go_wp2_with fail
  refine (num_any _ a len cap _ _ C1.out).mono ?_
  rintro e w2 ⟨n, hn, rfl, hc2, g2⟩
  have C2 := Lib.hid hc2
  have G2 := Lib.hid g2
  clear hc2 g2 hn
  have C3 := Lib.hid C2.out
  have G3 := Lib.hid G2.out
  have S1 := Lib.hid (fun w => putHex_spec n w)
  have z1 := putHexv_size n
  generalize putHexv n = p1 at S1 z1
  obtain ⟨r1, f1⟩ := p1
  simp only at S1 z1
  go_wp2_with fail
  refine (S1.out _).mono ?_
  rintro e w4 ⟨rfl, rfl⟩
  have C4 := Lib.hid C3.out
  have G4 := Lib.hid G3.out
  go_wp2_with fail
  refine (bent_any _ a len cap _ r1 _ C4.out (by omega)).mono ?_
  rintro e w5 ⟨t, hts, rfl, hc5, g5⟩
  have G5 := Lib.hid (gtrans G4.out g5)
  clear hc5 g5
  go_wp2_with fail
  go_ret
  exact ⟨t, by omega, rfl, below_of_g B1.out (Nat.le_refl _) G5.out⟩

theorem drawGetDec (a : Option Addr) (len cap : Nat) (w : World) (hC : CodeIn w a len) :
    Calls Tryd.prog 37 #[.slice a len cap] w (DrawS w) := by
  have HC := Lib.hid hC
  clear hC
  go_enter Tryd.func37, Tryd.ntmps37
  go_wp2_with fail
  refine (new_any a len cap _ HC.out).mono ?_
  rintro e w1 ⟨rfl, hc1, b1⟩
  have C1 := Lib.hid hc1
  have B1 := Lib.hid b1
  clear hc1 b1
  go_wp2_with fail
  refine (num_any _ a len cap _ _ C1.out).mono ?_
  rintro e w2 ⟨n, hn, rfl, hc2, g2⟩
  have C2 := Lib.hid hc2
  have G2 := Lib.hid g2
  clear hc2 g2 hn
  go_wp2_with fail
  refine (wide_any _ a len cap _ _ C2.out).mono ?_
  rintro e w3 ⟨m, hm, rfl, hc3, g3⟩
  have C3 := Lib.hid hc3
  have G3 := Lib.hid (gtrans G2.out g3)
  clear hc3 g3 hm
  have S1 := Lib.hid (fun w => putDec_spec n m w)
  have z1 := putDecv_size n m
  generalize putDecv n m = p1 at S1 z1
  obtain ⟨r1, f1⟩ := p1
  simp only at S1 z1
  go_wp2_with fail
  refine (S1.out _).mono ?_
  rintro e w4 ⟨rfl, rfl⟩
  have C4 := Lib.hid C3.out
  have G4 := Lib.hid G3.out
  go_wp2_with fail
  refine (bent_any _ a len cap _ r1 _ C4.out (by omega)).mono ?_
  rintro e w5 ⟨t, hts, rfl, hc5, g5⟩
  have G5 := Lib.hid (gtrans G4.out g5)
  clear hc5 g5
  go_wp2_with fail
  go_ret
  exact ⟨t, by omega, rfl, below_of_g B1.out (Nat.le_refl _) G5.out⟩

theorem drawGetBig (a : Option Addr) (len cap : Nat) (w : World) (hC : CodeIn w a len) :
    Calls Tryd.prog 38 #[.slice a len cap] w (DrawS w) := by
  have HC := Lib.hid hC
  clear hC
  go_enter Tryd.func38, Tryd.ntmps38
  go_wp2_with fail
  refine (new_any a len cap _ HC.out).mono ?_
  rintro e w1 ⟨rfl, hc1, b1⟩
  have C1 := Lib.hid hc1
  have B1 := Lib.hid b1
  clear hc1 b1
  go_wp2_with fail
  refine (num_any _ a len cap _ _ C1.out).mono ?_
  rintro e w2 ⟨n, hn, rfl, hc2, g2⟩
  have C2 := Lib.hid hc2
  have G2 := Lib.hid g2
  clear hc2 g2 hn
  go_wp2_with fail
  refine (wide_any _ a len cap _ _ C2.out).mono ?_
  rintro e w3 ⟨m, hm, rfl, hc3, g3⟩
  have C3 := Lib.hid hc3
  have G3 := Lib.hid (gtrans G2.out g3)
  clear hc3 g3 hm
  have S1 := Lib.hid (fun w => putBig_spec n m w)
  have z1 := putBigv_size n m
  generalize putBigv n m = p1 at S1 z1
  obtain ⟨r1, f1⟩ := p1
  simp only at S1 z1
  go_wp2_with fail
  refine (S1.out _).mono ?_
  rintro e w4 ⟨rfl, b4⟩
  have C4 := Lib.hid (C3.out.below b4)
  have G4 := Lib.hid (gtrans G3.out (gbelow b4 _))
  clear b4
  go_wp2_with fail
  refine (bent_any _ a len cap _ r1 _ C4.out (by omega)).mono ?_
  rintro e w5 ⟨t, hts, rfl, hc5, g5⟩
  have G5 := Lib.hid (gtrans G4.out g5)
  clear hc5 g5
  go_wp2_with fail
  go_ret
  exact ⟨t, by omega, rfl, below_of_g B1.out (Nat.le_refl _) G5.out⟩

end Go.Proofs.YtndgppabfdeecaaDoor
