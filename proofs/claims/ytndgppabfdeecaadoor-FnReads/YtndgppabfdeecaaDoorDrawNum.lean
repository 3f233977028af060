/- The draws of numbers and widths, and the law laws.FnNums: for every slice of bytes it returns true. -/
import Derived.Test.YtndgppabfdeecaaDoorNumsMath
import Derived.Test.YtndgppabfdeecaaDoorNew
namespace Go.Proofs.YtndgppabfdeecaaDoor
open Go.ChangeShapes Go.WideShapes Go.ChangeAt Go.RowKit

def AnyI (_ : Int) : Prop := True
theorem wide_any (base : Nat) (a : Option Addr) (len cap c : Nat) (w : World) (hC : CurAt base a len cap w c) :
    Calls Tryd.prog 52 #[.pointer (some ⟨c, 0, none⟩)] w (Drawn AnyI base a len cap c w) := by
  have HC := Lib.hid hC
  clear hC
  go_enter Tryd.func52, Tryd.ntmps52
  go_wp2_with fail
  have hL := listAt_lit AnyI w [1, 6, 7, 8, 10, 11, 12, 20, 21, 0, -1, 2] (fun _ _ => trivial) 3
  refine (pickInt_any AnyI base a len cap c w.heap.size 12 _ (HC.out.alloc _) hL (Nat.ne_of_gt HC.out.lt) (by omega) (by omega)).mono ?_
  rintro e w1 ⟨z, hz, rfl, hc1, g1⟩
  have C1 := Lib.hid hc1
  have G1 := Lib.hid (gtrans (galloc _ _ _) g1)
  clear hc1 g1 hL hz
  go_wp2_with fail
  go_ret
  exact ⟨z, trivial, rfl, C1.out, G1.out⟩

/-- Two ints drawn. -/
def DrawNN (w : World) (e : Ending) (w' : World) : Prop := ∃ n m : Int, NumR n ∧ e = .returned (.tuple #[.int .i64 n, .int .i64 m]) ∧ Below w.heap.size w w'
def DrawN (w : World) (e : Ending) (w' : World) : Prop := ∃ n : Int, NumR n ∧ e = .returned (.int .i64 n) ∧ Below w.heap.size w w'

theorem drawPutOct (a : Option Addr) (len cap : Nat) (w : World) (hC : CodeIn w a len) :
    Calls Tryd.prog 24 #[.slice a len cap] w (DrawNN w) := by
  have HC := Lib.hid hC
  clear hC
  go_enter Tryd.func24, Tryd.ntmps24
  go_wp2_with fail
  refine (new_any a len cap _ HC.out).mono ?_
  rintro e w1 ⟨rfl, hc1, b1⟩
  have C1 := Lib.hid hc1
  have B1 := Lib.hid b1
  clear hc1 b1
  go_wp2_with fail
  refine (num_any _ a len cap _ _ C1.out).mono ?_
  rintro e w2 ⟨n, hn, rfl, hc2, g2⟩
  have C2 := Lib.hid hc2
  have G2 := Lib.hid g2
  have HN := Lib.hid hn
  clear hc2 g2 hn
  go_wp2_with fail
  refine (wide_any _ a len cap _ _ C2.out).mono ?_
  rintro e w3 ⟨m, hm, rfl, hc3, g3⟩
  have G3 := Lib.hid (gtrans G2.out g3)
  clear hc3 g3 hm
  go_wp2_with fail
  go_ret2
  exact ⟨n, m, HN.out, rfl, below_of_g B1.out (Nat.le_refl _) G3.out⟩

theorem drawPutDec (a : Option Addr) (len cap : Nat) (w : World) (hC : CodeIn w a len) :
    Calls Tryd.prog 26 #[.slice a len cap] w (DrawNN w) := by
  have HC := Lib.hid hC
  clear hC
  go_enter Tryd.func26, Tryd.ntmps26
  go_wp2_with fail
  refine (new_any a len cap _ HC.out).mono ?_
  rintro e w1 ⟨rfl, hc1, b1⟩
  have C1 := Lib.hid hc1
  have B1 := Lib.hid b1
  clear hc1 b1
  go_wp2_with fail
  refine (num_any _ a len cap _ _ C1.out).mono ?_
  rintro e w2 ⟨n, hn, rfl, hc2, g2⟩
  have C2 := Lib.hid hc2
  have G2 := Lib.hid g2
  have HN := Lib.hid hn
  clear hc2 g2 hn
  go_wp2_with fail
  refine (wide_any _ a len cap _ _ C2.out).mono ?_
  rintro e w3 ⟨m, hm, rfl, hc3, g3⟩
  have G3 := Lib.hid (gtrans G2.out g3)
  clear hc3 g3 hm
  go_wp2_with fail
  go_ret2
  exact ⟨n, m, HN.out, rfl, below_of_g B1.out (Nat.le_refl _) G3.out⟩

theorem drawPutBig (a : Option Addr) (len cap : Nat) (w : World) (hC : CodeIn w a len) :
    Calls Tryd.prog 27 #[.slice a len cap] w (DrawNN w) := by
  have HC := Lib.hid hC
  clear hC
  go_enter Tryd.func27, Tryd.ntmps27
  go_wp2_with fail
  refine (new_any a len cap _ HC.out).mono ?_
  rintro e w1 ⟨rfl, hc1, b1⟩
  have C1 := Lib.hid hc1
  have B1 := Lib.hid b1
  clear hc1 b1
  go_wp2_with fail
  refine (num_any _ a len cap _ _ C1.out).mono ?_
  rintro e w2 ⟨n, hn, rfl, hc2, g2⟩
  have C2 := Lib.hid hc2
  have G2 := Lib.hid g2
  have HN := Lib.hid hn
  clear hc2 g2 hn
  go_wp2_with fail
  refine (wide_any _ a len cap _ _ C2.out).mono ?_
  rintro e w3 ⟨m, hm, rfl, hc3, g3⟩
  have G3 := Lib.hid (gtrans G2.out g3)
  clear hc3 g3 hm
  go_wp2_with fail
  go_ret2
  exact ⟨n, m, HN.out, rfl, below_of_g B1.out (Nat.le_refl _) G3.out⟩

theorem drawPutHex (a : Option Addr) (len cap : Nat) (w : World) (hC : CodeIn w a len) :
    Calls Tryd.prog 25 #[.slice a len cap] w (DrawN w) := by
  have HC := Lib.hid hC
  clear hC
  go_enter Tryd.func25, Tryd.ntmps25
  go_wp2_with fail
  refine (new_any a len cap _ HC.out).mono ?_
  rintro e w1 ⟨rfl, hc1, b1⟩
  have C1 := Lib.hid hc1
  have B1 := Lib.hid b1
  clear hc1 b1
  go_wp2_with fail
  refine (num_any _ a len cap _ _ C1.out).mono ?_
  rintro e w2 ⟨n, hn, rfl, hc2, g2⟩
  have G2 := Lib.hid g2
  have HN := Lib.hid hn
  clear hc2 g2 hn
  go_wp2_with fail
  go_ret
  exact ⟨n, HN.out, rfl, below_of_g B1.out (Nat.le_refl _) G2.out⟩

theorem big_any (a : Option Addr) (len cap : Nat) (w : World) : Calls Tryd.prog 23 #[.slice a len cap] w fun e w' => e = .returned (.bool (decide (1048576 < (len : Int)))) ∧ w = w' := by
  go_enter Tryd.func23, Tryd.ntmps23
  go_wp2
  go_ret
  exact ⟨rfl, rfl⟩
theorem btrans {a b c : World} (h : Below a.heap.size a b) (k : Below b.heap.size b c) : Below a.heap.size a c := h.trans (k.mono h.size)

end Go.Proofs.YtndgppabfdeecaaDoor
