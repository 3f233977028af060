/- The law laws.FnExactPutDec returns true. -/
import Derived.Test.YtndgppabfdeecaaDoorPutDec
namespace Go.Proofs.YtndgppabfdeecaaDoor
open Go.ChangeShapes Go.WideShapes Go.ChangeAt Go.RowKit

theorem putDec_law (n width : Int) (w : World) (ht : Tabs w) :
    Calls Tryd.prog 5 #[.int .i64 n, .int .i64 width] w fun e w' => e = .returned (.bool true) ∧ Below w.heap.size w w' := by
  have c1 := fun w => putDec_spec n width w
  have c2 := fun w h => putDec_impl n width w h
  generalize putDecv n width = v at c1 c2
  obtain ⟨s, f⟩ := v
  have C1 := Lib.hid c1
  have C2 := Lib.hid c2
  have HT := Lib.hid ht
  clear c1 c2 ht
  have hy : (f != f) = false := by simp
  go_enter Tryd.func5, Tryd.ntmps5
  go_wp2_with fail
  refine (C1.out _).mono ?_
  rintro e w1 ⟨rfl, rfl⟩
  go_wp2_with fail
  refine (C2.out _ HT.out).mono ?_
  rintro e w2 ⟨rfl, b2⟩
  go_wp2_with fail
  go_ret
  exact ⟨rfl, b2⟩

end Go.Proofs.YtndgppabfdeecaaDoor
