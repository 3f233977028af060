/- Contract of strings.Clone: the same bytes. -/
import Derived.Test.YtgpgkgahbkmdiaaDoorCom
import Derived.Test.YtgpgkgahbkmdiaaDoorShelf
namespace Go.Proofs.YtgpgkgahbkmdiaaDoor
open Go.ChangeShapes Go.WideShapes Go.ChangeAt Go.RowKit

theorem clone_any (s : ByteArray) (w : World) (hs : s.size ≤ 281474976710656) :
    Calls Tryd.prog 36 #[.string s] w fun e w' => e = .returned (.string s) ∧ Below w.heap.size w w' := by
  go_enter Tryd.func36, Tryd.ntmps36
  go_wp2_with (go_at_call 59; refine (Tryd.stringslite_Clone _ _ hs).mono ?_; rintro e w' ⟨rfl, hb⟩)
  go_ret
  exact ⟨rfl, hb⟩
end Go.Proofs.YtgpgkgahbkmdiaaDoor
