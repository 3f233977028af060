/- Contract of strings.Clone: the same bytes. -/
import Derived.Test.YtkpdeeembnjmnaaCom
import Derived.Test.YtkpdeeembnjmnaaShelf
namespace Go.Proofs.Ytkpdeeembnjmnaa
open Go.ChangeShapes Go.WideShapes Go.ChangeAt Go.RowKit

theorem clone_any (s : ByteArray) (w : World) (hs : s.size ≤ 281474976710656) :
    Calls Try.prog 21 #[.string s] w fun e w' => e = .returned (.string s) ∧ Below w.heap.size w w' := by
  go_enter Try.func21, Try.ntmps21
  go_wp2_with (go_at_call 30; refine (Try.stringslite_Clone _ _ hs).mono ?_; rintro e w' ⟨rfl, hb⟩)
  go_ret
  exact ⟨rfl, hb⟩
end Go.Proofs.Ytkpdeeembnjmnaa
