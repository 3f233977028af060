/- Contracts of impl.demand and impl.cardCode: what is wrong with a card ends the work by a panic that carries a code. -/
import Derived.Test.YtcnmbolmgifgfaaCom
import Derived.WalkSmall
import Derived.WalkLawsBesides
namespace Go.Proofs.Ytcnmbolmgifgfaa
open Go.ChangeShapes Go.WideShapes Go.ChangeAt Go.RowKit

/-- The panic with a code. -/
def panC (c : Int) : List PanicEntry := [{ v := .iface 59 (.agg #[.int .i64 c]), recovered := false }]
theorem demand_ok (c : Int) (w : World) : Calls Try.prog 42 #[.bool true, .int .i64 c] w fun e w' => e = .returned (.tuple #[]) ∧ w' = w := by
  go_enter Try.func42, Try.ntmps42
  go_wp2_with fail
  go_end0
  exact ⟨rfl, rfl⟩
theorem demand_no (c : Int) (w : World) : Calls Try.prog 42 #[.bool false, .int .i64 c] w fun e w' => e = .panicked (panC c) ∧ w' = w := by
  go_enter Try.func42, Try.ntmps42
  go_wp2_with fail
  exact ⟨rfl, rfl, rfl⟩
set_option maxRecDepth 8000 in
theorem cardCode_nil (w : World) : Calls Try.prog 25 #[.nilIface] w fun e w' => e = .returned (.int .i64 0) ∧ Below w.heap.size w w' := by
  go_enter Try.func25, Try.ntmps25
  go_wp2_with fail
  go_ret
  exact ⟨rfl, Below.refl _ _⟩
theorem assert_hit (T : TypeId) (v : Value) (w : World) : (Instr.typeAssert (.iface 59 v) T 59 true).run Try.prog w = .ok (.tuple #[v, .bool true]) w := by
  simp [Instr.typeAssert, go_sem]
set_option maxRecDepth 8000 in
theorem cardCode_some (c : Int) (w : World) : Calls Try.prog 25 #[.iface 59 (.agg #[.int .i64 c])] w fun e w' => e = .returned (.int .i64 c) ∧ Below w.heap.size w w' := by
  have ha := assert_hit
  go_enter Try.func25, Try.ntmps25
  go_wp2_with fail
  go_ret
  exact ⟨rfl, (Below.refl _ _).alloc (Nat.le_refl _) _⟩
end Go.Proofs.Ytcnmbolmgifgfaa
