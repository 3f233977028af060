/- Contracts of impl.demand and impl.cardCode: what is wrong with a card ends the work by a panic that carries a code. -/
import Derived.Test.YtancidbbkoeokaaGreatCom
import Derived.WalkSmall
import Derived.WalkLawsBesides
namespace Go.Proofs.YtancidbbkoeokaaGreat
open Go.ChangeShapes Go.WideShapes Go.ChangeAt Go.RowKit

/-- The panic with a code. -/
def panC (c : Int) : List PanicEntry := [{ v := .iface 99 (.agg #[.int .i64 c]), recovered := false }]
theorem demand_ok (c : Int) (w : World) : Calls Tryz.prog 56 #[.bool true, .int .i64 c] w fun e w' => e = .returned (.tuple #[]) ∧ w' = w := by
  go_enter Tryz.func56, Tryz.ntmps56
  go_wp2_with fail
  go_end0
  exact ⟨rfl, rfl⟩
theorem demand_no (c : Int) (w : World) : Calls Tryz.prog 56 #[.bool false, .int .i64 c] w fun e w' => e = .panicked (panC c) ∧ w' = w := by
  go_enter Tryz.func56, Tryz.ntmps56
  go_wp2_with fail
  exact ⟨rfl, rfl, rfl⟩
set_option maxRecDepth 8000 in
theorem cardCode_nil (w : World) : Calls Tryz.prog 53 #[.nilIface] w fun e w' => e = .returned (.int .i64 0) ∧ Below w.heap.size w w' := by
  go_enter Tryz.func53, Tryz.ntmps53
  go_wp2_with fail
  go_ret
  exact ⟨rfl, Below.refl _ _⟩
theorem assert_hit (T : TypeId) (v : Value) (w : World) : (Instr.typeAssert (.iface 99 v) T 99 true).run Tryz.prog w = .ok (.tuple #[v, .bool true]) w := by
  simp [Instr.typeAssert, go_sem]
set_option maxRecDepth 8000 in
theorem cardCode_some (c : Int) (w : World) : Calls Tryz.prog 53 #[.iface 99 (.agg #[.int .i64 c])] w fun e w' => e = .returned (.int .i64 c) ∧ Below w.heap.size w w' := by
  have ha := assert_hit
  go_enter Tryz.func53, Tryz.ntmps53
  go_wp2_with fail
  go_ret
  exact ⟨rfl, (Below.refl _ _).alloc (Nat.le_refl _) _⟩
end Go.Proofs.YtancidbbkoeokaaGreat
