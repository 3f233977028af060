/- Contracts of internal/strconv.FormatInt and strconv.FormatInt at the bases 8 and 16, for numbers of 0 to 2^53 - 1: the numeral. -/
import Derived.Test.YtancidbbkoeokaaGreatDoorFmtBits
namespace Go.Proofs.YtancidbbkoeokaaGreatDoor
open Go.ChangeShapes Go.WideShapes Go.ChangeAt Go.RowKit

theorem ifmt_8 (u : Int) (w : World) (h0 : 0 ≤ u) (h1 : u ≤ 9007199254740991) (hc : w.cell? ⟨5, 7, none⟩ = some (.int .u8 3)) :
    Calls Tryz.prog 137 #[.int .i64 u, .int .i64 8] w fun e w' => e = .returned (.string ⟨(numeral 8 u.toNat).toArray⟩) ∧ Below w.heap.size w w' := by
  have hw : IntKind.u64.wrap u = u := wraps_u63 u h0 (by omega)
  have hd : decide (u < 0) = false := by simp; omega
  go_enter Tryz.func137, Tryz.ntmps137
  go_wp2_with fail
  refine (bits_8 u _ h0 h1 hc).mono ?_
  rintro e w' ⟨rfl, hb⟩
  go_wp2_with fail
  go_ret
  exact ⟨rfl, hb⟩
theorem fmt_8 (u : Int) (w : World) (h0 : 0 ≤ u) (h1 : u ≤ 9007199254740991) (hc : w.cell? ⟨5, 7, none⟩ = some (.int .u8 3)) :
    Calls Tryz.prog 135 #[.int .i64 u, .int .i64 8] w fun e w' => e = .returned (.string ⟨(numeral 8 u.toNat).toArray⟩) ∧ Below w.heap.size w w' := by
  go_enter Tryz.func135, Tryz.ntmps135
  go_wp2_with fail
  refine (ifmt_8 u _ h0 h1 hc).mono ?_
  rintro e w' ⟨rfl, hb⟩
  go_wp2_with fail
  go_ret
  exact ⟨rfl, hb⟩

theorem ifmt_16 (u : Int) (w : World) (h0 : 0 ≤ u) (h1 : u ≤ 9007199254740991) (hc : w.cell? ⟨5, 15, none⟩ = some (.int .u8 4)) :
    Calls Tryz.prog 137 #[.int .i64 u, .int .i64 16] w fun e w' => e = .returned (.string ⟨(numeral 16 u.toNat).toArray⟩) ∧ Below w.heap.size w w' := by
  have hw : IntKind.u64.wrap u = u := wraps_u63 u h0 (by omega)
  have hd : decide (u < 0) = false := by simp; omega
  go_enter Tryz.func137, Tryz.ntmps137
  go_wp2_with fail
  refine (bits_16 u _ h0 h1 hc).mono ?_
  rintro e w' ⟨rfl, hb⟩
  go_wp2_with fail
  go_ret
  exact ⟨rfl, hb⟩
theorem fmt_16 (u : Int) (w : World) (h0 : 0 ≤ u) (h1 : u ≤ 9007199254740991) (hc : w.cell? ⟨5, 15, none⟩ = some (.int .u8 4)) :
    Calls Tryz.prog 135 #[.int .i64 u, .int .i64 16] w fun e w' => e = .returned (.string ⟨(numeral 16 u.toNat).toArray⟩) ∧ Below w.heap.size w w' := by
  go_enter Tryz.func135, Tryz.ntmps135
  go_wp2_with fail
  refine (ifmt_16 u _ h0 h1 hc).mono ?_
  rintro e w' ⟨rfl, hb⟩
  go_wp2_with fail
  go_ret
  exact ⟨rfl, hb⟩

end Go.Proofs.YtancidbbkoeokaaGreatDoor
