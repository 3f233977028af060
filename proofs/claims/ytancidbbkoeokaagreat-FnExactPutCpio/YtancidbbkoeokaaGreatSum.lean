/- Contracts of spec.SumOf, impl.SumOf (on strings of at most 2^20 bytes) and the law laws.FnExactSumOf: what each returns, the world unchanged. -/
import Derived.Test.YtancidbbkoeokaaGreatCom
namespace Go.Proofs.YtancidbbkoeokaaGreat
open Go.ChangeShapes Go.WideShapes Go.ChangeAt Go.RowKit

def sumv (l : List UInt8) : Int := (l.map fun c => (c.toNat : Int)).sum
theorem sumv_snoc (l : List UInt8) (c : UInt8) : sumv (l ++ [c]) = sumv l + (c.toNat : Int) := by simp [sumv]
theorem sumv_bd (l : List UInt8) : 0 ≤ sumv l ∧ sumv l ≤ 255 * l.length := by
  induction l with
  | nil => simp [sumv]
  | cons c l ih =>
    have h : sumv (c :: l) = (c.toNat : Int) + sumv l := by simp [sumv]
    have := UInt8.toNat_lt c
    rw [h]; simp only [List.length_cons]; omega

theorem sum_spec (s : ByteArray) (w : World) (hs : s.size ≤ 1048576) :
    Calls Tryz.prog 71 #[.string s] w fun e w' => e = .returned (.int .i64 (sumv s.data.toList)) ∧ w = w' := by
  go_enter Tryz.func71, Tryz.ntmps71
  go_wp2
  go_loop [3, 4] (fun n i => ∃ k : Nat, k ≤ s.size ∧ i = .int .i64 k ∧ n = .int .i64 (sumv (s.data.toList.take k))) (fun _ i => s.size - (intOf i).toNat)
  case atStart => exact ⟨0, Nat.zero_le _, rfl, rfl⟩
  case round =>
    obtain ⟨k, hk, rfl, rfl⟩ := hrel
    have hd := sumv_bd (s.data.toList.take k)
    have hl : (s.data.toList.take k).length ≤ k := List.length_take_le _ _
    by_cases hlt : k < s.size
    · have HS := Lib.hid (show sumv (s.data.toList.take (k + 1)) = sumv (s.data.toList.take k) + (s[k].toNat : Int) by rw [take_snoc s k hlt]; exact sumv_snoc _ _)
      have hc := UInt8.toNat_lt s[k]
      go_wp2
      go_round
      case rel => exact ⟨k + 1, by omega, by go_num, by rw [HS.out]⟩
      case measure => simp [intOf]; omega
    · go_wp2
      go_ret
      exact ⟨ret_int (by rw [List.take_of_length_le (by simp; omega)]), rfl⟩

end Go.Proofs.YtancidbbkoeokaaGreat
