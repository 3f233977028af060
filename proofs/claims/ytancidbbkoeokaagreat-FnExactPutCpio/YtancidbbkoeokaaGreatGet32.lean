/- Contracts of spec.Get32, impl.getWord[uint32], impl.Get32 and the law laws.FnExactGet32: for every string, index and byte order. -/
import Derived.Test.YtancidbbkoeokaaGreatGet16
namespace Go.Proofs.YtancidbbkoeokaaGreat
open Go.ChangeShapes Go.WideShapes Go.ChangeAt Go.RowKit

def get32v (s : ByteArray) (i : Int) (high : Bool) : Int :=
  if i < 0 ∨ (s.size : Int) - 4 < i then -1 else 65536 * get16v s i high + get16v s (i + 2) high

theorem get16v_bd (s : ByteArray) (i : Int) (high : Bool) : -1 ≤ get16v s i high ∧ get16v s i high ≤ 65535 := by
  have a := byteAt_bd s i.toNat
  have b := byteAt_bd s (i.toNat + 1)
  unfold get16v
  split
  · omega
  · split <;> omega

theorem get32_spec (s : ByteArray) (i : Int) (high : Bool) (w : World) (hs : s.size ≤ 9223372036854775807) :
    Calls Tryz.prog 46 #[.string s, .int .i64 i, .bool high] w fun e w' => e = .returned (.int .i64 (get32v s i high)) ∧ ∃ n, w' = w.drewN n := by
  by_cases h0 : i < 0
  · go_enter Tryz.func46, Tryz.ntmps46
    go_wp2
    go_ret
    exact ⟨ret_int (by simp [get32v, h0]), 0, rfl⟩
  · by_cases h1 : (s.size : Int) - 4 < i
    · go_enter Tryz.func46, Tryz.ntmps46
      go_wp2
      go_ret
      exact ⟨ret_int (by simp [get32v, h1]), 0, rfl⟩
    · have b1 := get16v_bd s i high
      have b2 := get16v_bd s (i + 2) high
      go_enter Tryz.func46, Tryz.ntmps46
      go_wp2_with fail
      refine (get16_spec _ _ _ _ hs).mono ?_
      rintro e w' ⟨rfl, n, rfl⟩
      go_wp2_with fail
      refine (get16_spec _ _ _ _ hs).mono ?_
      rintro e w' ⟨rfl, m, rfl⟩
      go_wp2_with fail
      go_ret
      exact ⟨ret_int (by rw [get32v, if_neg (by omega)]), _, rfl⟩

theorem get16v_at (s : ByteArray) (k : Nat) (high : Bool) (h : k + 1 < s.size) : get16v s k high = if high then 256 * byteAt s k + byteAt s (k + 1) else 256 * byteAt s (k + 1) + byteAt s k := by
  have hn : ¬ ((k : Int) < 0 ∨ (s.size : Int) - 2 < (k : Int)) := by omega
  rw [get16v, if_neg hn, Int.toNat_natCast]
theorem get32v_at (s : ByteArray) (k : Nat) (high : Bool) (h : k + 3 < s.size) : get32v s k high = 65536 * get16v s k high + get16v s ((k + 2 : Nat) : Int) high := by
  have hn : ¬ ((k : Int) < 0 ∨ (s.size : Int) - 4 < (k : Int)) := by omega
  rw [get32v, if_neg hn]; rfl
theorem get32v_high (s : ByteArray) (k : Nat) (h : k + 3 < s.size) : get32v s k true = 65536 * (256 * (s[k].toNat : Int) + s[k + 1].toNat) + (256 * (s[k + 2].toNat : Int) + s[k + 3].toNat) := by
  rw [byteAt_eq s k (by omega), byteAt_eq s (k + 1) (by omega), byteAt_eq s (k + 2) (by omega), byteAt_eq s (k + 3) h, get32v_at s k _ h, get16v_at s k _ (by omega), get16v_at s (k + 2) _ (by omega)]
  rfl
theorem get32v_low (s : ByteArray) (k : Nat) (h : k + 3 < s.size) : get32v s k false = 65536 * (256 * (s[k + 1].toNat : Int) + s[k].toNat) + (256 * (s[k + 3].toNat : Int) + s[k + 2].toNat) := by
  rw [byteAt_eq s k (by omega), byteAt_eq s (k + 1) (by omega), byteAt_eq s (k + 2) (by omega), byteAt_eq s (k + 3) h, get32v_at s k _ h, get16v_at s k _ (by omega), get16v_at s (k + 2) _ (by omega)]
  rfl

theorem word32_get (s : ByteArray) (i : Int) (high : Bool) (w : World) (hs : s.size ≤ 9223372036854775807) :
    Calls Tryz.prog 148 #[.string s, .int .i64 i, .bool high] w fun e w' => e = .returned (.int .i64 (get32v s i high)) ∧ ∃ n, w' = w.drewN n := by
  by_cases h0 : i < 0
  · go_enter Tryz.func148, Tryz.ntmps148
    go_wp2_with (go_at_call 142; refine (size32 _).mono ?_; rintro e w' ⟨rfl, rfl⟩)
    go_ret
    exact ⟨ret_int (by simp [get32v, h0]), 0, rfl⟩
  · by_cases h1 : (s.size : Int) - 4 < i
    · go_enter Tryz.func148, Tryz.ntmps148
      go_wp2_with (go_at_call 142; refine (size32 _).mono ?_; rintro e w' ⟨rfl, rfl⟩)
      go_ret
      exact ⟨ret_int (by simp [get32v, h1]), 0, rfl⟩
    · obtain ⟨k, rfl⟩ := Int.eq_ofNat_of_zero_le (by omega : 0 ≤ i)
      have hk3 : k + 3 < s.size := by omega
      have hk2 : k + 2 < s.size := by omega
      have hk : k + 1 < s.size := by omega
      have hk0 : k < s.size := by omega
      have hki0 : (k : Int) < (s.size : Int) := by omega
      have hki : (k : Int) + 1 < (s.size : Int) := by omega
      have hki2 : (k : Int) + 2 < (s.size : Int) := by omega
      have hki3 : (k : Int) + 2 + 1 < (s.size : Int) := by omega
      have e1 : IntKind.i64.wrap ((k : Int) + 1) = (k : Int) + 1 := IntWalk.i64_in _ (by omega)
      have e2 : (0 : Int) ≤ (k : Int) + 1 := by omega
      have e3 : ((k : Int) + 1).toNat = k + 1 := by omega
      have e4 : IntKind.i64.wrap ((k : Int) + 2 + 1) = (k : Int) + 2 + 1 := IntWalk.i64_in _ (by omega)
      have e5 : (0 : Int) ≤ (k : Int) + 2 + 1 := by omega
      have e6 : ((k : Int) + 2 + 1).toNat = k + 3 := by omega
      have e7 : (0 : Int) ≤ (k : Int) + 2 := by omega
      have e8 : ((k : Int) + 2).toNat = k + 2 := by omega
      cases high
      all_goals
        go_enter Tryz.func148, Tryz.ntmps148
        go_wp2_with (go_at_call 142; refine (size32 _).mono ?_; rintro e w' ⟨rfl, rfl⟩)
        refine wp_loop_rounds 3 ?_
        rw [rounds_succ]
        go_wp2
        go_quiet (fail)
        go_wp2
        rw [rounds_succ]
        go_wp2
        go_quiet (fail)
        go_wp2
        rw [rounds_succ]
        go_wp2
        go_ret
        refine ⟨ret_int ?_, _, rfl⟩
        have c0 := UInt8.toNat_lt s[k]
        have c1 := UInt8.toNat_lt s[k + 1]
        have c2 := UInt8.toNat_lt s[k + 2]
        have c3 := UInt8.toNat_lt s[k + 3]
        first | rw [get32v_high s k hk3] | rw [get32v_low s k hk3]
        exact join32 _ _ _ _ (by omega) (by omega) (by omega) (by omega)

theorem get32_impl (s : ByteArray) (i : Int) (high : Bool) (w : World) (hs : s.size ≤ 9223372036854775807) :
    Calls Tryz.prog 146 #[.string s, .int .i64 i, .bool high] w fun e w' => e = .returned (.int .i64 (get32v s i high)) ∧ ∃ n, w' = w.drewN n := by
  go_enter Tryz.func146, Tryz.ntmps146
  go_wp2_with fail
  refine (word32_get _ _ _ _ hs).mono ?_
  rintro e w' ⟨rfl, n, rfl⟩
  go_wp2_with fail
  go_ret
  exact ⟨rfl, n, rfl⟩

end Go.Proofs.YtancidbbkoeokaaGreat
