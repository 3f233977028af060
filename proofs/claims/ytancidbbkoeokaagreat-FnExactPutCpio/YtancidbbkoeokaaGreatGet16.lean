/- Contracts of spec.Get16, impl.getWord[uint16], impl.Get16 and the law laws.FnExactGet16: for every string, index and byte order. -/
import Derived.Test.YtancidbbkoeokaaGreatWord
import Derived.Test.YtancidbbkoeokaaGreatBit
import Derived.WalkSmall
import Derived.IntWalk
namespace Go.Proofs.YtancidbbkoeokaaGreat
open Go.ChangeShapes Go.WideShapes Go.ChangeAt Go.RowKit

def byteAt (s : ByteArray) (k : Nat) : Int := ((s.data.toList.getD k 0).toNat : Int)
theorem byteAt_eq (s : ByteArray) (k : Nat) (h : k < s.size) : (s[k].toNat : Int) = byteAt s k := by
  have h' : k < s.data.toList.length := by simpa using h
  rw [byteAt, List.getD_eq_getElem?_getD, List.getElem?_eq_getElem h']; rfl
theorem byteAt_bd (s : ByteArray) (k : Nat) : 0 ≤ byteAt s k ∧ byteAt s k ≤ 255 := by
  have := UInt8.toNat_lt (s.data.toList.getD k 0)
  unfold byteAt; omega

def get16v (s : ByteArray) (i : Int) (high : Bool) : Int :=
  if i < 0 ∨ (s.size : Int) - 2 < i then -1 else if high then 256 * byteAt s i.toNat + byteAt s (i.toNat + 1) else 256 * byteAt s (i.toNat + 1) + byteAt s i.toNat

theorem get16_spec (s : ByteArray) (i : Int) (high : Bool) (w : World) (hs : s.size ≤ 9223372036854775807) :
    Calls Tryz.prog 45 #[.string s, .int .i64 i, .bool high] w fun e w' => e = .returned (.int .i64 (get16v s i high)) ∧ ∃ n, w' = w.drewN n := by
  by_cases h0 : i < 0
  · go_enter Tryz.func45, Tryz.ntmps45
    go_wp2
    go_ret
    exact ⟨ret_int (by simp [get16v, h0]), 0, rfl⟩
  · by_cases h1 : (s.size : Int) - 2 < i
    · go_enter Tryz.func45, Tryz.ntmps45
      go_wp2
      go_ret
      exact ⟨ret_int (by simp [get16v, h1]), 0, rfl⟩
    · obtain ⟨k, rfl⟩ := Int.eq_ofNat_of_zero_le (by omega : 0 ≤ i)
      have hk : k + 1 < s.size := by omega
      have hk0 : k < s.size := by omega
      have hki0 : (k : Int) < (s.size : Int) := by omega
      have hki : (k : Int) + 1 < (s.size : Int) := by omega
      have e1 : IntKind.i64.wrap ((k : Int) + 1) = (k : Int) + 1 := IntWalk.i64_in _ (by omega)
      have e2 : (0 : Int) ≤ (k : Int) + 1 := by omega
      have e3 : ((k : Int) + 1).toNat = k + 1 := by omega
      cases high
      all_goals
        go_enter Tryz.func45, Tryz.ntmps45
        go_wp2
        go_quiet (fail)
        go_wp2
        go_ret
        refine ⟨ret_int ?_, nq, rfl⟩
        rw [get16v, if_neg (by omega)]
        have c0 := UInt8.toNat_lt s[k]
        have c1 := UInt8.toNat_lt s[k + 1]
        simp only [Int.toNat_natCast, ← byteAt_eq s k hk0, ← byteAt_eq s (k + 1) hk, if_true]
        simp [wrap64]
        omega

theorem word16_get (s : ByteArray) (i : Int) (high : Bool) (w : World) (hs : s.size ≤ 9223372036854775807) :
    Calls Tryz.prog 149 #[.string s, .int .i64 i, .bool high] w fun e w' => e = .returned (.int .i64 (get16v s i high)) ∧ ∃ n, w' = w.drewN n := by
  by_cases h0 : i < 0
  · go_enter Tryz.func149, Tryz.ntmps149
    go_wp2_with (go_at_call 74; refine (size16 _).mono ?_; rintro e w' ⟨rfl, rfl⟩)
    go_ret
    exact ⟨ret_int (by simp [get16v, h0]), 0, rfl⟩
  · by_cases h1 : (s.size : Int) - 2 < i
    · go_enter Tryz.func149, Tryz.ntmps149
      go_wp2_with (go_at_call 74; refine (size16 _).mono ?_; rintro e w' ⟨rfl, rfl⟩)
      go_ret
      exact ⟨ret_int (by simp [get16v, h1]), 0, rfl⟩
    · obtain ⟨k, rfl⟩ := Int.eq_ofNat_of_zero_le (by omega : 0 ≤ i)
      have hk : k + 1 < s.size := by omega
      have hk0 : k < s.size := by omega
      have hki0 : (k : Int) < (s.size : Int) := by omega
      have hki : (k : Int) + 1 < (s.size : Int) := by omega
      have e1 : IntKind.i64.wrap ((k : Int) + 1) = (k : Int) + 1 := IntWalk.i64_in _ (by omega)
      have e2 : (0 : Int) ≤ (k : Int) + 1 := by omega
      have e3 : ((k : Int) + 1).toNat = k + 1 := by omega
      cases high
      all_goals
        go_enter Tryz.func149, Tryz.ntmps149
        go_wp2_with (go_at_call 74; refine (size16 _).mono ?_; rintro e w' ⟨rfl, rfl⟩)
        refine wp_loop_rounds 2 ?_
        rw [rounds_succ]
        go_wp2
        go_quiet (fail)
        go_wp2
        rw [rounds_succ]
        go_wp2
        go_ret
        refine ⟨ret_int ?_, nq, rfl⟩
        rw [get16v, if_neg (by omega)]
        have c0 := UInt8.toNat_lt s[k]
        have c1 := UInt8.toNat_lt s[k + 1]
        simp only [Int.toNat_natCast, ← byteAt_eq s k hk0, ← byteAt_eq s (k + 1) hk, if_true]
        exact join16 _ _ (by omega) (by omega)

theorem get16_impl (s : ByteArray) (i : Int) (high : Bool) (w : World) (hs : s.size ≤ 9223372036854775807) :
    Calls Tryz.prog 147 #[.string s, .int .i64 i, .bool high] w fun e w' => e = .returned (.int .i64 (get16v s i high)) ∧ ∃ n, w' = w.drewN n := by
  go_enter Tryz.func147, Tryz.ntmps147
  go_wp2_with fail
  refine (word16_get _ _ _ _ hs).mono ?_
  rintro e w' ⟨rfl, n, rfl⟩
  go_wp2_with fail
  go_ret
  exact ⟨rfl, n, rfl⟩

end Go.Proofs.YtancidbbkoeokaaGreat
