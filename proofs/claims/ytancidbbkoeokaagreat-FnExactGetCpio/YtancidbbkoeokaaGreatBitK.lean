/- A number's last twelve bits, and the others. -/
import Derived.Test.YtancidbbkoeokaaGreatProg
import Derived.WalkKit
import Derived.Laws.Bits64b
namespace Go.Proofs.YtancidbbkoeokaaGreat
open Go.RowKit

theorem i64_and4095 (n : Int) : bits .and .i64 n 4095 = n % 4096 := by
  have h : (BitVec.ofInt 64 4095).toNat = 2 ^ 12 - 1 := by decide
  have key : (BitVec.ofInt 64 n &&& BitVec.ofInt 64 4095).toNat = (n % ((2 ^ 64 : Nat) : Int)).toNat % 2 ^ 12 := by
    rw [BitVec.toNat_and, BitVec.toNat_ofInt, h, Nat.and_two_pow_sub_one_eq_mod]
  show IntKind.i64.wrap ((BitVec.ofInt 64 n &&& BitVec.ofInt 64 4095).toNat : Nat) = n % 4096
  rw [key, IntKind.wrap_i64]
  omega
theorem and_high (x : Nat) (hx : x < 2 ^ 64) : x &&& (2 ^ 64 - 2 ^ 12) = x / 2 ^ 12 * 2 ^ 12 := by
  apply Nat.eq_of_testBit_eq
  intro i
  rw [show 2 ^ 64 - 2 ^ 12 = (2 ^ 52 - 1) * 2 ^ 12 from by decide, Nat.testBit_and, Nat.testBit_mul_two_pow, Nat.testBit_mul_two_pow, Nat.testBit_two_pow_sub_one, Nat.testBit_div_two_pow]
  by_cases h : 12 ≤ i
  · have e : i - 12 + 12 = i := by omega
    simp only [h, decide_true, Bool.true_and, e]
    by_cases h2 : i - 12 < 52
    · simp [h2]
    · have : x.testBit i = false := Nat.testBit_lt_two_pow (Nat.lt_of_lt_of_le hx (Nat.pow_le_pow_right (by omega) (by omega)))
      simp [this]
  · simp [h]
theorem i64_not4095 (n : Int) (h0 : -9223372036854775808 ≤ n) (h1 : n ≤ 9223372036854775807) : bits .andNot .i64 n 4095 = n - n % 4096 := by
  have h : (~~~(BitVec.ofInt 64 4095)).toNat = 2 ^ 64 - 2 ^ 12 := by decide
  have key : (BitVec.ofInt 64 n &&& ~~~(BitVec.ofInt 64 4095)).toNat = (n % ((2 ^ 64 : Nat) : Int)).toNat / 2 ^ 12 * 2 ^ 12 := by
    rw [BitVec.toNat_and, BitVec.toNat_ofInt, h, and_high _ (by omega)]
  show IntKind.i64.wrap ((BitVec.ofInt 64 n &&& ~~~(BitVec.ofInt 64 4095)).toNat : Nat) = n - n % 4096
  rw [key, IntKind.wrap_i64]
  omega
end Go.Proofs.YtancidbbkoeokaaGreat
