/- Plain lemmas on 'or' of words: bytes joined to words of 16 and 32 bits. Nothing of the program is said here. -/
import Derived.Test.YtancidbbkoeokaaGreatCom
namespace Go.Proofs.YtancidbbkoeokaaGreat
open Go.RowKit

theorem wraps_u16 (n : Int) (h₀ : 0 ≤ n) (h₁ : n < 2 ^ 16) : IntKind.u16.wrap n = n := by rw [IntKind.wrap_u16]; omega
theorem wraps_u32 (n : Int) (h₀ : 0 ≤ n) (h₁ : n < 2 ^ 32) : IntKind.u32.wrap n = n := by rw [IntKind.wrap_u32]; omega
theorem or16 (x y : Int) (hx₀ : 0 ≤ x) (hx : x % 256 = 0) (hx₁ : x < 65536) (hy₀ : 0 ≤ y) (hy : y < 256) : bits .or .u16 x y = x + y :=
  bits_join .u16 16 (by decide) wraps_u16 8 x y hx₀ hx hx₁ hy₀ hy (by omega)
theorem or32 (x y : Int) (hx₀ : 0 ≤ x) (hx : x % 256 = 0) (hx₁ : x < 4294967296) (hy₀ : 0 ≤ y) (hy : y < 256) : bits .or .u32 x y = x + y :=
  bits_join .u32 32 (by decide) wraps_u32 8 x y hx₀ hx hx₁ hy₀ hy (by omega)

theorem join16 (a b : Nat) (ha : a < 256) (hb : b < 256) :
    wrap64 (bits .or .u16 (IntKind.u16.wrap (bits .or .u16 0 (IntKind.u16.wrap a) * 256)) (IntKind.u16.wrap b)) = 256 * (a : Int) + b := by
  rw [wraps_u16 a (by omega) (by omega), wraps_u16 b (by omega) (by omega), or16 0 a (by omega) (by omega) (by omega) (by omega) (by omega),
    wraps_u16 _ (by omega) (by omega), or16 _ b (by omega) (by omega) (by omega) (by omega) (by omega)]
  unfold wrap64; omega

theorem join32 (a b c d : Nat) (ha : a < 256) (hb : b < 256) (hc : c < 256) (hd : d < 256) :
    wrap64 (bits .or .u32 (bits .or .u32 (bits .or .u32 (bits .or .u32 0 ((a : Int) % 4294967296) * 256 % 4294967296) ((b : Int) % 4294967296) * 256 % 4294967296) ((c : Int) % 4294967296) * 256 % 4294967296) ((d : Int) % 4294967296))
      = 65536 * (256 * (a : Int) + b) + (256 * (c : Int) + d) := by
  have m : ∀ x : Int, 0 ≤ x → x < 4294967296 → x % 4294967296 = x := fun x h k => Int.emod_eq_of_lt h k
  rw [m a (by omega) (by omega), m b (by omega) (by omega), m c (by omega) (by omega), m d (by omega) (by omega),
    or32 0 a (by omega) (by omega) (by omega) (by omega) (by omega), m ((0 + (a : Int)) * 256) (by omega) (by omega),
    or32 _ b (by omega) (by omega) (by omega) (by omega) (by omega), m (((0 + (a : Int)) * 256 + (b : Int)) * 256) (by omega) (by omega),
    or32 _ c (by omega) (by omega) (by omega) (by omega) (by omega), m ((((0 + (a : Int)) * 256 + (b : Int)) * 256 + (c : Int)) * 256) (by omega) (by omega),
    or32 _ d (by omega) (by omega) (by omega) (by omega) (by omega)]
  unfold wrap64; omega
end Go.Proofs.YtancidbbkoeokaaGreat
