/- Contract of internal/strconv.formatBits at the bases 8 and 16, for numbers of 0 to 2^53 - 1: the numeral. -/
import Derived.Test.YtcnmbolmgifgfaaFmtArr
namespace Go.Proofs.Ytcnmbolmgifgfaa
open Go.ChangeShapes Go.WideShapes Go.ChangeAt Go.RowKit

theorem wraps_u63 (n : Int) (h₀ : 0 ≤ n) (h₁ : n < 2 ^ 63) : IntKind.u64.wrap n = n := by rw [IntKind.wrap_u64]; omega
theorem numeral_step {b u : Nat} {x : Nat} {l : List UInt8} (hb : 2 ≤ b) (hx : x < b) (h : DigFrom b u x l) (h0 : u = 0 → l = []) (h1 : 0 < u → 0 < x) : dch x :: l = numeral b u := by
  by_cases hu : u = 0
  · subst hu
    have hl := h0 rfl
    subst hl
    have : x = 0 := by
      have h2 : digs b 0 = digs b x ++ [] := h
      rcases Nat.eq_zero_or_pos x with h3 | h3
      · exact h3
      · rw [digs_zero, List.append_nil] at h2
        exact absurd h2.symm (digs_ne hb h3)
    subst this
    rfl
  · have h2 := h.more hb (h1 (by omega))
    rw [Nat.div_eq_of_lt hx, Nat.mod_eq_of_lt hx] at h2
    rw [numeral, if_neg hu, h2.done]

theorem and_7 (x : Int) (h₀ : 0 ≤ x) (h₁ : x ≤ 9007199254740991) : bits BinOp.and IntKind.u64 x 7 = x % 8 :=
  bits_mask .u64 63 (by decide) wraps_u63 3 (by decide) x h₀ (by omega)

theorem and_15 (x : Int) (h₀ : 0 ≤ x) (h₁ : x ≤ 9007199254740991) : bits BinOp.and IntKind.u64 x 15 = x % 16 :=
  bits_mask .u64 63 (by decide) wraps_u63 4 (by decide) x h₀ (by omega)

end Go.Proofs.Ytcnmbolmgifgfaa
