/- Plain mathematics of a number's digits in a base; nothing of the program is said here. -/
import Derived.Test.YtancidbbkoeokaaGreatCom
import Derived.Lib.ItoaNum
namespace Go.Proofs.YtancidbbkoeokaaGreat

def dch (d : Nat) : UInt8 := if d < 10 then UInt8.ofNat (48 + d) else UInt8.ofNat (87 + d)
/-- The digits of u in base b, none for 0. -/
def digs (b u : Nat) : List UInt8 :=
  if _h : u = 0 ∨ b < 2 then [] else digs b (u / b) ++ [dch (u % b)]
termination_by u
decreasing_by exact Nat.div_lt_self (by omega) (by omega)
def numeral (b u : Nat) : List UInt8 := if u = 0 then [48] else digs b u

theorem digs_zero (b : Nat) : digs b 0 = [] := by rw [digs, dif_pos (.inl rfl)]
theorem digs_pos {b u : Nat} (hb : 2 ≤ b) (hu : 0 < u) : digs b u = digs b (u / b) ++ [dch (u % b)] := by rw [digs, dif_neg (by omega)]
theorem digs_len {b : Nat} (hb : 2 ≤ b) : ∀ (k u : Nat), u < b ^ k → (digs b u).length ≤ k
  | 0, u, h => by have : u = 0 := by simpa using h
                  subst this; simp [digs_zero]
  | k + 1, u, h => by
    by_cases hu : u = 0
    · subst hu; simp [digs_zero]
    · rw [digs_pos hb (by omega)]
      have := digs_len hb k (u / b) (by rw [Nat.div_lt_iff_lt_mul (by omega)]; rw [Nat.pow_succ] at h; exact h)
      simp; omega
theorem digs_ne {b u : Nat} (hb : 2 ≤ b) (hu : 0 < u) : digs b u ≠ [] := by rw [digs_pos hb hu]; simp
theorem decDigits_eq (u : Nat) : Lib.decDigits u = numeral 10 u := by
  have key : ∀ n u, u ≤ n → 0 < u → Lib.decDigits u = digs 10 u := by
    intro n
    induction n with
    | zero => intro u h h'; omega
    | succ n ih =>
      intro u h h'
      rw [Lib.decDigits, digs_pos (by omega) h']
      by_cases hu : u < 10
      · have e : u / 10 = 0 := by omega
        have e2 : u % 10 = u := by omega
        rw [dif_pos hu, e, e2, digs_zero, dch, if_pos hu]; rfl
      · rw [dif_neg hu, ih (u / 10) (by omega) (by omega), dch, if_pos (by omega)]
  by_cases hu : u = 0
  · subst hu; rw [Lib.decDigits]; rfl
  · rw [numeral, if_neg hu]; exact key u u (Nat.le_refl _) (by omega)

theorem hexAt (d : Nat) (h : d < 16) : (⟨#[48, 49, 50, 51, 52, 53, 54, 55, 56, 57, 97, 98, 99, 100, 101, 102]⟩ : ByteArray).extract d (d + 1) = ⟨#[dch d]⟩ := by
  match d, h with
  | 0, _ => rfl
  | 1, _ => rfl
  | 2, _ => rfl
  | 3, _ => rfl
  | 4, _ => rfl
  | 5, _ => rfl
  | 6, _ => rfl
  | 7, _ => rfl
  | 8, _ => rfl
  | 9, _ => rfl
  | 10, _ => rfl
  | 11, _ => rfl
  | 12, _ => rfl
  | 13, _ => rfl
  | 14, _ => rfl
  | 15, _ => rfl
  | n + 16, h => exact absurd h (by omega)
theorem decAt (d : Nat) (h : d < 10) : (⟨#[48, 49, 50, 51, 52, 53, 54, 55, 56, 57]⟩ : ByteArray).extract d (d + 1) = ⟨#[dch d]⟩ := by
  match d, h with
  | 0, _ => rfl
  | 1, _ => rfl
  | 2, _ => rfl
  | 3, _ => rfl
  | 4, _ => rfl
  | 5, _ => rfl
  | 6, _ => rfl
  | 7, _ => rfl
  | 8, _ => rfl
  | 9, _ => rfl
  | n + 10, h => exact absurd h (by omega)
theorem cons_str (c : UInt8) (l : List UInt8) : (⟨#[c]⟩ : ByteArray) ++ ⟨l.toArray⟩ = ⟨(c :: l).toArray⟩ := by
  apply ByteArray.ext; simp
/-- m is what is left of the number u, l the digits made so far. -/
def DigFrom (b u m : Nat) (l : List UInt8) : Prop := digs b u = digs b m ++ l
theorem DigFrom.start (b u : Nat) : DigFrom b u u [] := by simp [DigFrom]
theorem DigFrom.more {b u m : Nat} {l : List UInt8} (hb : 2 ≤ b) (hm : 0 < m) (h : DigFrom b u m l) : DigFrom b u (m / b) (dch (m % b) :: l) := by
  unfold DigFrom at *
  rw [h, digs_pos hb hm]; simp
theorem DigFrom.done {b u : Nat} {l : List UInt8} (h : DigFrom b u 0 l) : l = digs b u := by
  unfold DigFrom at h
  rw [h, digs_zero]; rfl
theorem DigFrom.len {b u m k : Nat} {l : List UInt8} (hb : 2 ≤ b) (h : DigFrom b u m l) (hu : u < b ^ k) : l.length ≤ k := by
  have h1 := digs_len hb k u hu
  unfold DigFrom at h
  rw [h] at h1
  simp at h1; omega
end Go.Proofs.YtancidbbkoeokaaGreat
