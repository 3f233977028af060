/- Plain mathematics: a numeral is read as its number. Nothing of the program is said here. -/
import Derived.Test.YtancidbbkoeokaaGreatDoorNum
import Derived.Test.YtancidbbkoeokaaGreatDoorDig
namespace Go.Proofs.YtancidbbkoeokaaGreatDoor

theorem dch_nat (d : Nat) (h : d < 16) : (dch d).toNat = if d < 10 then 48 + d else 87 + d := by
  unfold dch; split
  · simp; omega
  · simp; omega
theorem dig_dch (d : Nat) (h : d < 16) : dig ((dch d).toNat : Int) = d := by
  rw [dch_nat d h]
  by_cases hd : d < 10
  · rw [if_pos hd, dig_num (by omega) (by omega)]; omega
  · rw [if_neg hd, dig_let (by omega) (by omega)]; omega
theorem lead_append (b : Int) : ∀ (n : Int) (l r : List UInt8), (lead b n l).2 = l.length → lead b n (l ++ r) = ((lead b (lead b n l).1 r).1, (lead b (lead b n l).1 r).2 + l.length)
  | n, [], r, _ => by simp [lead]
  | n, c :: l, r, h => by
    cases hs : step b n (c.toNat : Int) with
    | none => rw [lead_none hs] at h; simp at h
    | some m =>
      rw [lead_some hs] at h
      simp only [List.length_cons, Nat.add_right_cancel_iff] at h
      rw [List.cons_append, lead_some hs, lead_append b m l r h, lead_some hs]
      simp; omega
/-- The digits of u are read as u, whatever follows is read on from there. -/
theorem lead_digs (b : Nat) (hb : 2 ≤ b) (hb16 : b ≤ 16) : ∀ (k u : Nat), u ≤ k → (u : Int) ≤ 9007199254740991 → lead b 0 (digs b u) = ((u : Int), (digs b u).length) := by
  intro k
  induction k with
  | zero => intro u h _; obtain rfl : u = 0 := by omega
            simp [digs_zero, lead]
  | succ k ih =>
    intro u h hM
    by_cases hu : u = 0
    · subst hu; simp [digs_zero, lead]
    · have hlt : u / b < u := Nat.div_lt_self (by omega) (by omega)
      have h1 := ih (u / b) (by omega) (by omega)
      have hmod : u % b < b := Nat.mod_lt u (by omega)
      have hdm := Nat.div_add_mod u b
      have hst : step b ((u / b : Nat) : Int) ((dch (u % b)).toNat : Int) = some (u : Int) := by
        have h2 : ((u / b : Nat) : Int) * (b : Int) + ((u % b : Nat) : Int) = (u : Int) := by
          have : u / b * b + u % b = u := by rw [Nat.mul_comm]; exact hdm
          exact_mod_cast this
        rw [step_ok (dig_dch (u % b) (by omega)) (by omega) (by omega) (by rw [h2]; exact hM), h2]
      rw [digs_pos hb (by omega), lead_append _ _ _ _ (by rw [h1]), h1]
      simp only
      rw [lead_some hst]
      simp [lead]; omega
theorem lead_numeral (b : Nat) (hb : 2 ≤ b) (hb16 : b ≤ 16) (u : Nat) (hM : (u : Int) ≤ 9007199254740991) : lead b 0 (numeral b u) = ((u : Int), (numeral b u).length) := by
  unfold numeral; split
  · rename_i h; subst h
    have hs : step b 0 (((48 : UInt8).toNat : Nat) : Int) = some 0 := by
      have := step_ok (b := b) (n := 0) (c := (((48 : UInt8).toNat : Nat) : Int)) (d := 0) (by decide) (by omega) (by omega) (by omega)
      simpa using this
    rw [lead_some hs]; simp [lead]
  · exact lead_digs b hb hb16 u u (Nat.le_refl _) hM
/-- What does not begin with a digit stops the reading. -/
def Stops (b : Int) (r : List UInt8) : Prop := r = [] ∨ ∃ c t, r = c :: t ∧ ∀ n, step b n (c.toNat : Int) = none
theorem lead_then (b : Nat) (hb : 2 ≤ b) (hb16 : b ≤ 16) (u : Nat) (hM : (u : Int) ≤ 9007199254740991) (r : List UInt8) (hr : Stops b r) : lead b 0 (numeral b u ++ r) = ((u : Int), (numeral b u).length) := by
  have h := lead_numeral b hb hb16 u hM
  rw [lead_append _ _ _ _ (by rw [h]), h]
  simp only
  rcases hr with rfl | ⟨c, t, rfl, hc⟩
  · simp [lead]
  · rw [lead_none (hc _)]; simp
theorem zeros_lead (b : Nat) (hb : 2 ≤ b) : ∀ (k : Nat) (l : List UInt8), lead b 0 (List.replicate k 48 ++ l) = ((lead b 0 l).1, (lead b 0 l).2 + k)
  | 0, l => by simp
  | k + 1, l => by
    have hs : step b 0 (((48 : UInt8).toNat : Nat) : Int) = some 0 := by
      have := step_ok (b := b) (n := 0) (c := (((48 : UInt8).toNat : Nat) : Int)) (d := 0) (by decide) (by omega) (by omega) (by omega)
      simpa using this
    rw [List.replicate_succ, List.cons_append, lead_some hs, zeros_lead b hb k l]
    simp; omega
theorem space_stops (b : Int) (k : Nat) : Stops b (List.replicate k 32) := by
  cases k with
  | zero => exact .inl rfl
  | succ k => exact .inr ⟨32, List.replicate k 32, rfl, fun n => step_bad (d := -1) (by decide) (.inl (by omega))⟩
theorem digs_lt {b : Nat} (hb : 2 ≤ b) : ∀ (k u : Nat), (digs b u).length ≤ k → u < b ^ k
  | 0, u, h => by
    rcases Nat.eq_zero_or_pos u with hu | hu
    · subst hu; simp
    · rw [digs_pos hb hu] at h; simp at h
  | k + 1, u, h => by
    rcases Nat.eq_zero_or_pos u with hu | hu
    · subst hu; exact Nat.pow_pos (by omega)
    · rw [digs_pos hb hu] at h
      simp at h
      have := digs_lt hb k (u / b) h
      rw [Nat.div_lt_iff_lt_mul (by omega)] at this
      rw [Nat.pow_succ]; exact this
theorem numeral_lt {b : Nat} (hb : 2 ≤ b) (k u : Nat) (h : (numeral b u).length ≤ k) : u < b ^ k := by
  unfold numeral at h; split at h
  · rename_i hu; subst hu; exact Nat.pow_pos (by omega)
  · exact digs_lt hb k u h
end Go.Proofs.YtancidbbkoeokaaGreatDoor
