/- Plain mathematics: what PutOct writes is read as the number, and what is read as a number is what is written for it. -/
import Derived.Test.YtancidbbkoeokaaGreatDoorGetOH
import Derived.Test.YtancidbbkoeokaaGreatDoorPutOH
import Derived.Test.YtancidbbkoeokaaGreatDoorBack
namespace Go.Proofs.YtancidbbkoeokaaGreatDoor

theorem ahead_lead (b : Nat) (hb : 2 ≤ b) (hb16 : b ≤ 16) (u : Nat) (hM : (u : Int) ≤ 9007199254740991) (width : Int) : lead b 0 (ahead (numeral b u) width) = ((u : Int), (ahead (numeral b u) width).length) := by
  unfold ahead
  rw [zeros_lead b hb, lead_numeral b hb hb16 u hM]
  simp; omega
theorem ahead_vals (b : Nat) (hb : 2 ≤ b) (hb16 : b ≤ 16) (u : Nat) (hM : (u : Int) ≤ 9007199254740991) (width : Int) : vals b 0 (ahead (numeral b u) width) = u := by
  rw [vals_lead b (by omega) 0 _ (by omega), ahead_lead b hb hb16 u hM]
  simp
theorem oct_back (n width : Int) (h : (putOctv n width).2 = true) : getOctv (putOctv n width).1.data.toList = (n, true) ∧ ((putOctv n width).1.size : Int) = width := by
  unfold putOctv at h ⊢
  split at h
  · rename_i hv
    rw [if_pos hv]
    obtain ⟨⟨h0, h1, h2, h3⟩, h4⟩ := hv
    obtain ⟨u, rfl⟩ := Int.eq_ofNat_of_zero_le h0
    have hv : vals (8 : Int) 0 (ahead (numeral 8 u) width) = u := ahead_vals 8 (by omega) (by omega) u h1 width
    have hl := ahead_len (numeral 8 u) width
    simp only [Int.toNat_natCast] at h4 ⊢
    have hlw : (ahead (numeral 8 u) width).length = width.toNat := by rw [hl]; omega
    refine ⟨?_, ?_⟩
    · show getOctv (ahead (numeral 8 u) width) = _
      rw [getOctv, hv, if_pos ⟨by omega, by omega, by omega⟩]
    · rw [ba_size, hlw]; omega
  · simp at h
theorem vals_append (b : Int) (hb : 0 ≤ b) : ∀ (n : Int) (l r : List UInt8), 0 ≤ n → vals b n (l ++ r) = if 0 ≤ vals b n l then vals b (vals b n l) r else -1
  | n, [], r, h => by simp [vals, h]
  | n, c :: l, r, h => by
    cases hs : step b n (c.toNat : Int) with
    | none => rw [List.cons_append, vals_none hs, vals_none hs]; simp
    | some m => rw [List.cons_append, vals_some hs, vals_some hs]; exact vals_append b hb m l r (step_bd hb h hs).1
theorem dch_of_dig {c : UInt8} {d : Nat} (hd : d < 16) (h : dig (c.toNat : Int) = d) : c = dch d := by
  apply UInt8.toNat_inj.1
  rw [dch_nat d hd]
  unfold dig at h
  have := UInt8.toNat_lt c
  split at h
  · rw [if_pos (by omega)]; omega
  · split at h
    · rw [if_neg (by omega)]; omega
    · omega
theorem step_inv {b m n : Int} {c : UInt8} (h : step b m (c.toNat : Int) = some n) : 0 ≤ dig (c.toNat : Int) ∧ dig (c.toNat : Int) < b ∧ n = m * b + dig (c.toNat : Int) := by
  unfold step at h
  split at h
  · simp at h
  · simp at h; omega
theorem vals_digs (b : Nat) (hb : 2 ≤ b) (hb16 : b ≤ 16) : ∀ (k : Nat) (l : List UInt8), l.length = k → ∀ u : Nat, vals b 0 l = u → (digs b u).length ≤ l.length ∧ l = List.replicate (l.length - (digs b u).length) 48 ++ digs b u := by
  intro k
  induction k with
  | zero =>
    intro l hl u hu
    have : l = [] := List.eq_nil_of_length_eq_zero hl
    subst this
    have : u = 0 := by simp [vals] at hu; omega
    subst this
    simp [digs_zero]
  | succ k ih =>
    intro l hl u hu
    obtain ⟨t, c, rfl⟩ : ∃ t c, l = t ++ [c] := ⟨l.dropLast, l.getLast (by intro e; rw [e] at hl; simp at hl), (List.dropLast_concat_getLast _).symm⟩
    have htl : t.length = k := by simpa using hl
    have ha := vals_append b (by omega) 0 t [c] (by omega)
    rw [hu] at ha
    by_cases hv : 0 ≤ vals b 0 t
    · rw [if_pos hv] at ha
      obtain ⟨m, hm⟩ := Int.eq_ofNat_of_zero_le hv
      obtain ⟨h1, h2⟩ := ih t htl m hm
      cases hs : step b (vals b 0 t) (c.toNat : Int) with
      | none => rw [vals_none hs] at ha; omega
      | some n =>
        rw [vals_some hs] at ha
        simp only [vals] at ha
        obtain ⟨d0, d1, d2⟩ := step_inv hs
        obtain ⟨d, hd⟩ := Int.eq_ofNat_of_zero_le d0
        have hdb : d < b := by omega
        have hc : c = dch d := dch_of_dig (by omega) hd
        have hum : u = m * b + d := by
          rw [hd, hm] at d2
          have : (u : Int) = ((m * b + d : Nat) : Int) := by rw [ha, d2]; simp
          exact_mod_cast this
        by_cases hu0 : u = 0
        · have hm0 : m = 0 := by
            rcases Nat.eq_zero_or_pos m with h | h
            · exact h
            · have := Nat.mul_pos h (show 0 < b by omega); omega
          have hd00 : d = 0 := by rw [hm0] at hum; omega
          subst hm0 hd00 hu0
          rw [digs_zero] at h2 ⊢
          refine ⟨by simp, ?_⟩
          rw [hc]
          simp only [List.length_nil, Nat.sub_zero, List.append_nil, List.length_append, List.length_singleton] at h2 ⊢
          rw [List.replicate_succ', ← h2]; rfl
        · have hdiv : u / b = m := by
            rw [hum, Nat.mul_comm, Nat.mul_add_div (by omega), Nat.div_eq_of_lt hdb]; omega
          have hmod : u % b = d := by
            rw [hum, Nat.mul_comm, Nat.mul_add_mod, Nat.mod_eq_of_lt hdb]
          rw [digs_pos hb (by omega), hdiv, hmod]
          refine ⟨by simp; omega, ?_⟩
          rw [hc]
          have e : (t ++ [dch d]).length - (digs b m ++ [dch d]).length = t.length - (digs b m).length := by simp
          rw [e, ← List.append_assoc, ← h2]
    · rw [if_neg hv] at ha; omega
theorem vals_ahead (b : Nat) (hb : 2 ≤ b) (hb16 : b ≤ 16) (l : List UInt8) (hl : 1 ≤ l.length) (u : Nat) (h : vals b 0 l = u) : (numeral b u).length ≤ l.length ∧ ahead (numeral b u) l.length = l := by
  obtain ⟨h1, h2⟩ := vals_digs b hb hb16 l.length l rfl u h
  by_cases hu : u = 0
  · subst hu
    rw [digs_zero] at h2
    simp only [List.length_nil, Nat.sub_zero, List.append_nil] at h2
    rw [show numeral b 0 = [48] from rfl]
    refine ⟨by simpa using hl, ?_⟩
    unfold ahead
    rw [Int.toNat_natCast]
    have e : List.replicate (l.length - ([48] : List UInt8).length) (48 : UInt8) ++ [48] = List.replicate (l.length - 1 + 1) 48 := by rw [List.replicate_succ']; rfl
    rw [e, show l.length - 1 + 1 = l.length by omega, ← h2]
  · rw [show numeral b u = digs b u from if_neg hu]
    refine ⟨h1, ?_⟩
    unfold ahead
    rw [Int.toNat_natCast, ← h2]
theorem vals_max (b : Int) (hb : 0 ≤ b) (l : List UInt8) : vals b 0 l ≤ 9007199254740991 := by
  have := lead_bd b hb 0 l (by omega) (by omega)
  rw [vals_lead b hb 0 l (by omega)]
  split <;> omega
theorem oct_read (s : ByteArray) (n : Int) (h : getOctv s.data.toList = (n, true)) : putOctv n s.size = (s, true) := by
  have hz : s.data.toList.length = s.size := by simp
  unfold getOctv at h
  split at h
  · rename_i hv
    obtain ⟨h1, h2, h3⟩ := hv
    have hn : vals 8 0 s.data.toList = n := (Prod.mk.inj h).1
    have hm := vals_max 8 (by omega) s.data.toList
    obtain ⟨u, hu⟩ := Int.eq_ofNat_of_zero_le h3
    have hun : n = u := by omega
    subst hun
    obtain ⟨g1, g2⟩ := vals_ahead 8 (by omega) (by omega) s.data.toList h1 u hu
    rw [hz] at g1 g2
    rw [putOctv, if_pos ⟨⟨by omega, by omega, by omega, by omega⟩, by rw [Int.toNat_natCast]; omega⟩]
    rw [Int.toNat_natCast, g2]
  · simp at h
end Go.Proofs.YtancidbbkoeokaaGreatDoor
