/- A card with hexadecimal numbers read at a place of a text: plain mathematics. -/
import Derived.Test.YtcnmbolmgifgfaaGetCdM
import Derived.Test.YtcnmbolmgifgfaaNewK
namespace Go.Proofs.Ytcnmbolmgifgfaa
open Go.ChangeShapes Go.WideShapes Go.ChangeAt Go.RowKit Go.Deep

theorem vals16_bd : ∀ (l : List UInt8) (n : Int), 0 ≤ n → vals 16 n l < (n + 1) * 16 ^ l.length := by
  intro l
  induction l with
  | nil => intro n h; simp [vals]; omega
  | cons c l ih =>
    intro n hn
    rw [vals]
    cases h : step 16 n (c.toNat : Int) with
    | none =>
      have h1 : (0 : Int) ≤ (n + 1) * 16 ^ (c :: l).length := Int.mul_nonneg (by omega) (Int.pow_nonneg (by decide))
      show (-1 : Int) < _
      omega
    | some m =>
      obtain ⟨h0, hm⟩ := step_bd (b := 16) (by decide) hn h
      have hm2 : m + 1 ≤ (n + 1) * 16 := by
        unfold step at h
        split at h
        · cases h
        · rename_i hd
          have := Option.some.inj h
          omega
      have h1 := ih m h0
      have h2 : (m + 1) * 16 ^ l.length ≤ (n + 1) * 16 * 16 ^ l.length := Int.mul_le_mul_of_nonneg_right hm2 (Int.pow_nonneg (by decide))
      rw [List.length_cons, Int.pow_succ, Int.mul_comm (16 ^ l.length) 16, ← Int.mul_assoc]
      exact Int.lt_of_lt_of_le h1 h2
theorem hexv_bds (l : List UInt8) : 0 ≤ (getHexv l).1 ∧ (getHexv l).1 ≤ 4294967295 := by
  unfold getHexv
  split
  · rename_i h
    refine ⟨h.2, ?_⟩
    have h1 := vals16_bd l 0 (by omega)
    rw [h.1] at h1
    have h2 : ((0 : Int) + 1) * 16 ^ 8 = 4294967296 := by decide
    rw [h2] at h1
    show vals 16 0 l ≤ _
    omega
  · exact ⟨by decide, by decide⟩
/-- The bytes of the k-th number of a card that begins at j. -/
def nB (s : ByteArray) (j k : Nat) : ByteArray := s.extract (j + 6 + 8 * k) (j + 14 + 8 * k)
def nN (s : ByteArray) (j k : Nat) : Int := (getHexv (nB s j k).data.toList).1
def nO (s : ByteArray) (j k : Nat) : Bool := (getHexv (nB s j k).data.toList).2
theorem nN_bd (s : ByteArray) (j k : Nat) : 0 ≤ nN s j k ∧ nN s j k ≤ 4294967295 := hexv_bds _
def allN (s : ByteArray) (j : Nat) : Bool := (List.range 13).all (nO s j)
theorem allN_bad {s : ByteArray} {j k : Nat} (h : k < 13) (hk : nO s j k = false) : allN s j = false := by
  rw [allN, List.all_eq_false]
  exact ⟨k, List.mem_range.2 h, by simp [hk]⟩
theorem allN_good {s : ByteArray} {j : Nat} (h : ∀ k, k < 13 → nO s j k = true) : allN s j = true := List.all_eq_true.2 (fun k hk => h k (List.mem_range.1 hk))
/-- Places behind a head at j: the name's end, the data's begin and end, the card's end. -/
def nmE (s : ByteArray) (j : Nat) : Nat := j + 110 + (nN s j 11).toNat
def dtB (s : ByteArray) (j : Nat) : Nat := nmE s j + pad4 (110 + (nN s j 11).toNat)
def dtE (s : ByteArray) (j : Nat) : Nat := dtB s j + (nN s j 6).toNat
def cdE (s : ByteArray) (j : Nat) : Nat := dtE s j + pad4 (nN s j 6).toNat
def nmB (s : ByteArray) (j : Nat) : ByteArray := s.extract (j + 110) (nmE s j)
def dtT (s : ByteArray) (j : Nat) : ByteArray := s.extract (dtB s j) (dtE s j)
def badN (s : ByteArray) (j : Nat) : Prop := ¬ ((cutv (nmB s j)).size : Int) + 1 = nN s j 11 ∨ ¬ s.extract (nmE s j) (dtB s j) = nulN (pad4 (110 + (nN s j 11).toNat)) ∨ ¬ s.extract (dtE s j) (cdE s j) = nulN (pad4 (nN s j 6).toNat)
instance (s : ByteArray) (j : Nat) : Decidable (badN s j) := by unfold badN; infer_instance
/-- The code of a card's reading at i. -/
def ncCode (s : ByteArray) (i : Int) (crc : Bool) : Int :=
  if i < 0 ∨ (s.size : Int) < i + 110 then 1
  else if ¬ s.extract i.toNat (i.toNat + 6) = mgN crc then 4
  else if allN s i.toNat = false then 3
  else if ¬ (nN s i.toNat 7 = 0 ∧ nN s i.toNat 8 = 0 ∧ nN s i.toNat 9 = 0 ∧ nN s i.toNat 10 = 0) then 3
  else if s.size < cdE s i.toNat then 1
  else if badN s i.toNat then 4
  else if ¬ nN s i.toNat 12 = sumN crc (dtT s i.toNat) then 2
  else 0
def ncCard (s : ByteArray) (i : Int) (crc : Bool) : Card := if ncCode s i crc = 0 then ⟨nN s i.toNat 0, nN s i.toNat 1, nN s i.toNat 2, nN s i.toNat 3, nN s i.toNat 4, nN s i.toNat 5, cutv (nmB s i.toNat), dtT s i.toNat⟩ else zeroC
def ncNext (s : ByteArray) (i : Int) (crc : Bool) : Int := if ncCode s i crc = 0 then cdE s i.toNat else i
def ncV (s : ByteArray) (i : Int) (crc : Bool) : Value := .tuple #[.agg (ncCard s i crc).cells.toArray, .int .i64 (ncNext s i crc), .int .i64 (ncCode s i crc)]
def bdV (i c : Int) : Value := .tuple #[.agg zeroC.cells.toArray, .int .i64 i, .int .i64 c]
theorem ncV_of {s : ByteArray} {i c : Int} {crc : Bool} (h : ncCode s i crc = c) (hc : ¬ c = 0) : ncV s i crc = bdV i c := by
  rw [ncV, ncCard, ncNext, if_neg (by omega), if_neg (by omega), h]; rfl
theorem nc_cut {s : ByteArray} {i : Int} {crc : Bool} (h : i < 0 ∨ (s.size : Int) < i + 110) : ncV s i crc = bdV i 1 := ncV_of (by rw [ncCode, if_pos h]) (by decide)
section
variable {s : ByteArray} {j : Nat} {crc : Bool}
theorem nc_magic (h : j + 110 ≤ s.size) (hm : ¬ s.extract j (j + 6) = mgN crc) : ncV s j crc = bdV j 4 := ncV_of (by rw [ncCode, if_neg (by omega), Int.toNat_natCast, if_pos hm]) (by decide)
theorem nc_field {k : Nat} (h : j + 110 ≤ s.size) (hm : s.extract j (j + 6) = mgN crc) (hk : k < 13) (ho : nO s j k = false) : ncV s j crc = bdV j 3 := ncV_of (by rw [ncCode, if_neg (by omega), Int.toNat_natCast, if_neg (by simp [hm]), if_pos (allN_bad hk ho)]) (by decide)
theorem nc_zero (h : j + 110 ≤ s.size) (hm : s.extract j (j + 6) = mgN crc) (ho : ∀ k, k < 13 → nO s j k = true) (hz : ¬ (nN s j 7 = 0 ∧ nN s j 8 = 0 ∧ nN s j 9 = 0 ∧ nN s j 10 = 0)) : ncV s j crc = bdV j 3 := ncV_of (by rw [ncCode, if_neg (by omega), Int.toNat_natCast, if_neg (by simp [hm]), if_neg (by simp [allN_good ho]), if_pos hz]) (by decide)
theorem nc_short (h : j + 110 ≤ s.size) (hm : s.extract j (j + 6) = mgN crc) (ho : ∀ k, k < 13 → nO s j k = true) (hz : nN s j 7 = 0 ∧ nN s j 8 = 0 ∧ nN s j 9 = 0 ∧ nN s j 10 = 0) (hs : s.size < cdE s j) : ncV s j crc = bdV j 1 := ncV_of (by rw [ncCode, if_neg (by omega), Int.toNat_natCast, if_neg (by simp [hm]), if_neg (by simp [allN_good ho]), if_neg (fun h => h hz), if_pos hs]) (by decide)
theorem nc_name (h : j + 110 ≤ s.size) (hm : s.extract j (j + 6) = mgN crc) (ho : ∀ k, k < 13 → nO s j k = true) (hz : nN s j 7 = 0 ∧ nN s j 8 = 0 ∧ nN s j 9 = 0 ∧ nN s j 10 = 0) (hs : ¬ s.size < cdE s j) (hb : badN s j) : ncV s j crc = bdV j 4 := ncV_of (by rw [ncCode, if_neg (by omega), Int.toNat_natCast, if_neg (by simp [hm]), if_neg (by simp [allN_good ho]), if_neg (fun h => h hz), if_neg hs, if_pos hb]) (by decide)
theorem nc_sum (h : j + 110 ≤ s.size) (hm : s.extract j (j + 6) = mgN crc) (ho : ∀ k, k < 13 → nO s j k = true) (hz : nN s j 7 = 0 ∧ nN s j 8 = 0 ∧ nN s j 9 = 0 ∧ nN s j 10 = 0) (hs : ¬ s.size < cdE s j) (hb : ¬ badN s j) (hq : ¬ nN s j 12 = sumN crc (dtT s j)) : ncV s j crc = bdV j 2 := ncV_of (by rw [ncCode, if_neg (by omega), Int.toNat_natCast, if_neg (by simp [hm]), if_neg (by simp [allN_good ho]), if_neg (fun h => h hz), if_neg hs, if_neg hb, if_pos hq]) (by decide)
theorem nc_good (h : j + 110 ≤ s.size) (hm : s.extract j (j + 6) = mgN crc) (ho : ∀ k, k < 13 → nO s j k = true) (hz : nN s j 7 = 0 ∧ nN s j 8 = 0 ∧ nN s j 9 = 0 ∧ nN s j 10 = 0) (hs : ¬ s.size < cdE s j) (hb : ¬ badN s j) (hq : nN s j 12 = sumN crc (dtT s j)) : ncV s j crc = .tuple #[.agg (Card.cells ⟨nN s j 0, nN s j 1, nN s j 2, nN s j 3, nN s j 4, nN s j 5, cutv (nmB s j), dtT s j⟩).toArray, .int .i64 (cdE s j), .int .i64 0] := by
  have e : ncCode s j crc = 0 := by rw [ncCode, if_neg (by omega), Int.toNat_natCast, if_neg (by simp [hm]), if_neg (by simp [allN_good ho]), if_neg (fun h => h hz), if_neg hs, if_neg hb, if_neg (fun h => h hq)]
  rw [ncV, ncCard, ncNext, if_pos e, if_pos e, e, Int.toNat_natCast]
end
end Go.Proofs.Ytcnmbolmgifgfaa
