/- Plain mathematics of digits read by a base; nothing of the program is said here. -/
import Derived.Test.YtancidbbkoeokaaGreatCom
namespace Go.Proofs.YtancidbbkoeokaaGreat

def dig (c : Int) : Int := if 48 ≤ c ∧ c ≤ 57 then c - 48 else if 97 ≤ c ∧ c ≤ 102 then c - 87 else -1
def step (b n c : Int) : Option Int := if dig c < 0 ∨ b ≤ dig c ∨ 9007199254740991 < n * b + dig c then none else some (n * b + dig c)
def lead (b : Int) : Int → List UInt8 → Int × Nat
  | n, [] => (n, 0)
  | n, c :: l => match step b n (c.toNat : Int) with
    | none => (n, 0)
    | some m => ((lead b m l).1, (lead b m l).2 + 1)
def vals (b : Int) : Int → List UInt8 → Int
  | n, [] => n
  | n, c :: l => match step b n (c.toNat : Int) with
    | none => -1
    | some m => vals b m l

theorem lead_none {b n : Int} {c : UInt8} {l : List UInt8} (h : step b n (c.toNat : Int) = none) : lead b n (c :: l) = (n, 0) := by simp [lead, h]
theorem lead_some {b n m : Int} {c : UInt8} {l : List UInt8} (h : step b n (c.toNat : Int) = some m) : lead b n (c :: l) = ((lead b m l).1, (lead b m l).2 + 1) := by simp [lead, h]
theorem vals_none {b n : Int} {c : UInt8} {l : List UInt8} (h : step b n (c.toNat : Int) = none) : vals b n (c :: l) = -1 := by simp [vals, h]
theorem vals_some {b n m : Int} {c : UInt8} {l : List UInt8} (h : step b n (c.toNat : Int) = some m) : vals b n (c :: l) = vals b m l := by simp [vals, h]

theorem dig_num {c : Int} (h : 48 ≤ c) (h' : c ≤ 57) : dig c = c - 48 := by simp [dig, h, h']
theorem dig_let {c : Int} (h : 97 ≤ c) (h' : c ≤ 102) : dig c = c - 87 := by
  unfold dig; rw [if_neg (by omega), if_pos ⟨h, h'⟩]
theorem dig_bad {c : Int} (h : ¬ (48 ≤ c ∧ c ≤ 57)) (h' : ¬ (97 ≤ c ∧ c ≤ 102)) : dig c = -1 := by
  unfold dig; rw [if_neg h, if_neg h']
theorem dig_lt (c : Int) : -1 ≤ dig c ∧ dig c ≤ 15 := by
  unfold dig
  split
  · omega
  · split <;> omega
theorem step_bad {b n c d : Int} (hd : dig c = d) (h : d < 0 ∨ b ≤ d ∨ 9007199254740991 < n * b + d) : step b n c = none := by
  subst hd; rw [step, if_pos h]
theorem step_ok {b n c d : Int} (hd : dig c = d) (h0 : 0 ≤ d) (h1 : d < b) (h2 : n * b + d ≤ 9007199254740991) : step b n c = some (n * b + d) := by
  subst hd; rw [step, if_neg (by omega)]
theorem step_bd {b n c m : Int} (hb : 0 ≤ b) (hn : 0 ≤ n) (h : step b n c = some m) : 0 ≤ m ∧ m ≤ 9007199254740991 := by
  unfold step at h
  split at h
  · simp at h
  · simp at h
    have := Int.mul_nonneg hn hb
    omega
theorem lead_len (b : Int) : ∀ (n : Int) (l : List UInt8), (lead b n l).2 ≤ l.length
  | n, [] => by simp [lead]
  | n, c :: l => by
    cases h : step b n (c.toNat : Int) with
    | none => simp [lead_none h]
    | some m => have := lead_len b m l; simp [lead_some h]; omega
theorem lead_bd (b : Int) (hb : 0 ≤ b) : ∀ (n : Int) (l : List UInt8), 0 ≤ n → n ≤ 9007199254740991 → 0 ≤ (lead b n l).1 ∧ (lead b n l).1 ≤ 9007199254740991
  | n, [], h0, h1 => by simp [lead]; omega
  | n, c :: l, h0, h1 => by
    cases h : step b n (c.toNat : Int) with
    | none => simp [lead_none h]; omega
    | some m =>
      obtain ⟨a, b'⟩ := step_bd hb h0 h
      rw [lead_some h]
      exact lead_bd b hb m l a b'
theorem vals_lead (b : Int) (hb : 0 ≤ b) : ∀ (n : Int) (l : List UInt8), 0 ≤ n → vals b n l = if (lead b n l).2 = l.length then (lead b n l).1 else -1
  | n, [], _ => by simp [vals, lead]
  | n, c :: l, h0 => by
    cases h : step b n (c.toNat : Int) with
    | none => simp [lead_none h, vals_none h]
    | some m =>
      rw [lead_some h, vals_some h, vals_lead b hb m l (step_bd hb h0 h).1]
      simp
theorem drop_atN (s : ByteArray) (k : Nat) (h : k < s.size) : s.data.toList.drop k = s[k] :: s.data.toList.drop (k + 1) := by
  have h' : k < s.data.toList.length := by simpa using h
  rw [List.drop_eq_getElem_cons h']; rfl
theorem drop_end (s : ByteArray) (k : Nat) (h : s.size ≤ k) : s.data.toList.drop k = [] := by simp; exact h

/-- What is left to read from index k on, with n read so far. -/
def LeadFrom (b : Int) (s : ByteArray) (n : Int) (k : Nat) : Prop :=
  lead b 0 s.data.toList = ((lead b n (s.data.toList.drop k)).1, (lead b n (s.data.toList.drop k)).2 + k)
theorem LeadFrom.start (b : Int) (s : ByteArray) : LeadFrom b s 0 0 := by simp [LeadFrom]
theorem LeadFrom.more {b n m : Int} {s : ByteArray} {k : Nat} (h : LeadFrom b s n k) (hk : k < s.size) (hs : step b n (s[k].toNat : Int) = some m) : LeadFrom b s m (k + 1) := by
  unfold LeadFrom at *
  rw [h, drop_atN s k hk, lead_some hs]
  simp; omega
theorem LeadFrom.stop {b n : Int} {s : ByteArray} {k : Nat} (h : LeadFrom b s n k) (hk : k < s.size) (hs : step b n (s[k].toNat : Int) = none) : lead b 0 s.data.toList = (n, k) := by
  unfold LeadFrom at h
  rw [h, drop_atN s k hk, lead_none hs]
  simp
theorem LeadFrom.done {b n : Int} {s : ByteArray} {k : Nat} (h : LeadFrom b s n k) (hk : s.size ≤ k) : lead b 0 s.data.toList = (n, k) := by
  unfold LeadFrom at h
  rw [h, drop_end s k hk]
  simp [lead]
def ValsFrom (b : Int) (s : ByteArray) (n : Int) (k : Nat) : Prop := vals b 0 s.data.toList = vals b n (s.data.toList.drop k)
theorem ValsFrom.start (b : Int) (s : ByteArray) : ValsFrom b s 0 0 := by simp [ValsFrom]
theorem ValsFrom.more {b n m : Int} {s : ByteArray} {k : Nat} (h : ValsFrom b s n k) (hk : k < s.size) (hs : step b n (s[k].toNat : Int) = some m) : ValsFrom b s m (k + 1) := by
  unfold ValsFrom at *
  rw [h, drop_atN s k hk, vals_some hs]
theorem ValsFrom.stop {b n : Int} {s : ByteArray} {k : Nat} (h : ValsFrom b s n k) (hk : k < s.size) (hs : step b n (s[k].toNat : Int) = none) : vals b 0 s.data.toList = -1 := by
  unfold ValsFrom at h
  rw [h, drop_atN s k hk, vals_none hs]
theorem ValsFrom.done {b n : Int} {s : ByteArray} {k : Nat} (h : ValsFrom b s n k) (hk : s.size ≤ k) : vals b 0 s.data.toList = n := by
  unfold ValsFrom at h
  rw [h, drop_end s k hk]
  simp [vals]
end Go.Proofs.YtancidbbkoeokaaGreat
