/- A card in words, in either byte order: what it is put as, and what is read at a place of a text. -/
import Derived.Test.YtancidbbkoeokaaCardO
import Derived.Test.YtancidbbkoeokaaBinMath
namespace Go.Proofs.Ytancidbbkoeokaa
open Go.ChangeShapes Go.WideShapes Go.ChangeAt Go.RowKit Go.Deep

def pad2 (n : Nat) : Nat := n % 2
theorem padv2 (n : Nat) (h : n ≤ 9007199254740991) : padv (n : Int) 2 = (pad2 n : Int) := by
  unfold padv pad2
  rw [if_pos (by omega)]
  omega
theorem pad2_le (n : Nat) : pad2 n ≤ 1 := by unfold pad2; omega
def r16 (n : Int) : Bool := decide (0 ≤ n ∧ n ≤ 65535)
def r32 (n : Int) : Bool := decide (0 ≤ n ∧ n ≤ 4294967295)
def binOk (c : Card) : Bool := r16 c.Ino && r16 c.Mode && r16 c.Uid && r16 c.Gid && r16 c.Count && r32 c.Time && r16 ((c.Path.size : Int) + 1) && r32 (c.Data.size : Int)
/-- The head of a card, up to the name's length. -/
def headA (c : Card) (hi : Bool) : ByteArray := put16v 29127 hi ++ put16v 0 hi ++ put16v c.Ino hi ++ put16v c.Mode hi ++ put16v c.Uid hi ++ put16v c.Gid hi ++ put16v c.Count hi ++ put16v 0 hi ++ put32v c.Time hi
def headB (c : Card) (hi : Bool) : ByteArray := headA c hi ++ put16v ((c.Path.size : Int) + 1) hi ++ put32v (c.Data.size : Int) hi
def binTextv (c : Card) (hi : Bool) : ByteArray := if binOk c then headB c hi ++ c.Path ++ ⟨#[0]⟩ ++ nulN (pad2 (c.Path.size + 1)) ++ c.Data ++ nulN (pad2 c.Data.size) else ⟨#[]⟩
theorem headA_size (c : Card) (hi : Bool) : (headA c hi).size = 20 := by simp only [headA, ByteArray.size_append, put16_size, put32_size]
theorem headB_size (c : Card) (hi : Bool) : (headB c hi).size = 26 := by simp only [headB, ByteArray.size_append, put16_size, put32_size, headA_size]
theorem binText_le (c : Card) (hi : Bool) : (binTextv c hi).size ≤ 29 + c.Path.size + c.Data.size := by
  unfold binTextv
  split
  · have z1 : (⟨#[0]⟩ : ByteArray).size = 1 := rfl
    have p1 := pad2_le (c.Path.size + 1)
    have p2 := pad2_le c.Data.size
    simp only [ByteArray.size_append, nulN_size, headB_size]
    omega
  · exact Nat.zero_le _
/-- The k-th word of a head at j, its time, and the sizes of name and data. -/
def bW (s : ByteArray) (j : Nat) (hi : Bool) (k : Nat) : Int := get16v s ((j + 2 * k : Nat) : Int) hi
def bT (s : ByteArray) (j : Nat) (hi : Bool) : Int := get32v s ((j + 16 : Nat) : Int) hi
def bSz (s : ByteArray) (j : Nat) (hi : Bool) : Nat := (bW s j hi 10).toNat
def bMn (s : ByteArray) (j : Nat) (hi : Bool) : Nat := (get32v s ((j + 22 : Nat) : Int) hi).toNat
/-- Places behind a head at j: the name's end, the data's begin and end, the card's end. -/
def bnN (s : ByteArray) (j : Nat) (hi : Bool) : Nat := j + 26 + bSz s j hi
def bnB (s : ByteArray) (j : Nat) (hi : Bool) : Nat := bnN s j hi + pad2 (bSz s j hi)
def bnD (s : ByteArray) (j : Nat) (hi : Bool) : Nat := bnB s j hi + bMn s j hi
def bnE (s : ByteArray) (j : Nat) (hi : Bool) : Nat := bnD s j hi + pad2 (bMn s j hi)
def bnNm (s : ByteArray) (j : Nat) (hi : Bool) : ByteArray := s.extract (j + 26) (bnN s j hi)
def badB (s : ByteArray) (j : Nat) (hi : Bool) : Prop := ¬ (cutv (bnNm s j hi)).size + 1 = bSz s j hi ∨ ¬ s.extract (bnN s j hi) (bnB s j hi) = nulN (pad2 (bSz s j hi)) ∨ ¬ s.extract (bnD s j hi) (bnE s j hi) = nulN (pad2 (bMn s j hi))
instance (s : ByteArray) (j : Nat) (hi : Bool) : Decidable (badB s j hi) := by unfold badB; infer_instance
def bnHead (s : ByteArray) (j : Nat) (hi : Bool) (p : ByteArray) : Card := ⟨bW s j hi 2, bW s j hi 3, bW s j hi 4, bW s j hi 5, bW s j hi 6, bT s j hi, p, s.extract (bnB s j hi) (bnD s j hi)⟩
/-- The code of a card's reading at i. -/
def bnCode (s : ByteArray) (i : Int) (hi : Bool) : Int :=
  if i < 0 ∨ (s.size : Int) < i + 26 then 1
  else if ¬ bW s i.toNat hi 0 = 29127 then 4
  else if ¬ (bW s i.toNat hi 1 = 0 ∧ bW s i.toNat hi 7 = 0) then 3
  else if s.size < bnE s i.toNat hi then 1
  else if badB s i.toNat hi then 4
  else 0
def bnCard (s : ByteArray) (i : Int) (hi : Bool) : Card := if bnCode s i hi = 0 then bnHead s i.toNat hi (cutv (bnNm s i.toNat hi)) else zeroC
def bnNext (s : ByteArray) (i : Int) (hi : Bool) : Int := if bnCode s i hi = 0 then bnE s i.toNat hi else i
def bnV (s : ByteArray) (i : Int) (hi : Bool) : Value := .tuple #[.agg (bnCard s i hi).cells.toArray, .int .i64 (bnNext s i hi), .int .i64 (bnCode s i hi)]
def bdB (i c : Int) : Value := .tuple #[.agg zeroC.cells.toArray, .int .i64 i, .int .i64 c]
theorem bnV_of {s : ByteArray} {i c : Int} {hi : Bool} (h : bnCode s i hi = c) (hc : ¬ c = 0) : bnV s i hi = bdB i c := by
  rw [bnV, bnCard, bnNext, if_neg (by omega), if_neg (by omega), h]; rfl
theorem bn_cut {s : ByteArray} {i : Int} {hi : Bool} (h : i < 0 ∨ (s.size : Int) < i + 26) : bnV s i hi = bdB i 1 := bnV_of (by rw [bnCode, if_pos h]) (by decide)
section
variable {s : ByteArray} {j : Nat} {hi : Bool}
theorem bn_magic (h : j + 26 ≤ s.size) (hm : ¬ bW s j hi 0 = 29127) : bnV s j hi = bdB j 4 := bnV_of (by rw [bnCode, if_neg (by omega), Int.toNat_natCast, if_pos hm]) (by decide)
theorem bn_zero (h : j + 26 ≤ s.size) (hm : bW s j hi 0 = 29127) (hz : ¬ (bW s j hi 1 = 0 ∧ bW s j hi 7 = 0)) : bnV s j hi = bdB j 3 := bnV_of (by rw [bnCode, if_neg (by omega), Int.toNat_natCast, if_neg (by simp [hm]), if_pos hz]) (by decide)
theorem bn_short (h : j + 26 ≤ s.size) (hm : bW s j hi 0 = 29127) (hz : bW s j hi 1 = 0 ∧ bW s j hi 7 = 0) (hs : s.size < bnE s j hi) : bnV s j hi = bdB j 1 := bnV_of (by rw [bnCode, if_neg (by omega), Int.toNat_natCast, if_neg (by simp [hm]), if_neg (fun h => h hz), if_pos hs]) (by decide)
theorem bn_name (h : j + 26 ≤ s.size) (hm : bW s j hi 0 = 29127) (hz : bW s j hi 1 = 0 ∧ bW s j hi 7 = 0) (hs : ¬ s.size < bnE s j hi) (hb : badB s j hi) : bnV s j hi = bdB j 4 := bnV_of (by rw [bnCode, if_neg (by omega), Int.toNat_natCast, if_neg (by simp [hm]), if_neg (fun h => h hz), if_neg hs, if_pos hb]) (by decide)
theorem bn_good (h : j + 26 ≤ s.size) (hm : bW s j hi 0 = 29127) (hz : bW s j hi 1 = 0 ∧ bW s j hi 7 = 0) (hs : ¬ s.size < bnE s j hi) (hb : ¬ badB s j hi) : bnV s j hi = .tuple #[.agg (bnHead s j hi (cutv (bnNm s j hi))).cells.toArray, .int .i64 (bnE s j hi), .int .i64 0] := by
  have e : bnCode s j hi = 0 := by rw [bnCode, if_neg (by omega), Int.toNat_natCast, if_neg (by simp [hm]), if_neg (fun h => h hz), if_neg hs, if_neg hb]
  rw [bnV, bnCard, bnNext, if_pos e, if_pos e, e, Int.toNat_natCast]
theorem bW_bd {k : Nat} (h : j + 26 ≤ s.size) (hk : k ≤ 12) : 0 ≤ bW s j hi k ∧ bW s j hi k ≤ 65535 := get16_bd hi (by omega)
theorem bT_bd (h : j + 26 ≤ s.size) : 0 ≤ bT s j hi ∧ bT s j hi ≤ 4294967295 := get32_bd hi (by omega)
theorem bMn_bd (h : j + 26 ≤ s.size) : get32v s ((j + 22 : Nat) : Int) hi = (bMn s j hi : Int) ∧ bMn s j hi ≤ 4294967295 := by
  have := get32_bd (s := s) (k := j + 22) hi (by omega)
  unfold bMn
  omega
theorem bSz_bd (h : j + 26 ≤ s.size) : bW s j hi 10 = (bSz s j hi : Int) ∧ bSz s j hi ≤ 65535 := by
  have := bW_bd (hi := hi) (k := 10) h (by omega)
  unfold bSz
  omega
/-- The head's words as the text has them. -/
theorem headA_is (h : j + 26 ≤ s.size) (hm : bW s j hi 0 = 29127) (hz : bW s j hi 1 = 0 ∧ bW s j hi 7 = 0) (p : ByteArray) : headA (bnHead s j hi p) hi = s.extract j (j + 20) := by
  have p16 : ∀ k, k ≤ 12 → put16v (bW s j hi k) hi = s.extract (j + 2 * k) (j + 2 * k + 2) := fun k hk => put_get16 s (j + 2 * k) hi (by omega)
  have p32 : put32v (bT s j hi) hi = s.extract (j + 16) (j + 16 + 4) := put_get32 s (j + 16) hi (by omega)
  have e0 := p16 0 (by omega)
  have e1 := p16 1 (by omega)
  have e7 := p16 7 (by omega)
  rw [hm] at e0
  rw [hz.1] at e1
  rw [hz.2] at e7
  simp only [headA, bnHead]
  have e17 : s.extract (j + 14) (j + 16) = s.extract (j + 2) (j + 4) := e7.symm.trans e1
  rw [e0, e1, p32, p16 2 (by omega), p16 3 (by omega), p16 4 (by omega), p16 5 (by omega), p16 6 (by omega)]
  simp only [Nat.mul_zero, Nat.add_zero]
  rw [ext_cat (s := s) (a := j) (b := j + 16) (c := j + 20) (by omega) (by omega), ext_cat (s := s) (a := j) (b := j + 14) (c := j + 16) (by omega) (by omega), ext_cat (s := s) (a := j) (b := j + 12) (c := j + 14) (by omega) (by omega), ext_cat (s := s) (a := j) (b := j + 10) (c := j + 12) (by omega) (by omega), ext_cat (s := s) (a := j) (b := j + 8) (c := j + 10) (by omega) (by omega), ext_cat (s := s) (a := j) (b := j + 6) (c := j + 8) (by omega) (by omega), ext_cat (s := s) (a := j) (b := j + 4) (c := j + 6) (by omega) (by omega), ext_cat (s := s) (a := j) (b := j + 2) (c := j + 4) (by omega) (by omega), e17]
/-- A card read is put as what it was read from just where its name ends with its only NUL and its gaps are NULs. -/
theorem bin_back (h : j + 26 ≤ s.size) (hm : bW s j hi 0 = 29127) (hz : bW s j hi 1 = 0 ∧ bW s j hi 7 = 0) (hs : ¬ s.size < bnE s j hi) : binTextv (bnHead s j hi (cutv (s.extract (j + 26) (bnB s j hi)))) hi = s.extract j (bnE s j hi) ↔ ¬ badB s j hi := by
  obtain ⟨z1, z2⟩ := bSz_bd (hi := hi) h
  obtain ⟨m1, m2⟩ := bMn_bd (hi := hi) h
  have hN : bnN s j hi = j + 26 + bSz s j hi := rfl
  have hB : bnB s j hi = bnN s j hi + pad2 (bSz s j hi) := rfl
  have hD : bnD s j hi = bnB s j hi + bMn s j hi := rfl
  have hE : bnE s j hi = bnD s j hi + pad2 (bMn s j hi) := rfl
  have eX : s.extract (j + 26) (bnB s j hi) = bnNm s j hi ++ s.extract (bnN s j hi) (bnB s j hi) := ext_cat (by omega) (by omega)
  have eS : s.extract j (bnE s j hi) = s.extract j (j + 20) ++ put16v (bSz s j hi : Int) hi ++ s.extract (j + 22) (j + 26) ++ bnNm s j hi ++ s.extract (bnN s j hi) (bnB s j hi) ++ s.extract (bnB s j hi) (bnD s j hi) ++ s.extract (bnD s j hi) (bnE s j hi) := by
    have e20 : put16v (bSz s j hi : Int) hi = s.extract (j + 20) (j + 22) := by
      rw [← z1]
      exact put_get16 s (j + 20) hi (by omega)
    rw [e20, ← ext_cat (by omega) (by omega), ← ext_cat (by omega) (by omega), bnNm, ← ext_cat (by omega) (by omega), ← ext_cat (by omega) (by omega), ← ext_cat (by omega) (by omega), ← ext_cat (by omega) (by omega)]
  have hA := fun p => headA_is h hm hz p
  have w2 := bW_bd (hi := hi) (k := 2) h (by omega)
  have w3 := bW_bd (hi := hi) (k := 3) h (by omega)
  have w4 := bW_bd (hi := hi) (k := 4) h (by omega)
  have w5 := bW_bd (hi := hi) (k := 5) h (by omega)
  have w6 := bW_bd (hi := hi) (k := 6) h (by omega)
  have wt := bT_bd (hi := hi) h
  have hdz : (s.extract (bnB s j hi) (bnD s j hi)).size = bMn s j hi := by rw [ByteArray.size_extract]; omega
  have hD26 : put32v ((s.extract (bnB s j hi) (bnD s j hi)).size : Int) hi = s.extract (j + 22) (j + 26) := by
    rw [hdz, ← m1]
    exact put_get32 s (j + 22) hi (by omega)
  have key := bin_texts (nm := bnNm s j hi) (gp := s.extract (bnN s j hi) (bnB s j hi)) (d := s.extract (bnB s j hi) (bnD s j hi)) (t := s.extract (bnD s j hi) (bnE s j hi)) (A := s.extract j (j + 20)) (D := s.extract (j + 22) (j + 26)) (hi := hi) (sz := bSz s j hi) (g2 := pad2 (bSz s j hi)) (q2 := pad2 (bMn s j hi)) (by rw [bnNm, ByteArray.size_extract]; omega) z2 (by rw [ByteArray.size_extract]; omega) rfl (by rw [ByteArray.size_extract]; omega)
  rw [← eX, ← eS] at key
  have hbad : ¬ badB s j hi ↔ ((cutv (bnNm s j hi)).size + 1 = bSz s j hi ∧ s.extract (bnN s j hi) (bnB s j hi) = nulN (pad2 (bSz s j hi)) ∧ s.extract (bnD s j hi) (bnE s j hi) = nulN (pad2 (bMn s j hi))) := by
    unfold badB
    constructor
    · intro h9
      refine ⟨Decidable.byContradiction fun a => h9 (.inl a), Decidable.byContradiction fun a => h9 (.inr (.inl a)), Decidable.byContradiction fun a => h9 (.inr (.inr a))⟩
    · rintro ⟨a, b, c⟩ (d | d | d)
      · exact d a
      · exact d b
      · exact d c
  rw [hbad, ← key]
  have hok : binOk (bnHead s j hi (cutv (s.extract (j + 26) (bnB s j hi)))) = decide ((cutv (s.extract (j + 26) (bnB s j hi))).size + 1 ≤ 65535) := by
    simp only [binOk, bnHead, hdz]
    rw [show r16 (bW s j hi 2) = true from decide_eq_true w2, show r16 (bW s j hi 3) = true from decide_eq_true w3, show r16 (bW s j hi 4) = true from decide_eq_true w4, show r16 (bW s j hi 5) = true from decide_eq_true w5, show r16 (bW s j hi 6) = true from decide_eq_true w6, show r32 (bT s j hi) = true from decide_eq_true wt, show r32 (bMn s j hi : Int) = true from decide_eq_true (by omega)]
    simp only [Bool.true_and, Bool.and_true, r16]
    exact decide_eq_decide.2 (by omega)
  by_cases hp : (cutv (s.extract (j + 26) (bnB s j hi))).size + 1 ≤ 65535
  · rw [binTextv, if_pos (by rw [hok]; exact decide_eq_true hp), headB, hA]
    show s.extract j (j + 20) ++ put16v (((cutv (s.extract (j + 26) (bnB s j hi))).size : Int) + 1) hi ++ put32v ((s.extract (bnB s j hi) (bnD s j hi)).size : Int) hi ++ cutv (s.extract (j + 26) (bnB s j hi)) ++ ⟨#[0]⟩ ++ nulN (((cutv (s.extract (j + 26) (bnB s j hi))).size + 1) % 2) ++ s.extract (bnB s j hi) (bnD s j hi) ++ nulN (pad2 (s.extract (bnB s j hi) (bnD s j hi)).size) = _ ↔ _
    rw [hD26, hdz]
    exact ⟨fun a => ⟨hp, a⟩, fun a => a.2⟩
  · rw [binTextv, if_neg (by rw [hok]; simpa using hp)]
    constructor
    · intro a
      have := congrArg ByteArray.size a
      rw [ByteArray.size_extract] at this
      have z0 : (⟨#[]⟩ : ByteArray).size = 0 := rfl
      omega
    · intro a
      exact absurd a.1 hp
theorem bin_name (hb : ¬ badB s j hi) (h : j + 26 ≤ s.size) (hs : ¬ s.size < bnE s j hi) : cutv (s.extract (j + 26) (bnB s j hi)) = cutv (bnNm s j hi) := by
  have hN : bnN s j hi = j + 26 + bSz s j hi := rfl
  have hB : bnB s j hi = bnN s j hi + pad2 (bSz s j hi) := rfl
  have hD : bnD s j hi = bnB s j hi + bMn s j hi := rfl
  have hE : bnE s j hi = bnD s j hi + pad2 (bMn s j hi) := rfl
  have eX : s.extract (j + 26) (bnB s j hi) = bnNm s j hi ++ s.extract (bnN s j hi) (bnB s j hi) := ext_cat (by omega) (by omega)
  rw [eX]
  exact bin_path (sz := bSz s j hi) (by rw [bnNm, ByteArray.size_extract]; omega) (Decidable.byContradiction fun a => hb (.inl a))
end
end Go.Proofs.Ytancidbbkoeokaa
