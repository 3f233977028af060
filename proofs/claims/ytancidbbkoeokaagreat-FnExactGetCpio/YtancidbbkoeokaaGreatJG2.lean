/- Texts joined: BinK, OutBin, NulS, BinRoom, BinBas, BinR, BinPR, BinW. -/
import Derived.Test.YtancidbbkoeokaaGreatOwn
import Derived.Test.YtancidbbkoeokaaGreatRegSl
import Derived.Test.YtancidbbkoeokaaGreatIn
import Derived.Test.YtancidbbkoeokaaGreatShelf
import Derived.Lib.Repeat
import Derived.ArgAppend
import Derived.Test.YtancidbbkoeokaaGreatRegU
import Derived.Deep.DeepCutAuto
import Derived.OwnWalk
import Derived.Laws.ResultCell
import Derived.Laws.Rows
import Derived.Laws.Tables
import Derived.Laws.MakeOwn
import Derived.Laws.StructEq
import Derived.Deep.WholeRow
import Derived.Test.YtancidbbkoeokaaGreatJG1
/- A card in words, in either byte order: what it is put as, and what is read at a place of a text. -/
namespace Go.Proofs.YtancidbbkoeokaaGreat
open Go.ChangeShapes Go.WideShapes Go.ChangeAt Go.RowKit Go.Deep

def pad2 (n : Nat) : Nat := n % 2
theorem padv2 (n : Nat) (h : n ≤ 9007199254740991) : padv (n : Int) 2 = (pad2 n : Int) := by
  unfold padv pad2
  rw [if_pos (by omega)]
  omega
theorem pad2_le (n : Nat) : pad2 n ≤ 1 := by unfold pad2; omega
def r16 (n : Int) : Bool := decide (0 ≤ n ∧ n ≤ 65535)
def r32 (n : Int) : Bool := decide (0 ≤ n ∧ n ≤ 4294967295)
def binOk (c : Card) : Bool := r16 c.Ino && r16 c.Mode && r16 c.Uid && r16 c.Gid && r16 c.Count && r32 c.Time && r16 ((c.Path.size : Int) + 1) && r32 (c.Data.size : Int)
/-- The head of a card, up to the name's length. -/
def headA (c : Card) (hi : Bool) : ByteArray := put16v 29127 hi ++ put16v 0 hi ++ put16v c.Ino hi ++ put16v c.Mode hi ++ put16v c.Uid hi ++ put16v c.Gid hi ++ put16v c.Count hi ++ put16v 0 hi ++ put32v c.Time hi
def headB (c : Card) (hi : Bool) : ByteArray := headA c hi ++ put16v ((c.Path.size : Int) + 1) hi ++ put32v (c.Data.size : Int) hi
def binTextv (c : Card) (hi : Bool) : ByteArray := if binOk c then headB c hi ++ c.Path ++ ⟨#[0]⟩ ++ nulN (pad2 (c.Path.size + 1)) ++ c.Data ++ nulN (pad2 c.Data.size) else ⟨#[]⟩
theorem headA_size (c : Card) (hi : Bool) : (headA c hi).size = 20 := by simp only [headA, ByteArray.size_append, put16_size, put32_size]
theorem headB_size (c : Card) (hi : Bool) : (headB c hi).size = 26 := by simp only [headB, ByteArray.size_append, put16_size, put32_size, headA_size]
theorem binText_le (c : Card) (hi : Bool) : (binTextv c hi).size ≤ 29 + c.Path.size + c.Data.size := by
  unfold binTextv
  split
  · have z1 : (⟨#[0]⟩ : ByteArray).size = 1 := rfl
    have p1 := pad2_le (c.Path.size + 1)
    have p2 := pad2_le c.Data.size
    simp only [ByteArray.size_append, nulN_size, headB_size]
    omega
  · exact Nat.zero_le _
/-- The k-th word of a head at j, its time, and the sizes of name and data. -/
def bW (s : ByteArray) (j : Nat) (hi : Bool) (k : Nat) : Int := get16v s ((j + 2 * k : Nat) : Int) hi
def bT (s : ByteArray) (j : Nat) (hi : Bool) : Int := get32v s ((j + 16 : Nat) : Int) hi
def bSz (s : ByteArray) (j : Nat) (hi : Bool) : Nat := (bW s j hi 10).toNat
def bMn (s : ByteArray) (j : Nat) (hi : Bool) : Nat := (get32v s ((j + 22 : Nat) : Int) hi).toNat
/-- Places behind a head at j: the name's end, the data's begin and end, the card's end. -/
def bnN (s : ByteArray) (j : Nat) (hi : Bool) : Nat := j + 26 + bSz s j hi
def bnB (s : ByteArray) (j : Nat) (hi : Bool) : Nat := bnN s j hi + pad2 (bSz s j hi)
def bnD (s : ByteArray) (j : Nat) (hi : Bool) : Nat := bnB s j hi + bMn s j hi
def bnE (s : ByteArray) (j : Nat) (hi : Bool) : Nat := bnD s j hi + pad2 (bMn s j hi)
def bnNm (s : ByteArray) (j : Nat) (hi : Bool) : ByteArray := s.extract (j + 26) (bnN s j hi)
def badB (s : ByteArray) (j : Nat) (hi : Bool) : Prop := ¬ (cutv (bnNm s j hi)).size + 1 = bSz s j hi ∨ ¬ s.extract (bnN s j hi) (bnB s j hi) = nulN (pad2 (bSz s j hi)) ∨ ¬ s.extract (bnD s j hi) (bnE s j hi) = nulN (pad2 (bMn s j hi))
instance (s : ByteArray) (j : Nat) (hi : Bool) : Decidable (badB s j hi) := by unfold badB; infer_instance
def bnHead (s : ByteArray) (j : Nat) (hi : Bool) (p : ByteArray) : Card := ⟨bW s j hi 2, bW s j hi 3, bW s j hi 4, bW s j hi 5, bW s j hi 6, bT s j hi, p, s.extract (bnB s j hi) (bnD s j hi)⟩
/-- The code of a card's reading at i. -/
def bnCode (s : ByteArray) (i : Int) (hi : Bool) : Int :=
  if i < 0 ∨ (s.size : Int) < i + 26 then 1
  else if ¬ bW s i.toNat hi 0 = 29127 then 4
  else if ¬ (bW s i.toNat hi 1 = 0 ∧ bW s i.toNat hi 7 = 0) then 3
  else if s.size < bnE s i.toNat hi then 1
  else if badB s i.toNat hi then 4
  else 0
def bnCard (s : ByteArray) (i : Int) (hi : Bool) : Card := if bnCode s i hi = 0 then bnHead s i.toNat hi (cutv (bnNm s i.toNat hi)) else zeroC
def bnNext (s : ByteArray) (i : Int) (hi : Bool) : Int := if bnCode s i hi = 0 then bnE s i.toNat hi else i
def bnV (s : ByteArray) (i : Int) (hi : Bool) : Value := .tuple #[.agg (bnCard s i hi).cells.toArray, .int .i64 (bnNext s i hi), .int .i64 (bnCode s i hi)]
def bdB (i c : Int) : Value := .tuple #[.agg zeroC.cells.toArray, .int .i64 i, .int .i64 c]
theorem bnV_of {s : ByteArray} {i c : Int} {hi : Bool} (h : bnCode s i hi = c) (hc : ¬ c = 0) : bnV s i hi = bdB i c := by
  rw [bnV, bnCard, bnNext, if_neg (by omega), if_neg (by omega), h]; rfl
theorem bn_cut {s : ByteArray} {i : Int} {hi : Bool} (h : i < 0 ∨ (s.size : Int) < i + 26) : bnV s i hi = bdB i 1 := bnV_of (by rw [bnCode, if_pos h]) (by decide)
section
variable {s : ByteArray} {j : Nat} {hi : Bool}
theorem bn_magic (h : j + 26 ≤ s.size) (hm : ¬ bW s j hi 0 = 29127) : bnV s j hi = bdB j 4 := bnV_of (by rw [bnCode, if_neg (by omega), Int.toNat_natCast, if_pos hm]) (by decide)
theorem bn_zero (h : j + 26 ≤ s.size) (hm : bW s j hi 0 = 29127) (hz : ¬ (bW s j hi 1 = 0 ∧ bW s j hi 7 = 0)) : bnV s j hi = bdB j 3 := bnV_of (by rw [bnCode, if_neg (by omega), Int.toNat_natCast, if_neg (by simp [hm]), if_pos hz]) (by decide)
theorem bn_short (h : j + 26 ≤ s.size) (hm : bW s j hi 0 = 29127) (hz : bW s j hi 1 = 0 ∧ bW s j hi 7 = 0) (hs : s.size < bnE s j hi) : bnV s j hi = bdB j 1 := bnV_of (by rw [bnCode, if_neg (by omega), Int.toNat_natCast, if_neg (by simp [hm]), if_neg (fun h => h hz), if_pos hs]) (by decide)
theorem bn_name (h : j + 26 ≤ s.size) (hm : bW s j hi 0 = 29127) (hz : bW s j hi 1 = 0 ∧ bW s j hi 7 = 0) (hs : ¬ s.size < bnE s j hi) (hb : badB s j hi) : bnV s j hi = bdB j 4 := bnV_of (by rw [bnCode, if_neg (by omega), Int.toNat_natCast, if_neg (by simp [hm]), if_neg (fun h => h hz), if_neg hs, if_pos hb]) (by decide)
theorem bn_good (h : j + 26 ≤ s.size) (hm : bW s j hi 0 = 29127) (hz : bW s j hi 1 = 0 ∧ bW s j hi 7 = 0) (hs : ¬ s.size < bnE s j hi) (hb : ¬ badB s j hi) : bnV s j hi = .tuple #[.agg (bnHead s j hi (cutv (bnNm s j hi))).cells.toArray, .int .i64 (bnE s j hi), .int .i64 0] := by
  have e : bnCode s j hi = 0 := by rw [bnCode, if_neg (by omega), Int.toNat_natCast, if_neg (by simp [hm]), if_neg (fun h => h hz), if_neg hs, if_neg hb]
  rw [bnV, bnCard, bnNext, if_pos e, if_pos e, e, Int.toNat_natCast]
theorem bW_bd {k : Nat} (h : j + 26 ≤ s.size) (hk : k ≤ 12) : 0 ≤ bW s j hi k ∧ bW s j hi k ≤ 65535 := get16_bd hi (by omega)
theorem bT_bd (h : j + 26 ≤ s.size) : 0 ≤ bT s j hi ∧ bT s j hi ≤ 4294967295 := get32_bd hi (by omega)
theorem bMn_bd (h : j + 26 ≤ s.size) : get32v s ((j + 22 : Nat) : Int) hi = (bMn s j hi : Int) ∧ bMn s j hi ≤ 4294967295 := by
  have := get32_bd (s := s) (k := j + 22) hi (by omega)
  unfold bMn
  omega
theorem bSz_bd (h : j + 26 ≤ s.size) : bW s j hi 10 = (bSz s j hi : Int) ∧ bSz s j hi ≤ 65535 := by
  have := bW_bd (hi := hi) (k := 10) h (by omega)
  unfold bSz
  omega
/-- The head's words as the text has them. -/
theorem headA_is (h : j + 26 ≤ s.size) (hm : bW s j hi 0 = 29127) (hz : bW s j hi 1 = 0 ∧ bW s j hi 7 = 0) (p : ByteArray) : headA (bnHead s j hi p) hi = s.extract j (j + 20) := by
  have p16 : ∀ k, k ≤ 12 → put16v (bW s j hi k) hi = s.extract (j + 2 * k) (j + 2 * k + 2) := fun k hk => put_get16 s (j + 2 * k) hi (by omega)
  have p32 : put32v (bT s j hi) hi = s.extract (j + 16) (j + 16 + 4) := put_get32 s (j + 16) hi (by omega)
  have e0 := p16 0 (by omega)
  have e1 := p16 1 (by omega)
  have e7 := p16 7 (by omega)
  rw [hm] at e0
  rw [hz.1] at e1
  rw [hz.2] at e7
  simp only [headA, bnHead]
  have e17 : s.extract (j + 14) (j + 16) = s.extract (j + 2) (j + 4) := e7.symm.trans e1
  rw [e0, e1, p32, p16 2 (by omega), p16 3 (by omega), p16 4 (by omega), p16 5 (by omega), p16 6 (by omega)]
  simp only [Nat.mul_zero, Nat.add_zero]
  rw [ext_cat (s := s) (a := j) (b := j + 16) (c := j + 20) (by omega) (by omega), ext_cat (s := s) (a := j) (b := j + 14) (c := j + 16) (by omega) (by omega), ext_cat (s := s) (a := j) (b := j + 12) (c := j + 14) (by omega) (by omega), ext_cat (s := s) (a := j) (b := j + 10) (c := j + 12) (by omega) (by omega), ext_cat (s := s) (a := j) (b := j + 8) (c := j + 10) (by omega) (by omega), ext_cat (s := s) (a := j) (b := j + 6) (c := j + 8) (by omega) (by omega), ext_cat (s := s) (a := j) (b := j + 4) (c := j + 6) (by omega) (by omega), ext_cat (s := s) (a := j) (b := j + 2) (c := j + 4) (by omega) (by omega), e17]
/-- A card read is put as what it was read from just where its name ends with its only NUL and its gaps are NULs. -/
theorem bin_back (h : j + 26 ≤ s.size) (hm : bW s j hi 0 = 29127) (hz : bW s j hi 1 = 0 ∧ bW s j hi 7 = 0) (hs : ¬ s.size < bnE s j hi) : binTextv (bnHead s j hi (cutv (s.extract (j + 26) (bnB s j hi)))) hi = s.extract j (bnE s j hi) ↔ ¬ badB s j hi := by
  obtain ⟨z1, z2⟩ := bSz_bd (hi := hi) h
  obtain ⟨m1, m2⟩ := bMn_bd (hi := hi) h
  have hN : bnN s j hi = j + 26 + bSz s j hi := rfl
  have hB : bnB s j hi = bnN s j hi + pad2 (bSz s j hi) := rfl
  have hD : bnD s j hi = bnB s j hi + bMn s j hi := rfl
  have hE : bnE s j hi = bnD s j hi + pad2 (bMn s j hi) := rfl
  have eX : s.extract (j + 26) (bnB s j hi) = bnNm s j hi ++ s.extract (bnN s j hi) (bnB s j hi) := ext_cat (by omega) (by omega)
  have eS : s.extract j (bnE s j hi) = s.extract j (j + 20) ++ put16v (bSz s j hi : Int) hi ++ s.extract (j + 22) (j + 26) ++ bnNm s j hi ++ s.extract (bnN s j hi) (bnB s j hi) ++ s.extract (bnB s j hi) (bnD s j hi) ++ s.extract (bnD s j hi) (bnE s j hi) := by
    have e20 : put16v (bSz s j hi : Int) hi = s.extract (j + 20) (j + 22) := by
      rw [← z1]
      exact put_get16 s (j + 20) hi (by omega)
    rw [e20, ← ext_cat (by omega) (by omega), ← ext_cat (by omega) (by omega), bnNm, ← ext_cat (by omega) (by omega), ← ext_cat (by omega) (by omega), ← ext_cat (by omega) (by omega), ← ext_cat (by omega) (by omega)]
  have hA := fun p => headA_is h hm hz p
  have w2 := bW_bd (hi := hi) (k := 2) h (by omega)
  have w3 := bW_bd (hi := hi) (k := 3) h (by omega)
  have w4 := bW_bd (hi := hi) (k := 4) h (by omega)
  have w5 := bW_bd (hi := hi) (k := 5) h (by omega)
  have w6 := bW_bd (hi := hi) (k := 6) h (by omega)
  have wt := bT_bd (hi := hi) h
  have hdz : (s.extract (bnB s j hi) (bnD s j hi)).size = bMn s j hi := by rw [ByteArray.size_extract]; omega
  have hD26 : put32v ((s.extract (bnB s j hi) (bnD s j hi)).size : Int) hi = s.extract (j + 22) (j + 26) := by
    rw [hdz, ← m1]
    exact put_get32 s (j + 22) hi (by omega)
  have key := bin_texts (nm := bnNm s j hi) (gp := s.extract (bnN s j hi) (bnB s j hi)) (d := s.extract (bnB s j hi) (bnD s j hi)) (t := s.extract (bnD s j hi) (bnE s j hi)) (A := s.extract j (j + 20)) (D := s.extract (j + 22) (j + 26)) (hi := hi) (sz := bSz s j hi) (g2 := pad2 (bSz s j hi)) (q2 := pad2 (bMn s j hi)) (by rw [bnNm, ByteArray.size_extract]; omega) z2 (by rw [ByteArray.size_extract]; omega) rfl (by rw [ByteArray.size_extract]; omega)
  rw [← eX, ← eS] at key
  have hbad : ¬ badB s j hi ↔ ((cutv (bnNm s j hi)).size + 1 = bSz s j hi ∧ s.extract (bnN s j hi) (bnB s j hi) = nulN (pad2 (bSz s j hi)) ∧ s.extract (bnD s j hi) (bnE s j hi) = nulN (pad2 (bMn s j hi))) := by
    unfold badB
    constructor
    · intro h9
      refine ⟨Decidable.byContradiction fun a => h9 (.inl a), Decidable.byContradiction fun a => h9 (.inr (.inl a)), Decidable.byContradiction fun a => h9 (.inr (.inr a))⟩
    · rintro ⟨a, b, c⟩ (d | d | d)
      · exact d a
      · exact d b
      · exact d c
  rw [hbad, ← key]
  have hok : binOk (bnHead s j hi (cutv (s.extract (j + 26) (bnB s j hi)))) = decide ((cutv (s.extract (j + 26) (bnB s j hi))).size + 1 ≤ 65535) := by
    simp only [binOk, bnHead, hdz]
    rw [show r16 (bW s j hi 2) = true from decide_eq_true w2, show r16 (bW s j hi 3) = true from decide_eq_true w3, show r16 (bW s j hi 4) = true from decide_eq_true w4, show r16 (bW s j hi 5) = true from decide_eq_true w5, show r16 (bW s j hi 6) = true from decide_eq_true w6, show r32 (bT s j hi) = true from decide_eq_true wt, show r32 (bMn s j hi : Int) = true from decide_eq_true (by omega)]
    simp only [Bool.true_and, Bool.and_true, r16]
    exact decide_eq_decide.2 (by omega)
  by_cases hp : (cutv (s.extract (j + 26) (bnB s j hi))).size + 1 ≤ 65535
  · rw [binTextv, if_pos (by rw [hok]; exact decide_eq_true hp), headB, hA]
    show s.extract j (j + 20) ++ put16v (((cutv (s.extract (j + 26) (bnB s j hi))).size : Int) + 1) hi ++ put32v ((s.extract (bnB s j hi) (bnD s j hi)).size : Int) hi ++ cutv (s.extract (j + 26) (bnB s j hi)) ++ ⟨#[0]⟩ ++ nulN (((cutv (s.extract (j + 26) (bnB s j hi))).size + 1) % 2) ++ s.extract (bnB s j hi) (bnD s j hi) ++ nulN (pad2 (s.extract (bnB s j hi) (bnD s j hi)).size) = _ ↔ _
    rw [hD26, hdz]
    exact ⟨fun a => ⟨hp, a⟩, fun a => a.2⟩
  · rw [binTextv, if_neg (by rw [hok]; simpa using hp)]
    constructor
    · intro a
      have := congrArg ByteArray.size a
      rw [ByteArray.size_extract] at this
      have z0 : (⟨#[]⟩ : ByteArray).size = 0 := rfl
      omega
    · intro a
      exact absurd a.1 hp
theorem bin_name (hb : ¬ badB s j hi) (h : j + 26 ≤ s.size) (hs : ¬ s.size < bnE s j hi) : cutv (s.extract (j + 26) (bnB s j hi)) = cutv (bnNm s j hi) := by
  have hN : bnN s j hi = j + 26 + bSz s j hi := rfl
  have hB : bnB s j hi = bnN s j hi + pad2 (bSz s j hi) := rfl
  have hD : bnD s j hi = bnB s j hi + bMn s j hi := rfl
  have hE : bnE s j hi = bnD s j hi + pad2 (bMn s j hi) := rfl
  have eX : s.extract (j + 26) (bnB s j hi) = bnNm s j hi ++ s.extract (bnN s j hi) (bnB s j hi) := ext_cat (by omega) (by omega)
  rw [eX]
  exact bin_path (sz := bSz s j hi) (by rw [bnNm, ByteArray.size_extract]; omega) (Decidable.byContradiction fun a => hb (.inl a))
end
end Go.Proofs.YtancidbbkoeokaaGreat

/- Reading cards in words one after another: plain mathematics. -/
namespace Go.Proofs.YtancidbbkoeokaaGreat
open Go.ChangeShapes Go.WideShapes Go.ChangeAt Go.RowKit Go.Deep

def binR (s : ByteArray) (crc : Bool) : Rdr := fun p => (bnCard s p crc, bnNext s p crc, bnCode s p crc)
def binO (s : ByteArray) (crc : Bool) : Int × List Card := outc (binR s crc) s.size (s.size + 1) [] 0
theorem binR_good (s : ByteArray) (crc : Bool) (hs : s.size ≤ 1048576) : GoodR (binR s crc) s.size 26 := by
  intro p hc
  have h0 : bnCode s p crc = 0 := hc
  clear hc
  have hn : p + 26 ≤ s.size ∧ ¬ s.size < bnE s p crc := by
    have h := h0
    unfold bnCode at h
    rw [Int.toNat_natCast] at h
    by_cases q1 : (p : Int) < 0 ∨ (s.size : Int) < (p : Int) + 26
    · rw [if_pos q1] at h; exact absurd h (by decide)
    rw [if_neg q1] at h
    by_cases q2 : ¬ bW s p crc 0 = 29127
    · rw [if_pos q2] at h; exact absurd h (by decide)
    rw [if_neg q2] at h
    by_cases q4 : ¬ (bW s p crc 1 = 0 ∧ bW s p crc 7 = 0)
    · rw [if_pos q4] at h; exact absurd h (by decide)
    rw [if_neg q4] at h
    by_cases q5 : s.size < bnE s p crc
    · rw [if_pos q5] at h; exact absurd h (by decide)
    exact ⟨by omega, q5⟩
  obtain ⟨hp, hn⟩ := hn
  have g1 : bnCard s p crc = bnHead s p crc (cutv (bnNm s p crc)) := by rw [bnCard, if_pos h0, Int.toNat_natCast]
  have g2 : bnNext s p crc = bnE s p crc := by rw [bnNext, if_pos h0, Int.toNat_natCast]
  have hN : bnN s p crc = p + 26 + bSz s p crc := rfl
  have hB : bnB s p crc = bnN s p crc + pad2 (bSz s p crc) := rfl
  have hD : bnD s p crc = bnB s p crc + bMn s p crc := rfl
  have hE : bnE s p crc = bnD s p crc + pad2 (bMn s p crc) := rfl
  have hk := cutv_le (bnNm s p crc)
  have hzz : (bnNm s p crc).size ≤ bSz s p crc := by unfold bnNm; rw [ByteArray.size_extract]; omega
  have hd : (s.extract (bnB s p crc) (bnD s p crc)).size ≤ bMn s p crc := by rw [ByteArray.size_extract]; omega
  have hM : (1048576 : Nat) ≤ maxLen := by simp [maxLen]
  have b : ∀ k, k ≤ 12 → I64C (bW s p crc k) := fun k hk => by have := bW_bd (hi := crc) (k := k) hp hk; unfold I64C; omega
  have bt : I64C (bT s p crc) := by have := bT_bd (hi := crc) hp; unfold I64C; omega
  simp only [binR]
  rw [g1, g2]
  clear g1 g2 h0
  have b2 := b 2 (by omega)
  have b3 := b 3 (by omega)
  have b4 := b 4 (by omega)
  have b5 := b 5 (by omega)
  have b6 := b 6 (by omega)
  clear b
  unfold bnHead
  generalize s.extract (bnB s p crc) (bnD s p crc) = dd at *
  generalize cutv (bnNm s p crc) = ct at *
  generalize bnNm s p crc = nb at *
  generalize bnE s p crc = E at *
  generalize bnD s p crc = E2 at *
  generalize bnB s p crc = E3 at *
  refine ⟨⟨by omega, by omega⟩, ?_, ?_⟩
  · simp only [szC]
    omega
  · simp only [Card.wf]
    exact ⟨b2, b3, b4, b5, b6, bt, by omega, by omega⟩
end Go.Proofs.YtancidbbkoeokaaGreat

/- Contract of spec.l01Nuls. -/
namespace Go.Proofs.YtancidbbkoeokaaGreat
open Go.ChangeShapes Go.WideShapes Go.ChangeAt Go.RowKit

def nulz (n : Nat) : List UInt8 := List.replicate n 0
theorem nulz_succ (n : Nat) : nulz n ++ [0] = nulz (n + 1) := by simp [nulz, List.replicate_succ']
theorem nulz_len (n : Nat) : (nulz n).length = n := by simp [nulz]
theorem nulz_spec (n : Int) (w : World) (hn : n ≤ 1024) :
    Calls Tryz.prog 36 #[.int .i64 n] w fun e w' => e = .returned (.string (nulN n.toNat)) ∧ Below w.heap.size w w' := by
  obtain ⟨i0, hi, hz0, hz1, hz2⟩ := info_parts Tryz.info5
  go_enter Tryz.func36, Tryz.ntmps36
  go_wp2
  go_loopw [3, 4] (fun v i wr => ∃ k : Nat, k ≤ n.toNat ∧ i = .int .i64 k ∧ OwnB wr w.heap.size v (nulz k) ∧ Below w.heap.size w wr) (fun _ i _ => n.toNat - (intOf i).toNat)
  case atStart => exact ⟨0, Nat.zero_le _, rfl, OwnB.lit (Nat.le_refl _), (Below.refl _ _).alloc (Nat.le_refl _) _⟩
  case round =>
    obtain ⟨k, hk, rfl, hown, hb⟩ := hrel
    have HO := Lib.hid hown
    have HB := Lib.hid hb
    clear hown hb
    by_cases hlt : (k : Int) < n
    · have hsz := HB.out.size
      go_wp2_with (at_builtin; refine wpList_append_own _ rfl _ _ 66 rfl w.heap.size 5 i0 (.int .u8 0) 1 1 Tryz.underlying66 hi hz0 hz1 hz2 rfl (by decide) _ _ _ rfl (HO.out.alloc _) ⟨wr.heap.size, 0, none⟩ 1 1 [.int .u8 0] rfl rfl ?c1 ?c2 ?c3 ?c4 ?c5 ?_)
      case c1 =>
        intro j u hj
        match j, hj with
        | 0, hj => simp at hj; subst hj; simp [Addr.add]
      case c2 => intro u hu; simp at hu; subst hu; rfl
      case c3 => simp only [nulz_len, maxLen]; omega
      case c4 => simp only [nulz_len]; omega
      case c5 => simp; omega
      · intro v' w1 hown' hgrow _
        have hO : OwnB w1 w.heap.size v' (nulz (k + 1)) := by
          have e : byteVals (nulz k) ++ [.int .u8 0] = byteVals (nulz (k + 1)) := by rw [← nulz_succ, ← byteVals_snoc]; rfl
          rw [e] at hown'
          have e2 : (nulz k).length + 1 = (nulz (k + 1)).length := by simp [nulz_len]
          rw [e2] at hown'
          exact hown'
        have hBl : Below w.heap.size w w1 := (HB.out.alloc hsz _).grown hgrow (by simp; omega) (fun b hb => (HO.out.lt b hb).1)
        clear hown' hgrow
        go_wp2
        go_roundw
        case rel => exact ⟨k + 1, by omega, by go_num, hO, hBl⟩
        case measure => simp [intOf]; omega
    · have hc := HO.out.conv
      go_wp2
      go_ret
      have e : k = n.toNat := by omega
      subst e
      exact ⟨rfl, HB.out⟩

end Go.Proofs.YtancidbbkoeokaaGreat

/- Small functions of cards in words: the padding, and whether numbers have room. -/
namespace Go.Proofs.YtancidbbkoeokaaGreat
open Go.ChangeShapes Go.WideShapes Go.ChangeAt Go.RowKit

theorem repL_nul (k : Nat) : Lib.repeatL ([0] : List UInt8) k = List.replicate k 0 := by
  induction k with
  | zero => rfl
  | succ k ih => simp [Lib.repeatL, ih, List.replicate_succ]
theorem binPad_any (n : Nat) (w : World) (hn : n ≤ 9007199254740991) : Calls Tryz.prog 63 #[.int .i64 (n : Int)] w fun e w' => e = .returned (.string (nulN (pad2 n))) ∧ Below w.heap.size w w' := by
  have hq := pad2_le n
  have HP := Lib.hid (fun w => pad_impl (n : Int) 2 w)
  rw [padv2 n hn] at HP
  have hr := fun w => Tryz.strings_Repeat ⟨#[0]⟩ (pad2 n) w (by omega) (by simp [ByteArray.size]; omega)
  have e1 : (⟨(Lib.repeatL (⟨#[0]⟩ : ByteArray).data.toList (pad2 n)).toArray⟩ : ByteArray) = nulN (pad2 n) := by
    show (⟨(Lib.repeatL ([0] : List UInt8) (pad2 n)).toArray⟩ : ByteArray) = _
    rw [repL_nul]
    rfl
  rw [e1] at hr
  have HR := Lib.hid hr
  clear hr e1
  generalize nulN (pad2 n) = r at HR
  generalize pad2 n = q at HP HR hq
  go_enter Tryz.func63, Tryz.ntmps63
  go_wp2_with fail
  refine (HP.out _).mono ?_
  rintro e w1 ⟨rfl, rfl⟩
  go_wp2_with fail
  refine (HR.out _).mono ?_
  rintro e w2 ⟨rfl, hb⟩
  go_wp2_with fail
  go_ret
  exact ⟨rfl, hb⟩
/-- A row of numbers. -/
def RowNB (w : World) (g : Nat) (l : List Int) : Prop := ∀ i x, l[i]? = some x → w.cell? ⟨g, i, none⟩ = some (.int .i64 x)
theorem RowNB.below {w w' : World} {g B : Nat} {l : List Int} (h : RowNB w g l) (hb : Below B w w') (hg : g < B) : RowNB w' g l := fun i x hx => (hb.cell (p := ⟨g, i, none⟩) hg).trans (h i x hx)
theorem RowNB.of {w : World} {g : Nat} {l : List Int} {ty : TypeId} (h : w.heap[g]? = some (.cells (l.map (fun x => Value.int .i64 x)).toArray ty (0, 0))) : RowNB w g l := by
  intro i x hx
  simp only [World.cell?, h]
  simp [hx]
/-- A row of numbers that the call has laid, of whatever capacity. -/
def appRow (B n : Nat) (L : List Int) (v : Value) (w : World) : Prop := ∃ G c, v = .slice (some ⟨G, 0, none⟩) n c ∧ B ≤ G ∧ G < w.heap.size ∧ RowNB w G L
theorem appRow_keep (B n : Nat) (L : List Int) : ∀ v x y, Below x.heap.size x y → appRow B n L v x → appRow B n L v y := by
  rintro v x y hb ⟨G, c, h1, h2, h3, h4⟩
  exact ⟨G, c, h1, h2, Nat.lt_of_lt_of_le h3 hb.size, h4.below hb h3⟩
theorem Tryz.infoNB : (Tryz.prog.info? 3).map (fun i => (i.zero, i.size, i.bytes)) = some (some (.int .i64 0), 1, 8) := by kernel_rfl
/-- One number more behind a row that is full. -/
theorem app_full (L : List Int) (x : Int) (g gx n c cx : Nat) (w : World) (ty : TypeId) (hn : n = L.length) (hc : c = n) (h : RowNB w g L) (hx : w.cell? ⟨gx, 0, none⟩ = some (.int .i64 x)) (hs : n ≤ 1000) :
    ∃ v' w', (Builtin.append_ #[63, 63] ty #[.slice (some ⟨g, 0, none⟩) n c, .slice (some ⟨gx, 0, none⟩) 1 cx]).run Tryz.prog w = .ok v' w' ∧ appRow w.heap.size (n + 1) (L ++ [x]) v' w' ∧ Below w.heap.size w w' := by
  obtain ⟨i0, hi, hz0, hz1, hz2⟩ := info_parts Tryz.infoNB
  obtain ⟨v', w', h1, h2, h3⟩ := run_append_arg_grows (P := Tryz.prog) (w := w) 63 ty 3 i0 (.int .i64 0) 1 8 Tryz.underlying63 hi hz0 hz1 hz2 rfl (by decide) ⟨g, 0, none⟩ n c (L.map (fun x => Value.int .i64 x)) (by simp [hn]) (fun j u hu => by
    rw [List.getElem?_map] at hu
    cases hL : L[j]? with
    | none => rw [hL] at hu; cases hu
    | some y =>
      rw [hL] at hu
      have := h j y hL
      simp only [Option.map_some, Option.some.injEq] at hu
      subst hu
      rw [Addr.add_lit, Nat.zero_add]; exact this) ⟨gx, 0, none⟩ 1 cx [.int .i64 x] rfl (fun j u hu => by
    match j, hu with
    | 0, hu => simp at hu; subst hu; rw [Addr.add_lit]; exact hx) (by omega) (by simp only [maxLen]; omega) (by omega)
  refine ⟨v', w', h1, ?_, ⟨h3.os, h3.tape, h3.output, h3.size, fun k hk => h3.block k hk (by simp)⟩⟩
  obtain ⟨G, cp, rfl⟩ : ∃ G cp, v' = .slice (some ⟨G, 0, none⟩) (n + 1) cp := by
    rcases h2.2 with ⟨_, h0⟩ | ⟨G, cp, _, hv, _⟩
    · omega
    · exact ⟨G, cp, hv⟩
  have hl := h2.lt G rfl
  refine ⟨G, cp, rfl, hl.1, hl.2, fun i y hy => ?_⟩
  have hlt : i < (L ++ [x]).length := (List.getElem?_eq_some_iff.1 hy).1
  rw [h2.cellAt i (by simp at hlt; omega)]
  have e : L.map (fun x => Value.int .i64 x) ++ [Value.int .i64 x] = (L ++ [x]).map (fun x => Value.int .i64 x) := by simp
  rw [e, List.getElem?_map, hy]
  rfl
/-- An append at an operation of a region that draws its order. -/
theorem op_app {P : Program} {Q : Exit → Act → World → Prop} {C : World → Prop} {St : World → World → Prop} {V : Nat → Value → World → Prop} {o : Oper} {a : Act} {w w' : World} (s x : Operand) (t : TypeId) (ho : o.op = .call { callee := .builtin .append, args := #[s, x], argTypes := #[t, t] }) (vs vx v' : Value) (hs : a.eval s = vs) (hx : a.eval x = vx)
    (hr : (Builtin.append_ #[t, t] o.type #[vs, vx]).run P w = .ok v' w') (hC : C w') (hS : St w w') (hv : ∀ d, o.dst = some d → V d v' w') :
    o.wp P a w (fun a' w' => ∃ v, a' = a.put o.dst v ∧ C w' ∧ St w w' ∧ ∀ d, o.dst = some d → V d v w') Q := by
  unfold Oper.wp execOp
  simp only [ho, resolve, invoke, builtin, Sem.run_bind, Sem.run_pure, Result.andThen_ok, List.map_toArray, List.map_cons, List.map_nil, hs, hx, hr]
  exact ⟨v', rfl, hC, hS, hv⟩
theorem all_take {f : Int → Bool} {L : List Int} {i : Nat} {x : Int} (h : L[i]? = some x) (hx : f x = true) (ht : (L.take i).all f = true) : (L.take (i + 1)).all f = true := by
  rw [List.take_add_one, h]
  simp [ht, hx]
theorem all_bad {f : Int → Bool} {L : List Int} {i : Nat} {x : Int} (h : L[i]? = some x) (hx : f x = false) : L.all f = false := by
  rw [List.all_eq_false]
  exact ⟨x, List.mem_of_getElem? h, by simp [hx]⟩
set_option maxHeartbeats 1600000 in
theorem room_any (g1 g2 n1 n2 c1 c2 : Nat) (L1 L2 : List Int) (w : World) (h1 : RowNB w g1 L1) (h2 : RowNB w g2 L2) (hn1 : L1.length = n1) (hn2 : L2.length = n2) (hs1 : n1 ≤ 1000) (hs2 : n2 ≤ 1000) :
    Calls Tryz.prog 33 #[.slice (some ⟨g1, 0, none⟩) n1 c1, .slice (some ⟨g2, 0, none⟩) n2 c2] w fun e w' => e = .returned (.bool (L1.all r16 && L2.all r32)) ∧ w = w' := by
  have R1 := Lib.hid h1
  have R2 := Lib.hid h2
  have HG1 : Hid (∀ i, i < n1 → ∃ x, L1[i]? = some x) := Lib.hid (fun i hi => ⟨L1[i]'(by omega), List.getElem?_eq_getElem (by omega)⟩)
  have HG2 : Hid (∀ i, i < n2 → ∃ x, L2[i]? = some x) := Lib.hid (fun i hi => ⟨L2[i]'(by omega), List.getElem?_eq_getElem (by omega)⟩)
  have HB1 := Lib.hid (fun i x (h : L1[i]? = some x) (hx : r16 x = false) => all_bad h hx)
  have HB2 := Lib.hid (fun i x (h : L2[i]? = some x) (hx : r32 x = false) => all_bad h hx)
  have HT1 := Lib.hid (fun i x (h : L1[i]? = some x) (hx : r16 x = true) ht => all_take (f := r16) h hx ht)
  have HT2 := Lib.hid (fun i x (h : L2[i]? = some x) (hx : r32 x = true) ht => all_take (f := r32) h hx ht)
  have HF1 : Hid ((L1.take n1).all r16 = true → L1.all r16 = true) := Lib.hid (fun h => by rwa [List.take_of_length_le (by omega)] at h)
  have HF2 : Hid ((L2.take n2).all r32 = true → L2.all r32 = true) := Lib.hid (fun h => by rwa [List.take_of_length_le (by omega)] at h)
  have HZ1 : Hid ((L1.take 0).all r16 = true) := Lib.hid rfl
  have HZ2 : Hid ((L2.take 0).all r32 = true) := Lib.hid rfl
  have HI1 : Hid (∀ x w, Calls Tryz.prog 58 #[.int .i64 x, .int .i64 0, .int .i64 65535] w fun e w' => e = .returned (.bool (r16 x)) ∧ w = w') := Lib.hid (fun x w => in_any x 0 65535 w)
  have HI2 : Hid (∀ x w, Calls Tryz.prog 58 #[.int .i64 x, .int .i64 0, .int .i64 4294967295] w fun e w' => e = .returned (.bool (r32 x)) ∧ w = w') := Lib.hid (fun x w => in_any x 0 4294967295 w)
  clear h1 h2 hn1 hn2
  generalize L1.all r16 = A1 at *
  generalize L2.all r32 = A2 at *
  go_enter Tryz.func33, Tryz.ntmps33
  go_wp2_with fail
  go_loopw [5] (fun i wr => ∃ k : Nat, k ≤ n1 ∧ i = .int .i64 k ∧ (L1.take k).all r16 = true ∧ wr = w) (fun i _ => n1 - (intOf i).toNat)
  case atStart => exact ⟨0, Nat.zero_le _, rfl, HZ1.out, rfl⟩
  case round =>
    obtain ⟨k, hk, rfl, hA, rfl⟩ := hrel
    have HA := Lib.hid hA
    clear hA HZ1
    by_cases hlt : k < n1
    · obtain ⟨x, hx⟩ := HG1.out k hlt
      have hlt2 : (k : Int) < (n1 : Int) := by omega
      have c0 := R1.out k x hx
      have HBx := Lib.hid (HB1.out k x hx)
      have HTx := Lib.hid (fun h => HT1.out k x hx h HA.out)
      clear hx HA HB1 HT1
      go_wp2_with fail
      refine (HI1.out _ _).mono ?_
      rintro e w1 ⟨rfl, rfl⟩
      generalize r16 x = rx at *
      cases rx with
      | true =>
        have HN := Lib.hid (HTx.out rfl)
        clear HTx HBx
        go_wp2_with fail
        go_roundw
        case rel => exact ⟨k + 1, by omega, by go_num, HN.out, by trivial⟩
        case measure => simp [intOf]; omega
      | false =>
        have HN := Lib.hid (HBx.out rfl)
        clear HTx HBx
        go_wp2_with fail
        go_ret
        exact ⟨by rw [HN.out]; rfl, by trivial⟩
    · obtain rfl : k = n1 := by omega
      have HA0 := Lib.hid (HF1.out HA.out)
      clear HA HF1 HB1 HT1 HG1
      go_wp2_with fail
      go_loopw [6] (fun i wx => ∃ k : Nat, k ≤ n2 ∧ i = .int .i64 k ∧ (L2.take k).all r32 = true ∧ wx = wr) (fun i _ => n2 - (intOf i).toNat)
      case atStart => exact ⟨0, Nat.zero_le _, rfl, HZ2.out, by trivial⟩
      case round =>
        obtain ⟨k, hk, rfl, hA, rfl⟩ := hrel
        have HA := Lib.hid hA
        clear hA HZ2
        by_cases hlt : k < n2
        · obtain ⟨x, hx⟩ := HG2.out k hlt
          have hlt2 : (k : Int) < (n2 : Int) := by omega
          have c0 := R2.out k x hx
          have HBx := Lib.hid (HB2.out k x hx)
          have HTx := Lib.hid (fun h => HT2.out k x hx h HA.out)
          clear hx HA HB2 HT2
          go_wp2_with fail
          refine (HI2.out _ _).mono ?_
          rintro e w1 ⟨rfl, rfl⟩
          generalize r32 x = rx at *
          cases rx with
          | true =>
            have HN := Lib.hid (HTx.out rfl)
            clear HTx HBx
            go_wp2_with fail
            go_roundw
            case rel => exact ⟨k + 1, by omega, by go_num, HN.out, by trivial⟩
            case measure => simp [intOf]; omega
          | false =>
            have HN := Lib.hid (HBx.out rfl)
            clear HTx HBx
            go_wp2_with fail
            go_ret
            exact ⟨by rw [HA0.out, HN.out]; rfl, by trivial⟩
        · obtain rfl : k = n2 := by omega
          have HA1 := Lib.hid (HF2.out HA.out)
          clear HA HF2 HB2 HT2 HG2
          go_wp2_with fail
          go_ret
          exact ⟨by rw [HA0.out, HA1.out]; rfl, by trivial⟩
end Go.Proofs.YtancidbbkoeokaaGreat

/- Small laws for the reading of a card in words. -/
namespace Go.Proofs.YtancidbbkoeokaaGreat
open Go.ChangeShapes Go.WideShapes Go.ChangeAt Go.RowKit Go.Deep

theorem sl_atB (s : ByteArray) (x y : Int) (a b : Nat) (hx : x = (a : Int)) (hy : y = (b : Int)) (hab : a ≤ b) (hb : b ≤ s.size) (w : World) : (Instr.slice 9 (.string s) (some (.int .i64 x)) (some (.int .i64 y)) none).run Tryz.prog w = .ok (.string (s.extract a b)) w := by
  subst hx hy
  have := run_slice_string (P := Tryz.prog) (w := w) 9 s .i64 .i64 (a : Int) (b : Int) Tryz.underlying9 (by omega) (by omega) (by omega)
  rw [Int.toNat_natCast, Int.toNat_natCast] at this
  exact this
theorem cut_preB (s : ByteArray) : s.extract 0 (cutv s).size = cutv s := by
  apply ba_ext
  have e : (cutv s).size = (nulFree s.data.toList).length := by simp [cutv, ByteArray.size]
  rw [e, show (cutv s).data.toList = nulFree s.data.toList from by simp [cutv]]
  simp
  unfold nulFree
  exact (List.prefix_iff_eq_take.1 (List.takeWhile_prefix _)).symm
theorem below_setB {B g : Nat} {w : World} (hB : B ≤ g) (cs : Array Value) : Below B w (w.setRow g cs) :=
  ⟨rfl, rfl, rfl, by simp, fun k hk => setRow_other _ _ _ _ (by omega)⟩
theorem cut_toB (s : ByteArray) (x : Int) (hx : x.toNat = (cutv s).size) (h0 : 0 ≤ x) (h1 : x ≤ s.size) (w : World) : (Instr.slice 9 (.string s) none (some (.int .i64 x)) none).run Tryz.prog w = .ok (.string (cutv s)) w := by
  have := run_slice_string_h (P := Tryz.prog) (w := w) (t := 9) (s := s) Tryz.underlying9 .i64 x h0 h1
  rw [hx, cut_preB] at this
  exact this
theorem results_cell3B {P : Program} {fn : Func} {p u1 u2 : Tmp} {ty : TypeId} (h : fn.results = #[.cell p ty, .tmp u1, .tmp u2]) (tmps : Array Value) (w : World) (g : Nat) (t : TypeId) (cs : Array Value) (fr : Nat × Nat) (d : TypeDesc)
    (hp : tmps.getD p undef = .pointer (some ⟨g, 0, none⟩)) (hg : w.heap[g]? = some (.cells cs t fr))
    (hu : P.underlying ty = some d) (hd : (match d with | .struct _ | .array _ _ => true | _ => false) = true) (hi : (P.info? ty).map (·.size) = some cs.size) :
    (results fn tmps).run P w = .ok (.tuple #[.agg cs, tmps.getD u1 undef, tmps.getD u2 undef]) w := by
  have hp' : tmps[p]?.getD undef = .pointer (some ⟨g, 0, none⟩) := by simpa using hp
  simp [results, h, hp', asAddr, run_loadVar_row w g t ty cs fr d hg hu hd hi]
theorem res_OCB {fn : Func} {p u1 u2 : Tmp} (h : fn.results = #[.cell p 44, .tmp u1, .tmp u2]) (tmps : Array Value) {w : World} {g : Nat} {e : Card}
    (hp : tmps.getD p undef = .pointer (some ⟨g, 0, none⟩)) (hg : CardO w g e) : (results fn tmps).run Tryz.prog w = .ok (.tuple #[.agg e.cells.toArray, tmps.getD u1 undef, tmps.getD u2 undef]) w :=
  results_cell3B h _ _ g _ e.cells.toArray (0, 0) _ hp hg Tryz.underlying44 rfl (by rw [Tryz.sizeOC]; rfl)
theorem obj_ltB {w : World} {g : Nat} {o : Obj} (h : w.heap[g]? = some o) : g < w.heap.size := (Array.getElem?_eq_some_iff.1 h).1
theorem bel_drewK {B : Nat} {w w' : World} {n : Nat} (h : Below B w w') : Below B w (w'.drewN n) := ⟨h.os, h.tape, h.output, h.size, h.block⟩
theorem blank_anyB (t : ByteArray) (w : World) (h : t.size ≤ 1048576) : Calls Tryz.prog 48 #[.string t] w fun e w' => e = .returned (.bool (isNul t)) ∧ w = w' := by
  have H := Lib.hid (fun w => sum_spec t w h)
  have HE : Hid (isNul t = decide (sumv t.data.toList = 0)) := Lib.hid rfl
  generalize isNul t = r at HE
  generalize sumv t.data.toList = q at H HE
  by_cases hq : q = 0
  · have e1 : (q == 0) = true := by simpa using hq
    rw [decide_eq_true hq] at HE
    subst hq
    go_enter Tryz.func48, Tryz.ntmps48
    go_wp2_with fail
    refine (H.out _).mono ?_
    rintro e w1 ⟨rfl, rfl⟩
    go_wp2_with fail
    go_ret
    exact ⟨by rw [HE.out]; rfl, rfl⟩
  · have e1 : (q == 0) = false := by simpa using hq
    rw [decide_eq_false hq] at HE
    go_enter Tryz.func48, Tryz.ntmps48
    go_wp2_with fail
    refine (H.out _).mono ?_
    rintro e w1 ⟨rfl, rfl⟩
    go_wp2_with fail
    go_ret
    exact ⟨by rw [HE.out]; rfl, rfl⟩
theorem isNul_nulNB (n : Nat) : isNul (nulN n) = true := (isNul_iff _).2 (by rw [nulN_size])
theorem nul_ofB {s : ByteArray} {a b n : Nat} (h : isNul (s.extract a b) = true) (hb : b ≤ s.size) (hn : a + n = b) : s.extract a b = nulN n := by
  have h1 := (isNul_iff _).1 h
  rw [ByteArray.size_extract, show min b s.size - a = n from by omega] at h1
  exact h1
theorem cell_oneBB (w : World) (v : Value) (t : TypeId) : ∀ j u, [v][j]? = some u → (w.alloc (.cells #[v] t)).cell? ((⟨w.heap.size, 0, none⟩ : Addr).add j) = some u := by
  intro j u hj
  match j, hj with
  | 0, hj => simp at hj; subst hj; simp [Addr.add]
  | j + 1, hj => simp at hj
theorem pad2_spcB (n : Nat) (hn : n ≤ 9007199254740991) (w : World) : Calls Tryz.prog 37 #[.int .i64 (n : Int), .int .i64 2] w fun e w' => e = .returned (.int .i64 (pad2 n : Int)) ∧ w = w' := by
  have h := pad_spec (n : Int) 2 w
  rw [padv2 n hn] at h
  exact h
end Go.Proofs.YtancidbbkoeokaaGreat

/- The reader of a card's head: its methods. -/
namespace Go.Proofs.YtancidbbkoeokaaGreat
open Go.ChangeShapes Go.WideShapes Go.ChangeAt Go.RowKit Go.Deep

/-- The reader in a block of its own: the text, the place, the order of bytes. -/
def RdO (w : World) (g : Nat) (s : ByteArray) (at_ : Int) (hi : Bool) : Prop := w.heap[g]? = some (.cells #[.string s, .int .i64 at_, .bool hi] 89 (0, 0))
theorem heap_setRB {w : World} {g i : Nat} {cs : Array Value} {t : TypeId} {v : Value} (h : w.heap[g]? = some (.cells cs t (0, 0))) : (w.setCell ⟨g, i, none⟩ v).heap[g]? = some (.cells (cs.setIfInBounds i v) t (0, 0)) := by
  have hlt : g < w.heap.size := (Array.getElem?_eq_some_iff.1 h).1
  have hg : w.heap[g] = .cells cs t (0, 0) := (Array.getElem?_eq_some_iff.1 h).2
  simp [World.setCell, hlt, Array.getElem_modify, hg]
theorem bel_drewB {B : Nat} {w w' : World} {n : Nat} (h : Below B w w') : Below B w (w'.drewN n) := ⟨h.os, h.tape, h.output, h.size, h.block⟩
set_option maxHeartbeats 1600000 in
set_option maxRecDepth 8000 in
theorem short_r (g gh i : Nat) (s : ByteArray) (at_ : Int) (hi : Bool) (cs : Array Value) (T : TypeId) (w : World) (hs : s.size ≤ 1048576) (ha : 0 ≤ at_ ∧ at_ ≤ 1048576) (h : RdO w g s at_ hi) (hh : w.heap[gh]? = some (.cells cs T (0, 0))) (hne : gh ≠ g) (hone : ∃ x, cs[i]? = some (.int .i64 x)) :
    Calls Tryz.prog 145 #[.pointer (some ⟨g, 0, none⟩), .pointer (some ⟨gh, i, none⟩)] w fun e w' => e = .returned (.tuple #[]) ∧ RdO w' g s (at_ + 2) hi ∧ w'.heap[gh]? = some (.cells (cs.setIfInBounds i (.int .i64 (get16v s at_ hi))) T (0, 0)) ∧ ∀ B, B ≤ g → B ≤ gh → Below B w w' := by
  have HP := Lib.hid (fun w => get16_impl s at_ hi w (by omega))
  generalize get16v s at_ hi = q at HP ⊢
  obtain ⟨x9, hone⟩ := hone
  have ew : IntKind.i64.wrap (at_ + 2) = at_ + 2 := by rw [IntKind.wrap_i64]; omega
  have hlt := (Array.getElem?_eq_some_iff.1 h).1
  have hgl := (Array.getElem?_eq_some_iff.1 hh).1
  have R := Lib.hid h
  have HH := Lib.hid hh
  have KC : Hid (∀ w', Below w.heap.size w w' → w'.cell? ⟨g, 0, none⟩ = some (.string s) ∧ w'.cell? ⟨g, 1, none⟩ = some (.int .i64 at_) ∧ w'.cell? ⟨g, 2, none⟩ = some (.bool hi)) := Lib.hid (fun w' hb => by
    have h9 := (hb.block g hlt).trans h
    exact ⟨by simp [World.cell?, h9], by simp [World.cell?, h9], by simp [World.cell?, h9]⟩)
  clear h hh
  go_enter Tryz.func145, Tryz.ntmps145
  go_upto_region 0 with fail
  refine wp_region_cut 15 (by kernel_rfl) (fun w' => Below w.heap.size w w') (fun x y => Below x.heap.size x y) (fun dq vq _ => match dq with | 4 => vq = .pointer (some ⟨gh, i, none⟩) | 5 => vq = .pointer (some ⟨g, 0, none⟩) | 6 => vq = .pointer (some ⟨g, 0, none⟩) | 7 => vq = .pointer (some ⟨g, 0, none⟩) | 8 => vq = .string s | 9 => vq = .pointer (some ⟨g, 0, none⟩) | 10 => vq = .pointer (some ⟨g, 0, none⟩) | 11 => vq = .pointer (some ⟨g, 1, none⟩) | 12 => vq = .int .i64 at_ | 13 => vq = .pointer (some ⟨g, 0, none⟩) | 14 => vq = .pointer (some ⟨g, 0, none⟩) | 15 => vq = .pointer (some ⟨g, 2, none⟩) | 16 => vq = .bool hi | 17 => vq = .int .i64 q | 18 => vq = .pointer (some ⟨gh, i, none⟩) | _ => True) (by kernel_rfl) (by kernel_rfl) ((Below.refl _ _).drew) (fun _ _ _ _ _ _ h => h) (by simp) ?hops ?hend
  case hops =>
    simp only [List.take_succ_cons, List.take_zero, List.forall_mem_cons]
    refine ⟨?o4, ?o5, ?o6, ?o7, ?o8, ?o9, ?o10, ?o11, ?o12, ?o13, ?o14, ?o15, ?o16, ?o17, ?o18, fun _ h => by cases h⟩
    case o4 =>
      intro Q a w2 hC hV hI
      have e1 : a.eval (.tmp 1) = .pointer (some ⟨gh, i, none⟩) := (hI 1 (by simp [Op.operands]) (by kernel_rfl)).trans rfl
      have f1 : a.tmps.getD 1 undef = .pointer (some ⟨gh, i, none⟩) := e1
      have g1 : a.tmps[1]?.getD undef = .pointer (some ⟨gh, i, none⟩) := by rw [← Array.getD_eq_getD_getElem?]; exact e1
      refine op_val (.pointer (some ⟨gh, i, none⟩)) ?_ hC (Below.refl _ _) (by intro d hd; cases hd; rfl)
      (clear hV hI hC; go_simp <;> (first | rfl | simp | (rw [IntKind.wrap_i64]; omega)))
    case o5 =>
      intro Q a w2 hC hV hI
      have e0 : a.eval (.tmp 0) = .pointer (some ⟨g, 0, none⟩) := (hI 0 (by simp [Op.operands]) (by kernel_rfl)).trans rfl
      have f0 : a.tmps.getD 0 undef = .pointer (some ⟨g, 0, none⟩) := e0
      have g0 : a.tmps[0]?.getD undef = .pointer (some ⟨g, 0, none⟩) := by rw [← Array.getD_eq_getD_getElem?]; exact e0
      refine op_val (.pointer (some ⟨g, 0, none⟩)) ?_ hC (Below.refl _ _) (by intro d hd; cases hd; rfl)
      (clear hV hI hC; go_simp <;> (first | rfl | simp | (rw [IntKind.wrap_i64]; omega)))
    case o6 =>
      intro Q a w2 hC hV hI
      have e5 : a.eval (.tmp 5) = .pointer (some ⟨g, 0, none⟩) := hV 5 (by simp [Op.operands]) (by kernel_rfl)
      have f5 : a.tmps.getD 5 undef = .pointer (some ⟨g, 0, none⟩) := e5
      have g5 : a.tmps[5]?.getD undef = .pointer (some ⟨g, 0, none⟩) := by rw [← Array.getD_eq_getD_getElem?]; exact e5
      refine op_val (.pointer (some ⟨g, 0, none⟩)) ?_ hC (Below.refl _ _) (by intro d hd; cases hd; rfl)
      (clear hV hI hC; go_simp <;> (first | rfl | simp | (rw [IntKind.wrap_i64]; omega)))
    case o7 =>
      intro Q a w2 hC hV hI
      have e6 : a.eval (.tmp 6) = .pointer (some ⟨g, 0, none⟩) := hV 6 (by simp [Op.operands]) (by kernel_rfl)
      have f6 : a.tmps.getD 6 undef = .pointer (some ⟨g, 0, none⟩) := e6
      have g6 : a.tmps[6]?.getD undef = .pointer (some ⟨g, 0, none⟩) := by rw [← Array.getD_eq_getD_getElem?]; exact e6
      refine op_val (.pointer (some ⟨g, 0, none⟩)) ?_ hC (Below.refl _ _) (by intro d hd; cases hd; rfl)
      (clear hV hI hC; go_simp <;> (first | rfl | simp | (rw [IntKind.wrap_i64]; omega)))
    case o8 =>
      intro Q a w2 hC hV hI
      have e7 : a.eval (.tmp 7) = .pointer (some ⟨g, 0, none⟩) := hV 7 (by simp [Op.operands]) (by kernel_rfl)
      have f7 : a.tmps.getD 7 undef = .pointer (some ⟨g, 0, none⟩) := e7
      have g7 : a.tmps[7]?.getD undef = .pointer (some ⟨g, 0, none⟩) := by rw [← Array.getD_eq_getD_getElem?]; exact e7
      have hK := KC.out w2 hC
      refine op_val (.string s) ?_ hC (Below.refl _ _) (by intro d hd; cases hd; rfl)
      (clear hV hI hC; go_simp <;> (first | rfl | simp | (rw [IntKind.wrap_i64]; omega)))
    case o9 =>
      intro Q a w2 hC hV hI
      have e0 : a.eval (.tmp 0) = .pointer (some ⟨g, 0, none⟩) := (hI 0 (by simp [Op.operands]) (by kernel_rfl)).trans rfl
      have f0 : a.tmps.getD 0 undef = .pointer (some ⟨g, 0, none⟩) := e0
      have g0 : a.tmps[0]?.getD undef = .pointer (some ⟨g, 0, none⟩) := by rw [← Array.getD_eq_getD_getElem?]; exact e0
      refine op_val (.pointer (some ⟨g, 0, none⟩)) ?_ hC (Below.refl _ _) (by intro d hd; cases hd; rfl)
      (clear hV hI hC; go_simp <;> (first | rfl | simp | (rw [IntKind.wrap_i64]; omega)))
    case o10 =>
      intro Q a w2 hC hV hI
      have e9 : a.eval (.tmp 9) = .pointer (some ⟨g, 0, none⟩) := hV 9 (by simp [Op.operands]) (by kernel_rfl)
      have f9 : a.tmps.getD 9 undef = .pointer (some ⟨g, 0, none⟩) := e9
      have g9 : a.tmps[9]?.getD undef = .pointer (some ⟨g, 0, none⟩) := by rw [← Array.getD_eq_getD_getElem?]; exact e9
      refine op_val (.pointer (some ⟨g, 0, none⟩)) ?_ hC (Below.refl _ _) (by intro d hd; cases hd; rfl)
      (clear hV hI hC; go_simp <;> (first | rfl | simp | (rw [IntKind.wrap_i64]; omega)))
    case o11 =>
      intro Q a w2 hC hV hI
      have e10 : a.eval (.tmp 10) = .pointer (some ⟨g, 0, none⟩) := hV 10 (by simp [Op.operands]) (by kernel_rfl)
      have f10 : a.tmps.getD 10 undef = .pointer (some ⟨g, 0, none⟩) := e10
      have g10 : a.tmps[10]?.getD undef = .pointer (some ⟨g, 0, none⟩) := by rw [← Array.getD_eq_getD_getElem?]; exact e10
      refine op_val (.pointer (some ⟨g, 1, none⟩)) ?_ hC (Below.refl _ _) (by intro d hd; cases hd; rfl)
      (clear hV hI hC; go_simp <;> (first | rfl | simp | (rw [IntKind.wrap_i64]; omega)))
    case o12 =>
      intro Q a w2 hC hV hI
      have e11 : a.eval (.tmp 11) = .pointer (some ⟨g, 1, none⟩) := hV 11 (by simp [Op.operands]) (by kernel_rfl)
      have f11 : a.tmps.getD 11 undef = .pointer (some ⟨g, 1, none⟩) := e11
      have g11 : a.tmps[11]?.getD undef = .pointer (some ⟨g, 1, none⟩) := by rw [← Array.getD_eq_getD_getElem?]; exact e11
      have hK := KC.out w2 hC
      refine op_val (.int .i64 at_) ?_ hC (Below.refl _ _) (by intro d hd; cases hd; rfl)
      (clear hV hI hC; go_simp <;> (first | rfl | simp | (rw [IntKind.wrap_i64]; omega)))
    case o13 =>
      intro Q a w2 hC hV hI
      have e0 : a.eval (.tmp 0) = .pointer (some ⟨g, 0, none⟩) := (hI 0 (by simp [Op.operands]) (by kernel_rfl)).trans rfl
      have f0 : a.tmps.getD 0 undef = .pointer (some ⟨g, 0, none⟩) := e0
      have g0 : a.tmps[0]?.getD undef = .pointer (some ⟨g, 0, none⟩) := by rw [← Array.getD_eq_getD_getElem?]; exact e0
      refine op_val (.pointer (some ⟨g, 0, none⟩)) ?_ hC (Below.refl _ _) (by intro d hd; cases hd; rfl)
      (clear hV hI hC; go_simp <;> (first | rfl | simp | (rw [IntKind.wrap_i64]; omega)))
    case o14 =>
      intro Q a w2 hC hV hI
      have e13 : a.eval (.tmp 13) = .pointer (some ⟨g, 0, none⟩) := hV 13 (by simp [Op.operands]) (by kernel_rfl)
      have f13 : a.tmps.getD 13 undef = .pointer (some ⟨g, 0, none⟩) := e13
      have g13 : a.tmps[13]?.getD undef = .pointer (some ⟨g, 0, none⟩) := by rw [← Array.getD_eq_getD_getElem?]; exact e13
      refine op_val (.pointer (some ⟨g, 0, none⟩)) ?_ hC (Below.refl _ _) (by intro d hd; cases hd; rfl)
      (clear hV hI hC; go_simp <;> (first | rfl | simp | (rw [IntKind.wrap_i64]; omega)))
    case o15 =>
      intro Q a w2 hC hV hI
      have e14 : a.eval (.tmp 14) = .pointer (some ⟨g, 0, none⟩) := hV 14 (by simp [Op.operands]) (by kernel_rfl)
      have f14 : a.tmps.getD 14 undef = .pointer (some ⟨g, 0, none⟩) := e14
      have g14 : a.tmps[14]?.getD undef = .pointer (some ⟨g, 0, none⟩) := by rw [← Array.getD_eq_getD_getElem?]; exact e14
      refine op_val (.pointer (some ⟨g, 2, none⟩)) ?_ hC (Below.refl _ _) (by intro d hd; cases hd; rfl)
      (clear hV hI hC; go_simp <;> (first | rfl | simp | (rw [IntKind.wrap_i64]; omega)))
    case o16 =>
      intro Q a w2 hC hV hI
      have e15 : a.eval (.tmp 15) = .pointer (some ⟨g, 2, none⟩) := hV 15 (by simp [Op.operands]) (by kernel_rfl)
      have f15 : a.tmps.getD 15 undef = .pointer (some ⟨g, 2, none⟩) := e15
      have g15 : a.tmps[15]?.getD undef = .pointer (some ⟨g, 2, none⟩) := by rw [← Array.getD_eq_getD_getElem?]; exact e15
      have hK := KC.out w2 hC
      refine op_val (.bool hi) ?_ hC (Below.refl _ _) (by intro d hd; cases hd; rfl)
      (clear hV hI hC; go_simp <;> (first | rfl | simp | (rw [IntKind.wrap_i64]; omega)))
    case o17 =>
      intro Q a w2 hC hV hI
      have e8 : a.eval (.tmp 8) = .string s := hV 8 (by simp [Op.operands, Call.operands]) (by kernel_rfl)
      have f8 : a.tmps.getD 8 undef = .string s := e8
      have g8 : a.tmps[8]?.getD undef = .string s := by rw [← Array.getD_eq_getD_getElem?]; exact e8
      have e12 : a.eval (.tmp 12) = .int .i64 at_ := hV 12 (by simp [Op.operands, Call.operands]) (by kernel_rfl)
      have f12 : a.tmps.getD 12 undef = .int .i64 at_ := e12
      have g12 : a.tmps[12]?.getD undef = .int .i64 at_ := by rw [← Array.getD_eq_getD_getElem?]; exact e12
      have e16 : a.eval (.tmp 16) = .bool hi := hV 16 (by simp [Op.operands, Call.operands]) (by kernel_rfl)
      have f16 : a.tmps.getD 16 undef = .bool hi := e16
      have g16 : a.tmps[16]?.getD undef = .bool hi := by rw [← Array.getD_eq_getD_getElem?]; exact e16
      refine op_call (f := 147) (args := #[.string s, .int .i64 at_, .bool hi]) (R := fun v y => v = .int .i64 q ∧ Below w2.heap.size w2 y) ?_ ((HP.out w2).mono ?_) ?_
      · (clear hV hI hC; go_simp <;> (first | rfl | simp | (rw [IntKind.wrap_i64]; omega)))
      · rintro e y ⟨rfl, n9, rfl⟩; exact ⟨_, rfl, rfl, bel_drewB (Below.refl _ _)⟩
      · rintro v y ⟨rfl, hb⟩; exact ⟨hC.trans (hb.mono hC.size), hb, by intro d hd; cases hd; rfl⟩
    case o18 =>
      intro Q a w2 hC hV hI
      have e4 : a.eval (.tmp 4) = .pointer (some ⟨gh, i, none⟩) := hV 4 (by simp [Op.operands]) (by kernel_rfl)
      have f4 : a.tmps.getD 4 undef = .pointer (some ⟨gh, i, none⟩) := e4
      have g4 : a.tmps[4]?.getD undef = .pointer (some ⟨gh, i, none⟩) := by rw [← Array.getD_eq_getD_getElem?]; exact e4
      refine op_val (.pointer (some ⟨gh, i, none⟩)) ?_ hC (Below.refl _ _) (by intro d hd; cases hd; rfl)
      (clear hV hI hC; go_simp <;> (first | rfl | simp | (rw [IntKind.wrap_i64]; omega)))
  case hend =>
    intro f w2 hC hall
    simp only [List.take_succ_cons, List.take_zero, List.drop_succ_cons, List.drop_zero] at hall ⊢
    simp only [List.forall_mem_cons] at hall
    obtain ⟨h4, h5, h6, h7, h8, h9, h10, h11, h12, h13, h14, h15, h16, h17, h18, _⟩ := hall
    replace h4 : f 4 = .pointer (some ⟨gh, i, none⟩) := h4 4 rfl
    replace h5 : f 5 = .pointer (some ⟨g, 0, none⟩) := h5 5 rfl
    replace h6 : f 6 = .pointer (some ⟨g, 0, none⟩) := h6 6 rfl
    replace h7 : f 7 = .pointer (some ⟨g, 0, none⟩) := h7 7 rfl
    replace h8 : f 8 = .string s := h8 8 rfl
    replace h9 : f 9 = .pointer (some ⟨g, 0, none⟩) := h9 9 rfl
    replace h10 : f 10 = .pointer (some ⟨g, 0, none⟩) := h10 10 rfl
    replace h11 : f 11 = .pointer (some ⟨g, 1, none⟩) := h11 11 rfl
    replace h12 : f 12 = .int .i64 at_ := h12 12 rfl
    replace h13 : f 13 = .pointer (some ⟨g, 0, none⟩) := h13 13 rfl
    replace h14 : f 14 = .pointer (some ⟨g, 0, none⟩) := h14 14 rfl
    replace h15 : f 15 = .pointer (some ⟨g, 2, none⟩) := h15 15 rfl
    replace h16 : f 16 = .bool hi := h16 16 rfl
    replace h17 : f 17 = .int .i64 q := h17 17 rfl
    replace h18 : f 18 = .pointer (some ⟨gh, i, none⟩) := h18 18 rfl
    simp only [putAll, Act.put, List.setIfInBounds_toArray, List.set_cons_succ, List.set_cons_zero, h4, h5, h6, h7, h8, h9, h10, h11, h12, h13, h14, h15, h16, h17, h18]
    clear h4 h5 h6 h7 h8 h9 h10 h11 h12 h13 h14 h15 h16 h17 h18
    have R2 := Lib.hid ((hC.block g hlt).trans R.out)
    have H2 := Lib.hid ((hC.block gh hgl).trans HH.out)
    have cx : w2.cell? ⟨gh, i, none⟩ = some (.int .i64 x9) := by simp [World.cell?, H2.out, hone]
    have fx : w2.frozen? ⟨gh, i, none⟩ = false := by simp [World.frozen?, H2.out]
    have B2 := Lib.hid hC
    clear KC HP hC R HH
    go_upto_region 1 with fail
    generalize hw3 : World.setCell w2 _ _ = w3
    have R3 : Hid (w3.heap[g]? = some (.cells #[.string s, .int .i64 at_, .bool hi] 89 (0, 0))) := Lib.hid (by rw [← hw3, Below.heap_setCell _ _ _ _ (by simp; omega)]; exact R2.out)
    have H3 : Hid (w3.heap[gh]? = some (.cells (cs.setIfInBounds i (.int .i64 q)) T (0, 0))) := Lib.hid (by rw [← hw3]; exact heap_setRB H2.out)
    have B3 : Hid (∀ B, B ≤ g → B ≤ gh → Below B w w3) := Lib.hid (fun B hB hB2 => by rw [← hw3]; exact (B2.out.mono (by omega)).setCell hB2 _)
    clear hw3 cx fx R2 H2 B2
    have c1 : w3.cell? ⟨g, 1, none⟩ = some (.int .i64 at_) := by simp [World.cell?, R3.out]
    have f1 : w3.frozen? ⟨g, 1, none⟩ = false := by simp [World.frozen?, R3.out]
    go_wp2_with fail
    refine bodyPost_end (results_none rfl _ _ _) rfl ?_
    have hg9 := heap_setRB (i := 1) (v := .int .i64 (at_ + 2)) R3.out
    simp only [List.setIfInBounds_toArray, List.set_cons_succ, List.set_cons_zero] at hg9
    refine ⟨rfl, hg9, ?_, fun B hB hB2 => (B3.out B hB hB2).setCell hB _⟩
    rw [Below.heap_setCell _ _ _ _ (by simp; omega)]
    exact H3.out
set_option maxHeartbeats 1600000 in
set_option maxRecDepth 8000 in
theorem long_r (g gh i : Nat) (s : ByteArray) (at_ : Int) (hi : Bool) (cs : Array Value) (T : TypeId) (w : World) (hs : s.size ≤ 1048576) (ha : 0 ≤ at_ ∧ at_ ≤ 1048576) (h : RdO w g s at_ hi) (hh : w.heap[gh]? = some (.cells cs T (0, 0))) (hne : gh ≠ g) (hone : ∃ x, cs[i]? = some (.int .i64 x)) :
    Calls Tryz.prog 143 #[.pointer (some ⟨g, 0, none⟩), .pointer (some ⟨gh, i, none⟩)] w fun e w' => e = .returned (.tuple #[]) ∧ RdO w' g s (at_ + 4) hi ∧ w'.heap[gh]? = some (.cells (cs.setIfInBounds i (.int .i64 (get32v s at_ hi))) T (0, 0)) ∧ ∀ B, B ≤ g → B ≤ gh → Below B w w' := by
  have HP := Lib.hid (fun w => get32_impl s at_ hi w (by omega))
  generalize get32v s at_ hi = q at HP ⊢
  obtain ⟨x9, hone⟩ := hone
  have ew : IntKind.i64.wrap (at_ + 4) = at_ + 4 := by rw [IntKind.wrap_i64]; omega
  have hlt := (Array.getElem?_eq_some_iff.1 h).1
  have hgl := (Array.getElem?_eq_some_iff.1 hh).1
  have R := Lib.hid h
  have HH := Lib.hid hh
  have KC : Hid (∀ w', Below w.heap.size w w' → w'.cell? ⟨g, 0, none⟩ = some (.string s) ∧ w'.cell? ⟨g, 1, none⟩ = some (.int .i64 at_) ∧ w'.cell? ⟨g, 2, none⟩ = some (.bool hi)) := Lib.hid (fun w' hb => by
    have h9 := (hb.block g hlt).trans h
    exact ⟨by simp [World.cell?, h9], by simp [World.cell?, h9], by simp [World.cell?, h9]⟩)
  clear h hh
  go_enter Tryz.func143, Tryz.ntmps143
  go_upto_region 0 with fail
  refine wp_region_cut 15 (by kernel_rfl) (fun w' => Below w.heap.size w w') (fun x y => Below x.heap.size x y) (fun dq vq _ => match dq with | 4 => vq = .pointer (some ⟨gh, i, none⟩) | 5 => vq = .pointer (some ⟨g, 0, none⟩) | 6 => vq = .pointer (some ⟨g, 0, none⟩) | 7 => vq = .pointer (some ⟨g, 0, none⟩) | 8 => vq = .string s | 9 => vq = .pointer (some ⟨g, 0, none⟩) | 10 => vq = .pointer (some ⟨g, 0, none⟩) | 11 => vq = .pointer (some ⟨g, 1, none⟩) | 12 => vq = .int .i64 at_ | 13 => vq = .pointer (some ⟨g, 0, none⟩) | 14 => vq = .pointer (some ⟨g, 0, none⟩) | 15 => vq = .pointer (some ⟨g, 2, none⟩) | 16 => vq = .bool hi | 17 => vq = .int .i64 q | 18 => vq = .pointer (some ⟨gh, i, none⟩) | _ => True) (by kernel_rfl) (by kernel_rfl) ((Below.refl _ _).drew) (fun _ _ _ _ _ _ h => h) (by simp) ?hops ?hend
  case hops =>
    simp only [List.take_succ_cons, List.take_zero, List.forall_mem_cons]
    refine ⟨?o4, ?o5, ?o6, ?o7, ?o8, ?o9, ?o10, ?o11, ?o12, ?o13, ?o14, ?o15, ?o16, ?o17, ?o18, fun _ h => by cases h⟩
    case o4 =>
      intro Q a w2 hC hV hI
      have e1 : a.eval (.tmp 1) = .pointer (some ⟨gh, i, none⟩) := (hI 1 (by simp [Op.operands]) (by kernel_rfl)).trans rfl
      have f1 : a.tmps.getD 1 undef = .pointer (some ⟨gh, i, none⟩) := e1
      have g1 : a.tmps[1]?.getD undef = .pointer (some ⟨gh, i, none⟩) := by rw [← Array.getD_eq_getD_getElem?]; exact e1
      refine op_val (.pointer (some ⟨gh, i, none⟩)) ?_ hC (Below.refl _ _) (by intro d hd; cases hd; rfl)
      (clear hV hI hC; go_simp <;> (first | rfl | simp | (rw [IntKind.wrap_i64]; omega)))
    case o5 =>
      intro Q a w2 hC hV hI
      have e0 : a.eval (.tmp 0) = .pointer (some ⟨g, 0, none⟩) := (hI 0 (by simp [Op.operands]) (by kernel_rfl)).trans rfl
      have f0 : a.tmps.getD 0 undef = .pointer (some ⟨g, 0, none⟩) := e0
      have g0 : a.tmps[0]?.getD undef = .pointer (some ⟨g, 0, none⟩) := by rw [← Array.getD_eq_getD_getElem?]; exact e0
      refine op_val (.pointer (some ⟨g, 0, none⟩)) ?_ hC (Below.refl _ _) (by intro d hd; cases hd; rfl)
      (clear hV hI hC; go_simp <;> (first | rfl | simp | (rw [IntKind.wrap_i64]; omega)))
    case o6 =>
      intro Q a w2 hC hV hI
      have e5 : a.eval (.tmp 5) = .pointer (some ⟨g, 0, none⟩) := hV 5 (by simp [Op.operands]) (by kernel_rfl)
      have f5 : a.tmps.getD 5 undef = .pointer (some ⟨g, 0, none⟩) := e5
      have g5 : a.tmps[5]?.getD undef = .pointer (some ⟨g, 0, none⟩) := by rw [← Array.getD_eq_getD_getElem?]; exact e5
      refine op_val (.pointer (some ⟨g, 0, none⟩)) ?_ hC (Below.refl _ _) (by intro d hd; cases hd; rfl)
      (clear hV hI hC; go_simp <;> (first | rfl | simp | (rw [IntKind.wrap_i64]; omega)))
    case o7 =>
      intro Q a w2 hC hV hI
      have e6 : a.eval (.tmp 6) = .pointer (some ⟨g, 0, none⟩) := hV 6 (by simp [Op.operands]) (by kernel_rfl)
      have f6 : a.tmps.getD 6 undef = .pointer (some ⟨g, 0, none⟩) := e6
      have g6 : a.tmps[6]?.getD undef = .pointer (some ⟨g, 0, none⟩) := by rw [← Array.getD_eq_getD_getElem?]; exact e6
      refine op_val (.pointer (some ⟨g, 0, none⟩)) ?_ hC (Below.refl _ _) (by intro d hd; cases hd; rfl)
      (clear hV hI hC; go_simp <;> (first | rfl | simp | (rw [IntKind.wrap_i64]; omega)))
    case o8 =>
      intro Q a w2 hC hV hI
      have e7 : a.eval (.tmp 7) = .pointer (some ⟨g, 0, none⟩) := hV 7 (by simp [Op.operands]) (by kernel_rfl)
      have f7 : a.tmps.getD 7 undef = .pointer (some ⟨g, 0, none⟩) := e7
      have g7 : a.tmps[7]?.getD undef = .pointer (some ⟨g, 0, none⟩) := by rw [← Array.getD_eq_getD_getElem?]; exact e7
      have hK := KC.out w2 hC
      refine op_val (.string s) ?_ hC (Below.refl _ _) (by intro d hd; cases hd; rfl)
      (clear hV hI hC; go_simp <;> (first | rfl | simp | (rw [IntKind.wrap_i64]; omega)))
    case o9 =>
      intro Q a w2 hC hV hI
      have e0 : a.eval (.tmp 0) = .pointer (some ⟨g, 0, none⟩) := (hI 0 (by simp [Op.operands]) (by kernel_rfl)).trans rfl
      have f0 : a.tmps.getD 0 undef = .pointer (some ⟨g, 0, none⟩) := e0
      have g0 : a.tmps[0]?.getD undef = .pointer (some ⟨g, 0, none⟩) := by rw [← Array.getD_eq_getD_getElem?]; exact e0
      refine op_val (.pointer (some ⟨g, 0, none⟩)) ?_ hC (Below.refl _ _) (by intro d hd; cases hd; rfl)
      (clear hV hI hC; go_simp <;> (first | rfl | simp | (rw [IntKind.wrap_i64]; omega)))
    case o10 =>
      intro Q a w2 hC hV hI
      have e9 : a.eval (.tmp 9) = .pointer (some ⟨g, 0, none⟩) := hV 9 (by simp [Op.operands]) (by kernel_rfl)
      have f9 : a.tmps.getD 9 undef = .pointer (some ⟨g, 0, none⟩) := e9
      have g9 : a.tmps[9]?.getD undef = .pointer (some ⟨g, 0, none⟩) := by rw [← Array.getD_eq_getD_getElem?]; exact e9
      refine op_val (.pointer (some ⟨g, 0, none⟩)) ?_ hC (Below.refl _ _) (by intro d hd; cases hd; rfl)
      (clear hV hI hC; go_simp <;> (first | rfl | simp | (rw [IntKind.wrap_i64]; omega)))
    case o11 =>
      intro Q a w2 hC hV hI
      have e10 : a.eval (.tmp 10) = .pointer (some ⟨g, 0, none⟩) := hV 10 (by simp [Op.operands]) (by kernel_rfl)
      have f10 : a.tmps.getD 10 undef = .pointer (some ⟨g, 0, none⟩) := e10
      have g10 : a.tmps[10]?.getD undef = .pointer (some ⟨g, 0, none⟩) := by rw [← Array.getD_eq_getD_getElem?]; exact e10
      refine op_val (.pointer (some ⟨g, 1, none⟩)) ?_ hC (Below.refl _ _) (by intro d hd; cases hd; rfl)
      (clear hV hI hC; go_simp <;> (first | rfl | simp | (rw [IntKind.wrap_i64]; omega)))
    case o12 =>
      intro Q a w2 hC hV hI
      have e11 : a.eval (.tmp 11) = .pointer (some ⟨g, 1, none⟩) := hV 11 (by simp [Op.operands]) (by kernel_rfl)
      have f11 : a.tmps.getD 11 undef = .pointer (some ⟨g, 1, none⟩) := e11
      have g11 : a.tmps[11]?.getD undef = .pointer (some ⟨g, 1, none⟩) := by rw [← Array.getD_eq_getD_getElem?]; exact e11
      have hK := KC.out w2 hC
      refine op_val (.int .i64 at_) ?_ hC (Below.refl _ _) (by intro d hd; cases hd; rfl)
      (clear hV hI hC; go_simp <;> (first | rfl | simp | (rw [IntKind.wrap_i64]; omega)))
    case o13 =>
      intro Q a w2 hC hV hI
      have e0 : a.eval (.tmp 0) = .pointer (some ⟨g, 0, none⟩) := (hI 0 (by simp [Op.operands]) (by kernel_rfl)).trans rfl
      have f0 : a.tmps.getD 0 undef = .pointer (some ⟨g, 0, none⟩) := e0
      have g0 : a.tmps[0]?.getD undef = .pointer (some ⟨g, 0, none⟩) := by rw [← Array.getD_eq_getD_getElem?]; exact e0
      refine op_val (.pointer (some ⟨g, 0, none⟩)) ?_ hC (Below.refl _ _) (by intro d hd; cases hd; rfl)
      (clear hV hI hC; go_simp <;> (first | rfl | simp | (rw [IntKind.wrap_i64]; omega)))
    case o14 =>
      intro Q a w2 hC hV hI
      have e13 : a.eval (.tmp 13) = .pointer (some ⟨g, 0, none⟩) := hV 13 (by simp [Op.operands]) (by kernel_rfl)
      have f13 : a.tmps.getD 13 undef = .pointer (some ⟨g, 0, none⟩) := e13
      have g13 : a.tmps[13]?.getD undef = .pointer (some ⟨g, 0, none⟩) := by rw [← Array.getD_eq_getD_getElem?]; exact e13
      refine op_val (.pointer (some ⟨g, 0, none⟩)) ?_ hC (Below.refl _ _) (by intro d hd; cases hd; rfl)
      (clear hV hI hC; go_simp <;> (first | rfl | simp | (rw [IntKind.wrap_i64]; omega)))
    case o15 =>
      intro Q a w2 hC hV hI
      have e14 : a.eval (.tmp 14) = .pointer (some ⟨g, 0, none⟩) := hV 14 (by simp [Op.operands]) (by kernel_rfl)
      have f14 : a.tmps.getD 14 undef = .pointer (some ⟨g, 0, none⟩) := e14
      have g14 : a.tmps[14]?.getD undef = .pointer (some ⟨g, 0, none⟩) := by rw [← Array.getD_eq_getD_getElem?]; exact e14
      refine op_val (.pointer (some ⟨g, 2, none⟩)) ?_ hC (Below.refl _ _) (by intro d hd; cases hd; rfl)
      (clear hV hI hC; go_simp <;> (first | rfl | simp | (rw [IntKind.wrap_i64]; omega)))
    case o16 =>
      intro Q a w2 hC hV hI
      have e15 : a.eval (.tmp 15) = .pointer (some ⟨g, 2, none⟩) := hV 15 (by simp [Op.operands]) (by kernel_rfl)
      have f15 : a.tmps.getD 15 undef = .pointer (some ⟨g, 2, none⟩) := e15
      have g15 : a.tmps[15]?.getD undef = .pointer (some ⟨g, 2, none⟩) := by rw [← Array.getD_eq_getD_getElem?]; exact e15
      have hK := KC.out w2 hC
      refine op_val (.bool hi) ?_ hC (Below.refl _ _) (by intro d hd; cases hd; rfl)
      (clear hV hI hC; go_simp <;> (first | rfl | simp | (rw [IntKind.wrap_i64]; omega)))
    case o17 =>
      intro Q a w2 hC hV hI
      have e8 : a.eval (.tmp 8) = .string s := hV 8 (by simp [Op.operands, Call.operands]) (by kernel_rfl)
      have f8 : a.tmps.getD 8 undef = .string s := e8
      have g8 : a.tmps[8]?.getD undef = .string s := by rw [← Array.getD_eq_getD_getElem?]; exact e8
      have e12 : a.eval (.tmp 12) = .int .i64 at_ := hV 12 (by simp [Op.operands, Call.operands]) (by kernel_rfl)
      have f12 : a.tmps.getD 12 undef = .int .i64 at_ := e12
      have g12 : a.tmps[12]?.getD undef = .int .i64 at_ := by rw [← Array.getD_eq_getD_getElem?]; exact e12
      have e16 : a.eval (.tmp 16) = .bool hi := hV 16 (by simp [Op.operands, Call.operands]) (by kernel_rfl)
      have f16 : a.tmps.getD 16 undef = .bool hi := e16
      have g16 : a.tmps[16]?.getD undef = .bool hi := by rw [← Array.getD_eq_getD_getElem?]; exact e16
      refine op_call (f := 146) (args := #[.string s, .int .i64 at_, .bool hi]) (R := fun v y => v = .int .i64 q ∧ Below w2.heap.size w2 y) ?_ ((HP.out w2).mono ?_) ?_
      · (clear hV hI hC; go_simp <;> (first | rfl | simp | (rw [IntKind.wrap_i64]; omega)))
      · rintro e y ⟨rfl, n9, rfl⟩; exact ⟨_, rfl, rfl, bel_drewB (Below.refl _ _)⟩
      · rintro v y ⟨rfl, hb⟩; exact ⟨hC.trans (hb.mono hC.size), hb, by intro d hd; cases hd; rfl⟩
    case o18 =>
      intro Q a w2 hC hV hI
      have e4 : a.eval (.tmp 4) = .pointer (some ⟨gh, i, none⟩) := hV 4 (by simp [Op.operands]) (by kernel_rfl)
      have f4 : a.tmps.getD 4 undef = .pointer (some ⟨gh, i, none⟩) := e4
      have g4 : a.tmps[4]?.getD undef = .pointer (some ⟨gh, i, none⟩) := by rw [← Array.getD_eq_getD_getElem?]; exact e4
      refine op_val (.pointer (some ⟨gh, i, none⟩)) ?_ hC (Below.refl _ _) (by intro d hd; cases hd; rfl)
      (clear hV hI hC; go_simp <;> (first | rfl | simp | (rw [IntKind.wrap_i64]; omega)))
  case hend =>
    intro f w2 hC hall
    simp only [List.take_succ_cons, List.take_zero, List.drop_succ_cons, List.drop_zero] at hall ⊢
    simp only [List.forall_mem_cons] at hall
    obtain ⟨h4, h5, h6, h7, h8, h9, h10, h11, h12, h13, h14, h15, h16, h17, h18, _⟩ := hall
    replace h4 : f 4 = .pointer (some ⟨gh, i, none⟩) := h4 4 rfl
    replace h5 : f 5 = .pointer (some ⟨g, 0, none⟩) := h5 5 rfl
    replace h6 : f 6 = .pointer (some ⟨g, 0, none⟩) := h6 6 rfl
    replace h7 : f 7 = .pointer (some ⟨g, 0, none⟩) := h7 7 rfl
    replace h8 : f 8 = .string s := h8 8 rfl
    replace h9 : f 9 = .pointer (some ⟨g, 0, none⟩) := h9 9 rfl
    replace h10 : f 10 = .pointer (some ⟨g, 0, none⟩) := h10 10 rfl
    replace h11 : f 11 = .pointer (some ⟨g, 1, none⟩) := h11 11 rfl
    replace h12 : f 12 = .int .i64 at_ := h12 12 rfl
    replace h13 : f 13 = .pointer (some ⟨g, 0, none⟩) := h13 13 rfl
    replace h14 : f 14 = .pointer (some ⟨g, 0, none⟩) := h14 14 rfl
    replace h15 : f 15 = .pointer (some ⟨g, 2, none⟩) := h15 15 rfl
    replace h16 : f 16 = .bool hi := h16 16 rfl
    replace h17 : f 17 = .int .i64 q := h17 17 rfl
    replace h18 : f 18 = .pointer (some ⟨gh, i, none⟩) := h18 18 rfl
    simp only [putAll, Act.put, List.setIfInBounds_toArray, List.set_cons_succ, List.set_cons_zero, h4, h5, h6, h7, h8, h9, h10, h11, h12, h13, h14, h15, h16, h17, h18]
    clear h4 h5 h6 h7 h8 h9 h10 h11 h12 h13 h14 h15 h16 h17 h18
    have R2 := Lib.hid ((hC.block g hlt).trans R.out)
    have H2 := Lib.hid ((hC.block gh hgl).trans HH.out)
    have cx : w2.cell? ⟨gh, i, none⟩ = some (.int .i64 x9) := by simp [World.cell?, H2.out, hone]
    have fx : w2.frozen? ⟨gh, i, none⟩ = false := by simp [World.frozen?, H2.out]
    have B2 := Lib.hid hC
    clear KC HP hC R HH
    go_upto_region 1 with fail
    generalize hw3 : World.setCell w2 _ _ = w3
    have R3 : Hid (w3.heap[g]? = some (.cells #[.string s, .int .i64 at_, .bool hi] 89 (0, 0))) := Lib.hid (by rw [← hw3, Below.heap_setCell _ _ _ _ (by simp; omega)]; exact R2.out)
    have H3 : Hid (w3.heap[gh]? = some (.cells (cs.setIfInBounds i (.int .i64 q)) T (0, 0))) := Lib.hid (by rw [← hw3]; exact heap_setRB H2.out)
    have B3 : Hid (∀ B, B ≤ g → B ≤ gh → Below B w w3) := Lib.hid (fun B hB hB2 => by rw [← hw3]; exact (B2.out.mono (by omega)).setCell hB2 _)
    clear hw3 cx fx R2 H2 B2
    have c1 : w3.cell? ⟨g, 1, none⟩ = some (.int .i64 at_) := by simp [World.cell?, R3.out]
    have f1 : w3.frozen? ⟨g, 1, none⟩ = false := by simp [World.frozen?, R3.out]
    go_wp2_with fail
    refine bodyPost_end (results_none rfl _ _ _) rfl ?_
    have hg9 := heap_setRB (i := 1) (v := .int .i64 (at_ + 4)) R3.out
    simp only [List.setIfInBounds_toArray, List.set_cons_succ, List.set_cons_zero] at hg9
    refine ⟨rfl, hg9, ?_, fun B hB hB2 => (B3.out B hB hB2).setCell hB _⟩
    rw [Below.heap_setCell _ _ _ _ (by simp; omega)]
    exact H3.out
set_option maxRecDepth 8000 in
theorem made_r (g : Nat) (s : ByteArray) (at_ : Int) (hi : Bool) (w : World) (h : RdO w g s at_ hi) :
    Calls Tryz.prog 144 #[.pointer (some ⟨g, 0, none⟩)] w fun e w' => e = .returned (.int .i64 at_) ∧ w' = w := by
  have c1 : w.cell? ⟨g, 1, none⟩ = some (.int .i64 at_) := by simp [World.cell?, show w.heap[g]? = _ from h]
  clear h
  go_enter Tryz.func144, Tryz.ntmps144
  go_wp2_with fail
  go_ret
  exact ⟨rfl, rfl⟩
end Go.Proofs.YtancidbbkoeokaaGreat

/- The numbers of a head set by the reader: impl.passHead[int]. -/
namespace Go.Proofs.YtancidbbkoeokaaGreat
open Go.ChangeShapes Go.WideShapes Go.ChangeAt Go.RowKit Go.Deep

theorem RdO.below {w w' : World} {g : Nat} {s : ByteArray} {a : Int} {hi : Bool} (h : RdO w g s a hi) (hb : Below w.heap.size w w') : RdO w' g s a hi := (hb.block g (Array.getElem?_eq_some_iff.1 h).1).trans h
theorem RdO.lt {w : World} {g : Nat} {s : ByteArray} {a : Int} {hi : Bool} (h : RdO w g s a hi) : g < w.heap.size := (Array.getElem?_eq_some_iff.1 h).1
set_option maxHeartbeats 6400000 in
set_option maxRecDepth 8000 in
theorem pass_r (g gh j : Nat) (s : ByteArray) (hi : Bool) (T : TypeId) (w : World) (hs : s.size ≤ 1048576) (hj : j + 26 ≤ s.size) (hg : RdO w g s (j : Int) hi) (hh : w.heap[gh]? = some (.cells #[.int .i64 0, .int .i64 0, .int .i64 0, .int .i64 0, .int .i64 0, .int .i64 0, .string ⟨#[]⟩, .string ⟨#[]⟩, .int .i64 0, .int .i64 0, .int .i64 0, .int .i64 0, .int .i64 0] T (0, 0))) (hgh : gh < g) :
    Calls Tryz.prog 64 #[.pointer (some ⟨gh, 0, none⟩), .iface 87 (.pointer (some ⟨g, 0, none⟩))] w fun e w' => e = .returned (.int .i64 ((j + 26 : Nat) : Int)) ∧ w'.heap[gh]? = some (.cells #[.int .i64 (bW s j hi 2), .int .i64 (bW s j hi 3), .int .i64 (bW s j hi 4), .int .i64 (bW s j hi 5), .int .i64 (bW s j hi 6), .int .i64 (bT s j hi), .string ⟨#[]⟩, .string ⟨#[]⟩, .int .i64 (bW s j hi 0), .int .i64 (bW s j hi 1), .int .i64 (bW s j hi 7), .int .i64 (bW s j hi 10), .int .i64 (get32v s ((j + 22 : Nat) : Int) hi)] T (0, 0)) ∧ Below gh w w' := by
  have HW0 := Lib.hid hg
  have HH0 := Lib.hid hh
  have B0 : Hid (Below gh w w) := Lib.hid (Below.refl _ _)
  clear hg hh
  obtain ⟨x1, hx1⟩ : ∃ x : Int, x = get16v s ((j + 0 : Nat) : Int) hi := ⟨_, rfl⟩
  obtain ⟨x2, hx2⟩ : ∃ x : Int, x = get16v s ((j + 2 : Nat) : Int) hi := ⟨_, rfl⟩
  obtain ⟨x3, hx3⟩ : ∃ x : Int, x = get16v s ((j + 4 : Nat) : Int) hi := ⟨_, rfl⟩
  obtain ⟨x4, hx4⟩ : ∃ x : Int, x = get16v s ((j + 6 : Nat) : Int) hi := ⟨_, rfl⟩
  obtain ⟨x5, hx5⟩ : ∃ x : Int, x = get16v s ((j + 8 : Nat) : Int) hi := ⟨_, rfl⟩
  obtain ⟨x6, hx6⟩ : ∃ x : Int, x = get16v s ((j + 10 : Nat) : Int) hi := ⟨_, rfl⟩
  obtain ⟨x7, hx7⟩ : ∃ x : Int, x = get16v s ((j + 12 : Nat) : Int) hi := ⟨_, rfl⟩
  obtain ⟨x8, hx8⟩ : ∃ x : Int, x = get16v s ((j + 14 : Nat) : Int) hi := ⟨_, rfl⟩
  obtain ⟨x9, hx9⟩ : ∃ x : Int, x = get32v s ((j + 16 : Nat) : Int) hi := ⟨_, rfl⟩
  obtain ⟨x10, hx10⟩ : ∃ x : Int, x = get16v s ((j + 20 : Nat) : Int) hi := ⟨_, rfl⟩
  obtain ⟨x11, hx11⟩ : ∃ x : Int, x = get32v s ((j + 22 : Nat) : Int) hi := ⟨_, rfl⟩
  rw [show bW s j hi 2 = x3 from hx3.symm, show bW s j hi 3 = x4 from hx4.symm, show bW s j hi 4 = x5 from hx5.symm, show bW s j hi 5 = x6 from hx6.symm, show bW s j hi 6 = x7 from hx7.symm, show bT s j hi = x9 from hx9.symm, show bW s j hi 0 = x1 from hx1.symm, show bW s j hi 1 = x2 from hx2.symm, show bW s j hi 7 = x8 from hx8.symm, show bW s j hi 10 = x10 from hx10.symm, ← hx11]
  have X1 := Lib.hid hx1
  have X2 := Lib.hid hx2
  have X3 := Lib.hid hx3
  have X4 := Lib.hid hx4
  have X5 := Lib.hid hx5
  have X6 := Lib.hid hx6
  have X7 := Lib.hid hx7
  have X8 := Lib.hid hx8
  have X9 := Lib.hid hx9
  have X10 := Lib.hid hx10
  have X11 := Lib.hid hx11
  clear hx1 hx2 hx3 hx4 hx5 hx6 hx7 hx8 hx9 hx10 hx11
  go_enter Tryz.func64, Tryz.ntmps64
  obtain ⟨w0, hw0⟩ : ∃ w0, w0 = w := ⟨_, rfl⟩
  rw [← hw0] at HW0 HH0 ⊢
  replace B0 : Hid (Below gh w0 w0) := Lib.hid (Below.refl _ _)
  clear hw0
  go_upto_region 1 with fail
  refine wp_region_cut 7 (by kernel_rfl) (fun w' => Below w0.heap.size w0 w') (fun x y => Below x.heap.size x y) (fun dq vq _ => match dq with | 5 => vq = .iface 87 (.pointer (some ⟨g, 0, none⟩)) | 6 => vq = .pointer (some ⟨gh, 0, none⟩) | 7 => vq = .pointer (some ⟨gh, 0, none⟩) | 8 => vq = .pointer (some ⟨gh, 8, none⟩) | 9 => vq = .func (.method "loop.example/g00413/impl.short") #[.iface 87 (.pointer (some ⟨g, 0, none⟩))] #[] | 10 => vq = .func (.method "loop.example/g00413/impl.short") #[.iface 87 (.pointer (some ⟨g, 0, none⟩))] #[] | 11 => vq = .iface 87 (.pointer (some ⟨g, 0, none⟩)) | _ => True) (by kernel_rfl) (by kernel_rfl) ((Below.refl _ _).drew) (fun _ _ _ _ _ _ h => h) (by simp) ?hops ?hend
  case hops =>
    simp only [List.take_succ_cons, List.take_zero, List.forall_mem_cons]
    refine ⟨?o5, ?o6, ?o7, ?o8, ?o9, ?o10, ?o11, fun _ h => by cases h⟩
    case o5 =>
      intro Q a w2 hC hV hI
      have e1 : a.eval (.tmp 1) = .iface 87 (.pointer (some ⟨g, 0, none⟩)) := (hI 1 (by simp [Op.operands]) (by kernel_rfl)).trans rfl
      have f1 : a.tmps.getD 1 undef = .iface 87 (.pointer (some ⟨g, 0, none⟩)) := e1
      have g1 : a.tmps[1]?.getD undef = .iface 87 (.pointer (some ⟨g, 0, none⟩)) := by rw [← Array.getD_eq_getD_getElem?]; exact e1
      refine op_val (.iface 87 (.pointer (some ⟨g, 0, none⟩))) ?_ hC (Below.refl _ _) (by intro d hd; cases hd; rfl)
      (clear hV hI hC; go_simp <;> (first | rfl | simp | (rw [IntKind.wrap_i64]; omega)))
    case o6 =>
      intro Q a w2 hC hV hI
      have e0 : a.eval (.tmp 0) = .pointer (some ⟨gh, 0, none⟩) := (hI 0 (by simp [Op.operands]) (by kernel_rfl)).trans rfl
      have f0 : a.tmps.getD 0 undef = .pointer (some ⟨gh, 0, none⟩) := e0
      have g0 : a.tmps[0]?.getD undef = .pointer (some ⟨gh, 0, none⟩) := by rw [← Array.getD_eq_getD_getElem?]; exact e0
      refine op_val (.pointer (some ⟨gh, 0, none⟩)) ?_ hC (Below.refl _ _) (by intro d hd; cases hd; rfl)
      (clear hV hI hC; go_simp <;> (first | rfl | simp | (rw [IntKind.wrap_i64]; omega)))
    case o7 =>
      intro Q a w2 hC hV hI
      have e6 : a.eval (.tmp 6) = .pointer (some ⟨gh, 0, none⟩) := hV 6 (by simp [Op.operands]) (by kernel_rfl)
      have f6 : a.tmps.getD 6 undef = .pointer (some ⟨gh, 0, none⟩) := e6
      have g6 : a.tmps[6]?.getD undef = .pointer (some ⟨gh, 0, none⟩) := by rw [← Array.getD_eq_getD_getElem?]; exact e6
      refine op_val (.pointer (some ⟨gh, 0, none⟩)) ?_ hC (Below.refl _ _) (by intro d hd; cases hd; rfl)
      (clear hV hI hC; go_simp <;> (first | rfl | simp | (rw [IntKind.wrap_i64]; omega)))
    case o8 =>
      intro Q a w2 hC hV hI
      have e7 : a.eval (.tmp 7) = .pointer (some ⟨gh, 0, none⟩) := hV 7 (by simp [Op.operands]) (by kernel_rfl)
      have f7 : a.tmps.getD 7 undef = .pointer (some ⟨gh, 0, none⟩) := e7
      have g7 : a.tmps[7]?.getD undef = .pointer (some ⟨gh, 0, none⟩) := by rw [← Array.getD_eq_getD_getElem?]; exact e7
      refine op_val (.pointer (some ⟨gh, 8, none⟩)) ?_ hC (Below.refl _ _) (by intro d hd; cases hd; rfl)
      (clear hV hI hC; go_simp <;> (first | rfl | simp | (rw [IntKind.wrap_i64]; omega)))
    case o9 =>
      intro Q a w2 hC hV hI
      have e5 : a.eval (.tmp 5) = .iface 87 (.pointer (some ⟨g, 0, none⟩)) := hV 5 (by simp [Op.operands]) (by kernel_rfl)
      have f5 : a.tmps.getD 5 undef = .iface 87 (.pointer (some ⟨g, 0, none⟩)) := e5
      have g5 : a.tmps[5]?.getD undef = .iface 87 (.pointer (some ⟨g, 0, none⟩)) := by rw [← Array.getD_eq_getD_getElem?]; exact e5
      refine op_val (.func (.method "loop.example/g00413/impl.short") #[.iface 87 (.pointer (some ⟨g, 0, none⟩))] #[]) ?_ hC (Below.refl _ _) (by intro d hd; cases hd; rfl)
      (clear hV hI hC; go_simp <;> (first | rfl | simp | (rw [IntKind.wrap_i64]; omega)))
    case o10 =>
      intro Q a w2 hC hV hI
      have e9 : a.eval (.tmp 9) = .func (.method "loop.example/g00413/impl.short") #[.iface 87 (.pointer (some ⟨g, 0, none⟩))] #[] := hV 9 (by simp [Op.operands]) (by kernel_rfl)
      have f9 : a.tmps.getD 9 undef = .func (.method "loop.example/g00413/impl.short") #[.iface 87 (.pointer (some ⟨g, 0, none⟩))] #[] := e9
      have g9 : a.tmps[9]?.getD undef = .func (.method "loop.example/g00413/impl.short") #[.iface 87 (.pointer (some ⟨g, 0, none⟩))] #[] := by rw [← Array.getD_eq_getD_getElem?]; exact e9
      refine op_val (.func (.method "loop.example/g00413/impl.short") #[.iface 87 (.pointer (some ⟨g, 0, none⟩))] #[]) ?_ hC (Below.refl _ _) (by intro d hd; cases hd; rfl)
      (clear hV hI hC; go_simp <;> (first | rfl | simp | (rw [IntKind.wrap_i64]; omega)))
    case o11 =>
      intro Q a w2 hC hV hI
      have e5 : a.eval (.tmp 5) = .iface 87 (.pointer (some ⟨g, 0, none⟩)) := hV 5 (by simp [Op.operands]) (by kernel_rfl)
      have f5 : a.tmps.getD 5 undef = .iface 87 (.pointer (some ⟨g, 0, none⟩)) := e5
      have g5 : a.tmps[5]?.getD undef = .iface 87 (.pointer (some ⟨g, 0, none⟩)) := by rw [← Array.getD_eq_getD_getElem?]; exact e5
      refine op_val (.iface 87 (.pointer (some ⟨g, 0, none⟩))) ?_ hC (Below.refl _ _) (by intro d hd; cases hd; rfl)
      (clear hV hI hC; go_simp <;> (first | rfl | simp | (rw [IntKind.wrap_i64]; omega)))
  case hend =>
    intro f v1 hC hall
    simp only [List.take_succ_cons, List.take_zero, List.drop_succ_cons, List.drop_zero] at hall ⊢
    simp only [List.forall_mem_cons] at hall
    obtain ⟨h5, h6, h7, h8, h9, h10, h11, _⟩ := hall
    replace h5 : f 5 = .iface 87 (.pointer (some ⟨g, 0, none⟩)) := h5 5 rfl
    replace h6 : f 6 = .pointer (some ⟨gh, 0, none⟩) := h6 6 rfl
    replace h7 : f 7 = .pointer (some ⟨gh, 0, none⟩) := h7 7 rfl
    replace h8 : f 8 = .pointer (some ⟨gh, 8, none⟩) := h8 8 rfl
    replace h9 : f 9 = .func (.method "loop.example/g00413/impl.short") #[.iface 87 (.pointer (some ⟨g, 0, none⟩))] #[] := h9 9 rfl
    replace h10 : f 10 = .func (.method "loop.example/g00413/impl.short") #[.iface 87 (.pointer (some ⟨g, 0, none⟩))] #[] := h10 10 rfl
    replace h11 : f 11 = .iface 87 (.pointer (some ⟨g, 0, none⟩)) := h11 11 rfl
    simp only [putAll, Act.put, List.setIfInBounds_toArray, List.set_cons_succ, List.set_cons_zero, h5, h6, h7, h8, h9, h10, h11]
    clear h5 h6 h7 h8 h9 h10 h11
    have W1 := Lib.hid (HW0.out.below hC)
    have H1 := Lib.hid ((hC.block gh (by have := HW0.out.lt; omega)).trans HH0.out)
    have C1 := Lib.hid (B0.out.trans (hC.mono (by have := HW0.out.lt; omega)))
    clear hC HW0 HH0 B0
    have q1 := Lib.hid (short_r g gh 8 s (j : Int) hi #[.int .i64 0, .int .i64 0, .int .i64 0, .int .i64 0, .int .i64 0, .int .i64 0, .string ⟨#[]⟩, .string ⟨#[]⟩, .int .i64 0, .int .i64 0, .int .i64 0, .int .i64 0, .int .i64 0] T v1 hs (by omega) W1.out H1.out (by omega) ⟨_, rfl⟩)
    go_wp2_with fail
    refine q1.out.mono ?_
    rintro e w1 ⟨rfl, hw, hh, hb⟩
    rw [show ((j : Int) + 2) = ((j + 2 : Nat) : Int) from by omega] at hw
    simp only [List.setIfInBounds_toArray, List.set_cons_succ, List.set_cons_zero] at hh
    rw [show get16v s (j : Int) hi = x1 from X1.out.symm] at hh
    have HW1 : Hid (RdO w1 g s ((j + 2 : Nat) : Int) hi) := Lib.hid hw
    have HH1 : Hid (w1.heap[gh]? = some (.cells #[.int .i64 0, .int .i64 0, .int .i64 0, .int .i64 0, .int .i64 0, .int .i64 0, .string ⟨#[]⟩, .string ⟨#[]⟩, .int .i64 x1, .int .i64 0, .int .i64 0, .int .i64 0, .int .i64 0] T (0, 0))) := Lib.hid hh
    have B1 := Lib.hid (C1.out.trans (hb gh (by omega) (Nat.le_refl _)))
    clear hw hh hb H1 W1 C1 q1 X1
    go_upto_region 2 with fail
    refine wp_region_cut 8 (by kernel_rfl) (fun w' => Below w1.heap.size w1 w') (fun x y => Below x.heap.size x y) (fun dq vq _ => match dq with | 13 => vq = .iface 87 (.pointer (some ⟨g, 0, none⟩)) | 14 => vq = .pointer (some ⟨gh, 0, none⟩) | 15 => vq = .pointer (some ⟨gh, 0, none⟩) | 16 => vq = .pointer (some ⟨gh, 9, none⟩) | 17 => vq = .pointer (some ⟨gh, 9, none⟩) | 18 => vq = .func (.method "loop.example/g00413/impl.short") #[.iface 87 (.pointer (some ⟨g, 0, none⟩))] #[] | 19 => vq = .func (.method "loop.example/g00413/impl.short") #[.iface 87 (.pointer (some ⟨g, 0, none⟩))] #[] | 20 => vq = .iface 87 (.pointer (some ⟨g, 0, none⟩)) | _ => True) (by kernel_rfl) (by kernel_rfl) ((Below.refl _ _).drew) (fun _ _ _ _ _ _ h => h) (by simp) ?hops ?hend
    case hops =>
      simp only [List.take_succ_cons, List.take_zero, List.forall_mem_cons]
      refine ⟨?o13, ?o14, ?o15, ?o16, ?o17, ?o18, ?o19, ?o20, fun _ h => by cases h⟩
      case o13 =>
        intro Q a w2 hC hV hI
        have e1 : a.eval (.tmp 1) = .iface 87 (.pointer (some ⟨g, 0, none⟩)) := (hI 1 (by simp [Op.operands]) (by kernel_rfl)).trans rfl
        have f1 : a.tmps.getD 1 undef = .iface 87 (.pointer (some ⟨g, 0, none⟩)) := e1
        have g1 : a.tmps[1]?.getD undef = .iface 87 (.pointer (some ⟨g, 0, none⟩)) := by rw [← Array.getD_eq_getD_getElem?]; exact e1
        refine op_val (.iface 87 (.pointer (some ⟨g, 0, none⟩))) ?_ hC (Below.refl _ _) (by intro d hd; cases hd; rfl)
        (clear hV hI hC; go_simp <;> (first | rfl | simp | (rw [IntKind.wrap_i64]; omega)))
      case o14 =>
        intro Q a w2 hC hV hI
        have e0 : a.eval (.tmp 0) = .pointer (some ⟨gh, 0, none⟩) := (hI 0 (by simp [Op.operands]) (by kernel_rfl)).trans rfl
        have f0 : a.tmps.getD 0 undef = .pointer (some ⟨gh, 0, none⟩) := e0
        have g0 : a.tmps[0]?.getD undef = .pointer (some ⟨gh, 0, none⟩) := by rw [← Array.getD_eq_getD_getElem?]; exact e0
        refine op_val (.pointer (some ⟨gh, 0, none⟩)) ?_ hC (Below.refl _ _) (by intro d hd; cases hd; rfl)
        (clear hV hI hC; go_simp <;> (first | rfl | simp | (rw [IntKind.wrap_i64]; omega)))
      case o15 =>
        intro Q a w2 hC hV hI
        have e14 : a.eval (.tmp 14) = .pointer (some ⟨gh, 0, none⟩) := hV 14 (by simp [Op.operands]) (by kernel_rfl)
        have f14 : a.tmps.getD 14 undef = .pointer (some ⟨gh, 0, none⟩) := e14
        have g14 : a.tmps[14]?.getD undef = .pointer (some ⟨gh, 0, none⟩) := by rw [← Array.getD_eq_getD_getElem?]; exact e14
        refine op_val (.pointer (some ⟨gh, 0, none⟩)) ?_ hC (Below.refl _ _) (by intro d hd; cases hd; rfl)
        (clear hV hI hC; go_simp <;> (first | rfl | simp | (rw [IntKind.wrap_i64]; omega)))
      case o16 =>
        intro Q a w2 hC hV hI
        have e15 : a.eval (.tmp 15) = .pointer (some ⟨gh, 0, none⟩) := hV 15 (by simp [Op.operands]) (by kernel_rfl)
        have f15 : a.tmps.getD 15 undef = .pointer (some ⟨gh, 0, none⟩) := e15
        have g15 : a.tmps[15]?.getD undef = .pointer (some ⟨gh, 0, none⟩) := by rw [← Array.getD_eq_getD_getElem?]; exact e15
        refine op_val (.pointer (some ⟨gh, 9, none⟩)) ?_ hC (Below.refl _ _) (by intro d hd; cases hd; rfl)
        (clear hV hI hC; go_simp <;> (first | rfl | simp | (rw [IntKind.wrap_i64]; omega)))
      case o17 =>
        intro Q a w2 hC hV hI
        have e16 : a.eval (.tmp 16) = .pointer (some ⟨gh, 9, none⟩) := hV 16 (by simp [Op.operands]) (by kernel_rfl)
        have f16 : a.tmps.getD 16 undef = .pointer (some ⟨gh, 9, none⟩) := e16
        have g16 : a.tmps[16]?.getD undef = .pointer (some ⟨gh, 9, none⟩) := by rw [← Array.getD_eq_getD_getElem?]; exact e16
        refine op_val (.pointer (some ⟨gh, 9, none⟩)) ?_ hC (Below.refl _ _) (by intro d hd; cases hd; rfl)
        (clear hV hI hC; go_simp <;> (first | rfl | simp | (rw [IntKind.wrap_i64]; omega)))
      case o18 =>
        intro Q a w2 hC hV hI
        have e13 : a.eval (.tmp 13) = .iface 87 (.pointer (some ⟨g, 0, none⟩)) := hV 13 (by simp [Op.operands]) (by kernel_rfl)
        have f13 : a.tmps.getD 13 undef = .iface 87 (.pointer (some ⟨g, 0, none⟩)) := e13
        have g13 : a.tmps[13]?.getD undef = .iface 87 (.pointer (some ⟨g, 0, none⟩)) := by rw [← Array.getD_eq_getD_getElem?]; exact e13
        refine op_val (.func (.method "loop.example/g00413/impl.short") #[.iface 87 (.pointer (some ⟨g, 0, none⟩))] #[]) ?_ hC (Below.refl _ _) (by intro d hd; cases hd; rfl)
        (clear hV hI hC; go_simp <;> (first | rfl | simp | (rw [IntKind.wrap_i64]; omega)))
      case o19 =>
        intro Q a w2 hC hV hI
        have e18 : a.eval (.tmp 18) = .func (.method "loop.example/g00413/impl.short") #[.iface 87 (.pointer (some ⟨g, 0, none⟩))] #[] := hV 18 (by simp [Op.operands]) (by kernel_rfl)
        have f18 : a.tmps.getD 18 undef = .func (.method "loop.example/g00413/impl.short") #[.iface 87 (.pointer (some ⟨g, 0, none⟩))] #[] := e18
        have g18 : a.tmps[18]?.getD undef = .func (.method "loop.example/g00413/impl.short") #[.iface 87 (.pointer (some ⟨g, 0, none⟩))] #[] := by rw [← Array.getD_eq_getD_getElem?]; exact e18
        refine op_val (.func (.method "loop.example/g00413/impl.short") #[.iface 87 (.pointer (some ⟨g, 0, none⟩))] #[]) ?_ hC (Below.refl _ _) (by intro d hd; cases hd; rfl)
        (clear hV hI hC; go_simp <;> (first | rfl | simp | (rw [IntKind.wrap_i64]; omega)))
      case o20 =>
        intro Q a w2 hC hV hI
        have e13 : a.eval (.tmp 13) = .iface 87 (.pointer (some ⟨g, 0, none⟩)) := hV 13 (by simp [Op.operands]) (by kernel_rfl)
        have f13 : a.tmps.getD 13 undef = .iface 87 (.pointer (some ⟨g, 0, none⟩)) := e13
        have g13 : a.tmps[13]?.getD undef = .iface 87 (.pointer (some ⟨g, 0, none⟩)) := by rw [← Array.getD_eq_getD_getElem?]; exact e13
        refine op_val (.iface 87 (.pointer (some ⟨g, 0, none⟩))) ?_ hC (Below.refl _ _) (by intro d hd; cases hd; rfl)
        (clear hV hI hC; go_simp <;> (first | rfl | simp | (rw [IntKind.wrap_i64]; omega)))
    case hend =>
      intro f v2 hC hall
      simp only [List.take_succ_cons, List.take_zero, List.drop_succ_cons, List.drop_zero] at hall ⊢
      simp only [List.forall_mem_cons] at hall
      obtain ⟨h13, h14, h15, h16, h17, h18, h19, h20, _⟩ := hall
      replace h13 : f 13 = .iface 87 (.pointer (some ⟨g, 0, none⟩)) := h13 13 rfl
      replace h14 : f 14 = .pointer (some ⟨gh, 0, none⟩) := h14 14 rfl
      replace h15 : f 15 = .pointer (some ⟨gh, 0, none⟩) := h15 15 rfl
      replace h16 : f 16 = .pointer (some ⟨gh, 9, none⟩) := h16 16 rfl
      replace h17 : f 17 = .pointer (some ⟨gh, 9, none⟩) := h17 17 rfl
      replace h18 : f 18 = .func (.method "loop.example/g00413/impl.short") #[.iface 87 (.pointer (some ⟨g, 0, none⟩))] #[] := h18 18 rfl
      replace h19 : f 19 = .func (.method "loop.example/g00413/impl.short") #[.iface 87 (.pointer (some ⟨g, 0, none⟩))] #[] := h19 19 rfl
      replace h20 : f 20 = .iface 87 (.pointer (some ⟨g, 0, none⟩)) := h20 20 rfl
      simp only [putAll, Act.put, List.setIfInBounds_toArray, List.set_cons_succ, List.set_cons_zero, h13, h14, h15, h16, h17, h18, h19, h20]
      clear h13 h14 h15 h16 h17 h18 h19 h20
      have W2 := Lib.hid (HW1.out.below hC)
      have H2 := Lib.hid ((hC.block gh (by have := HW1.out.lt; omega)).trans HH1.out)
      have C2 := Lib.hid (B1.out.trans (hC.mono (by have := HW1.out.lt; omega)))
      clear hC HW1 HH1 B1
      have q2 := Lib.hid (short_r g gh 9 s ((j + 2 : Nat) : Int) hi #[.int .i64 0, .int .i64 0, .int .i64 0, .int .i64 0, .int .i64 0, .int .i64 0, .string ⟨#[]⟩, .string ⟨#[]⟩, .int .i64 x1, .int .i64 0, .int .i64 0, .int .i64 0, .int .i64 0] T v2 hs (by omega) W2.out H2.out (by omega) ⟨_, rfl⟩)
      go_wp2_with fail
      refine q2.out.mono ?_
      rintro e w2 ⟨rfl, hw, hh, hb⟩
      rw [show (((j + 2 : Nat) : Int) + 2) = ((j + 4 : Nat) : Int) from by omega] at hw
      simp only [List.setIfInBounds_toArray, List.set_cons_succ, List.set_cons_zero] at hh
      rw [← X2.out] at hh
      have HW2 : Hid (RdO w2 g s ((j + 4 : Nat) : Int) hi) := Lib.hid hw
      have HH2 : Hid (w2.heap[gh]? = some (.cells #[.int .i64 0, .int .i64 0, .int .i64 0, .int .i64 0, .int .i64 0, .int .i64 0, .string ⟨#[]⟩, .string ⟨#[]⟩, .int .i64 x1, .int .i64 x2, .int .i64 0, .int .i64 0, .int .i64 0] T (0, 0))) := Lib.hid hh
      have B2 := Lib.hid (C2.out.trans (hb gh (by omega) (Nat.le_refl _)))
      clear hw hh hb H2 W2 C2 q2 X2
      go_upto_region 3 with fail
      refine wp_region_cut 8 (by kernel_rfl) (fun w' => Below w2.heap.size w2 w') (fun x y => Below x.heap.size x y) (fun dq vq _ => match dq with | 22 => vq = .iface 87 (.pointer (some ⟨g, 0, none⟩)) | 23 => vq = .pointer (some ⟨gh, 0, none⟩) | 24 => vq = .pointer (some ⟨gh, 0, none⟩) | 25 => vq = .pointer (some ⟨gh, 0, none⟩) | 26 => vq = .pointer (some ⟨gh, 0, none⟩) | 27 => vq = .func (.method "loop.example/g00413/impl.short") #[.iface 87 (.pointer (some ⟨g, 0, none⟩))] #[] | 28 => vq = .func (.method "loop.example/g00413/impl.short") #[.iface 87 (.pointer (some ⟨g, 0, none⟩))] #[] | 29 => vq = .iface 87 (.pointer (some ⟨g, 0, none⟩)) | _ => True) (by kernel_rfl) (by kernel_rfl) ((Below.refl _ _).drew) (fun _ _ _ _ _ _ h => h) (by simp) ?hops ?hend
      case hops =>
        simp only [List.take_succ_cons, List.take_zero, List.forall_mem_cons]
        refine ⟨?o22, ?o23, ?o24, ?o25, ?o26, ?o27, ?o28, ?o29, fun _ h => by cases h⟩
        case o22 =>
          intro Q a w2 hC hV hI
          have e1 : a.eval (.tmp 1) = .iface 87 (.pointer (some ⟨g, 0, none⟩)) := (hI 1 (by simp [Op.operands]) (by kernel_rfl)).trans rfl
          have f1 : a.tmps.getD 1 undef = .iface 87 (.pointer (some ⟨g, 0, none⟩)) := e1
          have g1 : a.tmps[1]?.getD undef = .iface 87 (.pointer (some ⟨g, 0, none⟩)) := by rw [← Array.getD_eq_getD_getElem?]; exact e1
          refine op_val (.iface 87 (.pointer (some ⟨g, 0, none⟩))) ?_ hC (Below.refl _ _) (by intro d hd; cases hd; rfl)
          (clear hV hI hC; go_simp <;> (first | rfl | simp | (rw [IntKind.wrap_i64]; omega)))
        case o23 =>
          intro Q a w2 hC hV hI
          have e0 : a.eval (.tmp 0) = .pointer (some ⟨gh, 0, none⟩) := (hI 0 (by simp [Op.operands]) (by kernel_rfl)).trans rfl
          have f0 : a.tmps.getD 0 undef = .pointer (some ⟨gh, 0, none⟩) := e0
          have g0 : a.tmps[0]?.getD undef = .pointer (some ⟨gh, 0, none⟩) := by rw [← Array.getD_eq_getD_getElem?]; exact e0
          refine op_val (.pointer (some ⟨gh, 0, none⟩)) ?_ hC (Below.refl _ _) (by intro d hd; cases hd; rfl)
          (clear hV hI hC; go_simp <;> (first | rfl | simp | (rw [IntKind.wrap_i64]; omega)))
        case o24 =>
          intro Q a w2 hC hV hI
          have e23 : a.eval (.tmp 23) = .pointer (some ⟨gh, 0, none⟩) := hV 23 (by simp [Op.operands]) (by kernel_rfl)
          have f23 : a.tmps.getD 23 undef = .pointer (some ⟨gh, 0, none⟩) := e23
          have g23 : a.tmps[23]?.getD undef = .pointer (some ⟨gh, 0, none⟩) := by rw [← Array.getD_eq_getD_getElem?]; exact e23
          refine op_val (.pointer (some ⟨gh, 0, none⟩)) ?_ hC (Below.refl _ _) (by intro d hd; cases hd; rfl)
          (clear hV hI hC; go_simp <;> (first | rfl | simp | (rw [IntKind.wrap_i64]; omega)))
        case o25 =>
          intro Q a w2 hC hV hI
          have e24 : a.eval (.tmp 24) = .pointer (some ⟨gh, 0, none⟩) := hV 24 (by simp [Op.operands]) (by kernel_rfl)
          have f24 : a.tmps.getD 24 undef = .pointer (some ⟨gh, 0, none⟩) := e24
          have g24 : a.tmps[24]?.getD undef = .pointer (some ⟨gh, 0, none⟩) := by rw [← Array.getD_eq_getD_getElem?]; exact e24
          refine op_val (.pointer (some ⟨gh, 0, none⟩)) ?_ hC (Below.refl _ _) (by intro d hd; cases hd; rfl)
          (clear hV hI hC; go_simp <;> (first | rfl | simp | (rw [IntKind.wrap_i64]; omega)))
        case o26 =>
          intro Q a w2 hC hV hI
          have e25 : a.eval (.tmp 25) = .pointer (some ⟨gh, 0, none⟩) := hV 25 (by simp [Op.operands]) (by kernel_rfl)
          have f25 : a.tmps.getD 25 undef = .pointer (some ⟨gh, 0, none⟩) := e25
          have g25 : a.tmps[25]?.getD undef = .pointer (some ⟨gh, 0, none⟩) := by rw [← Array.getD_eq_getD_getElem?]; exact e25
          refine op_val (.pointer (some ⟨gh, 0, none⟩)) ?_ hC (Below.refl _ _) (by intro d hd; cases hd; rfl)
          (clear hV hI hC; go_simp <;> (first | rfl | simp | (rw [IntKind.wrap_i64]; omega)))
        case o27 =>
          intro Q a w2 hC hV hI
          have e22 : a.eval (.tmp 22) = .iface 87 (.pointer (some ⟨g, 0, none⟩)) := hV 22 (by simp [Op.operands]) (by kernel_rfl)
          have f22 : a.tmps.getD 22 undef = .iface 87 (.pointer (some ⟨g, 0, none⟩)) := e22
          have g22 : a.tmps[22]?.getD undef = .iface 87 (.pointer (some ⟨g, 0, none⟩)) := by rw [← Array.getD_eq_getD_getElem?]; exact e22
          refine op_val (.func (.method "loop.example/g00413/impl.short") #[.iface 87 (.pointer (some ⟨g, 0, none⟩))] #[]) ?_ hC (Below.refl _ _) (by intro d hd; cases hd; rfl)
          (clear hV hI hC; go_simp <;> (first | rfl | simp | (rw [IntKind.wrap_i64]; omega)))
        case o28 =>
          intro Q a w2 hC hV hI
          have e27 : a.eval (.tmp 27) = .func (.method "loop.example/g00413/impl.short") #[.iface 87 (.pointer (some ⟨g, 0, none⟩))] #[] := hV 27 (by simp [Op.operands]) (by kernel_rfl)
          have f27 : a.tmps.getD 27 undef = .func (.method "loop.example/g00413/impl.short") #[.iface 87 (.pointer (some ⟨g, 0, none⟩))] #[] := e27
          have g27 : a.tmps[27]?.getD undef = .func (.method "loop.example/g00413/impl.short") #[.iface 87 (.pointer (some ⟨g, 0, none⟩))] #[] := by rw [← Array.getD_eq_getD_getElem?]; exact e27
          refine op_val (.func (.method "loop.example/g00413/impl.short") #[.iface 87 (.pointer (some ⟨g, 0, none⟩))] #[]) ?_ hC (Below.refl _ _) (by intro d hd; cases hd; rfl)
          (clear hV hI hC; go_simp <;> (first | rfl | simp | (rw [IntKind.wrap_i64]; omega)))
        case o29 =>
          intro Q a w2 hC hV hI
          have e22 : a.eval (.tmp 22) = .iface 87 (.pointer (some ⟨g, 0, none⟩)) := hV 22 (by simp [Op.operands]) (by kernel_rfl)
          have f22 : a.tmps.getD 22 undef = .iface 87 (.pointer (some ⟨g, 0, none⟩)) := e22
          have g22 : a.tmps[22]?.getD undef = .iface 87 (.pointer (some ⟨g, 0, none⟩)) := by rw [← Array.getD_eq_getD_getElem?]; exact e22
          refine op_val (.iface 87 (.pointer (some ⟨g, 0, none⟩))) ?_ hC (Below.refl _ _) (by intro d hd; cases hd; rfl)
          (clear hV hI hC; go_simp <;> (first | rfl | simp | (rw [IntKind.wrap_i64]; omega)))
      case hend =>
        intro f v3 hC hall
        simp only [List.take_succ_cons, List.take_zero, List.drop_succ_cons, List.drop_zero] at hall ⊢
        simp only [List.forall_mem_cons] at hall
        obtain ⟨h22, h23, h24, h25, h26, h27, h28, h29, _⟩ := hall
        replace h22 : f 22 = .iface 87 (.pointer (some ⟨g, 0, none⟩)) := h22 22 rfl
        replace h23 : f 23 = .pointer (some ⟨gh, 0, none⟩) := h23 23 rfl
        replace h24 : f 24 = .pointer (some ⟨gh, 0, none⟩) := h24 24 rfl
        replace h25 : f 25 = .pointer (some ⟨gh, 0, none⟩) := h25 25 rfl
        replace h26 : f 26 = .pointer (some ⟨gh, 0, none⟩) := h26 26 rfl
        replace h27 : f 27 = .func (.method "loop.example/g00413/impl.short") #[.iface 87 (.pointer (some ⟨g, 0, none⟩))] #[] := h27 27 rfl
        replace h28 : f 28 = .func (.method "loop.example/g00413/impl.short") #[.iface 87 (.pointer (some ⟨g, 0, none⟩))] #[] := h28 28 rfl
        replace h29 : f 29 = .iface 87 (.pointer (some ⟨g, 0, none⟩)) := h29 29 rfl
        simp only [putAll, Act.put, List.setIfInBounds_toArray, List.set_cons_succ, List.set_cons_zero, h22, h23, h24, h25, h26, h27, h28, h29]
        clear h22 h23 h24 h25 h26 h27 h28 h29
        have W3 := Lib.hid (HW2.out.below hC)
        have H3 := Lib.hid ((hC.block gh (by have := HW2.out.lt; omega)).trans HH2.out)
        have C3 := Lib.hid (B2.out.trans (hC.mono (by have := HW2.out.lt; omega)))
        clear hC HW2 HH2 B2
        have q3 := Lib.hid (short_r g gh 0 s ((j + 4 : Nat) : Int) hi #[.int .i64 0, .int .i64 0, .int .i64 0, .int .i64 0, .int .i64 0, .int .i64 0, .string ⟨#[]⟩, .string ⟨#[]⟩, .int .i64 x1, .int .i64 x2, .int .i64 0, .int .i64 0, .int .i64 0] T v3 hs (by omega) W3.out H3.out (by omega) ⟨_, rfl⟩)
        go_wp2_with fail
        refine q3.out.mono ?_
        rintro e w3 ⟨rfl, hw, hh, hb⟩
        rw [show (((j + 4 : Nat) : Int) + 2) = ((j + 6 : Nat) : Int) from by omega] at hw
        simp only [List.setIfInBounds_toArray, List.set_cons_zero] at hh
        rw [← X3.out] at hh
        have HW3 : Hid (RdO w3 g s ((j + 6 : Nat) : Int) hi) := Lib.hid hw
        have HH3 : Hid (w3.heap[gh]? = some (.cells #[.int .i64 x3, .int .i64 0, .int .i64 0, .int .i64 0, .int .i64 0, .int .i64 0, .string ⟨#[]⟩, .string ⟨#[]⟩, .int .i64 x1, .int .i64 x2, .int .i64 0, .int .i64 0, .int .i64 0] T (0, 0))) := Lib.hid hh
        have B3 := Lib.hid (C3.out.trans (hb gh (by omega) (Nat.le_refl _)))
        clear hw hh hb H3 W3 C3 q3 X3
        go_upto_region 4 with fail
        refine wp_region_cut 8 (by kernel_rfl) (fun w' => Below w3.heap.size w3 w') (fun x y => Below x.heap.size x y) (fun dq vq _ => match dq with | 31 => vq = .iface 87 (.pointer (some ⟨g, 0, none⟩)) | 32 => vq = .pointer (some ⟨gh, 0, none⟩) | 33 => vq = .pointer (some ⟨gh, 0, none⟩) | 34 => vq = .pointer (some ⟨gh, 0, none⟩) | 35 => vq = .pointer (some ⟨gh, 1, none⟩) | 36 => vq = .func (.method "loop.example/g00413/impl.short") #[.iface 87 (.pointer (some ⟨g, 0, none⟩))] #[] | 37 => vq = .func (.method "loop.example/g00413/impl.short") #[.iface 87 (.pointer (some ⟨g, 0, none⟩))] #[] | 38 => vq = .iface 87 (.pointer (some ⟨g, 0, none⟩)) | _ => True) (by kernel_rfl) (by kernel_rfl) ((Below.refl _ _).drew) (fun _ _ _ _ _ _ h => h) (by simp) ?hops ?hend
        case hops =>
          simp only [List.take_succ_cons, List.take_zero, List.forall_mem_cons]
          refine ⟨?o31, ?o32, ?o33, ?o34, ?o35, ?o36, ?o37, ?o38, fun _ h => by cases h⟩
          case o31 =>
            intro Q a w2 hC hV hI
            have e1 : a.eval (.tmp 1) = .iface 87 (.pointer (some ⟨g, 0, none⟩)) := (hI 1 (by simp [Op.operands]) (by kernel_rfl)).trans rfl
            have f1 : a.tmps.getD 1 undef = .iface 87 (.pointer (some ⟨g, 0, none⟩)) := e1
            have g1 : a.tmps[1]?.getD undef = .iface 87 (.pointer (some ⟨g, 0, none⟩)) := by rw [← Array.getD_eq_getD_getElem?]; exact e1
            refine op_val (.iface 87 (.pointer (some ⟨g, 0, none⟩))) ?_ hC (Below.refl _ _) (by intro d hd; cases hd; rfl)
            (clear hV hI hC; go_simp <;> (first | rfl | simp | (rw [IntKind.wrap_i64]; omega)))
          case o32 =>
            intro Q a w2 hC hV hI
            have e0 : a.eval (.tmp 0) = .pointer (some ⟨gh, 0, none⟩) := (hI 0 (by simp [Op.operands]) (by kernel_rfl)).trans rfl
            have f0 : a.tmps.getD 0 undef = .pointer (some ⟨gh, 0, none⟩) := e0
            have g0 : a.tmps[0]?.getD undef = .pointer (some ⟨gh, 0, none⟩) := by rw [← Array.getD_eq_getD_getElem?]; exact e0
            refine op_val (.pointer (some ⟨gh, 0, none⟩)) ?_ hC (Below.refl _ _) (by intro d hd; cases hd; rfl)
            (clear hV hI hC; go_simp <;> (first | rfl | simp | (rw [IntKind.wrap_i64]; omega)))
          case o33 =>
            intro Q a w2 hC hV hI
            have e32 : a.eval (.tmp 32) = .pointer (some ⟨gh, 0, none⟩) := hV 32 (by simp [Op.operands]) (by kernel_rfl)
            have f32 : a.tmps.getD 32 undef = .pointer (some ⟨gh, 0, none⟩) := e32
            have g32 : a.tmps[32]?.getD undef = .pointer (some ⟨gh, 0, none⟩) := by rw [← Array.getD_eq_getD_getElem?]; exact e32
            refine op_val (.pointer (some ⟨gh, 0, none⟩)) ?_ hC (Below.refl _ _) (by intro d hd; cases hd; rfl)
            (clear hV hI hC; go_simp <;> (first | rfl | simp | (rw [IntKind.wrap_i64]; omega)))
          case o34 =>
            intro Q a w2 hC hV hI
            have e33 : a.eval (.tmp 33) = .pointer (some ⟨gh, 0, none⟩) := hV 33 (by simp [Op.operands]) (by kernel_rfl)
            have f33 : a.tmps.getD 33 undef = .pointer (some ⟨gh, 0, none⟩) := e33
            have g33 : a.tmps[33]?.getD undef = .pointer (some ⟨gh, 0, none⟩) := by rw [← Array.getD_eq_getD_getElem?]; exact e33
            refine op_val (.pointer (some ⟨gh, 0, none⟩)) ?_ hC (Below.refl _ _) (by intro d hd; cases hd; rfl)
            (clear hV hI hC; go_simp <;> (first | rfl | simp | (rw [IntKind.wrap_i64]; omega)))
          case o35 =>
            intro Q a w2 hC hV hI
            have e34 : a.eval (.tmp 34) = .pointer (some ⟨gh, 0, none⟩) := hV 34 (by simp [Op.operands]) (by kernel_rfl)
            have f34 : a.tmps.getD 34 undef = .pointer (some ⟨gh, 0, none⟩) := e34
            have g34 : a.tmps[34]?.getD undef = .pointer (some ⟨gh, 0, none⟩) := by rw [← Array.getD_eq_getD_getElem?]; exact e34
            refine op_val (.pointer (some ⟨gh, 1, none⟩)) ?_ hC (Below.refl _ _) (by intro d hd; cases hd; rfl)
            (clear hV hI hC; go_simp <;> (first | rfl | simp | (rw [IntKind.wrap_i64]; omega)))
          case o36 =>
            intro Q a w2 hC hV hI
            have e31 : a.eval (.tmp 31) = .iface 87 (.pointer (some ⟨g, 0, none⟩)) := hV 31 (by simp [Op.operands]) (by kernel_rfl)
            have f31 : a.tmps.getD 31 undef = .iface 87 (.pointer (some ⟨g, 0, none⟩)) := e31
            have g31 : a.tmps[31]?.getD undef = .iface 87 (.pointer (some ⟨g, 0, none⟩)) := by rw [← Array.getD_eq_getD_getElem?]; exact e31
            refine op_val (.func (.method "loop.example/g00413/impl.short") #[.iface 87 (.pointer (some ⟨g, 0, none⟩))] #[]) ?_ hC (Below.refl _ _) (by intro d hd; cases hd; rfl)
            (clear hV hI hC; go_simp <;> (first | rfl | simp | (rw [IntKind.wrap_i64]; omega)))
          case o37 =>
            intro Q a w2 hC hV hI
            have e36 : a.eval (.tmp 36) = .func (.method "loop.example/g00413/impl.short") #[.iface 87 (.pointer (some ⟨g, 0, none⟩))] #[] := hV 36 (by simp [Op.operands]) (by kernel_rfl)
            have f36 : a.tmps.getD 36 undef = .func (.method "loop.example/g00413/impl.short") #[.iface 87 (.pointer (some ⟨g, 0, none⟩))] #[] := e36
            have g36 : a.tmps[36]?.getD undef = .func (.method "loop.example/g00413/impl.short") #[.iface 87 (.pointer (some ⟨g, 0, none⟩))] #[] := by rw [← Array.getD_eq_getD_getElem?]; exact e36
            refine op_val (.func (.method "loop.example/g00413/impl.short") #[.iface 87 (.pointer (some ⟨g, 0, none⟩))] #[]) ?_ hC (Below.refl _ _) (by intro d hd; cases hd; rfl)
            (clear hV hI hC; go_simp <;> (first | rfl | simp | (rw [IntKind.wrap_i64]; omega)))
          case o38 =>
            intro Q a w2 hC hV hI
            have e31 : a.eval (.tmp 31) = .iface 87 (.pointer (some ⟨g, 0, none⟩)) := hV 31 (by simp [Op.operands]) (by kernel_rfl)
            have f31 : a.tmps.getD 31 undef = .iface 87 (.pointer (some ⟨g, 0, none⟩)) := e31
            have g31 : a.tmps[31]?.getD undef = .iface 87 (.pointer (some ⟨g, 0, none⟩)) := by rw [← Array.getD_eq_getD_getElem?]; exact e31
            refine op_val (.iface 87 (.pointer (some ⟨g, 0, none⟩))) ?_ hC (Below.refl _ _) (by intro d hd; cases hd; rfl)
            (clear hV hI hC; go_simp <;> (first | rfl | simp | (rw [IntKind.wrap_i64]; omega)))
        case hend =>
          intro f v4 hC hall
          simp only [List.take_succ_cons, List.take_zero, List.drop_succ_cons, List.drop_zero] at hall ⊢
          simp only [List.forall_mem_cons] at hall
          obtain ⟨h31, h32, h33, h34, h35, h36, h37, h38, _⟩ := hall
          replace h31 : f 31 = .iface 87 (.pointer (some ⟨g, 0, none⟩)) := h31 31 rfl
          replace h32 : f 32 = .pointer (some ⟨gh, 0, none⟩) := h32 32 rfl
          replace h33 : f 33 = .pointer (some ⟨gh, 0, none⟩) := h33 33 rfl
          replace h34 : f 34 = .pointer (some ⟨gh, 0, none⟩) := h34 34 rfl
          replace h35 : f 35 = .pointer (some ⟨gh, 1, none⟩) := h35 35 rfl
          replace h36 : f 36 = .func (.method "loop.example/g00413/impl.short") #[.iface 87 (.pointer (some ⟨g, 0, none⟩))] #[] := h36 36 rfl
          replace h37 : f 37 = .func (.method "loop.example/g00413/impl.short") #[.iface 87 (.pointer (some ⟨g, 0, none⟩))] #[] := h37 37 rfl
          replace h38 : f 38 = .iface 87 (.pointer (some ⟨g, 0, none⟩)) := h38 38 rfl
          simp only [putAll, Act.put, List.setIfInBounds_toArray, List.set_cons_succ, List.set_cons_zero, h31, h32, h33, h34, h35, h36, h37, h38]
          clear h31 h32 h33 h34 h35 h36 h37 h38
          have W4 := Lib.hid (HW3.out.below hC)
          have H4 := Lib.hid ((hC.block gh (by have := HW3.out.lt; omega)).trans HH3.out)
          have C4 := Lib.hid (B3.out.trans (hC.mono (by have := HW3.out.lt; omega)))
          clear hC HW3 HH3 B3
          have q4 := Lib.hid (short_r g gh 1 s ((j + 6 : Nat) : Int) hi #[.int .i64 x3, .int .i64 0, .int .i64 0, .int .i64 0, .int .i64 0, .int .i64 0, .string ⟨#[]⟩, .string ⟨#[]⟩, .int .i64 x1, .int .i64 x2, .int .i64 0, .int .i64 0, .int .i64 0] T v4 hs (by omega) W4.out H4.out (by omega) ⟨_, rfl⟩)
          go_wp2_with fail
          refine q4.out.mono ?_
          rintro e w4 ⟨rfl, hw, hh, hb⟩
          rw [show (((j + 6 : Nat) : Int) + 2) = ((j + 8 : Nat) : Int) from by omega] at hw
          simp only [List.setIfInBounds_toArray, List.set_cons_succ, List.set_cons_zero] at hh
          rw [← X4.out] at hh
          have HW4 : Hid (RdO w4 g s ((j + 8 : Nat) : Int) hi) := Lib.hid hw
          have HH4 : Hid (w4.heap[gh]? = some (.cells #[.int .i64 x3, .int .i64 x4, .int .i64 0, .int .i64 0, .int .i64 0, .int .i64 0, .string ⟨#[]⟩, .string ⟨#[]⟩, .int .i64 x1, .int .i64 x2, .int .i64 0, .int .i64 0, .int .i64 0] T (0, 0))) := Lib.hid hh
          have B4 := Lib.hid (C4.out.trans (hb gh (by omega) (Nat.le_refl _)))
          clear hw hh hb H4 W4 C4 q4 X4
          go_upto_region 5 with fail
          refine wp_region_cut 8 (by kernel_rfl) (fun w' => Below w4.heap.size w4 w') (fun x y => Below x.heap.size x y) (fun dq vq _ => match dq with | 40 => vq = .iface 87 (.pointer (some ⟨g, 0, none⟩)) | 41 => vq = .pointer (some ⟨gh, 0, none⟩) | 42 => vq = .pointer (some ⟨gh, 0, none⟩) | 43 => vq = .pointer (some ⟨gh, 0, none⟩) | 44 => vq = .pointer (some ⟨gh, 2, none⟩) | 45 => vq = .func (.method "loop.example/g00413/impl.short") #[.iface 87 (.pointer (some ⟨g, 0, none⟩))] #[] | 46 => vq = .func (.method "loop.example/g00413/impl.short") #[.iface 87 (.pointer (some ⟨g, 0, none⟩))] #[] | 47 => vq = .iface 87 (.pointer (some ⟨g, 0, none⟩)) | _ => True) (by kernel_rfl) (by kernel_rfl) ((Below.refl _ _).drew) (fun _ _ _ _ _ _ h => h) (by simp) ?hops ?hend
          case hops =>
            simp only [List.take_succ_cons, List.take_zero, List.forall_mem_cons]
            refine ⟨?o40, ?o41, ?o42, ?o43, ?o44, ?o45, ?o46, ?o47, fun _ h => by cases h⟩
            case o40 =>
              intro Q a w2 hC hV hI
              have e1 : a.eval (.tmp 1) = .iface 87 (.pointer (some ⟨g, 0, none⟩)) := (hI 1 (by simp [Op.operands]) (by kernel_rfl)).trans rfl
              have f1 : a.tmps.getD 1 undef = .iface 87 (.pointer (some ⟨g, 0, none⟩)) := e1
              have g1 : a.tmps[1]?.getD undef = .iface 87 (.pointer (some ⟨g, 0, none⟩)) := by rw [← Array.getD_eq_getD_getElem?]; exact e1
              refine op_val (.iface 87 (.pointer (some ⟨g, 0, none⟩))) ?_ hC (Below.refl _ _) (by intro d hd; cases hd; rfl)
              (clear hV hI hC; go_simp <;> (first | rfl | simp | (rw [IntKind.wrap_i64]; omega)))
            case o41 =>
              intro Q a w2 hC hV hI
              have e0 : a.eval (.tmp 0) = .pointer (some ⟨gh, 0, none⟩) := (hI 0 (by simp [Op.operands]) (by kernel_rfl)).trans rfl
              have f0 : a.tmps.getD 0 undef = .pointer (some ⟨gh, 0, none⟩) := e0
              have g0 : a.tmps[0]?.getD undef = .pointer (some ⟨gh, 0, none⟩) := by rw [← Array.getD_eq_getD_getElem?]; exact e0
              refine op_val (.pointer (some ⟨gh, 0, none⟩)) ?_ hC (Below.refl _ _) (by intro d hd; cases hd; rfl)
              (clear hV hI hC; go_simp <;> (first | rfl | simp | (rw [IntKind.wrap_i64]; omega)))
            case o42 =>
              intro Q a w2 hC hV hI
              have e41 : a.eval (.tmp 41) = .pointer (some ⟨gh, 0, none⟩) := hV 41 (by simp [Op.operands]) (by kernel_rfl)
              have f41 : a.tmps.getD 41 undef = .pointer (some ⟨gh, 0, none⟩) := e41
              have g41 : a.tmps[41]?.getD undef = .pointer (some ⟨gh, 0, none⟩) := by rw [← Array.getD_eq_getD_getElem?]; exact e41
              refine op_val (.pointer (some ⟨gh, 0, none⟩)) ?_ hC (Below.refl _ _) (by intro d hd; cases hd; rfl)
              (clear hV hI hC; go_simp <;> (first | rfl | simp | (rw [IntKind.wrap_i64]; omega)))
            case o43 =>
              intro Q a w2 hC hV hI
              have e42 : a.eval (.tmp 42) = .pointer (some ⟨gh, 0, none⟩) := hV 42 (by simp [Op.operands]) (by kernel_rfl)
              have f42 : a.tmps.getD 42 undef = .pointer (some ⟨gh, 0, none⟩) := e42
              have g42 : a.tmps[42]?.getD undef = .pointer (some ⟨gh, 0, none⟩) := by rw [← Array.getD_eq_getD_getElem?]; exact e42
              refine op_val (.pointer (some ⟨gh, 0, none⟩)) ?_ hC (Below.refl _ _) (by intro d hd; cases hd; rfl)
              (clear hV hI hC; go_simp <;> (first | rfl | simp | (rw [IntKind.wrap_i64]; omega)))
            case o44 =>
              intro Q a w2 hC hV hI
              have e43 : a.eval (.tmp 43) = .pointer (some ⟨gh, 0, none⟩) := hV 43 (by simp [Op.operands]) (by kernel_rfl)
              have f43 : a.tmps.getD 43 undef = .pointer (some ⟨gh, 0, none⟩) := e43
              have g43 : a.tmps[43]?.getD undef = .pointer (some ⟨gh, 0, none⟩) := by rw [← Array.getD_eq_getD_getElem?]; exact e43
              refine op_val (.pointer (some ⟨gh, 2, none⟩)) ?_ hC (Below.refl _ _) (by intro d hd; cases hd; rfl)
              (clear hV hI hC; go_simp <;> (first | rfl | simp | (rw [IntKind.wrap_i64]; omega)))
            case o45 =>
              intro Q a w2 hC hV hI
              have e40 : a.eval (.tmp 40) = .iface 87 (.pointer (some ⟨g, 0, none⟩)) := hV 40 (by simp [Op.operands]) (by kernel_rfl)
              have f40 : a.tmps.getD 40 undef = .iface 87 (.pointer (some ⟨g, 0, none⟩)) := e40
              have g40 : a.tmps[40]?.getD undef = .iface 87 (.pointer (some ⟨g, 0, none⟩)) := by rw [← Array.getD_eq_getD_getElem?]; exact e40
              refine op_val (.func (.method "loop.example/g00413/impl.short") #[.iface 87 (.pointer (some ⟨g, 0, none⟩))] #[]) ?_ hC (Below.refl _ _) (by intro d hd; cases hd; rfl)
              (clear hV hI hC; go_simp <;> (first | rfl | simp | (rw [IntKind.wrap_i64]; omega)))
            case o46 =>
              intro Q a w2 hC hV hI
              have e45 : a.eval (.tmp 45) = .func (.method "loop.example/g00413/impl.short") #[.iface 87 (.pointer (some ⟨g, 0, none⟩))] #[] := hV 45 (by simp [Op.operands]) (by kernel_rfl)
              have f45 : a.tmps.getD 45 undef = .func (.method "loop.example/g00413/impl.short") #[.iface 87 (.pointer (some ⟨g, 0, none⟩))] #[] := e45
              have g45 : a.tmps[45]?.getD undef = .func (.method "loop.example/g00413/impl.short") #[.iface 87 (.pointer (some ⟨g, 0, none⟩))] #[] := by rw [← Array.getD_eq_getD_getElem?]; exact e45
              refine op_val (.func (.method "loop.example/g00413/impl.short") #[.iface 87 (.pointer (some ⟨g, 0, none⟩))] #[]) ?_ hC (Below.refl _ _) (by intro d hd; cases hd; rfl)
              (clear hV hI hC; go_simp <;> (first | rfl | simp | (rw [IntKind.wrap_i64]; omega)))
            case o47 =>
              intro Q a w2 hC hV hI
              have e40 : a.eval (.tmp 40) = .iface 87 (.pointer (some ⟨g, 0, none⟩)) := hV 40 (by simp [Op.operands]) (by kernel_rfl)
              have f40 : a.tmps.getD 40 undef = .iface 87 (.pointer (some ⟨g, 0, none⟩)) := e40
              have g40 : a.tmps[40]?.getD undef = .iface 87 (.pointer (some ⟨g, 0, none⟩)) := by rw [← Array.getD_eq_getD_getElem?]; exact e40
              refine op_val (.iface 87 (.pointer (some ⟨g, 0, none⟩))) ?_ hC (Below.refl _ _) (by intro d hd; cases hd; rfl)
              (clear hV hI hC; go_simp <;> (first | rfl | simp | (rw [IntKind.wrap_i64]; omega)))
          case hend =>
            intro f v5 hC hall
            simp only [List.take_succ_cons, List.take_zero, List.drop_succ_cons, List.drop_zero] at hall ⊢
            simp only [List.forall_mem_cons] at hall
            obtain ⟨h40, h41, h42, h43, h44, h45, h46, h47, _⟩ := hall
            replace h40 : f 40 = .iface 87 (.pointer (some ⟨g, 0, none⟩)) := h40 40 rfl
            replace h41 : f 41 = .pointer (some ⟨gh, 0, none⟩) := h41 41 rfl
            replace h42 : f 42 = .pointer (some ⟨gh, 0, none⟩) := h42 42 rfl
            replace h43 : f 43 = .pointer (some ⟨gh, 0, none⟩) := h43 43 rfl
            replace h44 : f 44 = .pointer (some ⟨gh, 2, none⟩) := h44 44 rfl
            replace h45 : f 45 = .func (.method "loop.example/g00413/impl.short") #[.iface 87 (.pointer (some ⟨g, 0, none⟩))] #[] := h45 45 rfl
            replace h46 : f 46 = .func (.method "loop.example/g00413/impl.short") #[.iface 87 (.pointer (some ⟨g, 0, none⟩))] #[] := h46 46 rfl
            replace h47 : f 47 = .iface 87 (.pointer (some ⟨g, 0, none⟩)) := h47 47 rfl
            simp only [putAll, Act.put, List.setIfInBounds_toArray, List.set_cons_succ, List.set_cons_zero, h40, h41, h42, h43, h44, h45, h46, h47]
            clear h40 h41 h42 h43 h44 h45 h46 h47
            have W5 := Lib.hid (HW4.out.below hC)
            have H5 := Lib.hid ((hC.block gh (by have := HW4.out.lt; omega)).trans HH4.out)
            have C5 := Lib.hid (B4.out.trans (hC.mono (by have := HW4.out.lt; omega)))
            clear hC HW4 HH4 B4
            have q5 := Lib.hid (short_r g gh 2 s ((j + 8 : Nat) : Int) hi #[.int .i64 x3, .int .i64 x4, .int .i64 0, .int .i64 0, .int .i64 0, .int .i64 0, .string ⟨#[]⟩, .string ⟨#[]⟩, .int .i64 x1, .int .i64 x2, .int .i64 0, .int .i64 0, .int .i64 0] T v5 hs (by omega) W5.out H5.out (by omega) ⟨_, rfl⟩)
            go_wp2_with fail
            refine q5.out.mono ?_
            rintro e w5 ⟨rfl, hw, hh, hb⟩
            rw [show (((j + 8 : Nat) : Int) + 2) = ((j + 10 : Nat) : Int) from by omega] at hw
            simp only [List.setIfInBounds_toArray, List.set_cons_succ, List.set_cons_zero] at hh
            rw [← X5.out] at hh
            have HW5 : Hid (RdO w5 g s ((j + 10 : Nat) : Int) hi) := Lib.hid hw
            have HH5 : Hid (w5.heap[gh]? = some (.cells #[.int .i64 x3, .int .i64 x4, .int .i64 x5, .int .i64 0, .int .i64 0, .int .i64 0, .string ⟨#[]⟩, .string ⟨#[]⟩, .int .i64 x1, .int .i64 x2, .int .i64 0, .int .i64 0, .int .i64 0] T (0, 0))) := Lib.hid hh
            have B5 := Lib.hid (C5.out.trans (hb gh (by omega) (Nat.le_refl _)))
            clear hw hh hb H5 W5 C5 q5 X5
            go_upto_region 6 with fail
            refine wp_region_cut 8 (by kernel_rfl) (fun w' => Below w5.heap.size w5 w') (fun x y => Below x.heap.size x y) (fun dq vq _ => match dq with | 49 => vq = .iface 87 (.pointer (some ⟨g, 0, none⟩)) | 50 => vq = .pointer (some ⟨gh, 0, none⟩) | 51 => vq = .pointer (some ⟨gh, 0, none⟩) | 52 => vq = .pointer (some ⟨gh, 0, none⟩) | 53 => vq = .pointer (some ⟨gh, 3, none⟩) | 54 => vq = .func (.method "loop.example/g00413/impl.short") #[.iface 87 (.pointer (some ⟨g, 0, none⟩))] #[] | 55 => vq = .func (.method "loop.example/g00413/impl.short") #[.iface 87 (.pointer (some ⟨g, 0, none⟩))] #[] | 56 => vq = .iface 87 (.pointer (some ⟨g, 0, none⟩)) | _ => True) (by kernel_rfl) (by kernel_rfl) ((Below.refl _ _).drew) (fun _ _ _ _ _ _ h => h) (by simp) ?hops ?hend
            case hops =>
              simp only [List.take_succ_cons, List.take_zero, List.forall_mem_cons]
              refine ⟨?o49, ?o50, ?o51, ?o52, ?o53, ?o54, ?o55, ?o56, fun _ h => by cases h⟩
              case o49 =>
                intro Q a w2 hC hV hI
                have e1 : a.eval (.tmp 1) = .iface 87 (.pointer (some ⟨g, 0, none⟩)) := (hI 1 (by simp [Op.operands]) (by kernel_rfl)).trans rfl
                have f1 : a.tmps.getD 1 undef = .iface 87 (.pointer (some ⟨g, 0, none⟩)) := e1
                have g1 : a.tmps[1]?.getD undef = .iface 87 (.pointer (some ⟨g, 0, none⟩)) := by rw [← Array.getD_eq_getD_getElem?]; exact e1
                refine op_val (.iface 87 (.pointer (some ⟨g, 0, none⟩))) ?_ hC (Below.refl _ _) (by intro d hd; cases hd; rfl)
                (clear hV hI hC; go_simp <;> (first | rfl | simp | (rw [IntKind.wrap_i64]; omega)))
              case o50 =>
                intro Q a w2 hC hV hI
                have e0 : a.eval (.tmp 0) = .pointer (some ⟨gh, 0, none⟩) := (hI 0 (by simp [Op.operands]) (by kernel_rfl)).trans rfl
                have f0 : a.tmps.getD 0 undef = .pointer (some ⟨gh, 0, none⟩) := e0
                have g0 : a.tmps[0]?.getD undef = .pointer (some ⟨gh, 0, none⟩) := by rw [← Array.getD_eq_getD_getElem?]; exact e0
                refine op_val (.pointer (some ⟨gh, 0, none⟩)) ?_ hC (Below.refl _ _) (by intro d hd; cases hd; rfl)
                (clear hV hI hC; go_simp <;> (first | rfl | simp | (rw [IntKind.wrap_i64]; omega)))
              case o51 =>
                intro Q a w2 hC hV hI
                have e50 : a.eval (.tmp 50) = .pointer (some ⟨gh, 0, none⟩) := hV 50 (by simp [Op.operands]) (by kernel_rfl)
                have f50 : a.tmps.getD 50 undef = .pointer (some ⟨gh, 0, none⟩) := e50
                have g50 : a.tmps[50]?.getD undef = .pointer (some ⟨gh, 0, none⟩) := by rw [← Array.getD_eq_getD_getElem?]; exact e50
                refine op_val (.pointer (some ⟨gh, 0, none⟩)) ?_ hC (Below.refl _ _) (by intro d hd; cases hd; rfl)
                (clear hV hI hC; go_simp <;> (first | rfl | simp | (rw [IntKind.wrap_i64]; omega)))
              case o52 =>
                intro Q a w2 hC hV hI
                have e51 : a.eval (.tmp 51) = .pointer (some ⟨gh, 0, none⟩) := hV 51 (by simp [Op.operands]) (by kernel_rfl)
                have f51 : a.tmps.getD 51 undef = .pointer (some ⟨gh, 0, none⟩) := e51
                have g51 : a.tmps[51]?.getD undef = .pointer (some ⟨gh, 0, none⟩) := by rw [← Array.getD_eq_getD_getElem?]; exact e51
                refine op_val (.pointer (some ⟨gh, 0, none⟩)) ?_ hC (Below.refl _ _) (by intro d hd; cases hd; rfl)
                (clear hV hI hC; go_simp <;> (first | rfl | simp | (rw [IntKind.wrap_i64]; omega)))
              case o53 =>
                intro Q a w2 hC hV hI
                have e52 : a.eval (.tmp 52) = .pointer (some ⟨gh, 0, none⟩) := hV 52 (by simp [Op.operands]) (by kernel_rfl)
                have f52 : a.tmps.getD 52 undef = .pointer (some ⟨gh, 0, none⟩) := e52
                have g52 : a.tmps[52]?.getD undef = .pointer (some ⟨gh, 0, none⟩) := by rw [← Array.getD_eq_getD_getElem?]; exact e52
                refine op_val (.pointer (some ⟨gh, 3, none⟩)) ?_ hC (Below.refl _ _) (by intro d hd; cases hd; rfl)
                (clear hV hI hC; go_simp <;> (first | rfl | simp | (rw [IntKind.wrap_i64]; omega)))
              case o54 =>
                intro Q a w2 hC hV hI
                have e49 : a.eval (.tmp 49) = .iface 87 (.pointer (some ⟨g, 0, none⟩)) := hV 49 (by simp [Op.operands]) (by kernel_rfl)
                have f49 : a.tmps.getD 49 undef = .iface 87 (.pointer (some ⟨g, 0, none⟩)) := e49
                have g49 : a.tmps[49]?.getD undef = .iface 87 (.pointer (some ⟨g, 0, none⟩)) := by rw [← Array.getD_eq_getD_getElem?]; exact e49
                refine op_val (.func (.method "loop.example/g00413/impl.short") #[.iface 87 (.pointer (some ⟨g, 0, none⟩))] #[]) ?_ hC (Below.refl _ _) (by intro d hd; cases hd; rfl)
                (clear hV hI hC; go_simp <;> (first | rfl | simp | (rw [IntKind.wrap_i64]; omega)))
              case o55 =>
                intro Q a w2 hC hV hI
                have e54 : a.eval (.tmp 54) = .func (.method "loop.example/g00413/impl.short") #[.iface 87 (.pointer (some ⟨g, 0, none⟩))] #[] := hV 54 (by simp [Op.operands]) (by kernel_rfl)
                have f54 : a.tmps.getD 54 undef = .func (.method "loop.example/g00413/impl.short") #[.iface 87 (.pointer (some ⟨g, 0, none⟩))] #[] := e54
                have g54 : a.tmps[54]?.getD undef = .func (.method "loop.example/g00413/impl.short") #[.iface 87 (.pointer (some ⟨g, 0, none⟩))] #[] := by rw [← Array.getD_eq_getD_getElem?]; exact e54
                refine op_val (.func (.method "loop.example/g00413/impl.short") #[.iface 87 (.pointer (some ⟨g, 0, none⟩))] #[]) ?_ hC (Below.refl _ _) (by intro d hd; cases hd; rfl)
                (clear hV hI hC; go_simp <;> (first | rfl | simp | (rw [IntKind.wrap_i64]; omega)))
              case o56 =>
                intro Q a w2 hC hV hI
                have e49 : a.eval (.tmp 49) = .iface 87 (.pointer (some ⟨g, 0, none⟩)) := hV 49 (by simp [Op.operands]) (by kernel_rfl)
                have f49 : a.tmps.getD 49 undef = .iface 87 (.pointer (some ⟨g, 0, none⟩)) := e49
                have g49 : a.tmps[49]?.getD undef = .iface 87 (.pointer (some ⟨g, 0, none⟩)) := by rw [← Array.getD_eq_getD_getElem?]; exact e49
                refine op_val (.iface 87 (.pointer (some ⟨g, 0, none⟩))) ?_ hC (Below.refl _ _) (by intro d hd; cases hd; rfl)
                (clear hV hI hC; go_simp <;> (first | rfl | simp | (rw [IntKind.wrap_i64]; omega)))
            case hend =>
              intro f v6 hC hall
              simp only [List.take_succ_cons, List.take_zero, List.drop_succ_cons, List.drop_zero] at hall ⊢
              simp only [List.forall_mem_cons] at hall
              obtain ⟨h49, h50, h51, h52, h53, h54, h55, h56, _⟩ := hall
              replace h49 : f 49 = .iface 87 (.pointer (some ⟨g, 0, none⟩)) := h49 49 rfl
              replace h50 : f 50 = .pointer (some ⟨gh, 0, none⟩) := h50 50 rfl
              replace h51 : f 51 = .pointer (some ⟨gh, 0, none⟩) := h51 51 rfl
              replace h52 : f 52 = .pointer (some ⟨gh, 0, none⟩) := h52 52 rfl
              replace h53 : f 53 = .pointer (some ⟨gh, 3, none⟩) := h53 53 rfl
              replace h54 : f 54 = .func (.method "loop.example/g00413/impl.short") #[.iface 87 (.pointer (some ⟨g, 0, none⟩))] #[] := h54 54 rfl
              replace h55 : f 55 = .func (.method "loop.example/g00413/impl.short") #[.iface 87 (.pointer (some ⟨g, 0, none⟩))] #[] := h55 55 rfl
              replace h56 : f 56 = .iface 87 (.pointer (some ⟨g, 0, none⟩)) := h56 56 rfl
              simp only [putAll, Act.put, List.setIfInBounds_toArray, List.set_cons_succ, List.set_cons_zero, h49, h50, h51, h52, h53, h54, h55, h56]
              clear h49 h50 h51 h52 h53 h54 h55 h56
              have W6 := Lib.hid (HW5.out.below hC)
              have H6 := Lib.hid ((hC.block gh (by have := HW5.out.lt; omega)).trans HH5.out)
              have C6 := Lib.hid (B5.out.trans (hC.mono (by have := HW5.out.lt; omega)))
              clear hC HW5 HH5 B5
              have q6 := Lib.hid (short_r g gh 3 s ((j + 10 : Nat) : Int) hi #[.int .i64 x3, .int .i64 x4, .int .i64 x5, .int .i64 0, .int .i64 0, .int .i64 0, .string ⟨#[]⟩, .string ⟨#[]⟩, .int .i64 x1, .int .i64 x2, .int .i64 0, .int .i64 0, .int .i64 0] T v6 hs (by omega) W6.out H6.out (by omega) ⟨_, rfl⟩)
              go_wp2_with fail
              refine q6.out.mono ?_
              rintro e w6 ⟨rfl, hw, hh, hb⟩
              rw [show (((j + 10 : Nat) : Int) + 2) = ((j + 12 : Nat) : Int) from by omega] at hw
              simp only [List.setIfInBounds_toArray, List.set_cons_succ, List.set_cons_zero] at hh
              rw [← X6.out] at hh
              have HW6 : Hid (RdO w6 g s ((j + 12 : Nat) : Int) hi) := Lib.hid hw
              have HH6 : Hid (w6.heap[gh]? = some (.cells #[.int .i64 x3, .int .i64 x4, .int .i64 x5, .int .i64 x6, .int .i64 0, .int .i64 0, .string ⟨#[]⟩, .string ⟨#[]⟩, .int .i64 x1, .int .i64 x2, .int .i64 0, .int .i64 0, .int .i64 0] T (0, 0))) := Lib.hid hh
              have B6 := Lib.hid (C6.out.trans (hb gh (by omega) (Nat.le_refl _)))
              clear hw hh hb H6 W6 C6 q6 X6
              go_upto_region 7 with fail
              refine wp_region_cut 8 (by kernel_rfl) (fun w' => Below w6.heap.size w6 w') (fun x y => Below x.heap.size x y) (fun dq vq _ => match dq with | 58 => vq = .iface 87 (.pointer (some ⟨g, 0, none⟩)) | 59 => vq = .pointer (some ⟨gh, 0, none⟩) | 60 => vq = .pointer (some ⟨gh, 0, none⟩) | 61 => vq = .pointer (some ⟨gh, 0, none⟩) | 62 => vq = .pointer (some ⟨gh, 4, none⟩) | 63 => vq = .func (.method "loop.example/g00413/impl.short") #[.iface 87 (.pointer (some ⟨g, 0, none⟩))] #[] | 64 => vq = .func (.method "loop.example/g00413/impl.short") #[.iface 87 (.pointer (some ⟨g, 0, none⟩))] #[] | 65 => vq = .iface 87 (.pointer (some ⟨g, 0, none⟩)) | _ => True) (by kernel_rfl) (by kernel_rfl) ((Below.refl _ _).drew) (fun _ _ _ _ _ _ h => h) (by simp) ?hops ?hend
              case hops =>
                simp only [List.take_succ_cons, List.take_zero, List.forall_mem_cons]
                refine ⟨?o58, ?o59, ?o60, ?o61, ?o62, ?o63, ?o64, ?o65, fun _ h => by cases h⟩
                case o58 =>
                  intro Q a w2 hC hV hI
                  have e1 : a.eval (.tmp 1) = .iface 87 (.pointer (some ⟨g, 0, none⟩)) := (hI 1 (by simp [Op.operands]) (by kernel_rfl)).trans rfl
                  have f1 : a.tmps.getD 1 undef = .iface 87 (.pointer (some ⟨g, 0, none⟩)) := e1
                  have g1 : a.tmps[1]?.getD undef = .iface 87 (.pointer (some ⟨g, 0, none⟩)) := by rw [← Array.getD_eq_getD_getElem?]; exact e1
                  refine op_val (.iface 87 (.pointer (some ⟨g, 0, none⟩))) ?_ hC (Below.refl _ _) (by intro d hd; cases hd; rfl)
                  (clear hV hI hC; go_simp <;> (first | rfl | simp | (rw [IntKind.wrap_i64]; omega)))
                case o59 =>
                  intro Q a w2 hC hV hI
                  have e0 : a.eval (.tmp 0) = .pointer (some ⟨gh, 0, none⟩) := (hI 0 (by simp [Op.operands]) (by kernel_rfl)).trans rfl
                  have f0 : a.tmps.getD 0 undef = .pointer (some ⟨gh, 0, none⟩) := e0
                  have g0 : a.tmps[0]?.getD undef = .pointer (some ⟨gh, 0, none⟩) := by rw [← Array.getD_eq_getD_getElem?]; exact e0
                  refine op_val (.pointer (some ⟨gh, 0, none⟩)) ?_ hC (Below.refl _ _) (by intro d hd; cases hd; rfl)
                  (clear hV hI hC; go_simp <;> (first | rfl | simp | (rw [IntKind.wrap_i64]; omega)))
                case o60 =>
                  intro Q a w2 hC hV hI
                  have e59 : a.eval (.tmp 59) = .pointer (some ⟨gh, 0, none⟩) := hV 59 (by simp [Op.operands]) (by kernel_rfl)
                  have f59 : a.tmps.getD 59 undef = .pointer (some ⟨gh, 0, none⟩) := e59
                  have g59 : a.tmps[59]?.getD undef = .pointer (some ⟨gh, 0, none⟩) := by rw [← Array.getD_eq_getD_getElem?]; exact e59
                  refine op_val (.pointer (some ⟨gh, 0, none⟩)) ?_ hC (Below.refl _ _) (by intro d hd; cases hd; rfl)
                  (clear hV hI hC; go_simp <;> (first | rfl | simp | (rw [IntKind.wrap_i64]; omega)))
                case o61 =>
                  intro Q a w2 hC hV hI
                  have e60 : a.eval (.tmp 60) = .pointer (some ⟨gh, 0, none⟩) := hV 60 (by simp [Op.operands]) (by kernel_rfl)
                  have f60 : a.tmps.getD 60 undef = .pointer (some ⟨gh, 0, none⟩) := e60
                  have g60 : a.tmps[60]?.getD undef = .pointer (some ⟨gh, 0, none⟩) := by rw [← Array.getD_eq_getD_getElem?]; exact e60
                  refine op_val (.pointer (some ⟨gh, 0, none⟩)) ?_ hC (Below.refl _ _) (by intro d hd; cases hd; rfl)
                  (clear hV hI hC; go_simp <;> (first | rfl | simp | (rw [IntKind.wrap_i64]; omega)))
                case o62 =>
                  intro Q a w2 hC hV hI
                  have e61 : a.eval (.tmp 61) = .pointer (some ⟨gh, 0, none⟩) := hV 61 (by simp [Op.operands]) (by kernel_rfl)
                  have f61 : a.tmps.getD 61 undef = .pointer (some ⟨gh, 0, none⟩) := e61
                  have g61 : a.tmps[61]?.getD undef = .pointer (some ⟨gh, 0, none⟩) := by rw [← Array.getD_eq_getD_getElem?]; exact e61
                  refine op_val (.pointer (some ⟨gh, 4, none⟩)) ?_ hC (Below.refl _ _) (by intro d hd; cases hd; rfl)
                  (clear hV hI hC; go_simp <;> (first | rfl | simp | (rw [IntKind.wrap_i64]; omega)))
                case o63 =>
                  intro Q a w2 hC hV hI
                  have e58 : a.eval (.tmp 58) = .iface 87 (.pointer (some ⟨g, 0, none⟩)) := hV 58 (by simp [Op.operands]) (by kernel_rfl)
                  have f58 : a.tmps.getD 58 undef = .iface 87 (.pointer (some ⟨g, 0, none⟩)) := e58
                  have g58 : a.tmps[58]?.getD undef = .iface 87 (.pointer (some ⟨g, 0, none⟩)) := by rw [← Array.getD_eq_getD_getElem?]; exact e58
                  refine op_val (.func (.method "loop.example/g00413/impl.short") #[.iface 87 (.pointer (some ⟨g, 0, none⟩))] #[]) ?_ hC (Below.refl _ _) (by intro d hd; cases hd; rfl)
                  (clear hV hI hC; go_simp <;> (first | rfl | simp | (rw [IntKind.wrap_i64]; omega)))
                case o64 =>
                  intro Q a w2 hC hV hI
                  have e63 : a.eval (.tmp 63) = .func (.method "loop.example/g00413/impl.short") #[.iface 87 (.pointer (some ⟨g, 0, none⟩))] #[] := hV 63 (by simp [Op.operands]) (by kernel_rfl)
                  have f63 : a.tmps.getD 63 undef = .func (.method "loop.example/g00413/impl.short") #[.iface 87 (.pointer (some ⟨g, 0, none⟩))] #[] := e63
                  have g63 : a.tmps[63]?.getD undef = .func (.method "loop.example/g00413/impl.short") #[.iface 87 (.pointer (some ⟨g, 0, none⟩))] #[] := by rw [← Array.getD_eq_getD_getElem?]; exact e63
                  refine op_val (.func (.method "loop.example/g00413/impl.short") #[.iface 87 (.pointer (some ⟨g, 0, none⟩))] #[]) ?_ hC (Below.refl _ _) (by intro d hd; cases hd; rfl)
                  (clear hV hI hC; go_simp <;> (first | rfl | simp | (rw [IntKind.wrap_i64]; omega)))
                case o65 =>
                  intro Q a w2 hC hV hI
                  have e58 : a.eval (.tmp 58) = .iface 87 (.pointer (some ⟨g, 0, none⟩)) := hV 58 (by simp [Op.operands]) (by kernel_rfl)
                  have f58 : a.tmps.getD 58 undef = .iface 87 (.pointer (some ⟨g, 0, none⟩)) := e58
                  have g58 : a.tmps[58]?.getD undef = .iface 87 (.pointer (some ⟨g, 0, none⟩)) := by rw [← Array.getD_eq_getD_getElem?]; exact e58
                  refine op_val (.iface 87 (.pointer (some ⟨g, 0, none⟩))) ?_ hC (Below.refl _ _) (by intro d hd; cases hd; rfl)
                  (clear hV hI hC; go_simp <;> (first | rfl | simp | (rw [IntKind.wrap_i64]; omega)))
              case hend =>
                intro f v7 hC hall
                simp only [List.take_succ_cons, List.take_zero, List.drop_succ_cons, List.drop_zero] at hall ⊢
                simp only [List.forall_mem_cons] at hall
                obtain ⟨h58, h59, h60, h61, h62, h63, h64, h65, _⟩ := hall
                replace h58 : f 58 = .iface 87 (.pointer (some ⟨g, 0, none⟩)) := h58 58 rfl
                replace h59 : f 59 = .pointer (some ⟨gh, 0, none⟩) := h59 59 rfl
                replace h60 : f 60 = .pointer (some ⟨gh, 0, none⟩) := h60 60 rfl
                replace h61 : f 61 = .pointer (some ⟨gh, 0, none⟩) := h61 61 rfl
                replace h62 : f 62 = .pointer (some ⟨gh, 4, none⟩) := h62 62 rfl
                replace h63 : f 63 = .func (.method "loop.example/g00413/impl.short") #[.iface 87 (.pointer (some ⟨g, 0, none⟩))] #[] := h63 63 rfl
                replace h64 : f 64 = .func (.method "loop.example/g00413/impl.short") #[.iface 87 (.pointer (some ⟨g, 0, none⟩))] #[] := h64 64 rfl
                replace h65 : f 65 = .iface 87 (.pointer (some ⟨g, 0, none⟩)) := h65 65 rfl
                simp only [putAll, Act.put, List.setIfInBounds_toArray, List.set_cons_succ, List.set_cons_zero, h58, h59, h60, h61, h62, h63, h64, h65]
                clear h58 h59 h60 h61 h62 h63 h64 h65
                have W7 := Lib.hid (HW6.out.below hC)
                have H7 := Lib.hid ((hC.block gh (by have := HW6.out.lt; omega)).trans HH6.out)
                have C7 := Lib.hid (B6.out.trans (hC.mono (by have := HW6.out.lt; omega)))
                clear hC HW6 HH6 B6
                have q7 := Lib.hid (short_r g gh 4 s ((j + 12 : Nat) : Int) hi #[.int .i64 x3, .int .i64 x4, .int .i64 x5, .int .i64 x6, .int .i64 0, .int .i64 0, .string ⟨#[]⟩, .string ⟨#[]⟩, .int .i64 x1, .int .i64 x2, .int .i64 0, .int .i64 0, .int .i64 0] T v7 hs (by omega) W7.out H7.out (by omega) ⟨_, rfl⟩)
                go_wp2_with fail
                refine q7.out.mono ?_
                rintro e w7 ⟨rfl, hw, hh, hb⟩
                rw [show (((j + 12 : Nat) : Int) + 2) = ((j + 14 : Nat) : Int) from by omega] at hw
                simp only [List.setIfInBounds_toArray, List.set_cons_succ, List.set_cons_zero] at hh
                rw [← X7.out] at hh
                have HW7 : Hid (RdO w7 g s ((j + 14 : Nat) : Int) hi) := Lib.hid hw
                have HH7 : Hid (w7.heap[gh]? = some (.cells #[.int .i64 x3, .int .i64 x4, .int .i64 x5, .int .i64 x6, .int .i64 x7, .int .i64 0, .string ⟨#[]⟩, .string ⟨#[]⟩, .int .i64 x1, .int .i64 x2, .int .i64 0, .int .i64 0, .int .i64 0] T (0, 0))) := Lib.hid hh
                have B7 := Lib.hid (C7.out.trans (hb gh (by omega) (Nat.le_refl _)))
                clear hw hh hb H7 W7 C7 q7 X7
                go_upto_region 8 with fail
                refine wp_region_cut 8 (by kernel_rfl) (fun w' => Below w7.heap.size w7 w') (fun x y => Below x.heap.size x y) (fun dq vq _ => match dq with | 67 => vq = .iface 87 (.pointer (some ⟨g, 0, none⟩)) | 68 => vq = .pointer (some ⟨gh, 0, none⟩) | 69 => vq = .pointer (some ⟨gh, 0, none⟩) | 70 => vq = .pointer (some ⟨gh, 9, none⟩) | 71 => vq = .pointer (some ⟨gh, 10, none⟩) | 72 => vq = .func (.method "loop.example/g00413/impl.short") #[.iface 87 (.pointer (some ⟨g, 0, none⟩))] #[] | 73 => vq = .func (.method "loop.example/g00413/impl.short") #[.iface 87 (.pointer (some ⟨g, 0, none⟩))] #[] | 74 => vq = .iface 87 (.pointer (some ⟨g, 0, none⟩)) | _ => True) (by kernel_rfl) (by kernel_rfl) ((Below.refl _ _).drew) (fun _ _ _ _ _ _ h => h) (by simp) ?hops ?hend
                case hops =>
                  simp only [List.take_succ_cons, List.take_zero, List.forall_mem_cons]
                  refine ⟨?o67, ?o68, ?o69, ?o70, ?o71, ?o72, ?o73, ?o74, fun _ h => by cases h⟩
                  case o67 =>
                    intro Q a w2 hC hV hI
                    have e1 : a.eval (.tmp 1) = .iface 87 (.pointer (some ⟨g, 0, none⟩)) := (hI 1 (by simp [Op.operands]) (by kernel_rfl)).trans rfl
                    have f1 : a.tmps.getD 1 undef = .iface 87 (.pointer (some ⟨g, 0, none⟩)) := e1
                    have g1 : a.tmps[1]?.getD undef = .iface 87 (.pointer (some ⟨g, 0, none⟩)) := by rw [← Array.getD_eq_getD_getElem?]; exact e1
                    refine op_val (.iface 87 (.pointer (some ⟨g, 0, none⟩))) ?_ hC (Below.refl _ _) (by intro d hd; cases hd; rfl)
                    (clear hV hI hC; go_simp <;> (first | rfl | simp | (rw [IntKind.wrap_i64]; omega)))
                  case o68 =>
                    intro Q a w2 hC hV hI
                    have e0 : a.eval (.tmp 0) = .pointer (some ⟨gh, 0, none⟩) := (hI 0 (by simp [Op.operands]) (by kernel_rfl)).trans rfl
                    have f0 : a.tmps.getD 0 undef = .pointer (some ⟨gh, 0, none⟩) := e0
                    have g0 : a.tmps[0]?.getD undef = .pointer (some ⟨gh, 0, none⟩) := by rw [← Array.getD_eq_getD_getElem?]; exact e0
                    refine op_val (.pointer (some ⟨gh, 0, none⟩)) ?_ hC (Below.refl _ _) (by intro d hd; cases hd; rfl)
                    (clear hV hI hC; go_simp <;> (first | rfl | simp | (rw [IntKind.wrap_i64]; omega)))
                  case o69 =>
                    intro Q a w2 hC hV hI
                    have e68 : a.eval (.tmp 68) = .pointer (some ⟨gh, 0, none⟩) := hV 68 (by simp [Op.operands]) (by kernel_rfl)
                    have f68 : a.tmps.getD 68 undef = .pointer (some ⟨gh, 0, none⟩) := e68
                    have g68 : a.tmps[68]?.getD undef = .pointer (some ⟨gh, 0, none⟩) := by rw [← Array.getD_eq_getD_getElem?]; exact e68
                    refine op_val (.pointer (some ⟨gh, 0, none⟩)) ?_ hC (Below.refl _ _) (by intro d hd; cases hd; rfl)
                    (clear hV hI hC; go_simp <;> (first | rfl | simp | (rw [IntKind.wrap_i64]; omega)))
                  case o70 =>
                    intro Q a w2 hC hV hI
                    have e69 : a.eval (.tmp 69) = .pointer (some ⟨gh, 0, none⟩) := hV 69 (by simp [Op.operands]) (by kernel_rfl)
                    have f69 : a.tmps.getD 69 undef = .pointer (some ⟨gh, 0, none⟩) := e69
                    have g69 : a.tmps[69]?.getD undef = .pointer (some ⟨gh, 0, none⟩) := by rw [← Array.getD_eq_getD_getElem?]; exact e69
                    refine op_val (.pointer (some ⟨gh, 9, none⟩)) ?_ hC (Below.refl _ _) (by intro d hd; cases hd; rfl)
                    (clear hV hI hC; go_simp <;> (first | rfl | simp | (rw [IntKind.wrap_i64]; omega)))
                  case o71 =>
                    intro Q a w2 hC hV hI
                    have e70 : a.eval (.tmp 70) = .pointer (some ⟨gh, 9, none⟩) := hV 70 (by simp [Op.operands]) (by kernel_rfl)
                    have f70 : a.tmps.getD 70 undef = .pointer (some ⟨gh, 9, none⟩) := e70
                    have g70 : a.tmps[70]?.getD undef = .pointer (some ⟨gh, 9, none⟩) := by rw [← Array.getD_eq_getD_getElem?]; exact e70
                    refine op_val (.pointer (some ⟨gh, 10, none⟩)) ?_ hC (Below.refl _ _) (by intro d hd; cases hd; rfl)
                    (clear hV hI hC; go_simp <;> (first | rfl | simp | (rw [IntKind.wrap_i64]; omega)))
                  case o72 =>
                    intro Q a w2 hC hV hI
                    have e67 : a.eval (.tmp 67) = .iface 87 (.pointer (some ⟨g, 0, none⟩)) := hV 67 (by simp [Op.operands]) (by kernel_rfl)
                    have f67 : a.tmps.getD 67 undef = .iface 87 (.pointer (some ⟨g, 0, none⟩)) := e67
                    have g67 : a.tmps[67]?.getD undef = .iface 87 (.pointer (some ⟨g, 0, none⟩)) := by rw [← Array.getD_eq_getD_getElem?]; exact e67
                    refine op_val (.func (.method "loop.example/g00413/impl.short") #[.iface 87 (.pointer (some ⟨g, 0, none⟩))] #[]) ?_ hC (Below.refl _ _) (by intro d hd; cases hd; rfl)
                    (clear hV hI hC; go_simp <;> (first | rfl | simp | (rw [IntKind.wrap_i64]; omega)))
                  case o73 =>
                    intro Q a w2 hC hV hI
                    have e72 : a.eval (.tmp 72) = .func (.method "loop.example/g00413/impl.short") #[.iface 87 (.pointer (some ⟨g, 0, none⟩))] #[] := hV 72 (by simp [Op.operands]) (by kernel_rfl)
                    have f72 : a.tmps.getD 72 undef = .func (.method "loop.example/g00413/impl.short") #[.iface 87 (.pointer (some ⟨g, 0, none⟩))] #[] := e72
                    have g72 : a.tmps[72]?.getD undef = .func (.method "loop.example/g00413/impl.short") #[.iface 87 (.pointer (some ⟨g, 0, none⟩))] #[] := by rw [← Array.getD_eq_getD_getElem?]; exact e72
                    refine op_val (.func (.method "loop.example/g00413/impl.short") #[.iface 87 (.pointer (some ⟨g, 0, none⟩))] #[]) ?_ hC (Below.refl _ _) (by intro d hd; cases hd; rfl)
                    (clear hV hI hC; go_simp <;> (first | rfl | simp | (rw [IntKind.wrap_i64]; omega)))
                  case o74 =>
                    intro Q a w2 hC hV hI
                    have e67 : a.eval (.tmp 67) = .iface 87 (.pointer (some ⟨g, 0, none⟩)) := hV 67 (by simp [Op.operands]) (by kernel_rfl)
                    have f67 : a.tmps.getD 67 undef = .iface 87 (.pointer (some ⟨g, 0, none⟩)) := e67
                    have g67 : a.tmps[67]?.getD undef = .iface 87 (.pointer (some ⟨g, 0, none⟩)) := by rw [← Array.getD_eq_getD_getElem?]; exact e67
                    refine op_val (.iface 87 (.pointer (some ⟨g, 0, none⟩))) ?_ hC (Below.refl _ _) (by intro d hd; cases hd; rfl)
                    (clear hV hI hC; go_simp <;> (first | rfl | simp | (rw [IntKind.wrap_i64]; omega)))
                case hend =>
                  intro f v8 hC hall
                  simp only [List.take_succ_cons, List.take_zero, List.drop_succ_cons, List.drop_zero] at hall ⊢
                  simp only [List.forall_mem_cons] at hall
                  obtain ⟨h67, h68, h69, h70, h71, h72, h73, h74, _⟩ := hall
                  replace h67 : f 67 = .iface 87 (.pointer (some ⟨g, 0, none⟩)) := h67 67 rfl
                  replace h68 : f 68 = .pointer (some ⟨gh, 0, none⟩) := h68 68 rfl
                  replace h69 : f 69 = .pointer (some ⟨gh, 0, none⟩) := h69 69 rfl
                  replace h70 : f 70 = .pointer (some ⟨gh, 9, none⟩) := h70 70 rfl
                  replace h71 : f 71 = .pointer (some ⟨gh, 10, none⟩) := h71 71 rfl
                  replace h72 : f 72 = .func (.method "loop.example/g00413/impl.short") #[.iface 87 (.pointer (some ⟨g, 0, none⟩))] #[] := h72 72 rfl
                  replace h73 : f 73 = .func (.method "loop.example/g00413/impl.short") #[.iface 87 (.pointer (some ⟨g, 0, none⟩))] #[] := h73 73 rfl
                  replace h74 : f 74 = .iface 87 (.pointer (some ⟨g, 0, none⟩)) := h74 74 rfl
                  simp only [putAll, Act.put, List.setIfInBounds_toArray, List.set_cons_succ, List.set_cons_zero, h67, h68, h69, h70, h71, h72, h73, h74]
                  clear h67 h68 h69 h70 h71 h72 h73 h74
                  have W8 := Lib.hid (HW7.out.below hC)
                  have H8 := Lib.hid ((hC.block gh (by have := HW7.out.lt; omega)).trans HH7.out)
                  have C8 := Lib.hid (B7.out.trans (hC.mono (by have := HW7.out.lt; omega)))
                  clear hC HW7 HH7 B7
                  have q8 := Lib.hid (short_r g gh 10 s ((j + 14 : Nat) : Int) hi #[.int .i64 x3, .int .i64 x4, .int .i64 x5, .int .i64 x6, .int .i64 x7, .int .i64 0, .string ⟨#[]⟩, .string ⟨#[]⟩, .int .i64 x1, .int .i64 x2, .int .i64 0, .int .i64 0, .int .i64 0] T v8 hs (by omega) W8.out H8.out (by omega) ⟨_, rfl⟩)
                  go_wp2_with fail
                  refine q8.out.mono ?_
                  rintro e w8 ⟨rfl, hw, hh, hb⟩
                  rw [show (((j + 14 : Nat) : Int) + 2) = ((j + 16 : Nat) : Int) from by omega] at hw
                  simp only [List.setIfInBounds_toArray, List.set_cons_succ, List.set_cons_zero] at hh
                  rw [← X8.out] at hh
                  have HW8 : Hid (RdO w8 g s ((j + 16 : Nat) : Int) hi) := Lib.hid hw
                  have HH8 : Hid (w8.heap[gh]? = some (.cells #[.int .i64 x3, .int .i64 x4, .int .i64 x5, .int .i64 x6, .int .i64 x7, .int .i64 0, .string ⟨#[]⟩, .string ⟨#[]⟩, .int .i64 x1, .int .i64 x2, .int .i64 x8, .int .i64 0, .int .i64 0] T (0, 0))) := Lib.hid hh
                  have B8 := Lib.hid (C8.out.trans (hb gh (by omega) (Nat.le_refl _)))
                  clear hw hh hb H8 W8 C8 q8 X8
                  go_upto_region 9 with fail
                  refine wp_region_cut 8 (by kernel_rfl) (fun w' => Below w8.heap.size w8 w') (fun x y => Below x.heap.size x y) (fun dq vq _ => match dq with | 76 => vq = .iface 87 (.pointer (some ⟨g, 0, none⟩)) | 77 => vq = .pointer (some ⟨gh, 0, none⟩) | 78 => vq = .pointer (some ⟨gh, 0, none⟩) | 79 => vq = .pointer (some ⟨gh, 0, none⟩) | 80 => vq = .pointer (some ⟨gh, 5, none⟩) | 81 => vq = .func (.method "loop.example/g00413/impl.long") #[.iface 87 (.pointer (some ⟨g, 0, none⟩))] #[] | 82 => vq = .func (.method "loop.example/g00413/impl.long") #[.iface 87 (.pointer (some ⟨g, 0, none⟩))] #[] | 83 => vq = .iface 87 (.pointer (some ⟨g, 0, none⟩)) | _ => True) (by kernel_rfl) (by kernel_rfl) ((Below.refl _ _).drew) (fun _ _ _ _ _ _ h => h) (by simp) ?hops ?hend
                  case hops =>
                    simp only [List.take_succ_cons, List.take_zero, List.forall_mem_cons]
                    refine ⟨?o76, ?o77, ?o78, ?o79, ?o80, ?o81, ?o82, ?o83, fun _ h => by cases h⟩
                    case o76 =>
                      intro Q a w2 hC hV hI
                      have e1 : a.eval (.tmp 1) = .iface 87 (.pointer (some ⟨g, 0, none⟩)) := (hI 1 (by simp [Op.operands]) (by kernel_rfl)).trans rfl
                      have f1 : a.tmps.getD 1 undef = .iface 87 (.pointer (some ⟨g, 0, none⟩)) := e1
                      have g1 : a.tmps[1]?.getD undef = .iface 87 (.pointer (some ⟨g, 0, none⟩)) := by rw [← Array.getD_eq_getD_getElem?]; exact e1
                      refine op_val (.iface 87 (.pointer (some ⟨g, 0, none⟩))) ?_ hC (Below.refl _ _) (by intro d hd; cases hd; rfl)
                      (clear hV hI hC; go_simp <;> (first | rfl | simp | (rw [IntKind.wrap_i64]; omega)))
                    case o77 =>
                      intro Q a w2 hC hV hI
                      have e0 : a.eval (.tmp 0) = .pointer (some ⟨gh, 0, none⟩) := (hI 0 (by simp [Op.operands]) (by kernel_rfl)).trans rfl
                      have f0 : a.tmps.getD 0 undef = .pointer (some ⟨gh, 0, none⟩) := e0
                      have g0 : a.tmps[0]?.getD undef = .pointer (some ⟨gh, 0, none⟩) := by rw [← Array.getD_eq_getD_getElem?]; exact e0
                      refine op_val (.pointer (some ⟨gh, 0, none⟩)) ?_ hC (Below.refl _ _) (by intro d hd; cases hd; rfl)
                      (clear hV hI hC; go_simp <;> (first | rfl | simp | (rw [IntKind.wrap_i64]; omega)))
                    case o78 =>
                      intro Q a w2 hC hV hI
                      have e77 : a.eval (.tmp 77) = .pointer (some ⟨gh, 0, none⟩) := hV 77 (by simp [Op.operands]) (by kernel_rfl)
                      have f77 : a.tmps.getD 77 undef = .pointer (some ⟨gh, 0, none⟩) := e77
                      have g77 : a.tmps[77]?.getD undef = .pointer (some ⟨gh, 0, none⟩) := by rw [← Array.getD_eq_getD_getElem?]; exact e77
                      refine op_val (.pointer (some ⟨gh, 0, none⟩)) ?_ hC (Below.refl _ _) (by intro d hd; cases hd; rfl)
                      (clear hV hI hC; go_simp <;> (first | rfl | simp | (rw [IntKind.wrap_i64]; omega)))
                    case o79 =>
                      intro Q a w2 hC hV hI
                      have e78 : a.eval (.tmp 78) = .pointer (some ⟨gh, 0, none⟩) := hV 78 (by simp [Op.operands]) (by kernel_rfl)
                      have f78 : a.tmps.getD 78 undef = .pointer (some ⟨gh, 0, none⟩) := e78
                      have g78 : a.tmps[78]?.getD undef = .pointer (some ⟨gh, 0, none⟩) := by rw [← Array.getD_eq_getD_getElem?]; exact e78
                      refine op_val (.pointer (some ⟨gh, 0, none⟩)) ?_ hC (Below.refl _ _) (by intro d hd; cases hd; rfl)
                      (clear hV hI hC; go_simp <;> (first | rfl | simp | (rw [IntKind.wrap_i64]; omega)))
                    case o80 =>
                      intro Q a w2 hC hV hI
                      have e79 : a.eval (.tmp 79) = .pointer (some ⟨gh, 0, none⟩) := hV 79 (by simp [Op.operands]) (by kernel_rfl)
                      have f79 : a.tmps.getD 79 undef = .pointer (some ⟨gh, 0, none⟩) := e79
                      have g79 : a.tmps[79]?.getD undef = .pointer (some ⟨gh, 0, none⟩) := by rw [← Array.getD_eq_getD_getElem?]; exact e79
                      refine op_val (.pointer (some ⟨gh, 5, none⟩)) ?_ hC (Below.refl _ _) (by intro d hd; cases hd; rfl)
                      (clear hV hI hC; go_simp <;> (first | rfl | simp | (rw [IntKind.wrap_i64]; omega)))
                    case o81 =>
                      intro Q a w2 hC hV hI
                      have e76 : a.eval (.tmp 76) = .iface 87 (.pointer (some ⟨g, 0, none⟩)) := hV 76 (by simp [Op.operands]) (by kernel_rfl)
                      have f76 : a.tmps.getD 76 undef = .iface 87 (.pointer (some ⟨g, 0, none⟩)) := e76
                      have g76 : a.tmps[76]?.getD undef = .iface 87 (.pointer (some ⟨g, 0, none⟩)) := by rw [← Array.getD_eq_getD_getElem?]; exact e76
                      refine op_val (.func (.method "loop.example/g00413/impl.long") #[.iface 87 (.pointer (some ⟨g, 0, none⟩))] #[]) ?_ hC (Below.refl _ _) (by intro d hd; cases hd; rfl)
                      (clear hV hI hC; go_simp <;> (first | rfl | simp | (rw [IntKind.wrap_i64]; omega)))
                    case o82 =>
                      intro Q a w2 hC hV hI
                      have e81 : a.eval (.tmp 81) = .func (.method "loop.example/g00413/impl.long") #[.iface 87 (.pointer (some ⟨g, 0, none⟩))] #[] := hV 81 (by simp [Op.operands]) (by kernel_rfl)
                      have f81 : a.tmps.getD 81 undef = .func (.method "loop.example/g00413/impl.long") #[.iface 87 (.pointer (some ⟨g, 0, none⟩))] #[] := e81
                      have g81 : a.tmps[81]?.getD undef = .func (.method "loop.example/g00413/impl.long") #[.iface 87 (.pointer (some ⟨g, 0, none⟩))] #[] := by rw [← Array.getD_eq_getD_getElem?]; exact e81
                      refine op_val (.func (.method "loop.example/g00413/impl.long") #[.iface 87 (.pointer (some ⟨g, 0, none⟩))] #[]) ?_ hC (Below.refl _ _) (by intro d hd; cases hd; rfl)
                      (clear hV hI hC; go_simp <;> (first | rfl | simp | (rw [IntKind.wrap_i64]; omega)))
                    case o83 =>
                      intro Q a w2 hC hV hI
                      have e76 : a.eval (.tmp 76) = .iface 87 (.pointer (some ⟨g, 0, none⟩)) := hV 76 (by simp [Op.operands]) (by kernel_rfl)
                      have f76 : a.tmps.getD 76 undef = .iface 87 (.pointer (some ⟨g, 0, none⟩)) := e76
                      have g76 : a.tmps[76]?.getD undef = .iface 87 (.pointer (some ⟨g, 0, none⟩)) := by rw [← Array.getD_eq_getD_getElem?]; exact e76
                      refine op_val (.iface 87 (.pointer (some ⟨g, 0, none⟩))) ?_ hC (Below.refl _ _) (by intro d hd; cases hd; rfl)
                      (clear hV hI hC; go_simp <;> (first | rfl | simp | (rw [IntKind.wrap_i64]; omega)))
                  case hend =>
                    intro f v9 hC hall
                    simp only [List.take_succ_cons, List.take_zero, List.drop_succ_cons, List.drop_zero] at hall ⊢
                    simp only [List.forall_mem_cons] at hall
                    obtain ⟨h76, h77, h78, h79, h80, h81, h82, h83, _⟩ := hall
                    replace h76 : f 76 = .iface 87 (.pointer (some ⟨g, 0, none⟩)) := h76 76 rfl
                    replace h77 : f 77 = .pointer (some ⟨gh, 0, none⟩) := h77 77 rfl
                    replace h78 : f 78 = .pointer (some ⟨gh, 0, none⟩) := h78 78 rfl
                    replace h79 : f 79 = .pointer (some ⟨gh, 0, none⟩) := h79 79 rfl
                    replace h80 : f 80 = .pointer (some ⟨gh, 5, none⟩) := h80 80 rfl
                    replace h81 : f 81 = .func (.method "loop.example/g00413/impl.long") #[.iface 87 (.pointer (some ⟨g, 0, none⟩))] #[] := h81 81 rfl
                    replace h82 : f 82 = .func (.method "loop.example/g00413/impl.long") #[.iface 87 (.pointer (some ⟨g, 0, none⟩))] #[] := h82 82 rfl
                    replace h83 : f 83 = .iface 87 (.pointer (some ⟨g, 0, none⟩)) := h83 83 rfl
                    simp only [putAll, Act.put, List.setIfInBounds_toArray, List.set_cons_succ, List.set_cons_zero, h76, h77, h78, h79, h80, h81, h82, h83]
                    clear h76 h77 h78 h79 h80 h81 h82 h83
                    have W9 := Lib.hid (HW8.out.below hC)
                    have H9 := Lib.hid ((hC.block gh (by have := HW8.out.lt; omega)).trans HH8.out)
                    have C9 := Lib.hid (B8.out.trans (hC.mono (by have := HW8.out.lt; omega)))
                    clear hC HW8 HH8 B8
                    have q9 := Lib.hid (long_r g gh 5 s ((j + 16 : Nat) : Int) hi #[.int .i64 x3, .int .i64 x4, .int .i64 x5, .int .i64 x6, .int .i64 x7, .int .i64 0, .string ⟨#[]⟩, .string ⟨#[]⟩, .int .i64 x1, .int .i64 x2, .int .i64 x8, .int .i64 0, .int .i64 0] T v9 hs (by omega) W9.out H9.out (by omega) ⟨_, rfl⟩)
                    go_wp2_with fail
                    refine q9.out.mono ?_
                    rintro e w9 ⟨rfl, hw, hh, hb⟩
                    rw [show (((j + 16 : Nat) : Int) + 4) = ((j + 20 : Nat) : Int) from by omega] at hw
                    simp only [List.setIfInBounds_toArray, List.set_cons_succ, List.set_cons_zero] at hh
                    rw [← X9.out] at hh
                    have HW9 : Hid (RdO w9 g s ((j + 20 : Nat) : Int) hi) := Lib.hid hw
                    have HH9 : Hid (w9.heap[gh]? = some (.cells #[.int .i64 x3, .int .i64 x4, .int .i64 x5, .int .i64 x6, .int .i64 x7, .int .i64 x9, .string ⟨#[]⟩, .string ⟨#[]⟩, .int .i64 x1, .int .i64 x2, .int .i64 x8, .int .i64 0, .int .i64 0] T (0, 0))) := Lib.hid hh
                    have B9 := Lib.hid (C9.out.trans (hb gh (by omega) (Nat.le_refl _)))
                    clear hw hh hb H9 W9 C9 q9 X9
                    go_upto_region 10 with fail
                    refine wp_region_cut 7 (by kernel_rfl) (fun w' => Below w9.heap.size w9 w') (fun x y => Below x.heap.size x y) (fun dq vq _ => match dq with | 85 => vq = .iface 87 (.pointer (some ⟨g, 0, none⟩)) | 86 => vq = .pointer (some ⟨gh, 0, none⟩) | 87 => vq = .pointer (some ⟨gh, 0, none⟩) | 88 => vq = .pointer (some ⟨gh, 11, none⟩) | 89 => vq = .func (.method "loop.example/g00413/impl.short") #[.iface 87 (.pointer (some ⟨g, 0, none⟩))] #[] | 90 => vq = .func (.method "loop.example/g00413/impl.short") #[.iface 87 (.pointer (some ⟨g, 0, none⟩))] #[] | 91 => vq = .iface 87 (.pointer (some ⟨g, 0, none⟩)) | _ => True) (by kernel_rfl) (by kernel_rfl) ((Below.refl _ _).drew) (fun _ _ _ _ _ _ h => h) (by simp) ?hops ?hend
                    case hops =>
                      simp only [List.take_succ_cons, List.take_zero, List.forall_mem_cons]
                      refine ⟨?o85, ?o86, ?o87, ?o88, ?o89, ?o90, ?o91, fun _ h => by cases h⟩
                      case o85 =>
                        intro Q a w2 hC hV hI
                        have e1 : a.eval (.tmp 1) = .iface 87 (.pointer (some ⟨g, 0, none⟩)) := (hI 1 (by simp [Op.operands]) (by kernel_rfl)).trans rfl
                        have f1 : a.tmps.getD 1 undef = .iface 87 (.pointer (some ⟨g, 0, none⟩)) := e1
                        have g1 : a.tmps[1]?.getD undef = .iface 87 (.pointer (some ⟨g, 0, none⟩)) := by rw [← Array.getD_eq_getD_getElem?]; exact e1
                        refine op_val (.iface 87 (.pointer (some ⟨g, 0, none⟩))) ?_ hC (Below.refl _ _) (by intro d hd; cases hd; rfl)
                        (clear hV hI hC; go_simp <;> (first | rfl | simp | (rw [IntKind.wrap_i64]; omega)))
                      case o86 =>
                        intro Q a w2 hC hV hI
                        have e0 : a.eval (.tmp 0) = .pointer (some ⟨gh, 0, none⟩) := (hI 0 (by simp [Op.operands]) (by kernel_rfl)).trans rfl
                        have f0 : a.tmps.getD 0 undef = .pointer (some ⟨gh, 0, none⟩) := e0
                        have g0 : a.tmps[0]?.getD undef = .pointer (some ⟨gh, 0, none⟩) := by rw [← Array.getD_eq_getD_getElem?]; exact e0
                        refine op_val (.pointer (some ⟨gh, 0, none⟩)) ?_ hC (Below.refl _ _) (by intro d hd; cases hd; rfl)
                        (clear hV hI hC; go_simp <;> (first | rfl | simp | (rw [IntKind.wrap_i64]; omega)))
                      case o87 =>
                        intro Q a w2 hC hV hI
                        have e86 : a.eval (.tmp 86) = .pointer (some ⟨gh, 0, none⟩) := hV 86 (by simp [Op.operands]) (by kernel_rfl)
                        have f86 : a.tmps.getD 86 undef = .pointer (some ⟨gh, 0, none⟩) := e86
                        have g86 : a.tmps[86]?.getD undef = .pointer (some ⟨gh, 0, none⟩) := by rw [← Array.getD_eq_getD_getElem?]; exact e86
                        refine op_val (.pointer (some ⟨gh, 0, none⟩)) ?_ hC (Below.refl _ _) (by intro d hd; cases hd; rfl)
                        (clear hV hI hC; go_simp <;> (first | rfl | simp | (rw [IntKind.wrap_i64]; omega)))
                      case o88 =>
                        intro Q a w2 hC hV hI
                        have e87 : a.eval (.tmp 87) = .pointer (some ⟨gh, 0, none⟩) := hV 87 (by simp [Op.operands]) (by kernel_rfl)
                        have f87 : a.tmps.getD 87 undef = .pointer (some ⟨gh, 0, none⟩) := e87
                        have g87 : a.tmps[87]?.getD undef = .pointer (some ⟨gh, 0, none⟩) := by rw [← Array.getD_eq_getD_getElem?]; exact e87
                        refine op_val (.pointer (some ⟨gh, 11, none⟩)) ?_ hC (Below.refl _ _) (by intro d hd; cases hd; rfl)
                        (clear hV hI hC; go_simp <;> (first | rfl | simp | (rw [IntKind.wrap_i64]; omega)))
                      case o89 =>
                        intro Q a w2 hC hV hI
                        have e85 : a.eval (.tmp 85) = .iface 87 (.pointer (some ⟨g, 0, none⟩)) := hV 85 (by simp [Op.operands]) (by kernel_rfl)
                        have f85 : a.tmps.getD 85 undef = .iface 87 (.pointer (some ⟨g, 0, none⟩)) := e85
                        have g85 : a.tmps[85]?.getD undef = .iface 87 (.pointer (some ⟨g, 0, none⟩)) := by rw [← Array.getD_eq_getD_getElem?]; exact e85
                        refine op_val (.func (.method "loop.example/g00413/impl.short") #[.iface 87 (.pointer (some ⟨g, 0, none⟩))] #[]) ?_ hC (Below.refl _ _) (by intro d hd; cases hd; rfl)
                        (clear hV hI hC; go_simp <;> (first | rfl | simp | (rw [IntKind.wrap_i64]; omega)))
                      case o90 =>
                        intro Q a w2 hC hV hI
                        have e89 : a.eval (.tmp 89) = .func (.method "loop.example/g00413/impl.short") #[.iface 87 (.pointer (some ⟨g, 0, none⟩))] #[] := hV 89 (by simp [Op.operands]) (by kernel_rfl)
                        have f89 : a.tmps.getD 89 undef = .func (.method "loop.example/g00413/impl.short") #[.iface 87 (.pointer (some ⟨g, 0, none⟩))] #[] := e89
                        have g89 : a.tmps[89]?.getD undef = .func (.method "loop.example/g00413/impl.short") #[.iface 87 (.pointer (some ⟨g, 0, none⟩))] #[] := by rw [← Array.getD_eq_getD_getElem?]; exact e89
                        refine op_val (.func (.method "loop.example/g00413/impl.short") #[.iface 87 (.pointer (some ⟨g, 0, none⟩))] #[]) ?_ hC (Below.refl _ _) (by intro d hd; cases hd; rfl)
                        (clear hV hI hC; go_simp <;> (first | rfl | simp | (rw [IntKind.wrap_i64]; omega)))
                      case o91 =>
                        intro Q a w2 hC hV hI
                        have e85 : a.eval (.tmp 85) = .iface 87 (.pointer (some ⟨g, 0, none⟩)) := hV 85 (by simp [Op.operands]) (by kernel_rfl)
                        have f85 : a.tmps.getD 85 undef = .iface 87 (.pointer (some ⟨g, 0, none⟩)) := e85
                        have g85 : a.tmps[85]?.getD undef = .iface 87 (.pointer (some ⟨g, 0, none⟩)) := by rw [← Array.getD_eq_getD_getElem?]; exact e85
                        refine op_val (.iface 87 (.pointer (some ⟨g, 0, none⟩))) ?_ hC (Below.refl _ _) (by intro d hd; cases hd; rfl)
                        (clear hV hI hC; go_simp <;> (first | rfl | simp | (rw [IntKind.wrap_i64]; omega)))
                    case hend =>
                      intro f v10 hC hall
                      simp only [List.take_succ_cons, List.take_zero, List.drop_succ_cons, List.drop_zero] at hall ⊢
                      simp only [List.forall_mem_cons] at hall
                      obtain ⟨h85, h86, h87, h88, h89, h90, h91, _⟩ := hall
                      replace h85 : f 85 = .iface 87 (.pointer (some ⟨g, 0, none⟩)) := h85 85 rfl
                      replace h86 : f 86 = .pointer (some ⟨gh, 0, none⟩) := h86 86 rfl
                      replace h87 : f 87 = .pointer (some ⟨gh, 0, none⟩) := h87 87 rfl
                      replace h88 : f 88 = .pointer (some ⟨gh, 11, none⟩) := h88 88 rfl
                      replace h89 : f 89 = .func (.method "loop.example/g00413/impl.short") #[.iface 87 (.pointer (some ⟨g, 0, none⟩))] #[] := h89 89 rfl
                      replace h90 : f 90 = .func (.method "loop.example/g00413/impl.short") #[.iface 87 (.pointer (some ⟨g, 0, none⟩))] #[] := h90 90 rfl
                      replace h91 : f 91 = .iface 87 (.pointer (some ⟨g, 0, none⟩)) := h91 91 rfl
                      simp only [putAll, Act.put, List.setIfInBounds_toArray, List.set_cons_succ, List.set_cons_zero, h85, h86, h87, h88, h89, h90, h91]
                      clear h85 h86 h87 h88 h89 h90 h91
                      have W10 := Lib.hid (HW9.out.below hC)
                      have H10 := Lib.hid ((hC.block gh (by have := HW9.out.lt; omega)).trans HH9.out)
                      have C10 := Lib.hid (B9.out.trans (hC.mono (by have := HW9.out.lt; omega)))
                      clear hC HW9 HH9 B9
                      have q10 := Lib.hid (short_r g gh 11 s ((j + 20 : Nat) : Int) hi #[.int .i64 x3, .int .i64 x4, .int .i64 x5, .int .i64 x6, .int .i64 x7, .int .i64 x9, .string ⟨#[]⟩, .string ⟨#[]⟩, .int .i64 x1, .int .i64 x2, .int .i64 x8, .int .i64 0, .int .i64 0] T v10 hs (by omega) W10.out H10.out (by omega) ⟨_, rfl⟩)
                      go_wp2_with fail
                      refine q10.out.mono ?_
                      rintro e w10 ⟨rfl, hw, hh, hb⟩
                      rw [show (((j + 20 : Nat) : Int) + 2) = ((j + 22 : Nat) : Int) from by omega] at hw
                      simp only [List.setIfInBounds_toArray, List.set_cons_succ, List.set_cons_zero] at hh
                      rw [← X10.out] at hh
                      have HW10 : Hid (RdO w10 g s ((j + 22 : Nat) : Int) hi) := Lib.hid hw
                      have HH10 : Hid (w10.heap[gh]? = some (.cells #[.int .i64 x3, .int .i64 x4, .int .i64 x5, .int .i64 x6, .int .i64 x7, .int .i64 x9, .string ⟨#[]⟩, .string ⟨#[]⟩, .int .i64 x1, .int .i64 x2, .int .i64 x8, .int .i64 x10, .int .i64 0] T (0, 0))) := Lib.hid hh
                      have B10 := Lib.hid (C10.out.trans (hb gh (by omega) (Nat.le_refl _)))
                      clear hw hh hb H10 W10 C10 q10 X10
                      go_upto_region 11 with fail
                      refine wp_region_cut 7 (by kernel_rfl) (fun w' => Below w10.heap.size w10 w') (fun x y => Below x.heap.size x y) (fun dq vq _ => match dq with | 93 => vq = .iface 87 (.pointer (some ⟨g, 0, none⟩)) | 94 => vq = .pointer (some ⟨gh, 0, none⟩) | 95 => vq = .pointer (some ⟨gh, 0, none⟩) | 96 => vq = .pointer (some ⟨gh, 12, none⟩) | 97 => vq = .func (.method "loop.example/g00413/impl.long") #[.iface 87 (.pointer (some ⟨g, 0, none⟩))] #[] | 98 => vq = .func (.method "loop.example/g00413/impl.long") #[.iface 87 (.pointer (some ⟨g, 0, none⟩))] #[] | 99 => vq = .iface 87 (.pointer (some ⟨g, 0, none⟩)) | _ => True) (by kernel_rfl) (by kernel_rfl) ((Below.refl _ _).drew) (fun _ _ _ _ _ _ h => h) (by simp) ?hops ?hend
                      case hops =>
                        simp only [List.take_succ_cons, List.take_zero, List.forall_mem_cons]
                        refine ⟨?o93, ?o94, ?o95, ?o96, ?o97, ?o98, ?o99, fun _ h => by cases h⟩
                        case o93 =>
                          intro Q a w2 hC hV hI
                          have e1 : a.eval (.tmp 1) = .iface 87 (.pointer (some ⟨g, 0, none⟩)) := (hI 1 (by simp [Op.operands]) (by kernel_rfl)).trans rfl
                          have f1 : a.tmps.getD 1 undef = .iface 87 (.pointer (some ⟨g, 0, none⟩)) := e1
                          have g1 : a.tmps[1]?.getD undef = .iface 87 (.pointer (some ⟨g, 0, none⟩)) := by rw [← Array.getD_eq_getD_getElem?]; exact e1
                          refine op_val (.iface 87 (.pointer (some ⟨g, 0, none⟩))) ?_ hC (Below.refl _ _) (by intro d hd; cases hd; rfl)
                          (clear hV hI hC; go_simp <;> (first | rfl | simp | (rw [IntKind.wrap_i64]; omega)))
                        case o94 =>
                          intro Q a w2 hC hV hI
                          have e0 : a.eval (.tmp 0) = .pointer (some ⟨gh, 0, none⟩) := (hI 0 (by simp [Op.operands]) (by kernel_rfl)).trans rfl
                          have f0 : a.tmps.getD 0 undef = .pointer (some ⟨gh, 0, none⟩) := e0
                          have g0 : a.tmps[0]?.getD undef = .pointer (some ⟨gh, 0, none⟩) := by rw [← Array.getD_eq_getD_getElem?]; exact e0
                          refine op_val (.pointer (some ⟨gh, 0, none⟩)) ?_ hC (Below.refl _ _) (by intro d hd; cases hd; rfl)
                          (clear hV hI hC; go_simp <;> (first | rfl | simp | (rw [IntKind.wrap_i64]; omega)))
                        case o95 =>
                          intro Q a w2 hC hV hI
                          have e94 : a.eval (.tmp 94) = .pointer (some ⟨gh, 0, none⟩) := hV 94 (by simp [Op.operands]) (by kernel_rfl)
                          have f94 : a.tmps.getD 94 undef = .pointer (some ⟨gh, 0, none⟩) := e94
                          have g94 : a.tmps[94]?.getD undef = .pointer (some ⟨gh, 0, none⟩) := by rw [← Array.getD_eq_getD_getElem?]; exact e94
                          refine op_val (.pointer (some ⟨gh, 0, none⟩)) ?_ hC (Below.refl _ _) (by intro d hd; cases hd; rfl)
                          (clear hV hI hC; go_simp <;> (first | rfl | simp | (rw [IntKind.wrap_i64]; omega)))
                        case o96 =>
                          intro Q a w2 hC hV hI
                          have e95 : a.eval (.tmp 95) = .pointer (some ⟨gh, 0, none⟩) := hV 95 (by simp [Op.operands]) (by kernel_rfl)
                          have f95 : a.tmps.getD 95 undef = .pointer (some ⟨gh, 0, none⟩) := e95
                          have g95 : a.tmps[95]?.getD undef = .pointer (some ⟨gh, 0, none⟩) := by rw [← Array.getD_eq_getD_getElem?]; exact e95
                          refine op_val (.pointer (some ⟨gh, 12, none⟩)) ?_ hC (Below.refl _ _) (by intro d hd; cases hd; rfl)
                          (clear hV hI hC; go_simp <;> (first | rfl | simp | (rw [IntKind.wrap_i64]; omega)))
                        case o97 =>
                          intro Q a w2 hC hV hI
                          have e93 : a.eval (.tmp 93) = .iface 87 (.pointer (some ⟨g, 0, none⟩)) := hV 93 (by simp [Op.operands]) (by kernel_rfl)
                          have f93 : a.tmps.getD 93 undef = .iface 87 (.pointer (some ⟨g, 0, none⟩)) := e93
                          have g93 : a.tmps[93]?.getD undef = .iface 87 (.pointer (some ⟨g, 0, none⟩)) := by rw [← Array.getD_eq_getD_getElem?]; exact e93
                          refine op_val (.func (.method "loop.example/g00413/impl.long") #[.iface 87 (.pointer (some ⟨g, 0, none⟩))] #[]) ?_ hC (Below.refl _ _) (by intro d hd; cases hd; rfl)
                          (clear hV hI hC; go_simp <;> (first | rfl | simp | (rw [IntKind.wrap_i64]; omega)))
                        case o98 =>
                          intro Q a w2 hC hV hI
                          have e97 : a.eval (.tmp 97) = .func (.method "loop.example/g00413/impl.long") #[.iface 87 (.pointer (some ⟨g, 0, none⟩))] #[] := hV 97 (by simp [Op.operands]) (by kernel_rfl)
                          have f97 : a.tmps.getD 97 undef = .func (.method "loop.example/g00413/impl.long") #[.iface 87 (.pointer (some ⟨g, 0, none⟩))] #[] := e97
                          have g97 : a.tmps[97]?.getD undef = .func (.method "loop.example/g00413/impl.long") #[.iface 87 (.pointer (some ⟨g, 0, none⟩))] #[] := by rw [← Array.getD_eq_getD_getElem?]; exact e97
                          refine op_val (.func (.method "loop.example/g00413/impl.long") #[.iface 87 (.pointer (some ⟨g, 0, none⟩))] #[]) ?_ hC (Below.refl _ _) (by intro d hd; cases hd; rfl)
                          (clear hV hI hC; go_simp <;> (first | rfl | simp | (rw [IntKind.wrap_i64]; omega)))
                        case o99 =>
                          intro Q a w2 hC hV hI
                          have e93 : a.eval (.tmp 93) = .iface 87 (.pointer (some ⟨g, 0, none⟩)) := hV 93 (by simp [Op.operands]) (by kernel_rfl)
                          have f93 : a.tmps.getD 93 undef = .iface 87 (.pointer (some ⟨g, 0, none⟩)) := e93
                          have g93 : a.tmps[93]?.getD undef = .iface 87 (.pointer (some ⟨g, 0, none⟩)) := by rw [← Array.getD_eq_getD_getElem?]; exact e93
                          refine op_val (.iface 87 (.pointer (some ⟨g, 0, none⟩))) ?_ hC (Below.refl _ _) (by intro d hd; cases hd; rfl)
                          (clear hV hI hC; go_simp <;> (first | rfl | simp | (rw [IntKind.wrap_i64]; omega)))
                      case hend =>
                        intro f v11 hC hall
                        simp only [List.take_succ_cons, List.take_zero, List.drop_succ_cons, List.drop_zero] at hall ⊢
                        simp only [List.forall_mem_cons] at hall
                        obtain ⟨h93, h94, h95, h96, h97, h98, h99, _⟩ := hall
                        replace h93 : f 93 = .iface 87 (.pointer (some ⟨g, 0, none⟩)) := h93 93 rfl
                        replace h94 : f 94 = .pointer (some ⟨gh, 0, none⟩) := h94 94 rfl
                        replace h95 : f 95 = .pointer (some ⟨gh, 0, none⟩) := h95 95 rfl
                        replace h96 : f 96 = .pointer (some ⟨gh, 12, none⟩) := h96 96 rfl
                        replace h97 : f 97 = .func (.method "loop.example/g00413/impl.long") #[.iface 87 (.pointer (some ⟨g, 0, none⟩))] #[] := h97 97 rfl
                        replace h98 : f 98 = .func (.method "loop.example/g00413/impl.long") #[.iface 87 (.pointer (some ⟨g, 0, none⟩))] #[] := h98 98 rfl
                        replace h99 : f 99 = .iface 87 (.pointer (some ⟨g, 0, none⟩)) := h99 99 rfl
                        simp only [putAll, Act.put, List.setIfInBounds_toArray, List.set_cons_succ, List.set_cons_zero, h93, h94, h95, h96, h97, h98, h99]
                        clear h93 h94 h95 h96 h97 h98 h99
                        have W11 := Lib.hid (HW10.out.below hC)
                        have H11 := Lib.hid ((hC.block gh (by have := HW10.out.lt; omega)).trans HH10.out)
                        have C11 := Lib.hid (B10.out.trans (hC.mono (by have := HW10.out.lt; omega)))
                        clear hC HW10 HH10 B10
                        have q11 := Lib.hid (long_r g gh 12 s ((j + 22 : Nat) : Int) hi #[.int .i64 x3, .int .i64 x4, .int .i64 x5, .int .i64 x6, .int .i64 x7, .int .i64 x9, .string ⟨#[]⟩, .string ⟨#[]⟩, .int .i64 x1, .int .i64 x2, .int .i64 x8, .int .i64 x10, .int .i64 0] T v11 hs (by omega) W11.out H11.out (by omega) ⟨_, rfl⟩)
                        go_wp2_with fail
                        refine q11.out.mono ?_
                        rintro e w11 ⟨rfl, hw, hh, hb⟩
                        rw [show (((j + 22 : Nat) : Int) + 4) = ((j + 26 : Nat) : Int) from by omega] at hw
                        simp only [List.setIfInBounds_toArray, List.set_cons_succ, List.set_cons_zero] at hh
                        rw [← X11.out] at hh
                        have HW11 : Hid (RdO w11 g s ((j + 26 : Nat) : Int) hi) := Lib.hid hw
                        have HH11 : Hid (w11.heap[gh]? = some (.cells #[.int .i64 x3, .int .i64 x4, .int .i64 x5, .int .i64 x6, .int .i64 x7, .int .i64 x9, .string ⟨#[]⟩, .string ⟨#[]⟩, .int .i64 x1, .int .i64 x2, .int .i64 x8, .int .i64 x10, .int .i64 x11] T (0, 0))) := Lib.hid hh
                        have B11 := Lib.hid (C11.out.trans (hb gh (by omega) (Nat.le_refl _)))
                        clear hw hh hb H11 W11 C11 q11 X11
                        have q := Lib.hid (made_r g s ((j + 26 : Nat) : Int) hi w11 HW11.out)
                        go_wp2_with fail
                        refine q.out.mono ?_
                        rintro e wz ⟨rfl, rfl⟩
                        go_wp2_with fail
                        go_ret
                        exact ⟨rfl, HH11.out, B11.out⟩
end Go.Proofs.YtancidbbkoeokaaGreat

/- The writer of a card's head: its methods. -/
namespace Go.Proofs.YtancidbbkoeokaaGreat
open Go.ChangeShapes Go.WideShapes Go.ChangeAt Go.RowKit Go.Deep

/-- The writer in a block of its own: the order of bytes, what is written, whether a number had no room. -/
def WrO (w : World) (g : Nat) (hi : Bool) (l : List UInt8) (rf : Bool) : Prop := ∃ v, w.heap[g]? = some (.cells #[.bool hi, v, .bool rf] 85 (0, 0)) ∧ OwnB w g v l
theorem heap_setW {w : World} {g i : Nat} {cs : Array Value} {t : TypeId} {v : Value} (h : w.heap[g]? = some (.cells cs t (0, 0))) : (w.setCell ⟨g, i, none⟩ v).heap[g]? = some (.cells (cs.setIfInBounds i v) t (0, 0)) := by
  have hlt : g < w.heap.size := (Array.getElem?_eq_some_iff.1 h).1
  have hg : w.heap[g] = .cells cs t (0, 0) := (Array.getElem?_eq_some_iff.1 h).2
  simp [World.setCell, hlt, Array.getElem_modify, hg]
theorem own_neB {w : World} {base : Nat} {e t : TypeId} {v : Value} {n g : Nat} {xs : List Value} {cs : Array Value} {fr : Nat × Nat} (h : w.ownsRow base e 1 v n xs) (hg : w.heap[g]? = some (.cells cs t fr)) (ht : ¬ t = e) : some g ≠ v.ownBlock := by
  intro e1
  rcases h.2 with ⟨h0, _⟩ | ⟨g', cap', cur, hv, hg', hh, _⟩
  · subst h0; simp [Value.ownBlock] at e1
  · subst hv
    simp [Value.ownBlock] at e1
    subst e1
    rw [hg] at hh
    simp at hh
    exact ht hh.2.1
/-- A store into another block keeps a row. -/
theorem own_setB {w : World} {base : Nat} {v : Value} {l : List UInt8} {g i : Nat} {u : Value} (h : OwnB w base v l) (hne : some g ≠ v.ownBlock) : OwnB (w.setCell ⟨g, i, none⟩ u) base v l :=
  World.ownsRow.kept h (row := some g) ⟨rfl, rfl, rfl, by simp, fun k hk hn => Below.heap_setCell w _ u k (fun e => hn (by rw [e]))⟩ (by
    cases hv : v.ownBlock with
    | none => exact .inl rfl
    | some b => exact .inr (fun e => hne (by rw [hv, ← e])))
theorem textB {w : World} {base n : Nat} {v : Value} {l : List UInt8} {s : ByteArray} (hn : n = l.length + s.size) (h : w.ownsRow base 5 1 v n (byteVals l ++ Lib.strCells s)) : OwnB w base v (l ++ s.data.toList) := by
  subst hn
  have e : byteVals l ++ Lib.strCells s = byteVals (l ++ s.data.toList) := by simp [byteVals, Lib.strCells]
  rw [e, show l.length + s.size = (l ++ s.data.toList).length from by simp] at h
  exact h
def outB (n most : Int) : Bool := decide (n < 0) || decide (most < n)
theorem outB_r16 (n : Int) : outB n 65535 = !r16 n := by unfold outB r16; by_cases h1 : n < 0 <;> by_cases h2 : (65535 : Int) < n <;> simp [h1, h2] <;> omega
theorem outB_r32 (n : Int) : outB n 4294967295 = !r32 n := by unfold outB r32; by_cases h1 : n < 0 <;> by_cases h2 : (4294967295 : Int) < n <;> simp [h1, h2] <;> omega
set_option maxHeartbeats 1600000 in
set_option maxRecDepth 8000 in
theorem add_any (g : Nat) (hi : Bool) (l : List UInt8) (rf : Bool) (n most : Int) (s : ByteArray) (w : World) (h : WrO w g hi l rf) (hl : l.length ≤ 1000) (hs : s.size ≤ 8) :
    Calls Tryz.prog 139 #[.pointer (some ⟨g, 0, none⟩), .int .i64 n, .int .i64 most, .string s] w fun e w' => e = .returned (.tuple #[]) ∧ WrO w' g hi (l ++ s.data.toList) (rf || outB n most) ∧ Below g w w' := by
  obtain ⟨i0, hi0, hz0, hz1, hz2⟩ := info_parts Tryz.info5
  obtain ⟨v, hg, ho⟩ := h
  have HG := Lib.hid hg
  have O := Lib.hid ho
  have hne := own_neB ho hg (by decide)
  have hlt := (Array.getElem?_eq_some_iff.1 hg).1
  have c1 : w.cell? ⟨g, 1, none⟩ = some v := by simp [World.cell?, hg]
  have c2 : w.cell? ⟨g, 2, none⟩ = some (.bool rf) := by simp [World.cell?, hg]
  have f2 : w.frozen? ⟨g, 2, none⟩ = false := by simp [World.frozen?, hg]
  obtain ⟨rf2, hrf⟩ : ∃ b, b = (rf || outB n most) := ⟨_, rfl⟩
  have HR := Lib.hid hrf
  rw [← hrf]
  have hG2 := heap_setW (i := 2) (v := .bool rf2) hg
  simp only [List.setIfInBounds_toArray, List.set_cons_succ, List.set_cons_zero] at hG2
  have HG2 := Lib.hid hG2
  have O2 := Lib.hid (own_setB (i := 2) (u := .bool rf2) ho hne)
  have B2 : Hid (Below g w (w.setCell ⟨g, 2, none⟩ (.bool rf2))) := Lib.hid ((Below.refl g w).setCell (Nat.le_refl _) _)
  have hsz2 : (w.setCell ⟨g, 2, none⟩ (.bool rf2)).heap.size = w.heap.size := by simp
  have HNe := Lib.hid hne
  unfold outB at hrf
  clear hg ho hne hG2
  rcases (show (rf = true ∧ rf2 = true) ∨ (rf = false ∧ n < 0 ∧ rf2 = true) ∨ (rf = false ∧ ¬ n < 0 ∧ most < n ∧ rf2 = true) ∨ (rf = false ∧ ¬ n < 0 ∧ ¬ most < n ∧ rf2 = false) from by rw [hrf]; clear hrf HR HG2 O2 B2 hsz2 c2; cases rf <;> by_cases h2 : n < 0 <;> by_cases h3 : most < n <;> simp [h2, h3]) with ⟨rfl, rfl⟩ | ⟨rfl, h2, rfl⟩ | ⟨rfl, h2, h3, rfl⟩ | ⟨rfl, h2, h3, rfl⟩
  all_goals
    clear hrf HR
    go_enter Tryz.func139, Tryz.ntmps139
    go_upto_region 1 with fail
    clear c1 c2 f2
    generalize World.setCell w _ _ = w2 at HG2 O2 B2 hsz2 ⊢
    have c1 : w2.cell? ⟨g, 1, none⟩ = some v := by simp [World.cell?, HG2.out]
    go_wp2_with (at_builtin; refine Lib.wpList_append_own_string _ rfl _ _ 66 9 rfl g 5 i0 Tryz.underlying66 Tryz.underlying9 hi0 hz0 hz1 hz2 _ _ _ rfl O2.out s rfl ?pp ?pq ?pr ?_)
    case pp => simp only [maxLen]; omega
    case pq => omega
    case pr => omega
    intro v9 w9 hown hgrow hnil
    obtain ⟨ao, nn, cc, rfl⟩ : ∃ ao nn cc, v9 = .slice ao nn cc := by
      rcases hown.2 with ⟨h9, _⟩ | ⟨_, _, _, h9, _⟩
      · exact ⟨_, _, _, h9⟩
      · exact ⟨_, _, _, h9⟩
    have O9 : Hid (OwnB w9 g (.slice ao nn cc) (l ++ s.data.toList)) := Lib.hid (textB rfl hown)
    have G9 : Hid (w9.heap[g]? = some (.cells #[.bool hi, v, .bool _] 85 (0, 0))) := Lib.hid ((hgrow.block g (by omega) HNe.out).trans HG2.out)
    have B9 : Hid (Below g w w9) := Lib.hid (B2.out.grown hgrow (by omega) (fun b hb => (World.ownsRow.lt O2.out b hb).1))
    have hne9 := own_neB hown G9.out (by decide)
    clear hown hgrow hnil c1
    have c1 : w9.cell? ⟨g, 1, none⟩ = some v := by simp [World.cell?, G9.out]
    have f1 : w9.frozen? ⟨g, 1, none⟩ = false := by simp [World.frozen?, G9.out]
    go_wp2_with fail
    refine bodyPost_end (results_none rfl _ _ _) rfl ?_
    have hg9 := heap_setW (i := 1) (v := .slice ao nn cc) G9.out
    simp only [List.setIfInBounds_toArray, List.set_cons_succ, List.set_cons_zero] at hg9
    refine ⟨rfl, ⟨.slice ao nn cc, hg9, own_setB O9.out hne9⟩, B9.out.setCell (Nat.le_refl _) _⟩
-- WRITER
set_option maxHeartbeats 1600000 in
set_option maxRecDepth 8000 in
theorem short_w (g gh i : Nat) (hi : Bool) (l : List UInt8) (rf : Bool) (x : Int) (w : World) (h : WrO w g hi l rf) (hl : l.length ≤ 1000) (hx : w.cell? ⟨gh, i, none⟩ = some (.int .i64 x)) :
    Calls Tryz.prog 138 #[.pointer (some ⟨g, 0, none⟩), .pointer (some ⟨gh, i, none⟩)] w fun e w' => e = .returned (.tuple #[]) ∧ WrO w' g hi (l ++ (put16v x hi).data.toList) (rf || !r16 x) ∧ Below g w w' := by
  have HP := Lib.hid (fun w => put16_impl x hi w)
  have hz : (put16v x hi).size ≤ 8 := by rw [put16_size]; decide
  have HA := Lib.hid (fun w h => add_any g hi l rf x 65535 (put16v x hi) w h hl hz)
  rw [outB_r16] at HA
  generalize put16v x hi = q at HP HA
  clear hz
  obtain ⟨v, hg, ho⟩ := h
  have hlt := (Array.getElem?_eq_some_iff.1 hg).1
  have hgl : gh < w.heap.size := by
    cases h9 : w.heap[gh]? with
    | none => simp [World.cell?, h9] at hx
    | some o => exact (Array.getElem?_eq_some_iff.1 h9).1
  have k0 : w.cell? ⟨g, 0, none⟩ = some (.bool hi) := by simp [World.cell?, hg]
  have KC : Hid (∀ w', Below w.heap.size w w' → w'.cell? ⟨gh, i, none⟩ = some (.int .i64 x) ∧ w'.cell? ⟨g, 0, none⟩ = some (.bool hi)) := Lib.hid (fun w' hb => ⟨(hb.cell (p := ⟨gh, i, none⟩) hgl).trans hx, (hb.cell (p := ⟨g, 0, none⟩) hlt).trans k0⟩)
  have HW : Hid (∀ w', Below w.heap.size w w' → WrO w' g hi l rf) := Lib.hid (fun w' hb => ⟨v, (hb.block g hlt).trans hg, World.ownsRow.kept ho (row := none) ⟨hb.os, hb.tape, hb.output, hb.size, fun k hk _ => hb.block k hk⟩ (by cases hv : v.ownBlock <;> simp)⟩)
  clear k0 hx hg ho
  go_enter Tryz.func138, Tryz.ntmps138
  refine wp_region_cut 12 (by kernel_rfl) (fun w' => Below w.heap.size w w') (fun x y => Below x.heap.size x y) (fun dq vq _ => match dq with | 4 => vq = .pointer (some ⟨g, 0, none⟩) | 5 => vq = .pointer (some ⟨gh, i, none⟩) | 6 => vq = .pointer (some ⟨gh, i, none⟩) | 7 => vq = .int .i64 x | 8 => vq = .pointer (some ⟨gh, i, none⟩) | 9 => vq = .pointer (some ⟨gh, i, none⟩) | 10 => vq = .int .i64 x | 11 => vq = .pointer (some ⟨g, 0, none⟩) | 12 => vq = .pointer (some ⟨g, 0, none⟩) | 13 => vq = .pointer (some ⟨g, 0, none⟩) | 14 => vq = .bool hi | 15 => vq = .string q | _ => True) (by kernel_rfl) (by kernel_rfl) ((Below.refl _ _).drew) (fun _ _ _ _ _ _ h => h) (by simp) ?hops ?hend
  case hops =>
    simp only [List.take_succ_cons, List.take_zero, List.forall_mem_cons]
    refine ⟨?o4, ?o5, ?o6, ?o7, ?o8, ?o9, ?o10, ?o11, ?o12, ?o13, ?o14, ?o15, fun _ h => by cases h⟩
    case o4 =>
      intro Q a w2 hC hV hI
      have e0 : a.eval (.tmp 0) = .pointer (some ⟨g, 0, none⟩) := (hI 0 (by simp [Op.operands]) (by kernel_rfl)).trans rfl
      have f0 : a.tmps.getD 0 undef = .pointer (some ⟨g, 0, none⟩) := e0
      have g0 : a.tmps[0]?.getD undef = .pointer (some ⟨g, 0, none⟩) := by rw [← Array.getD_eq_getD_getElem?]; exact e0
      refine op_val (.pointer (some ⟨g, 0, none⟩)) ?_ hC (Below.refl _ _) (by intro d hd; cases hd; rfl)
      (clear hV hI hC; go_simp <;> (first | rfl | simp | (rw [IntKind.wrap_i64]; omega)))
    case o5 =>
      intro Q a w2 hC hV hI
      have e1 : a.eval (.tmp 1) = .pointer (some ⟨gh, i, none⟩) := (hI 1 (by simp [Op.operands]) (by kernel_rfl)).trans rfl
      have f1 : a.tmps.getD 1 undef = .pointer (some ⟨gh, i, none⟩) := e1
      have g1 : a.tmps[1]?.getD undef = .pointer (some ⟨gh, i, none⟩) := by rw [← Array.getD_eq_getD_getElem?]; exact e1
      refine op_val (.pointer (some ⟨gh, i, none⟩)) ?_ hC (Below.refl _ _) (by intro d hd; cases hd; rfl)
      (clear hV hI hC; go_simp <;> (first | rfl | simp | (rw [IntKind.wrap_i64]; omega)))
    case o6 =>
      intro Q a w2 hC hV hI
      have e5 : a.eval (.tmp 5) = .pointer (some ⟨gh, i, none⟩) := hV 5 (by simp [Op.operands]) (by kernel_rfl)
      have f5 : a.tmps.getD 5 undef = .pointer (some ⟨gh, i, none⟩) := e5
      have g5 : a.tmps[5]?.getD undef = .pointer (some ⟨gh, i, none⟩) := by rw [← Array.getD_eq_getD_getElem?]; exact e5
      refine op_val (.pointer (some ⟨gh, i, none⟩)) ?_ hC (Below.refl _ _) (by intro d hd; cases hd; rfl)
      (clear hV hI hC; go_simp <;> (first | rfl | simp | (rw [IntKind.wrap_i64]; omega)))
    case o7 =>
      intro Q a w2 hC hV hI
      have e6 : a.eval (.tmp 6) = .pointer (some ⟨gh, i, none⟩) := hV 6 (by simp [Op.operands]) (by kernel_rfl)
      have f6 : a.tmps.getD 6 undef = .pointer (some ⟨gh, i, none⟩) := e6
      have g6 : a.tmps[6]?.getD undef = .pointer (some ⟨gh, i, none⟩) := by rw [← Array.getD_eq_getD_getElem?]; exact e6
      have hK := KC.out w2 hC
      refine op_val (.int .i64 x) ?_ hC (Below.refl _ _) (by intro d hd; cases hd; rfl)
      (clear hV hI hC; go_simp <;> (first | rfl | simp | (rw [IntKind.wrap_i64]; omega)))
    case o8 =>
      intro Q a w2 hC hV hI
      have e1 : a.eval (.tmp 1) = .pointer (some ⟨gh, i, none⟩) := (hI 1 (by simp [Op.operands]) (by kernel_rfl)).trans rfl
      have f1 : a.tmps.getD 1 undef = .pointer (some ⟨gh, i, none⟩) := e1
      have g1 : a.tmps[1]?.getD undef = .pointer (some ⟨gh, i, none⟩) := by rw [← Array.getD_eq_getD_getElem?]; exact e1
      refine op_val (.pointer (some ⟨gh, i, none⟩)) ?_ hC (Below.refl _ _) (by intro d hd; cases hd; rfl)
      (clear hV hI hC; go_simp <;> (first | rfl | simp | (rw [IntKind.wrap_i64]; omega)))
    case o9 =>
      intro Q a w2 hC hV hI
      have e8 : a.eval (.tmp 8) = .pointer (some ⟨gh, i, none⟩) := hV 8 (by simp [Op.operands]) (by kernel_rfl)
      have f8 : a.tmps.getD 8 undef = .pointer (some ⟨gh, i, none⟩) := e8
      have g8 : a.tmps[8]?.getD undef = .pointer (some ⟨gh, i, none⟩) := by rw [← Array.getD_eq_getD_getElem?]; exact e8
      refine op_val (.pointer (some ⟨gh, i, none⟩)) ?_ hC (Below.refl _ _) (by intro d hd; cases hd; rfl)
      (clear hV hI hC; go_simp <;> (first | rfl | simp | (rw [IntKind.wrap_i64]; omega)))
    case o10 =>
      intro Q a w2 hC hV hI
      have e9 : a.eval (.tmp 9) = .pointer (some ⟨gh, i, none⟩) := hV 9 (by simp [Op.operands]) (by kernel_rfl)
      have f9 : a.tmps.getD 9 undef = .pointer (some ⟨gh, i, none⟩) := e9
      have g9 : a.tmps[9]?.getD undef = .pointer (some ⟨gh, i, none⟩) := by rw [← Array.getD_eq_getD_getElem?]; exact e9
      have hK := KC.out w2 hC
      refine op_val (.int .i64 x) ?_ hC (Below.refl _ _) (by intro d hd; cases hd; rfl)
      (clear hV hI hC; go_simp <;> (first | rfl | simp | (rw [IntKind.wrap_i64]; omega)))
    case o11 =>
      intro Q a w2 hC hV hI
      have e0 : a.eval (.tmp 0) = .pointer (some ⟨g, 0, none⟩) := (hI 0 (by simp [Op.operands]) (by kernel_rfl)).trans rfl
      have f0 : a.tmps.getD 0 undef = .pointer (some ⟨g, 0, none⟩) := e0
      have g0 : a.tmps[0]?.getD undef = .pointer (some ⟨g, 0, none⟩) := by rw [← Array.getD_eq_getD_getElem?]; exact e0
      refine op_val (.pointer (some ⟨g, 0, none⟩)) ?_ hC (Below.refl _ _) (by intro d hd; cases hd; rfl)
      (clear hV hI hC; go_simp <;> (first | rfl | simp | (rw [IntKind.wrap_i64]; omega)))
    case o12 =>
      intro Q a w2 hC hV hI
      have e11 : a.eval (.tmp 11) = .pointer (some ⟨g, 0, none⟩) := hV 11 (by simp [Op.operands]) (by kernel_rfl)
      have f11 : a.tmps.getD 11 undef = .pointer (some ⟨g, 0, none⟩) := e11
      have g11 : a.tmps[11]?.getD undef = .pointer (some ⟨g, 0, none⟩) := by rw [← Array.getD_eq_getD_getElem?]; exact e11
      refine op_val (.pointer (some ⟨g, 0, none⟩)) ?_ hC (Below.refl _ _) (by intro d hd; cases hd; rfl)
      (clear hV hI hC; go_simp <;> (first | rfl | simp | (rw [IntKind.wrap_i64]; omega)))
    case o13 =>
      intro Q a w2 hC hV hI
      have e12 : a.eval (.tmp 12) = .pointer (some ⟨g, 0, none⟩) := hV 12 (by simp [Op.operands]) (by kernel_rfl)
      have f12 : a.tmps.getD 12 undef = .pointer (some ⟨g, 0, none⟩) := e12
      have g12 : a.tmps[12]?.getD undef = .pointer (some ⟨g, 0, none⟩) := by rw [← Array.getD_eq_getD_getElem?]; exact e12
      refine op_val (.pointer (some ⟨g, 0, none⟩)) ?_ hC (Below.refl _ _) (by intro d hd; cases hd; rfl)
      (clear hV hI hC; go_simp <;> (first | rfl | simp | (rw [IntKind.wrap_i64]; omega)))
    case o14 =>
      intro Q a w2 hC hV hI
      have e13 : a.eval (.tmp 13) = .pointer (some ⟨g, 0, none⟩) := hV 13 (by simp [Op.operands]) (by kernel_rfl)
      have f13 : a.tmps.getD 13 undef = .pointer (some ⟨g, 0, none⟩) := e13
      have g13 : a.tmps[13]?.getD undef = .pointer (some ⟨g, 0, none⟩) := by rw [← Array.getD_eq_getD_getElem?]; exact e13
      have hK := KC.out w2 hC
      refine op_val (.bool hi) ?_ hC (Below.refl _ _) (by intro d hd; cases hd; rfl)
      (clear hV hI hC; go_simp <;> (first | rfl | simp | (rw [IntKind.wrap_i64]; omega)))
    case o15 =>
      intro Q a w2 hC hV hI
      have e10 : a.eval (.tmp 10) = .int .i64 x := hV 10 (by simp [Op.operands, Call.operands]) (by kernel_rfl)
      have f10 : a.tmps.getD 10 undef = .int .i64 x := e10
      have g10 : a.tmps[10]?.getD undef = .int .i64 x := by rw [← Array.getD_eq_getD_getElem?]; exact e10
      have e14 : a.eval (.tmp 14) = .bool hi := hV 14 (by simp [Op.operands, Call.operands]) (by kernel_rfl)
      have f14 : a.tmps.getD 14 undef = .bool hi := e14
      have g14 : a.tmps[14]?.getD undef = .bool hi := by rw [← Array.getD_eq_getD_getElem?]; exact e14
      refine op_call (f := 27) (args := #[.int .i64 x, .bool hi]) (R := fun v y => v = .string q ∧ Below w2.heap.size w2 y) ?_ ((HP.out w2).mono ?_) ?_
      · (clear hV hI hC; go_simp <;> (first | rfl | simp | (rw [IntKind.wrap_i64]; omega)))
      · rintro e y ⟨rfl, hb⟩; exact ⟨_, rfl, rfl, hb⟩
      · rintro v y ⟨rfl, hb⟩; exact ⟨hC.trans (hb.mono hC.size), hb, by intro d hd; cases hd; rfl⟩
  case hend =>
    intro f w2 hC hall
    simp only [List.take_succ_cons, List.take_zero, List.drop_succ_cons, List.drop_zero] at hall ⊢
    simp only [List.forall_mem_cons] at hall
    obtain ⟨h4, h5, h6, h7, h8, h9, h10, h11, h12, h13, h14, h15, _⟩ := hall
    replace h4 : f 4 = .pointer (some ⟨g, 0, none⟩) := h4 4 rfl
    replace h5 : f 5 = .pointer (some ⟨gh, i, none⟩) := h5 5 rfl
    replace h6 : f 6 = .pointer (some ⟨gh, i, none⟩) := h6 6 rfl
    replace h7 : f 7 = .int .i64 x := h7 7 rfl
    replace h8 : f 8 = .pointer (some ⟨gh, i, none⟩) := h8 8 rfl
    replace h9 : f 9 = .pointer (some ⟨gh, i, none⟩) := h9 9 rfl
    replace h10 : f 10 = .int .i64 x := h10 10 rfl
    replace h11 : f 11 = .pointer (some ⟨g, 0, none⟩) := h11 11 rfl
    replace h12 : f 12 = .pointer (some ⟨g, 0, none⟩) := h12 12 rfl
    replace h13 : f 13 = .pointer (some ⟨g, 0, none⟩) := h13 13 rfl
    replace h14 : f 14 = .bool hi := h14 14 rfl
    replace h15 : f 15 = .string q := h15 15 rfl
    simp only [putAll, Act.put, List.setIfInBounds_toArray, List.set_cons_succ, List.set_cons_zero, h4, h5, h6, h7, h8, h9, h10, h11, h12, h13, h14, h15]
    clear h4 h5 h6 h7 h8 h9 h10 h11 h12 h13 h14 h15
    go_wp2_with fail
    refine (HA.out _ (HW.out _ hC)).mono ?_
    rintro e w3 ⟨rfl, hw3, hb3⟩
    have B3 := (hC.mono (Nat.le_of_lt hlt)).trans hb3
    clear KC HW HA HP hC hb3
    go_wp2_with fail
    refine bodyPost_end (results_none rfl _ _ _) rfl ?_
    exact ⟨rfl, hw3, B3⟩
set_option maxHeartbeats 1600000 in
set_option maxRecDepth 8000 in
theorem long_w (g gh i : Nat) (hi : Bool) (l : List UInt8) (rf : Bool) (x : Int) (w : World) (h : WrO w g hi l rf) (hl : l.length ≤ 1000) (hx : w.cell? ⟨gh, i, none⟩ = some (.int .i64 x)) :
    Calls Tryz.prog 136 #[.pointer (some ⟨g, 0, none⟩), .pointer (some ⟨gh, i, none⟩)] w fun e w' => e = .returned (.tuple #[]) ∧ WrO w' g hi (l ++ (put32v x hi).data.toList) (rf || !r32 x) ∧ Below g w w' := by
  have HP := Lib.hid (fun w => put32_impl x hi w)
  have hz : (put32v x hi).size ≤ 8 := by rw [put32_size]; decide
  have HA := Lib.hid (fun w h => add_any g hi l rf x 4294967295 (put32v x hi) w h hl hz)
  rw [outB_r32] at HA
  generalize put32v x hi = q at HP HA
  clear hz
  obtain ⟨v, hg, ho⟩ := h
  have hlt := (Array.getElem?_eq_some_iff.1 hg).1
  have hgl : gh < w.heap.size := by
    cases h9 : w.heap[gh]? with
    | none => simp [World.cell?, h9] at hx
    | some o => exact (Array.getElem?_eq_some_iff.1 h9).1
  have k0 : w.cell? ⟨g, 0, none⟩ = some (.bool hi) := by simp [World.cell?, hg]
  have KC : Hid (∀ w', Below w.heap.size w w' → w'.cell? ⟨gh, i, none⟩ = some (.int .i64 x) ∧ w'.cell? ⟨g, 0, none⟩ = some (.bool hi)) := Lib.hid (fun w' hb => ⟨(hb.cell (p := ⟨gh, i, none⟩) hgl).trans hx, (hb.cell (p := ⟨g, 0, none⟩) hlt).trans k0⟩)
  have HW : Hid (∀ w', Below w.heap.size w w' → WrO w' g hi l rf) := Lib.hid (fun w' hb => ⟨v, (hb.block g hlt).trans hg, World.ownsRow.kept ho (row := none) ⟨hb.os, hb.tape, hb.output, hb.size, fun k hk _ => hb.block k hk⟩ (by cases hv : v.ownBlock <;> simp)⟩)
  clear k0 hx hg ho
  go_enter Tryz.func136, Tryz.ntmps136
  refine wp_region_cut 12 (by kernel_rfl) (fun w' => Below w.heap.size w w') (fun x y => Below x.heap.size x y) (fun dq vq _ => match dq with | 4 => vq = .pointer (some ⟨g, 0, none⟩) | 5 => vq = .pointer (some ⟨gh, i, none⟩) | 6 => vq = .pointer (some ⟨gh, i, none⟩) | 7 => vq = .int .i64 x | 8 => vq = .pointer (some ⟨gh, i, none⟩) | 9 => vq = .pointer (some ⟨gh, i, none⟩) | 10 => vq = .int .i64 x | 11 => vq = .pointer (some ⟨g, 0, none⟩) | 12 => vq = .pointer (some ⟨g, 0, none⟩) | 13 => vq = .pointer (some ⟨g, 0, none⟩) | 14 => vq = .bool hi | 15 => vq = .string q | _ => True) (by kernel_rfl) (by kernel_rfl) ((Below.refl _ _).drew) (fun _ _ _ _ _ _ h => h) (by simp) ?hops ?hend
  case hops =>
    simp only [List.take_succ_cons, List.take_zero, List.forall_mem_cons]
    refine ⟨?o4, ?o5, ?o6, ?o7, ?o8, ?o9, ?o10, ?o11, ?o12, ?o13, ?o14, ?o15, fun _ h => by cases h⟩
    case o4 =>
      intro Q a w2 hC hV hI
      have e0 : a.eval (.tmp 0) = .pointer (some ⟨g, 0, none⟩) := (hI 0 (by simp [Op.operands]) (by kernel_rfl)).trans rfl
      have f0 : a.tmps.getD 0 undef = .pointer (some ⟨g, 0, none⟩) := e0
      have g0 : a.tmps[0]?.getD undef = .pointer (some ⟨g, 0, none⟩) := by rw [← Array.getD_eq_getD_getElem?]; exact e0
      refine op_val (.pointer (some ⟨g, 0, none⟩)) ?_ hC (Below.refl _ _) (by intro d hd; cases hd; rfl)
      (clear hV hI hC; go_simp <;> (first | rfl | simp | (rw [IntKind.wrap_i64]; omega)))
    case o5 =>
      intro Q a w2 hC hV hI
      have e1 : a.eval (.tmp 1) = .pointer (some ⟨gh, i, none⟩) := (hI 1 (by simp [Op.operands]) (by kernel_rfl)).trans rfl
      have f1 : a.tmps.getD 1 undef = .pointer (some ⟨gh, i, none⟩) := e1
      have g1 : a.tmps[1]?.getD undef = .pointer (some ⟨gh, i, none⟩) := by rw [← Array.getD_eq_getD_getElem?]; exact e1
      refine op_val (.pointer (some ⟨gh, i, none⟩)) ?_ hC (Below.refl _ _) (by intro d hd; cases hd; rfl)
      (clear hV hI hC; go_simp <;> (first | rfl | simp | (rw [IntKind.wrap_i64]; omega)))
    case o6 =>
      intro Q a w2 hC hV hI
      have e5 : a.eval (.tmp 5) = .pointer (some ⟨gh, i, none⟩) := hV 5 (by simp [Op.operands]) (by kernel_rfl)
      have f5 : a.tmps.getD 5 undef = .pointer (some ⟨gh, i, none⟩) := e5
      have g5 : a.tmps[5]?.getD undef = .pointer (some ⟨gh, i, none⟩) := by rw [← Array.getD_eq_getD_getElem?]; exact e5
      refine op_val (.pointer (some ⟨gh, i, none⟩)) ?_ hC (Below.refl _ _) (by intro d hd; cases hd; rfl)
      (clear hV hI hC; go_simp <;> (first | rfl | simp | (rw [IntKind.wrap_i64]; omega)))
    case o7 =>
      intro Q a w2 hC hV hI
      have e6 : a.eval (.tmp 6) = .pointer (some ⟨gh, i, none⟩) := hV 6 (by simp [Op.operands]) (by kernel_rfl)
      have f6 : a.tmps.getD 6 undef = .pointer (some ⟨gh, i, none⟩) := e6
      have g6 : a.tmps[6]?.getD undef = .pointer (some ⟨gh, i, none⟩) := by rw [← Array.getD_eq_getD_getElem?]; exact e6
      have hK := KC.out w2 hC
      refine op_val (.int .i64 x) ?_ hC (Below.refl _ _) (by intro d hd; cases hd; rfl)
      (clear hV hI hC; go_simp <;> (first | rfl | simp | (rw [IntKind.wrap_i64]; omega)))
    case o8 =>
      intro Q a w2 hC hV hI
      have e1 : a.eval (.tmp 1) = .pointer (some ⟨gh, i, none⟩) := (hI 1 (by simp [Op.operands]) (by kernel_rfl)).trans rfl
      have f1 : a.tmps.getD 1 undef = .pointer (some ⟨gh, i, none⟩) := e1
      have g1 : a.tmps[1]?.getD undef = .pointer (some ⟨gh, i, none⟩) := by rw [← Array.getD_eq_getD_getElem?]; exact e1
      refine op_val (.pointer (some ⟨gh, i, none⟩)) ?_ hC (Below.refl _ _) (by intro d hd; cases hd; rfl)
      (clear hV hI hC; go_simp <;> (first | rfl | simp | (rw [IntKind.wrap_i64]; omega)))
    case o9 =>
      intro Q a w2 hC hV hI
      have e8 : a.eval (.tmp 8) = .pointer (some ⟨gh, i, none⟩) := hV 8 (by simp [Op.operands]) (by kernel_rfl)
      have f8 : a.tmps.getD 8 undef = .pointer (some ⟨gh, i, none⟩) := e8
      have g8 : a.tmps[8]?.getD undef = .pointer (some ⟨gh, i, none⟩) := by rw [← Array.getD_eq_getD_getElem?]; exact e8
      refine op_val (.pointer (some ⟨gh, i, none⟩)) ?_ hC (Below.refl _ _) (by intro d hd; cases hd; rfl)
      (clear hV hI hC; go_simp <;> (first | rfl | simp | (rw [IntKind.wrap_i64]; omega)))
    case o10 =>
      intro Q a w2 hC hV hI
      have e9 : a.eval (.tmp 9) = .pointer (some ⟨gh, i, none⟩) := hV 9 (by simp [Op.operands]) (by kernel_rfl)
      have f9 : a.tmps.getD 9 undef = .pointer (some ⟨gh, i, none⟩) := e9
      have g9 : a.tmps[9]?.getD undef = .pointer (some ⟨gh, i, none⟩) := by rw [← Array.getD_eq_getD_getElem?]; exact e9
      have hK := KC.out w2 hC
      refine op_val (.int .i64 x) ?_ hC (Below.refl _ _) (by intro d hd; cases hd; rfl)
      (clear hV hI hC; go_simp <;> (first | rfl | simp | (rw [IntKind.wrap_i64]; omega)))
    case o11 =>
      intro Q a w2 hC hV hI
      have e0 : a.eval (.tmp 0) = .pointer (some ⟨g, 0, none⟩) := (hI 0 (by simp [Op.operands]) (by kernel_rfl)).trans rfl
      have f0 : a.tmps.getD 0 undef = .pointer (some ⟨g, 0, none⟩) := e0
      have g0 : a.tmps[0]?.getD undef = .pointer (some ⟨g, 0, none⟩) := by rw [← Array.getD_eq_getD_getElem?]; exact e0
      refine op_val (.pointer (some ⟨g, 0, none⟩)) ?_ hC (Below.refl _ _) (by intro d hd; cases hd; rfl)
      (clear hV hI hC; go_simp <;> (first | rfl | simp | (rw [IntKind.wrap_i64]; omega)))
    case o12 =>
      intro Q a w2 hC hV hI
      have e11 : a.eval (.tmp 11) = .pointer (some ⟨g, 0, none⟩) := hV 11 (by simp [Op.operands]) (by kernel_rfl)
      have f11 : a.tmps.getD 11 undef = .pointer (some ⟨g, 0, none⟩) := e11
      have g11 : a.tmps[11]?.getD undef = .pointer (some ⟨g, 0, none⟩) := by rw [← Array.getD_eq_getD_getElem?]; exact e11
      refine op_val (.pointer (some ⟨g, 0, none⟩)) ?_ hC (Below.refl _ _) (by intro d hd; cases hd; rfl)
      (clear hV hI hC; go_simp <;> (first | rfl | simp | (rw [IntKind.wrap_i64]; omega)))
    case o13 =>
      intro Q a w2 hC hV hI
      have e12 : a.eval (.tmp 12) = .pointer (some ⟨g, 0, none⟩) := hV 12 (by simp [Op.operands]) (by kernel_rfl)
      have f12 : a.tmps.getD 12 undef = .pointer (some ⟨g, 0, none⟩) := e12
      have g12 : a.tmps[12]?.getD undef = .pointer (some ⟨g, 0, none⟩) := by rw [← Array.getD_eq_getD_getElem?]; exact e12
      refine op_val (.pointer (some ⟨g, 0, none⟩)) ?_ hC (Below.refl _ _) (by intro d hd; cases hd; rfl)
      (clear hV hI hC; go_simp <;> (first | rfl | simp | (rw [IntKind.wrap_i64]; omega)))
    case o14 =>
      intro Q a w2 hC hV hI
      have e13 : a.eval (.tmp 13) = .pointer (some ⟨g, 0, none⟩) := hV 13 (by simp [Op.operands]) (by kernel_rfl)
      have f13 : a.tmps.getD 13 undef = .pointer (some ⟨g, 0, none⟩) := e13
      have g13 : a.tmps[13]?.getD undef = .pointer (some ⟨g, 0, none⟩) := by rw [← Array.getD_eq_getD_getElem?]; exact e13
      have hK := KC.out w2 hC
      refine op_val (.bool hi) ?_ hC (Below.refl _ _) (by intro d hd; cases hd; rfl)
      (clear hV hI hC; go_simp <;> (first | rfl | simp | (rw [IntKind.wrap_i64]; omega)))
    case o15 =>
      intro Q a w2 hC hV hI
      have e10 : a.eval (.tmp 10) = .int .i64 x := hV 10 (by simp [Op.operands, Call.operands]) (by kernel_rfl)
      have f10 : a.tmps.getD 10 undef = .int .i64 x := e10
      have g10 : a.tmps[10]?.getD undef = .int .i64 x := by rw [← Array.getD_eq_getD_getElem?]; exact e10
      have e14 : a.eval (.tmp 14) = .bool hi := hV 14 (by simp [Op.operands, Call.operands]) (by kernel_rfl)
      have f14 : a.tmps.getD 14 undef = .bool hi := e14
      have g14 : a.tmps[14]?.getD undef = .bool hi := by rw [← Array.getD_eq_getD_getElem?]; exact e14
      refine op_call (f := 140) (args := #[.int .i64 x, .bool hi]) (R := fun v y => v = .string q ∧ Below w2.heap.size w2 y) ?_ ((HP.out w2).mono ?_) ?_
      · (clear hV hI hC; go_simp <;> (first | rfl | simp | (rw [IntKind.wrap_i64]; omega)))
      · rintro e y ⟨rfl, hb⟩; exact ⟨_, rfl, rfl, hb⟩
      · rintro v y ⟨rfl, hb⟩; exact ⟨hC.trans (hb.mono hC.size), hb, by intro d hd; cases hd; rfl⟩
  case hend =>
    intro f w2 hC hall
    simp only [List.take_succ_cons, List.take_zero, List.drop_succ_cons, List.drop_zero] at hall ⊢
    simp only [List.forall_mem_cons] at hall
    obtain ⟨h4, h5, h6, h7, h8, h9, h10, h11, h12, h13, h14, h15, _⟩ := hall
    replace h4 : f 4 = .pointer (some ⟨g, 0, none⟩) := h4 4 rfl
    replace h5 : f 5 = .pointer (some ⟨gh, i, none⟩) := h5 5 rfl
    replace h6 : f 6 = .pointer (some ⟨gh, i, none⟩) := h6 6 rfl
    replace h7 : f 7 = .int .i64 x := h7 7 rfl
    replace h8 : f 8 = .pointer (some ⟨gh, i, none⟩) := h8 8 rfl
    replace h9 : f 9 = .pointer (some ⟨gh, i, none⟩) := h9 9 rfl
    replace h10 : f 10 = .int .i64 x := h10 10 rfl
    replace h11 : f 11 = .pointer (some ⟨g, 0, none⟩) := h11 11 rfl
    replace h12 : f 12 = .pointer (some ⟨g, 0, none⟩) := h12 12 rfl
    replace h13 : f 13 = .pointer (some ⟨g, 0, none⟩) := h13 13 rfl
    replace h14 : f 14 = .bool hi := h14 14 rfl
    replace h15 : f 15 = .string q := h15 15 rfl
    simp only [putAll, Act.put, List.setIfInBounds_toArray, List.set_cons_succ, List.set_cons_zero, h4, h5, h6, h7, h8, h9, h10, h11, h12, h13, h14, h15]
    clear h4 h5 h6 h7 h8 h9 h10 h11 h12 h13 h14 h15
    go_wp2_with fail
    refine (HA.out _ (HW.out _ hC)).mono ?_
    rintro e w3 ⟨rfl, hw3, hb3⟩
    have B3 := (hC.mono (Nat.le_of_lt hlt)).trans hb3
    clear KC HW HA HP hC hb3
    go_wp2_with fail
    refine bodyPost_end (results_none rfl _ _ _) rfl ?_
    exact ⟨rfl, hw3, B3⟩
set_option maxRecDepth 8000 in
theorem made_w (g : Nat) (hi : Bool) (l : List UInt8) (rf : Bool) (w : World) (h : WrO w g hi l rf) :
    Calls Tryz.prog 137 #[.pointer (some ⟨g, 0, none⟩)] w fun e w' => e = .returned (.string (if rf then ⟨#[]⟩ else ⟨l.toArray⟩)) ∧ w' = w := by
  obtain ⟨v, hg, ho⟩ := h
  have c1 : w.cell? ⟨g, 1, none⟩ = some v := by simp [World.cell?, hg]
  have c2 : w.cell? ⟨g, 2, none⟩ = some (.bool rf) := by simp [World.cell?, hg]
  have hc := ho.conv
  clear hg
  obtain ⟨ao, nn, cc, rfl⟩ : ∃ ao nn cc, v = .slice ao nn cc := by
    rcases ho.2 with ⟨h9, _⟩ | ⟨_, _, _, h9, _⟩
    · exact ⟨_, _, _, h9⟩
    · exact ⟨_, _, _, h9⟩
  clear ho
  generalize (⟨l.toArray⟩ : ByteArray) = r at *
  cases rf with
  | true =>
    go_enter Tryz.func137, Tryz.ntmps137
    go_wp2_with fail
    go_ret
    exact ⟨rfl, rfl⟩
  | false =>
    go_enter Tryz.func137, Tryz.ntmps137
    go_wp2_with fail
    go_ret
    exact ⟨rfl, rfl⟩
end Go.Proofs.YtancidbbkoeokaaGreat
