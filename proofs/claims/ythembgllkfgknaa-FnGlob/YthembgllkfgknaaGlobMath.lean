/- Patterns, plain: which places of a text a pattern's tokens reach. -/
import Derived.Test.YthembgllkfgknaaPMath
import Derived.Test.YthembgllkfgknaaPartMath
import Derived.Lib.Strings
namespace Go.Proofs.Ythembgllkfgknaa
open Go.RowKit

/-- May a star go on from place j? -/
def stOk (s : ByteArray) (wide : Bool) (j : Nat) : Bool := wide || !decide ((s.data[j]!).toNat = 47)
def nst (s : ByteArray) (wide : Bool) (R : Nat → Bool) : Nat → Bool
  | 0 => R 0
  | k + 1 => R (k + 1) || (nst s wide R k && stOk s wide k)
/-- Does the token x take place j to j + 1? -/
def oneOk (s x : ByteArray) (j : Nat) : Bool := decide (x = s.extract j (j + 1)) || (decide (x = ⟨#[63]⟩) && !decide ((s.data[j]!).toNat = 47))
def one (s x : ByteArray) (R : Nat → Bool) : Nat → Bool
  | 0 => false
  | j + 1 => R j && oneOk s x j
def isStar (x : ByteArray) : Bool := decide (x.data[0]! = 42)
def isWide (x : ByteArray) : Bool := decide (x ≠ ⟨#[42]⟩)
def tokStep (s x : ByteArray) (R : Nat → Bool) : Nat → Bool := if isStar x = true then nst s (isWide x) R else one s x R
def globFold (s : ByteArray) (toks : List ByteArray) (R : Nat → Bool) : Nat → Bool := toks.foldl (fun R x => tokStep s x R) R
def toksL : List UInt8 → List (List UInt8)
  | [] => []
  | [c] => [[c]]
  | c :: d :: r => if c = 42 ∧ d = 42 then [42, 42] :: toksL r else [c] :: toksL (d :: r)
def toksAt (p : ByteArray) (i : Nat) : List ByteArray := (toksL (p.data.toList.drop i)).map baL
def zeroR (k : Nat) : Bool := decide (k = 0)
def globv (p s : ByteArray) : Bool := decide (p.size ≤ 50 ∧ s.size ≤ 300) && globFold s (toksAt p 0) zeroR s.size

theorem toksAt_end {p : ByteArray} {i : Nat} (h : p.size ≤ i) : toksAt p i = [] := by
  rw [toksAt, List.drop_eq_nil_of_le (by simpa using h)]; rfl
theorem toksAt_wide {p : ByteArray} {i : Nat} (h : i + 1 < p.size) (h1 : p[i] = 42) (h2 : p[i + 1] = 42) : toksAt p i = ⟨#[42, 42]⟩ :: toksAt p (i + 2) := by
  rw [toksAt, drop_at p i (by omega), drop_at p (i + 1) h, toksL, if_pos ⟨h1, h2⟩]
  rfl
theorem toksAt_one {p : ByteArray} {i : Nat} (h : i < p.size) (hn : ¬ ∃ h2 : i + 1 < p.size, p[i] = 42 ∧ p[i + 1] = 42) : toksAt p i = ⟨#[p[i]]⟩ :: toksAt p (i + 1) := by
  rw [toksAt, drop_at p i h]
  by_cases h2 : i + 1 < p.size
  · rw [drop_at p (i + 1) h2, toksL, if_neg (fun e => hn ⟨h2, e⟩), List.map_cons, toksAt, drop_at p (i + 1) h2]
    rfl
  · rw [toksAt, List.drop_eq_nil_of_le (by simp; omega)]
    rfl
theorem ext_one {p : ByteArray} {i : Nat} (h : i < p.size) : p.extract i (i + 1) = ⟨#[p[i]]⟩ := by
  apply ba_ext
  have e := drop_at p i h
  simp
  rw [e]; rfl
theorem ext_two {p : ByteArray} {i : Nat} (h : i + 1 < p.size) (h1 : p[i] = 42) (h2 : p[i + 1] = 42) : p.extract i (i + 2) = ⟨#[42, 42]⟩ := by
  apply ba_ext
  have e := drop_at p i (by omega)
  have e2 := drop_at p (i + 1) h
  simp
  rw [e, e2, h1, h2]; rfl
theorem globFold_cons (s x : ByteArray) (l : List ByteArray) (R : Nat → Bool) : globFold s (x :: l) R = globFold s l (tokStep s x R) := rfl
theorem globFold_snoc (s x : ByteArray) (l : List ByteArray) (R : Nat → Bool) : globFold s (l ++ [x]) R = tokStep s x (globFold s l R) := by simp [globFold]
theorem bangG (s : ByteArray) (k : Nat) (h : k < s.size) : s.data[k]! = s[k] := by
  have : k < s.data.size := h
  rw [getElem!_pos s.data k this]; rfl

/-- What one place yields under a token. -/
def Yields (s x : ByteArray) (n : Nat) (a k : Nat) : Prop := if isStar x = true then a ≤ k ∧ k ≤ n ∧ ∀ j, a ≤ j → j < k → stOk s (isWide x) j = true else k = a + 1 ∧ a < n ∧ oneOk s x a = true
theorem nst_iff (s : ByteArray) (wide : Bool) (R : Nat → Bool) (k : Nat) : nst s wide R k = true ↔ ∃ a, a ≤ k ∧ R a = true ∧ ∀ j, a ≤ j → j < k → stOk s wide j = true := by
  induction k with
  | zero =>
    constructor
    · intro h; exact ⟨0, Nat.le_refl _, h, fun j _ h2 => by omega⟩
    · rintro ⟨a, ha, h, _⟩
      have : a = 0 := by omega
      subst this; exact h
  | succ k ih =>
    rw [nst, Bool.or_eq_true, Bool.and_eq_true, ih]
    constructor
    · rintro (h | ⟨⟨a, ha, hR, hs⟩, hk⟩)
      · exact ⟨k + 1, Nat.le_refl _, h, fun j h1 h2 => by omega⟩
      · refine ⟨a, by omega, hR, fun j h1 h2 => ?_⟩
        by_cases e : j = k
        · subst e; exact hk
        · exact hs j h1 (by omega)
    · rintro ⟨a, ha, hR, hs⟩
      by_cases e : a = k + 1
      · subst e; exact .inl hR
      · exact .inr ⟨⟨a, by omega, hR, fun j h1 h2 => hs j h1 (by omega)⟩, hs k (by omega) (by omega)⟩
theorem tok_iff (s x : ByteArray) (R : Nat → Bool) (n k : Nat) (hk : k ≤ n) : tokStep s x R k = true ↔ ∃ a, a ≤ n ∧ R a = true ∧ Yields s x n a k := by
  unfold tokStep Yields
  by_cases hst : isStar x = true
  · simp only [hst, if_true]
    rw [nst_iff]
    constructor
    · rintro ⟨a, h1, h2, h3⟩; exact ⟨a, by omega, h2, h1, hk, h3⟩
    · rintro ⟨a, _, h2, h1, _, h3⟩; exact ⟨a, h1, h2, h3⟩
  · simp only [hst]
    cases k with
    | zero =>
      constructor
      · intro h; cases h
      · rintro ⟨a, _, _, h, _⟩; omega
    | succ j =>
      show (R j && oneOk s x j) = true ↔ _
      rw [Bool.and_eq_true]
      constructor
      · rintro ⟨h1, h2⟩; exact ⟨j, by omega, h1, rfl, by omega, h2⟩
      · rintro ⟨a, _, h1, h2, _, h3⟩
        have : a = j := by omega
        subst this
        exact ⟨h1, h3⟩
end Go.Proofs.Ythembgllkfgknaa
