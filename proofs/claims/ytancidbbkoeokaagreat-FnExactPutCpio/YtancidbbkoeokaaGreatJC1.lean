/- Texts joined: BinMath, BinK, NulS, BinRoom, BinText, UserI, EntOkI, CpioF, BinF, BincS, FindI, CardOf, MapS, KindMath, ListOkI, MapI, CardsI, WrK. -/
import Derived.Test.YtancidbbkoeokaaGreatCut
import Derived.Test.YtancidbbkoeokaaGreatPut32
import Derived.Test.YtancidbbkoeokaaGreatGet32
import Derived.Test.YtancidbbkoeokaaGreatNewK
import Derived.Test.YtancidbbkoeokaaGreatCardO
import Derived.Test.YtancidbbkoeokaaGreatOwn
import Derived.Test.YtancidbbkoeokaaGreatRegSl
import Derived.Test.YtancidbbkoeokaaGreatIn
import Derived.Test.YtancidbbkoeokaaGreatShelf
import Derived.Lib.Repeat
import Derived.ArgAppend
import Derived.Deep.DeepCutAuto
import Derived.OwnWalk
import Derived.Test.YtancidbbkoeokaaGreatWhoS
import Derived.Test.YtancidbbkoeokaaGreatVis
import Derived.Test.YtancidbbkoeokaaGreatEntOk
import Derived.Test.YtancidbbkoeokaaGreatFindE
import Derived.Test.YtancidbbkoeokaaGreatCardsS
import Derived.Test.YtancidbbkoeokaaGreatEntAt
import Derived.Shelf.Abstract
import Derived.Test.YtancidbbkoeokaaGreatCardMath
import Derived.Test.YtancidbbkoeokaaGreatEntO
import Derived.Test.YtancidbbkoeokaaGreatClone
import Derived.Test.YtancidbbkoeokaaGreatCom
import Derived.Maps.OwnSet
import Derived.Maps.OwnOps
import Derived.Test.YtancidbbkoeokaaGreatListOk
/- Words read and put again; what a card read is put as: plain mathematics. -/
namespace Go.Proofs.YtancidbbkoeokaaGreat
open Go.ChangeShapes Go.WideShapes Go.ChangeAt Go.RowKit

theorem ext_list (s : ByteArray) (a b : Nat) : (s.extract a b).data.toList = (s.data.toList.drop a).take (b - a) := by
  simp [ByteArray.data_extract, Array.toList_extract, List.extract]
theorem ext_cat {s : ByteArray} {a b c : Nat} (h1 : a ≤ b) (h2 : b ≤ c) : s.extract a c = s.extract a b ++ s.extract b c := by
  apply ba_ext
  have e : c - a = (b - a) + (c - b) := by omega
  simp only [ByteArray.data_append, Array.toList_append, ext_list]
  rw [e, List.take_add, List.drop_drop, show a + (b - a) = b from by omega]
theorem ext_two (s : ByteArray) (k : Nat) (h : k + 2 ≤ s.size) : (s.extract k (k + 2)).data.toList = [s.data.toList.getD k 0, s.data.toList.getD (k + 1) 0] := by
  have hl : s.data.toList.length = s.size := by simp
  rw [ext_list, show k + 2 - k = 2 from by omega]
  rw [List.drop_eq_getElem_cons (by omega), List.drop_eq_getElem_cons (by omega)]
  simp only [List.take_succ_cons, List.take_zero]
  rw [List.getD_eq_getElem?_getD, List.getD_eq_getElem?_getD, List.getElem?_eq_getElem (by omega), List.getElem?_eq_getElem (by omega)]
  rfl
theorem nums_at (c : UInt8) : UInt8.ofNat ((c.toNat : Int)).toNat = c := by simp
theorem byte_bd (c : UInt8) : (c.toNat : Int) ≤ 255 ∧ 0 ≤ (c.toNat : Int) := by have := c.toNat_lt; omega
theorem put_get16 (s : ByteArray) (k : Nat) (hi : Bool) (h : k + 2 ≤ s.size) : put16v (get16v s k hi) hi = s.extract k (k + 2) := by
  apply ba_ext
  rw [ext_two s k h]
  obtain ⟨a1, a0⟩ := byte_bd (s.data.toList.getD k 0)
  obtain ⟨b1, b0⟩ := byte_bd (s.data.toList.getD (k + 1) 0)
  have ha := nums_at (s.data.toList.getD k 0)
  have hb := nums_at (s.data.toList.getD (k + 1) 0)
  rw [get16v, if_neg (by omega), Int.toNat_natCast]
  unfold byteAt
  generalize s.data.toList.getD k 0 = x at *
  generalize s.data.toList.getD (k + 1) 0 = y at *
  generalize hX : (x.toNat : Int) = X at *
  generalize hY : (y.toNat : Int) = Y at *
  cases hi
  · have e1 : (256 * Y + X) % 256 = X := by omega
    have e2 : (256 * Y + X) / 256 % 256 = Y := by omega
    simp [put16v, put16l, strOfNums, e1, e2, ha, hb]
  · have e1 : (256 * X + Y) % 256 = Y := by omega
    have e2 : (256 * X + Y) / 256 % 256 = X := by omega
    simp [put16v, put16l, strOfNums, e1, e2, ha, hb]
theorem get16_bd {s : ByteArray} {k : Nat} (hi : Bool) (h : k + 2 ≤ s.size) : 0 ≤ get16v s k hi ∧ get16v s k hi ≤ 65535 := by
  obtain ⟨a1, a0⟩ := byte_bd (s.data.toList.getD k 0)
  obtain ⟨b1, b0⟩ := byte_bd (s.data.toList.getD (k + 1) 0)
  rw [get16v, if_neg (by omega), Int.toNat_natCast]
  unfold byteAt
  split <;> omega
theorem get32_bd {s : ByteArray} {k : Nat} (hi : Bool) (h : k + 4 ≤ s.size) : 0 ≤ get32v s k hi ∧ get32v s k hi ≤ 4294967295 := by
  have h1 := get16_bd (s := s) (k := k) hi (by omega)
  have h2 := get16_bd (s := s) (k := k + 2) hi (by omega)
  rw [get32v, if_neg (by omega), show ((k : Nat) : Int) + 2 = ((k + 2 : Nat) : Int) from by omega]
  omega
theorem strOf_app (a b : List Int) : strOfNums (a ++ b) = strOfNums a ++ strOfNums b := by
  apply ba_ext
  simp [strOfNums]
theorem put16l_mod (a b : Int) (hi : Bool) (h : a % 65536 = b % 65536) : put16l a hi = put16l b hi := by
  have e1 : a % 256 = b % 256 := by omega
  have e2 : a / 256 % 256 = b / 256 % 256 := by omega
  unfold put16l
  rw [e1, e2]
theorem put_get32 (s : ByteArray) (k : Nat) (hi : Bool) (h : k + 4 ≤ s.size) : put32v (get32v s k hi) hi = s.extract k (k + 4) := by
  have h1 := get16_bd (s := s) (k := k) hi (by omega)
  have h2 := get16_bd (s := s) (k := k + 2) hi (by omega)
  have p1 := put_get16 s k hi (by omega)
  have p2 := put_get16 s (k + 2) hi (by omega)
  rw [get32v, if_neg (by omega), show ((k : Nat) : Int) + 2 = ((k + 2 : Nat) : Int) from by omega, put32v, strOf_app]
  generalize get16v s k hi = x at *
  generalize get16v s ((k + 2 : Nat) : Int) hi = y at *
  have e1 : put16l ((65536 * x + y) / 65536) hi = put16l x hi := put16l_mod _ _ _ (by omega)
  have e2 : put16l (65536 * x + y) hi = put16l y hi := put16l_mod _ _ _ (by omega)
  rw [e1, e2]
  show put16v x hi ++ put16v y hi = _
  rw [p1, p2]
  exact (ext_cat (by omega) (by omega)).symm
theorem put16_size (n : Int) (hi : Bool) : (put16v n hi).size = 2 := by cases hi <;> rfl
theorem put32_size (n : Int) (hi : Bool) : (put32v n hi).size = 4 := by cases hi <;> rfl
theorem put16_inj {a b : Int} {hi : Bool} (ha : 0 ≤ a ∧ a ≤ 65535) (hb : 0 ≤ b ∧ b ≤ 65535) (h : put16v a hi = put16v b hi) : a = b := by
  have hl := congrArg (fun b : ByteArray => b.data.toList) h
  have u8 : ∀ x y : Int, 0 ≤ x → x < 256 → 0 ≤ y → y < 256 → UInt8.ofNat x.toNat = UInt8.ofNat y.toNat → x = y := by
    intro x y h1 h2 h3 h4 h5
    have := congrArg UInt8.toNat h5
    simp at this
    omega
  cases hi <;> simp [put16v, put16l, strOfNums] at hl <;> obtain ⟨h1, h2⟩ := hl
  · have := u8 _ _ (by omega) (by omega) (by omega) (by omega) h1
    have := u8 _ _ (by omega) (by omega) (by omega) (by omega) h2
    omega
  · have := u8 _ _ (by omega) (by omega) (by omega) (by omega) h1
    have := u8 _ _ (by omega) (by omega) (by omega) (by omega) h2
    omega
theorem app_inj {a b c d : ByteArray} (h : a ++ b = c ++ d) (hs : a.size = c.size) : a = c ∧ b = d := by
  have h1 := congrArg (fun b : ByteArray => b.data.toList) h
  simp only [ByteArray.data_append, Array.toList_append] at h1
  obtain ⟨h2, h3⟩ := List.append_inj h1 (by simpa using hs)
  exact ⟨ba_ext h2, ba_ext h3⟩
theorem nz_free (l : List UInt8) : Nz (nulFree l) := by
  induction l with
  | nil => intro c hc; simp [nulFree] at hc
  | cons x l ih =>
    intro c hc
    by_cases hx : x = 0
    · subst hx; simp [nulFree] at hc
    · have e : nulFree (x :: l) = x :: nulFree l := by simp [nulFree, hx]
      rw [e, List.mem_cons] at hc
      rcases hc with rfl | hc
      · exact hx
      · exact ih c hc
theorem free_app_zero {a b : List UInt8} (h : Nz a) : nulFree (a ++ 0 :: b) = a := by
  rw [nulFree_append h]
  simp [nulFree]
/-- A text of which the first NUL is the last byte. -/
theorem free_last {l : List UInt8} (h : (nulFree l).length + 1 = l.length) : l = nulFree l ++ [0] := by
  have e : l = nulFree l ++ l.dropWhile (· != 0) := (List.takeWhile_append_dropWhile).symm
  have hl : (l.dropWhile (· != 0)).length = 1 := by
    have := congrArg List.length e
    rw [List.length_append] at this
    omega
  match hd : l.dropWhile (· != 0), hl with
  | [c], _ =>
    have hc : c = 0 := by
      have h9 : ¬ (c != 0) = true := by
        have := List.head_dropWhile_not (p := (· != (0 : UInt8))) (l := l) (by rw [hd]; simp)
        simp only [hd, List.head_cons] at this
        simpa using this
      simpa using h9
    rw [hc] at hd
    rw [hd] at e
    exact e
theorem cut_zero {p : ByteArray} {t : ByteArray} (h : Nz p.data.toList) : cutv (p ++ ⟨#[0]⟩ ++ t) = p := by
  apply ba_ext
  have e : (p ++ (⟨#[0]⟩ : ByteArray) ++ t).data.toList = p.data.toList ++ 0 :: t.data.toList := by simp
  simp only [cutv, e]
  exact free_app_zero h
theorem cut_nz (s : ByteArray) : Nz (cutv s).data.toList := by
  have : (cutv s).data.toList = nulFree s.data.toList := rfl
  rw [this]
  exact nz_free _
theorem cut_last {s : ByteArray} (h : (cutv s).size + 1 = s.size) : s = cutv s ++ ⟨#[0]⟩ := by
  apply ba_ext
  have h1 : (cutv s).size = (nulFree s.data.toList).length := by simp [cutv, ByteArray.size]
  have h2 : s.data.toList.length = s.size := by simp
  have := free_last (l := s.data.toList) (by omega)
  rw [this]
  simp [cutv]
/-- What a card read is put as again is what it was read from, just where its name ends with its only NUL and its gaps are NULs. -/
theorem bin_texts {nm gp d t A D : ByteArray} {hi : Bool} {sz g2 q2 : Nat} (hsz : nm.size = sz) (h16 : sz ≤ 65535) (hgp : gp.size = g2) (hg2 : g2 = sz % 2) (ht : t.size = q2) :
    ((cutv (nm ++ gp)).size + 1 ≤ 65535 ∧ A ++ put16v (((cutv (nm ++ gp)).size : Int) + 1) hi ++ D ++ cutv (nm ++ gp) ++ ⟨#[0]⟩ ++ nulN (((cutv (nm ++ gp)).size + 1) % 2) ++ d ++ nulN q2 = A ++ put16v (sz : Int) hi ++ D ++ nm ++ gp ++ d ++ t) ↔ ((cutv nm).size + 1 = sz ∧ gp = nulN g2 ∧ t = nulN q2) := by
  have nsz : ∀ n, (nulN n).size = n := fun n => by show (List.replicate n (0 : UInt8)).toArray.size = n; rw [List.size_toArray, List.length_replicate]
  constructor
  · rintro ⟨h1, h⟩
    simp only [ByteArray.append_assoc] at h
    obtain ⟨_, h⟩ := app_inj h rfl
    obtain ⟨e1, h⟩ := app_inj h (by rw [put16_size, put16_size])
    have e2 : (cutv (nm ++ gp)).size + 1 = sz := by
      have := put16_inj (by omega) (by omega) e1
      omega
    obtain ⟨_, h⟩ := app_inj h rfl
    have hh : (cutv (nm ++ gp) ++ ⟨#[0]⟩) ++ (nulN (((cutv (nm ++ gp)).size + 1) % 2) ++ (d ++ nulN q2)) = nm ++ (gp ++ (d ++ t)) := by
      rw [ByteArray.append_assoc]; exact h
    have z1 : (⟨#[0]⟩ : ByteArray).size = 1 := rfl
    obtain ⟨e3, h4⟩ := app_inj hh (by rw [ByteArray.size_append]; omega)
    rw [e2, ← hg2] at h4
    obtain ⟨e4, h5⟩ := app_inj h4 (by rw [nsz, hgp])
    obtain ⟨_, h6⟩ := app_inj h5 rfl
    refine ⟨?_, e4.symm, h6.symm⟩
    rw [← e3]
    have e5 : cutv (nm ++ gp) ++ ⟨#[0]⟩ = cutv (nm ++ gp) ++ ⟨#[0]⟩ ++ (⟨#[]⟩ : ByteArray) := by apply ba_ext; simp
    rw [e5, cut_zero (cut_nz _)]
    exact e2
  · rintro ⟨h1, rfl, rfl⟩
    have e1 := cut_last (s := nm) (by omega)
    have e2 : cutv (nm ++ nulN g2) = cutv nm := by
      conv => lhs; rw [e1]
      exact cut_zero (cut_nz _)
    rw [e2]
    refine ⟨by omega, ?_⟩
    rw [show (((cutv nm).size : Int) + 1) = (sz : Int) from by omega, h1, ← hg2]
    conv => rhs; rw [e1]
    simp only [ByteArray.append_assoc]
theorem bin_path {nm gp : ByteArray} {sz : Nat} (hsz : nm.size = sz) (h : (cutv nm).size + 1 = sz) : cutv (nm ++ gp) = cutv nm := by
  have e1 := cut_last (s := nm) (by omega)
  conv => lhs; rw [e1]
  exact cut_zero (cut_nz _)
end Go.Proofs.YtancidbbkoeokaaGreat

/- A card in words, in either byte order: what it is put as, and what is read at a place of a text. -/
namespace Go.Proofs.YtancidbbkoeokaaGreat
open Go.ChangeShapes Go.WideShapes Go.ChangeAt Go.RowKit Go.Deep

def pad2 (n : Nat) : Nat := n % 2
theorem padv2 (n : Nat) (h : n ≤ 9007199254740991) : padv (n : Int) 2 = (pad2 n : Int) := by
  unfold padv pad2
  rw [if_pos (by omega)]
  omega
theorem pad2_le (n : Nat) : pad2 n ≤ 1 := by unfold pad2; omega
def r16 (n : Int) : Bool := decide (0 ≤ n ∧ n ≤ 65535)
def r32 (n : Int) : Bool := decide (0 ≤ n ∧ n ≤ 4294967295)
def binOk (c : Card) : Bool := r16 c.Ino && r16 c.Mode && r16 c.Uid && r16 c.Gid && r16 c.Count && r32 c.Time && r16 ((c.Path.size : Int) + 1) && r32 (c.Data.size : Int)
/-- The head of a card, up to the name's length. -/
def headA (c : Card) (hi : Bool) : ByteArray := put16v 29127 hi ++ put16v 0 hi ++ put16v c.Ino hi ++ put16v c.Mode hi ++ put16v c.Uid hi ++ put16v c.Gid hi ++ put16v c.Count hi ++ put16v 0 hi ++ put32v c.Time hi
def headB (c : Card) (hi : Bool) : ByteArray := headA c hi ++ put16v ((c.Path.size : Int) + 1) hi ++ put32v (c.Data.size : Int) hi
def binTextv (c : Card) (hi : Bool) : ByteArray := if binOk c then headB c hi ++ c.Path ++ ⟨#[0]⟩ ++ nulN (pad2 (c.Path.size + 1)) ++ c.Data ++ nulN (pad2 c.Data.size) else ⟨#[]⟩
theorem headA_size (c : Card) (hi : Bool) : (headA c hi).size = 20 := by simp only [headA, ByteArray.size_append, put16_size, put32_size]
theorem headB_size (c : Card) (hi : Bool) : (headB c hi).size = 26 := by simp only [headB, ByteArray.size_append, put16_size, put32_size, headA_size]
theorem binText_le (c : Card) (hi : Bool) : (binTextv c hi).size ≤ 29 + c.Path.size + c.Data.size := by
  unfold binTextv
  split
  · have z1 : (⟨#[0]⟩ : ByteArray).size = 1 := rfl
    have p1 := pad2_le (c.Path.size + 1)
    have p2 := pad2_le c.Data.size
    simp only [ByteArray.size_append, nulN_size, headB_size]
    omega
  · exact Nat.zero_le _
/-- The k-th word of a head at j, its time, and the sizes of name and data. -/
def bW (s : ByteArray) (j : Nat) (hi : Bool) (k : Nat) : Int := get16v s ((j + 2 * k : Nat) : Int) hi
def bT (s : ByteArray) (j : Nat) (hi : Bool) : Int := get32v s ((j + 16 : Nat) : Int) hi
def bSz (s : ByteArray) (j : Nat) (hi : Bool) : Nat := (bW s j hi 10).toNat
def bMn (s : ByteArray) (j : Nat) (hi : Bool) : Nat := (get32v s ((j + 22 : Nat) : Int) hi).toNat
/-- Places behind a head at j: the name's end, the data's begin and end, the card's end. -/
def bnN (s : ByteArray) (j : Nat) (hi : Bool) : Nat := j + 26 + bSz s j hi
def bnB (s : ByteArray) (j : Nat) (hi : Bool) : Nat := bnN s j hi + pad2 (bSz s j hi)
def bnD (s : ByteArray) (j : Nat) (hi : Bool) : Nat := bnB s j hi + bMn s j hi
def bnE (s : ByteArray) (j : Nat) (hi : Bool) : Nat := bnD s j hi + pad2 (bMn s j hi)
def bnNm (s : ByteArray) (j : Nat) (hi : Bool) : ByteArray := s.extract (j + 26) (bnN s j hi)
def badB (s : ByteArray) (j : Nat) (hi : Bool) : Prop := ¬ (cutv (bnNm s j hi)).size + 1 = bSz s j hi ∨ ¬ s.extract (bnN s j hi) (bnB s j hi) = nulN (pad2 (bSz s j hi)) ∨ ¬ s.extract (bnD s j hi) (bnE s j hi) = nulN (pad2 (bMn s j hi))
instance (s : ByteArray) (j : Nat) (hi : Bool) : Decidable (badB s j hi) := by unfold badB; infer_instance
def bnHead (s : ByteArray) (j : Nat) (hi : Bool) (p : ByteArray) : Card := ⟨bW s j hi 2, bW s j hi 3, bW s j hi 4, bW s j hi 5, bW s j hi 6, bT s j hi, p, s.extract (bnB s j hi) (bnD s j hi)⟩
/-- The code of a card's reading at i. -/
def bnCode (s : ByteArray) (i : Int) (hi : Bool) : Int :=
  if i < 0 ∨ (s.size : Int) < i + 26 then 1
  else if ¬ bW s i.toNat hi 0 = 29127 then 4
  else if ¬ (bW s i.toNat hi 1 = 0 ∧ bW s i.toNat hi 7 = 0) then 3
  else if s.size < bnE s i.toNat hi then 1
  else if badB s i.toNat hi then 4
  else 0
def bnCard (s : ByteArray) (i : Int) (hi : Bool) : Card := if bnCode s i hi = 0 then bnHead s i.toNat hi (cutv (bnNm s i.toNat hi)) else zeroC
def bnNext (s : ByteArray) (i : Int) (hi : Bool) : Int := if bnCode s i hi = 0 then bnE s i.toNat hi else i
def bnV (s : ByteArray) (i : Int) (hi : Bool) : Value := .tuple #[.agg (bnCard s i hi).cells.toArray, .int .i64 (bnNext s i hi), .int .i64 (bnCode s i hi)]
def bdB (i c : Int) : Value := .tuple #[.agg zeroC.cells.toArray, .int .i64 i, .int .i64 c]
theorem bnV_of {s : ByteArray} {i c : Int} {hi : Bool} (h : bnCode s i hi = c) (hc : ¬ c = 0) : bnV s i hi = bdB i c := by
  rw [bnV, bnCard, bnNext, if_neg (by omega), if_neg (by omega), h]; rfl
theorem bn_cut {s : ByteArray} {i : Int} {hi : Bool} (h : i < 0 ∨ (s.size : Int) < i + 26) : bnV s i hi = bdB i 1 := bnV_of (by rw [bnCode, if_pos h]) (by decide)
section
variable {s : ByteArray} {j : Nat} {hi : Bool}
theorem bn_magic (h : j + 26 ≤ s.size) (hm : ¬ bW s j hi 0 = 29127) : bnV s j hi = bdB j 4 := bnV_of (by rw [bnCode, if_neg (by omega), Int.toNat_natCast, if_pos hm]) (by decide)
theorem bn_zero (h : j + 26 ≤ s.size) (hm : bW s j hi 0 = 29127) (hz : ¬ (bW s j hi 1 = 0 ∧ bW s j hi 7 = 0)) : bnV s j hi = bdB j 3 := bnV_of (by rw [bnCode, if_neg (by omega), Int.toNat_natCast, if_neg (by simp [hm]), if_pos hz]) (by decide)
theorem bn_short (h : j + 26 ≤ s.size) (hm : bW s j hi 0 = 29127) (hz : bW s j hi 1 = 0 ∧ bW s j hi 7 = 0) (hs : s.size < bnE s j hi) : bnV s j hi = bdB j 1 := bnV_of (by rw [bnCode, if_neg (by omega), Int.toNat_natCast, if_neg (by simp [hm]), if_neg (fun h => h hz), if_pos hs]) (by decide)
theorem bn_name (h : j + 26 ≤ s.size) (hm : bW s j hi 0 = 29127) (hz : bW s j hi 1 = 0 ∧ bW s j hi 7 = 0) (hs : ¬ s.size < bnE s j hi) (hb : badB s j hi) : bnV s j hi = bdB j 4 := bnV_of (by rw [bnCode, if_neg (by omega), Int.toNat_natCast, if_neg (by simp [hm]), if_neg (fun h => h hz), if_neg hs, if_pos hb]) (by decide)
theorem bn_good (h : j + 26 ≤ s.size) (hm : bW s j hi 0 = 29127) (hz : bW s j hi 1 = 0 ∧ bW s j hi 7 = 0) (hs : ¬ s.size < bnE s j hi) (hb : ¬ badB s j hi) : bnV s j hi = .tuple #[.agg (bnHead s j hi (cutv (bnNm s j hi))).cells.toArray, .int .i64 (bnE s j hi), .int .i64 0] := by
  have e : bnCode s j hi = 0 := by rw [bnCode, if_neg (by omega), Int.toNat_natCast, if_neg (by simp [hm]), if_neg (fun h => h hz), if_neg hs, if_neg hb]
  rw [bnV, bnCard, bnNext, if_pos e, if_pos e, e, Int.toNat_natCast]
theorem bW_bd {k : Nat} (h : j + 26 ≤ s.size) (hk : k ≤ 12) : 0 ≤ bW s j hi k ∧ bW s j hi k ≤ 65535 := get16_bd hi (by omega)
theorem bT_bd (h : j + 26 ≤ s.size) : 0 ≤ bT s j hi ∧ bT s j hi ≤ 4294967295 := get32_bd hi (by omega)
theorem bMn_bd (h : j + 26 ≤ s.size) : get32v s ((j + 22 : Nat) : Int) hi = (bMn s j hi : Int) ∧ bMn s j hi ≤ 4294967295 := by
  have := get32_bd (s := s) (k := j + 22) hi (by omega)
  unfold bMn
  omega
theorem bSz_bd (h : j + 26 ≤ s.size) : bW s j hi 10 = (bSz s j hi : Int) ∧ bSz s j hi ≤ 65535 := by
  have := bW_bd (hi := hi) (k := 10) h (by omega)
  unfold bSz
  omega
/-- The head's words as the text has them. -/
theorem headA_is (h : j + 26 ≤ s.size) (hm : bW s j hi 0 = 29127) (hz : bW s j hi 1 = 0 ∧ bW s j hi 7 = 0) (p : ByteArray) : headA (bnHead s j hi p) hi = s.extract j (j + 20) := by
  have p16 : ∀ k, k ≤ 12 → put16v (bW s j hi k) hi = s.extract (j + 2 * k) (j + 2 * k + 2) := fun k hk => put_get16 s (j + 2 * k) hi (by omega)
  have p32 : put32v (bT s j hi) hi = s.extract (j + 16) (j + 16 + 4) := put_get32 s (j + 16) hi (by omega)
  have e0 := p16 0 (by omega)
  have e1 := p16 1 (by omega)
  have e7 := p16 7 (by omega)
  rw [hm] at e0
  rw [hz.1] at e1
  rw [hz.2] at e7
  simp only [headA, bnHead]
  have e17 : s.extract (j + 14) (j + 16) = s.extract (j + 2) (j + 4) := e7.symm.trans e1
  rw [e0, e1, p32, p16 2 (by omega), p16 3 (by omega), p16 4 (by omega), p16 5 (by omega), p16 6 (by omega)]
  simp only [Nat.mul_zero, Nat.add_zero]
  rw [ext_cat (s := s) (a := j) (b := j + 16) (c := j + 20) (by omega) (by omega), ext_cat (s := s) (a := j) (b := j + 14) (c := j + 16) (by omega) (by omega), ext_cat (s := s) (a := j) (b := j + 12) (c := j + 14) (by omega) (by omega), ext_cat (s := s) (a := j) (b := j + 10) (c := j + 12) (by omega) (by omega), ext_cat (s := s) (a := j) (b := j + 8) (c := j + 10) (by omega) (by omega), ext_cat (s := s) (a := j) (b := j + 6) (c := j + 8) (by omega) (by omega), ext_cat (s := s) (a := j) (b := j + 4) (c := j + 6) (by omega) (by omega), ext_cat (s := s) (a := j) (b := j + 2) (c := j + 4) (by omega) (by omega), e17]
/-- A card read is put as what it was read from just where its name ends with its only NUL and its gaps are NULs. -/
theorem bin_back (h : j + 26 ≤ s.size) (hm : bW s j hi 0 = 29127) (hz : bW s j hi 1 = 0 ∧ bW s j hi 7 = 0) (hs : ¬ s.size < bnE s j hi) : binTextv (bnHead s j hi (cutv (s.extract (j + 26) (bnB s j hi)))) hi = s.extract j (bnE s j hi) ↔ ¬ badB s j hi := by
  obtain ⟨z1, z2⟩ := bSz_bd (hi := hi) h
  obtain ⟨m1, m2⟩ := bMn_bd (hi := hi) h
  have hN : bnN s j hi = j + 26 + bSz s j hi := rfl
  have hB : bnB s j hi = bnN s j hi + pad2 (bSz s j hi) := rfl
  have hD : bnD s j hi = bnB s j hi + bMn s j hi := rfl
  have hE : bnE s j hi = bnD s j hi + pad2 (bMn s j hi) := rfl
  have eX : s.extract (j + 26) (bnB s j hi) = bnNm s j hi ++ s.extract (bnN s j hi) (bnB s j hi) := ext_cat (by omega) (by omega)
  have eS : s.extract j (bnE s j hi) = s.extract j (j + 20) ++ put16v (bSz s j hi : Int) hi ++ s.extract (j + 22) (j + 26) ++ bnNm s j hi ++ s.extract (bnN s j hi) (bnB s j hi) ++ s.extract (bnB s j hi) (bnD s j hi) ++ s.extract (bnD s j hi) (bnE s j hi) := by
    have e20 : put16v (bSz s j hi : Int) hi = s.extract (j + 20) (j + 22) := by
      rw [← z1]
      exact put_get16 s (j + 20) hi (by omega)
    rw [e20, ← ext_cat (by omega) (by omega), ← ext_cat (by omega) (by omega), bnNm, ← ext_cat (by omega) (by omega), ← ext_cat (by omega) (by omega), ← ext_cat (by omega) (by omega), ← ext_cat (by omega) (by omega)]
  have hA := fun p => headA_is h hm hz p
  have w2 := bW_bd (hi := hi) (k := 2) h (by omega)
  have w3 := bW_bd (hi := hi) (k := 3) h (by omega)
  have w4 := bW_bd (hi := hi) (k := 4) h (by omega)
  have w5 := bW_bd (hi := hi) (k := 5) h (by omega)
  have w6 := bW_bd (hi := hi) (k := 6) h (by omega)
  have wt := bT_bd (hi := hi) h
  have hdz : (s.extract (bnB s j hi) (bnD s j hi)).size = bMn s j hi := by rw [ByteArray.size_extract]; omega
  have hD26 : put32v ((s.extract (bnB s j hi) (bnD s j hi)).size : Int) hi = s.extract (j + 22) (j + 26) := by
    rw [hdz, ← m1]
    exact put_get32 s (j + 22) hi (by omega)
  have key := bin_texts (nm := bnNm s j hi) (gp := s.extract (bnN s j hi) (bnB s j hi)) (d := s.extract (bnB s j hi) (bnD s j hi)) (t := s.extract (bnD s j hi) (bnE s j hi)) (A := s.extract j (j + 20)) (D := s.extract (j + 22) (j + 26)) (hi := hi) (sz := bSz s j hi) (g2 := pad2 (bSz s j hi)) (q2 := pad2 (bMn s j hi)) (by rw [bnNm, ByteArray.size_extract]; omega) z2 (by rw [ByteArray.size_extract]; omega) rfl (by rw [ByteArray.size_extract]; omega)
  rw [← eX, ← eS] at key
  have hbad : ¬ badB s j hi ↔ ((cutv (bnNm s j hi)).size + 1 = bSz s j hi ∧ s.extract (bnN s j hi) (bnB s j hi) = nulN (pad2 (bSz s j hi)) ∧ s.extract (bnD s j hi) (bnE s j hi) = nulN (pad2 (bMn s j hi))) := by
    unfold badB
    constructor
    · intro h9
      refine ⟨Decidable.byContradiction fun a => h9 (.inl a), Decidable.byContradiction fun a => h9 (.inr (.inl a)), Decidable.byContradiction fun a => h9 (.inr (.inr a))⟩
    · rintro ⟨a, b, c⟩ (d | d | d)
      · exact d a
      · exact d b
      · exact d c
  rw [hbad, ← key]
  have hok : binOk (bnHead s j hi (cutv (s.extract (j + 26) (bnB s j hi)))) = decide ((cutv (s.extract (j + 26) (bnB s j hi))).size + 1 ≤ 65535) := by
    simp only [binOk, bnHead, hdz]
    rw [show r16 (bW s j hi 2) = true from decide_eq_true w2, show r16 (bW s j hi 3) = true from decide_eq_true w3, show r16 (bW s j hi 4) = true from decide_eq_true w4, show r16 (bW s j hi 5) = true from decide_eq_true w5, show r16 (bW s j hi 6) = true from decide_eq_true w6, show r32 (bT s j hi) = true from decide_eq_true wt, show r32 (bMn s j hi : Int) = true from decide_eq_true (by omega)]
    simp only [Bool.true_and, Bool.and_true, r16]
    exact decide_eq_decide.2 (by omega)
  by_cases hp : (cutv (s.extract (j + 26) (bnB s j hi))).size + 1 ≤ 65535
  · rw [binTextv, if_pos (by rw [hok]; exact decide_eq_true hp), headB, hA]
    show s.extract j (j + 20) ++ put16v (((cutv (s.extract (j + 26) (bnB s j hi))).size : Int) + 1) hi ++ put32v ((s.extract (bnB s j hi) (bnD s j hi)).size : Int) hi ++ cutv (s.extract (j + 26) (bnB s j hi)) ++ ⟨#[0]⟩ ++ nulN (((cutv (s.extract (j + 26) (bnB s j hi))).size + 1) % 2) ++ s.extract (bnB s j hi) (bnD s j hi) ++ nulN (pad2 (s.extract (bnB s j hi) (bnD s j hi)).size) = _ ↔ _
    rw [hD26, hdz]
    exact ⟨fun a => ⟨hp, a⟩, fun a => a.2⟩
  · rw [binTextv, if_neg (by rw [hok]; simpa using hp)]
    constructor
    · intro a
      have := congrArg ByteArray.size a
      rw [ByteArray.size_extract] at this
      have z0 : (⟨#[]⟩ : ByteArray).size = 0 := rfl
      omega
    · intro a
      exact absurd a.1 hp
theorem bin_name (hb : ¬ badB s j hi) (h : j + 26 ≤ s.size) (hs : ¬ s.size < bnE s j hi) : cutv (s.extract (j + 26) (bnB s j hi)) = cutv (bnNm s j hi) := by
  have hN : bnN s j hi = j + 26 + bSz s j hi := rfl
  have hB : bnB s j hi = bnN s j hi + pad2 (bSz s j hi) := rfl
  have hD : bnD s j hi = bnB s j hi + bMn s j hi := rfl
  have hE : bnE s j hi = bnD s j hi + pad2 (bMn s j hi) := rfl
  have eX : s.extract (j + 26) (bnB s j hi) = bnNm s j hi ++ s.extract (bnN s j hi) (bnB s j hi) := ext_cat (by omega) (by omega)
  rw [eX]
  exact bin_path (sz := bSz s j hi) (by rw [bnNm, ByteArray.size_extract]; omega) (Decidable.byContradiction fun a => hb (.inl a))
end
end Go.Proofs.YtancidbbkoeokaaGreat

/- Contract of spec.l01Nuls. -/
namespace Go.Proofs.YtancidbbkoeokaaGreat
open Go.ChangeShapes Go.WideShapes Go.ChangeAt Go.RowKit

def nulz (n : Nat) : List UInt8 := List.replicate n 0
theorem nulz_succ (n : Nat) : nulz n ++ [0] = nulz (n + 1) := by simp [nulz, List.replicate_succ']
theorem nulz_len (n : Nat) : (nulz n).length = n := by simp [nulz]
theorem nulz_spec (n : Int) (w : World) (hn : n ≤ 1024) :
    Calls Tryz.prog 36 #[.int .i64 n] w fun e w' => e = .returned (.string (nulN n.toNat)) ∧ Below w.heap.size w w' := by
  obtain ⟨i0, hi, hz0, hz1, hz2⟩ := info_parts Tryz.info5
  go_enter Tryz.func36, Tryz.ntmps36
  go_wp2
  go_loopw [3, 4] (fun v i wr => ∃ k : Nat, k ≤ n.toNat ∧ i = .int .i64 k ∧ OwnB wr w.heap.size v (nulz k) ∧ Below w.heap.size w wr) (fun _ i _ => n.toNat - (intOf i).toNat)
  case atStart => exact ⟨0, Nat.zero_le _, rfl, OwnB.lit (Nat.le_refl _), (Below.refl _ _).alloc (Nat.le_refl _) _⟩
  case round =>
    obtain ⟨k, hk, rfl, hown, hb⟩ := hrel
    have HO := Lib.hid hown
    have HB := Lib.hid hb
    clear hown hb
    by_cases hlt : (k : Int) < n
    · have hsz := HB.out.size
      go_wp2_with (at_builtin; refine wpList_append_own _ rfl _ _ 66 rfl w.heap.size 5 i0 (.int .u8 0) 1 1 Tryz.underlying66 hi hz0 hz1 hz2 rfl (by decide) _ _ _ rfl (HO.out.alloc _) ⟨wr.heap.size, 0, none⟩ 1 1 [.int .u8 0] rfl rfl ?c1 ?c2 ?c3 ?c4 ?c5 ?_)
      case c1 =>
        intro j u hj
        match j, hj with
        | 0, hj => simp at hj; subst hj; simp [Addr.add]
      case c2 => intro u hu; simp at hu; subst hu; rfl
      case c3 => simp only [nulz_len, maxLen]; omega
      case c4 => simp only [nulz_len]; omega
      case c5 => simp; omega
      · intro v' w1 hown' hgrow _
        have hO : OwnB w1 w.heap.size v' (nulz (k + 1)) := by
          have e : byteVals (nulz k) ++ [.int .u8 0] = byteVals (nulz (k + 1)) := by rw [← nulz_succ, ← byteVals_snoc]; rfl
          rw [e] at hown'
          have e2 : (nulz k).length + 1 = (nulz (k + 1)).length := by simp [nulz_len]
          rw [e2] at hown'
          exact hown'
        have hBl : Below w.heap.size w w1 := (HB.out.alloc hsz _).grown hgrow (by simp; omega) (fun b hb => (HO.out.lt b hb).1)
        clear hown' hgrow
        go_wp2
        go_roundw
        case rel => exact ⟨k + 1, by omega, by go_num, hO, hBl⟩
        case measure => simp [intOf]; omega
    · have hc := HO.out.conv
      go_wp2
      go_ret
      have e : k = n.toNat := by omega
      subst e
      exact ⟨rfl, HB.out⟩

end Go.Proofs.YtancidbbkoeokaaGreat

/- Small functions of cards in words: the padding, and whether numbers have room. -/
namespace Go.Proofs.YtancidbbkoeokaaGreat
open Go.ChangeShapes Go.WideShapes Go.ChangeAt Go.RowKit

theorem repL_nul (k : Nat) : Lib.repeatL ([0] : List UInt8) k = List.replicate k 0 := by
  induction k with
  | zero => rfl
  | succ k ih => simp [Lib.repeatL, ih, List.replicate_succ]
theorem binPad_any (n : Nat) (w : World) (hn : n ≤ 9007199254740991) : Calls Tryz.prog 63 #[.int .i64 (n : Int)] w fun e w' => e = .returned (.string (nulN (pad2 n))) ∧ Below w.heap.size w w' := by
  have hq := pad2_le n
  have HP := Lib.hid (fun w => pad_impl (n : Int) 2 w)
  rw [padv2 n hn] at HP
  have hr := fun w => Tryz.strings_Repeat ⟨#[0]⟩ (pad2 n) w (by omega) (by simp [ByteArray.size]; omega)
  have e1 : (⟨(Lib.repeatL (⟨#[0]⟩ : ByteArray).data.toList (pad2 n)).toArray⟩ : ByteArray) = nulN (pad2 n) := by
    show (⟨(Lib.repeatL ([0] : List UInt8) (pad2 n)).toArray⟩ : ByteArray) = _
    rw [repL_nul]
    rfl
  rw [e1] at hr
  have HR := Lib.hid hr
  clear hr e1
  generalize nulN (pad2 n) = r at HR
  generalize pad2 n = q at HP HR hq
  go_enter Tryz.func63, Tryz.ntmps63
  go_wp2_with fail
  refine (HP.out _).mono ?_
  rintro e w1 ⟨rfl, rfl⟩
  go_wp2_with fail
  refine (HR.out _).mono ?_
  rintro e w2 ⟨rfl, hb⟩
  go_wp2_with fail
  go_ret
  exact ⟨rfl, hb⟩
/-- A row of numbers. -/
def RowNB (w : World) (g : Nat) (l : List Int) : Prop := ∀ i x, l[i]? = some x → w.cell? ⟨g, i, none⟩ = some (.int .i64 x)
theorem RowNB.below {w w' : World} {g B : Nat} {l : List Int} (h : RowNB w g l) (hb : Below B w w') (hg : g < B) : RowNB w' g l := fun i x hx => (hb.cell (p := ⟨g, i, none⟩) hg).trans (h i x hx)
theorem RowNB.of {w : World} {g : Nat} {l : List Int} {ty : TypeId} (h : w.heap[g]? = some (.cells (l.map (fun x => Value.int .i64 x)).toArray ty (0, 0))) : RowNB w g l := by
  intro i x hx
  simp only [World.cell?, h]
  simp [hx]
/-- A row of numbers that the call has laid, of whatever capacity. -/
def appRow (B n : Nat) (L : List Int) (v : Value) (w : World) : Prop := ∃ G c, v = .slice (some ⟨G, 0, none⟩) n c ∧ B ≤ G ∧ G < w.heap.size ∧ RowNB w G L
theorem appRow_keep (B n : Nat) (L : List Int) : ∀ v x y, Below x.heap.size x y → appRow B n L v x → appRow B n L v y := by
  rintro v x y hb ⟨G, c, h1, h2, h3, h4⟩
  exact ⟨G, c, h1, h2, Nat.lt_of_lt_of_le h3 hb.size, h4.below hb h3⟩
theorem Tryz.infoNB : (Tryz.prog.info? 3).map (fun i => (i.zero, i.size, i.bytes)) = some (some (.int .i64 0), 1, 8) := by kernel_rfl
/-- One number more behind a row that is full. -/
theorem app_full (L : List Int) (x : Int) (g gx n c cx : Nat) (w : World) (ty : TypeId) (hn : n = L.length) (hc : c = n) (h : RowNB w g L) (hx : w.cell? ⟨gx, 0, none⟩ = some (.int .i64 x)) (hs : n ≤ 1000) :
    ∃ v' w', (Builtin.append_ #[63, 63] ty #[.slice (some ⟨g, 0, none⟩) n c, .slice (some ⟨gx, 0, none⟩) 1 cx]).run Tryz.prog w = .ok v' w' ∧ appRow w.heap.size (n + 1) (L ++ [x]) v' w' ∧ Below w.heap.size w w' := by
  obtain ⟨i0, hi, hz0, hz1, hz2⟩ := info_parts Tryz.infoNB
  obtain ⟨v', w', h1, h2, h3⟩ := run_append_arg_grows (P := Tryz.prog) (w := w) 63 ty 3 i0 (.int .i64 0) 1 8 Tryz.underlying63 hi hz0 hz1 hz2 rfl (by decide) ⟨g, 0, none⟩ n c (L.map (fun x => Value.int .i64 x)) (by simp [hn]) (fun j u hu => by
    rw [List.getElem?_map] at hu
    cases hL : L[j]? with
    | none => rw [hL] at hu; cases hu
    | some y =>
      rw [hL] at hu
      have := h j y hL
      simp only [Option.map_some, Option.some.injEq] at hu
      subst hu
      rw [Addr.add_lit, Nat.zero_add]; exact this) ⟨gx, 0, none⟩ 1 cx [.int .i64 x] rfl (fun j u hu => by
    match j, hu with
    | 0, hu => simp at hu; subst hu; rw [Addr.add_lit]; exact hx) (by omega) (by simp only [maxLen]; omega) (by omega)
  refine ⟨v', w', h1, ?_, ⟨h3.os, h3.tape, h3.output, h3.size, fun k hk => h3.block k hk (by simp)⟩⟩
  obtain ⟨G, cp, rfl⟩ : ∃ G cp, v' = .slice (some ⟨G, 0, none⟩) (n + 1) cp := by
    rcases h2.2 with ⟨_, h0⟩ | ⟨G, cp, _, hv, _⟩
    · omega
    · exact ⟨G, cp, hv⟩
  have hl := h2.lt G rfl
  refine ⟨G, cp, rfl, hl.1, hl.2, fun i y hy => ?_⟩
  have hlt : i < (L ++ [x]).length := (List.getElem?_eq_some_iff.1 hy).1
  rw [h2.cellAt i (by simp at hlt; omega)]
  have e : L.map (fun x => Value.int .i64 x) ++ [Value.int .i64 x] = (L ++ [x]).map (fun x => Value.int .i64 x) := by simp
  rw [e, List.getElem?_map, hy]
  rfl
/-- An append at an operation of a region that draws its order. -/
theorem op_app {P : Program} {Q : Exit → Act → World → Prop} {C : World → Prop} {St : World → World → Prop} {V : Nat → Value → World → Prop} {o : Oper} {a : Act} {w w' : World} (s x : Operand) (t : TypeId) (ho : o.op = .call { callee := .builtin .append, args := #[s, x], argTypes := #[t, t] }) (vs vx v' : Value) (hs : a.eval s = vs) (hx : a.eval x = vx)
    (hr : (Builtin.append_ #[t, t] o.type #[vs, vx]).run P w = .ok v' w') (hC : C w') (hS : St w w') (hv : ∀ d, o.dst = some d → V d v' w') :
    o.wp P a w (fun a' w' => ∃ v, a' = a.put o.dst v ∧ C w' ∧ St w w' ∧ ∀ d, o.dst = some d → V d v w') Q := by
  unfold Oper.wp execOp
  simp only [ho, resolve, invoke, builtin, Sem.run_bind, Sem.run_pure, Result.andThen_ok, List.map_toArray, List.map_cons, List.map_nil, hs, hx, hr]
  exact ⟨v', rfl, hC, hS, hv⟩
theorem all_take {f : Int → Bool} {L : List Int} {i : Nat} {x : Int} (h : L[i]? = some x) (hx : f x = true) (ht : (L.take i).all f = true) : (L.take (i + 1)).all f = true := by
  rw [List.take_add_one, h]
  simp [ht, hx]
theorem all_bad {f : Int → Bool} {L : List Int} {i : Nat} {x : Int} (h : L[i]? = some x) (hx : f x = false) : L.all f = false := by
  rw [List.all_eq_false]
  exact ⟨x, List.mem_of_getElem? h, by simp [hx]⟩
set_option maxHeartbeats 1600000 in
theorem room_any (g1 g2 n1 n2 c1 c2 : Nat) (L1 L2 : List Int) (w : World) (h1 : RowNB w g1 L1) (h2 : RowNB w g2 L2) (hn1 : L1.length = n1) (hn2 : L2.length = n2) (hs1 : n1 ≤ 1000) (hs2 : n2 ≤ 1000) :
    Calls Tryz.prog 33 #[.slice (some ⟨g1, 0, none⟩) n1 c1, .slice (some ⟨g2, 0, none⟩) n2 c2] w fun e w' => e = .returned (.bool (L1.all r16 && L2.all r32)) ∧ w = w' := by
  have R1 := Lib.hid h1
  have R2 := Lib.hid h2
  have HG1 : Hid (∀ i, i < n1 → ∃ x, L1[i]? = some x) := Lib.hid (fun i hi => ⟨L1[i]'(by omega), List.getElem?_eq_getElem (by omega)⟩)
  have HG2 : Hid (∀ i, i < n2 → ∃ x, L2[i]? = some x) := Lib.hid (fun i hi => ⟨L2[i]'(by omega), List.getElem?_eq_getElem (by omega)⟩)
  have HB1 := Lib.hid (fun i x (h : L1[i]? = some x) (hx : r16 x = false) => all_bad h hx)
  have HB2 := Lib.hid (fun i x (h : L2[i]? = some x) (hx : r32 x = false) => all_bad h hx)
  have HT1 := Lib.hid (fun i x (h : L1[i]? = some x) (hx : r16 x = true) ht => all_take (f := r16) h hx ht)
  have HT2 := Lib.hid (fun i x (h : L2[i]? = some x) (hx : r32 x = true) ht => all_take (f := r32) h hx ht)
  have HF1 : Hid ((L1.take n1).all r16 = true → L1.all r16 = true) := Lib.hid (fun h => by rwa [List.take_of_length_le (by omega)] at h)
  have HF2 : Hid ((L2.take n2).all r32 = true → L2.all r32 = true) := Lib.hid (fun h => by rwa [List.take_of_length_le (by omega)] at h)
  have HZ1 : Hid ((L1.take 0).all r16 = true) := Lib.hid rfl
  have HZ2 : Hid ((L2.take 0).all r32 = true) := Lib.hid rfl
  have HI1 : Hid (∀ x w, Calls Tryz.prog 58 #[.int .i64 x, .int .i64 0, .int .i64 65535] w fun e w' => e = .returned (.bool (r16 x)) ∧ w = w') := Lib.hid (fun x w => in_any x 0 65535 w)
  have HI2 : Hid (∀ x w, Calls Tryz.prog 58 #[.int .i64 x, .int .i64 0, .int .i64 4294967295] w fun e w' => e = .returned (.bool (r32 x)) ∧ w = w') := Lib.hid (fun x w => in_any x 0 4294967295 w)
  clear h1 h2 hn1 hn2
  generalize L1.all r16 = A1 at *
  generalize L2.all r32 = A2 at *
  go_enter Tryz.func33, Tryz.ntmps33
  go_wp2_with fail
  go_loopw [5] (fun i wr => ∃ k : Nat, k ≤ n1 ∧ i = .int .i64 k ∧ (L1.take k).all r16 = true ∧ wr = w) (fun i _ => n1 - (intOf i).toNat)
  case atStart => exact ⟨0, Nat.zero_le _, rfl, HZ1.out, rfl⟩
  case round =>
    obtain ⟨k, hk, rfl, hA, rfl⟩ := hrel
    have HA := Lib.hid hA
    clear hA HZ1
    by_cases hlt : k < n1
    · obtain ⟨x, hx⟩ := HG1.out k hlt
      have hlt2 : (k : Int) < (n1 : Int) := by omega
      have c0 := R1.out k x hx
      have HBx := Lib.hid (HB1.out k x hx)
      have HTx := Lib.hid (fun h => HT1.out k x hx h HA.out)
      clear hx HA HB1 HT1
      go_wp2_with fail
      refine (HI1.out _ _).mono ?_
      rintro e w1 ⟨rfl, rfl⟩
      generalize r16 x = rx at *
      cases rx with
      | true =>
        have HN := Lib.hid (HTx.out rfl)
        clear HTx HBx
        go_wp2_with fail
        go_roundw
        case rel => exact ⟨k + 1, by omega, by go_num, HN.out, by trivial⟩
        case measure => simp [intOf]; omega
      | false =>
        have HN := Lib.hid (HBx.out rfl)
        clear HTx HBx
        go_wp2_with fail
        go_ret
        exact ⟨by rw [HN.out]; rfl, by trivial⟩
    · obtain rfl : k = n1 := by omega
      have HA0 := Lib.hid (HF1.out HA.out)
      clear HA HF1 HB1 HT1 HG1
      go_wp2_with fail
      go_loopw [6] (fun i wx => ∃ k : Nat, k ≤ n2 ∧ i = .int .i64 k ∧ (L2.take k).all r32 = true ∧ wx = wr) (fun i _ => n2 - (intOf i).toNat)
      case atStart => exact ⟨0, Nat.zero_le _, rfl, HZ2.out, by trivial⟩
      case round =>
        obtain ⟨k, hk, rfl, hA, rfl⟩ := hrel
        have HA := Lib.hid hA
        clear hA HZ2
        by_cases hlt : k < n2
        · obtain ⟨x, hx⟩ := HG2.out k hlt
          have hlt2 : (k : Int) < (n2 : Int) := by omega
          have c0 := R2.out k x hx
          have HBx := Lib.hid (HB2.out k x hx)
          have HTx := Lib.hid (fun h => HT2.out k x hx h HA.out)
          clear hx HA HB2 HT2
          go_wp2_with fail
          refine (HI2.out _ _).mono ?_
          rintro e w1 ⟨rfl, rfl⟩
          generalize r32 x = rx at *
          cases rx with
          | true =>
            have HN := Lib.hid (HTx.out rfl)
            clear HTx HBx
            go_wp2_with fail
            go_roundw
            case rel => exact ⟨k + 1, by omega, by go_num, HN.out, by trivial⟩
            case measure => simp [intOf]; omega
          | false =>
            have HN := Lib.hid (HBx.out rfl)
            clear HTx HBx
            go_wp2_with fail
            go_ret
            exact ⟨by rw [HA0.out, HN.out]; rfl, by trivial⟩
        · obtain rfl : k = n2 := by omega
          have HA1 := Lib.hid (HF2.out HA.out)
          clear HA HF2 HB2 HT2 HG2
          go_wp2_with fail
          go_ret
          exact ⟨by rw [HA0.out, HA1.out]; rfl, by trivial⟩
end Go.Proofs.YtancidbbkoeokaaGreat

/- The text of a card in words; contract of spec.PutBin. -/
namespace Go.Proofs.YtancidbbkoeokaaGreat
open Go.ChangeShapes Go.WideShapes Go.ChangeAt Go.RowKit Go.Deep

/-- Words one after another. -/
def wsT (hi : Bool) (L : List Int) : ByteArray := ⟨(L.flatMap fun x => (put16v x hi).data.toList).toArray⟩
theorem wsT_snoc (hi : Bool) (L : List Int) (x : Int) : wsT hi (L ++ [x]) = wsT hi L ++ put16v x hi := by
  apply ba_ext
  simp [wsT]
theorem ws_take {hi : Bool} {L : List Int} {i : Nat} {x : Int} (h : L[i]? = some x) : wsT hi (L.take (i + 1)) = wsT hi (L.take i) ++ put16v x hi := by
  rw [List.take_add_one, h]
  exact wsT_snoc _ _ _
theorem wsT_size (hi : Bool) (L : List Int) : (wsT hi L).size = 2 * L.length := by
  induction L with
  | nil => rfl
  | cons x L ih =>
    have e1 : (wsT hi (x :: L)).size = ((x :: L).flatMap fun x => (put16v x hi).data.toList).length := List.size_toArray
    have e2 : (wsT hi L).size = (L.flatMap fun x => (put16v x hi).data.toList).length := List.size_toArray
    have e3 : (put16v x hi).data.toList.length = (put16v x hi).size := Array.length_toList
    rw [e1, List.flatMap_cons, List.length_append, e3, put16_size, List.length_cons]
    omega
theorem ws_headA (c : Card) (hi : Bool) : wsT hi [29127, 0, c.Ino, c.Mode, c.Uid, c.Gid, c.Count, 0] ++ put32v c.Time hi = headA c hi := by
  apply ba_ext
  simp [wsT, headA]
theorem app_nilB (a : ByteArray) : a ++ ⟨#[]⟩ = a := by
  apply ba_ext
  simp
theorem pad2_spec (n : Nat) (hn : n ≤ 9007199254740991) (w : World) : Calls Tryz.prog 37 #[.int .i64 (n : Int), .int .i64 2] w fun e w' => e = .returned (.int .i64 (pad2 n : Int)) ∧ w = w' := by
  have h := pad_spec (n : Int) 2 w
  rw [padv2 n hn] at h
  exact h
theorem nuls2_spec (n : Nat) (hn : n ≤ 1024) (w : World) : Calls Tryz.prog 36 #[.int .i64 (n : Int)] w fun e w' => e = .returned (.string (nulN n)) ∧ Below w.heap.size w w' := by
  have h := nulz_spec (n : Int) w (by omega)
  rw [Int.toNat_natCast] at h
  exact h
theorem and_shuf (a b c d e f g h : Bool) : ((a && (b && (c && (d && (e && g))))) && (f && h)) = (a && b && c && d && e && f && g && h) := by cases a <;> cases b <;> cases c <;> cases d <;> cases e <;> cases f <;> cases g <;> cases h <;> rfl
theorem binOk_room (c : Card) : (([29127, 0, c.Ino, c.Mode, c.Uid, c.Gid, c.Count, 0] ++ [(c.Path.size : Int) + 1]).all r16 && [c.Time, (c.Data.size : Int)].all r32) = binOk c := by
  have e1 : r16 29127 = true := by decide
  have e2 : r16 0 = true := by decide
  simp only [binOk, List.cons_append, List.nil_append, List.all_cons, List.all_nil, e1, e2, Bool.true_and, Bool.and_true]
  exact and_shuf _ _ _ _ _ _ _ _
set_option maxHeartbeats 6400000 in
set_option maxRecDepth 8000 in
theorem putBin_spec (ino mo u1 gi cn t : Int) (p d : ByteArray) (hi : Bool) (w : World) (hp : p.size ≤ 4194304) (hd : d.size ≤ 4194304) :
    Calls Tryz.prog 18 #[.agg #[.int .i64 ino, .int .i64 mo, .int .i64 u1, .int .i64 gi, .int .i64 cn, .int .i64 t, .string p, .string d], .bool hi] w fun e w' => e = .returned (.string (binTextv ⟨ino, mo, u1, gi, cn, t, p, d⟩ hi)) ∧ Below w.heap.size w w' := by
  have HG : Hid (∀ i, i < 8 → ∃ x, [29127, 0, ino, mo, u1, gi, cn, 0][i]? = some x) := Lib.hid (fun i hi => ⟨[29127, 0, ino, mo, u1, gi, cn, 0][i], List.getElem?_eq_getElem (by simpa using hi)⟩)
  have HS := Lib.hid (fun i x (h : [29127, 0, ino, mo, u1, gi, cn, 0][i]? = some x) => ws_take (hi := hi) h)
  have HZ : Hid (wsT hi ([29127, 0, ino, mo, u1, gi, cn, 0].take 0) = ⟨#[]⟩) := Lib.hid rfl
  have HLe : Hid (∀ i, (wsT hi ([29127, 0, ino, mo, u1, gi, cn, 0].take i)).size ≤ 16) := Lib.hid (fun i => by rw [wsT_size, List.length_take]; have : [29127, 0, ino, mo, u1, gi, cn, 0].length = 8 := rfl; omega)
  have HV : Hid (binTextv ⟨ino, mo, u1, gi, cn, t, p, d⟩ hi = if binOk ⟨ino, mo, u1, gi, cn, t, p, d⟩ then wsT hi [29127, 0, ino, mo, u1, gi, cn, 0] ++ put32v t hi ++ put16v ((p.size : Int) + 1) hi ++ put32v (d.size : Int) hi ++ p ++ ⟨#[0]⟩ ++ nulN (pad2 (p.size + 1)) ++ d ++ nulN (pad2 d.size) else ⟨#[]⟩) := Lib.hid (by
    show (if binOk ⟨ino, mo, u1, gi, cn, t, p, d⟩ then headB ⟨ino, mo, u1, gi, cn, t, p, d⟩ hi ++ p ++ ⟨#[0]⟩ ++ nulN (pad2 (p.size + 1)) ++ d ++ nulN (pad2 d.size) else ⟨#[]⟩) = _
    have := ws_headA ⟨ino, mo, u1, gi, cn, t, p, d⟩ hi
    simp only at this
    rw [headB, ← this])
  have HF : Hid (wsT hi ([29127, 0, ino, mo, u1, gi, cn, 0].take 8) = wsT hi [29127, 0, ino, mo, u1, gi, cn, 0] ∧ (wsT hi [29127, 0, ino, mo, u1, gi, cn, 0]).size = 16) := Lib.hid ⟨rfl, wsT_size _ _⟩
  have HR8 := Lib.hid (fun (w : World) (g : Nat) (ty : TypeId) (h : w.heap[g]? = some (.cells #[.int .i64 29127, .int .i64 0, .int .i64 ino, .int .i64 mo, .int .i64 u1, .int .i64 gi, .int .i64 cn, .int .i64 0] ty (0, 0))) => RowNB.of (l := [29127, 0, ino, mo, u1, gi, cn, 0]) h)
  have HOk : Hid ((([29127, 0, ino, mo, u1, gi, cn, 0] ++ [(p.size : Int) + 1]).all r16 && [t, (d.size : Int)].all r32) = binOk ⟨ino, mo, u1, gi, cn, t, p, d⟩) := Lib.hid (binOk_room ⟨ino, mo, u1, gi, cn, t, p, d⟩)
  generalize binTextv ⟨ino, mo, u1, gi, cn, t, p, d⟩ hi = r at HV
  generalize binOk ⟨ino, mo, u1, gi, cn, t, p, d⟩ = ok at HV HOk
  generalize wsT hi [29127, 0, ino, mo, u1, gi, cn, 0] = hx at HF HV
  have HP16 := Lib.hid (fun x w => put16_spec x hi w)
  have HP32 := Lib.hid (fun x w => put32_spec x hi w)
  have H16 := Lib.hid (fun x => put16_size x hi)
  have zt := put32_size t hi
  have zd := put32_size (d.size : Int) hi
  have zp := put16_size ((p.size : Int) + 1) hi
  have HPt := Lib.hid (fun w => put32_spec t hi w)
  have HPd := Lib.hid (fun w => put32_spec (d.size : Int) hi w)
  have HPp := Lib.hid (fun w => put16_spec ((p.size : Int) + 1) hi w)
  generalize put32v t hi = bt at *
  generalize put32v (d.size : Int) hi = bd at *
  generalize put16v ((p.size : Int) + 1) hi = bp at *
  have hq1 := pad2_le (p.size + 1)
  have hq2 := pad2_le d.size
  have HN1 := Lib.hid (fun w => nuls2_spec (pad2 (p.size + 1)) (by omega) w)
  have HN2 := Lib.hid (fun w => nuls2_spec (pad2 d.size) (by omega) w)
  have HP1 := Lib.hid (fun w => pad2_spec (p.size + 1) (by omega) w)
  rw [show ((p.size + 1 : Nat) : Int) = (p.size : Int) + 1 from by omega] at HP1
  have HP2 := Lib.hid (fun w => pad2_spec d.size (by omega) w)
  have hz1 := nulN_size (pad2 (p.size + 1))
  have hz2 := nulN_size (pad2 d.size)
  generalize nulN (pad2 (p.size + 1)) = nu1 at *
  generalize nulN (pad2 d.size) = nu2 at *
  generalize pad2 (p.size + 1) = q1 at *
  generalize pad2 d.size = q2 at *
  go_enter Tryz.func18, Tryz.ntmps18
  go_upto_region 1 with fail
  generalize hw1 : World.alloc w _ = w1
  have XC : Hid (CardO w1 w.heap.size ⟨ino, mo, u1, gi, cn, t, p, d⟩) := Lib.hid (by rw [← hw1]; exact CardO.new w ⟨ino, mo, u1, gi, cn, t, p, d⟩)
  have B1 : Hid (Below w.heap.size w w1) := Lib.hid (by rw [← hw1]; exact (Below.refl _ _).alloc (Nat.le_refl _) _)
  have hs1 : w1.heap.size = w.heap.size + 1 := by rw [← hw1]; simp
  clear hw1
  obtain ⟨d0, d1, d2, d3, d4, d5, d6, d7⟩ := XC.out.at.zero
  go_upto_region 2 with fail
  clear d0 d1 d2 d3 d4 d5 d6 d7
  generalize hwq : World.alloc w1 _ = wq
  have hsq : wq.heap.size = w1.heap.size + 1 := by rw [← hwq]; simp
  have BQ : Hid (Below w1.heap.size w1 wq) := Lib.hid (by rw [← hwq]; exact (Below.refl _ _).alloc (Nat.le_refl _) _)
  have RQ : Hid (RowNB wq (w.heap.size + 1) [29127, 0, ino, mo, u1, gi, cn, 0]) := Lib.hid (by rw [← hs1]; exact HR8.out wq w1.heap.size 3 (by rw [← hwq]; exact heap_lastG _ _))
  clear hwq HR8
  have XCq : Hid (CardO wq w.heap.size ⟨ino, mo, u1, gi, cn, t, p, d⟩) := Lib.hid (XC.out.below BQ.out (by omega))
  have KC : Hid (∀ w', Below wq.heap.size wq w' → w'.cell? ⟨w.heap.size, 0, none⟩ = some (.int .i64 ino) ∧ w'.cell? ⟨w.heap.size, 1, none⟩ = some (.int .i64 mo) ∧ w'.cell? ⟨w.heap.size, 2, none⟩ = some (.int .i64 u1) ∧ w'.cell? ⟨w.heap.size, 3, none⟩ = some (.int .i64 gi) ∧ w'.cell? ⟨w.heap.size, 4, none⟩ = some (.int .i64 cn) ∧ w'.cell? ⟨w.heap.size, 5, none⟩ = some (.int .i64 t) ∧ w'.cell? ⟨w.heap.size, 6, none⟩ = some (.string p) ∧ w'.cell? ⟨w.heap.size, 7, none⟩ = some (.string d)) := Lib.hid (fun w' hb => (XCq.out.below hb (by omega)).at.zero)
  refine wp_region_inv (by kernel_rfl) (fun w' => Below wq.heap.size wq w') (fun x y => Below x.heap.size x y) (vE 25 (appRow wq.heap.size 9 ([29127, 0, ino, mo, u1, gi, cn, 0] ++ [(p.size : Int) + 1])) (vE 31 (exRow wq.heap.size 2 #[.int .i64 t, .int .i64 (d.size : Int)] 3) (vE 24 (exRow wq.heap.size 1 #[.int .i64 ((p.size : Int) + 1)] 3) (fun dq vq _ => match dq with | 19 => vq = .slice (some ⟨w.heap.size + 1, 0, none⟩) 8 8 | 20 => vq = .pointer (some ⟨w.heap.size, 6, none⟩) | 21 => vq = .string p | 22 => vq = .int .i64 (p.size : Int) | 23 => vq = .int .i64 ((p.size : Int) + 1) | 26 => vq = .pointer (some ⟨w.heap.size, 5, none⟩) | 27 => vq = .int .i64 t | 28 => vq = .pointer (some ⟨w.heap.size, 7, none⟩) | 29 => vq = .string d | 30 => vq = .int .i64 (d.size : Int) | 32 => vq = .bool ok | 33 => vq = .bool (!ok) | _ => True)))) (by kernel_rfl) ((Below.refl _ _).drew) (vE_keep _ _ _ (appRow_keep _ _ _) (vE_keep _ _ _ (exRow_keep _ _ _ _) (vE_keep _ _ _ (exRow_keep _ _ _ _) (fun _ _ _ _ _ _ h => h)))) ?hops ?hend
  case hops =>
    simp only [List.forall_mem_cons]
    refine ⟨?o19, ?o20, ?o21, ?o22, ?o23, ?o24, ?o25, ?o26, ?o27, ?o28, ?o29, ?o30, ?o31, ?o32, ?o33, fun _ h => by cases h⟩
    case o19 =>
      intro Q a w2 hC hV hI
      have e5 : a.eval (.tmp 5) = .slice (some ⟨w.heap.size + 1, 0, none⟩) 8 8 := (hI 5 (by simp [Op.operands]) (by kernel_rfl)).trans rfl
      have f5 : a.tmps.getD 5 undef = .slice (some ⟨w.heap.size + 1, 0, none⟩) 8 8 := e5
      have g5 : a.tmps[5]?.getD undef = .slice (some ⟨w.heap.size + 1, 0, none⟩) 8 8 := by rw [← Array.getD_eq_getD_getElem?]; exact e5
      refine op_val (.slice (some ⟨w.heap.size + 1, 0, none⟩) 8 8) ?_ hC (Below.refl _ _) (by intro d hd; cases hd; exact rfl)
      (clear hV hI hC; go_simp <;> (first | rfl | simp | (rw [IntKind.wrap_i64]; omega)))
    case o20 =>
      intro Q a w2 hC hV hI
      have e2 : a.eval (.tmp 2) = .pointer (some ⟨w.heap.size, 0, none⟩) := (hI 2 (by simp [Op.operands]) (by kernel_rfl)).trans rfl
      have f2 : a.tmps.getD 2 undef = .pointer (some ⟨w.heap.size, 0, none⟩) := e2
      have g2 : a.tmps[2]?.getD undef = .pointer (some ⟨w.heap.size, 0, none⟩) := by rw [← Array.getD_eq_getD_getElem?]; exact e2
      refine op_val (.pointer (some ⟨w.heap.size, 6, none⟩)) ?_ hC (Below.refl _ _) (by intro d hd; cases hd; exact rfl)
      (clear hV hI hC; go_simp <;> (first | rfl | simp | (rw [IntKind.wrap_i64]; omega)))
    case o21 =>
      intro Q a w2 hC hV hI
      have e20 : a.eval (.tmp 20) = .pointer (some ⟨w.heap.size, 6, none⟩) := hV 20 (by simp [Op.operands]) (by kernel_rfl)
      have f20 : a.tmps.getD 20 undef = .pointer (some ⟨w.heap.size, 6, none⟩) := e20
      have g20 : a.tmps[20]?.getD undef = .pointer (some ⟨w.heap.size, 6, none⟩) := by rw [← Array.getD_eq_getD_getElem?]; exact e20
      have hK := KC.out w2 hC
      refine op_val (.string p) ?_ hC (Below.refl _ _) (by intro d hd; cases hd; exact rfl)
      (clear hV hI hC; go_simp <;> (first | rfl | simp | (rw [IntKind.wrap_i64]; omega)))
    case o22 =>
      intro Q a w2 hC hV hI
      have e21 : a.eval (.tmp 21) = .string p := hV 21 (by simp [Op.operands, Call.operands]) (by kernel_rfl)
      have f21 : a.tmps.getD 21 undef = .string p := e21
      have g21 : a.tmps[21]?.getD undef = .string p := by rw [← Array.getD_eq_getD_getElem?]; exact e21
      refine op_val (.int .i64 (p.size : Int)) ?_ hC (Below.refl _ _) (by intro d hd; cases hd; exact rfl)
      (clear hV hI hC; go_simp <;> (first | rfl | simp | (rw [IntKind.wrap_i64]; omega)))
    case o23 =>
      intro Q a w2 hC hV hI
      have e22 : a.eval (.tmp 22) = .int .i64 (p.size : Int) := hV 22 (by simp [Op.operands]) (by kernel_rfl)
      have f22 : a.tmps.getD 22 undef = .int .i64 (p.size : Int) := e22
      have g22 : a.tmps[22]?.getD undef = .int .i64 (p.size : Int) := by rw [← Array.getD_eq_getD_getElem?]; exact e22
      have q9 := add_i64 (P := Tryz.prog) (a := (p.size : Int)) (b := 1) w2 3 (by omega) (by omega)
      refine op_val (.int .i64 ((p.size : Int) + 1)) ?_ hC (Below.refl _ _) (by intro d hd; cases hd; exact rfl)
      (clear hV hI hC; go_simp <;> (first | rfl | simp | (rw [IntKind.wrap_i64]; omega)))
    case o24 =>
      intro Q a w2 hC hV hI
      have e23 : a.eval (.tmp 23) = .int .i64 ((p.size : Int) + 1) := hV 23 (by simp [Op.operands]) (by kernel_rfl)
      have f23 : a.tmps.getD 23 undef = .int .i64 ((p.size : Int) + 1) := e23
      have g23 : a.tmps[23]?.getD undef = .int .i64 ((p.size : Int) + 1) := by rw [← Array.getD_eq_getD_getElem?]; exact e23
      refine op_val (.slice (some ⟨w2.heap.size, 0, none⟩) 1 1) (w' := w2.alloc (.cells #[.int .i64 ((p.size : Int) + 1)] 3)) ?_ (hC.alloc hC.size _) ((Below.refl _ _).alloc (Nat.le_refl _) _) ?_
      · (clear hV hI hC; go_simp <;> (first | rfl | simp | (rw [IntKind.wrap_i64]; omega)))
      · intro d hd; cases hd; exact ⟨w2.heap.size, rfl, hC.size, heap_lastG _ _⟩
    case o25 =>
      intro Q a w2 hC hV hI
      have e19 : a.eval (.tmp 19) = .slice (some ⟨w.heap.size + 1, 0, none⟩) 8 8 := hV 19 (by simp [Op.operands, Call.operands]) (by kernel_rfl)
      have f19 : a.tmps.getD 19 undef = .slice (some ⟨w.heap.size + 1, 0, none⟩) 8 8 := e19
      have g19 : a.tmps[19]?.getD undef = .slice (some ⟨w.heap.size + 1, 0, none⟩) 8 8 := by rw [← Array.getD_eq_getD_getElem?]; exact e19
      obtain ⟨G24, e24, b24, o24⟩ : ∃ G, a.eval (.tmp 24) = .slice (some ⟨G, 0, none⟩) 1 1 ∧ wq.heap.size ≤ G ∧ w2.heap[G]? = some (.cells #[.int .i64 ((p.size : Int) + 1)] 3 (0, 0)) := hV 24 (by simp [Op.operands, Call.operands]) (by kernel_rfl)
      have f24 : a.tmps.getD 24 undef = .slice (some ⟨G24, 0, none⟩) 1 1 := e24
      have g24 : a.tmps[24]?.getD undef = .slice (some ⟨G24, 0, none⟩) 1 1 := by rw [← Array.getD_eq_getD_getElem?]; exact e24
      have hx1 : w2.cell? ⟨G24, 0, none⟩ = some (.int .i64 ((p.size : Int) + 1)) := by simp [World.cell?, o24]
      have hrw := RQ.out.below hC (by omega)
      obtain ⟨v9, w9, q1, q2, q3⟩ := app_full [29127, 0, ino, mo, u1, gi, cn, 0] ((p.size : Int) + 1) (w.heap.size + 1) G24 8 8 1 w2 63 rfl rfl hrw hx1 (by decide)
      refine op_app (.tmp 19) (.tmp 24) 63 rfl _ _ v9 (w' := w9) e19 e24 q1 (hC.trans (q3.mono hC.size)) q3 ?_
      intro d hd; cases hd; obtain ⟨G9, c9, r1, r2, r3, r4⟩ := q2; exact ⟨G9, c9, r1, Nat.le_trans hC.size r2, r3, r4⟩
    case o26 =>
      intro Q a w2 hC hV hI
      have e2 : a.eval (.tmp 2) = .pointer (some ⟨w.heap.size, 0, none⟩) := (hI 2 (by simp [Op.operands]) (by kernel_rfl)).trans rfl
      have f2 : a.tmps.getD 2 undef = .pointer (some ⟨w.heap.size, 0, none⟩) := e2
      have g2 : a.tmps[2]?.getD undef = .pointer (some ⟨w.heap.size, 0, none⟩) := by rw [← Array.getD_eq_getD_getElem?]; exact e2
      refine op_val (.pointer (some ⟨w.heap.size, 5, none⟩)) ?_ hC (Below.refl _ _) (by intro d hd; cases hd; exact rfl)
      (clear hV hI hC; go_simp <;> (first | rfl | simp | (rw [IntKind.wrap_i64]; omega)))
    case o27 =>
      intro Q a w2 hC hV hI
      have e26 : a.eval (.tmp 26) = .pointer (some ⟨w.heap.size, 5, none⟩) := hV 26 (by simp [Op.operands]) (by kernel_rfl)
      have f26 : a.tmps.getD 26 undef = .pointer (some ⟨w.heap.size, 5, none⟩) := e26
      have g26 : a.tmps[26]?.getD undef = .pointer (some ⟨w.heap.size, 5, none⟩) := by rw [← Array.getD_eq_getD_getElem?]; exact e26
      have hK := KC.out w2 hC
      refine op_val (.int .i64 t) ?_ hC (Below.refl _ _) (by intro d hd; cases hd; exact rfl)
      (clear hV hI hC; go_simp <;> (first | rfl | simp | (rw [IntKind.wrap_i64]; omega)))
    case o28 =>
      intro Q a w2 hC hV hI
      have e2 : a.eval (.tmp 2) = .pointer (some ⟨w.heap.size, 0, none⟩) := (hI 2 (by simp [Op.operands]) (by kernel_rfl)).trans rfl
      have f2 : a.tmps.getD 2 undef = .pointer (some ⟨w.heap.size, 0, none⟩) := e2
      have g2 : a.tmps[2]?.getD undef = .pointer (some ⟨w.heap.size, 0, none⟩) := by rw [← Array.getD_eq_getD_getElem?]; exact e2
      refine op_val (.pointer (some ⟨w.heap.size, 7, none⟩)) ?_ hC (Below.refl _ _) (by intro d hd; cases hd; exact rfl)
      (clear hV hI hC; go_simp <;> (first | rfl | simp | (rw [IntKind.wrap_i64]; omega)))
    case o29 =>
      intro Q a w2 hC hV hI
      have e28 : a.eval (.tmp 28) = .pointer (some ⟨w.heap.size, 7, none⟩) := hV 28 (by simp [Op.operands]) (by kernel_rfl)
      have f28 : a.tmps.getD 28 undef = .pointer (some ⟨w.heap.size, 7, none⟩) := e28
      have g28 : a.tmps[28]?.getD undef = .pointer (some ⟨w.heap.size, 7, none⟩) := by rw [← Array.getD_eq_getD_getElem?]; exact e28
      have hK := KC.out w2 hC
      refine op_val (.string d) ?_ hC (Below.refl _ _) (by intro d hd; cases hd; exact rfl)
      (clear hV hI hC; go_simp <;> (first | rfl | simp | (rw [IntKind.wrap_i64]; omega)))
    case o30 =>
      intro Q a w2 hC hV hI
      have e29 : a.eval (.tmp 29) = .string d := hV 29 (by simp [Op.operands, Call.operands]) (by kernel_rfl)
      have f29 : a.tmps.getD 29 undef = .string d := e29
      have g29 : a.tmps[29]?.getD undef = .string d := by rw [← Array.getD_eq_getD_getElem?]; exact e29
      refine op_val (.int .i64 (d.size : Int)) ?_ hC (Below.refl _ _) (by intro d hd; cases hd; exact rfl)
      (clear hV hI hC; go_simp <;> (first | rfl | simp | (rw [IntKind.wrap_i64]; omega)))
    case o31 =>
      intro Q a w2 hC hV hI
      have e27 : a.eval (.tmp 27) = .int .i64 t := hV 27 (by simp [Op.operands]) (by kernel_rfl)
      have f27 : a.tmps.getD 27 undef = .int .i64 t := e27
      have g27 : a.tmps[27]?.getD undef = .int .i64 t := by rw [← Array.getD_eq_getD_getElem?]; exact e27
      have e30 : a.eval (.tmp 30) = .int .i64 (d.size : Int) := hV 30 (by simp [Op.operands]) (by kernel_rfl)
      have f30 : a.tmps.getD 30 undef = .int .i64 (d.size : Int) := e30
      have g30 : a.tmps[30]?.getD undef = .int .i64 (d.size : Int) := by rw [← Array.getD_eq_getD_getElem?]; exact e30
      refine op_val (.slice (some ⟨w2.heap.size, 0, none⟩) 2 2) (w' := w2.alloc (.cells #[.int .i64 t, .int .i64 (d.size : Int)] 3)) ?_ (hC.alloc hC.size _) ((Below.refl _ _).alloc (Nat.le_refl _) _) ?_
      · (clear hV hI hC; go_simp <;> (first | rfl | simp | (rw [IntKind.wrap_i64]; omega)))
      · intro d hd; cases hd; exact ⟨w2.heap.size, rfl, hC.size, heap_lastG _ _⟩
    case o32 =>
      intro Q a w2 hC hV hI
      obtain ⟨G25, c25, e25, b25, l25, o25⟩ : ∃ G c, a.eval (.tmp 25) = .slice (some ⟨G, 0, none⟩) 9 c ∧ wq.heap.size ≤ G ∧ G < w2.heap.size ∧ RowNB w2 G ([29127, 0, ino, mo, u1, gi, cn, 0] ++ [(p.size : Int) + 1]) := hV 25 (by simp [Op.operands, Call.operands]) (by kernel_rfl)
      have f25 : a.tmps.getD 25 undef = .slice (some ⟨G25, 0, none⟩) 9 c25 := e25
      have g25 : a.tmps[25]?.getD undef = .slice (some ⟨G25, 0, none⟩) 9 c25 := by rw [← Array.getD_eq_getD_getElem?]; exact e25
      obtain ⟨G31, e31, b31, o31⟩ : ∃ G, a.eval (.tmp 31) = .slice (some ⟨G, 0, none⟩) 2 2 ∧ wq.heap.size ≤ G ∧ w2.heap[G]? = some (.cells #[.int .i64 t, .int .i64 (d.size : Int)] 3 (0, 0)) := hV 31 (by simp [Op.operands, Call.operands]) (by kernel_rfl)
      have f31 : a.tmps.getD 31 undef = .slice (some ⟨G31, 0, none⟩) 2 2 := e31
      have g31 : a.tmps[31]?.getD undef = .slice (some ⟨G31, 0, none⟩) 2 2 := by rw [← Array.getD_eq_getD_getElem?]; exact e31
      refine op_call (f := 33) (args := #[.slice (some ⟨G25, 0, none⟩) 9 c25, .slice (some ⟨G31, 0, none⟩) 2 2]) (R := fun v y => v = .bool ok ∧ w2 = y) ?_ (((by rw [← HOk.out]; exact room_any G25 G31 9 2 c25 2 ([29127, 0, ino, mo, u1, gi, cn, 0] ++ [(p.size : Int) + 1]) [t, (d.size : Int)] w2 o25 (RowNB.of (l := [t, (d.size : Int)]) o31) rfl rfl (by decide) (by decide) : Calls Tryz.prog 33 #[.slice (some ⟨G25, 0, none⟩) 9 c25, .slice (some ⟨G31, 0, none⟩) 2 2] w2 fun e w' => e = .returned (.bool ok) ∧ w2 = w')).mono ?_) ?_
      · (clear hV hI hC; go_simp <;> (first | rfl | simp | (rw [IntKind.wrap_i64]; omega)))
      · rintro e y ⟨rfl, rfl⟩; exact ⟨_, rfl, rfl, rfl⟩
      · rintro v y ⟨rfl, rfl⟩; exact ⟨hC, Below.refl _ _, by intro d hd; cases hd; exact rfl⟩
    case o33 =>
      intro Q a w2 hC hV hI
      have e32 : a.eval (.tmp 32) = .bool ok := hV 32 (by simp [Op.operands]) (by kernel_rfl)
      have f32 : a.tmps.getD 32 undef = .bool ok := e32
      have g32 : a.tmps[32]?.getD undef = .bool ok := by rw [← Array.getD_eq_getD_getElem?]; exact e32
      refine op_val (.bool (!ok)) ?_ hC (Below.refl _ _) (by intro d hd; cases hd; exact rfl)
      (clear hV hI hC; go_simp <;> (first | rfl | simp | (rw [IntKind.wrap_i64]; omega)))
  case hend =>
    intro f wz hC hall
    simp only [List.forall_mem_cons] at hall
    obtain ⟨h19, h20, h21, h22, h23, h24, h25, h26, h27, h28, h29, h30, h31, h32, h33, _⟩ := hall
    replace h19 : f 19 = .slice (some ⟨w.heap.size + 1, 0, none⟩) 8 8 := h19 19 rfl
    replace h20 : f 20 = .pointer (some ⟨w.heap.size, 6, none⟩) := h20 20 rfl
    replace h21 : f 21 = .string p := h21 21 rfl
    replace h22 : f 22 = .int .i64 (p.size : Int) := h22 22 rfl
    replace h23 : f 23 = .int .i64 ((p.size : Int) + 1) := h23 23 rfl
    obtain ⟨G24, hG24, hGB24, hGO24⟩ : ∃ G, f 24 = .slice (some ⟨G, 0, none⟩) 1 1 ∧ wq.heap.size ≤ G ∧ wz.heap[G]? = some (.cells #[.int .i64 ((p.size : Int) + 1)] 3 (0, 0)) := h24 24 rfl
    obtain ⟨G25, c25, hG25, hGB25, hGl25, hGO25⟩ : ∃ G c, f 25 = .slice (some ⟨G, 0, none⟩) 9 c ∧ wq.heap.size ≤ G ∧ G < wz.heap.size ∧ RowNB wz G ([29127, 0, ino, mo, u1, gi, cn, 0] ++ [(p.size : Int) + 1]) := h25 25 rfl
    replace h26 : f 26 = .pointer (some ⟨w.heap.size, 5, none⟩) := h26 26 rfl
    replace h27 : f 27 = .int .i64 t := h27 27 rfl
    replace h28 : f 28 = .pointer (some ⟨w.heap.size, 7, none⟩) := h28 28 rfl
    replace h29 : f 29 = .string d := h29 29 rfl
    replace h30 : f 30 = .int .i64 (d.size : Int) := h30 30 rfl
    obtain ⟨G31, hG31, hGB31, hGO31⟩ : ∃ G, f 31 = .slice (some ⟨G, 0, none⟩) 2 2 ∧ wq.heap.size ≤ G ∧ wz.heap[G]? = some (.cells #[.int .i64 t, .int .i64 (d.size : Int)] 3 (0, 0)) := h31 31 rfl
    replace h32 : f 32 = .bool ok := h32 32 rfl
    replace h33 : f 33 = .bool (!ok) := h33 33 rfl
    simp only [putAll, Act.put, List.setIfInBounds_toArray, List.set_cons_succ, List.set_cons_zero, h19, h20, h21, h22, h23, hG24, hG25, h26, h27, h28, h29, h30, hG31, h32, h33]
    clear h19 h20 h21 h22 h23 hG24 h24 hG25 h25 h26 h27 h28 h29 h30 hG31 h31 h32 h33
    have XC2 := Lib.hid (XCq.out.below hC (by omega))
    have RW := Lib.hid (RQ.out.below hC (by omega))
    have hGl : w.heap.size + 1 < wz.heap.size := by have := hC.size; omega
    have B2 := Lib.hid ((B1.out.trans (BQ.out.mono (by omega))).trans (hC.mono (by omega)))
    clear KC XC XCq B1 hGO24 hGO25 hGO31 hC RQ BQ HOk hGB24 hGB25 hGB31 hGl25
    cases ok with
    | false =>
      have HF2 : Hid (r = ⟨#[]⟩) := Lib.hid (by rw [HV.out]; rfl)
      clear HV HG HS HF
      go_wp2_with fail
      go_ret
      exact ⟨by rw [HF2.out]; rfl, B2.out⟩
    | true =>
    replace HV : Hid (r = hx ++ bt ++ bp ++ bd ++ p ++ ⟨#[0]⟩ ++ nu1 ++ d ++ nu2) := Lib.hid (by rw [HV.out]; rfl)
    generalize [29127, 0, ino, mo, u1, gi, cn, 0] = L at *
    go_wp2_with fail
    go_loopw [6, 7] (fun v u wr => ∃ i : Nat, u = .int .i64 i ∧ i ≤ 8 ∧ v = .string (wsT hi (L.take i)) ∧ RowNB wr (w.heap.size + 1) L ∧ w.heap.size + 1 < wr.heap.size ∧ CardO wr w.heap.size ⟨ino, mo, u1, gi, cn, t, p, d⟩ ∧ Below w.heap.size w wr) (fun _ u _ => 8 - (intOf u).toNat)
    case atStart => exact ⟨0, rfl, Nat.zero_le _, by rw [HZ.out], RW.out, hGl, XC2.out, B2.out⟩
    case round =>
      obtain ⟨i, rfl, hi8, rfl, hrw, hgl, hxc, hb⟩ := hrel
      clear XC2 RW B2 hGl
      have B := Lib.hid hb
      have RW := Lib.hid hrw
      have XC := Lib.hid hxc
      have hszB := B.out.size
      clear hb hrw hxc
      have hle := HLe.out i
      by_cases hlt : i < 8
      · have hlt2 : (i : Int) < 8 := by omega
        obtain ⟨x, hx9⟩ := HG.out i hlt
        have HS2 := Lib.hid (HS.out i _ hx9)
        have cN := RW.out i x hx9
        have HPx := Lib.hid (fun w => HP16.out x w)
        have hpl := H16.out x
        clear hx9 HS HG HN1 HN2 HP1 HP2
        obtain ⟨Tx, hT⟩ : ∃ Tx, wsT hi (L.take i) = Tx := ⟨_, rfl⟩
        rw [hT] at HS2 hle ⊢
        clear hT
        generalize put16v x hi = q at HS2 HPx hpl
        have HA := (fun w => run_string_add_sum (P := Tryz.prog) w Tx q (by omega))
        go_wp2_with fail
        refine (HPx.out _).mono ?_
        rintro e wp ⟨rfl, hbp⟩
        have B3 := Lib.hid (B.out.trans (hbp.mono hszB))
        have RW3 := Lib.hid (RW.out.below hbp (by omega))
        have XC3 := Lib.hid (XC.out.below hbp (by omega))
        have hgl3 : w.heap.size + 1 < wp.heap.size := by have := hbp.size; omega
        clear hbp cN
        go_wp2_with fail
        go_roundw
        case rel => exact ⟨_, _, _, _, _, _, _, _, _, _, _, _, _, _, _, _, ⟨i + 1, by go_num, by omega, by rw [HS2.out], RW3.out, hgl3, XC3.out, B3.out⟩, rfl⟩
        case measure => simp [intOf]; omega
      · obtain rfl : i = 8 := by omega
        have hlt2 : ¬ ((8 : Nat) : Int) < 8 := by omega
        have hxz := HF.out.2
        have HF9 := HF.out.1
        rw [HF9]
        clear HF9 HF HS HG HZ HLe RW HP16 H16
        have z1 : (⟨#[0]⟩ : ByteArray).size = 1 := rfl
        obtain ⟨k0, k1, k2, k3, k4, k5, k6, k7⟩ := XC.out.at.zero
        simp only at k5 k6 k7
        have hcl := XC.out.lt
        obtain ⟨w3, hw3⟩ : ∃ wo, wo = wr := ⟨_, rfl⟩
        subst hw3
        go_upto_region 9 with fail
        have KC : Hid (∀ w', Below w3.heap.size w3 w' → w'.cell? ⟨w.heap.size, 5, none⟩ = some (.int .i64 t) ∧ w'.cell? ⟨w.heap.size, 6, none⟩ = some (.string p) ∧ w'.cell? ⟨w.heap.size, 7, none⟩ = some (.string d)) := Lib.hid (fun w' hb => ⟨(hb.cell (p := ⟨w.heap.size, 5, none⟩) hcl).trans k5, (hb.cell (p := ⟨w.heap.size, 6, none⟩) hcl).trans k6, (hb.cell (p := ⟨w.heap.size, 7, none⟩) hcl).trans k7⟩)
        obtain ⟨x53, hx53⟩ : ∃ x : ByteArray, x = hx ++ bt := ⟨_, rfl⟩
        obtain ⟨x60, hx60⟩ : ∃ x : ByteArray, x = x53 ++ bp := ⟨_, rfl⟩
        obtain ⟨x66, hx66⟩ : ∃ x : ByteArray, x = x60 ++ bd := ⟨_, rfl⟩
        have zx53 : x53.size ≤ 20 := by rw [hx53, ByteArray.size_append]; omega
        have zx60 : x60.size ≤ 22 := by rw [hx60, ByteArray.size_append]; omega
        have zx66 : x66.size ≤ 26 := by rw [hx66, ByteArray.size_append]; omega
        have HA53 : Hid (∀ w, (Op.stringOp .add hx bt).run Tryz.prog w = .ok (.string x53) w) := Lib.hid (fun w => by rw [hx53]; exact run_string_add_sum w _ _ (by omega))
        have HA60 : Hid (∀ w, (Op.stringOp .add x53 bp).run Tryz.prog w = .ok (.string x60) w) := Lib.hid (fun w => by rw [hx60]; exact run_string_add_sum w _ _ (by omega))
        have HA66 : Hid (∀ w, (Op.stringOp .add x60 bd).run Tryz.prog w = .ok (.string x66) w) := Lib.hid (fun w => by rw [hx66]; exact run_string_add_sum w _ _ (by omega))
        have HX53 := Lib.hid hx53
        have HX60 := Lib.hid hx60
        have HX66 := Lib.hid hx66
        clear hx53 hx60 hx66
        refine wp_region_inv (by kernel_rfl) (fun w' => Below w3.heap.size w3 w') (fun x y => Below x.heap.size x y) (fun dq vq _ => match dq with | 48 => vq = .string hx | 49 => vq = .pointer (some ⟨w.heap.size, 5, none⟩) | 50 => vq = .int .i64 t | 51 => vq = .bool hi | 52 => vq = .string bt | 53 => vq = .string x53 | 54 => vq = .pointer (some ⟨w.heap.size, 6, none⟩) | 55 => vq = .string p | 56 => vq = .int .i64 (p.size : Int) | 57 => vq = .int .i64 ((p.size : Int) + 1) | 58 => vq = .bool hi | 59 => vq = .string bp | 60 => vq = .string x60 | 61 => vq = .pointer (some ⟨w.heap.size, 7, none⟩) | 62 => vq = .string d | 63 => vq = .int .i64 (d.size : Int) | 64 => vq = .bool hi | 65 => vq = .string bd | 66 => vq = .string x66 | 6 => vq = .string x66 | _ => True) (by kernel_rfl) ((Below.refl _ _).drew) (fun _ _ _ _ _ _ h => h) ?hops ?hend
        case hops =>
          simp only [List.forall_mem_cons]
          refine ⟨?o48, ?o49, ?o50, ?o51, ?o52, ?o53, ?o54, ?o55, ?o56, ?o57, ?o58, ?o59, ?o60, ?o61, ?o62, ?o63, ?o64, ?o65, ?o66, ?o6, fun _ h => by cases h⟩
          case o48 =>
            intro Q a w2 hC hV hI
            have e6 : a.eval (.tmp 6) = .string hx := (hI 6 (by simp [Op.operands]) (by kernel_rfl)).trans rfl
            have f6 : a.tmps.getD 6 undef = .string hx := e6
            have g6 : a.tmps[6]?.getD undef = .string hx := by rw [← Array.getD_eq_getD_getElem?]; exact e6
            refine op_val (.string hx) ?_ hC (Below.refl _ _) (by intro d hd; cases hd; rfl)
            (clear hV hI hC; go_simp <;> (first | rfl | simp | (rw [IntKind.wrap_i64]; omega)))
          case o49 =>
            intro Q a w2 hC hV hI
            have e2 : a.eval (.tmp 2) = .pointer (some ⟨w.heap.size, 0, none⟩) := (hI 2 (by simp [Op.operands]) (by kernel_rfl)).trans rfl
            have f2 : a.tmps.getD 2 undef = .pointer (some ⟨w.heap.size, 0, none⟩) := e2
            have g2 : a.tmps[2]?.getD undef = .pointer (some ⟨w.heap.size, 0, none⟩) := by rw [← Array.getD_eq_getD_getElem?]; exact e2
            refine op_val (.pointer (some ⟨w.heap.size, 5, none⟩)) ?_ hC (Below.refl _ _) (by intro d hd; cases hd; rfl)
            (clear hV hI hC; go_simp <;> (first | rfl | simp | (rw [IntKind.wrap_i64]; omega)))
          case o50 =>
            intro Q a w2 hC hV hI
            have e49 : a.eval (.tmp 49) = .pointer (some ⟨w.heap.size, 5, none⟩) := hV 49 (by simp [Op.operands]) (by kernel_rfl)
            have f49 : a.tmps.getD 49 undef = .pointer (some ⟨w.heap.size, 5, none⟩) := e49
            have g49 : a.tmps[49]?.getD undef = .pointer (some ⟨w.heap.size, 5, none⟩) := by rw [← Array.getD_eq_getD_getElem?]; exact e49
            have hK := KC.out w2 hC
            refine op_val (.int .i64 t) ?_ hC (Below.refl _ _) (by intro d hd; cases hd; rfl)
            (clear hV hI hC; go_simp <;> (first | rfl | simp | (rw [IntKind.wrap_i64]; omega)))
          case o51 =>
            intro Q a w2 hC hV hI
            have e1 : a.eval (.tmp 1) = .bool hi := (hI 1 (by simp [Op.operands]) (by kernel_rfl)).trans rfl
            have f1 : a.tmps.getD 1 undef = .bool hi := e1
            have g1 : a.tmps[1]?.getD undef = .bool hi := by rw [← Array.getD_eq_getD_getElem?]; exact e1
            refine op_val (.bool hi) ?_ hC (Below.refl _ _) (by intro d hd; cases hd; rfl)
            (clear hV hI hC; go_simp <;> (first | rfl | simp | (rw [IntKind.wrap_i64]; omega)))
          case o52 =>
            intro Q a w2 hC hV hI
            have e50 : a.eval (.tmp 50) = .int .i64 t := hV 50 (by simp [Op.operands, Call.operands]) (by kernel_rfl)
            have f50 : a.tmps.getD 50 undef = .int .i64 t := e50
            have g50 : a.tmps[50]?.getD undef = .int .i64 t := by rw [← Array.getD_eq_getD_getElem?]; exact e50
            have e51 : a.eval (.tmp 51) = .bool hi := hV 51 (by simp [Op.operands, Call.operands]) (by kernel_rfl)
            have f51 : a.tmps.getD 51 undef = .bool hi := e51
            have g51 : a.tmps[51]?.getD undef = .bool hi := by rw [← Array.getD_eq_getD_getElem?]; exact e51
            refine op_call (f := 35) (args := #[.int .i64 t, .bool hi]) (R := fun v y => v = .string bt ∧ Below w2.heap.size w2 y) ?_ ((HPt.out w2).mono ?_) ?_
            · (clear hV hI hC; go_simp <;> (first | rfl | simp | (rw [IntKind.wrap_i64]; omega)))
            · rintro e y ⟨rfl, hb⟩; exact ⟨_, rfl, rfl, hb⟩
            · rintro v y ⟨rfl, hb⟩; exact ⟨hC.trans (hb.mono hC.size), hb, by intro d hd; cases hd; rfl⟩
          case o53 =>
            intro Q a w2 hC hV hI
            have e48 : a.eval (.tmp 48) = .string hx := hV 48 (by simp [Op.operands]) (by kernel_rfl)
            have f48 : a.tmps.getD 48 undef = .string hx := e48
            have g48 : a.tmps[48]?.getD undef = .string hx := by rw [← Array.getD_eq_getD_getElem?]; exact e48
            have e52 : a.eval (.tmp 52) = .string bt := hV 52 (by simp [Op.operands]) (by kernel_rfl)
            have f52 : a.tmps.getD 52 undef = .string bt := e52
            have g52 : a.tmps[52]?.getD undef = .string bt := by rw [← Array.getD_eq_getD_getElem?]; exact e52
            refine op_val (.string x53) ?_ hC (Below.refl _ _) (by intro d hd; cases hd; rfl)
            have q := HA53.out w2
            (clear hV hI hC; go_simp <;> (first | rfl | simp | (rw [IntKind.wrap_i64]; omega)))
          case o54 =>
            intro Q a w2 hC hV hI
            have e2 : a.eval (.tmp 2) = .pointer (some ⟨w.heap.size, 0, none⟩) := (hI 2 (by simp [Op.operands]) (by kernel_rfl)).trans rfl
            have f2 : a.tmps.getD 2 undef = .pointer (some ⟨w.heap.size, 0, none⟩) := e2
            have g2 : a.tmps[2]?.getD undef = .pointer (some ⟨w.heap.size, 0, none⟩) := by rw [← Array.getD_eq_getD_getElem?]; exact e2
            refine op_val (.pointer (some ⟨w.heap.size, 6, none⟩)) ?_ hC (Below.refl _ _) (by intro d hd; cases hd; rfl)
            (clear hV hI hC; go_simp <;> (first | rfl | simp | (rw [IntKind.wrap_i64]; omega)))
          case o55 =>
            intro Q a w2 hC hV hI
            have e54 : a.eval (.tmp 54) = .pointer (some ⟨w.heap.size, 6, none⟩) := hV 54 (by simp [Op.operands]) (by kernel_rfl)
            have f54 : a.tmps.getD 54 undef = .pointer (some ⟨w.heap.size, 6, none⟩) := e54
            have g54 : a.tmps[54]?.getD undef = .pointer (some ⟨w.heap.size, 6, none⟩) := by rw [← Array.getD_eq_getD_getElem?]; exact e54
            have hK := KC.out w2 hC
            refine op_val (.string p) ?_ hC (Below.refl _ _) (by intro d hd; cases hd; rfl)
            (clear hV hI hC; go_simp <;> (first | rfl | simp | (rw [IntKind.wrap_i64]; omega)))
          case o56 =>
            intro Q a w2 hC hV hI
            have e55 : a.eval (.tmp 55) = .string p := hV 55 (by simp [Op.operands, Call.operands]) (by kernel_rfl)
            have f55 : a.tmps.getD 55 undef = .string p := e55
            have g55 : a.tmps[55]?.getD undef = .string p := by rw [← Array.getD_eq_getD_getElem?]; exact e55
            refine op_val (.int .i64 (p.size : Int)) ?_ hC (Below.refl _ _) (by intro d hd; cases hd; rfl)
            (clear hV hI hC; go_simp <;> (first | rfl | simp | (rw [IntKind.wrap_i64]; omega)))
          case o57 =>
            intro Q a w2 hC hV hI
            have e56 : a.eval (.tmp 56) = .int .i64 (p.size : Int) := hV 56 (by simp [Op.operands]) (by kernel_rfl)
            have f56 : a.tmps.getD 56 undef = .int .i64 (p.size : Int) := e56
            have g56 : a.tmps[56]?.getD undef = .int .i64 (p.size : Int) := by rw [← Array.getD_eq_getD_getElem?]; exact e56
            have q9 := add_i64 (P := Tryz.prog) (a := (p.size : Int)) (b := 1) w2 3 (by omega) (by omega)
            refine op_val (.int .i64 ((p.size : Int) + 1)) ?_ hC (Below.refl _ _) (by intro d hd; cases hd; rfl)
            (clear hV hI hC; go_simp <;> (first | rfl | simp | (rw [IntKind.wrap_i64]; omega)))
          case o58 =>
            intro Q a w2 hC hV hI
            have e1 : a.eval (.tmp 1) = .bool hi := (hI 1 (by simp [Op.operands]) (by kernel_rfl)).trans rfl
            have f1 : a.tmps.getD 1 undef = .bool hi := e1
            have g1 : a.tmps[1]?.getD undef = .bool hi := by rw [← Array.getD_eq_getD_getElem?]; exact e1
            refine op_val (.bool hi) ?_ hC (Below.refl _ _) (by intro d hd; cases hd; rfl)
            (clear hV hI hC; go_simp <;> (first | rfl | simp | (rw [IntKind.wrap_i64]; omega)))
          case o59 =>
            intro Q a w2 hC hV hI
            have e57 : a.eval (.tmp 57) = .int .i64 ((p.size : Int) + 1) := hV 57 (by simp [Op.operands, Call.operands]) (by kernel_rfl)
            have f57 : a.tmps.getD 57 undef = .int .i64 ((p.size : Int) + 1) := e57
            have g57 : a.tmps[57]?.getD undef = .int .i64 ((p.size : Int) + 1) := by rw [← Array.getD_eq_getD_getElem?]; exact e57
            have e58 : a.eval (.tmp 58) = .bool hi := hV 58 (by simp [Op.operands, Call.operands]) (by kernel_rfl)
            have f58 : a.tmps.getD 58 undef = .bool hi := e58
            have g58 : a.tmps[58]?.getD undef = .bool hi := by rw [← Array.getD_eq_getD_getElem?]; exact e58
            refine op_call (f := 34) (args := #[.int .i64 ((p.size : Int) + 1), .bool hi]) (R := fun v y => v = .string bp ∧ Below w2.heap.size w2 y) ?_ ((HPp.out w2).mono ?_) ?_
            · (clear hV hI hC; go_simp <;> (first | rfl | simp | (rw [IntKind.wrap_i64]; omega)))
            · rintro e y ⟨rfl, hb⟩; exact ⟨_, rfl, rfl, hb⟩
            · rintro v y ⟨rfl, hb⟩; exact ⟨hC.trans (hb.mono hC.size), hb, by intro d hd; cases hd; rfl⟩
          case o60 =>
            intro Q a w2 hC hV hI
            have e53 : a.eval (.tmp 53) = .string x53 := hV 53 (by simp [Op.operands]) (by kernel_rfl)
            have f53 : a.tmps.getD 53 undef = .string x53 := e53
            have g53 : a.tmps[53]?.getD undef = .string x53 := by rw [← Array.getD_eq_getD_getElem?]; exact e53
            have e59 : a.eval (.tmp 59) = .string bp := hV 59 (by simp [Op.operands]) (by kernel_rfl)
            have f59 : a.tmps.getD 59 undef = .string bp := e59
            have g59 : a.tmps[59]?.getD undef = .string bp := by rw [← Array.getD_eq_getD_getElem?]; exact e59
            refine op_val (.string x60) ?_ hC (Below.refl _ _) (by intro d hd; cases hd; rfl)
            have q := HA60.out w2
            (clear hV hI hC; go_simp <;> (first | rfl | simp | (rw [IntKind.wrap_i64]; omega)))
          case o61 =>
            intro Q a w2 hC hV hI
            have e2 : a.eval (.tmp 2) = .pointer (some ⟨w.heap.size, 0, none⟩) := (hI 2 (by simp [Op.operands]) (by kernel_rfl)).trans rfl
            have f2 : a.tmps.getD 2 undef = .pointer (some ⟨w.heap.size, 0, none⟩) := e2
            have g2 : a.tmps[2]?.getD undef = .pointer (some ⟨w.heap.size, 0, none⟩) := by rw [← Array.getD_eq_getD_getElem?]; exact e2
            refine op_val (.pointer (some ⟨w.heap.size, 7, none⟩)) ?_ hC (Below.refl _ _) (by intro d hd; cases hd; rfl)
            (clear hV hI hC; go_simp <;> (first | rfl | simp | (rw [IntKind.wrap_i64]; omega)))
          case o62 =>
            intro Q a w2 hC hV hI
            have e61 : a.eval (.tmp 61) = .pointer (some ⟨w.heap.size, 7, none⟩) := hV 61 (by simp [Op.operands]) (by kernel_rfl)
            have f61 : a.tmps.getD 61 undef = .pointer (some ⟨w.heap.size, 7, none⟩) := e61
            have g61 : a.tmps[61]?.getD undef = .pointer (some ⟨w.heap.size, 7, none⟩) := by rw [← Array.getD_eq_getD_getElem?]; exact e61
            have hK := KC.out w2 hC
            refine op_val (.string d) ?_ hC (Below.refl _ _) (by intro d hd; cases hd; rfl)
            (clear hV hI hC; go_simp <;> (first | rfl | simp | (rw [IntKind.wrap_i64]; omega)))
          case o63 =>
            intro Q a w2 hC hV hI
            have e62 : a.eval (.tmp 62) = .string d := hV 62 (by simp [Op.operands, Call.operands]) (by kernel_rfl)
            have f62 : a.tmps.getD 62 undef = .string d := e62
            have g62 : a.tmps[62]?.getD undef = .string d := by rw [← Array.getD_eq_getD_getElem?]; exact e62
            refine op_val (.int .i64 (d.size : Int)) ?_ hC (Below.refl _ _) (by intro d hd; cases hd; rfl)
            (clear hV hI hC; go_simp <;> (first | rfl | simp | (rw [IntKind.wrap_i64]; omega)))
          case o64 =>
            intro Q a w2 hC hV hI
            have e1 : a.eval (.tmp 1) = .bool hi := (hI 1 (by simp [Op.operands]) (by kernel_rfl)).trans rfl
            have f1 : a.tmps.getD 1 undef = .bool hi := e1
            have g1 : a.tmps[1]?.getD undef = .bool hi := by rw [← Array.getD_eq_getD_getElem?]; exact e1
            refine op_val (.bool hi) ?_ hC (Below.refl _ _) (by intro d hd; cases hd; rfl)
            (clear hV hI hC; go_simp <;> (first | rfl | simp | (rw [IntKind.wrap_i64]; omega)))
          case o65 =>
            intro Q a w2 hC hV hI
            have e63 : a.eval (.tmp 63) = .int .i64 (d.size : Int) := hV 63 (by simp [Op.operands, Call.operands]) (by kernel_rfl)
            have f63 : a.tmps.getD 63 undef = .int .i64 (d.size : Int) := e63
            have g63 : a.tmps[63]?.getD undef = .int .i64 (d.size : Int) := by rw [← Array.getD_eq_getD_getElem?]; exact e63
            have e64 : a.eval (.tmp 64) = .bool hi := hV 64 (by simp [Op.operands, Call.operands]) (by kernel_rfl)
            have f64 : a.tmps.getD 64 undef = .bool hi := e64
            have g64 : a.tmps[64]?.getD undef = .bool hi := by rw [← Array.getD_eq_getD_getElem?]; exact e64
            refine op_call (f := 35) (args := #[.int .i64 (d.size : Int), .bool hi]) (R := fun v y => v = .string bd ∧ Below w2.heap.size w2 y) ?_ ((HPd.out w2).mono ?_) ?_
            · (clear hV hI hC; go_simp <;> (first | rfl | simp | (rw [IntKind.wrap_i64]; omega)))
            · rintro e y ⟨rfl, hb⟩; exact ⟨_, rfl, rfl, hb⟩
            · rintro v y ⟨rfl, hb⟩; exact ⟨hC.trans (hb.mono hC.size), hb, by intro d hd; cases hd; rfl⟩
          case o66 =>
            intro Q a w2 hC hV hI
            have e60 : a.eval (.tmp 60) = .string x60 := hV 60 (by simp [Op.operands]) (by kernel_rfl)
            have f60 : a.tmps.getD 60 undef = .string x60 := e60
            have g60 : a.tmps[60]?.getD undef = .string x60 := by rw [← Array.getD_eq_getD_getElem?]; exact e60
            have e65 : a.eval (.tmp 65) = .string bd := hV 65 (by simp [Op.operands]) (by kernel_rfl)
            have f65 : a.tmps.getD 65 undef = .string bd := e65
            have g65 : a.tmps[65]?.getD undef = .string bd := by rw [← Array.getD_eq_getD_getElem?]; exact e65
            refine op_val (.string x66) ?_ hC (Below.refl _ _) (by intro d hd; cases hd; rfl)
            have q := HA66.out w2
            (clear hV hI hC; go_simp <;> (first | rfl | simp | (rw [IntKind.wrap_i64]; omega)))
          case o6 =>
            intro Q a w2 hC hV hI
            have e66 : a.eval (.tmp 66) = .string x66 := hV 66 (by simp [Op.operands]) (by kernel_rfl)
            have f66 : a.tmps.getD 66 undef = .string x66 := e66
            have g66 : a.tmps[66]?.getD undef = .string x66 := by rw [← Array.getD_eq_getD_getElem?]; exact e66
            refine op_val (.string x66) ?_ hC (Below.refl _ _) (by intro d hd; cases hd; rfl)
            (clear hV hI hC; go_simp <;> (first | rfl | simp | (rw [IntKind.wrap_i64]; omega)))
        case hend =>
          intro f w4 hC hall
          clear HA53 HA60 HA66
          simp only [List.forall_mem_cons] at hall
          obtain ⟨h48, h49, h50, h51, h52, h53, h54, h55, h56, h57, h58, h59, h60, h61, h62, h63, h64, h65, h66, h6, _⟩ := hall
          replace h48 : f 48 = .string hx := h48 48 rfl
          replace h49 : f 49 = .pointer (some ⟨w.heap.size, 5, none⟩) := h49 49 rfl
          replace h50 : f 50 = .int .i64 t := h50 50 rfl
          replace h51 : f 51 = .bool hi := h51 51 rfl
          replace h52 : f 52 = .string bt := h52 52 rfl
          replace h53 : f 53 = .string x53 := h53 53 rfl
          replace h54 : f 54 = .pointer (some ⟨w.heap.size, 6, none⟩) := h54 54 rfl
          replace h55 : f 55 = .string p := h55 55 rfl
          replace h56 : f 56 = .int .i64 (p.size : Int) := h56 56 rfl
          replace h57 : f 57 = .int .i64 ((p.size : Int) + 1) := h57 57 rfl
          replace h58 : f 58 = .bool hi := h58 58 rfl
          replace h59 : f 59 = .string bp := h59 59 rfl
          replace h60 : f 60 = .string x60 := h60 60 rfl
          replace h61 : f 61 = .pointer (some ⟨w.heap.size, 7, none⟩) := h61 61 rfl
          replace h62 : f 62 = .string d := h62 62 rfl
          replace h63 : f 63 = .int .i64 (d.size : Int) := h63 63 rfl
          replace h64 : f 64 = .bool hi := h64 64 rfl
          replace h65 : f 65 = .string bd := h65 65 rfl
          replace h66 : f 66 = .string x66 := h66 66 rfl
          replace h6 : f 6 = .string x66 := h6 6 rfl
          simp only [putAll, Act.put, List.setIfInBounds_toArray, List.set_cons_succ, List.set_cons_zero, h48, h49, h50, h51, h52, h53, h54, h55, h56, h57, h58, h59, h60, h61, h62, h63, h64, h65, h66, h6]
          clear h48 h49 h50 h51 h52 h53 h54 h55 h56 h57 h58 h59 h60 h61 h62 h63 h64 h65 h66 h6
          have HXe : Hid (r = x66 ++ p ++ ⟨#[0]⟩ ++ nu1 ++ d ++ nu2) := Lib.hid (by rw [HV.out, HX66.out, HX60.out, HX53.out])
          have B4 := Lib.hid (B.out.trans (hC.mono hszB))
          have hszB4 := B4.out.size
          replace KC : Hid (∀ w', Below w4.heap.size w4 w' → w'.cell? ⟨w.heap.size, 5, none⟩ = some (.int .i64 t) ∧ w'.cell? ⟨w.heap.size, 6, none⟩ = some (.string p) ∧ w'.cell? ⟨w.heap.size, 7, none⟩ = some (.string d)) := Lib.hid (fun w' hb => KC.out w' (hC.trans (hb.mono hC.size)))
          clear HV HX66 HX60 HX53 hC B k0 k1 k2 k3 k4 k5 k6 k7
          go_upto_region 10 with fail
          obtain ⟨x70, hx70⟩ : ∃ x : ByteArray, x = x66 ++ p := ⟨_, rfl⟩
          obtain ⟨x71, hx71⟩ : ∃ x : ByteArray, x = x70 ++ ⟨#[0]⟩ := ⟨_, rfl⟩
          obtain ⟨x78, hx78⟩ : ∃ x : ByteArray, x = x71 ++ nu1 := ⟨_, rfl⟩
          obtain ⟨x81, hx81⟩ : ∃ x : ByteArray, x = x78 ++ d := ⟨_, rfl⟩
          obtain ⟨x87, hx87⟩ : ∃ x : ByteArray, x = x81 ++ nu2 := ⟨_, rfl⟩
          have zx70 : x70.size ≤ 4194330 := by rw [hx70, ByteArray.size_append]; omega
          have zx71 : x71.size ≤ 4194331 := by rw [hx71, ByteArray.size_append]; omega
          have zx78 : x78.size ≤ 4194332 := by rw [hx78, ByteArray.size_append]; omega
          have zx81 : x81.size ≤ 8388636 := by rw [hx81, ByteArray.size_append]; omega
          have zx87 : x87.size ≤ 8388637 := by rw [hx87, ByteArray.size_append]; omega
          have HA70 : Hid (∀ w, (Op.stringOp .add x66 p).run Tryz.prog w = .ok (.string x70) w) := Lib.hid (fun w => by rw [hx70]; exact run_string_add_sum w _ _ (by omega))
          have HA71 : Hid (∀ w, (Op.stringOp .add x70 ⟨#[0]⟩).run Tryz.prog w = .ok (.string x71) w) := Lib.hid (fun w => by rw [hx71]; exact run_string_add_sum w _ _ (by omega))
          have HA78 : Hid (∀ w, (Op.stringOp .add x71 nu1).run Tryz.prog w = .ok (.string x78) w) := Lib.hid (fun w => by rw [hx78]; exact run_string_add_sum w _ _ (by omega))
          have HA81 : Hid (∀ w, (Op.stringOp .add x78 d).run Tryz.prog w = .ok (.string x81) w) := Lib.hid (fun w => by rw [hx81]; exact run_string_add_sum w _ _ (by omega))
          have HA87 : Hid (∀ w, (Op.stringOp .add x81 nu2).run Tryz.prog w = .ok (.string x87) w) := Lib.hid (fun w => by rw [hx87]; exact run_string_add_sum w _ _ (by omega))
          have HX70 := Lib.hid hx70
          have HX71 := Lib.hid hx71
          have HX78 := Lib.hid hx78
          have HX81 := Lib.hid hx81
          have HX87 := Lib.hid hx87
          clear hx70 hx71 hx78 hx81 hx87
          refine wp_region_inv (by kernel_rfl) (fun w' => Below w4.heap.size w4 w') (fun x y => Below x.heap.size x y) (fun dq vq _ => match dq with | 67 => vq = .string x66 | 68 => vq = .pointer (some ⟨w.heap.size, 6, none⟩) | 69 => vq = .string p | 70 => vq = .string x70 | 71 => vq = .string x71 | 72 => vq = .pointer (some ⟨w.heap.size, 6, none⟩) | 73 => vq = .string p | 74 => vq = .int .i64 (p.size : Int) | 75 => vq = .int .i64 ((p.size : Int) + 1) | 76 => vq = .int .i64 (q1 : Int) | 77 => vq = .string nu1 | 78 => vq = .string x78 | 79 => vq = .pointer (some ⟨w.heap.size, 7, none⟩) | 80 => vq = .string d | 81 => vq = .string x81 | 82 => vq = .pointer (some ⟨w.heap.size, 7, none⟩) | 83 => vq = .string d | 84 => vq = .int .i64 (d.size : Int) | 85 => vq = .int .i64 (q2 : Int) | 86 => vq = .string nu2 | 87 => vq = .string x87 | 4 => vq = .string x87 | _ => True) (by kernel_rfl) ((Below.refl _ _).drew) (fun _ _ _ _ _ _ h => h) ?hops ?hend
          case hops =>
            simp only [List.forall_mem_cons]
            refine ⟨?o67, ?o68, ?o69, ?o70, ?o71, ?o72, ?o73, ?o74, ?o75, ?o76, ?o77, ?o78, ?o79, ?o80, ?o81, ?o82, ?o83, ?o84, ?o85, ?o86, ?o87, ?o4, fun _ h => by cases h⟩
            case o67 =>
              intro Q a w2 hC hV hI
              have e6 : a.eval (.tmp 6) = .string x66 := (hI 6 (by simp [Op.operands]) (by kernel_rfl)).trans rfl
              have f6 : a.tmps.getD 6 undef = .string x66 := e6
              have g6 : a.tmps[6]?.getD undef = .string x66 := by rw [← Array.getD_eq_getD_getElem?]; exact e6
              refine op_val (.string x66) ?_ hC (Below.refl _ _) (by intro d hd; cases hd; rfl)
              (clear hV hI hC; go_simp <;> (first | rfl | simp | (rw [IntKind.wrap_i64]; omega)))
            case o68 =>
              intro Q a w2 hC hV hI
              have e2 : a.eval (.tmp 2) = .pointer (some ⟨w.heap.size, 0, none⟩) := (hI 2 (by simp [Op.operands]) (by kernel_rfl)).trans rfl
              have f2 : a.tmps.getD 2 undef = .pointer (some ⟨w.heap.size, 0, none⟩) := e2
              have g2 : a.tmps[2]?.getD undef = .pointer (some ⟨w.heap.size, 0, none⟩) := by rw [← Array.getD_eq_getD_getElem?]; exact e2
              refine op_val (.pointer (some ⟨w.heap.size, 6, none⟩)) ?_ hC (Below.refl _ _) (by intro d hd; cases hd; rfl)
              (clear hV hI hC; go_simp <;> (first | rfl | simp | (rw [IntKind.wrap_i64]; omega)))
            case o69 =>
              intro Q a w2 hC hV hI
              have e68 : a.eval (.tmp 68) = .pointer (some ⟨w.heap.size, 6, none⟩) := hV 68 (by simp [Op.operands]) (by kernel_rfl)
              have f68 : a.tmps.getD 68 undef = .pointer (some ⟨w.heap.size, 6, none⟩) := e68
              have g68 : a.tmps[68]?.getD undef = .pointer (some ⟨w.heap.size, 6, none⟩) := by rw [← Array.getD_eq_getD_getElem?]; exact e68
              have hK := KC.out w2 hC
              refine op_val (.string p) ?_ hC (Below.refl _ _) (by intro d hd; cases hd; rfl)
              (clear hV hI hC; go_simp <;> (first | rfl | simp | (rw [IntKind.wrap_i64]; omega)))
            case o70 =>
              intro Q a w2 hC hV hI
              have e67 : a.eval (.tmp 67) = .string x66 := hV 67 (by simp [Op.operands]) (by kernel_rfl)
              have f67 : a.tmps.getD 67 undef = .string x66 := e67
              have g67 : a.tmps[67]?.getD undef = .string x66 := by rw [← Array.getD_eq_getD_getElem?]; exact e67
              have e69 : a.eval (.tmp 69) = .string p := hV 69 (by simp [Op.operands]) (by kernel_rfl)
              have f69 : a.tmps.getD 69 undef = .string p := e69
              have g69 : a.tmps[69]?.getD undef = .string p := by rw [← Array.getD_eq_getD_getElem?]; exact e69
              refine op_val (.string x70) ?_ hC (Below.refl _ _) (by intro d hd; cases hd; rfl)
              have q := HA70.out w2
              (clear hV hI hC; go_simp <;> (first | rfl | simp | (rw [IntKind.wrap_i64]; omega)))
            case o71 =>
              intro Q a w2 hC hV hI
              have e70 : a.eval (.tmp 70) = .string x70 := hV 70 (by simp [Op.operands]) (by kernel_rfl)
              have f70 : a.tmps.getD 70 undef = .string x70 := e70
              have g70 : a.tmps[70]?.getD undef = .string x70 := by rw [← Array.getD_eq_getD_getElem?]; exact e70
              refine op_val (.string x71) ?_ hC (Below.refl _ _) (by intro d hd; cases hd; rfl)
              have q := HA71.out w2
              (clear hV hI hC; go_simp <;> (first | rfl | simp | (rw [IntKind.wrap_i64]; omega)))
            case o72 =>
              intro Q a w2 hC hV hI
              have e2 : a.eval (.tmp 2) = .pointer (some ⟨w.heap.size, 0, none⟩) := (hI 2 (by simp [Op.operands]) (by kernel_rfl)).trans rfl
              have f2 : a.tmps.getD 2 undef = .pointer (some ⟨w.heap.size, 0, none⟩) := e2
              have g2 : a.tmps[2]?.getD undef = .pointer (some ⟨w.heap.size, 0, none⟩) := by rw [← Array.getD_eq_getD_getElem?]; exact e2
              refine op_val (.pointer (some ⟨w.heap.size, 6, none⟩)) ?_ hC (Below.refl _ _) (by intro d hd; cases hd; rfl)
              (clear hV hI hC; go_simp <;> (first | rfl | simp | (rw [IntKind.wrap_i64]; omega)))
            case o73 =>
              intro Q a w2 hC hV hI
              have e72 : a.eval (.tmp 72) = .pointer (some ⟨w.heap.size, 6, none⟩) := hV 72 (by simp [Op.operands]) (by kernel_rfl)
              have f72 : a.tmps.getD 72 undef = .pointer (some ⟨w.heap.size, 6, none⟩) := e72
              have g72 : a.tmps[72]?.getD undef = .pointer (some ⟨w.heap.size, 6, none⟩) := by rw [← Array.getD_eq_getD_getElem?]; exact e72
              have hK := KC.out w2 hC
              refine op_val (.string p) ?_ hC (Below.refl _ _) (by intro d hd; cases hd; rfl)
              (clear hV hI hC; go_simp <;> (first | rfl | simp | (rw [IntKind.wrap_i64]; omega)))
            case o74 =>
              intro Q a w2 hC hV hI
              have e73 : a.eval (.tmp 73) = .string p := hV 73 (by simp [Op.operands, Call.operands]) (by kernel_rfl)
              have f73 : a.tmps.getD 73 undef = .string p := e73
              have g73 : a.tmps[73]?.getD undef = .string p := by rw [← Array.getD_eq_getD_getElem?]; exact e73
              refine op_val (.int .i64 (p.size : Int)) ?_ hC (Below.refl _ _) (by intro d hd; cases hd; rfl)
              (clear hV hI hC; go_simp <;> (first | rfl | simp | (rw [IntKind.wrap_i64]; omega)))
            case o75 =>
              intro Q a w2 hC hV hI
              have e74 : a.eval (.tmp 74) = .int .i64 (p.size : Int) := hV 74 (by simp [Op.operands]) (by kernel_rfl)
              have f74 : a.tmps.getD 74 undef = .int .i64 (p.size : Int) := e74
              have g74 : a.tmps[74]?.getD undef = .int .i64 (p.size : Int) := by rw [← Array.getD_eq_getD_getElem?]; exact e74
              have q9 := add_i64 (P := Tryz.prog) (a := (p.size : Int)) (b := 1) w2 3 (by omega) (by omega)
              refine op_val (.int .i64 ((p.size : Int) + 1)) ?_ hC (Below.refl _ _) (by intro d hd; cases hd; rfl)
              (clear hV hI hC; go_simp <;> (first | rfl | simp | (rw [IntKind.wrap_i64]; omega)))
            case o76 =>
              intro Q a w2 hC hV hI
              have e75 : a.eval (.tmp 75) = .int .i64 ((p.size : Int) + 1) := hV 75 (by simp [Op.operands, Call.operands]) (by kernel_rfl)
              have f75 : a.tmps.getD 75 undef = .int .i64 ((p.size : Int) + 1) := e75
              have g75 : a.tmps[75]?.getD undef = .int .i64 ((p.size : Int) + 1) := by rw [← Array.getD_eq_getD_getElem?]; exact e75
              refine op_call (f := 37) (args := #[.int .i64 ((p.size : Int) + 1), .int .i64 2]) (R := fun v y => v = .int .i64 (q1 : Int) ∧ w2 = y) ?_ ((HP1.out w2).mono ?_) ?_
              · (clear hV hI hC; go_simp <;> (first | rfl | simp | (rw [IntKind.wrap_i64]; omega)))
              · rintro e y ⟨rfl, rfl⟩; exact ⟨_, rfl, rfl, rfl⟩
              · rintro v y ⟨rfl, rfl⟩; exact ⟨hC, Below.refl _ _, by intro d hd; cases hd; rfl⟩
            case o77 =>
              intro Q a w2 hC hV hI
              have e76 : a.eval (.tmp 76) = .int .i64 (q1 : Int) := hV 76 (by simp [Op.operands, Call.operands]) (by kernel_rfl)
              have f76 : a.tmps.getD 76 undef = .int .i64 (q1 : Int) := e76
              have g76 : a.tmps[76]?.getD undef = .int .i64 (q1 : Int) := by rw [← Array.getD_eq_getD_getElem?]; exact e76
              refine op_call (f := 36) (args := #[.int .i64 (q1 : Int)]) (R := fun v y => v = .string nu1 ∧ Below w2.heap.size w2 y) ?_ ((HN1.out w2).mono ?_) ?_
              · (clear hV hI hC; go_simp <;> (first | rfl | simp | (rw [IntKind.wrap_i64]; omega)))
              · rintro e y ⟨rfl, hb⟩; exact ⟨_, rfl, rfl, hb⟩
              · rintro v y ⟨rfl, hb⟩; exact ⟨hC.trans (hb.mono hC.size), hb, by intro d hd; cases hd; rfl⟩
            case o78 =>
              intro Q a w2 hC hV hI
              have e71 : a.eval (.tmp 71) = .string x71 := hV 71 (by simp [Op.operands]) (by kernel_rfl)
              have f71 : a.tmps.getD 71 undef = .string x71 := e71
              have g71 : a.tmps[71]?.getD undef = .string x71 := by rw [← Array.getD_eq_getD_getElem?]; exact e71
              have e77 : a.eval (.tmp 77) = .string nu1 := hV 77 (by simp [Op.operands]) (by kernel_rfl)
              have f77 : a.tmps.getD 77 undef = .string nu1 := e77
              have g77 : a.tmps[77]?.getD undef = .string nu1 := by rw [← Array.getD_eq_getD_getElem?]; exact e77
              refine op_val (.string x78) ?_ hC (Below.refl _ _) (by intro d hd; cases hd; rfl)
              have q := HA78.out w2
              (clear hV hI hC; go_simp <;> (first | rfl | simp | (rw [IntKind.wrap_i64]; omega)))
            case o79 =>
              intro Q a w2 hC hV hI
              have e2 : a.eval (.tmp 2) = .pointer (some ⟨w.heap.size, 0, none⟩) := (hI 2 (by simp [Op.operands]) (by kernel_rfl)).trans rfl
              have f2 : a.tmps.getD 2 undef = .pointer (some ⟨w.heap.size, 0, none⟩) := e2
              have g2 : a.tmps[2]?.getD undef = .pointer (some ⟨w.heap.size, 0, none⟩) := by rw [← Array.getD_eq_getD_getElem?]; exact e2
              refine op_val (.pointer (some ⟨w.heap.size, 7, none⟩)) ?_ hC (Below.refl _ _) (by intro d hd; cases hd; rfl)
              (clear hV hI hC; go_simp <;> (first | rfl | simp | (rw [IntKind.wrap_i64]; omega)))
            case o80 =>
              intro Q a w2 hC hV hI
              have e79 : a.eval (.tmp 79) = .pointer (some ⟨w.heap.size, 7, none⟩) := hV 79 (by simp [Op.operands]) (by kernel_rfl)
              have f79 : a.tmps.getD 79 undef = .pointer (some ⟨w.heap.size, 7, none⟩) := e79
              have g79 : a.tmps[79]?.getD undef = .pointer (some ⟨w.heap.size, 7, none⟩) := by rw [← Array.getD_eq_getD_getElem?]; exact e79
              have hK := KC.out w2 hC
              refine op_val (.string d) ?_ hC (Below.refl _ _) (by intro d hd; cases hd; rfl)
              (clear hV hI hC; go_simp <;> (first | rfl | simp | (rw [IntKind.wrap_i64]; omega)))
            case o81 =>
              intro Q a w2 hC hV hI
              have e78 : a.eval (.tmp 78) = .string x78 := hV 78 (by simp [Op.operands]) (by kernel_rfl)
              have f78 : a.tmps.getD 78 undef = .string x78 := e78
              have g78 : a.tmps[78]?.getD undef = .string x78 := by rw [← Array.getD_eq_getD_getElem?]; exact e78
              have e80 : a.eval (.tmp 80) = .string d := hV 80 (by simp [Op.operands]) (by kernel_rfl)
              have f80 : a.tmps.getD 80 undef = .string d := e80
              have g80 : a.tmps[80]?.getD undef = .string d := by rw [← Array.getD_eq_getD_getElem?]; exact e80
              refine op_val (.string x81) ?_ hC (Below.refl _ _) (by intro d hd; cases hd; rfl)
              have q := HA81.out w2
              (clear hV hI hC; go_simp <;> (first | rfl | simp | (rw [IntKind.wrap_i64]; omega)))
            case o82 =>
              intro Q a w2 hC hV hI
              have e2 : a.eval (.tmp 2) = .pointer (some ⟨w.heap.size, 0, none⟩) := (hI 2 (by simp [Op.operands]) (by kernel_rfl)).trans rfl
              have f2 : a.tmps.getD 2 undef = .pointer (some ⟨w.heap.size, 0, none⟩) := e2
              have g2 : a.tmps[2]?.getD undef = .pointer (some ⟨w.heap.size, 0, none⟩) := by rw [← Array.getD_eq_getD_getElem?]; exact e2
              refine op_val (.pointer (some ⟨w.heap.size, 7, none⟩)) ?_ hC (Below.refl _ _) (by intro d hd; cases hd; rfl)
              (clear hV hI hC; go_simp <;> (first | rfl | simp | (rw [IntKind.wrap_i64]; omega)))
            case o83 =>
              intro Q a w2 hC hV hI
              have e82 : a.eval (.tmp 82) = .pointer (some ⟨w.heap.size, 7, none⟩) := hV 82 (by simp [Op.operands]) (by kernel_rfl)
              have f82 : a.tmps.getD 82 undef = .pointer (some ⟨w.heap.size, 7, none⟩) := e82
              have g82 : a.tmps[82]?.getD undef = .pointer (some ⟨w.heap.size, 7, none⟩) := by rw [← Array.getD_eq_getD_getElem?]; exact e82
              have hK := KC.out w2 hC
              refine op_val (.string d) ?_ hC (Below.refl _ _) (by intro d hd; cases hd; rfl)
              (clear hV hI hC; go_simp <;> (first | rfl | simp | (rw [IntKind.wrap_i64]; omega)))
            case o84 =>
              intro Q a w2 hC hV hI
              have e83 : a.eval (.tmp 83) = .string d := hV 83 (by simp [Op.operands, Call.operands]) (by kernel_rfl)
              have f83 : a.tmps.getD 83 undef = .string d := e83
              have g83 : a.tmps[83]?.getD undef = .string d := by rw [← Array.getD_eq_getD_getElem?]; exact e83
              refine op_val (.int .i64 (d.size : Int)) ?_ hC (Below.refl _ _) (by intro d hd; cases hd; rfl)
              (clear hV hI hC; go_simp <;> (first | rfl | simp | (rw [IntKind.wrap_i64]; omega)))
            case o85 =>
              intro Q a w2 hC hV hI
              have e84 : a.eval (.tmp 84) = .int .i64 (d.size : Int) := hV 84 (by simp [Op.operands, Call.operands]) (by kernel_rfl)
              have f84 : a.tmps.getD 84 undef = .int .i64 (d.size : Int) := e84
              have g84 : a.tmps[84]?.getD undef = .int .i64 (d.size : Int) := by rw [← Array.getD_eq_getD_getElem?]; exact e84
              refine op_call (f := 37) (args := #[.int .i64 (d.size : Int), .int .i64 2]) (R := fun v y => v = .int .i64 (q2 : Int) ∧ w2 = y) ?_ ((HP2.out w2).mono ?_) ?_
              · (clear hV hI hC; go_simp <;> (first | rfl | simp | (rw [IntKind.wrap_i64]; omega)))
              · rintro e y ⟨rfl, rfl⟩; exact ⟨_, rfl, rfl, rfl⟩
              · rintro v y ⟨rfl, rfl⟩; exact ⟨hC, Below.refl _ _, by intro d hd; cases hd; rfl⟩
            case o86 =>
              intro Q a w2 hC hV hI
              have e85 : a.eval (.tmp 85) = .int .i64 (q2 : Int) := hV 85 (by simp [Op.operands, Call.operands]) (by kernel_rfl)
              have f85 : a.tmps.getD 85 undef = .int .i64 (q2 : Int) := e85
              have g85 : a.tmps[85]?.getD undef = .int .i64 (q2 : Int) := by rw [← Array.getD_eq_getD_getElem?]; exact e85
              refine op_call (f := 36) (args := #[.int .i64 (q2 : Int)]) (R := fun v y => v = .string nu2 ∧ Below w2.heap.size w2 y) ?_ ((HN2.out w2).mono ?_) ?_
              · (clear hV hI hC; go_simp <;> (first | rfl | simp | (rw [IntKind.wrap_i64]; omega)))
              · rintro e y ⟨rfl, hb⟩; exact ⟨_, rfl, rfl, hb⟩
              · rintro v y ⟨rfl, hb⟩; exact ⟨hC.trans (hb.mono hC.size), hb, by intro d hd; cases hd; rfl⟩
            case o87 =>
              intro Q a w2 hC hV hI
              have e81 : a.eval (.tmp 81) = .string x81 := hV 81 (by simp [Op.operands]) (by kernel_rfl)
              have f81 : a.tmps.getD 81 undef = .string x81 := e81
              have g81 : a.tmps[81]?.getD undef = .string x81 := by rw [← Array.getD_eq_getD_getElem?]; exact e81
              have e86 : a.eval (.tmp 86) = .string nu2 := hV 86 (by simp [Op.operands]) (by kernel_rfl)
              have f86 : a.tmps.getD 86 undef = .string nu2 := e86
              have g86 : a.tmps[86]?.getD undef = .string nu2 := by rw [← Array.getD_eq_getD_getElem?]; exact e86
              refine op_val (.string x87) ?_ hC (Below.refl _ _) (by intro d hd; cases hd; rfl)
              have q := HA87.out w2
              (clear hV hI hC; go_simp <;> (first | rfl | simp | (rw [IntKind.wrap_i64]; omega)))
            case o4 =>
              intro Q a w2 hC hV hI
              have e87 : a.eval (.tmp 87) = .string x87 := hV 87 (by simp [Op.operands]) (by kernel_rfl)
              have f87 : a.tmps.getD 87 undef = .string x87 := e87
              have g87 : a.tmps[87]?.getD undef = .string x87 := by rw [← Array.getD_eq_getD_getElem?]; exact e87
              refine op_val (.string x87) ?_ hC (Below.refl _ _) (by intro d hd; cases hd; rfl)
              (clear hV hI hC; go_simp <;> (first | rfl | simp | (rw [IntKind.wrap_i64]; omega)))
          case hend =>
            intro f w5 hC hall
            clear HA70 HA71 HA78 HA81 HA87
            simp only [List.forall_mem_cons] at hall
            obtain ⟨h67, h68, h69, h70, h71, h72, h73, h74, h75, h76, h77, h78, h79, h80, h81, h82, h83, h84, h85, h86, h87, h4, _⟩ := hall
            replace h67 : f 67 = .string x66 := h67 67 rfl
            replace h68 : f 68 = .pointer (some ⟨w.heap.size, 6, none⟩) := h68 68 rfl
            replace h69 : f 69 = .string p := h69 69 rfl
            replace h70 : f 70 = .string x70 := h70 70 rfl
            replace h71 : f 71 = .string x71 := h71 71 rfl
            replace h72 : f 72 = .pointer (some ⟨w.heap.size, 6, none⟩) := h72 72 rfl
            replace h73 : f 73 = .string p := h73 73 rfl
            replace h74 : f 74 = .int .i64 (p.size : Int) := h74 74 rfl
            replace h75 : f 75 = .int .i64 ((p.size : Int) + 1) := h75 75 rfl
            replace h76 : f 76 = .int .i64 (q1 : Int) := h76 76 rfl
            replace h77 : f 77 = .string nu1 := h77 77 rfl
            replace h78 : f 78 = .string x78 := h78 78 rfl
            replace h79 : f 79 = .pointer (some ⟨w.heap.size, 7, none⟩) := h79 79 rfl
            replace h80 : f 80 = .string d := h80 80 rfl
            replace h81 : f 81 = .string x81 := h81 81 rfl
            replace h82 : f 82 = .pointer (some ⟨w.heap.size, 7, none⟩) := h82 82 rfl
            replace h83 : f 83 = .string d := h83 83 rfl
            replace h84 : f 84 = .int .i64 (d.size : Int) := h84 84 rfl
            replace h85 : f 85 = .int .i64 (q2 : Int) := h85 85 rfl
            replace h86 : f 86 = .string nu2 := h86 86 rfl
            replace h87 : f 87 = .string x87 := h87 87 rfl
            replace h4 : f 4 = .string x87 := h4 4 rfl
            simp only [putAll, Act.put, List.setIfInBounds_toArray, List.set_cons_succ, List.set_cons_zero, h67, h68, h69, h70, h71, h72, h73, h74, h75, h76, h77, h78, h79, h80, h81, h82, h83, h84, h85, h86, h87, h4]
            clear h67 h68 h69 h70 h71 h72 h73 h74 h75 h76 h77 h78 h79 h80 h81 h82 h83 h84 h85 h86 h87 h4
            have HXe2 : Hid (r = x87) := Lib.hid (by rw [HXe.out, HX87.out, HX81.out, HX78.out, HX71.out, HX70.out])
            clear KC HXe
            have B5 := B4.out.trans (hC.mono hszB4)
            go_wp2_with fail
            go_ret
            exact ⟨by rw [HXe2.out]; rfl, B5⟩
end Go.Proofs.YtancidbbkoeokaaGreat

/- Contracts of impl.upTo, impl.userOk, impl.symLinkOk. -/
namespace Go.Proofs.YtancidbbkoeokaaGreat
open Go.ChangeShapes Go.WideShapes Go.ChangeAt Go.RowKit

theorem upTo_any (x b : Int) (w : World) : Calls Tryz.prog 105 #[.int .i64 x, .int .i64 b] w fun e w' => e = .returned (.bool (inB x 0 b)) ∧ w = w' := by
  by_cases h1 : 0 ≤ x
  · by_cases h2 : x ≤ b
    · go_enter Tryz.func105, Tryz.ntmps105
      go_wp2
      go_ret
      exact ⟨by simp [inB]; omega, rfl⟩
    · go_enter Tryz.func105, Tryz.ntmps105
      go_wp2
      go_ret
      exact ⟨by simp [inB]; omega, rfl⟩
  · go_enter Tryz.func105, Tryz.ntmps105
    go_wp2
    go_ret
    exact ⟨by simp [inB]; omega, rfl⟩
theorem whob_t {c : UInt8} (h : whob c = true) : ((97 : Int) ≤ ((c.toNat : Nat) : Int) ∧ ((c.toNat : Nat) : Int) ≤ 122) ∨ ((48 : Int) ≤ ((c.toNat : Nat) : Int) ∧ ((c.toNat : Nat) : Int) ≤ 57) ∨ ((c.toNat : Nat) : Int) = 95 := by
  simp [whob] at h; omega
theorem whob_f {c : UInt8} (h : whob c = false) : ((c.toNat : Nat) : Int) < 48 ∨ ((57 : Int) < ((c.toNat : Nat) : Int) ∧ ((c.toNat : Nat) : Int) < 97 ∧ ¬ ((c.toNat : Nat) : Int) = 95) ∨ (122 : Int) < ((c.toNat : Nat) : Int) := by
  simp [whob] at h; omega
set_option maxHeartbeats 800000 in
theorem userOk_impl (s : ByteArray) (w : World) (hs : s.size ≤ 4194304) :
    Calls Tryz.prog 106 #[.string s] w fun e w' => e = .returned (.bool (whov s)) ∧ Below w.heap.size w w' := by
  have HB : Hid (∀ k, (h : k < s.size) → whob s[k] = false → whov s = false) := Lib.hid (fun k h hc => by rw [whov, allB_bad h hc]; rfl)
  have HD : Hid (AllB whob s s.size → s.size ≤ 20 → whov s = true) := Lib.hid (fun h h2 => by rw [whov, h.done, decide_eq_true h2]; rfl)
  have HZ : Hid (20 < s.size → whov s = false) := Lib.hid (fun h => by rw [whov, decide_eq_false (by omega)]; simp)
  generalize whov s = r at HB HD HZ
  by_cases hz : 20 < s.size
  · have hz2 : (20 : Int) < (s.size : Int) := by omega
    have HF := Lib.hid (HZ.out hz)
    go_enter Tryz.func106, Tryz.ntmps106
    go_wp2_with fail
    go_ret
    exact ⟨ret_bool HF.out.symm, Below.refl _ _⟩
  have hz2 : ¬ (20 : Int) < (s.size : Int) := by omega
  have hz3 : s.size ≤ 20 := by omega
  clear HZ
  go_enter Tryz.func106, Tryz.ntmps106
  go_wp2_with fail
  go_loopw [3, 4, 10] (fun _ _ u wr => ∃ i : Nat, u = .int .i64 i ∧ i ≤ s.size ∧ AllB whob s i ∧ Below w.heap.size w wr) (fun _ _ u _ => s.size - (intOf u).toNat)
  case atStart => exact ⟨0, rfl, Nat.zero_le _, AllB.start _ _, Below.refl _ _⟩
  case round =>
    obtain ⟨i, rfl, hi, hr, hb⟩ := hrel
    have HR := Lib.hid hr
    have B := Lib.hid hb
    clear hr hb
    by_cases hlt : i < s.size
    · have hlt2 : (i : Int) < (s.size : Int) := by omega
      have h8 := (s[i]).toNat_lt
      cases hc : whob s[i] with
      | false =>
        have HF : Hid (r = false) := Lib.hid (HB.out i hlt hc)
        have hq := whob_f hc
        clear hc HB HD HR
        generalize hx : ((s[i].toNat : Nat) : Int) = x at hq h8
        have HX := Lib.hid hx
        rcases hq with h | ⟨h, h2, h3⟩ | h
        · have a1 : ¬ (97 : Int) ≤ x := by omega
          have a3 : ¬ (48 : Int) ≤ x := by omega
          have a5 : ¬ x = 95 := by omega
          rw [← hx] at a1 a3 a5
          have a6 : (!(((s[i].toNat : Nat) : Int) == 95)) = true := by simpa using a5
          clear hx h HX a5
          go_wp2_with fail
          go_ret
          exact ⟨ret_bool HF.out.symm, B.out⟩
        · have a1 : ¬ (97 : Int) ≤ x := by omega
          have a3 : (48 : Int) ≤ x := by omega
          have a4 : ¬ x ≤ 57 := by omega
          rw [← hx] at a1 a3 a4 h3
          have a6 : (!(((s[i].toNat : Nat) : Int) == 95)) = true := by simpa using h3
          clear hx h HX h3 h2
          go_wp2_with fail
          go_ret
          exact ⟨ret_bool HF.out.symm, B.out⟩
        · have a1 : (97 : Int) ≤ x := by omega
          have a2 : ¬ x ≤ 122 := by omega
          have a3 : (48 : Int) ≤ x := by omega
          have a4 : ¬ x ≤ 57 := by omega
          have a5 : ¬ x = 95 := by omega
          rw [← hx] at a1 a2 a3 a4 a5
          have a6 : (!(((s[i].toNat : Nat) : Int) == 95)) = true := by simpa using a5
          clear hx h HX a5
          go_wp2_with fail
          go_ret
          exact ⟨ret_bool HF.out.symm, B.out⟩
      | true =>
        have HS := Lib.hid (HR.out.step hlt hc)
        have hq := whob_t hc
        clear hc HB HD HR
        by_cases a1 : (97 : Int) ≤ ((s[i].toNat : Nat) : Int)
        · have a2 : ((s[i].toNat : Nat) : Int) ≤ 122 := by omega
          clear hq
          go_wp2_with fail
          go_roundw
          case rel => exact ⟨i + 1, by go_num, by omega, HS.out, B.out⟩
          case measure => simp [intOf]; omega
        · by_cases a4 : ((s[i].toNat : Nat) : Int) ≤ 57
          · have a3 : (48 : Int) ≤ ((s[i].toNat : Nat) : Int) := by omega
            clear hq
            go_wp2_with fail
            go_roundw
            case rel => exact ⟨i + 1, by go_num, by omega, HS.out, B.out⟩
            case measure => simp [intOf]; omega
          · have a3 : (48 : Int) ≤ ((s[i].toNat : Nat) : Int) := by omega
            have a5 : ((s[i].toNat : Nat) : Int) = 95 := by omega
            clear hq
            go_wp2_with fail
            go_roundw
            case rel => exact ⟨i + 1, by go_num, by omega, HS.out, B.out⟩
            case measure => simp [intOf]; omega
    · obtain rfl : i = s.size := by omega
      have hlt2 : ¬ (s.size : Int) < (s.size : Int) := by omega
      have HF : Hid (r = true) := Lib.hid (HD.out HR.out hz3)
      go_wp2_with fail
      go_ret
      exact ⟨ret_bool HF.out.symm, B.out⟩
theorem symLinkOk_impl (s : ByteArray) (w : World) (hs : s.size ≤ 4194304) :
    Calls Tryz.prog 96 #[.string s] w fun e w' => e = .returned (.bool (inB s.size 1 150 && signv s)) ∧ Below w.heap.size w w' := by
  have H1 := Lib.hid (fun w => visible_impl s w (by omega))
  generalize signv s = r at H1
  by_cases hz : (1 : Int) ≤ (s.size : Int)
  · by_cases hz2 : (s.size : Int) ≤ 150
    · have hq : inB (s.size : Int) 1 150 = true := inB_t (by omega)
      rw [hq, Bool.true_and]
      clear hq
      go_enter Tryz.func96, Tryz.ntmps96
      go_wp2_with fail
      refine (H1.out _).mono ?_
      rintro e _ ⟨rfl, rfl⟩
      go_wp2_with fail
      go_ret
      exact ⟨rfl, Below.refl _ _⟩
    · have hq : inB (s.size : Int) 1 150 = false := inB_f (by omega)
      rw [hq]
      go_enter Tryz.func96, Tryz.ntmps96
      go_wp2_with fail
      go_ret
      exact ⟨rfl, Below.refl _ _⟩
  · have hq : inB (s.size : Int) 1 150 = false := inB_f (by omega)
    rw [hq]
    go_enter Tryz.func96, Tryz.ntmps96
    go_wp2_with fail
    go_ret
    exact ⟨rfl, Below.refl _ _⟩
end Go.Proofs.YtancidbbkoeokaaGreat

/- Contract of impl.EntryOk: the four kinds and what they share. -/
namespace Go.Proofs.YtancidbbkoeokaaGreat
open Go.ChangeShapes Go.WideShapes Go.ChangeAt Go.RowKit Go.Deep

/-- What all kinds ask. -/
def fieldsv (e : Ent) : Bool := pathOkv e.path && inB e.mode 0 4095 && inB e.uid 0 4294967295 && inB e.gid 0 4294967295 && inB e.time 0 99999999999 && whov e.user && whov e.group
set_option maxHeartbeats 3200000 in
theorem fieldsOk_impl (k : Int) (p l : ByteArray) (m u g t : Int) (us gr b : ByteArray) (w : World) (hp : p.size ≤ 4194304) (hus : us.size ≤ 4194304) (hgr : gr.size ≤ 4194304) :
    Calls Tryz.prog 95 #[.agg #[.int .i64 k, .string p, .string l, .int .i64 m, .int .i64 u, .int .i64 g, .int .i64 t, .string us, .string gr, .string b]] w fun e w' => e = .returned (.bool (fieldsv ⟨k, p, l, m, u, g, t, us, gr, b⟩)) ∧ Below w.heap.size w w' := by
  have H1 := Lib.hid (fun w => pathOk_impl p w (by omega))
  have H2 := Lib.hid (fun w => upTo_any m 4095 w)
  have H3 := Lib.hid (fun w => upTo_any u 4294967295 w)
  have H4 := Lib.hid (fun w => upTo_any g 4294967295 w)
  have H5 := Lib.hid (fun w => upTo_any t 99999999999 w)
  have H6 := Lib.hid (fun w => userOk_impl us w hus)
  have H7 := Lib.hid (fun w => userOk_impl gr w hgr)
  have HE : Hid (fieldsv ⟨k, p, l, m, u, g, t, us, gr, b⟩ = (pathOkv p && inB m 0 4095 && inB u 0 4294967295 && inB g 0 4294967295 && inB t 0 99999999999 && whov us && whov gr)) := Lib.hid rfl
  generalize fieldsv ⟨k, p, l, m, u, g, t, us, gr, b⟩ = r at HE
  generalize pathOkv p = b1 at H1 HE
  generalize inB m 0 4095 = b2 at H2 HE
  generalize inB u 0 4294967295 = b3 at H3 HE
  generalize inB g 0 4294967295 = b4 at H4 HE
  generalize inB t 0 99999999999 = b5 at H5 HE
  generalize whov us = b6 at H6 HE
  generalize whov gr = b7 at H7 HE
  clear hp hus hgr
  go_enter Tryz.func95, Tryz.ntmps95
  go_wp2_with fail
  refine (H1.out _).mono ?_
  rintro e w1 ⟨rfl, hb⟩
  obtain ⟨k1, bb, z1⟩ := one_new (e1 := ⟨k, p, l, m, u, g, t, us, gr, b⟩) hb
  have E := Lib.hid k1
  have B := Lib.hid bb
  clear hb k1 bb
  obtain ⟨c0, c1, c2, c3, c4, c5, c6, c7, c8, c9⟩ := E.out.zero
  cases b1 with
  | false =>
    go_wp2_with fail
    go_ret
    exact ⟨ret_bool (by rw [HE.out]; simp), B.out⟩
  | true =>
    go_wp2_with fail
    refine (H2.out _).mono ?_
    rintro e _ ⟨rfl, rfl⟩
    cases b2 with
    | false =>
      go_wp2_with fail
      go_ret
      exact ⟨ret_bool (by rw [HE.out]; simp), B.out⟩
    | true =>
      go_wp2_with fail
      refine (H3.out _).mono ?_
      rintro e _ ⟨rfl, rfl⟩
      cases b3 with
      | false =>
        go_wp2_with fail
        go_ret
        exact ⟨ret_bool (by rw [HE.out]; simp), B.out⟩
      | true =>
        go_wp2_with fail
        refine (H4.out _).mono ?_
        rintro e _ ⟨rfl, rfl⟩
        cases b4 with
        | false =>
          go_wp2_with fail
          go_ret
          exact ⟨ret_bool (by rw [HE.out]; simp), B.out⟩
        | true =>
          go_wp2_with fail
          refine (H5.out _).mono ?_
          rintro e _ ⟨rfl, rfl⟩
          cases b5 with
          | false =>
            go_wp2_with fail
            go_ret
            exact ⟨ret_bool (by rw [HE.out]; simp), B.out⟩
          | true =>
            go_wp2_with fail
            refine (H6.out _).mono ?_
            rintro e w6 ⟨rfl, hb⟩
            replace E := Lib.hid (E.out.below hb (by omega))
            replace B := Lib.hid (btE B.out hb)
            replace z1 := Nat.le_trans z1 hb.size
            clear hb c0 c1 c2 c3 c4 c5 c6 c7 c8 c9
            obtain ⟨c0, c1, c2, c3, c4, c5, c6, c7, c8, c9⟩ := E.out.zero
            cases b6 with
            | false =>
              go_wp2_with fail
              go_ret
              exact ⟨ret_bool (by rw [HE.out]; simp), B.out⟩
            | true =>
              go_wp2_with fail
              refine (H7.out _).mono ?_
              rintro e w7 ⟨rfl, hb⟩
              replace E := Lib.hid (E.out.below hb (by omega))
              replace B := Lib.hid (btE B.out hb)
              replace z1 := Nat.le_trans z1 hb.size
              clear hb c0 c1 c2 c3 c4 c5 c6 c7 c8 c9
              obtain ⟨c0, c1, c2, c3, c4, c5, c6, c7, c8, c9⟩ := E.out.zero
              cases b7 with
              | false =>
                go_wp2_with fail
                go_ret
                exact ⟨ret_bool (by rw [HE.out]; simp), B.out⟩
              | true =>
                go_wp2_with fail
                go_ret
                exact ⟨ret_bool (by rw [HE.out]; simp), B.out⟩
set_option maxHeartbeats 3200000 in
theorem fileOk_impl (k : Int) (p l : ByteArray) (m u g t : Int) (us gr b : ByteArray) (w : World) (hp : p.size ≤ 4194304) (hus : us.size ≤ 4194304) (hgr : gr.size ≤ 4194304) :
    Calls Tryz.prog 82 #[.agg #[.int .i64 k, .string p, .string l, .int .i64 m, .int .i64 u, .int .i64 g, .int .i64 t, .string us, .string gr, .string b]] w fun e w' => e = .returned (.bool (fieldsv ⟨k, p, l, m, u, g, t, us, gr, b⟩ && (decide (l.size = 0) && decide (b.size ≤ 3000)))) ∧ Below w.heap.size w w' := by
  have H1 := Lib.hid (fun w => fieldsOk_impl k p l m u g t us gr b w hp hus hgr)
  generalize fieldsv ⟨k, p, l, m, u, g, t, us, gr, b⟩ = b1 at H1 ⊢
  go_enter Tryz.func82, Tryz.ntmps82
  go_wp2_with fail
  refine (H1.out _).mono ?_
  rintro e w1 ⟨rfl, hb⟩
  obtain ⟨k1, bb, z1⟩ := one_new (e1 := ⟨k, p, l, m, u, g, t, us, gr, b⟩) hb
  have E := Lib.hid k1
  have B := Lib.hid bb
  clear hb k1 bb
  obtain ⟨c0, c1, c2, c3, c4, c5, c6, c7, c8, c9⟩ := E.out.zero
  cases b1 with
  | false =>
    go_wp2_with fail
    go_ret
    exact ⟨ret_bool (by simp), B.out⟩
  | true =>
    by_cases ql : l.size = 0
    · have ql2 := empty_t ql
      by_cases qb : b.size ≤ 3000
      · have qb2 : (b.size : Int) ≤ 3000 := by omega
        go_wp2_with fail
        go_ret
        exact ⟨ret_bool (by simp [ql, qb]), B.out⟩
      · have qb2 : ¬ (b.size : Int) ≤ 3000 := by omega
        go_wp2_with fail
        go_ret
        exact ⟨ret_bool (by rw [decide_eq_false qb]; simp; try omega), B.out⟩
    · have ql2 := empty_f ql
      go_wp2_with fail
      go_ret
      exact ⟨ret_bool (by simp [ql]), B.out⟩
set_option maxHeartbeats 3200000 in
theorem dirOk_impl (k : Int) (p l : ByteArray) (m u g t : Int) (us gr b : ByteArray) (w : World) (hp : p.size ≤ 4194304) (hus : us.size ≤ 4194304) (hgr : gr.size ≤ 4194304) :
    Calls Tryz.prog 83 #[.agg #[.int .i64 k, .string p, .string l, .int .i64 m, .int .i64 u, .int .i64 g, .int .i64 t, .string us, .string gr, .string b]] w fun e w' => e = .returned (.bool (fieldsv ⟨k, p, l, m, u, g, t, us, gr, b⟩ && (decide (l.size = 0) && decide (b.size = 0)))) ∧ Below w.heap.size w w' := by
  have H1 := Lib.hid (fun w => fieldsOk_impl k p l m u g t us gr b w hp hus hgr)
  generalize fieldsv ⟨k, p, l, m, u, g, t, us, gr, b⟩ = b1 at H1 ⊢
  go_enter Tryz.func83, Tryz.ntmps83
  go_wp2_with fail
  refine (H1.out _).mono ?_
  rintro e w1 ⟨rfl, hb⟩
  obtain ⟨k1, bb, z1⟩ := one_new (e1 := ⟨k, p, l, m, u, g, t, us, gr, b⟩) hb
  have E := Lib.hid k1
  have B := Lib.hid bb
  clear hb k1 bb
  obtain ⟨c0, c1, c2, c3, c4, c5, c6, c7, c8, c9⟩ := E.out.zero
  cases b1 with
  | false =>
    go_wp2_with fail
    go_ret
    exact ⟨ret_bool (by simp), B.out⟩
  | true =>
    by_cases ql : l.size = 0
    · have ql2 := empty_t ql
      by_cases qb : b.size = 0
      · have qb2 := empty_t qb
        go_wp2_with fail
        go_ret
        exact ⟨ret_bool (by simp [ql, qb]), B.out⟩
      · have qb2 := empty_f qb
        go_wp2_with fail
        go_ret
        exact ⟨ret_bool (by simp [qb]), B.out⟩
    · have ql2 := empty_f ql
      go_wp2_with fail
      go_ret
      exact ⟨ret_bool (by simp [ql]), B.out⟩
set_option maxHeartbeats 3200000 in
theorem symOk_impl (k : Int) (p l : ByteArray) (m u g t : Int) (us gr b : ByteArray) (w : World) (hp : p.size ≤ 4194304) (hl : l.size ≤ 4194304) (hus : us.size ≤ 4194304) (hgr : gr.size ≤ 4194304) :
    Calls Tryz.prog 84 #[.agg #[.int .i64 k, .string p, .string l, .int .i64 m, .int .i64 u, .int .i64 g, .int .i64 t, .string us, .string gr, .string b]] w fun e w' => e = .returned (.bool (fieldsv ⟨k, p, l, m, u, g, t, us, gr, b⟩ && (inB l.size 1 150 && signv l && decide (b.size = 0)))) ∧ Below w.heap.size w w' := by
  have H1 := Lib.hid (fun w => fieldsOk_impl k p l m u g t us gr b w hp hus hgr)
  have H2 := Lib.hid (fun w => symLinkOk_impl l w hl)
  generalize (inB (l.size : Int) 1 150 && signv l) = b2 at H2 ⊢
  generalize fieldsv ⟨k, p, l, m, u, g, t, us, gr, b⟩ = b1 at H1 ⊢
  go_enter Tryz.func84, Tryz.ntmps84
  go_wp2_with fail
  refine (H1.out _).mono ?_
  rintro e w1 ⟨rfl, hb⟩
  obtain ⟨k1, bb, z1⟩ := one_new (e1 := ⟨k, p, l, m, u, g, t, us, gr, b⟩) hb
  have E := Lib.hid k1
  have B := Lib.hid bb
  clear hb k1 bb
  obtain ⟨c0, c1, c2, c3, c4, c5, c6, c7, c8, c9⟩ := E.out.zero
  cases b1 with
  | false =>
    go_wp2_with fail
    go_ret
    exact ⟨ret_bool (by simp), B.out⟩
  | true =>
    go_wp2_with fail
    refine (H2.out _).mono ?_
    rintro e w2 ⟨rfl, hb⟩
    replace E := Lib.hid (E.out.below hb (by omega))
    replace B := Lib.hid (btE B.out hb)
    replace z1 := Nat.le_trans z1 hb.size
    clear hb c0 c1 c2 c3 c4 c5 c6 c7 c8 c9
    obtain ⟨c0, c1, c2, c3, c4, c5, c6, c7, c8, c9⟩ := E.out.zero
    cases b2 with
    | false =>
      go_wp2_with fail
      go_ret
      exact ⟨ret_bool (by simp), B.out⟩
    | true =>
      by_cases qb : b.size = 0
      · have qb2 := empty_t qb
        go_wp2_with fail
        go_ret
        exact ⟨ret_bool (by simp [qb]), B.out⟩
      · have qb2 := empty_f qb
        go_wp2_with fail
        go_ret
        exact ⟨ret_bool (by simp [qb]), B.out⟩
set_option maxHeartbeats 3200000 in
theorem hardOk_impl (k : Int) (p l : ByteArray) (m u g t : Int) (us gr b : ByteArray) (w : World) (hp : p.size ≤ 4194304) (hl : l.size ≤ 4194304) (hus : us.size ≤ 4194304) (hgr : gr.size ≤ 4194304) :
    Calls Tryz.prog 85 #[.agg #[.int .i64 k, .string p, .string l, .int .i64 m, .int .i64 u, .int .i64 g, .int .i64 t, .string us, .string gr, .string b]] w fun e w' => e = .returned (.bool (fieldsv ⟨k, p, l, m, u, g, t, us, gr, b⟩ && (pathOkv l && decide (l ≠ p) && decide (b.size = 0)))) ∧ Below w.heap.size w w' := by
  have H1 := Lib.hid (fun w => fieldsOk_impl k p l m u g t us gr b w hp hus hgr)
  have H2 := Lib.hid (fun w => pathOk_impl l w (by omega))
  generalize pathOkv l = b2 at H2 ⊢
  generalize fieldsv ⟨k, p, l, m, u, g, t, us, gr, b⟩ = b1 at H1 ⊢
  go_enter Tryz.func85, Tryz.ntmps85
  go_wp2_with fail
  refine (H1.out _).mono ?_
  rintro e w1 ⟨rfl, hb⟩
  obtain ⟨k1, bb, z1⟩ := one_new (e1 := ⟨k, p, l, m, u, g, t, us, gr, b⟩) hb
  have E := Lib.hid k1
  have B := Lib.hid bb
  clear hb k1 bb
  obtain ⟨c0, c1, c2, c3, c4, c5, c6, c7, c8, c9⟩ := E.out.zero
  cases b1 with
  | false =>
    go_wp2_with fail
    go_ret
    exact ⟨ret_bool (by simp), B.out⟩
  | true =>
    go_wp2_with fail
    refine (H2.out _).mono ?_
    rintro e w2 ⟨rfl, hb⟩
    replace E := Lib.hid (E.out.below hb (by omega))
    replace B := Lib.hid (btE B.out hb)
    replace z1 := Nat.le_trans z1 hb.size
    clear hb c0 c1 c2 c3 c4 c5 c6 c7 c8 c9
    obtain ⟨c0, c1, c2, c3, c4, c5, c6, c7, c8, c9⟩ := E.out.zero
    cases b2 with
    | false =>
      go_wp2_with fail
      go_ret
      exact ⟨ret_bool (by simp), B.out⟩
    | true =>
      by_cases ql : l = p
      · have ql2 := baE_eq ql
        go_wp2_with fail
        go_ret
        exact ⟨ret_bool (by simp [ql]), B.out⟩
      · have ql2 := baE_ne ql
        by_cases qb : b.size = 0
        · have qb2 := empty_t qb
          go_wp2_with fail
          go_ret
          exact ⟨ret_bool (by simp [ql, qb]), B.out⟩
        · have qb2 := empty_f qb
          go_wp2_with fail
          go_ret
          exact ⟨ret_bool (by simp [qb]), B.out⟩
theorem entOkv_eq (e : Ent) : entOkv e = (fieldsv e && kindOk e.kind e.path e.link e.body) := rfl
set_option maxHeartbeats 3200000 in
theorem entryOk_impl (k : Int) (p l : ByteArray) (m u g t : Int) (us gr b : ByteArray) (w : World) (hp : p.size ≤ 4194304) (hl : l.size ≤ 4194304) (hus : us.size ≤ 4194304) (hgr : gr.size ≤ 4194304) :
    Calls Tryz.prog 68 #[.agg #[.int .i64 k, .string p, .string l, .int .i64 m, .int .i64 u, .int .i64 g, .int .i64 t, .string us, .string gr, .string b]] w fun e w' => e = .returned (.bool (entOkv ⟨k, p, l, m, u, g, t, us, gr, b⟩)) ∧ Below w.heap.size w w' := by
  have H0 := Lib.hid (fun w => fileOk_impl k p l m u g t us gr b w hp hus hgr)
  have H1 := Lib.hid (fun w => dirOk_impl k p l m u g t us gr b w hp hus hgr)
  have H2 := Lib.hid (fun w => symOk_impl k p l m u g t us gr b w hp hl hus hgr)
  have H3 := Lib.hid (fun w => hardOk_impl k p l m u g t us gr b w hp hl hus hgr)
  have HE : Hid (entOkv ⟨k, p, l, m, u, g, t, us, gr, b⟩ = (fieldsv ⟨k, p, l, m, u, g, t, us, gr, b⟩ && kindOk k p l b)) := Lib.hid rfl
  have HK : Hid (kindOk k p l b = if k = 0 then decide (l.size = 0) && decide (b.size ≤ 3000) else if k = 1 then decide (l.size = 0) && decide (b.size = 0) else if k = 2 then inB l.size 1 150 && signv l && decide (b.size = 0) else if k = 3 then pathOkv l && decide (l ≠ p) && decide (b.size = 0) else false) := Lib.hid rfl
  generalize hk0 : (decide (l.size = 0) && decide (b.size ≤ 3000)) = r0 at H0 HK
  generalize hk1 : (decide (l.size = 0) && decide (b.size = 0)) = r1 at H1 HK
  generalize hk2 : (inB (l.size : Int) 1 150 && signv l && decide (b.size = 0)) = r2 at H2 HK
  generalize hk3 : (pathOkv l && decide (l ≠ p) && decide (b.size = 0)) = r3 at H3 HK
  clear hk0 hk1 hk2 hk3
  generalize kindOk k p l b = rk at HE HK
  generalize entOkv ⟨k, p, l, m, u, g, t, us, gr, b⟩ = r at HE
  generalize fieldsv ⟨k, p, l, m, u, g, t, us, gr, b⟩ = b1 at HE H0 H1 H2 H3
  clear hp hl hus hgr
  by_cases q0 : k = 0
  · have HF : Hid (r = (b1 && r0)) := Lib.hid (by rw [HE.out, HK.out]; simp [q0])
    subst q0
    clear HE HK
    go_enter Tryz.func68, Tryz.ntmps68
    go_wp2_with fail
    refine (H0.out _).mono ?_
    rintro e w1 ⟨rfl, hb⟩
    go_wp2_with fail
    go_ret
    exact ⟨ret_bool HF.out.symm, (((Below.refl _ w).alloc (Nat.le_refl _) _).alloc (by simp) _).trans (hb.mono (by simp; omega))⟩
  by_cases q1 : k = 1
  · have HF : Hid (r = (b1 && r1)) := Lib.hid (by rw [HE.out, HK.out]; simp [q1])
    subst q1
    clear HE HK
    go_enter Tryz.func68, Tryz.ntmps68
    go_wp2_with fail
    refine (H1.out _).mono ?_
    rintro e w1 ⟨rfl, hb⟩
    go_wp2_with fail
    go_ret
    exact ⟨ret_bool HF.out.symm, (((Below.refl _ w).alloc (Nat.le_refl _) _).alloc (by simp) _).trans (hb.mono (by simp; omega))⟩
  by_cases q2 : k = 2
  · have HF : Hid (r = (b1 && r2)) := Lib.hid (by rw [HE.out, HK.out]; simp [q2])
    subst q2
    clear HE HK
    go_enter Tryz.func68, Tryz.ntmps68
    go_wp2_with fail
    refine (H2.out _).mono ?_
    rintro e w1 ⟨rfl, hb⟩
    go_wp2_with fail
    go_ret
    exact ⟨ret_bool HF.out.symm, (((Below.refl _ w).alloc (Nat.le_refl _) _).alloc (by simp) _).trans (hb.mono (by simp; omega))⟩
  by_cases q3 : k = 3
  · have HF : Hid (r = (b1 && r3)) := Lib.hid (by rw [HE.out, HK.out]; simp [q3])
    subst q3
    clear HE HK
    go_enter Tryz.func68, Tryz.ntmps68
    go_wp2_with fail
    refine (H3.out _).mono ?_
    rintro e w1 ⟨rfl, hb⟩
    go_wp2_with fail
    go_ret
    exact ⟨ret_bool HF.out.symm, (((Below.refl _ w).alloc (Nat.le_refl _) _).alloc (by simp) _).trans (hb.mono (by simp; omega))⟩
  have HF : Hid (r = false) := Lib.hid (by rw [HE.out, HK.out, if_neg q0, if_neg q1, if_neg q2, if_neg q3]; simp)
  clear HE HK
  go_enter Tryz.func68, Tryz.ntmps68
  go_wp2_with fail
  go_ret
  exact ⟨ret_bool HF.out.symm, ((Below.refl _ w).alloc (Nat.le_refl _) _).alloc (by simp) _⟩
end Go.Proofs.YtancidbbkoeokaaGreat

/- Contract of impl.cpioFits: what all cpio formats ask of an entry. -/
namespace Go.Proofs.YtancidbbkoeokaaGreat
open Go.ChangeShapes Go.WideShapes Go.ChangeAt Go.RowKit Go.Deep

def isTrail (p : ByteArray) : Bool := p.toList == [84, 82, 65, 73, 76, 69, 82, 33, 33, 33]
def cpioF (e : Ent) : Bool := entOkv e && !isTrail e.path && e.user.toList.isEmpty && e.group.toList.isEmpty
set_option maxHeartbeats 3200000 in
theorem cpioF_impl (k : Int) (p l : ByteArray) (m u g t : Int) (us gr b : ByteArray) (w : World) (hp : p.size ≤ 4194304) (hl : l.size ≤ 4194304) (hus : us.size ≤ 4194304) (hgr : gr.size ≤ 4194304) :
    Calls Tryz.prog 61 #[.agg #[.int .i64 k, .string p, .string l, .int .i64 m, .int .i64 u, .int .i64 g, .int .i64 t, .string us, .string gr, .string b]] w fun e w' => e = .returned (.bool (cpioF ⟨k, p, l, m, u, g, t, us, gr, b⟩)) ∧ Below w.heap.size w w' := by
  have H2 := Lib.hid (fun w => entryOk_impl k p l m u g t us gr b w hp hl hus hgr)
  have HE : Hid (cpioF ⟨k, p, l, m, u, g, t, us, gr, b⟩ = (entOkv ⟨k, p, l, m, u, g, t, us, gr, b⟩ && !(p.toList == [84, 82, 65, 73, 76, 69, 82, 33, 33, 33]) && us.toList.isEmpty && gr.toList.isEmpty)) := Lib.hid rfl
  generalize cpioF ⟨k, p, l, m, u, g, t, us, gr, b⟩ = r at HE
  generalize entOkv ⟨k, p, l, m, u, g, t, us, gr, b⟩ = b1 at H2 HE
  clear hp hus hgr hl
  go_enter Tryz.func61, Tryz.ntmps61
  go_wp2_with fail
  refine (H2.out _).mono ?_
  rintro e w1 ⟨rfl, hb⟩
  obtain ⟨k1, bb1, z1⟩ := one_new (e1 := ⟨k, p, l, m, u, g, t, us, gr, b⟩) hb
  have E1 := Lib.hid k1
  have B1 := Lib.hid bb1
  clear hb k1 bb1
  obtain ⟨c0, c1, c2, c3, c4, c5, c6, c7, c8, c9⟩ := E1.out.zero
  cases b1 with
  | false =>
    go_wp2_with fail
    go_ret
    exact ⟨ret_bool (by rw [HE.out]; simp []), B1.out⟩
  | true =>
    cases q1 : (p.toList == [84, 82, 65, 73, 76, 69, 82, 33, 33, 33]) with
    | true =>
      have HE2 : Hid (r = false) := Lib.hid (by rw [HE.out, q1]; simp)
      clear HE
      go_wp2_with fail
      go_ret
      exact ⟨ret_bool HE2.out.symm, B1.out⟩
    | false =>
      cases q2 : us.toList.isEmpty with
      | false =>
        have HE2 : Hid (r = false) := Lib.hid (by rw [HE.out, q2]; simp)
        clear HE
        go_wp2_with fail
        go_ret
        exact ⟨ret_bool HE2.out.symm, B1.out⟩
      | true =>
        have HE2 : Hid (r = gr.toList.isEmpty) := Lib.hid (by rw [HE.out, q1, q2]; simp)
        clear HE
        go_wp2_with fail
        go_ret
        exact ⟨ret_bool HE2.out.symm, B1.out⟩
end Go.Proofs.YtancidbbkoeokaaGreat

/- Contracts of spec.BinFits and impl.BinFits. -/
namespace Go.Proofs.YtancidbbkoeokaaGreat
open Go.ChangeShapes Go.WideShapes Go.ChangeAt Go.RowKit Go.Deep

def binFits (e : Ent) : Bool := entOkv e && !isTrail e.path && e.user.toList.isEmpty && e.group.toList.isEmpty && decide (e.uid ≤ 65535) && decide (e.gid ≤ 65535) && decide (e.time ≤ 4294967295)
theorem binFits_cpio (e : Ent) : binFits e = (cpioF e && decide (e.uid ≤ 65535) && decide (e.gid ≤ 65535) && decide (e.time ≤ 4294967295)) := rfl
set_option maxHeartbeats 3200000 in
theorem binFits_spec (k : Int) (p l : ByteArray) (m u g t : Int) (us gr b : ByteArray) (w : World) (hp : p.size ≤ 4194304) (hl : l.size ≤ 4194304) (hus : us.size ≤ 4194304) (hgr : gr.size ≤ 4194304) (hbz : b.size ≤ 4194304) :
    Calls Tryz.prog 17 #[.agg #[.int .i64 k, .string p, .string l, .int .i64 m, .int .i64 u, .int .i64 g, .int .i64 t, .string us, .string gr, .string b]] w fun e w' => e = .returned (.bool (binFits ⟨k, p, l, m, u, g, t, us, gr, b⟩)) ∧ Below w.heap.size w w' := by
  have H2 := Lib.hid (fun w => entryOk_spec k p l m u g t us gr b w hp hl hus hgr hbz)
  have HE : Hid (binFits ⟨k, p, l, m, u, g, t, us, gr, b⟩ = (entOkv ⟨k, p, l, m, u, g, t, us, gr, b⟩ && !(p.toList == [84, 82, 65, 73, 76, 69, 82, 33, 33, 33]) && us.toList.isEmpty && gr.toList.isEmpty && decide (u ≤ 65535) && decide (g ≤ 65535) && decide (t ≤ 4294967295))) := Lib.hid rfl
  generalize binFits ⟨k, p, l, m, u, g, t, us, gr, b⟩ = r at HE
  generalize entOkv ⟨k, p, l, m, u, g, t, us, gr, b⟩ = b1 at H2 HE
  clear hp hus hgr hl hbz
  go_enter Tryz.func17, Tryz.ntmps17
  go_wp2_with fail
  refine (H2.out _).mono ?_
  rintro e w1 ⟨rfl, hb⟩
  obtain ⟨k1, bb1, z1⟩ := one_new (e1 := ⟨k, p, l, m, u, g, t, us, gr, b⟩) hb
  have E1 := Lib.hid k1
  have B1 := Lib.hid bb1
  clear hb k1 bb1
  obtain ⟨c0, c1, c2, c3, c4, c5, c6, c7, c8, c9⟩ := E1.out.zero
  cases b1 with
  | false =>
    go_wp2_with fail
    go_ret
    exact ⟨ret_bool (by rw [HE.out]; simp []), B1.out⟩
  | true =>
    cases q1 : (p.toList == [84, 82, 65, 73, 76, 69, 82, 33, 33, 33]) with
    | true =>
      have HE2 : Hid (r = false) := Lib.hid (by rw [HE.out, q1]; simp)
      clear HE
      go_wp2_with fail
      go_ret
      exact ⟨ret_bool HE2.out.symm, B1.out⟩
    | false =>
      cases q2 : us.toList.isEmpty with
      | false =>
        have HE2 : Hid (r = false) := Lib.hid (by rw [HE.out, q2]; simp)
        clear HE
        go_wp2_with fail
        go_ret
        exact ⟨ret_bool HE2.out.symm, B1.out⟩
      | true =>
        cases q3 : gr.toList.isEmpty with
        | false =>
          have HE2 : Hid (r = false) := Lib.hid (by rw [HE.out, q3]; simp)
          clear HE
          go_wp2_with fail
          go_ret
          exact ⟨ret_bool HE2.out.symm, B1.out⟩
        | true =>
          by_cases q4 : u ≤ 65535
          · by_cases q5 : g ≤ 65535
            · by_cases q6 : t ≤ 4294967295
              · have HE2 : Hid (r = true) := Lib.hid (by rw [HE.out, q1, q2, q3, decide_eq_true q4, decide_eq_true q5, decide_eq_true q6]; rfl)
                clear HE
                go_wp2_with fail
                go_ret
                exact ⟨ret_bool HE2.out.symm, B1.out⟩
              · have HE2 : Hid (r = false) := Lib.hid (by rw [HE.out, decide_eq_false q6]; simp)
                clear HE
                go_wp2_with fail
                go_ret
                exact ⟨ret_bool ((decide_eq_false (show ¬ t ≤ 4294967295 by omega)).trans HE2.out.symm), B1.out⟩
            · have HE2 : Hid (r = false) := Lib.hid (by rw [HE.out, decide_eq_false q5]; simp)
              clear HE
              go_wp2_with fail
              go_ret
              exact ⟨ret_bool HE2.out.symm, B1.out⟩
          · have HE2 : Hid (r = false) := Lib.hid (by rw [HE.out, decide_eq_false q4]; simp)
            clear HE
            go_wp2_with fail
            go_ret
            exact ⟨ret_bool HE2.out.symm, B1.out⟩
set_option maxHeartbeats 3200000 in
theorem binFits_impl (k : Int) (p l : ByteArray) (m u g t : Int) (us gr b : ByteArray) (w : World) (hp : p.size ≤ 4194304) (hl : l.size ≤ 4194304) (hus : us.size ≤ 4194304) (hgr : gr.size ≤ 4194304) :
    Calls Tryz.prog 38 #[.agg #[.int .i64 k, .string p, .string l, .int .i64 m, .int .i64 u, .int .i64 g, .int .i64 t, .string us, .string gr, .string b]] w fun e w' => e = .returned (.bool (binFits ⟨k, p, l, m, u, g, t, us, gr, b⟩)) ∧ Below w.heap.size w w' := by
  have H2 := Lib.hid (fun w => cpioF_impl k p l m u g t us gr b w hp hl hus hgr)
  have HE : Hid (binFits ⟨k, p, l, m, u, g, t, us, gr, b⟩ = (cpioF ⟨k, p, l, m, u, g, t, us, gr, b⟩ && decide (u ≤ 65535) && decide (g ≤ 65535) && decide (t ≤ 4294967295))) := Lib.hid rfl
  generalize binFits ⟨k, p, l, m, u, g, t, us, gr, b⟩ = r at HE
  generalize cpioF ⟨k, p, l, m, u, g, t, us, gr, b⟩ = b1 at H2 HE
  clear hp hus hgr hl
  go_enter Tryz.func38, Tryz.ntmps38
  go_wp2_with fail
  refine (H2.out _).mono ?_
  rintro e w1 ⟨rfl, hb⟩
  obtain ⟨k1, bb1, z1⟩ := one_new (e1 := ⟨k, p, l, m, u, g, t, us, gr, b⟩) hb
  have E1 := Lib.hid k1
  have B1 := Lib.hid bb1
  clear hb k1 bb1
  obtain ⟨c0, c1, c2, c3, c4, c5, c6, c7, c8, c9⟩ := E1.out.zero
  cases b1 with
  | false =>
    go_wp2_with fail
    go_ret
    exact ⟨ret_bool (by rw [HE.out]; simp []), B1.out⟩
  | true =>
    by_cases q4 : u ≤ 65535
    · by_cases q5 : g ≤ 65535
      · by_cases q6 : t ≤ 4294967295
        · have HE2 : Hid (r = true) := Lib.hid (by rw [HE.out, decide_eq_true q4, decide_eq_true q5, decide_eq_true q6]; rfl)
          clear HE
          go_wp2_with fail
          go_ret
          exact ⟨ret_bool HE2.out.symm, B1.out⟩
        · have HE2 : Hid (r = false) := Lib.hid (by rw [HE.out, decide_eq_false q6]; simp)
          clear HE
          go_wp2_with fail
          go_ret
          exact ⟨ret_bool ((decide_eq_false (show ¬ t ≤ 4294967295 by omega)).trans HE2.out.symm), B1.out⟩
      · have HE2 : Hid (r = false) := Lib.hid (by rw [HE.out, decide_eq_false q5]; simp)
        clear HE
        go_wp2_with fail
        go_ret
        exact ⟨ret_bool HE2.out.symm, B1.out⟩
    · have HE2 : Hid (r = false) := Lib.hid (by rw [HE.out, decide_eq_false q4]; simp)
      clear HE
      go_wp2_with fail
      go_ret
      exact ⟨ret_bool HE2.out.symm, B1.out⟩
end Go.Proofs.YtancidbbkoeokaaGreat

/- The text of a list in cards with words; contract of spec.PutCpio. -/
namespace Go.Proofs.YtancidbbkoeokaaGreat
open Go.ChangeShapes Go.WideShapes Go.ChangeAt Go.RowKit Go.Deep

def lastC : Card := ⟨0, 0, 0, 0, 1, 0, ⟨#[84, 82, 65, 73, 76, 69, 82, 33, 33, 33]⟩, ⟨#[]⟩⟩
def bwT (crc : Bool) (Q : List Card) : Nat → ByteArray
  | 0 => ⟨#[]⟩
  | n + 1 => bwT crc Q n ++ binTextv (Q.getD n zeroCd) crc
def putBwB (L : List Ent) : Bool := listOkv L && L.all binFits
def putBwT (L : List Ent) (crc : Bool) : ByteArray := if putBwB L then bwT crc (cardsv L) L.length ++ binTextv lastC crc else ⟨#[]⟩
theorem getD_ofQ {C : List Card} {i : Nat} {c : Card} (h : C[i]? = some c) : C.getD i zeroCd = c := by simp [List.getD, h]
theorem bwT_step {crc : Bool} {Q : List Card} {i : Nat} {c : Card} (h : Q[i]? = some c) : bwT crc Q (i + 1) = bwT crc Q i ++ binTextv c crc := by rw [bwT, getD_ofQ h]
theorem binText207 (c : Card) (crc : Bool) : (binTextv c crc).size ≤ 207 + c.Path.size + c.Data.size := by
  have := binText_le c crc
  omega
def SmallQ (Q : List Card) : Prop := ∀ c ∈ Q, c.Path.size + c.Data.size ≤ 4194304
theorem smallQ_of {L : List Ent} (h : SmallL L) : SmallQ (cardsv L) := by
  intro c hc
  by_cases hk : listOkv L = true
  · obtain ⟨i, hi⟩ := List.mem_iff_getElem?.1 hc
    have hlt : i < L.length := by
      have := (List.getElem?_eq_some_iff.1 hi).1
      rwa [cardsv_len hk] at this
    have he : L[i]? = some L[i] := List.getElem?_eq_getElem hlt
    rw [cardsv_get hk he] at hi
    obtain rfl := Option.some.inj hi
    have hz := h.get he
    unfold esz at hz
    show L[i].path.size + (datav L[i]).size ≤ 4194304
    unfold datav
    split <;> omega
  · rw [cardsv, if_neg hk] at hc
    cases hc
theorem bwT_le {crc : Bool} {Q : List Card} (h : SmallQ Q) (i : Nat) (hi : i ≤ Q.length) : (bwT crc Q i).size ≤ 4194511 * i := by
  induction i with
  | zero => exact Nat.zero_le _
  | succ i ih =>
    have hq : Q[i]? = some Q[i] := List.getElem?_eq_getElem (by omega)
    have h1 := h _ (List.mem_of_getElem? hq)
    have h2 := binText207 Q[i] crc
    rw [bwT_step hq, ByteArray.size_append]
    have := ih (by omega)
    omega
theorem putBw_no {L : List Ent} {crc : Bool} (h : listOkv L = false) : putBwB L = false ∧ putBwT L crc = ⟨#[]⟩ := by
  have hb : putBwB L = false := by rw [putBwB, h]; rfl
  exact ⟨hb, by rw [putBwT, hb]; rfl⟩
theorem putBw_bad {L : List Ent} {crc : Bool} {i : Nat} {e : Ent} (he : L[i]? = some e) (h : binFits e = false) : putBwB L = false ∧ putBwT L crc = ⟨#[]⟩ := by
  have hb : putBwB L = false := by
    rw [putBwB, show L.all binFits = false from List.all_eq_false.2 ⟨e, List.mem_of_getElem? he, by simp [h]⟩]
    simp
  exact ⟨hb, by rw [putBwT, hb]; rfl⟩
theorem putBw_yes {L : List Ent} {crc : Bool} (h : listOkv L = true) (hf : ∀ j, j < L.length → ∀ e, L[j]? = some e → binFits e = true) : putBwB L = true ∧ putBwT L crc = bwT crc (cardsv L) L.length ++ binTextv lastC crc := by
  have hb : putBwB L = true := by
    rw [putBwB, h, List.all_eq_true.2 (fun e he => by
      obtain ⟨j, hj⟩ := List.mem_iff_getElem?.1 he
      exact hf j (List.getElem?_eq_some_iff.1 hj).1 e hj)]
    rfl
  exact ⟨hb, by rw [putBwT, if_pos hb]⟩
theorem last_spec (w : World) : Calls Tryz.prog 19 #[] w fun e w' => e = .returned (.agg #[.int .i64 0, .int .i64 0, .int .i64 0, .int .i64 0, .int .i64 1, .int .i64 0, .string ⟨#[84, 82, 65, 73, 76, 69, 82, 33, 33, 33]⟩, .string ⟨#[]⟩]) ∧ Below w.heap.size w w' := by
  have R9 := CardO.new w lastC
  simp only [lastC, Card.cells] at R9
  go_enter Tryz.func19, Tryz.ntmps19
  go_wp2_with fail
  refine bodyPost_ret (res_OC1 (e := lastC) rfl _ rfl R9) rfl ?_
  exact ⟨rfl, (Below.refl _ _).alloc (Nat.le_refl _) _⟩
set_option maxHeartbeats 6400000 in
set_option maxRecDepth 8000 in
theorem putCpio_spec (L : List Ent) (n g cap : Nat) (crc : Bool) (w : World) (hn : n = L.length) (hm : n ≤ 1048576) (hcap : n ≤ cap) (hg : g < w.heap.size) (hsm : SmallL L) (h1 : RowE w g L) :
    Calls Tryz.prog 6 #[.slice (some ⟨g, 0, none⟩) n cap, .bool crc] w fun e w' => e = .returned (.tuple #[.string (putBwT L crc), .bool (putBwB L)]) ∧ Below w.heap.size w w' := by
  have H1 := Lib.hid h1
  have HK := Lib.hid (fun w (hg : g < w.heap.size) (h : RowE w g L) => listOk_spec L n g cap w hn (by omega) hcap hg hsm h)
  have HC := Lib.hid (fun w (hg : g < w.heap.size) (h : RowE w g L) => cardsOf_spec L n g cap w hn (by omega) hcap hg hsm h)
  have HG : Hid (∀ i, i < n → ∃ e, L[i]? = some e ∧ esz e ≤ 4194304) := Lib.hid (fun i hi => by obtain ⟨e, he⟩ := getE' (L := L) (i := i) (by omega); exact ⟨e, he, hsm.get he⟩)
  have HNo := Lib.hid (putBw_no (L := L) (crc := crc))
  have HBad := Lib.hid (fun i e (he : L[i]? = some e) h => putBw_bad (crc := crc) he h)
  have HYes : Hid (listOkv L = true → (∀ j, j < n → ∀ e, L[j]? = some e → binFits e = true) → putBwB L = true ∧ putBwT L crc = bwT crc (cardsv L) n ++ binTextv lastC crc) := Lib.hid (by rw [hn]; exact putBw_yes)
  have HQ : Hid (listOkv L = true → (cardsv L).length = n ∧ n ≤ 30) := Lib.hid (fun h => ⟨by rw [hn]; exact cardsv_len h, by rw [hn]; exact listOk_len h⟩)
  have HSQ := Lib.hid (smallQ_of hsm)
  have HLast := Lib.hid (binText207 lastC crc)
  generalize putBwB L = ok at HNo HBad HYes
  generalize putBwT L crc = r at HNo HBad HYes
  generalize listOkv L = lk at HK HNo HYes HQ
  generalize cardsv L = Q at HC HYes HQ HSQ
  clear h1 hsm hn
  go_enter Tryz.func6, Tryz.ntmps6
  go_wp2_with fail
  refine (HK.out _ hg H1.out).mono ?_
  rintro e w1 ⟨rfl, hb⟩
  have B := Lib.hid hb
  clear hb
  cases lk with
  | false =>
    have HF := Lib.hid (HNo.out rfl)
    go_wp2_with fail
    go_ret2
    exact ⟨by rw [HF.out.1, HF.out.2]; rfl, B.out⟩
  | true =>
    obtain ⟨hql, hn30⟩ := HQ.out rfl
    have HY := Lib.hid (HYes.out rfl)
    clear HK HNo HYes HQ
    go_wp2_with fail
    refine (HC.out _ (by have := B.out.size; omega) (H1.out.below B.out hg)).mono ?_
    rintro e w2 ⟨v, rfl, ho, hb⟩
    obtain ⟨gc, cc, rfl, hrc, zc, _, _⟩ := ho.open
    have RC := Lib.hid hrc
    replace B := Lib.hid (btE B.out hb)
    clear ho hrc hb HC
    rw [hql]
    go_wp2_with fail
    go_loopw [6, 8] (fun v u wr => ∃ i : Nat, u = .int .i64 i ∧ i ≤ n ∧ (∀ j, j < i → ∀ e, L[j]? = some e → binFits e = true) ∧ v = .string (bwT crc Q i) ∧ RowC wr gc Q ∧ gc < wr.heap.size ∧ Below w.heap.size w wr) (fun _ u _ => n - (intOf u).toNat)
    case atStart => exact ⟨0, rfl, Nat.zero_le _, fun j hj => by omega, rfl, RC.out, zc, B.out⟩
    case round =>
      obtain ⟨i, rfl, hi, hf, rfl, hrc, zc2, hb⟩ := hrel
      clear RC B
      have HFt := Lib.hid hf
      have RC := Lib.hid hrc
      have B := Lib.hid hb
      have hszB := B.out.size
      clear hf hrc hb
      have hle := bwT_le (crc := crc) HSQ.out i (by omega)
      by_cases hlt : i < n
      · have hlt2 : (i : Int) < (n : Int) := by omega
        obtain ⟨e, he, hz⟩ := HG.out i hlt
        obtain ⟨q, hq⟩ : ∃ q, Q[i]? = some q := ⟨Q[i], List.getElem?_eq_getElem (by omega)⟩
        have hqs := HSQ.out _ (List.mem_of_getElem? hq)
        have hcl := binText207 q crc
        have HSt := Lib.hid (bwT_step (crc := crc) hq)
        have HB2 := Lib.hid (HBad.out i e he)
        have HFn : Hid (binFits e = true → ∀ j, j < i + 1 → ∀ e, L[j]? = some e → binFits e = true) := Lib.hid (fun h j hj e' he' => by
          by_cases hji : j = i
          · subst hji; rw [he] at he'; obtain rfl := Option.some.inj he'; exact h
          · exact HFt.out j (by omega) e' he')
        obtain ⟨c0, c1, c2, c3, c4, c5, c6, c7, c8, c9⟩ := (H1.out.below B.out hg).ten he
        have Hq := Lib.hid hq
        clear he hq HBad HG
        obtain ⟨k, p, l, m, u1, gi, t, us, gr, b⟩ := e
        obtain ⟨hp, hl, hus, hgr, hbz⟩ := small_parts hz
        have HO := Lib.hid (fun w => binFits_spec k p l m u1 gi t us gr b w hp hl hus hgr hbz)
        clear hz hp hl hus hgr hbz
        generalize binFits ⟨k, p, l, m, u1, gi, t, us, gr, b⟩ = f at HB2 HFn HO
        go_wp2_with fail
        refine (HO.out _).mono ?_
        rintro e w3 ⟨rfl, hb⟩
        replace RC := Lib.hid (RC.out.below hb zc2)
        replace B := Lib.hid (btE B.out hb)
        have zc3 := Nat.lt_of_lt_of_le zc2 hb.size
        clear hb HO c0 c1 c2 c3 c4 c5 c6 c7 c8 c9
        cases f with
        | false =>
          have HF := Lib.hid (HB2.out rfl)
          go_wp2_with fail
          go_ret2
          exact ⟨by rw [HF.out.1, HF.out.2]; rfl, B.out⟩
        | true =>
          have HFi := Lib.hid (HFn.out rfl)
          obtain ⟨d0, d1, d2, d3, d4, d5, d6, d7⟩ := RC.out.cols Hq.out
          obtain ⟨q0, q1, q2, q3, q4, q5, qp, qd⟩ := q
          simp only at d0 d1 d2 d3 d4 d5 d6 d7 hqs hcl
          have HP := Lib.hid (fun w => putBin_spec q0 q1 q2 q3 q4 q5 qp qd crc w (by omega) (by omega))
          generalize binTextv ⟨q0, q1, q2, q3, q4, q5, qp, qd⟩ crc = x at HP HSt hcl
          obtain ⟨T, hT⟩ : ∃ T, bwT crc Q i = T := ⟨_, rfl⟩
          rw [hT] at HSt hle ⊢
          clear hT HB2 HFn
          have hA : ∀ w, (Op.stringOp .add T x).run Tryz.prog w = .ok (.string (T ++ x)) w := fun w => run_string_add_sum w _ _ (by omega)
          go_wp2_with fail
          refine (HP.out _).mono ?_
          rintro e w4 ⟨rfl, hb⟩
          replace RC := Lib.hid (RC.out.below hb zc3)
          replace B := Lib.hid (btE B.out hb)
          have zc4 := Nat.lt_of_lt_of_le zc3 hb.size
          clear hb d0 d1 d2 d3 d4 d5 d6 d7 HP
          go_wp2_with fail
          go_roundw
          case rel => exact ⟨i + 1, by go_num, by omega, HFi.out, by rw [HSt.out], RC.out, zc4, B.out⟩
          case measure => simp [intOf]; omega
      · obtain rfl : i = n := by omega
        have hlt2 : ¬ (i : Int) < (i : Int) := by omega
        have HF := Lib.hid (HY.out HFt.out)
        have hll := HLast.out
        obtain ⟨x, hx⟩ : ∃ x, binTextv lastC crc = x := ⟨_, rfl⟩
        have HP := Lib.hid (fun w => putBin_spec 0 0 0 0 1 0 ⟨#[84, 82, 65, 73, 76, 69, 82, 33, 33, 33]⟩ ⟨#[]⟩ crc w (by decide) (by decide))
        rw [show (binTextv ⟨0, 0, 0, 0, 1, 0, ⟨#[84, 82, 65, 73, 76, 69, 82, 33, 33, 33]⟩, ⟨#[]⟩⟩ crc) = x from hx] at HP
        rw [hx] at HF hll
        have hp1 : lastC.Path.size = 10 := rfl
        have hp2 : lastC.Data.size = 0 := rfl
        have hll2 : x.size ≤ 1000 := by omega
        obtain ⟨T, hT⟩ : ∃ T, bwT crc Q i = T := ⟨_, rfl⟩
        rw [hT] at HF hle ⊢
        clear hT hx hll HY
        have hA : ∀ w, (Op.stringOp .add T x).run Tryz.prog w = .ok (.string (T ++ x)) w := fun w => run_string_add_sum w _ _ (by omega)
        go_wp2_with fail
        refine (last_spec _).mono ?_
        rintro e w3 ⟨rfl, hb⟩
        replace B := Lib.hid (btE B.out hb)
        clear hb
        go_wp2_with fail
        refine (HP.out _).mono ?_
        rintro e w4 ⟨rfl, hb⟩
        replace B := Lib.hid (btE B.out hb)
        clear hb
        go_wp2_with fail
        go_ret2
        exact ⟨by rw [HF.out.1, HF.out.2]; rfl, B.out⟩
end Go.Proofs.YtancidbbkoeokaaGreat

/- Contract of impl.Find (slices.IndexFunc with a function that holds the path). -/
namespace Go.Proofs.YtancidbbkoeokaaGreat
open Go.ChangeShapes Go.WideShapes Go.ChangeAt Go.RowKit Go.Deep Go.Shelf

theorem findPred (k : Int) (q l : ByteArray) (m u g t : Int) (us gr b : ByteArray) (p : ByteArray) (B : Nat) (w : World) (hB : B < w.heap.size) (hc : w.cell? ⟨B, 0, none⟩ = some (.string p)) :
    Calls Tryz.prog 99 #[.agg #[.int .i64 k, .string q, .string l, .int .i64 m, .int .i64 u, .int .i64 g, .int .i64 t, .string us, .string gr, .string b], .pointer (some ⟨B, 0, none⟩)] w fun e w' => e = .returned (.bool (q.toList == p.toList)) ∧ Below w.heap.size w w' := by
  have hne : B ≠ w.heap.size := by omega
  go_enter Tryz.func99, Tryz.ntmps99
  go_wp2
  all_goals (go_ret; exact ⟨by simp_all, (Below.refl _ w).alloc (Nat.le_refl _) _⟩)
theorem findIndex (L : List Ent) (p : ByteArray) (n g cap B : Nat) (w : World) (hn : n = L.length) (hm : n ≤ 4194304) (hg : g < w.heap.size) (h1 : RowE w g L) (hB : B < w.heap.size) (hc : w.cell? ⟨B, 0, none⟩ = some (.string p)) :
    Calls Tryz.prog 98 #[.slice (some ⟨g, 0, none⟩) n cap, .func (.func 99) #[] #[.pointer (some ⟨B, 0, none⟩)]] w fun e w' => e = .returned (.int .i64 (findv L p)) ∧ Below w.heap.size w w' := by
  have H1 := Lib.hid h1
  have HC := Lib.hid hc
  have HP := Lib.hid (fun k q l m u g t us gr b w hB hc => findPred k q l m u g t us gr b p B w hB hc)
  have HG : Hid (∀ i, i < n → ∃ e, L[i]? = some e) := Lib.hid (fun i hi => getE' (by omega))
  have HE : Hid (∀ i, n ≤ i → findFrom (L.drop i) p i = -1) := Lib.hid (fun i hi => findFrom_end L p i (by omega))
  have HD : Hid (findv L p = findFrom (L.drop 0) p 0) := Lib.hid rfl
  have eg : ∀ args w, (callFunc 99 args).run Tryz.prog w = .ok (.enter 99 args) w := enters_of Tryz.func99 (by kernel_rfl) rfl
  generalize findv L p = r at HD
  clear h1 hn hc
  go_enter Tryz.func98, Tryz.ntmps98
  go_wp2_with fail
  go_loopw [5, 8] (fun _ u wr => ∃ i : Nat, u = .int .i64 i ∧ i ≤ n ∧ r = findFrom (L.drop i) p i ∧ Below w.heap.size w wr) (fun _ u _ => n - (intOf u).toNat)
  case atStart => exact ⟨0, rfl, Nat.zero_le _, HD.out, Below.refl _ _⟩
  case round =>
    obtain ⟨i, rfl, hi, hr, hb⟩ := hrel
    have HR := Lib.hid hr
    have B := Lib.hid hb
    clear hr hb
    by_cases hlt : i < n
    · have hlt2 : (i : Int) < (n : Int) := by omega
      obtain ⟨e, he⟩ := HG.out i hlt
      have HN := Lib.hid (findFrom_drop L p i he)
      obtain ⟨c0, c1, c2, c3, c4, c5, c6, c7, c8, c9⟩ := (H1.out.below B.out hg).ten he
      clear he
      obtain ⟨k, q, l, m, u, g0, t, us, gr, b⟩ := e
      have hcall := HP.out k q l m u g0 t us gr b wr (Nat.lt_of_lt_of_le hB B.out.size) ((B.out.cell (p := ⟨_, 0, none⟩) hB).trans HC.out)
      by_cases hq : q = p
      · rw [baE_eq hq] at hcall
        have HF : Hid (r = i) := Lib.hid (by rw [HR.out, HN.out, if_pos hq])
        clear hq HN HR
        go_wp2_with (go_at_fn 99; refine hcall.mono ?_; rintro e w' ⟨rfl, hb'⟩)
        go_ret
        exact ⟨ret_int HF.out.symm, btE B.out hb'⟩
      · rw [baE_ne hq] at hcall
        have HF : Hid (r = findFrom (L.drop (i + 1)) p (i + 1)) := Lib.hid (by rw [HR.out, HN.out, if_neg hq])
        clear hq HN HR
        go_wp2_with (go_at_fn 99; refine hcall.mono ?_; rintro e w' ⟨rfl, hb'⟩)
        go_roundw
        case rel => exact ⟨i + 1, by go_num, by omega, HF.out, btE B.out hb'⟩
        case measure => simp [intOf]; omega
    · have hlt2 : ¬ (i : Int) < (n : Int) := by omega
      have HF : Hid (r = -1) := Lib.hid (by rw [HR.out, HE.out i (by omega)])
      go_wp2_with fail
      go_ret
      exact ⟨ret_int HF.out.symm, B.out⟩
theorem find_impl (L : List Ent) (p : ByteArray) (n g cap : Nat) (w : World) (hn : n = L.length) (hm : n ≤ 4194304) (hg : g < w.heap.size) (h1 : RowE w g L) :
    Calls Tryz.prog 86 #[.slice (some ⟨g, 0, none⟩) n cap, .string p] w fun e w' => e = .returned (.int .i64 (findv L p)) ∧ Below w.heap.size w w' := by
  have b0 : Below w.heap.size w (w.alloc (.cells #[.string p] 9)) := (Below.refl _ w).alloc (Nat.le_refl _) _
  have hcon := findIndex L p n g cap w.heap.size (w.alloc (.cells #[.string p] 9)) hn hm (by simp; omega) (h1.below b0 hg) (by simp) (by simp)
  have B0 := Lib.hid b0
  clear h1 hn b0
  generalize findv L p = r at hcon
  go_enter Tryz.func86, Tryz.ntmps86
  go_wp2_with (go_at_call 98; refine hcon.mono ?_; rintro e w' ⟨rfl, hb'⟩)
  go_ret
  exact ⟨rfl, btE B0.out hb'⟩
end Go.Proofs.YtancidbbkoeokaaGreat

/- Contracts of impl.inode and impl.cardOf. -/
namespace Go.Proofs.YtancidbbkoeokaaGreat
open Go.ChangeShapes Go.WideShapes Go.ChangeAt Go.RowKit Go.Deep

theorem find_bds2 (L : List Ent) (p : ByteArray) : -1 ≤ findv L p ∧ findv L p ≤ L.length := by
  rcases find_cases L p with h | ⟨a, e, h, he, _⟩
  · omega
  · have := (List.getElem?_eq_some_iff.1 he).1
    omega
set_option maxHeartbeats 1600000 in
theorem ino_impl (L : List Ent) (i : Nat) (e : Ent) (n g cap : Nat) (w : World) (he : L[i]? = some e) (hn : n = L.length) (hm : n ≤ 4194304) (hg : g < w.heap.size) (h1 : RowE w g L) :
    Calls Tryz.prog 70 #[.slice (some ⟨g, 0, none⟩) n cap, .int .i64 i] w fun e' w' => e' = .returned (.int .i64 (inov L i e)) ∧ Below w.heap.size w w' := by
  have hlt : i < n := by rw [hn]; exact (List.getElem?_eq_some_iff.1 he).1
  have hlt2 : (i : Int) < (n : Int) := by omega
  have H1 := Lib.hid (find_impl L e.link n g cap w hn hm hg h1)
  have HB := find_bds2 L e.link
  have HI : Hid (inov L i e = if e.kind = 3 then findv L e.link + 1 else (i : Int) + 1) := Lib.hid rfl
  obtain ⟨c0, c1, c2, c3, c4, c5, c6, c7, c8, c9⟩ := h1.ten he
  generalize inov L i e = r at HI
  generalize findv L e.link = f at H1 HI HB
  clear h1 he c1 c3 c4 c5 c6 c7 c8 c9
  obtain ⟨k, p, l, m, u, g0, t, us, gr, b⟩ := e
  by_cases hk : k = 3
  · subst hk
    have HF : Hid (r = f + 1) := Lib.hid (by rw [HI.out, if_pos rfl])
    have hb0 : f ≤ 4194304 := by omega
    have hb1 : -1 ≤ f := by omega
    clear HI HB hn
    go_enter Tryz.func70, Tryz.ntmps70
    go_wp2_with fail
    refine H1.out.mono ?_
    rintro e w1 ⟨rfl, hb⟩
    have B := Lib.hid hb
    clear hb
    go_wp2_with fail
    go_ret
    exact ⟨by rw [HF.out]; go_num, B.out⟩
  · have hk2 : (k == 3) = false := by simpa using hk
    have HF : Hid (r = (i : Int) + 1) := Lib.hid (by rw [HI.out, if_neg hk])
    clear HI HB hk hn
    go_enter Tryz.func70, Tryz.ntmps70
    go_wp2_with fail
    go_ret
    exact ⟨by rw [HF.out]; go_num, Below.refl _ _⟩
set_option maxHeartbeats 3200000 in
set_option maxRecDepth 8000 in
theorem cardOf_dir (p l : ByteArray) (m u1 gi t : Int) (us gr b : ByteArray) (ino : Int) (w : World) (hp : p.size ≤ 4194304) (hm0 : 0 ≤ m) (hm1 : m ≤ 4095) :
    Calls Tryz.prog 69 #[.agg #[.int .i64 1, .string p, .string l, .int .i64 m, .int .i64 u1, .int .i64 gi, .int .i64 t, .string us, .string gr, .string b], .int .i64 ino] w fun e w' => e = .returned (.agg #[.int .i64 ino, .int .i64 (m + 16384), .int .i64 u1, .int .i64 gi, .int .i64 0, .int .i64 t, .string p, .string ⟨#[]⟩]) ∧ Below w.heap.size w w' := by
  have HC := Lib.hid (fun w => clone_any p w (by omega))
  go_enter Tryz.func69, Tryz.ntmps69
  go_upto_region 1 with fail
  generalize hw1 : World.alloc (World.alloc w _) _ = w1
  have EO : Hid (EntO w1 w.heap.size ⟨1, p, l, m, u1, gi, t, us, gr, b⟩) := Lib.hid (by rw [← hw1]; exact (EntO.new w ⟨1, p, l, m, u1, gi, t, us, gr, b⟩).below (B := w.heap.size + 1) ((Below.refl _ _).alloc (by simp) _) (by omega))
  have RO : Hid (CardO w1 (w.heap.size + 1) zeroC) := Lib.hid (by rw [← hw1]; exact CardO.newAt (w.alloc (.cells (Ent.cells ⟨1, p, l, m, u1, gi, t, us, gr, b⟩).toArray 41)) zeroC _ (by simp))
  have B0 : Hid (Below w.heap.size w w1) := Lib.hid (by rw [← hw1]; exact ((Below.refl _ _).alloc (Nat.le_refl _) _).alloc (by simp) _)
  have hs1 : w1.heap.size = w.heap.size + 2 := by rw [← hw1]; simp
  clear hw1
  have KC : Hid (∀ w', Below w1.heap.size w1 w' → w'.cell? ⟨w.heap.size, 1, none⟩ = some (.string p) ∧ w'.cell? ⟨w.heap.size, 3, none⟩ = some (.int .i64 m) ∧ w'.cell? ⟨w.heap.size, 4, none⟩ = some (.int .i64 u1) ∧ w'.cell? ⟨w.heap.size, 5, none⟩ = some (.int .i64 gi) ∧ w'.cell? ⟨w.heap.size, 6, none⟩ = some (.int .i64 t)) := Lib.hid (fun w' hb => by
    obtain ⟨d0, d1, d2, d3, d4, d5, d6, d7, d8, d9⟩ := (EO.out.below hb (by omega)).at.zero
    exact ⟨d1, d3, d4, d5, d6⟩)
  refine wp_region_cut 14 (by kernel_rfl) (fun w' => Below w1.heap.size w1 w') (fun x y => Below x.heap.size x y) (vBxG 5 44 w1.heap.size #[.int .i64 0, .int .i64 0, .int .i64 0, .int .i64 0, .int .i64 0, .int .i64 0, .string ⟨#[]⟩, .string ⟨#[]⟩] (fun d v => match d with | 6 => v = .int .i64 ino | 7 => v = .pointer (some ⟨w.heap.size, 3, none⟩) | 8 => v = .int .i64 m | 9 => v = .pointer (some ⟨w.heap.size, 4, none⟩) | 10 => v = .int .i64 u1 | 11 => v = .pointer (some ⟨w.heap.size, 5, none⟩) | 12 => v = .int .i64 gi | 13 => v = .pointer (some ⟨w.heap.size, 6, none⟩) | 14 => v = .int .i64 t | 15 => v = .pointer (some ⟨w.heap.size, 1, none⟩) | 16 => v = .string p | 17 => v = .string p | 18 => v = .agg #[.int .i64 ino, .int .i64 m, .int .i64 u1, .int .i64 gi, .int .i64 0, .int .i64 t, .string p, .string ⟨#[]⟩] | _ => True)) (by kernel_rfl) (by kernel_rfl) ((Below.refl _ _).drew) (vBxG_keep _ _ _ _ _) (by simp) ?hops ?hend
  case hops =>
    simp only [List.take_succ_cons, List.take_zero, List.forall_mem_cons]
    refine ⟨?o6, ?o7, ?o8, ?o9, ?o10, ?o11, ?o12, ?o13, ?o14, ?o15, ?o16, ?o17, ?o18, ?o5, fun _ h => by cases h⟩
    case o6 =>
      intro Q a w2 hC hV hI
      have e1 : a.eval (.tmp 1) = .int .i64 ino := (hI 1 (by simp [Op.operands]) (by kernel_rfl)).trans rfl
      have f1 : a.tmps.getD 1 undef = .int .i64 ino := e1
      have g1 : a.tmps[1]?.getD undef = .int .i64 ino := by rw [← Array.getD_eq_getD_getElem?]; exact e1
      refine op_val (.int .i64 ino) ?_ hC (Below.refl _ _) (by intro d hd; cases hd; exact rfl)
      (clear hV hI hC; go_simp <;> (first | rfl | simp | (rw [IntKind.wrap_i64]; omega)))
    case o7 =>
      intro Q a w2 hC hV hI
      have e2 : a.eval (.tmp 2) = .pointer (some ⟨w.heap.size, 0, none⟩) := (hI 2 (by simp [Op.operands]) (by kernel_rfl)).trans rfl
      have f2 : a.tmps.getD 2 undef = .pointer (some ⟨w.heap.size, 0, none⟩) := e2
      have g2 : a.tmps[2]?.getD undef = .pointer (some ⟨w.heap.size, 0, none⟩) := by rw [← Array.getD_eq_getD_getElem?]; exact e2
      refine op_val (.pointer (some ⟨w.heap.size, 3, none⟩)) ?_ hC (Below.refl _ _) (by intro d hd; cases hd; exact rfl)
      (clear hV hI hC; go_simp <;> (first | rfl | simp | (rw [IntKind.wrap_i64]; omega)))
    case o8 =>
      intro Q a w2 hC hV hI
      have e7 : a.eval (.tmp 7) = .pointer (some ⟨w.heap.size, 3, none⟩) := hV 7 (by simp [Op.operands]) (by kernel_rfl)
      have f7 : a.tmps.getD 7 undef = .pointer (some ⟨w.heap.size, 3, none⟩) := e7
      have g7 : a.tmps[7]?.getD undef = .pointer (some ⟨w.heap.size, 3, none⟩) := by rw [← Array.getD_eq_getD_getElem?]; exact e7
      have hK := KC.out w2 hC
      refine op_val (.int .i64 m) ?_ hC (Below.refl _ _) (by intro d hd; cases hd; exact rfl)
      (clear hV hI hC; go_simp <;> (first | rfl | simp | (rw [IntKind.wrap_i64]; omega)))
    case o9 =>
      intro Q a w2 hC hV hI
      have e2 : a.eval (.tmp 2) = .pointer (some ⟨w.heap.size, 0, none⟩) := (hI 2 (by simp [Op.operands]) (by kernel_rfl)).trans rfl
      have f2 : a.tmps.getD 2 undef = .pointer (some ⟨w.heap.size, 0, none⟩) := e2
      have g2 : a.tmps[2]?.getD undef = .pointer (some ⟨w.heap.size, 0, none⟩) := by rw [← Array.getD_eq_getD_getElem?]; exact e2
      refine op_val (.pointer (some ⟨w.heap.size, 4, none⟩)) ?_ hC (Below.refl _ _) (by intro d hd; cases hd; exact rfl)
      (clear hV hI hC; go_simp <;> (first | rfl | simp | (rw [IntKind.wrap_i64]; omega)))
    case o10 =>
      intro Q a w2 hC hV hI
      have e9 : a.eval (.tmp 9) = .pointer (some ⟨w.heap.size, 4, none⟩) := hV 9 (by simp [Op.operands]) (by kernel_rfl)
      have f9 : a.tmps.getD 9 undef = .pointer (some ⟨w.heap.size, 4, none⟩) := e9
      have g9 : a.tmps[9]?.getD undef = .pointer (some ⟨w.heap.size, 4, none⟩) := by rw [← Array.getD_eq_getD_getElem?]; exact e9
      have hK := KC.out w2 hC
      refine op_val (.int .i64 u1) ?_ hC (Below.refl _ _) (by intro d hd; cases hd; exact rfl)
      (clear hV hI hC; go_simp <;> (first | rfl | simp | (rw [IntKind.wrap_i64]; omega)))
    case o11 =>
      intro Q a w2 hC hV hI
      have e2 : a.eval (.tmp 2) = .pointer (some ⟨w.heap.size, 0, none⟩) := (hI 2 (by simp [Op.operands]) (by kernel_rfl)).trans rfl
      have f2 : a.tmps.getD 2 undef = .pointer (some ⟨w.heap.size, 0, none⟩) := e2
      have g2 : a.tmps[2]?.getD undef = .pointer (some ⟨w.heap.size, 0, none⟩) := by rw [← Array.getD_eq_getD_getElem?]; exact e2
      refine op_val (.pointer (some ⟨w.heap.size, 5, none⟩)) ?_ hC (Below.refl _ _) (by intro d hd; cases hd; exact rfl)
      (clear hV hI hC; go_simp <;> (first | rfl | simp | (rw [IntKind.wrap_i64]; omega)))
    case o12 =>
      intro Q a w2 hC hV hI
      have e11 : a.eval (.tmp 11) = .pointer (some ⟨w.heap.size, 5, none⟩) := hV 11 (by simp [Op.operands]) (by kernel_rfl)
      have f11 : a.tmps.getD 11 undef = .pointer (some ⟨w.heap.size, 5, none⟩) := e11
      have g11 : a.tmps[11]?.getD undef = .pointer (some ⟨w.heap.size, 5, none⟩) := by rw [← Array.getD_eq_getD_getElem?]; exact e11
      have hK := KC.out w2 hC
      refine op_val (.int .i64 gi) ?_ hC (Below.refl _ _) (by intro d hd; cases hd; exact rfl)
      (clear hV hI hC; go_simp <;> (first | rfl | simp | (rw [IntKind.wrap_i64]; omega)))
    case o13 =>
      intro Q a w2 hC hV hI
      have e2 : a.eval (.tmp 2) = .pointer (some ⟨w.heap.size, 0, none⟩) := (hI 2 (by simp [Op.operands]) (by kernel_rfl)).trans rfl
      have f2 : a.tmps.getD 2 undef = .pointer (some ⟨w.heap.size, 0, none⟩) := e2
      have g2 : a.tmps[2]?.getD undef = .pointer (some ⟨w.heap.size, 0, none⟩) := by rw [← Array.getD_eq_getD_getElem?]; exact e2
      refine op_val (.pointer (some ⟨w.heap.size, 6, none⟩)) ?_ hC (Below.refl _ _) (by intro d hd; cases hd; exact rfl)
      (clear hV hI hC; go_simp <;> (first | rfl | simp | (rw [IntKind.wrap_i64]; omega)))
    case o14 =>
      intro Q a w2 hC hV hI
      have e13 : a.eval (.tmp 13) = .pointer (some ⟨w.heap.size, 6, none⟩) := hV 13 (by simp [Op.operands]) (by kernel_rfl)
      have f13 : a.tmps.getD 13 undef = .pointer (some ⟨w.heap.size, 6, none⟩) := e13
      have g13 : a.tmps[13]?.getD undef = .pointer (some ⟨w.heap.size, 6, none⟩) := by rw [← Array.getD_eq_getD_getElem?]; exact e13
      have hK := KC.out w2 hC
      refine op_val (.int .i64 t) ?_ hC (Below.refl _ _) (by intro d hd; cases hd; exact rfl)
      (clear hV hI hC; go_simp <;> (first | rfl | simp | (rw [IntKind.wrap_i64]; omega)))
    case o15 =>
      intro Q a w2 hC hV hI
      have e2 : a.eval (.tmp 2) = .pointer (some ⟨w.heap.size, 0, none⟩) := (hI 2 (by simp [Op.operands]) (by kernel_rfl)).trans rfl
      have f2 : a.tmps.getD 2 undef = .pointer (some ⟨w.heap.size, 0, none⟩) := e2
      have g2 : a.tmps[2]?.getD undef = .pointer (some ⟨w.heap.size, 0, none⟩) := by rw [← Array.getD_eq_getD_getElem?]; exact e2
      refine op_val (.pointer (some ⟨w.heap.size, 1, none⟩)) ?_ hC (Below.refl _ _) (by intro d hd; cases hd; exact rfl)
      (clear hV hI hC; go_simp <;> (first | rfl | simp | (rw [IntKind.wrap_i64]; omega)))
    case o16 =>
      intro Q a w2 hC hV hI
      have e15 : a.eval (.tmp 15) = .pointer (some ⟨w.heap.size, 1, none⟩) := hV 15 (by simp [Op.operands]) (by kernel_rfl)
      have f15 : a.tmps.getD 15 undef = .pointer (some ⟨w.heap.size, 1, none⟩) := e15
      have g15 : a.tmps[15]?.getD undef = .pointer (some ⟨w.heap.size, 1, none⟩) := by rw [← Array.getD_eq_getD_getElem?]; exact e15
      have hK := KC.out w2 hC
      refine op_val (.string p) ?_ hC (Below.refl _ _) (by intro d hd; cases hd; exact rfl)
      (clear hV hI hC; go_simp <;> (first | rfl | simp | (rw [IntKind.wrap_i64]; omega)))
    case o17 =>
      intro Q a w2 hC hV hI
      have e16 : a.eval (.tmp 16) = .string p := hV 16 (by simp [Op.operands, Call.operands]) (by kernel_rfl)
      have f16 : a.tmps.getD 16 undef = .string p := e16
      have g16 : a.tmps[16]?.getD undef = .string p := by rw [← Array.getD_eq_getD_getElem?]; exact e16
      refine op_call (f := 67) (args := #[.string p]) (R := fun v y => v = .string p ∧ Below w2.heap.size w2 y) ?_ ((HC.out w2).mono ?_) ?_
      · (clear hV hI hC; go_simp <;> (first | rfl | simp | (rw [IntKind.wrap_i64]; omega)))
      · rintro e y ⟨rfl, hb⟩; exact ⟨_, rfl, rfl, hb⟩
      · rintro v y ⟨rfl, hb⟩; exact ⟨hC.trans (hb.mono hC.size), hb, by intro d hd; cases hd; exact rfl⟩
    case o18 =>
      intro Q a w2 hC hV hI
      have e6 : a.eval (.tmp 6) = .int .i64 ino := hV 6 (by simp [Op.operands]) (by kernel_rfl)
      have f6 : a.tmps.getD 6 undef = .int .i64 ino := e6
      have g6 : a.tmps[6]?.getD undef = .int .i64 ino := by rw [← Array.getD_eq_getD_getElem?]; exact e6
      have e8 : a.eval (.tmp 8) = .int .i64 m := hV 8 (by simp [Op.operands]) (by kernel_rfl)
      have f8 : a.tmps.getD 8 undef = .int .i64 m := e8
      have g8 : a.tmps[8]?.getD undef = .int .i64 m := by rw [← Array.getD_eq_getD_getElem?]; exact e8
      have e10 : a.eval (.tmp 10) = .int .i64 u1 := hV 10 (by simp [Op.operands]) (by kernel_rfl)
      have f10 : a.tmps.getD 10 undef = .int .i64 u1 := e10
      have g10 : a.tmps[10]?.getD undef = .int .i64 u1 := by rw [← Array.getD_eq_getD_getElem?]; exact e10
      have e12 : a.eval (.tmp 12) = .int .i64 gi := hV 12 (by simp [Op.operands]) (by kernel_rfl)
      have f12 : a.tmps.getD 12 undef = .int .i64 gi := e12
      have g12 : a.tmps[12]?.getD undef = .int .i64 gi := by rw [← Array.getD_eq_getD_getElem?]; exact e12
      have e14 : a.eval (.tmp 14) = .int .i64 t := hV 14 (by simp [Op.operands]) (by kernel_rfl)
      have f14 : a.tmps.getD 14 undef = .int .i64 t := e14
      have g14 : a.tmps[14]?.getD undef = .int .i64 t := by rw [← Array.getD_eq_getD_getElem?]; exact e14
      have e17 : a.eval (.tmp 17) = .string p := hV 17 (by simp [Op.operands]) (by kernel_rfl)
      have f17 : a.tmps.getD 17 undef = .string p := e17
      have g17 : a.tmps[17]?.getD undef = .string p := by rw [← Array.getD_eq_getD_getElem?]; exact e17
      refine op_val (.agg #[.int .i64 ino, .int .i64 m, .int .i64 u1, .int .i64 gi, .int .i64 0, .int .i64 t, .string p, .string ⟨#[]⟩]) ?_ hC (Below.refl _ _) (by intro d hd; cases hd; exact rfl)
      (clear hV hI hC; go_simp <;> (first | rfl | simp | (rw [IntKind.wrap_i64]; omega)))
    case o5 =>
      intro Q a w2 hC hV hI
      refine op_val (.pointer (some ⟨w2.heap.size, 0, none⟩)) (w' := w2.alloc (.cells #[.int .i64 0, .int .i64 0, .int .i64 0, .int .i64 0, .int .i64 0, .int .i64 0, .string ⟨#[]⟩, .string ⟨#[]⟩] 44)) ?_ (hC.alloc hC.size _) ((Below.refl _ _).alloc (Nat.le_refl _) _) ?_
      · (clear hV hI hC; go_simp <;> (first | rfl | simp | (rw [IntKind.wrap_i64]; omega)))
      · intro d hd; cases hd; exact ⟨w2.heap.size, rfl, hC.size, heap_lastG _ _⟩
  case hend =>
    intro f w2 hC hall
    simp only [List.take_succ_cons, List.take_zero, List.drop_succ_cons, List.drop_zero] at hall ⊢
    simp only [List.forall_mem_cons] at hall
    obtain ⟨h6, h7, h8, h9, h10, h11, h12, h13, h14, h15, h16, h17, h18, h5, _⟩ := hall
    replace h6 : f 6 = .int .i64 ino := h6 6 rfl
    replace h7 : f 7 = .pointer (some ⟨w.heap.size, 3, none⟩) := h7 7 rfl
    replace h8 : f 8 = .int .i64 m := h8 8 rfl
    replace h9 : f 9 = .pointer (some ⟨w.heap.size, 4, none⟩) := h9 9 rfl
    replace h10 : f 10 = .int .i64 u1 := h10 10 rfl
    replace h11 : f 11 = .pointer (some ⟨w.heap.size, 5, none⟩) := h11 11 rfl
    replace h12 : f 12 = .int .i64 gi := h12 12 rfl
    replace h13 : f 13 = .pointer (some ⟨w.heap.size, 6, none⟩) := h13 13 rfl
    replace h14 : f 14 = .int .i64 t := h14 14 rfl
    replace h15 : f 15 = .pointer (some ⟨w.heap.size, 1, none⟩) := h15 15 rfl
    replace h16 : f 16 = .string p := h16 16 rfl
    replace h17 : f 17 = .string p := h17 17 rfl
    replace h18 : f 18 = .agg #[.int .i64 ino, .int .i64 m, .int .i64 u1, .int .i64 gi, .int .i64 0, .int .i64 t, .string p, .string ⟨#[]⟩] := h18 18 rfl
    obtain ⟨G5, hG5, hGB5, hGO5⟩ : ∃ G, f 5 = .pointer (some ⟨G, 0, none⟩) ∧ w1.heap.size ≤ G ∧ w2.heap[G]? = some (.cells #[.int .i64 0, .int .i64 0, .int .i64 0, .int .i64 0, .int .i64 0, .int .i64 0, .string ⟨#[]⟩, .string ⟨#[]⟩] 44 (0, 0)) := h5 5 rfl
    simp only [putAll, Act.put, List.setIfInBounds_toArray, List.set_cons_succ, List.set_cons_zero, h6, h7, h8, h9, h10, h11, h12, h13, h14, h15, h16, h17, h18, hG5]
    clear h6 h7 h8 h9 h10 h11 h12 h13 h14 h15 h16 h17 h18 hG5 h5
    clear KC
    replace EO := Lib.hid (EO.out.below hC (by omega))
    replace RO := Lib.hid (RO.out.below hC (by omega))
    have hB2 := btE B0.out (hC.mono (Nat.le_refl _))
    have XO : CardO w2 G5 zeroC := hGO5
    have hne0 : ¬ w.heap.size = G5 := by omega
    have hne1 : ¬ w.heap.size + 1 = G5 := by omega
    have hlt5 : w.heap.size ≤ G5 := by omega
    obtain ⟨d0, d1, d2, d3, d4, d5, d6, d7⟩ := XO.at.zero
    have f0 := XO.fz 0
    have f1 := XO.fz 1
    have f2 := XO.fz 2
    have f3 := XO.fz 3
    have f4 := XO.fz 4
    have f5 := XO.fz 5
    have f6 := XO.fz 6
    have f7 := XO.fz 7
    have XP := XO.put ⟨ino, m, u1, gi, 0, t, p, ⟨#[]⟩⟩
    have EP : EntO (putOC w2 G5 ⟨ino, m, u1, gi, 0, t, p, ⟨#[]⟩⟩) w.heap.size ⟨1, p, l, m, u1, gi, t, us, gr, b⟩ := (putOC_other hne0).trans EO.out
    have RP : CardO (putOC w2 G5 ⟨ino, m, u1, gi, 0, t, p, ⟨#[]⟩⟩) (w.heap.size + 1) zeroC := (putOC_other hne1).trans RO.out
    have BP := below_putOC (g := G5) hB2 hlt5 ⟨ino, m, u1, gi, 0, t, p, ⟨#[]⟩⟩
    simp only [putOC] at XP EP RP BP
    go_upto_region 2 with fail
    obtain ⟨w3, hw3⟩ : ∃ x, x = ((((((((w2.setCell ⟨G5, 0, none⟩ (.int .i64 ino)).setCell ⟨G5, 1, none⟩ (.int .i64 m)).setCell ⟨G5, 2, none⟩ (.int .i64 u1)).setCell ⟨G5, 3, none⟩ (.int .i64 gi)).setCell ⟨G5, 4, none⟩ (.int .i64 0)).setCell ⟨G5, 5, none⟩ (.int .i64 t)).setCell ⟨G5, 6, none⟩ (.string p)).setCell ⟨G5, 7, none⟩ (.string ⟨#[]⟩)) := ⟨_, rfl⟩
    rw [← hw3] at XP EP RP BP ⊢
    have X := Lib.hid XP
    have R := Lib.hid RP
    have Bw := Lib.hid BP
    obtain ⟨e0, e1, e2, e3, e4, e5, e6, e7, e8, e9⟩ := EP.at.zero
    clear XP RP BP hw3 d0 d1 d2 d3 d4 d5 d6 d7 f0 f1 f2 f3 f4 f5 f6 f7 XO hGO5 hB2 EO RO
    obtain ⟨d0, d1, d2, d3, d4, d5, d6, d7⟩ := X.out.at.zero
    have f1 := X.out.fz 1
    have XP := X.out.set (e' := ⟨ino, m + 16384, u1, gi, 0, t, p, ⟨#[]⟩⟩) 1 (.int .i64 (m + 16384)) rfl
    have RP : CardO (w3.setCell ⟨G5, 1, none⟩ (.int .i64 (m + 16384))) (w.heap.size + 1) zeroC := R.out.other hne1
    have EP2 : EntO (w3.setCell ⟨G5, 1, none⟩ (.int .i64 (m + 16384))) w.heap.size ⟨1, p, l, m, u1, gi, t, us, gr, b⟩ := EP.other hne0
    have BP := Bw.out.setCell (p := ⟨G5, 1, none⟩) hlt5 (.int .i64 (m + 16384))
    go_upto_region 10 with fail
    obtain ⟨w6, hw6⟩ : ∃ x, x = w3.setCell ⟨G5, 1, none⟩ (.int .i64 (m + 16384)) := ⟨_, rfl⟩
    rw [← hw6] at XP RP BP EP2 ⊢
    clear hw6 EP2 e0 e1 e2 e3 e4 e5 e6 e7 e8 e9 d0 d1 d2 d3 d4 d5 d6 d7 f1 EP X R Bw
    obtain ⟨x0, x1, x2, x3, x4, x5, x6, x7⟩ := XP.at.zero
    obtain ⟨d0, d1, d2, d3, d4, d5, d6, d7⟩ := RP.at.zero
    have f0 := RP.fz 0
    have f1 := RP.fz 1
    have f2 := RP.fz 2
    have f3 := RP.fz 3
    have f4 := RP.fz 4
    have f5 := RP.fz 5
    have f6 := RP.fz 6
    have f7 := RP.fz 7
    have R9 := RP.put ⟨ino, m + 16384, u1, gi, 0, t, p, ⟨#[]⟩⟩
    have B9 := below_putOC (g := w.heap.size + 1) BP (by omega) ⟨ino, m + 16384, u1, gi, 0, t, p, ⟨#[]⟩⟩
    simp only [putOC] at R9 B9
    go_wp2_with fail
    refine bodyPost_ret (res_OC1 rfl _ rfl R9) rfl ?_
    exact ⟨rfl, B9⟩
set_option maxHeartbeats 3200000 in
set_option maxRecDepth 8000 in
theorem cardOf_sym (p l : ByteArray) (m u1 gi t : Int) (us gr b : ByteArray) (ino : Int) (w : World) (hp : p.size ≤ 4194304) (hl : l.size ≤ 4194304) (hm0 : 0 ≤ m) (hm1 : m ≤ 4095) :
    Calls Tryz.prog 69 #[.agg #[.int .i64 2, .string p, .string l, .int .i64 m, .int .i64 u1, .int .i64 gi, .int .i64 t, .string us, .string gr, .string b], .int .i64 ino] w fun e w' => e = .returned (.agg #[.int .i64 ino, .int .i64 (m + 40960), .int .i64 u1, .int .i64 gi, .int .i64 0, .int .i64 t, .string p, .string l]) ∧ Below w.heap.size w w' := by
  have HC := Lib.hid (fun w => clone_any p w (by omega))
  have HD := Lib.hid (fun w => clone_any l w (by omega))
  go_enter Tryz.func69, Tryz.ntmps69
  go_upto_region 1 with fail
  generalize hw1 : World.alloc (World.alloc w _) _ = w1
  have EO : Hid (EntO w1 w.heap.size ⟨2, p, l, m, u1, gi, t, us, gr, b⟩) := Lib.hid (by rw [← hw1]; exact (EntO.new w ⟨2, p, l, m, u1, gi, t, us, gr, b⟩).below (B := w.heap.size + 1) ((Below.refl _ _).alloc (by simp) _) (by omega))
  have RO : Hid (CardO w1 (w.heap.size + 1) zeroC) := Lib.hid (by rw [← hw1]; exact CardO.newAt (w.alloc (.cells (Ent.cells ⟨2, p, l, m, u1, gi, t, us, gr, b⟩).toArray 41)) zeroC _ (by simp))
  have B0 : Hid (Below w.heap.size w w1) := Lib.hid (by rw [← hw1]; exact ((Below.refl _ _).alloc (Nat.le_refl _) _).alloc (by simp) _)
  have hs1 : w1.heap.size = w.heap.size + 2 := by rw [← hw1]; simp
  clear hw1
  have KC : Hid (∀ w', Below w1.heap.size w1 w' → w'.cell? ⟨w.heap.size, 1, none⟩ = some (.string p) ∧ w'.cell? ⟨w.heap.size, 3, none⟩ = some (.int .i64 m) ∧ w'.cell? ⟨w.heap.size, 4, none⟩ = some (.int .i64 u1) ∧ w'.cell? ⟨w.heap.size, 5, none⟩ = some (.int .i64 gi) ∧ w'.cell? ⟨w.heap.size, 6, none⟩ = some (.int .i64 t)) := Lib.hid (fun w' hb => by
    obtain ⟨d0, d1, d2, d3, d4, d5, d6, d7, d8, d9⟩ := (EO.out.below hb (by omega)).at.zero
    exact ⟨d1, d3, d4, d5, d6⟩)
  refine wp_region_cut 14 (by kernel_rfl) (fun w' => Below w1.heap.size w1 w') (fun x y => Below x.heap.size x y) (vBxG 5 44 w1.heap.size #[.int .i64 0, .int .i64 0, .int .i64 0, .int .i64 0, .int .i64 0, .int .i64 0, .string ⟨#[]⟩, .string ⟨#[]⟩] (fun d v => match d with | 6 => v = .int .i64 ino | 7 => v = .pointer (some ⟨w.heap.size, 3, none⟩) | 8 => v = .int .i64 m | 9 => v = .pointer (some ⟨w.heap.size, 4, none⟩) | 10 => v = .int .i64 u1 | 11 => v = .pointer (some ⟨w.heap.size, 5, none⟩) | 12 => v = .int .i64 gi | 13 => v = .pointer (some ⟨w.heap.size, 6, none⟩) | 14 => v = .int .i64 t | 15 => v = .pointer (some ⟨w.heap.size, 1, none⟩) | 16 => v = .string p | 17 => v = .string p | 18 => v = .agg #[.int .i64 ino, .int .i64 m, .int .i64 u1, .int .i64 gi, .int .i64 0, .int .i64 t, .string p, .string ⟨#[]⟩] | _ => True)) (by kernel_rfl) (by kernel_rfl) ((Below.refl _ _).drew) (vBxG_keep _ _ _ _ _) (by simp) ?hops ?hend
  case hops =>
    simp only [List.take_succ_cons, List.take_zero, List.forall_mem_cons]
    refine ⟨?o6, ?o7, ?o8, ?o9, ?o10, ?o11, ?o12, ?o13, ?o14, ?o15, ?o16, ?o17, ?o18, ?o5, fun _ h => by cases h⟩
    case o6 =>
      intro Q a w2 hC hV hI
      have e1 : a.eval (.tmp 1) = .int .i64 ino := (hI 1 (by simp [Op.operands]) (by kernel_rfl)).trans rfl
      have f1 : a.tmps.getD 1 undef = .int .i64 ino := e1
      have g1 : a.tmps[1]?.getD undef = .int .i64 ino := by rw [← Array.getD_eq_getD_getElem?]; exact e1
      refine op_val (.int .i64 ino) ?_ hC (Below.refl _ _) (by intro d hd; cases hd; exact rfl)
      (clear hV hI hC; go_simp <;> (first | rfl | simp | (rw [IntKind.wrap_i64]; omega)))
    case o7 =>
      intro Q a w2 hC hV hI
      have e2 : a.eval (.tmp 2) = .pointer (some ⟨w.heap.size, 0, none⟩) := (hI 2 (by simp [Op.operands]) (by kernel_rfl)).trans rfl
      have f2 : a.tmps.getD 2 undef = .pointer (some ⟨w.heap.size, 0, none⟩) := e2
      have g2 : a.tmps[2]?.getD undef = .pointer (some ⟨w.heap.size, 0, none⟩) := by rw [← Array.getD_eq_getD_getElem?]; exact e2
      refine op_val (.pointer (some ⟨w.heap.size, 3, none⟩)) ?_ hC (Below.refl _ _) (by intro d hd; cases hd; exact rfl)
      (clear hV hI hC; go_simp <;> (first | rfl | simp | (rw [IntKind.wrap_i64]; omega)))
    case o8 =>
      intro Q a w2 hC hV hI
      have e7 : a.eval (.tmp 7) = .pointer (some ⟨w.heap.size, 3, none⟩) := hV 7 (by simp [Op.operands]) (by kernel_rfl)
      have f7 : a.tmps.getD 7 undef = .pointer (some ⟨w.heap.size, 3, none⟩) := e7
      have g7 : a.tmps[7]?.getD undef = .pointer (some ⟨w.heap.size, 3, none⟩) := by rw [← Array.getD_eq_getD_getElem?]; exact e7
      have hK := KC.out w2 hC
      refine op_val (.int .i64 m) ?_ hC (Below.refl _ _) (by intro d hd; cases hd; exact rfl)
      (clear hV hI hC; go_simp <;> (first | rfl | simp | (rw [IntKind.wrap_i64]; omega)))
    case o9 =>
      intro Q a w2 hC hV hI
      have e2 : a.eval (.tmp 2) = .pointer (some ⟨w.heap.size, 0, none⟩) := (hI 2 (by simp [Op.operands]) (by kernel_rfl)).trans rfl
      have f2 : a.tmps.getD 2 undef = .pointer (some ⟨w.heap.size, 0, none⟩) := e2
      have g2 : a.tmps[2]?.getD undef = .pointer (some ⟨w.heap.size, 0, none⟩) := by rw [← Array.getD_eq_getD_getElem?]; exact e2
      refine op_val (.pointer (some ⟨w.heap.size, 4, none⟩)) ?_ hC (Below.refl _ _) (by intro d hd; cases hd; exact rfl)
      (clear hV hI hC; go_simp <;> (first | rfl | simp | (rw [IntKind.wrap_i64]; omega)))
    case o10 =>
      intro Q a w2 hC hV hI
      have e9 : a.eval (.tmp 9) = .pointer (some ⟨w.heap.size, 4, none⟩) := hV 9 (by simp [Op.operands]) (by kernel_rfl)
      have f9 : a.tmps.getD 9 undef = .pointer (some ⟨w.heap.size, 4, none⟩) := e9
      have g9 : a.tmps[9]?.getD undef = .pointer (some ⟨w.heap.size, 4, none⟩) := by rw [← Array.getD_eq_getD_getElem?]; exact e9
      have hK := KC.out w2 hC
      refine op_val (.int .i64 u1) ?_ hC (Below.refl _ _) (by intro d hd; cases hd; exact rfl)
      (clear hV hI hC; go_simp <;> (first | rfl | simp | (rw [IntKind.wrap_i64]; omega)))
    case o11 =>
      intro Q a w2 hC hV hI
      have e2 : a.eval (.tmp 2) = .pointer (some ⟨w.heap.size, 0, none⟩) := (hI 2 (by simp [Op.operands]) (by kernel_rfl)).trans rfl
      have f2 : a.tmps.getD 2 undef = .pointer (some ⟨w.heap.size, 0, none⟩) := e2
      have g2 : a.tmps[2]?.getD undef = .pointer (some ⟨w.heap.size, 0, none⟩) := by rw [← Array.getD_eq_getD_getElem?]; exact e2
      refine op_val (.pointer (some ⟨w.heap.size, 5, none⟩)) ?_ hC (Below.refl _ _) (by intro d hd; cases hd; exact rfl)
      (clear hV hI hC; go_simp <;> (first | rfl | simp | (rw [IntKind.wrap_i64]; omega)))
    case o12 =>
      intro Q a w2 hC hV hI
      have e11 : a.eval (.tmp 11) = .pointer (some ⟨w.heap.size, 5, none⟩) := hV 11 (by simp [Op.operands]) (by kernel_rfl)
      have f11 : a.tmps.getD 11 undef = .pointer (some ⟨w.heap.size, 5, none⟩) := e11
      have g11 : a.tmps[11]?.getD undef = .pointer (some ⟨w.heap.size, 5, none⟩) := by rw [← Array.getD_eq_getD_getElem?]; exact e11
      have hK := KC.out w2 hC
      refine op_val (.int .i64 gi) ?_ hC (Below.refl _ _) (by intro d hd; cases hd; exact rfl)
      (clear hV hI hC; go_simp <;> (first | rfl | simp | (rw [IntKind.wrap_i64]; omega)))
    case o13 =>
      intro Q a w2 hC hV hI
      have e2 : a.eval (.tmp 2) = .pointer (some ⟨w.heap.size, 0, none⟩) := (hI 2 (by simp [Op.operands]) (by kernel_rfl)).trans rfl
      have f2 : a.tmps.getD 2 undef = .pointer (some ⟨w.heap.size, 0, none⟩) := e2
      have g2 : a.tmps[2]?.getD undef = .pointer (some ⟨w.heap.size, 0, none⟩) := by rw [← Array.getD_eq_getD_getElem?]; exact e2
      refine op_val (.pointer (some ⟨w.heap.size, 6, none⟩)) ?_ hC (Below.refl _ _) (by intro d hd; cases hd; exact rfl)
      (clear hV hI hC; go_simp <;> (first | rfl | simp | (rw [IntKind.wrap_i64]; omega)))
    case o14 =>
      intro Q a w2 hC hV hI
      have e13 : a.eval (.tmp 13) = .pointer (some ⟨w.heap.size, 6, none⟩) := hV 13 (by simp [Op.operands]) (by kernel_rfl)
      have f13 : a.tmps.getD 13 undef = .pointer (some ⟨w.heap.size, 6, none⟩) := e13
      have g13 : a.tmps[13]?.getD undef = .pointer (some ⟨w.heap.size, 6, none⟩) := by rw [← Array.getD_eq_getD_getElem?]; exact e13
      have hK := KC.out w2 hC
      refine op_val (.int .i64 t) ?_ hC (Below.refl _ _) (by intro d hd; cases hd; exact rfl)
      (clear hV hI hC; go_simp <;> (first | rfl | simp | (rw [IntKind.wrap_i64]; omega)))
    case o15 =>
      intro Q a w2 hC hV hI
      have e2 : a.eval (.tmp 2) = .pointer (some ⟨w.heap.size, 0, none⟩) := (hI 2 (by simp [Op.operands]) (by kernel_rfl)).trans rfl
      have f2 : a.tmps.getD 2 undef = .pointer (some ⟨w.heap.size, 0, none⟩) := e2
      have g2 : a.tmps[2]?.getD undef = .pointer (some ⟨w.heap.size, 0, none⟩) := by rw [← Array.getD_eq_getD_getElem?]; exact e2
      refine op_val (.pointer (some ⟨w.heap.size, 1, none⟩)) ?_ hC (Below.refl _ _) (by intro d hd; cases hd; exact rfl)
      (clear hV hI hC; go_simp <;> (first | rfl | simp | (rw [IntKind.wrap_i64]; omega)))
    case o16 =>
      intro Q a w2 hC hV hI
      have e15 : a.eval (.tmp 15) = .pointer (some ⟨w.heap.size, 1, none⟩) := hV 15 (by simp [Op.operands]) (by kernel_rfl)
      have f15 : a.tmps.getD 15 undef = .pointer (some ⟨w.heap.size, 1, none⟩) := e15
      have g15 : a.tmps[15]?.getD undef = .pointer (some ⟨w.heap.size, 1, none⟩) := by rw [← Array.getD_eq_getD_getElem?]; exact e15
      have hK := KC.out w2 hC
      refine op_val (.string p) ?_ hC (Below.refl _ _) (by intro d hd; cases hd; exact rfl)
      (clear hV hI hC; go_simp <;> (first | rfl | simp | (rw [IntKind.wrap_i64]; omega)))
    case o17 =>
      intro Q a w2 hC hV hI
      have e16 : a.eval (.tmp 16) = .string p := hV 16 (by simp [Op.operands, Call.operands]) (by kernel_rfl)
      have f16 : a.tmps.getD 16 undef = .string p := e16
      have g16 : a.tmps[16]?.getD undef = .string p := by rw [← Array.getD_eq_getD_getElem?]; exact e16
      refine op_call (f := 67) (args := #[.string p]) (R := fun v y => v = .string p ∧ Below w2.heap.size w2 y) ?_ ((HC.out w2).mono ?_) ?_
      · (clear hV hI hC; go_simp <;> (first | rfl | simp | (rw [IntKind.wrap_i64]; omega)))
      · rintro e y ⟨rfl, hb⟩; exact ⟨_, rfl, rfl, hb⟩
      · rintro v y ⟨rfl, hb⟩; exact ⟨hC.trans (hb.mono hC.size), hb, by intro d hd; cases hd; exact rfl⟩
    case o18 =>
      intro Q a w2 hC hV hI
      have e6 : a.eval (.tmp 6) = .int .i64 ino := hV 6 (by simp [Op.operands]) (by kernel_rfl)
      have f6 : a.tmps.getD 6 undef = .int .i64 ino := e6
      have g6 : a.tmps[6]?.getD undef = .int .i64 ino := by rw [← Array.getD_eq_getD_getElem?]; exact e6
      have e8 : a.eval (.tmp 8) = .int .i64 m := hV 8 (by simp [Op.operands]) (by kernel_rfl)
      have f8 : a.tmps.getD 8 undef = .int .i64 m := e8
      have g8 : a.tmps[8]?.getD undef = .int .i64 m := by rw [← Array.getD_eq_getD_getElem?]; exact e8
      have e10 : a.eval (.tmp 10) = .int .i64 u1 := hV 10 (by simp [Op.operands]) (by kernel_rfl)
      have f10 : a.tmps.getD 10 undef = .int .i64 u1 := e10
      have g10 : a.tmps[10]?.getD undef = .int .i64 u1 := by rw [← Array.getD_eq_getD_getElem?]; exact e10
      have e12 : a.eval (.tmp 12) = .int .i64 gi := hV 12 (by simp [Op.operands]) (by kernel_rfl)
      have f12 : a.tmps.getD 12 undef = .int .i64 gi := e12
      have g12 : a.tmps[12]?.getD undef = .int .i64 gi := by rw [← Array.getD_eq_getD_getElem?]; exact e12
      have e14 : a.eval (.tmp 14) = .int .i64 t := hV 14 (by simp [Op.operands]) (by kernel_rfl)
      have f14 : a.tmps.getD 14 undef = .int .i64 t := e14
      have g14 : a.tmps[14]?.getD undef = .int .i64 t := by rw [← Array.getD_eq_getD_getElem?]; exact e14
      have e17 : a.eval (.tmp 17) = .string p := hV 17 (by simp [Op.operands]) (by kernel_rfl)
      have f17 : a.tmps.getD 17 undef = .string p := e17
      have g17 : a.tmps[17]?.getD undef = .string p := by rw [← Array.getD_eq_getD_getElem?]; exact e17
      refine op_val (.agg #[.int .i64 ino, .int .i64 m, .int .i64 u1, .int .i64 gi, .int .i64 0, .int .i64 t, .string p, .string ⟨#[]⟩]) ?_ hC (Below.refl _ _) (by intro d hd; cases hd; exact rfl)
      (clear hV hI hC; go_simp <;> (first | rfl | simp | (rw [IntKind.wrap_i64]; omega)))
    case o5 =>
      intro Q a w2 hC hV hI
      refine op_val (.pointer (some ⟨w2.heap.size, 0, none⟩)) (w' := w2.alloc (.cells #[.int .i64 0, .int .i64 0, .int .i64 0, .int .i64 0, .int .i64 0, .int .i64 0, .string ⟨#[]⟩, .string ⟨#[]⟩] 44)) ?_ (hC.alloc hC.size _) ((Below.refl _ _).alloc (Nat.le_refl _) _) ?_
      · (clear hV hI hC; go_simp <;> (first | rfl | simp | (rw [IntKind.wrap_i64]; omega)))
      · intro d hd; cases hd; exact ⟨w2.heap.size, rfl, hC.size, heap_lastG _ _⟩
  case hend =>
    intro f w2 hC hall
    simp only [List.take_succ_cons, List.take_zero, List.drop_succ_cons, List.drop_zero] at hall ⊢
    simp only [List.forall_mem_cons] at hall
    obtain ⟨h6, h7, h8, h9, h10, h11, h12, h13, h14, h15, h16, h17, h18, h5, _⟩ := hall
    replace h6 : f 6 = .int .i64 ino := h6 6 rfl
    replace h7 : f 7 = .pointer (some ⟨w.heap.size, 3, none⟩) := h7 7 rfl
    replace h8 : f 8 = .int .i64 m := h8 8 rfl
    replace h9 : f 9 = .pointer (some ⟨w.heap.size, 4, none⟩) := h9 9 rfl
    replace h10 : f 10 = .int .i64 u1 := h10 10 rfl
    replace h11 : f 11 = .pointer (some ⟨w.heap.size, 5, none⟩) := h11 11 rfl
    replace h12 : f 12 = .int .i64 gi := h12 12 rfl
    replace h13 : f 13 = .pointer (some ⟨w.heap.size, 6, none⟩) := h13 13 rfl
    replace h14 : f 14 = .int .i64 t := h14 14 rfl
    replace h15 : f 15 = .pointer (some ⟨w.heap.size, 1, none⟩) := h15 15 rfl
    replace h16 : f 16 = .string p := h16 16 rfl
    replace h17 : f 17 = .string p := h17 17 rfl
    replace h18 : f 18 = .agg #[.int .i64 ino, .int .i64 m, .int .i64 u1, .int .i64 gi, .int .i64 0, .int .i64 t, .string p, .string ⟨#[]⟩] := h18 18 rfl
    obtain ⟨G5, hG5, hGB5, hGO5⟩ : ∃ G, f 5 = .pointer (some ⟨G, 0, none⟩) ∧ w1.heap.size ≤ G ∧ w2.heap[G]? = some (.cells #[.int .i64 0, .int .i64 0, .int .i64 0, .int .i64 0, .int .i64 0, .int .i64 0, .string ⟨#[]⟩, .string ⟨#[]⟩] 44 (0, 0)) := h5 5 rfl
    simp only [putAll, Act.put, List.setIfInBounds_toArray, List.set_cons_succ, List.set_cons_zero, h6, h7, h8, h9, h10, h11, h12, h13, h14, h15, h16, h17, h18, hG5]
    clear h6 h7 h8 h9 h10 h11 h12 h13 h14 h15 h16 h17 h18 hG5 h5
    clear KC
    replace EO := Lib.hid (EO.out.below hC (by omega))
    replace RO := Lib.hid (RO.out.below hC (by omega))
    have hB2 := btE B0.out (hC.mono (Nat.le_refl _))
    have XO : CardO w2 G5 zeroC := hGO5
    have hne0 : ¬ w.heap.size = G5 := by omega
    have hne1 : ¬ w.heap.size + 1 = G5 := by omega
    have hlt5 : w.heap.size ≤ G5 := by omega
    obtain ⟨d0, d1, d2, d3, d4, d5, d6, d7⟩ := XO.at.zero
    have f0 := XO.fz 0
    have f1 := XO.fz 1
    have f2 := XO.fz 2
    have f3 := XO.fz 3
    have f4 := XO.fz 4
    have f5 := XO.fz 5
    have f6 := XO.fz 6
    have f7 := XO.fz 7
    have XP := XO.put ⟨ino, m, u1, gi, 0, t, p, ⟨#[]⟩⟩
    have EP : EntO (putOC w2 G5 ⟨ino, m, u1, gi, 0, t, p, ⟨#[]⟩⟩) w.heap.size ⟨2, p, l, m, u1, gi, t, us, gr, b⟩ := (putOC_other hne0).trans EO.out
    have RP : CardO (putOC w2 G5 ⟨ino, m, u1, gi, 0, t, p, ⟨#[]⟩⟩) (w.heap.size + 1) zeroC := (putOC_other hne1).trans RO.out
    have BP := below_putOC (g := G5) hB2 hlt5 ⟨ino, m, u1, gi, 0, t, p, ⟨#[]⟩⟩
    simp only [putOC] at XP EP RP BP
    go_upto_region 2 with fail
    obtain ⟨w3, hw3⟩ : ∃ x, x = ((((((((w2.setCell ⟨G5, 0, none⟩ (.int .i64 ino)).setCell ⟨G5, 1, none⟩ (.int .i64 m)).setCell ⟨G5, 2, none⟩ (.int .i64 u1)).setCell ⟨G5, 3, none⟩ (.int .i64 gi)).setCell ⟨G5, 4, none⟩ (.int .i64 0)).setCell ⟨G5, 5, none⟩ (.int .i64 t)).setCell ⟨G5, 6, none⟩ (.string p)).setCell ⟨G5, 7, none⟩ (.string ⟨#[]⟩)) := ⟨_, rfl⟩
    rw [← hw3] at XP EP RP BP ⊢
    have X := Lib.hid XP
    have R := Lib.hid RP
    have Bw := Lib.hid BP
    obtain ⟨e0, e1, e2, e3, e4, e5, e6, e7, e8, e9⟩ := EP.at.zero
    clear XP RP BP hw3 d0 d1 d2 d3 d4 d5 d6 d7 f0 f1 f2 f3 f4 f5 f6 f7 XO hGO5 hB2 EO RO
    obtain ⟨d0, d1, d2, d3, d4, d5, d6, d7⟩ := X.out.at.zero
    have f1 := X.out.fz 1
    have XP := X.out.set (e' := ⟨ino, m + 40960, u1, gi, 0, t, p, ⟨#[]⟩⟩) 1 (.int .i64 (m + 40960)) rfl
    have RP : CardO (w3.setCell ⟨G5, 1, none⟩ (.int .i64 (m + 40960))) (w.heap.size + 1) zeroC := R.out.other hne1
    have EP2 : EntO (w3.setCell ⟨G5, 1, none⟩ (.int .i64 (m + 40960))) w.heap.size ⟨2, p, l, m, u1, gi, t, us, gr, b⟩ := EP.other hne0
    have BP := Bw.out.setCell (p := ⟨G5, 1, none⟩) hlt5 (.int .i64 (m + 40960))
    go_wp2_with fail
    obtain ⟨w4, hw4⟩ : ∃ x, x = w3.setCell ⟨G5, 1, none⟩ (.int .i64 (m + 40960)) := ⟨_, rfl⟩
    rw [← hw4] at XP RP BP EP2 ⊢
    clear hw4 EP2 e0 e1 e2 e3 e4 e5 e6 e7 e8 e9 d0 d1 d2 d3 d4 d5 d6 d7 f1 EP X R Bw
    refine (HD.out _).mono ?_
    rintro e w5 ⟨rfl, hb⟩
    have X := Lib.hid (XP.below hb XP.lt)
    have R := Lib.hid (RP.below hb RP.lt)
    have Bw := Lib.hid (btE BP hb)
    clear hb XP RP BP
    obtain ⟨d0, d1, d2, d3, d4, d5, d6, d7⟩ := X.out.at.zero
    have f7 := X.out.fz 7
    have XP := X.out.set (e' := ⟨ino, m + 40960, u1, gi, 0, t, p, l⟩) 7 (.string l) rfl
    have RP : CardO (w5.setCell ⟨G5, 7, none⟩ (.string l)) (w.heap.size + 1) zeroC := R.out.other hne1
    have BP := Bw.out.setCell (p := ⟨G5, 7, none⟩) hlt5 (.string l)
    go_upto_region 10 with fail
    obtain ⟨w6, hw6⟩ : ∃ x, x = w5.setCell ⟨G5, 7, none⟩ (.string l) := ⟨_, rfl⟩
    rw [← hw6] at XP RP BP ⊢
    clear hw6 d0 d1 d2 d3 d4 d5 d6 d7 f7 X R Bw
    obtain ⟨x0, x1, x2, x3, x4, x5, x6, x7⟩ := XP.at.zero
    obtain ⟨d0, d1, d2, d3, d4, d5, d6, d7⟩ := RP.at.zero
    have f0 := RP.fz 0
    have f1 := RP.fz 1
    have f2 := RP.fz 2
    have f3 := RP.fz 3
    have f4 := RP.fz 4
    have f5 := RP.fz 5
    have f6 := RP.fz 6
    have f7 := RP.fz 7
    have R9 := RP.put ⟨ino, m + 40960, u1, gi, 0, t, p, l⟩
    have B9 := below_putOC (g := w.heap.size + 1) BP (by omega) ⟨ino, m + 40960, u1, gi, 0, t, p, l⟩
    simp only [putOC] at R9 B9
    go_wp2_with fail
    refine bodyPost_ret (res_OC1 rfl _ rfl R9) rfl ?_
    exact ⟨rfl, B9⟩
set_option maxHeartbeats 3200000 in
set_option maxRecDepth 8000 in
theorem cardOf_fil (k : Int) (p l : ByteArray) (m u1 gi t : Int) (us gr b : ByteArray) (ino : Int) (w : World) (hk1 : ¬ k = 1) (hk2 : ¬ k = 2) (hp : p.size ≤ 4194304) (hb : b.size ≤ 4194304) (hm0 : 0 ≤ m) (hm1 : m ≤ 4095) :
    Calls Tryz.prog 69 #[.agg #[.int .i64 k, .string p, .string l, .int .i64 m, .int .i64 u1, .int .i64 gi, .int .i64 t, .string us, .string gr, .string b], .int .i64 ino] w fun e w' => e = .returned (.agg #[.int .i64 ino, .int .i64 (m + 32768), .int .i64 u1, .int .i64 gi, .int .i64 0, .int .i64 t, .string p, .string b]) ∧ Below w.heap.size w w' := by
  have q1 : (k == 1) = false := by simpa using hk1
  have q2 : (k == 2) = false := by simpa using hk2
  have HC := Lib.hid (fun w => clone_any p w (by omega))
  have HD := Lib.hid (fun w => clone_any b w (by omega))
  go_enter Tryz.func69, Tryz.ntmps69
  go_upto_region 1 with fail
  generalize hw1 : World.alloc (World.alloc w _) _ = w1
  have EO : Hid (EntO w1 w.heap.size ⟨k, p, l, m, u1, gi, t, us, gr, b⟩) := Lib.hid (by rw [← hw1]; exact (EntO.new w ⟨k, p, l, m, u1, gi, t, us, gr, b⟩).below (B := w.heap.size + 1) ((Below.refl _ _).alloc (by simp) _) (by omega))
  have RO : Hid (CardO w1 (w.heap.size + 1) zeroC) := Lib.hid (by rw [← hw1]; exact CardO.newAt (w.alloc (.cells (Ent.cells ⟨k, p, l, m, u1, gi, t, us, gr, b⟩).toArray 41)) zeroC _ (by simp))
  have B0 : Hid (Below w.heap.size w w1) := Lib.hid (by rw [← hw1]; exact ((Below.refl _ _).alloc (Nat.le_refl _) _).alloc (by simp) _)
  have hs1 : w1.heap.size = w.heap.size + 2 := by rw [← hw1]; simp
  clear hw1
  have KC : Hid (∀ w', Below w1.heap.size w1 w' → w'.cell? ⟨w.heap.size, 1, none⟩ = some (.string p) ∧ w'.cell? ⟨w.heap.size, 3, none⟩ = some (.int .i64 m) ∧ w'.cell? ⟨w.heap.size, 4, none⟩ = some (.int .i64 u1) ∧ w'.cell? ⟨w.heap.size, 5, none⟩ = some (.int .i64 gi) ∧ w'.cell? ⟨w.heap.size, 6, none⟩ = some (.int .i64 t)) := Lib.hid (fun w' hb => by
    obtain ⟨d0, d1, d2, d3, d4, d5, d6, d7, d8, d9⟩ := (EO.out.below hb (by omega)).at.zero
    exact ⟨d1, d3, d4, d5, d6⟩)
  refine wp_region_cut 14 (by kernel_rfl) (fun w' => Below w1.heap.size w1 w') (fun x y => Below x.heap.size x y) (vBxG 5 44 w1.heap.size #[.int .i64 0, .int .i64 0, .int .i64 0, .int .i64 0, .int .i64 0, .int .i64 0, .string ⟨#[]⟩, .string ⟨#[]⟩] (fun d v => match d with | 6 => v = .int .i64 ino | 7 => v = .pointer (some ⟨w.heap.size, 3, none⟩) | 8 => v = .int .i64 m | 9 => v = .pointer (some ⟨w.heap.size, 4, none⟩) | 10 => v = .int .i64 u1 | 11 => v = .pointer (some ⟨w.heap.size, 5, none⟩) | 12 => v = .int .i64 gi | 13 => v = .pointer (some ⟨w.heap.size, 6, none⟩) | 14 => v = .int .i64 t | 15 => v = .pointer (some ⟨w.heap.size, 1, none⟩) | 16 => v = .string p | 17 => v = .string p | 18 => v = .agg #[.int .i64 ino, .int .i64 m, .int .i64 u1, .int .i64 gi, .int .i64 0, .int .i64 t, .string p, .string ⟨#[]⟩] | _ => True)) (by kernel_rfl) (by kernel_rfl) ((Below.refl _ _).drew) (vBxG_keep _ _ _ _ _) (by simp) ?hops ?hend
  case hops =>
    simp only [List.take_succ_cons, List.take_zero, List.forall_mem_cons]
    refine ⟨?o6, ?o7, ?o8, ?o9, ?o10, ?o11, ?o12, ?o13, ?o14, ?o15, ?o16, ?o17, ?o18, ?o5, fun _ h => by cases h⟩
    case o6 =>
      intro Q a w2 hC hV hI
      have e1 : a.eval (.tmp 1) = .int .i64 ino := (hI 1 (by simp [Op.operands]) (by kernel_rfl)).trans rfl
      have f1 : a.tmps.getD 1 undef = .int .i64 ino := e1
      have g1 : a.tmps[1]?.getD undef = .int .i64 ino := by rw [← Array.getD_eq_getD_getElem?]; exact e1
      refine op_val (.int .i64 ino) ?_ hC (Below.refl _ _) (by intro d hd; cases hd; exact rfl)
      (clear hV hI hC; go_simp <;> (first | rfl | simp | (rw [IntKind.wrap_i64]; omega)))
    case o7 =>
      intro Q a w2 hC hV hI
      have e2 : a.eval (.tmp 2) = .pointer (some ⟨w.heap.size, 0, none⟩) := (hI 2 (by simp [Op.operands]) (by kernel_rfl)).trans rfl
      have f2 : a.tmps.getD 2 undef = .pointer (some ⟨w.heap.size, 0, none⟩) := e2
      have g2 : a.tmps[2]?.getD undef = .pointer (some ⟨w.heap.size, 0, none⟩) := by rw [← Array.getD_eq_getD_getElem?]; exact e2
      refine op_val (.pointer (some ⟨w.heap.size, 3, none⟩)) ?_ hC (Below.refl _ _) (by intro d hd; cases hd; exact rfl)
      (clear hV hI hC; go_simp <;> (first | rfl | simp | (rw [IntKind.wrap_i64]; omega)))
    case o8 =>
      intro Q a w2 hC hV hI
      have e7 : a.eval (.tmp 7) = .pointer (some ⟨w.heap.size, 3, none⟩) := hV 7 (by simp [Op.operands]) (by kernel_rfl)
      have f7 : a.tmps.getD 7 undef = .pointer (some ⟨w.heap.size, 3, none⟩) := e7
      have g7 : a.tmps[7]?.getD undef = .pointer (some ⟨w.heap.size, 3, none⟩) := by rw [← Array.getD_eq_getD_getElem?]; exact e7
      have hK := KC.out w2 hC
      refine op_val (.int .i64 m) ?_ hC (Below.refl _ _) (by intro d hd; cases hd; exact rfl)
      (clear hV hI hC; go_simp <;> (first | rfl | simp | (rw [IntKind.wrap_i64]; omega)))
    case o9 =>
      intro Q a w2 hC hV hI
      have e2 : a.eval (.tmp 2) = .pointer (some ⟨w.heap.size, 0, none⟩) := (hI 2 (by simp [Op.operands]) (by kernel_rfl)).trans rfl
      have f2 : a.tmps.getD 2 undef = .pointer (some ⟨w.heap.size, 0, none⟩) := e2
      have g2 : a.tmps[2]?.getD undef = .pointer (some ⟨w.heap.size, 0, none⟩) := by rw [← Array.getD_eq_getD_getElem?]; exact e2
      refine op_val (.pointer (some ⟨w.heap.size, 4, none⟩)) ?_ hC (Below.refl _ _) (by intro d hd; cases hd; exact rfl)
      (clear hV hI hC; go_simp <;> (first | rfl | simp | (rw [IntKind.wrap_i64]; omega)))
    case o10 =>
      intro Q a w2 hC hV hI
      have e9 : a.eval (.tmp 9) = .pointer (some ⟨w.heap.size, 4, none⟩) := hV 9 (by simp [Op.operands]) (by kernel_rfl)
      have f9 : a.tmps.getD 9 undef = .pointer (some ⟨w.heap.size, 4, none⟩) := e9
      have g9 : a.tmps[9]?.getD undef = .pointer (some ⟨w.heap.size, 4, none⟩) := by rw [← Array.getD_eq_getD_getElem?]; exact e9
      have hK := KC.out w2 hC
      refine op_val (.int .i64 u1) ?_ hC (Below.refl _ _) (by intro d hd; cases hd; exact rfl)
      (clear hV hI hC; go_simp <;> (first | rfl | simp | (rw [IntKind.wrap_i64]; omega)))
    case o11 =>
      intro Q a w2 hC hV hI
      have e2 : a.eval (.tmp 2) = .pointer (some ⟨w.heap.size, 0, none⟩) := (hI 2 (by simp [Op.operands]) (by kernel_rfl)).trans rfl
      have f2 : a.tmps.getD 2 undef = .pointer (some ⟨w.heap.size, 0, none⟩) := e2
      have g2 : a.tmps[2]?.getD undef = .pointer (some ⟨w.heap.size, 0, none⟩) := by rw [← Array.getD_eq_getD_getElem?]; exact e2
      refine op_val (.pointer (some ⟨w.heap.size, 5, none⟩)) ?_ hC (Below.refl _ _) (by intro d hd; cases hd; exact rfl)
      (clear hV hI hC; go_simp <;> (first | rfl | simp | (rw [IntKind.wrap_i64]; omega)))
    case o12 =>
      intro Q a w2 hC hV hI
      have e11 : a.eval (.tmp 11) = .pointer (some ⟨w.heap.size, 5, none⟩) := hV 11 (by simp [Op.operands]) (by kernel_rfl)
      have f11 : a.tmps.getD 11 undef = .pointer (some ⟨w.heap.size, 5, none⟩) := e11
      have g11 : a.tmps[11]?.getD undef = .pointer (some ⟨w.heap.size, 5, none⟩) := by rw [← Array.getD_eq_getD_getElem?]; exact e11
      have hK := KC.out w2 hC
      refine op_val (.int .i64 gi) ?_ hC (Below.refl _ _) (by intro d hd; cases hd; exact rfl)
      (clear hV hI hC; go_simp <;> (first | rfl | simp | (rw [IntKind.wrap_i64]; omega)))
    case o13 =>
      intro Q a w2 hC hV hI
      have e2 : a.eval (.tmp 2) = .pointer (some ⟨w.heap.size, 0, none⟩) := (hI 2 (by simp [Op.operands]) (by kernel_rfl)).trans rfl
      have f2 : a.tmps.getD 2 undef = .pointer (some ⟨w.heap.size, 0, none⟩) := e2
      have g2 : a.tmps[2]?.getD undef = .pointer (some ⟨w.heap.size, 0, none⟩) := by rw [← Array.getD_eq_getD_getElem?]; exact e2
      refine op_val (.pointer (some ⟨w.heap.size, 6, none⟩)) ?_ hC (Below.refl _ _) (by intro d hd; cases hd; exact rfl)
      (clear hV hI hC; go_simp <;> (first | rfl | simp | (rw [IntKind.wrap_i64]; omega)))
    case o14 =>
      intro Q a w2 hC hV hI
      have e13 : a.eval (.tmp 13) = .pointer (some ⟨w.heap.size, 6, none⟩) := hV 13 (by simp [Op.operands]) (by kernel_rfl)
      have f13 : a.tmps.getD 13 undef = .pointer (some ⟨w.heap.size, 6, none⟩) := e13
      have g13 : a.tmps[13]?.getD undef = .pointer (some ⟨w.heap.size, 6, none⟩) := by rw [← Array.getD_eq_getD_getElem?]; exact e13
      have hK := KC.out w2 hC
      refine op_val (.int .i64 t) ?_ hC (Below.refl _ _) (by intro d hd; cases hd; exact rfl)
      (clear hV hI hC; go_simp <;> (first | rfl | simp | (rw [IntKind.wrap_i64]; omega)))
    case o15 =>
      intro Q a w2 hC hV hI
      have e2 : a.eval (.tmp 2) = .pointer (some ⟨w.heap.size, 0, none⟩) := (hI 2 (by simp [Op.operands]) (by kernel_rfl)).trans rfl
      have f2 : a.tmps.getD 2 undef = .pointer (some ⟨w.heap.size, 0, none⟩) := e2
      have g2 : a.tmps[2]?.getD undef = .pointer (some ⟨w.heap.size, 0, none⟩) := by rw [← Array.getD_eq_getD_getElem?]; exact e2
      refine op_val (.pointer (some ⟨w.heap.size, 1, none⟩)) ?_ hC (Below.refl _ _) (by intro d hd; cases hd; exact rfl)
      (clear hV hI hC; go_simp <;> (first | rfl | simp | (rw [IntKind.wrap_i64]; omega)))
    case o16 =>
      intro Q a w2 hC hV hI
      have e15 : a.eval (.tmp 15) = .pointer (some ⟨w.heap.size, 1, none⟩) := hV 15 (by simp [Op.operands]) (by kernel_rfl)
      have f15 : a.tmps.getD 15 undef = .pointer (some ⟨w.heap.size, 1, none⟩) := e15
      have g15 : a.tmps[15]?.getD undef = .pointer (some ⟨w.heap.size, 1, none⟩) := by rw [← Array.getD_eq_getD_getElem?]; exact e15
      have hK := KC.out w2 hC
      refine op_val (.string p) ?_ hC (Below.refl _ _) (by intro d hd; cases hd; exact rfl)
      (clear hV hI hC; go_simp <;> (first | rfl | simp | (rw [IntKind.wrap_i64]; omega)))
    case o17 =>
      intro Q a w2 hC hV hI
      have e16 : a.eval (.tmp 16) = .string p := hV 16 (by simp [Op.operands, Call.operands]) (by kernel_rfl)
      have f16 : a.tmps.getD 16 undef = .string p := e16
      have g16 : a.tmps[16]?.getD undef = .string p := by rw [← Array.getD_eq_getD_getElem?]; exact e16
      refine op_call (f := 67) (args := #[.string p]) (R := fun v y => v = .string p ∧ Below w2.heap.size w2 y) ?_ ((HC.out w2).mono ?_) ?_
      · (clear hV hI hC; go_simp <;> (first | rfl | simp | (rw [IntKind.wrap_i64]; omega)))
      · rintro e y ⟨rfl, hb⟩; exact ⟨_, rfl, rfl, hb⟩
      · rintro v y ⟨rfl, hb⟩; exact ⟨hC.trans (hb.mono hC.size), hb, by intro d hd; cases hd; exact rfl⟩
    case o18 =>
      intro Q a w2 hC hV hI
      have e6 : a.eval (.tmp 6) = .int .i64 ino := hV 6 (by simp [Op.operands]) (by kernel_rfl)
      have f6 : a.tmps.getD 6 undef = .int .i64 ino := e6
      have g6 : a.tmps[6]?.getD undef = .int .i64 ino := by rw [← Array.getD_eq_getD_getElem?]; exact e6
      have e8 : a.eval (.tmp 8) = .int .i64 m := hV 8 (by simp [Op.operands]) (by kernel_rfl)
      have f8 : a.tmps.getD 8 undef = .int .i64 m := e8
      have g8 : a.tmps[8]?.getD undef = .int .i64 m := by rw [← Array.getD_eq_getD_getElem?]; exact e8
      have e10 : a.eval (.tmp 10) = .int .i64 u1 := hV 10 (by simp [Op.operands]) (by kernel_rfl)
      have f10 : a.tmps.getD 10 undef = .int .i64 u1 := e10
      have g10 : a.tmps[10]?.getD undef = .int .i64 u1 := by rw [← Array.getD_eq_getD_getElem?]; exact e10
      have e12 : a.eval (.tmp 12) = .int .i64 gi := hV 12 (by simp [Op.operands]) (by kernel_rfl)
      have f12 : a.tmps.getD 12 undef = .int .i64 gi := e12
      have g12 : a.tmps[12]?.getD undef = .int .i64 gi := by rw [← Array.getD_eq_getD_getElem?]; exact e12
      have e14 : a.eval (.tmp 14) = .int .i64 t := hV 14 (by simp [Op.operands]) (by kernel_rfl)
      have f14 : a.tmps.getD 14 undef = .int .i64 t := e14
      have g14 : a.tmps[14]?.getD undef = .int .i64 t := by rw [← Array.getD_eq_getD_getElem?]; exact e14
      have e17 : a.eval (.tmp 17) = .string p := hV 17 (by simp [Op.operands]) (by kernel_rfl)
      have f17 : a.tmps.getD 17 undef = .string p := e17
      have g17 : a.tmps[17]?.getD undef = .string p := by rw [← Array.getD_eq_getD_getElem?]; exact e17
      refine op_val (.agg #[.int .i64 ino, .int .i64 m, .int .i64 u1, .int .i64 gi, .int .i64 0, .int .i64 t, .string p, .string ⟨#[]⟩]) ?_ hC (Below.refl _ _) (by intro d hd; cases hd; exact rfl)
      (clear hV hI hC; go_simp <;> (first | rfl | simp | (rw [IntKind.wrap_i64]; omega)))
    case o5 =>
      intro Q a w2 hC hV hI
      refine op_val (.pointer (some ⟨w2.heap.size, 0, none⟩)) (w' := w2.alloc (.cells #[.int .i64 0, .int .i64 0, .int .i64 0, .int .i64 0, .int .i64 0, .int .i64 0, .string ⟨#[]⟩, .string ⟨#[]⟩] 44)) ?_ (hC.alloc hC.size _) ((Below.refl _ _).alloc (Nat.le_refl _) _) ?_
      · (clear hV hI hC; go_simp <;> (first | rfl | simp | (rw [IntKind.wrap_i64]; omega)))
      · intro d hd; cases hd; exact ⟨w2.heap.size, rfl, hC.size, heap_lastG _ _⟩
  case hend =>
    intro f w2 hC hall
    simp only [List.take_succ_cons, List.take_zero, List.drop_succ_cons, List.drop_zero] at hall ⊢
    simp only [List.forall_mem_cons] at hall
    obtain ⟨h6, h7, h8, h9, h10, h11, h12, h13, h14, h15, h16, h17, h18, h5, _⟩ := hall
    replace h6 : f 6 = .int .i64 ino := h6 6 rfl
    replace h7 : f 7 = .pointer (some ⟨w.heap.size, 3, none⟩) := h7 7 rfl
    replace h8 : f 8 = .int .i64 m := h8 8 rfl
    replace h9 : f 9 = .pointer (some ⟨w.heap.size, 4, none⟩) := h9 9 rfl
    replace h10 : f 10 = .int .i64 u1 := h10 10 rfl
    replace h11 : f 11 = .pointer (some ⟨w.heap.size, 5, none⟩) := h11 11 rfl
    replace h12 : f 12 = .int .i64 gi := h12 12 rfl
    replace h13 : f 13 = .pointer (some ⟨w.heap.size, 6, none⟩) := h13 13 rfl
    replace h14 : f 14 = .int .i64 t := h14 14 rfl
    replace h15 : f 15 = .pointer (some ⟨w.heap.size, 1, none⟩) := h15 15 rfl
    replace h16 : f 16 = .string p := h16 16 rfl
    replace h17 : f 17 = .string p := h17 17 rfl
    replace h18 : f 18 = .agg #[.int .i64 ino, .int .i64 m, .int .i64 u1, .int .i64 gi, .int .i64 0, .int .i64 t, .string p, .string ⟨#[]⟩] := h18 18 rfl
    obtain ⟨G5, hG5, hGB5, hGO5⟩ : ∃ G, f 5 = .pointer (some ⟨G, 0, none⟩) ∧ w1.heap.size ≤ G ∧ w2.heap[G]? = some (.cells #[.int .i64 0, .int .i64 0, .int .i64 0, .int .i64 0, .int .i64 0, .int .i64 0, .string ⟨#[]⟩, .string ⟨#[]⟩] 44 (0, 0)) := h5 5 rfl
    simp only [putAll, Act.put, List.setIfInBounds_toArray, List.set_cons_succ, List.set_cons_zero, h6, h7, h8, h9, h10, h11, h12, h13, h14, h15, h16, h17, h18, hG5]
    clear h6 h7 h8 h9 h10 h11 h12 h13 h14 h15 h16 h17 h18 hG5 h5
    clear KC
    replace EO := Lib.hid (EO.out.below hC (by omega))
    replace RO := Lib.hid (RO.out.below hC (by omega))
    have hB2 := btE B0.out (hC.mono (Nat.le_refl _))
    have XO : CardO w2 G5 zeroC := hGO5
    have hne0 : ¬ w.heap.size = G5 := by omega
    have hne1 : ¬ w.heap.size + 1 = G5 := by omega
    have hlt5 : w.heap.size ≤ G5 := by omega
    obtain ⟨d0, d1, d2, d3, d4, d5, d6, d7⟩ := XO.at.zero
    have f0 := XO.fz 0
    have f1 := XO.fz 1
    have f2 := XO.fz 2
    have f3 := XO.fz 3
    have f4 := XO.fz 4
    have f5 := XO.fz 5
    have f6 := XO.fz 6
    have f7 := XO.fz 7
    have XP := XO.put ⟨ino, m, u1, gi, 0, t, p, ⟨#[]⟩⟩
    have EP : EntO (putOC w2 G5 ⟨ino, m, u1, gi, 0, t, p, ⟨#[]⟩⟩) w.heap.size ⟨k, p, l, m, u1, gi, t, us, gr, b⟩ := (putOC_other hne0).trans EO.out
    have RP : CardO (putOC w2 G5 ⟨ino, m, u1, gi, 0, t, p, ⟨#[]⟩⟩) (w.heap.size + 1) zeroC := (putOC_other hne1).trans RO.out
    have BP := below_putOC (g := G5) hB2 hlt5 ⟨ino, m, u1, gi, 0, t, p, ⟨#[]⟩⟩
    simp only [putOC] at XP EP RP BP
    go_upto_region 2 with fail
    obtain ⟨w3, hw3⟩ : ∃ x, x = ((((((((w2.setCell ⟨G5, 0, none⟩ (.int .i64 ino)).setCell ⟨G5, 1, none⟩ (.int .i64 m)).setCell ⟨G5, 2, none⟩ (.int .i64 u1)).setCell ⟨G5, 3, none⟩ (.int .i64 gi)).setCell ⟨G5, 4, none⟩ (.int .i64 0)).setCell ⟨G5, 5, none⟩ (.int .i64 t)).setCell ⟨G5, 6, none⟩ (.string p)).setCell ⟨G5, 7, none⟩ (.string ⟨#[]⟩)) := ⟨_, rfl⟩
    rw [← hw3] at XP EP RP BP ⊢
    have X := Lib.hid XP
    have R := Lib.hid RP
    have Bw := Lib.hid BP
    obtain ⟨e0, e1, e2, e3, e4, e5, e6, e7, e8, e9⟩ := EP.at.zero
    clear XP RP BP hw3 d0 d1 d2 d3 d4 d5 d6 d7 f0 f1 f2 f3 f4 f5 f6 f7 XO hGO5 hB2 EO RO
    obtain ⟨d0, d1, d2, d3, d4, d5, d6, d7⟩ := X.out.at.zero
    have f1 := X.out.fz 1
    have XP := X.out.set (e' := ⟨ino, m + 32768, u1, gi, 0, t, p, ⟨#[]⟩⟩) 1 (.int .i64 (m + 32768)) rfl
    have RP : CardO (w3.setCell ⟨G5, 1, none⟩ (.int .i64 (m + 32768))) (w.heap.size + 1) zeroC := R.out.other hne1
    have EP2 : EntO (w3.setCell ⟨G5, 1, none⟩ (.int .i64 (m + 32768))) w.heap.size ⟨k, p, l, m, u1, gi, t, us, gr, b⟩ := EP.other hne0
    have BP := Bw.out.setCell (p := ⟨G5, 1, none⟩) hlt5 (.int .i64 (m + 32768))
    go_wp2_with fail
    obtain ⟨w4, hw4⟩ : ∃ x, x = w3.setCell ⟨G5, 1, none⟩ (.int .i64 (m + 32768)) := ⟨_, rfl⟩
    rw [← hw4] at XP RP BP EP2 ⊢
    clear hw4 EP2 e0 e1 e2 e3 e4 e5 e6 e7 e8 e9 d0 d1 d2 d3 d4 d5 d6 d7 f1 EP X R Bw
    refine (HD.out _).mono ?_
    rintro e w5 ⟨rfl, hb⟩
    have X := Lib.hid (XP.below hb XP.lt)
    have R := Lib.hid (RP.below hb RP.lt)
    have Bw := Lib.hid (btE BP hb)
    clear hb XP RP BP
    obtain ⟨d0, d1, d2, d3, d4, d5, d6, d7⟩ := X.out.at.zero
    have f7 := X.out.fz 7
    have XP := X.out.set (e' := ⟨ino, m + 32768, u1, gi, 0, t, p, b⟩) 7 (.string b) rfl
    have RP : CardO (w5.setCell ⟨G5, 7, none⟩ (.string b)) (w.heap.size + 1) zeroC := R.out.other hne1
    have BP := Bw.out.setCell (p := ⟨G5, 7, none⟩) hlt5 (.string b)
    go_upto_region 10 with fail
    obtain ⟨w6, hw6⟩ : ∃ x, x = w5.setCell ⟨G5, 7, none⟩ (.string b) := ⟨_, rfl⟩
    rw [← hw6] at XP RP BP ⊢
    clear hw6 d0 d1 d2 d3 d4 d5 d6 d7 f7 X R Bw
    obtain ⟨x0, x1, x2, x3, x4, x5, x6, x7⟩ := XP.at.zero
    obtain ⟨d0, d1, d2, d3, d4, d5, d6, d7⟩ := RP.at.zero
    have f0 := RP.fz 0
    have f1 := RP.fz 1
    have f2 := RP.fz 2
    have f3 := RP.fz 3
    have f4 := RP.fz 4
    have f5 := RP.fz 5
    have f6 := RP.fz 6
    have f7 := RP.fz 7
    have R9 := RP.put ⟨ino, m + 32768, u1, gi, 0, t, p, b⟩
    have B9 := below_putOC (g := w.heap.size + 1) BP (by omega) ⟨ino, m + 32768, u1, gi, 0, t, p, b⟩
    simp only [putOC] at R9 B9
    go_wp2_with fail
    refine bodyPost_ret (res_OC1 rfl _ rfl R9) rfl ?_
    exact ⟨rfl, B9⟩
/-- The card of an entry but for its count. -/
def cardOfv (ino : Int) (e : Ent) : Card := ⟨ino, e.mode + modev e.kind, e.uid, e.gid, 0, e.time, e.path, if e.kind = 1 then ⟨#[]⟩ else datav e⟩
theorem cardOf_impl (e : Ent) (ino : Int) (w : World) (hz : esz e ≤ 4194304) (hm0 : 0 ≤ e.mode) (hm1 : e.mode ≤ 4095) :
    Calls Tryz.prog 69 #[.agg e.cells.toArray, .int .i64 ino] w fun r w' => r = .returned (.agg (cardOfv ino e).cells.toArray) ∧ Below w.heap.size w w' := by
  obtain ⟨k, p, l, m, u, g, t, us, gr, b⟩ := e
  obtain ⟨hp, hl, _, _, hb⟩ := small_parts hz
  by_cases h1 : k = 1
  · subst h1
    exact cardOf_dir p l m u g t us gr b ino w hp hm0 hm1
  · by_cases h2 : k = 2
    · subst h2
      exact cardOf_sym p l m u g t us gr b ino w hp hl hm0 hm1
    · have := cardOf_fil k p l m u g t us gr b ino w h1 h2 hp hb hm0 hm1
      simpa [Ent.cells, Card.cells, cardOfv, modev, datav, h1, h2] using this
end Go.Proofs.YtancidbbkoeokaaGreat

/- Maps from texts to numbers, and sets of texts, that a call makes. -/
namespace Go.Proofs.YtancidbbkoeokaaGreat
open Go.ChangeShapes Go.WideShapes Go.ChangeAt Go.RowKit Go.Maps

theorem lawS : Keyed Tryz.prog 9 := string_keyed Tryz.underlying9
theorem zeroN (w : World) : (zeroValue 3).run Tryz.prog w = .ok (.int .i64 0) w := by kernel_rfl
def keyS (s : ByteArray) : Lit := .string s.data.toList
theorem key_of {s : ByteArray} (h : s.size ≤ maxLen) : keyOf Tryz.prog 9 (.string s) = some (keyS s) := WideMaps.keyOf_string_mk Tryz.underlying9 h
theorem keyS_ne {a b : ByteArray} (h : ¬ a = b) : keyS a ≠ keyS b := by
  intro e
  apply h
  exact ba_ext (by simpa [keyS] using e)
theorem keyS_lit (a : ByteArray) : WideAt.IsKeyLit (keyS a) := trivial
/-- What the map D tells of each text. -/
def MapIs (D : DataW Unit) (M : ByteArray → Option Int) : Prop := IsMap D ∧ ∀ s, Maps.has D (keyS s) = (M s).isSome ∧ ∀ c, M s = some c → D.atKey (keyS s) (.lit (.int .i64 0)) = .lit (.int .i64 c)
/-- Block b is a map from texts to numbers of at most n entries. -/
def MapAt (w : World) (b n : Nat) (M : ByteArray → Option Int) : Prop := ∃ D : DataW Unit, w.ownsMap Tryz.prog 9 (plainElem Tryz.prog 3) b n D ∧ MapIs D M
def putM (M : ByteArray → Option Int) (s : ByteArray) (c : Int) : ByteArray → Option Int := fun t => if t = s then some c else M t
theorem MapIs.put {D : DataW Unit} {M : ByteArray → Option Int} (h : MapIs D M) (s : ByteArray) (c : Int) : MapIs (D.put (keyS s) (.lit (.int .i64 c))) (putM M s c) := by
  refine ⟨h.1.put _ _, fun t => ?_⟩
  by_cases e : t = s
  · subst e
    refine ⟨by rw [Maps.has_put_same h.1 (keyS_lit _)]; simp [putM], fun d hd => ?_⟩
    rw [Maps.atKey_put_same h.1 (keyS_lit _)]
    simp [putM] at hd
    rw [hd]
  · refine ⟨by rw [Maps.has_put_other (keyS_ne e), (h.2 t).1]; simp [putM, e], fun d hd => ?_⟩
    rw [Maps.atKey_put_other (keyS_ne e)]
    simp [putM, e] at hd
    exact (h.2 t).2 d hd
theorem mapIs_empty : MapIs (.map []) (fun _ => none) := ⟨isMap_empty, fun _ => ⟨rfl, fun _ h => by cases h⟩⟩
theorem mapAt_made (w : World) : MapAt (w.alloc (.map #[] 0)) w.heap.size 0 (fun _ => none) := ⟨.map [], World.ownsMap_made w _ _ _, mapIs_empty⟩
theorem MapAt.kept {w w' : World} {b n : Nat} {M : ByteArray → Option Int} {row : Option Nat} (h : MapAt w b n M) (hg : w.grownBy w' row) (hne : some b ≠ row) : MapAt w' b n M := by
  obtain ⟨D, ho, hs⟩ := h
  exact ⟨D, World.ownsMap.kept ho hg hne, hs⟩
theorem ownsMap_below {w w' : World} {k : TypeId} {R : Value → Option (DataW Unit × List MemPlace)} {b n : Nat} {D : DataW Unit} (h : w.ownsMap Tryz.prog k R b n D) (hb : Below w.heap.size w w') : w'.ownsMap Tryz.prog k R b n D :=
  World.ownsMap.kept h (row := none) ⟨hb.os, hb.tape, hb.output, hb.size, fun k hk _ => hb.block k hk⟩ (by simp)
theorem MapAt.below {w w' : World} {b n : Nat} {M : ByteArray → Option Int} (h : MapAt w b n M) (hb : Below w.heap.size w w') : MapAt w' b n M := by
  obtain ⟨D, ho, hs⟩ := h
  exact ⟨D, ownsMap_below ho hb, hs⟩
theorem MapAt.lt {w : World} {b n : Nat} {M : ByteArray → Option Int} (h : MapAt w b n M) : b < w.heap.size := by
  obtain ⟨D, ho, _⟩ := h
  exact World.ownsMap.lt ho
/-- The set D of texts. -/
def SetSIs (D : DataW Unit) (T : ByteArray → Bool) : Prop := IsMap D ∧ ∀ s, Maps.has D (keyS s) = T s
def SetSAt (w : World) (b n : Nat) (T : ByteArray → Bool) : Prop := ∃ D : DataW Unit, w.ownsMap Tryz.prog 9 (unitElem (H := Unit)) b n D ∧ SetSIs D T
def putT (T : ByteArray → Bool) (s : ByteArray) : ByteArray → Bool := fun t => decide (t = s) || T t
theorem SetSIs.put {D : DataW Unit} {T : ByteArray → Bool} (h : SetSIs D T) (s : ByteArray) (u : DataW Unit) : SetSIs (D.put (keyS s) u) (putT T s) := by
  refine ⟨h.1.put _ _, fun t => ?_⟩
  by_cases e : t = s
  · subst e
    rw [Maps.has_put_same h.1 (keyS_lit _)]; simp [putT]
  · rw [Maps.has_put_other (keyS_ne e), h.2 t]; simp [putT, e]
theorem setS_made (w : World) : SetSAt (w.alloc (.map #[] 0)) w.heap.size 0 (fun _ => false) := ⟨.map [], World.ownsMap_made w _ _ _, isMap_empty, fun _ => rfl⟩
theorem SetSAt.kept {w w' : World} {b n : Nat} {T : ByteArray → Bool} {row : Option Nat} (h : SetSAt w b n T) (hg : w.grownBy w' row) (hne : some b ≠ row) : SetSAt w' b n T := by
  obtain ⟨D, ho, hs⟩ := h
  exact ⟨D, World.ownsMap.kept ho hg hne, hs⟩
theorem SetSAt.below {w w' : World} {b n : Nat} {T : ByteArray → Bool} (h : SetSAt w b n T) (hb : Below w.heap.size w w') : SetSAt w' b n T := by
  obtain ⟨D, ho, hs⟩ := h
  exact ⟨D, ownsMap_below ho hb, hs⟩
theorem SetSAt.lt {w : World} {b n : Nat} {T : ByteArray → Bool} (h : SetSAt w b n T) : b < w.heap.size := by
  obtain ⟨D, ho, _⟩ := h
  exact World.ownsMap.lt ho
end Go.Proofs.YtancidbbkoeokaaGreat

/- ListOk by the kinds of the entries so far: plain mathematics. -/
namespace Go.Proofs.YtancidbbkoeokaaGreat
open Go.RowKit

/-- The kind of the first entry with a path. -/
def kindOf (L : List Ent) (p : ByteArray) : Option Int := (L.find? fun e => decide (e.path = p)).map Ent.kind
theorem findFrom_kind (L : List Ent) (p : ByteArray) (i : Nat) : (kindOf L p = none ∧ findFrom L p i = -1) ∨ ∃ (a : Nat) (e : Ent), kindOf L p = some e.kind ∧ findFrom L p i = ((i + a : Nat) : Int) ∧ L[a]? = some e ∧ e.path = p := by
  induction L generalizing i with
  | nil => exact .inl ⟨rfl, rfl⟩
  | cons e L ih =>
    rw [findFrom]
    by_cases h : e.path = p
    · exact .inr ⟨0, e, by simp [kindOf, h], by simp [h], rfl, h⟩
    · rw [if_neg h]
      have hk : kindOf (e :: L) p = kindOf L p := by simp [kindOf, h]
      rw [hk]
      rcases ih (i + 1) with h1 | ⟨a, e', h0, h1, h2, h3⟩
      · exact .inl h1
      · exact .inr ⟨a + 1, e', h0, by rw [h1]; congr 1; omega, by simpa using h2, h3⟩
theorem find_kind (L : List Ent) (p : ByteArray) : (kindOf L p = none ∧ findv L p = -1) ∨ ∃ (a : Nat) (e : Ent), kindOf L p = some e.kind ∧ findv L p = (a : Int) ∧ L[a]? = some e ∧ e.path = p := by
  rcases findFrom_kind L p 0 with h | ⟨a, e, h0, h1, h2, h3⟩
  · exact .inl h
  · exact .inr ⟨a, e, h0, by rw [findv, h1]; simp, h2, h3⟩
theorem fileAt_kind (L : List Ent) (p : ByteArray) : fileAt L p = decide (kindOf L p = some 0) := by
  rcases find_kind L p with ⟨h, h1⟩ | ⟨a, e, h, h1, h2, _⟩
  · rw [fileAt_none h1, h]; simp
  · rw [fileAt_some h1 h2, h]; simp
theorem findFrom_app (L M : List Ent) (p : ByteArray) (i : Nat) : findFrom (L ++ M) p i = if kindOf L p = none then findFrom M p (i + L.length) else findFrom L p i := by
  induction L generalizing i with
  | nil => simp [kindOf]
  | cons e L ih =>
    rw [List.cons_append, findFrom]
    by_cases h : e.path = p
    · simp [kindOf, h, findFrom]
    · have hk : kindOf (e :: L) p = kindOf L p := by simp [kindOf, h]
      rw [if_neg h, ih, hk]
      simp only [List.length_cons, findFrom, if_neg h]
      rw [show i + 1 + L.length = i + (L.length + 1) from by omega]
theorem find_self {L : List Ent} {i : Nat} {e : Ent} (he : L[i]? = some e) : findv L e.path = (i : Int) ↔ kindOf (L.take i) e.path = none := by
  have hlt : i < L.length := (List.getElem?_eq_some_iff.1 he).1
  have hL : L = L.take i ++ (e :: L.drop (i + 1)) := by
    have h1 := (List.getElem?_eq_some_iff.1 he).2
    conv => lhs; rw [← List.take_append_drop i L]
    rw [List.drop_eq_getElem_cons hlt, h1]
  have hl : (L.take i).length = i := by simp; omega
  constructor
  · intro h
    cases hk : kindOf (L.take i) e.path with
    | none => rfl
    | some c =>
      rw [findv, hL, findFrom_app, if_neg (by rw [hk]; simp)] at h
      rcases findFrom_kind (L.take i) e.path 0 with ⟨h0, _⟩ | ⟨a, e', _, h1, h2, _⟩
      · rw [h0] at hk; cases hk
      · have := (List.getElem?_eq_some_iff.1 h2).1
        rw [h1] at h
        omega
  · intro h
    rw [findv]
    conv => lhs; rw [hL]
    rw [findFrom_app, if_pos h, findFrom, if_pos rfl, hl]
    simp
theorem entAtOk_kind {L : List Ent} {i : Nat} {e : Ent} (he : L[i]? = some e) : entAtOk L i e = (entOkv e && decide (kindOf (L.take i) e.path = none) && (if e.kind = 3 then decide (kindOf (L.take i) e.link = some 0) else true)) := by
  rw [entAtOk, fileAt_kind]
  congr 2
  rw [decide_eq_decide]
  exact find_self he
theorem kindOf_snoc {L : List Ent} {i : Nat} {e : Ent} (he : L[i]? = some e) (hk : kindOf (L.take i) e.path = none) : kindOf (L.take (i + 1)) = putM (kindOf (L.take i)) e.path e.kind := by
  have hlt : i < L.length := (List.getElem?_eq_some_iff.1 he).1
  have h1 := (List.getElem?_eq_some_iff.1 he).2
  funext p
  rw [List.take_succ_eq_append_getElem hlt, h1]
  simp only [kindOf, putM, List.find?_append] at hk ⊢
  by_cases h : p = e.path
  · subst h
    simp at hk
    have : List.find? (fun e' => decide (e'.path = e.path)) (List.take i L) = none := by
      rw [List.find?_eq_none]
      intro x hx
      simpa using hk x hx
    simp [this]
  · have h' : ¬ e.path = p := fun x => h x.symm
    simp [h, h']
theorem kindOf_zero (L : List Ent) : kindOf (L.take 0) = fun _ => none := by
  funext p; simp [kindOf]
theorem entOk_kind (e : Ent) (h : entOkv e = true) : -9223372036854775808 ≤ e.kind ∧ e.kind ≤ 9223372036854775807 := by
  simp only [entOkv, Bool.and_eq_true] at h
  have h2 := h.2
  unfold kindOk at h2
  split at h2
  · omega
  · split at h2
    · omega
    · split at h2
      · omega
      · split at h2
        · omega
        · cases h2
end Go.Proofs.YtancidbbkoeokaaGreat

/- Contract of impl.ListOk. -/
namespace Go.Proofs.YtancidbbkoeokaaGreat
open Go.ChangeShapes Go.WideShapes Go.ChangeAt Go.RowKit Go.Deep Go.Maps

theorem listOk_long {L : List Ent} (h : 30 < L.length) : listOkv L = false := by
  rw [listOkv, decide_eq_false (by omega)]; simp
set_option maxHeartbeats 1600000 in
theorem listOk_impl (L : List Ent) (n g cap : Nat) (w : World) (hn : n = L.length) (hm : n ≤ 4194304) (hg : g < w.heap.size) (hsm : SmallL L) (h1 : RowE w g L) :
    Calls Tryz.prog 43 #[.slice (some ⟨g, 0, none⟩) n cap] w fun e w' => e = .returned (.bool (listOkv L)) ∧ Below w.heap.size w w' := by
  have H1 := Lib.hid h1
  have HG : Hid (∀ i, i < n → ∃ e, L[i]? = some e ∧ esz e ≤ 4194304) := Lib.hid (fun i hi => by obtain ⟨e, he⟩ := getE' (L := L) (i := i) (by omega); exact ⟨e, he, hsm.get he⟩)
  have HBad : Hid (∀ i e, L[i]? = some e → entAtOk L i e = false → listOkv L = false) := Lib.hid (fun i e he hk => listOk_bad he hk)
  have HDone : Hid (OksTo L n → n ≤ 30 → listOkv L = true) := Lib.hid (by rw [hn]; intro h h2; rw [listOk_done h]; simpa using h2)
  have HLong : Hid (30 < n → listOkv L = false) := Lib.hid (by rw [hn]; exact listOk_long)
  generalize listOkv L = r at HBad HDone HLong
  clear h1 hn hsm
  by_cases h30 : 30 < n
  · have h30' : (30 : Int) < (n : Int) := by omega
    have HX := Lib.hid (HLong.out h30)
    go_enter Tryz.func43, Tryz.ntmps43
    go_wp2_with fail
    go_ret
    exact ⟨ret_bool HX.out.symm, Below.refl _ _⟩
  have h30' : ¬ (30 : Int) < (n : Int) := by omega
  have hmm := @run_makeMap Tryz.prog
  go_enter Tryz.func43, Tryz.ntmps43
  go_wp2_with fail
  go_loopw [5, 6, 7, 8, 9, 16] (fun _ _ _ _ _ u wr => ∃ i : Nat, u = .int .i64 i ∧ i ≤ n ∧ OksTo L i ∧ MapAt wr w.heap.size i (kindOf (L.take i)) ∧ Below w.heap.size w wr) (fun _ _ _ _ _ u _ => n - (intOf u).toNat)
  case atStart => exact ⟨0, rfl, Nat.zero_le _, fun j hj => by omega, by rw [kindOf_zero]; exact mapAt_made w, (Below.refl _ _).alloc (Nat.le_refl _) _⟩
  case round =>
    obtain ⟨i, rfl, hi, hr, hmap, hb⟩ := hrel
    have HR := Lib.hid hr
    have B := Lib.hid hb
    have HMp := Lib.hid hmap
    have zm := hmap.lt
    clear hr hb hmap hmm
    by_cases hlt : i < n
    · have hlt2 : (i : Int) < (n : Int) := by omega
      obtain ⟨e, he, hz⟩ := HG.out i hlt
      have R := Lib.hid (H1.out.below B.out hg)
      obtain ⟨c0, c1, c2, c3, c4, c5, c6, c7, c8, c9⟩ := R.out.ten he
      have HBi := Lib.hid (HBad.out i e he)
      have HSi := Lib.hid (fun hk => HR.out.step he hk)
      have HA := Lib.hid (entAtOk_kind he)
      have HK := Lib.hid (fun h => kindOf_snoc he h)
      clear he HBad HG HR
      have hsz := small_parts hz
      generalize kindOf (L.take i) = M at HMp HA HK
      obtain ⟨k, p, l, m, u, g0, t, us, gr, b⟩ := e
      have HO := Lib.hid (fun w => entryOk_impl k p l m u g0 t us gr b w hsz.1 hsz.2.1 hsz.2.2.1 hsz.2.2.2.1)
      dsimp only at hsz
      have kp : p.size ≤ maxLen := by have := hsz.1; simp only [maxLen]; omega
      have kl : l.size ≤ maxLen := by have := hsz.2.1; simp only [maxLen]; omega
      have HKd := Lib.hid (entOk_kind ⟨k, p, l, m, u, g0, t, us, gr, b⟩)
      generalize entAtOk L i ⟨k, p, l, m, u, g0, t, us, gr, b⟩ = ra at HA HBi HSi
      generalize entOkv ⟨k, p, l, m, u, g0, t, us, gr, b⟩ = b1 at HA HO HKd
      dsimp only at HA HK HKd
      clear hsz hz
      have zr : g < wr.heap.size := by have := B.out.size; omega
      obtain ⟨D, ho, hD⟩ := HMp.out
      have OM := Lib.hid ho
      have HD := Lib.hid hD
      clear ho hD HMp
      have HP := Lib.hid (HD.out.2 p).1
      have HLk := Lib.hid (HD.out.2 l)
      cases hp : M p with
      | some x =>
        have hh : Maps.has D (keyS p) = true := by rw [HP.out, hp]; rfl
        have HX : Hid (r = false) := Lib.hid (HBi.out (by rw [HA.out, hp]; simp))
        clear HA HK HP HLk HBi HSi HO HD hp
        go_wp2_with (at_lookup; refine wpList_lookup_own_ok_int _ rfl _ _ 90 rfl 9 3 .i64 lawS Tryz.underlying90 Tryz.underlying3 (zeroN _) w.heap.size i D rfl (OM.out.alloc _) _ _ rfl (key_of kp) ?_; intro c _ _)
        go_ret
        exact ⟨ret_bool HX.out.symm, B.out.alloc B.out.size _⟩
      | none =>
        have hh : Maps.has D (keyS p) = false := by rw [HP.out, hp]; rfl
        have HN := Lib.hid (HK.out hp)
        have HA2 : Hid (ra = (b1 && (if k = 3 then decide (M l = some 0) else true))) := Lib.hid (by rw [HA.out, hp]; simp)
        clear HA HK HP hp
        go_wp2_with (at_lookup; refine wpList_lookup_own_ok_int _ rfl _ _ 90 rfl 9 3 .i64 lawS Tryz.underlying90 Tryz.underlying3 (zeroN _) w.heap.size i D rfl (OM.out.alloc _) _ _ rfl (key_of kp) ?_; intro c _ _)
        refine (HO.out _).mono ?_
        rintro e w1 ⟨rfl, hb⟩
        have O1 := Lib.hid (ownsMap_below (OM.out.alloc _) hb)
        obtain ⟨k1, bb, z1⟩ := one_new (e1 := ⟨k, p, l, m, u, g0, t, us, gr, b⟩) hb
        have E1 := Lib.hid k1
        have B1 := Lib.hid (btE B.out bb)
        clear hb k1 bb c0 c1 c2 c3 c4 c5 c6 c7 c8 c9 R B HO OM hh
        obtain ⟨c0, c1, c2, c3, c4, c5, c6, c7, c8, c9⟩ := E1.out.zero
        have hsz1 := B1.out.size
        cases b1 with
        | false =>
          go_wp2_with fail
          go_ret
          exact ⟨ret_bool (HBi.out (by rw [HA2.out]; simp)).symm, B1.out⟩
        | true =>
          by_cases hk : k = 3
          · subst hk
            cases hl : M l with
            | none =>
              have hh : Maps.has D (keyS l) = false := by rw [HLk.out.1, hl]; rfl
              have HX : Hid (r = false) := Lib.hid (HBi.out (by rw [HA2.out, hl]; simp))
              clear HA2 HBi HSi HLk hl HN
              go_wp2_with (at_lookup; refine wpList_lookup_own_ok_int _ rfl _ _ 90 rfl 9 3 .i64 lawS Tryz.underlying90 Tryz.underlying3 (zeroN _) w.heap.size i D rfl O1.out _ _ rfl (key_of kl) ?_; intro c' _ _)
              go_ret
              exact ⟨ret_bool HX.out.symm, B1.out⟩
            | some x =>
              have hh : Maps.has D (keyS l) = true := by rw [HLk.out.1, hl]; rfl
              have HT := Lib.hid (HLk.out.2 x hl)
              by_cases hx : x = 0
              · subst hx
                have HS := Lib.hid (HSi.out (by rw [HA2.out, hl]; simp))
                clear HA2 HBi HSi HLk hl
                go_wp2_with (first | (at_lookup; refine wpList_lookup_own_ok_int _ rfl _ _ 90 rfl 9 3 .i64 lawS Tryz.underlying90 Tryz.underlying3 (zeroN _) w.heap.size i D rfl O1.out _ _ rfl (key_of kl) ?_; intro c' hat _; obtain rfl : c' = 0 := (by have := hat.symm.trans HT.out; simpa using this); clear hat) | (at_mapUpdate; refine wpList_mapUpdate_own _ rfl _ _ _ 90 rfl 9 3 lawS Tryz.underlying90 _ w.heap.size i D rfl O1.out (by simp only [maxLen]; omega) _ _ _ rfl rfl (key_of kp) _ [] (plainElem_int Tryz.underlying3 (by decide)) ?_; intro w2 hown2 hgrow2))
                have HM2 : Hid (MapAt w2 w.heap.size (i + 1) (kindOf (L.take (i + 1)))) := Lib.hid (by rw [HN.out]; exact ⟨_, hown2, HD.out.put p 3⟩)
                have B2 : Hid (Below w.heap.size w w2) := Lib.hid (B1.out.grown hgrow2 hsz1 (fun b hb => by cases hb; exact Nat.le_refl _))
                clear hown2 hgrow2 HN HT hh
                go_wp2_with fail
                go_roundw
                case rel => exact ⟨i + 1, by go_num, by omega, HS.out, HM2.out, B2.out⟩
                case measure => simp [intOf]; omega
              · have HX : Hid (r = false) := Lib.hid (HBi.out (by rw [HA2.out, hl]; simp [hx]))
                have hx2 : (x != 0) = true := by simpa using hx
                clear HA2 HBi HSi HLk hl HN hx
                go_wp2_with (at_lookup; refine wpList_lookup_own_ok_int _ rfl _ _ 90 rfl 9 3 .i64 lawS Tryz.underlying90 Tryz.underlying3 (zeroN _) w.heap.size i D rfl O1.out _ _ rfl (key_of kl) ?_; intro c' hat _; obtain rfl : c' = x := (by have := hat.symm.trans HT.out; simpa using this); clear hat)
                go_ret
                exact ⟨ret_bool HX.out.symm, B1.out⟩
          · have HS := Lib.hid (HSi.out (by rw [HA2.out]; simp [hk]))
            have hk2 : (k == 3) = false := by simpa using hk
            have hk3 : decide (k = 3) = false := by simpa using hk
            have hwk : (Lit.int .i64 k).wf = true := WalkArith.wf_i64 (HKd.out rfl)
            clear HA2 HBi HSi HLk hk
            go_wp2_with (first | (at_lookup; refine wpList_lookup_own_ok_int _ rfl _ _ 90 rfl 9 3 .i64 lawS Tryz.underlying90 Tryz.underlying3 (zeroN _) w.heap.size i D rfl O1.out _ _ rfl (key_of kl) ?_; intro c' _ _) | (at_mapUpdate; refine wpList_mapUpdate_own _ rfl _ _ _ 90 rfl 9 3 lawS Tryz.underlying90 _ w.heap.size i D rfl O1.out (by simp only [maxLen]; omega) _ _ _ rfl rfl (key_of kp) _ [] (plainElem_int Tryz.underlying3 hwk) ?_; intro w2 hown2 hgrow2))
            have HM2 : Hid (MapAt w2 w.heap.size (i + 1) (kindOf (L.take (i + 1)))) := Lib.hid (by rw [HN.out]; exact ⟨_, hown2, HD.out.put p k⟩)
            have B2 : Hid (Below w.heap.size w w2) := Lib.hid (B1.out.grown hgrow2 hsz1 (fun b hb => by cases hb; exact Nat.le_refl _))
            clear hown2 hgrow2 HN
            go_wp2_with fail
            go_roundw
            case rel => exact ⟨i + 1, by go_num, by omega, HS.out, HM2.out, B2.out⟩
            case measure => simp [intOf]; omega
    · obtain rfl : i = n := by omega
      have hlt2 : ¬ (i : Int) < (i : Int) := by omega
      have HFin := Lib.hid (HDone.out HR.out (by omega))
      go_wp2_with fail
      go_ret
      exact ⟨ret_bool HFin.out.symm, B.out⟩
end Go.Proofs.YtancidbbkoeokaaGreat

/- Maps from numbers to numbers that a call makes: how often each number has come. -/
namespace Go.Proofs.YtancidbbkoeokaaGreat
open Go.ChangeShapes Go.WideShapes Go.ChangeAt Go.RowKit Go.Maps

theorem lawIn : Keyed Tryz.prog 3 := int_keyed Tryz.underlying3
theorem zeroIn (w : World) : (zeroValue 3).run Tryz.prog w = .ok (.int .i64 0) w := by kernel_rfl
def keyIn (x : Int) : Lit := .int .i64 x
theorem wf_in {x : Int} (h0 : -9223372036854775808 ≤ x) (h1 : x ≤ 9223372036854775807) : (Lit.int .i64 x).wf = true := WalkArith.wf_i64 (by omega)
theorem key_in {x : Int} (h0 : -9223372036854775808 ≤ x) (h1 : x ≤ 9223372036854775807) : keyOf Tryz.prog 3 (.int .i64 x) = some (keyIn x) := keyOf_int_mk Tryz.underlying3 (wf_in h0 h1)
theorem keyIn_ne {a b : Int} (h : ¬ a = b) : keyIn a ≠ keyIn b := by
  intro e
  apply h
  simpa [keyIn] using e
/-- What the map D tells of each number; 0 where it does not hold it. -/
def CntIs (D : DataW Unit) (M : Int → Int) : Prop := IsMap D ∧ ∀ x, D.atKey (keyIn x) (.lit (.int .i64 0)) = .lit (.int .i64 (M x))
def CntAt (w : World) (b n : Nat) (M : Int → Int) : Prop := ∃ D : DataW Unit, w.ownsMap Tryz.prog 3 (plainElem Tryz.prog 3) b n D ∧ CntIs D M
def putN (M : Int → Int) (x c : Int) : Int → Int := fun y => if y = x then c else M y
theorem CntIs.put {D : DataW Unit} {M : Int → Int} (h : CntIs D M) (x c : Int) : CntIs (D.put (keyIn x) (.lit (.int .i64 c))) (putN M x c) := by
  refine ⟨h.1.put _ _, fun y => ?_⟩
  by_cases e : y = x
  · subst e
    rw [Maps.atKey_put_same h.1 (show WideAt.IsKeyLit (keyIn y) from trivial)]
    simp [putN]
  · rw [Maps.atKey_put_other (keyIn_ne e), h.2 y]
    simp [putN, e]
theorem cnt_made (w : World) : CntAt (w.alloc (.map #[] 0)) w.heap.size 0 (fun _ => 0) := ⟨.map [], World.ownsMap_made w _ _ _, isMap_empty, fun _ => rfl⟩
theorem CntAt.kept {w w' : World} {b n : Nat} {M : Int → Int} {row : Option Nat} (h : CntAt w b n M) (hg : w.grownBy w' row) (hne : some b ≠ row) : CntAt w' b n M := by
  obtain ⟨D, ho, hs⟩ := h
  exact ⟨D, World.ownsMap.kept ho hg hne, hs⟩
theorem CntAt.below {w w' : World} {b n : Nat} {M : Int → Int} (h : CntAt w b n M) (hb : Below w.heap.size w w') : CntAt w' b n M := by
  obtain ⟨D, ho, hs⟩ := h
  exact ⟨D, World.ownsMap.kept ho (row := none) ⟨hb.os, hb.tape, hb.output, hb.size, fun k hk _ => hb.block k hk⟩ (by simp), hs⟩
theorem CntAt.lt {w : World} {b n : Nat} {M : Int → Int} (h : CntAt w b n M) : b < w.heap.size := by
  obtain ⟨D, ho, _⟩ := h
  exact World.ownsMap.lt ho
end Go.Proofs.YtancidbbkoeokaaGreat

/- Contract of impl.CardsOf. -/
namespace Go.Proofs.YtancidbbkoeokaaGreat
open Go.ChangeShapes Go.WideShapes Go.ChangeAt Go.RowKit Go.Deep Go.Maps

theorem card_map_ne {w : World} {base b n : Nat} {v : Value} {L : List Card} {M : Int → Int} (o : OwnC w base v L) (c : CntAt w b n M) : some b ≠ v.ownBlock := by
  intro e
  obtain ⟨D, ⟨es, clock, hb, F, hs, rfl⟩, _⟩ := c
  obtain ⟨⟨_, h2⟩, g, cap, rfl⟩ := o
  rcases h2 with ⟨h0, _⟩ | ⟨g', cap', cur, hv, hg, hh, _⟩
  · cases h0
  · cases hv
    simp [Value.ownBlock] at e
    subst e
    rw [hb] at hh
    cases hh
/-- The cards without their counts. -/
def cardsP (L : List Ent) : Nat → List Card
  | 0 => []
  | n + 1 => cardsP L n ++ [cardOfv (inov L n (L.getD n entD)) (L.getD n entD)]
theorem cardsP_len (L : List Ent) (n : Nat) : (cardsP L n).length = n := by
  induction n with
  | zero => rfl
  | succ n ih => simp [cardsP, ih]
theorem cardsP_step {L : List Ent} {i : Nat} {e : Ent} (he : L[i]? = some e) : cardsP L (i + 1) = cardsP L i ++ [cardOfv (inov L i e) e] := by rw [cardsP, getD_of he]
theorem cardsP_get (L : List Ent) (n i : Nat) {e : Ent} (he : L[i]? = some e) (h : i < n) : (cardsP L n)[i]? = some (cardOfv (inov L i e) e) := by
  induction n with
  | zero => omega
  | succ n ih =>
    rw [cardsP]
    by_cases q : i = n
    · subst q
      rw [List.getElem?_append_right (by rw [cardsP_len]; omega), cardsP_len, getD_of he]
      simp
    · rw [List.getElem?_append_left (by rw [cardsP_len]; omega)]
      exact ih (by omega)
/-- The cards of which the first i have their counts. -/
def cardsQ (L : List Ent) (n i : Nat) : List Card := cardsTo L i ++ (cardsP L n).drop i
theorem cardsQ_len {L : List Ent} {n i : Nat} (h : i ≤ n) : (cardsQ L n i).length = n := by
  simp [cardsQ, cardsTo_len, cardsP_len]
  omega
theorem cardsQ_zero (L : List Ent) (n : Nat) : cardsQ L n 0 = cardsP L n := by simp [cardsQ, cardsTo]
theorem cardsQ_all (L : List Ent) (n : Nat) : cardsQ L n n = cardsTo L n := by
  rw [cardsQ, List.drop_eq_nil_of_le (by rw [cardsP_len]; omega), List.append_nil]
theorem cardsQ_at {L : List Ent} {n i : Nat} {e : Ent} (he : L[i]? = some e) (h : i < n) : cardsQ L n i = cardsTo L i ++ cardOfv (inov L i e) e :: (cardsP L n).drop (i + 1) := by
  have hlt : i < (cardsP L n).length := by rw [cardsP_len]; exact h
  have hg := cardsP_get L n i he h
  rw [List.getElem?_eq_getElem hlt] at hg
  rw [cardsQ, List.drop_eq_getElem_cons hlt, Option.some.inj hg]
def withCount (c : Card) (n : Int) : Card := ⟨c.Ino, c.Mode, c.Uid, c.Gid, n, c.Time, c.Path, c.Data⟩
theorem cardsQ_succ {L : List Ent} {n i : Nat} {e : Ent} (he : L[i]? = some e) : cardsQ L n (i + 1) = cardsTo L i ++ cardv L i e :: (cardsP L n).drop (i + 1) := by
  rw [cardsQ, cardsTo, getD_of he]
  simp
theorem valsC_setCount (A B : List Card) (c : Card) (n : Int) : (valsC (A ++ c :: B)).set (A.length * 8 + 4) (.int .i64 n) = valsC (A ++ withCount c n :: B) := by
  rw [valsC_app, valsC_app, List.set_append_right _ _ (by rw [valsC_len]; omega), valsC_len]
  congr 1
  rw [show A.length * 8 + 4 - A.length * 8 = 4 from by omega]
  rfl
theorem rowC_count {w : World} {base g cap : Nat} {A B : List Card} {c : Card} {n N : Nat} (hN : N = (A ++ c :: B).length) (h : OwnC w base (.slice (some ⟨g, 0, none⟩) N cap) (A ++ c :: B)) (hn : n = A.length) (x : Int) : OwnC (w.setCell ⟨g, n * 8 + 4, none⟩ (.int .i64 x)) base (.slice (some ⟨g, 0, none⟩) N cap) (A ++ withCount c x :: B) := by
  subst hN hn
  obtain ⟨ho, g', cap', hv⟩ := h
  cases hv
  have h1 := (World.ownsRow.stored ho (A.length * 8 + 4) (.int .i64 x)).1
  rw [valsC_setCount] at h1
  have hl : (A ++ withCount c x :: B).length = (A ++ c :: B).length := by simp
  exact ⟨by rw [hl]; exact h1, g, cap, by rw [hl]⟩
theorem count_put {L : List Ent} {i : Nat} {e : Ent} (he : L[i]? = some e) : putN (fun x => ((countTo L x i : Nat) : Int)) (inov L i e) ((countTo L (inov L i e) i : Nat) + 1) = fun x => ((countTo L x (i + 1) : Nat) : Int) := by
  funext y
  rw [countTo, inoAt_of he, putN]
  by_cases h : y = inov L i e
  · rw [if_pos h, if_pos h.symm, h]
    push_cast
    rfl
  · rw [if_neg h, if_neg (fun e => h e.symm)]
    simp
theorem card_full {L : List Ent} (hL : listOkv L = true) {i : Nat} {e : Ent} (he : L[i]? = some e) : cardv L i e = withCount (cardOfv (inov L i e) e) (if e.kind = 1 then 2 else (countTo L (inov L i e) L.length : Nat)) := by
  have hk := (entOk_facts (listOk_at hL he).1).2.2.2.2
  unfold cardv withCount cardOfv
  congr 1
  by_cases h1 : e.kind = 1
  · rw [if_pos h1]
    rcases kind_facts hk with h | h | h | h
    · omega
    · rw [datav, if_neg (by omega), ba_nil h.2.2]
    · omega
    · omega
  · rw [if_neg h1]
set_option maxHeartbeats 6400000 in
set_option maxRecDepth 8000 in
theorem cardsOf_impl (L : List Ent) (n g cap : Nat) (w : World) (hn : n = L.length) (hm : n ≤ 4194304) (hcap : n ≤ cap) (hg : g < w.heap.size) (hsm : SmallL L) (h1 : RowE w g L) :
    Calls Tryz.prog 44 #[.slice (some ⟨g, 0, none⟩) n cap] w fun e w' => ∃ v, e = .returned v ∧ OwnC w' w.heap.size v (cardsv L) ∧ Below w.heap.size w w' := by
  obtain ⟨i0, hi0, hz0, hz1, hz2⟩ := info_parts Tryz.infoC
  have H1 := Lib.hid h1
  have HK := Lib.hid (fun w (hg : g < w.heap.size) (h : RowE w g L) => listOk_impl L n g cap w hn hm hg hsm h)
  have HI := Lib.hid (fun (i : Nat) (e : Ent) w he (hg : g < w.heap.size) (h : RowE w g L) => ino_impl L i e n g cap w he hn hm hg h)
  have HV : Hid (cardsv L = if listOkv L then cardsTo L n else []) := Lib.hid (by rw [hn]; rfl)
  have HE : Hid (listOkv L = true → ∀ i, i < n → ∃ e, L[i]? = some e ∧ (0 ≤ e.mode ∧ e.mode ≤ 4095) ∧ (1 ≤ inov L i e ∧ inov L i e ≤ 31) ∧ esz e ≤ 4194304) := Lib.hid (fun hL i hi => by
    obtain ⟨e, he⟩ := getE' (L := L) (i := i) (by omega)
    obtain ⟨hM, _, _, _, hk⟩ := entOk_facts (listOk_at hL he).1
    have h1 := ino_bounds hL he
    have h2 := listOk_len hL
    exact ⟨e, he, hM, by omega, hsm.get he⟩)
  have HN : Hid (listOkv L = true → n ≤ 30) := Lib.hid (fun h => by rw [hn]; exact listOk_len h)
  have HP : Hid (∀ i e, L[i]? = some e → cardsP L (i + 1) = cardsP L i ++ [cardOfv (inov L i e) e]) := Lib.hid (fun i e he => cardsP_step he)
  have HPl := Lib.hid (fun i => cardsP_len L i)
  have HCl := Lib.hid (fun x i => countTo_le L x i)
  have HCp := Lib.hid (fun i e (he : L[i]? = some e) => count_put he)
  have HZ : Hid (cardsP L 0 = [] ∧ (fun x => ((countTo L x 0 : Nat) : Int)) = fun _ => 0) := Lib.hid ⟨rfl, rfl⟩
  have HFu : Hid (listOkv L = true → ∀ i e, L[i]? = some e → cardv L i e = withCount (cardOfv (inov L i e) e) (if e.kind = 1 then 2 else (countTo L (inov L i e) n : Nat))) := Lib.hid (fun hL i e he => by rw [hn]; exact card_full hL he)
  have HQa := Lib.hid (fun i e (he : L[i]? = some e) h => cardsQ_at (n := n) he h)
  have HQs := Lib.hid (fun i e (he : L[i]? = some e) => cardsQ_succ (n := n) he)
  have HQl := Lib.hid (fun i h => cardsQ_len (L := L) (n := n) (i := i) h)
  have HQz := Lib.hid (cardsQ_zero L n)
  have HQe := Lib.hid (cardsQ_all L n)
  have HTl := Lib.hid (fun i => cardsTo_len L i)
  generalize cardsv L = r at HV
  generalize listOkv L = ok at HK HV HE HN HFu
  clear h1 hsm hn
  have hmm := @run_makeMap Tryz.prog
  go_enter Tryz.func44, Tryz.ntmps44
  go_wp2_with fail
  refine (HK.out _ (by simp; omega) (H1.out.below ((Below.refl _ _).alloc (Nat.le_refl _) _) hg)).mono ?_
  rintro e w1 ⟨rfl, hb⟩
  have B0 : Below w.heap.size w (w.alloc (.cells #[] 44)) := (Below.refl _ _).alloc (Nat.le_refl _) _
  have B := Lib.hid (btE B0 hb)
  have O := Lib.hid ((OwnC.lit (w := w) (base := w.heap.size) (Nat.le_refl _)).keep hb)
  clear hb B0
  cases ok with
  | false =>
    have HF : Hid (r = []) := Lib.hid (by rw [HV.out]; rfl)
    go_wp2_with fail
    go_ret
    exact ⟨_, rfl, by rw [HF.out]; exact O.out, B.out⟩
  | true =>
    have HF : Hid (r = cardsTo L n) := Lib.hid (by rw [HV.out]; rfl)
    have hn30 := HN.out rfl
    have HE2 := Lib.hid (HE.out rfl)
    have HF2 := Lib.hid (HFu.out rfl)
    clear HV HE HN HK HFu
    have NB : Below w1.heap.size w1 (w1.alloc (.map #[] 0)) := (Below.refl _ _).alloc (Nat.le_refl _) _
    have C0 := Lib.hid (cnt_made w1)
    have O1 := Lib.hid (O.out.keep NB)
    have B1 := Lib.hid (btE B.out NB)
    have hmb := B.out.size
    clear NB O B
    obtain ⟨mb, hmbe⟩ : ∃ b, w1.heap.size = b := ⟨_, rfl⟩
    rw [hmbe] at C0 hmb
    go_wp2_with fail
    clear hmbe
    go_loopw [3, 5, 6, 7, 18] (fun v _ _ _ u wr => ∃ i : Nat, u = .int .i64 i ∧ i ≤ n ∧ OwnC wr w.heap.size v (cardsP L i) ∧ CntAt wr mb i (fun x => ((countTo L x i : Nat) : Int)) ∧ Below w.heap.size w wr) (fun _ _ _ _ u _ => n - (intOf u).toNat)
    case atStart => exact ⟨0, rfl, Nat.zero_le _, by rw [HZ.out.1]; exact O1.out, by rw [HZ.out.2]; exact C0.out, B1.out⟩
    case round =>
      obtain ⟨i, rfl, hi, ho, hc, hb⟩ := hrel
      obtain ⟨wo, hwo⟩ : ∃ wo, wo = wr := ⟨_, rfl⟩
      subst hwo
      have O := Lib.hid ho
      have CM := Lib.hid hc
      have B := Lib.hid hb
      have hsz := B.out.size
      have hmo := CM.out.lt
      clear ho hc hb O1 C0 B1
      by_cases hlt : i < n
      · have hlt2 : (i : Int) < (n : Int) := by omega
        obtain ⟨e, he, hmd, hxd, hz⟩ := HE2.out i hlt
        have HI2 := Lib.hid (fun w hg h => HI.out i e w he hg h)
        have HP2 := Lib.hid (HP.out i e he)
        have HPl2 := HPl.out i
        have HCp2 := Lib.hid (HCp.out i e he)
        have hcb := HCl.out (inov L i e) i
        have R := Lib.hid (H1.out.below B.out hg)
        have zg : g < wo.heap.size := by omega
        have HCd := Lib.hid (fun w => cardOf_impl e (inov L i e) w hz hmd.1 hmd.2)
        obtain ⟨c0, c1, c2, c3, c4, c5, c6, c7, c8, c9⟩ := R.out.ten he
        clear he HP HCp hz hmd
        obtain ⟨go, co, rfl, _, zo, hbo, _⟩ := O.out.open
        generalize inov L i e = x at HI2 HP2 HCp2 HCd hcb hxd
        obtain ⟨D, hD⟩ : ∃ D, cardsP L i = D := ⟨_, rfl⟩
        rw [hD] at HP2 O HPl2 ⊢
        have hDl : D.length ≤ 30 := by omega
        clear hD HPl2
        obtain ⟨k, p, l, m, u1, gi, t, us, gr, b⟩ := e
        simp only [cardOfv, Card.cells, Ent.cells] at HCd HP2
        generalize m + modev k = mo at HCd HP2
        generalize (if k = 1 then (⟨#[]⟩ : ByteArray) else datav ⟨k, p, l, m, u1, gi, t, us, gr, b⟩) = dat at HCd HP2
        go_upto_region 8 with fail
        generalize hw5 : World.alloc wo _ = w5
        have NB : Below wo.heap.size wo w5 := by rw [← hw5]; exact (Below.refl _ _).alloc (Nat.le_refl _) _
        have XE : EntO w5 wo.heap.size ⟨k, p, l, m, u1, gi, t, us, gr, b⟩ := by rw [← hw5]; exact EntO.new wo ⟨k, p, l, m, u1, gi, t, us, gr, b⟩
        clear hw5 c0 c1 c2 c3 c4 c5 c6 c7 c8 c9
        replace O := Lib.hid (O.out.keep NB)
        replace CM := Lib.hid (CM.out.below NB)
        replace R := Lib.hid (R.out.below NB zg)
        replace B := Lib.hid (btE B.out NB)
        have zx := XE.lt
        have zg5 : g < w5.heap.size := Nat.lt_of_lt_of_le zg NB.size
        have HI3 := Lib.hid (fun w' (hb : Below w5.heap.size w5 w') => HI2.out w' (Nat.lt_of_lt_of_le zg5 hb.size) (R.out.below hb zg5))
        have KC : Hid (∀ w', Below w5.heap.size w5 w' → w'.cell? ⟨wo.heap.size, 0, none⟩ = some (.int .i64 k) ∧ w'.cell? ⟨wo.heap.size, 1, none⟩ = some (.string p) ∧ w'.cell? ⟨wo.heap.size, 2, none⟩ = some (.string l) ∧ w'.cell? ⟨wo.heap.size, 3, none⟩ = some (.int .i64 m) ∧ w'.cell? ⟨wo.heap.size, 4, none⟩ = some (.int .i64 u1) ∧ w'.cell? ⟨wo.heap.size, 5, none⟩ = some (.int .i64 gi) ∧ w'.cell? ⟨wo.heap.size, 6, none⟩ = some (.int .i64 t) ∧ w'.cell? ⟨wo.heap.size, 7, none⟩ = some (.string us) ∧ w'.cell? ⟨wo.heap.size, 8, none⟩ = some (.string gr) ∧ w'.cell? ⟨wo.heap.size, 9, none⟩ = some (.string b)) := Lib.hid (fun w' hb => by
          obtain ⟨d0, d1, d2, d3, d4, d5, d6, d7, d8, d9⟩ := (XE.below hb zx).at.zero
          exact ⟨d0, d1, d2, d3, d4, d5, d6, d7, d8, d9⟩)
        clear NB HI2 R
        refine wp_region_cut 6 (by kernel_rfl) (fun w' => Below w5.heap.size w5 w') (fun x y => Below x.heap.size x y) (vBxG 7 44 w5.heap.size #[.int .i64 0, .int .i64 0, .int .i64 0, .int .i64 0, .int .i64 0, .int .i64 0, .string ⟨#[]⟩, .string ⟨#[]⟩] (fun d v => match d with | 23 => v = .agg #[.int .i64 k, .string p, .string l, .int .i64 m, .int .i64 u1, .int .i64 gi, .int .i64 t, .string us, .string gr, .string b] | 24 => v = .slice (some ⟨g, 0, none⟩) n cap | 25 => v = .int .i64 (i : Int) | 26 => v = .int .i64 x | 27 => v = .agg #[.int .i64 x, .int .i64 mo, .int .i64 u1, .int .i64 gi, .int .i64 0, .int .i64 t, .string p, .string dat] | _ => True)) (by kernel_rfl) (by kernel_rfl) ((Below.refl _ _).drew) (vBxG_keep _ _ _ _ _) (by simp) ?hops ?hend
        case hops =>
          simp only [List.take_succ_cons, List.take_zero, List.forall_mem_cons]
          refine ⟨?o23, ?o24, ?o25, ?o26, ?o27, ?o7, fun _ h => by cases h⟩
          case o23 =>
            intro Q a w2 hC hV hI
            have e6 : a.eval (.tmp 6) = .pointer (some ⟨wo.heap.size, 0, none⟩) := (hI 6 (by simp [Op.operands]) (by kernel_rfl)).trans rfl
            have f6 : a.tmps.getD 6 undef = .pointer (some ⟨wo.heap.size, 0, none⟩) := e6
            have g6 : a.tmps[6]?.getD undef = .pointer (some ⟨wo.heap.size, 0, none⟩) := by rw [← Array.getD_eq_getD_getElem?]; exact e6
            have hK := KC.out w2 hC
            refine op_val (.agg #[.int .i64 k, .string p, .string l, .int .i64 m, .int .i64 u1, .int .i64 gi, .int .i64 t, .string us, .string gr, .string b]) ?_ hC (Below.refl _ _) (by intro d hd; cases hd; exact rfl)
            (clear hV hI hC; go_simp <;> (first | rfl | simp | (rw [IntKind.wrap_i64]; omega)))
          case o24 =>
            intro Q a w2 hC hV hI
            have e0 : a.eval (.tmp 0) = .slice (some ⟨g, 0, none⟩) n cap := (hI 0 (by simp [Op.operands]) (by kernel_rfl)).trans rfl
            have f0 : a.tmps.getD 0 undef = .slice (some ⟨g, 0, none⟩) n cap := e0
            have g0 : a.tmps[0]?.getD undef = .slice (some ⟨g, 0, none⟩) n cap := by rw [← Array.getD_eq_getD_getElem?]; exact e0
            refine op_val (.slice (some ⟨g, 0, none⟩) n cap) ?_ hC (Below.refl _ _) (by intro d hd; cases hd; exact rfl)
            (clear hV hI hC; go_simp <;> (first | rfl | simp | (rw [IntKind.wrap_i64]; omega)))
          case o25 =>
            intro Q a w2 hC hV hI
            have e5 : a.eval (.tmp 5) = .int .i64 (i : Int) := (hI 5 (by simp [Op.operands]) (by kernel_rfl)).trans rfl
            have f5 : a.tmps.getD 5 undef = .int .i64 (i : Int) := e5
            have g5 : a.tmps[5]?.getD undef = .int .i64 (i : Int) := by rw [← Array.getD_eq_getD_getElem?]; exact e5
            refine op_val (.int .i64 (i : Int)) ?_ hC (Below.refl _ _) (by intro d hd; cases hd; exact rfl)
            (clear hV hI hC; go_simp <;> (first | rfl | simp | (rw [IntKind.wrap_i64]; omega)))
          case o26 =>
            intro Q a w2 hC hV hI
            have e24 : a.eval (.tmp 24) = .slice (some ⟨g, 0, none⟩) n cap := hV 24 (by simp [Op.operands, Call.operands]) (by kernel_rfl)
            have f24 : a.tmps.getD 24 undef = .slice (some ⟨g, 0, none⟩) n cap := e24
            have g24 : a.tmps[24]?.getD undef = .slice (some ⟨g, 0, none⟩) n cap := by rw [← Array.getD_eq_getD_getElem?]; exact e24
            have e25 : a.eval (.tmp 25) = .int .i64 (i : Int) := hV 25 (by simp [Op.operands, Call.operands]) (by kernel_rfl)
            have f25 : a.tmps.getD 25 undef = .int .i64 (i : Int) := e25
            have g25 : a.tmps[25]?.getD undef = .int .i64 (i : Int) := by rw [← Array.getD_eq_getD_getElem?]; exact e25
            refine op_call (f := 70) (args := #[.slice (some ⟨g, 0, none⟩) n cap, .int .i64 (i : Int)]) (R := fun v y => v = .int .i64 x ∧ Below w2.heap.size w2 y) ?_ ((HI3.out w2 hC).mono ?_) ?_
            · (clear hV hI hC; go_simp <;> (first | rfl | simp | (rw [IntKind.wrap_i64]; omega)))
            · rintro e y ⟨rfl, hb⟩; exact ⟨_, rfl, rfl, hb⟩
            · rintro v y ⟨rfl, hb⟩; exact ⟨hC.trans (hb.mono hC.size), hb, by intro d hd; cases hd; exact rfl⟩
          case o27 =>
            intro Q a w2 hC hV hI
            have e23 : a.eval (.tmp 23) = .agg #[.int .i64 k, .string p, .string l, .int .i64 m, .int .i64 u1, .int .i64 gi, .int .i64 t, .string us, .string gr, .string b] := hV 23 (by simp [Op.operands, Call.operands]) (by kernel_rfl)
            have f23 : a.tmps.getD 23 undef = .agg #[.int .i64 k, .string p, .string l, .int .i64 m, .int .i64 u1, .int .i64 gi, .int .i64 t, .string us, .string gr, .string b] := e23
            have g23 : a.tmps[23]?.getD undef = .agg #[.int .i64 k, .string p, .string l, .int .i64 m, .int .i64 u1, .int .i64 gi, .int .i64 t, .string us, .string gr, .string b] := by rw [← Array.getD_eq_getD_getElem?]; exact e23
            have e26 : a.eval (.tmp 26) = .int .i64 x := hV 26 (by simp [Op.operands, Call.operands]) (by kernel_rfl)
            have f26 : a.tmps.getD 26 undef = .int .i64 x := e26
            have g26 : a.tmps[26]?.getD undef = .int .i64 x := by rw [← Array.getD_eq_getD_getElem?]; exact e26
            refine op_call (f := 69) (args := #[.agg #[.int .i64 k, .string p, .string l, .int .i64 m, .int .i64 u1, .int .i64 gi, .int .i64 t, .string us, .string gr, .string b], .int .i64 x]) (R := fun v y => v = .agg #[.int .i64 x, .int .i64 mo, .int .i64 u1, .int .i64 gi, .int .i64 0, .int .i64 t, .string p, .string dat] ∧ Below w2.heap.size w2 y) ?_ ((HCd.out w2).mono ?_) ?_
            · (clear hV hI hC; go_simp <;> (first | rfl | simp | (rw [IntKind.wrap_i64]; omega)))
            · rintro e y ⟨rfl, hb⟩; exact ⟨_, rfl, rfl, hb⟩
            · rintro v y ⟨rfl, hb⟩; exact ⟨hC.trans (hb.mono hC.size), hb, by intro d hd; cases hd; exact rfl⟩
          case o7 =>
            intro Q a w2 hC hV hI
            refine op_val (.pointer (some ⟨w2.heap.size, 0, none⟩)) (w' := w2.alloc (.cells #[.int .i64 0, .int .i64 0, .int .i64 0, .int .i64 0, .int .i64 0, .int .i64 0, .string ⟨#[]⟩, .string ⟨#[]⟩] 44)) ?_ (hC.alloc hC.size _) ((Below.refl _ _).alloc (Nat.le_refl _) _) ?_
            · (clear hV hI hC; go_simp <;> (first | rfl | simp | (rw [IntKind.wrap_i64]; omega)))
            · intro d hd; cases hd; exact ⟨w2.heap.size, rfl, hC.size, heap_lastG _ _⟩
        case hend =>
          intro f w6 hC hall
          simp only [List.take_succ_cons, List.take_zero, List.drop_succ_cons, List.drop_zero] at hall ⊢
          simp only [List.forall_mem_cons] at hall
          obtain ⟨h23, h24, h25, h26, h27, h7, _⟩ := hall
          replace h23 : f 23 = .agg #[.int .i64 k, .string p, .string l, .int .i64 m, .int .i64 u1, .int .i64 gi, .int .i64 t, .string us, .string gr, .string b] := h23 23 rfl
          replace h24 : f 24 = .slice (some ⟨g, 0, none⟩) n cap := h24 24 rfl
          replace h25 : f 25 = .int .i64 (i : Int) := h25 25 rfl
          replace h26 : f 26 = .int .i64 x := h26 26 rfl
          replace h27 : f 27 = .agg #[.int .i64 x, .int .i64 mo, .int .i64 u1, .int .i64 gi, .int .i64 0, .int .i64 t, .string p, .string dat] := h27 27 rfl
          obtain ⟨G7, hG7, hGB7, hGO7⟩ : ∃ G, f 7 = .pointer (some ⟨G, 0, none⟩) ∧ w5.heap.size ≤ G ∧ w6.heap[G]? = some (.cells #[.int .i64 0, .int .i64 0, .int .i64 0, .int .i64 0, .int .i64 0, .int .i64 0, .string ⟨#[]⟩, .string ⟨#[]⟩] 44 (0, 0)) := h7 7 rfl
          simp only [putAll, Act.put, List.setIfInBounds_toArray, List.set_cons_succ, List.set_cons_zero, h23, h24, h25, h26, h27, hG7]
          clear h23 h24 h25 h26 h27 hG7 h7
          clear KC HI3
          replace O := Lib.hid (O.out.keep hC)
          replace CM := Lib.hid (CM.out.below hC)
          replace XE := XE.below hC zx
          replace B := Lib.hid (btE B.out hC)
          have XO : CardO w6 G7 zeroC := hGO7
          have zo6 : go < w6.heap.size := (World.ownsRow.lt O.out.1 go rfl).2
          have hgo : ¬ G7 = go := by have := (World.ownsRow.lt O.out.1 go rfl).2; have := zo; omega
          have hm7 : ¬ mb = G7 := by omega
          have hx7 : ¬ wo.heap.size = G7 := by omega
          have hw7 : w.heap.size ≤ G7 := by omega
          obtain ⟨d0, d1, d2, d3, d4, d5, d6, d7⟩ := XO.at.zero
          have f0 := XO.fz 0
          have f1 := XO.fz 1
          have f2 := XO.fz 2
          have f3 := XO.fz 3
          have f4 := XO.fz 4
          have f5 := XO.fz 5
          have f6 := XO.fz 6
          have f7 := XO.fz 7
          have XP := XO.put ⟨x, mo, u1, gi, 0, t, p, dat⟩
          have OP := OwnC.kept (w' := putOC w6 G7 ⟨x, mo, u1, gi, 0, t, p, dat⟩) O.out (row := some G7) (grown_putOC w6 G7 _) (fun e => hgo (Option.some.inj e).symm)
          have CP := CM.out.kept (w' := putOC w6 G7 ⟨x, mo, u1, gi, 0, t, p, dat⟩) (row := some G7) (grown_putOC w6 G7 _) (fun e => hm7 (Option.some.inj e))
          have BP := below_putOC (g := G7) B.out hw7 ⟨x, mo, u1, gi, 0, t, p, dat⟩
          simp only [putOC] at XP OP CP BP
          go_upto_region 9 with fail
          obtain ⟨w7, hw7e⟩ : ∃ y, y = ((((((((w6.setCell ⟨G7, 0, none⟩ (.int .i64 x)).setCell ⟨G7, 1, none⟩ (.int .i64 mo)).setCell ⟨G7, 2, none⟩ (.int .i64 u1)).setCell ⟨G7, 3, none⟩ (.int .i64 gi)).setCell ⟨G7, 4, none⟩ (.int .i64 0)).setCell ⟨G7, 5, none⟩ (.int .i64 t)).setCell ⟨G7, 6, none⟩ (.string p)).setCell ⟨G7, 7, none⟩ (.string dat)) := ⟨_, rfl⟩
          rw [← hw7e] at XP OP CP BP ⊢
          clear hw7e d0 d1 d2 d3 d4 d5 d6 d7 f0 f1 f2 f3 f4 f5 f6 f7 O CM B XE XO hGO7
          have O := Lib.hid OP
          have B := Lib.hid BP
          obtain ⟨Dm, hown, hD⟩ := CP
          have OM := Lib.hid hown
          have HDm := Lib.hid hD
          have HLk : Hid (Dm.atKey (keyIn x) (.lit (.int .i64 0)) = .lit (.int .i64 ((countTo L x i : Nat) : Int))) := Lib.hid (hD.2 x)
          obtain ⟨cx, hcx⟩ : ∃ c, countTo L x i = c := ⟨_, rfl⟩
          rw [hcx] at HLk HCp2 hcb
          clear OP BP hown hD hcx
          have XC := Lib.hid XP
          obtain ⟨d0, d1, d2, d3, d4, d5, d6, d7⟩ := XP.at.zero
          clear XP
          go_upto_region 10 with (first | (at_lookup; refine wpList_lookup_own_int _ rfl _ _ 92 rfl 3 3 .i64 lawIn Tryz.underlying92 Tryz.underlying3 (zeroIn _) mb i Dm rfl OM.out _ _ rfl (key_in (by omega) (by omega)) ?_; intro c' hat _; obtain rfl : c' = (cx : Int) := (by have := hat.symm.trans HLk.out; simpa using this); clear hat) | (at_mapUpdate; refine wpList_mapUpdate_own _ rfl _ _ _ 92 rfl 3 3 lawIn Tryz.underlying92 _ mb i Dm rfl OM.out (by simp only [maxLen]; omega) _ _ _ rfl rfl (key_in (by omega) (by omega)) _ [] (plainElem_int Tryz.underlying3 (wf_in (by omega) (by omega))) ?_; intro w8 hown2 hgrow2))
          have CM8 : Hid (CntAt w8 mb (i + 1) (fun x => ((countTo L x (i + 1) : Nat) : Int))) := Lib.hid (by rw [← HCp2.out]; exact ⟨_, hown2, HDm.out.put x _⟩)
          have hne := card_map_ne O.out ⟨Dm, OM.out, HDm.out⟩
          have O8 : Hid (OwnC w8 w.heap.size (.slice (some ⟨go, 0, none⟩) D.length co) D) := Lib.hid (O.out.kept hgrow2 (fun e => hne e.symm))
          have X8 := XC.out.grown hgrow2 (fun e => hm7 (Option.some.inj e).symm)
          have B8 : Hid (Below w.heap.size w w8) := Lib.hid (B.out.grown hgrow2 B.out.size (fun b hb => by cases hb; omega))
          have OW := Lib.hid O8.out.1
          have hsz8 := B8.out.size
          clear hown2 hgrow2 hne O OM HDm HLk B XC d0 d1 d2 d3 d4 d5 d6 d7 HCp2
          obtain ⟨d0, d1, d2, d3, d4, d5, d6, d7⟩ := X8.at.zero
          go_wp2_with (at_builtin; refine wpList_append_own _ rfl _ _ 38 rfl w.heap.size 44 i0 (.agg #[.int .i64 0, .int .i64 0, .int .i64 0, .int .i64 0, .int .i64 0, .int .i64 0, .string ⟨#[]⟩, .string ⟨#[]⟩]) 8 80 Tryz.underlying38 hi0 hz0 hz1 hz2 rfl (by decide) _ D.length (valsC D) rfl ?c0q ⟨w8.heap.size, 0, none⟩ 1 1 (valsC [⟨x, mo, u1, gi, 0, t, p, dat⟩]) rfl (valsC_len _) ?c1q ?c2q ?c3q ?c4q ?c5q ?_)
          case c0q => exact World.ownsRow.alloc OW.out _
          case c1q => intro jj uu hu; rw [valsC_one] at hu; exact hu
          case c2q => exact valsC_onecell _
          any_goals (first | (simp only [maxLen]; omega) | omega | (simp; omega))
          intro v' w9 hown hgrow hnil
          have NB : Below w8.heap.size w8 (w8.alloc (.cells (Card.cells ⟨x, mo, u1, gi, 0, t, p, dat⟩).toArray 44)) := (Below.refl _ _).alloc (Nat.le_refl _) _
          have hne9 := card_map_ne O8.out CM8.out
          have O9 : Hid (OwnC w9 w.heap.size v' (cardsP L (i + 1))) := Lib.hid (by rw [HP2.out]; exact own_appC hown rfl rfl hnil)
          have CM9 := Lib.hid ((CM8.out.below NB).kept hgrow hne9)
          have B9 : Hid (Below w.heap.size w w9) := Lib.hid ((btE B8.out NB).grown hgrow (by have := NB.size; omega) (fun b hb => (World.ownsRow.lt OW.out b hb).1))
          clear hown hgrow hnil NB hne9 O8 CM8 B8 OW X8 d0 d1 d2 d3 d4 d5 d6 d7
          go_wp2_with fail
          go_roundw
          case rel => exact ⟨i + 1, by go_num, by omega, O9.out, CM9.out, B9.out⟩
          case measure => simp [intOf]; omega
      · obtain rfl : i = n := by omega
        have hlt2 : ¬ (i : Int) < (i : Int) := by omega
        have HPl2 := HPl.out i
        rw [← HQz.out] at O HPl2
        obtain ⟨go, co, rfl, _, zo, hbo, _⟩ := O.out.open
        rw [HPl2] at *
        clear HPl HP HZ HCp HI HPl2
        have hmm2 := CM.out.lt
        go_wp2_with fail
        go_loopw [8, 9, 40] (fun _ _ u w2 => ∃ j : Nat, u = .int .i64 j ∧ j ≤ i ∧ OwnC w2 w.heap.size (.slice (some ⟨go, 0, none⟩) i co) (cardsQ L i j) ∧ CntAt w2 mb i (fun x => ((countTo L x i : Nat) : Int)) ∧ Below w.heap.size w w2) (fun _ _ u _ => i - (intOf u).toNat)
        case atStart => exact ⟨0, rfl, Nat.zero_le _, O.out, CM.out, B.out⟩
        case round =>
          obtain ⟨j, rfl, hj, ho, hc, hb⟩ := hrel
          obtain ⟨wp, hwp⟩ : ∃ wp, wp = wr := ⟨_, rfl⟩
          subst hwp
          clear O CM B hmm2
          have O := Lib.hid ho
          have CM := Lib.hid hc
          have B := Lib.hid hb
          have hszp := B.out.size
          clear ho hc hb
          by_cases hltj : j < i
          · have hltj2 : (j : Int) < (i : Int) := by omega
            obtain ⟨e, he, hmd, hxd, hz⟩ := HE2.out j hltj
            have R := Lib.hid (H1.out.below B.out hg)
            have zg : g < wp.heap.size := by omega
            have HA := HQa.out j e he hltj
            have HS := HQs.out j e he
            have HFd := HF2.out j e he
            have HLe := HQl.out j hj
            have HTj := HTl.out j
            have hcb := HCl.out (inov L j e) i
            obtain ⟨c0, c1, c2, c3, c4, c5, c6, c7, c8, c9⟩ := R.out.ten he
            rw [HFd] at HS
            clear he hmd hz R HFd
            rw [HA] at O HLe
            generalize inov L j e = x at O HS hcb hxd HLe
            obtain ⟨A, hA⟩ : ∃ A, cardsTo L j = A := ⟨_, rfl⟩
            obtain ⟨T, hT⟩ : ∃ T, (cardsP L i).drop (j + 1) = T := ⟨_, rfl⟩
            rw [hA] at O HS HTj HLe
            rw [hT] at O HS HLe
            clear hA hT HA
            obtain ⟨k, p, l, m, u1, gi, t, us, gr, b⟩ := e
            have hgw := (World.ownsRow.lt O.out.1 go rfl).2
            have NB : Below wp.heap.size wp (wp.alloc (.cells (Ent.cells ⟨k, p, l, m, u1, gi, t, us, gr, b⟩).toArray 41)) := (Below.refl _ _).alloc (Nat.le_refl _) _
            have XE := Lib.hid (EntO.new wp ⟨k, p, l, m, u1, gi, t, us, gr, b⟩)
            replace O := Lib.hid (O.out.keep NB)
            replace CM := Lib.hid (CM.out.below NB)
            replace B := Lib.hid (btE B.out NB)
            simp only [Ent.cells] at XE O CM B HS
            clear NB
            go_upto_region 15 with fail
            obtain ⟨w3, hw3⟩ : ∃ y, y = wp.alloc (.cells #[.int .i64 k, .string p, .string l, .int .i64 m, .int .i64 u1, .int .i64 gi, .int .i64 t, .string us, .string gr, .string b] 41) := ⟨_, rfl⟩
            simp only [List.toArray] at XE O CM B
            rw [← hw3] at XE O CM B ⊢
            clear hw3 c0 c1 c2 c3 c4 c5 c6 c7 c8 c9
            have hin : (valsC (A ++ cardOfv x ⟨k, p, l, m, u1, gi, t, us, gr, b⟩ :: T))[A.length * 8 + 0]? = some (.int .i64 x) := by
              rw [valsC_get _ _ _ (by omega)]
              simp [cardOfv, Card.cells]
            have hc0 := O.out.row.1 _ _ hin
            have hin4 : ∃ y, (valsC (A ++ cardOfv x ⟨k, p, l, m, u1, gi, t, us, gr, b⟩ :: T))[A.length * 8 + 4]? = some y := by
              rw [valsC_get _ _ _ (by omega)]
              simp [Card.cells]
            obtain ⟨y4, hin4⟩ := hin4
            have hc4 := O.out.row.1 _ _ hin4
            have hfz := O.out.1
            rw [HLe] at hfz
            have hf4 : w3.frozen? ⟨go, A.length * 8 + 4, none⟩ = false := World.ownsRow.frozenAt hfz (A.length * 8 + 4)
            clear hin hin4 hfz
            rw [HTj] at hc0 hc4 hf4
            simp only [Nat.add_zero] at hc0
            obtain ⟨Dm, hown, hD⟩ := CM.out
            have OM := Lib.hid hown
            have HLk : Hid (Dm.atKey (keyIn x) (.lit (.int .i64 0)) = .lit (.int .i64 ((countTo L x i : Nat) : Int))) := Lib.hid (hD.2 x)
            have hne := card_map_ne O.out CM.out
            obtain ⟨cx, hcx⟩ : ∃ c, countTo L x i = c := ⟨_, rfl⟩
            rw [hcx] at HLk HS hcb
            clear hown hD hcx
            have O4 := Lib.hid (rowC_count (n := j) HLe.symm O.out HTj.symm (cx : Int))
            have hgo : ¬ wp.heap.size = go := by omega
            have CM4 := Lib.hid (CM.out.kept (w' := w3.setCell ⟨go, j * 8 + 4, none⟩ (.int .i64 (cx : Int))) (row := some go) (grown_setC (grownOC w3 _) _ _) hne)
            have X4 := Lib.hid (XE.out.other (b := go) (i := j * 8 + 4) (v := .int .i64 (cx : Int)) hgo)
            have B4 := Lib.hid (B.out.setCell (p := ⟨go, j * 8 + 4, none⟩) hbo (.int .i64 (cx : Int)))
            clear O CM XE B
            go_upto_region 16 with ((at_lookup; refine wpList_lookup_own_int _ rfl _ _ 92 rfl 3 3 .i64 lawIn Tryz.underlying92 Tryz.underlying3 (zeroIn _) mb i Dm rfl OM.out _ _ rfl (key_in (by omega) (by omega)) ?_; intro c' hat _; obtain rfl : c' = (cx : Int) := (by have := hat.symm.trans HLk.out; simpa using this); clear hat))
            obtain ⟨w4, hw4⟩ : ∃ y, y = w3.setCell ⟨go, j * 8 + 4, none⟩ (.int .i64 (cx : Int)) := ⟨_, rfl⟩
            rw [← hw4] at O4 CM4 X4 B4 ⊢
            clear hw4 hc0 hc4 hf4 hne OM HLk
            obtain ⟨d0, d1, d2, d3, d4, d5, d6, d7, d8, d9⟩ := X4.out.at.zero
            by_cases hk : k = 1
            · subst hk
              have HS2 : Hid (cardsQ L i (j + 1) = A ++ withCount (withCount (cardOfv x ⟨1, p, l, m, u1, gi, t, us, gr, b⟩) (cx : Int)) 2 :: T) := Lib.hid (by rw [HS]; rfl)
              have hin4 : ∃ y, (valsC (A ++ withCount (cardOfv x ⟨1, p, l, m, u1, gi, t, us, gr, b⟩) (cx : Int) :: T))[A.length * 8 + 4]? = some y := by
                rw [valsC_get _ _ _ (by omega)]
                simp [Card.cells]
              obtain ⟨y5, hin4⟩ := hin4
              have hc4 := O4.out.row.1 _ _ hin4
              have HLe2 : i = (A ++ withCount (cardOfv x ⟨1, p, l, m, u1, gi, t, us, gr, b⟩) (cx : Int) :: T).length := by rw [← HLe]; simp
              have hfz := O4.out.1
              rw [← HLe2] at hfz
              have hf4 : w4.frozen? ⟨go, A.length * 8 + 4, none⟩ = false := World.ownsRow.frozenAt hfz (A.length * 8 + 4)
              rw [HTj] at hc4 hf4
              clear hin4 hfz
              have hne := card_map_ne O4.out CM4.out
              have O5 := Lib.hid (rowC_count (n := j) HLe2 O4.out HTj.symm 2)
              have CM5 := Lib.hid (CM4.out.kept (w' := w4.setCell ⟨go, j * 8 + 4, none⟩ (.int .i64 2)) (row := some go) (grown_setC (grownOC w4 _) _ _) hne)
              have B5 := Lib.hid (B4.out.setCell (p := ⟨go, j * 8 + 4, none⟩) hbo (.int .i64 2))
              clear O4 CM4 X4 B4 HS HLe2
              go_wp2_with fail
              go_roundw
              case rel => exact ⟨j + 1, by go_num, by omega, by rw [HS2.out]; exact O5.out, CM5.out, B5.out⟩
              case measure => simp [intOf]; omega
            · have hk2 : (k == 1) = false := by simpa using hk
              have HS2 : Hid (cardsQ L i (j + 1) = A ++ withCount (cardOfv x ⟨k, p, l, m, u1, gi, t, us, gr, b⟩) (cx : Int) :: T) := Lib.hid (by rw [HS, if_neg hk])
              clear HS hk X4
              go_wp2_with fail
              go_roundw
              case rel => exact ⟨j + 1, by go_num, by omega, by rw [HS2.out]; exact O4.out, CM4.out, B4.out⟩
              case measure => simp [intOf]; omega
          · obtain rfl : j = i := by omega
            have hltj2 : ¬ (j : Int) < (j : Int) := by omega
            rw [HQe.out, ← HF.out] at O
            go_wp2_with fail
            go_ret
            exact ⟨_, rfl, O.out, B.out⟩
end Go.Proofs.YtancidbbkoeokaaGreat

/- What both formats' writing shares: rows of bytes beside a box of functions and a row of cards. -/
namespace Go.Proofs.YtancidbbkoeokaaGreat
open Go.ChangeShapes Go.WideShapes Go.ChangeAt Go.RowKit Go.Deep

theorem own_neW {w : World} {base : Nat} {e t : TypeId} {v : Value} {n g : Nat} {xs : List Value} {cs : Array Value} {fr : Nat × Nat} (h : w.ownsRow base e 1 v n xs) (hg : w.heap[g]? = some (.cells cs t fr)) (ht : ¬ t = e) : some g ≠ v.ownBlock := by
  intro e1
  rcases h.2 with ⟨h0, _⟩ | ⟨g', cap', cur, hv, hg', hh, _⟩
  · subst h0; simp [Value.ownBlock] at e1
  · subst hv
    simp [Value.ownBlock] at e1
    subst e1
    rw [hg] at hh
    simp at hh
    exact ht hh.2.1
theorem ownB_belowW {w w' : World} {base : Nat} {v : Value} {l : List UInt8} (h : OwnB w base v l) (hb : Below w.heap.size w w') : OwnB w' base v l :=
  World.ownsRow.kept h (row := none) ⟨hb.os, hb.tape, hb.output, hb.size, fun k hk _ => hb.block k hk⟩ (by cases hv : v.ownBlock <;> simp)
theorem textW {w : World} {base n : Nat} {v : Value} {l : List UInt8} {s : ByteArray} (hn : n = l.length + s.size) (h : w.ownsRow base 5 1 v n (byteVals l ++ Lib.strCells s)) : OwnB w base v (l ++ s.data.toList) := by
  subst hn
  have e : byteVals l ++ Lib.strCells s = byteVals (l ++ s.data.toList) := by simp [byteVals, Lib.strCells]
  rw [e, show l.length + s.size = (l ++ s.data.toList).length from by simp] at h
  exact h
theorem ba_appW (a b : ByteArray) : (⟨(a.data.toList ++ b.data.toList).toArray⟩ : ByteArray) = a ++ b := by
  apply ba_ext
  simp
theorem ownC_heapW {w : World} {base g n cap : Nat} {L : List Card} (h : OwnC w base (.slice (some ⟨g, 0, none⟩) n cap) L) : ∃ cs fr, w.heap[g]? = some (.cells cs 44 fr) := by
  rcases h.1.2 with ⟨h0, _⟩ | ⟨g', cap', cur, hv, _, hh, _⟩
  · cases h0
  · cases hv
    exact ⟨_, _, hh⟩
theorem rowB_neW {w : World} {base b : Nat} {v v' : Value} {L : List Card} {l : List UInt8} (h : OwnC w b v' L) (o : OwnB w base v l) : v'.ownBlock ≠ v.ownBlock := by
  obtain ⟨g, cap, rfl, _⟩ := h.open
  obtain ⟨cs, fr, hh⟩ := ownC_heapW h
  have := own_neW o hh (by decide)
  simpa [Value.ownBlock] using this
theorem heap_newW (w : World) (o : Obj) (g : Nat) (hg : g = w.heap.size) : (w.alloc o).heap[g]? = some o := by subst hg; exact heap_lastG w o
theorem wpList_store_eqW {P : Program} {ops : Array Oper} {rest : List Oper} {o : Oper} {a : Act} {w w' : World} {Q : Exit → Act → World → Prop} (hgd : o.guard = none) (ty : TypeId) (x y : Operand) (ho : o.op = .store ty x y)
    (g : Addr) (hx : a.eval x = .pointer (some g)) {v : Value} (hy : a.eval y = v) (hr : (storeVar ty g v).run P w = .ok () w') (h : wpList P ops Q rest (a.put o.dst undef) w') : wpList P ops Q (o :: rest) a w :=
  wpList_plain hgd fun _ hK => by
    unfold Oper.wp execOp
    simp only [ho, hx, hy, Instr.storeAt, Instr.sureAddr, Sem.run_bind, Sem.run_pure, Result.andThen_ok, hr]
    exact hK _ _ h
theorem Tryz.sizeCF : (Tryz.prog.info? 50).map (·.size) = some 3 := by kernel_rfl
end Go.Proofs.YtancidbbkoeokaaGreat
