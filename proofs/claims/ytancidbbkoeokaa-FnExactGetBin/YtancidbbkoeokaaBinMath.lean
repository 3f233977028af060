/- Words read and put again; what a card read is put as: plain mathematics. -/
import Derived.Test.YtancidbbkoeokaaCut
import Derived.Test.YtancidbbkoeokaaPut32
import Derived.Test.YtancidbbkoeokaaGet32
import Derived.Test.YtancidbbkoeokaaNewK
namespace Go.Proofs.Ytancidbbkoeokaa
open Go.ChangeShapes Go.WideShapes Go.ChangeAt Go.RowKit

theorem ext_list (s : ByteArray) (a b : Nat) : (s.extract a b).data.toList = (s.data.toList.drop a).take (b - a) := by
  simp [ByteArray.data_extract, Array.toList_extract, List.extract]
theorem ext_cat {s : ByteArray} {a b c : Nat} (h1 : a ≤ b) (h2 : b ≤ c) : s.extract a c = s.extract a b ++ s.extract b c := by
  apply ba_ext
  have e : c - a = (b - a) + (c - b) := by omega
  simp only [ByteArray.data_append, Array.toList_append, ext_list]
  rw [e, List.take_add, List.drop_drop, show a + (b - a) = b from by omega]
theorem ext_two (s : ByteArray) (k : Nat) (h : k + 2 ≤ s.size) : (s.extract k (k + 2)).data.toList = [s.data.toList.getD k 0, s.data.toList.getD (k + 1) 0] := by
  have hl : s.data.toList.length = s.size := by simp
  rw [ext_list, show k + 2 - k = 2 from by omega]
  rw [List.drop_eq_getElem_cons (by omega), List.drop_eq_getElem_cons (by omega)]
  simp only [List.take_succ_cons, List.take_zero]
  rw [List.getD_eq_getElem?_getD, List.getD_eq_getElem?_getD, List.getElem?_eq_getElem (by omega), List.getElem?_eq_getElem (by omega)]
  rfl
theorem nums_at (c : UInt8) : UInt8.ofNat ((c.toNat : Int)).toNat = c := by simp
theorem byte_bd (c : UInt8) : (c.toNat : Int) ≤ 255 ∧ 0 ≤ (c.toNat : Int) := by have := c.toNat_lt; omega
theorem put_get16 (s : ByteArray) (k : Nat) (hi : Bool) (h : k + 2 ≤ s.size) : put16v (get16v s k hi) hi = s.extract k (k + 2) := by
  apply ba_ext
  rw [ext_two s k h]
  obtain ⟨a1, a0⟩ := byte_bd (s.data.toList.getD k 0)
  obtain ⟨b1, b0⟩ := byte_bd (s.data.toList.getD (k + 1) 0)
  have ha := nums_at (s.data.toList.getD k 0)
  have hb := nums_at (s.data.toList.getD (k + 1) 0)
  rw [get16v, if_neg (by omega), Int.toNat_natCast]
  unfold byteAt
  generalize s.data.toList.getD k 0 = x at *
  generalize s.data.toList.getD (k + 1) 0 = y at *
  generalize hX : (x.toNat : Int) = X at *
  generalize hY : (y.toNat : Int) = Y at *
  cases hi
  · have e1 : (256 * Y + X) % 256 = X := by omega
    have e2 : (256 * Y + X) / 256 % 256 = Y := by omega
    simp [put16v, put16l, strOfNums, e1, e2, ha, hb]
  · have e1 : (256 * X + Y) % 256 = Y := by omega
    have e2 : (256 * X + Y) / 256 % 256 = X := by omega
    simp [put16v, put16l, strOfNums, e1, e2, ha, hb]
theorem get16_bd {s : ByteArray} {k : Nat} (hi : Bool) (h : k + 2 ≤ s.size) : 0 ≤ get16v s k hi ∧ get16v s k hi ≤ 65535 := by
  obtain ⟨a1, a0⟩ := byte_bd (s.data.toList.getD k 0)
  obtain ⟨b1, b0⟩ := byte_bd (s.data.toList.getD (k + 1) 0)
  rw [get16v, if_neg (by omega), Int.toNat_natCast]
  unfold byteAt
  split <;> omega
theorem get32_bd {s : ByteArray} {k : Nat} (hi : Bool) (h : k + 4 ≤ s.size) : 0 ≤ get32v s k hi ∧ get32v s k hi ≤ 4294967295 := by
  have h1 := get16_bd (s := s) (k := k) hi (by omega)
  have h2 := get16_bd (s := s) (k := k + 2) hi (by omega)
  rw [get32v, if_neg (by omega), show ((k : Nat) : Int) + 2 = ((k + 2 : Nat) : Int) from by omega]
  omega
theorem strOf_app (a b : List Int) : strOfNums (a ++ b) = strOfNums a ++ strOfNums b := by
  apply ba_ext
  simp [strOfNums]
theorem put16l_mod (a b : Int) (hi : Bool) (h : a % 65536 = b % 65536) : put16l a hi = put16l b hi := by
  have e1 : a % 256 = b % 256 := by omega
  have e2 : a / 256 % 256 = b / 256 % 256 := by omega
  unfold put16l
  rw [e1, e2]
theorem put_get32 (s : ByteArray) (k : Nat) (hi : Bool) (h : k + 4 ≤ s.size) : put32v (get32v s k hi) hi = s.extract k (k + 4) := by
  have h1 := get16_bd (s := s) (k := k) hi (by omega)
  have h2 := get16_bd (s := s) (k := k + 2) hi (by omega)
  have p1 := put_get16 s k hi (by omega)
  have p2 := put_get16 s (k + 2) hi (by omega)
  rw [get32v, if_neg (by omega), show ((k : Nat) : Int) + 2 = ((k + 2 : Nat) : Int) from by omega, put32v, strOf_app]
  generalize get16v s k hi = x at *
  generalize get16v s ((k + 2 : Nat) : Int) hi = y at *
  have e1 : put16l ((65536 * x + y) / 65536) hi = put16l x hi := put16l_mod _ _ _ (by omega)
  have e2 : put16l (65536 * x + y) hi = put16l y hi := put16l_mod _ _ _ (by omega)
  rw [e1, e2]
  show put16v x hi ++ put16v y hi = _
  rw [p1, p2]
  exact (ext_cat (by omega) (by omega)).symm
theorem put16_size (n : Int) (hi : Bool) : (put16v n hi).size = 2 := by cases hi <;> rfl
theorem put32_size (n : Int) (hi : Bool) : (put32v n hi).size = 4 := by cases hi <;> rfl
theorem put16_inj {a b : Int} {hi : Bool} (ha : 0 ≤ a ∧ a ≤ 65535) (hb : 0 ≤ b ∧ b ≤ 65535) (h : put16v a hi = put16v b hi) : a = b := by
  have hl := congrArg (fun b : ByteArray => b.data.toList) h
  have u8 : ∀ x y : Int, 0 ≤ x → x < 256 → 0 ≤ y → y < 256 → UInt8.ofNat x.toNat = UInt8.ofNat y.toNat → x = y := by
    intro x y h1 h2 h3 h4 h5
    have := congrArg UInt8.toNat h5
    simp at this
    omega
  cases hi <;> simp [put16v, put16l, strOfNums] at hl <;> obtain ⟨h1, h2⟩ := hl
  · have := u8 _ _ (by omega) (by omega) (by omega) (by omega) h1
    have := u8 _ _ (by omega) (by omega) (by omega) (by omega) h2
    omega
  · have := u8 _ _ (by omega) (by omega) (by omega) (by omega) h1
    have := u8 _ _ (by omega) (by omega) (by omega) (by omega) h2
    omega
theorem app_inj {a b c d : ByteArray} (h : a ++ b = c ++ d) (hs : a.size = c.size) : a = c ∧ b = d := by
  have h1 := congrArg (fun b : ByteArray => b.data.toList) h
  simp only [ByteArray.data_append, Array.toList_append] at h1
  obtain ⟨h2, h3⟩ := List.append_inj h1 (by simpa using hs)
  exact ⟨ba_ext h2, ba_ext h3⟩
theorem nz_free (l : List UInt8) : Nz (nulFree l) := by
  induction l with
  | nil => intro c hc; simp [nulFree] at hc
  | cons x l ih =>
    intro c hc
    by_cases hx : x = 0
    · subst hx; simp [nulFree] at hc
    · have e : nulFree (x :: l) = x :: nulFree l := by simp [nulFree, hx]
      rw [e, List.mem_cons] at hc
      rcases hc with rfl | hc
      · exact hx
      · exact ih c hc
theorem free_app_zero {a b : List UInt8} (h : Nz a) : nulFree (a ++ 0 :: b) = a := by
  rw [nulFree_append h]
  simp [nulFree]
/-- A text of which the first NUL is the last byte. -/
theorem free_last {l : List UInt8} (h : (nulFree l).length + 1 = l.length) : l = nulFree l ++ [0] := by
  have e : l = nulFree l ++ l.dropWhile (· != 0) := (List.takeWhile_append_dropWhile).symm
  have hl : (l.dropWhile (· != 0)).length = 1 := by
    have := congrArg List.length e
    rw [List.length_append] at this
    omega
  match hd : l.dropWhile (· != 0), hl with
  | [c], _ =>
    have hc : c = 0 := by
      have h9 : ¬ (c != 0) = true := by
        have := List.head_dropWhile_not (p := (· != (0 : UInt8))) (l := l) (by rw [hd]; simp)
        simp only [hd, List.head_cons] at this
        simpa using this
      simpa using h9
    rw [hc] at hd
    rw [hd] at e
    exact e
theorem cut_zero {p : ByteArray} {t : ByteArray} (h : Nz p.data.toList) : cutv (p ++ ⟨#[0]⟩ ++ t) = p := by
  apply ba_ext
  have e : (p ++ (⟨#[0]⟩ : ByteArray) ++ t).data.toList = p.data.toList ++ 0 :: t.data.toList := by simp
  simp only [cutv, e]
  exact free_app_zero h
theorem cut_nz (s : ByteArray) : Nz (cutv s).data.toList := by
  have : (cutv s).data.toList = nulFree s.data.toList := rfl
  rw [this]
  exact nz_free _
theorem cut_last {s : ByteArray} (h : (cutv s).size + 1 = s.size) : s = cutv s ++ ⟨#[0]⟩ := by
  apply ba_ext
  have h1 : (cutv s).size = (nulFree s.data.toList).length := by simp [cutv, ByteArray.size]
  have h2 : s.data.toList.length = s.size := by simp
  have := free_last (l := s.data.toList) (by omega)
  rw [this]
  simp [cutv]
/-- What a card read is put as again is what it was read from, just where its name ends with its only NUL and its gaps are NULs. -/
theorem bin_texts {nm gp d t A D : ByteArray} {hi : Bool} {sz g2 q2 : Nat} (hsz : nm.size = sz) (h16 : sz ≤ 65535) (hgp : gp.size = g2) (hg2 : g2 = sz % 2) (ht : t.size = q2) :
    ((cutv (nm ++ gp)).size + 1 ≤ 65535 ∧ A ++ put16v (((cutv (nm ++ gp)).size : Int) + 1) hi ++ D ++ cutv (nm ++ gp) ++ ⟨#[0]⟩ ++ nulN (((cutv (nm ++ gp)).size + 1) % 2) ++ d ++ nulN q2 = A ++ put16v (sz : Int) hi ++ D ++ nm ++ gp ++ d ++ t) ↔ ((cutv nm).size + 1 = sz ∧ gp = nulN g2 ∧ t = nulN q2) := by
  have nsz : ∀ n, (nulN n).size = n := fun n => by show (List.replicate n (0 : UInt8)).toArray.size = n; rw [List.size_toArray, List.length_replicate]
  constructor
  · rintro ⟨h1, h⟩
    simp only [ByteArray.append_assoc] at h
    obtain ⟨_, h⟩ := app_inj h rfl
    obtain ⟨e1, h⟩ := app_inj h (by rw [put16_size, put16_size])
    have e2 : (cutv (nm ++ gp)).size + 1 = sz := by
      have := put16_inj (by omega) (by omega) e1
      omega
    obtain ⟨_, h⟩ := app_inj h rfl
    have hh : (cutv (nm ++ gp) ++ ⟨#[0]⟩) ++ (nulN (((cutv (nm ++ gp)).size + 1) % 2) ++ (d ++ nulN q2)) = nm ++ (gp ++ (d ++ t)) := by
      rw [ByteArray.append_assoc]; exact h
    have z1 : (⟨#[0]⟩ : ByteArray).size = 1 := rfl
    obtain ⟨e3, h4⟩ := app_inj hh (by rw [ByteArray.size_append]; omega)
    rw [e2, ← hg2] at h4
    obtain ⟨e4, h5⟩ := app_inj h4 (by rw [nsz, hgp])
    obtain ⟨_, h6⟩ := app_inj h5 rfl
    refine ⟨?_, e4.symm, h6.symm⟩
    rw [← e3]
    have e5 : cutv (nm ++ gp) ++ ⟨#[0]⟩ = cutv (nm ++ gp) ++ ⟨#[0]⟩ ++ (⟨#[]⟩ : ByteArray) := by apply ba_ext; simp
    rw [e5, cut_zero (cut_nz _)]
    exact e2
  · rintro ⟨h1, rfl, rfl⟩
    have e1 := cut_last (s := nm) (by omega)
    have e2 : cutv (nm ++ nulN g2) = cutv nm := by
      conv => lhs; rw [e1]
      exact cut_zero (cut_nz _)
    rw [e2]
    refine ⟨by omega, ?_⟩
    rw [show (((cutv nm).size : Int) + 1) = (sz : Int) from by omega, h1, ← hg2]
    conv => rhs; rw [e1]
    simp only [ByteArray.append_assoc]
theorem bin_path {nm gp : ByteArray} {sz : Nat} (hsz : nm.size = sz) (h : (cutv nm).size + 1 = sz) : cutv (nm ++ gp) = cutv nm := by
  have e1 := cut_last (s := nm) (by omega)
  conv => lhs; rw [e1]
  exact cut_zero (cut_nz _)
end Go.Proofs.Ytancidbbkoeokaa
