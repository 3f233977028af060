/- Texts put together with slashes between them. -/
import Derived.Test.YthembgllkfgknaaPMath
import Derived.Test.YthembgllkfgknaaOwnL
namespace Go.Proofs.Ythembgllkfgknaa
open Go.RowKit

def joinB : List ByteArray → List UInt8
  | [] => []
  | [x] => x.data.toList
  | x :: y :: r => x.data.toList ++ 47 :: joinB (y :: r)
def totB (L : List ByteArray) : Nat := (L.map fun x => x.size + 1).sum
def joinTo (L : List ByteArray) (k : Nat) : ByteArray := baL (joinB (L.take k))
def joinv (L : List ByteArray) : ByteArray := baL (joinB L)

theorem joinB_snoc (l : List ByteArray) (x : ByteArray) : joinB (l ++ [x]) = if l = [] then x.data.toList else joinB l ++ 47 :: x.data.toList := by
  induction l with
  | nil => simp [joinB]
  | cons a r ih =>
    cases r with
    | nil => simp [joinB]
    | cons b r =>
      simp only [List.cons_append, joinB] at ih ⊢
      rw [ih]
      simp
theorem joinB_len (l : List ByteArray) : (joinB l).length ≤ totB l := by
  induction l with
  | nil => simp [joinB, totB]
  | cons a r ih =>
    cases r with
    | nil => simp [joinB, totB]
    | cons b r =>
      have e : a.data.toList.length = a.size := by simp
      simp only [joinB, totB, List.map_cons, List.sum_cons, List.length_append, List.length_cons, e] at ih ⊢
      omega
theorem totB_take (L : List ByteArray) (k : Nat) : totB (L.take k) ≤ totB L := by
  induction L generalizing k with
  | nil => simp [totB]
  | cons a r ih =>
    cases k with
    | zero => simp [totB]
    | succ k =>
      have := ih k
      simp only [totB, List.take_succ_cons, List.map_cons, List.sum_cons] at this ⊢
      omega
theorem totB_mem {L : List ByteArray} {x : ByteArray} (h : x ∈ L) : x.size + 1 ≤ totB L := by
  induction L with
  | nil => cases h
  | cons a r ih =>
    simp only [totB, List.map_cons, List.sum_cons] at ih ⊢
    rcases List.mem_cons.1 h with rfl | h
    · omega
    · have := ih h; omega
theorem totB_snoc (L : List ByteArray) (x : ByteArray) : totB (L ++ [x]) = totB L + (x.size + 1) := by simp [totB]
theorem totB_len (L : List ByteArray) : L.length ≤ totB L := by
  induction L with
  | nil => simp [totB]
  | cons a r ih => simp only [totB, List.map_cons, List.sum_cons, List.length_cons] at ih ⊢; omega
theorem joinTo_size (L : List ByteArray) (k : Nat) : (joinTo L k).size ≤ totB L := by
  rw [joinTo, baL_size]
  exact Nat.le_trans (joinB_len _) (totB_take L k)
theorem take_rowOf {L : List ByteArray} {k : Nat} (h : k < L.length) : L.take (k + 1) = L.take k ++ [rowOf L k] := by
  rw [List.take_succ_eq_append_getElem h]
  simp [rowOf, List.getD, List.getElem?_eq_getElem h]
theorem joinTo_zero (L : List ByteArray) : joinTo L 0 = ⟨#[]⟩ := by simp [joinTo, joinB, baL]
theorem joinTo_one {L : List ByteArray} (h : 0 < L.length) : joinTo L 1 = rowOf L 0 := by
  rw [joinTo, take_rowOf h]
  simp [joinB, ba_baL]
theorem joinTo_succ {L : List ByteArray} {k : Nat} (h : k < L.length) (h0 : 0 < k) : joinTo L (k + 1) = joinTo L k ++ ⟨#[47]⟩ ++ rowOf L k := by
  have hne : L.take k ≠ [] := by
    intro e
    have := congrArg List.length e
    rw [List.length_take, List.length_nil] at this
    omega
  apply ba_ext
  rw [joinTo, take_rowOf h, joinB_snoc, if_neg hne]
  simp [joinTo, baL]
theorem joinTo_all (L : List ByteArray) : joinTo L L.length = joinv L := by simp [joinTo, joinv]
theorem rowOf_in {L : List ByteArray} {k : Nat} (h : k < L.length) : rowOf L k ∈ L := by
  simp [rowOf, List.getD, List.getElem?_eq_getElem h]
theorem rowOf_size {L : List ByteArray} {k : Nat} (h : k < L.length) : (rowOf L k).size ≤ totB L := by
  have := totB_mem (rowOf_in h); omega

theorem partsL_ne (l : List UInt8) (cur : List UInt8) : partsL cur l ≠ [] := by
  intro h
  have := partsL_len l cur
  rw [h] at this; simp at this
theorem joinB_parts (l : List UInt8) : ∀ cur, joinB ((partsL cur l).map baL) = cur ++ l := by
  induction l with
  | nil => intro cur; simp [partsL, joinB, baL]
  | cons c r ih =>
    intro cur
    by_cases hc : c = 47
    · subst hc
      simp only [partsL, if_true, List.map_cons]
      have h1 := ih []
      cases hp : partsL [] r with
      | nil => exact absurd hp (partsL_ne r [])
      | cons y ys =>
        rw [hp] at h1
        simp only [List.map_cons] at h1 ⊢
        rw [joinB, h1]
        simp [baL]
    · simp only [partsL, hc, if_false]
      rw [ih]; simp
theorem join_parts (s : ByteArray) : joinv (partsv s) = s := by
  rw [joinv, partsv, joinB_parts]
  simp [ba_baL]
theorem totB_parts (s : ByteArray) : totB (partsv s) = s.size + 1 := by
  have h : ∀ (l cur : List UInt8), totB ((partsL cur l).map baL) = cur.length + l.length + 1 := by
    intro l
    induction l with
    | nil => intro cur; simp [partsL, totB, baL_size]
    | cons c r ih =>
      intro cur
      by_cases hc : c = 47
      · subst hc
        have := ih []
        simp only [partsL, if_true, List.map_cons, totB, List.sum_cons, baL_size, List.length_nil, List.length_cons] at this ⊢
        omega
      · simp only [partsL, hc, if_false]
        rw [ih]; simp; omega
  rw [partsv, h]; simp
end Go.Proofs.Ythembgllkfgknaa
