/- Contract of laws.markText: a text that its number alone decides. -/
import Derived.Test.YtancidbbkoeokaaOwn
namespace Go.Proofs.Ytancidbbkoeokaa
open Go.ChangeShapes Go.WideShapes Go.ChangeAt Go.RowKit

def mdig (k : Nat) : List UInt8 := if _h : k = 0 then [] else mdig (k / 10) ++ [UInt8.ofNat (48 + k % 10)]
termination_by k
decreasing_by omega
theorem mdig_zero : mdig 0 = [] := by rw [mdig]; simp
theorem mdig_pos {k : Nat} (h : 0 < k) : mdig k = mdig (k / 10) ++ [UInt8.ofNat (48 + k % 10)] := by rw [mdig]; simp [show k ≠ 0 from by omega]
theorem mdig_le (k : Nat) : (mdig k).length ≤ k := by
  induction k using Nat.strongRecOn with
  | ind k ih =>
    by_cases h : k = 0
    · subst h; simp [mdig_zero]
    · rw [mdig_pos (by omega)]
      have := ih (k / 10) (by omega)
      simp; omega
def markv (k : Nat) : ByteArray := ⟨#[109]⟩ ++ ⟨(mdig k).toArray⟩
def MarkFrom (k j : Nat) (o : ByteArray) : Prop := mdig j ++ o.data.toList = mdig k
theorem MarkFrom.size {k j : Nat} {o : ByteArray} (h : MarkFrom k j o) : o.size ≤ k := by
  have h1 := congrArg List.length h
  have h2 := mdig_le k
  simp at h1
  omega
theorem MarkFrom.step {k j : Nat} {o : ByteArray} (h : MarkFrom k j o) (hj : 0 < j) : MarkFrom k (j / 10) ((⟨#[UInt8.ofNat (48 + j % 10)]⟩ : ByteArray) ++ o) := by
  unfold MarkFrom at h ⊢
  rw [mdig_pos hj] at h
  rw [← h]
  simp
theorem mark_conv (w : World) (c : UInt8) :
    (convert 51 9 (.slice (some ⟨w.heap.size, 0, none⟩) 1 1)).run Try.prog (w.alloc (.cells #[.int .u8 ((c.toNat : Nat) : Int)] 5)) = .ok (.string ⟨#[c]⟩) (w.alloc (.cells #[.int .u8 ((c.toNat : Nat) : Int)] 5)) := by
  have h : OwnB (w.alloc (.cells #[.int .u8 ((c.toNat : Nat) : Int)] 5)) 0 (.slice (some ⟨w.heap.size, 0, none⟩) 1 1) [c] := World.ownsRow_lit w _ 1 (Nat.zero_le _) (by simp [maxLen]) rfl
  exact h.conv
theorem mdigit (j : Nat) : (((UInt8.ofNat (48 + j % 10)).toNat : Nat) : Int) = 48 + (j : Int) % 10 := by
  have : (UInt8.ofNat (48 + j % 10)).toNat = 48 + j % 10 := by simp; omega
  rw [this]; omega

end Go.Proofs.Ytancidbbkoeokaa
