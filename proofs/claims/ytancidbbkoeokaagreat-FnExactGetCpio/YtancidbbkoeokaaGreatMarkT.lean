/- Contract of laws.markText: a text that its number alone decides. -/
import Derived.Test.YtancidbbkoeokaaGreatOwn
namespace Go.Proofs.YtancidbbkoeokaaGreat
open Go.ChangeShapes Go.WideShapes Go.ChangeAt Go.RowKit

def mdig (k : Nat) : List UInt8 := if _h : k = 0 then [] else mdig (k / 10) ++ [UInt8.ofNat (48 + k % 10)]
termination_by k
decreasing_by omega
theorem mdig_zero : mdig 0 = [] := by rw [mdig]; simp
theorem mdig_pos {k : Nat} (h : 0 < k) : mdig k = mdig (k / 10) ++ [UInt8.ofNat (48 + k % 10)] := by rw [mdig]; simp [show k ≠ 0 from by omega]
theorem mdig_le (k : Nat) : (mdig k).length ≤ k := by
  induction k using Nat.strongRecOn with
  | ind k ih =>
    by_cases h : k = 0
    · subst h; simp [mdig_zero]
    · rw [mdig_pos (by omega)]
      have := ih (k / 10) (by omega)
      simp; omega
def markv (k : Nat) : ByteArray := ⟨#[109]⟩ ++ ⟨(mdig k).toArray⟩
def MarkFrom (k j : Nat) (o : ByteArray) : Prop := mdig j ++ o.data.toList = mdig k
theorem MarkFrom.size {k j : Nat} {o : ByteArray} (h : MarkFrom k j o) : o.size ≤ k := by
  have h1 := congrArg List.length h
  have h2 := mdig_le k
  simp at h1
  omega
theorem MarkFrom.step {k j : Nat} {o : ByteArray} (h : MarkFrom k j o) (hj : 0 < j) : MarkFrom k (j / 10) ((⟨#[UInt8.ofNat (48 + j % 10)]⟩ : ByteArray) ++ o) := by
  unfold MarkFrom at h ⊢
  rw [mdig_pos hj] at h
  rw [← h]
  simp
theorem mark_conv (w : World) (c : UInt8) :
    (convert 66 9 (.slice (some ⟨w.heap.size, 0, none⟩) 1 1)).run Tryz.prog (w.alloc (.cells #[.int .u8 ((c.toNat : Nat) : Int)] 5)) = .ok (.string ⟨#[c]⟩) (w.alloc (.cells #[.int .u8 ((c.toNat : Nat) : Int)] 5)) := by
  have h : OwnB (w.alloc (.cells #[.int .u8 ((c.toNat : Nat) : Int)] 5)) 0 (.slice (some ⟨w.heap.size, 0, none⟩) 1 1) [c] := World.ownsRow_lit w _ 1 (Nat.zero_le _) (by simp [maxLen]) rfl
  exact h.conv
theorem mdigit (j : Nat) : (((UInt8.ofNat (48 + j % 10)).toNat : Nat) : Int) = 48 + (j : Int) % 10 := by
  have : (UInt8.ofNat (48 + j % 10)).toNat = 48 + j % 10 := by simp; omega
  rw [this]; omega

theorem markText_any (k : Nat) (w : World) (h0 : 1 ≤ k) (h1 : k ≤ 134217728) :
    Calls Tryz.prog 29 #[.int .i64 k] w fun e w' => e = .returned (.string (markv k)) ∧ Below w.heap.size w w' := by
  go_enter Tryz.func29, Tryz.ntmps29
  go_wp2
  go_loopw [0, 3] (fun x v wr => ∃ (j : Nat) (o : ByteArray), j ≤ k ∧ x = .int .i64 j ∧ v = .string o ∧ MarkFrom k j o ∧ Below w.heap.size w wr) (fun x _ _ => (intOf x).toNat)
  case atStart => exact ⟨k, _, Nat.le_refl _, rfl, rfl, by simp [MarkFrom], Below.refl _ _⟩
  case round =>
    obtain ⟨j, o, hj, rfl, rfl, hm, hb⟩ := hrel
    have hos := hm.size
    have HM := Lib.hid hm
    have HB := Lib.hid hb
    have hsz := hb.size
    clear hm hb
    by_cases hlt : 0 < j
    · have hc := mark_conv wr (UInt8.ofNat (48 + j % 10))
      rw [mdigit] at hc
      go_wp2
      go_roundw
      case rel => exact ⟨j / 10, _, by omega, by go_num, rfl, (by have h := HM.out.step hlt; simpa using h), HB.out.alloc hsz _⟩
      case measure => simp [intOf]; omega
    · obtain rfl : j = 0 := by omega
      go_wp2
      go_ret
      refine ⟨ret_str ?_, HB.out⟩
      have h := HM.out
      unfold MarkFrom at h
      rw [mdig_zero] at h
      simp [markv, ← h]
end Go.Proofs.YtancidbbkoeokaaGreat
