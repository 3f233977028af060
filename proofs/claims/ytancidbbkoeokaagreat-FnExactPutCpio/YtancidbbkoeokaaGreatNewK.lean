/- Small functions of cards with hexadecimal numbers: magic, padding, sums. -/
import Derived.Test.YtancidbbkoeokaaGreatPad
import Derived.Test.YtancidbbkoeokaaGreatSum
import Derived.Test.YtancidbbkoeokaaGreatPartMath
namespace Go.Proofs.YtancidbbkoeokaaGreat
open Go.ChangeShapes Go.WideShapes Go.ChangeAt Go.RowKit

theorem sumL_spec (s : ByteArray) (w : World) (hs : s.size ≤ 4194304) :
    Calls Tryz.prog 71 #[.string s] w fun e w' => e = .returned (.int .i64 (sumv s.data.toList)) ∧ w = w' := by
  go_enter Tryz.func71, Tryz.ntmps71
  go_wp2
  go_loop [3, 4] (fun n i => ∃ k : Nat, k ≤ s.size ∧ i = .int .i64 k ∧ n = .int .i64 (sumv (s.data.toList.take k))) (fun _ i => s.size - (intOf i).toNat)
  case atStart => exact ⟨0, Nat.zero_le _, rfl, rfl⟩
  case round =>
    obtain ⟨k, hk, rfl, rfl⟩ := hrel
    have hd := sumv_bd (s.data.toList.take k)
    have hl : (s.data.toList.take k).length ≤ k := List.length_take_le _ _
    by_cases hlt : k < s.size
    · have HS := Lib.hid (show sumv (s.data.toList.take (k + 1)) = sumv (s.data.toList.take k) + (s[k].toNat : Int) by rw [take_snoc s k hlt]; exact sumv_snoc _ _)
      have hc := UInt8.toNat_lt s[k]
      go_wp2
      go_round
      case rel => exact ⟨k + 1, by omega, by go_num, by rw [HS.out]⟩
      case measure => simp [intOf]; omega
    · go_wp2
      go_ret
      exact ⟨ret_int (by rw [List.take_of_length_le (by simp; omega)]), rfl⟩

def mgN (crc : Bool) : ByteArray := if crc then ⟨#[48, 55, 48, 55, 48, 50]⟩ else ⟨#[48, 55, 48, 55, 48, 49]⟩
theorem mgN_size (crc : Bool) : (mgN crc).size = 6 := by cases crc <;> rfl
def pad4 (n : Nat) : Nat := (4 - n % 4) % 4
theorem padv4 (n : Nat) (h : n ≤ 9007199254740991) : padv (n : Int) 4 = (pad4 n : Int) := by
  unfold padv pad4
  rw [if_pos (by omega)]
  omega
theorem pad4_le (n : Nat) : pad4 n ≤ 3 := by unfold pad4; omega
def nulN (n : Nat) : ByteArray := ⟨(List.replicate n 0).toArray⟩
theorem nulN_size (n : Nat) : (nulN n).size = n := by
  show (List.replicate n (0 : UInt8)).toArray.size = n
  rw [List.size_toArray, List.length_replicate]
theorem sumv_zero : ∀ (l : List UInt8), sumv l = 0 ↔ l = List.replicate l.length 0 := by
  intro l
  induction l with
  | nil => exact ⟨fun _ => rfl, fun _ => rfl⟩
  | cons c l ih =>
    have h1 := sumv_bd l
    have e : sumv (c :: l) = (c.toNat : Int) + sumv l := by simp [sumv]
    rw [e, List.length_cons, List.replicate_succ]
    constructor
    · intro h
      have hc : c.toNat = 0 := by omega
      have hl : sumv l = 0 := by omega
      have hc0 : c = 0 := UInt8.toNat_inj.1 hc
      rw [hc0, ← ih.1 hl]
    · intro h
      injection h with h2 h3
      rw [ih.2 h3, h2]
      rfl
def isNul (s : ByteArray) : Bool := decide (sumv s.data.toList = 0)
theorem nulN_list (n : Nat) : (nulN n).data.toList = List.replicate n 0 := rfl
theorem isNul_iff (s : ByteArray) : isNul s = true ↔ s = nulN s.size := by
  have hz : s.data.toList.length = s.size := Array.length_toList
  unfold isNul
  rw [decide_eq_true_iff, sumv_zero, hz]
  constructor
  · intro h
    exact ba_ext (h.trans (nulN_list s.size).symm)
  · intro h
    have h2 := congrArg (fun b : ByteArray => b.data.toList) h
    exact h2.trans (nulN_list s.size)
def sumN (crc : Bool) (d : ByteArray) : Int := if crc then sumv d.data.toList else 0
theorem nulN_lit : nulN 0 = ⟨#[]⟩ ∧ nulN 1 = ⟨#[0]⟩ ∧ nulN 2 = ⟨#[0, 0]⟩ ∧ nulN 3 = ⟨#[0, 0, 0]⟩ := ⟨rfl, rfl, rfl, rfl⟩
end Go.Proofs.YtancidbbkoeokaaGreat
