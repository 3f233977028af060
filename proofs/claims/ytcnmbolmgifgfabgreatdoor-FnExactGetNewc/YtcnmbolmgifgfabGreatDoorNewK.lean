/- Small functions of cards with hexadecimal numbers: magic, padding, sums. -/
import Derived.Test.YtcnmbolmgifgfabGreatDoorPad
import Derived.Test.YtcnmbolmgifgfabGreatDoorSum
import Derived.Test.YtcnmbolmgifgfabGreatDoorPartMath
namespace Go.Proofs.YtcnmbolmgifgfabGreatDoor
open Go.ChangeShapes Go.WideShapes Go.ChangeAt Go.RowKit

theorem sumL_spec (s : ByteArray) (w : World) (hs : s.size ≤ 4194304) :
    Calls Tryz.prog 93 #[.string s] w fun e w' => e = .returned (.int .i64 (sumv s.data.toList)) ∧ w = w' := by
  go_enter Tryz.func93, Tryz.ntmps93
  go_wp2
  go_loop [3, 4] (fun n i => ∃ k : Nat, k ≤ s.size ∧ i = .int .i64 k ∧ n = .int .i64 (sumv (s.data.toList.take k))) (fun _ i => s.size - (intOf i).toNat)
  case atStart => exact ⟨0, Nat.zero_le _, rfl, rfl⟩
  case round =>
    obtain ⟨k, hk, rfl, rfl⟩ := hrel
    have hd := sumv_bd (s.data.toList.take k)
    have hl : (s.data.toList.take k).length ≤ k := List.length_take_le _ _
    by_cases hlt : k < s.size
    · have HS := Lib.hid (show sumv (s.data.toList.take (k + 1)) = sumv (s.data.toList.take k) + (s[k].toNat : Int) by rw [take_snoc s k hlt]; exact sumv_snoc _ _)
      have hc := UInt8.toNat_lt s[k]
      go_wp2
      go_round
      case rel => exact ⟨k + 1, by omega, by go_num, by rw [HS.out]⟩
      case measure => simp [intOf]; omega
    · go_wp2
      go_ret
      exact ⟨ret_int (by rw [List.take_of_length_le (by simp; omega)]), rfl⟩

theorem sumL_impl (s : ByteArray) (w : World) (hs : s.size ≤ 4194304) :
    Calls Tryz.prog 141 #[.string s] w fun e w' => e = .returned (.int .i64 (sumv s.data.toList)) ∧ w = w' := by
  go_enter Tryz.func141, Tryz.ntmps141
  go_wp2
  go_loop [3, 7] (fun n i => ∃ k : Nat, k ≤ s.size ∧ i = .int .i64 k ∧ n = .int .i64 (sumv (s.data.toList.take k))) (fun _ i => s.size - (intOf i).toNat)
  case atStart => exact ⟨0, Nat.zero_le _, rfl, rfl⟩
  case round =>
    obtain ⟨k, hk, rfl, rfl⟩ := hrel
    have hd := sumv_bd (s.data.toList.take k)
    have hl : (s.data.toList.take k).length ≤ k := List.length_take_le _ _
    by_cases hlt : k < s.size
    · have HS := Lib.hid (show sumv (s.data.toList.take (k + 1)) = sumv (s.data.toList.take k) + (s[k].toNat : Int) by rw [take_snoc s k hlt]; exact sumv_snoc _ _)
      have hc := UInt8.toNat_lt s[k]
      go_wp2
      go_round
      case rel => exact ⟨k + 1, by omega, by go_num, by rw [HS.out]⟩
      case measure => simp [intOf]; omega
    · go_wp2
      go_ret
      exact ⟨ret_int (by rw [List.take_of_length_le (by simp; omega)]), rfl⟩

def mgN (crc : Bool) : ByteArray := if crc then ⟨#[48, 55, 48, 55, 48, 50]⟩ else ⟨#[48, 55, 48, 55, 48, 49]⟩
theorem mgN_size (crc : Bool) : (mgN crc).size = 6 := by cases crc <;> rfl
def pad4 (n : Nat) : Nat := (4 - n % 4) % 4
theorem padv4 (n : Nat) (h : n ≤ 9007199254740991) : padv (n : Int) 4 = (pad4 n : Int) := by
  unfold padv pad4
  rw [if_pos (by omega)]
  omega
theorem pad4_le (n : Nat) : pad4 n ≤ 3 := by unfold pad4; omega
def nulN (n : Nat) : ByteArray := ⟨(List.replicate n 0).toArray⟩
theorem nulN_size (n : Nat) : (nulN n).size = n := by
  show (List.replicate n (0 : UInt8)).toArray.size = n
  rw [List.size_toArray, List.length_replicate]
theorem sumv_zero : ∀ (l : List UInt8), sumv l = 0 ↔ l = List.replicate l.length 0 := by
  intro l
  induction l with
  | nil => exact ⟨fun _ => rfl, fun _ => rfl⟩
  | cons c l ih =>
    have h1 := sumv_bd l
    have e : sumv (c :: l) = (c.toNat : Int) + sumv l := by simp [sumv]
    rw [e, List.length_cons, List.replicate_succ]
    constructor
    · intro h
      have hc : c.toNat = 0 := by omega
      have hl : sumv l = 0 := by omega
      have hc0 : c = 0 := UInt8.toNat_inj.1 hc
      rw [hc0, ← ih.1 hl]
    · intro h
      injection h with h2 h3
      rw [ih.2 h3, h2]
      rfl
def isNul (s : ByteArray) : Bool := decide (sumv s.data.toList = 0)
theorem nulN_list (n : Nat) : (nulN n).data.toList = List.replicate n 0 := rfl
theorem isNul_iff (s : ByteArray) : isNul s = true ↔ s = nulN s.size := by
  have hz : s.data.toList.length = s.size := Array.length_toList
  unfold isNul
  rw [decide_eq_true_iff, sumv_zero, hz]
  constructor
  · intro h
    exact ba_ext (h.trans (nulN_list s.size).symm)
  · intro h
    have h2 := congrArg (fun b : ByteArray => b.data.toList) h
    exact h2.trans (nulN_list s.size)
def sumN (crc : Bool) (d : ByteArray) : Int := if crc then sumv d.data.toList else 0
theorem magicN_any (crc : Bool) (w : World) : Calls Tryz.prog 99 #[.bool crc] w fun e w' => e = .returned (.string (mgN crc)) ∧ w' = w := by
  cases crc with
  | true =>
    go_enter Tryz.func99, Tryz.ntmps99
    go_wp2_with fail
    go_ret
    exact ⟨rfl, rfl⟩
  | false =>
    go_enter Tryz.func99, Tryz.ntmps99
    go_wp2_with fail
    go_ret
    exact ⟨rfl, rfl⟩
theorem sumC_any (d : ByteArray) (crc : Bool) (w : World) (hd : d.size ≤ 4194304) : Calls Tryz.prog 97 #[.string d, .bool crc] w fun e w' => e = .returned (.int .i64 (sumN crc d)) ∧ w' = w := by
  have H := Lib.hid (fun w => sumL_impl d w hd)
  have HE : Hid (sumN true d = sumv d.data.toList ∧ sumN false d = 0) := Lib.hid ⟨rfl, rfl⟩
  generalize sumv d.data.toList = q at H HE
  cases crc with
  | true =>
    rw [HE.out.1]
    go_enter Tryz.func97, Tryz.ntmps97
    go_wp2_with fail
    refine (H.out _).mono ?_
    rintro e w1 ⟨rfl, rfl⟩
    go_wp2_with fail
    go_ret
    exact ⟨rfl, rfl⟩
  | false =>
    rw [HE.out.2]
    go_enter Tryz.func97, Tryz.ntmps97
    go_wp2_with fail
    go_ret
    exact ⟨rfl, rfl⟩
theorem nulN_lit : nulN 0 = ⟨#[]⟩ ∧ nulN 1 = ⟨#[0]⟩ ∧ nulN 2 = ⟨#[0, 0]⟩ ∧ nulN 3 = ⟨#[0, 0, 0]⟩ := ⟨rfl, rfl, rfl, rfl⟩
theorem nuls_any (n : Nat) (w : World) (hn : n ≤ 9007199254740991) : Calls Tryz.prog 100 #[.int .i64 (n : Int)] w fun e w' => e = .returned (.string (nulN (pad4 n))) ∧ w' = w := by
  have a1 : ∀ w, (Op.stringOp .add ⟨#[]⟩ ⟨#[0]⟩).run Tryz.prog w = .ok (.string ⟨#[0]⟩) w := fun w => run_string_add_sum w _ _ (by decide)
  have a2 : ∀ w, (Op.stringOp .add ⟨#[0]⟩ ⟨#[0]⟩).run Tryz.prog w = .ok (.string ⟨#[0, 0]⟩) w := fun w => run_string_add_sum w _ _ (by decide)
  have a3 : ∀ w, (Op.stringOp .add ⟨#[0, 0]⟩ ⟨#[0]⟩).run Tryz.prog w = .ok (.string ⟨#[0, 0, 0]⟩) w := fun w => run_string_add_sum w _ _ (by decide)
  obtain ⟨z0, z1, z2, z3⟩ := nulN_lit
  have h4 : n % 4 = 0 ∨ n % 4 = 1 ∨ n % 4 = 2 ∨ n % 4 = 3 := by omega
  rcases h4 with h | h | h | h
  · have hm : (n : Int) % 4 = 0 := by omega
    have ht : (n : Int).tmod 4 = 0 := by rw [Int.tmod_eq_emod_of_nonneg (by omega)]; exact hm
    rw [show pad4 n = 0 from by unfold pad4; omega, z0]
    clear z0 z1 z2 z3 h
    go_enter Tryz.func100, Tryz.ntmps100
    go_wp2_with fail
    go_ret
    exact ⟨rfl, rfl⟩
  · have hm : (n : Int) % 4 = 1 := by omega
    have ht : (n : Int).tmod 4 = 1 := by rw [Int.tmod_eq_emod_of_nonneg (by omega)]; exact hm
    rw [show pad4 n = 3 from by unfold pad4; omega, z3]
    clear z0 z1 z2 z3 h
    go_enter Tryz.func100, Tryz.ntmps100
    go_wp2_with fail
    go_ret
    exact ⟨rfl, rfl⟩
  · have hm : (n : Int) % 4 = 2 := by omega
    have ht : (n : Int).tmod 4 = 2 := by rw [Int.tmod_eq_emod_of_nonneg (by omega)]; exact hm
    rw [show pad4 n = 2 from by unfold pad4; omega, z2]
    clear z0 z1 z2 z3 h
    go_enter Tryz.func100, Tryz.ntmps100
    go_wp2_with fail
    go_ret
    exact ⟨rfl, rfl⟩
  · have hm : (n : Int) % 4 = 3 := by omega
    have ht : (n : Int).tmod 4 = 3 := by rw [Int.tmod_eq_emod_of_nonneg (by omega)]; exact hm
    rw [show pad4 n = 1 from by unfold pad4; omega, z1]
    clear z0 z1 z2 z3 h
    go_enter Tryz.func100, Tryz.ntmps100
    go_wp2_with fail
    go_ret
    exact ⟨rfl, rfl⟩
theorem l08Magic_any (crc : Bool) (w : World) : Calls Tryz.prog 51 #[.bool crc] w fun e w' => e = .returned (.string (mgN crc)) ∧ w' = w := by
  cases crc with
  | true =>
    go_enter Tryz.func51, Tryz.ntmps51
    go_wp2_with fail
    go_ret
    exact ⟨rfl, rfl⟩
  | false =>
    go_enter Tryz.func51, Tryz.ntmps51
    go_wp2_with fail
    go_ret
    exact ⟨rfl, rfl⟩
theorem l08Sum_any (d : ByteArray) (crc : Bool) (w : World) (hd : d.size ≤ 4194304) : Calls Tryz.prog 52 #[.string d, .bool crc] w fun e w' => e = .returned (.int .i64 (sumN crc d)) ∧ w' = w := by
  have H := Lib.hid (fun w => sumL_spec d w hd)
  have HE : Hid (sumN true d = sumv d.data.toList ∧ sumN false d = 0) := Lib.hid ⟨rfl, rfl⟩
  generalize sumv d.data.toList = q at H HE
  cases crc with
  | true =>
    rw [HE.out.1]
    go_enter Tryz.func52, Tryz.ntmps52
    go_wp2_with fail
    refine (H.out _).mono ?_
    rintro e w1 ⟨rfl, rfl⟩
    go_wp2_with fail
    go_ret
    exact ⟨rfl, rfl⟩
  | false =>
    rw [HE.out.2]
    go_enter Tryz.func52, Tryz.ntmps52
    go_wp2_with fail
    go_ret
    exact ⟨rfl, rfl⟩
end Go.Proofs.YtcnmbolmgifgfabGreatDoor
