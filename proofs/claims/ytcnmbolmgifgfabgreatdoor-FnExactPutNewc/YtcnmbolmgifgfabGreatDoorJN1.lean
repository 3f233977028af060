/- Texts joined: Pad, Sum, NewK, NulS, NewText, UserI, EntOkI, CpioF, NewF, NewcS, NrF, NewDig, PutNwI, FindI, Clone, CardOf, MapS, KindMath. -/
import Derived.Test.YtcnmbolmgifgfabGreatDoorIn
import Derived.Test.YtcnmbolmgifgfabGreatDoorCom
import Derived.Test.YtcnmbolmgifgfabGreatDoorPartMath
import Derived.Test.YtcnmbolmgifgfabGreatDoorOwn
import Derived.Test.YtcnmbolmgifgfabGreatDoorCardO
import Derived.Test.YtcnmbolmgifgfabGreatDoorPutOH
import Derived.Test.YtcnmbolmgifgfabGreatDoorRegSl
import Derived.Deep.DeepCutAuto
import Derived.OwnWalk
import Derived.Test.YtcnmbolmgifgfabGreatDoorWhoS
import Derived.Test.YtcnmbolmgifgfabGreatDoorVis
import Derived.Test.YtcnmbolmgifgfabGreatDoorEntOk
import Derived.Test.YtcnmbolmgifgfabGreatDoorFindE
import Derived.Test.YtcnmbolmgifgfabGreatDoorCardsS
import Derived.Test.YtcnmbolmgifgfabGreatDoorRegTail
import Derived.Test.YtcnmbolmgifgfabGreatDoorRegInv
import Derived.BigRegion
import Derived.Laws.ResultCell
import Derived.Laws.Rows
import Derived.Laws.Tables
import Derived.Test.YtcnmbolmgifgfabGreatDoorEntAt
import Derived.Shelf.Abstract
import Derived.Test.YtcnmbolmgifgfabGreatDoorShelf
import Derived.Test.YtcnmbolmgifgfabGreatDoorCardMath
import Derived.Test.YtcnmbolmgifgfabGreatDoorEntO
import Derived.Maps.OwnSet
import Derived.Maps.OwnOps
import Derived.Test.YtcnmbolmgifgfabGreatDoorListOk
/- Contracts of spec.Pad, impl.Pad and the law laws.FnExactPad: what each returns for every argument, the world unchanged. -/
namespace Go.Proofs.YtcnmbolmgifgfabGreatDoor
open Go.ChangeShapes Go.WideShapes Go.ChangeAt Go.RowKit

def padv (n u : Int) : Int := if 0 ≤ n ∧ n ≤ 9007199254740991 ∧ 1 ≤ u ∧ u ≤ 512 then (u - n % u) % u else 0

theorem pad_impl (n u : Int) (w : World) : Calls Tryz.prog 123 #[.int .i64 n, .int .i64 u] w fun e w' => e = .returned (.int .i64 (padv n u)) ∧ w = w' := by
  by_cases h1 : 0 ≤ n
  · by_cases h2 : n ≤ 9007199254740991
    · by_cases h3 : 1 ≤ u
      · by_cases h4 : u ≤ 512
        · have hm := Int.emod_nonneg n (show u ≠ 0 by omega)
          have hl := Int.emod_lt_of_pos n (show 0 < u by omega)
          go_enter Tryz.func123, Tryz.ntmps123
          go_wp2
          go_ret
          exact ⟨ret_int (by simp [padv, *]), rfl⟩
        · go_enter Tryz.func123, Tryz.ntmps123
          go_wp2
          go_ret
          exact ⟨ret_int (by simp [padv]; omega), rfl⟩
      · go_enter Tryz.func123, Tryz.ntmps123
        go_wp2
        go_ret
        exact ⟨ret_int (by simp [padv]; omega), rfl⟩
    · go_enter Tryz.func123, Tryz.ntmps123
      go_wp2
      go_ret
      exact ⟨ret_int (by simp [padv]; omega), rfl⟩
  · go_enter Tryz.func123, Tryz.ntmps123
    go_wp2
    go_ret
    exact ⟨ret_int (by simp [padv]; omega), rfl⟩


theorem pad_spec (n u : Int) (w : World) : Calls Tryz.prog 55 #[.int .i64 n, .int .i64 u] w fun e w' => e = .returned (.int .i64 (padv n u)) ∧ w = w' := by
  by_cases h1 : 0 ≤ n ∧ n ≤ 9007199254740991
  · have i1 := inB_t h1
    by_cases h2 : 1 ≤ u ∧ u ≤ 512
    · have i2 := inB_t h2
      have hm := Int.emod_nonneg n (show u ≠ 0 by omega)
      have hl := Int.emod_lt_of_pos n (show 0 < u by omega)
      by_cases h3 : n % u = 0
      · have hz : (n % u == 0) = true := by simp [h3]
        have H := Lib.hid h3
        clear h3
        go_enter Tryz.func55, Tryz.ntmps55
        go_wp2_with (go_at_call 90; refine (in_any _ _ _ _).mono ?_; rintro e w' ⟨rfl, rfl⟩)
        go_ret
        exact ⟨ret_int (by simp [padv, H.out]), rfl⟩
      · have hz : (n % u == 0) = false := by simp [h3]
        go_enter Tryz.func55, Tryz.ntmps55
        go_wp2_with (go_at_call 90; refine (in_any _ _ _ _).mono ?_; rintro e w' ⟨rfl, rfl⟩)
        go_ret
        refine ⟨ret_int ?_, rfl⟩
        rw [padv, if_pos (by omega)]
        exact (Int.emod_eq_of_lt (a := u - n % u) (by omega) (by omega)).symm
    · have i2 := inB_f h2
      go_enter Tryz.func55, Tryz.ntmps55
      go_wp2_with (go_at_call 90; refine (in_any _ _ _ _).mono ?_; rintro e w' ⟨rfl, rfl⟩)
      go_ret
      exact ⟨ret_int (by simp [padv]; omega), rfl⟩
  · have i1 := inB_f h1
    go_enter Tryz.func55, Tryz.ntmps55
    go_wp2_with (go_at_call 90; refine (in_any _ _ _ _).mono ?_; rintro e w' ⟨rfl, rfl⟩)
    go_ret
    exact ⟨ret_int (by simp [padv]; omega), rfl⟩

end Go.Proofs.YtcnmbolmgifgfabGreatDoor

/- Contracts of spec.SumOf, impl.SumOf (on strings of at most 2^20 bytes) and the law laws.FnExactSumOf: what each returns, the world unchanged. -/
namespace Go.Proofs.YtcnmbolmgifgfabGreatDoor
open Go.ChangeShapes Go.WideShapes Go.ChangeAt Go.RowKit

def sumv (l : List UInt8) : Int := (l.map fun c => (c.toNat : Int)).sum
theorem sumv_snoc (l : List UInt8) (c : UInt8) : sumv (l ++ [c]) = sumv l + (c.toNat : Int) := by simp [sumv]
theorem sumv_bd (l : List UInt8) : 0 ≤ sumv l ∧ sumv l ≤ 255 * l.length := by
  induction l with
  | nil => simp [sumv]
  | cons c l ih =>
    have h : sumv (c :: l) = (c.toNat : Int) + sumv l := by simp [sumv]
    have := UInt8.toNat_lt c
    rw [h]; simp only [List.length_cons]; omega

theorem sum_spec (s : ByteArray) (w : World) (hs : s.size ≤ 1048576) :
    Calls Tryz.prog 93 #[.string s] w fun e w' => e = .returned (.int .i64 (sumv s.data.toList)) ∧ w = w' := by
  go_enter Tryz.func93, Tryz.ntmps93
  go_wp2
  go_loop [3, 4] (fun n i => ∃ k : Nat, k ≤ s.size ∧ i = .int .i64 k ∧ n = .int .i64 (sumv (s.data.toList.take k))) (fun _ i => s.size - (intOf i).toNat)
  case atStart => exact ⟨0, Nat.zero_le _, rfl, rfl⟩
  case round =>
    obtain ⟨k, hk, rfl, rfl⟩ := hrel
    have hd := sumv_bd (s.data.toList.take k)
    have hl : (s.data.toList.take k).length ≤ k := List.length_take_le _ _
    by_cases hlt : k < s.size
    · have HS := Lib.hid (show sumv (s.data.toList.take (k + 1)) = sumv (s.data.toList.take k) + (s[k].toNat : Int) by rw [take_snoc s k hlt]; exact sumv_snoc _ _)
      have hc := UInt8.toNat_lt s[k]
      go_wp2
      go_round
      case rel => exact ⟨k + 1, by omega, by go_num, by rw [HS.out]⟩
      case measure => simp [intOf]; omega
    · go_wp2
      go_ret
      exact ⟨ret_int (by rw [List.take_of_length_le (by simp; omega)]), rfl⟩

theorem sum_impl (s : ByteArray) (w : World) (hs : s.size ≤ 1048576) :
    Calls Tryz.prog 141 #[.string s] w fun e w' => e = .returned (.int .i64 (sumv s.data.toList)) ∧ w = w' := by
  go_enter Tryz.func141, Tryz.ntmps141
  go_wp2
  go_loop [3, 7] (fun n i => ∃ k : Nat, k ≤ s.size ∧ i = .int .i64 k ∧ n = .int .i64 (sumv (s.data.toList.take k))) (fun _ i => s.size - (intOf i).toNat)
  case atStart => exact ⟨0, Nat.zero_le _, rfl, rfl⟩
  case round =>
    obtain ⟨k, hk, rfl, rfl⟩ := hrel
    have hd := sumv_bd (s.data.toList.take k)
    have hl : (s.data.toList.take k).length ≤ k := List.length_take_le _ _
    by_cases hlt : k < s.size
    · have HS := Lib.hid (show sumv (s.data.toList.take (k + 1)) = sumv (s.data.toList.take k) + (s[k].toNat : Int) by rw [take_snoc s k hlt]; exact sumv_snoc _ _)
      have hc := UInt8.toNat_lt s[k]
      go_wp2
      go_round
      case rel => exact ⟨k + 1, by omega, by go_num, by rw [HS.out]⟩
      case measure => simp [intOf]; omega
    · go_wp2
      go_ret
      exact ⟨ret_int (by rw [List.take_of_length_le (by simp; omega)]), rfl⟩

end Go.Proofs.YtcnmbolmgifgfabGreatDoor

/- Small functions of cards with hexadecimal numbers: magic, padding, sums. -/
namespace Go.Proofs.YtcnmbolmgifgfabGreatDoor
open Go.ChangeShapes Go.WideShapes Go.ChangeAt Go.RowKit

theorem sumL_spec (s : ByteArray) (w : World) (hs : s.size ≤ 4194304) :
    Calls Tryz.prog 93 #[.string s] w fun e w' => e = .returned (.int .i64 (sumv s.data.toList)) ∧ w = w' := by
  go_enter Tryz.func93, Tryz.ntmps93
  go_wp2
  go_loop [3, 4] (fun n i => ∃ k : Nat, k ≤ s.size ∧ i = .int .i64 k ∧ n = .int .i64 (sumv (s.data.toList.take k))) (fun _ i => s.size - (intOf i).toNat)
  case atStart => exact ⟨0, Nat.zero_le _, rfl, rfl⟩
  case round =>
    obtain ⟨k, hk, rfl, rfl⟩ := hrel
    have hd := sumv_bd (s.data.toList.take k)
    have hl : (s.data.toList.take k).length ≤ k := List.length_take_le _ _
    by_cases hlt : k < s.size
    · have HS := Lib.hid (show sumv (s.data.toList.take (k + 1)) = sumv (s.data.toList.take k) + (s[k].toNat : Int) by rw [take_snoc s k hlt]; exact sumv_snoc _ _)
      have hc := UInt8.toNat_lt s[k]
      go_wp2
      go_round
      case rel => exact ⟨k + 1, by omega, by go_num, by rw [HS.out]⟩
      case measure => simp [intOf]; omega
    · go_wp2
      go_ret
      exact ⟨ret_int (by rw [List.take_of_length_le (by simp; omega)]), rfl⟩

theorem sumL_impl (s : ByteArray) (w : World) (hs : s.size ≤ 4194304) :
    Calls Tryz.prog 141 #[.string s] w fun e w' => e = .returned (.int .i64 (sumv s.data.toList)) ∧ w = w' := by
  go_enter Tryz.func141, Tryz.ntmps141
  go_wp2
  go_loop [3, 7] (fun n i => ∃ k : Nat, k ≤ s.size ∧ i = .int .i64 k ∧ n = .int .i64 (sumv (s.data.toList.take k))) (fun _ i => s.size - (intOf i).toNat)
  case atStart => exact ⟨0, Nat.zero_le _, rfl, rfl⟩
  case round =>
    obtain ⟨k, hk, rfl, rfl⟩ := hrel
    have hd := sumv_bd (s.data.toList.take k)
    have hl : (s.data.toList.take k).length ≤ k := List.length_take_le _ _
    by_cases hlt : k < s.size
    · have HS := Lib.hid (show sumv (s.data.toList.take (k + 1)) = sumv (s.data.toList.take k) + (s[k].toNat : Int) by rw [take_snoc s k hlt]; exact sumv_snoc _ _)
      have hc := UInt8.toNat_lt s[k]
      go_wp2
      go_round
      case rel => exact ⟨k + 1, by omega, by go_num, by rw [HS.out]⟩
      case measure => simp [intOf]; omega
    · go_wp2
      go_ret
      exact ⟨ret_int (by rw [List.take_of_length_le (by simp; omega)]), rfl⟩

def mgN (crc : Bool) : ByteArray := if crc then ⟨#[48, 55, 48, 55, 48, 50]⟩ else ⟨#[48, 55, 48, 55, 48, 49]⟩
theorem mgN_size (crc : Bool) : (mgN crc).size = 6 := by cases crc <;> rfl
def pad4 (n : Nat) : Nat := (4 - n % 4) % 4
theorem padv4 (n : Nat) (h : n ≤ 9007199254740991) : padv (n : Int) 4 = (pad4 n : Int) := by
  unfold padv pad4
  rw [if_pos (by omega)]
  omega
theorem pad4_le (n : Nat) : pad4 n ≤ 3 := by unfold pad4; omega
def nulN (n : Nat) : ByteArray := ⟨(List.replicate n 0).toArray⟩
theorem nulN_size (n : Nat) : (nulN n).size = n := by
  show (List.replicate n (0 : UInt8)).toArray.size = n
  rw [List.size_toArray, List.length_replicate]
theorem sumv_zero : ∀ (l : List UInt8), sumv l = 0 ↔ l = List.replicate l.length 0 := by
  intro l
  induction l with
  | nil => exact ⟨fun _ => rfl, fun _ => rfl⟩
  | cons c l ih =>
    have h1 := sumv_bd l
    have e : sumv (c :: l) = (c.toNat : Int) + sumv l := by simp [sumv]
    rw [e, List.length_cons, List.replicate_succ]
    constructor
    · intro h
      have hc : c.toNat = 0 := by omega
      have hl : sumv l = 0 := by omega
      have hc0 : c = 0 := UInt8.toNat_inj.1 hc
      rw [hc0, ← ih.1 hl]
    · intro h
      injection h with h2 h3
      rw [ih.2 h3, h2]
      rfl
def isNul (s : ByteArray) : Bool := decide (sumv s.data.toList = 0)
theorem nulN_list (n : Nat) : (nulN n).data.toList = List.replicate n 0 := rfl
theorem isNul_iff (s : ByteArray) : isNul s = true ↔ s = nulN s.size := by
  have hz : s.data.toList.length = s.size := Array.length_toList
  unfold isNul
  rw [decide_eq_true_iff, sumv_zero, hz]
  constructor
  · intro h
    exact ba_ext (h.trans (nulN_list s.size).symm)
  · intro h
    have h2 := congrArg (fun b : ByteArray => b.data.toList) h
    exact h2.trans (nulN_list s.size)
def sumN (crc : Bool) (d : ByteArray) : Int := if crc then sumv d.data.toList else 0
theorem magicN_any (crc : Bool) (w : World) : Calls Tryz.prog 99 #[.bool crc] w fun e w' => e = .returned (.string (mgN crc)) ∧ w' = w := by
  cases crc with
  | true =>
    go_enter Tryz.func99, Tryz.ntmps99
    go_wp2_with fail
    go_ret
    exact ⟨rfl, rfl⟩
  | false =>
    go_enter Tryz.func99, Tryz.ntmps99
    go_wp2_with fail
    go_ret
    exact ⟨rfl, rfl⟩
theorem sumC_any (d : ByteArray) (crc : Bool) (w : World) (hd : d.size ≤ 4194304) : Calls Tryz.prog 97 #[.string d, .bool crc] w fun e w' => e = .returned (.int .i64 (sumN crc d)) ∧ w' = w := by
  have H := Lib.hid (fun w => sumL_impl d w hd)
  have HE : Hid (sumN true d = sumv d.data.toList ∧ sumN false d = 0) := Lib.hid ⟨rfl, rfl⟩
  generalize sumv d.data.toList = q at H HE
  cases crc with
  | true =>
    rw [HE.out.1]
    go_enter Tryz.func97, Tryz.ntmps97
    go_wp2_with fail
    refine (H.out _).mono ?_
    rintro e w1 ⟨rfl, rfl⟩
    go_wp2_with fail
    go_ret
    exact ⟨rfl, rfl⟩
  | false =>
    rw [HE.out.2]
    go_enter Tryz.func97, Tryz.ntmps97
    go_wp2_with fail
    go_ret
    exact ⟨rfl, rfl⟩
theorem nulN_lit : nulN 0 = ⟨#[]⟩ ∧ nulN 1 = ⟨#[0]⟩ ∧ nulN 2 = ⟨#[0, 0]⟩ ∧ nulN 3 = ⟨#[0, 0, 0]⟩ := ⟨rfl, rfl, rfl, rfl⟩
theorem nuls_any (n : Nat) (w : World) (hn : n ≤ 9007199254740991) : Calls Tryz.prog 100 #[.int .i64 (n : Int)] w fun e w' => e = .returned (.string (nulN (pad4 n))) ∧ w' = w := by
  have a1 : ∀ w, (Op.stringOp .add ⟨#[]⟩ ⟨#[0]⟩).run Tryz.prog w = .ok (.string ⟨#[0]⟩) w := fun w => run_string_add_sum w _ _ (by decide)
  have a2 : ∀ w, (Op.stringOp .add ⟨#[0]⟩ ⟨#[0]⟩).run Tryz.prog w = .ok (.string ⟨#[0, 0]⟩) w := fun w => run_string_add_sum w _ _ (by decide)
  have a3 : ∀ w, (Op.stringOp .add ⟨#[0, 0]⟩ ⟨#[0]⟩).run Tryz.prog w = .ok (.string ⟨#[0, 0, 0]⟩) w := fun w => run_string_add_sum w _ _ (by decide)
  obtain ⟨z0, z1, z2, z3⟩ := nulN_lit
  have h4 : n % 4 = 0 ∨ n % 4 = 1 ∨ n % 4 = 2 ∨ n % 4 = 3 := by omega
  rcases h4 with h | h | h | h
  · have hm : (n : Int) % 4 = 0 := by omega
    have ht : (n : Int).tmod 4 = 0 := by rw [Int.tmod_eq_emod_of_nonneg (by omega)]; exact hm
    rw [show pad4 n = 0 from by unfold pad4; omega, z0]
    clear z0 z1 z2 z3 h
    go_enter Tryz.func100, Tryz.ntmps100
    go_wp2_with fail
    go_ret
    exact ⟨rfl, rfl⟩
  · have hm : (n : Int) % 4 = 1 := by omega
    have ht : (n : Int).tmod 4 = 1 := by rw [Int.tmod_eq_emod_of_nonneg (by omega)]; exact hm
    rw [show pad4 n = 3 from by unfold pad4; omega, z3]
    clear z0 z1 z2 z3 h
    go_enter Tryz.func100, Tryz.ntmps100
    go_wp2_with fail
    go_ret
    exact ⟨rfl, rfl⟩
  · have hm : (n : Int) % 4 = 2 := by omega
    have ht : (n : Int).tmod 4 = 2 := by rw [Int.tmod_eq_emod_of_nonneg (by omega)]; exact hm
    rw [show pad4 n = 2 from by unfold pad4; omega, z2]
    clear z0 z1 z2 z3 h
    go_enter Tryz.func100, Tryz.ntmps100
    go_wp2_with fail
    go_ret
    exact ⟨rfl, rfl⟩
  · have hm : (n : Int) % 4 = 3 := by omega
    have ht : (n : Int).tmod 4 = 3 := by rw [Int.tmod_eq_emod_of_nonneg (by omega)]; exact hm
    rw [show pad4 n = 1 from by unfold pad4; omega, z1]
    clear z0 z1 z2 z3 h
    go_enter Tryz.func100, Tryz.ntmps100
    go_wp2_with fail
    go_ret
    exact ⟨rfl, rfl⟩
theorem l08Magic_any (crc : Bool) (w : World) : Calls Tryz.prog 51 #[.bool crc] w fun e w' => e = .returned (.string (mgN crc)) ∧ w' = w := by
  cases crc with
  | true =>
    go_enter Tryz.func51, Tryz.ntmps51
    go_wp2_with fail
    go_ret
    exact ⟨rfl, rfl⟩
  | false =>
    go_enter Tryz.func51, Tryz.ntmps51
    go_wp2_with fail
    go_ret
    exact ⟨rfl, rfl⟩
theorem l08Sum_any (d : ByteArray) (crc : Bool) (w : World) (hd : d.size ≤ 4194304) : Calls Tryz.prog 52 #[.string d, .bool crc] w fun e w' => e = .returned (.int .i64 (sumN crc d)) ∧ w' = w := by
  have H := Lib.hid (fun w => sumL_spec d w hd)
  have HE : Hid (sumN true d = sumv d.data.toList ∧ sumN false d = 0) := Lib.hid ⟨rfl, rfl⟩
  generalize sumv d.data.toList = q at H HE
  cases crc with
  | true =>
    rw [HE.out.1]
    go_enter Tryz.func52, Tryz.ntmps52
    go_wp2_with fail
    refine (H.out _).mono ?_
    rintro e w1 ⟨rfl, rfl⟩
    go_wp2_with fail
    go_ret
    exact ⟨rfl, rfl⟩
  | false =>
    rw [HE.out.2]
    go_enter Tryz.func52, Tryz.ntmps52
    go_wp2_with fail
    go_ret
    exact ⟨rfl, rfl⟩
end Go.Proofs.YtcnmbolmgifgfabGreatDoor

/- Contract of spec.l01Nuls. -/
namespace Go.Proofs.YtcnmbolmgifgfabGreatDoor
open Go.ChangeShapes Go.WideShapes Go.ChangeAt Go.RowKit

def nulz (n : Nat) : List UInt8 := List.replicate n 0
theorem nulz_succ (n : Nat) : nulz n ++ [0] = nulz (n + 1) := by simp [nulz, List.replicate_succ']
theorem nulz_len (n : Nat) : (nulz n).length = n := by simp [nulz]
theorem nulz_spec (n : Int) (w : World) (hn : n ≤ 1024) :
    Calls Tryz.prog 54 #[.int .i64 n] w fun e w' => e = .returned (.string (nulN n.toNat)) ∧ Below w.heap.size w w' := by
  obtain ⟨i0, hi, hz0, hz1, hz2⟩ := info_parts Tryz.info5
  go_enter Tryz.func54, Tryz.ntmps54
  go_wp2
  go_loopw [3, 4] (fun v i wr => ∃ k : Nat, k ≤ n.toNat ∧ i = .int .i64 k ∧ OwnB wr w.heap.size v (nulz k) ∧ Below w.heap.size w wr) (fun _ i _ => n.toNat - (intOf i).toNat)
  case atStart => exact ⟨0, Nat.zero_le _, rfl, OwnB.lit (Nat.le_refl _), (Below.refl _ _).alloc (Nat.le_refl _) _⟩
  case round =>
    obtain ⟨k, hk, rfl, hown, hb⟩ := hrel
    have HO := Lib.hid hown
    have HB := Lib.hid hb
    clear hown hb
    by_cases hlt : (k : Int) < n
    · have hsz := HB.out.size
      go_wp2_with (at_builtin; refine wpList_append_own _ rfl _ _ 82 rfl w.heap.size 5 i0 (.int .u8 0) 1 1 Tryz.underlying82 hi hz0 hz1 hz2 rfl (by decide) _ _ _ rfl (HO.out.alloc _) ⟨wr.heap.size, 0, none⟩ 1 1 [.int .u8 0] rfl rfl ?c1 ?c2 ?c3 ?c4 ?c5 ?_)
      case c1 =>
        intro j u hj
        match j, hj with
        | 0, hj => simp at hj; subst hj; simp [Addr.add]
      case c2 => intro u hu; simp at hu; subst hu; rfl
      case c3 => simp only [nulz_len, maxLen]; omega
      case c4 => simp only [nulz_len]; omega
      case c5 => simp; omega
      · intro v' w1 hown' hgrow _
        have hO : OwnB w1 w.heap.size v' (nulz (k + 1)) := by
          have e : byteVals (nulz k) ++ [.int .u8 0] = byteVals (nulz (k + 1)) := by rw [← nulz_succ, ← byteVals_snoc]; rfl
          rw [e] at hown'
          have e2 : (nulz k).length + 1 = (nulz (k + 1)).length := by simp [nulz_len]
          rw [e2] at hown'
          exact hown'
        have hBl : Below w.heap.size w w1 := (HB.out.alloc hsz _).grown hgrow (by simp; omega) (fun b hb => (HO.out.lt b hb).1)
        clear hown' hgrow
        go_wp2
        go_roundw
        case rel => exact ⟨k + 1, by omega, by go_num, hO, hBl⟩
        case measure => simp [intOf]; omega
    · have hc := HO.out.conv
      go_wp2
      go_ret
      have e : k = n.toNat := by omega
      subst e
      exact ⟨rfl, HB.out⟩

end Go.Proofs.YtcnmbolmgifgfabGreatDoor

/- The text of a card with hexadecimal numbers; contract of spec.PutNew. -/
namespace Go.Proofs.YtcnmbolmgifgfabGreatDoor
open Go.ChangeShapes Go.WideShapes Go.ChangeAt Go.RowKit Go.Deep

/-- The numbers of a card's head. -/
def nFl (c : Card) (crc : Bool) : List Int := [c.Ino, c.Mode, c.Uid, c.Gid, c.Count, c.Time, (c.Data.size : Int), 0, 0, 0, 0, (c.Path.size : Int) + 1, sumN crc c.Data]
def hexOk (L : List Int) : Bool := L.all fun x => (putHexv x).2
def hexB : List Int → List UInt8
  | [] => []
  | x :: L => (putHexv x).1.data.toList ++ hexB L
def hexS (L : List Int) : ByteArray := ⟨(hexB L).toArray⟩
theorem hexB_app (L M : List Int) : hexB (L ++ M) = hexB L ++ hexB M := by
  induction L with
  | nil => rfl
  | cons x L ih => simp [hexB, ih]
theorem ba_appN (a b : List UInt8) : (⟨(a ++ b).toArray⟩ : ByteArray) = ⟨a.toArray⟩ ++ ⟨b.toArray⟩ := by
  apply ba_ext
  simp
theorem ba_selfN (s : ByteArray) : (⟨s.data.toList.toArray⟩ : ByteArray) = s := by cases s; simp
theorem hexS_snoc (L : List Int) (x : Int) : hexS (L ++ [x]) = hexS L ++ (putHexv x).1 := by
  have h : hexB [x] = (putHexv x).1.data.toList := by simp [hexB]
  rw [hexS, hexB_app, ba_appN, h, ba_selfN, hexS]
theorem hexOk_take {L : List Int} {i : Nat} {x : Int} (h : L[i]? = some x) : hexOk (L.take (i + 1)) = (hexOk (L.take i) && (putHexv x).2) := by
  rw [List.take_add_one, h]
  simp [hexOk]
theorem hexOk_bad {L : List Int} {i : Nat} {x : Int} (h : L[i]? = some x) (hk : (putHexv x).2 = false) : hexOk L = false := by
  rw [hexOk, List.all_eq_false]
  exact ⟨x, List.mem_of_getElem? h, by simp [hk]⟩
theorem hex_take {L : List Int} {i : Nat} {x : Int} (h : L[i]? = some x) : hexS (L.take (i + 1)) = hexS (L.take i) ++ (putHexv x).1 := by
  rw [List.take_add_one, h]
  exact hexS_snoc _ _
theorem putHex_sz (n : Int) : (putHexv n).1.size ≤ 8 ∧ ((putHexv n).2 = true → (putHexv n).1.size = 8) := by
  unfold putHexv
  split
  · rename_i h
    have hl : (numeral 16 n.toNat).length ≤ 8 := numeral_len (by omega) (by omega) (by omega)
    have e : (⟨(ahead (numeral 16 n.toNat) 8).toArray⟩ : ByteArray).size = 8 := by
      show (ahead (numeral 16 n.toNat) 8).toArray.size = 8
      rw [List.size_toArray, ahead_len]
      omega
    exact ⟨by rw [e]; omega, fun _ => e⟩
  · exact ⟨Nat.zero_le _, fun h => by simp at h⟩
theorem hexS_le (L : List Int) : (hexS L).size ≤ 8 * L.length ∧ (hexOk L = true → (hexS L).size = 8 * L.length) := by
  induction L with
  | nil => exact ⟨Nat.zero_le _, fun _ => rfl⟩
  | cons x L ih =>
    obtain ⟨h1, h1'⟩ := putHex_sz x
    obtain ⟨i1, i2⟩ := ih
    have e1 : (hexS (x :: L)).size = (hexB (x :: L)).length := by simp [hexS, ByteArray.size]
    have e2 : (hexS L).size = (hexB L).length := by simp [hexS, ByteArray.size]
    have e3 : (putHexv x).1.data.toList.length = (putHexv x).1.size := Array.length_toList
    rw [e1, hexB, List.length_append, e3, List.length_cons]
    refine ⟨by omega, fun h => ?_⟩
    simp only [hexOk, List.all_cons, Bool.and_eq_true] at h
    have := h1' h.1
    have := i2 h.2
    omega
theorem app_nilN (a : ByteArray) : a ++ ⟨#[]⟩ = a := by
  apply ba_ext
  simp
theorem hexS_nil : hexS [] = ⟨#[]⟩ := rfl
/-- The text of a card: none where a number has no room. -/
def newTextv (c : Card) (crc : Bool) : ByteArray := if hexOk (nFl c crc) then mgN crc ++ hexS (nFl c crc) ++ c.Path ++ ⟨#[0]⟩ ++ nulN (pad4 (111 + c.Path.size)) ++ c.Data ++ nulN (pad4 c.Data.size) else ⟨#[]⟩
/-- A row of numbers. -/
def RowNN (w : World) (g : Nat) (l : List Int) : Prop := ∀ i x, l[i]? = some x → w.cell? ⟨g, i, none⟩ = some (.int .i64 x)
theorem RowNN.below {w w' : World} {g B : Nat} {l : List Int} (h : RowNN w g l) (hb : Below B w w') (hg : g < B) : RowNN w' g l := fun i x hx => (hb.cell (p := ⟨g, i, none⟩) hg).trans (h i x hx)
theorem RowNN.of {w : World} {g : Nat} {l : List Int} {ty : TypeId} (h : w.heap[g]? = some (.cells (l.map (fun x => Value.int .i64 x)).toArray ty (0, 0))) : RowNN w g l := by
  intro i x hx
  simp only [World.cell?, h]
  simp [hx]
theorem pad4_spec (n : Nat) (hn : n ≤ 9007199254740991) (w : World) : Calls Tryz.prog 55 #[.int .i64 (n : Int), .int .i64 4] w fun e w' => e = .returned (.int .i64 (pad4 n : Int)) ∧ w = w' := by
  have h := pad_spec (n : Int) 4 w
  rw [padv4 n hn] at h
  exact h
theorem nuls4_spec (n : Nat) (hn : n ≤ 1024) (w : World) : Calls Tryz.prog 54 #[.int .i64 (n : Int)] w fun e w' => e = .returned (.string (nulN n)) ∧ Below w.heap.size w w' := by
  have h := nulz_spec (n : Int) w (by omega)
  rw [Int.toNat_natCast] at h
  exact h
set_option maxHeartbeats 6400000 in
set_option maxRecDepth 8000 in
theorem putNew_spec (ino mo u1 gi cn t : Int) (p d : ByteArray) (crc : Bool) (w : World) (hp : p.size ≤ 4194304) (hd : d.size ≤ 4194304) :
    Calls Tryz.prog 27 #[.agg #[.int .i64 ino, .int .i64 mo, .int .i64 u1, .int .i64 gi, .int .i64 cn, .int .i64 t, .string p, .string d], .bool crc] w fun e w' => e = .returned (.string (newTextv ⟨ino, mo, u1, gi, cn, t, p, d⟩ crc)) ∧ Below w.heap.size w w' := by
  have HMg := Lib.hid (fun w => l08Magic_any crc w)
  have hmz := mgN_size crc
  have HSm := Lib.hid (fun w => l08Sum_any d crc w hd)
  have HG : Hid (∀ i, i < 13 → ∃ x, (nFl ⟨ino, mo, u1, gi, cn, t, p, d⟩ crc)[i]? = some x) := Lib.hid (fun i hi => ⟨(nFl ⟨ino, mo, u1, gi, cn, t, p, d⟩ crc)[i], List.getElem?_eq_getElem (by simpa [nFl] using hi)⟩)
  have HS := Lib.hid (fun i x (h : (nFl ⟨ino, mo, u1, gi, cn, t, p, d⟩ crc)[i]? = some x) => hex_take h)
  have HK := Lib.hid (fun i x (h : (nFl ⟨ino, mo, u1, gi, cn, t, p, d⟩ crc)[i]? = some x) => hexOk_take h)
  have HB := Lib.hid (fun i x (h : (nFl ⟨ino, mo, u1, gi, cn, t, p, d⟩ crc)[i]? = some x) hk => hexOk_bad h hk)
  have HZ : Hid (hexS ((nFl ⟨ino, mo, u1, gi, cn, t, p, d⟩ crc).take 0) = ⟨#[]⟩ ∧ hexOk ((nFl ⟨ino, mo, u1, gi, cn, t, p, d⟩ crc).take 0) = true) := Lib.hid ⟨rfl, rfl⟩
  have HF : Hid (hexS ((nFl ⟨ino, mo, u1, gi, cn, t, p, d⟩ crc).take 13) = hexS (nFl ⟨ino, mo, u1, gi, cn, t, p, d⟩ crc) ∧ hexOk ((nFl ⟨ino, mo, u1, gi, cn, t, p, d⟩ crc).take 13) = hexOk (nFl ⟨ino, mo, u1, gi, cn, t, p, d⟩ crc)) := Lib.hid ⟨rfl, rfl⟩
  have HLe : Hid (∀ i, (hexS ((nFl ⟨ino, mo, u1, gi, cn, t, p, d⟩ crc).take i)).size ≤ 104) := Lib.hid (fun i => by have h8 := (hexS_le ((nFl ⟨ino, mo, u1, gi, cn, t, p, d⟩ crc).take i)).1; rw [List.length_take] at h8; have : (nFl ⟨ino, mo, u1, gi, cn, t, p, d⟩ crc).length = 13 := rfl; omega)
  have HL13 : Hid (hexOk (nFl ⟨ino, mo, u1, gi, cn, t, p, d⟩ crc) = true → (hexS (nFl ⟨ino, mo, u1, gi, cn, t, p, d⟩ crc)).size = 104) := Lib.hid (fun h => (hexS_le (nFl ⟨ino, mo, u1, gi, cn, t, p, d⟩ crc)).2 h)
  have HPl := Lib.hid (fun x => (putHex_sz x).1)
  have HV : Hid (newTextv ⟨ino, mo, u1, gi, cn, t, p, d⟩ crc = if hexOk (nFl ⟨ino, mo, u1, gi, cn, t, p, d⟩ crc) then mgN crc ++ hexS (nFl ⟨ino, mo, u1, gi, cn, t, p, d⟩ crc) ++ p ++ ⟨#[0]⟩ ++ nulN (pad4 (111 + p.size)) ++ d ++ nulN (pad4 d.size) else ⟨#[]⟩) := Lib.hid rfl
  have HRw := Lib.hid (fun (w : World) (g : Nat) (ty : TypeId) (h : w.heap[g]? = some (.cells #[.int .i64 ino, .int .i64 mo, .int .i64 u1, .int .i64 gi, .int .i64 cn, .int .i64 t, .int .i64 (d.size : Int), .int .i64 0, .int .i64 0, .int .i64 0, .int .i64 0, .int .i64 ((p.size : Int) + 1), .int .i64 (sumN crc d)] ty (0, 0))) => RowNN.of (l := nFl ⟨ino, mo, u1, gi, cn, t, p, d⟩ crc) h)
  generalize newTextv ⟨ino, mo, u1, gi, cn, t, p, d⟩ crc = r at HV
  generalize hexOk (nFl ⟨ino, mo, u1, gi, cn, t, p, d⟩ crc) = ok at HF HB HV HL13
  generalize hexS (nFl ⟨ino, mo, u1, gi, cn, t, p, d⟩ crc) = hx at HF HV HL13
  generalize nFl ⟨ino, mo, u1, gi, cn, t, p, d⟩ crc = L at HG HS HK HB HZ HF HLe HRw
  generalize sumN crc d = sm at HSm HRw
  generalize mgN crc = mg at HMg HV hmz
  have hq1 := pad4_le (111 + p.size)
  have hq2 := pad4_le d.size
  have HN1 := Lib.hid (fun w => nuls4_spec (pad4 (111 + p.size)) (by omega) w)
  have HN2 := Lib.hid (fun w => nuls4_spec (pad4 d.size) (by omega) w)
  have HP1 := Lib.hid (fun w => pad4_spec (111 + p.size) (by omega) w)
  have HP2 := Lib.hid (fun w => pad4_spec d.size (by omega) w)
  have hz1 := nulN_size (pad4 (111 + p.size))
  have hz2 := nulN_size (pad4 d.size)
  generalize nulN (pad4 (111 + p.size)) = nu1 at *
  generalize nulN (pad4 d.size) = nu2 at *
  generalize pad4 (111 + p.size) = q1 at *
  generalize pad4 d.size = q2 at *
  go_enter Tryz.func27, Tryz.ntmps27
  go_wp2_with fail
  refine (HMg.out _).mono ?_
  rintro e wm ⟨rfl, rfl⟩
  go_upto_region 2 with fail
  generalize hw1 : World.alloc w _ = w1
  have XC : Hid (CardO w1 w.heap.size ⟨ino, mo, u1, gi, cn, t, p, d⟩) := Lib.hid (by rw [← hw1]; exact CardO.new w ⟨ino, mo, u1, gi, cn, t, p, d⟩)
  have B1 : Hid (Below w.heap.size w w1) := Lib.hid (by rw [← hw1]; exact (Below.refl _ _).alloc (Nat.le_refl _) _)
  have hs1 : w1.heap.size = w.heap.size + 1 := by rw [← hw1]; simp
  clear hw1
  have KC : Hid (∀ w', Below w1.heap.size w1 w' → w'.cell? ⟨w.heap.size, 0, none⟩ = some (.int .i64 ino) ∧ w'.cell? ⟨w.heap.size, 1, none⟩ = some (.int .i64 mo) ∧ w'.cell? ⟨w.heap.size, 2, none⟩ = some (.int .i64 u1) ∧ w'.cell? ⟨w.heap.size, 3, none⟩ = some (.int .i64 gi) ∧ w'.cell? ⟨w.heap.size, 4, none⟩ = some (.int .i64 cn) ∧ w'.cell? ⟨w.heap.size, 5, none⟩ = some (.int .i64 t) ∧ w'.cell? ⟨w.heap.size, 6, none⟩ = some (.string p) ∧ w'.cell? ⟨w.heap.size, 7, none⟩ = some (.string d)) := Lib.hid (fun w' hb => (XC.out.below hb (by omega)).at.zero)
  refine wp_region_cut 24 (by kernel_rfl) (fun w' => Below w1.heap.size w1 w') (fun x y => Below x.heap.size x y) (vE 35 (exRow w1.heap.size 13 #[.int .i64 ino, .int .i64 mo, .int .i64 u1, .int .i64 gi, .int .i64 cn, .int .i64 t, .int .i64 (d.size : Int), .int .i64 0, .int .i64 0, .int .i64 0, .int .i64 0, .int .i64 ((p.size : Int) + 1), .int .i64 sm] 3) (fun dq vq _ => match dq with | 12 => vq = .pointer (some ⟨w.heap.size, 0, none⟩) | 13 => vq = .int .i64 ino | 14 => vq = .pointer (some ⟨w.heap.size, 1, none⟩) | 15 => vq = .int .i64 mo | 16 => vq = .pointer (some ⟨w.heap.size, 2, none⟩) | 17 => vq = .int .i64 u1 | 18 => vq = .pointer (some ⟨w.heap.size, 3, none⟩) | 19 => vq = .int .i64 gi | 20 => vq = .pointer (some ⟨w.heap.size, 4, none⟩) | 21 => vq = .int .i64 cn | 22 => vq = .pointer (some ⟨w.heap.size, 5, none⟩) | 23 => vq = .int .i64 t | 24 => vq = .pointer (some ⟨w.heap.size, 7, none⟩) | 25 => vq = .string d | 26 => vq = .int .i64 (d.size : Int) | 27 => vq = .pointer (some ⟨w.heap.size, 6, none⟩) | 28 => vq = .string p | 29 => vq = .int .i64 (p.size : Int) | 30 => vq = .int .i64 ((p.size : Int) + 1) | 31 => vq = .pointer (some ⟨w.heap.size, 7, none⟩) | 32 => vq = .string d | 33 => vq = .bool crc | 34 => vq = .int .i64 sm | _ => True)) (by kernel_rfl) (by kernel_rfl) ((Below.refl _ _).drew) (vE_keep _ _ _ (exRow_keep _ _ _ _) (fun _ _ _ _ _ _ h => h)) (by simp) ?hops ?hend
  case hops =>
    simp only [List.take_succ_cons, List.take_zero, List.forall_mem_cons]
    refine ⟨?o12, ?o13, ?o14, ?o15, ?o16, ?o17, ?o18, ?o19, ?o20, ?o21, ?o22, ?o23, ?o24, ?o25, ?o26, ?o27, ?o28, ?o29, ?o30, ?o31, ?o32, ?o33, ?o34, ?o35, fun _ h => by cases h⟩
    case o12 =>
      intro Q a w2 hC hV hI
      have e2 : a.eval (.tmp 2) = .pointer (some ⟨w.heap.size, 0, none⟩) := (hI 2 (by simp [Op.operands]) (by kernel_rfl)).trans rfl
      have f2 : a.tmps.getD 2 undef = .pointer (some ⟨w.heap.size, 0, none⟩) := e2
      have g2 : a.tmps[2]?.getD undef = .pointer (some ⟨w.heap.size, 0, none⟩) := by rw [← Array.getD_eq_getD_getElem?]; exact e2
      refine op_val (.pointer (some ⟨w.heap.size, 0, none⟩)) ?_ hC (Below.refl _ _) (by intro d hd; cases hd; exact rfl)
      (clear hV hI hC; go_simp <;> (first | rfl | simp | (rw [IntKind.wrap_i64]; omega)))
    case o13 =>
      intro Q a w2 hC hV hI
      have e12 : a.eval (.tmp 12) = .pointer (some ⟨w.heap.size, 0, none⟩) := hV 12 (by simp [Op.operands]) (by kernel_rfl)
      have f12 : a.tmps.getD 12 undef = .pointer (some ⟨w.heap.size, 0, none⟩) := e12
      have g12 : a.tmps[12]?.getD undef = .pointer (some ⟨w.heap.size, 0, none⟩) := by rw [← Array.getD_eq_getD_getElem?]; exact e12
      have hK := KC.out w2 hC
      refine op_val (.int .i64 ino) ?_ hC (Below.refl _ _) (by intro d hd; cases hd; exact rfl)
      (clear hV hI hC; go_simp <;> (first | rfl | simp | (rw [IntKind.wrap_i64]; omega)))
    case o14 =>
      intro Q a w2 hC hV hI
      have e2 : a.eval (.tmp 2) = .pointer (some ⟨w.heap.size, 0, none⟩) := (hI 2 (by simp [Op.operands]) (by kernel_rfl)).trans rfl
      have f2 : a.tmps.getD 2 undef = .pointer (some ⟨w.heap.size, 0, none⟩) := e2
      have g2 : a.tmps[2]?.getD undef = .pointer (some ⟨w.heap.size, 0, none⟩) := by rw [← Array.getD_eq_getD_getElem?]; exact e2
      refine op_val (.pointer (some ⟨w.heap.size, 1, none⟩)) ?_ hC (Below.refl _ _) (by intro d hd; cases hd; exact rfl)
      (clear hV hI hC; go_simp <;> (first | rfl | simp | (rw [IntKind.wrap_i64]; omega)))
    case o15 =>
      intro Q a w2 hC hV hI
      have e14 : a.eval (.tmp 14) = .pointer (some ⟨w.heap.size, 1, none⟩) := hV 14 (by simp [Op.operands]) (by kernel_rfl)
      have f14 : a.tmps.getD 14 undef = .pointer (some ⟨w.heap.size, 1, none⟩) := e14
      have g14 : a.tmps[14]?.getD undef = .pointer (some ⟨w.heap.size, 1, none⟩) := by rw [← Array.getD_eq_getD_getElem?]; exact e14
      have hK := KC.out w2 hC
      refine op_val (.int .i64 mo) ?_ hC (Below.refl _ _) (by intro d hd; cases hd; exact rfl)
      (clear hV hI hC; go_simp <;> (first | rfl | simp | (rw [IntKind.wrap_i64]; omega)))
    case o16 =>
      intro Q a w2 hC hV hI
      have e2 : a.eval (.tmp 2) = .pointer (some ⟨w.heap.size, 0, none⟩) := (hI 2 (by simp [Op.operands]) (by kernel_rfl)).trans rfl
      have f2 : a.tmps.getD 2 undef = .pointer (some ⟨w.heap.size, 0, none⟩) := e2
      have g2 : a.tmps[2]?.getD undef = .pointer (some ⟨w.heap.size, 0, none⟩) := by rw [← Array.getD_eq_getD_getElem?]; exact e2
      refine op_val (.pointer (some ⟨w.heap.size, 2, none⟩)) ?_ hC (Below.refl _ _) (by intro d hd; cases hd; exact rfl)
      (clear hV hI hC; go_simp <;> (first | rfl | simp | (rw [IntKind.wrap_i64]; omega)))
    case o17 =>
      intro Q a w2 hC hV hI
      have e16 : a.eval (.tmp 16) = .pointer (some ⟨w.heap.size, 2, none⟩) := hV 16 (by simp [Op.operands]) (by kernel_rfl)
      have f16 : a.tmps.getD 16 undef = .pointer (some ⟨w.heap.size, 2, none⟩) := e16
      have g16 : a.tmps[16]?.getD undef = .pointer (some ⟨w.heap.size, 2, none⟩) := by rw [← Array.getD_eq_getD_getElem?]; exact e16
      have hK := KC.out w2 hC
      refine op_val (.int .i64 u1) ?_ hC (Below.refl _ _) (by intro d hd; cases hd; exact rfl)
      (clear hV hI hC; go_simp <;> (first | rfl | simp | (rw [IntKind.wrap_i64]; omega)))
    case o18 =>
      intro Q a w2 hC hV hI
      have e2 : a.eval (.tmp 2) = .pointer (some ⟨w.heap.size, 0, none⟩) := (hI 2 (by simp [Op.operands]) (by kernel_rfl)).trans rfl
      have f2 : a.tmps.getD 2 undef = .pointer (some ⟨w.heap.size, 0, none⟩) := e2
      have g2 : a.tmps[2]?.getD undef = .pointer (some ⟨w.heap.size, 0, none⟩) := by rw [← Array.getD_eq_getD_getElem?]; exact e2
      refine op_val (.pointer (some ⟨w.heap.size, 3, none⟩)) ?_ hC (Below.refl _ _) (by intro d hd; cases hd; exact rfl)
      (clear hV hI hC; go_simp <;> (first | rfl | simp | (rw [IntKind.wrap_i64]; omega)))
    case o19 =>
      intro Q a w2 hC hV hI
      have e18 : a.eval (.tmp 18) = .pointer (some ⟨w.heap.size, 3, none⟩) := hV 18 (by simp [Op.operands]) (by kernel_rfl)
      have f18 : a.tmps.getD 18 undef = .pointer (some ⟨w.heap.size, 3, none⟩) := e18
      have g18 : a.tmps[18]?.getD undef = .pointer (some ⟨w.heap.size, 3, none⟩) := by rw [← Array.getD_eq_getD_getElem?]; exact e18
      have hK := KC.out w2 hC
      refine op_val (.int .i64 gi) ?_ hC (Below.refl _ _) (by intro d hd; cases hd; exact rfl)
      (clear hV hI hC; go_simp <;> (first | rfl | simp | (rw [IntKind.wrap_i64]; omega)))
    case o20 =>
      intro Q a w2 hC hV hI
      have e2 : a.eval (.tmp 2) = .pointer (some ⟨w.heap.size, 0, none⟩) := (hI 2 (by simp [Op.operands]) (by kernel_rfl)).trans rfl
      have f2 : a.tmps.getD 2 undef = .pointer (some ⟨w.heap.size, 0, none⟩) := e2
      have g2 : a.tmps[2]?.getD undef = .pointer (some ⟨w.heap.size, 0, none⟩) := by rw [← Array.getD_eq_getD_getElem?]; exact e2
      refine op_val (.pointer (some ⟨w.heap.size, 4, none⟩)) ?_ hC (Below.refl _ _) (by intro d hd; cases hd; exact rfl)
      (clear hV hI hC; go_simp <;> (first | rfl | simp | (rw [IntKind.wrap_i64]; omega)))
    case o21 =>
      intro Q a w2 hC hV hI
      have e20 : a.eval (.tmp 20) = .pointer (some ⟨w.heap.size, 4, none⟩) := hV 20 (by simp [Op.operands]) (by kernel_rfl)
      have f20 : a.tmps.getD 20 undef = .pointer (some ⟨w.heap.size, 4, none⟩) := e20
      have g20 : a.tmps[20]?.getD undef = .pointer (some ⟨w.heap.size, 4, none⟩) := by rw [← Array.getD_eq_getD_getElem?]; exact e20
      have hK := KC.out w2 hC
      refine op_val (.int .i64 cn) ?_ hC (Below.refl _ _) (by intro d hd; cases hd; exact rfl)
      (clear hV hI hC; go_simp <;> (first | rfl | simp | (rw [IntKind.wrap_i64]; omega)))
    case o22 =>
      intro Q a w2 hC hV hI
      have e2 : a.eval (.tmp 2) = .pointer (some ⟨w.heap.size, 0, none⟩) := (hI 2 (by simp [Op.operands]) (by kernel_rfl)).trans rfl
      have f2 : a.tmps.getD 2 undef = .pointer (some ⟨w.heap.size, 0, none⟩) := e2
      have g2 : a.tmps[2]?.getD undef = .pointer (some ⟨w.heap.size, 0, none⟩) := by rw [← Array.getD_eq_getD_getElem?]; exact e2
      refine op_val (.pointer (some ⟨w.heap.size, 5, none⟩)) ?_ hC (Below.refl _ _) (by intro d hd; cases hd; exact rfl)
      (clear hV hI hC; go_simp <;> (first | rfl | simp | (rw [IntKind.wrap_i64]; omega)))
    case o23 =>
      intro Q a w2 hC hV hI
      have e22 : a.eval (.tmp 22) = .pointer (some ⟨w.heap.size, 5, none⟩) := hV 22 (by simp [Op.operands]) (by kernel_rfl)
      have f22 : a.tmps.getD 22 undef = .pointer (some ⟨w.heap.size, 5, none⟩) := e22
      have g22 : a.tmps[22]?.getD undef = .pointer (some ⟨w.heap.size, 5, none⟩) := by rw [← Array.getD_eq_getD_getElem?]; exact e22
      have hK := KC.out w2 hC
      refine op_val (.int .i64 t) ?_ hC (Below.refl _ _) (by intro d hd; cases hd; exact rfl)
      (clear hV hI hC; go_simp <;> (first | rfl | simp | (rw [IntKind.wrap_i64]; omega)))
    case o24 =>
      intro Q a w2 hC hV hI
      have e2 : a.eval (.tmp 2) = .pointer (some ⟨w.heap.size, 0, none⟩) := (hI 2 (by simp [Op.operands]) (by kernel_rfl)).trans rfl
      have f2 : a.tmps.getD 2 undef = .pointer (some ⟨w.heap.size, 0, none⟩) := e2
      have g2 : a.tmps[2]?.getD undef = .pointer (some ⟨w.heap.size, 0, none⟩) := by rw [← Array.getD_eq_getD_getElem?]; exact e2
      refine op_val (.pointer (some ⟨w.heap.size, 7, none⟩)) ?_ hC (Below.refl _ _) (by intro d hd; cases hd; exact rfl)
      (clear hV hI hC; go_simp <;> (first | rfl | simp | (rw [IntKind.wrap_i64]; omega)))
    case o25 =>
      intro Q a w2 hC hV hI
      have e24 : a.eval (.tmp 24) = .pointer (some ⟨w.heap.size, 7, none⟩) := hV 24 (by simp [Op.operands]) (by kernel_rfl)
      have f24 : a.tmps.getD 24 undef = .pointer (some ⟨w.heap.size, 7, none⟩) := e24
      have g24 : a.tmps[24]?.getD undef = .pointer (some ⟨w.heap.size, 7, none⟩) := by rw [← Array.getD_eq_getD_getElem?]; exact e24
      have hK := KC.out w2 hC
      refine op_val (.string d) ?_ hC (Below.refl _ _) (by intro d hd; cases hd; exact rfl)
      (clear hV hI hC; go_simp <;> (first | rfl | simp | (rw [IntKind.wrap_i64]; omega)))
    case o26 =>
      intro Q a w2 hC hV hI
      have e25 : a.eval (.tmp 25) = .string d := hV 25 (by simp [Op.operands, Call.operands]) (by kernel_rfl)
      have f25 : a.tmps.getD 25 undef = .string d := e25
      have g25 : a.tmps[25]?.getD undef = .string d := by rw [← Array.getD_eq_getD_getElem?]; exact e25
      refine op_val (.int .i64 (d.size : Int)) ?_ hC (Below.refl _ _) (by intro d hd; cases hd; exact rfl)
      (clear hV hI hC; go_simp <;> (first | rfl | simp | (rw [IntKind.wrap_i64]; omega)))
    case o27 =>
      intro Q a w2 hC hV hI
      have e2 : a.eval (.tmp 2) = .pointer (some ⟨w.heap.size, 0, none⟩) := (hI 2 (by simp [Op.operands]) (by kernel_rfl)).trans rfl
      have f2 : a.tmps.getD 2 undef = .pointer (some ⟨w.heap.size, 0, none⟩) := e2
      have g2 : a.tmps[2]?.getD undef = .pointer (some ⟨w.heap.size, 0, none⟩) := by rw [← Array.getD_eq_getD_getElem?]; exact e2
      refine op_val (.pointer (some ⟨w.heap.size, 6, none⟩)) ?_ hC (Below.refl _ _) (by intro d hd; cases hd; exact rfl)
      (clear hV hI hC; go_simp <;> (first | rfl | simp | (rw [IntKind.wrap_i64]; omega)))
    case o28 =>
      intro Q a w2 hC hV hI
      have e27 : a.eval (.tmp 27) = .pointer (some ⟨w.heap.size, 6, none⟩) := hV 27 (by simp [Op.operands]) (by kernel_rfl)
      have f27 : a.tmps.getD 27 undef = .pointer (some ⟨w.heap.size, 6, none⟩) := e27
      have g27 : a.tmps[27]?.getD undef = .pointer (some ⟨w.heap.size, 6, none⟩) := by rw [← Array.getD_eq_getD_getElem?]; exact e27
      have hK := KC.out w2 hC
      refine op_val (.string p) ?_ hC (Below.refl _ _) (by intro d hd; cases hd; exact rfl)
      (clear hV hI hC; go_simp <;> (first | rfl | simp | (rw [IntKind.wrap_i64]; omega)))
    case o29 =>
      intro Q a w2 hC hV hI
      have e28 : a.eval (.tmp 28) = .string p := hV 28 (by simp [Op.operands, Call.operands]) (by kernel_rfl)
      have f28 : a.tmps.getD 28 undef = .string p := e28
      have g28 : a.tmps[28]?.getD undef = .string p := by rw [← Array.getD_eq_getD_getElem?]; exact e28
      refine op_val (.int .i64 (p.size : Int)) ?_ hC (Below.refl _ _) (by intro d hd; cases hd; exact rfl)
      (clear hV hI hC; go_simp <;> (first | rfl | simp | (rw [IntKind.wrap_i64]; omega)))
    case o30 =>
      intro Q a w2 hC hV hI
      have e29 : a.eval (.tmp 29) = .int .i64 (p.size : Int) := hV 29 (by simp [Op.operands]) (by kernel_rfl)
      have f29 : a.tmps.getD 29 undef = .int .i64 (p.size : Int) := e29
      have g29 : a.tmps[29]?.getD undef = .int .i64 (p.size : Int) := by rw [← Array.getD_eq_getD_getElem?]; exact e29
      have q9 := add_i64 (P := Tryz.prog) (a := (p.size : Int)) (b := 1) w2 3 (by omega) (by omega)
      refine op_val (.int .i64 ((p.size : Int) + 1)) ?_ hC (Below.refl _ _) (by intro d hd; cases hd; exact rfl)
      (clear hV hI hC; go_simp <;> (first | rfl | simp | (rw [IntKind.wrap_i64]; omega)))
    case o31 =>
      intro Q a w2 hC hV hI
      have e2 : a.eval (.tmp 2) = .pointer (some ⟨w.heap.size, 0, none⟩) := (hI 2 (by simp [Op.operands]) (by kernel_rfl)).trans rfl
      have f2 : a.tmps.getD 2 undef = .pointer (some ⟨w.heap.size, 0, none⟩) := e2
      have g2 : a.tmps[2]?.getD undef = .pointer (some ⟨w.heap.size, 0, none⟩) := by rw [← Array.getD_eq_getD_getElem?]; exact e2
      refine op_val (.pointer (some ⟨w.heap.size, 7, none⟩)) ?_ hC (Below.refl _ _) (by intro d hd; cases hd; exact rfl)
      (clear hV hI hC; go_simp <;> (first | rfl | simp | (rw [IntKind.wrap_i64]; omega)))
    case o32 =>
      intro Q a w2 hC hV hI
      have e31 : a.eval (.tmp 31) = .pointer (some ⟨w.heap.size, 7, none⟩) := hV 31 (by simp [Op.operands]) (by kernel_rfl)
      have f31 : a.tmps.getD 31 undef = .pointer (some ⟨w.heap.size, 7, none⟩) := e31
      have g31 : a.tmps[31]?.getD undef = .pointer (some ⟨w.heap.size, 7, none⟩) := by rw [← Array.getD_eq_getD_getElem?]; exact e31
      have hK := KC.out w2 hC
      refine op_val (.string d) ?_ hC (Below.refl _ _) (by intro d hd; cases hd; exact rfl)
      (clear hV hI hC; go_simp <;> (first | rfl | simp | (rw [IntKind.wrap_i64]; omega)))
    case o33 =>
      intro Q a w2 hC hV hI
      have e1 : a.eval (.tmp 1) = .bool crc := (hI 1 (by simp [Op.operands]) (by kernel_rfl)).trans rfl
      have f1 : a.tmps.getD 1 undef = .bool crc := e1
      have g1 : a.tmps[1]?.getD undef = .bool crc := by rw [← Array.getD_eq_getD_getElem?]; exact e1
      refine op_val (.bool crc) ?_ hC (Below.refl _ _) (by intro d hd; cases hd; exact rfl)
      (clear hV hI hC; go_simp <;> (first | rfl | simp | (rw [IntKind.wrap_i64]; omega)))
    case o34 =>
      intro Q a w2 hC hV hI
      have e32 : a.eval (.tmp 32) = .string d := hV 32 (by simp [Op.operands, Call.operands]) (by kernel_rfl)
      have f32 : a.tmps.getD 32 undef = .string d := e32
      have g32 : a.tmps[32]?.getD undef = .string d := by rw [← Array.getD_eq_getD_getElem?]; exact e32
      have e33 : a.eval (.tmp 33) = .bool crc := hV 33 (by simp [Op.operands, Call.operands]) (by kernel_rfl)
      have f33 : a.tmps.getD 33 undef = .bool crc := e33
      have g33 : a.tmps[33]?.getD undef = .bool crc := by rw [← Array.getD_eq_getD_getElem?]; exact e33
      refine op_call (f := 52) (args := #[.string d, .bool crc]) (R := fun v y => v = .int .i64 sm ∧ w2 = y) ?_ ((HSm.out w2).mono ?_) ?_
      · (clear hV hI hC; go_simp <;> (first | rfl | simp | (rw [IntKind.wrap_i64]; omega)))
      · rintro e y ⟨rfl, rfl⟩; exact ⟨_, rfl, rfl, rfl⟩
      · rintro v y ⟨rfl, rfl⟩; exact ⟨hC, Below.refl _ _, by intro d hd; cases hd; exact rfl⟩
    case o35 =>
      intro Q a w2 hC hV hI
      have e13 : a.eval (.tmp 13) = .int .i64 ino := hV 13 (by simp [Op.operands]) (by kernel_rfl)
      have f13 : a.tmps.getD 13 undef = .int .i64 ino := e13
      have g13 : a.tmps[13]?.getD undef = .int .i64 ino := by rw [← Array.getD_eq_getD_getElem?]; exact e13
      have e15 : a.eval (.tmp 15) = .int .i64 mo := hV 15 (by simp [Op.operands]) (by kernel_rfl)
      have f15 : a.tmps.getD 15 undef = .int .i64 mo := e15
      have g15 : a.tmps[15]?.getD undef = .int .i64 mo := by rw [← Array.getD_eq_getD_getElem?]; exact e15
      have e17 : a.eval (.tmp 17) = .int .i64 u1 := hV 17 (by simp [Op.operands]) (by kernel_rfl)
      have f17 : a.tmps.getD 17 undef = .int .i64 u1 := e17
      have g17 : a.tmps[17]?.getD undef = .int .i64 u1 := by rw [← Array.getD_eq_getD_getElem?]; exact e17
      have e19 : a.eval (.tmp 19) = .int .i64 gi := hV 19 (by simp [Op.operands]) (by kernel_rfl)
      have f19 : a.tmps.getD 19 undef = .int .i64 gi := e19
      have g19 : a.tmps[19]?.getD undef = .int .i64 gi := by rw [← Array.getD_eq_getD_getElem?]; exact e19
      have e21 : a.eval (.tmp 21) = .int .i64 cn := hV 21 (by simp [Op.operands]) (by kernel_rfl)
      have f21 : a.tmps.getD 21 undef = .int .i64 cn := e21
      have g21 : a.tmps[21]?.getD undef = .int .i64 cn := by rw [← Array.getD_eq_getD_getElem?]; exact e21
      have e23 : a.eval (.tmp 23) = .int .i64 t := hV 23 (by simp [Op.operands]) (by kernel_rfl)
      have f23 : a.tmps.getD 23 undef = .int .i64 t := e23
      have g23 : a.tmps[23]?.getD undef = .int .i64 t := by rw [← Array.getD_eq_getD_getElem?]; exact e23
      have e26 : a.eval (.tmp 26) = .int .i64 (d.size : Int) := hV 26 (by simp [Op.operands]) (by kernel_rfl)
      have f26 : a.tmps.getD 26 undef = .int .i64 (d.size : Int) := e26
      have g26 : a.tmps[26]?.getD undef = .int .i64 (d.size : Int) := by rw [← Array.getD_eq_getD_getElem?]; exact e26
      have e30 : a.eval (.tmp 30) = .int .i64 ((p.size : Int) + 1) := hV 30 (by simp [Op.operands]) (by kernel_rfl)
      have f30 : a.tmps.getD 30 undef = .int .i64 ((p.size : Int) + 1) := e30
      have g30 : a.tmps[30]?.getD undef = .int .i64 ((p.size : Int) + 1) := by rw [← Array.getD_eq_getD_getElem?]; exact e30
      have e34 : a.eval (.tmp 34) = .int .i64 sm := hV 34 (by simp [Op.operands]) (by kernel_rfl)
      have f34 : a.tmps.getD 34 undef = .int .i64 sm := e34
      have g34 : a.tmps[34]?.getD undef = .int .i64 sm := by rw [← Array.getD_eq_getD_getElem?]; exact e34
      refine op_val (.slice (some ⟨w2.heap.size, 0, none⟩) 13 13) (w' := w2.alloc (.cells #[.int .i64 ino, .int .i64 mo, .int .i64 u1, .int .i64 gi, .int .i64 cn, .int .i64 t, .int .i64 (d.size : Int), .int .i64 0, .int .i64 0, .int .i64 0, .int .i64 0, .int .i64 ((p.size : Int) + 1), .int .i64 sm] 3)) ?_ (hC.alloc hC.size _) ((Below.refl _ _).alloc (Nat.le_refl _) _) ?_
      · (clear hV hI hC; go_simp <;> (first | rfl | simp | (rw [IntKind.wrap_i64]; omega)))
      · intro d hd; cases hd; exact ⟨w2.heap.size, rfl, hC.size, heap_lastG _ _⟩
  case hend =>
    intro f w2 hC hall
    simp only [List.take_succ_cons, List.take_zero, List.drop_succ_cons, List.drop_zero] at hall ⊢
    simp only [List.forall_mem_cons] at hall
    obtain ⟨h12, h13, h14, h15, h16, h17, h18, h19, h20, h21, h22, h23, h24, h25, h26, h27, h28, h29, h30, h31, h32, h33, h34, h35, _⟩ := hall
    replace h12 : f 12 = .pointer (some ⟨w.heap.size, 0, none⟩) := h12 12 rfl
    replace h13 : f 13 = .int .i64 ino := h13 13 rfl
    replace h14 : f 14 = .pointer (some ⟨w.heap.size, 1, none⟩) := h14 14 rfl
    replace h15 : f 15 = .int .i64 mo := h15 15 rfl
    replace h16 : f 16 = .pointer (some ⟨w.heap.size, 2, none⟩) := h16 16 rfl
    replace h17 : f 17 = .int .i64 u1 := h17 17 rfl
    replace h18 : f 18 = .pointer (some ⟨w.heap.size, 3, none⟩) := h18 18 rfl
    replace h19 : f 19 = .int .i64 gi := h19 19 rfl
    replace h20 : f 20 = .pointer (some ⟨w.heap.size, 4, none⟩) := h20 20 rfl
    replace h21 : f 21 = .int .i64 cn := h21 21 rfl
    replace h22 : f 22 = .pointer (some ⟨w.heap.size, 5, none⟩) := h22 22 rfl
    replace h23 : f 23 = .int .i64 t := h23 23 rfl
    replace h24 : f 24 = .pointer (some ⟨w.heap.size, 7, none⟩) := h24 24 rfl
    replace h25 : f 25 = .string d := h25 25 rfl
    replace h26 : f 26 = .int .i64 (d.size : Int) := h26 26 rfl
    replace h27 : f 27 = .pointer (some ⟨w.heap.size, 6, none⟩) := h27 27 rfl
    replace h28 : f 28 = .string p := h28 28 rfl
    replace h29 : f 29 = .int .i64 (p.size : Int) := h29 29 rfl
    replace h30 : f 30 = .int .i64 ((p.size : Int) + 1) := h30 30 rfl
    replace h31 : f 31 = .pointer (some ⟨w.heap.size, 7, none⟩) := h31 31 rfl
    replace h32 : f 32 = .string d := h32 32 rfl
    replace h33 : f 33 = .bool crc := h33 33 rfl
    replace h34 : f 34 = .int .i64 sm := h34 34 rfl
    obtain ⟨G35, hG35, hGB35, hGO35⟩ : ∃ G, f 35 = .slice (some ⟨G, 0, none⟩) 13 13 ∧ w1.heap.size ≤ G ∧ w2.heap[G]? = some (.cells #[.int .i64 ino, .int .i64 mo, .int .i64 u1, .int .i64 gi, .int .i64 cn, .int .i64 t, .int .i64 (d.size : Int), .int .i64 0, .int .i64 0, .int .i64 0, .int .i64 0, .int .i64 ((p.size : Int) + 1), .int .i64 sm] 3 (0, 0)) := h35 35 rfl
    simp only [putAll, Act.put, List.setIfInBounds_toArray, List.set_cons_succ, List.set_cons_zero, h12, h13, h14, h15, h16, h17, h18, h19, h20, h21, h22, h23, h24, h25, h26, h27, h28, h29, h30, h31, h32, h33, h34, hG35]
    clear h12 h13 h14 h15 h16 h17 h18 h19 h20 h21 h22 h23 h24 h25 h26 h27 h28 h29 h30 h31 h32 h33 h34 hG35 h35
    have XC2 := Lib.hid (XC.out.below hC (by omega))
    have RW := Lib.hid (HRw.out _ _ _ hGO35)
    have hGl := (Array.getElem?_eq_some_iff.1 hGO35).1
    have B2 := Lib.hid (B1.out.trans (hC.mono (by omega)))
    have hc1 := hC.size
    clear KC XC B1 hGO35 hC HSm HRw
    go_wp2_with fail
    go_loopw [5, 7, 8, 9] (fun v u _ _ wr => ∃ i : Nat, u = .int .i64 i ∧ i ≤ 13 ∧ hexOk (L.take i) = true ∧ v = .string (mg ++ hexS (L.take i)) ∧ RowNN wr G35 L ∧ G35 < wr.heap.size ∧ CardO wr w.heap.size ⟨ino, mo, u1, gi, cn, t, p, d⟩ ∧ Below w.heap.size w wr) (fun _ u _ _ _ => 13 - (intOf u).toNat)
    case atStart => exact ⟨0, rfl, Nat.zero_le _, HZ.out.2, by rw [HZ.out.1, app_nilN], RW.out, hGl, XC2.out, B2.out⟩
    case round =>
      obtain ⟨i, rfl, hi, hok, rfl, hrw, hgl, hxc, hb⟩ := hrel
      clear XC2 RW B2 hGl
      have B := Lib.hid hb
      have RW := Lib.hid hrw
      have XC := Lib.hid hxc
      have hszB := B.out.size
      have HOk := Lib.hid hok
      clear hb hok hrw hxc
      have hle := HLe.out i
      by_cases hlt : i < 13
      · have hlt2 : (i : Int) < 13 := by omega
        obtain ⟨x, hx9⟩ := HG.out i hlt
        have HS2 := Lib.hid (HS.out i _ hx9)
        have HK2 := Lib.hid (HK.out i _ hx9)
        have HB2 := Lib.hid (HB.out i _ hx9)
        have hpl := HPl.out x
        have cN := RW.out i x hx9
        have HPx := Lib.hid (fun w => putHex_spec x w)
        clear hx9 HS HK HB HG HN1 HN2 HP1 HP2 HL13
        obtain ⟨T, hT⟩ : ∃ T, hexS (L.take i) = T := ⟨_, rfl⟩
        rw [hT] at HS2 hle ⊢
        clear hT
        generalize (putHexv x).1 = q at HS2 hpl HPx
        generalize (putHexv x).2 = b at HB2 HK2 HPx
        have hmT : (mg ++ T).size = mg.size + T.size := ByteArray.size_append
        have HA : Hid (∀ w, (Op.stringOp .add (mg ++ T) q).run Tryz.prog w = .ok (.string (mg ++ T ++ q)) w) := Lib.hid (fun w => run_string_add_sum w _ _ (by omega))
        have HAs : Hid (mg ++ (T ++ q) = mg ++ T ++ q) := Lib.hid (by rw [ByteArray.append_assoc])
        generalize mg ++ T = mT at *
        go_wp2_with fail
        refine (HPx.out _).mono ?_
        rintro e wp ⟨rfl, rfl⟩
        cases b with
        | false =>
          have HF2 : Hid (r = ⟨#[]⟩) := Lib.hid (by rw [HV.out, HB2.out rfl]; rfl)
          clear HS2 HK2 HB2 HA HAs
          go_wp2_with fail
          go_ret
          exact ⟨by rw [HF2.out]; rfl, B.out⟩
        | true =>
          have HOk2 : Hid (hexOk (L.take (i + 1)) = true) := Lib.hid (by rw [HK2.out, HOk.out]; rfl)
          have HA' := HA.out
          clear HB2
          go_wp2_with fail
          go_roundw
          case rel => exact ⟨i + 1, by go_num, by omega, HOk2.out, by rw [HS2.out, HAs.out], RW.out, hgl, XC.out, B.out⟩
          case measure => simp [intOf]; omega
      · obtain rfl : i = 13 := by omega
        have hlt2 : ¬ ((13 : Nat) : Int) < 13 := by omega
        have HR9 := HF.out.2
        rw [HOk.out] at HR9
        have hxz := HL13.out HR9.symm
        have HF9 := HF.out.1
        rw [HF9]
        have HV9 : Hid (r = mg ++ hx ++ p ++ ⟨#[0]⟩ ++ nu1 ++ d ++ nu2) := Lib.hid (by rw [HV.out, ← HR9]; rfl)
        clear HR9 HF9 HF HV HL13 HS HK HB HG HZ HLe HOk RW
        have z1 : (⟨#[0]⟩ : ByteArray).size = 1 := rfl
        obtain ⟨x0, hx0⟩ : ∃ x : ByteArray, x = mg ++ hx := ⟨_, rfl⟩
        have y0 : x0.size = 110 := by rw [hx0, ByteArray.size_append]; omega
        obtain ⟨x1, hx1⟩ : ∃ x : ByteArray, x = x0 ++ p := ⟨_, rfl⟩
        have y1 : x1.size = 110 + p.size := by rw [hx1, ByteArray.size_append]; omega
        obtain ⟨x2, hx2⟩ : ∃ x : ByteArray, x = x1 ++ ⟨#[0]⟩ := ⟨_, rfl⟩
        have y2 : x2.size = 111 + p.size := by rw [hx2, ByteArray.size_append]; omega
        have A1 : ∀ w, (Op.stringOp .add x0 p).run Tryz.prog w = .ok (.string x1) w := fun w => by rw [hx1]; exact run_string_add_sum w _ _ (by omega)
        have A2 : ∀ w, (Op.stringOp .add x1 ⟨#[0]⟩).run Tryz.prog w = .ok (.string x2) w := fun w => by rw [hx2]; exact run_string_add_sum w _ _ (by omega)
        have HX : Hid (r = x2 ++ nu1 ++ d ++ nu2) := Lib.hid (by rw [HV9.out, hx2, hx1, hx0])
        rw [← y2] at HP1
        rw [← hx0]
        have y3 : x2.size ≤ 4194415 := by omega
        have y4 : nu1.size ≤ 3 := by omega
        have y5 : nu2.size ≤ 3 := by omega
        clear hx0 hx1 hx2 HV9
        obtain ⟨k0, k1, k2, k3, k4, k5, k6, k7⟩ := XC.out.at.zero
        simp only at k6 k7
        obtain ⟨w3, hw3⟩ : ∃ wo, wo = wr := ⟨_, rfl⟩
        subst hw3
        go_upto_region 11 with fail
        have KC : Hid (∀ w', Below w3.heap.size w3 w' → w'.cell? ⟨w.heap.size, 7, none⟩ = some (.string d)) := Lib.hid (fun w' hb => (hb.cell (p := ⟨w.heap.size, 7, none⟩) (by have := XC.out.lt; exact this)).trans k7)
        clear A1 A2
        obtain ⟨x65, hx65⟩ : ∃ x : ByteArray, x = x2 ++ nu1 := ⟨_, rfl⟩
        obtain ⟨x68, hx68⟩ : ∃ x : ByteArray, x = x65 ++ d := ⟨_, rfl⟩
        obtain ⟨x74, hx74⟩ : ∃ x : ByteArray, x = x68 ++ nu2 := ⟨_, rfl⟩
        have zx65 : x65.size ≤ 4194418 := by rw [hx65, ByteArray.size_append]; omega
        have zx68 : x68.size ≤ 8388722 := by rw [hx68, ByteArray.size_append]; omega
        have zx74 : x74.size ≤ 8388725 := by rw [hx74, ByteArray.size_append]; omega
        have HA65 : Hid (∀ w, (Op.stringOp .add x2 nu1).run Tryz.prog w = .ok (.string x65) w) := Lib.hid (fun w => by rw [hx65]; exact run_string_add_sum w _ _ (by omega))
        have HA68 : Hid (∀ w, (Op.stringOp .add x65 d).run Tryz.prog w = .ok (.string x68) w) := Lib.hid (fun w => by rw [hx68]; exact run_string_add_sum w _ _ (by omega))
        have HA74 : Hid (∀ w, (Op.stringOp .add x68 nu2).run Tryz.prog w = .ok (.string x74) w) := Lib.hid (fun w => by rw [hx74]; exact run_string_add_sum w _ _ (by omega))
        have HX65 := Lib.hid hx65
        have HX68 := Lib.hid hx68
        have HX74 := Lib.hid hx74
        clear hx65 hx68 hx74
        refine wp_region_inv (by kernel_rfl) (fun w' => Below w3.heap.size w3 w') (fun x y => Below x.heap.size x y) (fun dq vq _ => match dq with | 60 => vq = .string x2 | 61 => vq = .string x2 | 62 => vq = .int .i64 (x2.size : Int) | 63 => vq = .int .i64 (q1 : Int) | 64 => vq = .string nu1 | 65 => vq = .string x65 | 66 => vq = .pointer (some ⟨w.heap.size, 7, none⟩) | 67 => vq = .string d | 68 => vq = .string x68 | 69 => vq = .pointer (some ⟨w.heap.size, 7, none⟩) | 70 => vq = .string d | 71 => vq = .int .i64 (d.size : Int) | 72 => vq = .int .i64 (q2 : Int) | 73 => vq = .string nu2 | 74 => vq = .string x74 | 4 => vq = .string x74 | _ => True) (by kernel_rfl) ((Below.refl _ _).drew) (fun _ _ _ _ _ _ h => h) ?hops ?hend
        case hops =>
          simp only [List.forall_mem_cons]
          refine ⟨?o60, ?o61, ?o62, ?o63, ?o64, ?o65, ?o66, ?o67, ?o68, ?o69, ?o70, ?o71, ?o72, ?o73, ?o74, ?o4, fun _ h => by cases h⟩
          case o60 =>
            intro Q a w2 hC hV hI
            have e5 : a.eval (.tmp 5) = .string x2 := (hI 5 (by simp [Op.operands]) (by kernel_rfl)).trans rfl
            have f5 : a.tmps.getD 5 undef = .string x2 := e5
            have g5 : a.tmps[5]?.getD undef = .string x2 := by rw [← Array.getD_eq_getD_getElem?]; exact e5
            refine op_val (.string x2) ?_ hC (Below.refl _ _) (by intro d hd; cases hd; rfl)
            (clear hV hI hC; go_simp <;> (first | rfl | simp | (rw [IntKind.wrap_i64]; omega)))
          case o61 =>
            intro Q a w2 hC hV hI
            have e5 : a.eval (.tmp 5) = .string x2 := (hI 5 (by simp [Op.operands]) (by kernel_rfl)).trans rfl
            have f5 : a.tmps.getD 5 undef = .string x2 := e5
            have g5 : a.tmps[5]?.getD undef = .string x2 := by rw [← Array.getD_eq_getD_getElem?]; exact e5
            refine op_val (.string x2) ?_ hC (Below.refl _ _) (by intro d hd; cases hd; rfl)
            (clear hV hI hC; go_simp <;> (first | rfl | simp | (rw [IntKind.wrap_i64]; omega)))
          case o62 =>
            intro Q a w2 hC hV hI
            have e61 : a.eval (.tmp 61) = .string x2 := hV 61 (by simp [Op.operands, Call.operands]) (by kernel_rfl)
            have f61 : a.tmps.getD 61 undef = .string x2 := e61
            have g61 : a.tmps[61]?.getD undef = .string x2 := by rw [← Array.getD_eq_getD_getElem?]; exact e61
            refine op_val (.int .i64 (x2.size : Int)) ?_ hC (Below.refl _ _) (by intro d hd; cases hd; rfl)
            (clear hV hI hC; go_simp <;> (first | rfl | simp | (rw [IntKind.wrap_i64]; omega)))
          case o63 =>
            intro Q a w2 hC hV hI
            have e62 : a.eval (.tmp 62) = .int .i64 (x2.size : Int) := hV 62 (by simp [Op.operands, Call.operands]) (by kernel_rfl)
            have f62 : a.tmps.getD 62 undef = .int .i64 (x2.size : Int) := e62
            have g62 : a.tmps[62]?.getD undef = .int .i64 (x2.size : Int) := by rw [← Array.getD_eq_getD_getElem?]; exact e62
            refine op_call (f := 55) (args := #[.int .i64 (x2.size : Int), .int .i64 4]) (R := fun v y => v = .int .i64 (q1 : Int) ∧ w2 = y) ?_ ((HP1.out w2).mono ?_) ?_
            · (clear hV hI hC; go_simp <;> (first | rfl | simp | (rw [IntKind.wrap_i64]; omega)))
            · rintro e y ⟨rfl, rfl⟩; exact ⟨_, rfl, rfl, rfl⟩
            · rintro v y ⟨rfl, rfl⟩; exact ⟨hC, Below.refl _ _, by intro d hd; cases hd; rfl⟩
          case o64 =>
            intro Q a w2 hC hV hI
            have e63 : a.eval (.tmp 63) = .int .i64 (q1 : Int) := hV 63 (by simp [Op.operands, Call.operands]) (by kernel_rfl)
            have f63 : a.tmps.getD 63 undef = .int .i64 (q1 : Int) := e63
            have g63 : a.tmps[63]?.getD undef = .int .i64 (q1 : Int) := by rw [← Array.getD_eq_getD_getElem?]; exact e63
            refine op_call (f := 54) (args := #[.int .i64 (q1 : Int)]) (R := fun v y => v = .string nu1 ∧ Below w2.heap.size w2 y) ?_ ((HN1.out w2).mono ?_) ?_
            · (clear hV hI hC; go_simp <;> (first | rfl | simp | (rw [IntKind.wrap_i64]; omega)))
            · rintro e y ⟨rfl, hb⟩; exact ⟨_, rfl, rfl, hb⟩
            · rintro v y ⟨rfl, hb⟩; exact ⟨hC.trans (hb.mono hC.size), hb, by intro d hd; cases hd; rfl⟩
          case o65 =>
            intro Q a w2 hC hV hI
            have e60 : a.eval (.tmp 60) = .string x2 := hV 60 (by simp [Op.operands]) (by kernel_rfl)
            have f60 : a.tmps.getD 60 undef = .string x2 := e60
            have g60 : a.tmps[60]?.getD undef = .string x2 := by rw [← Array.getD_eq_getD_getElem?]; exact e60
            have e64 : a.eval (.tmp 64) = .string nu1 := hV 64 (by simp [Op.operands]) (by kernel_rfl)
            have f64 : a.tmps.getD 64 undef = .string nu1 := e64
            have g64 : a.tmps[64]?.getD undef = .string nu1 := by rw [← Array.getD_eq_getD_getElem?]; exact e64
            refine op_val (.string x65) ?_ hC (Below.refl _ _) (by intro d hd; cases hd; rfl)
            have q := HA65.out w2
            (clear hV hI hC; go_simp <;> (first | rfl | simp | (rw [IntKind.wrap_i64]; omega)))
          case o66 =>
            intro Q a w2 hC hV hI
            have e2 : a.eval (.tmp 2) = .pointer (some ⟨w.heap.size, 0, none⟩) := (hI 2 (by simp [Op.operands]) (by kernel_rfl)).trans rfl
            have f2 : a.tmps.getD 2 undef = .pointer (some ⟨w.heap.size, 0, none⟩) := e2
            have g2 : a.tmps[2]?.getD undef = .pointer (some ⟨w.heap.size, 0, none⟩) := by rw [← Array.getD_eq_getD_getElem?]; exact e2
            refine op_val (.pointer (some ⟨w.heap.size, 7, none⟩)) ?_ hC (Below.refl _ _) (by intro d hd; cases hd; rfl)
            (clear hV hI hC; go_simp <;> (first | rfl | simp | (rw [IntKind.wrap_i64]; omega)))
          case o67 =>
            intro Q a w2 hC hV hI
            have e66 : a.eval (.tmp 66) = .pointer (some ⟨w.heap.size, 7, none⟩) := hV 66 (by simp [Op.operands]) (by kernel_rfl)
            have f66 : a.tmps.getD 66 undef = .pointer (some ⟨w.heap.size, 7, none⟩) := e66
            have g66 : a.tmps[66]?.getD undef = .pointer (some ⟨w.heap.size, 7, none⟩) := by rw [← Array.getD_eq_getD_getElem?]; exact e66
            have hK := KC.out w2 hC
            refine op_val (.string d) ?_ hC (Below.refl _ _) (by intro d hd; cases hd; rfl)
            (clear hV hI hC; go_simp <;> (first | rfl | simp | (rw [IntKind.wrap_i64]; omega)))
          case o68 =>
            intro Q a w2 hC hV hI
            have e65 : a.eval (.tmp 65) = .string x65 := hV 65 (by simp [Op.operands]) (by kernel_rfl)
            have f65 : a.tmps.getD 65 undef = .string x65 := e65
            have g65 : a.tmps[65]?.getD undef = .string x65 := by rw [← Array.getD_eq_getD_getElem?]; exact e65
            have e67 : a.eval (.tmp 67) = .string d := hV 67 (by simp [Op.operands]) (by kernel_rfl)
            have f67 : a.tmps.getD 67 undef = .string d := e67
            have g67 : a.tmps[67]?.getD undef = .string d := by rw [← Array.getD_eq_getD_getElem?]; exact e67
            refine op_val (.string x68) ?_ hC (Below.refl _ _) (by intro d hd; cases hd; rfl)
            have q := HA68.out w2
            (clear hV hI hC; go_simp <;> (first | rfl | simp | (rw [IntKind.wrap_i64]; omega)))
          case o69 =>
            intro Q a w2 hC hV hI
            have e2 : a.eval (.tmp 2) = .pointer (some ⟨w.heap.size, 0, none⟩) := (hI 2 (by simp [Op.operands]) (by kernel_rfl)).trans rfl
            have f2 : a.tmps.getD 2 undef = .pointer (some ⟨w.heap.size, 0, none⟩) := e2
            have g2 : a.tmps[2]?.getD undef = .pointer (some ⟨w.heap.size, 0, none⟩) := by rw [← Array.getD_eq_getD_getElem?]; exact e2
            refine op_val (.pointer (some ⟨w.heap.size, 7, none⟩)) ?_ hC (Below.refl _ _) (by intro d hd; cases hd; rfl)
            (clear hV hI hC; go_simp <;> (first | rfl | simp | (rw [IntKind.wrap_i64]; omega)))
          case o70 =>
            intro Q a w2 hC hV hI
            have e69 : a.eval (.tmp 69) = .pointer (some ⟨w.heap.size, 7, none⟩) := hV 69 (by simp [Op.operands]) (by kernel_rfl)
            have f69 : a.tmps.getD 69 undef = .pointer (some ⟨w.heap.size, 7, none⟩) := e69
            have g69 : a.tmps[69]?.getD undef = .pointer (some ⟨w.heap.size, 7, none⟩) := by rw [← Array.getD_eq_getD_getElem?]; exact e69
            have hK := KC.out w2 hC
            refine op_val (.string d) ?_ hC (Below.refl _ _) (by intro d hd; cases hd; rfl)
            (clear hV hI hC; go_simp <;> (first | rfl | simp | (rw [IntKind.wrap_i64]; omega)))
          case o71 =>
            intro Q a w2 hC hV hI
            have e70 : a.eval (.tmp 70) = .string d := hV 70 (by simp [Op.operands, Call.operands]) (by kernel_rfl)
            have f70 : a.tmps.getD 70 undef = .string d := e70
            have g70 : a.tmps[70]?.getD undef = .string d := by rw [← Array.getD_eq_getD_getElem?]; exact e70
            refine op_val (.int .i64 (d.size : Int)) ?_ hC (Below.refl _ _) (by intro d hd; cases hd; rfl)
            (clear hV hI hC; go_simp <;> (first | rfl | simp | (rw [IntKind.wrap_i64]; omega)))
          case o72 =>
            intro Q a w2 hC hV hI
            have e71 : a.eval (.tmp 71) = .int .i64 (d.size : Int) := hV 71 (by simp [Op.operands, Call.operands]) (by kernel_rfl)
            have f71 : a.tmps.getD 71 undef = .int .i64 (d.size : Int) := e71
            have g71 : a.tmps[71]?.getD undef = .int .i64 (d.size : Int) := by rw [← Array.getD_eq_getD_getElem?]; exact e71
            refine op_call (f := 55) (args := #[.int .i64 (d.size : Int), .int .i64 4]) (R := fun v y => v = .int .i64 (q2 : Int) ∧ w2 = y) ?_ ((HP2.out w2).mono ?_) ?_
            · (clear hV hI hC; go_simp <;> (first | rfl | simp | (rw [IntKind.wrap_i64]; omega)))
            · rintro e y ⟨rfl, rfl⟩; exact ⟨_, rfl, rfl, rfl⟩
            · rintro v y ⟨rfl, rfl⟩; exact ⟨hC, Below.refl _ _, by intro d hd; cases hd; rfl⟩
          case o73 =>
            intro Q a w2 hC hV hI
            have e72 : a.eval (.tmp 72) = .int .i64 (q2 : Int) := hV 72 (by simp [Op.operands, Call.operands]) (by kernel_rfl)
            have f72 : a.tmps.getD 72 undef = .int .i64 (q2 : Int) := e72
            have g72 : a.tmps[72]?.getD undef = .int .i64 (q2 : Int) := by rw [← Array.getD_eq_getD_getElem?]; exact e72
            refine op_call (f := 54) (args := #[.int .i64 (q2 : Int)]) (R := fun v y => v = .string nu2 ∧ Below w2.heap.size w2 y) ?_ ((HN2.out w2).mono ?_) ?_
            · (clear hV hI hC; go_simp <;> (first | rfl | simp | (rw [IntKind.wrap_i64]; omega)))
            · rintro e y ⟨rfl, hb⟩; exact ⟨_, rfl, rfl, hb⟩
            · rintro v y ⟨rfl, hb⟩; exact ⟨hC.trans (hb.mono hC.size), hb, by intro d hd; cases hd; rfl⟩
          case o74 =>
            intro Q a w2 hC hV hI
            have e68 : a.eval (.tmp 68) = .string x68 := hV 68 (by simp [Op.operands]) (by kernel_rfl)
            have f68 : a.tmps.getD 68 undef = .string x68 := e68
            have g68 : a.tmps[68]?.getD undef = .string x68 := by rw [← Array.getD_eq_getD_getElem?]; exact e68
            have e73 : a.eval (.tmp 73) = .string nu2 := hV 73 (by simp [Op.operands]) (by kernel_rfl)
            have f73 : a.tmps.getD 73 undef = .string nu2 := e73
            have g73 : a.tmps[73]?.getD undef = .string nu2 := by rw [← Array.getD_eq_getD_getElem?]; exact e73
            refine op_val (.string x74) ?_ hC (Below.refl _ _) (by intro d hd; cases hd; rfl)
            have q := HA74.out w2
            (clear hV hI hC; go_simp <;> (first | rfl | simp | (rw [IntKind.wrap_i64]; omega)))
          case o4 =>
            intro Q a w2 hC hV hI
            have e74 : a.eval (.tmp 74) = .string x74 := hV 74 (by simp [Op.operands]) (by kernel_rfl)
            have f74 : a.tmps.getD 74 undef = .string x74 := e74
            have g74 : a.tmps[74]?.getD undef = .string x74 := by rw [← Array.getD_eq_getD_getElem?]; exact e74
            refine op_val (.string x74) ?_ hC (Below.refl _ _) (by intro d hd; cases hd; rfl)
            (clear hV hI hC; go_simp <;> (first | rfl | simp | (rw [IntKind.wrap_i64]; omega)))
        case hend =>
          intro f w4 hC hall
          clear HA65 HA68 HA74
          simp only [List.forall_mem_cons] at hall
          obtain ⟨h60, h61, h62, h63, h64, h65, h66, h67, h68, h69, h70, h71, h72, h73, h74, h4, _⟩ := hall
          replace h60 : f 60 = .string x2 := h60 60 rfl
          replace h61 : f 61 = .string x2 := h61 61 rfl
          replace h62 : f 62 = .int .i64 (x2.size : Int) := h62 62 rfl
          replace h63 : f 63 = .int .i64 (q1 : Int) := h63 63 rfl
          replace h64 : f 64 = .string nu1 := h64 64 rfl
          replace h65 : f 65 = .string x65 := h65 65 rfl
          replace h66 : f 66 = .pointer (some ⟨w.heap.size, 7, none⟩) := h66 66 rfl
          replace h67 : f 67 = .string d := h67 67 rfl
          replace h68 : f 68 = .string x68 := h68 68 rfl
          replace h69 : f 69 = .pointer (some ⟨w.heap.size, 7, none⟩) := h69 69 rfl
          replace h70 : f 70 = .string d := h70 70 rfl
          replace h71 : f 71 = .int .i64 (d.size : Int) := h71 71 rfl
          replace h72 : f 72 = .int .i64 (q2 : Int) := h72 72 rfl
          replace h73 : f 73 = .string nu2 := h73 73 rfl
          replace h74 : f 74 = .string x74 := h74 74 rfl
          replace h4 : f 4 = .string x74 := h4 4 rfl
          simp only [putAll, Act.put, List.setIfInBounds_toArray, List.set_cons_succ, List.set_cons_zero, h60, h61, h62, h63, h64, h65, h66, h67, h68, h69, h70, h71, h72, h73, h74, h4]
          clear h60 h61 h62 h63 h64 h65 h66 h67 h68 h69 h70 h71 h72 h73 h74 h4
          have HXe : Hid (r = x74) := Lib.hid (by rw [HX.out, HX74.out, HX68.out, HX65.out])
          clear KC HX
          have B4 := B.out.trans (hC.mono hszB)
          go_wp2_with fail
          go_ret
          exact ⟨by rw [HXe.out]; rfl, B4⟩
end Go.Proofs.YtcnmbolmgifgfabGreatDoor

/- Contracts of impl.upTo, impl.userOk, impl.symLinkOk. -/
namespace Go.Proofs.YtcnmbolmgifgfabGreatDoor
open Go.ChangeShapes Go.WideShapes Go.ChangeAt Go.RowKit

theorem upTo_any (x b : Int) (w : World) : Calls Tryz.prog 195 #[.int .i64 x, .int .i64 b] w fun e w' => e = .returned (.bool (inB x 0 b)) ∧ w = w' := by
  by_cases h1 : 0 ≤ x
  · by_cases h2 : x ≤ b
    · go_enter Tryz.func195, Tryz.ntmps195
      go_wp2
      go_ret
      exact ⟨by simp [inB]; omega, rfl⟩
    · go_enter Tryz.func195, Tryz.ntmps195
      go_wp2
      go_ret
      exact ⟨by simp [inB]; omega, rfl⟩
  · go_enter Tryz.func195, Tryz.ntmps195
    go_wp2
    go_ret
    exact ⟨by simp [inB]; omega, rfl⟩
theorem whob_t {c : UInt8} (h : whob c = true) : ((97 : Int) ≤ ((c.toNat : Nat) : Int) ∧ ((c.toNat : Nat) : Int) ≤ 122) ∨ ((48 : Int) ≤ ((c.toNat : Nat) : Int) ∧ ((c.toNat : Nat) : Int) ≤ 57) ∨ ((c.toNat : Nat) : Int) = 95 := by
  simp [whob] at h; omega
theorem whob_f {c : UInt8} (h : whob c = false) : ((c.toNat : Nat) : Int) < 48 ∨ ((57 : Int) < ((c.toNat : Nat) : Int) ∧ ((c.toNat : Nat) : Int) < 97 ∧ ¬ ((c.toNat : Nat) : Int) = 95) ∨ (122 : Int) < ((c.toNat : Nat) : Int) := by
  simp [whob] at h; omega
set_option maxHeartbeats 800000 in
theorem userOk_impl (s : ByteArray) (w : World) (hs : s.size ≤ 4194304) :
    Calls Tryz.prog 203 #[.string s] w fun e w' => e = .returned (.bool (whov s)) ∧ Below w.heap.size w w' := by
  have HB : Hid (∀ k, (h : k < s.size) → whob s[k] = false → whov s = false) := Lib.hid (fun k h hc => by rw [whov, allB_bad h hc]; rfl)
  have HD : Hid (AllB whob s s.size → s.size ≤ 20 → whov s = true) := Lib.hid (fun h h2 => by rw [whov, h.done, decide_eq_true h2]; rfl)
  have HZ : Hid (20 < s.size → whov s = false) := Lib.hid (fun h => by rw [whov, decide_eq_false (by omega)]; simp)
  generalize whov s = r at HB HD HZ
  by_cases hz : 20 < s.size
  · have hz2 : (20 : Int) < (s.size : Int) := by omega
    have HF := Lib.hid (HZ.out hz)
    go_enter Tryz.func203, Tryz.ntmps203
    go_wp2_with fail
    go_ret
    exact ⟨ret_bool HF.out.symm, Below.refl _ _⟩
  have hz2 : ¬ (20 : Int) < (s.size : Int) := by omega
  have hz3 : s.size ≤ 20 := by omega
  clear HZ
  go_enter Tryz.func203, Tryz.ntmps203
  go_wp2_with fail
  go_loopw [3, 4, 10] (fun _ _ u wr => ∃ i : Nat, u = .int .i64 i ∧ i ≤ s.size ∧ AllB whob s i ∧ Below w.heap.size w wr) (fun _ _ u _ => s.size - (intOf u).toNat)
  case atStart => exact ⟨0, rfl, Nat.zero_le _, AllB.start _ _, Below.refl _ _⟩
  case round =>
    obtain ⟨i, rfl, hi, hr, hb⟩ := hrel
    have HR := Lib.hid hr
    have B := Lib.hid hb
    clear hr hb
    by_cases hlt : i < s.size
    · have hlt2 : (i : Int) < (s.size : Int) := by omega
      have h8 := (s[i]).toNat_lt
      cases hc : whob s[i] with
      | false =>
        have HF : Hid (r = false) := Lib.hid (HB.out i hlt hc)
        have hq := whob_f hc
        clear hc HB HD HR
        generalize hx : ((s[i].toNat : Nat) : Int) = x at hq h8
        have HX := Lib.hid hx
        rcases hq with h | ⟨h, h2, h3⟩ | h
        · have a1 : ¬ (97 : Int) ≤ x := by omega
          have a3 : ¬ (48 : Int) ≤ x := by omega
          have a5 : ¬ x = 95 := by omega
          rw [← hx] at a1 a3 a5
          have a6 : (!(((s[i].toNat : Nat) : Int) == 95)) = true := by simpa using a5
          clear hx h HX a5
          go_wp2_with fail
          go_ret
          exact ⟨ret_bool HF.out.symm, B.out⟩
        · have a1 : ¬ (97 : Int) ≤ x := by omega
          have a3 : (48 : Int) ≤ x := by omega
          have a4 : ¬ x ≤ 57 := by omega
          rw [← hx] at a1 a3 a4 h3
          have a6 : (!(((s[i].toNat : Nat) : Int) == 95)) = true := by simpa using h3
          clear hx h HX h3 h2
          go_wp2_with fail
          go_ret
          exact ⟨ret_bool HF.out.symm, B.out⟩
        · have a1 : (97 : Int) ≤ x := by omega
          have a2 : ¬ x ≤ 122 := by omega
          have a3 : (48 : Int) ≤ x := by omega
          have a4 : ¬ x ≤ 57 := by omega
          have a5 : ¬ x = 95 := by omega
          rw [← hx] at a1 a2 a3 a4 a5
          have a6 : (!(((s[i].toNat : Nat) : Int) == 95)) = true := by simpa using a5
          clear hx h HX a5
          go_wp2_with fail
          go_ret
          exact ⟨ret_bool HF.out.symm, B.out⟩
      | true =>
        have HS := Lib.hid (HR.out.step hlt hc)
        have hq := whob_t hc
        clear hc HB HD HR
        by_cases a1 : (97 : Int) ≤ ((s[i].toNat : Nat) : Int)
        · have a2 : ((s[i].toNat : Nat) : Int) ≤ 122 := by omega
          clear hq
          go_wp2_with fail
          go_roundw
          case rel => exact ⟨i + 1, by go_num, by omega, HS.out, B.out⟩
          case measure => simp [intOf]; omega
        · by_cases a4 : ((s[i].toNat : Nat) : Int) ≤ 57
          · have a3 : (48 : Int) ≤ ((s[i].toNat : Nat) : Int) := by omega
            clear hq
            go_wp2_with fail
            go_roundw
            case rel => exact ⟨i + 1, by go_num, by omega, HS.out, B.out⟩
            case measure => simp [intOf]; omega
          · have a3 : (48 : Int) ≤ ((s[i].toNat : Nat) : Int) := by omega
            have a5 : ((s[i].toNat : Nat) : Int) = 95 := by omega
            clear hq
            go_wp2_with fail
            go_roundw
            case rel => exact ⟨i + 1, by go_num, by omega, HS.out, B.out⟩
            case measure => simp [intOf]; omega
    · obtain rfl : i = s.size := by omega
      have hlt2 : ¬ (s.size : Int) < (s.size : Int) := by omega
      have HF : Hid (r = true) := Lib.hid (HD.out HR.out hz3)
      go_wp2_with fail
      go_ret
      exact ⟨ret_bool HF.out.symm, B.out⟩
theorem symLinkOk_impl (s : ByteArray) (w : World) (hs : s.size ≤ 4194304) :
    Calls Tryz.prog 175 #[.string s] w fun e w' => e = .returned (.bool (inB s.size 1 150 && signv s)) ∧ Below w.heap.size w w' := by
  have H1 := Lib.hid (fun w => visible_impl s w (by omega))
  generalize signv s = r at H1
  by_cases hz : (1 : Int) ≤ (s.size : Int)
  · by_cases hz2 : (s.size : Int) ≤ 150
    · have hq : inB (s.size : Int) 1 150 = true := inB_t (by omega)
      rw [hq, Bool.true_and]
      clear hq
      go_enter Tryz.func175, Tryz.ntmps175
      go_wp2_with fail
      refine (H1.out _).mono ?_
      rintro e _ ⟨rfl, rfl⟩
      go_wp2_with fail
      go_ret
      exact ⟨rfl, Below.refl _ _⟩
    · have hq : inB (s.size : Int) 1 150 = false := inB_f (by omega)
      rw [hq]
      go_enter Tryz.func175, Tryz.ntmps175
      go_wp2_with fail
      go_ret
      exact ⟨rfl, Below.refl _ _⟩
  · have hq : inB (s.size : Int) 1 150 = false := inB_f (by omega)
    rw [hq]
    go_enter Tryz.func175, Tryz.ntmps175
    go_wp2_with fail
    go_ret
    exact ⟨rfl, Below.refl _ _⟩
end Go.Proofs.YtcnmbolmgifgfabGreatDoor

/- Contract of impl.EntryOk: the four kinds and what they share. -/
namespace Go.Proofs.YtcnmbolmgifgfabGreatDoor
open Go.ChangeShapes Go.WideShapes Go.ChangeAt Go.RowKit Go.Deep

/-- What all kinds ask. -/
def fieldsv (e : Ent) : Bool := pathOkv e.path && inB e.mode 0 4095 && inB e.uid 0 4294967295 && inB e.gid 0 4294967295 && inB e.time 0 99999999999 && whov e.user && whov e.group
set_option maxHeartbeats 3200000 in
theorem fieldsOk_impl (k : Int) (p l : ByteArray) (m u g t : Int) (us gr b : ByteArray) (w : World) (hp : p.size ≤ 4194304) (hus : us.size ≤ 4194304) (hgr : gr.size ≤ 4194304) :
    Calls Tryz.prog 174 #[.agg #[.int .i64 k, .string p, .string l, .int .i64 m, .int .i64 u, .int .i64 g, .int .i64 t, .string us, .string gr, .string b]] w fun e w' => e = .returned (.bool (fieldsv ⟨k, p, l, m, u, g, t, us, gr, b⟩)) ∧ Below w.heap.size w w' := by
  have H1 := Lib.hid (fun w => pathOk_impl p w (by omega))
  have H2 := Lib.hid (fun w => upTo_any m 4095 w)
  have H3 := Lib.hid (fun w => upTo_any u 4294967295 w)
  have H4 := Lib.hid (fun w => upTo_any g 4294967295 w)
  have H5 := Lib.hid (fun w => upTo_any t 99999999999 w)
  have H6 := Lib.hid (fun w => userOk_impl us w hus)
  have H7 := Lib.hid (fun w => userOk_impl gr w hgr)
  have HE : Hid (fieldsv ⟨k, p, l, m, u, g, t, us, gr, b⟩ = (pathOkv p && inB m 0 4095 && inB u 0 4294967295 && inB g 0 4294967295 && inB t 0 99999999999 && whov us && whov gr)) := Lib.hid rfl
  generalize fieldsv ⟨k, p, l, m, u, g, t, us, gr, b⟩ = r at HE
  generalize pathOkv p = b1 at H1 HE
  generalize inB m 0 4095 = b2 at H2 HE
  generalize inB u 0 4294967295 = b3 at H3 HE
  generalize inB g 0 4294967295 = b4 at H4 HE
  generalize inB t 0 99999999999 = b5 at H5 HE
  generalize whov us = b6 at H6 HE
  generalize whov gr = b7 at H7 HE
  clear hp hus hgr
  go_enter Tryz.func174, Tryz.ntmps174
  go_wp2_with fail
  refine (H1.out _).mono ?_
  rintro e w1 ⟨rfl, hb⟩
  obtain ⟨k1, bb, z1⟩ := one_new (e1 := ⟨k, p, l, m, u, g, t, us, gr, b⟩) hb
  have E := Lib.hid k1
  have B := Lib.hid bb
  clear hb k1 bb
  obtain ⟨c0, c1, c2, c3, c4, c5, c6, c7, c8, c9⟩ := E.out.zero
  cases b1 with
  | false =>
    go_wp2_with fail
    go_ret
    exact ⟨ret_bool (by rw [HE.out]; simp), B.out⟩
  | true =>
    go_wp2_with fail
    refine (H2.out _).mono ?_
    rintro e _ ⟨rfl, rfl⟩
    cases b2 with
    | false =>
      go_wp2_with fail
      go_ret
      exact ⟨ret_bool (by rw [HE.out]; simp), B.out⟩
    | true =>
      go_wp2_with fail
      refine (H3.out _).mono ?_
      rintro e _ ⟨rfl, rfl⟩
      cases b3 with
      | false =>
        go_wp2_with fail
        go_ret
        exact ⟨ret_bool (by rw [HE.out]; simp), B.out⟩
      | true =>
        go_wp2_with fail
        refine (H4.out _).mono ?_
        rintro e _ ⟨rfl, rfl⟩
        cases b4 with
        | false =>
          go_wp2_with fail
          go_ret
          exact ⟨ret_bool (by rw [HE.out]; simp), B.out⟩
        | true =>
          go_wp2_with fail
          refine (H5.out _).mono ?_
          rintro e _ ⟨rfl, rfl⟩
          cases b5 with
          | false =>
            go_wp2_with fail
            go_ret
            exact ⟨ret_bool (by rw [HE.out]; simp), B.out⟩
          | true =>
            go_wp2_with fail
            refine (H6.out _).mono ?_
            rintro e w6 ⟨rfl, hb⟩
            replace E := Lib.hid (E.out.below hb (by omega))
            replace B := Lib.hid (btE B.out hb)
            replace z1 := Nat.le_trans z1 hb.size
            clear hb c0 c1 c2 c3 c4 c5 c6 c7 c8 c9
            obtain ⟨c0, c1, c2, c3, c4, c5, c6, c7, c8, c9⟩ := E.out.zero
            cases b6 with
            | false =>
              go_wp2_with fail
              go_ret
              exact ⟨ret_bool (by rw [HE.out]; simp), B.out⟩
            | true =>
              go_wp2_with fail
              refine (H7.out _).mono ?_
              rintro e w7 ⟨rfl, hb⟩
              replace E := Lib.hid (E.out.below hb (by omega))
              replace B := Lib.hid (btE B.out hb)
              replace z1 := Nat.le_trans z1 hb.size
              clear hb c0 c1 c2 c3 c4 c5 c6 c7 c8 c9
              obtain ⟨c0, c1, c2, c3, c4, c5, c6, c7, c8, c9⟩ := E.out.zero
              cases b7 with
              | false =>
                go_wp2_with fail
                go_ret
                exact ⟨ret_bool (by rw [HE.out]; simp), B.out⟩
              | true =>
                go_wp2_with fail
                go_ret
                exact ⟨ret_bool (by rw [HE.out]; simp), B.out⟩
set_option maxHeartbeats 3200000 in
theorem fileOk_impl (k : Int) (p l : ByteArray) (m u g t : Int) (us gr b : ByteArray) (w : World) (hp : p.size ≤ 4194304) (hus : us.size ≤ 4194304) (hgr : gr.size ≤ 4194304) :
    Calls Tryz.prog 135 #[.agg #[.int .i64 k, .string p, .string l, .int .i64 m, .int .i64 u, .int .i64 g, .int .i64 t, .string us, .string gr, .string b]] w fun e w' => e = .returned (.bool (fieldsv ⟨k, p, l, m, u, g, t, us, gr, b⟩ && (decide (l.size = 0) && decide (b.size ≤ 3000)))) ∧ Below w.heap.size w w' := by
  have H1 := Lib.hid (fun w => fieldsOk_impl k p l m u g t us gr b w hp hus hgr)
  generalize fieldsv ⟨k, p, l, m, u, g, t, us, gr, b⟩ = b1 at H1 ⊢
  go_enter Tryz.func135, Tryz.ntmps135
  go_wp2_with fail
  refine (H1.out _).mono ?_
  rintro e w1 ⟨rfl, hb⟩
  obtain ⟨k1, bb, z1⟩ := one_new (e1 := ⟨k, p, l, m, u, g, t, us, gr, b⟩) hb
  have E := Lib.hid k1
  have B := Lib.hid bb
  clear hb k1 bb
  obtain ⟨c0, c1, c2, c3, c4, c5, c6, c7, c8, c9⟩ := E.out.zero
  cases b1 with
  | false =>
    go_wp2_with fail
    go_ret
    exact ⟨ret_bool (by simp), B.out⟩
  | true =>
    by_cases ql : l.size = 0
    · have ql2 := empty_t ql
      by_cases qb : b.size ≤ 3000
      · have qb2 : (b.size : Int) ≤ 3000 := by omega
        go_wp2_with fail
        go_ret
        exact ⟨ret_bool (by simp [ql, qb]), B.out⟩
      · have qb2 : ¬ (b.size : Int) ≤ 3000 := by omega
        go_wp2_with fail
        go_ret
        exact ⟨ret_bool (by rw [decide_eq_false qb]; simp; try omega), B.out⟩
    · have ql2 := empty_f ql
      go_wp2_with fail
      go_ret
      exact ⟨ret_bool (by simp [ql]), B.out⟩
set_option maxHeartbeats 3200000 in
theorem dirOk_impl (k : Int) (p l : ByteArray) (m u g t : Int) (us gr b : ByteArray) (w : World) (hp : p.size ≤ 4194304) (hus : us.size ≤ 4194304) (hgr : gr.size ≤ 4194304) :
    Calls Tryz.prog 136 #[.agg #[.int .i64 k, .string p, .string l, .int .i64 m, .int .i64 u, .int .i64 g, .int .i64 t, .string us, .string gr, .string b]] w fun e w' => e = .returned (.bool (fieldsv ⟨k, p, l, m, u, g, t, us, gr, b⟩ && (decide (l.size = 0) && decide (b.size = 0)))) ∧ Below w.heap.size w w' := by
  have H1 := Lib.hid (fun w => fieldsOk_impl k p l m u g t us gr b w hp hus hgr)
  generalize fieldsv ⟨k, p, l, m, u, g, t, us, gr, b⟩ = b1 at H1 ⊢
  go_enter Tryz.func136, Tryz.ntmps136
  go_wp2_with fail
  refine (H1.out _).mono ?_
  rintro e w1 ⟨rfl, hb⟩
  obtain ⟨k1, bb, z1⟩ := one_new (e1 := ⟨k, p, l, m, u, g, t, us, gr, b⟩) hb
  have E := Lib.hid k1
  have B := Lib.hid bb
  clear hb k1 bb
  obtain ⟨c0, c1, c2, c3, c4, c5, c6, c7, c8, c9⟩ := E.out.zero
  cases b1 with
  | false =>
    go_wp2_with fail
    go_ret
    exact ⟨ret_bool (by simp), B.out⟩
  | true =>
    by_cases ql : l.size = 0
    · have ql2 := empty_t ql
      by_cases qb : b.size = 0
      · have qb2 := empty_t qb
        go_wp2_with fail
        go_ret
        exact ⟨ret_bool (by simp [ql, qb]), B.out⟩
      · have qb2 := empty_f qb
        go_wp2_with fail
        go_ret
        exact ⟨ret_bool (by simp [qb]), B.out⟩
    · have ql2 := empty_f ql
      go_wp2_with fail
      go_ret
      exact ⟨ret_bool (by simp [ql]), B.out⟩
set_option maxHeartbeats 3200000 in
theorem symOk_impl (k : Int) (p l : ByteArray) (m u g t : Int) (us gr b : ByteArray) (w : World) (hp : p.size ≤ 4194304) (hl : l.size ≤ 4194304) (hus : us.size ≤ 4194304) (hgr : gr.size ≤ 4194304) :
    Calls Tryz.prog 137 #[.agg #[.int .i64 k, .string p, .string l, .int .i64 m, .int .i64 u, .int .i64 g, .int .i64 t, .string us, .string gr, .string b]] w fun e w' => e = .returned (.bool (fieldsv ⟨k, p, l, m, u, g, t, us, gr, b⟩ && (inB l.size 1 150 && signv l && decide (b.size = 0)))) ∧ Below w.heap.size w w' := by
  have H1 := Lib.hid (fun w => fieldsOk_impl k p l m u g t us gr b w hp hus hgr)
  have H2 := Lib.hid (fun w => symLinkOk_impl l w hl)
  generalize (inB (l.size : Int) 1 150 && signv l) = b2 at H2 ⊢
  generalize fieldsv ⟨k, p, l, m, u, g, t, us, gr, b⟩ = b1 at H1 ⊢
  go_enter Tryz.func137, Tryz.ntmps137
  go_wp2_with fail
  refine (H1.out _).mono ?_
  rintro e w1 ⟨rfl, hb⟩
  obtain ⟨k1, bb, z1⟩ := one_new (e1 := ⟨k, p, l, m, u, g, t, us, gr, b⟩) hb
  have E := Lib.hid k1
  have B := Lib.hid bb
  clear hb k1 bb
  obtain ⟨c0, c1, c2, c3, c4, c5, c6, c7, c8, c9⟩ := E.out.zero
  cases b1 with
  | false =>
    go_wp2_with fail
    go_ret
    exact ⟨ret_bool (by simp), B.out⟩
  | true =>
    go_wp2_with fail
    refine (H2.out _).mono ?_
    rintro e w2 ⟨rfl, hb⟩
    replace E := Lib.hid (E.out.below hb (by omega))
    replace B := Lib.hid (btE B.out hb)
    replace z1 := Nat.le_trans z1 hb.size
    clear hb c0 c1 c2 c3 c4 c5 c6 c7 c8 c9
    obtain ⟨c0, c1, c2, c3, c4, c5, c6, c7, c8, c9⟩ := E.out.zero
    cases b2 with
    | false =>
      go_wp2_with fail
      go_ret
      exact ⟨ret_bool (by simp), B.out⟩
    | true =>
      by_cases qb : b.size = 0
      · have qb2 := empty_t qb
        go_wp2_with fail
        go_ret
        exact ⟨ret_bool (by simp [qb]), B.out⟩
      · have qb2 := empty_f qb
        go_wp2_with fail
        go_ret
        exact ⟨ret_bool (by simp [qb]), B.out⟩
set_option maxHeartbeats 3200000 in
theorem hardOk_impl (k : Int) (p l : ByteArray) (m u g t : Int) (us gr b : ByteArray) (w : World) (hp : p.size ≤ 4194304) (hl : l.size ≤ 4194304) (hus : us.size ≤ 4194304) (hgr : gr.size ≤ 4194304) :
    Calls Tryz.prog 138 #[.agg #[.int .i64 k, .string p, .string l, .int .i64 m, .int .i64 u, .int .i64 g, .int .i64 t, .string us, .string gr, .string b]] w fun e w' => e = .returned (.bool (fieldsv ⟨k, p, l, m, u, g, t, us, gr, b⟩ && (pathOkv l && decide (l ≠ p) && decide (b.size = 0)))) ∧ Below w.heap.size w w' := by
  have H1 := Lib.hid (fun w => fieldsOk_impl k p l m u g t us gr b w hp hus hgr)
  have H2 := Lib.hid (fun w => pathOk_impl l w (by omega))
  generalize pathOkv l = b2 at H2 ⊢
  generalize fieldsv ⟨k, p, l, m, u, g, t, us, gr, b⟩ = b1 at H1 ⊢
  go_enter Tryz.func138, Tryz.ntmps138
  go_wp2_with fail
  refine (H1.out _).mono ?_
  rintro e w1 ⟨rfl, hb⟩
  obtain ⟨k1, bb, z1⟩ := one_new (e1 := ⟨k, p, l, m, u, g, t, us, gr, b⟩) hb
  have E := Lib.hid k1
  have B := Lib.hid bb
  clear hb k1 bb
  obtain ⟨c0, c1, c2, c3, c4, c5, c6, c7, c8, c9⟩ := E.out.zero
  cases b1 with
  | false =>
    go_wp2_with fail
    go_ret
    exact ⟨ret_bool (by simp), B.out⟩
  | true =>
    go_wp2_with fail
    refine (H2.out _).mono ?_
    rintro e w2 ⟨rfl, hb⟩
    replace E := Lib.hid (E.out.below hb (by omega))
    replace B := Lib.hid (btE B.out hb)
    replace z1 := Nat.le_trans z1 hb.size
    clear hb c0 c1 c2 c3 c4 c5 c6 c7 c8 c9
    obtain ⟨c0, c1, c2, c3, c4, c5, c6, c7, c8, c9⟩ := E.out.zero
    cases b2 with
    | false =>
      go_wp2_with fail
      go_ret
      exact ⟨ret_bool (by simp), B.out⟩
    | true =>
      by_cases ql : l = p
      · have ql2 := baE_eq ql
        go_wp2_with fail
        go_ret
        exact ⟨ret_bool (by simp [ql]), B.out⟩
      · have ql2 := baE_ne ql
        by_cases qb : b.size = 0
        · have qb2 := empty_t qb
          go_wp2_with fail
          go_ret
          exact ⟨ret_bool (by simp [ql, qb]), B.out⟩
        · have qb2 := empty_f qb
          go_wp2_with fail
          go_ret
          exact ⟨ret_bool (by simp [qb]), B.out⟩
theorem entOkv_eq (e : Ent) : entOkv e = (fieldsv e && kindOk e.kind e.path e.link e.body) := rfl
set_option maxHeartbeats 3200000 in
theorem entryOk_impl (k : Int) (p l : ByteArray) (m u g t : Int) (us gr b : ByteArray) (w : World) (hp : p.size ≤ 4194304) (hl : l.size ≤ 4194304) (hus : us.size ≤ 4194304) (hgr : gr.size ≤ 4194304) :
    Calls Tryz.prog 88 #[.agg #[.int .i64 k, .string p, .string l, .int .i64 m, .int .i64 u, .int .i64 g, .int .i64 t, .string us, .string gr, .string b]] w fun e w' => e = .returned (.bool (entOkv ⟨k, p, l, m, u, g, t, us, gr, b⟩)) ∧ Below w.heap.size w w' := by
  have H0 := Lib.hid (fun w => fileOk_impl k p l m u g t us gr b w hp hus hgr)
  have H1 := Lib.hid (fun w => dirOk_impl k p l m u g t us gr b w hp hus hgr)
  have H2 := Lib.hid (fun w => symOk_impl k p l m u g t us gr b w hp hl hus hgr)
  have H3 := Lib.hid (fun w => hardOk_impl k p l m u g t us gr b w hp hl hus hgr)
  have HE : Hid (entOkv ⟨k, p, l, m, u, g, t, us, gr, b⟩ = (fieldsv ⟨k, p, l, m, u, g, t, us, gr, b⟩ && kindOk k p l b)) := Lib.hid rfl
  have HK : Hid (kindOk k p l b = if k = 0 then decide (l.size = 0) && decide (b.size ≤ 3000) else if k = 1 then decide (l.size = 0) && decide (b.size = 0) else if k = 2 then inB l.size 1 150 && signv l && decide (b.size = 0) else if k = 3 then pathOkv l && decide (l ≠ p) && decide (b.size = 0) else false) := Lib.hid rfl
  generalize hk0 : (decide (l.size = 0) && decide (b.size ≤ 3000)) = r0 at H0 HK
  generalize hk1 : (decide (l.size = 0) && decide (b.size = 0)) = r1 at H1 HK
  generalize hk2 : (inB (l.size : Int) 1 150 && signv l && decide (b.size = 0)) = r2 at H2 HK
  generalize hk3 : (pathOkv l && decide (l ≠ p) && decide (b.size = 0)) = r3 at H3 HK
  clear hk0 hk1 hk2 hk3
  generalize kindOk k p l b = rk at HE HK
  generalize entOkv ⟨k, p, l, m, u, g, t, us, gr, b⟩ = r at HE
  generalize fieldsv ⟨k, p, l, m, u, g, t, us, gr, b⟩ = b1 at HE H0 H1 H2 H3
  clear hp hl hus hgr
  by_cases q0 : k = 0
  · have HF : Hid (r = (b1 && r0)) := Lib.hid (by rw [HE.out, HK.out]; simp [q0])
    subst q0
    clear HE HK
    go_enter Tryz.func88, Tryz.ntmps88
    go_wp2_with fail
    refine (H0.out _).mono ?_
    rintro e w1 ⟨rfl, hb⟩
    go_wp2_with fail
    go_ret
    exact ⟨ret_bool HF.out.symm, (((Below.refl _ w).alloc (Nat.le_refl _) _).alloc (by simp) _).trans (hb.mono (by simp; omega))⟩
  by_cases q1 : k = 1
  · have HF : Hid (r = (b1 && r1)) := Lib.hid (by rw [HE.out, HK.out]; simp [q1])
    subst q1
    clear HE HK
    go_enter Tryz.func88, Tryz.ntmps88
    go_wp2_with fail
    refine (H1.out _).mono ?_
    rintro e w1 ⟨rfl, hb⟩
    go_wp2_with fail
    go_ret
    exact ⟨ret_bool HF.out.symm, (((Below.refl _ w).alloc (Nat.le_refl _) _).alloc (by simp) _).trans (hb.mono (by simp; omega))⟩
  by_cases q2 : k = 2
  · have HF : Hid (r = (b1 && r2)) := Lib.hid (by rw [HE.out, HK.out]; simp [q2])
    subst q2
    clear HE HK
    go_enter Tryz.func88, Tryz.ntmps88
    go_wp2_with fail
    refine (H2.out _).mono ?_
    rintro e w1 ⟨rfl, hb⟩
    go_wp2_with fail
    go_ret
    exact ⟨ret_bool HF.out.symm, (((Below.refl _ w).alloc (Nat.le_refl _) _).alloc (by simp) _).trans (hb.mono (by simp; omega))⟩
  by_cases q3 : k = 3
  · have HF : Hid (r = (b1 && r3)) := Lib.hid (by rw [HE.out, HK.out]; simp [q3])
    subst q3
    clear HE HK
    go_enter Tryz.func88, Tryz.ntmps88
    go_wp2_with fail
    refine (H3.out _).mono ?_
    rintro e w1 ⟨rfl, hb⟩
    go_wp2_with fail
    go_ret
    exact ⟨ret_bool HF.out.symm, (((Below.refl _ w).alloc (Nat.le_refl _) _).alloc (by simp) _).trans (hb.mono (by simp; omega))⟩
  have HF : Hid (r = false) := Lib.hid (by rw [HE.out, HK.out, if_neg q0, if_neg q1, if_neg q2, if_neg q3]; simp)
  clear HE HK
  go_enter Tryz.func88, Tryz.ntmps88
  go_wp2_with fail
  go_ret
  exact ⟨ret_bool HF.out.symm, ((Below.refl _ w).alloc (Nat.le_refl _) _).alloc (by simp) _⟩
end Go.Proofs.YtcnmbolmgifgfabGreatDoor

/- Contract of impl.cpioFits: what all cpio formats ask of an entry. -/
namespace Go.Proofs.YtcnmbolmgifgfabGreatDoor
open Go.ChangeShapes Go.WideShapes Go.ChangeAt Go.RowKit Go.Deep

def isTrail (p : ByteArray) : Bool := p.toList == [84, 82, 65, 73, 76, 69, 82, 33, 33, 33]
def cpioF (e : Ent) : Bool := entOkv e && !isTrail e.path && e.user.toList.isEmpty && e.group.toList.isEmpty
set_option maxHeartbeats 3200000 in
theorem cpioF_impl (k : Int) (p l : ByteArray) (m u g t : Int) (us gr b : ByteArray) (w : World) (hp : p.size ≤ 4194304) (hl : l.size ≤ 4194304) (hus : us.size ≤ 4194304) (hgr : gr.size ≤ 4194304) :
    Calls Tryz.prog 96 #[.agg #[.int .i64 k, .string p, .string l, .int .i64 m, .int .i64 u, .int .i64 g, .int .i64 t, .string us, .string gr, .string b]] w fun e w' => e = .returned (.bool (cpioF ⟨k, p, l, m, u, g, t, us, gr, b⟩)) ∧ Below w.heap.size w w' := by
  have H2 := Lib.hid (fun w => entryOk_impl k p l m u g t us gr b w hp hl hus hgr)
  have HE : Hid (cpioF ⟨k, p, l, m, u, g, t, us, gr, b⟩ = (entOkv ⟨k, p, l, m, u, g, t, us, gr, b⟩ && !(p.toList == [84, 82, 65, 73, 76, 69, 82, 33, 33, 33]) && us.toList.isEmpty && gr.toList.isEmpty)) := Lib.hid rfl
  generalize cpioF ⟨k, p, l, m, u, g, t, us, gr, b⟩ = r at HE
  generalize entOkv ⟨k, p, l, m, u, g, t, us, gr, b⟩ = b1 at H2 HE
  clear hp hus hgr hl
  go_enter Tryz.func96, Tryz.ntmps96
  go_wp2_with fail
  refine (H2.out _).mono ?_
  rintro e w1 ⟨rfl, hb⟩
  obtain ⟨k1, bb1, z1⟩ := one_new (e1 := ⟨k, p, l, m, u, g, t, us, gr, b⟩) hb
  have E1 := Lib.hid k1
  have B1 := Lib.hid bb1
  clear hb k1 bb1
  obtain ⟨c0, c1, c2, c3, c4, c5, c6, c7, c8, c9⟩ := E1.out.zero
  cases b1 with
  | false =>
    go_wp2_with fail
    go_ret
    exact ⟨ret_bool (by rw [HE.out]; simp []), B1.out⟩
  | true =>
    cases q1 : (p.toList == [84, 82, 65, 73, 76, 69, 82, 33, 33, 33]) with
    | true =>
      have HE2 : Hid (r = false) := Lib.hid (by rw [HE.out, q1]; simp)
      clear HE
      go_wp2_with fail
      go_ret
      exact ⟨ret_bool HE2.out.symm, B1.out⟩
    | false =>
      cases q2 : us.toList.isEmpty with
      | false =>
        have HE2 : Hid (r = false) := Lib.hid (by rw [HE.out, q2]; simp)
        clear HE
        go_wp2_with fail
        go_ret
        exact ⟨ret_bool HE2.out.symm, B1.out⟩
      | true =>
        have HE2 : Hid (r = gr.toList.isEmpty) := Lib.hid (by rw [HE.out, q1, q2]; simp)
        clear HE
        go_wp2_with fail
        go_ret
        exact ⟨ret_bool HE2.out.symm, B1.out⟩
end Go.Proofs.YtcnmbolmgifgfabGreatDoor

/- Contracts of spec.NewFits and impl.NewFits. -/
namespace Go.Proofs.YtcnmbolmgifgfabGreatDoor
open Go.ChangeShapes Go.WideShapes Go.ChangeAt Go.RowKit Go.Deep

def newFits (e : Ent) : Bool := entOkv e && !isTrail e.path && e.user.toList.isEmpty && e.group.toList.isEmpty && decide (e.time ≤ 4294967295)
theorem newFits_cpio (e : Ent) : newFits e = (cpioF e && decide (e.time ≤ 4294967295)) := rfl
set_option maxHeartbeats 3200000 in
theorem newFits_spec (k : Int) (p l : ByteArray) (m u g t : Int) (us gr b : ByteArray) (w : World) (hp : p.size ≤ 4194304) (hl : l.size ≤ 4194304) (hus : us.size ≤ 4194304) (hgr : gr.size ≤ 4194304) (hbz : b.size ≤ 4194304) :
    Calls Tryz.prog 26 #[.agg #[.int .i64 k, .string p, .string l, .int .i64 m, .int .i64 u, .int .i64 g, .int .i64 t, .string us, .string gr, .string b]] w fun e w' => e = .returned (.bool (newFits ⟨k, p, l, m, u, g, t, us, gr, b⟩)) ∧ Below w.heap.size w w' := by
  have H2 := Lib.hid (fun w => entryOk_spec k p l m u g t us gr b w hp hl hus hgr hbz)
  have HE : Hid (newFits ⟨k, p, l, m, u, g, t, us, gr, b⟩ = (entOkv ⟨k, p, l, m, u, g, t, us, gr, b⟩ && !(p.toList == [84, 82, 65, 73, 76, 69, 82, 33, 33, 33]) && us.toList.isEmpty && gr.toList.isEmpty && decide (t ≤ 4294967295))) := Lib.hid rfl
  generalize newFits ⟨k, p, l, m, u, g, t, us, gr, b⟩ = r at HE
  generalize entOkv ⟨k, p, l, m, u, g, t, us, gr, b⟩ = b1 at H2 HE
  clear hp hus hgr hl hbz
  go_enter Tryz.func26, Tryz.ntmps26
  go_wp2_with fail
  refine (H2.out _).mono ?_
  rintro e w1 ⟨rfl, hb⟩
  obtain ⟨k1, bb1, z1⟩ := one_new (e1 := ⟨k, p, l, m, u, g, t, us, gr, b⟩) hb
  have E1 := Lib.hid k1
  have B1 := Lib.hid bb1
  clear hb k1 bb1
  obtain ⟨c0, c1, c2, c3, c4, c5, c6, c7, c8, c9⟩ := E1.out.zero
  cases b1 with
  | false =>
    go_wp2_with fail
    go_ret
    exact ⟨ret_bool (by rw [HE.out]; simp []), B1.out⟩
  | true =>
    cases q1 : (p.toList == [84, 82, 65, 73, 76, 69, 82, 33, 33, 33]) with
    | true =>
      have HE2 : Hid (r = false) := Lib.hid (by rw [HE.out, q1]; simp)
      clear HE
      go_wp2_with fail
      go_ret
      exact ⟨ret_bool HE2.out.symm, B1.out⟩
    | false =>
      cases q2 : us.toList.isEmpty with
      | false =>
        have HE2 : Hid (r = false) := Lib.hid (by rw [HE.out, q2]; simp)
        clear HE
        go_wp2_with fail
        go_ret
        exact ⟨ret_bool HE2.out.symm, B1.out⟩
      | true =>
        cases q3 : gr.toList.isEmpty with
        | false =>
          have HE2 : Hid (r = false) := Lib.hid (by rw [HE.out, q3]; simp)
          clear HE
          go_wp2_with fail
          go_ret
          exact ⟨ret_bool HE2.out.symm, B1.out⟩
        | true =>
          by_cases q4 : t ≤ 4294967295
          · have HE2 : Hid (r = true) := Lib.hid (by rw [HE.out, q1, q2, q3, decide_eq_true q4]; rfl)
            clear HE
            go_wp2_with fail
            go_ret
            exact ⟨ret_bool HE2.out.symm, B1.out⟩
          · have HE2 : Hid (r = false) := Lib.hid (by rw [HE.out, decide_eq_false q4]; simp)
            clear HE
            go_wp2_with fail
            go_ret
            exact ⟨ret_bool ((decide_eq_false (show ¬ t ≤ 4294967295 by omega)).trans HE2.out.symm), B1.out⟩
set_option maxHeartbeats 3200000 in
theorem newFits_impl (k : Int) (p l : ByteArray) (m u g t : Int) (us gr b : ByteArray) (w : World) (hp : p.size ≤ 4194304) (hl : l.size ≤ 4194304) (hus : us.size ≤ 4194304) (hgr : gr.size ≤ 4194304) :
    Calls Tryz.prog 56 #[.agg #[.int .i64 k, .string p, .string l, .int .i64 m, .int .i64 u, .int .i64 g, .int .i64 t, .string us, .string gr, .string b]] w fun e w' => e = .returned (.bool (newFits ⟨k, p, l, m, u, g, t, us, gr, b⟩)) ∧ Below w.heap.size w w' := by
  have H2 := Lib.hid (fun w => cpioF_impl k p l m u g t us gr b w hp hl hus hgr)
  have HE : Hid (newFits ⟨k, p, l, m, u, g, t, us, gr, b⟩ = (cpioF ⟨k, p, l, m, u, g, t, us, gr, b⟩ && decide (t ≤ 4294967295))) := Lib.hid rfl
  generalize newFits ⟨k, p, l, m, u, g, t, us, gr, b⟩ = r at HE
  generalize cpioF ⟨k, p, l, m, u, g, t, us, gr, b⟩ = b1 at H2 HE
  clear hp hus hgr hl
  go_enter Tryz.func56, Tryz.ntmps56
  go_wp2_with fail
  refine (H2.out _).mono ?_
  rintro e w1 ⟨rfl, hb⟩
  obtain ⟨k1, bb1, z1⟩ := one_new (e1 := ⟨k, p, l, m, u, g, t, us, gr, b⟩) hb
  have E1 := Lib.hid k1
  have B1 := Lib.hid bb1
  clear hb k1 bb1
  obtain ⟨c0, c1, c2, c3, c4, c5, c6, c7, c8, c9⟩ := E1.out.zero
  cases b1 with
  | false =>
    go_wp2_with fail
    go_ret
    exact ⟨ret_bool (by rw [HE.out]; simp []), B1.out⟩
  | true =>
    by_cases q4 : t ≤ 4294967295
    · have HE2 : Hid (r = true) := Lib.hid (by rw [HE.out, decide_eq_true q4]; rfl)
      clear HE
      go_wp2_with fail
      go_ret
      exact ⟨ret_bool HE2.out.symm, B1.out⟩
    · have HE2 : Hid (r = false) := Lib.hid (by rw [HE.out, decide_eq_false q4]; simp)
      clear HE
      go_wp2_with fail
      go_ret
      exact ⟨ret_bool ((decide_eq_false (show ¬ t ≤ 4294967295 by omega)).trans HE2.out.symm), B1.out⟩
end Go.Proofs.YtcnmbolmgifgfabGreatDoor

/- The text of a list in cards with hexadecimal numbers; contract of spec.PutNewc. -/
namespace Go.Proofs.YtcnmbolmgifgfabGreatDoor
open Go.ChangeShapes Go.WideShapes Go.ChangeAt Go.RowKit Go.Deep

def lastC : Card := ⟨0, 0, 0, 0, 1, 0, ⟨#[84, 82, 65, 73, 76, 69, 82, 33, 33, 33]⟩, ⟨#[]⟩⟩
def nwT (crc : Bool) (Q : List Card) : Nat → ByteArray
  | 0 => ⟨#[]⟩
  | n + 1 => nwT crc Q n ++ newTextv (Q.getD n zeroCd) crc
def putNwB (L : List Ent) : Bool := listOkv L && L.all newFits
def putNwT (L : List Ent) (crc : Bool) : ByteArray := if putNwB L then nwT crc (cardsv L) L.length ++ newTextv lastC crc else ⟨#[]⟩
theorem getD_ofQ {C : List Card} {i : Nat} {c : Card} (h : C[i]? = some c) : C.getD i zeroCd = c := by simp [List.getD, h]
theorem nwT_step {crc : Bool} {Q : List Card} {i : Nat} {c : Card} (h : Q[i]? = some c) : nwT crc Q (i + 1) = nwT crc Q i ++ newTextv c crc := by rw [nwT, getD_ofQ h]
theorem newText_le (c : Card) (crc : Bool) : (newTextv c crc).size ≤ 207 + c.Path.size + c.Data.size := by
  unfold newTextv
  split
  · have h := (hexS_le (nFl c crc)).1
    have hl : (nFl c crc).length = 13 := rfl
    have z6 := mgN_size crc
    have z1 : (⟨#[0]⟩ : ByteArray).size = 1 := rfl
    have p1 := pad4_le (111 + c.Path.size)
    have p2 := pad4_le c.Data.size
    simp only [ByteArray.size_append, nulN_size]
    omega
  · exact Nat.zero_le _
def SmallQ (Q : List Card) : Prop := ∀ c ∈ Q, c.Path.size + c.Data.size ≤ 4194304
theorem smallQ_of {L : List Ent} (h : SmallL L) : SmallQ (cardsv L) := by
  intro c hc
  by_cases hk : listOkv L = true
  · obtain ⟨i, hi⟩ := List.mem_iff_getElem?.1 hc
    have hlt : i < L.length := by
      have := (List.getElem?_eq_some_iff.1 hi).1
      rwa [cardsv_len hk] at this
    have he : L[i]? = some L[i] := List.getElem?_eq_getElem hlt
    rw [cardsv_get hk he] at hi
    obtain rfl := Option.some.inj hi
    have hz := h.get he
    unfold esz at hz
    show L[i].path.size + (datav L[i]).size ≤ 4194304
    unfold datav
    split <;> omega
  · rw [cardsv, if_neg hk] at hc
    cases hc
theorem nwT_le {crc : Bool} {Q : List Card} (h : SmallQ Q) (i : Nat) (hi : i ≤ Q.length) : (nwT crc Q i).size ≤ 4194511 * i := by
  induction i with
  | zero => exact Nat.zero_le _
  | succ i ih =>
    have hq : Q[i]? = some Q[i] := List.getElem?_eq_getElem (by omega)
    have h1 := h _ (List.mem_of_getElem? hq)
    have h2 := newText_le Q[i] crc
    rw [nwT_step hq, ByteArray.size_append]
    have := ih (by omega)
    omega
theorem putNw_no {L : List Ent} {crc : Bool} (h : listOkv L = false) : putNwB L = false ∧ putNwT L crc = ⟨#[]⟩ := by
  have hb : putNwB L = false := by rw [putNwB, h]; rfl
  exact ⟨hb, by rw [putNwT, hb]; rfl⟩
theorem putNw_bad {L : List Ent} {crc : Bool} {i : Nat} {e : Ent} (he : L[i]? = some e) (h : newFits e = false) : putNwB L = false ∧ putNwT L crc = ⟨#[]⟩ := by
  have hb : putNwB L = false := by
    rw [putNwB, show L.all newFits = false from List.all_eq_false.2 ⟨e, List.mem_of_getElem? he, by simp [h]⟩]
    simp
  exact ⟨hb, by rw [putNwT, hb]; rfl⟩
theorem putNw_yes {L : List Ent} {crc : Bool} (h : listOkv L = true) (hf : ∀ j, j < L.length → ∀ e, L[j]? = some e → newFits e = true) : putNwB L = true ∧ putNwT L crc = nwT crc (cardsv L) L.length ++ newTextv lastC crc := by
  have hb : putNwB L = true := by
    rw [putNwB, h, List.all_eq_true.2 (fun e he => by
      obtain ⟨j, hj⟩ := List.mem_iff_getElem?.1 he
      exact hf j (List.getElem?_eq_some_iff.1 hj).1 e hj)]
    rfl
  exact ⟨hb, by rw [putNwT, if_pos hb]⟩
theorem last_spec (w : World) : Calls Tryz.prog 28 #[] w fun e w' => e = .returned (.agg #[.int .i64 0, .int .i64 0, .int .i64 0, .int .i64 0, .int .i64 1, .int .i64 0, .string ⟨#[84, 82, 65, 73, 76, 69, 82, 33, 33, 33]⟩, .string ⟨#[]⟩]) ∧ Below w.heap.size w w' := by
  have R9 := CardO.new w lastC
  simp only [lastC, Card.cells] at R9
  go_enter Tryz.func28, Tryz.ntmps28
  go_wp2_with fail
  refine bodyPost_ret (res_OC1 (e := lastC) rfl _ rfl R9) rfl ?_
  exact ⟨rfl, (Below.refl _ _).alloc (Nat.le_refl _) _⟩
set_option maxHeartbeats 6400000 in
set_option maxRecDepth 8000 in
theorem putNewc_spec (L : List Ent) (n g cap : Nat) (crc : Bool) (w : World) (hn : n = L.length) (hm : n ≤ 1048576) (hcap : n ≤ cap) (hg : g < w.heap.size) (hsm : SmallL L) (h1 : RowE w g L) :
    Calls Tryz.prog 9 #[.slice (some ⟨g, 0, none⟩) n cap, .bool crc] w fun e w' => e = .returned (.tuple #[.string (putNwT L crc), .bool (putNwB L)]) ∧ Below w.heap.size w w' := by
  have H1 := Lib.hid h1
  have HK := Lib.hid (fun w (hg : g < w.heap.size) (h : RowE w g L) => listOk_spec L n g cap w hn (by omega) hcap hg hsm h)
  have HC := Lib.hid (fun w (hg : g < w.heap.size) (h : RowE w g L) => cardsOf_spec L n g cap w hn (by omega) hcap hg hsm h)
  have HG : Hid (∀ i, i < n → ∃ e, L[i]? = some e ∧ esz e ≤ 4194304) := Lib.hid (fun i hi => by obtain ⟨e, he⟩ := getE' (L := L) (i := i) (by omega); exact ⟨e, he, hsm.get he⟩)
  have HNo := Lib.hid (putNw_no (L := L) (crc := crc))
  have HBad := Lib.hid (fun i e (he : L[i]? = some e) h => putNw_bad (crc := crc) he h)
  have HYes : Hid (listOkv L = true → (∀ j, j < n → ∀ e, L[j]? = some e → newFits e = true) → putNwB L = true ∧ putNwT L crc = nwT crc (cardsv L) n ++ newTextv lastC crc) := Lib.hid (by rw [hn]; exact putNw_yes)
  have HQ : Hid (listOkv L = true → (cardsv L).length = n ∧ n ≤ 30) := Lib.hid (fun h => ⟨by rw [hn]; exact cardsv_len h, by rw [hn]; exact listOk_len h⟩)
  have HSQ := Lib.hid (smallQ_of hsm)
  have HLast := Lib.hid (newText_le lastC crc)
  generalize putNwB L = ok at HNo HBad HYes
  generalize putNwT L crc = r at HNo HBad HYes
  generalize listOkv L = lk at HK HNo HYes HQ
  generalize cardsv L = Q at HC HYes HQ HSQ
  clear h1 hsm hn
  go_enter Tryz.func9, Tryz.ntmps9
  go_wp2_with fail
  refine (HK.out _ hg H1.out).mono ?_
  rintro e w1 ⟨rfl, hb⟩
  have B := Lib.hid hb
  clear hb
  cases lk with
  | false =>
    have HF := Lib.hid (HNo.out rfl)
    go_wp2_with fail
    go_ret2
    exact ⟨by rw [HF.out.1, HF.out.2]; rfl, B.out⟩
  | true =>
    obtain ⟨hql, hn30⟩ := HQ.out rfl
    have HY := Lib.hid (HYes.out rfl)
    clear HK HNo HYes HQ
    go_wp2_with fail
    refine (HC.out _ (by have := B.out.size; omega) (H1.out.below B.out hg)).mono ?_
    rintro e w2 ⟨v, rfl, ho, hb⟩
    obtain ⟨gc, cc, rfl, hrc, zc, _, _⟩ := ho.open
    have RC := Lib.hid hrc
    replace B := Lib.hid (btE B.out hb)
    clear ho hrc hb HC
    rw [hql]
    go_wp2_with fail
    go_loopw [6, 8] (fun v u wr => ∃ i : Nat, u = .int .i64 i ∧ i ≤ n ∧ (∀ j, j < i → ∀ e, L[j]? = some e → newFits e = true) ∧ v = .string (nwT crc Q i) ∧ RowC wr gc Q ∧ gc < wr.heap.size ∧ Below w.heap.size w wr) (fun _ u _ => n - (intOf u).toNat)
    case atStart => exact ⟨0, rfl, Nat.zero_le _, fun j hj => by omega, rfl, RC.out, zc, B.out⟩
    case round =>
      obtain ⟨i, rfl, hi, hf, rfl, hrc, zc2, hb⟩ := hrel
      clear RC B
      have HFt := Lib.hid hf
      have RC := Lib.hid hrc
      have B := Lib.hid hb
      have hszB := B.out.size
      clear hf hrc hb
      have hle := nwT_le (crc := crc) HSQ.out i (by omega)
      by_cases hlt : i < n
      · have hlt2 : (i : Int) < (n : Int) := by omega
        obtain ⟨e, he, hz⟩ := HG.out i hlt
        obtain ⟨q, hq⟩ : ∃ q, Q[i]? = some q := ⟨Q[i], List.getElem?_eq_getElem (by omega)⟩
        have hqs := HSQ.out _ (List.mem_of_getElem? hq)
        have hcl := newText_le q crc
        have HSt := Lib.hid (nwT_step (crc := crc) hq)
        have HB2 := Lib.hid (HBad.out i e he)
        have HFn : Hid (newFits e = true → ∀ j, j < i + 1 → ∀ e, L[j]? = some e → newFits e = true) := Lib.hid (fun h j hj e' he' => by
          by_cases hji : j = i
          · subst hji; rw [he] at he'; obtain rfl := Option.some.inj he'; exact h
          · exact HFt.out j (by omega) e' he')
        obtain ⟨c0, c1, c2, c3, c4, c5, c6, c7, c8, c9⟩ := (H1.out.below B.out hg).ten he
        have Hq := Lib.hid hq
        clear he hq HBad HG
        obtain ⟨k, p, l, m, u1, gi, t, us, gr, b⟩ := e
        obtain ⟨hp, hl, hus, hgr, hbz⟩ := small_parts hz
        have HO := Lib.hid (fun w => newFits_spec k p l m u1 gi t us gr b w hp hl hus hgr hbz)
        clear hz hp hl hus hgr hbz
        generalize newFits ⟨k, p, l, m, u1, gi, t, us, gr, b⟩ = f at HB2 HFn HO
        go_wp2_with fail
        refine (HO.out _).mono ?_
        rintro e w3 ⟨rfl, hb⟩
        replace RC := Lib.hid (RC.out.below hb zc2)
        replace B := Lib.hid (btE B.out hb)
        have zc3 := Nat.lt_of_lt_of_le zc2 hb.size
        clear hb HO c0 c1 c2 c3 c4 c5 c6 c7 c8 c9
        cases f with
        | false =>
          have HF := Lib.hid (HB2.out rfl)
          go_wp2_with fail
          go_ret2
          exact ⟨by rw [HF.out.1, HF.out.2]; rfl, B.out⟩
        | true =>
          have HFi := Lib.hid (HFn.out rfl)
          obtain ⟨d0, d1, d2, d3, d4, d5, d6, d7⟩ := RC.out.cols Hq.out
          obtain ⟨q0, q1, q2, q3, q4, q5, qp, qd⟩ := q
          simp only at d0 d1 d2 d3 d4 d5 d6 d7 hqs hcl
          have HP := Lib.hid (fun w => putNew_spec q0 q1 q2 q3 q4 q5 qp qd crc w (by omega) (by omega))
          generalize newTextv ⟨q0, q1, q2, q3, q4, q5, qp, qd⟩ crc = x at HP HSt hcl
          obtain ⟨T, hT⟩ : ∃ T, nwT crc Q i = T := ⟨_, rfl⟩
          rw [hT] at HSt hle ⊢
          clear hT HB2 HFn
          have hA : ∀ w, (Op.stringOp .add T x).run Tryz.prog w = .ok (.string (T ++ x)) w := fun w => run_string_add_sum w _ _ (by omega)
          go_wp2_with fail
          refine (HP.out _).mono ?_
          rintro e w4 ⟨rfl, hb⟩
          replace RC := Lib.hid (RC.out.below hb zc3)
          replace B := Lib.hid (btE B.out hb)
          have zc4 := Nat.lt_of_lt_of_le zc3 hb.size
          clear hb d0 d1 d2 d3 d4 d5 d6 d7 HP
          go_wp2_with fail
          go_roundw
          case rel => exact ⟨i + 1, by go_num, by omega, HFi.out, by rw [HSt.out], RC.out, zc4, B.out⟩
          case measure => simp [intOf]; omega
      · obtain rfl : i = n := by omega
        have hlt2 : ¬ (i : Int) < (i : Int) := by omega
        have HF := Lib.hid (HY.out HFt.out)
        have hll := HLast.out
        obtain ⟨x, hx⟩ : ∃ x, newTextv lastC crc = x := ⟨_, rfl⟩
        have HP := Lib.hid (fun w => putNew_spec 0 0 0 0 1 0 ⟨#[84, 82, 65, 73, 76, 69, 82, 33, 33, 33]⟩ ⟨#[]⟩ crc w (by decide) (by decide))
        rw [show (newTextv ⟨0, 0, 0, 0, 1, 0, ⟨#[84, 82, 65, 73, 76, 69, 82, 33, 33, 33]⟩, ⟨#[]⟩⟩ crc) = x from hx] at HP
        rw [hx] at HF hll
        have hp1 : lastC.Path.size = 10 := rfl
        have hp2 : lastC.Data.size = 0 := rfl
        have hll2 : x.size ≤ 1000 := by omega
        obtain ⟨T, hT⟩ : ∃ T, nwT crc Q i = T := ⟨_, rfl⟩
        rw [hT] at HF hle ⊢
        clear hT hx hll HY
        have hA : ∀ w, (Op.stringOp .add T x).run Tryz.prog w = .ok (.string (T ++ x)) w := fun w => run_string_add_sum w _ _ (by omega)
        go_wp2_with fail
        refine (last_spec _).mono ?_
        rintro e w3 ⟨rfl, hb⟩
        replace B := Lib.hid (btE B.out hb)
        clear hb
        go_wp2_with fail
        refine (HP.out _).mono ?_
        rintro e w4 ⟨rfl, hb⟩
        replace B := Lib.hid (btE B.out hb)
        clear hb
        go_wp2_with fail
        go_ret2
        exact ⟨by rw [HF.out.1, HF.out.2]; rfl, B.out⟩
end Go.Proofs.YtcnmbolmgifgfabGreatDoor

/- Contract of impl.(*newcHead).fields: the addresses of a head's numbers, in their order. -/
namespace Go.Proofs.YtcnmbolmgifgfabGreatDoor
open Go.ChangeShapes Go.WideShapes Go.ChangeAt Go.RowKit Go.Deep

def offn (k : Nat) : Nat := [0, 1, 2, 3, 4, 5, 8, 9, 10, 11, 12, 13, 14].getD k 0
def ptrsN (gh : Nat) : Array Value := #[.pointer (some ⟨gh, 0, none⟩), .pointer (some ⟨gh, 1, none⟩), .pointer (some ⟨gh, 2, none⟩), .pointer (some ⟨gh, 3, none⟩), .pointer (some ⟨gh, 4, none⟩), .pointer (some ⟨gh, 5, none⟩), .pointer (some ⟨gh, 8, none⟩), .pointer (some ⟨gh, 9, none⟩), .pointer (some ⟨gh, 10, none⟩), .pointer (some ⟨gh, 11, none⟩), .pointer (some ⟨gh, 12, none⟩), .pointer (some ⟨gh, 13, none⟩), .pointer (some ⟨gh, 14, none⟩)]
theorem ptrsN_at (gh : Nat) : ∀ k, k < 13 → (ptrsN gh)[k]? = some (.pointer (some ⟨gh, offn k, none⟩)) := by
  intro k hk
  match k, hk with
  | 0, _ => rfl
  | 1, _ => rfl
  | 2, _ => rfl
  | 3, _ => rfl
  | 4, _ => rfl
  | 5, _ => rfl
  | 6, _ => rfl
  | 7, _ => rfl
  | 8, _ => rfl
  | 9, _ => rfl
  | 10, _ => rfl
  | 11, _ => rfl
  | 12, _ => rfl
  | k + 13, hk => omega
theorem Tryz.sizePN : (Tryz.prog.info? 167).map (·.size) = some 13 := by kernel_rfl
theorem heap_setN {w : World} {g i : Nat} {cs : Array Value} {t : TypeId} {v : Value} (h : w.heap[g]? = some (.cells cs t (0, 0))) : (w.setCell ⟨g, i, none⟩ v).heap[g]? = some (.cells (cs.setIfInBounds i v) t (0, 0)) := by
  have hlt : g < w.heap.size := (Array.getElem?_eq_some_iff.1 h).1
  have hg : w.heap[g] = .cells cs t (0, 0) := (Array.getElem?_eq_some_iff.1 h).2
  simp [World.setCell, hlt, Array.getElem_modify, hg]
set_option maxHeartbeats 6400000 in
set_option maxRecDepth 8000 in
theorem fieldsN_any (gh : Nat) (w : World) : Calls Tryz.prog 142 #[.pointer (some ⟨gh, 0, none⟩)] w fun e w' => e = .returned (.agg (ptrsN gh)) ∧ Below w.heap.size w w' := by
  go_enter Tryz.func142, Tryz.ntmps142
  go_upto_region 1 with fail
  generalize hw1 : World.alloc w _ = w1
  have XB : Hid (w1.heap[w.heap.size]? = some (.cells #[.pointer none, .pointer none, .pointer none, .pointer none, .pointer none, .pointer none, .pointer none, .pointer none, .pointer none, .pointer none, .pointer none, .pointer none, .pointer none] 167 (0, 0))) := Lib.hid (by rw [← hw1]; show (w.heap.push _)[w.heap.size]? = _; simp)
  have B : Hid (Below w.heap.size w w1) := Lib.hid (by rw [← hw1]; exact (Below.refl _ _).alloc (Nat.le_refl _) _)
  have hlt : w.heap.size < w1.heap.size := (Array.getElem?_eq_some_iff.1 XB.out).1
  clear hw1
  refine wp_region_cut 50 (by kernel_rfl) (fun w' => Below w1.heap.size w1 w') (fun x y => Below x.heap.size x y) (fun dq vq _ => match dq with | 3 => vq = .pointer (some ⟨gh, 0, none⟩) | 4 => vq = .pointer (some ⟨gh, 0, none⟩) | 5 => vq = .pointer (some ⟨gh, 0, none⟩) | 6 => vq = .pointer (some ⟨gh, 0, none⟩) | 7 => vq = .pointer (some ⟨gh, 0, none⟩) | 8 => vq = .pointer (some ⟨gh, 0, none⟩) | 9 => vq = .pointer (some ⟨gh, 0, none⟩) | 10 => vq = .pointer (some ⟨gh, 1, none⟩) | 11 => vq = .pointer (some ⟨gh, 0, none⟩) | 12 => vq = .pointer (some ⟨gh, 0, none⟩) | 13 => vq = .pointer (some ⟨gh, 0, none⟩) | 14 => vq = .pointer (some ⟨gh, 2, none⟩) | 15 => vq = .pointer (some ⟨gh, 0, none⟩) | 16 => vq = .pointer (some ⟨gh, 0, none⟩) | 17 => vq = .pointer (some ⟨gh, 0, none⟩) | 18 => vq = .pointer (some ⟨gh, 3, none⟩) | 19 => vq = .pointer (some ⟨gh, 0, none⟩) | 20 => vq = .pointer (some ⟨gh, 0, none⟩) | 21 => vq = .pointer (some ⟨gh, 0, none⟩) | 22 => vq = .pointer (some ⟨gh, 4, none⟩) | 23 => vq = .pointer (some ⟨gh, 0, none⟩) | 24 => vq = .pointer (some ⟨gh, 0, none⟩) | 25 => vq = .pointer (some ⟨gh, 0, none⟩) | 26 => vq = .pointer (some ⟨gh, 5, none⟩) | 27 => vq = .pointer (some ⟨gh, 0, none⟩) | 28 => vq = .pointer (some ⟨gh, 0, none⟩) | 29 => vq = .pointer (some ⟨gh, 8, none⟩) | 30 => vq = .pointer (some ⟨gh, 0, none⟩) | 31 => vq = .pointer (some ⟨gh, 0, none⟩) | 32 => vq = .pointer (some ⟨gh, 9, none⟩) | 33 => vq = .pointer (some ⟨gh, 9, none⟩) | 34 => vq = .pointer (some ⟨gh, 0, none⟩) | 35 => vq = .pointer (some ⟨gh, 0, none⟩) | 36 => vq = .pointer (some ⟨gh, 9, none⟩) | 37 => vq = .pointer (some ⟨gh, 10, none⟩) | 38 => vq = .pointer (some ⟨gh, 0, none⟩) | 39 => vq = .pointer (some ⟨gh, 0, none⟩) | 40 => vq = .pointer (some ⟨gh, 9, none⟩) | 41 => vq = .pointer (some ⟨gh, 11, none⟩) | 42 => vq = .pointer (some ⟨gh, 0, none⟩) | 43 => vq = .pointer (some ⟨gh, 0, none⟩) | 44 => vq = .pointer (some ⟨gh, 9, none⟩) | 45 => vq = .pointer (some ⟨gh, 12, none⟩) | 46 => vq = .pointer (some ⟨gh, 0, none⟩) | 47 => vq = .pointer (some ⟨gh, 0, none⟩) | 48 => vq = .pointer (some ⟨gh, 13, none⟩) | 49 => vq = .pointer (some ⟨gh, 0, none⟩) | 50 => vq = .pointer (some ⟨gh, 0, none⟩) | 51 => vq = .pointer (some ⟨gh, 14, none⟩) | 52 => vq = .agg #[.pointer (some ⟨gh, 0, none⟩), .pointer (some ⟨gh, 1, none⟩), .pointer (some ⟨gh, 2, none⟩), .pointer (some ⟨gh, 3, none⟩), .pointer (some ⟨gh, 4, none⟩), .pointer (some ⟨gh, 5, none⟩), .pointer (some ⟨gh, 8, none⟩), .pointer (some ⟨gh, 9, none⟩), .pointer (some ⟨gh, 10, none⟩), .pointer (some ⟨gh, 11, none⟩), .pointer (some ⟨gh, 12, none⟩), .pointer (some ⟨gh, 13, none⟩), .pointer (some ⟨gh, 14, none⟩)] | _ => True) (by kernel_rfl) (by kernel_rfl) ((Below.refl _ _).drew) (fun _ _ _ _ _ _ h => h) (by simp) ?hops ?hend
  case hops =>
    simp only [List.take_succ_cons, List.take_zero, List.forall_mem_cons]
    refine ⟨?o3, ?o4, ?o5, ?o6, ?o7, ?o8, ?o9, ?o10, ?o11, ?o12, ?o13, ?o14, ?o15, ?o16, ?o17, ?o18, ?o19, ?o20, ?o21, ?o22, ?o23, ?o24, ?o25, ?o26, ?o27, ?o28, ?o29, ?o30, ?o31, ?o32, ?o33, ?o34, ?o35, ?o36, ?o37, ?o38, ?o39, ?o40, ?o41, ?o42, ?o43, ?o44, ?o45, ?o46, ?o47, ?o48, ?o49, ?o50, ?o51, ?o52, fun _ h => by cases h⟩
    case o3 =>
      intro Q a w2 hC hV hI
      have e0 : a.eval (.tmp 0) = .pointer (some ⟨gh, 0, none⟩) := (hI 0 (by simp [Op.operands]) (by kernel_rfl)).trans rfl
      have f0 : a.tmps.getD 0 undef = .pointer (some ⟨gh, 0, none⟩) := e0
      have g0 : a.tmps[0]?.getD undef = .pointer (some ⟨gh, 0, none⟩) := by rw [← Array.getD_eq_getD_getElem?]; exact e0
      refine op_val (.pointer (some ⟨gh, 0, none⟩)) ?_ hC (Below.refl _ _) (by intro d hd; cases hd; rfl)
      (clear hV hI hC; go_simp <;> (first | rfl | simp | (rw [IntKind.wrap_i64]; omega)))
    case o4 =>
      intro Q a w2 hC hV hI
      have e3 : a.eval (.tmp 3) = .pointer (some ⟨gh, 0, none⟩) := hV 3 (by simp [Op.operands]) (by kernel_rfl)
      have f3 : a.tmps.getD 3 undef = .pointer (some ⟨gh, 0, none⟩) := e3
      have g3 : a.tmps[3]?.getD undef = .pointer (some ⟨gh, 0, none⟩) := by rw [← Array.getD_eq_getD_getElem?]; exact e3
      refine op_val (.pointer (some ⟨gh, 0, none⟩)) ?_ hC (Below.refl _ _) (by intro d hd; cases hd; rfl)
      (clear hV hI hC; go_simp <;> (first | rfl | simp | (rw [IntKind.wrap_i64]; omega)))
    case o5 =>
      intro Q a w2 hC hV hI
      have e4 : a.eval (.tmp 4) = .pointer (some ⟨gh, 0, none⟩) := hV 4 (by simp [Op.operands]) (by kernel_rfl)
      have f4 : a.tmps.getD 4 undef = .pointer (some ⟨gh, 0, none⟩) := e4
      have g4 : a.tmps[4]?.getD undef = .pointer (some ⟨gh, 0, none⟩) := by rw [← Array.getD_eq_getD_getElem?]; exact e4
      refine op_val (.pointer (some ⟨gh, 0, none⟩)) ?_ hC (Below.refl _ _) (by intro d hd; cases hd; rfl)
      (clear hV hI hC; go_simp <;> (first | rfl | simp | (rw [IntKind.wrap_i64]; omega)))
    case o6 =>
      intro Q a w2 hC hV hI
      have e5 : a.eval (.tmp 5) = .pointer (some ⟨gh, 0, none⟩) := hV 5 (by simp [Op.operands]) (by kernel_rfl)
      have f5 : a.tmps.getD 5 undef = .pointer (some ⟨gh, 0, none⟩) := e5
      have g5 : a.tmps[5]?.getD undef = .pointer (some ⟨gh, 0, none⟩) := by rw [← Array.getD_eq_getD_getElem?]; exact e5
      refine op_val (.pointer (some ⟨gh, 0, none⟩)) ?_ hC (Below.refl _ _) (by intro d hd; cases hd; rfl)
      (clear hV hI hC; go_simp <;> (first | rfl | simp | (rw [IntKind.wrap_i64]; omega)))
    case o7 =>
      intro Q a w2 hC hV hI
      have e0 : a.eval (.tmp 0) = .pointer (some ⟨gh, 0, none⟩) := (hI 0 (by simp [Op.operands]) (by kernel_rfl)).trans rfl
      have f0 : a.tmps.getD 0 undef = .pointer (some ⟨gh, 0, none⟩) := e0
      have g0 : a.tmps[0]?.getD undef = .pointer (some ⟨gh, 0, none⟩) := by rw [← Array.getD_eq_getD_getElem?]; exact e0
      refine op_val (.pointer (some ⟨gh, 0, none⟩)) ?_ hC (Below.refl _ _) (by intro d hd; cases hd; rfl)
      (clear hV hI hC; go_simp <;> (first | rfl | simp | (rw [IntKind.wrap_i64]; omega)))
    case o8 =>
      intro Q a w2 hC hV hI
      have e7 : a.eval (.tmp 7) = .pointer (some ⟨gh, 0, none⟩) := hV 7 (by simp [Op.operands]) (by kernel_rfl)
      have f7 : a.tmps.getD 7 undef = .pointer (some ⟨gh, 0, none⟩) := e7
      have g7 : a.tmps[7]?.getD undef = .pointer (some ⟨gh, 0, none⟩) := by rw [← Array.getD_eq_getD_getElem?]; exact e7
      refine op_val (.pointer (some ⟨gh, 0, none⟩)) ?_ hC (Below.refl _ _) (by intro d hd; cases hd; rfl)
      (clear hV hI hC; go_simp <;> (first | rfl | simp | (rw [IntKind.wrap_i64]; omega)))
    case o9 =>
      intro Q a w2 hC hV hI
      have e8 : a.eval (.tmp 8) = .pointer (some ⟨gh, 0, none⟩) := hV 8 (by simp [Op.operands]) (by kernel_rfl)
      have f8 : a.tmps.getD 8 undef = .pointer (some ⟨gh, 0, none⟩) := e8
      have g8 : a.tmps[8]?.getD undef = .pointer (some ⟨gh, 0, none⟩) := by rw [← Array.getD_eq_getD_getElem?]; exact e8
      refine op_val (.pointer (some ⟨gh, 0, none⟩)) ?_ hC (Below.refl _ _) (by intro d hd; cases hd; rfl)
      (clear hV hI hC; go_simp <;> (first | rfl | simp | (rw [IntKind.wrap_i64]; omega)))
    case o10 =>
      intro Q a w2 hC hV hI
      have e9 : a.eval (.tmp 9) = .pointer (some ⟨gh, 0, none⟩) := hV 9 (by simp [Op.operands]) (by kernel_rfl)
      have f9 : a.tmps.getD 9 undef = .pointer (some ⟨gh, 0, none⟩) := e9
      have g9 : a.tmps[9]?.getD undef = .pointer (some ⟨gh, 0, none⟩) := by rw [← Array.getD_eq_getD_getElem?]; exact e9
      refine op_val (.pointer (some ⟨gh, 1, none⟩)) ?_ hC (Below.refl _ _) (by intro d hd; cases hd; rfl)
      (clear hV hI hC; go_simp <;> (first | rfl | simp | (rw [IntKind.wrap_i64]; omega)))
    case o11 =>
      intro Q a w2 hC hV hI
      have e0 : a.eval (.tmp 0) = .pointer (some ⟨gh, 0, none⟩) := (hI 0 (by simp [Op.operands]) (by kernel_rfl)).trans rfl
      have f0 : a.tmps.getD 0 undef = .pointer (some ⟨gh, 0, none⟩) := e0
      have g0 : a.tmps[0]?.getD undef = .pointer (some ⟨gh, 0, none⟩) := by rw [← Array.getD_eq_getD_getElem?]; exact e0
      refine op_val (.pointer (some ⟨gh, 0, none⟩)) ?_ hC (Below.refl _ _) (by intro d hd; cases hd; rfl)
      (clear hV hI hC; go_simp <;> (first | rfl | simp | (rw [IntKind.wrap_i64]; omega)))
    case o12 =>
      intro Q a w2 hC hV hI
      have e11 : a.eval (.tmp 11) = .pointer (some ⟨gh, 0, none⟩) := hV 11 (by simp [Op.operands]) (by kernel_rfl)
      have f11 : a.tmps.getD 11 undef = .pointer (some ⟨gh, 0, none⟩) := e11
      have g11 : a.tmps[11]?.getD undef = .pointer (some ⟨gh, 0, none⟩) := by rw [← Array.getD_eq_getD_getElem?]; exact e11
      refine op_val (.pointer (some ⟨gh, 0, none⟩)) ?_ hC (Below.refl _ _) (by intro d hd; cases hd; rfl)
      (clear hV hI hC; go_simp <;> (first | rfl | simp | (rw [IntKind.wrap_i64]; omega)))
    case o13 =>
      intro Q a w2 hC hV hI
      have e12 : a.eval (.tmp 12) = .pointer (some ⟨gh, 0, none⟩) := hV 12 (by simp [Op.operands]) (by kernel_rfl)
      have f12 : a.tmps.getD 12 undef = .pointer (some ⟨gh, 0, none⟩) := e12
      have g12 : a.tmps[12]?.getD undef = .pointer (some ⟨gh, 0, none⟩) := by rw [← Array.getD_eq_getD_getElem?]; exact e12
      refine op_val (.pointer (some ⟨gh, 0, none⟩)) ?_ hC (Below.refl _ _) (by intro d hd; cases hd; rfl)
      (clear hV hI hC; go_simp <;> (first | rfl | simp | (rw [IntKind.wrap_i64]; omega)))
    case o14 =>
      intro Q a w2 hC hV hI
      have e13 : a.eval (.tmp 13) = .pointer (some ⟨gh, 0, none⟩) := hV 13 (by simp [Op.operands]) (by kernel_rfl)
      have f13 : a.tmps.getD 13 undef = .pointer (some ⟨gh, 0, none⟩) := e13
      have g13 : a.tmps[13]?.getD undef = .pointer (some ⟨gh, 0, none⟩) := by rw [← Array.getD_eq_getD_getElem?]; exact e13
      refine op_val (.pointer (some ⟨gh, 2, none⟩)) ?_ hC (Below.refl _ _) (by intro d hd; cases hd; rfl)
      (clear hV hI hC; go_simp <;> (first | rfl | simp | (rw [IntKind.wrap_i64]; omega)))
    case o15 =>
      intro Q a w2 hC hV hI
      have e0 : a.eval (.tmp 0) = .pointer (some ⟨gh, 0, none⟩) := (hI 0 (by simp [Op.operands]) (by kernel_rfl)).trans rfl
      have f0 : a.tmps.getD 0 undef = .pointer (some ⟨gh, 0, none⟩) := e0
      have g0 : a.tmps[0]?.getD undef = .pointer (some ⟨gh, 0, none⟩) := by rw [← Array.getD_eq_getD_getElem?]; exact e0
      refine op_val (.pointer (some ⟨gh, 0, none⟩)) ?_ hC (Below.refl _ _) (by intro d hd; cases hd; rfl)
      (clear hV hI hC; go_simp <;> (first | rfl | simp | (rw [IntKind.wrap_i64]; omega)))
    case o16 =>
      intro Q a w2 hC hV hI
      have e15 : a.eval (.tmp 15) = .pointer (some ⟨gh, 0, none⟩) := hV 15 (by simp [Op.operands]) (by kernel_rfl)
      have f15 : a.tmps.getD 15 undef = .pointer (some ⟨gh, 0, none⟩) := e15
      have g15 : a.tmps[15]?.getD undef = .pointer (some ⟨gh, 0, none⟩) := by rw [← Array.getD_eq_getD_getElem?]; exact e15
      refine op_val (.pointer (some ⟨gh, 0, none⟩)) ?_ hC (Below.refl _ _) (by intro d hd; cases hd; rfl)
      (clear hV hI hC; go_simp <;> (first | rfl | simp | (rw [IntKind.wrap_i64]; omega)))
    case o17 =>
      intro Q a w2 hC hV hI
      have e16 : a.eval (.tmp 16) = .pointer (some ⟨gh, 0, none⟩) := hV 16 (by simp [Op.operands]) (by kernel_rfl)
      have f16 : a.tmps.getD 16 undef = .pointer (some ⟨gh, 0, none⟩) := e16
      have g16 : a.tmps[16]?.getD undef = .pointer (some ⟨gh, 0, none⟩) := by rw [← Array.getD_eq_getD_getElem?]; exact e16
      refine op_val (.pointer (some ⟨gh, 0, none⟩)) ?_ hC (Below.refl _ _) (by intro d hd; cases hd; rfl)
      (clear hV hI hC; go_simp <;> (first | rfl | simp | (rw [IntKind.wrap_i64]; omega)))
    case o18 =>
      intro Q a w2 hC hV hI
      have e17 : a.eval (.tmp 17) = .pointer (some ⟨gh, 0, none⟩) := hV 17 (by simp [Op.operands]) (by kernel_rfl)
      have f17 : a.tmps.getD 17 undef = .pointer (some ⟨gh, 0, none⟩) := e17
      have g17 : a.tmps[17]?.getD undef = .pointer (some ⟨gh, 0, none⟩) := by rw [← Array.getD_eq_getD_getElem?]; exact e17
      refine op_val (.pointer (some ⟨gh, 3, none⟩)) ?_ hC (Below.refl _ _) (by intro d hd; cases hd; rfl)
      (clear hV hI hC; go_simp <;> (first | rfl | simp | (rw [IntKind.wrap_i64]; omega)))
    case o19 =>
      intro Q a w2 hC hV hI
      have e0 : a.eval (.tmp 0) = .pointer (some ⟨gh, 0, none⟩) := (hI 0 (by simp [Op.operands]) (by kernel_rfl)).trans rfl
      have f0 : a.tmps.getD 0 undef = .pointer (some ⟨gh, 0, none⟩) := e0
      have g0 : a.tmps[0]?.getD undef = .pointer (some ⟨gh, 0, none⟩) := by rw [← Array.getD_eq_getD_getElem?]; exact e0
      refine op_val (.pointer (some ⟨gh, 0, none⟩)) ?_ hC (Below.refl _ _) (by intro d hd; cases hd; rfl)
      (clear hV hI hC; go_simp <;> (first | rfl | simp | (rw [IntKind.wrap_i64]; omega)))
    case o20 =>
      intro Q a w2 hC hV hI
      have e19 : a.eval (.tmp 19) = .pointer (some ⟨gh, 0, none⟩) := hV 19 (by simp [Op.operands]) (by kernel_rfl)
      have f19 : a.tmps.getD 19 undef = .pointer (some ⟨gh, 0, none⟩) := e19
      have g19 : a.tmps[19]?.getD undef = .pointer (some ⟨gh, 0, none⟩) := by rw [← Array.getD_eq_getD_getElem?]; exact e19
      refine op_val (.pointer (some ⟨gh, 0, none⟩)) ?_ hC (Below.refl _ _) (by intro d hd; cases hd; rfl)
      (clear hV hI hC; go_simp <;> (first | rfl | simp | (rw [IntKind.wrap_i64]; omega)))
    case o21 =>
      intro Q a w2 hC hV hI
      have e20 : a.eval (.tmp 20) = .pointer (some ⟨gh, 0, none⟩) := hV 20 (by simp [Op.operands]) (by kernel_rfl)
      have f20 : a.tmps.getD 20 undef = .pointer (some ⟨gh, 0, none⟩) := e20
      have g20 : a.tmps[20]?.getD undef = .pointer (some ⟨gh, 0, none⟩) := by rw [← Array.getD_eq_getD_getElem?]; exact e20
      refine op_val (.pointer (some ⟨gh, 0, none⟩)) ?_ hC (Below.refl _ _) (by intro d hd; cases hd; rfl)
      (clear hV hI hC; go_simp <;> (first | rfl | simp | (rw [IntKind.wrap_i64]; omega)))
    case o22 =>
      intro Q a w2 hC hV hI
      have e21 : a.eval (.tmp 21) = .pointer (some ⟨gh, 0, none⟩) := hV 21 (by simp [Op.operands]) (by kernel_rfl)
      have f21 : a.tmps.getD 21 undef = .pointer (some ⟨gh, 0, none⟩) := e21
      have g21 : a.tmps[21]?.getD undef = .pointer (some ⟨gh, 0, none⟩) := by rw [← Array.getD_eq_getD_getElem?]; exact e21
      refine op_val (.pointer (some ⟨gh, 4, none⟩)) ?_ hC (Below.refl _ _) (by intro d hd; cases hd; rfl)
      (clear hV hI hC; go_simp <;> (first | rfl | simp | (rw [IntKind.wrap_i64]; omega)))
    case o23 =>
      intro Q a w2 hC hV hI
      have e0 : a.eval (.tmp 0) = .pointer (some ⟨gh, 0, none⟩) := (hI 0 (by simp [Op.operands]) (by kernel_rfl)).trans rfl
      have f0 : a.tmps.getD 0 undef = .pointer (some ⟨gh, 0, none⟩) := e0
      have g0 : a.tmps[0]?.getD undef = .pointer (some ⟨gh, 0, none⟩) := by rw [← Array.getD_eq_getD_getElem?]; exact e0
      refine op_val (.pointer (some ⟨gh, 0, none⟩)) ?_ hC (Below.refl _ _) (by intro d hd; cases hd; rfl)
      (clear hV hI hC; go_simp <;> (first | rfl | simp | (rw [IntKind.wrap_i64]; omega)))
    case o24 =>
      intro Q a w2 hC hV hI
      have e23 : a.eval (.tmp 23) = .pointer (some ⟨gh, 0, none⟩) := hV 23 (by simp [Op.operands]) (by kernel_rfl)
      have f23 : a.tmps.getD 23 undef = .pointer (some ⟨gh, 0, none⟩) := e23
      have g23 : a.tmps[23]?.getD undef = .pointer (some ⟨gh, 0, none⟩) := by rw [← Array.getD_eq_getD_getElem?]; exact e23
      refine op_val (.pointer (some ⟨gh, 0, none⟩)) ?_ hC (Below.refl _ _) (by intro d hd; cases hd; rfl)
      (clear hV hI hC; go_simp <;> (first | rfl | simp | (rw [IntKind.wrap_i64]; omega)))
    case o25 =>
      intro Q a w2 hC hV hI
      have e24 : a.eval (.tmp 24) = .pointer (some ⟨gh, 0, none⟩) := hV 24 (by simp [Op.operands]) (by kernel_rfl)
      have f24 : a.tmps.getD 24 undef = .pointer (some ⟨gh, 0, none⟩) := e24
      have g24 : a.tmps[24]?.getD undef = .pointer (some ⟨gh, 0, none⟩) := by rw [← Array.getD_eq_getD_getElem?]; exact e24
      refine op_val (.pointer (some ⟨gh, 0, none⟩)) ?_ hC (Below.refl _ _) (by intro d hd; cases hd; rfl)
      (clear hV hI hC; go_simp <;> (first | rfl | simp | (rw [IntKind.wrap_i64]; omega)))
    case o26 =>
      intro Q a w2 hC hV hI
      have e25 : a.eval (.tmp 25) = .pointer (some ⟨gh, 0, none⟩) := hV 25 (by simp [Op.operands]) (by kernel_rfl)
      have f25 : a.tmps.getD 25 undef = .pointer (some ⟨gh, 0, none⟩) := e25
      have g25 : a.tmps[25]?.getD undef = .pointer (some ⟨gh, 0, none⟩) := by rw [← Array.getD_eq_getD_getElem?]; exact e25
      refine op_val (.pointer (some ⟨gh, 5, none⟩)) ?_ hC (Below.refl _ _) (by intro d hd; cases hd; rfl)
      (clear hV hI hC; go_simp <;> (first | rfl | simp | (rw [IntKind.wrap_i64]; omega)))
    case o27 =>
      intro Q a w2 hC hV hI
      have e0 : a.eval (.tmp 0) = .pointer (some ⟨gh, 0, none⟩) := (hI 0 (by simp [Op.operands]) (by kernel_rfl)).trans rfl
      have f0 : a.tmps.getD 0 undef = .pointer (some ⟨gh, 0, none⟩) := e0
      have g0 : a.tmps[0]?.getD undef = .pointer (some ⟨gh, 0, none⟩) := by rw [← Array.getD_eq_getD_getElem?]; exact e0
      refine op_val (.pointer (some ⟨gh, 0, none⟩)) ?_ hC (Below.refl _ _) (by intro d hd; cases hd; rfl)
      (clear hV hI hC; go_simp <;> (first | rfl | simp | (rw [IntKind.wrap_i64]; omega)))
    case o28 =>
      intro Q a w2 hC hV hI
      have e27 : a.eval (.tmp 27) = .pointer (some ⟨gh, 0, none⟩) := hV 27 (by simp [Op.operands]) (by kernel_rfl)
      have f27 : a.tmps.getD 27 undef = .pointer (some ⟨gh, 0, none⟩) := e27
      have g27 : a.tmps[27]?.getD undef = .pointer (some ⟨gh, 0, none⟩) := by rw [← Array.getD_eq_getD_getElem?]; exact e27
      refine op_val (.pointer (some ⟨gh, 0, none⟩)) ?_ hC (Below.refl _ _) (by intro d hd; cases hd; rfl)
      (clear hV hI hC; go_simp <;> (first | rfl | simp | (rw [IntKind.wrap_i64]; omega)))
    case o29 =>
      intro Q a w2 hC hV hI
      have e28 : a.eval (.tmp 28) = .pointer (some ⟨gh, 0, none⟩) := hV 28 (by simp [Op.operands]) (by kernel_rfl)
      have f28 : a.tmps.getD 28 undef = .pointer (some ⟨gh, 0, none⟩) := e28
      have g28 : a.tmps[28]?.getD undef = .pointer (some ⟨gh, 0, none⟩) := by rw [← Array.getD_eq_getD_getElem?]; exact e28
      refine op_val (.pointer (some ⟨gh, 8, none⟩)) ?_ hC (Below.refl _ _) (by intro d hd; cases hd; rfl)
      (clear hV hI hC; go_simp <;> (first | rfl | simp | (rw [IntKind.wrap_i64]; omega)))
    case o30 =>
      intro Q a w2 hC hV hI
      have e0 : a.eval (.tmp 0) = .pointer (some ⟨gh, 0, none⟩) := (hI 0 (by simp [Op.operands]) (by kernel_rfl)).trans rfl
      have f0 : a.tmps.getD 0 undef = .pointer (some ⟨gh, 0, none⟩) := e0
      have g0 : a.tmps[0]?.getD undef = .pointer (some ⟨gh, 0, none⟩) := by rw [← Array.getD_eq_getD_getElem?]; exact e0
      refine op_val (.pointer (some ⟨gh, 0, none⟩)) ?_ hC (Below.refl _ _) (by intro d hd; cases hd; rfl)
      (clear hV hI hC; go_simp <;> (first | rfl | simp | (rw [IntKind.wrap_i64]; omega)))
    case o31 =>
      intro Q a w2 hC hV hI
      have e30 : a.eval (.tmp 30) = .pointer (some ⟨gh, 0, none⟩) := hV 30 (by simp [Op.operands]) (by kernel_rfl)
      have f30 : a.tmps.getD 30 undef = .pointer (some ⟨gh, 0, none⟩) := e30
      have g30 : a.tmps[30]?.getD undef = .pointer (some ⟨gh, 0, none⟩) := by rw [← Array.getD_eq_getD_getElem?]; exact e30
      refine op_val (.pointer (some ⟨gh, 0, none⟩)) ?_ hC (Below.refl _ _) (by intro d hd; cases hd; rfl)
      (clear hV hI hC; go_simp <;> (first | rfl | simp | (rw [IntKind.wrap_i64]; omega)))
    case o32 =>
      intro Q a w2 hC hV hI
      have e31 : a.eval (.tmp 31) = .pointer (some ⟨gh, 0, none⟩) := hV 31 (by simp [Op.operands]) (by kernel_rfl)
      have f31 : a.tmps.getD 31 undef = .pointer (some ⟨gh, 0, none⟩) := e31
      have g31 : a.tmps[31]?.getD undef = .pointer (some ⟨gh, 0, none⟩) := by rw [← Array.getD_eq_getD_getElem?]; exact e31
      refine op_val (.pointer (some ⟨gh, 9, none⟩)) ?_ hC (Below.refl _ _) (by intro d hd; cases hd; rfl)
      (clear hV hI hC; go_simp <;> (first | rfl | simp | (rw [IntKind.wrap_i64]; omega)))
    case o33 =>
      intro Q a w2 hC hV hI
      have e32 : a.eval (.tmp 32) = .pointer (some ⟨gh, 9, none⟩) := hV 32 (by simp [Op.operands]) (by kernel_rfl)
      have f32 : a.tmps.getD 32 undef = .pointer (some ⟨gh, 9, none⟩) := e32
      have g32 : a.tmps[32]?.getD undef = .pointer (some ⟨gh, 9, none⟩) := by rw [← Array.getD_eq_getD_getElem?]; exact e32
      refine op_val (.pointer (some ⟨gh, 9, none⟩)) ?_ hC (Below.refl _ _) (by intro d hd; cases hd; rfl)
      (clear hV hI hC; go_simp <;> (first | rfl | simp | (rw [IntKind.wrap_i64]; omega)))
    case o34 =>
      intro Q a w2 hC hV hI
      have e0 : a.eval (.tmp 0) = .pointer (some ⟨gh, 0, none⟩) := (hI 0 (by simp [Op.operands]) (by kernel_rfl)).trans rfl
      have f0 : a.tmps.getD 0 undef = .pointer (some ⟨gh, 0, none⟩) := e0
      have g0 : a.tmps[0]?.getD undef = .pointer (some ⟨gh, 0, none⟩) := by rw [← Array.getD_eq_getD_getElem?]; exact e0
      refine op_val (.pointer (some ⟨gh, 0, none⟩)) ?_ hC (Below.refl _ _) (by intro d hd; cases hd; rfl)
      (clear hV hI hC; go_simp <;> (first | rfl | simp | (rw [IntKind.wrap_i64]; omega)))
    case o35 =>
      intro Q a w2 hC hV hI
      have e34 : a.eval (.tmp 34) = .pointer (some ⟨gh, 0, none⟩) := hV 34 (by simp [Op.operands]) (by kernel_rfl)
      have f34 : a.tmps.getD 34 undef = .pointer (some ⟨gh, 0, none⟩) := e34
      have g34 : a.tmps[34]?.getD undef = .pointer (some ⟨gh, 0, none⟩) := by rw [← Array.getD_eq_getD_getElem?]; exact e34
      refine op_val (.pointer (some ⟨gh, 0, none⟩)) ?_ hC (Below.refl _ _) (by intro d hd; cases hd; rfl)
      (clear hV hI hC; go_simp <;> (first | rfl | simp | (rw [IntKind.wrap_i64]; omega)))
    case o36 =>
      intro Q a w2 hC hV hI
      have e35 : a.eval (.tmp 35) = .pointer (some ⟨gh, 0, none⟩) := hV 35 (by simp [Op.operands]) (by kernel_rfl)
      have f35 : a.tmps.getD 35 undef = .pointer (some ⟨gh, 0, none⟩) := e35
      have g35 : a.tmps[35]?.getD undef = .pointer (some ⟨gh, 0, none⟩) := by rw [← Array.getD_eq_getD_getElem?]; exact e35
      refine op_val (.pointer (some ⟨gh, 9, none⟩)) ?_ hC (Below.refl _ _) (by intro d hd; cases hd; rfl)
      (clear hV hI hC; go_simp <;> (first | rfl | simp | (rw [IntKind.wrap_i64]; omega)))
    case o37 =>
      intro Q a w2 hC hV hI
      have e36 : a.eval (.tmp 36) = .pointer (some ⟨gh, 9, none⟩) := hV 36 (by simp [Op.operands]) (by kernel_rfl)
      have f36 : a.tmps.getD 36 undef = .pointer (some ⟨gh, 9, none⟩) := e36
      have g36 : a.tmps[36]?.getD undef = .pointer (some ⟨gh, 9, none⟩) := by rw [← Array.getD_eq_getD_getElem?]; exact e36
      refine op_val (.pointer (some ⟨gh, 10, none⟩)) ?_ hC (Below.refl _ _) (by intro d hd; cases hd; rfl)
      (clear hV hI hC; go_simp <;> (first | rfl | simp | (rw [IntKind.wrap_i64]; omega)))
    case o38 =>
      intro Q a w2 hC hV hI
      have e0 : a.eval (.tmp 0) = .pointer (some ⟨gh, 0, none⟩) := (hI 0 (by simp [Op.operands]) (by kernel_rfl)).trans rfl
      have f0 : a.tmps.getD 0 undef = .pointer (some ⟨gh, 0, none⟩) := e0
      have g0 : a.tmps[0]?.getD undef = .pointer (some ⟨gh, 0, none⟩) := by rw [← Array.getD_eq_getD_getElem?]; exact e0
      refine op_val (.pointer (some ⟨gh, 0, none⟩)) ?_ hC (Below.refl _ _) (by intro d hd; cases hd; rfl)
      (clear hV hI hC; go_simp <;> (first | rfl | simp | (rw [IntKind.wrap_i64]; omega)))
    case o39 =>
      intro Q a w2 hC hV hI
      have e38 : a.eval (.tmp 38) = .pointer (some ⟨gh, 0, none⟩) := hV 38 (by simp [Op.operands]) (by kernel_rfl)
      have f38 : a.tmps.getD 38 undef = .pointer (some ⟨gh, 0, none⟩) := e38
      have g38 : a.tmps[38]?.getD undef = .pointer (some ⟨gh, 0, none⟩) := by rw [← Array.getD_eq_getD_getElem?]; exact e38
      refine op_val (.pointer (some ⟨gh, 0, none⟩)) ?_ hC (Below.refl _ _) (by intro d hd; cases hd; rfl)
      (clear hV hI hC; go_simp <;> (first | rfl | simp | (rw [IntKind.wrap_i64]; omega)))
    case o40 =>
      intro Q a w2 hC hV hI
      have e39 : a.eval (.tmp 39) = .pointer (some ⟨gh, 0, none⟩) := hV 39 (by simp [Op.operands]) (by kernel_rfl)
      have f39 : a.tmps.getD 39 undef = .pointer (some ⟨gh, 0, none⟩) := e39
      have g39 : a.tmps[39]?.getD undef = .pointer (some ⟨gh, 0, none⟩) := by rw [← Array.getD_eq_getD_getElem?]; exact e39
      refine op_val (.pointer (some ⟨gh, 9, none⟩)) ?_ hC (Below.refl _ _) (by intro d hd; cases hd; rfl)
      (clear hV hI hC; go_simp <;> (first | rfl | simp | (rw [IntKind.wrap_i64]; omega)))
    case o41 =>
      intro Q a w2 hC hV hI
      have e40 : a.eval (.tmp 40) = .pointer (some ⟨gh, 9, none⟩) := hV 40 (by simp [Op.operands]) (by kernel_rfl)
      have f40 : a.tmps.getD 40 undef = .pointer (some ⟨gh, 9, none⟩) := e40
      have g40 : a.tmps[40]?.getD undef = .pointer (some ⟨gh, 9, none⟩) := by rw [← Array.getD_eq_getD_getElem?]; exact e40
      refine op_val (.pointer (some ⟨gh, 11, none⟩)) ?_ hC (Below.refl _ _) (by intro d hd; cases hd; rfl)
      (clear hV hI hC; go_simp <;> (first | rfl | simp | (rw [IntKind.wrap_i64]; omega)))
    case o42 =>
      intro Q a w2 hC hV hI
      have e0 : a.eval (.tmp 0) = .pointer (some ⟨gh, 0, none⟩) := (hI 0 (by simp [Op.operands]) (by kernel_rfl)).trans rfl
      have f0 : a.tmps.getD 0 undef = .pointer (some ⟨gh, 0, none⟩) := e0
      have g0 : a.tmps[0]?.getD undef = .pointer (some ⟨gh, 0, none⟩) := by rw [← Array.getD_eq_getD_getElem?]; exact e0
      refine op_val (.pointer (some ⟨gh, 0, none⟩)) ?_ hC (Below.refl _ _) (by intro d hd; cases hd; rfl)
      (clear hV hI hC; go_simp <;> (first | rfl | simp | (rw [IntKind.wrap_i64]; omega)))
    case o43 =>
      intro Q a w2 hC hV hI
      have e42 : a.eval (.tmp 42) = .pointer (some ⟨gh, 0, none⟩) := hV 42 (by simp [Op.operands]) (by kernel_rfl)
      have f42 : a.tmps.getD 42 undef = .pointer (some ⟨gh, 0, none⟩) := e42
      have g42 : a.tmps[42]?.getD undef = .pointer (some ⟨gh, 0, none⟩) := by rw [← Array.getD_eq_getD_getElem?]; exact e42
      refine op_val (.pointer (some ⟨gh, 0, none⟩)) ?_ hC (Below.refl _ _) (by intro d hd; cases hd; rfl)
      (clear hV hI hC; go_simp <;> (first | rfl | simp | (rw [IntKind.wrap_i64]; omega)))
    case o44 =>
      intro Q a w2 hC hV hI
      have e43 : a.eval (.tmp 43) = .pointer (some ⟨gh, 0, none⟩) := hV 43 (by simp [Op.operands]) (by kernel_rfl)
      have f43 : a.tmps.getD 43 undef = .pointer (some ⟨gh, 0, none⟩) := e43
      have g43 : a.tmps[43]?.getD undef = .pointer (some ⟨gh, 0, none⟩) := by rw [← Array.getD_eq_getD_getElem?]; exact e43
      refine op_val (.pointer (some ⟨gh, 9, none⟩)) ?_ hC (Below.refl _ _) (by intro d hd; cases hd; rfl)
      (clear hV hI hC; go_simp <;> (first | rfl | simp | (rw [IntKind.wrap_i64]; omega)))
    case o45 =>
      intro Q a w2 hC hV hI
      have e44 : a.eval (.tmp 44) = .pointer (some ⟨gh, 9, none⟩) := hV 44 (by simp [Op.operands]) (by kernel_rfl)
      have f44 : a.tmps.getD 44 undef = .pointer (some ⟨gh, 9, none⟩) := e44
      have g44 : a.tmps[44]?.getD undef = .pointer (some ⟨gh, 9, none⟩) := by rw [← Array.getD_eq_getD_getElem?]; exact e44
      refine op_val (.pointer (some ⟨gh, 12, none⟩)) ?_ hC (Below.refl _ _) (by intro d hd; cases hd; rfl)
      (clear hV hI hC; go_simp <;> (first | rfl | simp | (rw [IntKind.wrap_i64]; omega)))
    case o46 =>
      intro Q a w2 hC hV hI
      have e0 : a.eval (.tmp 0) = .pointer (some ⟨gh, 0, none⟩) := (hI 0 (by simp [Op.operands]) (by kernel_rfl)).trans rfl
      have f0 : a.tmps.getD 0 undef = .pointer (some ⟨gh, 0, none⟩) := e0
      have g0 : a.tmps[0]?.getD undef = .pointer (some ⟨gh, 0, none⟩) := by rw [← Array.getD_eq_getD_getElem?]; exact e0
      refine op_val (.pointer (some ⟨gh, 0, none⟩)) ?_ hC (Below.refl _ _) (by intro d hd; cases hd; rfl)
      (clear hV hI hC; go_simp <;> (first | rfl | simp | (rw [IntKind.wrap_i64]; omega)))
    case o47 =>
      intro Q a w2 hC hV hI
      have e46 : a.eval (.tmp 46) = .pointer (some ⟨gh, 0, none⟩) := hV 46 (by simp [Op.operands]) (by kernel_rfl)
      have f46 : a.tmps.getD 46 undef = .pointer (some ⟨gh, 0, none⟩) := e46
      have g46 : a.tmps[46]?.getD undef = .pointer (some ⟨gh, 0, none⟩) := by rw [← Array.getD_eq_getD_getElem?]; exact e46
      refine op_val (.pointer (some ⟨gh, 0, none⟩)) ?_ hC (Below.refl _ _) (by intro d hd; cases hd; rfl)
      (clear hV hI hC; go_simp <;> (first | rfl | simp | (rw [IntKind.wrap_i64]; omega)))
    case o48 =>
      intro Q a w2 hC hV hI
      have e47 : a.eval (.tmp 47) = .pointer (some ⟨gh, 0, none⟩) := hV 47 (by simp [Op.operands]) (by kernel_rfl)
      have f47 : a.tmps.getD 47 undef = .pointer (some ⟨gh, 0, none⟩) := e47
      have g47 : a.tmps[47]?.getD undef = .pointer (some ⟨gh, 0, none⟩) := by rw [← Array.getD_eq_getD_getElem?]; exact e47
      refine op_val (.pointer (some ⟨gh, 13, none⟩)) ?_ hC (Below.refl _ _) (by intro d hd; cases hd; rfl)
      (clear hV hI hC; go_simp <;> (first | rfl | simp | (rw [IntKind.wrap_i64]; omega)))
    case o49 =>
      intro Q a w2 hC hV hI
      have e0 : a.eval (.tmp 0) = .pointer (some ⟨gh, 0, none⟩) := (hI 0 (by simp [Op.operands]) (by kernel_rfl)).trans rfl
      have f0 : a.tmps.getD 0 undef = .pointer (some ⟨gh, 0, none⟩) := e0
      have g0 : a.tmps[0]?.getD undef = .pointer (some ⟨gh, 0, none⟩) := by rw [← Array.getD_eq_getD_getElem?]; exact e0
      refine op_val (.pointer (some ⟨gh, 0, none⟩)) ?_ hC (Below.refl _ _) (by intro d hd; cases hd; rfl)
      (clear hV hI hC; go_simp <;> (first | rfl | simp | (rw [IntKind.wrap_i64]; omega)))
    case o50 =>
      intro Q a w2 hC hV hI
      have e49 : a.eval (.tmp 49) = .pointer (some ⟨gh, 0, none⟩) := hV 49 (by simp [Op.operands]) (by kernel_rfl)
      have f49 : a.tmps.getD 49 undef = .pointer (some ⟨gh, 0, none⟩) := e49
      have g49 : a.tmps[49]?.getD undef = .pointer (some ⟨gh, 0, none⟩) := by rw [← Array.getD_eq_getD_getElem?]; exact e49
      refine op_val (.pointer (some ⟨gh, 0, none⟩)) ?_ hC (Below.refl _ _) (by intro d hd; cases hd; rfl)
      (clear hV hI hC; go_simp <;> (first | rfl | simp | (rw [IntKind.wrap_i64]; omega)))
    case o51 =>
      intro Q a w2 hC hV hI
      have e50 : a.eval (.tmp 50) = .pointer (some ⟨gh, 0, none⟩) := hV 50 (by simp [Op.operands]) (by kernel_rfl)
      have f50 : a.tmps.getD 50 undef = .pointer (some ⟨gh, 0, none⟩) := e50
      have g50 : a.tmps[50]?.getD undef = .pointer (some ⟨gh, 0, none⟩) := by rw [← Array.getD_eq_getD_getElem?]; exact e50
      refine op_val (.pointer (some ⟨gh, 14, none⟩)) ?_ hC (Below.refl _ _) (by intro d hd; cases hd; rfl)
      (clear hV hI hC; go_simp <;> (first | rfl | simp | (rw [IntKind.wrap_i64]; omega)))
    case o52 =>
      intro Q a w2 hC hV hI
      have e6 : a.eval (.tmp 6) = .pointer (some ⟨gh, 0, none⟩) := hV 6 (by simp [Op.operands]) (by kernel_rfl)
      have f6 : a.tmps.getD 6 undef = .pointer (some ⟨gh, 0, none⟩) := e6
      have g6 : a.tmps[6]?.getD undef = .pointer (some ⟨gh, 0, none⟩) := by rw [← Array.getD_eq_getD_getElem?]; exact e6
      have e10 : a.eval (.tmp 10) = .pointer (some ⟨gh, 1, none⟩) := hV 10 (by simp [Op.operands]) (by kernel_rfl)
      have f10 : a.tmps.getD 10 undef = .pointer (some ⟨gh, 1, none⟩) := e10
      have g10 : a.tmps[10]?.getD undef = .pointer (some ⟨gh, 1, none⟩) := by rw [← Array.getD_eq_getD_getElem?]; exact e10
      have e14 : a.eval (.tmp 14) = .pointer (some ⟨gh, 2, none⟩) := hV 14 (by simp [Op.operands]) (by kernel_rfl)
      have f14 : a.tmps.getD 14 undef = .pointer (some ⟨gh, 2, none⟩) := e14
      have g14 : a.tmps[14]?.getD undef = .pointer (some ⟨gh, 2, none⟩) := by rw [← Array.getD_eq_getD_getElem?]; exact e14
      have e18 : a.eval (.tmp 18) = .pointer (some ⟨gh, 3, none⟩) := hV 18 (by simp [Op.operands]) (by kernel_rfl)
      have f18 : a.tmps.getD 18 undef = .pointer (some ⟨gh, 3, none⟩) := e18
      have g18 : a.tmps[18]?.getD undef = .pointer (some ⟨gh, 3, none⟩) := by rw [← Array.getD_eq_getD_getElem?]; exact e18
      have e22 : a.eval (.tmp 22) = .pointer (some ⟨gh, 4, none⟩) := hV 22 (by simp [Op.operands]) (by kernel_rfl)
      have f22 : a.tmps.getD 22 undef = .pointer (some ⟨gh, 4, none⟩) := e22
      have g22 : a.tmps[22]?.getD undef = .pointer (some ⟨gh, 4, none⟩) := by rw [← Array.getD_eq_getD_getElem?]; exact e22
      have e26 : a.eval (.tmp 26) = .pointer (some ⟨gh, 5, none⟩) := hV 26 (by simp [Op.operands]) (by kernel_rfl)
      have f26 : a.tmps.getD 26 undef = .pointer (some ⟨gh, 5, none⟩) := e26
      have g26 : a.tmps[26]?.getD undef = .pointer (some ⟨gh, 5, none⟩) := by rw [← Array.getD_eq_getD_getElem?]; exact e26
      have e29 : a.eval (.tmp 29) = .pointer (some ⟨gh, 8, none⟩) := hV 29 (by simp [Op.operands]) (by kernel_rfl)
      have f29 : a.tmps.getD 29 undef = .pointer (some ⟨gh, 8, none⟩) := e29
      have g29 : a.tmps[29]?.getD undef = .pointer (some ⟨gh, 8, none⟩) := by rw [← Array.getD_eq_getD_getElem?]; exact e29
      have e33 : a.eval (.tmp 33) = .pointer (some ⟨gh, 9, none⟩) := hV 33 (by simp [Op.operands]) (by kernel_rfl)
      have f33 : a.tmps.getD 33 undef = .pointer (some ⟨gh, 9, none⟩) := e33
      have g33 : a.tmps[33]?.getD undef = .pointer (some ⟨gh, 9, none⟩) := by rw [← Array.getD_eq_getD_getElem?]; exact e33
      have e37 : a.eval (.tmp 37) = .pointer (some ⟨gh, 10, none⟩) := hV 37 (by simp [Op.operands]) (by kernel_rfl)
      have f37 : a.tmps.getD 37 undef = .pointer (some ⟨gh, 10, none⟩) := e37
      have g37 : a.tmps[37]?.getD undef = .pointer (some ⟨gh, 10, none⟩) := by rw [← Array.getD_eq_getD_getElem?]; exact e37
      have e41 : a.eval (.tmp 41) = .pointer (some ⟨gh, 11, none⟩) := hV 41 (by simp [Op.operands]) (by kernel_rfl)
      have f41 : a.tmps.getD 41 undef = .pointer (some ⟨gh, 11, none⟩) := e41
      have g41 : a.tmps[41]?.getD undef = .pointer (some ⟨gh, 11, none⟩) := by rw [← Array.getD_eq_getD_getElem?]; exact e41
      have e45 : a.eval (.tmp 45) = .pointer (some ⟨gh, 12, none⟩) := hV 45 (by simp [Op.operands]) (by kernel_rfl)
      have f45 : a.tmps.getD 45 undef = .pointer (some ⟨gh, 12, none⟩) := e45
      have g45 : a.tmps[45]?.getD undef = .pointer (some ⟨gh, 12, none⟩) := by rw [← Array.getD_eq_getD_getElem?]; exact e45
      have e48 : a.eval (.tmp 48) = .pointer (some ⟨gh, 13, none⟩) := hV 48 (by simp [Op.operands]) (by kernel_rfl)
      have f48 : a.tmps.getD 48 undef = .pointer (some ⟨gh, 13, none⟩) := e48
      have g48 : a.tmps[48]?.getD undef = .pointer (some ⟨gh, 13, none⟩) := by rw [← Array.getD_eq_getD_getElem?]; exact e48
      have e51 : a.eval (.tmp 51) = .pointer (some ⟨gh, 14, none⟩) := hV 51 (by simp [Op.operands]) (by kernel_rfl)
      have f51 : a.tmps.getD 51 undef = .pointer (some ⟨gh, 14, none⟩) := e51
      have g51 : a.tmps[51]?.getD undef = .pointer (some ⟨gh, 14, none⟩) := by rw [← Array.getD_eq_getD_getElem?]; exact e51
      refine op_val (.agg #[.pointer (some ⟨gh, 0, none⟩), .pointer (some ⟨gh, 1, none⟩), .pointer (some ⟨gh, 2, none⟩), .pointer (some ⟨gh, 3, none⟩), .pointer (some ⟨gh, 4, none⟩), .pointer (some ⟨gh, 5, none⟩), .pointer (some ⟨gh, 8, none⟩), .pointer (some ⟨gh, 9, none⟩), .pointer (some ⟨gh, 10, none⟩), .pointer (some ⟨gh, 11, none⟩), .pointer (some ⟨gh, 12, none⟩), .pointer (some ⟨gh, 13, none⟩), .pointer (some ⟨gh, 14, none⟩)]) ?_ hC (Below.refl _ _) (by intro d hd; cases hd; rfl)
      (clear hV hI hC; go_simp <;> (first | rfl | simp | (rw [IntKind.wrap_i64]; omega)))
  case hend =>
    intro f w2 hC hall
    simp only [List.take_succ_cons, List.take_zero, List.drop_succ_cons, List.drop_zero] at hall ⊢
    simp only [List.forall_mem_cons] at hall
    obtain ⟨h3, h4, h5, h6, h7, h8, h9, h10, h11, h12, h13, h14, h15, h16, h17, h18, h19, h20, h21, h22, h23, h24, h25, h26, h27, h28, h29, h30, h31, h32, h33, h34, h35, h36, h37, h38, h39, h40, h41, h42, h43, h44, h45, h46, h47, h48, h49, h50, h51, h52, _⟩ := hall
    replace h3 : f 3 = .pointer (some ⟨gh, 0, none⟩) := h3 3 rfl
    replace h4 : f 4 = .pointer (some ⟨gh, 0, none⟩) := h4 4 rfl
    replace h5 : f 5 = .pointer (some ⟨gh, 0, none⟩) := h5 5 rfl
    replace h6 : f 6 = .pointer (some ⟨gh, 0, none⟩) := h6 6 rfl
    replace h7 : f 7 = .pointer (some ⟨gh, 0, none⟩) := h7 7 rfl
    replace h8 : f 8 = .pointer (some ⟨gh, 0, none⟩) := h8 8 rfl
    replace h9 : f 9 = .pointer (some ⟨gh, 0, none⟩) := h9 9 rfl
    replace h10 : f 10 = .pointer (some ⟨gh, 1, none⟩) := h10 10 rfl
    replace h11 : f 11 = .pointer (some ⟨gh, 0, none⟩) := h11 11 rfl
    replace h12 : f 12 = .pointer (some ⟨gh, 0, none⟩) := h12 12 rfl
    replace h13 : f 13 = .pointer (some ⟨gh, 0, none⟩) := h13 13 rfl
    replace h14 : f 14 = .pointer (some ⟨gh, 2, none⟩) := h14 14 rfl
    replace h15 : f 15 = .pointer (some ⟨gh, 0, none⟩) := h15 15 rfl
    replace h16 : f 16 = .pointer (some ⟨gh, 0, none⟩) := h16 16 rfl
    replace h17 : f 17 = .pointer (some ⟨gh, 0, none⟩) := h17 17 rfl
    replace h18 : f 18 = .pointer (some ⟨gh, 3, none⟩) := h18 18 rfl
    replace h19 : f 19 = .pointer (some ⟨gh, 0, none⟩) := h19 19 rfl
    replace h20 : f 20 = .pointer (some ⟨gh, 0, none⟩) := h20 20 rfl
    replace h21 : f 21 = .pointer (some ⟨gh, 0, none⟩) := h21 21 rfl
    replace h22 : f 22 = .pointer (some ⟨gh, 4, none⟩) := h22 22 rfl
    replace h23 : f 23 = .pointer (some ⟨gh, 0, none⟩) := h23 23 rfl
    replace h24 : f 24 = .pointer (some ⟨gh, 0, none⟩) := h24 24 rfl
    replace h25 : f 25 = .pointer (some ⟨gh, 0, none⟩) := h25 25 rfl
    replace h26 : f 26 = .pointer (some ⟨gh, 5, none⟩) := h26 26 rfl
    replace h27 : f 27 = .pointer (some ⟨gh, 0, none⟩) := h27 27 rfl
    replace h28 : f 28 = .pointer (some ⟨gh, 0, none⟩) := h28 28 rfl
    replace h29 : f 29 = .pointer (some ⟨gh, 8, none⟩) := h29 29 rfl
    replace h30 : f 30 = .pointer (some ⟨gh, 0, none⟩) := h30 30 rfl
    replace h31 : f 31 = .pointer (some ⟨gh, 0, none⟩) := h31 31 rfl
    replace h32 : f 32 = .pointer (some ⟨gh, 9, none⟩) := h32 32 rfl
    replace h33 : f 33 = .pointer (some ⟨gh, 9, none⟩) := h33 33 rfl
    replace h34 : f 34 = .pointer (some ⟨gh, 0, none⟩) := h34 34 rfl
    replace h35 : f 35 = .pointer (some ⟨gh, 0, none⟩) := h35 35 rfl
    replace h36 : f 36 = .pointer (some ⟨gh, 9, none⟩) := h36 36 rfl
    replace h37 : f 37 = .pointer (some ⟨gh, 10, none⟩) := h37 37 rfl
    replace h38 : f 38 = .pointer (some ⟨gh, 0, none⟩) := h38 38 rfl
    replace h39 : f 39 = .pointer (some ⟨gh, 0, none⟩) := h39 39 rfl
    replace h40 : f 40 = .pointer (some ⟨gh, 9, none⟩) := h40 40 rfl
    replace h41 : f 41 = .pointer (some ⟨gh, 11, none⟩) := h41 41 rfl
    replace h42 : f 42 = .pointer (some ⟨gh, 0, none⟩) := h42 42 rfl
    replace h43 : f 43 = .pointer (some ⟨gh, 0, none⟩) := h43 43 rfl
    replace h44 : f 44 = .pointer (some ⟨gh, 9, none⟩) := h44 44 rfl
    replace h45 : f 45 = .pointer (some ⟨gh, 12, none⟩) := h45 45 rfl
    replace h46 : f 46 = .pointer (some ⟨gh, 0, none⟩) := h46 46 rfl
    replace h47 : f 47 = .pointer (some ⟨gh, 0, none⟩) := h47 47 rfl
    replace h48 : f 48 = .pointer (some ⟨gh, 13, none⟩) := h48 48 rfl
    replace h49 : f 49 = .pointer (some ⟨gh, 0, none⟩) := h49 49 rfl
    replace h50 : f 50 = .pointer (some ⟨gh, 0, none⟩) := h50 50 rfl
    replace h51 : f 51 = .pointer (some ⟨gh, 14, none⟩) := h51 51 rfl
    replace h52 : f 52 = .agg #[.pointer (some ⟨gh, 0, none⟩), .pointer (some ⟨gh, 1, none⟩), .pointer (some ⟨gh, 2, none⟩), .pointer (some ⟨gh, 3, none⟩), .pointer (some ⟨gh, 4, none⟩), .pointer (some ⟨gh, 5, none⟩), .pointer (some ⟨gh, 8, none⟩), .pointer (some ⟨gh, 9, none⟩), .pointer (some ⟨gh, 10, none⟩), .pointer (some ⟨gh, 11, none⟩), .pointer (some ⟨gh, 12, none⟩), .pointer (some ⟨gh, 13, none⟩), .pointer (some ⟨gh, 14, none⟩)] := h52 52 rfl
    simp only [putAll, Act.put, List.setIfInBounds_toArray, List.set_cons_succ, List.set_cons_zero, h3, h4, h5, h6, h7, h8, h9, h10, h11, h12, h13, h14, h15, h16, h17, h18, h19, h20, h21, h22, h23, h24, h25, h26, h27, h28, h29, h30, h31, h32, h33, h34, h35, h36, h37, h38, h39, h40, h41, h42, h43, h44, h45, h46, h47, h48, h49, h50, h51, h52]
    clear h3 h4 h5 h6 h7 h8 h9 h10 h11 h12 h13 h14 h15 h16 h17 h18 h19 h20 h21 h22 h23 h24 h25 h26 h27 h28 h29 h30 h31 h32 h33 h34 h35 h36 h37 h38 h39 h40 h41 h42 h43 h44 h45 h46 h47 h48 h49 h50 h51 h52
    have hR : w2.heap[w.heap.size]? = some (.cells #[.pointer none, .pointer none, .pointer none, .pointer none, .pointer none, .pointer none, .pointer none, .pointer none, .pointer none, .pointer none, .pointer none, .pointer none, .pointer none] 167 (0, 0)) := (hC.block _ hlt).trans XB.out
    have B2 := B.out.trans (hC.mono B.out.size)
    clear XB B hC
    have d0 : w2.cell? ⟨w.heap.size, 0, none⟩ = some (.pointer none) := by simp [World.cell?, hR]
    have d1 : w2.cell? ⟨w.heap.size, 1, none⟩ = some (.pointer none) := by simp [World.cell?, hR]
    have d2 : w2.cell? ⟨w.heap.size, 2, none⟩ = some (.pointer none) := by simp [World.cell?, hR]
    have d3 : w2.cell? ⟨w.heap.size, 3, none⟩ = some (.pointer none) := by simp [World.cell?, hR]
    have d4 : w2.cell? ⟨w.heap.size, 4, none⟩ = some (.pointer none) := by simp [World.cell?, hR]
    have d5 : w2.cell? ⟨w.heap.size, 5, none⟩ = some (.pointer none) := by simp [World.cell?, hR]
    have d6 : w2.cell? ⟨w.heap.size, 6, none⟩ = some (.pointer none) := by simp [World.cell?, hR]
    have d7 : w2.cell? ⟨w.heap.size, 7, none⟩ = some (.pointer none) := by simp [World.cell?, hR]
    have d8 : w2.cell? ⟨w.heap.size, 8, none⟩ = some (.pointer none) := by simp [World.cell?, hR]
    have d9 : w2.cell? ⟨w.heap.size, 9, none⟩ = some (.pointer none) := by simp [World.cell?, hR]
    have d10 : w2.cell? ⟨w.heap.size, 10, none⟩ = some (.pointer none) := by simp [World.cell?, hR]
    have d11 : w2.cell? ⟨w.heap.size, 11, none⟩ = some (.pointer none) := by simp [World.cell?, hR]
    have d12 : w2.cell? ⟨w.heap.size, 12, none⟩ = some (.pointer none) := by simp [World.cell?, hR]
    have f0 : w2.frozen? ⟨w.heap.size, 0, none⟩ = false := by simp [World.frozen?, hR]
    have f1 : w2.frozen? ⟨w.heap.size, 1, none⟩ = false := by simp [World.frozen?, hR]
    have f2 : w2.frozen? ⟨w.heap.size, 2, none⟩ = false := by simp [World.frozen?, hR]
    have f3 : w2.frozen? ⟨w.heap.size, 3, none⟩ = false := by simp [World.frozen?, hR]
    have f4 : w2.frozen? ⟨w.heap.size, 4, none⟩ = false := by simp [World.frozen?, hR]
    have f5 : w2.frozen? ⟨w.heap.size, 5, none⟩ = false := by simp [World.frozen?, hR]
    have f6 : w2.frozen? ⟨w.heap.size, 6, none⟩ = false := by simp [World.frozen?, hR]
    have f7 : w2.frozen? ⟨w.heap.size, 7, none⟩ = false := by simp [World.frozen?, hR]
    have f8 : w2.frozen? ⟨w.heap.size, 8, none⟩ = false := by simp [World.frozen?, hR]
    have f9 : w2.frozen? ⟨w.heap.size, 9, none⟩ = false := by simp [World.frozen?, hR]
    have f10 : w2.frozen? ⟨w.heap.size, 10, none⟩ = false := by simp [World.frozen?, hR]
    have f11 : w2.frozen? ⟨w.heap.size, 11, none⟩ = false := by simp [World.frozen?, hR]
    have f12 : w2.frozen? ⟨w.heap.size, 12, none⟩ = false := by simp [World.frozen?, hR]
    have hR3 := (heap_setN (i := 12) (v := .pointer (some ⟨gh, 14, none⟩)) (heap_setN (i := 11) (v := .pointer (some ⟨gh, 13, none⟩)) (heap_setN (i := 10) (v := .pointer (some ⟨gh, 12, none⟩)) (heap_setN (i := 9) (v := .pointer (some ⟨gh, 11, none⟩)) (heap_setN (i := 8) (v := .pointer (some ⟨gh, 10, none⟩)) (heap_setN (i := 7) (v := .pointer (some ⟨gh, 9, none⟩)) (heap_setN (i := 6) (v := .pointer (some ⟨gh, 8, none⟩)) (heap_setN (i := 5) (v := .pointer (some ⟨gh, 5, none⟩)) (heap_setN (i := 4) (v := .pointer (some ⟨gh, 4, none⟩)) (heap_setN (i := 3) (v := .pointer (some ⟨gh, 3, none⟩)) (heap_setN (i := 2) (v := .pointer (some ⟨gh, 2, none⟩)) (heap_setN (i := 1) (v := .pointer (some ⟨gh, 1, none⟩)) (heap_setN (i := 0) (v := .pointer (some ⟨gh, 0, none⟩)) hR)))))))))))))
    have B3 := (((((((((((((B2.setCell (p := ⟨w.heap.size, 0, none⟩) (Nat.le_refl _) (.pointer (some ⟨gh, 0, none⟩))).setCell (p := ⟨w.heap.size, 1, none⟩) (Nat.le_refl _) (.pointer (some ⟨gh, 1, none⟩))).setCell (p := ⟨w.heap.size, 2, none⟩) (Nat.le_refl _) (.pointer (some ⟨gh, 2, none⟩))).setCell (p := ⟨w.heap.size, 3, none⟩) (Nat.le_refl _) (.pointer (some ⟨gh, 3, none⟩))).setCell (p := ⟨w.heap.size, 4, none⟩) (Nat.le_refl _) (.pointer (some ⟨gh, 4, none⟩))).setCell (p := ⟨w.heap.size, 5, none⟩) (Nat.le_refl _) (.pointer (some ⟨gh, 5, none⟩))).setCell (p := ⟨w.heap.size, 6, none⟩) (Nat.le_refl _) (.pointer (some ⟨gh, 8, none⟩))).setCell (p := ⟨w.heap.size, 7, none⟩) (Nat.le_refl _) (.pointer (some ⟨gh, 9, none⟩))).setCell (p := ⟨w.heap.size, 8, none⟩) (Nat.le_refl _) (.pointer (some ⟨gh, 10, none⟩))).setCell (p := ⟨w.heap.size, 9, none⟩) (Nat.le_refl _) (.pointer (some ⟨gh, 11, none⟩))).setCell (p := ⟨w.heap.size, 10, none⟩) (Nat.le_refl _) (.pointer (some ⟨gh, 12, none⟩))).setCell (p := ⟨w.heap.size, 11, none⟩) (Nat.le_refl _) (.pointer (some ⟨gh, 13, none⟩))).setCell (p := ⟨w.heap.size, 12, none⟩) (Nat.le_refl _) (.pointer (some ⟨gh, 14, none⟩)))
    clear hR B2
    go_wp2_with fail
    clear d0 f0 d1 f1 d2 f2 d3 f3 d4 f4 d5 f5 d6 f6 d7 f7 d8 f8 d9 f9 d10 f10 d11 f11 d12 f12
    generalize World.setCell _ ⟨w.heap.size, 12, none⟩ _ = w3 at hR3 B3 ⊢
    simp only [List.setIfInBounds_toArray, List.set_cons_succ, List.set_cons_zero] at hR3
    refine bodyPost_ret (results_cell_row rfl _ _ w.heap.size _ #[.pointer (some ⟨gh, 0, none⟩), .pointer (some ⟨gh, 1, none⟩), .pointer (some ⟨gh, 2, none⟩), .pointer (some ⟨gh, 3, none⟩), .pointer (some ⟨gh, 4, none⟩), .pointer (some ⟨gh, 5, none⟩), .pointer (some ⟨gh, 8, none⟩), .pointer (some ⟨gh, 9, none⟩), .pointer (some ⟨gh, 10, none⟩), .pointer (some ⟨gh, 11, none⟩), .pointer (some ⟨gh, 12, none⟩), .pointer (some ⟨gh, 13, none⟩), .pointer (some ⟨gh, 14, none⟩)] (0, 0) _ rfl hR3 Tryz.underlying167 rfl (by rw [Tryz.sizePN]; rfl)) rfl ?_
    exact ⟨rfl, B3⟩
end Go.Proofs.YtcnmbolmgifgfabGreatDoor

/- Contract of impl.(*newcHead).digits. -/
namespace Go.Proofs.YtcnmbolmgifgfabGreatDoor
open Go.ChangeShapes Go.WideShapes Go.ChangeAt Go.RowKit Go.Deep

theorem ownB_belowN {w w' : World} {base : Nat} {v : Value} {l : List UInt8} (h : OwnB w base v l) (hb : Below w.heap.size w w') : OwnB w' base v l :=
  World.ownsRow.kept h (row := none) ⟨hb.os, hb.tape, hb.output, hb.size, fun k hk _ => hb.block k hk⟩ (by cases hv : v.ownBlock <;> simp)
theorem textN {w : World} {base n : Nat} {v : Value} {l : List UInt8} {s : ByteArray} (hn : n = l.length + s.size) (h : w.ownsRow base 5 1 v n (byteVals l ++ Lib.strCells s)) : OwnB w base v (l ++ s.data.toList) := by
  subst hn
  have e : byteVals l ++ Lib.strCells s = byteVals (l ++ s.data.toList) := by simp [byteVals, Lib.strCells]
  rw [e, show l.length + s.size = (l ++ s.data.toList).length from by simp] at h
  exact h
def NumsN (w : World) (gh : Nat) (L : List Int) : Prop := ∀ i x, L[i]? = some x → w.cell? ⟨gh, offn i, none⟩ = some (.int .i64 x)
theorem NumsN.below {w w' : World} {gh B : Nat} {L : List Int} (h : NumsN w gh L) (hb : Below B w w') (hg : gh < B) : NumsN w' gh L := fun i x hx => (hb.cell (p := ⟨gh, offn i, none⟩) hg).trans (h i x hx)
theorem idx13 (gh k : Nat) (hk : k < 13) (w : World) : (Instr.index 167 (.agg (ptrsN gh)) (.int .i64 (k : Int))).run Tryz.prog w = .ok (.pointer (some ⟨gh, offn k, none⟩)) w := by
  have h := ptrsN_at gh k hk
  have hk2 : (0 : Int) ≤ (k : Int) ∧ (k : Int) < 13 := by omega
  have hu := Tryz.underlying167
  have he := Tryz.underlying166
  have hsz : ∀ w, (sizeOf 166).run Tryz.prog w = .ok 1 w := fun w => by go_simp
  simp [Instr.index, run_underlying hu, asIntOf, hk2, part, isAgg, run_underlying he, hsz, go_sem, h]
  intro h9
  omega
def digN (L : List Int) : Ending := .returned (.tuple #[.string (if hexOk L then hexS L else ⟨#[]⟩), .bool (hexOk L)])
theorem digN_bad {L : List Int} (h : hexOk L = false) : digN L = .returned (.tuple #[.string ⟨#[]⟩, .bool false]) := by rw [digN, h]; rfl
theorem digN_ok {L : List Int} (h : hexOk L = true) : digN L = .returned (.tuple #[.string (hexS L), .bool true]) := by rw [digN, h]; rfl
set_option maxHeartbeats 6400000 in
set_option maxRecDepth 8000 in
theorem digitsN_any (L : List Int) (gh : Nat) (w : World) (hL : L.length = 13) (hg : gh < w.heap.size) (hN : NumsN w gh L) (hT : Tabs w) :
    Calls Tryz.prog 98 #[.pointer (some ⟨gh, 0, none⟩)] w fun e w' => e = digN L ∧ Below w.heap.size w w' := by
  obtain ⟨i0, hi0, hz0, hz1, hz2⟩ := info_parts Tryz.info5
  have HN := Lib.hid hN
  have HT := Lib.hid hT
  have HG : Hid (∀ i, i < 13 → ∃ x, L[i]? = some x) := Lib.hid (fun i hi => ⟨L[i], List.getElem?_eq_getElem (by omega)⟩)
  have HS := Lib.hid (fun i x (h : L[i]? = some x) => hex_take h)
  have HK := Lib.hid (fun i x (h : L[i]? = some x) => hexOk_take h)
  have HB := Lib.hid (fun i x (h : L[i]? = some x) hk => hexOk_bad h hk)
  have HZ : Hid (hexS (L.take 0) = ⟨#[]⟩ ∧ hexOk (L.take 0) = true) := Lib.hid ⟨rfl, rfl⟩
  have HF : Hid (hexS (L.take 13) = hexS L ∧ hexOk (L.take 13) = hexOk L) := Lib.hid (by rw [← hL, List.take_length]; exact ⟨rfl, rfl⟩)
  have HLe : Hid (∀ i, (hexS (L.take i)).size ≤ 104) := Lib.hid (fun i => by have h8 := (hexS_le (L.take i)).1; rw [List.length_take] at h8; omega)
  have HPl := Lib.hid (fun x => (putHex_sz x).1)
  have HE1 := Lib.hid (digN_bad (L := L))
  have HE2 := Lib.hid (digN_ok (L := L))
  generalize digN L = E at HE1 HE2
  generalize hexS L = r at HF HE2
  generalize hexOk L = ok at HF HB HE1 HE2
  have HIx := Lib.hid (fun k hk w => idx13 gh k hk w)
  clear hN hT hL
  go_enter Tryz.func98, Tryz.ntmps98
  go_wp2_with fail
  refine (fieldsN_any gh _).mono ?_
  rintro e w1 ⟨rfl, hb⟩
  have B := Lib.hid hb
  have O0 : Hid (OwnB w1 w.heap.size (.slice none 0 0) []) := Lib.hid ⟨rfl, .inl ⟨rfl, rfl⟩⟩
  clear hb
  generalize ptrsN gh = pt at HIx ⊢
  go_wp2_with fail
  go_loopw [4, 6, 7, 8, 11] (fun v _ _ _ u wr => ∃ i : Nat, u = .int .i64 i ∧ i ≤ 13 ∧ hexOk (L.take i) = true ∧ OwnB wr w.heap.size v (hexS (L.take i)).data.toList ∧ Below w.heap.size w wr) (fun _ _ _ _ u _ => 13 - (intOf u).toNat)
  case atStart => exact ⟨0, rfl, Nat.zero_le _, HZ.out.2, by rw [HZ.out.1]; exact O0.out, B.out⟩
  case round =>
    obtain ⟨i, rfl, hi, hok, ho, hb⟩ := hrel
    clear O0 B
    have B := Lib.hid hb
    have O := Lib.hid ho
    have hszB := B.out.size
    have HOk := Lib.hid hok
    clear hb hok ho
    by_cases hlt : i < 13
    · have hlt2 : (i : Int) < 13 := by omega
      obtain ⟨x, hx⟩ := HG.out i hlt
      have HS2 := Lib.hid (HS.out i _ hx)
      have HK2 := Lib.hid (HK.out i _ hx)
      have HB2 := Lib.hid (HB.out i _ hx)
      have cN := (B.out.cell (p := ⟨gh, offn i, none⟩) hg).trans (HN.out i _ hx)
      have hIx := HIx.out i hlt
      have hle := HLe.out i
      have hpl := HPl.out x
      have HPx := Lib.hid (fun w h => putHex_impl x w h)
      clear hx HS HK HB HG HN HIx
      obtain ⟨T, hTe⟩ : ∃ T, hexS (L.take i) = T := ⟨_, rfl⟩
      rw [hTe] at HS2 hle O
      clear hTe
      generalize (putHexv x).1 = q at HS2 hpl HPx
      generalize (putHexv x).2 = b at HB2 HK2 HPx
      generalize offn i = oi at cN hIx
      go_wp2_with fail
      refine (HPx.out _ (HT.out.below B.out)).mono ?_
      rintro e w7 ⟨rfl, hb⟩
      replace O := Lib.hid (ownB_belowN O.out hb)
      replace B := Lib.hid (B.out.trans (hb.mono hszB))
      have hsz7 := B.out.size
      clear hb HPx cN hIx
      cases b with
      | false =>
        have HF2 := Lib.hid (HE1.out (HB2.out rfl))
        clear HB2 HS2 HK2 O
        go_wp2_with fail
        go_ret2
        exact ⟨by rw [HF2.out]; rfl, B.out⟩
      | true =>
        have HOk2 : Hid (hexOk (L.take (i + 1)) = true) := Lib.hid (by rw [HK2.out, HOk.out]; rfl)
        clear HB2 HK2
        have zl : T.data.toList.length = T.size := Array.length_toList
        go_wp2_with (at_builtin; refine Lib.wpList_append_own_string _ rfl _ _ 82 9 rfl w.heap.size 5 i0 Tryz.underlying82 Tryz.underlying9 hi0 hz0 hz1 hz2 _ _ _ rfl O.out q rfl ?pp ?pq ?pr ?_)
        case pp => simp only [maxLen]; omega
        case pq => omega
        case pr => omega
        intro v9 w9 hown hgrow hnil
        have O9 : OwnB w9 w.heap.size v9 (T.data.toList ++ q.data.toList) := textN (by simp <;> omega) hown
        rw [show T.data.toList ++ q.data.toList = (T ++ q).data.toList from by simp] at O9
        have O10 := Lib.hid O9
        have B9 : Hid (Below w.heap.size w w9) := Lib.hid (B.out.grown hgrow (by omega) (fun b hb => (World.ownsRow.lt O.out b hb).1))
        clear hown hgrow hnil O9 O B
        go_wp2_with fail
        go_roundw
        case rel => exact ⟨i + 1, by go_num, by omega, HOk2.out, by rw [HS2.out]; exact O10.out, B9.out⟩
        case measure => simp [intOf]; omega
    · obtain rfl : i = 13 := by omega
      have hlt2 : ¬ ((13 : Nat) : Int) < 13 := by omega
      have HR9 := HF.out.2
      rw [HOk.out] at HR9
      have HO := Lib.hid (HE2.out HR9.symm)
      have HF9 := HF.out.1
      rw [HF9] at O
      clear HR9 HF9
      have hc := O.out.conv
      rw [show (⟨r.data.toList.toArray⟩ : ByteArray) = r from by simp] at hc
      go_wp2_with fail
      go_ret2
      exact ⟨by rw [HO.out]; rfl, B.out⟩
end Go.Proofs.YtcnmbolmgifgfabGreatDoor

/- Contract of impl.PutNew. -/
namespace Go.Proofs.YtcnmbolmgifgfabGreatDoor
open Go.ChangeShapes Go.WideShapes Go.ChangeAt Go.RowKit Go.Deep

theorem numsN_of {w : World} {gh : Nat} {ino mo u1 gi cn t z0 z1 z2 z3 ps ds sm : Int} {p d : ByteArray} {ty : TypeId} (h : w.heap[gh]? = some (.cells #[.int .i64 ino, .int .i64 mo, .int .i64 u1, .int .i64 gi, .int .i64 cn, .int .i64 t, .string p, .string d, .int .i64 ds, .int .i64 z0, .int .i64 z1, .int .i64 z2, .int .i64 z3, .int .i64 ps, .int .i64 sm] ty (0, 0))) : NumsN w gh [ino, mo, u1, gi, cn, t, ds, z0, z1, z2, z3, ps, sm] := by
  intro i x hx
  simp only [World.cell?, h]
  match i, hx with
  | 0, hx => simp [offn] at hx ⊢; simp [← hx]
  | 1, hx => simp [offn] at hx ⊢; simp [← hx]
  | 2, hx => simp [offn] at hx ⊢; simp [← hx]
  | 3, hx => simp [offn] at hx ⊢; simp [← hx]
  | 4, hx => simp [offn] at hx ⊢; simp [← hx]
  | 5, hx => simp [offn] at hx ⊢; simp [← hx]
  | 6, hx => simp [offn] at hx ⊢; simp [← hx]
  | 7, hx => simp [offn] at hx ⊢; simp [← hx]
  | 8, hx => simp [offn] at hx ⊢; simp [← hx]
  | 9, hx => simp [offn] at hx ⊢; simp [← hx]
  | 10, hx => simp [offn] at hx ⊢; simp [← hx]
  | 11, hx => simp [offn] at hx ⊢; simp [← hx]
  | 12, hx => simp [offn] at hx ⊢; simp [← hx]
  | i + 13, hx => simp at hx
theorem newText_ok {c : Card} {crc : Bool} (h : hexOk (nFl c crc) = true) : newTextv c crc = mgN crc ++ hexS (nFl c crc) ++ c.Path ++ ⟨#[0]⟩ ++ nulN (pad4 (111 + c.Path.size)) ++ c.Data ++ nulN (pad4 c.Data.size) := by rw [newTextv, if_pos h]
theorem newText_no {c : Card} {crc : Bool} (h : hexOk (nFl c crc) = false) : newTextv c crc = ⟨#[]⟩ := by rw [newTextv, h]; rfl
set_option maxHeartbeats 6400000 in
set_option maxRecDepth 8000 in
theorem putNew_impl (ino mo u1 gi cn t : Int) (p d : ByteArray) (crc : Bool) (w : World) (hp : p.size ≤ 4194304) (hd : d.size ≤ 4194304) (hT : Tabs w) :
    Calls Tryz.prog 58 #[.agg #[.int .i64 ino, .int .i64 mo, .int .i64 u1, .int .i64 gi, .int .i64 cn, .int .i64 t, .string p, .string d], .bool crc] w fun e w' => e = .returned (.string (newTextv ⟨ino, mo, u1, gi, cn, t, p, d⟩ crc)) ∧ Below w.heap.size w w' := by
  have HMg := Lib.hid (fun w => magicN_any crc w)
  have hmz := mgN_size crc
  have HSm := Lib.hid (fun w => sumC_any d crc w hd)
  have HDg := Lib.hid (fun gh w hg hN hT => digitsN_any (nFl ⟨ino, mo, u1, gi, cn, t, p, d⟩ crc) gh w rfl hg hN hT)
  have HD1 := Lib.hid (digN_bad (L := nFl ⟨ino, mo, u1, gi, cn, t, p, d⟩ crc))
  have HD2 := Lib.hid (digN_ok (L := nFl ⟨ino, mo, u1, gi, cn, t, p, d⟩ crc))
  have HV1 := Lib.hid (newText_no (c := ⟨ino, mo, u1, gi, cn, t, p, d⟩) (crc := crc))
  have HV2 := Lib.hid (newText_ok (c := ⟨ino, mo, u1, gi, cn, t, p, d⟩) (crc := crc))
  have HT := Lib.hid hT
  have HHx := Lib.hid ((hexS_le (nFl ⟨ino, mo, u1, gi, cn, t, p, d⟩ crc)).1)
  have HNs : Hid (∀ (w : World) (gh : Nat), w.heap[gh]? = some (.cells #[.int .i64 ino, .int .i64 mo, .int .i64 u1, .int .i64 gi, .int .i64 cn, .int .i64 t, .string p, .string d, .int .i64 (d.size : Int), .int .i64 0, .int .i64 0, .int .i64 0, .int .i64 0, .int .i64 ((p.size : Int) + 1), .int .i64 (sumN crc d)] 113 (0, 0)) → NumsN w gh (nFl ⟨ino, mo, u1, gi, cn, t, p, d⟩ crc)) := Lib.hid (fun w gh h => numsN_of h)
  have hln : (nFl ⟨ino, mo, u1, gi, cn, t, p, d⟩ crc).length = 13 := rfl
  simp only at HV2
  generalize newTextv ⟨ino, mo, u1, gi, cn, t, p, d⟩ crc = r at HV1 HV2
  generalize digN (nFl ⟨ino, mo, u1, gi, cn, t, p, d⟩ crc) = E at HDg HD1 HD2
  generalize hexOk (nFl ⟨ino, mo, u1, gi, cn, t, p, d⟩ crc) = ok at HD1 HD2 HV1 HV2
  generalize hexS (nFl ⟨ino, mo, u1, gi, cn, t, p, d⟩ crc) = hx at HD2 HV2 HHx
  have hhx : hx.size ≤ 104 := by have := HHx.out; omega
  generalize nFl ⟨ino, mo, u1, gi, cn, t, p, d⟩ crc = L at HDg HNs HHx hln
  generalize sumN crc d = sm at HSm HNs
  generalize mgN crc = mg at HMg HV2 hmz
  have hq1 := pad4_le (111 + p.size)
  have hq2 := pad4_le d.size
  have HN1 := Lib.hid (fun w => nuls_any (111 + p.size) w (by omega))
  rw [show ((111 + p.size : Nat) : Int) = 110 + ((p.size : Int) + 1) from by omega] at HN1
  have HN2 := Lib.hid (fun w => nuls_any d.size w (by omega))
  have hz1 := nulN_size (pad4 (111 + p.size))
  have hz2 := nulN_size (pad4 d.size)
  generalize nulN (pad4 (111 + p.size)) = nu1 at *
  generalize nulN (pad4 d.size) = nu2 at *
  have y4 : nu1.size ≤ 3 := by omega
  have y5 : nu2.size ≤ 3 := by omega
  have z1 : (⟨#[0]⟩ : ByteArray).size = 1 := rfl
  clear hq1 hq2 hz1 hz2 hT HHx hln
  go_enter Tryz.func58, Tryz.ntmps58
  go_upto_region 1 with fail
  generalize hw1 : World.alloc w _ = w1
  have XC : Hid (CardO w1 w.heap.size ⟨ino, mo, u1, gi, cn, t, p, d⟩) := Lib.hid (by rw [← hw1]; exact CardO.new w ⟨ino, mo, u1, gi, cn, t, p, d⟩)
  have B1 : Hid (Below w.heap.size w w1) := Lib.hid (by rw [← hw1]; exact (Below.refl _ _).alloc (Nat.le_refl _) _)
  have hs1 : w1.heap.size = w.heap.size + 1 := by rw [← hw1]; simp
  clear hw1
  have KC : Hid (∀ w', Below w1.heap.size w1 w' → w'.cell? ⟨w.heap.size, 0, none⟩ = some (.int .i64 ino) ∧ w'.cell? ⟨w.heap.size, 1, none⟩ = some (.int .i64 mo) ∧ w'.cell? ⟨w.heap.size, 2, none⟩ = some (.int .i64 u1) ∧ w'.cell? ⟨w.heap.size, 3, none⟩ = some (.int .i64 gi) ∧ w'.cell? ⟨w.heap.size, 4, none⟩ = some (.int .i64 cn) ∧ w'.cell? ⟨w.heap.size, 5, none⟩ = some (.int .i64 t) ∧ w'.cell? ⟨w.heap.size, 6, none⟩ = some (.string p) ∧ w'.cell? ⟨w.heap.size, 7, none⟩ = some (.string d)) := Lib.hid (fun w' hb => (XC.out.below hb (by omega)).at.zero)
  refine wp_region_cut 14 (by kernel_rfl) (fun w' => Below w1.heap.size w1 w') (fun x y => Below x.heap.size x y) (vBxG 5 113 w1.heap.size #[.int .i64 0, .int .i64 0, .int .i64 0, .int .i64 0, .int .i64 0, .int .i64 0, .string ⟨#[]⟩, .string ⟨#[]⟩, .int .i64 0, .int .i64 0, .int .i64 0, .int .i64 0, .int .i64 0, .int .i64 0, .int .i64 0] (fun dq vq => match dq with | 8 => vq = .agg #[.int .i64 ino, .int .i64 mo, .int .i64 u1, .int .i64 gi, .int .i64 cn, .int .i64 t, .string p, .string d] | 9 => vq = .pointer (some ⟨w.heap.size, 7, none⟩) | 10 => vq = .string d | 11 => vq = .int .i64 (d.size : Int) | 12 => vq = .pointer (some ⟨w.heap.size, 6, none⟩) | 13 => vq = .string p | 14 => vq = .int .i64 (p.size : Int) | 15 => vq = .int .i64 ((p.size : Int) + 1) | 16 => vq = .pointer (some ⟨w.heap.size, 7, none⟩) | 17 => vq = .string d | 18 => vq = .bool crc | 19 => vq = .int .i64 sm | 20 => vq = .agg #[.int .i64 ino, .int .i64 mo, .int .i64 u1, .int .i64 gi, .int .i64 cn, .int .i64 t, .string p, .string d, .int .i64 (d.size : Int), .int .i64 0, .int .i64 0, .int .i64 0, .int .i64 0, .int .i64 ((p.size : Int) + 1), .int .i64 sm] | _ => True)) (by kernel_rfl) (by kernel_rfl) ((Below.refl _ _).drew) (vBxG_keep _ _ _ _ _) (by simp) ?hops ?hend
  case hops =>
    simp only [List.take_succ_cons, List.take_zero, List.forall_mem_cons]
    refine ⟨?o8, ?o9, ?o10, ?o11, ?o12, ?o13, ?o14, ?o15, ?o16, ?o17, ?o18, ?o19, ?o20, ?o5, fun _ h => by cases h⟩
    case o8 =>
      intro Q a w2 hC hV hI
      have e2 : a.eval (.tmp 2) = .pointer (some ⟨w.heap.size, 0, none⟩) := (hI 2 (by simp [Op.operands]) (by kernel_rfl)).trans rfl
      have f2 : a.tmps.getD 2 undef = .pointer (some ⟨w.heap.size, 0, none⟩) := e2
      have g2 : a.tmps[2]?.getD undef = .pointer (some ⟨w.heap.size, 0, none⟩) := by rw [← Array.getD_eq_getD_getElem?]; exact e2
      have hK := KC.out w2 hC
      refine op_val (.agg #[.int .i64 ino, .int .i64 mo, .int .i64 u1, .int .i64 gi, .int .i64 cn, .int .i64 t, .string p, .string d]) ?_ hC (Below.refl _ _) (by intro d hd; cases hd; exact rfl)
      (clear hV hI hC; go_simp <;> (first | rfl | simp | (rw [IntKind.wrap_i64]; omega)))
    case o9 =>
      intro Q a w2 hC hV hI
      have e2 : a.eval (.tmp 2) = .pointer (some ⟨w.heap.size, 0, none⟩) := (hI 2 (by simp [Op.operands]) (by kernel_rfl)).trans rfl
      have f2 : a.tmps.getD 2 undef = .pointer (some ⟨w.heap.size, 0, none⟩) := e2
      have g2 : a.tmps[2]?.getD undef = .pointer (some ⟨w.heap.size, 0, none⟩) := by rw [← Array.getD_eq_getD_getElem?]; exact e2
      refine op_val (.pointer (some ⟨w.heap.size, 7, none⟩)) ?_ hC (Below.refl _ _) (by intro d hd; cases hd; exact rfl)
      (clear hV hI hC; go_simp <;> (first | rfl | simp | (rw [IntKind.wrap_i64]; omega)))
    case o10 =>
      intro Q a w2 hC hV hI
      have e9 : a.eval (.tmp 9) = .pointer (some ⟨w.heap.size, 7, none⟩) := hV 9 (by simp [Op.operands]) (by kernel_rfl)
      have f9 : a.tmps.getD 9 undef = .pointer (some ⟨w.heap.size, 7, none⟩) := e9
      have g9 : a.tmps[9]?.getD undef = .pointer (some ⟨w.heap.size, 7, none⟩) := by rw [← Array.getD_eq_getD_getElem?]; exact e9
      have hK := KC.out w2 hC
      refine op_val (.string d) ?_ hC (Below.refl _ _) (by intro d hd; cases hd; exact rfl)
      (clear hV hI hC; go_simp <;> (first | rfl | simp | (rw [IntKind.wrap_i64]; omega)))
    case o11 =>
      intro Q a w2 hC hV hI
      have e10 : a.eval (.tmp 10) = .string d := hV 10 (by simp [Op.operands, Call.operands]) (by kernel_rfl)
      have f10 : a.tmps.getD 10 undef = .string d := e10
      have g10 : a.tmps[10]?.getD undef = .string d := by rw [← Array.getD_eq_getD_getElem?]; exact e10
      refine op_val (.int .i64 (d.size : Int)) ?_ hC (Below.refl _ _) (by intro d hd; cases hd; exact rfl)
      (clear hV hI hC; go_simp <;> (first | rfl | simp | (rw [IntKind.wrap_i64]; omega)))
    case o12 =>
      intro Q a w2 hC hV hI
      have e2 : a.eval (.tmp 2) = .pointer (some ⟨w.heap.size, 0, none⟩) := (hI 2 (by simp [Op.operands]) (by kernel_rfl)).trans rfl
      have f2 : a.tmps.getD 2 undef = .pointer (some ⟨w.heap.size, 0, none⟩) := e2
      have g2 : a.tmps[2]?.getD undef = .pointer (some ⟨w.heap.size, 0, none⟩) := by rw [← Array.getD_eq_getD_getElem?]; exact e2
      refine op_val (.pointer (some ⟨w.heap.size, 6, none⟩)) ?_ hC (Below.refl _ _) (by intro d hd; cases hd; exact rfl)
      (clear hV hI hC; go_simp <;> (first | rfl | simp | (rw [IntKind.wrap_i64]; omega)))
    case o13 =>
      intro Q a w2 hC hV hI
      have e12 : a.eval (.tmp 12) = .pointer (some ⟨w.heap.size, 6, none⟩) := hV 12 (by simp [Op.operands]) (by kernel_rfl)
      have f12 : a.tmps.getD 12 undef = .pointer (some ⟨w.heap.size, 6, none⟩) := e12
      have g12 : a.tmps[12]?.getD undef = .pointer (some ⟨w.heap.size, 6, none⟩) := by rw [← Array.getD_eq_getD_getElem?]; exact e12
      have hK := KC.out w2 hC
      refine op_val (.string p) ?_ hC (Below.refl _ _) (by intro d hd; cases hd; exact rfl)
      (clear hV hI hC; go_simp <;> (first | rfl | simp | (rw [IntKind.wrap_i64]; omega)))
    case o14 =>
      intro Q a w2 hC hV hI
      have e13 : a.eval (.tmp 13) = .string p := hV 13 (by simp [Op.operands, Call.operands]) (by kernel_rfl)
      have f13 : a.tmps.getD 13 undef = .string p := e13
      have g13 : a.tmps[13]?.getD undef = .string p := by rw [← Array.getD_eq_getD_getElem?]; exact e13
      refine op_val (.int .i64 (p.size : Int)) ?_ hC (Below.refl _ _) (by intro d hd; cases hd; exact rfl)
      (clear hV hI hC; go_simp <;> (first | rfl | simp | (rw [IntKind.wrap_i64]; omega)))
    case o15 =>
      intro Q a w2 hC hV hI
      have e14 : a.eval (.tmp 14) = .int .i64 (p.size : Int) := hV 14 (by simp [Op.operands]) (by kernel_rfl)
      have f14 : a.tmps.getD 14 undef = .int .i64 (p.size : Int) := e14
      have g14 : a.tmps[14]?.getD undef = .int .i64 (p.size : Int) := by rw [← Array.getD_eq_getD_getElem?]; exact e14
      have q9 := add_i64 (P := Tryz.prog) (a := (p.size : Int)) (b := 1) w2 3 (by omega) (by omega)
      refine op_val (.int .i64 ((p.size : Int) + 1)) ?_ hC (Below.refl _ _) (by intro d hd; cases hd; exact rfl)
      (clear hV hI hC; go_simp <;> (first | rfl | simp | (rw [IntKind.wrap_i64]; omega)))
    case o16 =>
      intro Q a w2 hC hV hI
      have e2 : a.eval (.tmp 2) = .pointer (some ⟨w.heap.size, 0, none⟩) := (hI 2 (by simp [Op.operands]) (by kernel_rfl)).trans rfl
      have f2 : a.tmps.getD 2 undef = .pointer (some ⟨w.heap.size, 0, none⟩) := e2
      have g2 : a.tmps[2]?.getD undef = .pointer (some ⟨w.heap.size, 0, none⟩) := by rw [← Array.getD_eq_getD_getElem?]; exact e2
      refine op_val (.pointer (some ⟨w.heap.size, 7, none⟩)) ?_ hC (Below.refl _ _) (by intro d hd; cases hd; exact rfl)
      (clear hV hI hC; go_simp <;> (first | rfl | simp | (rw [IntKind.wrap_i64]; omega)))
    case o17 =>
      intro Q a w2 hC hV hI
      have e16 : a.eval (.tmp 16) = .pointer (some ⟨w.heap.size, 7, none⟩) := hV 16 (by simp [Op.operands]) (by kernel_rfl)
      have f16 : a.tmps.getD 16 undef = .pointer (some ⟨w.heap.size, 7, none⟩) := e16
      have g16 : a.tmps[16]?.getD undef = .pointer (some ⟨w.heap.size, 7, none⟩) := by rw [← Array.getD_eq_getD_getElem?]; exact e16
      have hK := KC.out w2 hC
      refine op_val (.string d) ?_ hC (Below.refl _ _) (by intro d hd; cases hd; exact rfl)
      (clear hV hI hC; go_simp <;> (first | rfl | simp | (rw [IntKind.wrap_i64]; omega)))
    case o18 =>
      intro Q a w2 hC hV hI
      have e1 : a.eval (.tmp 1) = .bool crc := (hI 1 (by simp [Op.operands]) (by kernel_rfl)).trans rfl
      have f1 : a.tmps.getD 1 undef = .bool crc := e1
      have g1 : a.tmps[1]?.getD undef = .bool crc := by rw [← Array.getD_eq_getD_getElem?]; exact e1
      refine op_val (.bool crc) ?_ hC (Below.refl _ _) (by intro d hd; cases hd; exact rfl)
      (clear hV hI hC; go_simp <;> (first | rfl | simp | (rw [IntKind.wrap_i64]; omega)))
    case o19 =>
      intro Q a w2 hC hV hI
      have e17 : a.eval (.tmp 17) = .string d := hV 17 (by simp [Op.operands, Call.operands]) (by kernel_rfl)
      have f17 : a.tmps.getD 17 undef = .string d := e17
      have g17 : a.tmps[17]?.getD undef = .string d := by rw [← Array.getD_eq_getD_getElem?]; exact e17
      have e18 : a.eval (.tmp 18) = .bool crc := hV 18 (by simp [Op.operands, Call.operands]) (by kernel_rfl)
      have f18 : a.tmps.getD 18 undef = .bool crc := e18
      have g18 : a.tmps[18]?.getD undef = .bool crc := by rw [← Array.getD_eq_getD_getElem?]; exact e18
      refine op_call (f := 97) (args := #[.string d, .bool crc]) (R := fun v y => v = .int .i64 sm ∧ w2 = y) ?_ ((HSm.out w2).mono ?_) ?_
      · (clear hV hI hC; go_simp <;> (first | rfl | simp | (rw [IntKind.wrap_i64]; omega)))
      · rintro e y ⟨rfl, rfl⟩; exact ⟨_, rfl, rfl, rfl⟩
      · rintro v y ⟨rfl, rfl⟩; exact ⟨hC, Below.refl _ _, by intro d hd; cases hd; exact rfl⟩
    case o20 =>
      intro Q a w2 hC hV hI
      have e8 : a.eval (.tmp 8) = .agg #[.int .i64 ino, .int .i64 mo, .int .i64 u1, .int .i64 gi, .int .i64 cn, .int .i64 t, .string p, .string d] := hV 8 (by simp [Op.operands]) (by kernel_rfl)
      have f8 : a.tmps.getD 8 undef = .agg #[.int .i64 ino, .int .i64 mo, .int .i64 u1, .int .i64 gi, .int .i64 cn, .int .i64 t, .string p, .string d] := e8
      have g8 : a.tmps[8]?.getD undef = .agg #[.int .i64 ino, .int .i64 mo, .int .i64 u1, .int .i64 gi, .int .i64 cn, .int .i64 t, .string p, .string d] := by rw [← Array.getD_eq_getD_getElem?]; exact e8
      have e11 : a.eval (.tmp 11) = .int .i64 (d.size : Int) := hV 11 (by simp [Op.operands]) (by kernel_rfl)
      have f11 : a.tmps.getD 11 undef = .int .i64 (d.size : Int) := e11
      have g11 : a.tmps[11]?.getD undef = .int .i64 (d.size : Int) := by rw [← Array.getD_eq_getD_getElem?]; exact e11
      have e15 : a.eval (.tmp 15) = .int .i64 ((p.size : Int) + 1) := hV 15 (by simp [Op.operands]) (by kernel_rfl)
      have f15 : a.tmps.getD 15 undef = .int .i64 ((p.size : Int) + 1) := e15
      have g15 : a.tmps[15]?.getD undef = .int .i64 ((p.size : Int) + 1) := by rw [← Array.getD_eq_getD_getElem?]; exact e15
      have e19 : a.eval (.tmp 19) = .int .i64 sm := hV 19 (by simp [Op.operands]) (by kernel_rfl)
      have f19 : a.tmps.getD 19 undef = .int .i64 sm := e19
      have g19 : a.tmps[19]?.getD undef = .int .i64 sm := by rw [← Array.getD_eq_getD_getElem?]; exact e19
      refine op_val (.agg #[.int .i64 ino, .int .i64 mo, .int .i64 u1, .int .i64 gi, .int .i64 cn, .int .i64 t, .string p, .string d, .int .i64 (d.size : Int), .int .i64 0, .int .i64 0, .int .i64 0, .int .i64 0, .int .i64 ((p.size : Int) + 1), .int .i64 sm]) ?_ hC (Below.refl _ _) (by intro d hd; cases hd; exact rfl)
      (clear hV hI hC; go_simp <;> (first | rfl | simp | (rw [IntKind.wrap_i64]; omega)))
    case o5 =>
      intro Q a w2 hC hV hI
      refine op_val (.pointer (some ⟨w2.heap.size, 0, none⟩)) (w' := w2.alloc (.cells #[.int .i64 0, .int .i64 0, .int .i64 0, .int .i64 0, .int .i64 0, .int .i64 0, .string ⟨#[]⟩, .string ⟨#[]⟩, .int .i64 0, .int .i64 0, .int .i64 0, .int .i64 0, .int .i64 0, .int .i64 0, .int .i64 0] 113)) ?_ (hC.alloc hC.size _) ((Below.refl _ _).alloc (Nat.le_refl _) _) ?_
      · (clear hV hI hC; go_simp <;> (first | rfl | simp | (rw [IntKind.wrap_i64]; omega)))
      · intro d hd; cases hd; exact ⟨w2.heap.size, rfl, hC.size, heap_lastG _ _⟩
  case hend =>
    intro f w2 hC hall
    simp only [List.take_succ_cons, List.take_zero, List.drop_succ_cons, List.drop_zero] at hall ⊢
    simp only [List.forall_mem_cons] at hall
    obtain ⟨h8, h9, h10, h11, h12, h13, h14, h15, h16, h17, h18, h19, h20, h5, _⟩ := hall
    replace h8 : f 8 = .agg #[.int .i64 ino, .int .i64 mo, .int .i64 u1, .int .i64 gi, .int .i64 cn, .int .i64 t, .string p, .string d] := h8 8 rfl
    replace h9 : f 9 = .pointer (some ⟨w.heap.size, 7, none⟩) := h9 9 rfl
    replace h10 : f 10 = .string d := h10 10 rfl
    replace h11 : f 11 = .int .i64 (d.size : Int) := h11 11 rfl
    replace h12 : f 12 = .pointer (some ⟨w.heap.size, 6, none⟩) := h12 12 rfl
    replace h13 : f 13 = .string p := h13 13 rfl
    replace h14 : f 14 = .int .i64 (p.size : Int) := h14 14 rfl
    replace h15 : f 15 = .int .i64 ((p.size : Int) + 1) := h15 15 rfl
    replace h16 : f 16 = .pointer (some ⟨w.heap.size, 7, none⟩) := h16 16 rfl
    replace h17 : f 17 = .string d := h17 17 rfl
    replace h18 : f 18 = .bool crc := h18 18 rfl
    replace h19 : f 19 = .int .i64 sm := h19 19 rfl
    replace h20 : f 20 = .agg #[.int .i64 ino, .int .i64 mo, .int .i64 u1, .int .i64 gi, .int .i64 cn, .int .i64 t, .string p, .string d, .int .i64 (d.size : Int), .int .i64 0, .int .i64 0, .int .i64 0, .int .i64 0, .int .i64 ((p.size : Int) + 1), .int .i64 sm] := h20 20 rfl
    obtain ⟨G5, hG5, hGB5, hGO5⟩ : ∃ G, f 5 = .pointer (some ⟨G, 0, none⟩) ∧ w1.heap.size ≤ G ∧ w2.heap[G]? = some (.cells #[.int .i64 0, .int .i64 0, .int .i64 0, .int .i64 0, .int .i64 0, .int .i64 0, .string ⟨#[]⟩, .string ⟨#[]⟩, .int .i64 0, .int .i64 0, .int .i64 0, .int .i64 0, .int .i64 0, .int .i64 0, .int .i64 0] 113 (0, 0)) := h5 5 rfl
    simp only [putAll, Act.put, List.setIfInBounds_toArray, List.set_cons_succ, List.set_cons_zero, h8, h9, h10, h11, h12, h13, h14, h15, h16, h17, h18, h19, h20, hG5]
    clear h8 h9 h10 h11 h12 h13 h14 h15 h16 h17 h18 h19 h20 hG5 h5
    have d0 : w2.cell? ⟨G5, 0, none⟩ = some (.int .i64 0) := by simp [World.cell?, hGO5]
    have d1 : w2.cell? ⟨G5, 1, none⟩ = some (.int .i64 0) := by simp [World.cell?, hGO5]
    have d2 : w2.cell? ⟨G5, 2, none⟩ = some (.int .i64 0) := by simp [World.cell?, hGO5]
    have d3 : w2.cell? ⟨G5, 3, none⟩ = some (.int .i64 0) := by simp [World.cell?, hGO5]
    have d4 : w2.cell? ⟨G5, 4, none⟩ = some (.int .i64 0) := by simp [World.cell?, hGO5]
    have d5 : w2.cell? ⟨G5, 5, none⟩ = some (.int .i64 0) := by simp [World.cell?, hGO5]
    have d6 : w2.cell? ⟨G5, 6, none⟩ = some (.string ⟨#[]⟩) := by simp [World.cell?, hGO5]
    have d7 : w2.cell? ⟨G5, 7, none⟩ = some (.string ⟨#[]⟩) := by simp [World.cell?, hGO5]
    have d8 : w2.cell? ⟨G5, 8, none⟩ = some (.int .i64 0) := by simp [World.cell?, hGO5]
    have d9 : w2.cell? ⟨G5, 9, none⟩ = some (.int .i64 0) := by simp [World.cell?, hGO5]
    have d10 : w2.cell? ⟨G5, 10, none⟩ = some (.int .i64 0) := by simp [World.cell?, hGO5]
    have d11 : w2.cell? ⟨G5, 11, none⟩ = some (.int .i64 0) := by simp [World.cell?, hGO5]
    have d12 : w2.cell? ⟨G5, 12, none⟩ = some (.int .i64 0) := by simp [World.cell?, hGO5]
    have d13 : w2.cell? ⟨G5, 13, none⟩ = some (.int .i64 0) := by simp [World.cell?, hGO5]
    have d14 : w2.cell? ⟨G5, 14, none⟩ = some (.int .i64 0) := by simp [World.cell?, hGO5]
    have f0 : w2.frozen? ⟨G5, 0, none⟩ = false := by simp [World.frozen?, hGO5]
    have f1 : w2.frozen? ⟨G5, 1, none⟩ = false := by simp [World.frozen?, hGO5]
    have f2 : w2.frozen? ⟨G5, 2, none⟩ = false := by simp [World.frozen?, hGO5]
    have f3 : w2.frozen? ⟨G5, 3, none⟩ = false := by simp [World.frozen?, hGO5]
    have f4 : w2.frozen? ⟨G5, 4, none⟩ = false := by simp [World.frozen?, hGO5]
    have f5 : w2.frozen? ⟨G5, 5, none⟩ = false := by simp [World.frozen?, hGO5]
    have f6 : w2.frozen? ⟨G5, 6, none⟩ = false := by simp [World.frozen?, hGO5]
    have f7 : w2.frozen? ⟨G5, 7, none⟩ = false := by simp [World.frozen?, hGO5]
    have f8 : w2.frozen? ⟨G5, 8, none⟩ = false := by simp [World.frozen?, hGO5]
    have f9 : w2.frozen? ⟨G5, 9, none⟩ = false := by simp [World.frozen?, hGO5]
    have f10 : w2.frozen? ⟨G5, 10, none⟩ = false := by simp [World.frozen?, hGO5]
    have f11 : w2.frozen? ⟨G5, 11, none⟩ = false := by simp [World.frozen?, hGO5]
    have f12 : w2.frozen? ⟨G5, 12, none⟩ = false := by simp [World.frozen?, hGO5]
    have f13 : w2.frozen? ⟨G5, 13, none⟩ = false := by simp [World.frozen?, hGO5]
    have f14 : w2.frozen? ⟨G5, 14, none⟩ = false := by simp [World.frozen?, hGO5]
    have hR3 := (heap_setN (i := 14) (v := .int .i64 sm) (heap_setN (i := 13) (v := .int .i64 ((p.size : Int) + 1)) (heap_setN (i := 12) (v := .int .i64 0) (heap_setN (i := 11) (v := .int .i64 0) (heap_setN (i := 10) (v := .int .i64 0) (heap_setN (i := 9) (v := .int .i64 0) (heap_setN (i := 8) (v := .int .i64 (d.size : Int)) (heap_setN (i := 7) (v := .string d) (heap_setN (i := 6) (v := .string p) (heap_setN (i := 5) (v := .int .i64 t) (heap_setN (i := 4) (v := .int .i64 cn) (heap_setN (i := 3) (v := .int .i64 gi) (heap_setN (i := 2) (v := .int .i64 u1) (heap_setN (i := 1) (v := .int .i64 mo) (heap_setN (i := 0) (v := .int .i64 ino) hGO5)))))))))))))))
    have B3 := (((((((((((((((hC.setCell (p := ⟨G5, 0, none⟩) hGB5 (.int .i64 ino)).setCell (p := ⟨G5, 1, none⟩) hGB5 (.int .i64 mo)).setCell (p := ⟨G5, 2, none⟩) hGB5 (.int .i64 u1)).setCell (p := ⟨G5, 3, none⟩) hGB5 (.int .i64 gi)).setCell (p := ⟨G5, 4, none⟩) hGB5 (.int .i64 cn)).setCell (p := ⟨G5, 5, none⟩) hGB5 (.int .i64 t)).setCell (p := ⟨G5, 6, none⟩) hGB5 (.string p)).setCell (p := ⟨G5, 7, none⟩) hGB5 (.string d)).setCell (p := ⟨G5, 8, none⟩) hGB5 (.int .i64 (d.size : Int))).setCell (p := ⟨G5, 9, none⟩) hGB5 (.int .i64 0)).setCell (p := ⟨G5, 10, none⟩) hGB5 (.int .i64 0)).setCell (p := ⟨G5, 11, none⟩) hGB5 (.int .i64 0)).setCell (p := ⟨G5, 12, none⟩) hGB5 (.int .i64 0)).setCell (p := ⟨G5, 13, none⟩) hGB5 (.int .i64 ((p.size : Int) + 1))).setCell (p := ⟨G5, 14, none⟩) hGB5 (.int .i64 sm))
    clear hGO5 KC hC
    go_upto_region 2 with fail
    clear d0 f0 d1 f1 d2 f2 d3 f3 d4 f4 d5 f5 d6 f6 d7 f7 d8 f8 d9 f9 d10 f10 d11 f11 d12 f12 d13 f13 d14 f14
    generalize World.setCell _ ⟨G5, 14, none⟩ _ = w3 at hR3 B3 ⊢
    simp only [List.setIfInBounds_toArray, List.set_cons_succ, List.set_cons_zero] at hR3
    have XC3 := Lib.hid (XC.out.below B3 (by omega))
    have B4 := Lib.hid (B1.out.trans (B3.mono (by omega)))
    have HD := Lib.hid (HDg.out G5 w3 (Array.getElem?_eq_some_iff.1 hR3).1 (HNs.out w3 G5 hR3) (HT.out.below B4.out))
    have hG3 := (Array.getElem?_eq_some_iff.1 hR3).1
    have hs3 := B3.size
    have XH := Lib.hid hR3
    clear hR3 B3 XC B1 HDg HNs HT HSm
    cases ok with
    | false =>
      have HF : Hid (r = ⟨#[]⟩) := Lib.hid (HV1.out rfl)
      rw [HD1.out rfl] at HD
      clear HV1 HV2 HD1 HD2 HMg HN1 HN2 XH XC3
      go_wp2_with fail
      refine HD.out.mono ?_
      rintro e w5 ⟨rfl, hb⟩
      have B5 := Lib.hid (B4.out.trans (hb.mono B4.out.size))
      clear hb B4 HD
      go_wp2_with fail
      go_ret
      exact ⟨by rw [HF.out]; rfl, B5.out⟩
    | true =>
      have HF := Lib.hid (HV2.out rfl)
      rw [HD2.out rfl] at HD
      clear HV1 HV2 HD1 HD2
      go_wp2_with fail
      refine HD.out.mono ?_
      rintro e w5 ⟨rfl, hb⟩
      have XC5 := Lib.hid (XC3.out.below hb (by omega))
      have XH5 := Lib.hid ((hb.block G5 hG3).trans XH.out)
      have B5 := Lib.hid (B4.out.trans (hb.mono B4.out.size))
      have hs5 := hb.size
      clear hb B4 HD XC3 XH
      go_upto_region 5 with fail
      have KC : Hid (∀ w', Below w5.heap.size w5 w' → w'.cell? ⟨w.heap.size, 6, none⟩ = some (.string p) ∧ w'.cell? ⟨w.heap.size, 7, none⟩ = some (.string d) ∧ w'.cell? ⟨G5, 8, none⟩ = some (.int .i64 (d.size : Int)) ∧ w'.cell? ⟨G5, 13, none⟩ = some (.int .i64 ((p.size : Int) + 1))) := Lib.hid (fun w' hb => by
        obtain ⟨k0, k1, k2, k3, k4, k5, k6, k7⟩ := (XC5.out.below hb (by omega)).at.zero
        have h9 := (hb.block G5 (by omega)).trans XH5.out
        exact ⟨k6, k7, by simp [World.cell?, h9], by simp [World.cell?, h9]⟩)
      obtain ⟨x30, hx30⟩ : ∃ x : ByteArray, x = mg ++ hx := ⟨_, rfl⟩
      obtain ⟨x33, hx33⟩ : ∃ x : ByteArray, x = x30 ++ p := ⟨_, rfl⟩
      obtain ⟨x34, hx34⟩ : ∃ x : ByteArray, x = x33 ++ ⟨#[0]⟩ := ⟨_, rfl⟩
      obtain ⟨x39, hx39⟩ : ∃ x : ByteArray, x = x34 ++ nu1 := ⟨_, rfl⟩
      obtain ⟨x42, hx42⟩ : ∃ x : ByteArray, x = x39 ++ d := ⟨_, rfl⟩
      obtain ⟨x46, hx46⟩ : ∃ x : ByteArray, x = x42 ++ nu2 := ⟨_, rfl⟩
      have zx30 : x30.size ≤ 110 := by rw [hx30, ByteArray.size_append]; omega
      have zx33 : x33.size ≤ 4194414 := by rw [hx33, ByteArray.size_append]; omega
      have zx34 : x34.size ≤ 4194415 := by rw [hx34, ByteArray.size_append]; omega
      have zx39 : x39.size ≤ 4194418 := by rw [hx39, ByteArray.size_append]; omega
      have zx42 : x42.size ≤ 8388722 := by rw [hx42, ByteArray.size_append]; omega
      have zx46 : x46.size ≤ 8388725 := by rw [hx46, ByteArray.size_append]; omega
      have HA30 : Hid (∀ w, (Op.stringOp .add mg hx).run Tryz.prog w = .ok (.string x30) w) := Lib.hid (fun w => by rw [hx30]; exact run_string_add_sum w _ _ (by omega))
      have HA33 : Hid (∀ w, (Op.stringOp .add x30 p).run Tryz.prog w = .ok (.string x33) w) := Lib.hid (fun w => by rw [hx33]; exact run_string_add_sum w _ _ (by omega))
      have HA34 : Hid (∀ w, (Op.stringOp .add x33 ⟨#[0]⟩).run Tryz.prog w = .ok (.string x34) w) := Lib.hid (fun w => by rw [hx34]; exact run_string_add_sum w _ _ (by omega))
      have HA39 : Hid (∀ w, (Op.stringOp .add x34 nu1).run Tryz.prog w = .ok (.string x39) w) := Lib.hid (fun w => by rw [hx39]; exact run_string_add_sum w _ _ (by omega))
      have HA42 : Hid (∀ w, (Op.stringOp .add x39 d).run Tryz.prog w = .ok (.string x42) w) := Lib.hid (fun w => by rw [hx42]; exact run_string_add_sum w _ _ (by omega))
      have HA46 : Hid (∀ w, (Op.stringOp .add x42 nu2).run Tryz.prog w = .ok (.string x46) w) := Lib.hid (fun w => by rw [hx46]; exact run_string_add_sum w _ _ (by omega))
      have HX30 := Lib.hid hx30
      have HX33 := Lib.hid hx33
      have HX34 := Lib.hid hx34
      have HX39 := Lib.hid hx39
      have HX42 := Lib.hid hx42
      have HX46 := Lib.hid hx46
      clear hx30 hx33 hx34 hx39 hx42 hx46
      refine wp_region_inv (by kernel_rfl) (fun w' => Below w5.heap.size w5 w') (fun x y => Below x.heap.size x y) (fun dq vq _ => match dq with | 27 => vq = .bool crc | 28 => vq = .string mg | 29 => vq = .string hx | 30 => vq = .string x30 | 31 => vq = .pointer (some ⟨w.heap.size, 6, none⟩) | 32 => vq = .string p | 33 => vq = .string x33 | 34 => vq = .string x34 | 35 => vq = .pointer (some ⟨G5, 13, none⟩) | 36 => vq = .int .i64 ((p.size : Int) + 1) | 37 => vq = .int .i64 (110 + ((p.size : Int) + 1)) | 38 => vq = .string nu1 | 39 => vq = .string x39 | 40 => vq = .pointer (some ⟨w.heap.size, 7, none⟩) | 41 => vq = .string d | 42 => vq = .string x42 | 43 => vq = .pointer (some ⟨G5, 8, none⟩) | 44 => vq = .int .i64 (d.size : Int) | 45 => vq = .string nu2 | 46 => vq = .string x46 | 4 => vq = .string x46 | _ => True) (by kernel_rfl) ((Below.refl _ _).drew) (fun _ _ _ _ _ _ h => h) ?hops ?hend
      case hops =>
        simp only [List.forall_mem_cons]
        refine ⟨?o27, ?o28, ?o29, ?o30, ?o31, ?o32, ?o33, ?o34, ?o35, ?o36, ?o37, ?o38, ?o39, ?o40, ?o41, ?o42, ?o43, ?o44, ?o45, ?o46, ?o4, fun _ h => by cases h⟩
        case o27 =>
          intro Q a w2 hC hV hI
          have e1 : a.eval (.tmp 1) = .bool crc := (hI 1 (by simp [Op.operands]) (by kernel_rfl)).trans rfl
          have f1 : a.tmps.getD 1 undef = .bool crc := e1
          have g1 : a.tmps[1]?.getD undef = .bool crc := by rw [← Array.getD_eq_getD_getElem?]; exact e1
          refine op_val (.bool crc) ?_ hC (Below.refl _ _) (by intro d hd; cases hd; rfl)
          (clear hV hI hC; go_simp <;> (first | rfl | simp | (rw [IntKind.wrap_i64]; omega)))
        case o28 =>
          intro Q a w2 hC hV hI
          have e27 : a.eval (.tmp 27) = .bool crc := hV 27 (by simp [Op.operands, Call.operands]) (by kernel_rfl)
          have f27 : a.tmps.getD 27 undef = .bool crc := e27
          have g27 : a.tmps[27]?.getD undef = .bool crc := by rw [← Array.getD_eq_getD_getElem?]; exact e27
          refine op_call (f := 99) (args := #[.bool crc]) (R := fun v y => v = .string mg ∧ w2 = y) ?_ ((HMg.out w2).mono ?_) ?_
          · (clear hV hI hC; go_simp <;> (first | rfl | simp | (rw [IntKind.wrap_i64]; omega)))
          · rintro e y ⟨rfl, rfl⟩; exact ⟨_, rfl, rfl, rfl⟩
          · rintro v y ⟨rfl, rfl⟩; exact ⟨hC, Below.refl _ _, by intro d hd; cases hd; rfl⟩
        case o29 =>
          intro Q a w2 hC hV hI
          have e6 : a.eval (.tmp 6) = .string hx := (hI 6 (by simp [Op.operands]) (by kernel_rfl)).trans rfl
          have f6 : a.tmps.getD 6 undef = .string hx := e6
          have g6 : a.tmps[6]?.getD undef = .string hx := by rw [← Array.getD_eq_getD_getElem?]; exact e6
          refine op_val (.string hx) ?_ hC (Below.refl _ _) (by intro d hd; cases hd; rfl)
          (clear hV hI hC; go_simp <;> (first | rfl | simp | (rw [IntKind.wrap_i64]; omega)))
        case o30 =>
          intro Q a w2 hC hV hI
          have e28 : a.eval (.tmp 28) = .string mg := hV 28 (by simp [Op.operands]) (by kernel_rfl)
          have f28 : a.tmps.getD 28 undef = .string mg := e28
          have g28 : a.tmps[28]?.getD undef = .string mg := by rw [← Array.getD_eq_getD_getElem?]; exact e28
          have e29 : a.eval (.tmp 29) = .string hx := hV 29 (by simp [Op.operands]) (by kernel_rfl)
          have f29 : a.tmps.getD 29 undef = .string hx := e29
          have g29 : a.tmps[29]?.getD undef = .string hx := by rw [← Array.getD_eq_getD_getElem?]; exact e29
          refine op_val (.string x30) ?_ hC (Below.refl _ _) (by intro d hd; cases hd; rfl)
          have q := HA30.out w2
          (clear hV hI hC; go_simp <;> (first | rfl | simp | (rw [IntKind.wrap_i64]; omega)))
        case o31 =>
          intro Q a w2 hC hV hI
          have e2 : a.eval (.tmp 2) = .pointer (some ⟨w.heap.size, 0, none⟩) := (hI 2 (by simp [Op.operands]) (by kernel_rfl)).trans rfl
          have f2 : a.tmps.getD 2 undef = .pointer (some ⟨w.heap.size, 0, none⟩) := e2
          have g2 : a.tmps[2]?.getD undef = .pointer (some ⟨w.heap.size, 0, none⟩) := by rw [← Array.getD_eq_getD_getElem?]; exact e2
          refine op_val (.pointer (some ⟨w.heap.size, 6, none⟩)) ?_ hC (Below.refl _ _) (by intro d hd; cases hd; rfl)
          (clear hV hI hC; go_simp <;> (first | rfl | simp | (rw [IntKind.wrap_i64]; omega)))
        case o32 =>
          intro Q a w2 hC hV hI
          have e31 : a.eval (.tmp 31) = .pointer (some ⟨w.heap.size, 6, none⟩) := hV 31 (by simp [Op.operands]) (by kernel_rfl)
          have f31 : a.tmps.getD 31 undef = .pointer (some ⟨w.heap.size, 6, none⟩) := e31
          have g31 : a.tmps[31]?.getD undef = .pointer (some ⟨w.heap.size, 6, none⟩) := by rw [← Array.getD_eq_getD_getElem?]; exact e31
          have hK := KC.out w2 hC
          refine op_val (.string p) ?_ hC (Below.refl _ _) (by intro d hd; cases hd; rfl)
          (clear hV hI hC; go_simp <;> (first | rfl | simp | (rw [IntKind.wrap_i64]; omega)))
        case o33 =>
          intro Q a w2 hC hV hI
          have e30 : a.eval (.tmp 30) = .string x30 := hV 30 (by simp [Op.operands]) (by kernel_rfl)
          have f30 : a.tmps.getD 30 undef = .string x30 := e30
          have g30 : a.tmps[30]?.getD undef = .string x30 := by rw [← Array.getD_eq_getD_getElem?]; exact e30
          have e32 : a.eval (.tmp 32) = .string p := hV 32 (by simp [Op.operands]) (by kernel_rfl)
          have f32 : a.tmps.getD 32 undef = .string p := e32
          have g32 : a.tmps[32]?.getD undef = .string p := by rw [← Array.getD_eq_getD_getElem?]; exact e32
          refine op_val (.string x33) ?_ hC (Below.refl _ _) (by intro d hd; cases hd; rfl)
          have q := HA33.out w2
          (clear hV hI hC; go_simp <;> (first | rfl | simp | (rw [IntKind.wrap_i64]; omega)))
        case o34 =>
          intro Q a w2 hC hV hI
          have e33 : a.eval (.tmp 33) = .string x33 := hV 33 (by simp [Op.operands]) (by kernel_rfl)
          have f33 : a.tmps.getD 33 undef = .string x33 := e33
          have g33 : a.tmps[33]?.getD undef = .string x33 := by rw [← Array.getD_eq_getD_getElem?]; exact e33
          refine op_val (.string x34) ?_ hC (Below.refl _ _) (by intro d hd; cases hd; rfl)
          have q := HA34.out w2
          (clear hV hI hC; go_simp <;> (first | rfl | simp | (rw [IntKind.wrap_i64]; omega)))
        case o35 =>
          intro Q a w2 hC hV hI
          have e5 : a.eval (.tmp 5) = .pointer (some ⟨G5, 0, none⟩) := (hI 5 (by simp [Op.operands]) (by kernel_rfl)).trans rfl
          have f5 : a.tmps.getD 5 undef = .pointer (some ⟨G5, 0, none⟩) := e5
          have g5 : a.tmps[5]?.getD undef = .pointer (some ⟨G5, 0, none⟩) := by rw [← Array.getD_eq_getD_getElem?]; exact e5
          refine op_val (.pointer (some ⟨G5, 13, none⟩)) ?_ hC (Below.refl _ _) (by intro d hd; cases hd; rfl)
          (clear hV hI hC; go_simp <;> (first | rfl | simp | (rw [IntKind.wrap_i64]; omega)))
        case o36 =>
          intro Q a w2 hC hV hI
          have e35 : a.eval (.tmp 35) = .pointer (some ⟨G5, 13, none⟩) := hV 35 (by simp [Op.operands]) (by kernel_rfl)
          have f35 : a.tmps.getD 35 undef = .pointer (some ⟨G5, 13, none⟩) := e35
          have g35 : a.tmps[35]?.getD undef = .pointer (some ⟨G5, 13, none⟩) := by rw [← Array.getD_eq_getD_getElem?]; exact e35
          have hK := KC.out w2 hC
          refine op_val (.int .i64 ((p.size : Int) + 1)) ?_ hC (Below.refl _ _) (by intro d hd; cases hd; rfl)
          (clear hV hI hC; go_simp <;> (first | rfl | simp | (rw [IntKind.wrap_i64]; omega)))
        case o37 =>
          intro Q a w2 hC hV hI
          have e36 : a.eval (.tmp 36) = .int .i64 ((p.size : Int) + 1) := hV 36 (by simp [Op.operands]) (by kernel_rfl)
          have f36 : a.tmps.getD 36 undef = .int .i64 ((p.size : Int) + 1) := e36
          have g36 : a.tmps[36]?.getD undef = .int .i64 ((p.size : Int) + 1) := by rw [← Array.getD_eq_getD_getElem?]; exact e36
          have q9 := add_i64 (P := Tryz.prog) (a := 110) (b := (p.size : Int) + 1) w2 3 (by omega) (by omega)
          refine op_val (.int .i64 (110 + ((p.size : Int) + 1))) ?_ hC (Below.refl _ _) (by intro d hd; cases hd; rfl)
          (clear hV hI hC; go_simp <;> (first | rfl | simp | (rw [IntKind.wrap_i64]; omega)))
        case o38 =>
          intro Q a w2 hC hV hI
          have e37 : a.eval (.tmp 37) = .int .i64 (110 + ((p.size : Int) + 1)) := hV 37 (by simp [Op.operands, Call.operands]) (by kernel_rfl)
          have f37 : a.tmps.getD 37 undef = .int .i64 (110 + ((p.size : Int) + 1)) := e37
          have g37 : a.tmps[37]?.getD undef = .int .i64 (110 + ((p.size : Int) + 1)) := by rw [← Array.getD_eq_getD_getElem?]; exact e37
          refine op_call (f := 100) (args := #[.int .i64 (110 + ((p.size : Int) + 1))]) (R := fun v y => v = .string nu1 ∧ w2 = y) ?_ ((HN1.out w2).mono ?_) ?_
          · (clear hV hI hC; go_simp <;> (first | rfl | simp | (rw [IntKind.wrap_i64]; omega)))
          · rintro e y ⟨rfl, rfl⟩; exact ⟨_, rfl, rfl, rfl⟩
          · rintro v y ⟨rfl, rfl⟩; exact ⟨hC, Below.refl _ _, by intro d hd; cases hd; rfl⟩
        case o39 =>
          intro Q a w2 hC hV hI
          have e34 : a.eval (.tmp 34) = .string x34 := hV 34 (by simp [Op.operands]) (by kernel_rfl)
          have f34 : a.tmps.getD 34 undef = .string x34 := e34
          have g34 : a.tmps[34]?.getD undef = .string x34 := by rw [← Array.getD_eq_getD_getElem?]; exact e34
          have e38 : a.eval (.tmp 38) = .string nu1 := hV 38 (by simp [Op.operands]) (by kernel_rfl)
          have f38 : a.tmps.getD 38 undef = .string nu1 := e38
          have g38 : a.tmps[38]?.getD undef = .string nu1 := by rw [← Array.getD_eq_getD_getElem?]; exact e38
          refine op_val (.string x39) ?_ hC (Below.refl _ _) (by intro d hd; cases hd; rfl)
          have q := HA39.out w2
          (clear hV hI hC; go_simp <;> (first | rfl | simp | (rw [IntKind.wrap_i64]; omega)))
        case o40 =>
          intro Q a w2 hC hV hI
          have e2 : a.eval (.tmp 2) = .pointer (some ⟨w.heap.size, 0, none⟩) := (hI 2 (by simp [Op.operands]) (by kernel_rfl)).trans rfl
          have f2 : a.tmps.getD 2 undef = .pointer (some ⟨w.heap.size, 0, none⟩) := e2
          have g2 : a.tmps[2]?.getD undef = .pointer (some ⟨w.heap.size, 0, none⟩) := by rw [← Array.getD_eq_getD_getElem?]; exact e2
          refine op_val (.pointer (some ⟨w.heap.size, 7, none⟩)) ?_ hC (Below.refl _ _) (by intro d hd; cases hd; rfl)
          (clear hV hI hC; go_simp <;> (first | rfl | simp | (rw [IntKind.wrap_i64]; omega)))
        case o41 =>
          intro Q a w2 hC hV hI
          have e40 : a.eval (.tmp 40) = .pointer (some ⟨w.heap.size, 7, none⟩) := hV 40 (by simp [Op.operands]) (by kernel_rfl)
          have f40 : a.tmps.getD 40 undef = .pointer (some ⟨w.heap.size, 7, none⟩) := e40
          have g40 : a.tmps[40]?.getD undef = .pointer (some ⟨w.heap.size, 7, none⟩) := by rw [← Array.getD_eq_getD_getElem?]; exact e40
          have hK := KC.out w2 hC
          refine op_val (.string d) ?_ hC (Below.refl _ _) (by intro d hd; cases hd; rfl)
          (clear hV hI hC; go_simp <;> (first | rfl | simp | (rw [IntKind.wrap_i64]; omega)))
        case o42 =>
          intro Q a w2 hC hV hI
          have e39 : a.eval (.tmp 39) = .string x39 := hV 39 (by simp [Op.operands]) (by kernel_rfl)
          have f39 : a.tmps.getD 39 undef = .string x39 := e39
          have g39 : a.tmps[39]?.getD undef = .string x39 := by rw [← Array.getD_eq_getD_getElem?]; exact e39
          have e41 : a.eval (.tmp 41) = .string d := hV 41 (by simp [Op.operands]) (by kernel_rfl)
          have f41 : a.tmps.getD 41 undef = .string d := e41
          have g41 : a.tmps[41]?.getD undef = .string d := by rw [← Array.getD_eq_getD_getElem?]; exact e41
          refine op_val (.string x42) ?_ hC (Below.refl _ _) (by intro d hd; cases hd; rfl)
          have q := HA42.out w2
          (clear hV hI hC; go_simp <;> (first | rfl | simp | (rw [IntKind.wrap_i64]; omega)))
        case o43 =>
          intro Q a w2 hC hV hI
          have e5 : a.eval (.tmp 5) = .pointer (some ⟨G5, 0, none⟩) := (hI 5 (by simp [Op.operands]) (by kernel_rfl)).trans rfl
          have f5 : a.tmps.getD 5 undef = .pointer (some ⟨G5, 0, none⟩) := e5
          have g5 : a.tmps[5]?.getD undef = .pointer (some ⟨G5, 0, none⟩) := by rw [← Array.getD_eq_getD_getElem?]; exact e5
          refine op_val (.pointer (some ⟨G5, 8, none⟩)) ?_ hC (Below.refl _ _) (by intro d hd; cases hd; rfl)
          (clear hV hI hC; go_simp <;> (first | rfl | simp | (rw [IntKind.wrap_i64]; omega)))
        case o44 =>
          intro Q a w2 hC hV hI
          have e43 : a.eval (.tmp 43) = .pointer (some ⟨G5, 8, none⟩) := hV 43 (by simp [Op.operands]) (by kernel_rfl)
          have f43 : a.tmps.getD 43 undef = .pointer (some ⟨G5, 8, none⟩) := e43
          have g43 : a.tmps[43]?.getD undef = .pointer (some ⟨G5, 8, none⟩) := by rw [← Array.getD_eq_getD_getElem?]; exact e43
          have hK := KC.out w2 hC
          refine op_val (.int .i64 (d.size : Int)) ?_ hC (Below.refl _ _) (by intro d hd; cases hd; rfl)
          (clear hV hI hC; go_simp <;> (first | rfl | simp | (rw [IntKind.wrap_i64]; omega)))
        case o45 =>
          intro Q a w2 hC hV hI
          have e44 : a.eval (.tmp 44) = .int .i64 (d.size : Int) := hV 44 (by simp [Op.operands, Call.operands]) (by kernel_rfl)
          have f44 : a.tmps.getD 44 undef = .int .i64 (d.size : Int) := e44
          have g44 : a.tmps[44]?.getD undef = .int .i64 (d.size : Int) := by rw [← Array.getD_eq_getD_getElem?]; exact e44
          refine op_call (f := 100) (args := #[.int .i64 (d.size : Int)]) (R := fun v y => v = .string nu2 ∧ w2 = y) ?_ ((HN2.out w2).mono ?_) ?_
          · (clear hV hI hC; go_simp <;> (first | rfl | simp | (rw [IntKind.wrap_i64]; omega)))
          · rintro e y ⟨rfl, rfl⟩; exact ⟨_, rfl, rfl, rfl⟩
          · rintro v y ⟨rfl, rfl⟩; exact ⟨hC, Below.refl _ _, by intro d hd; cases hd; rfl⟩
        case o46 =>
          intro Q a w2 hC hV hI
          have e42 : a.eval (.tmp 42) = .string x42 := hV 42 (by simp [Op.operands]) (by kernel_rfl)
          have f42 : a.tmps.getD 42 undef = .string x42 := e42
          have g42 : a.tmps[42]?.getD undef = .string x42 := by rw [← Array.getD_eq_getD_getElem?]; exact e42
          have e45 : a.eval (.tmp 45) = .string nu2 := hV 45 (by simp [Op.operands]) (by kernel_rfl)
          have f45 : a.tmps.getD 45 undef = .string nu2 := e45
          have g45 : a.tmps[45]?.getD undef = .string nu2 := by rw [← Array.getD_eq_getD_getElem?]; exact e45
          refine op_val (.string x46) ?_ hC (Below.refl _ _) (by intro d hd; cases hd; rfl)
          have q := HA46.out w2
          (clear hV hI hC; go_simp <;> (first | rfl | simp | (rw [IntKind.wrap_i64]; omega)))
        case o4 =>
          intro Q a w2 hC hV hI
          have e46 : a.eval (.tmp 46) = .string x46 := hV 46 (by simp [Op.operands]) (by kernel_rfl)
          have f46 : a.tmps.getD 46 undef = .string x46 := e46
          have g46 : a.tmps[46]?.getD undef = .string x46 := by rw [← Array.getD_eq_getD_getElem?]; exact e46
          refine op_val (.string x46) ?_ hC (Below.refl _ _) (by intro d hd; cases hd; rfl)
          (clear hV hI hC; go_simp <;> (first | rfl | simp | (rw [IntKind.wrap_i64]; omega)))
      case hend =>
        intro f w6 hC hall
        clear HA30 HA33 HA34 HA39 HA42 HA46
        simp only [List.forall_mem_cons] at hall
        obtain ⟨h27, h28, h29, h30, h31, h32, h33, h34, h35, h36, h37, h38, h39, h40, h41, h42, h43, h44, h45, h46, h4, _⟩ := hall
        replace h27 : f 27 = .bool crc := h27 27 rfl
        replace h28 : f 28 = .string mg := h28 28 rfl
        replace h29 : f 29 = .string hx := h29 29 rfl
        replace h30 : f 30 = .string x30 := h30 30 rfl
        replace h31 : f 31 = .pointer (some ⟨w.heap.size, 6, none⟩) := h31 31 rfl
        replace h32 : f 32 = .string p := h32 32 rfl
        replace h33 : f 33 = .string x33 := h33 33 rfl
        replace h34 : f 34 = .string x34 := h34 34 rfl
        replace h35 : f 35 = .pointer (some ⟨G5, 13, none⟩) := h35 35 rfl
        replace h36 : f 36 = .int .i64 ((p.size : Int) + 1) := h36 36 rfl
        replace h37 : f 37 = .int .i64 (110 + ((p.size : Int) + 1)) := h37 37 rfl
        replace h38 : f 38 = .string nu1 := h38 38 rfl
        replace h39 : f 39 = .string x39 := h39 39 rfl
        replace h40 : f 40 = .pointer (some ⟨w.heap.size, 7, none⟩) := h40 40 rfl
        replace h41 : f 41 = .string d := h41 41 rfl
        replace h42 : f 42 = .string x42 := h42 42 rfl
        replace h43 : f 43 = .pointer (some ⟨G5, 8, none⟩) := h43 43 rfl
        replace h44 : f 44 = .int .i64 (d.size : Int) := h44 44 rfl
        replace h45 : f 45 = .string nu2 := h45 45 rfl
        replace h46 : f 46 = .string x46 := h46 46 rfl
        replace h4 : f 4 = .string x46 := h4 4 rfl
        simp only [putAll, Act.put, List.setIfInBounds_toArray, List.set_cons_succ, List.set_cons_zero, h27, h28, h29, h30, h31, h32, h33, h34, h35, h36, h37, h38, h39, h40, h41, h42, h43, h44, h45, h46, h4]
        clear h27 h28 h29 h30 h31 h32 h33 h34 h35 h36 h37 h38 h39 h40 h41 h42 h43 h44 h45 h46 h4
        have HXe : Hid (r = x46) := Lib.hid (by rw [HF.out, HX46.out, HX42.out, HX39.out, HX34.out, HX33.out, HX30.out])
        clear KC HF
        have B6 := B5.out.trans (hC.mono B5.out.size)
        go_wp2_with fail
        go_ret
        exact ⟨by rw [HXe.out]; rfl, B6⟩
end Go.Proofs.YtcnmbolmgifgfabGreatDoor

/- Contract of impl.Find (slices.IndexFunc with a function that holds the path). -/
namespace Go.Proofs.YtcnmbolmgifgfabGreatDoor
open Go.ChangeShapes Go.WideShapes Go.ChangeAt Go.RowKit Go.Deep Go.Shelf

theorem findPred (k : Int) (q l : ByteArray) (m u g t : Int) (us gr b : ByteArray) (p : ByteArray) (B : Nat) (w : World) (hB : B < w.heap.size) (hc : w.cell? ⟨B, 0, none⟩ = some (.string p)) :
    Calls Tryz.prog 183 #[.agg #[.int .i64 k, .string q, .string l, .int .i64 m, .int .i64 u, .int .i64 g, .int .i64 t, .string us, .string gr, .string b], .pointer (some ⟨B, 0, none⟩)] w fun e w' => e = .returned (.bool (q.toList == p.toList)) ∧ Below w.heap.size w w' := by
  have hne : B ≠ w.heap.size := by omega
  go_enter Tryz.func183, Tryz.ntmps183
  go_wp2
  all_goals (go_ret; exact ⟨by simp_all, (Below.refl _ w).alloc (Nat.le_refl _) _⟩)
theorem findIndex (L : List Ent) (p : ByteArray) (n g cap B : Nat) (w : World) (hn : n = L.length) (hm : n ≤ 4194304) (hg : g < w.heap.size) (h1 : RowE w g L) (hB : B < w.heap.size) (hc : w.cell? ⟨B, 0, none⟩ = some (.string p)) :
    Calls Tryz.prog 182 #[.slice (some ⟨g, 0, none⟩) n cap, .func (.func 183) #[] #[.pointer (some ⟨B, 0, none⟩)]] w fun e w' => e = .returned (.int .i64 (findv L p)) ∧ Below w.heap.size w w' := by
  have H1 := Lib.hid h1
  have HC := Lib.hid hc
  have HP := Lib.hid (fun k q l m u g t us gr b w hB hc => findPred k q l m u g t us gr b p B w hB hc)
  have HG : Hid (∀ i, i < n → ∃ e, L[i]? = some e) := Lib.hid (fun i hi => getE' (by omega))
  have HE : Hid (∀ i, n ≤ i → findFrom (L.drop i) p i = -1) := Lib.hid (fun i hi => findFrom_end L p i (by omega))
  have HD : Hid (findv L p = findFrom (L.drop 0) p 0) := Lib.hid rfl
  have eg : ∀ args w, (callFunc 183 args).run Tryz.prog w = .ok (.enter 183 args) w := enters_of Tryz.func183 (by kernel_rfl) rfl
  generalize findv L p = r at HD
  clear h1 hn hc
  go_enter Tryz.func182, Tryz.ntmps182
  go_wp2_with fail
  go_loopw [5, 8] (fun _ u wr => ∃ i : Nat, u = .int .i64 i ∧ i ≤ n ∧ r = findFrom (L.drop i) p i ∧ Below w.heap.size w wr) (fun _ u _ => n - (intOf u).toNat)
  case atStart => exact ⟨0, rfl, Nat.zero_le _, HD.out, Below.refl _ _⟩
  case round =>
    obtain ⟨i, rfl, hi, hr, hb⟩ := hrel
    have HR := Lib.hid hr
    have B := Lib.hid hb
    clear hr hb
    by_cases hlt : i < n
    · have hlt2 : (i : Int) < (n : Int) := by omega
      obtain ⟨e, he⟩ := HG.out i hlt
      have HN := Lib.hid (findFrom_drop L p i he)
      obtain ⟨c0, c1, c2, c3, c4, c5, c6, c7, c8, c9⟩ := (H1.out.below B.out hg).ten he
      clear he
      obtain ⟨k, q, l, m, u, g0, t, us, gr, b⟩ := e
      have hcall := HP.out k q l m u g0 t us gr b wr (Nat.lt_of_lt_of_le hB B.out.size) ((B.out.cell (p := ⟨_, 0, none⟩) hB).trans HC.out)
      by_cases hq : q = p
      · rw [baE_eq hq] at hcall
        have HF : Hid (r = i) := Lib.hid (by rw [HR.out, HN.out, if_pos hq])
        clear hq HN HR
        go_wp2_with (go_at_fn 183; refine hcall.mono ?_; rintro e w' ⟨rfl, hb'⟩)
        go_ret
        exact ⟨ret_int HF.out.symm, btE B.out hb'⟩
      · rw [baE_ne hq] at hcall
        have HF : Hid (r = findFrom (L.drop (i + 1)) p (i + 1)) := Lib.hid (by rw [HR.out, HN.out, if_neg hq])
        clear hq HN HR
        go_wp2_with (go_at_fn 183; refine hcall.mono ?_; rintro e w' ⟨rfl, hb'⟩)
        go_roundw
        case rel => exact ⟨i + 1, by go_num, by omega, HF.out, btE B.out hb'⟩
        case measure => simp [intOf]; omega
    · have hlt2 : ¬ (i : Int) < (n : Int) := by omega
      have HF : Hid (r = -1) := Lib.hid (by rw [HR.out, HE.out i (by omega)])
      go_wp2_with fail
      go_ret
      exact ⟨ret_int HF.out.symm, B.out⟩
theorem find_impl (L : List Ent) (p : ByteArray) (n g cap : Nat) (w : World) (hn : n = L.length) (hm : n ≤ 4194304) (hg : g < w.heap.size) (h1 : RowE w g L) :
    Calls Tryz.prog 148 #[.slice (some ⟨g, 0, none⟩) n cap, .string p] w fun e w' => e = .returned (.int .i64 (findv L p)) ∧ Below w.heap.size w w' := by
  have b0 : Below w.heap.size w (w.alloc (.cells #[.string p] 9)) := (Below.refl _ w).alloc (Nat.le_refl _) _
  have hcon := findIndex L p n g cap w.heap.size (w.alloc (.cells #[.string p] 9)) hn hm (by simp; omega) (h1.below b0 hg) (by simp) (by simp)
  have B0 := Lib.hid b0
  clear h1 hn b0
  generalize findv L p = r at hcon
  go_enter Tryz.func148, Tryz.ntmps148
  go_wp2_with (go_at_call 182; refine hcon.mono ?_; rintro e w' ⟨rfl, hb'⟩)
  go_ret
  exact ⟨rfl, btE B0.out hb'⟩
end Go.Proofs.YtcnmbolmgifgfabGreatDoor

/- Contract of strings.Clone: the same bytes. -/
namespace Go.Proofs.YtcnmbolmgifgfabGreatDoor
open Go.ChangeShapes Go.WideShapes Go.ChangeAt Go.RowKit

theorem clone_any (s : ByteArray) (w : World) (hs : s.size ≤ 281474976710656) :
    Calls Tryz.prog 125 #[.string s] w fun e w' => e = .returned (.string s) ∧ Below w.heap.size w w' := by
  go_enter Tryz.func125, Tryz.ntmps125
  go_wp2_with (go_at_call 159; refine (Tryz.stringslite_Clone _ _ hs).mono ?_; rintro e w' ⟨rfl, hb⟩)
  go_ret
  exact ⟨rfl, hb⟩
end Go.Proofs.YtcnmbolmgifgfabGreatDoor

/- Contracts of impl.inode and impl.cardOf. -/
namespace Go.Proofs.YtcnmbolmgifgfabGreatDoor
open Go.ChangeShapes Go.WideShapes Go.ChangeAt Go.RowKit Go.Deep

theorem find_bds2 (L : List Ent) (p : ByteArray) : -1 ≤ findv L p ∧ findv L p ≤ L.length := by
  rcases find_cases L p with h | ⟨a, e, h, he, _⟩
  · omega
  · have := (List.getElem?_eq_some_iff.1 he).1
    omega
set_option maxHeartbeats 1600000 in
theorem ino_impl (L : List Ent) (i : Nat) (e : Ent) (n g cap : Nat) (w : World) (he : L[i]? = some e) (hn : n = L.length) (hm : n ≤ 4194304) (hg : g < w.heap.size) (h1 : RowE w g L) :
    Calls Tryz.prog 107 #[.slice (some ⟨g, 0, none⟩) n cap, .int .i64 i] w fun e' w' => e' = .returned (.int .i64 (inov L i e)) ∧ Below w.heap.size w w' := by
  have hlt : i < n := by rw [hn]; exact (List.getElem?_eq_some_iff.1 he).1
  have hlt2 : (i : Int) < (n : Int) := by omega
  have H1 := Lib.hid (find_impl L e.link n g cap w hn hm hg h1)
  have HB := find_bds2 L e.link
  have HI : Hid (inov L i e = if e.kind = 3 then findv L e.link + 1 else (i : Int) + 1) := Lib.hid rfl
  obtain ⟨c0, c1, c2, c3, c4, c5, c6, c7, c8, c9⟩ := h1.ten he
  generalize inov L i e = r at HI
  generalize findv L e.link = f at H1 HI HB
  clear h1 he c1 c3 c4 c5 c6 c7 c8 c9
  obtain ⟨k, p, l, m, u, g0, t, us, gr, b⟩ := e
  by_cases hk : k = 3
  · subst hk
    have HF : Hid (r = f + 1) := Lib.hid (by rw [HI.out, if_pos rfl])
    have hb0 : f ≤ 4194304 := by omega
    have hb1 : -1 ≤ f := by omega
    clear HI HB hn
    go_enter Tryz.func107, Tryz.ntmps107
    go_wp2_with fail
    refine H1.out.mono ?_
    rintro e w1 ⟨rfl, hb⟩
    have B := Lib.hid hb
    clear hb
    go_wp2_with fail
    go_ret
    exact ⟨by rw [HF.out]; go_num, B.out⟩
  · have hk2 : (k == 3) = false := by simpa using hk
    have HF : Hid (r = (i : Int) + 1) := Lib.hid (by rw [HI.out, if_neg hk])
    clear HI HB hk hn
    go_enter Tryz.func107, Tryz.ntmps107
    go_wp2_with fail
    go_ret
    exact ⟨by rw [HF.out]; go_num, Below.refl _ _⟩
set_option maxHeartbeats 3200000 in
set_option maxRecDepth 8000 in
theorem cardOf_dir (p l : ByteArray) (m u1 gi t : Int) (us gr b : ByteArray) (ino : Int) (w : World) (hp : p.size ≤ 4194304) (hm0 : 0 ≤ m) (hm1 : m ≤ 4095) :
    Calls Tryz.prog 106 #[.agg #[.int .i64 1, .string p, .string l, .int .i64 m, .int .i64 u1, .int .i64 gi, .int .i64 t, .string us, .string gr, .string b], .int .i64 ino] w fun e w' => e = .returned (.agg #[.int .i64 ino, .int .i64 (m + 16384), .int .i64 u1, .int .i64 gi, .int .i64 0, .int .i64 t, .string p, .string ⟨#[]⟩]) ∧ Below w.heap.size w w' := by
  have HC := Lib.hid (fun w => clone_any p w (by omega))
  go_enter Tryz.func106, Tryz.ntmps106
  go_upto_region 1 with fail
  generalize hw1 : World.alloc (World.alloc w _) _ = w1
  have EO : Hid (EntO w1 w.heap.size ⟨1, p, l, m, u1, gi, t, us, gr, b⟩) := Lib.hid (by rw [← hw1]; exact (EntO.new w ⟨1, p, l, m, u1, gi, t, us, gr, b⟩).below (B := w.heap.size + 1) ((Below.refl _ _).alloc (by simp) _) (by omega))
  have RO : Hid (CardO w1 (w.heap.size + 1) zeroC) := Lib.hid (by rw [← hw1]; exact CardO.newAt (w.alloc (.cells (Ent.cells ⟨1, p, l, m, u1, gi, t, us, gr, b⟩).toArray 45)) zeroC _ (by simp))
  have B0 : Hid (Below w.heap.size w w1) := Lib.hid (by rw [← hw1]; exact ((Below.refl _ _).alloc (Nat.le_refl _) _).alloc (by simp) _)
  have hs1 : w1.heap.size = w.heap.size + 2 := by rw [← hw1]; simp
  clear hw1
  have KC : Hid (∀ w', Below w1.heap.size w1 w' → w'.cell? ⟨w.heap.size, 1, none⟩ = some (.string p) ∧ w'.cell? ⟨w.heap.size, 3, none⟩ = some (.int .i64 m) ∧ w'.cell? ⟨w.heap.size, 4, none⟩ = some (.int .i64 u1) ∧ w'.cell? ⟨w.heap.size, 5, none⟩ = some (.int .i64 gi) ∧ w'.cell? ⟨w.heap.size, 6, none⟩ = some (.int .i64 t)) := Lib.hid (fun w' hb => by
    obtain ⟨d0, d1, d2, d3, d4, d5, d6, d7, d8, d9⟩ := (EO.out.below hb (by omega)).at.zero
    exact ⟨d1, d3, d4, d5, d6⟩)
  refine wp_region_cut 14 (by kernel_rfl) (fun w' => Below w1.heap.size w1 w') (fun x y => Below x.heap.size x y) (vBxG 5 48 w1.heap.size #[.int .i64 0, .int .i64 0, .int .i64 0, .int .i64 0, .int .i64 0, .int .i64 0, .string ⟨#[]⟩, .string ⟨#[]⟩] (fun d v => match d with | 6 => v = .int .i64 ino | 7 => v = .pointer (some ⟨w.heap.size, 3, none⟩) | 8 => v = .int .i64 m | 9 => v = .pointer (some ⟨w.heap.size, 4, none⟩) | 10 => v = .int .i64 u1 | 11 => v = .pointer (some ⟨w.heap.size, 5, none⟩) | 12 => v = .int .i64 gi | 13 => v = .pointer (some ⟨w.heap.size, 6, none⟩) | 14 => v = .int .i64 t | 15 => v = .pointer (some ⟨w.heap.size, 1, none⟩) | 16 => v = .string p | 17 => v = .string p | 18 => v = .agg #[.int .i64 ino, .int .i64 m, .int .i64 u1, .int .i64 gi, .int .i64 0, .int .i64 t, .string p, .string ⟨#[]⟩] | _ => True)) (by kernel_rfl) (by kernel_rfl) ((Below.refl _ _).drew) (vBxG_keep _ _ _ _ _) (by simp) ?hops ?hend
  case hops =>
    simp only [List.take_succ_cons, List.take_zero, List.forall_mem_cons]
    refine ⟨?o6, ?o7, ?o8, ?o9, ?o10, ?o11, ?o12, ?o13, ?o14, ?o15, ?o16, ?o17, ?o18, ?o5, fun _ h => by cases h⟩
    case o6 =>
      intro Q a w2 hC hV hI
      have e1 : a.eval (.tmp 1) = .int .i64 ino := (hI 1 (by simp [Op.operands]) (by kernel_rfl)).trans rfl
      have f1 : a.tmps.getD 1 undef = .int .i64 ino := e1
      have g1 : a.tmps[1]?.getD undef = .int .i64 ino := by rw [← Array.getD_eq_getD_getElem?]; exact e1
      refine op_val (.int .i64 ino) ?_ hC (Below.refl _ _) (by intro d hd; cases hd; exact rfl)
      (clear hV hI hC; go_simp <;> (first | rfl | simp | (rw [IntKind.wrap_i64]; omega)))
    case o7 =>
      intro Q a w2 hC hV hI
      have e2 : a.eval (.tmp 2) = .pointer (some ⟨w.heap.size, 0, none⟩) := (hI 2 (by simp [Op.operands]) (by kernel_rfl)).trans rfl
      have f2 : a.tmps.getD 2 undef = .pointer (some ⟨w.heap.size, 0, none⟩) := e2
      have g2 : a.tmps[2]?.getD undef = .pointer (some ⟨w.heap.size, 0, none⟩) := by rw [← Array.getD_eq_getD_getElem?]; exact e2
      refine op_val (.pointer (some ⟨w.heap.size, 3, none⟩)) ?_ hC (Below.refl _ _) (by intro d hd; cases hd; exact rfl)
      (clear hV hI hC; go_simp <;> (first | rfl | simp | (rw [IntKind.wrap_i64]; omega)))
    case o8 =>
      intro Q a w2 hC hV hI
      have e7 : a.eval (.tmp 7) = .pointer (some ⟨w.heap.size, 3, none⟩) := hV 7 (by simp [Op.operands]) (by kernel_rfl)
      have f7 : a.tmps.getD 7 undef = .pointer (some ⟨w.heap.size, 3, none⟩) := e7
      have g7 : a.tmps[7]?.getD undef = .pointer (some ⟨w.heap.size, 3, none⟩) := by rw [← Array.getD_eq_getD_getElem?]; exact e7
      have hK := KC.out w2 hC
      refine op_val (.int .i64 m) ?_ hC (Below.refl _ _) (by intro d hd; cases hd; exact rfl)
      (clear hV hI hC; go_simp <;> (first | rfl | simp | (rw [IntKind.wrap_i64]; omega)))
    case o9 =>
      intro Q a w2 hC hV hI
      have e2 : a.eval (.tmp 2) = .pointer (some ⟨w.heap.size, 0, none⟩) := (hI 2 (by simp [Op.operands]) (by kernel_rfl)).trans rfl
      have f2 : a.tmps.getD 2 undef = .pointer (some ⟨w.heap.size, 0, none⟩) := e2
      have g2 : a.tmps[2]?.getD undef = .pointer (some ⟨w.heap.size, 0, none⟩) := by rw [← Array.getD_eq_getD_getElem?]; exact e2
      refine op_val (.pointer (some ⟨w.heap.size, 4, none⟩)) ?_ hC (Below.refl _ _) (by intro d hd; cases hd; exact rfl)
      (clear hV hI hC; go_simp <;> (first | rfl | simp | (rw [IntKind.wrap_i64]; omega)))
    case o10 =>
      intro Q a w2 hC hV hI
      have e9 : a.eval (.tmp 9) = .pointer (some ⟨w.heap.size, 4, none⟩) := hV 9 (by simp [Op.operands]) (by kernel_rfl)
      have f9 : a.tmps.getD 9 undef = .pointer (some ⟨w.heap.size, 4, none⟩) := e9
      have g9 : a.tmps[9]?.getD undef = .pointer (some ⟨w.heap.size, 4, none⟩) := by rw [← Array.getD_eq_getD_getElem?]; exact e9
      have hK := KC.out w2 hC
      refine op_val (.int .i64 u1) ?_ hC (Below.refl _ _) (by intro d hd; cases hd; exact rfl)
      (clear hV hI hC; go_simp <;> (first | rfl | simp | (rw [IntKind.wrap_i64]; omega)))
    case o11 =>
      intro Q a w2 hC hV hI
      have e2 : a.eval (.tmp 2) = .pointer (some ⟨w.heap.size, 0, none⟩) := (hI 2 (by simp [Op.operands]) (by kernel_rfl)).trans rfl
      have f2 : a.tmps.getD 2 undef = .pointer (some ⟨w.heap.size, 0, none⟩) := e2
      have g2 : a.tmps[2]?.getD undef = .pointer (some ⟨w.heap.size, 0, none⟩) := by rw [← Array.getD_eq_getD_getElem?]; exact e2
      refine op_val (.pointer (some ⟨w.heap.size, 5, none⟩)) ?_ hC (Below.refl _ _) (by intro d hd; cases hd; exact rfl)
      (clear hV hI hC; go_simp <;> (first | rfl | simp | (rw [IntKind.wrap_i64]; omega)))
    case o12 =>
      intro Q a w2 hC hV hI
      have e11 : a.eval (.tmp 11) = .pointer (some ⟨w.heap.size, 5, none⟩) := hV 11 (by simp [Op.operands]) (by kernel_rfl)
      have f11 : a.tmps.getD 11 undef = .pointer (some ⟨w.heap.size, 5, none⟩) := e11
      have g11 : a.tmps[11]?.getD undef = .pointer (some ⟨w.heap.size, 5, none⟩) := by rw [← Array.getD_eq_getD_getElem?]; exact e11
      have hK := KC.out w2 hC
      refine op_val (.int .i64 gi) ?_ hC (Below.refl _ _) (by intro d hd; cases hd; exact rfl)
      (clear hV hI hC; go_simp <;> (first | rfl | simp | (rw [IntKind.wrap_i64]; omega)))
    case o13 =>
      intro Q a w2 hC hV hI
      have e2 : a.eval (.tmp 2) = .pointer (some ⟨w.heap.size, 0, none⟩) := (hI 2 (by simp [Op.operands]) (by kernel_rfl)).trans rfl
      have f2 : a.tmps.getD 2 undef = .pointer (some ⟨w.heap.size, 0, none⟩) := e2
      have g2 : a.tmps[2]?.getD undef = .pointer (some ⟨w.heap.size, 0, none⟩) := by rw [← Array.getD_eq_getD_getElem?]; exact e2
      refine op_val (.pointer (some ⟨w.heap.size, 6, none⟩)) ?_ hC (Below.refl _ _) (by intro d hd; cases hd; exact rfl)
      (clear hV hI hC; go_simp <;> (first | rfl | simp | (rw [IntKind.wrap_i64]; omega)))
    case o14 =>
      intro Q a w2 hC hV hI
      have e13 : a.eval (.tmp 13) = .pointer (some ⟨w.heap.size, 6, none⟩) := hV 13 (by simp [Op.operands]) (by kernel_rfl)
      have f13 : a.tmps.getD 13 undef = .pointer (some ⟨w.heap.size, 6, none⟩) := e13
      have g13 : a.tmps[13]?.getD undef = .pointer (some ⟨w.heap.size, 6, none⟩) := by rw [← Array.getD_eq_getD_getElem?]; exact e13
      have hK := KC.out w2 hC
      refine op_val (.int .i64 t) ?_ hC (Below.refl _ _) (by intro d hd; cases hd; exact rfl)
      (clear hV hI hC; go_simp <;> (first | rfl | simp | (rw [IntKind.wrap_i64]; omega)))
    case o15 =>
      intro Q a w2 hC hV hI
      have e2 : a.eval (.tmp 2) = .pointer (some ⟨w.heap.size, 0, none⟩) := (hI 2 (by simp [Op.operands]) (by kernel_rfl)).trans rfl
      have f2 : a.tmps.getD 2 undef = .pointer (some ⟨w.heap.size, 0, none⟩) := e2
      have g2 : a.tmps[2]?.getD undef = .pointer (some ⟨w.heap.size, 0, none⟩) := by rw [← Array.getD_eq_getD_getElem?]; exact e2
      refine op_val (.pointer (some ⟨w.heap.size, 1, none⟩)) ?_ hC (Below.refl _ _) (by intro d hd; cases hd; exact rfl)
      (clear hV hI hC; go_simp <;> (first | rfl | simp | (rw [IntKind.wrap_i64]; omega)))
    case o16 =>
      intro Q a w2 hC hV hI
      have e15 : a.eval (.tmp 15) = .pointer (some ⟨w.heap.size, 1, none⟩) := hV 15 (by simp [Op.operands]) (by kernel_rfl)
      have f15 : a.tmps.getD 15 undef = .pointer (some ⟨w.heap.size, 1, none⟩) := e15
      have g15 : a.tmps[15]?.getD undef = .pointer (some ⟨w.heap.size, 1, none⟩) := by rw [← Array.getD_eq_getD_getElem?]; exact e15
      have hK := KC.out w2 hC
      refine op_val (.string p) ?_ hC (Below.refl _ _) (by intro d hd; cases hd; exact rfl)
      (clear hV hI hC; go_simp <;> (first | rfl | simp | (rw [IntKind.wrap_i64]; omega)))
    case o17 =>
      intro Q a w2 hC hV hI
      have e16 : a.eval (.tmp 16) = .string p := hV 16 (by simp [Op.operands, Call.operands]) (by kernel_rfl)
      have f16 : a.tmps.getD 16 undef = .string p := e16
      have g16 : a.tmps[16]?.getD undef = .string p := by rw [← Array.getD_eq_getD_getElem?]; exact e16
      refine op_call (f := 125) (args := #[.string p]) (R := fun v y => v = .string p ∧ Below w2.heap.size w2 y) ?_ ((HC.out w2).mono ?_) ?_
      · (clear hV hI hC; go_simp <;> (first | rfl | simp | (rw [IntKind.wrap_i64]; omega)))
      · rintro e y ⟨rfl, hb⟩; exact ⟨_, rfl, rfl, hb⟩
      · rintro v y ⟨rfl, hb⟩; exact ⟨hC.trans (hb.mono hC.size), hb, by intro d hd; cases hd; exact rfl⟩
    case o18 =>
      intro Q a w2 hC hV hI
      have e6 : a.eval (.tmp 6) = .int .i64 ino := hV 6 (by simp [Op.operands]) (by kernel_rfl)
      have f6 : a.tmps.getD 6 undef = .int .i64 ino := e6
      have g6 : a.tmps[6]?.getD undef = .int .i64 ino := by rw [← Array.getD_eq_getD_getElem?]; exact e6
      have e8 : a.eval (.tmp 8) = .int .i64 m := hV 8 (by simp [Op.operands]) (by kernel_rfl)
      have f8 : a.tmps.getD 8 undef = .int .i64 m := e8
      have g8 : a.tmps[8]?.getD undef = .int .i64 m := by rw [← Array.getD_eq_getD_getElem?]; exact e8
      have e10 : a.eval (.tmp 10) = .int .i64 u1 := hV 10 (by simp [Op.operands]) (by kernel_rfl)
      have f10 : a.tmps.getD 10 undef = .int .i64 u1 := e10
      have g10 : a.tmps[10]?.getD undef = .int .i64 u1 := by rw [← Array.getD_eq_getD_getElem?]; exact e10
      have e12 : a.eval (.tmp 12) = .int .i64 gi := hV 12 (by simp [Op.operands]) (by kernel_rfl)
      have f12 : a.tmps.getD 12 undef = .int .i64 gi := e12
      have g12 : a.tmps[12]?.getD undef = .int .i64 gi := by rw [← Array.getD_eq_getD_getElem?]; exact e12
      have e14 : a.eval (.tmp 14) = .int .i64 t := hV 14 (by simp [Op.operands]) (by kernel_rfl)
      have f14 : a.tmps.getD 14 undef = .int .i64 t := e14
      have g14 : a.tmps[14]?.getD undef = .int .i64 t := by rw [← Array.getD_eq_getD_getElem?]; exact e14
      have e17 : a.eval (.tmp 17) = .string p := hV 17 (by simp [Op.operands]) (by kernel_rfl)
      have f17 : a.tmps.getD 17 undef = .string p := e17
      have g17 : a.tmps[17]?.getD undef = .string p := by rw [← Array.getD_eq_getD_getElem?]; exact e17
      refine op_val (.agg #[.int .i64 ino, .int .i64 m, .int .i64 u1, .int .i64 gi, .int .i64 0, .int .i64 t, .string p, .string ⟨#[]⟩]) ?_ hC (Below.refl _ _) (by intro d hd; cases hd; exact rfl)
      (clear hV hI hC; go_simp <;> (first | rfl | simp | (rw [IntKind.wrap_i64]; omega)))
    case o5 =>
      intro Q a w2 hC hV hI
      refine op_val (.pointer (some ⟨w2.heap.size, 0, none⟩)) (w' := w2.alloc (.cells #[.int .i64 0, .int .i64 0, .int .i64 0, .int .i64 0, .int .i64 0, .int .i64 0, .string ⟨#[]⟩, .string ⟨#[]⟩] 48)) ?_ (hC.alloc hC.size _) ((Below.refl _ _).alloc (Nat.le_refl _) _) ?_
      · (clear hV hI hC; go_simp <;> (first | rfl | simp | (rw [IntKind.wrap_i64]; omega)))
      · intro d hd; cases hd; exact ⟨w2.heap.size, rfl, hC.size, heap_lastG _ _⟩
  case hend =>
    intro f w2 hC hall
    simp only [List.take_succ_cons, List.take_zero, List.drop_succ_cons, List.drop_zero] at hall ⊢
    simp only [List.forall_mem_cons] at hall
    obtain ⟨h6, h7, h8, h9, h10, h11, h12, h13, h14, h15, h16, h17, h18, h5, _⟩ := hall
    replace h6 : f 6 = .int .i64 ino := h6 6 rfl
    replace h7 : f 7 = .pointer (some ⟨w.heap.size, 3, none⟩) := h7 7 rfl
    replace h8 : f 8 = .int .i64 m := h8 8 rfl
    replace h9 : f 9 = .pointer (some ⟨w.heap.size, 4, none⟩) := h9 9 rfl
    replace h10 : f 10 = .int .i64 u1 := h10 10 rfl
    replace h11 : f 11 = .pointer (some ⟨w.heap.size, 5, none⟩) := h11 11 rfl
    replace h12 : f 12 = .int .i64 gi := h12 12 rfl
    replace h13 : f 13 = .pointer (some ⟨w.heap.size, 6, none⟩) := h13 13 rfl
    replace h14 : f 14 = .int .i64 t := h14 14 rfl
    replace h15 : f 15 = .pointer (some ⟨w.heap.size, 1, none⟩) := h15 15 rfl
    replace h16 : f 16 = .string p := h16 16 rfl
    replace h17 : f 17 = .string p := h17 17 rfl
    replace h18 : f 18 = .agg #[.int .i64 ino, .int .i64 m, .int .i64 u1, .int .i64 gi, .int .i64 0, .int .i64 t, .string p, .string ⟨#[]⟩] := h18 18 rfl
    obtain ⟨G5, hG5, hGB5, hGO5⟩ : ∃ G, f 5 = .pointer (some ⟨G, 0, none⟩) ∧ w1.heap.size ≤ G ∧ w2.heap[G]? = some (.cells #[.int .i64 0, .int .i64 0, .int .i64 0, .int .i64 0, .int .i64 0, .int .i64 0, .string ⟨#[]⟩, .string ⟨#[]⟩] 48 (0, 0)) := h5 5 rfl
    simp only [putAll, Act.put, List.setIfInBounds_toArray, List.set_cons_succ, List.set_cons_zero, h6, h7, h8, h9, h10, h11, h12, h13, h14, h15, h16, h17, h18, hG5]
    clear h6 h7 h8 h9 h10 h11 h12 h13 h14 h15 h16 h17 h18 hG5 h5
    clear KC
    replace EO := Lib.hid (EO.out.below hC (by omega))
    replace RO := Lib.hid (RO.out.below hC (by omega))
    have hB2 := btE B0.out (hC.mono (Nat.le_refl _))
    have XO : CardO w2 G5 zeroC := hGO5
    have hne0 : ¬ w.heap.size = G5 := by omega
    have hne1 : ¬ w.heap.size + 1 = G5 := by omega
    have hlt5 : w.heap.size ≤ G5 := by omega
    obtain ⟨d0, d1, d2, d3, d4, d5, d6, d7⟩ := XO.at.zero
    have f0 := XO.fz 0
    have f1 := XO.fz 1
    have f2 := XO.fz 2
    have f3 := XO.fz 3
    have f4 := XO.fz 4
    have f5 := XO.fz 5
    have f6 := XO.fz 6
    have f7 := XO.fz 7
    have XP := XO.put ⟨ino, m, u1, gi, 0, t, p, ⟨#[]⟩⟩
    have EP : EntO (putOC w2 G5 ⟨ino, m, u1, gi, 0, t, p, ⟨#[]⟩⟩) w.heap.size ⟨1, p, l, m, u1, gi, t, us, gr, b⟩ := (putOC_other hne0).trans EO.out
    have RP : CardO (putOC w2 G5 ⟨ino, m, u1, gi, 0, t, p, ⟨#[]⟩⟩) (w.heap.size + 1) zeroC := (putOC_other hne1).trans RO.out
    have BP := below_putOC (g := G5) hB2 hlt5 ⟨ino, m, u1, gi, 0, t, p, ⟨#[]⟩⟩
    simp only [putOC] at XP EP RP BP
    go_upto_region 2 with fail
    obtain ⟨w3, hw3⟩ : ∃ x, x = ((((((((w2.setCell ⟨G5, 0, none⟩ (.int .i64 ino)).setCell ⟨G5, 1, none⟩ (.int .i64 m)).setCell ⟨G5, 2, none⟩ (.int .i64 u1)).setCell ⟨G5, 3, none⟩ (.int .i64 gi)).setCell ⟨G5, 4, none⟩ (.int .i64 0)).setCell ⟨G5, 5, none⟩ (.int .i64 t)).setCell ⟨G5, 6, none⟩ (.string p)).setCell ⟨G5, 7, none⟩ (.string ⟨#[]⟩)) := ⟨_, rfl⟩
    rw [← hw3] at XP EP RP BP ⊢
    have X := Lib.hid XP
    have R := Lib.hid RP
    have Bw := Lib.hid BP
    obtain ⟨e0, e1, e2, e3, e4, e5, e6, e7, e8, e9⟩ := EP.at.zero
    clear XP RP BP hw3 d0 d1 d2 d3 d4 d5 d6 d7 f0 f1 f2 f3 f4 f5 f6 f7 XO hGO5 hB2 EO RO
    obtain ⟨d0, d1, d2, d3, d4, d5, d6, d7⟩ := X.out.at.zero
    have f1 := X.out.fz 1
    have XP := X.out.set (e' := ⟨ino, m + 16384, u1, gi, 0, t, p, ⟨#[]⟩⟩) 1 (.int .i64 (m + 16384)) rfl
    have RP : CardO (w3.setCell ⟨G5, 1, none⟩ (.int .i64 (m + 16384))) (w.heap.size + 1) zeroC := R.out.other hne1
    have EP2 : EntO (w3.setCell ⟨G5, 1, none⟩ (.int .i64 (m + 16384))) w.heap.size ⟨1, p, l, m, u1, gi, t, us, gr, b⟩ := EP.other hne0
    have BP := Bw.out.setCell (p := ⟨G5, 1, none⟩) hlt5 (.int .i64 (m + 16384))
    go_upto_region 10 with fail
    obtain ⟨w6, hw6⟩ : ∃ x, x = w3.setCell ⟨G5, 1, none⟩ (.int .i64 (m + 16384)) := ⟨_, rfl⟩
    rw [← hw6] at XP RP BP EP2 ⊢
    clear hw6 EP2 e0 e1 e2 e3 e4 e5 e6 e7 e8 e9 d0 d1 d2 d3 d4 d5 d6 d7 f1 EP X R Bw
    obtain ⟨x0, x1, x2, x3, x4, x5, x6, x7⟩ := XP.at.zero
    obtain ⟨d0, d1, d2, d3, d4, d5, d6, d7⟩ := RP.at.zero
    have f0 := RP.fz 0
    have f1 := RP.fz 1
    have f2 := RP.fz 2
    have f3 := RP.fz 3
    have f4 := RP.fz 4
    have f5 := RP.fz 5
    have f6 := RP.fz 6
    have f7 := RP.fz 7
    have R9 := RP.put ⟨ino, m + 16384, u1, gi, 0, t, p, ⟨#[]⟩⟩
    have B9 := below_putOC (g := w.heap.size + 1) BP (by omega) ⟨ino, m + 16384, u1, gi, 0, t, p, ⟨#[]⟩⟩
    simp only [putOC] at R9 B9
    go_wp2_with fail
    refine bodyPost_ret (res_OC1 rfl _ rfl R9) rfl ?_
    exact ⟨rfl, B9⟩
set_option maxHeartbeats 3200000 in
set_option maxRecDepth 8000 in
theorem cardOf_sym (p l : ByteArray) (m u1 gi t : Int) (us gr b : ByteArray) (ino : Int) (w : World) (hp : p.size ≤ 4194304) (hl : l.size ≤ 4194304) (hm0 : 0 ≤ m) (hm1 : m ≤ 4095) :
    Calls Tryz.prog 106 #[.agg #[.int .i64 2, .string p, .string l, .int .i64 m, .int .i64 u1, .int .i64 gi, .int .i64 t, .string us, .string gr, .string b], .int .i64 ino] w fun e w' => e = .returned (.agg #[.int .i64 ino, .int .i64 (m + 40960), .int .i64 u1, .int .i64 gi, .int .i64 0, .int .i64 t, .string p, .string l]) ∧ Below w.heap.size w w' := by
  have HC := Lib.hid (fun w => clone_any p w (by omega))
  have HD := Lib.hid (fun w => clone_any l w (by omega))
  go_enter Tryz.func106, Tryz.ntmps106
  go_upto_region 1 with fail
  generalize hw1 : World.alloc (World.alloc w _) _ = w1
  have EO : Hid (EntO w1 w.heap.size ⟨2, p, l, m, u1, gi, t, us, gr, b⟩) := Lib.hid (by rw [← hw1]; exact (EntO.new w ⟨2, p, l, m, u1, gi, t, us, gr, b⟩).below (B := w.heap.size + 1) ((Below.refl _ _).alloc (by simp) _) (by omega))
  have RO : Hid (CardO w1 (w.heap.size + 1) zeroC) := Lib.hid (by rw [← hw1]; exact CardO.newAt (w.alloc (.cells (Ent.cells ⟨2, p, l, m, u1, gi, t, us, gr, b⟩).toArray 45)) zeroC _ (by simp))
  have B0 : Hid (Below w.heap.size w w1) := Lib.hid (by rw [← hw1]; exact ((Below.refl _ _).alloc (Nat.le_refl _) _).alloc (by simp) _)
  have hs1 : w1.heap.size = w.heap.size + 2 := by rw [← hw1]; simp
  clear hw1
  have KC : Hid (∀ w', Below w1.heap.size w1 w' → w'.cell? ⟨w.heap.size, 1, none⟩ = some (.string p) ∧ w'.cell? ⟨w.heap.size, 3, none⟩ = some (.int .i64 m) ∧ w'.cell? ⟨w.heap.size, 4, none⟩ = some (.int .i64 u1) ∧ w'.cell? ⟨w.heap.size, 5, none⟩ = some (.int .i64 gi) ∧ w'.cell? ⟨w.heap.size, 6, none⟩ = some (.int .i64 t)) := Lib.hid (fun w' hb => by
    obtain ⟨d0, d1, d2, d3, d4, d5, d6, d7, d8, d9⟩ := (EO.out.below hb (by omega)).at.zero
    exact ⟨d1, d3, d4, d5, d6⟩)
  refine wp_region_cut 14 (by kernel_rfl) (fun w' => Below w1.heap.size w1 w') (fun x y => Below x.heap.size x y) (vBxG 5 48 w1.heap.size #[.int .i64 0, .int .i64 0, .int .i64 0, .int .i64 0, .int .i64 0, .int .i64 0, .string ⟨#[]⟩, .string ⟨#[]⟩] (fun d v => match d with | 6 => v = .int .i64 ino | 7 => v = .pointer (some ⟨w.heap.size, 3, none⟩) | 8 => v = .int .i64 m | 9 => v = .pointer (some ⟨w.heap.size, 4, none⟩) | 10 => v = .int .i64 u1 | 11 => v = .pointer (some ⟨w.heap.size, 5, none⟩) | 12 => v = .int .i64 gi | 13 => v = .pointer (some ⟨w.heap.size, 6, none⟩) | 14 => v = .int .i64 t | 15 => v = .pointer (some ⟨w.heap.size, 1, none⟩) | 16 => v = .string p | 17 => v = .string p | 18 => v = .agg #[.int .i64 ino, .int .i64 m, .int .i64 u1, .int .i64 gi, .int .i64 0, .int .i64 t, .string p, .string ⟨#[]⟩] | _ => True)) (by kernel_rfl) (by kernel_rfl) ((Below.refl _ _).drew) (vBxG_keep _ _ _ _ _) (by simp) ?hops ?hend
  case hops =>
    simp only [List.take_succ_cons, List.take_zero, List.forall_mem_cons]
    refine ⟨?o6, ?o7, ?o8, ?o9, ?o10, ?o11, ?o12, ?o13, ?o14, ?o15, ?o16, ?o17, ?o18, ?o5, fun _ h => by cases h⟩
    case o6 =>
      intro Q a w2 hC hV hI
      have e1 : a.eval (.tmp 1) = .int .i64 ino := (hI 1 (by simp [Op.operands]) (by kernel_rfl)).trans rfl
      have f1 : a.tmps.getD 1 undef = .int .i64 ino := e1
      have g1 : a.tmps[1]?.getD undef = .int .i64 ino := by rw [← Array.getD_eq_getD_getElem?]; exact e1
      refine op_val (.int .i64 ino) ?_ hC (Below.refl _ _) (by intro d hd; cases hd; exact rfl)
      (clear hV hI hC; go_simp <;> (first | rfl | simp | (rw [IntKind.wrap_i64]; omega)))
    case o7 =>
      intro Q a w2 hC hV hI
      have e2 : a.eval (.tmp 2) = .pointer (some ⟨w.heap.size, 0, none⟩) := (hI 2 (by simp [Op.operands]) (by kernel_rfl)).trans rfl
      have f2 : a.tmps.getD 2 undef = .pointer (some ⟨w.heap.size, 0, none⟩) := e2
      have g2 : a.tmps[2]?.getD undef = .pointer (some ⟨w.heap.size, 0, none⟩) := by rw [← Array.getD_eq_getD_getElem?]; exact e2
      refine op_val (.pointer (some ⟨w.heap.size, 3, none⟩)) ?_ hC (Below.refl _ _) (by intro d hd; cases hd; exact rfl)
      (clear hV hI hC; go_simp <;> (first | rfl | simp | (rw [IntKind.wrap_i64]; omega)))
    case o8 =>
      intro Q a w2 hC hV hI
      have e7 : a.eval (.tmp 7) = .pointer (some ⟨w.heap.size, 3, none⟩) := hV 7 (by simp [Op.operands]) (by kernel_rfl)
      have f7 : a.tmps.getD 7 undef = .pointer (some ⟨w.heap.size, 3, none⟩) := e7
      have g7 : a.tmps[7]?.getD undef = .pointer (some ⟨w.heap.size, 3, none⟩) := by rw [← Array.getD_eq_getD_getElem?]; exact e7
      have hK := KC.out w2 hC
      refine op_val (.int .i64 m) ?_ hC (Below.refl _ _) (by intro d hd; cases hd; exact rfl)
      (clear hV hI hC; go_simp <;> (first | rfl | simp | (rw [IntKind.wrap_i64]; omega)))
    case o9 =>
      intro Q a w2 hC hV hI
      have e2 : a.eval (.tmp 2) = .pointer (some ⟨w.heap.size, 0, none⟩) := (hI 2 (by simp [Op.operands]) (by kernel_rfl)).trans rfl
      have f2 : a.tmps.getD 2 undef = .pointer (some ⟨w.heap.size, 0, none⟩) := e2
      have g2 : a.tmps[2]?.getD undef = .pointer (some ⟨w.heap.size, 0, none⟩) := by rw [← Array.getD_eq_getD_getElem?]; exact e2
      refine op_val (.pointer (some ⟨w.heap.size, 4, none⟩)) ?_ hC (Below.refl _ _) (by intro d hd; cases hd; exact rfl)
      (clear hV hI hC; go_simp <;> (first | rfl | simp | (rw [IntKind.wrap_i64]; omega)))
    case o10 =>
      intro Q a w2 hC hV hI
      have e9 : a.eval (.tmp 9) = .pointer (some ⟨w.heap.size, 4, none⟩) := hV 9 (by simp [Op.operands]) (by kernel_rfl)
      have f9 : a.tmps.getD 9 undef = .pointer (some ⟨w.heap.size, 4, none⟩) := e9
      have g9 : a.tmps[9]?.getD undef = .pointer (some ⟨w.heap.size, 4, none⟩) := by rw [← Array.getD_eq_getD_getElem?]; exact e9
      have hK := KC.out w2 hC
      refine op_val (.int .i64 u1) ?_ hC (Below.refl _ _) (by intro d hd; cases hd; exact rfl)
      (clear hV hI hC; go_simp <;> (first | rfl | simp | (rw [IntKind.wrap_i64]; omega)))
    case o11 =>
      intro Q a w2 hC hV hI
      have e2 : a.eval (.tmp 2) = .pointer (some ⟨w.heap.size, 0, none⟩) := (hI 2 (by simp [Op.operands]) (by kernel_rfl)).trans rfl
      have f2 : a.tmps.getD 2 undef = .pointer (some ⟨w.heap.size, 0, none⟩) := e2
      have g2 : a.tmps[2]?.getD undef = .pointer (some ⟨w.heap.size, 0, none⟩) := by rw [← Array.getD_eq_getD_getElem?]; exact e2
      refine op_val (.pointer (some ⟨w.heap.size, 5, none⟩)) ?_ hC (Below.refl _ _) (by intro d hd; cases hd; exact rfl)
      (clear hV hI hC; go_simp <;> (first | rfl | simp | (rw [IntKind.wrap_i64]; omega)))
    case o12 =>
      intro Q a w2 hC hV hI
      have e11 : a.eval (.tmp 11) = .pointer (some ⟨w.heap.size, 5, none⟩) := hV 11 (by simp [Op.operands]) (by kernel_rfl)
      have f11 : a.tmps.getD 11 undef = .pointer (some ⟨w.heap.size, 5, none⟩) := e11
      have g11 : a.tmps[11]?.getD undef = .pointer (some ⟨w.heap.size, 5, none⟩) := by rw [← Array.getD_eq_getD_getElem?]; exact e11
      have hK := KC.out w2 hC
      refine op_val (.int .i64 gi) ?_ hC (Below.refl _ _) (by intro d hd; cases hd; exact rfl)
      (clear hV hI hC; go_simp <;> (first | rfl | simp | (rw [IntKind.wrap_i64]; omega)))
    case o13 =>
      intro Q a w2 hC hV hI
      have e2 : a.eval (.tmp 2) = .pointer (some ⟨w.heap.size, 0, none⟩) := (hI 2 (by simp [Op.operands]) (by kernel_rfl)).trans rfl
      have f2 : a.tmps.getD 2 undef = .pointer (some ⟨w.heap.size, 0, none⟩) := e2
      have g2 : a.tmps[2]?.getD undef = .pointer (some ⟨w.heap.size, 0, none⟩) := by rw [← Array.getD_eq_getD_getElem?]; exact e2
      refine op_val (.pointer (some ⟨w.heap.size, 6, none⟩)) ?_ hC (Below.refl _ _) (by intro d hd; cases hd; exact rfl)
      (clear hV hI hC; go_simp <;> (first | rfl | simp | (rw [IntKind.wrap_i64]; omega)))
    case o14 =>
      intro Q a w2 hC hV hI
      have e13 : a.eval (.tmp 13) = .pointer (some ⟨w.heap.size, 6, none⟩) := hV 13 (by simp [Op.operands]) (by kernel_rfl)
      have f13 : a.tmps.getD 13 undef = .pointer (some ⟨w.heap.size, 6, none⟩) := e13
      have g13 : a.tmps[13]?.getD undef = .pointer (some ⟨w.heap.size, 6, none⟩) := by rw [← Array.getD_eq_getD_getElem?]; exact e13
      have hK := KC.out w2 hC
      refine op_val (.int .i64 t) ?_ hC (Below.refl _ _) (by intro d hd; cases hd; exact rfl)
      (clear hV hI hC; go_simp <;> (first | rfl | simp | (rw [IntKind.wrap_i64]; omega)))
    case o15 =>
      intro Q a w2 hC hV hI
      have e2 : a.eval (.tmp 2) = .pointer (some ⟨w.heap.size, 0, none⟩) := (hI 2 (by simp [Op.operands]) (by kernel_rfl)).trans rfl
      have f2 : a.tmps.getD 2 undef = .pointer (some ⟨w.heap.size, 0, none⟩) := e2
      have g2 : a.tmps[2]?.getD undef = .pointer (some ⟨w.heap.size, 0, none⟩) := by rw [← Array.getD_eq_getD_getElem?]; exact e2
      refine op_val (.pointer (some ⟨w.heap.size, 1, none⟩)) ?_ hC (Below.refl _ _) (by intro d hd; cases hd; exact rfl)
      (clear hV hI hC; go_simp <;> (first | rfl | simp | (rw [IntKind.wrap_i64]; omega)))
    case o16 =>
      intro Q a w2 hC hV hI
      have e15 : a.eval (.tmp 15) = .pointer (some ⟨w.heap.size, 1, none⟩) := hV 15 (by simp [Op.operands]) (by kernel_rfl)
      have f15 : a.tmps.getD 15 undef = .pointer (some ⟨w.heap.size, 1, none⟩) := e15
      have g15 : a.tmps[15]?.getD undef = .pointer (some ⟨w.heap.size, 1, none⟩) := by rw [← Array.getD_eq_getD_getElem?]; exact e15
      have hK := KC.out w2 hC
      refine op_val (.string p) ?_ hC (Below.refl _ _) (by intro d hd; cases hd; exact rfl)
      (clear hV hI hC; go_simp <;> (first | rfl | simp | (rw [IntKind.wrap_i64]; omega)))
    case o17 =>
      intro Q a w2 hC hV hI
      have e16 : a.eval (.tmp 16) = .string p := hV 16 (by simp [Op.operands, Call.operands]) (by kernel_rfl)
      have f16 : a.tmps.getD 16 undef = .string p := e16
      have g16 : a.tmps[16]?.getD undef = .string p := by rw [← Array.getD_eq_getD_getElem?]; exact e16
      refine op_call (f := 125) (args := #[.string p]) (R := fun v y => v = .string p ∧ Below w2.heap.size w2 y) ?_ ((HC.out w2).mono ?_) ?_
      · (clear hV hI hC; go_simp <;> (first | rfl | simp | (rw [IntKind.wrap_i64]; omega)))
      · rintro e y ⟨rfl, hb⟩; exact ⟨_, rfl, rfl, hb⟩
      · rintro v y ⟨rfl, hb⟩; exact ⟨hC.trans (hb.mono hC.size), hb, by intro d hd; cases hd; exact rfl⟩
    case o18 =>
      intro Q a w2 hC hV hI
      have e6 : a.eval (.tmp 6) = .int .i64 ino := hV 6 (by simp [Op.operands]) (by kernel_rfl)
      have f6 : a.tmps.getD 6 undef = .int .i64 ino := e6
      have g6 : a.tmps[6]?.getD undef = .int .i64 ino := by rw [← Array.getD_eq_getD_getElem?]; exact e6
      have e8 : a.eval (.tmp 8) = .int .i64 m := hV 8 (by simp [Op.operands]) (by kernel_rfl)
      have f8 : a.tmps.getD 8 undef = .int .i64 m := e8
      have g8 : a.tmps[8]?.getD undef = .int .i64 m := by rw [← Array.getD_eq_getD_getElem?]; exact e8
      have e10 : a.eval (.tmp 10) = .int .i64 u1 := hV 10 (by simp [Op.operands]) (by kernel_rfl)
      have f10 : a.tmps.getD 10 undef = .int .i64 u1 := e10
      have g10 : a.tmps[10]?.getD undef = .int .i64 u1 := by rw [← Array.getD_eq_getD_getElem?]; exact e10
      have e12 : a.eval (.tmp 12) = .int .i64 gi := hV 12 (by simp [Op.operands]) (by kernel_rfl)
      have f12 : a.tmps.getD 12 undef = .int .i64 gi := e12
      have g12 : a.tmps[12]?.getD undef = .int .i64 gi := by rw [← Array.getD_eq_getD_getElem?]; exact e12
      have e14 : a.eval (.tmp 14) = .int .i64 t := hV 14 (by simp [Op.operands]) (by kernel_rfl)
      have f14 : a.tmps.getD 14 undef = .int .i64 t := e14
      have g14 : a.tmps[14]?.getD undef = .int .i64 t := by rw [← Array.getD_eq_getD_getElem?]; exact e14
      have e17 : a.eval (.tmp 17) = .string p := hV 17 (by simp [Op.operands]) (by kernel_rfl)
      have f17 : a.tmps.getD 17 undef = .string p := e17
      have g17 : a.tmps[17]?.getD undef = .string p := by rw [← Array.getD_eq_getD_getElem?]; exact e17
      refine op_val (.agg #[.int .i64 ino, .int .i64 m, .int .i64 u1, .int .i64 gi, .int .i64 0, .int .i64 t, .string p, .string ⟨#[]⟩]) ?_ hC (Below.refl _ _) (by intro d hd; cases hd; exact rfl)
      (clear hV hI hC; go_simp <;> (first | rfl | simp | (rw [IntKind.wrap_i64]; omega)))
    case o5 =>
      intro Q a w2 hC hV hI
      refine op_val (.pointer (some ⟨w2.heap.size, 0, none⟩)) (w' := w2.alloc (.cells #[.int .i64 0, .int .i64 0, .int .i64 0, .int .i64 0, .int .i64 0, .int .i64 0, .string ⟨#[]⟩, .string ⟨#[]⟩] 48)) ?_ (hC.alloc hC.size _) ((Below.refl _ _).alloc (Nat.le_refl _) _) ?_
      · (clear hV hI hC; go_simp <;> (first | rfl | simp | (rw [IntKind.wrap_i64]; omega)))
      · intro d hd; cases hd; exact ⟨w2.heap.size, rfl, hC.size, heap_lastG _ _⟩
  case hend =>
    intro f w2 hC hall
    simp only [List.take_succ_cons, List.take_zero, List.drop_succ_cons, List.drop_zero] at hall ⊢
    simp only [List.forall_mem_cons] at hall
    obtain ⟨h6, h7, h8, h9, h10, h11, h12, h13, h14, h15, h16, h17, h18, h5, _⟩ := hall
    replace h6 : f 6 = .int .i64 ino := h6 6 rfl
    replace h7 : f 7 = .pointer (some ⟨w.heap.size, 3, none⟩) := h7 7 rfl
    replace h8 : f 8 = .int .i64 m := h8 8 rfl
    replace h9 : f 9 = .pointer (some ⟨w.heap.size, 4, none⟩) := h9 9 rfl
    replace h10 : f 10 = .int .i64 u1 := h10 10 rfl
    replace h11 : f 11 = .pointer (some ⟨w.heap.size, 5, none⟩) := h11 11 rfl
    replace h12 : f 12 = .int .i64 gi := h12 12 rfl
    replace h13 : f 13 = .pointer (some ⟨w.heap.size, 6, none⟩) := h13 13 rfl
    replace h14 : f 14 = .int .i64 t := h14 14 rfl
    replace h15 : f 15 = .pointer (some ⟨w.heap.size, 1, none⟩) := h15 15 rfl
    replace h16 : f 16 = .string p := h16 16 rfl
    replace h17 : f 17 = .string p := h17 17 rfl
    replace h18 : f 18 = .agg #[.int .i64 ino, .int .i64 m, .int .i64 u1, .int .i64 gi, .int .i64 0, .int .i64 t, .string p, .string ⟨#[]⟩] := h18 18 rfl
    obtain ⟨G5, hG5, hGB5, hGO5⟩ : ∃ G, f 5 = .pointer (some ⟨G, 0, none⟩) ∧ w1.heap.size ≤ G ∧ w2.heap[G]? = some (.cells #[.int .i64 0, .int .i64 0, .int .i64 0, .int .i64 0, .int .i64 0, .int .i64 0, .string ⟨#[]⟩, .string ⟨#[]⟩] 48 (0, 0)) := h5 5 rfl
    simp only [putAll, Act.put, List.setIfInBounds_toArray, List.set_cons_succ, List.set_cons_zero, h6, h7, h8, h9, h10, h11, h12, h13, h14, h15, h16, h17, h18, hG5]
    clear h6 h7 h8 h9 h10 h11 h12 h13 h14 h15 h16 h17 h18 hG5 h5
    clear KC
    replace EO := Lib.hid (EO.out.below hC (by omega))
    replace RO := Lib.hid (RO.out.below hC (by omega))
    have hB2 := btE B0.out (hC.mono (Nat.le_refl _))
    have XO : CardO w2 G5 zeroC := hGO5
    have hne0 : ¬ w.heap.size = G5 := by omega
    have hne1 : ¬ w.heap.size + 1 = G5 := by omega
    have hlt5 : w.heap.size ≤ G5 := by omega
    obtain ⟨d0, d1, d2, d3, d4, d5, d6, d7⟩ := XO.at.zero
    have f0 := XO.fz 0
    have f1 := XO.fz 1
    have f2 := XO.fz 2
    have f3 := XO.fz 3
    have f4 := XO.fz 4
    have f5 := XO.fz 5
    have f6 := XO.fz 6
    have f7 := XO.fz 7
    have XP := XO.put ⟨ino, m, u1, gi, 0, t, p, ⟨#[]⟩⟩
    have EP : EntO (putOC w2 G5 ⟨ino, m, u1, gi, 0, t, p, ⟨#[]⟩⟩) w.heap.size ⟨2, p, l, m, u1, gi, t, us, gr, b⟩ := (putOC_other hne0).trans EO.out
    have RP : CardO (putOC w2 G5 ⟨ino, m, u1, gi, 0, t, p, ⟨#[]⟩⟩) (w.heap.size + 1) zeroC := (putOC_other hne1).trans RO.out
    have BP := below_putOC (g := G5) hB2 hlt5 ⟨ino, m, u1, gi, 0, t, p, ⟨#[]⟩⟩
    simp only [putOC] at XP EP RP BP
    go_upto_region 2 with fail
    obtain ⟨w3, hw3⟩ : ∃ x, x = ((((((((w2.setCell ⟨G5, 0, none⟩ (.int .i64 ino)).setCell ⟨G5, 1, none⟩ (.int .i64 m)).setCell ⟨G5, 2, none⟩ (.int .i64 u1)).setCell ⟨G5, 3, none⟩ (.int .i64 gi)).setCell ⟨G5, 4, none⟩ (.int .i64 0)).setCell ⟨G5, 5, none⟩ (.int .i64 t)).setCell ⟨G5, 6, none⟩ (.string p)).setCell ⟨G5, 7, none⟩ (.string ⟨#[]⟩)) := ⟨_, rfl⟩
    rw [← hw3] at XP EP RP BP ⊢
    have X := Lib.hid XP
    have R := Lib.hid RP
    have Bw := Lib.hid BP
    obtain ⟨e0, e1, e2, e3, e4, e5, e6, e7, e8, e9⟩ := EP.at.zero
    clear XP RP BP hw3 d0 d1 d2 d3 d4 d5 d6 d7 f0 f1 f2 f3 f4 f5 f6 f7 XO hGO5 hB2 EO RO
    obtain ⟨d0, d1, d2, d3, d4, d5, d6, d7⟩ := X.out.at.zero
    have f1 := X.out.fz 1
    have XP := X.out.set (e' := ⟨ino, m + 40960, u1, gi, 0, t, p, ⟨#[]⟩⟩) 1 (.int .i64 (m + 40960)) rfl
    have RP : CardO (w3.setCell ⟨G5, 1, none⟩ (.int .i64 (m + 40960))) (w.heap.size + 1) zeroC := R.out.other hne1
    have EP2 : EntO (w3.setCell ⟨G5, 1, none⟩ (.int .i64 (m + 40960))) w.heap.size ⟨2, p, l, m, u1, gi, t, us, gr, b⟩ := EP.other hne0
    have BP := Bw.out.setCell (p := ⟨G5, 1, none⟩) hlt5 (.int .i64 (m + 40960))
    go_wp2_with fail
    obtain ⟨w4, hw4⟩ : ∃ x, x = w3.setCell ⟨G5, 1, none⟩ (.int .i64 (m + 40960)) := ⟨_, rfl⟩
    rw [← hw4] at XP RP BP EP2 ⊢
    clear hw4 EP2 e0 e1 e2 e3 e4 e5 e6 e7 e8 e9 d0 d1 d2 d3 d4 d5 d6 d7 f1 EP X R Bw
    refine (HD.out _).mono ?_
    rintro e w5 ⟨rfl, hb⟩
    have X := Lib.hid (XP.below hb XP.lt)
    have R := Lib.hid (RP.below hb RP.lt)
    have Bw := Lib.hid (btE BP hb)
    clear hb XP RP BP
    obtain ⟨d0, d1, d2, d3, d4, d5, d6, d7⟩ := X.out.at.zero
    have f7 := X.out.fz 7
    have XP := X.out.set (e' := ⟨ino, m + 40960, u1, gi, 0, t, p, l⟩) 7 (.string l) rfl
    have RP : CardO (w5.setCell ⟨G5, 7, none⟩ (.string l)) (w.heap.size + 1) zeroC := R.out.other hne1
    have BP := Bw.out.setCell (p := ⟨G5, 7, none⟩) hlt5 (.string l)
    go_upto_region 10 with fail
    obtain ⟨w6, hw6⟩ : ∃ x, x = w5.setCell ⟨G5, 7, none⟩ (.string l) := ⟨_, rfl⟩
    rw [← hw6] at XP RP BP ⊢
    clear hw6 d0 d1 d2 d3 d4 d5 d6 d7 f7 X R Bw
    obtain ⟨x0, x1, x2, x3, x4, x5, x6, x7⟩ := XP.at.zero
    obtain ⟨d0, d1, d2, d3, d4, d5, d6, d7⟩ := RP.at.zero
    have f0 := RP.fz 0
    have f1 := RP.fz 1
    have f2 := RP.fz 2
    have f3 := RP.fz 3
    have f4 := RP.fz 4
    have f5 := RP.fz 5
    have f6 := RP.fz 6
    have f7 := RP.fz 7
    have R9 := RP.put ⟨ino, m + 40960, u1, gi, 0, t, p, l⟩
    have B9 := below_putOC (g := w.heap.size + 1) BP (by omega) ⟨ino, m + 40960, u1, gi, 0, t, p, l⟩
    simp only [putOC] at R9 B9
    go_wp2_with fail
    refine bodyPost_ret (res_OC1 rfl _ rfl R9) rfl ?_
    exact ⟨rfl, B9⟩
set_option maxHeartbeats 3200000 in
set_option maxRecDepth 8000 in
theorem cardOf_fil (k : Int) (p l : ByteArray) (m u1 gi t : Int) (us gr b : ByteArray) (ino : Int) (w : World) (hk1 : ¬ k = 1) (hk2 : ¬ k = 2) (hp : p.size ≤ 4194304) (hb : b.size ≤ 4194304) (hm0 : 0 ≤ m) (hm1 : m ≤ 4095) :
    Calls Tryz.prog 106 #[.agg #[.int .i64 k, .string p, .string l, .int .i64 m, .int .i64 u1, .int .i64 gi, .int .i64 t, .string us, .string gr, .string b], .int .i64 ino] w fun e w' => e = .returned (.agg #[.int .i64 ino, .int .i64 (m + 32768), .int .i64 u1, .int .i64 gi, .int .i64 0, .int .i64 t, .string p, .string b]) ∧ Below w.heap.size w w' := by
  have q1 : (k == 1) = false := by simpa using hk1
  have q2 : (k == 2) = false := by simpa using hk2
  have HC := Lib.hid (fun w => clone_any p w (by omega))
  have HD := Lib.hid (fun w => clone_any b w (by omega))
  go_enter Tryz.func106, Tryz.ntmps106
  go_upto_region 1 with fail
  generalize hw1 : World.alloc (World.alloc w _) _ = w1
  have EO : Hid (EntO w1 w.heap.size ⟨k, p, l, m, u1, gi, t, us, gr, b⟩) := Lib.hid (by rw [← hw1]; exact (EntO.new w ⟨k, p, l, m, u1, gi, t, us, gr, b⟩).below (B := w.heap.size + 1) ((Below.refl _ _).alloc (by simp) _) (by omega))
  have RO : Hid (CardO w1 (w.heap.size + 1) zeroC) := Lib.hid (by rw [← hw1]; exact CardO.newAt (w.alloc (.cells (Ent.cells ⟨k, p, l, m, u1, gi, t, us, gr, b⟩).toArray 45)) zeroC _ (by simp))
  have B0 : Hid (Below w.heap.size w w1) := Lib.hid (by rw [← hw1]; exact ((Below.refl _ _).alloc (Nat.le_refl _) _).alloc (by simp) _)
  have hs1 : w1.heap.size = w.heap.size + 2 := by rw [← hw1]; simp
  clear hw1
  have KC : Hid (∀ w', Below w1.heap.size w1 w' → w'.cell? ⟨w.heap.size, 1, none⟩ = some (.string p) ∧ w'.cell? ⟨w.heap.size, 3, none⟩ = some (.int .i64 m) ∧ w'.cell? ⟨w.heap.size, 4, none⟩ = some (.int .i64 u1) ∧ w'.cell? ⟨w.heap.size, 5, none⟩ = some (.int .i64 gi) ∧ w'.cell? ⟨w.heap.size, 6, none⟩ = some (.int .i64 t)) := Lib.hid (fun w' hb => by
    obtain ⟨d0, d1, d2, d3, d4, d5, d6, d7, d8, d9⟩ := (EO.out.below hb (by omega)).at.zero
    exact ⟨d1, d3, d4, d5, d6⟩)
  refine wp_region_cut 14 (by kernel_rfl) (fun w' => Below w1.heap.size w1 w') (fun x y => Below x.heap.size x y) (vBxG 5 48 w1.heap.size #[.int .i64 0, .int .i64 0, .int .i64 0, .int .i64 0, .int .i64 0, .int .i64 0, .string ⟨#[]⟩, .string ⟨#[]⟩] (fun d v => match d with | 6 => v = .int .i64 ino | 7 => v = .pointer (some ⟨w.heap.size, 3, none⟩) | 8 => v = .int .i64 m | 9 => v = .pointer (some ⟨w.heap.size, 4, none⟩) | 10 => v = .int .i64 u1 | 11 => v = .pointer (some ⟨w.heap.size, 5, none⟩) | 12 => v = .int .i64 gi | 13 => v = .pointer (some ⟨w.heap.size, 6, none⟩) | 14 => v = .int .i64 t | 15 => v = .pointer (some ⟨w.heap.size, 1, none⟩) | 16 => v = .string p | 17 => v = .string p | 18 => v = .agg #[.int .i64 ino, .int .i64 m, .int .i64 u1, .int .i64 gi, .int .i64 0, .int .i64 t, .string p, .string ⟨#[]⟩] | _ => True)) (by kernel_rfl) (by kernel_rfl) ((Below.refl _ _).drew) (vBxG_keep _ _ _ _ _) (by simp) ?hops ?hend
  case hops =>
    simp only [List.take_succ_cons, List.take_zero, List.forall_mem_cons]
    refine ⟨?o6, ?o7, ?o8, ?o9, ?o10, ?o11, ?o12, ?o13, ?o14, ?o15, ?o16, ?o17, ?o18, ?o5, fun _ h => by cases h⟩
    case o6 =>
      intro Q a w2 hC hV hI
      have e1 : a.eval (.tmp 1) = .int .i64 ino := (hI 1 (by simp [Op.operands]) (by kernel_rfl)).trans rfl
      have f1 : a.tmps.getD 1 undef = .int .i64 ino := e1
      have g1 : a.tmps[1]?.getD undef = .int .i64 ino := by rw [← Array.getD_eq_getD_getElem?]; exact e1
      refine op_val (.int .i64 ino) ?_ hC (Below.refl _ _) (by intro d hd; cases hd; exact rfl)
      (clear hV hI hC; go_simp <;> (first | rfl | simp | (rw [IntKind.wrap_i64]; omega)))
    case o7 =>
      intro Q a w2 hC hV hI
      have e2 : a.eval (.tmp 2) = .pointer (some ⟨w.heap.size, 0, none⟩) := (hI 2 (by simp [Op.operands]) (by kernel_rfl)).trans rfl
      have f2 : a.tmps.getD 2 undef = .pointer (some ⟨w.heap.size, 0, none⟩) := e2
      have g2 : a.tmps[2]?.getD undef = .pointer (some ⟨w.heap.size, 0, none⟩) := by rw [← Array.getD_eq_getD_getElem?]; exact e2
      refine op_val (.pointer (some ⟨w.heap.size, 3, none⟩)) ?_ hC (Below.refl _ _) (by intro d hd; cases hd; exact rfl)
      (clear hV hI hC; go_simp <;> (first | rfl | simp | (rw [IntKind.wrap_i64]; omega)))
    case o8 =>
      intro Q a w2 hC hV hI
      have e7 : a.eval (.tmp 7) = .pointer (some ⟨w.heap.size, 3, none⟩) := hV 7 (by simp [Op.operands]) (by kernel_rfl)
      have f7 : a.tmps.getD 7 undef = .pointer (some ⟨w.heap.size, 3, none⟩) := e7
      have g7 : a.tmps[7]?.getD undef = .pointer (some ⟨w.heap.size, 3, none⟩) := by rw [← Array.getD_eq_getD_getElem?]; exact e7
      have hK := KC.out w2 hC
      refine op_val (.int .i64 m) ?_ hC (Below.refl _ _) (by intro d hd; cases hd; exact rfl)
      (clear hV hI hC; go_simp <;> (first | rfl | simp | (rw [IntKind.wrap_i64]; omega)))
    case o9 =>
      intro Q a w2 hC hV hI
      have e2 : a.eval (.tmp 2) = .pointer (some ⟨w.heap.size, 0, none⟩) := (hI 2 (by simp [Op.operands]) (by kernel_rfl)).trans rfl
      have f2 : a.tmps.getD 2 undef = .pointer (some ⟨w.heap.size, 0, none⟩) := e2
      have g2 : a.tmps[2]?.getD undef = .pointer (some ⟨w.heap.size, 0, none⟩) := by rw [← Array.getD_eq_getD_getElem?]; exact e2
      refine op_val (.pointer (some ⟨w.heap.size, 4, none⟩)) ?_ hC (Below.refl _ _) (by intro d hd; cases hd; exact rfl)
      (clear hV hI hC; go_simp <;> (first | rfl | simp | (rw [IntKind.wrap_i64]; omega)))
    case o10 =>
      intro Q a w2 hC hV hI
      have e9 : a.eval (.tmp 9) = .pointer (some ⟨w.heap.size, 4, none⟩) := hV 9 (by simp [Op.operands]) (by kernel_rfl)
      have f9 : a.tmps.getD 9 undef = .pointer (some ⟨w.heap.size, 4, none⟩) := e9
      have g9 : a.tmps[9]?.getD undef = .pointer (some ⟨w.heap.size, 4, none⟩) := by rw [← Array.getD_eq_getD_getElem?]; exact e9
      have hK := KC.out w2 hC
      refine op_val (.int .i64 u1) ?_ hC (Below.refl _ _) (by intro d hd; cases hd; exact rfl)
      (clear hV hI hC; go_simp <;> (first | rfl | simp | (rw [IntKind.wrap_i64]; omega)))
    case o11 =>
      intro Q a w2 hC hV hI
      have e2 : a.eval (.tmp 2) = .pointer (some ⟨w.heap.size, 0, none⟩) := (hI 2 (by simp [Op.operands]) (by kernel_rfl)).trans rfl
      have f2 : a.tmps.getD 2 undef = .pointer (some ⟨w.heap.size, 0, none⟩) := e2
      have g2 : a.tmps[2]?.getD undef = .pointer (some ⟨w.heap.size, 0, none⟩) := by rw [← Array.getD_eq_getD_getElem?]; exact e2
      refine op_val (.pointer (some ⟨w.heap.size, 5, none⟩)) ?_ hC (Below.refl _ _) (by intro d hd; cases hd; exact rfl)
      (clear hV hI hC; go_simp <;> (first | rfl | simp | (rw [IntKind.wrap_i64]; omega)))
    case o12 =>
      intro Q a w2 hC hV hI
      have e11 : a.eval (.tmp 11) = .pointer (some ⟨w.heap.size, 5, none⟩) := hV 11 (by simp [Op.operands]) (by kernel_rfl)
      have f11 : a.tmps.getD 11 undef = .pointer (some ⟨w.heap.size, 5, none⟩) := e11
      have g11 : a.tmps[11]?.getD undef = .pointer (some ⟨w.heap.size, 5, none⟩) := by rw [← Array.getD_eq_getD_getElem?]; exact e11
      have hK := KC.out w2 hC
      refine op_val (.int .i64 gi) ?_ hC (Below.refl _ _) (by intro d hd; cases hd; exact rfl)
      (clear hV hI hC; go_simp <;> (first | rfl | simp | (rw [IntKind.wrap_i64]; omega)))
    case o13 =>
      intro Q a w2 hC hV hI
      have e2 : a.eval (.tmp 2) = .pointer (some ⟨w.heap.size, 0, none⟩) := (hI 2 (by simp [Op.operands]) (by kernel_rfl)).trans rfl
      have f2 : a.tmps.getD 2 undef = .pointer (some ⟨w.heap.size, 0, none⟩) := e2
      have g2 : a.tmps[2]?.getD undef = .pointer (some ⟨w.heap.size, 0, none⟩) := by rw [← Array.getD_eq_getD_getElem?]; exact e2
      refine op_val (.pointer (some ⟨w.heap.size, 6, none⟩)) ?_ hC (Below.refl _ _) (by intro d hd; cases hd; exact rfl)
      (clear hV hI hC; go_simp <;> (first | rfl | simp | (rw [IntKind.wrap_i64]; omega)))
    case o14 =>
      intro Q a w2 hC hV hI
      have e13 : a.eval (.tmp 13) = .pointer (some ⟨w.heap.size, 6, none⟩) := hV 13 (by simp [Op.operands]) (by kernel_rfl)
      have f13 : a.tmps.getD 13 undef = .pointer (some ⟨w.heap.size, 6, none⟩) := e13
      have g13 : a.tmps[13]?.getD undef = .pointer (some ⟨w.heap.size, 6, none⟩) := by rw [← Array.getD_eq_getD_getElem?]; exact e13
      have hK := KC.out w2 hC
      refine op_val (.int .i64 t) ?_ hC (Below.refl _ _) (by intro d hd; cases hd; exact rfl)
      (clear hV hI hC; go_simp <;> (first | rfl | simp | (rw [IntKind.wrap_i64]; omega)))
    case o15 =>
      intro Q a w2 hC hV hI
      have e2 : a.eval (.tmp 2) = .pointer (some ⟨w.heap.size, 0, none⟩) := (hI 2 (by simp [Op.operands]) (by kernel_rfl)).trans rfl
      have f2 : a.tmps.getD 2 undef = .pointer (some ⟨w.heap.size, 0, none⟩) := e2
      have g2 : a.tmps[2]?.getD undef = .pointer (some ⟨w.heap.size, 0, none⟩) := by rw [← Array.getD_eq_getD_getElem?]; exact e2
      refine op_val (.pointer (some ⟨w.heap.size, 1, none⟩)) ?_ hC (Below.refl _ _) (by intro d hd; cases hd; exact rfl)
      (clear hV hI hC; go_simp <;> (first | rfl | simp | (rw [IntKind.wrap_i64]; omega)))
    case o16 =>
      intro Q a w2 hC hV hI
      have e15 : a.eval (.tmp 15) = .pointer (some ⟨w.heap.size, 1, none⟩) := hV 15 (by simp [Op.operands]) (by kernel_rfl)
      have f15 : a.tmps.getD 15 undef = .pointer (some ⟨w.heap.size, 1, none⟩) := e15
      have g15 : a.tmps[15]?.getD undef = .pointer (some ⟨w.heap.size, 1, none⟩) := by rw [← Array.getD_eq_getD_getElem?]; exact e15
      have hK := KC.out w2 hC
      refine op_val (.string p) ?_ hC (Below.refl _ _) (by intro d hd; cases hd; exact rfl)
      (clear hV hI hC; go_simp <;> (first | rfl | simp | (rw [IntKind.wrap_i64]; omega)))
    case o17 =>
      intro Q a w2 hC hV hI
      have e16 : a.eval (.tmp 16) = .string p := hV 16 (by simp [Op.operands, Call.operands]) (by kernel_rfl)
      have f16 : a.tmps.getD 16 undef = .string p := e16
      have g16 : a.tmps[16]?.getD undef = .string p := by rw [← Array.getD_eq_getD_getElem?]; exact e16
      refine op_call (f := 125) (args := #[.string p]) (R := fun v y => v = .string p ∧ Below w2.heap.size w2 y) ?_ ((HC.out w2).mono ?_) ?_
      · (clear hV hI hC; go_simp <;> (first | rfl | simp | (rw [IntKind.wrap_i64]; omega)))
      · rintro e y ⟨rfl, hb⟩; exact ⟨_, rfl, rfl, hb⟩
      · rintro v y ⟨rfl, hb⟩; exact ⟨hC.trans (hb.mono hC.size), hb, by intro d hd; cases hd; exact rfl⟩
    case o18 =>
      intro Q a w2 hC hV hI
      have e6 : a.eval (.tmp 6) = .int .i64 ino := hV 6 (by simp [Op.operands]) (by kernel_rfl)
      have f6 : a.tmps.getD 6 undef = .int .i64 ino := e6
      have g6 : a.tmps[6]?.getD undef = .int .i64 ino := by rw [← Array.getD_eq_getD_getElem?]; exact e6
      have e8 : a.eval (.tmp 8) = .int .i64 m := hV 8 (by simp [Op.operands]) (by kernel_rfl)
      have f8 : a.tmps.getD 8 undef = .int .i64 m := e8
      have g8 : a.tmps[8]?.getD undef = .int .i64 m := by rw [← Array.getD_eq_getD_getElem?]; exact e8
      have e10 : a.eval (.tmp 10) = .int .i64 u1 := hV 10 (by simp [Op.operands]) (by kernel_rfl)
      have f10 : a.tmps.getD 10 undef = .int .i64 u1 := e10
      have g10 : a.tmps[10]?.getD undef = .int .i64 u1 := by rw [← Array.getD_eq_getD_getElem?]; exact e10
      have e12 : a.eval (.tmp 12) = .int .i64 gi := hV 12 (by simp [Op.operands]) (by kernel_rfl)
      have f12 : a.tmps.getD 12 undef = .int .i64 gi := e12
      have g12 : a.tmps[12]?.getD undef = .int .i64 gi := by rw [← Array.getD_eq_getD_getElem?]; exact e12
      have e14 : a.eval (.tmp 14) = .int .i64 t := hV 14 (by simp [Op.operands]) (by kernel_rfl)
      have f14 : a.tmps.getD 14 undef = .int .i64 t := e14
      have g14 : a.tmps[14]?.getD undef = .int .i64 t := by rw [← Array.getD_eq_getD_getElem?]; exact e14
      have e17 : a.eval (.tmp 17) = .string p := hV 17 (by simp [Op.operands]) (by kernel_rfl)
      have f17 : a.tmps.getD 17 undef = .string p := e17
      have g17 : a.tmps[17]?.getD undef = .string p := by rw [← Array.getD_eq_getD_getElem?]; exact e17
      refine op_val (.agg #[.int .i64 ino, .int .i64 m, .int .i64 u1, .int .i64 gi, .int .i64 0, .int .i64 t, .string p, .string ⟨#[]⟩]) ?_ hC (Below.refl _ _) (by intro d hd; cases hd; exact rfl)
      (clear hV hI hC; go_simp <;> (first | rfl | simp | (rw [IntKind.wrap_i64]; omega)))
    case o5 =>
      intro Q a w2 hC hV hI
      refine op_val (.pointer (some ⟨w2.heap.size, 0, none⟩)) (w' := w2.alloc (.cells #[.int .i64 0, .int .i64 0, .int .i64 0, .int .i64 0, .int .i64 0, .int .i64 0, .string ⟨#[]⟩, .string ⟨#[]⟩] 48)) ?_ (hC.alloc hC.size _) ((Below.refl _ _).alloc (Nat.le_refl _) _) ?_
      · (clear hV hI hC; go_simp <;> (first | rfl | simp | (rw [IntKind.wrap_i64]; omega)))
      · intro d hd; cases hd; exact ⟨w2.heap.size, rfl, hC.size, heap_lastG _ _⟩
  case hend =>
    intro f w2 hC hall
    simp only [List.take_succ_cons, List.take_zero, List.drop_succ_cons, List.drop_zero] at hall ⊢
    simp only [List.forall_mem_cons] at hall
    obtain ⟨h6, h7, h8, h9, h10, h11, h12, h13, h14, h15, h16, h17, h18, h5, _⟩ := hall
    replace h6 : f 6 = .int .i64 ino := h6 6 rfl
    replace h7 : f 7 = .pointer (some ⟨w.heap.size, 3, none⟩) := h7 7 rfl
    replace h8 : f 8 = .int .i64 m := h8 8 rfl
    replace h9 : f 9 = .pointer (some ⟨w.heap.size, 4, none⟩) := h9 9 rfl
    replace h10 : f 10 = .int .i64 u1 := h10 10 rfl
    replace h11 : f 11 = .pointer (some ⟨w.heap.size, 5, none⟩) := h11 11 rfl
    replace h12 : f 12 = .int .i64 gi := h12 12 rfl
    replace h13 : f 13 = .pointer (some ⟨w.heap.size, 6, none⟩) := h13 13 rfl
    replace h14 : f 14 = .int .i64 t := h14 14 rfl
    replace h15 : f 15 = .pointer (some ⟨w.heap.size, 1, none⟩) := h15 15 rfl
    replace h16 : f 16 = .string p := h16 16 rfl
    replace h17 : f 17 = .string p := h17 17 rfl
    replace h18 : f 18 = .agg #[.int .i64 ino, .int .i64 m, .int .i64 u1, .int .i64 gi, .int .i64 0, .int .i64 t, .string p, .string ⟨#[]⟩] := h18 18 rfl
    obtain ⟨G5, hG5, hGB5, hGO5⟩ : ∃ G, f 5 = .pointer (some ⟨G, 0, none⟩) ∧ w1.heap.size ≤ G ∧ w2.heap[G]? = some (.cells #[.int .i64 0, .int .i64 0, .int .i64 0, .int .i64 0, .int .i64 0, .int .i64 0, .string ⟨#[]⟩, .string ⟨#[]⟩] 48 (0, 0)) := h5 5 rfl
    simp only [putAll, Act.put, List.setIfInBounds_toArray, List.set_cons_succ, List.set_cons_zero, h6, h7, h8, h9, h10, h11, h12, h13, h14, h15, h16, h17, h18, hG5]
    clear h6 h7 h8 h9 h10 h11 h12 h13 h14 h15 h16 h17 h18 hG5 h5
    clear KC
    replace EO := Lib.hid (EO.out.below hC (by omega))
    replace RO := Lib.hid (RO.out.below hC (by omega))
    have hB2 := btE B0.out (hC.mono (Nat.le_refl _))
    have XO : CardO w2 G5 zeroC := hGO5
    have hne0 : ¬ w.heap.size = G5 := by omega
    have hne1 : ¬ w.heap.size + 1 = G5 := by omega
    have hlt5 : w.heap.size ≤ G5 := by omega
    obtain ⟨d0, d1, d2, d3, d4, d5, d6, d7⟩ := XO.at.zero
    have f0 := XO.fz 0
    have f1 := XO.fz 1
    have f2 := XO.fz 2
    have f3 := XO.fz 3
    have f4 := XO.fz 4
    have f5 := XO.fz 5
    have f6 := XO.fz 6
    have f7 := XO.fz 7
    have XP := XO.put ⟨ino, m, u1, gi, 0, t, p, ⟨#[]⟩⟩
    have EP : EntO (putOC w2 G5 ⟨ino, m, u1, gi, 0, t, p, ⟨#[]⟩⟩) w.heap.size ⟨k, p, l, m, u1, gi, t, us, gr, b⟩ := (putOC_other hne0).trans EO.out
    have RP : CardO (putOC w2 G5 ⟨ino, m, u1, gi, 0, t, p, ⟨#[]⟩⟩) (w.heap.size + 1) zeroC := (putOC_other hne1).trans RO.out
    have BP := below_putOC (g := G5) hB2 hlt5 ⟨ino, m, u1, gi, 0, t, p, ⟨#[]⟩⟩
    simp only [putOC] at XP EP RP BP
    go_upto_region 2 with fail
    obtain ⟨w3, hw3⟩ : ∃ x, x = ((((((((w2.setCell ⟨G5, 0, none⟩ (.int .i64 ino)).setCell ⟨G5, 1, none⟩ (.int .i64 m)).setCell ⟨G5, 2, none⟩ (.int .i64 u1)).setCell ⟨G5, 3, none⟩ (.int .i64 gi)).setCell ⟨G5, 4, none⟩ (.int .i64 0)).setCell ⟨G5, 5, none⟩ (.int .i64 t)).setCell ⟨G5, 6, none⟩ (.string p)).setCell ⟨G5, 7, none⟩ (.string ⟨#[]⟩)) := ⟨_, rfl⟩
    rw [← hw3] at XP EP RP BP ⊢
    have X := Lib.hid XP
    have R := Lib.hid RP
    have Bw := Lib.hid BP
    obtain ⟨e0, e1, e2, e3, e4, e5, e6, e7, e8, e9⟩ := EP.at.zero
    clear XP RP BP hw3 d0 d1 d2 d3 d4 d5 d6 d7 f0 f1 f2 f3 f4 f5 f6 f7 XO hGO5 hB2 EO RO
    obtain ⟨d0, d1, d2, d3, d4, d5, d6, d7⟩ := X.out.at.zero
    have f1 := X.out.fz 1
    have XP := X.out.set (e' := ⟨ino, m + 32768, u1, gi, 0, t, p, ⟨#[]⟩⟩) 1 (.int .i64 (m + 32768)) rfl
    have RP : CardO (w3.setCell ⟨G5, 1, none⟩ (.int .i64 (m + 32768))) (w.heap.size + 1) zeroC := R.out.other hne1
    have EP2 : EntO (w3.setCell ⟨G5, 1, none⟩ (.int .i64 (m + 32768))) w.heap.size ⟨k, p, l, m, u1, gi, t, us, gr, b⟩ := EP.other hne0
    have BP := Bw.out.setCell (p := ⟨G5, 1, none⟩) hlt5 (.int .i64 (m + 32768))
    go_wp2_with fail
    obtain ⟨w4, hw4⟩ : ∃ x, x = w3.setCell ⟨G5, 1, none⟩ (.int .i64 (m + 32768)) := ⟨_, rfl⟩
    rw [← hw4] at XP RP BP EP2 ⊢
    clear hw4 EP2 e0 e1 e2 e3 e4 e5 e6 e7 e8 e9 d0 d1 d2 d3 d4 d5 d6 d7 f1 EP X R Bw
    refine (HD.out _).mono ?_
    rintro e w5 ⟨rfl, hb⟩
    have X := Lib.hid (XP.below hb XP.lt)
    have R := Lib.hid (RP.below hb RP.lt)
    have Bw := Lib.hid (btE BP hb)
    clear hb XP RP BP
    obtain ⟨d0, d1, d2, d3, d4, d5, d6, d7⟩ := X.out.at.zero
    have f7 := X.out.fz 7
    have XP := X.out.set (e' := ⟨ino, m + 32768, u1, gi, 0, t, p, b⟩) 7 (.string b) rfl
    have RP : CardO (w5.setCell ⟨G5, 7, none⟩ (.string b)) (w.heap.size + 1) zeroC := R.out.other hne1
    have BP := Bw.out.setCell (p := ⟨G5, 7, none⟩) hlt5 (.string b)
    go_upto_region 10 with fail
    obtain ⟨w6, hw6⟩ : ∃ x, x = w5.setCell ⟨G5, 7, none⟩ (.string b) := ⟨_, rfl⟩
    rw [← hw6] at XP RP BP ⊢
    clear hw6 d0 d1 d2 d3 d4 d5 d6 d7 f7 X R Bw
    obtain ⟨x0, x1, x2, x3, x4, x5, x6, x7⟩ := XP.at.zero
    obtain ⟨d0, d1, d2, d3, d4, d5, d6, d7⟩ := RP.at.zero
    have f0 := RP.fz 0
    have f1 := RP.fz 1
    have f2 := RP.fz 2
    have f3 := RP.fz 3
    have f4 := RP.fz 4
    have f5 := RP.fz 5
    have f6 := RP.fz 6
    have f7 := RP.fz 7
    have R9 := RP.put ⟨ino, m + 32768, u1, gi, 0, t, p, b⟩
    have B9 := below_putOC (g := w.heap.size + 1) BP (by omega) ⟨ino, m + 32768, u1, gi, 0, t, p, b⟩
    simp only [putOC] at R9 B9
    go_wp2_with fail
    refine bodyPost_ret (res_OC1 rfl _ rfl R9) rfl ?_
    exact ⟨rfl, B9⟩
/-- The card of an entry but for its count. -/
def cardOfv (ino : Int) (e : Ent) : Card := ⟨ino, e.mode + modev e.kind, e.uid, e.gid, 0, e.time, e.path, if e.kind = 1 then ⟨#[]⟩ else datav e⟩
theorem cardOf_impl (e : Ent) (ino : Int) (w : World) (hz : esz e ≤ 4194304) (hm0 : 0 ≤ e.mode) (hm1 : e.mode ≤ 4095) :
    Calls Tryz.prog 106 #[.agg e.cells.toArray, .int .i64 ino] w fun r w' => r = .returned (.agg (cardOfv ino e).cells.toArray) ∧ Below w.heap.size w w' := by
  obtain ⟨k, p, l, m, u, g, t, us, gr, b⟩ := e
  obtain ⟨hp, hl, _, _, hb⟩ := small_parts hz
  by_cases h1 : k = 1
  · subst h1
    exact cardOf_dir p l m u g t us gr b ino w hp hm0 hm1
  · by_cases h2 : k = 2
    · subst h2
      exact cardOf_sym p l m u g t us gr b ino w hp hl hm0 hm1
    · have := cardOf_fil k p l m u g t us gr b ino w h1 h2 hp hb hm0 hm1
      simpa [Ent.cells, Card.cells, cardOfv, modev, datav, h1, h2] using this
end Go.Proofs.YtcnmbolmgifgfabGreatDoor

/- Maps from texts to numbers, and sets of texts, that a call makes. -/
namespace Go.Proofs.YtcnmbolmgifgfabGreatDoor
open Go.ChangeShapes Go.WideShapes Go.ChangeAt Go.RowKit Go.Maps

theorem lawS : Keyed Tryz.prog 9 := string_keyed Tryz.underlying9
theorem zeroN (w : World) : (zeroValue 3).run Tryz.prog w = .ok (.int .i64 0) w := by kernel_rfl
def keyS (s : ByteArray) : Lit := .string s.data.toList
theorem key_of {s : ByteArray} (h : s.size ≤ maxLen) : keyOf Tryz.prog 9 (.string s) = some (keyS s) := WideMaps.keyOf_string_mk Tryz.underlying9 h
theorem keyS_ne {a b : ByteArray} (h : ¬ a = b) : keyS a ≠ keyS b := by
  intro e
  apply h
  exact ba_ext (by simpa [keyS] using e)
theorem keyS_lit (a : ByteArray) : WideAt.IsKeyLit (keyS a) := trivial
/-- What the map D tells of each text. -/
def MapIs (D : DataW Unit) (M : ByteArray → Option Int) : Prop := IsMap D ∧ ∀ s, Maps.has D (keyS s) = (M s).isSome ∧ ∀ c, M s = some c → D.atKey (keyS s) (.lit (.int .i64 0)) = .lit (.int .i64 c)
/-- Block b is a map from texts to numbers of at most n entries. -/
def MapAt (w : World) (b n : Nat) (M : ByteArray → Option Int) : Prop := ∃ D : DataW Unit, w.ownsMap Tryz.prog 9 (plainElem Tryz.prog 3) b n D ∧ MapIs D M
def putM (M : ByteArray → Option Int) (s : ByteArray) (c : Int) : ByteArray → Option Int := fun t => if t = s then some c else M t
theorem MapIs.put {D : DataW Unit} {M : ByteArray → Option Int} (h : MapIs D M) (s : ByteArray) (c : Int) : MapIs (D.put (keyS s) (.lit (.int .i64 c))) (putM M s c) := by
  refine ⟨h.1.put _ _, fun t => ?_⟩
  by_cases e : t = s
  · subst e
    refine ⟨by rw [Maps.has_put_same h.1 (keyS_lit _)]; simp [putM], fun d hd => ?_⟩
    rw [Maps.atKey_put_same h.1 (keyS_lit _)]
    simp [putM] at hd
    rw [hd]
  · refine ⟨by rw [Maps.has_put_other (keyS_ne e), (h.2 t).1]; simp [putM, e], fun d hd => ?_⟩
    rw [Maps.atKey_put_other (keyS_ne e)]
    simp [putM, e] at hd
    exact (h.2 t).2 d hd
theorem mapIs_empty : MapIs (.map []) (fun _ => none) := ⟨isMap_empty, fun _ => ⟨rfl, fun _ h => by cases h⟩⟩
theorem mapAt_made (w : World) : MapAt (w.alloc (.map #[] 0)) w.heap.size 0 (fun _ => none) := ⟨.map [], World.ownsMap_made w _ _ _, mapIs_empty⟩
theorem MapAt.kept {w w' : World} {b n : Nat} {M : ByteArray → Option Int} {row : Option Nat} (h : MapAt w b n M) (hg : w.grownBy w' row) (hne : some b ≠ row) : MapAt w' b n M := by
  obtain ⟨D, ho, hs⟩ := h
  exact ⟨D, World.ownsMap.kept ho hg hne, hs⟩
theorem ownsMap_below {w w' : World} {k : TypeId} {R : Value → Option (DataW Unit × List MemPlace)} {b n : Nat} {D : DataW Unit} (h : w.ownsMap Tryz.prog k R b n D) (hb : Below w.heap.size w w') : w'.ownsMap Tryz.prog k R b n D :=
  World.ownsMap.kept h (row := none) ⟨hb.os, hb.tape, hb.output, hb.size, fun k hk _ => hb.block k hk⟩ (by simp)
theorem MapAt.below {w w' : World} {b n : Nat} {M : ByteArray → Option Int} (h : MapAt w b n M) (hb : Below w.heap.size w w') : MapAt w' b n M := by
  obtain ⟨D, ho, hs⟩ := h
  exact ⟨D, ownsMap_below ho hb, hs⟩
theorem MapAt.lt {w : World} {b n : Nat} {M : ByteArray → Option Int} (h : MapAt w b n M) : b < w.heap.size := by
  obtain ⟨D, ho, _⟩ := h
  exact World.ownsMap.lt ho
/-- The set D of texts. -/
def SetSIs (D : DataW Unit) (T : ByteArray → Bool) : Prop := IsMap D ∧ ∀ s, Maps.has D (keyS s) = T s
def SetSAt (w : World) (b n : Nat) (T : ByteArray → Bool) : Prop := ∃ D : DataW Unit, w.ownsMap Tryz.prog 9 (unitElem (H := Unit)) b n D ∧ SetSIs D T
def putT (T : ByteArray → Bool) (s : ByteArray) : ByteArray → Bool := fun t => decide (t = s) || T t
theorem SetSIs.put {D : DataW Unit} {T : ByteArray → Bool} (h : SetSIs D T) (s : ByteArray) (u : DataW Unit) : SetSIs (D.put (keyS s) u) (putT T s) := by
  refine ⟨h.1.put _ _, fun t => ?_⟩
  by_cases e : t = s
  · subst e
    rw [Maps.has_put_same h.1 (keyS_lit _)]; simp [putT]
  · rw [Maps.has_put_other (keyS_ne e), h.2 t]; simp [putT, e]
theorem setS_made (w : World) : SetSAt (w.alloc (.map #[] 0)) w.heap.size 0 (fun _ => false) := ⟨.map [], World.ownsMap_made w _ _ _, isMap_empty, fun _ => rfl⟩
theorem SetSAt.kept {w w' : World} {b n : Nat} {T : ByteArray → Bool} {row : Option Nat} (h : SetSAt w b n T) (hg : w.grownBy w' row) (hne : some b ≠ row) : SetSAt w' b n T := by
  obtain ⟨D, ho, hs⟩ := h
  exact ⟨D, World.ownsMap.kept ho hg hne, hs⟩
theorem SetSAt.below {w w' : World} {b n : Nat} {T : ByteArray → Bool} (h : SetSAt w b n T) (hb : Below w.heap.size w w') : SetSAt w' b n T := by
  obtain ⟨D, ho, hs⟩ := h
  exact ⟨D, ownsMap_below ho hb, hs⟩
theorem SetSAt.lt {w : World} {b n : Nat} {T : ByteArray → Bool} (h : SetSAt w b n T) : b < w.heap.size := by
  obtain ⟨D, ho, _⟩ := h
  exact World.ownsMap.lt ho
end Go.Proofs.YtcnmbolmgifgfabGreatDoor

/- ListOk by the kinds of the entries so far: plain mathematics. -/
namespace Go.Proofs.YtcnmbolmgifgfabGreatDoor
open Go.RowKit

/-- The kind of the first entry with a path. -/
def kindOf (L : List Ent) (p : ByteArray) : Option Int := (L.find? fun e => decide (e.path = p)).map Ent.kind
theorem findFrom_kind (L : List Ent) (p : ByteArray) (i : Nat) : (kindOf L p = none ∧ findFrom L p i = -1) ∨ ∃ (a : Nat) (e : Ent), kindOf L p = some e.kind ∧ findFrom L p i = ((i + a : Nat) : Int) ∧ L[a]? = some e ∧ e.path = p := by
  induction L generalizing i with
  | nil => exact .inl ⟨rfl, rfl⟩
  | cons e L ih =>
    rw [findFrom]
    by_cases h : e.path = p
    · exact .inr ⟨0, e, by simp [kindOf, h], by simp [h], rfl, h⟩
    · rw [if_neg h]
      have hk : kindOf (e :: L) p = kindOf L p := by simp [kindOf, h]
      rw [hk]
      rcases ih (i + 1) with h1 | ⟨a, e', h0, h1, h2, h3⟩
      · exact .inl h1
      · exact .inr ⟨a + 1, e', h0, by rw [h1]; congr 1; omega, by simpa using h2, h3⟩
theorem find_kind (L : List Ent) (p : ByteArray) : (kindOf L p = none ∧ findv L p = -1) ∨ ∃ (a : Nat) (e : Ent), kindOf L p = some e.kind ∧ findv L p = (a : Int) ∧ L[a]? = some e ∧ e.path = p := by
  rcases findFrom_kind L p 0 with h | ⟨a, e, h0, h1, h2, h3⟩
  · exact .inl h
  · exact .inr ⟨a, e, h0, by rw [findv, h1]; simp, h2, h3⟩
theorem fileAt_kind (L : List Ent) (p : ByteArray) : fileAt L p = decide (kindOf L p = some 0) := by
  rcases find_kind L p with ⟨h, h1⟩ | ⟨a, e, h, h1, h2, _⟩
  · rw [fileAt_none h1, h]; simp
  · rw [fileAt_some h1 h2, h]; simp
theorem findFrom_app (L M : List Ent) (p : ByteArray) (i : Nat) : findFrom (L ++ M) p i = if kindOf L p = none then findFrom M p (i + L.length) else findFrom L p i := by
  induction L generalizing i with
  | nil => simp [kindOf]
  | cons e L ih =>
    rw [List.cons_append, findFrom]
    by_cases h : e.path = p
    · simp [kindOf, h, findFrom]
    · have hk : kindOf (e :: L) p = kindOf L p := by simp [kindOf, h]
      rw [if_neg h, ih, hk]
      simp only [List.length_cons, findFrom, if_neg h]
      rw [show i + 1 + L.length = i + (L.length + 1) from by omega]
theorem find_self {L : List Ent} {i : Nat} {e : Ent} (he : L[i]? = some e) : findv L e.path = (i : Int) ↔ kindOf (L.take i) e.path = none := by
  have hlt : i < L.length := (List.getElem?_eq_some_iff.1 he).1
  have hL : L = L.take i ++ (e :: L.drop (i + 1)) := by
    have h1 := (List.getElem?_eq_some_iff.1 he).2
    conv => lhs; rw [← List.take_append_drop i L]
    rw [List.drop_eq_getElem_cons hlt, h1]
  have hl : (L.take i).length = i := by simp; omega
  constructor
  · intro h
    cases hk : kindOf (L.take i) e.path with
    | none => rfl
    | some c =>
      rw [findv, hL, findFrom_app, if_neg (by rw [hk]; simp)] at h
      rcases findFrom_kind (L.take i) e.path 0 with ⟨h0, _⟩ | ⟨a, e', _, h1, h2, _⟩
      · rw [h0] at hk; cases hk
      · have := (List.getElem?_eq_some_iff.1 h2).1
        rw [h1] at h
        omega
  · intro h
    rw [findv]
    conv => lhs; rw [hL]
    rw [findFrom_app, if_pos h, findFrom, if_pos rfl, hl]
    simp
theorem entAtOk_kind {L : List Ent} {i : Nat} {e : Ent} (he : L[i]? = some e) : entAtOk L i e = (entOkv e && decide (kindOf (L.take i) e.path = none) && (if e.kind = 3 then decide (kindOf (L.take i) e.link = some 0) else true)) := by
  rw [entAtOk, fileAt_kind]
  congr 2
  rw [decide_eq_decide]
  exact find_self he
theorem kindOf_snoc {L : List Ent} {i : Nat} {e : Ent} (he : L[i]? = some e) (hk : kindOf (L.take i) e.path = none) : kindOf (L.take (i + 1)) = putM (kindOf (L.take i)) e.path e.kind := by
  have hlt : i < L.length := (List.getElem?_eq_some_iff.1 he).1
  have h1 := (List.getElem?_eq_some_iff.1 he).2
  funext p
  rw [List.take_succ_eq_append_getElem hlt, h1]
  simp only [kindOf, putM, List.find?_append] at hk ⊢
  by_cases h : p = e.path
  · subst h
    simp at hk
    have : List.find? (fun e' => decide (e'.path = e.path)) (List.take i L) = none := by
      rw [List.find?_eq_none]
      intro x hx
      simpa using hk x hx
    simp [this]
  · have h' : ¬ e.path = p := fun x => h x.symm
    simp [h, h']
theorem kindOf_zero (L : List Ent) : kindOf (L.take 0) = fun _ => none := by
  funext p; simp [kindOf]
theorem entOk_kind (e : Ent) (h : entOkv e = true) : -9223372036854775808 ≤ e.kind ∧ e.kind ≤ 9223372036854775807 := by
  simp only [entOkv, Bool.and_eq_true] at h
  have h2 := h.2
  unfold kindOk at h2
  split at h2
  · omega
  · split at h2
    · omega
    · split at h2
      · omega
      · split at h2
        · omega
        · cases h2
end Go.Proofs.YtcnmbolmgifgfabGreatDoor
