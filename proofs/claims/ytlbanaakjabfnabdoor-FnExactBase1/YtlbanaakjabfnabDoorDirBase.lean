/- Contracts of spec.l02Last, spec.Dir, impl.Dir, spec.Base, impl.Base. -/
import Derived.Test.YtlbanaakjabfnabDoorClone
import Derived.Lib.LastIndexByte
namespace Go.Proofs.YtlbanaakjabfnabDoor
open Go.ChangeShapes Go.WideShapes Go.ChangeAt Go.RowKit

def lastv (s : ByteArray) : Int := Lib.lastIndexByte s 47
theorem lastv_cases (s : ByteArray) : lastv s = -1 ∨ ∃ i : Nat, i < s.size ∧ lastv s = i := by
  rcases Lib.lastIndexByte_spec s 47 with ⟨h, _⟩ | ⟨i, hi, h, _⟩
  · exact .inl h
  · exact .inr ⟨i, hi, h⟩
theorem bang (s : ByteArray) (k : Nat) (h : k < s.size) : s.data[k]! = s[k] := by
  have : k < s.data.size := h
  rw [getElem!_pos s.data k this]; rfl
theorem last_hit {s : ByteArray} {k : Nat} (h : k < s.size) (hc : (s[k].toNat : Int) = 47) (hl : Lib.lastIdx s 47 (k + 1) = lastv s) : lastv s = k := by
  rw [← hl, Lib.lastIdx_hit s 47 k (by rw [bang s k h]; exact hc)]
theorem last_miss {s : ByteArray} {k : Nat} (h : k < s.size) (hc : ¬ (s[k].toNat : Int) = 47) (hl : Lib.lastIdx s 47 (k + 1) = lastv s) : Lib.lastIdx s 47 k = lastv s := by
  rw [← hl, Lib.lastIdx_miss s 47 k (by rw [bang s k h]; exact hc)]

theorem last_spec (s : ByteArray) (w : World) (hs : s.size ≤ 9223372036854775807) :
    Calls Tryd.prog 42 #[.string s] w fun e w' => e = .returned (.int .i64 (lastv s)) ∧ w = w' := by
  go_enter Tryd.func42, Tryd.ntmps42
  go_wp2
  go_loop [3] (fun u => ∃ (k : Nat), k ≤ s.size ∧ u = .int .i64 ((k : Int) - 1) ∧ Lib.lastIdx s 47 k = lastv s) (fun u => (intOf u + 1).toNat)
  case atStart => exact ⟨s.size, Nat.le_refl _, by go_num, rfl⟩
  case round =>
    obtain ⟨k, hk, rfl, ho⟩ := hrel
    have HO := Lib.hid ho
    clear ho
    by_cases hlt : 0 < k
    · obtain ⟨j, rfl⟩ : ∃ j, k = j + 1 := ⟨k - 1, by omega⟩
      have hj : j < s.size := by omega
      have ej : (((j + 1 : Nat) : Int) - 1) = (j : Int) := by omega
      rw [ej]
      clear ej
      by_cases d2 : (s[j].toNat : Int) = 47
      · have HB := Lib.hid (last_hit hj d2 HO.out)
        have hq : ((s[j].toNat : Int) == 47) = true := by simp [d2]
        clear d2
        go_wp2
        go_ret
        exact ⟨ret_int HB.out.symm, rfl⟩
      · have HB := Lib.hid (last_miss hj d2 HO.out)
        have hq : ((s[j].toNat : Int) == 47) = false := by simpa using d2
        clear d2
        go_wp2
        go_round
        case rel => exact ⟨j, by omega, by go_num, HB.out⟩
        case measure => simp [intOf]
    · obtain rfl : k = 0 := by omega
      go_wp2
      go_ret
      exact ⟨ret_int (by rw [← HO.out]; rfl), rfl⟩

def dirv (s : ByteArray) : ByteArray := if lastv s < 0 then ⟨#[]⟩ else s.extract 0 (lastv s).toNat
def basev (s : ByteArray) : ByteArray := s.extract (lastv s + 1).toNat s.size

theorem base_spec (s : ByteArray) (w : World) (hs : s.size ≤ 9223372036854775807) :
    Calls Tryd.prog 19 #[.string s] w fun e w' => e = .returned (.string (basev s)) ∧ w = w' := by
  have H := Lib.hid (fun w => last_spec s w hs)
  obtain ⟨j, hj, hl, hz⟩ : ∃ j : Nat, j ≤ s.size ∧ lastv s = (j : Int) - 1 ∧ (lastv s + 1).toNat = j := by
    rcases lastv_cases s with hl | ⟨i, hi, hl⟩
    · exact ⟨0, Nat.zero_le _, by omega, by omega⟩
    · exact ⟨i + 1, by omega, by omega, by omega⟩
  have HE : Hid (basev s = s.extract j s.size) := Lib.hid (by rw [basev, hz])
  rw [hl] at H
  clear hl hz
  go_enter Tryd.func19, Tryd.ntmps19
  go_wp2_with fail
  refine (H.out _).mono ?_
  rintro e w' ⟨rfl, rfl⟩
  go_wp2_with fail
  go_ret
  exact ⟨ret_str HE.out.symm, rfl⟩

theorem base_impl (s : ByteArray) (w : World) (hs : s.size ≤ 281474976710656) :
    Calls Tryd.prog 25 #[.string s] w fun e w' => e = .returned (.string (basev s)) ∧ Below w.heap.size w w' := by
  have H := Lib.hid (fun w => Tryd.strings_LastIndexByte s 47 (by omega) w)
  rw [show Lib.lastIndexByte s 47 = lastv s from rfl] at H
  obtain ⟨j, hj, hl, hz⟩ : ∃ j : Nat, j ≤ s.size ∧ lastv s = (j : Int) - 1 ∧ (lastv s + 1).toNat = j := by
    rcases lastv_cases s with hl | ⟨i, hi, hl⟩
    · exact ⟨0, Nat.zero_le _, by omega, by omega⟩
    · exact ⟨i + 1, by omega, by omega, by omega⟩
  have HE : Hid (basev s = s.extract j s.size) := Lib.hid (by rw [basev, hz])
  have HC := Lib.hid (fun w => clone_any (s.extract j s.size) w (by simp; omega))
  rw [hl] at H
  clear hl hz
  go_enter Tryd.func25, Tryd.ntmps25
  go_wp2_with fail
  refine (H.out _).mono ?_
  rintro e w' ⟨rfl, rfl⟩
  go_wp2_with fail
  refine (HC.out _).mono ?_
  rintro e w' ⟨rfl, hb⟩
  go_wp2_with fail
  go_ret
  exact ⟨ret_str HE.out.symm, hb⟩
end Go.Proofs.YtlbanaakjabfnabDoor
