/- Contracts of impl.wholeNumber (bases 8 and 16), spec.GetOct, impl.GetOct, spec.GetHex, impl.GetHex and the two laws over them. -/
import Derived.Test.YtancidbbkoeokaaGreatDoorLead
import Derived.Test.YtancidbbkoeokaaGreatDoorValue
namespace Go.Proofs.YtancidbbkoeokaaGreatDoor
open Go.ChangeShapes Go.WideShapes Go.ChangeAt Go.RowKit

def wholev (b : Int) (l : List UInt8) : Int × Bool := if (lead b 0 l).2 = 0 ∨ (lead b 0 l).2 < l.length then (0, false) else ((lead b 0 l).1, true)
theorem ret_ib {a c : Int} {b d : Bool} (h : (a, b) = (c, d)) : Ending.returned (.tuple #[.int .i64 a, .bool b]) = .returned (.tuple #[.int .i64 c, .bool d]) := by
  injection h with h1 h2; rw [h1, h2]

theorem whole_8 (s : ByteArray) (w : World) (hs : s.size ≤ 9223372036854775807) :
    Calls Tryz.prog 102 #[.string s, .int .i64 8] w fun e w' => e = .returned (.tuple #[.int .i64 (wholev 8 s.data.toList).1, .bool (wholev 8 s.data.toList).2]) ∧ w = w' := by
  have hc := fun w => lead_8 s w hs
  have hl := lead_len 8 0 s.data.toList
  have hz : s.data.toList.length = s.size := by simp
  have hw : wholev 8 s.data.toList = if (lead 8 0 s.data.toList).2 = 0 ∨ (lead 8 0 s.data.toList).2 < s.data.toList.length then (0, false) else ((lead 8 0 s.data.toList).1, true) := rfl
  generalize lead 8 0 s.data.toList = r at hc hl hw
  obtain ⟨n, u⟩ := r
  rw [hz] at hl hw
  generalize wholev 8 s.data.toList = v at hw
  simp only at hc hl hw
  have HC := Lib.hid hc
  clear hc hz
  by_cases h0 : u = 0
  · subst h0
    rw [if_pos (.inl rfl)] at hw
    subst hw
    go_enter Tryz.func102, Tryz.ntmps102
    go_wp2_with (go_at_call 126; refine (HC.out _).mono ?_; rintro e w' ⟨rfl, rfl⟩)
    go_ret2
    exact ⟨rfl, rfl⟩
  · have hb : ((u : Int) == 0) = false := by simp; omega
    by_cases h1 : u < s.size
    · rw [if_pos (.inr h1)] at hw
      subst hw
      go_enter Tryz.func102, Tryz.ntmps102
      go_wp2_with (go_at_call 126; refine (HC.out _).mono ?_; rintro e w' ⟨rfl, rfl⟩)
      go_ret2
      exact ⟨rfl, rfl⟩
    · rw [if_neg (by omega)] at hw
      subst hw
      go_enter Tryz.func102, Tryz.ntmps102
      go_wp2_with (go_at_call 126; refine (HC.out _).mono ?_; rintro e w' ⟨rfl, rfl⟩)
      go_ret2
      exact ⟨rfl, rfl⟩

theorem whole_16 (s : ByteArray) (w : World) (hs : s.size ≤ 9223372036854775807) :
    Calls Tryz.prog 102 #[.string s, .int .i64 16] w fun e w' => e = .returned (.tuple #[.int .i64 (wholev 16 s.data.toList).1, .bool (wholev 16 s.data.toList).2]) ∧ w = w' := by
  have hc := fun w => lead_16 s w hs
  have hl := lead_len 16 0 s.data.toList
  have hz : s.data.toList.length = s.size := by simp
  have hw : wholev 16 s.data.toList = if (lead 16 0 s.data.toList).2 = 0 ∨ (lead 16 0 s.data.toList).2 < s.data.toList.length then (0, false) else ((lead 16 0 s.data.toList).1, true) := rfl
  generalize lead 16 0 s.data.toList = r at hc hl hw
  obtain ⟨n, u⟩ := r
  rw [hz] at hl hw
  generalize wholev 16 s.data.toList = v at hw
  simp only at hc hl hw
  have HC := Lib.hid hc
  clear hc hz
  by_cases h0 : u = 0
  · subst h0
    rw [if_pos (.inl rfl)] at hw
    subst hw
    go_enter Tryz.func102, Tryz.ntmps102
    go_wp2_with (go_at_call 126; refine (HC.out _).mono ?_; rintro e w' ⟨rfl, rfl⟩)
    go_ret2
    exact ⟨rfl, rfl⟩
  · have hb : ((u : Int) == 0) = false := by simp; omega
    by_cases h1 : u < s.size
    · rw [if_pos (.inr h1)] at hw
      subst hw
      go_enter Tryz.func102, Tryz.ntmps102
      go_wp2_with (go_at_call 126; refine (HC.out _).mono ?_; rintro e w' ⟨rfl, rfl⟩)
      go_ret2
      exact ⟨rfl, rfl⟩
    · rw [if_neg (by omega)] at hw
      subst hw
      go_enter Tryz.func102, Tryz.ntmps102
      go_wp2_with (go_at_call 126; refine (HC.out _).mono ?_; rintro e w' ⟨rfl, rfl⟩)
      go_ret2
      exact ⟨rfl, rfl⟩

def getOctv (l : List UInt8) : Int × Bool := if 1 ≤ l.length ∧ l.length ≤ 20 ∧ 0 ≤ vals 8 0 l then (vals 8 0 l, true) else (0, false)
def getHexv (l : List UInt8) : Int × Bool := if l.length = 8 ∧ 0 ≤ vals 16 0 l then (vals 16 0 l, true) else (0, false)

theorem whole_vals (b : Int) (hb : 0 ≤ b) (l : List UInt8) (hl : 1 ≤ l.length) : wholev b l = if 0 ≤ vals b 0 l then (vals b 0 l, true) else (0, false) := by
  have h1 := vals_lead b hb 0 l (by omega)
  have h2 := lead_bd b hb 0 l (by omega) (by omega)
  have h3 := lead_len b 0 l
  by_cases h : (lead b 0 l).2 = l.length
  · rw [if_pos h] at h1
    rw [h1, if_pos h2.1, wholev, if_neg (by omega)]
  · rw [if_neg h] at h1
    rw [h1, if_neg (by omega), wholev, if_pos (by omega)]

theorem getOct_spec (s : ByteArray) (w : World) (hs : s.size ≤ 9223372036854775807) :
    Calls Tryz.prog 62 #[.string s] w fun e w' => e = .returned (.tuple #[.int .i64 (getOctv s.data.toList).1, .bool (getOctv s.data.toList).2]) ∧ w = w' := by
  have hc := fun w => value_8 s w hs
  have hz : s.data.toList.length = s.size := by simp
  have hw : getOctv s.data.toList = if 1 ≤ s.data.toList.length ∧ s.data.toList.length ≤ 20 ∧ 0 ≤ vals 8 0 s.data.toList then (vals 8 0 s.data.toList, true) else (0, false) := rfl
  generalize vals 8 0 s.data.toList = n at hc hw
  generalize getOctv s.data.toList = v at hw
  rw [hz] at hw
  have HC := Lib.hid hc
  clear hc hz
  by_cases h0 : (1 : Int) ≤ (s.size : Int) ∧ (s.size : Int) ≤ 20
  · have i1 := inB_t h0
    by_cases h1 : n < 0
    · rw [if_neg (by omega)] at hw
      subst hw
      go_enter Tryz.func62, Tryz.ntmps62
      go_wp2_with (first | (go_at_call 34; refine (in_any _ _ _ _).mono ?_; rintro e w' ⟨rfl, rfl⟩) | (go_at_call 88; refine (HC.out _).mono ?_; rintro e w' ⟨rfl, rfl⟩))
      go_ret2
      exact ⟨rfl, rfl⟩
    · rw [if_pos (by omega)] at hw
      subst hw
      go_enter Tryz.func62, Tryz.ntmps62
      go_wp2_with (first | (go_at_call 34; refine (in_any _ _ _ _).mono ?_; rintro e w' ⟨rfl, rfl⟩) | (go_at_call 88; refine (HC.out _).mono ?_; rintro e w' ⟨rfl, rfl⟩))
      go_ret2
      exact ⟨rfl, rfl⟩
  · have i1 := inB_f h0
    rw [if_neg (by omega)] at hw
    subst hw
    go_enter Tryz.func62, Tryz.ntmps62
    go_wp2_with (go_at_call 34; refine (in_any _ _ _ _).mono ?_; rintro e w' ⟨rfl, rfl⟩)
    go_ret2
    exact ⟨rfl, rfl⟩

theorem getOct_impl (s : ByteArray) (w : World) (hs : s.size ≤ 9223372036854775807) :
    Calls Tryz.prog 76 #[.string s] w fun e w' => e = .returned (.tuple #[.int .i64 (getOctv s.data.toList).1, .bool (getOctv s.data.toList).2]) ∧ w = w' := by
  have hz : s.data.toList.length = s.size := by simp
  by_cases h0 : s.size ≤ 20
  · have hw : wholev 8 s.data.toList = getOctv s.data.toList := by
      by_cases h1 : 1 ≤ s.data.toList.length
      · rw [whole_vals 8 (by omega) _ h1, getOctv]
        by_cases h2 : 0 ≤ vals 8 0 s.data.toList
        · rw [if_pos h2, if_pos (by omega)]
        · rw [if_neg h2, if_neg (by omega)]
      · have h3 := lead_len 8 0 s.data.toList
        rw [wholev, if_pos (by omega), getOctv, if_neg (by omega)]
    have hc := fun w => whole_8 s w hs
    rw [hw] at hc
    have HC := Lib.hid hc
    clear hc hz hw
    go_enter Tryz.func76, Tryz.ntmps76
    go_wp2_with (go_at_call 102; refine (HC.out _).mono ?_; rintro e w' ⟨rfl, rfl⟩)
    go_ret2
    exact ⟨rfl, rfl⟩
  · have e : getOctv s.data.toList = (0, false) := by rw [getOctv, if_neg (by omega)]
    rw [e]
    clear e hz
    go_enter Tryz.func76, Tryz.ntmps76
    go_wp2_with fail
    go_ret2
    exact ⟨rfl, rfl⟩

end Go.Proofs.YtancidbbkoeokaaGreatDoor
