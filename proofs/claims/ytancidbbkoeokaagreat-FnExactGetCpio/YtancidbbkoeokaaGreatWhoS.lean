/- Contracts of spec.l03Who and spec.l03Sign. -/
import Derived.Test.YtancidbbkoeokaaGreatPartMath
import Derived.Test.YtancidbbkoeokaaGreatIn
import Derived.Deep.RegionWith
import Derived.Deep.RegionHeld3
namespace Go.Proofs.YtancidbbkoeokaaGreat
open Go.ChangeShapes Go.WideShapes Go.ChangeAt Go.RowKit

/-- A byte of a name of a user or group: a small letter, a digit, an underscore. -/
def whob (c : UInt8) : Bool := (decide (97 ≤ c.toNat) && decide (c.toNat ≤ 122)) || (decide (48 ≤ c.toNat) && decide (c.toNat ≤ 57)) || decide (c.toNat = 95)
def whov (s : ByteArray) : Bool := s.data.toList.all whob && decide (s.size ≤ 20)
def signb (c : UInt8) : Bool := decide (33 ≤ c.toNat) && decide (c.toNat ≤ 126)
def signv (s : ByteArray) : Bool := s.data.toList.all signb
/-- The first k bytes are all as f says. -/
def AllB (f : UInt8 → Bool) (s : ByteArray) (k : Nat) : Prop := (s.data.toList.take k).all f = true
theorem AllB.start (f : UInt8 → Bool) (s : ByteArray) : AllB f s 0 := by simp [AllB]
theorem AllB.step {f : UInt8 → Bool} {s : ByteArray} {k : Nat} (h : AllB f s k) (hk : k < s.size) (hc : f s[k] = true) : AllB f s (k + 1) := by
  unfold AllB at h ⊢
  rw [take_snoc s k hk]
  simp only [List.all_append, h, List.all_cons, hc, List.all_nil, Bool.and_self]
theorem AllB.done {f : UInt8 → Bool} {s : ByteArray} (h : AllB f s s.size) : s.data.toList.all f = true := by
  unfold AllB at h
  rwa [List.take_of_length_le (by simp)] at h
theorem allB_bad {f : UInt8 → Bool} {s : ByteArray} {k : Nat} (hk : k < s.size) (hc : f s[k] = false) : s.data.toList.all f = false := by
  cases h : s.data.toList.all f with
  | false => rfl
  | true =>
    have hm : s[k] ∈ s.data.toList := by
      have : s.data.toList[k]'(by simpa using hk) = s[k] := rfl
      rw [← this]; exact List.getElem_mem _
    have := List.all_eq_true.1 h _ hm
    rw [hc] at this; cases this
theorem sign_spec (s : ByteArray) (w : World) (hs : s.size ≤ 4194304) :
    Calls Tryz.prog 60 #[.string s] w fun e w' => e = .returned (.bool (signv s)) ∧ Below w.heap.size w w' := by
  have HB : Hid (∀ k, (h : k < s.size) → signb s[k] = false → signv s = false) := Lib.hid (fun k h hc => allB_bad h hc)
  have HD : Hid (AllB signb s s.size → signv s = true) := Lib.hid (fun h => h.done)
  have HI := Lib.hid in_any
  generalize signv s = r at HB HD
  go_enter Tryz.func60, Tryz.ntmps60
  go_wp2_with fail
  go_loopw [3] (fun u wr => ∃ i : Nat, u = .int .i64 i ∧ i ≤ s.size ∧ AllB signb s i ∧ Below w.heap.size w wr) (fun u _ => s.size - (intOf u).toNat)
  case atStart => exact ⟨0, rfl, Nat.zero_le _, AllB.start _ _, Below.refl _ _⟩
  case round =>
    obtain ⟨i, rfl, hi, hr, hb⟩ := hrel
    have HR := Lib.hid hr
    have B := Lib.hid hb
    clear hr hb
    by_cases hlt : i < s.size
    · have hlt2 : (i : Int) < (s.size : Int) := by omega
      have h8 := (s[i]).toNat_lt
      cases hc : signb s[i] with
      | false =>
        have HF : Hid (r = false) := Lib.hid (HB.out i hlt hc)
        have hq : inB ((s[i].toNat : Nat) : Int) 33 126 = false := by
          simp only [signb] at hc
          cases hx : inB ((s[i].toNat : Nat) : Int) 33 126 with
          | false => rfl
          | true => simp [inB] at hx hc; omega
        go_wp2_with fail
        refine (HI.out _ _ _ _).mono ?_
        rintro e w1 ⟨rfl, rfl⟩
        rw [hq]
        clear hq hc
        go_wp2_with fail
        go_ret
        exact ⟨ret_bool HF.out.symm, B.out⟩
      | true =>
        have HS := Lib.hid (HR.out.step hlt hc)
        have hq : inB ((s[i].toNat : Nat) : Int) 33 126 = true := by
          simp only [signb] at hc
          cases hx : inB ((s[i].toNat : Nat) : Int) 33 126 with
          | true => rfl
          | false => simp [inB] at hx hc; omega
        go_wp2_with fail
        refine (HI.out _ _ _ _).mono ?_
        rintro e w1 ⟨rfl, rfl⟩
        rw [hq]
        clear hq hc
        go_wp2_with fail
        go_roundw
        case rel => exact ⟨i + 1, by go_num, by omega, HS.out, B.out⟩
        case measure => simp [intOf]; omega
    · obtain rfl : i = s.size := by omega
      have hlt2 : ¬ (s.size : Int) < (s.size : Int) := by omega
      have HF : Hid (r = true) := Lib.hid (HD.out HR.out)
      go_wp2_with fail
      go_ret
      exact ⟨ret_bool HF.out.symm, B.out⟩
theorem whob_parts {c : UInt8} : whob c = (inB ((c.toNat : Nat) : Int) 97 122 || inB ((c.toNat : Nat) : Int) 48 57 || decide (c.toNat = 95)) := by
  have h1 : inB ((c.toNat : Nat) : Int) 97 122 = (decide (97 ≤ c.toNat) && decide (c.toNat ≤ 122)) := by
    simp only [inB, ← Bool.decide_and]
    congr 1
    apply propext
    omega
  have h2 : inB ((c.toNat : Nat) : Int) 48 57 = (decide (48 ≤ c.toNat) && decide (c.toNat ≤ 57)) := by
    simp only [inB, ← Bool.decide_and]
    congr 1
    apply propext
    omega
  rw [h1, h2]; rfl
theorem who_spec (s : ByteArray) (w : World) (hs : s.size ≤ 4194304) :
    Calls Tryz.prog 59 #[.string s] w fun e w' => e = .returned (.bool (whov s)) ∧ Below w.heap.size w w' := by
  have HB : Hid (∀ k, (h : k < s.size) → whob s[k] = false → whov s = false) := Lib.hid (fun k h hc => by simp [whov, allB_bad h hc])
  have HD : Hid (AllB whob s s.size → whov s = decide (s.size ≤ 20)) := Lib.hid (fun h => by simp [whov, h.done])
  have HI := Lib.hid in_any
  generalize whov s = r at HB HD
  go_enter Tryz.func59, Tryz.ntmps59
  go_wp2_with fail
  go_loopw [3] (fun u wr => ∃ i : Nat, u = .int .i64 i ∧ i ≤ s.size ∧ AllB whob s i ∧ Below w.heap.size w wr) (fun u _ => s.size - (intOf u).toNat)
  case atStart => exact ⟨0, rfl, Nat.zero_le _, AllB.start _ _, Below.refl _ _⟩
  case round =>
    obtain ⟨i, rfl, hi, hr, hb⟩ := hrel
    have HR := Lib.hid hr
    have B := Lib.hid hb
    clear hr hb
    by_cases hlt : i < s.size
    · have hlt2 : (i : Int) < (s.size : Int) := by omega
      have h8 := (s[i]).toNat_lt
      have HW := Lib.hid (whob_parts (c := s[i]))
      have HBi := Lib.hid (HB.out i hlt)
      have HSi := Lib.hid (fun hc => HR.out.step hlt hc)
      cases ha : inB ((s[i].toNat : Nat) : Int) 97 122 with
      | true =>
        have HS := Lib.hid (HSi.out (by rw [HW.out, ha]; rfl))
        clear HW HBi HSi
        go_wp2_with fail
        refine (HI.out _ _ _ _).mono ?_
        rintro e w1 ⟨rfl, rfl⟩
        rw [ha]
        clear ha
        go_wp2_with fail
        go_roundw
        case rel => exact ⟨i + 1, by go_num, by omega, HS.out, B.out⟩
        case measure => simp [intOf]; omega
      | false =>
        cases hd : inB ((s[i].toNat : Nat) : Int) 48 57 with
        | true =>
          have HS := Lib.hid (HSi.out (by rw [HW.out, ha, hd]; rfl))
          clear HW HBi HSi
          go_wp2_with fail
          refine (HI.out _ _ _ _).mono ?_
          rintro e w1 ⟨rfl, rfl⟩
          rw [ha]
          clear ha
          go_wp2_with fail
          refine (HI.out _ _ _ _).mono ?_
          rintro e w1 ⟨rfl, rfl⟩
          rw [hd]
          clear hd
          go_wp2_with fail
          go_roundw
          case rel => exact ⟨i + 1, by go_num, by omega, HS.out, B.out⟩
          case measure => simp [intOf]; omega
        | false =>
          by_cases hu : ((s[i].toNat : Nat) : Int) = 95
          · have HS := Lib.hid (HSi.out (by rw [HW.out, ha, hd, decide_eq_true (show s[i].toNat = 95 by omega)]; rfl))
            clear HW HBi HSi
            go_wp2_with fail
            refine (HI.out _ _ _ _).mono ?_
            rintro e w1 ⟨rfl, rfl⟩
            rw [show inB 95 97 122 = false from by decide]
            clear ha
            go_wp2_with fail
            refine (HI.out _ _ _ _).mono ?_
            rintro e w1 ⟨rfl, rfl⟩
            rw [show inB 95 48 57 = false from by decide]
            clear hd
            go_wp2_with fail
            go_roundw
            case rel => exact ⟨i + 1, by go_num, by omega, HS.out, B.out⟩
            case measure => simp [intOf]; omega
          · have HF : Hid (r = false) := Lib.hid (HBi.out (by rw [HW.out, ha, hd, decide_eq_false (show ¬ s[i].toNat = 95 by omega)]; rfl))
            clear HW HBi HSi
            go_wp2_with fail
            refine (HI.out _ _ _ _).mono ?_
            rintro e w1 ⟨rfl, rfl⟩
            rw [ha]
            clear ha
            go_wp2_with fail
            refine (HI.out _ _ _ _).mono ?_
            rintro e w1 ⟨rfl, rfl⟩
            rw [hd]
            clear hd
            go_wp2_with fail
            go_ret
            exact ⟨ret_bool HF.out.symm, B.out⟩
    · obtain rfl : i = s.size := by omega
      have hlt2 : ¬ (s.size : Int) < (s.size : Int) := by omega
      have HF : Hid (r = decide (s.size ≤ 20)) := Lib.hid (HD.out HR.out)
      go_wp2_with fail
      go_ret
      exact ⟨ret_bool (by rw [HF.out]; simp; try omega), B.out⟩
end Go.Proofs.YtancidbbkoeokaaGreat
