/- Contracts of impl.upTo, impl.userOk, impl.symLinkOk. -/
import Derived.Test.YtancidbbkoeokaaGreatWhoS
import Derived.Test.YtancidbbkoeokaaGreatVis
namespace Go.Proofs.YtancidbbkoeokaaGreat
open Go.ChangeShapes Go.WideShapes Go.ChangeAt Go.RowKit

theorem upTo_any (x b : Int) (w : World) : Calls Tryz.prog 105 #[.int .i64 x, .int .i64 b] w fun e w' => e = .returned (.bool (inB x 0 b)) ∧ w = w' := by
  by_cases h1 : 0 ≤ x
  · by_cases h2 : x ≤ b
    · go_enter Tryz.func105, Tryz.ntmps105
      go_wp2
      go_ret
      exact ⟨by simp [inB]; omega, rfl⟩
    · go_enter Tryz.func105, Tryz.ntmps105
      go_wp2
      go_ret
      exact ⟨by simp [inB]; omega, rfl⟩
  · go_enter Tryz.func105, Tryz.ntmps105
    go_wp2
    go_ret
    exact ⟨by simp [inB]; omega, rfl⟩
theorem whob_t {c : UInt8} (h : whob c = true) : ((97 : Int) ≤ ((c.toNat : Nat) : Int) ∧ ((c.toNat : Nat) : Int) ≤ 122) ∨ ((48 : Int) ≤ ((c.toNat : Nat) : Int) ∧ ((c.toNat : Nat) : Int) ≤ 57) ∨ ((c.toNat : Nat) : Int) = 95 := by
  simp [whob] at h; omega
theorem whob_f {c : UInt8} (h : whob c = false) : ((c.toNat : Nat) : Int) < 48 ∨ ((57 : Int) < ((c.toNat : Nat) : Int) ∧ ((c.toNat : Nat) : Int) < 97 ∧ ¬ ((c.toNat : Nat) : Int) = 95) ∨ (122 : Int) < ((c.toNat : Nat) : Int) := by
  simp [whob] at h; omega
set_option maxHeartbeats 800000 in
theorem userOk_impl (s : ByteArray) (w : World) (hs : s.size ≤ 4194304) :
    Calls Tryz.prog 106 #[.string s] w fun e w' => e = .returned (.bool (whov s)) ∧ Below w.heap.size w w' := by
  have HB : Hid (∀ k, (h : k < s.size) → whob s[k] = false → whov s = false) := Lib.hid (fun k h hc => by rw [whov, allB_bad h hc]; rfl)
  have HD : Hid (AllB whob s s.size → s.size ≤ 20 → whov s = true) := Lib.hid (fun h h2 => by rw [whov, h.done, decide_eq_true h2]; rfl)
  have HZ : Hid (20 < s.size → whov s = false) := Lib.hid (fun h => by rw [whov, decide_eq_false (by omega)]; simp)
  generalize whov s = r at HB HD HZ
  by_cases hz : 20 < s.size
  · have hz2 : (20 : Int) < (s.size : Int) := by omega
    have HF := Lib.hid (HZ.out hz)
    go_enter Tryz.func106, Tryz.ntmps106
    go_wp2_with fail
    go_ret
    exact ⟨ret_bool HF.out.symm, Below.refl _ _⟩
  have hz2 : ¬ (20 : Int) < (s.size : Int) := by omega
  have hz3 : s.size ≤ 20 := by omega
  clear HZ
  go_enter Tryz.func106, Tryz.ntmps106
  go_wp2_with fail
  go_loopw [3, 4, 10] (fun _ _ u wr => ∃ i : Nat, u = .int .i64 i ∧ i ≤ s.size ∧ AllB whob s i ∧ Below w.heap.size w wr) (fun _ _ u _ => s.size - (intOf u).toNat)
  case atStart => exact ⟨0, rfl, Nat.zero_le _, AllB.start _ _, Below.refl _ _⟩
  case round =>
    obtain ⟨i, rfl, hi, hr, hb⟩ := hrel
    have HR := Lib.hid hr
    have B := Lib.hid hb
    clear hr hb
    by_cases hlt : i < s.size
    · have hlt2 : (i : Int) < (s.size : Int) := by omega
      have h8 := (s[i]).toNat_lt
      cases hc : whob s[i] with
      | false =>
        have HF : Hid (r = false) := Lib.hid (HB.out i hlt hc)
        have hq := whob_f hc
        clear hc HB HD HR
        generalize hx : ((s[i].toNat : Nat) : Int) = x at hq h8
        have HX := Lib.hid hx
        rcases hq with h | ⟨h, h2, h3⟩ | h
        · have a1 : ¬ (97 : Int) ≤ x := by omega
          have a3 : ¬ (48 : Int) ≤ x := by omega
          have a5 : ¬ x = 95 := by omega
          rw [← hx] at a1 a3 a5
          have a6 : (!(((s[i].toNat : Nat) : Int) == 95)) = true := by simpa using a5
          clear hx h HX a5
          go_wp2_with fail
          go_ret
          exact ⟨ret_bool HF.out.symm, B.out⟩
        · have a1 : ¬ (97 : Int) ≤ x := by omega
          have a3 : (48 : Int) ≤ x := by omega
          have a4 : ¬ x ≤ 57 := by omega
          rw [← hx] at a1 a3 a4 h3
          have a6 : (!(((s[i].toNat : Nat) : Int) == 95)) = true := by simpa using h3
          clear hx h HX h3 h2
          go_wp2_with fail
          go_ret
          exact ⟨ret_bool HF.out.symm, B.out⟩
        · have a1 : (97 : Int) ≤ x := by omega
          have a2 : ¬ x ≤ 122 := by omega
          have a3 : (48 : Int) ≤ x := by omega
          have a4 : ¬ x ≤ 57 := by omega
          have a5 : ¬ x = 95 := by omega
          rw [← hx] at a1 a2 a3 a4 a5
          have a6 : (!(((s[i].toNat : Nat) : Int) == 95)) = true := by simpa using a5
          clear hx h HX a5
          go_wp2_with fail
          go_ret
          exact ⟨ret_bool HF.out.symm, B.out⟩
      | true =>
        have HS := Lib.hid (HR.out.step hlt hc)
        have hq := whob_t hc
        clear hc HB HD HR
        by_cases a1 : (97 : Int) ≤ ((s[i].toNat : Nat) : Int)
        · have a2 : ((s[i].toNat : Nat) : Int) ≤ 122 := by omega
          clear hq
          go_wp2_with fail
          go_roundw
          case rel => exact ⟨i + 1, by go_num, by omega, HS.out, B.out⟩
          case measure => simp [intOf]; omega
        · by_cases a4 : ((s[i].toNat : Nat) : Int) ≤ 57
          · have a3 : (48 : Int) ≤ ((s[i].toNat : Nat) : Int) := by omega
            clear hq
            go_wp2_with fail
            go_roundw
            case rel => exact ⟨i + 1, by go_num, by omega, HS.out, B.out⟩
            case measure => simp [intOf]; omega
          · have a3 : (48 : Int) ≤ ((s[i].toNat : Nat) : Int) := by omega
            have a5 : ((s[i].toNat : Nat) : Int) = 95 := by omega
            clear hq
            go_wp2_with fail
            go_roundw
            case rel => exact ⟨i + 1, by go_num, by omega, HS.out, B.out⟩
            case measure => simp [intOf]; omega
    · obtain rfl : i = s.size := by omega
      have hlt2 : ¬ (s.size : Int) < (s.size : Int) := by omega
      have HF : Hid (r = true) := Lib.hid (HD.out HR.out hz3)
      go_wp2_with fail
      go_ret
      exact ⟨ret_bool HF.out.symm, B.out⟩
theorem symLinkOk_impl (s : ByteArray) (w : World) (hs : s.size ≤ 4194304) :
    Calls Tryz.prog 96 #[.string s] w fun e w' => e = .returned (.bool (inB s.size 1 150 && signv s)) ∧ Below w.heap.size w w' := by
  have H1 := Lib.hid (fun w => visible_impl s w (by omega))
  generalize signv s = r at H1
  by_cases hz : (1 : Int) ≤ (s.size : Int)
  · by_cases hz2 : (s.size : Int) ≤ 150
    · have hq : inB (s.size : Int) 1 150 = true := inB_t (by omega)
      rw [hq, Bool.true_and]
      clear hq
      go_enter Tryz.func96, Tryz.ntmps96
      go_wp2_with fail
      refine (H1.out _).mono ?_
      rintro e _ ⟨rfl, rfl⟩
      go_wp2_with fail
      go_ret
      exact ⟨rfl, Below.refl _ _⟩
    · have hq : inB (s.size : Int) 1 150 = false := inB_f (by omega)
      rw [hq]
      go_enter Tryz.func96, Tryz.ntmps96
      go_wp2_with fail
      go_ret
      exact ⟨rfl, Below.refl _ _⟩
  · have hq : inB (s.size : Int) 1 150 = false := inB_f (by omega)
    rw [hq]
    go_enter Tryz.func96, Tryz.ntmps96
    go_wp2_with fail
    go_ret
    exact ⟨rfl, Below.refl _ _⟩
end Go.Proofs.YtancidbbkoeokaaGreat
