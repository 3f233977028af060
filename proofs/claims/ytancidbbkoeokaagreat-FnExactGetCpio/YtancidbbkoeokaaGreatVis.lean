/- Contracts of impl.visible and of strings.Contains at one byte, in plain words. -/
import Derived.Test.YtancidbbkoeokaaGreatWhoS
import Derived.Test.YtancidbbkoeokaaGreatShelf
import Derived.Lib.IndexLaws
namespace Go.Proofs.YtancidbbkoeokaaGreat
open Go.ChangeShapes Go.WideShapes Go.ChangeAt Go.RowKit

theorem visible_impl (s : ByteArray) (w : World) (hs : s.size ≤ 9223372036854775807) : Calls Tryz.prog 107 #[.string s] w fun e w' => e = .returned (.bool (signv s)) ∧ w = w' := by
  have HB : Hid (∀ k, (h : k < s.size) → signb s[k] = false → signv s = false) := Lib.hid (fun k h hc => allB_bad h hc)
  have HD : Hid (AllB signb s s.size → signv s = true) := Lib.hid (fun h => h.done)
  generalize signv s = r at HB HD
  go_enter Tryz.func107, Tryz.ntmps107
  go_wp2_with fail
  go_loopw [3, 6] (fun _ u wr => ∃ i : Nat, u = .int .i64 i ∧ i ≤ s.size ∧ AllB signb s i ∧ wr = w) (fun _ u _ => s.size - (intOf u).toNat)
  case atStart => exact ⟨0, rfl, Nat.zero_le _, AllB.start _ _, rfl⟩
  case round =>
    obtain ⟨i, rfl, hi, hr, rfl⟩ := hrel
    have HR := Lib.hid hr
    clear hr
    by_cases hlt : i < s.size
    · have hlt2 : (i : Int) < (s.size : Int) := by omega
      have h8 := (s[i]).toNat_lt
      cases hc : signb s[i] with
      | false =>
        have HF : Hid (r = false) := Lib.hid (HB.out i hlt hc)
        have hq : ((s[i].toNat : Nat) : Int) < 33 ∨ (126 : Int) < ((s[i].toNat : Nat) : Int) := by simp [signb] at hc; omega
        clear hc HB HD HR
        by_cases a1 : ((s[i].toNat : Nat) : Int) < 33
        · clear hq
          go_wp2_with fail
          go_ret
          exact ⟨ret_bool HF.out.symm, rfl⟩
        · have a2 : (126 : Int) < ((s[i].toNat : Nat) : Int) := by omega
          clear hq
          go_wp2_with fail
          go_ret
          exact ⟨ret_bool HF.out.symm, rfl⟩
      | true =>
        have HS := Lib.hid (HR.out.step hlt hc)
        have a1 : ¬ ((s[i].toNat : Nat) : Int) < 33 := by simp [signb] at hc; omega
        have a2 : ¬ (126 : Int) < ((s[i].toNat : Nat) : Int) := by simp [signb] at hc; omega
        clear hc HB HD HR
        go_wp2_with fail
        go_roundw
        case rel => exact ⟨i + 1, by go_num, by omega, HS.out, by trivial⟩
        case measure => simp [intOf]; omega
    · obtain rfl : i = s.size := by omega
      have hlt2 : ¬ (s.size : Int) < (s.size : Int) := by omega
      have HF : Hid (r = true) := Lib.hid (HD.out HR.out)
      go_wp2_with fail
      go_ret
      exact ⟨ret_bool HF.out.symm, rfl⟩
/-- The byte c stands somewhere in s. -/
def hasB (c : UInt8) (s : ByteArray) : Bool := decide (0 ≤ Lib.indexByte s.data.toList c)
theorem hasB_iff (c : UInt8) (s : ByteArray) : hasB c s = true ↔ c ∈ s.data.toList := by
  unfold hasB
  rw [decide_eq_true_iff]
  constructor
  · intro h
    obtain ⟨o, ho⟩ := Int.eq_ofNat_of_zero_le h
    exact List.mem_of_getElem? (Lib.indexByte_some ho).1
  · intro h
    have hg := Lib.indexByte_ge s.data.toList c
    by_cases h1 : Lib.indexByte s.data.toList c = -1
    · obtain ⟨k, hk⟩ := List.mem_iff_getElem?.1 h
      exact absurd hk (Lib.indexByte_none h1 k)
    · omega
theorem hasB_all (c : UInt8) (s : ByteArray) : hasB c s = !(s.data.toList.all (fun x => x != c)) := by
  cases h : hasB c s with
  | true =>
    have hm := (hasB_iff c s).1 h
    symm
    simp only [Bool.not_eq_true', List.all_eq_false]
    exact ⟨c, hm, by simp⟩
  | false =>
    symm
    simp only [Bool.not_eq_false', List.all_eq_true]
    intro x hx
    simp only [bne_iff_ne, ne_eq]
    rintro rfl
    rw [(hasB_iff _ s).2 hx] at h
    cases h
theorem contains_any (s : ByteArray) (c : UInt8) (w : World) : Calls Tryz.prog 117 #[.string s, .string ⟨#[c]⟩] w fun e w' => e = .returned (.bool (hasB c s)) ∧ w = w' := by
  refine (Tryz.strings_Contains_one s c w).mono ?_
  rintro e w' ⟨rfl, rfl⟩
  exact ⟨rfl, rfl⟩
theorem okb_sign (s : ByteArray) : s.data.toList.all okb = (signv s && !hasB 47 s) := by
  rw [hasB_all, Bool.not_not, signv]
  induction s.data.toList with
  | nil => rfl
  | cons c l ih =>
    simp only [List.all_cons, ih]
    have : okb c = (signb c && (c != 47)) := by
      simp only [okb, signb]
      have h1 : decide (c.toNat ≠ 47) = (c != 47) := by
        by_cases h : c = 47
        · subst h; rfl
        · have h2 : c.toNat ≠ 47 := fun e => h (by apply UInt8.toNat_inj.1; simpa using e)
          have h3 : (c != 47) = true := by simpa using h
          rw [h3, decide_eq_true h2]
      rw [h1]
    rw [this]
    cases signb c <;> cases (c != 47) <;> simp
theorem partOk_impl (s : ByteArray) (w : World) :
    Calls Tryz.prog 109 #[.string s] w fun e w' => e = .returned (.bool (partOkv s)) ∧ w = w' := by
  by_cases d1 : (1 : Int) ≤ (s.size : Int) ∧ (s.size : Int) ≤ 60
  · have q0 : (1 : Int) ≤ (s.size : Int) := d1.1
    have q9 : (s.size : Int) ≤ 60 := d1.2
    by_cases e1 : s = dot1
    · have HB := Lib.hid (partOk_dot1 e1)
      have q1 := lit_eq (l := [46]) e1
      clear e1
      go_enter Tryz.func109, Tryz.ntmps109
      go_wp2
      go_ret
      exact ⟨ret_bool HB.out.symm, rfl⟩
    · have q1 := lit_ne (l := [46]) e1
      by_cases e2 : s = dot2
      · have HB := Lib.hid (partOk_dot2 e2)
        have q2 := lit_eq (l := [46, 46]) e2
        clear e1 e2
        go_enter Tryz.func109, Tryz.ntmps109
        go_wp2
        go_ret
        exact ⟨ret_bool HB.out.symm, rfl⟩
      · have q2 := lit_ne (l := [46, 46]) e2
        have HB : Hid (partOkv s = (signv s && !hasB 47 s)) := Lib.hid (by rw [← okb_sign]; simp [partOkv, e1, e2]; omega)
        have H1 := Lib.hid (fun w => visible_impl s w (by omega))
        have H2 := Lib.hid (contains_any s 47)
        generalize partOkv s = r at HB
        generalize signv s = r1 at HB H1
        generalize hasB 47 s = r2 at HB H2
        clear e1 e2 d1
        go_enter Tryz.func109, Tryz.ntmps109
        go_wp2_with fail
        refine (H1.out _).mono ?_
        rintro e _ ⟨rfl, rfl⟩
        cases r1 with
        | false =>
          go_wp2_with fail
          go_ret
          exact ⟨ret_bool (by rw [HB.out]; rfl), rfl⟩
        | true =>
          go_wp2_with fail
          refine (H2.out _).mono ?_
          rintro e _ ⟨rfl, rfl⟩
          go_wp2_with fail
          go_ret
          exact ⟨ret_bool (by rw [HB.out]; rfl), rfl⟩
  · have HB := Lib.hid (partOk_size (s := s) (by omega))
    by_cases q0 : (1 : Int) ≤ (s.size : Int)
    · have q9 : ¬ (s.size : Int) ≤ 60 := by omega
      clear d1
      go_enter Tryz.func109, Tryz.ntmps109
      go_wp2
      go_ret
      exact ⟨ret_bool HB.out.symm, rfl⟩
    · clear d1
      go_enter Tryz.func109, Tryz.ntmps109
      go_wp2
      go_ret
      exact ⟨ret_bool HB.out.symm, rfl⟩
end Go.Proofs.YtancidbbkoeokaaGreat
