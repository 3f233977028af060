/- Contracts of spec.Flag, impl.Flag, spec.Kind, impl.Kind. -/
import Derived.Test.YtkpdeeembnjmnaaIn
import Derived.Test.YtkpdeeembnjmnaaPartMath
import Derived.Test.YtkpdeeembnjmnaaShelf
import Derived.Lib.Bytealg
namespace Go.Proofs.Ytkpdeeembnjmnaa
open Go.ChangeShapes Go.WideShapes Go.ChangeAt Go.RowKit

def flagv (k : Int) : ByteArray := if k = 0 then ⟨#[48]⟩ else if k = 1 then ⟨#[53]⟩ else if k = 2 then ⟨#[50]⟩ else if k = 3 then ⟨#[49]⟩ else ⟨#[]⟩
def kindv (s : ByteArray) : Int := if s = ⟨#[48]⟩ then 0 else if s = ⟨#[53]⟩ then 1 else if s = ⟨#[50]⟩ then 2 else if s = ⟨#[49]⟩ then 3 else -1
theorem flag_out {k : Int} (h : ¬ (0 ≤ k ∧ k ≤ 3)) : flagv k = ⟨#[]⟩ := by
  unfold flagv
  rw [if_neg (by omega), if_neg (by omega), if_neg (by omega), if_neg (by omega)]
theorem four {k : Int} (h : 0 ≤ k ∧ k ≤ 3) : k = 0 ∨ k = 1 ∨ k = 2 ∨ k = 3 := by omega

theorem flag_spec (k : Int) (w : World) :
    Calls Try.prog 7 #[.int .i64 k] w fun e w' => e = .returned (.string (flagv k)) ∧ Below w.heap.size w w' := by
  by_cases h : 0 ≤ k ∧ k ≤ 3
  · have Ha := Lib.hid (fun w => in_any k 0 3 w)
    rw [inB_t h] at Ha
    rcases four h with rfl | rfl | rfl | rfl
    all_goals
      go_enter Try.func7, Try.ntmps7
      go_wp2_with fail
      refine (Ha.out _).mono ?_
      rintro e w3 ⟨rfl, rfl⟩
      go_wp2_with fail
      go_ret
      exact ⟨rfl, (Below.refl _ _).alloc (Nat.le_refl _) _⟩
  · have Ha := Lib.hid (fun w => in_any k 0 3 w)
    rw [inB_f h] at Ha
    have HE := Lib.hid (flag_out h)
    clear h
    go_enter Try.func7, Try.ntmps7
    go_wp2_with fail
    refine (Ha.out _).mono ?_
    rintro e w3 ⟨rfl, rfl⟩
    go_wp2_with fail
    go_ret
    exact ⟨ret_str HE.out.symm, Below.refl _ _⟩
theorem flag_impl (k : Int) (w : World) :
    Calls Try.prog 8 #[.int .i64 k] w fun e w' => e = .returned (.string (flagv k)) ∧ w = w' := by
  by_cases h : 0 ≤ k ∧ k ≤ 3
  · rcases four h with rfl | rfl | rfl | rfl
    all_goals
      go_enter Try.func8, Try.ntmps8
      go_wp2_with fail
      go_ret
      exact ⟨rfl, rfl⟩
  · have HE := Lib.hid (flag_out h)
    by_cases h1 : k < 0
    · clear h
      go_enter Try.func8, Try.ntmps8
      go_wp2_with fail
      go_ret
      exact ⟨ret_str HE.out.symm, rfl⟩
    · have h2 : 4 ≤ k := by omega
      clear h
      go_enter Try.func8, Try.ntmps8
      go_wp2_with fail
      go_ret
      exact ⟨ret_str HE.out.symm, rfl⟩

theorem kind_at {s : ByteArray} {k : Nat} (hk : k < 4) (h : flagv k = s) : kindv s = k := by
  subst h
  match k, hk with
  | 0, _ => decide
  | 1, _ => decide
  | 2, _ => decide
  | 3, _ => decide
theorem kind_none {s : ByteArray} (h : ∀ j : Nat, j < 4 → ¬ flagv j = s) : kindv s = -1 := by
  have h0 := h 0 (by omega)
  have h1 := h 1 (by omega)
  have h2 := h 2 (by omega)
  have h3 := h 3 (by omega)
  unfold kindv
  rw [if_neg (fun e => h0 (by rw [e]; rfl)), if_neg (fun e => h1 (by rw [e]; rfl)), if_neg (fun e => h2 (by rw [e]; rfl)), if_neg (fun e => h3 (by rw [e]; rfl))]
theorem kind_spec (s : ByteArray) (w : World) :
    Calls Try.prog 9 #[.string s] w fun e w' => e = .returned (.int .i64 (kindv s)) ∧ Below w.heap.size w w' := by
  go_enter Try.func9, Try.ntmps9
  go_wp2
  go_loopw [3] (fun i wr => ∃ k : Nat, k ≤ 4 ∧ i = .int .i64 k ∧ (∀ j : Nat, j < k → ¬ flagv j = s) ∧ Below w.heap.size w wr) (fun i _ => 4 - (intOf i).toNat)
  case atStart => exact ⟨0, by omega, rfl, fun j h => absurd h (by omega), Below.refl _ _⟩
  case round =>
    obtain ⟨k, hk, rfl, hn, hb⟩ := hrel
    have HB := Lib.hid hb
    have HN := Lib.hid hn
    clear hb hn
    by_cases hlt : (k : Int) < 4
    · have HF := Lib.hid (fun w => flag_spec k w)
      by_cases hf : flagv k = s
      · have HE := Lib.hid (kind_at (by omega) hf)
        have q := ba_eq hf
        generalize flagv k = f at HF q
        clear hf
        go_wp2_with fail
        refine (HF.out _).mono ?_
        rintro e w1 ⟨rfl, hb1⟩
        go_wp2_with fail
        go_ret
        exact ⟨ret_int HE.out.symm, HB.out.trans (hb1.mono HB.out.size)⟩
      · have HE : Hid (∀ j : Nat, j < k + 1 → ¬ flagv j = s) := Lib.hid (fun j hj => by
          by_cases e : j = k
          · subst e; exact hf
          · exact HN.out j (by omega))
        have q := ba_ne hf
        generalize flagv k = f at HF q
        clear hf
        go_wp2_with fail
        refine (HF.out _).mono ?_
        rintro e w1 ⟨rfl, hb1⟩
        have HB1 := Lib.hid (HB.out.trans (hb1.mono HB.out.size))
        clear hb1
        go_wp2_with fail
        go_roundw
        case rel => exact ⟨k + 1, by omega, by go_num, HE.out, HB1.out⟩
        case measure => simp [intOf]; omega
    · have HE := Lib.hid (kind_none (s := s) (fun j hj => HN.out j (by omega)))
      go_wp2
      go_ret
      exact ⟨ret_int HE.out.symm, HB.out⟩
theorem one_byte {s : ByteArray} (h : s.size = 1) : ∃ c, s = ⟨#[c]⟩ := by
  have hl : s.data.toList.length = 1 := by simpa using h
  match hd : s.data.toList, hl with
  | [c], _ => exact ⟨c, ba_ext hd⟩
theorem kind_one (c : UInt8) : Lib.indexByte [48, 53, 50, 49] c = kindv ⟨#[c]⟩ := by
  have key : ∀ d : UInt8, ((⟨#[c]⟩ : ByteArray) = ⟨#[d]⟩) ↔ c = d := fun d => by simp
  unfold kindv
  simp only [key, Lib.indexByte]
  by_cases h0 : c = 48
  · subst h0; rfl
  by_cases h1 : c = 53
  · subst h1; rfl
  by_cases h2 : c = 50
  · subst h2; rfl
  by_cases h3 : c = 49
  · subst h3; rfl
  simp [h0, h1, h2, h3, Ne.symm h0, Ne.symm h1, Ne.symm h2, Ne.symm h3]
theorem kind_impl (s : ByteArray) (w : World) :
    Calls Try.prog 10 #[.string s] w fun e w' => e = .returned (.int .i64 (kindv s)) ∧ w = w' := by
  by_cases h : s.size = 1
  · obtain ⟨c, rfl⟩ := one_byte h
    have H := Lib.hid (fun w => Try.strings_Index_one ⟨#[48, 53, 50, 49]⟩ c w)
    rw [show (⟨#[48, 53, 50, 49]⟩ : ByteArray).data.toList = [48, 53, 50, 49] from rfl, kind_one] at H
    generalize kindv ⟨#[c]⟩ = r at H
    clear h
    go_enter Try.func10, Try.ntmps10
    go_wp2_with fail
    refine (H.out _).mono ?_
    rintro e w1 ⟨rfl, rfl⟩
    go_wp2_with fail
    go_ret
    exact ⟨rfl, rfl⟩
  · have HE : Hid (kindv s = -1) := Lib.hid (by
      unfold kindv
      rw [if_neg, if_neg, if_neg, if_neg]
      all_goals (intro e; subst e; exact h rfl))
    have h1 : ¬ (s.size : Int) = 1 := by omega
    generalize kindv s = r at HE
    clear h
    go_enter Try.func10, Try.ntmps10
    go_wp2_with fail
    go_ret
    exact ⟨ret_int HE.out.symm, rfl⟩
end Go.Proofs.Ytkpdeeembnjmnaa
