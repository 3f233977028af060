/- Contracts of spec.Pad, impl.Pad and the law laws.FnExactPad: what each returns for every argument, the world unchanged. -/
import Derived.Test.YtancidbbkoeokaaGreatIn
namespace Go.Proofs.YtancidbbkoeokaaGreat
open Go.ChangeShapes Go.WideShapes Go.ChangeAt Go.RowKit

def padv (n u : Int) : Int := if 0 ≤ n ∧ n ≤ 9007199254740991 ∧ 1 ≤ u ∧ u ≤ 512 then (u - n % u) % u else 0

theorem pad_impl (n u : Int) (w : World) : Calls Tryz.prog 65 #[.int .i64 n, .int .i64 u] w fun e w' => e = .returned (.int .i64 (padv n u)) ∧ w = w' := by
  by_cases h1 : 0 ≤ n
  · by_cases h2 : n ≤ 9007199254740991
    · by_cases h3 : 1 ≤ u
      · by_cases h4 : u ≤ 512
        · have hm := Int.emod_nonneg n (show u ≠ 0 by omega)
          have hl := Int.emod_lt_of_pos n (show 0 < u by omega)
          go_enter Tryz.func65, Tryz.ntmps65
          go_wp2
          go_ret
          exact ⟨ret_int (by simp [padv, *]), rfl⟩
        · go_enter Tryz.func65, Tryz.ntmps65
          go_wp2
          go_ret
          exact ⟨ret_int (by simp [padv]; omega), rfl⟩
      · go_enter Tryz.func65, Tryz.ntmps65
        go_wp2
        go_ret
        exact ⟨ret_int (by simp [padv]; omega), rfl⟩
    · go_enter Tryz.func65, Tryz.ntmps65
      go_wp2
      go_ret
      exact ⟨ret_int (by simp [padv]; omega), rfl⟩
  · go_enter Tryz.func65, Tryz.ntmps65
    go_wp2
    go_ret
    exact ⟨ret_int (by simp [padv]; omega), rfl⟩


theorem pad_spec (n u : Int) (w : World) : Calls Tryz.prog 37 #[.int .i64 n, .int .i64 u] w fun e w' => e = .returned (.int .i64 (padv n u)) ∧ w = w' := by
  by_cases h1 : 0 ≤ n ∧ n ≤ 9007199254740991
  · have i1 := inB_t h1
    by_cases h2 : 1 ≤ u ∧ u ≤ 512
    · have i2 := inB_t h2
      have hm := Int.emod_nonneg n (show u ≠ 0 by omega)
      have hl := Int.emod_lt_of_pos n (show 0 < u by omega)
      by_cases h3 : n % u = 0
      · have hz : (n % u == 0) = true := by simp [h3]
        have H := Lib.hid h3
        clear h3
        go_enter Tryz.func37, Tryz.ntmps37
        go_wp2_with (go_at_call 58; refine (in_any _ _ _ _).mono ?_; rintro e w' ⟨rfl, rfl⟩)
        go_ret
        exact ⟨ret_int (by simp [padv, H.out]), rfl⟩
      · have hz : (n % u == 0) = false := by simp [h3]
        go_enter Tryz.func37, Tryz.ntmps37
        go_wp2_with (go_at_call 58; refine (in_any _ _ _ _).mono ?_; rintro e w' ⟨rfl, rfl⟩)
        go_ret
        refine ⟨ret_int ?_, rfl⟩
        rw [padv, if_pos (by omega)]
        exact (Int.emod_eq_of_lt (a := u - n % u) (by omega) (by omega)).symm
    · have i2 := inB_f h2
      go_enter Tryz.func37, Tryz.ntmps37
      go_wp2_with (go_at_call 58; refine (in_any _ _ _ _).mono ?_; rintro e w' ⟨rfl, rfl⟩)
      go_ret
      exact ⟨ret_int (by simp [padv]; omega), rfl⟩
  · have i1 := inB_f h1
    go_enter Tryz.func37, Tryz.ntmps37
    go_wp2_with (go_at_call 58; refine (in_any _ _ _ _).mono ?_; rintro e w' ⟨rfl, rfl⟩)
    go_ret
    exact ⟨ret_int (by simp [padv]; omega), rfl⟩

end Go.Proofs.YtancidbbkoeokaaGreat
