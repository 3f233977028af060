/- Contract of spec.l01Value at the bases 8, 10 and 16: the number that a string's digits tell, or -1. -/
import Derived.Test.YtancidbbkoeokaaGreatDoorNum
import Derived.Test.YtancidbbkoeokaaGreatDoorIn
namespace Go.Proofs.YtancidbbkoeokaaGreatDoor
open Go.ChangeShapes Go.WideShapes Go.ChangeAt Go.RowKit

set_option maxHeartbeats 800000 in
theorem value_8 (s : ByteArray) (w : World) (hs : s.size ≤ 9223372036854775807) :
    Calls Tryz.prog 88 #[.string s, .int .i64 8] w fun e w' => e = .returned (.int .i64 (vals 8 0 s.data.toList)) ∧ w = w' := by
  go_enter Tryz.func88, Tryz.ntmps88
  go_wp2
  go_loop [5, 6] (fun n u => ∃ (m : Int) (k : Nat), k ≤ s.size ∧ 0 ≤ m ∧ m ≤ 9007199254740991 ∧ n = .int .i64 m ∧ u = .int .i64 k ∧ ValsFrom 8 s m k) (fun _ u => s.size - (intOf u).toNat)
  case atStart => exact ⟨0, 0, Nat.zero_le _, by omega, by omega, rfl, rfl, ValsFrom.start 8 s⟩
  case round =>
    obtain ⟨m, k, hk, hm0, hm1, rfl, rfl, hlf⟩ := hrel
    have HL := Lib.hid hlf
    clear hlf
    by_cases hlt : k < s.size
    · have hc := UInt8.toNat_lt s[k]
      by_cases d1 : (48 : Int) ≤ (s[k].toNat : Int) ∧ (s[k].toNat : Int) ≤ 57
      · have HD := Lib.hid (dig_num d1.1 d1.2)
        have i1 := inB_t d1
        go_wp2_with (go_at_call 34; refine (in_any _ _ _ _).mono ?_; rintro e w' ⟨rfl, rfl⟩)
        all_goals first
          | (go_round
             case rel => exact ⟨_, k + 1, by omega, by omega, by omega, rfl, by go_num, HL.out.more hlt (step_ok HD.out (by omega) (by omega) (by omega))⟩
             case measure => simp [intOf]; omega)
          | (go_ret
             exact ⟨ret_int (HL.out.stop hlt (step_bad HD.out (by omega))).symm, rfl⟩)
      · by_cases d2 : (97 : Int) ≤ (s[k].toNat : Int) ∧ (s[k].toNat : Int) ≤ 102
        · have HD := Lib.hid (dig_let d2.1 d2.2)
          have i1 := inB_f d1
          have i2 := inB_t d2
          go_wp2_with (go_at_call 34; refine (in_any _ _ _ _).mono ?_; rintro e w' ⟨rfl, rfl⟩)
          all_goals first
            | (go_round
               case rel => exact ⟨_, k + 1, by omega, by omega, by omega, rfl, by go_num, HL.out.more hlt (step_ok HD.out (by omega) (by omega) (by omega))⟩
               case measure => simp [intOf]; omega)
            | (go_ret
               exact ⟨ret_int (HL.out.stop hlt (step_bad HD.out (by omega))).symm, rfl⟩)
        · have HD := Lib.hid (dig_bad d1 d2)
          have i1 := inB_f d1
          have i2 := inB_f d2
          go_wp2_with (go_at_call 34; refine (in_any _ _ _ _).mono ?_; rintro e w' ⟨rfl, rfl⟩)
          go_ret
          exact ⟨ret_int (HL.out.stop hlt (step_bad HD.out (.inl (by omega)))).symm, rfl⟩
    · go_wp2_with fail
      go_ret
      exact ⟨ret_int (HL.out.done (by omega)).symm, rfl⟩

set_option maxHeartbeats 800000 in
theorem value_10 (s : ByteArray) (w : World) (hs : s.size ≤ 9223372036854775807) :
    Calls Tryz.prog 88 #[.string s, .int .i64 10] w fun e w' => e = .returned (.int .i64 (vals 10 0 s.data.toList)) ∧ w = w' := by
  go_enter Tryz.func88, Tryz.ntmps88
  go_wp2
  go_loop [5, 6] (fun n u => ∃ (m : Int) (k : Nat), k ≤ s.size ∧ 0 ≤ m ∧ m ≤ 9007199254740991 ∧ n = .int .i64 m ∧ u = .int .i64 k ∧ ValsFrom 10 s m k) (fun _ u => s.size - (intOf u).toNat)
  case atStart => exact ⟨0, 0, Nat.zero_le _, by omega, by omega, rfl, rfl, ValsFrom.start 10 s⟩
  case round =>
    obtain ⟨m, k, hk, hm0, hm1, rfl, rfl, hlf⟩ := hrel
    have HL := Lib.hid hlf
    clear hlf
    by_cases hlt : k < s.size
    · have hc := UInt8.toNat_lt s[k]
      by_cases d1 : (48 : Int) ≤ (s[k].toNat : Int) ∧ (s[k].toNat : Int) ≤ 57
      · have HD := Lib.hid (dig_num d1.1 d1.2)
        have i1 := inB_t d1
        go_wp2_with (go_at_call 34; refine (in_any _ _ _ _).mono ?_; rintro e w' ⟨rfl, rfl⟩)
        all_goals first
          | (go_round
             case rel => exact ⟨_, k + 1, by omega, by omega, by omega, rfl, by go_num, HL.out.more hlt (step_ok HD.out (by omega) (by omega) (by omega))⟩
             case measure => simp [intOf]; omega)
          | (go_ret
             exact ⟨ret_int (HL.out.stop hlt (step_bad HD.out (by omega))).symm, rfl⟩)
      · by_cases d2 : (97 : Int) ≤ (s[k].toNat : Int) ∧ (s[k].toNat : Int) ≤ 102
        · have HD := Lib.hid (dig_let d2.1 d2.2)
          have i1 := inB_f d1
          have i2 := inB_t d2
          go_wp2_with (go_at_call 34; refine (in_any _ _ _ _).mono ?_; rintro e w' ⟨rfl, rfl⟩)
          all_goals first
            | (go_round
               case rel => exact ⟨_, k + 1, by omega, by omega, by omega, rfl, by go_num, HL.out.more hlt (step_ok HD.out (by omega) (by omega) (by omega))⟩
               case measure => simp [intOf]; omega)
            | (go_ret
               exact ⟨ret_int (HL.out.stop hlt (step_bad HD.out (by omega))).symm, rfl⟩)
        · have HD := Lib.hid (dig_bad d1 d2)
          have i1 := inB_f d1
          have i2 := inB_f d2
          go_wp2_with (go_at_call 34; refine (in_any _ _ _ _).mono ?_; rintro e w' ⟨rfl, rfl⟩)
          go_ret
          exact ⟨ret_int (HL.out.stop hlt (step_bad HD.out (.inl (by omega)))).symm, rfl⟩
    · go_wp2_with fail
      go_ret
      exact ⟨ret_int (HL.out.done (by omega)).symm, rfl⟩

set_option maxHeartbeats 800000 in
theorem value_16 (s : ByteArray) (w : World) (hs : s.size ≤ 9223372036854775807) :
    Calls Tryz.prog 88 #[.string s, .int .i64 16] w fun e w' => e = .returned (.int .i64 (vals 16 0 s.data.toList)) ∧ w = w' := by
  go_enter Tryz.func88, Tryz.ntmps88
  go_wp2
  go_loop [5, 6] (fun n u => ∃ (m : Int) (k : Nat), k ≤ s.size ∧ 0 ≤ m ∧ m ≤ 9007199254740991 ∧ n = .int .i64 m ∧ u = .int .i64 k ∧ ValsFrom 16 s m k) (fun _ u => s.size - (intOf u).toNat)
  case atStart => exact ⟨0, 0, Nat.zero_le _, by omega, by omega, rfl, rfl, ValsFrom.start 16 s⟩
  case round =>
    obtain ⟨m, k, hk, hm0, hm1, rfl, rfl, hlf⟩ := hrel
    have HL := Lib.hid hlf
    clear hlf
    by_cases hlt : k < s.size
    · have hc := UInt8.toNat_lt s[k]
      by_cases d1 : (48 : Int) ≤ (s[k].toNat : Int) ∧ (s[k].toNat : Int) ≤ 57
      · have HD := Lib.hid (dig_num d1.1 d1.2)
        have i1 := inB_t d1
        go_wp2_with (go_at_call 34; refine (in_any _ _ _ _).mono ?_; rintro e w' ⟨rfl, rfl⟩)
        all_goals first
          | (go_round
             case rel => exact ⟨_, k + 1, by omega, by omega, by omega, rfl, by go_num, HL.out.more hlt (step_ok HD.out (by omega) (by omega) (by omega))⟩
             case measure => simp [intOf]; omega)
          | (go_ret
             exact ⟨ret_int (HL.out.stop hlt (step_bad HD.out (by omega))).symm, rfl⟩)
      · by_cases d2 : (97 : Int) ≤ (s[k].toNat : Int) ∧ (s[k].toNat : Int) ≤ 102
        · have HD := Lib.hid (dig_let d2.1 d2.2)
          have i1 := inB_f d1
          have i2 := inB_t d2
          go_wp2_with (go_at_call 34; refine (in_any _ _ _ _).mono ?_; rintro e w' ⟨rfl, rfl⟩)
          all_goals first
            | (go_round
               case rel => exact ⟨_, k + 1, by omega, by omega, by omega, rfl, by go_num, HL.out.more hlt (step_ok HD.out (by omega) (by omega) (by omega))⟩
               case measure => simp [intOf]; omega)
            | (go_ret
               exact ⟨ret_int (HL.out.stop hlt (step_bad HD.out (by omega))).symm, rfl⟩)
        · have HD := Lib.hid (dig_bad d1 d2)
          have i1 := inB_f d1
          have i2 := inB_f d2
          go_wp2_with (go_at_call 34; refine (in_any _ _ _ _).mono ?_; rintro e w' ⟨rfl, rfl⟩)
          go_ret
          exact ⟨ret_int (HL.out.stop hlt (step_bad HD.out (.inl (by omega)))).symm, rfl⟩
    · go_wp2_with fail
      go_ret
      exact ⟨ret_int (HL.out.done (by omega)).symm, rfl⟩

end Go.Proofs.YtancidbbkoeokaaGreatDoor
