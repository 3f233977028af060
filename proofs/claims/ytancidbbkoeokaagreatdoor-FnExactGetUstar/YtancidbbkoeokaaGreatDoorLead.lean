/- Contract of impl.leadNumber at the bases 8, 10 and 16: the number at the start of a string and how many digits it has. -/
import Derived.Test.YtancidbbkoeokaaGreatDoorNum
import Derived.WalkMore
namespace Go.Proofs.YtancidbbkoeokaaGreatDoor
open Go.ChangeShapes Go.WideShapes Go.ChangeAt Go.RowKit

theorem ret_pair {a b c d : Int} (h : a = b) (h' : c = d) : Ending.returned (.tuple #[.int .i64 a, .int .i64 c]) = .returned (.tuple #[.int .i64 b, .int .i64 d]) := by rw [h, h']

set_option maxHeartbeats 800000 in
theorem lead_8 (s : ByteArray) (w : World) (hs : s.size ≤ 9223372036854775807) :
    Calls Tryz.prog 126 #[.string s, .int .i64 8] w fun e w' => e = .returned (.tuple #[.int .i64 (lead 8 0 s.data.toList).1, .int .i64 ((lead 8 0 s.data.toList).2 : Nat)]) ∧ w = w' := by
  go_enter Tryz.func126, Tryz.ntmps126
  go_wp2
  go_step3
  go_wp2
  go_step3
  go_wp2
  go_loop [6, 7] (fun n u => ∃ (m : Int) (k : Nat), k ≤ s.size ∧ 0 ≤ m ∧ m ≤ 9007199254740991 ∧ n = .int .i64 m ∧ u = .int .i64 k ∧ LeadFrom 8 s m k) (fun _ u => s.size - (intOf u).toNat)
  case atStart => exact ⟨0, 0, Nat.zero_le _, by omega, by omega, rfl, rfl, LeadFrom.start 8 s⟩
  case round =>
    obtain ⟨m, k, hk, hm0, hm1, rfl, rfl, hlf⟩ := hrel
    have HL := Lib.hid hlf
    clear hlf
    by_cases hlt : k < s.size
    · have hc := UInt8.toNat_lt s[k]
      by_cases d1 : (48 : Int) ≤ (s[k].toNat : Int) ∧ (s[k].toNat : Int) ≤ 57
      · have HD := Lib.hid (dig_num d1.1 d1.2)
        go_wp2
        all_goals first
          | (go_round
             case rel => exact ⟨_, k + 1, by omega, by omega, by omega, rfl, by go_num, HL.out.more hlt (step_ok HD.out (by omega) (by omega) (by omega))⟩
             case measure => simp [intOf]; omega)
          | (go_ret2
             have e := HL.out.stop hlt (step_bad HD.out (by omega))
             exact ⟨by rw [e]; rfl, rfl⟩)
      · by_cases d2 : (97 : Int) ≤ (s[k].toNat : Int) ∧ (s[k].toNat : Int) ≤ 102
        · have HD := Lib.hid (show dig (s[k].toNat : Int) = (s[k].toNat : Int) - 97 + 10 from (dig_let d2.1 d2.2).trans (by omega))
          go_wp2
          all_goals first
            | (go_round
               case rel => exact ⟨_, k + 1, by omega, by omega, by omega, rfl, by go_num, HL.out.more hlt (step_ok HD.out (by omega) (by omega) (by omega))⟩
               case measure => simp [intOf]; omega)
            | (go_ret2
               have e := HL.out.stop hlt (step_bad HD.out (by omega))
               exact ⟨by rw [e]; rfl, rfl⟩)
        · have HD := Lib.hid (dig_bad d1 d2)
          go_wp2
          all_goals
            go_ret2
            have e := HL.out.stop hlt (step_bad HD.out (.inl (by omega)))
            exact ⟨by rw [e]; rfl, rfl⟩
    · go_wp2
      go_ret2
      have e := HL.out.done (by omega)
      exact ⟨by rw [e]; rfl, rfl⟩

set_option maxHeartbeats 800000 in
theorem lead_10 (s : ByteArray) (w : World) (hs : s.size ≤ 9223372036854775807) :
    Calls Tryz.prog 126 #[.string s, .int .i64 10] w fun e w' => e = .returned (.tuple #[.int .i64 (lead 10 0 s.data.toList).1, .int .i64 ((lead 10 0 s.data.toList).2 : Nat)]) ∧ w = w' := by
  go_enter Tryz.func126, Tryz.ntmps126
  go_wp2
  go_step3
  go_wp2
  go_step3
  go_wp2
  go_loop [6, 7] (fun n u => ∃ (m : Int) (k : Nat), k ≤ s.size ∧ 0 ≤ m ∧ m ≤ 9007199254740991 ∧ n = .int .i64 m ∧ u = .int .i64 k ∧ LeadFrom 10 s m k) (fun _ u => s.size - (intOf u).toNat)
  case atStart => exact ⟨0, 0, Nat.zero_le _, by omega, by omega, rfl, rfl, LeadFrom.start 10 s⟩
  case round =>
    obtain ⟨m, k, hk, hm0, hm1, rfl, rfl, hlf⟩ := hrel
    have HL := Lib.hid hlf
    clear hlf
    by_cases hlt : k < s.size
    · have hc := UInt8.toNat_lt s[k]
      by_cases d1 : (48 : Int) ≤ (s[k].toNat : Int) ∧ (s[k].toNat : Int) ≤ 57
      · have HD := Lib.hid (dig_num d1.1 d1.2)
        go_wp2
        all_goals first
          | (go_round
             case rel => exact ⟨_, k + 1, by omega, by omega, by omega, rfl, by go_num, HL.out.more hlt (step_ok HD.out (by omega) (by omega) (by omega))⟩
             case measure => simp [intOf]; omega)
          | (go_ret2
             have e := HL.out.stop hlt (step_bad HD.out (by omega))
             exact ⟨by rw [e]; rfl, rfl⟩)
      · by_cases d2 : (97 : Int) ≤ (s[k].toNat : Int) ∧ (s[k].toNat : Int) ≤ 102
        · have HD := Lib.hid (show dig (s[k].toNat : Int) = (s[k].toNat : Int) - 97 + 10 from (dig_let d2.1 d2.2).trans (by omega))
          go_wp2
          all_goals first
            | (go_round
               case rel => exact ⟨_, k + 1, by omega, by omega, by omega, rfl, by go_num, HL.out.more hlt (step_ok HD.out (by omega) (by omega) (by omega))⟩
               case measure => simp [intOf]; omega)
            | (go_ret2
               have e := HL.out.stop hlt (step_bad HD.out (by omega))
               exact ⟨by rw [e]; rfl, rfl⟩)
        · have HD := Lib.hid (dig_bad d1 d2)
          go_wp2
          all_goals
            go_ret2
            have e := HL.out.stop hlt (step_bad HD.out (.inl (by omega)))
            exact ⟨by rw [e]; rfl, rfl⟩
    · go_wp2
      go_ret2
      have e := HL.out.done (by omega)
      exact ⟨by rw [e]; rfl, rfl⟩

set_option maxHeartbeats 800000 in
theorem lead_16 (s : ByteArray) (w : World) (hs : s.size ≤ 9223372036854775807) :
    Calls Tryz.prog 126 #[.string s, .int .i64 16] w fun e w' => e = .returned (.tuple #[.int .i64 (lead 16 0 s.data.toList).1, .int .i64 ((lead 16 0 s.data.toList).2 : Nat)]) ∧ w = w' := by
  go_enter Tryz.func126, Tryz.ntmps126
  go_wp2
  go_step3
  go_wp2
  go_step3
  go_wp2
  go_loop [6, 7] (fun n u => ∃ (m : Int) (k : Nat), k ≤ s.size ∧ 0 ≤ m ∧ m ≤ 9007199254740991 ∧ n = .int .i64 m ∧ u = .int .i64 k ∧ LeadFrom 16 s m k) (fun _ u => s.size - (intOf u).toNat)
  case atStart => exact ⟨0, 0, Nat.zero_le _, by omega, by omega, rfl, rfl, LeadFrom.start 16 s⟩
  case round =>
    obtain ⟨m, k, hk, hm0, hm1, rfl, rfl, hlf⟩ := hrel
    have HL := Lib.hid hlf
    clear hlf
    by_cases hlt : k < s.size
    · have hc := UInt8.toNat_lt s[k]
      by_cases d1 : (48 : Int) ≤ (s[k].toNat : Int) ∧ (s[k].toNat : Int) ≤ 57
      · have HD := Lib.hid (dig_num d1.1 d1.2)
        go_wp2
        all_goals first
          | (go_round
             case rel => exact ⟨_, k + 1, by omega, by omega, by omega, rfl, by go_num, HL.out.more hlt (step_ok HD.out (by omega) (by omega) (by omega))⟩
             case measure => simp [intOf]; omega)
          | (go_ret2
             have e := HL.out.stop hlt (step_bad HD.out (by omega))
             exact ⟨by rw [e]; rfl, rfl⟩)
      · by_cases d2 : (97 : Int) ≤ (s[k].toNat : Int) ∧ (s[k].toNat : Int) ≤ 102
        · have HD := Lib.hid (show dig (s[k].toNat : Int) = (s[k].toNat : Int) - 97 + 10 from (dig_let d2.1 d2.2).trans (by omega))
          go_wp2
          all_goals first
            | (go_round
               case rel => exact ⟨_, k + 1, by omega, by omega, by omega, rfl, by go_num, HL.out.more hlt (step_ok HD.out (by omega) (by omega) (by omega))⟩
               case measure => simp [intOf]; omega)
            | (go_ret2
               have e := HL.out.stop hlt (step_bad HD.out (by omega))
               exact ⟨by rw [e]; rfl, rfl⟩)
        · have HD := Lib.hid (dig_bad d1 d2)
          go_wp2
          all_goals
            go_ret2
            have e := HL.out.stop hlt (step_bad HD.out (.inl (by omega)))
            exact ⟨by rw [e]; rfl, rfl⟩
    · go_wp2
      go_ret2
      have e := HL.out.done (by omega)
      exact ⟨by rw [e]; rfl, rfl⟩

end Go.Proofs.YtancidbbkoeokaaGreatDoor
