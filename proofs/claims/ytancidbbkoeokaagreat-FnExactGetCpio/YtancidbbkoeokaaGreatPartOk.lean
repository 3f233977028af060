/- Contract of spec.PartOk, for every string, the world unchanged (impl.PartOk: Vis.t). -/
import Derived.Test.YtancidbbkoeokaaGreatPartMath
import Derived.Test.YtancidbbkoeokaaGreatIn
import Derived.Test.YtancidbbkoeokaaGreatVis
import Derived.WalkMore
namespace Go.Proofs.YtancidbbkoeokaaGreat
open Go.ChangeShapes Go.WideShapes Go.ChangeAt Go.RowKit

theorem partOk_spec (s : ByteArray) (w : World) (hs : s.size ≤ 9223372036854775807) :
    Calls Tryz.prog 78 #[.string s] w fun e w' => e = .returned (.bool (partOkv s)) ∧ w = w' := by
  go_enter Tryz.func78, Tryz.ntmps78
  go_wp2
  go_loop [3] (fun u => ∃ (k : Nat), k ≤ s.size ∧ u = .int .i64 k ∧ OkTo s k) (fun u => s.size - (intOf u).toNat)
  case atStart => exact ⟨0, Nat.zero_le _, rfl, OkTo.start s⟩
  case round =>
    obtain ⟨k, hk, rfl, ho⟩ := hrel
    have HO := Lib.hid ho
    clear ho
    by_cases hlt : k < s.size
    · have hc := UInt8.toNat_lt s[k]
      by_cases d1 : (33 : Int) ≤ (s[k].toNat : Int) ∧ (s[k].toNat : Int) ≤ 126
      · have hi := inB_t d1
        by_cases d2 : (s[k].toNat : Int) = 47
        · have HB := Lib.hid (partOk_bad (okb_bad hlt (okb_f (.inr d2))))
          have hq : ((s[k].toNat : Int) == 47) = true := by simp [d2]
          clear d2
          go_wp2_with (go_at_call 58; refine (in_any _ _ _ _).mono ?_; rintro e w' ⟨rfl, rfl⟩)
          go_ret
          exact ⟨ret_bool HB.out.symm, rfl⟩
        · have HN := Lib.hid (HO.out.step hlt (okb_t d1.1 d1.2 d2))
          have hq : ((s[k].toNat : Int) == 47) = false := by simpa using d2
          clear d2
          go_wp2_with (go_at_call 58; refine (in_any _ _ _ _).mono ?_; rintro e w' ⟨rfl, rfl⟩)
          go_round
          case rel => exact ⟨k + 1, by omega, by go_num, HN.out⟩
          case measure => simp [intOf]; omega
      · have hi := inB_f d1
        have HB := Lib.hid (partOk_bad (okb_bad hlt (okb_f (.inl d1))))
        go_wp2_with (go_at_call 58; refine (in_any _ _ _ _).mono ?_; rintro e w' ⟨rfl, rfl⟩)
        go_ret
        exact ⟨ret_bool HB.out.symm, rfl⟩
    · obtain rfl : k = s.size := by omega
      have HA := Lib.hid HO.out.done
      by_cases d1 : (1 : Int) ≤ (s.size : Int) ∧ (s.size : Int) ≤ 60
      · have hi := inB_t d1
        by_cases e1 : s = dot1
        · have HB := Lib.hid (partOk_dot1 e1)
          have q1 := lit_eq (l := [46]) e1
          clear e1
          go_wp2_with (go_at_call 58; refine (in_any _ _ _ _).mono ?_; rintro e w' ⟨rfl, rfl⟩)
          go_ret
          exact ⟨ret_bool HB.out.symm, rfl⟩
        · have q1 := lit_ne (l := [46]) e1
          by_cases e2 : s = dot2
          · have HB := Lib.hid (partOk_dot2 e2)
            have q2 := lit_eq (l := [46, 46]) e2
            clear e1 e2
            go_wp2_with (go_at_call 58; refine (in_any _ _ _ _).mono ?_; rintro e w' ⟨rfl, rfl⟩)
            go_ret
            exact ⟨ret_bool HB.out.symm, rfl⟩
          · have q2 := lit_ne (l := [46, 46]) e2
            have HB := Lib.hid (partOk_good HA.out (by omega) e1 e2)
            clear e1 e2
            go_wp2_with (go_at_call 58; refine (in_any _ _ _ _).mono ?_; rintro e w' ⟨rfl, rfl⟩)
            go_ret
            exact ⟨ret_bool HB.out.symm, rfl⟩
      · have hi := inB_f d1
        have HB := Lib.hid (partOk_size (s := s) (by omega))
        go_wp2_with (go_at_call 58; refine (in_any _ _ _ _).mono ?_; rintro e w' ⟨rfl, rfl⟩)
        go_ret
        exact ⟨ret_bool HB.out.symm, rfl⟩

end Go.Proofs.YtancidbbkoeokaaGreat
