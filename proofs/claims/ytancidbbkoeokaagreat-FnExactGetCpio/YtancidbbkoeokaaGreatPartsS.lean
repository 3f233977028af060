/- Contract of spec.Parts. -/
import Derived.Test.YtancidbbkoeokaaGreatPMath
import Derived.Test.YtancidbbkoeokaaGreatOwnL
namespace Go.Proofs.YtancidbbkoeokaaGreat
open Go.ChangeShapes Go.WideShapes Go.ChangeAt Go.RowKit

theorem slash_is {c : UInt8} (h : c = 47) : (((c.toNat : Nat) : Int) == 47) = true := by subst h; rfl
theorem slash_isnt {c : UInt8} (h : ¬ c = 47) : (((c.toNat : Nat) : Int) == 47) = false := by
  have : c.toNat ≠ 47 := fun e => h (UInt8.toNat_inj.1 (by simpa using e))
  simp; omega

theorem parts_spec (s : ByteArray) (w : World) (hs : s.size ≤ 4194304) :
    Calls Tryz.prog 77 #[.string s] w fun e w' => ∃ v, e = .returned v ∧ OwnL w' w.heap.size v (partsv s) ∧ Below w.heap.size w w' := by
  obtain ⟨i0, hi, hz0, hz1, hz2⟩ := info_parts Tryz.info9
  have HS := Lib.hid hs
  have hs2 : s.size ≤ 9223372036854775807 := by omega
  clear hs
  go_enter Tryz.func77, Tryz.ntmps77
  go_wp2
  go_loopw [3, 4, 5] (fun v f i wr => ∃ (D : List ByteArray) (b k : Nat), b ≤ k ∧ k ≤ s.size ∧ D.length ≤ k ∧ f = .int .i64 b ∧ i = .int .i64 k ∧ PartsFrom s D b k ∧ OwnL wr w.heap.size v D ∧ Below w.heap.size w wr) (fun _ _ i _ => s.size - (intOf i).toNat)
  case atStart => exact ⟨[], 0, 0, Nat.le_refl _, Nat.zero_le _, Nat.le_refl _, rfl, rfl, pf_start s, ⟨World.ownsRow_lit w #[] 0 (Nat.le_refl _) (by simp) rfl, _, _, rfl⟩, (Below.refl _ _).alloc (Nat.le_refl _) _⟩
  case round =>
    obtain ⟨D, b, k, hbk, hk, hD, rfl, rfl, hwf, ⟨hown, g, cap, rfl⟩, hb⟩ := hrel
    have HO := Lib.hid hown
    have HB := Lib.hid hb
    have HW := Lib.hid hwf
    have hsz := HB.out.size
    clear hown hb hwf
    by_cases hlt : k < s.size
    · by_cases hc : s[k] = 47
      · have hb47 := slash_is hc
        have HN := Lib.hid (pf_cut HW.out hlt hc)
        have hbs : b ≤ s.size := by omega
        clear hc
        have hks3 : k ≤ s.size := by omega
        go_wp2_with (at_builtin; refine wpList_append_own _ rfl _ _ 102 rfl w.heap.size 9 i0 (.string ⟨#[]⟩) 1 16 Tryz.underlying102 hi hz0 hz1 hz2 rfl (by decide) _ _ _ rfl (World.ownsRow.alloc HO.out _) ⟨wr.heap.size, 0, none⟩ 1 1 [.string (s.extract b k)] rfl rfl ?c1 ?c2 ?c3 ?c4 ?c5 ?_)
        case c1 => exact cell_one_new _ _ _
        case c2 => intro u hu; simp at hu; subst hu; rfl
        case c3 => have := HS.out; simp only [maxLen]; omega
        case c4 => have := HS.out; omega
        case c5 => simp; omega
        · intro v' w1 hown' hgrow hnil
          have hO : OwnL w1 w.heap.size v' (D ++ [s.extract b k]) := own_snoc hown' hnil
          have hBl : Below w.heap.size w w1 := (HB.out.alloc hsz _).grown hgrow (by simp; omega) (fun b hb => (World.ownsRow.lt HO.out b hb).1)
          clear hown' hgrow hnil
          have HO1 := Lib.hid hO
          have HB1 := Lib.hid hBl
          clear hO hBl
          go_wp2
          go_roundw
          case rel => exact ⟨D ++ [s.extract b k], k + 1, k + 1, Nat.le_refl _, by omega, by simp; omega, by go_num, by go_num, HN.out, HO1.out, HB1.out⟩
          case measure => simp [intOf]; omega
      · have hb47 := slash_isnt hc
        have HN := Lib.hid (pf_go HW.out hbk hlt hc)
        clear hc
        go_wp2
        go_roundw
        case rel => exact ⟨D, b, k + 1, by omega, by omega, by omega, rfl, by go_num, HN.out, ⟨HO.out, _, _, rfl⟩, HB.out⟩
        case measure => simp [intOf]; omega
    · obtain rfl : k = s.size := by omega
      have HE := Lib.hid (pf_end HW.out)
      go_wp2_with (at_builtin; refine wpList_append_own _ rfl _ _ 102 rfl w.heap.size 9 i0 (.string ⟨#[]⟩) 1 16 Tryz.underlying102 hi hz0 hz1 hz2 rfl (by decide) _ _ _ rfl (World.ownsRow.alloc HO.out _) ⟨wr.heap.size, 0, none⟩ 1 1 [.string (s.extract b s.size)] rfl rfl ?c1 ?c2 ?c3 ?c4 ?c5 ?_)
      case c1 => exact cell_one_new _ _ _
      case c2 => intro u hu; simp at hu; subst hu; rfl
      case c3 => have := HS.out; simp only [maxLen]; omega
      case c4 => have := HS.out; omega
      case c5 => simp; omega
      · intro v' w1 hown' hgrow hnil
        have hO : OwnL w1 w.heap.size v' (D ++ [s.extract b s.size]) := own_snoc hown' hnil
        have hBl : Below w.heap.size w w1 := (HB.out.alloc hsz _).grown hgrow (by simp; omega) (fun b hb => (World.ownsRow.lt HO.out b hb).1)
        clear hown' hgrow hnil
        rw [HE.out] at hO
        have HO1 := Lib.hid hO
        have HB1 := Lib.hid hBl
        clear hO hBl
        go_wp2
        go_ret
        exact ⟨_, rfl, HO1.out, HB1.out⟩

end Go.Proofs.YtancidbbkoeokaaGreat
