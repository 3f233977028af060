/- Contracts of spec.DecText, impl.DecText and the law laws.FnExactDecText, for every int. -/
import Derived.Test.YtgpgkgahbkmdiabGreatDoorDigSl
import Derived.Test.YtgpgkgahbkmdiabGreatDoorShelf
import Derived.Lib.AppendIntMem
import Derived.Lib.ItoaLen
namespace Go.Proofs.YtgpgkgahbkmdiabGreatDoor
open Go.ChangeShapes Go.WideShapes Go.ChangeAt Go.RowKit

theorem below_grow (w : World) (q : Nat) (os : Array Obj) : Below w.heap.size w (Sort.grow (w.drewN q) os) :=
  ⟨rfl, rfl, rfl, by simp [Sort.grow, World.drewN], fun k hk => by simp [Sort.grow, World.drewN, Array.getElem?_append, hk]⟩

def decText (n : Int) : List UInt8 := if n < 0 then 45 :: numeral 10 n.natAbs else numeral 10 n.toNat
def decTextv (n : Int) : ByteArray := ⟨(decText n).toArray⟩
theorem itoa_eq (n : Int) : Lib.itoa n = decText n := by
  unfold Lib.itoa decText; rw [decDigits_eq, decDigits_eq]

set_option maxRecDepth 4000 in
theorem decText_spec (n : Int) (h0 : -9223372036854775808 ≤ n) (h1 : n ≤ 9223372036854775807) (w : World) :
    Calls Tryz.prog 172 #[.int .i64 n] w fun e w' => e = .returned (.string (decTextv n)) ∧ w = w' := by
  by_cases hz : n = 0
  · subst hz
    go_enter Tryz.func172, Tryz.ntmps172
    go_wp2
    go_ret
    exact ⟨rfl, rfl⟩
  · have hzb : (n == 0) = false := by simp [hz]
    by_cases hp : 0 < n
    · go_enter Tryz.func172, Tryz.ntmps172
      go_wp2
      go_loop [3, 4] (fun o m => ∃ (x : Int) (l : List UInt8), 0 ≤ x ∧ x ≤ 9223372036854775807 ∧ m = .int .i64 x ∧ o = .string ⟨l.toArray⟩ ∧ DigFrom 10 n.toNat x.toNat l) (fun _ m => (intOf m).toNat)
      case atStart => exact ⟨n, [], by omega, by omega, rfl, rfl, DigFrom.start _ _⟩
      case round =>
        obtain ⟨x, l, hx0, hx1, rfl, rfl, hD⟩ := hrel
        have hlen : l.length ≤ 20 := hD.len (by omega) (by omega)
        have HD := Lib.hid hD
        clear hD
        by_cases hx : x = 0
        · subst hx
          go_wp2
          go_ret
          refine ⟨ret_str ?_, rfl⟩
          rw [HD.out.done, decTextv, decText, if_neg (by omega), numeral, if_neg (by omega)]
        · have hxb : (x != 0) = true := by simp [hx]
          have hsl := slice_dec (x % 10) (by omega) (by omega) w
          have HN := Lib.hid (show DigFrom 10 n.toNat (x / 10).toNat (dch (x % 10).toNat :: l) by
            have := HD.out.more (by omega) (by omega)
            rw [show (x / 10).toNat = x.toNat / 10 by omega, show (x % 10).toNat = x.toNat % 10 by omega]
            exact this)
          go_wp2
          go_round
          case rel => exact ⟨x / 10, _, by omega, by omega, rfl, by rw [cons_str], HN.out⟩
          case measure => simp [intOf]; omega
    · go_enter Tryz.func172, Tryz.ntmps172
      go_wp2
      go_loop [3, 4] (fun o m => ∃ (x : Int) (l : List UInt8), -9223372036854775808 ≤ x ∧ x ≤ 0 ∧ m = .int .i64 x ∧ o = .string ⟨l.toArray⟩ ∧ DigFrom 10 n.natAbs x.natAbs l) (fun _ m => (intOf m).natAbs)
      case atStart => exact ⟨n, [], by omega, by omega, rfl, rfl, DigFrom.start _ _⟩
      case round =>
        obtain ⟨x, l, hx0, hx1, rfl, rfl, hD⟩ := hrel
        have hlen : l.length ≤ 20 := hD.len (by omega) (by omega)
        have HD := Lib.hid hD
        clear hD
        by_cases hx : x = 0
        · subst hx
          have hn : n < 0 := by omega
          go_wp2
          go_ret
          refine ⟨ret_str ?_, rfl⟩
          rw [cons_str, HD.out.done, decTextv, decText, if_pos hn, numeral, if_neg (by omega)]
        · have hxb : (x != 0) = true := by simp [hx]
          obtain ⟨y, hy⟩ : ∃ y, y = -x := ⟨_, rfl⟩
          obtain rfl : x = -y := by omega
          clear hy
          have hy0 : 0 < y := by omega
          have e1 : (-y).tmod 10 = -(y % 10) := by rw [Int.neg_tmod, Int.tmod_eq_emod_of_nonneg (by omega)]
          have e2 : (-y).tdiv 10 = -(y / 10) := by rw [Int.neg_tdiv, Int.tdiv_eq_ediv_of_nonneg (by omega)]
          have HN := Lib.hid (show DigFrom 10 n.natAbs (-(y / 10)).natAbs (dch (y % 10).toNat :: l) by
            have := HD.out.more (by omega) (by omega)
            rw [show (-(y / 10)).natAbs = (-y).natAbs / 10 by omega, show (y % 10).toNat = (-y).natAbs % 10 by omega]
            exact this)
          by_cases hr : y % 10 = 0
          · have HR := Lib.hid hr
            have e3 : (-y).tmod 10 = 0 := by rw [e1, hr]; rfl
            have hsl := slice_dec 0 (by omega) (by omega) w
            rw [show (0 : Int) + 1 = 1 from rfl] at hsl
            clear e1 hr
            go_wp2
            go_round
            case rel => exact ⟨-(y / 10), dch (y % 10).toNat :: l, by omega, by omega, rfl, by rw [HR.out, ← cons_str]; rfl, HN.out⟩
            case measure => simp [intOf]; omega
          · have hr0 : 0 < y % 10 := by omega
            have hsl := slice_dec (y % 10) (by omega) (by omega) w
            clear hr
            go_wp2
            go_round
            case rel => exact ⟨-(y / 10), _, by omega, by omega, rfl, by rw [cons_str], HN.out⟩
            case measure => simp [intOf]; omega

theorem decText_impl (n : Int) (h0 : -9223372036854775808 ≤ n) (h1 : n ≤ 9223372036854775807) (w : World) (ht : Lib.TabIs Tryz.prog w "internal/strconv.uint64pow10" .u64 Lib.pow10Tab) :
    Calls Tryz.prog 101 #[.int .i64 n] w fun e w' => e = .returned (.string (decTextv n)) ∧ Below w.heap.size w w' := by
  have hc := Tryz.strconv_Itoa n h0 h1 w ht
  rw [itoa_eq] at hc
  have HC := Lib.hid hc
  have HT := Lib.hid ht
  clear hc ht
  go_enter Tryz.func101, Tryz.ntmps101
  go_wp2_with (go_at_call 150; refine HC.out.mono ?_; rintro e w' ⟨rfl, k, os, rfl⟩)
  go_ret
  exact ⟨rfl, below_grow _ _ _⟩

end Go.Proofs.YtgpgkgahbkmdiabGreatDoor
