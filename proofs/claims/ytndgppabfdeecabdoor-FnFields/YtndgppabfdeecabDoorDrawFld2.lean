/- More draws of laws.FnFields. -/
import Derived.Test.YtndgppabfdeecabDoorDrawFld
import Derived.Test.YtndgppabfdeecabDoorPick
import Derived.Test.YtndgppabfdeecabDoorOnce
import Derived.Test.YtndgppabfdeecabDoorReadDecB
namespace Go.Proofs.YtndgppabfdeecabDoor
open Go.ChangeShapes Go.WideShapes Go.ChangeAt Go.RowKit

def DrawT (m : Nat) (w : World) (e : Ending) (w' : World) : Prop := ∃ s : ByteArray, s.size ≤ m ∧ e = .returned (.string s) ∧ Below w.heap.size w w'

theorem drawSumOf (a : Option Addr) (len cap : Nat) (w : World) (hC : CodeIn w a len) :
    Calls Tryd.prog 16 #[.slice a len cap] w (DrawT 100 w) := by
  have HC := Lib.hid hC
  clear hC
  go_enter Tryd.func16, Tryd.ntmps16
  go_wp2_with fail
  refine (new_any a len cap _ HC.out).mono ?_
  rintro e w1 ⟨rfl, hc1, b1⟩
  have C1 := Lib.hid hc1
  have B1 := Lib.hid b1
  clear hc1 b1
  go_wp2_with fail
  refine (below_any _ a len cap _ _ _ C1.out (by omega) (by omega)).mono ?_
  rintro e w2 ⟨x, hx, rfl, hc, g⟩
  have C2 := Lib.hid hc
  have G2 := Lib.hid g
  clear hc g
  obtain ⟨n, rfl⟩ := Int.eq_ofNat_of_zero_le hx.1
  go_wp2_with fail
  refine (text_any _ a len cap _ n _ C2.out (by omega)).mono ?_
  rintro e w3 ⟨s, hs, rfl, hc, g⟩
  have G3 := Lib.hid (gtrans G2.out g)
  have HS := Lib.hid (show s.size ≤ 100 by omega)
  clear hc g hs
  go_wp2_with fail
  go_ret
  exact ⟨s, HS.out, rfl, below_of_g B1.out (Nat.le_refl _) G3.out⟩

theorem fillv_size (s : ByteArray) (m : Int) : (fillv s m).size ≤ s.size ∨ ((fillv s m).size : Int) = m := by
  unfold fillv
  split
  · exact .inl (Nat.le_refl _)
  · right
    rw [ByteArray.size_append, nulv_size]
    omega

theorem drawCut (a : Option Addr) (len cap : Nat) (w : World) (hC : CodeIn w a len) :
    Calls Tryd.prog 15 #[.slice a len cap] w (DrawT 100 w) := by
  have HC := Lib.hid hC
  clear hC
  go_enter Tryd.func15, Tryd.ntmps15
  go_wp2_with fail
  refine (new_any a len cap _ HC.out).mono ?_
  rintro e w1 ⟨rfl, hc1, b1⟩
  have C1 := Lib.hid hc1
  have B1 := Lib.hid b1
  clear hc1 b1
  go_wp2_with fail
  refine (below_any _ a len cap _ _ _ C1.out (by omega) (by omega)).mono ?_
  rintro e w2 ⟨x, hx, rfl, hc, g⟩
  have C2 := Lib.hid hc
  have G2 := Lib.hid g
  clear hc g
  obtain ⟨n, rfl⟩ := Int.eq_ofNat_of_zero_le hx.1
  go_wp2_with fail
  refine (text_any _ a len cap _ n _ C2.out (by omega)).mono ?_
  rintro e w3 ⟨s, hs, rfl, hc, g⟩
  have C3 := Lib.hid hc
  have G3 := Lib.hid (gtrans G2.out g)
  have hs12 : s.size ≤ 12 := by omega
  clear hc g hs
  go_wp2_with fail
  refine (below_any _ a len cap _ _ _ C3.out (by omega) (by omega)).mono ?_
  rintro e w4 ⟨y, hy, rfl, hc, g⟩
  have C4 := Lib.hid hc
  have G4 := Lib.hid (gtrans G3.out g)
  clear hc g
  go_wp2_with fail
  refine (fill_spec s y _ (by omega)).mono ?_
  rintro e w5 ⟨rfl, b5⟩
  have B5 := Lib.hid b5
  have HS := Lib.hid (show (fillv s y).size ≤ 100 by have := fillv_size s y; omega)
  clear b5
  generalize fillv s y = t at HS
  go_wp2_with fail
  go_ret
  refine ⟨t, HS.out, rfl, ?_⟩
  have b4 := below_of_g B1.out (Nat.le_refl _) G4.out
  exact b4.trans (B5.out.mono b4.size)

def I64R (x : Int) : Prop := -9223372036854775808 ≤ x ∧ x ≤ 9223372036854775807
theorem drawDecText (a : Option Addr) (len cap : Nat) (w : World) (hC : CodeIn w a len) :
    Calls Tryd.prog 17 #[.slice a len cap] w (fun e w' => ∃ n : Int, I64R n ∧ e = .returned (.int .i64 n) ∧ Below w.heap.size w w') := by
  have HC := Lib.hid hC
  clear hC
  go_enter Tryd.func17, Tryd.ntmps17
  go_wp2_with fail
  refine (new_any a len cap _ HC.out).mono ?_
  rintro e w1 ⟨rfl, hc1, b1⟩
  have C1 := Lib.hid hc1
  have B1 := Lib.hid b1
  clear hc1 b1
  go_wp2_with fail
  refine (below_any _ a len cap _ _ _ C1.out (by omega) (by omega)).mono ?_
  rintro e w2 ⟨x, hx, rfl, hc, g⟩
  have C2 := Lib.hid hc
  have G2 := Lib.hid g
  clear hc g
  go_wp2_with fail
  have hL := listAt_lit I64R w2 [0, -1, 10, 9223372036854775807, -9223372036854775808, x] (by
    intro z hz
    simp only [List.mem_cons, List.mem_nil_iff, or_false] at hz
    unfold I64R
    omega) 3
  refine (pickInt_any I64R _ a len cap _ w2.heap.size 6 _ (C2.out.alloc _) hL (Nat.ne_of_gt C2.out.lt) (by omega) (by omega)).mono ?_
  rintro e w3 ⟨m, hm, rfl, hc3, g3⟩
  have HM := Lib.hid hm
  have G3 := Lib.hid (gtrans G2.out (gtrans (galloc _ _ _) g3))
  clear hc3 g3 hm hL
  go_wp2_with fail
  go_ret
  exact ⟨m, HM.out, rfl, below_of_g B1.out (Nat.le_refl _) G3.out⟩

theorem decText_size (x : Int) (h0 : 0 ≤ x) (h1 : x < 1000000) : (decTextv x).size ≤ 100 := by
  rw [decTextv_size x h0]
  have := numeral_len (b := 10) (u := x.toNat) (k := 6) (by omega) (by omega) (by omega)
  omega
theorem drawReadDec (a : Option Addr) (len cap : Nat) (w : World) (hC : CodeIn w a len) :
    Calls Tryd.prog 18 #[.slice a len cap] w (DrawT 100 w) := by
  have HC := Lib.hid hC
  clear hC
  go_enter Tryd.func18, Tryd.ntmps18
  go_wp2_with fail
  refine (new_any a len cap _ HC.out).mono ?_
  rintro e w1 ⟨rfl, hc1, b1⟩
  have C1 := Lib.hid hc1
  have B1 := Lib.hid b1
  clear hc1 b1
  go_wp2_with fail
  refine (once_any _ a len cap _ _ _ C1.out (by omega) (by omega)).mono ?_
  rintro e w2 ⟨b, rfl, hc2, g2⟩
  have C2 := Lib.hid hc2
  have G2 := Lib.hid g2
  clear hc2 g2
  cases b with
  | true =>
    go_wp2_with fail
    have hL := listSAt_lit 20 w2 [⟨#[]⟩, ⟨#[45, 49]⟩, ⟨#[48, 48]⟩, ⟨#[48, 49]⟩, ⟨#[49, 120]⟩, ⟨#[57, 57, 57, 57, 57, 57]⟩, ⟨#[49, 48, 48, 48, 48, 48, 48]⟩, ⟨#[49, 56, 52, 52, 54, 55, 52, 52, 48, 55, 51, 55, 48, 57, 53, 53, 49, 54, 49, 55]⟩] (by intro z hz; simp at hz; rcases hz with rfl | rfl | rfl | rfl | rfl | rfl | rfl | rfl <;> decide) 9
    refine (pick_any 20 _ a len cap _ w2.heap.size 8 _ (C2.out.alloc _) hL (Nat.ne_of_gt C2.out.lt) (by omega) (by omega)).mono ?_
    rintro e w3 ⟨s, hs, rfl, hc3, g3⟩
    have HS := Lib.hid (show s.size ≤ 100 by omega)
    have G3 := Lib.hid (gtrans G2.out (gtrans (galloc _ _ _) g3))
    clear hc3 g3 hs hL
    go_wp2_with fail
    go_ret
    exact ⟨s, HS.out, rfl, below_of_g B1.out (Nat.le_refl _) G3.out⟩
  | false =>
    go_wp2_with fail
    refine (below_any _ a len cap _ _ _ C2.out (by omega) (by omega)).mono ?_
    rintro e w3 ⟨x, hx, rfl, hc3, g3⟩
    have G3 := Lib.hid (gtrans G2.out g3)
    have HS := Lib.hid (decText_size x hx.1 (by omega))
    clear hc3 g3
    go_wp2_with fail
    refine (decText_spec x (by omega) (by omega) _).mono ?_
    rintro e w4 ⟨rfl, rfl⟩
    generalize decTextv x = t at HS
    go_wp2_with fail
    go_ret
    exact ⟨t, HS.out, rfl, below_of_g B1.out (Nat.le_refl _) G3.out⟩

theorem drawWords (a : Option Addr) (len cap : Nat) (w : World) (hC : CodeIn w a len) :
    Calls Tryd.prog 19 #[.slice a len cap] w (DrawT 100 w) := by
  have HC := Lib.hid hC
  clear hC
  go_enter Tryd.func19, Tryd.ntmps19
  go_wp2_with fail
  refine (new_any a len cap _ HC.out).mono ?_
  rintro e w1 ⟨rfl, hc1, b1⟩
  have C1 := Lib.hid hc1
  have B1 := Lib.hid b1
  clear hc1 b1
  go_wp2_with fail
  refine (below_any _ a len cap _ _ _ C1.out (by omega) (by omega)).mono ?_
  rintro e w2 ⟨x, hx, rfl, hc, g⟩
  have C2 := Lib.hid hc
  have G2 := Lib.hid g
  clear hc g
  obtain ⟨n, rfl⟩ := Int.eq_ofNat_of_zero_le hx.1
  go_wp2_with fail
  go_loopw [4, 6] (fun v i wr => ∃ (s : ByteArray) (j : Nat), s.size ≤ 2 * j ∧ j ≤ n ∧ v = .string s ∧ i = .int .i64 j ∧ CurAt w.heap.size a len cap wr w.heap.size ∧ w1.grownBy wr (some w.heap.size)) (fun _ i _ => n - (intOf i).toNat)
  case atStart => exact ⟨_, 0, by simp [ByteArray.size], Nat.zero_le _, rfl, rfl, C2.out, G2.out⟩
  case round =>
    obtain ⟨s, j, hs, hj, rfl, rfl, hc, hg⟩ := hrel
    have CJ := Lib.hid hc
    have GJ := Lib.hid hg
    clear hc hg
    by_cases hlt : (j : Int) < n
    · have hs2 : s.size ≤ 100 := by omega
      have HL := Lib.hid (listSAt_lit 2 wr [⟨#[97]⟩, ⟨#[32]⟩, ⟨#[98, 99]⟩, ⟨#[32]⟩, ⟨#[]⟩] (by intro z hz; simp at hz; rcases hz with rfl | rfl | rfl | rfl | rfl <;> decide) 9)
      have hne := Nat.ne_of_gt CJ.out.lt
      go_wp2_with fail
      refine (pick_any 2 _ a len cap _ wr.heap.size 5 _ (CJ.out.alloc _) HL.out hne (by omega) (by omega)).mono ?_
      rintro e w3 ⟨t, ht, rfl, hc3, g3⟩
      have C3 := Lib.hid hc3
      have G3 := Lib.hid (gtrans GJ.out (gtrans (galloc _ _ _) g3))
      clear hc3 g3
      go_wp2_with fail
      go_roundw
      case rel => exact ⟨s ++ t, j + 1, by rw [ByteArray.size_append]; omega, by omega, rfl, by go_num, C3.out, G3.out⟩
      case measure => simp [intOf]; omega
    · go_wp2_with fail
      go_ret
      exact ⟨s, by omega, rfl, below_of_g B1.out (Nat.le_refl _) GJ.out⟩
end Go.Proofs.YtndgppabfdeecabDoor
