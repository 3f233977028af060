/- The draws of FnGlob. -/
import Derived.Test.YthembgllkfgknaaDrawPath
import Derived.Test.YthembgllkfgknaaDirBase
import Derived.Test.YthembgllkfgknaaParents
namespace Go.Proofs.Ythembgllkfgknaa
open Go.RowKit Go.Shelf

def StripR (x : Int) : Prop := -1 ≤ x ∧ x ≤ 21
theorem dirv_size (t : ByteArray) : (dirv t).size ≤ t.size := by
  unfold dirv; split
  · exact Nat.zero_le _
  · rw [ByteArray.size_extract]; omega
theorem basev_size (t : ByteArray) : (basev t).size ≤ t.size := by
  unfold basev
  simp

theorem drawStrip (a : Option Addr) (len cap : Nat) (w : World) (hC : CodeIn w a len) : Calls Try.prog 7 #[.slice a len cap] w fun e w' => ∃ (s : ByteArray) (n : Int), s.size ≤ 400 ∧ -1 ≤ n ∧ n ≤ 21 ∧ e = .returned (.tuple #[.string s, .int .i64 n]) ∧ Below w.heap.size w w' := by
  have HC := Lib.hid hC
  clear hC
  go_enter Try.func7, Try.ntmps7
  go_wp2_with fail
  refine (new_any a len cap _ HC.out).mono ?_
  rintro e w1 ⟨rfl, hc1, b1⟩
  have C1 := Lib.hid hc1
  have B1 := Lib.hid b1
  clear hc1 b1
  go_wp2_with fail
  refine (anyT_any _ a len cap _ _ C1.out).mono ?_
  rintro e w2 ⟨t, ht, rfl, hc2, g2⟩
  have C2 := Lib.hid hc2
  have G2 := Lib.hid g2
  clear hc2 g2
  have HL := Lib.hid (listAt_lit StripR w2 [0, 1, 2, 3, 20, 21, -1] (by
    intro z hz
    simp only [List.mem_cons, List.mem_nil_iff, or_false] at hz
    unfold StripR
    omega) 3)
  have hne := Nat.ne_of_gt C2.out.lt
  go_wp2_with fail
  refine (pickInt_any StripR _ a len cap _ w2.heap.size 7 _ (C2.out.alloc _) HL.out hne (by omega) (by omega)).mono ?_
  rintro e w3 ⟨n, hn, rfl, hc3, g3⟩
  go_wp2_with fail
  go_ret2
  exact ⟨t, n, by omega, hn.1, hn.2, rfl, below_of_g B1.out (Nat.le_refl _) (gtrans G2.out (gtrans (galloc _ _ _) g3))⟩

theorem drawGlob (a : Option Addr) (len cap : Nat) (w : World) (hC : CodeIn w a len) : Calls Try.prog 6 #[.slice a len cap] w fun e w' => ∃ p s : ByteArray, p.size ≤ 400 ∧ s.size ≤ 300 ∧ e = .returned (.tuple #[.string p, .string s]) ∧ Below w.heap.size w w' := by
  have HC := Lib.hid hC
  clear hC
  go_enter Try.func6, Try.ntmps6
  go_wp2_with fail
  refine (new_any a len cap _ HC.out).mono ?_
  rintro e w1 ⟨rfl, hc1, b1⟩
  have C1 := Lib.hid hc1
  have B1 := Lib.hid b1
  clear hc1 b1
  go_wp2_with fail
  refine (path_any _ a len cap _ _ C1.out).mono ?_
  rintro e w2 ⟨t, ht, rfl, hc2, g2⟩
  have C2 := Lib.hid hc2
  have G2 := Lib.hid g2
  clear hc2 g2 C1
  go_wp2_with fail
  refine (below_any _ a len cap _ _ _ C2.out (by omega) (by omega)).mono ?_
  rintro e w3 ⟨n, hn, rfl, hc3, g3⟩
  obtain ⟨k, rfl⟩ := Int.eq_ofNat_of_zero_le hn.1
  have hk : k ≤ 4 := by have := hn.2; omega
  have C3 := Lib.hid hc3
  have G3 := Lib.hid (gtrans G2.out g3)
  clear hc3 g3 hn C2 G2
  go_wp2_with fail

  go_loopw [6, 8] (fun v u wr => ∃ (o : ByteArray) (i : Nat), i ≤ k ∧ o.size ≤ 3 * i ∧ v = .string o ∧ u = .int .i64 i ∧ CurAt w.heap.size a len cap wr w.heap.size ∧ w1.grownBy wr (some w.heap.size)) (fun _ u _ => k - (intOf u).toNat)
  case atStart => exact ⟨⟨#[]⟩, 0, Nat.zero_le _, Nat.le_refl _, rfl, rfl, C3.out, G3.out⟩
  case round =>
    obtain ⟨o, i, hi, ho, rfl, rfl, hc, hg⟩ := hrel
    have HO := Lib.hid ho
    have hos : o.size ≤ 18 := by omega
    have C4 := Lib.hid hc
    have G4 := Lib.hid hg
    clear ho hc hg
    by_cases hlt : (i : Int) < (k : Int)
    · have HL := Lib.hid (listSAt_lit 3 wr [⟨#[42]⟩, ⟨#[63]⟩, ⟨#[97]⟩, ⟨#[47]⟩, ⟨#[42, 42]⟩, ⟨#[98]⟩, ⟨#[46, 103, 111]⟩] (by decide) 9)
      have hne := Nat.ne_of_gt C4.out.lt
      go_wp2_with fail
      refine (pick_any 3 _ a len cap _ wr.heap.size 7 _ (C4.out.alloc _) HL.out hne (by omega) (by omega)).mono ?_
      rintro e w5 ⟨x, hx, rfl, hc5, g5⟩
      have C5 := Lib.hid hc5
      have G5 := Lib.hid (gtrans G4.out (gtrans (galloc _ _ _) g5))
      have HX := Lib.hid hx
      have hx2 : x.size ≤ 3 := hx
      clear hc5 g5 hx HL C4 G4
      go_wp2_with fail
      go_roundw
      case rel => exact ⟨_, i + 1, by omega, by rw [sz_app]; have := HO.out; have := HX.out; omega, rfl, by go_num, C5.out, G5.out⟩
      case measure => simp [intOf]; omega
    · go_wp2_with fail
      refine (below_any _ a len cap _ _ _ C4.out (by omega) (by omega)).mono ?_
      rintro e w5 ⟨m, hm, rfl, hc5, g5⟩
      have B5 := Lib.hid (below_of_g B1.out (Nat.le_refl _) (gtrans G4.out g5))
      clear hc5 g5
      have h4 : m = 0 ∨ m = 1 ∨ m = 2 ∨ m = 3 := by have := hm.1; have := hm.2; omega
      clear hm
      have HD := Lib.hid (fun w => dir_spec t w (by omega))
      have HB := Lib.hid (fun w => base_spec t w (by omega))
      have hd := dirv_size t
      have hb := basev_size t
      generalize dirv t = d at HD hd
      generalize basev t = b at HB hb
      rcases h4 with rfl | rfl | rfl | rfl
      · go_wp2_with fail
        go_ret2
        exact ⟨t, t, by omega, by omega, rfl, B5.out⟩
      · go_wp2_with fail
        refine (HB.out _).mono ?_
        rintro e w6 ⟨rfl, rfl⟩
        go_wp2_with fail
        go_ret2
        exact ⟨⟨#[42, 42]⟩ ++ b, t, by rw [sz_app]; have : (⟨#[42, 42]⟩ : ByteArray).size = 2 := rfl; omega, by omega, rfl, B5.out⟩
      · go_wp2_with fail
        refine (HD.out _).mono ?_
        rintro e w6 ⟨rfl, rfl⟩
        go_wp2_with fail
        go_ret2
        exact ⟨d ++ ⟨#[47, 42]⟩, t, by rw [sz_app]; have : (⟨#[47, 42]⟩ : ByteArray).size = 2 := rfl; omega, by omega, rfl, B5.out⟩
      · go_wp2_with fail
        go_ret2
        exact ⟨o, t, by omega, by omega, rfl, B5.out⟩
end Go.Proofs.Ythembgllkfgknaa
