/- The draws of texts with slashes: spec.l02Long, l02Odd, l02Deep, l02Path, l02Any: some text of at most 300 bytes. -/
import Derived.Test.YthembgllkfgknaaPick
import Derived.Test.YthembgllkfgknaaOnce
namespace Go.Proofs.Ythembgllkfgknaa
open Go.ChangeShapes Go.WideShapes Go.ChangeAt Go.RowKit

theorem DrawnS.mono {m m' base : Nat} {a : Option Addr} {len cap c : Nat} {w : World} {e : Ending} {w' : World} (h : DrawnS m base a len cap c w e w') (hm : m ≤ m') : DrawnS m' base a len cap c w e w' := by
  obtain ⟨s, hs, r⟩ := h
  exact ⟨s, Nat.le_trans hs hm, r⟩
def LongR (x : Int) : Prop := 0 ≤ x ∧ x ≤ 61
theorem sz_app (a b : ByteArray) : (a ++ b).size = a.size + b.size := ByteArray.size_append

theorem long_any (base : Nat) (a : Option Addr) (len cap c : Nat) (w : World) (hC : CurAt base a len cap w c) :
    Calls Try.prog 44 #[.pointer (some ⟨c, 0, none⟩)] w (DrawnS 61 base a len cap c w) := by
  have HC := Lib.hid hC
  clear hC
  go_enter Try.func44, Try.ntmps44
  go_wp2_with fail
  have hL := listAt_lit LongR w [60, 61, 40, 59] (by
    intro z hz
    simp only [List.mem_cons, List.mem_nil_iff, or_false] at hz
    unfold LongR
    omega) 3
  refine (pickInt_any LongR _ a len cap _ w.heap.size 4 _ (HC.out.alloc _) hL (Nat.ne_of_gt HC.out.lt) (by omega) (by omega)).mono ?_
  rintro e w1 ⟨n, hn, rfl, hc1, g1⟩
  obtain ⟨k, rfl⟩ := Int.eq_ofNat_of_zero_le hn.1
  have hk : k ≤ 61 := by have := hn.2; omega
  have C1 := Lib.hid hc1
  have G1 := Lib.hid (gtrans (galloc w _ _) g1)
  clear hc1 g1 hn hL
  go_wp2_with fail
  go_loop [4, 5] (fun v u => ∃ (o : ByteArray) (i : Nat), i ≤ k ∧ o.size = i ∧ v = .string o ∧ u = .int .i64 i) (fun _ u => k - (intOf u).toNat)
  case atStart => exact ⟨⟨#[]⟩, 0, Nat.zero_le _, rfl, rfl, rfl⟩
  case round =>
    obtain ⟨o, i, hi, ho, rfl, rfl⟩ := hrel
    have HO := Lib.hid ho
    have hos : o.size ≤ 61 := by omega
    clear ho
    by_cases hlt : (i : Int) < (k : Int)
    · go_wp2
      go_round
      case rel => exact ⟨_, i + 1, by omega, by rw [sz_app, HO.out]; rfl, rfl, by go_num⟩
      case measure => simp [intOf]; omega
    · go_wp2
      go_ret
      exact ⟨o, hos, rfl, C1.out, G1.out⟩

theorem odd_any (base : Nat) (a : Option Addr) (len cap c : Nat) (w : World) (hC : CurAt base a len cap w c) :
    Calls Try.prog 48 #[.pointer (some ⟨c, 0, none⟩)] w (DrawnS 18 base a len cap c w) := by
  have HC := Lib.hid hC
  clear hC
  go_enter Try.func48, Try.ntmps48
  go_wp2_with fail
  refine (below_any base a len cap c _ _ HC.out (by omega) (by omega)).mono ?_
  rintro e w1 ⟨n, hn, rfl, hc1, g1⟩
  obtain ⟨k, rfl⟩ := Int.eq_ofNat_of_zero_le hn.1
  have hk : k ≤ 5 := by have := hn.2; omega
  have C1 := Lib.hid hc1
  have G1 := Lib.hid g1
  clear hc1 g1 hn
  go_wp2_with fail
  go_loopw [3, 5] (fun v u wr => ∃ (o : ByteArray) (i : Nat), i ≤ k ∧ o.size ≤ 3 * i ∧ v = .string o ∧ u = .int .i64 i ∧ CurAt base a len cap wr c ∧ w.grownBy wr (some c)) (fun _ u _ => k - (intOf u).toNat)
  case atStart => exact ⟨⟨#[]⟩, 0, Nat.zero_le _, Nat.le_refl _, rfl, rfl, C1.out, G1.out⟩
  case round =>
    obtain ⟨o, i, hi, ho, rfl, rfl, hc, hg⟩ := hrel
    have HO := Lib.hid ho
    have hos : o.size ≤ 18 := by omega
    have C2 := Lib.hid hc
    have G2 := Lib.hid hg
    clear ho hc hg
    by_cases hlt : (i : Int) < (k : Int)
    · have HL := Lib.hid (listSAt_lit 3 wr [⟨#[97]⟩, ⟨#[47]⟩, ⟨#[46, 46]⟩, ⟨#[46]⟩, ⟨#[47]⟩, ⟨#[98, 47]⟩, ⟨#[46, 46, 47]⟩, ⟨#[32]⟩, ⟨#[0]⟩, ⟨#[99]⟩] (by decide) 9)
      have hne := Nat.ne_of_gt C2.out.lt
      go_wp2_with fail
      refine (pick_any 3 base a len cap c wr.heap.size 10 _ (C2.out.alloc _) HL.out hne (by omega) (by omega)).mono ?_
      rintro e w3 ⟨t, ht, rfl, hc3, g3⟩
      have C3 := Lib.hid hc3
      have G3 := Lib.hid (gtrans G2.out (gtrans (galloc _ _ _) g3))
      have HT := Lib.hid ht
      have ht2 : t.size ≤ 3 := ht
      clear hc3 g3 ht HL C2 G2
      go_wp2_with fail
      go_roundw
      case rel => exact ⟨_, i + 1, by omega, by rw [sz_app]; have := HO.out; have := HT.out; omega, rfl, by go_num, C3.out, G3.out⟩
      case measure => simp [intOf]; omega
    · go_wp2_with fail
      go_ret
      exact ⟨o, hos, rfl, C2.out, G2.out⟩

def DeepR (x : Int) : Prop := 0 ≤ x ∧ x ≤ 60
theorem deep_any (base : Nat) (a : Option Addr) (len cap c : Nat) (w : World) (hC : CurAt base a len cap w c) :
    Calls Try.prog 45 #[.pointer (some ⟨c, 0, none⟩)] w (DrawnS 300 base a len cap c w) := by
  have HC := Lib.hid hC
  clear hC
  go_enter Try.func45, Try.ntmps45
  go_wp2_with fail
  have hL := listAt_lit DeepR w [37, 60, 58, 40] (by
    intro z hz
    simp only [List.mem_cons, List.mem_nil_iff, or_false] at hz
    unfold DeepR
    omega) 3
  have C1 := Lib.hid (HC.out.alloc (.cells #[.int .i64 37, .int .i64 60, .int .i64 58, .int .i64 40] 3))
  have G1 := Lib.hid (galloc w (.cells #[.int .i64 37, .int .i64 60, .int .i64 58, .int .i64 40] 3) (some c))
  change ListAt DeepR (w.alloc (.cells #[.int .i64 37, .int .i64 60, .int .i64 58, .int .i64 40] 3)) w.heap.size 4 at hL
  generalize w.heap.size = g at hL ⊢
  generalize w.alloc (.cells #[.int .i64 37, .int .i64 60, .int .i64 58, .int .i64 40] 3) = w1 at hL C1 G1 ⊢
  have HL := Lib.hid hL
  clear hL
  go_loop [3, 5] (fun v u => ∃ (o : ByteArray) (i : Nat), i ≤ 4 ∧ o.size ≤ 61 * i ∧ v = .string o ∧ u = .int .i64 i) (fun _ u => 4 - (intOf u).toNat)
  case atStart => exact ⟨⟨#[]⟩, 0, Nat.zero_le _, Nat.le_refl _, rfl, rfl⟩
  case round =>
    obtain ⟨o, i, hi, ho, rfl, rfl⟩ := hrel
    have HO := Lib.hid ho
    have hos : o.size ≤ 244 := by omega
    clear ho
    by_cases hlt : (i : Int) < 4
    · obtain ⟨z, hz, hcell⟩ := HL.out i (by omega)
      have hz0 : 0 ≤ z := hz.1
      have hz1 : z ≤ 60 := hz.2
      clear hz
      go_wp2
      go_loop [3, 6] (fun v u => ∃ (p : ByteArray) (k : Nat), (k : Int) ≤ z ∧ p.size = o.size + k ∧ v = .string p ∧ u = .int .i64 k) (fun _ u => z.toNat - (intOf u).toNat)
      case atStart => exact ⟨o, 0, hz0, rfl, rfl, rfl⟩
      case round =>
        obtain ⟨p, k, hk, hp, rfl, rfl⟩ := hrel
        have HP := Lib.hid hp
        have hps : p.size ≤ 304 := by omega
        clear hp
        by_cases hlt2 : (k : Int) < z
        · go_wp2
          go_round
          case rel => exact ⟨_, k + 1, by omega, by rw [sz_app, HP.out]; exact (Nat.add_assoc _ _ _), rfl, by go_num⟩
          case measure => simp [intOf]; omega
        · go_wp2
          go_round
          case rel => exact ⟨_, i + 1, by omega, by rw [sz_app, HP.out]; have := HO.out; have : (⟨#[47]⟩ : ByteArray).size = 1 := rfl; omega, rfl, by go_num⟩
          case measure => simp [intOf]; omega
    · have HP := Lib.hid (listSAt_lit 5 w1 [⟨#[97]⟩, ⟨#[98]⟩, ⟨#[120]⟩, ⟨#[120, 46, 116, 120, 116]⟩, ⟨#[121]⟩] (by decide) 9)
      have hne := Nat.ne_of_gt C1.out.lt
      go_wp2_with fail
      refine (pick_any 5 base a len cap c w1.heap.size 5 _ (C1.out.alloc _) HP.out hne (by omega) (by omega)).mono ?_
      rintro e w3 ⟨t, ht, rfl, hc3, g3⟩
      have ht2 : t.size ≤ 5 := ht
      go_wp2_with fail
      go_ret
      exact ⟨_, by rw [sz_app]; omega, rfl, hc3, gtrans G1.out (gtrans (galloc _ _ _) g3)⟩

set_option maxHeartbeats 1600000 in
theorem path_any (base : Nat) (a : Option Addr) (len cap c : Nat) (w : World) (hC : CurAt base a len cap w c) :
    Calls Try.prog 19 #[.pointer (some ⟨c, 0, none⟩)] w (DrawnS 300 base a len cap c w) := by
  have HC := Lib.hid hC
  clear hC
  have HP := Lib.hid (listSAt_lit 5 w [⟨#[97]⟩, ⟨#[98]⟩, ⟨#[115, 114, 99]⟩, ⟨#[120, 46, 116, 120, 116]⟩, ⟨#[108, 105, 98]⟩] (by decide) 9)
  have hne := Nat.ne_of_gt HC.out.lt
  go_enter Try.func19, Try.ntmps19
  go_wp2_with fail
  refine (pick_any 5 base a len cap c w.heap.size 5 _ (HC.out.alloc _) HP.out hne (by omega) (by omega)).mono ?_
  rintro e w1 ⟨t1, ht1, rfl, hc1, g1⟩
  have C1 := Lib.hid hc1
  have G1 := Lib.hid (gtrans (galloc w _ _) g1)
  clear hc1 g1 HP hne HC
  go_wp2_with fail
  refine (below_any base a len cap c _ _ C1.out (by omega) (by omega)).mono ?_
  rintro e w2 ⟨n, hn, rfl, hc2, g2⟩
  obtain ⟨k, rfl⟩ := Int.eq_ofNat_of_zero_le hn.1
  have hk : k ≤ 3 := by have := hn.2; omega
  have C2 := Lib.hid hc2
  have G2 := Lib.hid (gtrans G1.out g2)
  clear hc2 g2 hn C1 G1
  go_wp2_with fail
  go_loopw [3, 5] (fun v u wr => ∃ (o : ByteArray) (i : Nat), i ≤ k ∧ o.size ≤ 5 + 6 * i ∧ v = .string o ∧ u = .int .i64 i ∧ CurAt base a len cap wr c ∧ w.grownBy wr (some c)) (fun _ u _ => k - (intOf u).toNat)
  case atStart => exact ⟨t1, 0, Nat.zero_le _, ht1, rfl, rfl, C2.out, G2.out⟩
  case round =>
    obtain ⟨o, i, hi, ho, rfl, rfl, hc, hg⟩ := hrel
    have HO := Lib.hid ho
    have hos : o.size ≤ 23 := by omega
    have C3 := Lib.hid hc
    have G3 := Lib.hid hg
    clear ho hc hg C2 G2
    by_cases hlt : (i : Int) < (k : Int)
    · have HL := Lib.hid (listSAt_lit 4 wr [⟨#[97]⟩, ⟨#[98]⟩, ⟨#[99]⟩, ⟨#[100, 46, 103, 111]⟩, ⟨#[101]⟩] (by decide) 9)
      have hne := Nat.ne_of_gt C3.out.lt
      go_wp2_with fail
      refine (pick_any 4 base a len cap c wr.heap.size 5 _ (C3.out.alloc _) HL.out hne (by omega) (by omega)).mono ?_
      rintro e w3 ⟨t, ht, rfl, hc4, g4⟩
      have C4 := Lib.hid hc4
      have G4 := Lib.hid (gtrans G3.out (gtrans (galloc _ _ _) g4))
      have HT := Lib.hid ht
      have ht2 : t.size ≤ 5 := by omega
      clear hc4 g4 ht HL C3 G3
      go_wp2_with fail
      go_roundw
      case rel => exact ⟨_, i + 1, by omega, by rw [sz_app, sz_app]; have := HO.out; have := HT.out; have : (⟨#[47]⟩ : ByteArray).size = 1 := rfl; omega, rfl, by go_num, C4.out, G4.out⟩
      case measure => simp [intOf]; omega
    · go_wp2_with fail
      refine (below_any base a len cap c _ _ C3.out (by omega) (by omega)).mono ?_
      rintro e w4 ⟨y, hy, rfl, hc4, g4⟩
      have C4 := Lib.hid hc4
      have G4 := Lib.hid (gtrans G3.out g4)
      have s1 : Hid ((⟨#[47]⟩ : ByteArray).size = 1) := Lib.hid rfl
      clear hc4 g4 C3 G3 HO
      by_cases y0 : y = 0
      · subst y0
        go_wp2_with fail
        refine (long_any base a len cap c _ C4.out).mono ?_
        rintro e w5 ⟨t, ht, rfl, hc5, g5⟩
        have C5 := Lib.hid hc5
        have G5 := Lib.hid (gtrans G4.out g5)
        clear hc5 g5
        go_wp2_with fail
        refine (long_any base a len cap c _ C5.out).mono ?_
        rintro e w6 ⟨t2, ht2, rfl, hc6, g6⟩
        go_wp2_with fail
        go_ret
        exact ⟨_, by simp only [sz_app, s1.out]; omega, rfl, hc6, gtrans G5.out g6⟩
      · have e0 : (y == 0) = false := by simp [y0]
        by_cases y1 : y = 1
        · subst y1
          go_wp2_with fail
          refine (long_any base a len cap c _ C4.out).mono ?_
          rintro e w5 ⟨t, ht, rfl, hc5, g5⟩
          go_wp2_with fail
          go_ret
          exact ⟨_, by simp only [sz_app, s1.out]; omega, rfl, hc5, gtrans G4.out g5⟩
        · have e1 : (y == 1) = false := by simp [y1]
          by_cases y2 : y = 2
          · subst y2
            go_wp2_with fail
            refine (long_any base a len cap c _ C4.out).mono ?_
            rintro e w5 ⟨t, ht, rfl, hc5, g5⟩
            have C5 := Lib.hid hc5
            have G5 := Lib.hid (gtrans G4.out g5)
            clear hc5 g5
            go_wp2_with fail
            refine (long_any base a len cap c _ C5.out).mono ?_
            rintro e w6 ⟨t2, ht2, rfl, hc6, g6⟩
            have C6 := Lib.hid hc6
            have G6 := Lib.hid (gtrans G5.out g6)
            clear hc6 g6
            go_wp2_with fail
            refine (long_any base a len cap c _ C6.out).mono ?_
            rintro e w7 ⟨t3, ht3, rfl, hc7, g7⟩
            go_wp2_with fail
            go_ret
            exact ⟨_, by simp only [sz_app, s1.out]; omega, rfl, hc7, gtrans G6.out g7⟩
          · have e2 : (y == 2) = false := by simp [y2]
            by_cases y3 : y = 3
            · subst y3
              go_wp2_with fail
              refine (deep_any base a len cap c _ C4.out).mono ?_
              rintro e w5 ⟨t, ht, rfl, hc5, g5⟩
              go_wp2_with fail
              go_ret
              exact ⟨_, ht, rfl, hc5, gtrans G4.out g5⟩
            · have e3 : (y == 3) = false := by simp [y3]
              by_cases y4 : y = 4
              · subst y4
                go_wp2_with fail
                refine (deep_any base a len cap c _ C4.out).mono ?_
                rintro e w5 ⟨t, ht, rfl, hc5, g5⟩
                go_wp2_with fail
                go_ret
                exact ⟨_, ht, rfl, hc5, gtrans G4.out g5⟩
              · have e4 : (y == 4) = false := by simp [y4]
                go_wp2_with fail
                go_ret
                exact ⟨_, by omega, rfl, C4.out, G4.out⟩

theorem anyT_any (base : Nat) (a : Option Addr) (len cap c : Nat) (w : World) (hC : CurAt base a len cap w c) :
    Calls Try.prog 24 #[.pointer (some ⟨c, 0, none⟩)] w (DrawnS 300 base a len cap c w) := by
  have HC := Lib.hid hC
  clear hC
  go_enter Try.func24, Try.ntmps24
  go_wp2_with fail
  refine (once_any base a len cap c _ _ HC.out (by omega) (by omega)).mono ?_
  rintro e w1 ⟨b, rfl, hc1, g1⟩
  have C1 := Lib.hid hc1
  have G1 := Lib.hid g1
  clear hc1 g1
  cases b with
  | true =>
    go_wp2_with fail
    refine (odd_any base a len cap c _ C1.out).mono ?_
    rintro e w2 ⟨t, ht, rfl, hc2, g2⟩
    go_wp2_with fail
    go_ret
    exact ⟨t, by omega, rfl, hc2, gtrans G1.out g2⟩
  | false =>
    go_wp2_with fail
    refine (path_any base a len cap c _ C1.out).mono ?_
    rintro e w2 ⟨t, ht, rfl, hc2, g2⟩
    go_wp2_with fail
    go_ret
    exact ⟨t, ht, rfl, hc2, gtrans G1.out g2⟩
end Go.Proofs.Ythembgllkfgknaa
