/- The law laws.FnClean returns true. -/
import Derived.Test.YtifkgihhdmmhdabDrawPaths
import Derived.Test.YtifkgihhdmmhdabFollow
namespace Go.Proofs.Ytifkgihhdmmhdab
open Go.RowKit Go.Shelf

theorem bigc_any (a : Option Addr) (len cap : Nat) (w : World) : Calls Try.prog 8 #[.slice a len cap] w fun e w' => e = .returned (.bool (decide (1048576 < (len : Int)))) ∧ w = w' := by
  go_enter Try.func8, Try.ntmps8
  go_wp2
  go_ret
  exact ⟨rfl, rfl⟩
theorem bt {a b c : World} (h : Below a.heap.size a b) (k : Below b.heap.size b c) : Below a.heap.size a c := h.trans (k.mono h.size)
theorem follow_ok {d l : ByteArray} (h : (followv d l).2 = true) : pathOkv (followv d l).1 = true := by
  unfold followv at h ⊢
  split at h
  · rename_i hc; rw [if_pos hc]; exact clean_ok h
  · rename_i hc; rw [if_neg hc]; exact clean_ok h
theorem follow_size {d l : ByteArray} : (followv d l).1.size ≤ 200 := by
  unfold followv
  split
  · exact clean_size
  · exact clean_size

set_option maxHeartbeats 1600000 in
theorem fnClean_law (a : Option Addr) (len cap : Nat) (w : World) (hC : len ≤ 1048576 → CodeIn w a len) :
    Calls Try.prog 5 #[.slice a len cap] w fun e w' => e = .returned (.bool true) ∧ Below w.heap.size w w' := by
  have HB := Lib.hid (fun w => bigc_any a len cap w)
  by_cases hl : len ≤ 1048576
  · have HC := Lib.hid (hC hl)
    have hd : decide (1048576 < (len : Int)) = false := by simp; omega
    rw [hd] at HB
    clear hd hC
    go_enter Try.func5, Try.ntmps5
    go_wp2_with fail
    refine (HB.out _).mono ?_
    rintro e w0 ⟨rfl, rfl⟩
    go_wp2_with fail
    refine (drawClean a len cap _ HC.out).mono ?_
    rintro e w1 ⟨s, hs, rfl, b1⟩
    have B1 := Lib.hid b1
    clear b1
    have H1 := Lib.hid (fun w => clean_impl s w (by omega))
    have H2 := Lib.hid (fun w => clean_spec s w (by omega))
    have HOK := Lib.hid (fun h => clean_ok (s := s) h)
    have HSZ := Lib.hid (clean_size (s := s))
    have HPS := Lib.hid (fun h => clean_path (s := s) h)
    have H7 := Lib.hid (fun w => pathOk_spec s w (by omega))
    generalize cleanv s = cs at H1 H2 HOK HSZ HPS
    obtain ⟨p, ok⟩ := cs
    go_wp2_with fail
    refine (H1.out _).mono ?_
    rintro e w2 ⟨rfl, b2⟩
    have B2 := Lib.hid (bt B1.out b2)
    clear b2 B1 H1
    go_wp2_with fail
    refine (H2.out _).mono ?_
    rintro e w3 ⟨rfl, b3⟩
    have B3 := Lib.hid (bt B2.out b3)
    clear b3 B2 H2
    go_wp2_with fail
    refine (drawFollow a len cap _ (HC.out.below B3.out)).mono ?_
    rintro e w4 ⟨d, l, hd, hl2, rfl, b4⟩
    have B4 := Lib.hid (bt B3.out b4)
    clear b4 B3
    have H3 := Lib.hid (fun w => follow_impl d l w (by omega) (by omega))
    have H4 := Lib.hid (fun w => follow_spec d l w (by omega) (by omega))
    have HOF := Lib.hid (fun h => follow_ok (d := d) (l := l) h)
    have HSF := Lib.hid (follow_size (d := d) (l := l))
    generalize followv d l = fs at H3 H4 HOF HSF
    obtain ⟨f, fine⟩ := fs
    go_wp2_with fail
    refine (H3.out _).mono ?_
    rintro e w5 ⟨rfl, b5⟩
    have B5 := Lib.hid (bt B4.out b5)
    clear b5 B4 H3
    go_wp2_with fail
    refine (H4.out _).mono ?_
    rintro e w6 ⟨rfl, b6⟩
    have B6 := Lib.hid (bt B5.out b6)
    clear b6 B5 H4
    have H5 := Lib.hid (fun w => pathOk_impl p w (by have := HSZ.out; omega))
    have H6 := Lib.hid (fun w => pathOk_impl f w (by have := HSF.out; omega))
    have H8 := Lib.hid (fun w => clean_impl p w (by have := HSZ.out; omega))
    have HCP := Lib.hid (fun h => clean_path (s := p) h)
    have q1 := self_eq p
    have q2 := self_eq f
    cases ok with
    | true =>
      have hp := HOK.out rfl
      rw [hp] at H5
      rw [HCP.out hp] at H8
      clear hp HCP HOK
      cases fine with
      | true =>
        have hf := HOF.out rfl
        rw [hf] at H6
        clear hf HOF
        go_wp2_with fail
        refine (H5.out _).mono ?_
        rintro e w7 ⟨rfl, b7⟩
        have B7 := Lib.hid (bt B6.out b7)
        clear b7 B6 H5
        go_wp2_with fail
        refine (H6.out _).mono ?_
        rintro e w8 ⟨rfl, b8⟩
        have B8 := Lib.hid (bt B7.out b8)
        clear b8 B7 H6
        go_wp2_with fail
        cases hps : pathOkv s with
        | true =>
          have hpe := HPS.out hps
          rw [hps] at H7
          simp only [Prod.mk.injEq, and_true] at hpe
          subst hpe
          clear hps HPS
          refine (H7.out _).mono ?_
          rintro e w9 ⟨rfl, b9⟩
          have B9 := Lib.hid (bt B8.out b9)
          clear b9 B8 H7
          go_wp2_with fail
          refine (H8.out _).mono ?_
          rintro e w10 ⟨rfl, b10⟩
          have B10 := Lib.hid (bt B9.out b10)
          clear b10 B9 H8
          go_wp2_with fail
          go_ret
          exact ⟨rfl, B10.out⟩
        | false =>
          rw [hps] at H7
          clear hps HPS
          refine (H7.out _).mono ?_
          rintro e w9 ⟨rfl, b9⟩
          have B9 := Lib.hid (bt B8.out b9)
          clear b9 B8 H7
          go_wp2_with fail
          refine (H8.out _).mono ?_
          rintro e w10 ⟨rfl, b10⟩
          have B10 := Lib.hid (bt B9.out b10)
          clear b10 B9 H8
          go_wp2_with fail
          go_ret
          exact ⟨rfl, B10.out⟩
      | false =>
        go_wp2_with fail
        refine (H5.out _).mono ?_
        rintro e w7 ⟨rfl, b7⟩
        have B8 := Lib.hid (bt B6.out b7)
        clear b7 B6 H5
        go_wp2_with fail
        cases hps : pathOkv s with
        | true =>
          have hpe := HPS.out hps
          rw [hps] at H7
          simp only [Prod.mk.injEq, and_true] at hpe
          subst hpe
          clear hps HPS
          refine (H7.out _).mono ?_
          rintro e w9 ⟨rfl, b9⟩
          have B9 := Lib.hid (bt B8.out b9)
          clear b9 B8 H7
          go_wp2_with fail
          refine (H8.out _).mono ?_
          rintro e w10 ⟨rfl, b10⟩
          have B10 := Lib.hid (bt B9.out b10)
          clear b10 B9 H8
          go_wp2_with fail
          go_ret
          exact ⟨rfl, B10.out⟩
        | false =>
          rw [hps] at H7
          clear hps HPS
          refine (H7.out _).mono ?_
          rintro e w9 ⟨rfl, b9⟩
          have B9 := Lib.hid (bt B8.out b9)
          clear b9 B8 H7
          go_wp2_with fail
          refine (H8.out _).mono ?_
          rintro e w10 ⟨rfl, b10⟩
          have B10 := Lib.hid (bt B9.out b10)
          clear b10 B9 H8
          go_wp2_with fail
          go_ret
          exact ⟨rfl, B10.out⟩
    | false =>
      have hps : pathOkv s = false := by
        cases h : pathOkv s with
        | false => rfl
        | true => have := HPS.out h; simp at this
      rw [hps] at H7
      generalize cleanv p = cp at H8
      obtain ⟨ag, tw⟩ := cp
      clear hps HPS HCP HOK
      cases fine with
      | true =>
        have hf := HOF.out rfl
        rw [hf] at H6
        clear hf HOF
        go_wp2_with fail
        refine (H6.out _).mono ?_
        rintro e w8 ⟨rfl, b8⟩
        have B8 := Lib.hid (bt B6.out b8)
        clear b8 B6 H6
        go_wp2_with fail
        refine (H7.out _).mono ?_
        rintro e w9 ⟨rfl, b9⟩
        have B9 := Lib.hid (bt B8.out b9)
        clear b9 B8 H7
        go_wp2_with fail
        refine (H8.out _).mono ?_
        rintro e w10 ⟨rfl, b10⟩
        have B10 := Lib.hid (bt B9.out b10)
        clear b10 B9 H8
        go_wp2_with fail
        go_ret
        exact ⟨rfl, B10.out⟩
      | false =>
        go_wp2_with fail
        refine (H7.out _).mono ?_
        rintro e w9 ⟨rfl, b9⟩
        have B9 := Lib.hid (bt B6.out b9)
        clear b9 B6 H7
        go_wp2_with fail
        refine (H8.out _).mono ?_
        rintro e w10 ⟨rfl, b10⟩
        have B10 := Lib.hid (bt B9.out b10)
        clear b10 B9 H8
        go_wp2_with fail
        go_ret
        exact ⟨rfl, B10.out⟩
  · have hd : decide (1048576 < (len : Int)) = true := by simp; omega
    rw [hd] at HB
    clear hd
    go_enter Try.func5, Try.ntmps5
    go_wp2_with fail
    refine (HB.out _).mono ?_
    rintro e w0 ⟨rfl, rfl⟩
    go_wp2_with fail
    go_ret
    exact ⟨rfl, Below.refl _ _⟩
end Go.Proofs.Ytifkgihhdmmhdab
