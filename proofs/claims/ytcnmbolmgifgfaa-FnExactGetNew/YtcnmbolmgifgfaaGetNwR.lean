/- Contract of spec.l08Rest. -/
import Derived.Test.YtcnmbolmgifgfaaNewM
import Derived.BigRegion
import Derived.BigQuiet
import Derived.Test.YtcnmbolmgifgfaaRegU
import Derived.Deep.DeepCutAuto
import Derived.OwnWalk
import Derived.Test.YtcnmbolmgifgfaaPartMath
namespace Go.Proofs.Ytcnmbolmgifgfaa
open Go.ChangeShapes Go.WideShapes Go.ChangeAt Go.RowKit Go.Deep

theorem bel_drewS {B : Nat} {w w' : World} {n : Nat} (h : Below B w w') : Below B w (w'.drewN n) := ⟨h.os, h.tape, h.output, h.size, h.block⟩
theorem blank_any (t : ByteArray) (w : World) (h : t.size ≤ 1048576) : Calls Try.prog 51 #[.string t] w fun e w' => e = .returned (.bool (isNul t)) ∧ w = w' := by
  have H := Lib.hid (fun w => sum_spec t w h)
  have HE : Hid (isNul t = decide (sumv t.data.toList = 0)) := Lib.hid rfl
  generalize isNul t = r at HE
  generalize sumv t.data.toList = q at H HE
  by_cases hq : q = 0
  · have e1 : (q == 0) = true := by simpa using hq
    rw [decide_eq_true hq] at HE
    subst hq
    go_enter Try.func51, Try.ntmps51
    go_wp2_with fail
    refine (H.out _).mono ?_
    rintro e w1 ⟨rfl, rfl⟩
    go_wp2_with fail
    go_ret
    exact ⟨by rw [HE.out]; rfl, rfl⟩
  · have e1 : (q == 0) = false := by simpa using hq
    rw [decide_eq_false hq] at HE
    go_enter Try.func51, Try.ntmps51
    go_wp2_with fail
    refine (H.out _).mono ?_
    rintro e w1 ⟨rfl, rfl⟩
    go_wp2_with fail
    go_ret
    exact ⟨by rw [HE.out]; rfl, rfl⟩
theorem pad4_spc (n : Nat) (hn : n ≤ 9007199254740991) (w : World) : Calls Try.prog 50 #[.int .i64 (n : Int), .int .i64 4] w fun e w' => e = .returned (.int .i64 (pad4 n : Int)) ∧ w = w' := by
  have h := pad_spec (n : Int) 4 w
  rw [padv4 n hn] at h
  exact h
set_option maxHeartbeats 3200000 in
set_option maxRecDepth 8000 in
theorem rest_walk (s : ByteArray) (j p A D q1 q2 gb cp : Nat) (F : Nat → Int) (crc : Bool) (V : Value) (w : World) (hs : s.size ≤ 1048576) (hp : j + 110 = p) (hps : p ≤ s.size) (hA : A ≤ 4294967295) (hD : D ≤ 4294967295) (hq1 : q1 = pad4 (110 + A)) (hq2 : q2 = pad4 D) (hF11 : F 11 = (A : Int)) (hF6 : F 6 = (D : Int)) (hgb : gb < w.heap.size)
    (hN : ∀ m, m < 13 → w.cell? ⟨gb, m, none⟩ = some (.int .i64 (F m)))
    (h1 : s.size < p + A + q1 + D + q2 → V = bdV j 1)
    (h2 : ¬ s.size < p + A + q1 + D + q2 → A = 0 → V = bdV j 4)
    (h3 : ¬ s.size < p + A + q1 + D + q2 → ¬ ((cutv (s.extract p (p + A))).size : Int) = (A : Int) - 1 → V = bdV j 4)
    (h4 : ¬ s.size < p + A + q1 + D + q2 → isNul (s.extract (p + A) (p + A + q1)) = false → V = bdV j 4)
    (h5 : ¬ s.size < p + A + q1 + D + q2 → isNul (s.extract (p + A + q1 + D) (p + A + q1 + D + q2)) = false → V = bdV j 4)
    (h6 : ¬ s.size < p + A + q1 + D + q2 → ¬ A = 0 → ((cutv (s.extract p (p + A))).size : Int) = (A : Int) - 1 → isNul (s.extract (p + A) (p + A + q1)) = true → isNul (s.extract (p + A + q1 + D) (p + A + q1 + D + q2)) = true → ¬ F 12 = sumN crc (s.extract (p + A + q1) (p + A + q1 + D)) → V = bdV j 2)
    (h7 : ¬ s.size < p + A + q1 + D + q2 → ¬ A = 0 → ((cutv (s.extract p (p + A))).size : Int) = (A : Int) - 1 → isNul (s.extract (p + A) (p + A + q1)) = true → isNul (s.extract (p + A + q1 + D) (p + A + q1 + D + q2)) = true → F 12 = sumN crc (s.extract (p + A + q1) (p + A + q1 + D)) → V = .tuple #[.agg (Card.cells ⟨F 0, F 1, F 2, F 3, F 4, F 5, cutv (s.extract p (p + A)), s.extract (p + A + q1) (p + A + q1 + D)⟩).toArray, .int .i64 ((p : Int) + (A : Int) + (q1 : Int) + (D : Int) + (q2 : Int)), .int .i64 0]) :
    Calls Try.prog 31 #[.string s, .int .i64 (j : Int), .slice (some ⟨gb, 0, none⟩) 13 cp, .bool crc] w fun e w' => e = .returned V ∧ Below w.heap.size w w' := by
  have HP1 := Lib.hid (fun w => pad4_spc (110 + A) (by omega) w)
  have HP2 := Lib.hid (fun w => pad4_spc D (by omega) w)
  rw [← hq1, show ((110 + A : Nat) : Int) = 110 + (A : Int) from by omega] at HP1
  rw [← hq2] at HP2
  have hl1 : q1 ≤ 3 := by rw [hq1]; exact pad4_le _
  have hl2 : q2 ≤ 3 := by rw [hq2]; exact pad4_le _
  have a0 : IntKind.i64.wrap ((j : Int) + 110) = (p : Int) := by rw [IntKind.wrap_i64]; omega
  have a1 : IntKind.i64.wrap ((p : Int) + (A : Int)) = (p : Int) + (A : Int) := by rw [IntKind.wrap_i64]; omega
  have a2 : IntKind.i64.wrap (110 + (A : Int)) = 110 + (A : Int) := by rw [IntKind.wrap_i64]; omega
  have a3 : IntKind.i64.wrap ((p : Int) + (A : Int) + (q1 : Int)) = (p : Int) + (A : Int) + (q1 : Int) := by rw [IntKind.wrap_i64]; omega
  have a4 : IntKind.i64.wrap ((p : Int) + (A : Int) + (q1 : Int) + (D : Int)) = (p : Int) + (A : Int) + (q1 : Int) + (D : Int) := by rw [IntKind.wrap_i64]; omega
  have a5 : IntKind.i64.wrap ((p : Int) + (A : Int) + (q1 : Int) + (D : Int) + (q2 : Int)) = (p : Int) + (A : Int) + (q1 : Int) + (D : Int) + (q2 : Int) := by rw [IntKind.wrap_i64]; omega
  have a6 : IntKind.i64.wrap ((A : Int) - 1) = (A : Int) - 1 := by rw [IntKind.wrap_i64]; omega
  have H11 := Lib.hid hF11
  have H6 := Lib.hid hF6
  have R0 := Lib.hid (CardO.new w zeroC)
  have B0 : Hid (Below w.heap.size w (w.alloc (.cells zeroC.cells.toArray 23))) := Lib.hid ((Below.refl _ _).alloc (Nat.le_refl _) _)
  have N0 : Hid (∀ m, m < 13 → (w.alloc (.cells zeroC.cells.toArray 23)).cell? ⟨gb, m, none⟩ = some (.int .i64 (F m))) := Lib.hid (fun m hm => (((Below.refl w.heap.size w).alloc (Nat.le_refl _) _).cell (p := ⟨gb, m, none⟩) hgb).trans (hN m hm))
  have HGB := Lib.hid hgb
  simp only [zeroC, Card.cells] at R0 B0 N0
  by_cases hc : s.size < p + A + q1 + D + q2
  · have HF := Lib.hid (h1 hc)
    have hcmp : (s.size : Int) < (p : Int) + (A : Int) + (q1 : Int) + (D : Int) + (q2 : Int) := by omega
    clear h1 h2 h3 h4 h5 h6 h7 hc hs hp hps hA hD hq1 hq2 hl1 hl2 hN hF11 hF6 hgb
    go_enter Try.func31, Try.ntmps31
    go_upto_region 2 with fail
    generalize World.alloc w _ = w1 at R0 B0 N0 ⊢
    have R : Hid (CardO w1 w.heap.size zeroC) := R0
    have B := B0
    have N := N0
    clear R0 B0 N0
    have n11 := N.out 11 (by omega)
    rw [H11.out] at n11
    go_quiet ((go_at_call 50; refine Calls.quiet_of_same ((HP1.out _).mono (fun e w' h => ⟨h.1, h.2.symm⟩))))
    obtain ⟨w2, hwq⟩ : ∃ y, y = w1.drewN nq := ⟨_, rfl⟩
    replace R : Hid (CardO w2 w.heap.size zeroC) := Lib.hid (by rw [hwq]; exact R.out)
    replace B : Hid (Below w.heap.size w w2) := Lib.hid (by rw [hwq]; exact bel_drewS B.out)
    replace N : Hid (∀ m, m < 13 → w2.cell? ⟨gb, m, none⟩ = some (.int .i64 (F m))) := Lib.hid (by rw [hwq]; exact N.out)
    rw [← hwq]
    clear hwq n11 HP1
    go_upto_region 3 with fail
    have n6 := N.out 6 (by omega)
    rw [H6.out] at n6
    go_quiet ((go_at_call 50; refine Calls.quiet_of_same ((HP2.out _).mono (fun e w' h => ⟨h.1, h.2.symm⟩))))
    obtain ⟨w3, hwq⟩ : ∃ y, y = w2.drewN nq := ⟨_, rfl⟩
    replace R : Hid (CardO w3 w.heap.size zeroC) := Lib.hid (by rw [hwq]; exact R.out)
    replace B : Hid (Below w.heap.size w w3) := Lib.hid (by rw [hwq]; exact bel_drewS B.out)
    replace N : Hid (∀ m, m < 13 → w3.cell? ⟨gb, m, none⟩ = some (.int .i64 (F m))) := Lib.hid (by rw [hwq]; exact N.out)
    rw [← hwq]
    clear hwq n6 HP2
    obtain ⟨d0, d1, d2, d3, d4, d5, d6, d7⟩ := (R.out).at.zero
    simp only [zeroC] at d0 d1 d2 d3 d4 d5 d6 d7
    have f0 := (R.out).fz 0
    have f1 := (R.out).fz 1
    have f2 := (R.out).fz 2
    have f3 := (R.out).fz 3
    have f4 := (R.out).fz 4
    have f5 := (R.out).fz 5
    have f6 := (R.out).fz 6
    have f7 := (R.out).fz 7
    have R9 := (R.out).put zeroC
    have B9 := below_putOC (g := w.heap.size) (B.out) (Nat.le_refl _) zeroC
    simp only [putOC, zeroC] at R9 B9
    go_wp2_with fail
    refine bodyPost_ret (res_OC3 rfl _ rfl R9) rfl ?_
    exact ⟨by rw [HF.out]; rfl, B9⟩
  · have HB2 := Lib.hid (h2 hc)
    have HB3 := Lib.hid (h3 hc)
    have HB4 := Lib.hid (h4 hc)
    have HB5 := Lib.hid (h5 hc)
    have HB6 := Lib.hid (h6 hc)
    have HB7 := Lib.hid (h7 hc)
    have hcmp : ¬ (s.size : Int) < (p : Int) + (A : Int) + (q1 : Int) + (D : Int) + (q2 : Int) := by omega
    have HS1 := Lib.hid (fun w => sl_at s (p : Int) ((p : Int) + (A : Int)) p (p + A) rfl (by omega) (by omega) (by omega) w)
    have HS2 := Lib.hid (fun w => sl_at s ((p : Int) + (A : Int) + (q1 : Int)) ((p : Int) + (A : Int) + (q1 : Int) + (D : Int)) (p + A + q1) (p + A + q1 + D) (by omega) (by omega) (by omega) (by omega) w)
    have HS3 := Lib.hid (fun w => sl_at s ((p : Int) + (A : Int)) ((p : Int) + (A : Int) + (q1 : Int)) (p + A) (p + A + q1) (by omega) (by omega) (by omega) (by omega) w)
    have HS4 := Lib.hid (fun w => sl_at s ((p : Int) + (A : Int) + (q1 : Int) + (D : Int)) ((p : Int) + (A : Int) + (q1 : Int) + (D : Int) + (q2 : Int)) (p + A + q1 + D) (p + A + q1 + D + q2) (by omega) (by omega) (by omega) (by omega) w)
    have HSm := Lib.hid (fun w => l08Sum_any (s.extract (p + A + q1) (p + A + q1 + D)) crc w (by rw [ByteArray.size_extract]; omega))
    have HCut := Lib.hid (fun w => cut_spec (s.extract p (p + A)) w (by rw [ByteArray.size_extract]; omega))
    have HBl : Hid (∀ t w, (t = s.extract (p + A) (p + A + q1) ∨ t = s.extract (p + A + q1 + D) (p + A + q1 + D + q2)) → Calls Try.prog 51 #[.string t] w fun e w' => e = .returned (.bool (isNul t)) ∧ w = w') := Lib.hid (fun t w h => blank_any t w (by rcases h with rfl | rfl <;> (rw [ByteArray.size_extract]; omega)))
    have HSc := Lib.hid (fun (h : ((cutv (s.extract p (p + A))).size : Int) = (A : Int) - 1) w => cut_to (s.extract p (p + A)) ((A : Int) - 1) (by omega) (by omega) (by rw [ByteArray.size_extract]; omega) w)
    have HAz : Hid (¬ A = 0 → ¬ (A : Int) = 0) := Lib.hid (by omega)
    clear h1 h2 h3 h4 h5 h6 h7 hc hs hp hps hA hD hq1 hq2 hl1 hl2 hN hF11 hF6 hgb
    generalize s.extract (p + A + q1 + D) (p + A + q1 + D + q2) = t2 at *
    generalize s.extract (p + A + q1) (p + A + q1 + D) = dt at *
    generalize s.extract (p + A) (p + A + q1) = t1 at *
    generalize s.extract p (p + A) = nm at *
    obtain ⟨sm, hsm⟩ : ∃ x, sumN crc dt = x := ⟨_, rfl⟩
    rw [hsm] at HB6 HB7 HSm
    clear hsm
    go_enter Try.func31, Try.ntmps31
    go_upto_region 2 with fail
    generalize World.alloc w _ = w1 at R0 B0 N0 ⊢
    have R : Hid (CardO w1 w.heap.size zeroC) := R0
    have B := B0
    have N := N0
    clear R0 B0 N0
    have n11 := N.out 11 (by omega)
    rw [H11.out] at n11
    go_quiet ((go_at_call 50; refine Calls.quiet_of_same ((HP1.out _).mono (fun e w' h => ⟨h.1, h.2.symm⟩))))
    obtain ⟨w2, hwq⟩ : ∃ y, y = w1.drewN nq := ⟨_, rfl⟩
    replace R : Hid (CardO w2 w.heap.size zeroC) := Lib.hid (by rw [hwq]; exact R.out)
    replace B : Hid (Below w.heap.size w w2) := Lib.hid (by rw [hwq]; exact bel_drewS B.out)
    replace N : Hid (∀ m, m < 13 → w2.cell? ⟨gb, m, none⟩ = some (.int .i64 (F m))) := Lib.hid (by rw [hwq]; exact N.out)
    rw [← hwq]
    clear hwq n11 HP1
    go_upto_region 3 with fail
    have n6 := N.out 6 (by omega)
    rw [H6.out] at n6
    go_quiet ((go_at_call 50; refine Calls.quiet_of_same ((HP2.out _).mono (fun e w' h => ⟨h.1, h.2.symm⟩))))
    obtain ⟨w3, hwq⟩ : ∃ y, y = w2.drewN nq := ⟨_, rfl⟩
    replace R : Hid (CardO w3 w.heap.size zeroC) := Lib.hid (by rw [hwq]; exact R.out)
    replace B : Hid (Below w.heap.size w w3) := Lib.hid (by rw [hwq]; exact bel_drewS B.out)
    replace N : Hid (∀ m, m < 13 → w3.cell? ⟨gb, m, none⟩ = some (.int .i64 (F m))) := Lib.hid (by rw [hwq]; exact N.out)
    rw [← hwq]
    clear hwq n6 HP2
    go_upto_region 6 with fail
    clear hcmp
    have n11 := N.out 11 (by omega)
    rw [H11.out] at n11
    have n6 := N.out 6 (by omega)
    rw [H6.out] at n6
    have S1 := HS1.out
    have S2 := HS2.out
    go_quiet (fail)
    obtain ⟨w4, hwq⟩ : ∃ y, y = w3.drewN nq := ⟨_, rfl⟩
    replace R : Hid (CardO w4 w.heap.size zeroC) := Lib.hid (by rw [hwq]; exact R.out)
    replace B : Hid (Below w.heap.size w w4) := Lib.hid (by rw [hwq]; exact bel_drewS B.out)
    replace N : Hid (∀ m, m < 13 → w4.cell? ⟨gb, m, none⟩ = some (.int .i64 (F m))) := Lib.hid (by rw [hwq]; exact N.out)
    rw [← hwq]
    clear hwq n11 n6 S1 S2 HS1 HS2
    go_upto_region 7 with fail
    have n11 := N.out 11 (by omega)
    rw [H11.out] at n11
    have n6 := N.out 6 (by omega)
    rw [H6.out] at n6
    by_cases e1 : A = 0
    · have HF := Lib.hid (HB2.out e1)
      have q8 : ((A : Int) == 0) = true := by simp [e1]
      clear HB2 HB3 HB4 HB5 HB6 HB7 HS3 HS4 HSm HCut HBl HSc HAz e1
      go_quiet (fail)
      obtain ⟨w5, hwq⟩ : ∃ y, y = w4.drewN nq := ⟨_, rfl⟩
      replace R : Hid (CardO w5 w.heap.size zeroC) := Lib.hid (by rw [hwq]; exact R.out)
      replace B : Hid (Below w.heap.size w w5) := Lib.hid (by rw [hwq]; exact bel_drewS B.out)
      replace N : Hid (∀ m, m < 13 → w5.cell? ⟨gb, m, none⟩ = some (.int .i64 (F m))) := Lib.hid (by rw [hwq]; exact N.out)
      rw [← hwq]
      clear hwq n11 n6 q8
      obtain ⟨d0, d1, d2, d3, d4, d5, d6, d7⟩ := (R.out).at.zero
      simp only [zeroC] at d0 d1 d2 d3 d4 d5 d6 d7
      have f0 := (R.out).fz 0
      have f1 := (R.out).fz 1
      have f2 := (R.out).fz 2
      have f3 := (R.out).fz 3
      have f4 := (R.out).fz 4
      have f5 := (R.out).fz 5
      have f6 := (R.out).fz 6
      have f7 := (R.out).fz 7
      have R9 := (R.out).put zeroC
      have B9 := below_putOC (g := w.heap.size) (B.out) (Nat.le_refl _) zeroC
      simp only [putOC, zeroC] at R9 B9
      go_wp2_with fail
      refine bodyPost_ret (res_OC3 rfl _ rfl R9) rfl ?_
      exact ⟨by rw [HF.out]; rfl, B9⟩
    have q8 : ((A : Int) == 0) = false := by simpa using e1
    by_cases e2 : ¬ ((cutv nm).size : Int) = (A : Int) - 1
    · have HF := Lib.hid (HB3.out e2)
      have q9 : (((cutv nm).size : Int) != (A : Int) - 1) = true := by simpa using e2
      clear HB2 HB3 HB4 HB5 HB6 HB7 HS3 HS4 HSm HBl HSc HAz e1 e2
      generalize cutv nm = ct at *
      go_quiet ((go_at_call 23; refine Calls.quiet_of_same ((HCut.out _).mono (fun e w' h => ⟨h.1, h.2.symm⟩))))
      obtain ⟨w5, hwq⟩ : ∃ y, y = w4.drewN nq := ⟨_, rfl⟩
      replace R : Hid (CardO w5 w.heap.size zeroC) := Lib.hid (by rw [hwq]; exact R.out)
      replace B : Hid (Below w.heap.size w w5) := Lib.hid (by rw [hwq]; exact bel_drewS B.out)
      replace N : Hid (∀ m, m < 13 → w5.cell? ⟨gb, m, none⟩ = some (.int .i64 (F m))) := Lib.hid (by rw [hwq]; exact N.out)
      rw [← hwq]
      clear hwq n11 n6 q8 q9 HCut
      obtain ⟨d0, d1, d2, d3, d4, d5, d6, d7⟩ := (R.out).at.zero
      simp only [zeroC] at d0 d1 d2 d3 d4 d5 d6 d7
      have f0 := (R.out).fz 0
      have f1 := (R.out).fz 1
      have f2 := (R.out).fz 2
      have f3 := (R.out).fz 3
      have f4 := (R.out).fz 4
      have f5 := (R.out).fz 5
      have f6 := (R.out).fz 6
      have f7 := (R.out).fz 7
      have R9 := (R.out).put zeroC
      have B9 := below_putOC (g := w.heap.size) (B.out) (Nat.le_refl _) zeroC
      simp only [putOC, zeroC] at R9 B9
      go_wp2_with fail
      refine bodyPost_ret (res_OC3 rfl _ rfl R9) rfl ?_
      exact ⟨by rw [HF.out]; rfl, B9⟩
    have e2 : ((cutv nm).size : Int) = (A : Int) - 1 := Decidable.byContradiction e2
    have q9 : (((cutv nm).size : Int) != (A : Int) - 1) = false := by simpa using e2
    have HSc2 := Lib.hid (HSc.out e2)
    have HB6b := Lib.hid (HB6.out e1 e2)
    have HB7b := Lib.hid (HB7.out e1 e2)
    clear e1 e2 HSc HB2 HB3 HB6 HB7 HAz
    generalize cutv nm = ct at *
    have S3 := HS3.out
    have S4 := HS4.out
    by_cases e3 : isNul t1 = false
    · have HF := Lib.hid (HB4.out e3)
      clear HB4 HB5 HB6b HB7b HSm HSc2
      go_quiet (first | (go_at_call 23; refine Calls.quiet_of_same ((HCut.out _).mono (fun e w' h => ⟨h.1, h.2.symm⟩))) | (go_at_call 51; refine Calls.quiet_of_same ((HBl.out _ _ (by first | exact .inl rfl | exact .inr rfl)).mono (fun e w' h => ⟨h.1, h.2.symm⟩))))
      obtain ⟨w5, hwq⟩ : ∃ y, y = w4.drewN nq := ⟨_, rfl⟩
      replace R : Hid (CardO w5 w.heap.size zeroC) := Lib.hid (by rw [hwq]; exact R.out)
      replace B : Hid (Below w.heap.size w w5) := Lib.hid (by rw [hwq]; exact bel_drewS B.out)
      replace N : Hid (∀ m, m < 13 → w5.cell? ⟨gb, m, none⟩ = some (.int .i64 (F m))) := Lib.hid (by rw [hwq]; exact N.out)
      rw [← hwq]
      clear hwq n11 n6 q8 q9 HCut HBl S3 S4 HS3 HS4 e3
      obtain ⟨d0, d1, d2, d3, d4, d5, d6, d7⟩ := (R.out).at.zero
      simp only [zeroC] at d0 d1 d2 d3 d4 d5 d6 d7
      have f0 := (R.out).fz 0
      have f1 := (R.out).fz 1
      have f2 := (R.out).fz 2
      have f3 := (R.out).fz 3
      have f4 := (R.out).fz 4
      have f5 := (R.out).fz 5
      have f6 := (R.out).fz 6
      have f7 := (R.out).fz 7
      have R9 := (R.out).put zeroC
      have B9 := below_putOC (g := w.heap.size) (B.out) (Nat.le_refl _) zeroC
      simp only [putOC, zeroC] at R9 B9
      go_wp2_with fail
      refine bodyPost_ret (res_OC3 rfl _ rfl R9) rfl ?_
      exact ⟨by rw [HF.out]; rfl, B9⟩
    have e3 : isNul t1 = true := by simpa using e3
    by_cases e4 : isNul t2 = false
    · have HF := Lib.hid (HB5.out e4)
      clear HB4 HB5 HB6b HB7b HSm HSc2
      go_quiet (first | (go_at_call 23; refine Calls.quiet_of_same ((HCut.out _).mono (fun e w' h => ⟨h.1, h.2.symm⟩))) | (go_at_call 51; refine Calls.quiet_of_same ((HBl.out _ _ (by first | exact .inl rfl | exact .inr rfl)).mono (fun e w' h => ⟨h.1, h.2.symm⟩))))
      obtain ⟨w5, hwq⟩ : ∃ y, y = w4.drewN nq := ⟨_, rfl⟩
      replace R : Hid (CardO w5 w.heap.size zeroC) := Lib.hid (by rw [hwq]; exact R.out)
      replace B : Hid (Below w.heap.size w w5) := Lib.hid (by rw [hwq]; exact bel_drewS B.out)
      replace N : Hid (∀ m, m < 13 → w5.cell? ⟨gb, m, none⟩ = some (.int .i64 (F m))) := Lib.hid (by rw [hwq]; exact N.out)
      rw [← hwq]
      clear hwq n11 n6 q8 q9 HCut HBl S3 S4 HS3 HS4 e3 e4
      obtain ⟨d0, d1, d2, d3, d4, d5, d6, d7⟩ := (R.out).at.zero
      simp only [zeroC] at d0 d1 d2 d3 d4 d5 d6 d7
      have f0 := (R.out).fz 0
      have f1 := (R.out).fz 1
      have f2 := (R.out).fz 2
      have f3 := (R.out).fz 3
      have f4 := (R.out).fz 4
      have f5 := (R.out).fz 5
      have f6 := (R.out).fz 6
      have f7 := (R.out).fz 7
      have R9 := (R.out).put zeroC
      have B9 := below_putOC (g := w.heap.size) (B.out) (Nat.le_refl _) zeroC
      simp only [putOC, zeroC] at R9 B9
      go_wp2_with fail
      refine bodyPost_ret (res_OC3 rfl _ rfl R9) rfl ?_
      exact ⟨by rw [HF.out]; rfl, B9⟩
    have e4 : isNul t2 = true := by simpa using e4
    have HB6c := Lib.hid (HB6b.out e3 e4)
    have HB7c := Lib.hid (HB7b.out e3 e4)
    clear HB4 HB5 HB6b HB7b
    go_quiet (first | (go_at_call 23; refine Calls.quiet_of_same ((HCut.out _).mono (fun e w' h => ⟨h.1, h.2.symm⟩))) | (go_at_call 51; refine Calls.quiet_of_same ((HBl.out _ _ (by first | exact .inl rfl | exact .inr rfl)).mono (fun e w' h => ⟨h.1, h.2.symm⟩))))
    obtain ⟨w5, hwq⟩ : ∃ y, y = w4.drewN nq := ⟨_, rfl⟩
    replace R : Hid (CardO w5 w.heap.size zeroC) := Lib.hid (by rw [hwq]; exact R.out)
    replace B : Hid (Below w.heap.size w w5) := Lib.hid (by rw [hwq]; exact bel_drewS B.out)
    replace N : Hid (∀ m, m < 13 → w5.cell? ⟨gb, m, none⟩ = some (.int .i64 (F m))) := Lib.hid (by rw [hwq]; exact N.out)
    rw [← hwq]
    clear hwq n11 n6 q8 q9 HCut HBl S3 S4 HS3 HS4 e3 e4
    go_upto_region 9 with fail
    have n12 := N.out 12 (by omega)
    by_cases e5 : ¬ F 12 = sm
    · have HF := Lib.hid (HB6c.out e5)
      have q9 : (F 12 != sm) = true := by simpa using e5
      clear HB6c HB7c HSc2 e5
      generalize F 12 = f12 at *
      go_quiet ((go_at_call 52; refine Calls.quiet_of_same ((HSm.out _).mono (fun e w' h => ⟨h.1, h.2⟩))))
      obtain ⟨w6, hwq⟩ : ∃ y, y = w5.drewN nq := ⟨_, rfl⟩
      replace R : Hid (CardO w6 w.heap.size zeroC) := Lib.hid (by rw [hwq]; exact R.out)
      replace B : Hid (Below w.heap.size w w6) := Lib.hid (by rw [hwq]; exact bel_drewS B.out)
      rw [← hwq]
      clear hwq n12 q9 HSm N
      obtain ⟨d0, d1, d2, d3, d4, d5, d6, d7⟩ := (R.out).at.zero
      simp only [zeroC] at d0 d1 d2 d3 d4 d5 d6 d7
      have f0 := (R.out).fz 0
      have f1 := (R.out).fz 1
      have f2 := (R.out).fz 2
      have f3 := (R.out).fz 3
      have f4 := (R.out).fz 4
      have f5 := (R.out).fz 5
      have f6 := (R.out).fz 6
      have f7 := (R.out).fz 7
      have R9 := (R.out).put zeroC
      have B9 := below_putOC (g := w.heap.size) (B.out) (Nat.le_refl _) zeroC
      simp only [putOC, zeroC] at R9 B9
      go_wp2_with fail
      refine bodyPost_ret (res_OC3 rfl _ rfl R9) rfl ?_
      exact ⟨by rw [HF.out]; rfl, B9⟩
    have e5 : F 12 = sm := Decidable.byContradiction e5
    have HF := Lib.hid (HB7c.out e5)
    have q9 : (F 12 != sm) = false := by simpa using e5
    clear HB6c HB7c e5
    go_quiet ((go_at_call 52; refine Calls.quiet_of_same ((HSm.out _).mono (fun e w' h => ⟨h.1, h.2⟩))))
    obtain ⟨w6, hwq⟩ : ∃ y, y = w5.drewN nq := ⟨_, rfl⟩
    replace R : Hid (CardO w6 w.heap.size zeroC) := Lib.hid (by rw [hwq]; exact R.out)
    replace B : Hid (Below w.heap.size w w6) := Lib.hid (by rw [hwq]; exact bel_drewS B.out)
    replace N : Hid (∀ m, m < 13 → w6.cell? ⟨gb, m, none⟩ = some (.int .i64 (F m))) := Lib.hid (by rw [hwq]; exact N.out)
    rw [← hwq]
    clear hwq n12 q9 HSm
    go_upto_region 11 with fail
    have n0 := N.out 0 (by omega)
    have n1 := N.out 1 (by omega)
    have n2 := N.out 2 (by omega)
    have n3 := N.out 3 (by omega)
    have n4 := N.out 4 (by omega)
    have n5 := N.out 5 (by omega)
    have n11 := N.out 11 (by omega)
    rw [H11.out] at n11
    generalize F 0 = x0 at n0 HF
    generalize F 1 = x1 at n1 HF
    generalize F 2 = x2 at n2 HF
    generalize F 3 = x3 at n3 HF
    generalize F 4 = x4 at n4 HF
    generalize F 5 = x5 at n5 HF
    have HE : Hid (V = .tuple #[.agg #[.int .i64 x0, .int .i64 x1, .int .i64 x2, .int .i64 x3, .int .i64 x4, .int .i64 x5, .string ct, .string dt], .int .i64 ((p : Int) + (A : Int) + (q1 : Int) + (D : Int) + (q2 : Int)), .int .i64 0]) := Lib.hid (by rw [HF.out]; rfl)
    clear HF N H11 H6 e2 e3 e4 e5
    have KC : Hid (∀ w' : World, (w'.cell? ⟨gb, 0, none⟩ = some (.int .i64 x0) ∧ w'.cell? ⟨gb, 1, none⟩ = some (.int .i64 x1) ∧ w'.cell? ⟨gb, 2, none⟩ = some (.int .i64 x2) ∧ w'.cell? ⟨gb, 3, none⟩ = some (.int .i64 x3) ∧ w'.cell? ⟨gb, 4, none⟩ = some (.int .i64 x4) ∧ w'.cell? ⟨gb, 5, none⟩ = some (.int .i64 x5) ∧ w'.cell? ⟨gb, 11, none⟩ = some (.int .i64 (A : Int))) → (w'.cell? ⟨gb, 0, none⟩ = some (.int .i64 x0) ∧ w'.cell? ⟨gb, 1, none⟩ = some (.int .i64 x1) ∧ w'.cell? ⟨gb, 2, none⟩ = some (.int .i64 x2) ∧ w'.cell? ⟨gb, 3, none⟩ = some (.int .i64 x3) ∧ w'.cell? ⟨gb, 4, none⟩ = some (.int .i64 x4) ∧ w'.cell? ⟨gb, 5, none⟩ = some (.int .i64 x5) ∧ w'.cell? ⟨gb, 11, none⟩ = some (.int .i64 (A : Int)))) := Lib.hid (fun w' h => h)
    refine wp_region_u (by kernel_rfl) (fun w' => Below w.heap.size w w' ∧ (w'.cell? ⟨gb, 0, none⟩ = some (.int .i64 x0) ∧ w'.cell? ⟨gb, 1, none⟩ = some (.int .i64 x1) ∧ w'.cell? ⟨gb, 2, none⟩ = some (.int .i64 x2) ∧ w'.cell? ⟨gb, 3, none⟩ = some (.int .i64 x3) ∧ w'.cell? ⟨gb, 4, none⟩ = some (.int .i64 x4) ∧ w'.cell? ⟨gb, 5, none⟩ = some (.int .i64 x5) ∧ w'.cell? ⟨gb, 11, none⟩ = some (.int .i64 (A : Int))) ∧ (w'.heap[w.heap.size]? = some (.cells zeroC.cells.toArray 23 (0, 0)) ∨ w'.heap[w.heap.size]? = some (.cells #[.int .i64 x0, .int .i64 x1, .int .i64 x2, .int .i64 x3, .int .i64 x4, .int .i64 x5, .string ct, .string dt] 23 (0, 0)))) (fun x y => y.heap[w.heap.size]? = x.heap[w.heap.size]? ∨ y.heap[w.heap.size]? = some (.cells #[.int .i64 x0, .int .i64 x1, .int .i64 x2, .int .i64 x3, .int .i64 x4, .int .i64 x5, .string ct, .string dt] 23 (0, 0))) (fun dq vq _ => match dq with | 112 => vq = .slice (some ⟨gb, 0, none⟩) 13 cp | 113 => vq = .pointer (some ⟨gb, 0, none⟩) | 114 => vq = .int .i64 x0 | 115 => vq = .slice (some ⟨gb, 0, none⟩) 13 cp | 116 => vq = .pointer (some ⟨gb, 1, none⟩) | 117 => vq = .int .i64 x1 | 118 => vq = .slice (some ⟨gb, 0, none⟩) 13 cp | 119 => vq = .pointer (some ⟨gb, 2, none⟩) | 120 => vq = .int .i64 x2 | 121 => vq = .slice (some ⟨gb, 0, none⟩) 13 cp | 122 => vq = .pointer (some ⟨gb, 3, none⟩) | 123 => vq = .int .i64 x3 | 124 => vq = .slice (some ⟨gb, 0, none⟩) 13 cp | 125 => vq = .pointer (some ⟨gb, 4, none⟩) | 126 => vq = .int .i64 x4 | 127 => vq = .slice (some ⟨gb, 0, none⟩) 13 cp | 128 => vq = .pointer (some ⟨gb, 5, none⟩) | 129 => vq = .int .i64 x5 | 130 => vq = .string nm | 131 => vq = .slice (some ⟨gb, 0, none⟩) 13 cp | 132 => vq = .pointer (some ⟨gb, 11, none⟩) | 133 => vq = .int .i64 (A : Int) | 134 => vq = .int .i64 ((A : Int) - 1) | 135 => vq = .string ct | 136 => vq = .string dt | 137 => vq = .agg #[.int .i64 x0, .int .i64 x1, .int .i64 x2, .int .i64 x3, .int .i64 x4, .int .i64 x5, .string ct, .string dt] | 138 => vq = .int .i64 ((p : Int) + (A : Int) + (q1 : Int) + (D : Int) + (q2 : Int)) | 9 => vq = .int .i64 ((p : Int) + (A : Int) + (q1 : Int) + (D : Int) + (q2 : Int)) | 10 => vq = .int .i64 0 | _ => True) (fun o w' => o.dst = none → w'.heap[w.heap.size]? = some (.cells #[.int .i64 x0, .int .i64 x1, .int .i64 x2, .int .i64 x3, .int .i64 x4, .int .i64 x5, .string ct, .string dt] 23 (0, 0))) (by kernel_rfl) ⟨B.out.drew, ⟨n0, n1, n2, n3, n4, n5, n11⟩, .inl R.out⟩ (fun _ _ _ _ _ _ h => h) (fun _ _ _ _ hs hu hd => Or.elim hs (fun h => h.trans (hu hd)) (fun h => h)) ?hops ?hend
    case hops =>
      simp only [List.forall_mem_cons]
      refine ⟨?o112, ?o113, ?o114, ?o115, ?o116, ?o117, ?o118, ?o119, ?o120, ?o121, ?o122, ?o123, ?o124, ?o125, ?o126, ?o127, ?o128, ?o129, ?o130, ?o131, ?o132, ?o133, ?o134, ?o135, ?o136, ?o137, ?o138, ?os27, ?o9, ?o10, fun _ h => by cases h⟩
      case o112 =>
        intro Q a w2 hC hV hI
        have e2 : a.eval (.tmp 2) = .slice (some ⟨gb, 0, none⟩) 13 cp := (hI 2 (by simp [Op.operands]) (by kernel_rfl)).trans rfl
        have f2 : a.tmps.getD 2 undef = .slice (some ⟨gb, 0, none⟩) 13 cp := e2
        have g2 : a.tmps[2]?.getD undef = .slice (some ⟨gb, 0, none⟩) 13 cp := by rw [← Array.getD_eq_getD_getElem?]; exact e2
        refine opU_val (C := fun w' => Below w.heap.size w w' ∧ (w'.cell? ⟨gb, 0, none⟩ = some (.int .i64 x0) ∧ w'.cell? ⟨gb, 1, none⟩ = some (.int .i64 x1) ∧ w'.cell? ⟨gb, 2, none⟩ = some (.int .i64 x2) ∧ w'.cell? ⟨gb, 3, none⟩ = some (.int .i64 x3) ∧ w'.cell? ⟨gb, 4, none⟩ = some (.int .i64 x4) ∧ w'.cell? ⟨gb, 5, none⟩ = some (.int .i64 x5) ∧ w'.cell? ⟨gb, 11, none⟩ = some (.int .i64 (A : Int))) ∧ (w'.heap[w.heap.size]? = some (.cells zeroC.cells.toArray 23 (0, 0)) ∨ w'.heap[w.heap.size]? = some (.cells #[.int .i64 x0, .int .i64 x1, .int .i64 x2, .int .i64 x3, .int .i64 x4, .int .i64 x5, .string ct, .string dt] 23 (0, 0)))) (St := fun x y => y.heap[w.heap.size]? = x.heap[w.heap.size]? ∨ y.heap[w.heap.size]? = some (.cells #[.int .i64 x0, .int .i64 x1, .int .i64 x2, .int .i64 x3, .int .i64 x4, .int .i64 x5, .string ct, .string dt] 23 (0, 0))) (V := fun dq vq _ => match dq with | 112 => vq = .slice (some ⟨gb, 0, none⟩) 13 cp | 113 => vq = .pointer (some ⟨gb, 0, none⟩) | 114 => vq = .int .i64 x0 | 115 => vq = .slice (some ⟨gb, 0, none⟩) 13 cp | 116 => vq = .pointer (some ⟨gb, 1, none⟩) | 117 => vq = .int .i64 x1 | 118 => vq = .slice (some ⟨gb, 0, none⟩) 13 cp | 119 => vq = .pointer (some ⟨gb, 2, none⟩) | 120 => vq = .int .i64 x2 | 121 => vq = .slice (some ⟨gb, 0, none⟩) 13 cp | 122 => vq = .pointer (some ⟨gb, 3, none⟩) | 123 => vq = .int .i64 x3 | 124 => vq = .slice (some ⟨gb, 0, none⟩) 13 cp | 125 => vq = .pointer (some ⟨gb, 4, none⟩) | 126 => vq = .int .i64 x4 | 127 => vq = .slice (some ⟨gb, 0, none⟩) 13 cp | 128 => vq = .pointer (some ⟨gb, 5, none⟩) | 129 => vq = .int .i64 x5 | 130 => vq = .string nm | 131 => vq = .slice (some ⟨gb, 0, none⟩) 13 cp | 132 => vq = .pointer (some ⟨gb, 11, none⟩) | 133 => vq = .int .i64 (A : Int) | 134 => vq = .int .i64 ((A : Int) - 1) | 135 => vq = .string ct | 136 => vq = .string dt | 137 => vq = .agg #[.int .i64 x0, .int .i64 x1, .int .i64 x2, .int .i64 x3, .int .i64 x4, .int .i64 x5, .string ct, .string dt] | 138 => vq = .int .i64 ((p : Int) + (A : Int) + (q1 : Int) + (D : Int) + (q2 : Int)) | 9 => vq = .int .i64 ((p : Int) + (A : Int) + (q1 : Int) + (D : Int) + (q2 : Int)) | 10 => vq = .int .i64 0 | _ => True) (U := fun o w' => o.dst = none → w'.heap[w.heap.size]? = some (.cells #[.int .i64 x0, .int .i64 x1, .int .i64 x2, .int .i64 x3, .int .i64 x4, .int .i64 x5, .string ct, .string dt] 23 (0, 0))) (w' := w2) (.slice (some ⟨gb, 0, none⟩) 13 cp) ?_ ?_ ?_ ?_ ?_
        · (clear hV hI hC; go_simp <;> (first | rfl | simp | (rw [IntKind.wrap_i64]; omega)))
        · exact hC
        · exact Or.inl rfl
        · intro d hd; cases hd; rfl
        · intro h; cases h
      case o113 =>
        intro Q a w2 hC hV hI
        have e112 : a.eval (.tmp 112) = .slice (some ⟨gb, 0, none⟩) 13 cp := hV 112 (by simp [Op.operands]) (by kernel_rfl)
        have f112 : a.tmps.getD 112 undef = .slice (some ⟨gb, 0, none⟩) 13 cp := e112
        have g112 : a.tmps[112]?.getD undef = .slice (some ⟨gb, 0, none⟩) 13 cp := by rw [← Array.getD_eq_getD_getElem?]; exact e112
        refine opU_val (C := fun w' => Below w.heap.size w w' ∧ (w'.cell? ⟨gb, 0, none⟩ = some (.int .i64 x0) ∧ w'.cell? ⟨gb, 1, none⟩ = some (.int .i64 x1) ∧ w'.cell? ⟨gb, 2, none⟩ = some (.int .i64 x2) ∧ w'.cell? ⟨gb, 3, none⟩ = some (.int .i64 x3) ∧ w'.cell? ⟨gb, 4, none⟩ = some (.int .i64 x4) ∧ w'.cell? ⟨gb, 5, none⟩ = some (.int .i64 x5) ∧ w'.cell? ⟨gb, 11, none⟩ = some (.int .i64 (A : Int))) ∧ (w'.heap[w.heap.size]? = some (.cells zeroC.cells.toArray 23 (0, 0)) ∨ w'.heap[w.heap.size]? = some (.cells #[.int .i64 x0, .int .i64 x1, .int .i64 x2, .int .i64 x3, .int .i64 x4, .int .i64 x5, .string ct, .string dt] 23 (0, 0)))) (St := fun x y => y.heap[w.heap.size]? = x.heap[w.heap.size]? ∨ y.heap[w.heap.size]? = some (.cells #[.int .i64 x0, .int .i64 x1, .int .i64 x2, .int .i64 x3, .int .i64 x4, .int .i64 x5, .string ct, .string dt] 23 (0, 0))) (V := fun dq vq _ => match dq with | 112 => vq = .slice (some ⟨gb, 0, none⟩) 13 cp | 113 => vq = .pointer (some ⟨gb, 0, none⟩) | 114 => vq = .int .i64 x0 | 115 => vq = .slice (some ⟨gb, 0, none⟩) 13 cp | 116 => vq = .pointer (some ⟨gb, 1, none⟩) | 117 => vq = .int .i64 x1 | 118 => vq = .slice (some ⟨gb, 0, none⟩) 13 cp | 119 => vq = .pointer (some ⟨gb, 2, none⟩) | 120 => vq = .int .i64 x2 | 121 => vq = .slice (some ⟨gb, 0, none⟩) 13 cp | 122 => vq = .pointer (some ⟨gb, 3, none⟩) | 123 => vq = .int .i64 x3 | 124 => vq = .slice (some ⟨gb, 0, none⟩) 13 cp | 125 => vq = .pointer (some ⟨gb, 4, none⟩) | 126 => vq = .int .i64 x4 | 127 => vq = .slice (some ⟨gb, 0, none⟩) 13 cp | 128 => vq = .pointer (some ⟨gb, 5, none⟩) | 129 => vq = .int .i64 x5 | 130 => vq = .string nm | 131 => vq = .slice (some ⟨gb, 0, none⟩) 13 cp | 132 => vq = .pointer (some ⟨gb, 11, none⟩) | 133 => vq = .int .i64 (A : Int) | 134 => vq = .int .i64 ((A : Int) - 1) | 135 => vq = .string ct | 136 => vq = .string dt | 137 => vq = .agg #[.int .i64 x0, .int .i64 x1, .int .i64 x2, .int .i64 x3, .int .i64 x4, .int .i64 x5, .string ct, .string dt] | 138 => vq = .int .i64 ((p : Int) + (A : Int) + (q1 : Int) + (D : Int) + (q2 : Int)) | 9 => vq = .int .i64 ((p : Int) + (A : Int) + (q1 : Int) + (D : Int) + (q2 : Int)) | 10 => vq = .int .i64 0 | _ => True) (U := fun o w' => o.dst = none → w'.heap[w.heap.size]? = some (.cells #[.int .i64 x0, .int .i64 x1, .int .i64 x2, .int .i64 x3, .int .i64 x4, .int .i64 x5, .string ct, .string dt] 23 (0, 0))) (w' := w2) (.pointer (some ⟨gb, 0, none⟩)) ?_ ?_ ?_ ?_ ?_
        · (clear hV hI hC; go_simp <;> (first | rfl | simp | (rw [IntKind.wrap_i64]; omega)))
        · exact hC
        · exact Or.inl rfl
        · intro d hd; cases hd; rfl
        · intro h; cases h
      case o114 =>
        intro Q a w2 hC hV hI
        have e113 : a.eval (.tmp 113) = .pointer (some ⟨gb, 0, none⟩) := hV 113 (by simp [Op.operands]) (by kernel_rfl)
        have f113 : a.tmps.getD 113 undef = .pointer (some ⟨gb, 0, none⟩) := e113
        have g113 : a.tmps[113]?.getD undef = .pointer (some ⟨gb, 0, none⟩) := by rw [← Array.getD_eq_getD_getElem?]; exact e113
        have hK := KC.out w2 hC.2.1
        refine opU_val (C := fun w' => Below w.heap.size w w' ∧ (w'.cell? ⟨gb, 0, none⟩ = some (.int .i64 x0) ∧ w'.cell? ⟨gb, 1, none⟩ = some (.int .i64 x1) ∧ w'.cell? ⟨gb, 2, none⟩ = some (.int .i64 x2) ∧ w'.cell? ⟨gb, 3, none⟩ = some (.int .i64 x3) ∧ w'.cell? ⟨gb, 4, none⟩ = some (.int .i64 x4) ∧ w'.cell? ⟨gb, 5, none⟩ = some (.int .i64 x5) ∧ w'.cell? ⟨gb, 11, none⟩ = some (.int .i64 (A : Int))) ∧ (w'.heap[w.heap.size]? = some (.cells zeroC.cells.toArray 23 (0, 0)) ∨ w'.heap[w.heap.size]? = some (.cells #[.int .i64 x0, .int .i64 x1, .int .i64 x2, .int .i64 x3, .int .i64 x4, .int .i64 x5, .string ct, .string dt] 23 (0, 0)))) (St := fun x y => y.heap[w.heap.size]? = x.heap[w.heap.size]? ∨ y.heap[w.heap.size]? = some (.cells #[.int .i64 x0, .int .i64 x1, .int .i64 x2, .int .i64 x3, .int .i64 x4, .int .i64 x5, .string ct, .string dt] 23 (0, 0))) (V := fun dq vq _ => match dq with | 112 => vq = .slice (some ⟨gb, 0, none⟩) 13 cp | 113 => vq = .pointer (some ⟨gb, 0, none⟩) | 114 => vq = .int .i64 x0 | 115 => vq = .slice (some ⟨gb, 0, none⟩) 13 cp | 116 => vq = .pointer (some ⟨gb, 1, none⟩) | 117 => vq = .int .i64 x1 | 118 => vq = .slice (some ⟨gb, 0, none⟩) 13 cp | 119 => vq = .pointer (some ⟨gb, 2, none⟩) | 120 => vq = .int .i64 x2 | 121 => vq = .slice (some ⟨gb, 0, none⟩) 13 cp | 122 => vq = .pointer (some ⟨gb, 3, none⟩) | 123 => vq = .int .i64 x3 | 124 => vq = .slice (some ⟨gb, 0, none⟩) 13 cp | 125 => vq = .pointer (some ⟨gb, 4, none⟩) | 126 => vq = .int .i64 x4 | 127 => vq = .slice (some ⟨gb, 0, none⟩) 13 cp | 128 => vq = .pointer (some ⟨gb, 5, none⟩) | 129 => vq = .int .i64 x5 | 130 => vq = .string nm | 131 => vq = .slice (some ⟨gb, 0, none⟩) 13 cp | 132 => vq = .pointer (some ⟨gb, 11, none⟩) | 133 => vq = .int .i64 (A : Int) | 134 => vq = .int .i64 ((A : Int) - 1) | 135 => vq = .string ct | 136 => vq = .string dt | 137 => vq = .agg #[.int .i64 x0, .int .i64 x1, .int .i64 x2, .int .i64 x3, .int .i64 x4, .int .i64 x5, .string ct, .string dt] | 138 => vq = .int .i64 ((p : Int) + (A : Int) + (q1 : Int) + (D : Int) + (q2 : Int)) | 9 => vq = .int .i64 ((p : Int) + (A : Int) + (q1 : Int) + (D : Int) + (q2 : Int)) | 10 => vq = .int .i64 0 | _ => True) (U := fun o w' => o.dst = none → w'.heap[w.heap.size]? = some (.cells #[.int .i64 x0, .int .i64 x1, .int .i64 x2, .int .i64 x3, .int .i64 x4, .int .i64 x5, .string ct, .string dt] 23 (0, 0))) (w' := w2) (.int .i64 x0) ?_ ?_ ?_ ?_ ?_
        · (clear hV hI hC; go_simp <;> (first | rfl | simp | (rw [IntKind.wrap_i64]; omega)))
        · exact hC
        · exact Or.inl rfl
        · intro d hd; cases hd; rfl
        · intro h; cases h
      case o115 =>
        intro Q a w2 hC hV hI
        have e2 : a.eval (.tmp 2) = .slice (some ⟨gb, 0, none⟩) 13 cp := (hI 2 (by simp [Op.operands]) (by kernel_rfl)).trans rfl
        have f2 : a.tmps.getD 2 undef = .slice (some ⟨gb, 0, none⟩) 13 cp := e2
        have g2 : a.tmps[2]?.getD undef = .slice (some ⟨gb, 0, none⟩) 13 cp := by rw [← Array.getD_eq_getD_getElem?]; exact e2
        refine opU_val (C := fun w' => Below w.heap.size w w' ∧ (w'.cell? ⟨gb, 0, none⟩ = some (.int .i64 x0) ∧ w'.cell? ⟨gb, 1, none⟩ = some (.int .i64 x1) ∧ w'.cell? ⟨gb, 2, none⟩ = some (.int .i64 x2) ∧ w'.cell? ⟨gb, 3, none⟩ = some (.int .i64 x3) ∧ w'.cell? ⟨gb, 4, none⟩ = some (.int .i64 x4) ∧ w'.cell? ⟨gb, 5, none⟩ = some (.int .i64 x5) ∧ w'.cell? ⟨gb, 11, none⟩ = some (.int .i64 (A : Int))) ∧ (w'.heap[w.heap.size]? = some (.cells zeroC.cells.toArray 23 (0, 0)) ∨ w'.heap[w.heap.size]? = some (.cells #[.int .i64 x0, .int .i64 x1, .int .i64 x2, .int .i64 x3, .int .i64 x4, .int .i64 x5, .string ct, .string dt] 23 (0, 0)))) (St := fun x y => y.heap[w.heap.size]? = x.heap[w.heap.size]? ∨ y.heap[w.heap.size]? = some (.cells #[.int .i64 x0, .int .i64 x1, .int .i64 x2, .int .i64 x3, .int .i64 x4, .int .i64 x5, .string ct, .string dt] 23 (0, 0))) (V := fun dq vq _ => match dq with | 112 => vq = .slice (some ⟨gb, 0, none⟩) 13 cp | 113 => vq = .pointer (some ⟨gb, 0, none⟩) | 114 => vq = .int .i64 x0 | 115 => vq = .slice (some ⟨gb, 0, none⟩) 13 cp | 116 => vq = .pointer (some ⟨gb, 1, none⟩) | 117 => vq = .int .i64 x1 | 118 => vq = .slice (some ⟨gb, 0, none⟩) 13 cp | 119 => vq = .pointer (some ⟨gb, 2, none⟩) | 120 => vq = .int .i64 x2 | 121 => vq = .slice (some ⟨gb, 0, none⟩) 13 cp | 122 => vq = .pointer (some ⟨gb, 3, none⟩) | 123 => vq = .int .i64 x3 | 124 => vq = .slice (some ⟨gb, 0, none⟩) 13 cp | 125 => vq = .pointer (some ⟨gb, 4, none⟩) | 126 => vq = .int .i64 x4 | 127 => vq = .slice (some ⟨gb, 0, none⟩) 13 cp | 128 => vq = .pointer (some ⟨gb, 5, none⟩) | 129 => vq = .int .i64 x5 | 130 => vq = .string nm | 131 => vq = .slice (some ⟨gb, 0, none⟩) 13 cp | 132 => vq = .pointer (some ⟨gb, 11, none⟩) | 133 => vq = .int .i64 (A : Int) | 134 => vq = .int .i64 ((A : Int) - 1) | 135 => vq = .string ct | 136 => vq = .string dt | 137 => vq = .agg #[.int .i64 x0, .int .i64 x1, .int .i64 x2, .int .i64 x3, .int .i64 x4, .int .i64 x5, .string ct, .string dt] | 138 => vq = .int .i64 ((p : Int) + (A : Int) + (q1 : Int) + (D : Int) + (q2 : Int)) | 9 => vq = .int .i64 ((p : Int) + (A : Int) + (q1 : Int) + (D : Int) + (q2 : Int)) | 10 => vq = .int .i64 0 | _ => True) (U := fun o w' => o.dst = none → w'.heap[w.heap.size]? = some (.cells #[.int .i64 x0, .int .i64 x1, .int .i64 x2, .int .i64 x3, .int .i64 x4, .int .i64 x5, .string ct, .string dt] 23 (0, 0))) (w' := w2) (.slice (some ⟨gb, 0, none⟩) 13 cp) ?_ ?_ ?_ ?_ ?_
        · (clear hV hI hC; go_simp <;> (first | rfl | simp | (rw [IntKind.wrap_i64]; omega)))
        · exact hC
        · exact Or.inl rfl
        · intro d hd; cases hd; rfl
        · intro h; cases h
      case o116 =>
        intro Q a w2 hC hV hI
        have e115 : a.eval (.tmp 115) = .slice (some ⟨gb, 0, none⟩) 13 cp := hV 115 (by simp [Op.operands]) (by kernel_rfl)
        have f115 : a.tmps.getD 115 undef = .slice (some ⟨gb, 0, none⟩) 13 cp := e115
        have g115 : a.tmps[115]?.getD undef = .slice (some ⟨gb, 0, none⟩) 13 cp := by rw [← Array.getD_eq_getD_getElem?]; exact e115
        refine opU_val (C := fun w' => Below w.heap.size w w' ∧ (w'.cell? ⟨gb, 0, none⟩ = some (.int .i64 x0) ∧ w'.cell? ⟨gb, 1, none⟩ = some (.int .i64 x1) ∧ w'.cell? ⟨gb, 2, none⟩ = some (.int .i64 x2) ∧ w'.cell? ⟨gb, 3, none⟩ = some (.int .i64 x3) ∧ w'.cell? ⟨gb, 4, none⟩ = some (.int .i64 x4) ∧ w'.cell? ⟨gb, 5, none⟩ = some (.int .i64 x5) ∧ w'.cell? ⟨gb, 11, none⟩ = some (.int .i64 (A : Int))) ∧ (w'.heap[w.heap.size]? = some (.cells zeroC.cells.toArray 23 (0, 0)) ∨ w'.heap[w.heap.size]? = some (.cells #[.int .i64 x0, .int .i64 x1, .int .i64 x2, .int .i64 x3, .int .i64 x4, .int .i64 x5, .string ct, .string dt] 23 (0, 0)))) (St := fun x y => y.heap[w.heap.size]? = x.heap[w.heap.size]? ∨ y.heap[w.heap.size]? = some (.cells #[.int .i64 x0, .int .i64 x1, .int .i64 x2, .int .i64 x3, .int .i64 x4, .int .i64 x5, .string ct, .string dt] 23 (0, 0))) (V := fun dq vq _ => match dq with | 112 => vq = .slice (some ⟨gb, 0, none⟩) 13 cp | 113 => vq = .pointer (some ⟨gb, 0, none⟩) | 114 => vq = .int .i64 x0 | 115 => vq = .slice (some ⟨gb, 0, none⟩) 13 cp | 116 => vq = .pointer (some ⟨gb, 1, none⟩) | 117 => vq = .int .i64 x1 | 118 => vq = .slice (some ⟨gb, 0, none⟩) 13 cp | 119 => vq = .pointer (some ⟨gb, 2, none⟩) | 120 => vq = .int .i64 x2 | 121 => vq = .slice (some ⟨gb, 0, none⟩) 13 cp | 122 => vq = .pointer (some ⟨gb, 3, none⟩) | 123 => vq = .int .i64 x3 | 124 => vq = .slice (some ⟨gb, 0, none⟩) 13 cp | 125 => vq = .pointer (some ⟨gb, 4, none⟩) | 126 => vq = .int .i64 x4 | 127 => vq = .slice (some ⟨gb, 0, none⟩) 13 cp | 128 => vq = .pointer (some ⟨gb, 5, none⟩) | 129 => vq = .int .i64 x5 | 130 => vq = .string nm | 131 => vq = .slice (some ⟨gb, 0, none⟩) 13 cp | 132 => vq = .pointer (some ⟨gb, 11, none⟩) | 133 => vq = .int .i64 (A : Int) | 134 => vq = .int .i64 ((A : Int) - 1) | 135 => vq = .string ct | 136 => vq = .string dt | 137 => vq = .agg #[.int .i64 x0, .int .i64 x1, .int .i64 x2, .int .i64 x3, .int .i64 x4, .int .i64 x5, .string ct, .string dt] | 138 => vq = .int .i64 ((p : Int) + (A : Int) + (q1 : Int) + (D : Int) + (q2 : Int)) | 9 => vq = .int .i64 ((p : Int) + (A : Int) + (q1 : Int) + (D : Int) + (q2 : Int)) | 10 => vq = .int .i64 0 | _ => True) (U := fun o w' => o.dst = none → w'.heap[w.heap.size]? = some (.cells #[.int .i64 x0, .int .i64 x1, .int .i64 x2, .int .i64 x3, .int .i64 x4, .int .i64 x5, .string ct, .string dt] 23 (0, 0))) (w' := w2) (.pointer (some ⟨gb, 1, none⟩)) ?_ ?_ ?_ ?_ ?_
        · (clear hV hI hC; go_simp <;> (first | rfl | simp | (rw [IntKind.wrap_i64]; omega)))
        · exact hC
        · exact Or.inl rfl
        · intro d hd; cases hd; rfl
        · intro h; cases h
      case o117 =>
        intro Q a w2 hC hV hI
        have e116 : a.eval (.tmp 116) = .pointer (some ⟨gb, 1, none⟩) := hV 116 (by simp [Op.operands]) (by kernel_rfl)
        have f116 : a.tmps.getD 116 undef = .pointer (some ⟨gb, 1, none⟩) := e116
        have g116 : a.tmps[116]?.getD undef = .pointer (some ⟨gb, 1, none⟩) := by rw [← Array.getD_eq_getD_getElem?]; exact e116
        have hK := KC.out w2 hC.2.1
        refine opU_val (C := fun w' => Below w.heap.size w w' ∧ (w'.cell? ⟨gb, 0, none⟩ = some (.int .i64 x0) ∧ w'.cell? ⟨gb, 1, none⟩ = some (.int .i64 x1) ∧ w'.cell? ⟨gb, 2, none⟩ = some (.int .i64 x2) ∧ w'.cell? ⟨gb, 3, none⟩ = some (.int .i64 x3) ∧ w'.cell? ⟨gb, 4, none⟩ = some (.int .i64 x4) ∧ w'.cell? ⟨gb, 5, none⟩ = some (.int .i64 x5) ∧ w'.cell? ⟨gb, 11, none⟩ = some (.int .i64 (A : Int))) ∧ (w'.heap[w.heap.size]? = some (.cells zeroC.cells.toArray 23 (0, 0)) ∨ w'.heap[w.heap.size]? = some (.cells #[.int .i64 x0, .int .i64 x1, .int .i64 x2, .int .i64 x3, .int .i64 x4, .int .i64 x5, .string ct, .string dt] 23 (0, 0)))) (St := fun x y => y.heap[w.heap.size]? = x.heap[w.heap.size]? ∨ y.heap[w.heap.size]? = some (.cells #[.int .i64 x0, .int .i64 x1, .int .i64 x2, .int .i64 x3, .int .i64 x4, .int .i64 x5, .string ct, .string dt] 23 (0, 0))) (V := fun dq vq _ => match dq with | 112 => vq = .slice (some ⟨gb, 0, none⟩) 13 cp | 113 => vq = .pointer (some ⟨gb, 0, none⟩) | 114 => vq = .int .i64 x0 | 115 => vq = .slice (some ⟨gb, 0, none⟩) 13 cp | 116 => vq = .pointer (some ⟨gb, 1, none⟩) | 117 => vq = .int .i64 x1 | 118 => vq = .slice (some ⟨gb, 0, none⟩) 13 cp | 119 => vq = .pointer (some ⟨gb, 2, none⟩) | 120 => vq = .int .i64 x2 | 121 => vq = .slice (some ⟨gb, 0, none⟩) 13 cp | 122 => vq = .pointer (some ⟨gb, 3, none⟩) | 123 => vq = .int .i64 x3 | 124 => vq = .slice (some ⟨gb, 0, none⟩) 13 cp | 125 => vq = .pointer (some ⟨gb, 4, none⟩) | 126 => vq = .int .i64 x4 | 127 => vq = .slice (some ⟨gb, 0, none⟩) 13 cp | 128 => vq = .pointer (some ⟨gb, 5, none⟩) | 129 => vq = .int .i64 x5 | 130 => vq = .string nm | 131 => vq = .slice (some ⟨gb, 0, none⟩) 13 cp | 132 => vq = .pointer (some ⟨gb, 11, none⟩) | 133 => vq = .int .i64 (A : Int) | 134 => vq = .int .i64 ((A : Int) - 1) | 135 => vq = .string ct | 136 => vq = .string dt | 137 => vq = .agg #[.int .i64 x0, .int .i64 x1, .int .i64 x2, .int .i64 x3, .int .i64 x4, .int .i64 x5, .string ct, .string dt] | 138 => vq = .int .i64 ((p : Int) + (A : Int) + (q1 : Int) + (D : Int) + (q2 : Int)) | 9 => vq = .int .i64 ((p : Int) + (A : Int) + (q1 : Int) + (D : Int) + (q2 : Int)) | 10 => vq = .int .i64 0 | _ => True) (U := fun o w' => o.dst = none → w'.heap[w.heap.size]? = some (.cells #[.int .i64 x0, .int .i64 x1, .int .i64 x2, .int .i64 x3, .int .i64 x4, .int .i64 x5, .string ct, .string dt] 23 (0, 0))) (w' := w2) (.int .i64 x1) ?_ ?_ ?_ ?_ ?_
        · (clear hV hI hC; go_simp <;> (first | rfl | simp | (rw [IntKind.wrap_i64]; omega)))
        · exact hC
        · exact Or.inl rfl
        · intro d hd; cases hd; rfl
        · intro h; cases h
      case o118 =>
        intro Q a w2 hC hV hI
        have e2 : a.eval (.tmp 2) = .slice (some ⟨gb, 0, none⟩) 13 cp := (hI 2 (by simp [Op.operands]) (by kernel_rfl)).trans rfl
        have f2 : a.tmps.getD 2 undef = .slice (some ⟨gb, 0, none⟩) 13 cp := e2
        have g2 : a.tmps[2]?.getD undef = .slice (some ⟨gb, 0, none⟩) 13 cp := by rw [← Array.getD_eq_getD_getElem?]; exact e2
        refine opU_val (C := fun w' => Below w.heap.size w w' ∧ (w'.cell? ⟨gb, 0, none⟩ = some (.int .i64 x0) ∧ w'.cell? ⟨gb, 1, none⟩ = some (.int .i64 x1) ∧ w'.cell? ⟨gb, 2, none⟩ = some (.int .i64 x2) ∧ w'.cell? ⟨gb, 3, none⟩ = some (.int .i64 x3) ∧ w'.cell? ⟨gb, 4, none⟩ = some (.int .i64 x4) ∧ w'.cell? ⟨gb, 5, none⟩ = some (.int .i64 x5) ∧ w'.cell? ⟨gb, 11, none⟩ = some (.int .i64 (A : Int))) ∧ (w'.heap[w.heap.size]? = some (.cells zeroC.cells.toArray 23 (0, 0)) ∨ w'.heap[w.heap.size]? = some (.cells #[.int .i64 x0, .int .i64 x1, .int .i64 x2, .int .i64 x3, .int .i64 x4, .int .i64 x5, .string ct, .string dt] 23 (0, 0)))) (St := fun x y => y.heap[w.heap.size]? = x.heap[w.heap.size]? ∨ y.heap[w.heap.size]? = some (.cells #[.int .i64 x0, .int .i64 x1, .int .i64 x2, .int .i64 x3, .int .i64 x4, .int .i64 x5, .string ct, .string dt] 23 (0, 0))) (V := fun dq vq _ => match dq with | 112 => vq = .slice (some ⟨gb, 0, none⟩) 13 cp | 113 => vq = .pointer (some ⟨gb, 0, none⟩) | 114 => vq = .int .i64 x0 | 115 => vq = .slice (some ⟨gb, 0, none⟩) 13 cp | 116 => vq = .pointer (some ⟨gb, 1, none⟩) | 117 => vq = .int .i64 x1 | 118 => vq = .slice (some ⟨gb, 0, none⟩) 13 cp | 119 => vq = .pointer (some ⟨gb, 2, none⟩) | 120 => vq = .int .i64 x2 | 121 => vq = .slice (some ⟨gb, 0, none⟩) 13 cp | 122 => vq = .pointer (some ⟨gb, 3, none⟩) | 123 => vq = .int .i64 x3 | 124 => vq = .slice (some ⟨gb, 0, none⟩) 13 cp | 125 => vq = .pointer (some ⟨gb, 4, none⟩) | 126 => vq = .int .i64 x4 | 127 => vq = .slice (some ⟨gb, 0, none⟩) 13 cp | 128 => vq = .pointer (some ⟨gb, 5, none⟩) | 129 => vq = .int .i64 x5 | 130 => vq = .string nm | 131 => vq = .slice (some ⟨gb, 0, none⟩) 13 cp | 132 => vq = .pointer (some ⟨gb, 11, none⟩) | 133 => vq = .int .i64 (A : Int) | 134 => vq = .int .i64 ((A : Int) - 1) | 135 => vq = .string ct | 136 => vq = .string dt | 137 => vq = .agg #[.int .i64 x0, .int .i64 x1, .int .i64 x2, .int .i64 x3, .int .i64 x4, .int .i64 x5, .string ct, .string dt] | 138 => vq = .int .i64 ((p : Int) + (A : Int) + (q1 : Int) + (D : Int) + (q2 : Int)) | 9 => vq = .int .i64 ((p : Int) + (A : Int) + (q1 : Int) + (D : Int) + (q2 : Int)) | 10 => vq = .int .i64 0 | _ => True) (U := fun o w' => o.dst = none → w'.heap[w.heap.size]? = some (.cells #[.int .i64 x0, .int .i64 x1, .int .i64 x2, .int .i64 x3, .int .i64 x4, .int .i64 x5, .string ct, .string dt] 23 (0, 0))) (w' := w2) (.slice (some ⟨gb, 0, none⟩) 13 cp) ?_ ?_ ?_ ?_ ?_
        · (clear hV hI hC; go_simp <;> (first | rfl | simp | (rw [IntKind.wrap_i64]; omega)))
        · exact hC
        · exact Or.inl rfl
        · intro d hd; cases hd; rfl
        · intro h; cases h
      case o119 =>
        intro Q a w2 hC hV hI
        have e118 : a.eval (.tmp 118) = .slice (some ⟨gb, 0, none⟩) 13 cp := hV 118 (by simp [Op.operands]) (by kernel_rfl)
        have f118 : a.tmps.getD 118 undef = .slice (some ⟨gb, 0, none⟩) 13 cp := e118
        have g118 : a.tmps[118]?.getD undef = .slice (some ⟨gb, 0, none⟩) 13 cp := by rw [← Array.getD_eq_getD_getElem?]; exact e118
        refine opU_val (C := fun w' => Below w.heap.size w w' ∧ (w'.cell? ⟨gb, 0, none⟩ = some (.int .i64 x0) ∧ w'.cell? ⟨gb, 1, none⟩ = some (.int .i64 x1) ∧ w'.cell? ⟨gb, 2, none⟩ = some (.int .i64 x2) ∧ w'.cell? ⟨gb, 3, none⟩ = some (.int .i64 x3) ∧ w'.cell? ⟨gb, 4, none⟩ = some (.int .i64 x4) ∧ w'.cell? ⟨gb, 5, none⟩ = some (.int .i64 x5) ∧ w'.cell? ⟨gb, 11, none⟩ = some (.int .i64 (A : Int))) ∧ (w'.heap[w.heap.size]? = some (.cells zeroC.cells.toArray 23 (0, 0)) ∨ w'.heap[w.heap.size]? = some (.cells #[.int .i64 x0, .int .i64 x1, .int .i64 x2, .int .i64 x3, .int .i64 x4, .int .i64 x5, .string ct, .string dt] 23 (0, 0)))) (St := fun x y => y.heap[w.heap.size]? = x.heap[w.heap.size]? ∨ y.heap[w.heap.size]? = some (.cells #[.int .i64 x0, .int .i64 x1, .int .i64 x2, .int .i64 x3, .int .i64 x4, .int .i64 x5, .string ct, .string dt] 23 (0, 0))) (V := fun dq vq _ => match dq with | 112 => vq = .slice (some ⟨gb, 0, none⟩) 13 cp | 113 => vq = .pointer (some ⟨gb, 0, none⟩) | 114 => vq = .int .i64 x0 | 115 => vq = .slice (some ⟨gb, 0, none⟩) 13 cp | 116 => vq = .pointer (some ⟨gb, 1, none⟩) | 117 => vq = .int .i64 x1 | 118 => vq = .slice (some ⟨gb, 0, none⟩) 13 cp | 119 => vq = .pointer (some ⟨gb, 2, none⟩) | 120 => vq = .int .i64 x2 | 121 => vq = .slice (some ⟨gb, 0, none⟩) 13 cp | 122 => vq = .pointer (some ⟨gb, 3, none⟩) | 123 => vq = .int .i64 x3 | 124 => vq = .slice (some ⟨gb, 0, none⟩) 13 cp | 125 => vq = .pointer (some ⟨gb, 4, none⟩) | 126 => vq = .int .i64 x4 | 127 => vq = .slice (some ⟨gb, 0, none⟩) 13 cp | 128 => vq = .pointer (some ⟨gb, 5, none⟩) | 129 => vq = .int .i64 x5 | 130 => vq = .string nm | 131 => vq = .slice (some ⟨gb, 0, none⟩) 13 cp | 132 => vq = .pointer (some ⟨gb, 11, none⟩) | 133 => vq = .int .i64 (A : Int) | 134 => vq = .int .i64 ((A : Int) - 1) | 135 => vq = .string ct | 136 => vq = .string dt | 137 => vq = .agg #[.int .i64 x0, .int .i64 x1, .int .i64 x2, .int .i64 x3, .int .i64 x4, .int .i64 x5, .string ct, .string dt] | 138 => vq = .int .i64 ((p : Int) + (A : Int) + (q1 : Int) + (D : Int) + (q2 : Int)) | 9 => vq = .int .i64 ((p : Int) + (A : Int) + (q1 : Int) + (D : Int) + (q2 : Int)) | 10 => vq = .int .i64 0 | _ => True) (U := fun o w' => o.dst = none → w'.heap[w.heap.size]? = some (.cells #[.int .i64 x0, .int .i64 x1, .int .i64 x2, .int .i64 x3, .int .i64 x4, .int .i64 x5, .string ct, .string dt] 23 (0, 0))) (w' := w2) (.pointer (some ⟨gb, 2, none⟩)) ?_ ?_ ?_ ?_ ?_
        · (clear hV hI hC; go_simp <;> (first | rfl | simp | (rw [IntKind.wrap_i64]; omega)))
        · exact hC
        · exact Or.inl rfl
        · intro d hd; cases hd; rfl
        · intro h; cases h
      case o120 =>
        intro Q a w2 hC hV hI
        have e119 : a.eval (.tmp 119) = .pointer (some ⟨gb, 2, none⟩) := hV 119 (by simp [Op.operands]) (by kernel_rfl)
        have f119 : a.tmps.getD 119 undef = .pointer (some ⟨gb, 2, none⟩) := e119
        have g119 : a.tmps[119]?.getD undef = .pointer (some ⟨gb, 2, none⟩) := by rw [← Array.getD_eq_getD_getElem?]; exact e119
        have hK := KC.out w2 hC.2.1
        refine opU_val (C := fun w' => Below w.heap.size w w' ∧ (w'.cell? ⟨gb, 0, none⟩ = some (.int .i64 x0) ∧ w'.cell? ⟨gb, 1, none⟩ = some (.int .i64 x1) ∧ w'.cell? ⟨gb, 2, none⟩ = some (.int .i64 x2) ∧ w'.cell? ⟨gb, 3, none⟩ = some (.int .i64 x3) ∧ w'.cell? ⟨gb, 4, none⟩ = some (.int .i64 x4) ∧ w'.cell? ⟨gb, 5, none⟩ = some (.int .i64 x5) ∧ w'.cell? ⟨gb, 11, none⟩ = some (.int .i64 (A : Int))) ∧ (w'.heap[w.heap.size]? = some (.cells zeroC.cells.toArray 23 (0, 0)) ∨ w'.heap[w.heap.size]? = some (.cells #[.int .i64 x0, .int .i64 x1, .int .i64 x2, .int .i64 x3, .int .i64 x4, .int .i64 x5, .string ct, .string dt] 23 (0, 0)))) (St := fun x y => y.heap[w.heap.size]? = x.heap[w.heap.size]? ∨ y.heap[w.heap.size]? = some (.cells #[.int .i64 x0, .int .i64 x1, .int .i64 x2, .int .i64 x3, .int .i64 x4, .int .i64 x5, .string ct, .string dt] 23 (0, 0))) (V := fun dq vq _ => match dq with | 112 => vq = .slice (some ⟨gb, 0, none⟩) 13 cp | 113 => vq = .pointer (some ⟨gb, 0, none⟩) | 114 => vq = .int .i64 x0 | 115 => vq = .slice (some ⟨gb, 0, none⟩) 13 cp | 116 => vq = .pointer (some ⟨gb, 1, none⟩) | 117 => vq = .int .i64 x1 | 118 => vq = .slice (some ⟨gb, 0, none⟩) 13 cp | 119 => vq = .pointer (some ⟨gb, 2, none⟩) | 120 => vq = .int .i64 x2 | 121 => vq = .slice (some ⟨gb, 0, none⟩) 13 cp | 122 => vq = .pointer (some ⟨gb, 3, none⟩) | 123 => vq = .int .i64 x3 | 124 => vq = .slice (some ⟨gb, 0, none⟩) 13 cp | 125 => vq = .pointer (some ⟨gb, 4, none⟩) | 126 => vq = .int .i64 x4 | 127 => vq = .slice (some ⟨gb, 0, none⟩) 13 cp | 128 => vq = .pointer (some ⟨gb, 5, none⟩) | 129 => vq = .int .i64 x5 | 130 => vq = .string nm | 131 => vq = .slice (some ⟨gb, 0, none⟩) 13 cp | 132 => vq = .pointer (some ⟨gb, 11, none⟩) | 133 => vq = .int .i64 (A : Int) | 134 => vq = .int .i64 ((A : Int) - 1) | 135 => vq = .string ct | 136 => vq = .string dt | 137 => vq = .agg #[.int .i64 x0, .int .i64 x1, .int .i64 x2, .int .i64 x3, .int .i64 x4, .int .i64 x5, .string ct, .string dt] | 138 => vq = .int .i64 ((p : Int) + (A : Int) + (q1 : Int) + (D : Int) + (q2 : Int)) | 9 => vq = .int .i64 ((p : Int) + (A : Int) + (q1 : Int) + (D : Int) + (q2 : Int)) | 10 => vq = .int .i64 0 | _ => True) (U := fun o w' => o.dst = none → w'.heap[w.heap.size]? = some (.cells #[.int .i64 x0, .int .i64 x1, .int .i64 x2, .int .i64 x3, .int .i64 x4, .int .i64 x5, .string ct, .string dt] 23 (0, 0))) (w' := w2) (.int .i64 x2) ?_ ?_ ?_ ?_ ?_
        · (clear hV hI hC; go_simp <;> (first | rfl | simp | (rw [IntKind.wrap_i64]; omega)))
        · exact hC
        · exact Or.inl rfl
        · intro d hd; cases hd; rfl
        · intro h; cases h
      case o121 =>
        intro Q a w2 hC hV hI
        have e2 : a.eval (.tmp 2) = .slice (some ⟨gb, 0, none⟩) 13 cp := (hI 2 (by simp [Op.operands]) (by kernel_rfl)).trans rfl
        have f2 : a.tmps.getD 2 undef = .slice (some ⟨gb, 0, none⟩) 13 cp := e2
        have g2 : a.tmps[2]?.getD undef = .slice (some ⟨gb, 0, none⟩) 13 cp := by rw [← Array.getD_eq_getD_getElem?]; exact e2
        refine opU_val (C := fun w' => Below w.heap.size w w' ∧ (w'.cell? ⟨gb, 0, none⟩ = some (.int .i64 x0) ∧ w'.cell? ⟨gb, 1, none⟩ = some (.int .i64 x1) ∧ w'.cell? ⟨gb, 2, none⟩ = some (.int .i64 x2) ∧ w'.cell? ⟨gb, 3, none⟩ = some (.int .i64 x3) ∧ w'.cell? ⟨gb, 4, none⟩ = some (.int .i64 x4) ∧ w'.cell? ⟨gb, 5, none⟩ = some (.int .i64 x5) ∧ w'.cell? ⟨gb, 11, none⟩ = some (.int .i64 (A : Int))) ∧ (w'.heap[w.heap.size]? = some (.cells zeroC.cells.toArray 23 (0, 0)) ∨ w'.heap[w.heap.size]? = some (.cells #[.int .i64 x0, .int .i64 x1, .int .i64 x2, .int .i64 x3, .int .i64 x4, .int .i64 x5, .string ct, .string dt] 23 (0, 0)))) (St := fun x y => y.heap[w.heap.size]? = x.heap[w.heap.size]? ∨ y.heap[w.heap.size]? = some (.cells #[.int .i64 x0, .int .i64 x1, .int .i64 x2, .int .i64 x3, .int .i64 x4, .int .i64 x5, .string ct, .string dt] 23 (0, 0))) (V := fun dq vq _ => match dq with | 112 => vq = .slice (some ⟨gb, 0, none⟩) 13 cp | 113 => vq = .pointer (some ⟨gb, 0, none⟩) | 114 => vq = .int .i64 x0 | 115 => vq = .slice (some ⟨gb, 0, none⟩) 13 cp | 116 => vq = .pointer (some ⟨gb, 1, none⟩) | 117 => vq = .int .i64 x1 | 118 => vq = .slice (some ⟨gb, 0, none⟩) 13 cp | 119 => vq = .pointer (some ⟨gb, 2, none⟩) | 120 => vq = .int .i64 x2 | 121 => vq = .slice (some ⟨gb, 0, none⟩) 13 cp | 122 => vq = .pointer (some ⟨gb, 3, none⟩) | 123 => vq = .int .i64 x3 | 124 => vq = .slice (some ⟨gb, 0, none⟩) 13 cp | 125 => vq = .pointer (some ⟨gb, 4, none⟩) | 126 => vq = .int .i64 x4 | 127 => vq = .slice (some ⟨gb, 0, none⟩) 13 cp | 128 => vq = .pointer (some ⟨gb, 5, none⟩) | 129 => vq = .int .i64 x5 | 130 => vq = .string nm | 131 => vq = .slice (some ⟨gb, 0, none⟩) 13 cp | 132 => vq = .pointer (some ⟨gb, 11, none⟩) | 133 => vq = .int .i64 (A : Int) | 134 => vq = .int .i64 ((A : Int) - 1) | 135 => vq = .string ct | 136 => vq = .string dt | 137 => vq = .agg #[.int .i64 x0, .int .i64 x1, .int .i64 x2, .int .i64 x3, .int .i64 x4, .int .i64 x5, .string ct, .string dt] | 138 => vq = .int .i64 ((p : Int) + (A : Int) + (q1 : Int) + (D : Int) + (q2 : Int)) | 9 => vq = .int .i64 ((p : Int) + (A : Int) + (q1 : Int) + (D : Int) + (q2 : Int)) | 10 => vq = .int .i64 0 | _ => True) (U := fun o w' => o.dst = none → w'.heap[w.heap.size]? = some (.cells #[.int .i64 x0, .int .i64 x1, .int .i64 x2, .int .i64 x3, .int .i64 x4, .int .i64 x5, .string ct, .string dt] 23 (0, 0))) (w' := w2) (.slice (some ⟨gb, 0, none⟩) 13 cp) ?_ ?_ ?_ ?_ ?_
        · (clear hV hI hC; go_simp <;> (first | rfl | simp | (rw [IntKind.wrap_i64]; omega)))
        · exact hC
        · exact Or.inl rfl
        · intro d hd; cases hd; rfl
        · intro h; cases h
      case o122 =>
        intro Q a w2 hC hV hI
        have e121 : a.eval (.tmp 121) = .slice (some ⟨gb, 0, none⟩) 13 cp := hV 121 (by simp [Op.operands]) (by kernel_rfl)
        have f121 : a.tmps.getD 121 undef = .slice (some ⟨gb, 0, none⟩) 13 cp := e121
        have g121 : a.tmps[121]?.getD undef = .slice (some ⟨gb, 0, none⟩) 13 cp := by rw [← Array.getD_eq_getD_getElem?]; exact e121
        refine opU_val (C := fun w' => Below w.heap.size w w' ∧ (w'.cell? ⟨gb, 0, none⟩ = some (.int .i64 x0) ∧ w'.cell? ⟨gb, 1, none⟩ = some (.int .i64 x1) ∧ w'.cell? ⟨gb, 2, none⟩ = some (.int .i64 x2) ∧ w'.cell? ⟨gb, 3, none⟩ = some (.int .i64 x3) ∧ w'.cell? ⟨gb, 4, none⟩ = some (.int .i64 x4) ∧ w'.cell? ⟨gb, 5, none⟩ = some (.int .i64 x5) ∧ w'.cell? ⟨gb, 11, none⟩ = some (.int .i64 (A : Int))) ∧ (w'.heap[w.heap.size]? = some (.cells zeroC.cells.toArray 23 (0, 0)) ∨ w'.heap[w.heap.size]? = some (.cells #[.int .i64 x0, .int .i64 x1, .int .i64 x2, .int .i64 x3, .int .i64 x4, .int .i64 x5, .string ct, .string dt] 23 (0, 0)))) (St := fun x y => y.heap[w.heap.size]? = x.heap[w.heap.size]? ∨ y.heap[w.heap.size]? = some (.cells #[.int .i64 x0, .int .i64 x1, .int .i64 x2, .int .i64 x3, .int .i64 x4, .int .i64 x5, .string ct, .string dt] 23 (0, 0))) (V := fun dq vq _ => match dq with | 112 => vq = .slice (some ⟨gb, 0, none⟩) 13 cp | 113 => vq = .pointer (some ⟨gb, 0, none⟩) | 114 => vq = .int .i64 x0 | 115 => vq = .slice (some ⟨gb, 0, none⟩) 13 cp | 116 => vq = .pointer (some ⟨gb, 1, none⟩) | 117 => vq = .int .i64 x1 | 118 => vq = .slice (some ⟨gb, 0, none⟩) 13 cp | 119 => vq = .pointer (some ⟨gb, 2, none⟩) | 120 => vq = .int .i64 x2 | 121 => vq = .slice (some ⟨gb, 0, none⟩) 13 cp | 122 => vq = .pointer (some ⟨gb, 3, none⟩) | 123 => vq = .int .i64 x3 | 124 => vq = .slice (some ⟨gb, 0, none⟩) 13 cp | 125 => vq = .pointer (some ⟨gb, 4, none⟩) | 126 => vq = .int .i64 x4 | 127 => vq = .slice (some ⟨gb, 0, none⟩) 13 cp | 128 => vq = .pointer (some ⟨gb, 5, none⟩) | 129 => vq = .int .i64 x5 | 130 => vq = .string nm | 131 => vq = .slice (some ⟨gb, 0, none⟩) 13 cp | 132 => vq = .pointer (some ⟨gb, 11, none⟩) | 133 => vq = .int .i64 (A : Int) | 134 => vq = .int .i64 ((A : Int) - 1) | 135 => vq = .string ct | 136 => vq = .string dt | 137 => vq = .agg #[.int .i64 x0, .int .i64 x1, .int .i64 x2, .int .i64 x3, .int .i64 x4, .int .i64 x5, .string ct, .string dt] | 138 => vq = .int .i64 ((p : Int) + (A : Int) + (q1 : Int) + (D : Int) + (q2 : Int)) | 9 => vq = .int .i64 ((p : Int) + (A : Int) + (q1 : Int) + (D : Int) + (q2 : Int)) | 10 => vq = .int .i64 0 | _ => True) (U := fun o w' => o.dst = none → w'.heap[w.heap.size]? = some (.cells #[.int .i64 x0, .int .i64 x1, .int .i64 x2, .int .i64 x3, .int .i64 x4, .int .i64 x5, .string ct, .string dt] 23 (0, 0))) (w' := w2) (.pointer (some ⟨gb, 3, none⟩)) ?_ ?_ ?_ ?_ ?_
        · (clear hV hI hC; go_simp <;> (first | rfl | simp | (rw [IntKind.wrap_i64]; omega)))
        · exact hC
        · exact Or.inl rfl
        · intro d hd; cases hd; rfl
        · intro h; cases h
      case o123 =>
        intro Q a w2 hC hV hI
        have e122 : a.eval (.tmp 122) = .pointer (some ⟨gb, 3, none⟩) := hV 122 (by simp [Op.operands]) (by kernel_rfl)
        have f122 : a.tmps.getD 122 undef = .pointer (some ⟨gb, 3, none⟩) := e122
        have g122 : a.tmps[122]?.getD undef = .pointer (some ⟨gb, 3, none⟩) := by rw [← Array.getD_eq_getD_getElem?]; exact e122
        have hK := KC.out w2 hC.2.1
        refine opU_val (C := fun w' => Below w.heap.size w w' ∧ (w'.cell? ⟨gb, 0, none⟩ = some (.int .i64 x0) ∧ w'.cell? ⟨gb, 1, none⟩ = some (.int .i64 x1) ∧ w'.cell? ⟨gb, 2, none⟩ = some (.int .i64 x2) ∧ w'.cell? ⟨gb, 3, none⟩ = some (.int .i64 x3) ∧ w'.cell? ⟨gb, 4, none⟩ = some (.int .i64 x4) ∧ w'.cell? ⟨gb, 5, none⟩ = some (.int .i64 x5) ∧ w'.cell? ⟨gb, 11, none⟩ = some (.int .i64 (A : Int))) ∧ (w'.heap[w.heap.size]? = some (.cells zeroC.cells.toArray 23 (0, 0)) ∨ w'.heap[w.heap.size]? = some (.cells #[.int .i64 x0, .int .i64 x1, .int .i64 x2, .int .i64 x3, .int .i64 x4, .int .i64 x5, .string ct, .string dt] 23 (0, 0)))) (St := fun x y => y.heap[w.heap.size]? = x.heap[w.heap.size]? ∨ y.heap[w.heap.size]? = some (.cells #[.int .i64 x0, .int .i64 x1, .int .i64 x2, .int .i64 x3, .int .i64 x4, .int .i64 x5, .string ct, .string dt] 23 (0, 0))) (V := fun dq vq _ => match dq with | 112 => vq = .slice (some ⟨gb, 0, none⟩) 13 cp | 113 => vq = .pointer (some ⟨gb, 0, none⟩) | 114 => vq = .int .i64 x0 | 115 => vq = .slice (some ⟨gb, 0, none⟩) 13 cp | 116 => vq = .pointer (some ⟨gb, 1, none⟩) | 117 => vq = .int .i64 x1 | 118 => vq = .slice (some ⟨gb, 0, none⟩) 13 cp | 119 => vq = .pointer (some ⟨gb, 2, none⟩) | 120 => vq = .int .i64 x2 | 121 => vq = .slice (some ⟨gb, 0, none⟩) 13 cp | 122 => vq = .pointer (some ⟨gb, 3, none⟩) | 123 => vq = .int .i64 x3 | 124 => vq = .slice (some ⟨gb, 0, none⟩) 13 cp | 125 => vq = .pointer (some ⟨gb, 4, none⟩) | 126 => vq = .int .i64 x4 | 127 => vq = .slice (some ⟨gb, 0, none⟩) 13 cp | 128 => vq = .pointer (some ⟨gb, 5, none⟩) | 129 => vq = .int .i64 x5 | 130 => vq = .string nm | 131 => vq = .slice (some ⟨gb, 0, none⟩) 13 cp | 132 => vq = .pointer (some ⟨gb, 11, none⟩) | 133 => vq = .int .i64 (A : Int) | 134 => vq = .int .i64 ((A : Int) - 1) | 135 => vq = .string ct | 136 => vq = .string dt | 137 => vq = .agg #[.int .i64 x0, .int .i64 x1, .int .i64 x2, .int .i64 x3, .int .i64 x4, .int .i64 x5, .string ct, .string dt] | 138 => vq = .int .i64 ((p : Int) + (A : Int) + (q1 : Int) + (D : Int) + (q2 : Int)) | 9 => vq = .int .i64 ((p : Int) + (A : Int) + (q1 : Int) + (D : Int) + (q2 : Int)) | 10 => vq = .int .i64 0 | _ => True) (U := fun o w' => o.dst = none → w'.heap[w.heap.size]? = some (.cells #[.int .i64 x0, .int .i64 x1, .int .i64 x2, .int .i64 x3, .int .i64 x4, .int .i64 x5, .string ct, .string dt] 23 (0, 0))) (w' := w2) (.int .i64 x3) ?_ ?_ ?_ ?_ ?_
        · (clear hV hI hC; go_simp <;> (first | rfl | simp | (rw [IntKind.wrap_i64]; omega)))
        · exact hC
        · exact Or.inl rfl
        · intro d hd; cases hd; rfl
        · intro h; cases h
      case o124 =>
        intro Q a w2 hC hV hI
        have e2 : a.eval (.tmp 2) = .slice (some ⟨gb, 0, none⟩) 13 cp := (hI 2 (by simp [Op.operands]) (by kernel_rfl)).trans rfl
        have f2 : a.tmps.getD 2 undef = .slice (some ⟨gb, 0, none⟩) 13 cp := e2
        have g2 : a.tmps[2]?.getD undef = .slice (some ⟨gb, 0, none⟩) 13 cp := by rw [← Array.getD_eq_getD_getElem?]; exact e2
        refine opU_val (C := fun w' => Below w.heap.size w w' ∧ (w'.cell? ⟨gb, 0, none⟩ = some (.int .i64 x0) ∧ w'.cell? ⟨gb, 1, none⟩ = some (.int .i64 x1) ∧ w'.cell? ⟨gb, 2, none⟩ = some (.int .i64 x2) ∧ w'.cell? ⟨gb, 3, none⟩ = some (.int .i64 x3) ∧ w'.cell? ⟨gb, 4, none⟩ = some (.int .i64 x4) ∧ w'.cell? ⟨gb, 5, none⟩ = some (.int .i64 x5) ∧ w'.cell? ⟨gb, 11, none⟩ = some (.int .i64 (A : Int))) ∧ (w'.heap[w.heap.size]? = some (.cells zeroC.cells.toArray 23 (0, 0)) ∨ w'.heap[w.heap.size]? = some (.cells #[.int .i64 x0, .int .i64 x1, .int .i64 x2, .int .i64 x3, .int .i64 x4, .int .i64 x5, .string ct, .string dt] 23 (0, 0)))) (St := fun x y => y.heap[w.heap.size]? = x.heap[w.heap.size]? ∨ y.heap[w.heap.size]? = some (.cells #[.int .i64 x0, .int .i64 x1, .int .i64 x2, .int .i64 x3, .int .i64 x4, .int .i64 x5, .string ct, .string dt] 23 (0, 0))) (V := fun dq vq _ => match dq with | 112 => vq = .slice (some ⟨gb, 0, none⟩) 13 cp | 113 => vq = .pointer (some ⟨gb, 0, none⟩) | 114 => vq = .int .i64 x0 | 115 => vq = .slice (some ⟨gb, 0, none⟩) 13 cp | 116 => vq = .pointer (some ⟨gb, 1, none⟩) | 117 => vq = .int .i64 x1 | 118 => vq = .slice (some ⟨gb, 0, none⟩) 13 cp | 119 => vq = .pointer (some ⟨gb, 2, none⟩) | 120 => vq = .int .i64 x2 | 121 => vq = .slice (some ⟨gb, 0, none⟩) 13 cp | 122 => vq = .pointer (some ⟨gb, 3, none⟩) | 123 => vq = .int .i64 x3 | 124 => vq = .slice (some ⟨gb, 0, none⟩) 13 cp | 125 => vq = .pointer (some ⟨gb, 4, none⟩) | 126 => vq = .int .i64 x4 | 127 => vq = .slice (some ⟨gb, 0, none⟩) 13 cp | 128 => vq = .pointer (some ⟨gb, 5, none⟩) | 129 => vq = .int .i64 x5 | 130 => vq = .string nm | 131 => vq = .slice (some ⟨gb, 0, none⟩) 13 cp | 132 => vq = .pointer (some ⟨gb, 11, none⟩) | 133 => vq = .int .i64 (A : Int) | 134 => vq = .int .i64 ((A : Int) - 1) | 135 => vq = .string ct | 136 => vq = .string dt | 137 => vq = .agg #[.int .i64 x0, .int .i64 x1, .int .i64 x2, .int .i64 x3, .int .i64 x4, .int .i64 x5, .string ct, .string dt] | 138 => vq = .int .i64 ((p : Int) + (A : Int) + (q1 : Int) + (D : Int) + (q2 : Int)) | 9 => vq = .int .i64 ((p : Int) + (A : Int) + (q1 : Int) + (D : Int) + (q2 : Int)) | 10 => vq = .int .i64 0 | _ => True) (U := fun o w' => o.dst = none → w'.heap[w.heap.size]? = some (.cells #[.int .i64 x0, .int .i64 x1, .int .i64 x2, .int .i64 x3, .int .i64 x4, .int .i64 x5, .string ct, .string dt] 23 (0, 0))) (w' := w2) (.slice (some ⟨gb, 0, none⟩) 13 cp) ?_ ?_ ?_ ?_ ?_
        · (clear hV hI hC; go_simp <;> (first | rfl | simp | (rw [IntKind.wrap_i64]; omega)))
        · exact hC
        · exact Or.inl rfl
        · intro d hd; cases hd; rfl
        · intro h; cases h
      case o125 =>
        intro Q a w2 hC hV hI
        have e124 : a.eval (.tmp 124) = .slice (some ⟨gb, 0, none⟩) 13 cp := hV 124 (by simp [Op.operands]) (by kernel_rfl)
        have f124 : a.tmps.getD 124 undef = .slice (some ⟨gb, 0, none⟩) 13 cp := e124
        have g124 : a.tmps[124]?.getD undef = .slice (some ⟨gb, 0, none⟩) 13 cp := by rw [← Array.getD_eq_getD_getElem?]; exact e124
        refine opU_val (C := fun w' => Below w.heap.size w w' ∧ (w'.cell? ⟨gb, 0, none⟩ = some (.int .i64 x0) ∧ w'.cell? ⟨gb, 1, none⟩ = some (.int .i64 x1) ∧ w'.cell? ⟨gb, 2, none⟩ = some (.int .i64 x2) ∧ w'.cell? ⟨gb, 3, none⟩ = some (.int .i64 x3) ∧ w'.cell? ⟨gb, 4, none⟩ = some (.int .i64 x4) ∧ w'.cell? ⟨gb, 5, none⟩ = some (.int .i64 x5) ∧ w'.cell? ⟨gb, 11, none⟩ = some (.int .i64 (A : Int))) ∧ (w'.heap[w.heap.size]? = some (.cells zeroC.cells.toArray 23 (0, 0)) ∨ w'.heap[w.heap.size]? = some (.cells #[.int .i64 x0, .int .i64 x1, .int .i64 x2, .int .i64 x3, .int .i64 x4, .int .i64 x5, .string ct, .string dt] 23 (0, 0)))) (St := fun x y => y.heap[w.heap.size]? = x.heap[w.heap.size]? ∨ y.heap[w.heap.size]? = some (.cells #[.int .i64 x0, .int .i64 x1, .int .i64 x2, .int .i64 x3, .int .i64 x4, .int .i64 x5, .string ct, .string dt] 23 (0, 0))) (V := fun dq vq _ => match dq with | 112 => vq = .slice (some ⟨gb, 0, none⟩) 13 cp | 113 => vq = .pointer (some ⟨gb, 0, none⟩) | 114 => vq = .int .i64 x0 | 115 => vq = .slice (some ⟨gb, 0, none⟩) 13 cp | 116 => vq = .pointer (some ⟨gb, 1, none⟩) | 117 => vq = .int .i64 x1 | 118 => vq = .slice (some ⟨gb, 0, none⟩) 13 cp | 119 => vq = .pointer (some ⟨gb, 2, none⟩) | 120 => vq = .int .i64 x2 | 121 => vq = .slice (some ⟨gb, 0, none⟩) 13 cp | 122 => vq = .pointer (some ⟨gb, 3, none⟩) | 123 => vq = .int .i64 x3 | 124 => vq = .slice (some ⟨gb, 0, none⟩) 13 cp | 125 => vq = .pointer (some ⟨gb, 4, none⟩) | 126 => vq = .int .i64 x4 | 127 => vq = .slice (some ⟨gb, 0, none⟩) 13 cp | 128 => vq = .pointer (some ⟨gb, 5, none⟩) | 129 => vq = .int .i64 x5 | 130 => vq = .string nm | 131 => vq = .slice (some ⟨gb, 0, none⟩) 13 cp | 132 => vq = .pointer (some ⟨gb, 11, none⟩) | 133 => vq = .int .i64 (A : Int) | 134 => vq = .int .i64 ((A : Int) - 1) | 135 => vq = .string ct | 136 => vq = .string dt | 137 => vq = .agg #[.int .i64 x0, .int .i64 x1, .int .i64 x2, .int .i64 x3, .int .i64 x4, .int .i64 x5, .string ct, .string dt] | 138 => vq = .int .i64 ((p : Int) + (A : Int) + (q1 : Int) + (D : Int) + (q2 : Int)) | 9 => vq = .int .i64 ((p : Int) + (A : Int) + (q1 : Int) + (D : Int) + (q2 : Int)) | 10 => vq = .int .i64 0 | _ => True) (U := fun o w' => o.dst = none → w'.heap[w.heap.size]? = some (.cells #[.int .i64 x0, .int .i64 x1, .int .i64 x2, .int .i64 x3, .int .i64 x4, .int .i64 x5, .string ct, .string dt] 23 (0, 0))) (w' := w2) (.pointer (some ⟨gb, 4, none⟩)) ?_ ?_ ?_ ?_ ?_
        · (clear hV hI hC; go_simp <;> (first | rfl | simp | (rw [IntKind.wrap_i64]; omega)))
        · exact hC
        · exact Or.inl rfl
        · intro d hd; cases hd; rfl
        · intro h; cases h
      case o126 =>
        intro Q a w2 hC hV hI
        have e125 : a.eval (.tmp 125) = .pointer (some ⟨gb, 4, none⟩) := hV 125 (by simp [Op.operands]) (by kernel_rfl)
        have f125 : a.tmps.getD 125 undef = .pointer (some ⟨gb, 4, none⟩) := e125
        have g125 : a.tmps[125]?.getD undef = .pointer (some ⟨gb, 4, none⟩) := by rw [← Array.getD_eq_getD_getElem?]; exact e125
        have hK := KC.out w2 hC.2.1
        refine opU_val (C := fun w' => Below w.heap.size w w' ∧ (w'.cell? ⟨gb, 0, none⟩ = some (.int .i64 x0) ∧ w'.cell? ⟨gb, 1, none⟩ = some (.int .i64 x1) ∧ w'.cell? ⟨gb, 2, none⟩ = some (.int .i64 x2) ∧ w'.cell? ⟨gb, 3, none⟩ = some (.int .i64 x3) ∧ w'.cell? ⟨gb, 4, none⟩ = some (.int .i64 x4) ∧ w'.cell? ⟨gb, 5, none⟩ = some (.int .i64 x5) ∧ w'.cell? ⟨gb, 11, none⟩ = some (.int .i64 (A : Int))) ∧ (w'.heap[w.heap.size]? = some (.cells zeroC.cells.toArray 23 (0, 0)) ∨ w'.heap[w.heap.size]? = some (.cells #[.int .i64 x0, .int .i64 x1, .int .i64 x2, .int .i64 x3, .int .i64 x4, .int .i64 x5, .string ct, .string dt] 23 (0, 0)))) (St := fun x y => y.heap[w.heap.size]? = x.heap[w.heap.size]? ∨ y.heap[w.heap.size]? = some (.cells #[.int .i64 x0, .int .i64 x1, .int .i64 x2, .int .i64 x3, .int .i64 x4, .int .i64 x5, .string ct, .string dt] 23 (0, 0))) (V := fun dq vq _ => match dq with | 112 => vq = .slice (some ⟨gb, 0, none⟩) 13 cp | 113 => vq = .pointer (some ⟨gb, 0, none⟩) | 114 => vq = .int .i64 x0 | 115 => vq = .slice (some ⟨gb, 0, none⟩) 13 cp | 116 => vq = .pointer (some ⟨gb, 1, none⟩) | 117 => vq = .int .i64 x1 | 118 => vq = .slice (some ⟨gb, 0, none⟩) 13 cp | 119 => vq = .pointer (some ⟨gb, 2, none⟩) | 120 => vq = .int .i64 x2 | 121 => vq = .slice (some ⟨gb, 0, none⟩) 13 cp | 122 => vq = .pointer (some ⟨gb, 3, none⟩) | 123 => vq = .int .i64 x3 | 124 => vq = .slice (some ⟨gb, 0, none⟩) 13 cp | 125 => vq = .pointer (some ⟨gb, 4, none⟩) | 126 => vq = .int .i64 x4 | 127 => vq = .slice (some ⟨gb, 0, none⟩) 13 cp | 128 => vq = .pointer (some ⟨gb, 5, none⟩) | 129 => vq = .int .i64 x5 | 130 => vq = .string nm | 131 => vq = .slice (some ⟨gb, 0, none⟩) 13 cp | 132 => vq = .pointer (some ⟨gb, 11, none⟩) | 133 => vq = .int .i64 (A : Int) | 134 => vq = .int .i64 ((A : Int) - 1) | 135 => vq = .string ct | 136 => vq = .string dt | 137 => vq = .agg #[.int .i64 x0, .int .i64 x1, .int .i64 x2, .int .i64 x3, .int .i64 x4, .int .i64 x5, .string ct, .string dt] | 138 => vq = .int .i64 ((p : Int) + (A : Int) + (q1 : Int) + (D : Int) + (q2 : Int)) | 9 => vq = .int .i64 ((p : Int) + (A : Int) + (q1 : Int) + (D : Int) + (q2 : Int)) | 10 => vq = .int .i64 0 | _ => True) (U := fun o w' => o.dst = none → w'.heap[w.heap.size]? = some (.cells #[.int .i64 x0, .int .i64 x1, .int .i64 x2, .int .i64 x3, .int .i64 x4, .int .i64 x5, .string ct, .string dt] 23 (0, 0))) (w' := w2) (.int .i64 x4) ?_ ?_ ?_ ?_ ?_
        · (clear hV hI hC; go_simp <;> (first | rfl | simp | (rw [IntKind.wrap_i64]; omega)))
        · exact hC
        · exact Or.inl rfl
        · intro d hd; cases hd; rfl
        · intro h; cases h
      case o127 =>
        intro Q a w2 hC hV hI
        have e2 : a.eval (.tmp 2) = .slice (some ⟨gb, 0, none⟩) 13 cp := (hI 2 (by simp [Op.operands]) (by kernel_rfl)).trans rfl
        have f2 : a.tmps.getD 2 undef = .slice (some ⟨gb, 0, none⟩) 13 cp := e2
        have g2 : a.tmps[2]?.getD undef = .slice (some ⟨gb, 0, none⟩) 13 cp := by rw [← Array.getD_eq_getD_getElem?]; exact e2
        refine opU_val (C := fun w' => Below w.heap.size w w' ∧ (w'.cell? ⟨gb, 0, none⟩ = some (.int .i64 x0) ∧ w'.cell? ⟨gb, 1, none⟩ = some (.int .i64 x1) ∧ w'.cell? ⟨gb, 2, none⟩ = some (.int .i64 x2) ∧ w'.cell? ⟨gb, 3, none⟩ = some (.int .i64 x3) ∧ w'.cell? ⟨gb, 4, none⟩ = some (.int .i64 x4) ∧ w'.cell? ⟨gb, 5, none⟩ = some (.int .i64 x5) ∧ w'.cell? ⟨gb, 11, none⟩ = some (.int .i64 (A : Int))) ∧ (w'.heap[w.heap.size]? = some (.cells zeroC.cells.toArray 23 (0, 0)) ∨ w'.heap[w.heap.size]? = some (.cells #[.int .i64 x0, .int .i64 x1, .int .i64 x2, .int .i64 x3, .int .i64 x4, .int .i64 x5, .string ct, .string dt] 23 (0, 0)))) (St := fun x y => y.heap[w.heap.size]? = x.heap[w.heap.size]? ∨ y.heap[w.heap.size]? = some (.cells #[.int .i64 x0, .int .i64 x1, .int .i64 x2, .int .i64 x3, .int .i64 x4, .int .i64 x5, .string ct, .string dt] 23 (0, 0))) (V := fun dq vq _ => match dq with | 112 => vq = .slice (some ⟨gb, 0, none⟩) 13 cp | 113 => vq = .pointer (some ⟨gb, 0, none⟩) | 114 => vq = .int .i64 x0 | 115 => vq = .slice (some ⟨gb, 0, none⟩) 13 cp | 116 => vq = .pointer (some ⟨gb, 1, none⟩) | 117 => vq = .int .i64 x1 | 118 => vq = .slice (some ⟨gb, 0, none⟩) 13 cp | 119 => vq = .pointer (some ⟨gb, 2, none⟩) | 120 => vq = .int .i64 x2 | 121 => vq = .slice (some ⟨gb, 0, none⟩) 13 cp | 122 => vq = .pointer (some ⟨gb, 3, none⟩) | 123 => vq = .int .i64 x3 | 124 => vq = .slice (some ⟨gb, 0, none⟩) 13 cp | 125 => vq = .pointer (some ⟨gb, 4, none⟩) | 126 => vq = .int .i64 x4 | 127 => vq = .slice (some ⟨gb, 0, none⟩) 13 cp | 128 => vq = .pointer (some ⟨gb, 5, none⟩) | 129 => vq = .int .i64 x5 | 130 => vq = .string nm | 131 => vq = .slice (some ⟨gb, 0, none⟩) 13 cp | 132 => vq = .pointer (some ⟨gb, 11, none⟩) | 133 => vq = .int .i64 (A : Int) | 134 => vq = .int .i64 ((A : Int) - 1) | 135 => vq = .string ct | 136 => vq = .string dt | 137 => vq = .agg #[.int .i64 x0, .int .i64 x1, .int .i64 x2, .int .i64 x3, .int .i64 x4, .int .i64 x5, .string ct, .string dt] | 138 => vq = .int .i64 ((p : Int) + (A : Int) + (q1 : Int) + (D : Int) + (q2 : Int)) | 9 => vq = .int .i64 ((p : Int) + (A : Int) + (q1 : Int) + (D : Int) + (q2 : Int)) | 10 => vq = .int .i64 0 | _ => True) (U := fun o w' => o.dst = none → w'.heap[w.heap.size]? = some (.cells #[.int .i64 x0, .int .i64 x1, .int .i64 x2, .int .i64 x3, .int .i64 x4, .int .i64 x5, .string ct, .string dt] 23 (0, 0))) (w' := w2) (.slice (some ⟨gb, 0, none⟩) 13 cp) ?_ ?_ ?_ ?_ ?_
        · (clear hV hI hC; go_simp <;> (first | rfl | simp | (rw [IntKind.wrap_i64]; omega)))
        · exact hC
        · exact Or.inl rfl
        · intro d hd; cases hd; rfl
        · intro h; cases h
      case o128 =>
        intro Q a w2 hC hV hI
        have e127 : a.eval (.tmp 127) = .slice (some ⟨gb, 0, none⟩) 13 cp := hV 127 (by simp [Op.operands]) (by kernel_rfl)
        have f127 : a.tmps.getD 127 undef = .slice (some ⟨gb, 0, none⟩) 13 cp := e127
        have g127 : a.tmps[127]?.getD undef = .slice (some ⟨gb, 0, none⟩) 13 cp := by rw [← Array.getD_eq_getD_getElem?]; exact e127
        refine opU_val (C := fun w' => Below w.heap.size w w' ∧ (w'.cell? ⟨gb, 0, none⟩ = some (.int .i64 x0) ∧ w'.cell? ⟨gb, 1, none⟩ = some (.int .i64 x1) ∧ w'.cell? ⟨gb, 2, none⟩ = some (.int .i64 x2) ∧ w'.cell? ⟨gb, 3, none⟩ = some (.int .i64 x3) ∧ w'.cell? ⟨gb, 4, none⟩ = some (.int .i64 x4) ∧ w'.cell? ⟨gb, 5, none⟩ = some (.int .i64 x5) ∧ w'.cell? ⟨gb, 11, none⟩ = some (.int .i64 (A : Int))) ∧ (w'.heap[w.heap.size]? = some (.cells zeroC.cells.toArray 23 (0, 0)) ∨ w'.heap[w.heap.size]? = some (.cells #[.int .i64 x0, .int .i64 x1, .int .i64 x2, .int .i64 x3, .int .i64 x4, .int .i64 x5, .string ct, .string dt] 23 (0, 0)))) (St := fun x y => y.heap[w.heap.size]? = x.heap[w.heap.size]? ∨ y.heap[w.heap.size]? = some (.cells #[.int .i64 x0, .int .i64 x1, .int .i64 x2, .int .i64 x3, .int .i64 x4, .int .i64 x5, .string ct, .string dt] 23 (0, 0))) (V := fun dq vq _ => match dq with | 112 => vq = .slice (some ⟨gb, 0, none⟩) 13 cp | 113 => vq = .pointer (some ⟨gb, 0, none⟩) | 114 => vq = .int .i64 x0 | 115 => vq = .slice (some ⟨gb, 0, none⟩) 13 cp | 116 => vq = .pointer (some ⟨gb, 1, none⟩) | 117 => vq = .int .i64 x1 | 118 => vq = .slice (some ⟨gb, 0, none⟩) 13 cp | 119 => vq = .pointer (some ⟨gb, 2, none⟩) | 120 => vq = .int .i64 x2 | 121 => vq = .slice (some ⟨gb, 0, none⟩) 13 cp | 122 => vq = .pointer (some ⟨gb, 3, none⟩) | 123 => vq = .int .i64 x3 | 124 => vq = .slice (some ⟨gb, 0, none⟩) 13 cp | 125 => vq = .pointer (some ⟨gb, 4, none⟩) | 126 => vq = .int .i64 x4 | 127 => vq = .slice (some ⟨gb, 0, none⟩) 13 cp | 128 => vq = .pointer (some ⟨gb, 5, none⟩) | 129 => vq = .int .i64 x5 | 130 => vq = .string nm | 131 => vq = .slice (some ⟨gb, 0, none⟩) 13 cp | 132 => vq = .pointer (some ⟨gb, 11, none⟩) | 133 => vq = .int .i64 (A : Int) | 134 => vq = .int .i64 ((A : Int) - 1) | 135 => vq = .string ct | 136 => vq = .string dt | 137 => vq = .agg #[.int .i64 x0, .int .i64 x1, .int .i64 x2, .int .i64 x3, .int .i64 x4, .int .i64 x5, .string ct, .string dt] | 138 => vq = .int .i64 ((p : Int) + (A : Int) + (q1 : Int) + (D : Int) + (q2 : Int)) | 9 => vq = .int .i64 ((p : Int) + (A : Int) + (q1 : Int) + (D : Int) + (q2 : Int)) | 10 => vq = .int .i64 0 | _ => True) (U := fun o w' => o.dst = none → w'.heap[w.heap.size]? = some (.cells #[.int .i64 x0, .int .i64 x1, .int .i64 x2, .int .i64 x3, .int .i64 x4, .int .i64 x5, .string ct, .string dt] 23 (0, 0))) (w' := w2) (.pointer (some ⟨gb, 5, none⟩)) ?_ ?_ ?_ ?_ ?_
        · (clear hV hI hC; go_simp <;> (first | rfl | simp | (rw [IntKind.wrap_i64]; omega)))
        · exact hC
        · exact Or.inl rfl
        · intro d hd; cases hd; rfl
        · intro h; cases h
      case o129 =>
        intro Q a w2 hC hV hI
        have e128 : a.eval (.tmp 128) = .pointer (some ⟨gb, 5, none⟩) := hV 128 (by simp [Op.operands]) (by kernel_rfl)
        have f128 : a.tmps.getD 128 undef = .pointer (some ⟨gb, 5, none⟩) := e128
        have g128 : a.tmps[128]?.getD undef = .pointer (some ⟨gb, 5, none⟩) := by rw [← Array.getD_eq_getD_getElem?]; exact e128
        have hK := KC.out w2 hC.2.1
        refine opU_val (C := fun w' => Below w.heap.size w w' ∧ (w'.cell? ⟨gb, 0, none⟩ = some (.int .i64 x0) ∧ w'.cell? ⟨gb, 1, none⟩ = some (.int .i64 x1) ∧ w'.cell? ⟨gb, 2, none⟩ = some (.int .i64 x2) ∧ w'.cell? ⟨gb, 3, none⟩ = some (.int .i64 x3) ∧ w'.cell? ⟨gb, 4, none⟩ = some (.int .i64 x4) ∧ w'.cell? ⟨gb, 5, none⟩ = some (.int .i64 x5) ∧ w'.cell? ⟨gb, 11, none⟩ = some (.int .i64 (A : Int))) ∧ (w'.heap[w.heap.size]? = some (.cells zeroC.cells.toArray 23 (0, 0)) ∨ w'.heap[w.heap.size]? = some (.cells #[.int .i64 x0, .int .i64 x1, .int .i64 x2, .int .i64 x3, .int .i64 x4, .int .i64 x5, .string ct, .string dt] 23 (0, 0)))) (St := fun x y => y.heap[w.heap.size]? = x.heap[w.heap.size]? ∨ y.heap[w.heap.size]? = some (.cells #[.int .i64 x0, .int .i64 x1, .int .i64 x2, .int .i64 x3, .int .i64 x4, .int .i64 x5, .string ct, .string dt] 23 (0, 0))) (V := fun dq vq _ => match dq with | 112 => vq = .slice (some ⟨gb, 0, none⟩) 13 cp | 113 => vq = .pointer (some ⟨gb, 0, none⟩) | 114 => vq = .int .i64 x0 | 115 => vq = .slice (some ⟨gb, 0, none⟩) 13 cp | 116 => vq = .pointer (some ⟨gb, 1, none⟩) | 117 => vq = .int .i64 x1 | 118 => vq = .slice (some ⟨gb, 0, none⟩) 13 cp | 119 => vq = .pointer (some ⟨gb, 2, none⟩) | 120 => vq = .int .i64 x2 | 121 => vq = .slice (some ⟨gb, 0, none⟩) 13 cp | 122 => vq = .pointer (some ⟨gb, 3, none⟩) | 123 => vq = .int .i64 x3 | 124 => vq = .slice (some ⟨gb, 0, none⟩) 13 cp | 125 => vq = .pointer (some ⟨gb, 4, none⟩) | 126 => vq = .int .i64 x4 | 127 => vq = .slice (some ⟨gb, 0, none⟩) 13 cp | 128 => vq = .pointer (some ⟨gb, 5, none⟩) | 129 => vq = .int .i64 x5 | 130 => vq = .string nm | 131 => vq = .slice (some ⟨gb, 0, none⟩) 13 cp | 132 => vq = .pointer (some ⟨gb, 11, none⟩) | 133 => vq = .int .i64 (A : Int) | 134 => vq = .int .i64 ((A : Int) - 1) | 135 => vq = .string ct | 136 => vq = .string dt | 137 => vq = .agg #[.int .i64 x0, .int .i64 x1, .int .i64 x2, .int .i64 x3, .int .i64 x4, .int .i64 x5, .string ct, .string dt] | 138 => vq = .int .i64 ((p : Int) + (A : Int) + (q1 : Int) + (D : Int) + (q2 : Int)) | 9 => vq = .int .i64 ((p : Int) + (A : Int) + (q1 : Int) + (D : Int) + (q2 : Int)) | 10 => vq = .int .i64 0 | _ => True) (U := fun o w' => o.dst = none → w'.heap[w.heap.size]? = some (.cells #[.int .i64 x0, .int .i64 x1, .int .i64 x2, .int .i64 x3, .int .i64 x4, .int .i64 x5, .string ct, .string dt] 23 (0, 0))) (w' := w2) (.int .i64 x5) ?_ ?_ ?_ ?_ ?_
        · (clear hV hI hC; go_simp <;> (first | rfl | simp | (rw [IntKind.wrap_i64]; omega)))
        · exact hC
        · exact Or.inl rfl
        · intro d hd; cases hd; rfl
        · intro h; cases h
      case o130 =>
        intro Q a w2 hC hV hI
        have e14 : a.eval (.tmp 14) = .string nm := (hI 14 (by simp [Op.operands]) (by kernel_rfl)).trans rfl
        have f14 : a.tmps.getD 14 undef = .string nm := e14
        have g14 : a.tmps[14]?.getD undef = .string nm := by rw [← Array.getD_eq_getD_getElem?]; exact e14
        refine opU_val (C := fun w' => Below w.heap.size w w' ∧ (w'.cell? ⟨gb, 0, none⟩ = some (.int .i64 x0) ∧ w'.cell? ⟨gb, 1, none⟩ = some (.int .i64 x1) ∧ w'.cell? ⟨gb, 2, none⟩ = some (.int .i64 x2) ∧ w'.cell? ⟨gb, 3, none⟩ = some (.int .i64 x3) ∧ w'.cell? ⟨gb, 4, none⟩ = some (.int .i64 x4) ∧ w'.cell? ⟨gb, 5, none⟩ = some (.int .i64 x5) ∧ w'.cell? ⟨gb, 11, none⟩ = some (.int .i64 (A : Int))) ∧ (w'.heap[w.heap.size]? = some (.cells zeroC.cells.toArray 23 (0, 0)) ∨ w'.heap[w.heap.size]? = some (.cells #[.int .i64 x0, .int .i64 x1, .int .i64 x2, .int .i64 x3, .int .i64 x4, .int .i64 x5, .string ct, .string dt] 23 (0, 0)))) (St := fun x y => y.heap[w.heap.size]? = x.heap[w.heap.size]? ∨ y.heap[w.heap.size]? = some (.cells #[.int .i64 x0, .int .i64 x1, .int .i64 x2, .int .i64 x3, .int .i64 x4, .int .i64 x5, .string ct, .string dt] 23 (0, 0))) (V := fun dq vq _ => match dq with | 112 => vq = .slice (some ⟨gb, 0, none⟩) 13 cp | 113 => vq = .pointer (some ⟨gb, 0, none⟩) | 114 => vq = .int .i64 x0 | 115 => vq = .slice (some ⟨gb, 0, none⟩) 13 cp | 116 => vq = .pointer (some ⟨gb, 1, none⟩) | 117 => vq = .int .i64 x1 | 118 => vq = .slice (some ⟨gb, 0, none⟩) 13 cp | 119 => vq = .pointer (some ⟨gb, 2, none⟩) | 120 => vq = .int .i64 x2 | 121 => vq = .slice (some ⟨gb, 0, none⟩) 13 cp | 122 => vq = .pointer (some ⟨gb, 3, none⟩) | 123 => vq = .int .i64 x3 | 124 => vq = .slice (some ⟨gb, 0, none⟩) 13 cp | 125 => vq = .pointer (some ⟨gb, 4, none⟩) | 126 => vq = .int .i64 x4 | 127 => vq = .slice (some ⟨gb, 0, none⟩) 13 cp | 128 => vq = .pointer (some ⟨gb, 5, none⟩) | 129 => vq = .int .i64 x5 | 130 => vq = .string nm | 131 => vq = .slice (some ⟨gb, 0, none⟩) 13 cp | 132 => vq = .pointer (some ⟨gb, 11, none⟩) | 133 => vq = .int .i64 (A : Int) | 134 => vq = .int .i64 ((A : Int) - 1) | 135 => vq = .string ct | 136 => vq = .string dt | 137 => vq = .agg #[.int .i64 x0, .int .i64 x1, .int .i64 x2, .int .i64 x3, .int .i64 x4, .int .i64 x5, .string ct, .string dt] | 138 => vq = .int .i64 ((p : Int) + (A : Int) + (q1 : Int) + (D : Int) + (q2 : Int)) | 9 => vq = .int .i64 ((p : Int) + (A : Int) + (q1 : Int) + (D : Int) + (q2 : Int)) | 10 => vq = .int .i64 0 | _ => True) (U := fun o w' => o.dst = none → w'.heap[w.heap.size]? = some (.cells #[.int .i64 x0, .int .i64 x1, .int .i64 x2, .int .i64 x3, .int .i64 x4, .int .i64 x5, .string ct, .string dt] 23 (0, 0))) (w' := w2) (.string nm) ?_ ?_ ?_ ?_ ?_
        · (clear hV hI hC; go_simp <;> (first | rfl | simp | (rw [IntKind.wrap_i64]; omega)))
        · exact hC
        · exact Or.inl rfl
        · intro d hd; cases hd; rfl
        · intro h; cases h
      case o131 =>
        intro Q a w2 hC hV hI
        have e2 : a.eval (.tmp 2) = .slice (some ⟨gb, 0, none⟩) 13 cp := (hI 2 (by simp [Op.operands]) (by kernel_rfl)).trans rfl
        have f2 : a.tmps.getD 2 undef = .slice (some ⟨gb, 0, none⟩) 13 cp := e2
        have g2 : a.tmps[2]?.getD undef = .slice (some ⟨gb, 0, none⟩) 13 cp := by rw [← Array.getD_eq_getD_getElem?]; exact e2
        refine opU_val (C := fun w' => Below w.heap.size w w' ∧ (w'.cell? ⟨gb, 0, none⟩ = some (.int .i64 x0) ∧ w'.cell? ⟨gb, 1, none⟩ = some (.int .i64 x1) ∧ w'.cell? ⟨gb, 2, none⟩ = some (.int .i64 x2) ∧ w'.cell? ⟨gb, 3, none⟩ = some (.int .i64 x3) ∧ w'.cell? ⟨gb, 4, none⟩ = some (.int .i64 x4) ∧ w'.cell? ⟨gb, 5, none⟩ = some (.int .i64 x5) ∧ w'.cell? ⟨gb, 11, none⟩ = some (.int .i64 (A : Int))) ∧ (w'.heap[w.heap.size]? = some (.cells zeroC.cells.toArray 23 (0, 0)) ∨ w'.heap[w.heap.size]? = some (.cells #[.int .i64 x0, .int .i64 x1, .int .i64 x2, .int .i64 x3, .int .i64 x4, .int .i64 x5, .string ct, .string dt] 23 (0, 0)))) (St := fun x y => y.heap[w.heap.size]? = x.heap[w.heap.size]? ∨ y.heap[w.heap.size]? = some (.cells #[.int .i64 x0, .int .i64 x1, .int .i64 x2, .int .i64 x3, .int .i64 x4, .int .i64 x5, .string ct, .string dt] 23 (0, 0))) (V := fun dq vq _ => match dq with | 112 => vq = .slice (some ⟨gb, 0, none⟩) 13 cp | 113 => vq = .pointer (some ⟨gb, 0, none⟩) | 114 => vq = .int .i64 x0 | 115 => vq = .slice (some ⟨gb, 0, none⟩) 13 cp | 116 => vq = .pointer (some ⟨gb, 1, none⟩) | 117 => vq = .int .i64 x1 | 118 => vq = .slice (some ⟨gb, 0, none⟩) 13 cp | 119 => vq = .pointer (some ⟨gb, 2, none⟩) | 120 => vq = .int .i64 x2 | 121 => vq = .slice (some ⟨gb, 0, none⟩) 13 cp | 122 => vq = .pointer (some ⟨gb, 3, none⟩) | 123 => vq = .int .i64 x3 | 124 => vq = .slice (some ⟨gb, 0, none⟩) 13 cp | 125 => vq = .pointer (some ⟨gb, 4, none⟩) | 126 => vq = .int .i64 x4 | 127 => vq = .slice (some ⟨gb, 0, none⟩) 13 cp | 128 => vq = .pointer (some ⟨gb, 5, none⟩) | 129 => vq = .int .i64 x5 | 130 => vq = .string nm | 131 => vq = .slice (some ⟨gb, 0, none⟩) 13 cp | 132 => vq = .pointer (some ⟨gb, 11, none⟩) | 133 => vq = .int .i64 (A : Int) | 134 => vq = .int .i64 ((A : Int) - 1) | 135 => vq = .string ct | 136 => vq = .string dt | 137 => vq = .agg #[.int .i64 x0, .int .i64 x1, .int .i64 x2, .int .i64 x3, .int .i64 x4, .int .i64 x5, .string ct, .string dt] | 138 => vq = .int .i64 ((p : Int) + (A : Int) + (q1 : Int) + (D : Int) + (q2 : Int)) | 9 => vq = .int .i64 ((p : Int) + (A : Int) + (q1 : Int) + (D : Int) + (q2 : Int)) | 10 => vq = .int .i64 0 | _ => True) (U := fun o w' => o.dst = none → w'.heap[w.heap.size]? = some (.cells #[.int .i64 x0, .int .i64 x1, .int .i64 x2, .int .i64 x3, .int .i64 x4, .int .i64 x5, .string ct, .string dt] 23 (0, 0))) (w' := w2) (.slice (some ⟨gb, 0, none⟩) 13 cp) ?_ ?_ ?_ ?_ ?_
        · (clear hV hI hC; go_simp <;> (first | rfl | simp | (rw [IntKind.wrap_i64]; omega)))
        · exact hC
        · exact Or.inl rfl
        · intro d hd; cases hd; rfl
        · intro h; cases h
      case o132 =>
        intro Q a w2 hC hV hI
        have e131 : a.eval (.tmp 131) = .slice (some ⟨gb, 0, none⟩) 13 cp := hV 131 (by simp [Op.operands]) (by kernel_rfl)
        have f131 : a.tmps.getD 131 undef = .slice (some ⟨gb, 0, none⟩) 13 cp := e131
        have g131 : a.tmps[131]?.getD undef = .slice (some ⟨gb, 0, none⟩) 13 cp := by rw [← Array.getD_eq_getD_getElem?]; exact e131
        refine opU_val (C := fun w' => Below w.heap.size w w' ∧ (w'.cell? ⟨gb, 0, none⟩ = some (.int .i64 x0) ∧ w'.cell? ⟨gb, 1, none⟩ = some (.int .i64 x1) ∧ w'.cell? ⟨gb, 2, none⟩ = some (.int .i64 x2) ∧ w'.cell? ⟨gb, 3, none⟩ = some (.int .i64 x3) ∧ w'.cell? ⟨gb, 4, none⟩ = some (.int .i64 x4) ∧ w'.cell? ⟨gb, 5, none⟩ = some (.int .i64 x5) ∧ w'.cell? ⟨gb, 11, none⟩ = some (.int .i64 (A : Int))) ∧ (w'.heap[w.heap.size]? = some (.cells zeroC.cells.toArray 23 (0, 0)) ∨ w'.heap[w.heap.size]? = some (.cells #[.int .i64 x0, .int .i64 x1, .int .i64 x2, .int .i64 x3, .int .i64 x4, .int .i64 x5, .string ct, .string dt] 23 (0, 0)))) (St := fun x y => y.heap[w.heap.size]? = x.heap[w.heap.size]? ∨ y.heap[w.heap.size]? = some (.cells #[.int .i64 x0, .int .i64 x1, .int .i64 x2, .int .i64 x3, .int .i64 x4, .int .i64 x5, .string ct, .string dt] 23 (0, 0))) (V := fun dq vq _ => match dq with | 112 => vq = .slice (some ⟨gb, 0, none⟩) 13 cp | 113 => vq = .pointer (some ⟨gb, 0, none⟩) | 114 => vq = .int .i64 x0 | 115 => vq = .slice (some ⟨gb, 0, none⟩) 13 cp | 116 => vq = .pointer (some ⟨gb, 1, none⟩) | 117 => vq = .int .i64 x1 | 118 => vq = .slice (some ⟨gb, 0, none⟩) 13 cp | 119 => vq = .pointer (some ⟨gb, 2, none⟩) | 120 => vq = .int .i64 x2 | 121 => vq = .slice (some ⟨gb, 0, none⟩) 13 cp | 122 => vq = .pointer (some ⟨gb, 3, none⟩) | 123 => vq = .int .i64 x3 | 124 => vq = .slice (some ⟨gb, 0, none⟩) 13 cp | 125 => vq = .pointer (some ⟨gb, 4, none⟩) | 126 => vq = .int .i64 x4 | 127 => vq = .slice (some ⟨gb, 0, none⟩) 13 cp | 128 => vq = .pointer (some ⟨gb, 5, none⟩) | 129 => vq = .int .i64 x5 | 130 => vq = .string nm | 131 => vq = .slice (some ⟨gb, 0, none⟩) 13 cp | 132 => vq = .pointer (some ⟨gb, 11, none⟩) | 133 => vq = .int .i64 (A : Int) | 134 => vq = .int .i64 ((A : Int) - 1) | 135 => vq = .string ct | 136 => vq = .string dt | 137 => vq = .agg #[.int .i64 x0, .int .i64 x1, .int .i64 x2, .int .i64 x3, .int .i64 x4, .int .i64 x5, .string ct, .string dt] | 138 => vq = .int .i64 ((p : Int) + (A : Int) + (q1 : Int) + (D : Int) + (q2 : Int)) | 9 => vq = .int .i64 ((p : Int) + (A : Int) + (q1 : Int) + (D : Int) + (q2 : Int)) | 10 => vq = .int .i64 0 | _ => True) (U := fun o w' => o.dst = none → w'.heap[w.heap.size]? = some (.cells #[.int .i64 x0, .int .i64 x1, .int .i64 x2, .int .i64 x3, .int .i64 x4, .int .i64 x5, .string ct, .string dt] 23 (0, 0))) (w' := w2) (.pointer (some ⟨gb, 11, none⟩)) ?_ ?_ ?_ ?_ ?_
        · (clear hV hI hC; go_simp <;> (first | rfl | simp | (rw [IntKind.wrap_i64]; omega)))
        · exact hC
        · exact Or.inl rfl
        · intro d hd; cases hd; rfl
        · intro h; cases h
      case o133 =>
        intro Q a w2 hC hV hI
        have e132 : a.eval (.tmp 132) = .pointer (some ⟨gb, 11, none⟩) := hV 132 (by simp [Op.operands]) (by kernel_rfl)
        have f132 : a.tmps.getD 132 undef = .pointer (some ⟨gb, 11, none⟩) := e132
        have g132 : a.tmps[132]?.getD undef = .pointer (some ⟨gb, 11, none⟩) := by rw [← Array.getD_eq_getD_getElem?]; exact e132
        have hK := KC.out w2 hC.2.1
        refine opU_val (C := fun w' => Below w.heap.size w w' ∧ (w'.cell? ⟨gb, 0, none⟩ = some (.int .i64 x0) ∧ w'.cell? ⟨gb, 1, none⟩ = some (.int .i64 x1) ∧ w'.cell? ⟨gb, 2, none⟩ = some (.int .i64 x2) ∧ w'.cell? ⟨gb, 3, none⟩ = some (.int .i64 x3) ∧ w'.cell? ⟨gb, 4, none⟩ = some (.int .i64 x4) ∧ w'.cell? ⟨gb, 5, none⟩ = some (.int .i64 x5) ∧ w'.cell? ⟨gb, 11, none⟩ = some (.int .i64 (A : Int))) ∧ (w'.heap[w.heap.size]? = some (.cells zeroC.cells.toArray 23 (0, 0)) ∨ w'.heap[w.heap.size]? = some (.cells #[.int .i64 x0, .int .i64 x1, .int .i64 x2, .int .i64 x3, .int .i64 x4, .int .i64 x5, .string ct, .string dt] 23 (0, 0)))) (St := fun x y => y.heap[w.heap.size]? = x.heap[w.heap.size]? ∨ y.heap[w.heap.size]? = some (.cells #[.int .i64 x0, .int .i64 x1, .int .i64 x2, .int .i64 x3, .int .i64 x4, .int .i64 x5, .string ct, .string dt] 23 (0, 0))) (V := fun dq vq _ => match dq with | 112 => vq = .slice (some ⟨gb, 0, none⟩) 13 cp | 113 => vq = .pointer (some ⟨gb, 0, none⟩) | 114 => vq = .int .i64 x0 | 115 => vq = .slice (some ⟨gb, 0, none⟩) 13 cp | 116 => vq = .pointer (some ⟨gb, 1, none⟩) | 117 => vq = .int .i64 x1 | 118 => vq = .slice (some ⟨gb, 0, none⟩) 13 cp | 119 => vq = .pointer (some ⟨gb, 2, none⟩) | 120 => vq = .int .i64 x2 | 121 => vq = .slice (some ⟨gb, 0, none⟩) 13 cp | 122 => vq = .pointer (some ⟨gb, 3, none⟩) | 123 => vq = .int .i64 x3 | 124 => vq = .slice (some ⟨gb, 0, none⟩) 13 cp | 125 => vq = .pointer (some ⟨gb, 4, none⟩) | 126 => vq = .int .i64 x4 | 127 => vq = .slice (some ⟨gb, 0, none⟩) 13 cp | 128 => vq = .pointer (some ⟨gb, 5, none⟩) | 129 => vq = .int .i64 x5 | 130 => vq = .string nm | 131 => vq = .slice (some ⟨gb, 0, none⟩) 13 cp | 132 => vq = .pointer (some ⟨gb, 11, none⟩) | 133 => vq = .int .i64 (A : Int) | 134 => vq = .int .i64 ((A : Int) - 1) | 135 => vq = .string ct | 136 => vq = .string dt | 137 => vq = .agg #[.int .i64 x0, .int .i64 x1, .int .i64 x2, .int .i64 x3, .int .i64 x4, .int .i64 x5, .string ct, .string dt] | 138 => vq = .int .i64 ((p : Int) + (A : Int) + (q1 : Int) + (D : Int) + (q2 : Int)) | 9 => vq = .int .i64 ((p : Int) + (A : Int) + (q1 : Int) + (D : Int) + (q2 : Int)) | 10 => vq = .int .i64 0 | _ => True) (U := fun o w' => o.dst = none → w'.heap[w.heap.size]? = some (.cells #[.int .i64 x0, .int .i64 x1, .int .i64 x2, .int .i64 x3, .int .i64 x4, .int .i64 x5, .string ct, .string dt] 23 (0, 0))) (w' := w2) (.int .i64 (A : Int)) ?_ ?_ ?_ ?_ ?_
        · (clear hV hI hC; go_simp <;> (first | rfl | simp | (rw [IntKind.wrap_i64]; omega)))
        · exact hC
        · exact Or.inl rfl
        · intro d hd; cases hd; rfl
        · intro h; cases h
      case o134 =>
        intro Q a w2 hC hV hI
        have e133 : a.eval (.tmp 133) = .int .i64 (A : Int) := hV 133 (by simp [Op.operands]) (by kernel_rfl)
        have f133 : a.tmps.getD 133 undef = .int .i64 (A : Int) := e133
        have g133 : a.tmps[133]?.getD undef = .int .i64 (A : Int) := by rw [← Array.getD_eq_getD_getElem?]; exact e133
        refine opU_val (C := fun w' => Below w.heap.size w w' ∧ (w'.cell? ⟨gb, 0, none⟩ = some (.int .i64 x0) ∧ w'.cell? ⟨gb, 1, none⟩ = some (.int .i64 x1) ∧ w'.cell? ⟨gb, 2, none⟩ = some (.int .i64 x2) ∧ w'.cell? ⟨gb, 3, none⟩ = some (.int .i64 x3) ∧ w'.cell? ⟨gb, 4, none⟩ = some (.int .i64 x4) ∧ w'.cell? ⟨gb, 5, none⟩ = some (.int .i64 x5) ∧ w'.cell? ⟨gb, 11, none⟩ = some (.int .i64 (A : Int))) ∧ (w'.heap[w.heap.size]? = some (.cells zeroC.cells.toArray 23 (0, 0)) ∨ w'.heap[w.heap.size]? = some (.cells #[.int .i64 x0, .int .i64 x1, .int .i64 x2, .int .i64 x3, .int .i64 x4, .int .i64 x5, .string ct, .string dt] 23 (0, 0)))) (St := fun x y => y.heap[w.heap.size]? = x.heap[w.heap.size]? ∨ y.heap[w.heap.size]? = some (.cells #[.int .i64 x0, .int .i64 x1, .int .i64 x2, .int .i64 x3, .int .i64 x4, .int .i64 x5, .string ct, .string dt] 23 (0, 0))) (V := fun dq vq _ => match dq with | 112 => vq = .slice (some ⟨gb, 0, none⟩) 13 cp | 113 => vq = .pointer (some ⟨gb, 0, none⟩) | 114 => vq = .int .i64 x0 | 115 => vq = .slice (some ⟨gb, 0, none⟩) 13 cp | 116 => vq = .pointer (some ⟨gb, 1, none⟩) | 117 => vq = .int .i64 x1 | 118 => vq = .slice (some ⟨gb, 0, none⟩) 13 cp | 119 => vq = .pointer (some ⟨gb, 2, none⟩) | 120 => vq = .int .i64 x2 | 121 => vq = .slice (some ⟨gb, 0, none⟩) 13 cp | 122 => vq = .pointer (some ⟨gb, 3, none⟩) | 123 => vq = .int .i64 x3 | 124 => vq = .slice (some ⟨gb, 0, none⟩) 13 cp | 125 => vq = .pointer (some ⟨gb, 4, none⟩) | 126 => vq = .int .i64 x4 | 127 => vq = .slice (some ⟨gb, 0, none⟩) 13 cp | 128 => vq = .pointer (some ⟨gb, 5, none⟩) | 129 => vq = .int .i64 x5 | 130 => vq = .string nm | 131 => vq = .slice (some ⟨gb, 0, none⟩) 13 cp | 132 => vq = .pointer (some ⟨gb, 11, none⟩) | 133 => vq = .int .i64 (A : Int) | 134 => vq = .int .i64 ((A : Int) - 1) | 135 => vq = .string ct | 136 => vq = .string dt | 137 => vq = .agg #[.int .i64 x0, .int .i64 x1, .int .i64 x2, .int .i64 x3, .int .i64 x4, .int .i64 x5, .string ct, .string dt] | 138 => vq = .int .i64 ((p : Int) + (A : Int) + (q1 : Int) + (D : Int) + (q2 : Int)) | 9 => vq = .int .i64 ((p : Int) + (A : Int) + (q1 : Int) + (D : Int) + (q2 : Int)) | 10 => vq = .int .i64 0 | _ => True) (U := fun o w' => o.dst = none → w'.heap[w.heap.size]? = some (.cells #[.int .i64 x0, .int .i64 x1, .int .i64 x2, .int .i64 x3, .int .i64 x4, .int .i64 x5, .string ct, .string dt] 23 (0, 0))) (w' := w2) (.int .i64 ((A : Int) - 1)) ?_ ?_ ?_ ?_ ?_
        · (clear hV hI hC; go_simp <;> (first | rfl | simp | (rw [IntKind.wrap_i64]; omega)))
        · exact hC
        · exact Or.inl rfl
        · intro d hd; cases hd; rfl
        · intro h; cases h
      case o135 =>
        intro Q a w2 hC hV hI
        have e130 : a.eval (.tmp 130) = .string nm := hV 130 (by simp [Op.operands]) (by kernel_rfl)
        have f130 : a.tmps.getD 130 undef = .string nm := e130
        have g130 : a.tmps[130]?.getD undef = .string nm := by rw [← Array.getD_eq_getD_getElem?]; exact e130
        have e134 : a.eval (.tmp 134) = .int .i64 ((A : Int) - 1) := hV 134 (by simp [Op.operands]) (by kernel_rfl)
        have f134 : a.tmps.getD 134 undef = .int .i64 ((A : Int) - 1) := e134
        have g134 : a.tmps[134]?.getD undef = .int .i64 ((A : Int) - 1) := by rw [← Array.getD_eq_getD_getElem?]; exact e134
        have q9 := HSc2.out w2
        refine opU_val (C := fun w' => Below w.heap.size w w' ∧ (w'.cell? ⟨gb, 0, none⟩ = some (.int .i64 x0) ∧ w'.cell? ⟨gb, 1, none⟩ = some (.int .i64 x1) ∧ w'.cell? ⟨gb, 2, none⟩ = some (.int .i64 x2) ∧ w'.cell? ⟨gb, 3, none⟩ = some (.int .i64 x3) ∧ w'.cell? ⟨gb, 4, none⟩ = some (.int .i64 x4) ∧ w'.cell? ⟨gb, 5, none⟩ = some (.int .i64 x5) ∧ w'.cell? ⟨gb, 11, none⟩ = some (.int .i64 (A : Int))) ∧ (w'.heap[w.heap.size]? = some (.cells zeroC.cells.toArray 23 (0, 0)) ∨ w'.heap[w.heap.size]? = some (.cells #[.int .i64 x0, .int .i64 x1, .int .i64 x2, .int .i64 x3, .int .i64 x4, .int .i64 x5, .string ct, .string dt] 23 (0, 0)))) (St := fun x y => y.heap[w.heap.size]? = x.heap[w.heap.size]? ∨ y.heap[w.heap.size]? = some (.cells #[.int .i64 x0, .int .i64 x1, .int .i64 x2, .int .i64 x3, .int .i64 x4, .int .i64 x5, .string ct, .string dt] 23 (0, 0))) (V := fun dq vq _ => match dq with | 112 => vq = .slice (some ⟨gb, 0, none⟩) 13 cp | 113 => vq = .pointer (some ⟨gb, 0, none⟩) | 114 => vq = .int .i64 x0 | 115 => vq = .slice (some ⟨gb, 0, none⟩) 13 cp | 116 => vq = .pointer (some ⟨gb, 1, none⟩) | 117 => vq = .int .i64 x1 | 118 => vq = .slice (some ⟨gb, 0, none⟩) 13 cp | 119 => vq = .pointer (some ⟨gb, 2, none⟩) | 120 => vq = .int .i64 x2 | 121 => vq = .slice (some ⟨gb, 0, none⟩) 13 cp | 122 => vq = .pointer (some ⟨gb, 3, none⟩) | 123 => vq = .int .i64 x3 | 124 => vq = .slice (some ⟨gb, 0, none⟩) 13 cp | 125 => vq = .pointer (some ⟨gb, 4, none⟩) | 126 => vq = .int .i64 x4 | 127 => vq = .slice (some ⟨gb, 0, none⟩) 13 cp | 128 => vq = .pointer (some ⟨gb, 5, none⟩) | 129 => vq = .int .i64 x5 | 130 => vq = .string nm | 131 => vq = .slice (some ⟨gb, 0, none⟩) 13 cp | 132 => vq = .pointer (some ⟨gb, 11, none⟩) | 133 => vq = .int .i64 (A : Int) | 134 => vq = .int .i64 ((A : Int) - 1) | 135 => vq = .string ct | 136 => vq = .string dt | 137 => vq = .agg #[.int .i64 x0, .int .i64 x1, .int .i64 x2, .int .i64 x3, .int .i64 x4, .int .i64 x5, .string ct, .string dt] | 138 => vq = .int .i64 ((p : Int) + (A : Int) + (q1 : Int) + (D : Int) + (q2 : Int)) | 9 => vq = .int .i64 ((p : Int) + (A : Int) + (q1 : Int) + (D : Int) + (q2 : Int)) | 10 => vq = .int .i64 0 | _ => True) (U := fun o w' => o.dst = none → w'.heap[w.heap.size]? = some (.cells #[.int .i64 x0, .int .i64 x1, .int .i64 x2, .int .i64 x3, .int .i64 x4, .int .i64 x5, .string ct, .string dt] 23 (0, 0))) (w' := w2) (.string ct) ?_ ?_ ?_ ?_ ?_
        · (clear hV hI hC; go_simp <;> (first | rfl | simp | (rw [IntKind.wrap_i64]; omega)))
        · exact hC
        · exact Or.inl rfl
        · intro d hd; cases hd; rfl
        · intro h; cases h
      case o136 =>
        intro Q a w2 hC hV hI
        have e15 : a.eval (.tmp 15) = .string dt := (hI 15 (by simp [Op.operands]) (by kernel_rfl)).trans rfl
        have f15 : a.tmps.getD 15 undef = .string dt := e15
        have g15 : a.tmps[15]?.getD undef = .string dt := by rw [← Array.getD_eq_getD_getElem?]; exact e15
        refine opU_val (C := fun w' => Below w.heap.size w w' ∧ (w'.cell? ⟨gb, 0, none⟩ = some (.int .i64 x0) ∧ w'.cell? ⟨gb, 1, none⟩ = some (.int .i64 x1) ∧ w'.cell? ⟨gb, 2, none⟩ = some (.int .i64 x2) ∧ w'.cell? ⟨gb, 3, none⟩ = some (.int .i64 x3) ∧ w'.cell? ⟨gb, 4, none⟩ = some (.int .i64 x4) ∧ w'.cell? ⟨gb, 5, none⟩ = some (.int .i64 x5) ∧ w'.cell? ⟨gb, 11, none⟩ = some (.int .i64 (A : Int))) ∧ (w'.heap[w.heap.size]? = some (.cells zeroC.cells.toArray 23 (0, 0)) ∨ w'.heap[w.heap.size]? = some (.cells #[.int .i64 x0, .int .i64 x1, .int .i64 x2, .int .i64 x3, .int .i64 x4, .int .i64 x5, .string ct, .string dt] 23 (0, 0)))) (St := fun x y => y.heap[w.heap.size]? = x.heap[w.heap.size]? ∨ y.heap[w.heap.size]? = some (.cells #[.int .i64 x0, .int .i64 x1, .int .i64 x2, .int .i64 x3, .int .i64 x4, .int .i64 x5, .string ct, .string dt] 23 (0, 0))) (V := fun dq vq _ => match dq with | 112 => vq = .slice (some ⟨gb, 0, none⟩) 13 cp | 113 => vq = .pointer (some ⟨gb, 0, none⟩) | 114 => vq = .int .i64 x0 | 115 => vq = .slice (some ⟨gb, 0, none⟩) 13 cp | 116 => vq = .pointer (some ⟨gb, 1, none⟩) | 117 => vq = .int .i64 x1 | 118 => vq = .slice (some ⟨gb, 0, none⟩) 13 cp | 119 => vq = .pointer (some ⟨gb, 2, none⟩) | 120 => vq = .int .i64 x2 | 121 => vq = .slice (some ⟨gb, 0, none⟩) 13 cp | 122 => vq = .pointer (some ⟨gb, 3, none⟩) | 123 => vq = .int .i64 x3 | 124 => vq = .slice (some ⟨gb, 0, none⟩) 13 cp | 125 => vq = .pointer (some ⟨gb, 4, none⟩) | 126 => vq = .int .i64 x4 | 127 => vq = .slice (some ⟨gb, 0, none⟩) 13 cp | 128 => vq = .pointer (some ⟨gb, 5, none⟩) | 129 => vq = .int .i64 x5 | 130 => vq = .string nm | 131 => vq = .slice (some ⟨gb, 0, none⟩) 13 cp | 132 => vq = .pointer (some ⟨gb, 11, none⟩) | 133 => vq = .int .i64 (A : Int) | 134 => vq = .int .i64 ((A : Int) - 1) | 135 => vq = .string ct | 136 => vq = .string dt | 137 => vq = .agg #[.int .i64 x0, .int .i64 x1, .int .i64 x2, .int .i64 x3, .int .i64 x4, .int .i64 x5, .string ct, .string dt] | 138 => vq = .int .i64 ((p : Int) + (A : Int) + (q1 : Int) + (D : Int) + (q2 : Int)) | 9 => vq = .int .i64 ((p : Int) + (A : Int) + (q1 : Int) + (D : Int) + (q2 : Int)) | 10 => vq = .int .i64 0 | _ => True) (U := fun o w' => o.dst = none → w'.heap[w.heap.size]? = some (.cells #[.int .i64 x0, .int .i64 x1, .int .i64 x2, .int .i64 x3, .int .i64 x4, .int .i64 x5, .string ct, .string dt] 23 (0, 0))) (w' := w2) (.string dt) ?_ ?_ ?_ ?_ ?_
        · (clear hV hI hC; go_simp <;> (first | rfl | simp | (rw [IntKind.wrap_i64]; omega)))
        · exact hC
        · exact Or.inl rfl
        · intro d hd; cases hd; rfl
        · intro h; cases h
      case o137 =>
        intro Q a w2 hC hV hI
        have e114 : a.eval (.tmp 114) = .int .i64 x0 := hV 114 (by simp [Op.operands]) (by kernel_rfl)
        have f114 : a.tmps.getD 114 undef = .int .i64 x0 := e114
        have g114 : a.tmps[114]?.getD undef = .int .i64 x0 := by rw [← Array.getD_eq_getD_getElem?]; exact e114
        have e117 : a.eval (.tmp 117) = .int .i64 x1 := hV 117 (by simp [Op.operands]) (by kernel_rfl)
        have f117 : a.tmps.getD 117 undef = .int .i64 x1 := e117
        have g117 : a.tmps[117]?.getD undef = .int .i64 x1 := by rw [← Array.getD_eq_getD_getElem?]; exact e117
        have e120 : a.eval (.tmp 120) = .int .i64 x2 := hV 120 (by simp [Op.operands]) (by kernel_rfl)
        have f120 : a.tmps.getD 120 undef = .int .i64 x2 := e120
        have g120 : a.tmps[120]?.getD undef = .int .i64 x2 := by rw [← Array.getD_eq_getD_getElem?]; exact e120
        have e123 : a.eval (.tmp 123) = .int .i64 x3 := hV 123 (by simp [Op.operands]) (by kernel_rfl)
        have f123 : a.tmps.getD 123 undef = .int .i64 x3 := e123
        have g123 : a.tmps[123]?.getD undef = .int .i64 x3 := by rw [← Array.getD_eq_getD_getElem?]; exact e123
        have e126 : a.eval (.tmp 126) = .int .i64 x4 := hV 126 (by simp [Op.operands]) (by kernel_rfl)
        have f126 : a.tmps.getD 126 undef = .int .i64 x4 := e126
        have g126 : a.tmps[126]?.getD undef = .int .i64 x4 := by rw [← Array.getD_eq_getD_getElem?]; exact e126
        have e129 : a.eval (.tmp 129) = .int .i64 x5 := hV 129 (by simp [Op.operands]) (by kernel_rfl)
        have f129 : a.tmps.getD 129 undef = .int .i64 x5 := e129
        have g129 : a.tmps[129]?.getD undef = .int .i64 x5 := by rw [← Array.getD_eq_getD_getElem?]; exact e129
        have e135 : a.eval (.tmp 135) = .string ct := hV 135 (by simp [Op.operands]) (by kernel_rfl)
        have f135 : a.tmps.getD 135 undef = .string ct := e135
        have g135 : a.tmps[135]?.getD undef = .string ct := by rw [← Array.getD_eq_getD_getElem?]; exact e135
        have e136 : a.eval (.tmp 136) = .string dt := hV 136 (by simp [Op.operands]) (by kernel_rfl)
        have f136 : a.tmps.getD 136 undef = .string dt := e136
        have g136 : a.tmps[136]?.getD undef = .string dt := by rw [← Array.getD_eq_getD_getElem?]; exact e136
        refine opU_val (C := fun w' => Below w.heap.size w w' ∧ (w'.cell? ⟨gb, 0, none⟩ = some (.int .i64 x0) ∧ w'.cell? ⟨gb, 1, none⟩ = some (.int .i64 x1) ∧ w'.cell? ⟨gb, 2, none⟩ = some (.int .i64 x2) ∧ w'.cell? ⟨gb, 3, none⟩ = some (.int .i64 x3) ∧ w'.cell? ⟨gb, 4, none⟩ = some (.int .i64 x4) ∧ w'.cell? ⟨gb, 5, none⟩ = some (.int .i64 x5) ∧ w'.cell? ⟨gb, 11, none⟩ = some (.int .i64 (A : Int))) ∧ (w'.heap[w.heap.size]? = some (.cells zeroC.cells.toArray 23 (0, 0)) ∨ w'.heap[w.heap.size]? = some (.cells #[.int .i64 x0, .int .i64 x1, .int .i64 x2, .int .i64 x3, .int .i64 x4, .int .i64 x5, .string ct, .string dt] 23 (0, 0)))) (St := fun x y => y.heap[w.heap.size]? = x.heap[w.heap.size]? ∨ y.heap[w.heap.size]? = some (.cells #[.int .i64 x0, .int .i64 x1, .int .i64 x2, .int .i64 x3, .int .i64 x4, .int .i64 x5, .string ct, .string dt] 23 (0, 0))) (V := fun dq vq _ => match dq with | 112 => vq = .slice (some ⟨gb, 0, none⟩) 13 cp | 113 => vq = .pointer (some ⟨gb, 0, none⟩) | 114 => vq = .int .i64 x0 | 115 => vq = .slice (some ⟨gb, 0, none⟩) 13 cp | 116 => vq = .pointer (some ⟨gb, 1, none⟩) | 117 => vq = .int .i64 x1 | 118 => vq = .slice (some ⟨gb, 0, none⟩) 13 cp | 119 => vq = .pointer (some ⟨gb, 2, none⟩) | 120 => vq = .int .i64 x2 | 121 => vq = .slice (some ⟨gb, 0, none⟩) 13 cp | 122 => vq = .pointer (some ⟨gb, 3, none⟩) | 123 => vq = .int .i64 x3 | 124 => vq = .slice (some ⟨gb, 0, none⟩) 13 cp | 125 => vq = .pointer (some ⟨gb, 4, none⟩) | 126 => vq = .int .i64 x4 | 127 => vq = .slice (some ⟨gb, 0, none⟩) 13 cp | 128 => vq = .pointer (some ⟨gb, 5, none⟩) | 129 => vq = .int .i64 x5 | 130 => vq = .string nm | 131 => vq = .slice (some ⟨gb, 0, none⟩) 13 cp | 132 => vq = .pointer (some ⟨gb, 11, none⟩) | 133 => vq = .int .i64 (A : Int) | 134 => vq = .int .i64 ((A : Int) - 1) | 135 => vq = .string ct | 136 => vq = .string dt | 137 => vq = .agg #[.int .i64 x0, .int .i64 x1, .int .i64 x2, .int .i64 x3, .int .i64 x4, .int .i64 x5, .string ct, .string dt] | 138 => vq = .int .i64 ((p : Int) + (A : Int) + (q1 : Int) + (D : Int) + (q2 : Int)) | 9 => vq = .int .i64 ((p : Int) + (A : Int) + (q1 : Int) + (D : Int) + (q2 : Int)) | 10 => vq = .int .i64 0 | _ => True) (U := fun o w' => o.dst = none → w'.heap[w.heap.size]? = some (.cells #[.int .i64 x0, .int .i64 x1, .int .i64 x2, .int .i64 x3, .int .i64 x4, .int .i64 x5, .string ct, .string dt] 23 (0, 0))) (w' := w2) (.agg #[.int .i64 x0, .int .i64 x1, .int .i64 x2, .int .i64 x3, .int .i64 x4, .int .i64 x5, .string ct, .string dt]) ?_ ?_ ?_ ?_ ?_
        · (clear hV hI hC; go_simp <;> (first | rfl | simp | (rw [IntKind.wrap_i64]; omega)))
        · exact hC
        · exact Or.inl rfl
        · intro d hd; cases hd; rfl
        · intro h; cases h
      case o138 =>
        intro Q a w2 hC hV hI
        have e13 : a.eval (.tmp 13) = .int .i64 ((p : Int) + (A : Int) + (q1 : Int) + (D : Int) + (q2 : Int)) := (hI 13 (by simp [Op.operands]) (by kernel_rfl)).trans rfl
        have f13 : a.tmps.getD 13 undef = .int .i64 ((p : Int) + (A : Int) + (q1 : Int) + (D : Int) + (q2 : Int)) := e13
        have g13 : a.tmps[13]?.getD undef = .int .i64 ((p : Int) + (A : Int) + (q1 : Int) + (D : Int) + (q2 : Int)) := by rw [← Array.getD_eq_getD_getElem?]; exact e13
        refine opU_val (C := fun w' => Below w.heap.size w w' ∧ (w'.cell? ⟨gb, 0, none⟩ = some (.int .i64 x0) ∧ w'.cell? ⟨gb, 1, none⟩ = some (.int .i64 x1) ∧ w'.cell? ⟨gb, 2, none⟩ = some (.int .i64 x2) ∧ w'.cell? ⟨gb, 3, none⟩ = some (.int .i64 x3) ∧ w'.cell? ⟨gb, 4, none⟩ = some (.int .i64 x4) ∧ w'.cell? ⟨gb, 5, none⟩ = some (.int .i64 x5) ∧ w'.cell? ⟨gb, 11, none⟩ = some (.int .i64 (A : Int))) ∧ (w'.heap[w.heap.size]? = some (.cells zeroC.cells.toArray 23 (0, 0)) ∨ w'.heap[w.heap.size]? = some (.cells #[.int .i64 x0, .int .i64 x1, .int .i64 x2, .int .i64 x3, .int .i64 x4, .int .i64 x5, .string ct, .string dt] 23 (0, 0)))) (St := fun x y => y.heap[w.heap.size]? = x.heap[w.heap.size]? ∨ y.heap[w.heap.size]? = some (.cells #[.int .i64 x0, .int .i64 x1, .int .i64 x2, .int .i64 x3, .int .i64 x4, .int .i64 x5, .string ct, .string dt] 23 (0, 0))) (V := fun dq vq _ => match dq with | 112 => vq = .slice (some ⟨gb, 0, none⟩) 13 cp | 113 => vq = .pointer (some ⟨gb, 0, none⟩) | 114 => vq = .int .i64 x0 | 115 => vq = .slice (some ⟨gb, 0, none⟩) 13 cp | 116 => vq = .pointer (some ⟨gb, 1, none⟩) | 117 => vq = .int .i64 x1 | 118 => vq = .slice (some ⟨gb, 0, none⟩) 13 cp | 119 => vq = .pointer (some ⟨gb, 2, none⟩) | 120 => vq = .int .i64 x2 | 121 => vq = .slice (some ⟨gb, 0, none⟩) 13 cp | 122 => vq = .pointer (some ⟨gb, 3, none⟩) | 123 => vq = .int .i64 x3 | 124 => vq = .slice (some ⟨gb, 0, none⟩) 13 cp | 125 => vq = .pointer (some ⟨gb, 4, none⟩) | 126 => vq = .int .i64 x4 | 127 => vq = .slice (some ⟨gb, 0, none⟩) 13 cp | 128 => vq = .pointer (some ⟨gb, 5, none⟩) | 129 => vq = .int .i64 x5 | 130 => vq = .string nm | 131 => vq = .slice (some ⟨gb, 0, none⟩) 13 cp | 132 => vq = .pointer (some ⟨gb, 11, none⟩) | 133 => vq = .int .i64 (A : Int) | 134 => vq = .int .i64 ((A : Int) - 1) | 135 => vq = .string ct | 136 => vq = .string dt | 137 => vq = .agg #[.int .i64 x0, .int .i64 x1, .int .i64 x2, .int .i64 x3, .int .i64 x4, .int .i64 x5, .string ct, .string dt] | 138 => vq = .int .i64 ((p : Int) + (A : Int) + (q1 : Int) + (D : Int) + (q2 : Int)) | 9 => vq = .int .i64 ((p : Int) + (A : Int) + (q1 : Int) + (D : Int) + (q2 : Int)) | 10 => vq = .int .i64 0 | _ => True) (U := fun o w' => o.dst = none → w'.heap[w.heap.size]? = some (.cells #[.int .i64 x0, .int .i64 x1, .int .i64 x2, .int .i64 x3, .int .i64 x4, .int .i64 x5, .string ct, .string dt] 23 (0, 0))) (w' := w2) (.int .i64 ((p : Int) + (A : Int) + (q1 : Int) + (D : Int) + (q2 : Int))) ?_ ?_ ?_ ?_ ?_
        · (clear hV hI hC; go_simp <;> (first | rfl | simp | (rw [IntKind.wrap_i64]; omega)))
        · exact hC
        · exact Or.inl rfl
        · intro d hd; cases hd; rfl
        · intro h; cases h
      case os27 =>
        intro Q a w2 hC hV hI
        have e8 : a.eval (.tmp 8) = .pointer (some ⟨w.heap.size, 0, none⟩) := (hI 8 (by simp [Op.operands]) (by kernel_rfl)).trans rfl
        have f8 : a.tmps.getD 8 undef = .pointer (some ⟨w.heap.size, 0, none⟩) := e8
        have g8 : a.tmps[8]?.getD undef = .pointer (some ⟨w.heap.size, 0, none⟩) := by rw [← Array.getD_eq_getD_getElem?]; exact e8
        have e137 : a.eval (.tmp 137) = .agg #[.int .i64 x0, .int .i64 x1, .int .i64 x2, .int .i64 x3, .int .i64 x4, .int .i64 x5, .string ct, .string dt] := hV 137 (by simp [Op.operands]) (by kernel_rfl)
        have f137 : a.tmps.getD 137 undef = .agg #[.int .i64 x0, .int .i64 x1, .int .i64 x2, .int .i64 x3, .int .i64 x4, .int .i64 x5, .string ct, .string dt] := e137
        have g137 : a.tmps[137]?.getD undef = .agg #[.int .i64 x0, .int .i64 x1, .int .i64 x2, .int .i64 x3, .int .i64 x4, .int .i64 x5, .string ct, .string dt] := by rw [← Array.getD_eq_getD_getElem?]; exact e137
        have hS : ∀ cs : Array Value, cs.size = 8 → w2.heap[w.heap.size]? = some (.cells cs 23 (0, 0)) → _ := fun cs hc hR => run_storeVar_row (P := Try.prog) w2 w.heap.size 23 23 cs #[.int .i64 x0, .int .i64 x1, .int .i64 x2, .int .i64 x3, .int .i64 x4, .int .i64 x5, .string ct, .string dt] hR (by rw [Try.sizeOC]; rfl) hc (by simp [Value.oneCell'])
        have hR2 : (w2.setRow w.heap.size #[.int .i64 x0, .int .i64 x1, .int .i64 x2, .int .i64 x3, .int .i64 x4, .int .i64 x5, .string ct, .string dt]).heap[w.heap.size]? = some (.cells #[.int .i64 x0, .int .i64 x1, .int .i64 x2, .int .i64 x3, .int .i64 x4, .int .i64 x5, .string ct, .string dt] 23 (0, 0)) := hC.2.2.elim (fun h => setRow_heap _ _ _ _ _ _ h) (fun h => setRow_heap _ _ _ _ _ _ h)
        have hgr : gb ≠ w.heap.size := by have := HGB.out; omega
        have hcb : (w2.setRow w.heap.size #[.int .i64 x0, .int .i64 x1, .int .i64 x2, .int .i64 x3, .int .i64 x4, .int .i64 x5, .string ct, .string dt]).heap[gb]? = w2.heap[gb]? := setRow_other _ _ _ _ hgr
        have hkb : ∀ m, (w2.setRow w.heap.size #[.int .i64 x0, .int .i64 x1, .int .i64 x2, .int .i64 x3, .int .i64 x4, .int .i64 x5, .string ct, .string dt]).cell? ⟨gb, m, none⟩ = w2.cell? ⟨gb, m, none⟩ := fun m => World.cell?_of_block hcb
        refine opU_store (C := fun w' => Below w.heap.size w w' ∧ (w'.cell? ⟨gb, 0, none⟩ = some (.int .i64 x0) ∧ w'.cell? ⟨gb, 1, none⟩ = some (.int .i64 x1) ∧ w'.cell? ⟨gb, 2, none⟩ = some (.int .i64 x2) ∧ w'.cell? ⟨gb, 3, none⟩ = some (.int .i64 x3) ∧ w'.cell? ⟨gb, 4, none⟩ = some (.int .i64 x4) ∧ w'.cell? ⟨gb, 5, none⟩ = some (.int .i64 x5) ∧ w'.cell? ⟨gb, 11, none⟩ = some (.int .i64 (A : Int))) ∧ (w'.heap[w.heap.size]? = some (.cells zeroC.cells.toArray 23 (0, 0)) ∨ w'.heap[w.heap.size]? = some (.cells #[.int .i64 x0, .int .i64 x1, .int .i64 x2, .int .i64 x3, .int .i64 x4, .int .i64 x5, .string ct, .string dt] 23 (0, 0)))) (St := fun x y => y.heap[w.heap.size]? = x.heap[w.heap.size]? ∨ y.heap[w.heap.size]? = some (.cells #[.int .i64 x0, .int .i64 x1, .int .i64 x2, .int .i64 x3, .int .i64 x4, .int .i64 x5, .string ct, .string dt] 23 (0, 0))) (V := fun dq vq _ => match dq with | 112 => vq = .slice (some ⟨gb, 0, none⟩) 13 cp | 113 => vq = .pointer (some ⟨gb, 0, none⟩) | 114 => vq = .int .i64 x0 | 115 => vq = .slice (some ⟨gb, 0, none⟩) 13 cp | 116 => vq = .pointer (some ⟨gb, 1, none⟩) | 117 => vq = .int .i64 x1 | 118 => vq = .slice (some ⟨gb, 0, none⟩) 13 cp | 119 => vq = .pointer (some ⟨gb, 2, none⟩) | 120 => vq = .int .i64 x2 | 121 => vq = .slice (some ⟨gb, 0, none⟩) 13 cp | 122 => vq = .pointer (some ⟨gb, 3, none⟩) | 123 => vq = .int .i64 x3 | 124 => vq = .slice (some ⟨gb, 0, none⟩) 13 cp | 125 => vq = .pointer (some ⟨gb, 4, none⟩) | 126 => vq = .int .i64 x4 | 127 => vq = .slice (some ⟨gb, 0, none⟩) 13 cp | 128 => vq = .pointer (some ⟨gb, 5, none⟩) | 129 => vq = .int .i64 x5 | 130 => vq = .string nm | 131 => vq = .slice (some ⟨gb, 0, none⟩) 13 cp | 132 => vq = .pointer (some ⟨gb, 11, none⟩) | 133 => vq = .int .i64 (A : Int) | 134 => vq = .int .i64 ((A : Int) - 1) | 135 => vq = .string ct | 136 => vq = .string dt | 137 => vq = .agg #[.int .i64 x0, .int .i64 x1, .int .i64 x2, .int .i64 x3, .int .i64 x4, .int .i64 x5, .string ct, .string dt] | 138 => vq = .int .i64 ((p : Int) + (A : Int) + (q1 : Int) + (D : Int) + (q2 : Int)) | 9 => vq = .int .i64 ((p : Int) + (A : Int) + (q1 : Int) + (D : Int) + (q2 : Int)) | 10 => vq = .int .i64 0 | _ => True) (U := fun o w' => o.dst = none → w'.heap[w.heap.size]? = some (.cells #[.int .i64 x0, .int .i64 x1, .int .i64 x2, .int .i64 x3, .int .i64 x4, .int .i64 x5, .string ct, .string dt] 23 (0, 0))) 23 _ _ rfl rfl ⟨w.heap.size, 0, none⟩ e8 e137 (hC.2.2.elim (fun h => hS _ rfl h) (fun h => hS _ rfl h)) ?_ ?_ ?_
        · exact ⟨hC.1.trans (below_setK (Nat.le_refl _) _), ⟨(hkb 0).trans hC.2.1.1, (hkb 1).trans hC.2.1.2.1, (hkb 2).trans hC.2.1.2.2.1, (hkb 3).trans hC.2.1.2.2.2.1, (hkb 4).trans hC.2.1.2.2.2.2.1, (hkb 5).trans hC.2.1.2.2.2.2.2.1, (hkb 11).trans hC.2.1.2.2.2.2.2.2⟩, Or.inr hR2⟩
        · exact Or.inr hR2
        · intro _; exact hR2
      case o9 =>
        intro Q a w2 hC hV hI
        have e138 : a.eval (.tmp 138) = .int .i64 ((p : Int) + (A : Int) + (q1 : Int) + (D : Int) + (q2 : Int)) := hV 138 (by simp [Op.operands]) (by kernel_rfl)
        have f138 : a.tmps.getD 138 undef = .int .i64 ((p : Int) + (A : Int) + (q1 : Int) + (D : Int) + (q2 : Int)) := e138
        have g138 : a.tmps[138]?.getD undef = .int .i64 ((p : Int) + (A : Int) + (q1 : Int) + (D : Int) + (q2 : Int)) := by rw [← Array.getD_eq_getD_getElem?]; exact e138
        refine opU_val (C := fun w' => Below w.heap.size w w' ∧ (w'.cell? ⟨gb, 0, none⟩ = some (.int .i64 x0) ∧ w'.cell? ⟨gb, 1, none⟩ = some (.int .i64 x1) ∧ w'.cell? ⟨gb, 2, none⟩ = some (.int .i64 x2) ∧ w'.cell? ⟨gb, 3, none⟩ = some (.int .i64 x3) ∧ w'.cell? ⟨gb, 4, none⟩ = some (.int .i64 x4) ∧ w'.cell? ⟨gb, 5, none⟩ = some (.int .i64 x5) ∧ w'.cell? ⟨gb, 11, none⟩ = some (.int .i64 (A : Int))) ∧ (w'.heap[w.heap.size]? = some (.cells zeroC.cells.toArray 23 (0, 0)) ∨ w'.heap[w.heap.size]? = some (.cells #[.int .i64 x0, .int .i64 x1, .int .i64 x2, .int .i64 x3, .int .i64 x4, .int .i64 x5, .string ct, .string dt] 23 (0, 0)))) (St := fun x y => y.heap[w.heap.size]? = x.heap[w.heap.size]? ∨ y.heap[w.heap.size]? = some (.cells #[.int .i64 x0, .int .i64 x1, .int .i64 x2, .int .i64 x3, .int .i64 x4, .int .i64 x5, .string ct, .string dt] 23 (0, 0))) (V := fun dq vq _ => match dq with | 112 => vq = .slice (some ⟨gb, 0, none⟩) 13 cp | 113 => vq = .pointer (some ⟨gb, 0, none⟩) | 114 => vq = .int .i64 x0 | 115 => vq = .slice (some ⟨gb, 0, none⟩) 13 cp | 116 => vq = .pointer (some ⟨gb, 1, none⟩) | 117 => vq = .int .i64 x1 | 118 => vq = .slice (some ⟨gb, 0, none⟩) 13 cp | 119 => vq = .pointer (some ⟨gb, 2, none⟩) | 120 => vq = .int .i64 x2 | 121 => vq = .slice (some ⟨gb, 0, none⟩) 13 cp | 122 => vq = .pointer (some ⟨gb, 3, none⟩) | 123 => vq = .int .i64 x3 | 124 => vq = .slice (some ⟨gb, 0, none⟩) 13 cp | 125 => vq = .pointer (some ⟨gb, 4, none⟩) | 126 => vq = .int .i64 x4 | 127 => vq = .slice (some ⟨gb, 0, none⟩) 13 cp | 128 => vq = .pointer (some ⟨gb, 5, none⟩) | 129 => vq = .int .i64 x5 | 130 => vq = .string nm | 131 => vq = .slice (some ⟨gb, 0, none⟩) 13 cp | 132 => vq = .pointer (some ⟨gb, 11, none⟩) | 133 => vq = .int .i64 (A : Int) | 134 => vq = .int .i64 ((A : Int) - 1) | 135 => vq = .string ct | 136 => vq = .string dt | 137 => vq = .agg #[.int .i64 x0, .int .i64 x1, .int .i64 x2, .int .i64 x3, .int .i64 x4, .int .i64 x5, .string ct, .string dt] | 138 => vq = .int .i64 ((p : Int) + (A : Int) + (q1 : Int) + (D : Int) + (q2 : Int)) | 9 => vq = .int .i64 ((p : Int) + (A : Int) + (q1 : Int) + (D : Int) + (q2 : Int)) | 10 => vq = .int .i64 0 | _ => True) (U := fun o w' => o.dst = none → w'.heap[w.heap.size]? = some (.cells #[.int .i64 x0, .int .i64 x1, .int .i64 x2, .int .i64 x3, .int .i64 x4, .int .i64 x5, .string ct, .string dt] 23 (0, 0))) (w' := w2) (.int .i64 ((p : Int) + (A : Int) + (q1 : Int) + (D : Int) + (q2 : Int))) ?_ ?_ ?_ ?_ ?_
        · (clear hV hI hC; go_simp <;> (first | rfl | simp | (rw [IntKind.wrap_i64]; omega)))
        · exact hC
        · exact Or.inl rfl
        · intro d hd; cases hd; rfl
        · intro h; cases h
      case o10 =>
        intro Q a w2 hC hV hI
        refine opU_val (C := fun w' => Below w.heap.size w w' ∧ (w'.cell? ⟨gb, 0, none⟩ = some (.int .i64 x0) ∧ w'.cell? ⟨gb, 1, none⟩ = some (.int .i64 x1) ∧ w'.cell? ⟨gb, 2, none⟩ = some (.int .i64 x2) ∧ w'.cell? ⟨gb, 3, none⟩ = some (.int .i64 x3) ∧ w'.cell? ⟨gb, 4, none⟩ = some (.int .i64 x4) ∧ w'.cell? ⟨gb, 5, none⟩ = some (.int .i64 x5) ∧ w'.cell? ⟨gb, 11, none⟩ = some (.int .i64 (A : Int))) ∧ (w'.heap[w.heap.size]? = some (.cells zeroC.cells.toArray 23 (0, 0)) ∨ w'.heap[w.heap.size]? = some (.cells #[.int .i64 x0, .int .i64 x1, .int .i64 x2, .int .i64 x3, .int .i64 x4, .int .i64 x5, .string ct, .string dt] 23 (0, 0)))) (St := fun x y => y.heap[w.heap.size]? = x.heap[w.heap.size]? ∨ y.heap[w.heap.size]? = some (.cells #[.int .i64 x0, .int .i64 x1, .int .i64 x2, .int .i64 x3, .int .i64 x4, .int .i64 x5, .string ct, .string dt] 23 (0, 0))) (V := fun dq vq _ => match dq with | 112 => vq = .slice (some ⟨gb, 0, none⟩) 13 cp | 113 => vq = .pointer (some ⟨gb, 0, none⟩) | 114 => vq = .int .i64 x0 | 115 => vq = .slice (some ⟨gb, 0, none⟩) 13 cp | 116 => vq = .pointer (some ⟨gb, 1, none⟩) | 117 => vq = .int .i64 x1 | 118 => vq = .slice (some ⟨gb, 0, none⟩) 13 cp | 119 => vq = .pointer (some ⟨gb, 2, none⟩) | 120 => vq = .int .i64 x2 | 121 => vq = .slice (some ⟨gb, 0, none⟩) 13 cp | 122 => vq = .pointer (some ⟨gb, 3, none⟩) | 123 => vq = .int .i64 x3 | 124 => vq = .slice (some ⟨gb, 0, none⟩) 13 cp | 125 => vq = .pointer (some ⟨gb, 4, none⟩) | 126 => vq = .int .i64 x4 | 127 => vq = .slice (some ⟨gb, 0, none⟩) 13 cp | 128 => vq = .pointer (some ⟨gb, 5, none⟩) | 129 => vq = .int .i64 x5 | 130 => vq = .string nm | 131 => vq = .slice (some ⟨gb, 0, none⟩) 13 cp | 132 => vq = .pointer (some ⟨gb, 11, none⟩) | 133 => vq = .int .i64 (A : Int) | 134 => vq = .int .i64 ((A : Int) - 1) | 135 => vq = .string ct | 136 => vq = .string dt | 137 => vq = .agg #[.int .i64 x0, .int .i64 x1, .int .i64 x2, .int .i64 x3, .int .i64 x4, .int .i64 x5, .string ct, .string dt] | 138 => vq = .int .i64 ((p : Int) + (A : Int) + (q1 : Int) + (D : Int) + (q2 : Int)) | 9 => vq = .int .i64 ((p : Int) + (A : Int) + (q1 : Int) + (D : Int) + (q2 : Int)) | 10 => vq = .int .i64 0 | _ => True) (U := fun o w' => o.dst = none → w'.heap[w.heap.size]? = some (.cells #[.int .i64 x0, .int .i64 x1, .int .i64 x2, .int .i64 x3, .int .i64 x4, .int .i64 x5, .string ct, .string dt] 23 (0, 0))) (w' := w2) (.int .i64 0) ?_ ?_ ?_ ?_ ?_
        · (clear hV hI hC; go_simp <;> (first | rfl | simp | (rw [IntKind.wrap_i64]; omega)))
        · exact hC
        · exact Or.inl rfl
        · intro d hd; cases hd; rfl
        · intro h; cases h
    case hend =>
      intro f w9 hC hall huall
      simp only [List.forall_mem_cons] at hall
      obtain ⟨h112, h113, h114, h115, h116, h117, h118, h119, h120, h121, h122, h123, h124, h125, h126, h127, h128, h129, h130, h131, h132, h133, h134, h135, h136, h137, h138, _, h9, h10, _⟩ := hall
      simp only [List.forall_mem_cons] at huall
      obtain ⟨_, _, _, _, _, _, _, _, _, _, _, _, _, _, _, _, _, _, _, _, _, _, _, _, _, _, _, hus, _, _, _⟩ := huall
      replace h112 : f 112 = .slice (some ⟨gb, 0, none⟩) 13 cp := h112 112 rfl
      replace h113 : f 113 = .pointer (some ⟨gb, 0, none⟩) := h113 113 rfl
      replace h114 : f 114 = .int .i64 x0 := h114 114 rfl
      replace h115 : f 115 = .slice (some ⟨gb, 0, none⟩) 13 cp := h115 115 rfl
      replace h116 : f 116 = .pointer (some ⟨gb, 1, none⟩) := h116 116 rfl
      replace h117 : f 117 = .int .i64 x1 := h117 117 rfl
      replace h118 : f 118 = .slice (some ⟨gb, 0, none⟩) 13 cp := h118 118 rfl
      replace h119 : f 119 = .pointer (some ⟨gb, 2, none⟩) := h119 119 rfl
      replace h120 : f 120 = .int .i64 x2 := h120 120 rfl
      replace h121 : f 121 = .slice (some ⟨gb, 0, none⟩) 13 cp := h121 121 rfl
      replace h122 : f 122 = .pointer (some ⟨gb, 3, none⟩) := h122 122 rfl
      replace h123 : f 123 = .int .i64 x3 := h123 123 rfl
      replace h124 : f 124 = .slice (some ⟨gb, 0, none⟩) 13 cp := h124 124 rfl
      replace h125 : f 125 = .pointer (some ⟨gb, 4, none⟩) := h125 125 rfl
      replace h126 : f 126 = .int .i64 x4 := h126 126 rfl
      replace h127 : f 127 = .slice (some ⟨gb, 0, none⟩) 13 cp := h127 127 rfl
      replace h128 : f 128 = .pointer (some ⟨gb, 5, none⟩) := h128 128 rfl
      replace h129 : f 129 = .int .i64 x5 := h129 129 rfl
      replace h130 : f 130 = .string nm := h130 130 rfl
      replace h131 : f 131 = .slice (some ⟨gb, 0, none⟩) 13 cp := h131 131 rfl
      replace h132 : f 132 = .pointer (some ⟨gb, 11, none⟩) := h132 132 rfl
      replace h133 : f 133 = .int .i64 (A : Int) := h133 133 rfl
      replace h134 : f 134 = .int .i64 ((A : Int) - 1) := h134 134 rfl
      replace h135 : f 135 = .string ct := h135 135 rfl
      replace h136 : f 136 = .string dt := h136 136 rfl
      replace h137 : f 137 = .agg #[.int .i64 x0, .int .i64 x1, .int .i64 x2, .int .i64 x3, .int .i64 x4, .int .i64 x5, .string ct, .string dt] := h137 137 rfl
      replace h138 : f 138 = .int .i64 ((p : Int) + (A : Int) + (q1 : Int) + (D : Int) + (q2 : Int)) := h138 138 rfl
      replace h9 : f 9 = .int .i64 ((p : Int) + (A : Int) + (q1 : Int) + (D : Int) + (q2 : Int)) := h9 9 rfl
      replace h10 : f 10 = .int .i64 0 := h10 10 rfl
      simp only [putAll, Act.put, List.setIfInBounds_toArray, List.set_cons_succ, List.set_cons_zero, h112, h113, h114, h115, h116, h117, h118, h119, h120, h121, h122, h123, h124, h125, h126, h127, h128, h129, h130, h131, h132, h133, h134, h135, h136, h137, h138, h9, h10]
      clear h112 h113 h114 h115 h116 h117 h118 h119 h120 h121 h122 h123 h124 h125 h126 h127 h128 h129 h130 h131 h132 h133 h134 h135 h136 h137 h138 h9 h10
      have R9 : CardO w9 w.heap.size ⟨x0, x1, x2, x3, x4, x5, ct, dt⟩ := hus trivial
      have B9 := hC.1
      clear KC hC hus
      go_wp2_with fail
      refine bodyPost_ret (res_OC3 rfl _ rfl R9) rfl ?_
      exact ⟨by rw [HE.out]; rfl, B9⟩
end Go.Proofs.Ytcnmbolmgifgfaa
