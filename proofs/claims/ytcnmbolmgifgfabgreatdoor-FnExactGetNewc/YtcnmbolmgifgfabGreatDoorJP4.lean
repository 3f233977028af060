/- Texts joined: GetNwR, GetNwS, GetNewcH, GetNewcA, GetNewcB, GetNewcS, EntEq, LawE, MarkE, HeldE, GetNewcLaw. -/
import Derived.BigRegion
import Derived.BigQuiet
import Derived.Test.YtcnmbolmgifgfabGreatDoorRegU
import Derived.Deep.DeepCutAuto
import Derived.OwnWalk
import Derived.Test.YtcnmbolmgifgfabGreatDoorPartMath
import Derived.Laws.MakeOwn
import Derived.Deep.RegionWith
import Derived.Deep.RegionHeld3
import Derived.Test.YtcnmbolmgifgfabGreatDoorMarkT
import Derived.Test.YtcnmbolmgifgfabGreatDoorOwnO
import Derived.Test.YtcnmbolmgifgfabGreatDoorJP3
/- Contract of spec.l08Rest. -/
namespace Go.Proofs.YtcnmbolmgifgfabGreatDoor
open Go.ChangeShapes Go.WideShapes Go.ChangeAt Go.RowKit Go.Deep

theorem bel_drewS {B : Nat} {w w' : World} {n : Nat} (h : Below B w w') : Below B w (w'.drewN n) := ⟨h.os, h.tape, h.output, h.size, h.block⟩
theorem blank_any (t : ByteArray) (w : World) (h : t.size ≤ 1048576) : Calls Tryz.prog 78 #[.string t] w fun e w' => e = .returned (.bool (isNul t)) ∧ w = w' := by
  have H := Lib.hid (fun w => sum_spec t w h)
  have HE : Hid (isNul t = decide (sumv t.data.toList = 0)) := Lib.hid rfl
  generalize isNul t = r at HE
  generalize sumv t.data.toList = q at H HE
  by_cases hq : q = 0
  · have e1 : (q == 0) = true := by simpa using hq
    rw [decide_eq_true hq] at HE
    subst hq
    go_enter Tryz.func78, Tryz.ntmps78
    go_wp2_with fail
    refine (H.out _).mono ?_
    rintro e w1 ⟨rfl, rfl⟩
    go_wp2_with fail
    go_ret
    exact ⟨by rw [HE.out]; rfl, rfl⟩
  · have e1 : (q == 0) = false := by simpa using hq
    rw [decide_eq_false hq] at HE
    go_enter Tryz.func78, Tryz.ntmps78
    go_wp2_with fail
    refine (H.out _).mono ?_
    rintro e w1 ⟨rfl, rfl⟩
    go_wp2_with fail
    go_ret
    exact ⟨by rw [HE.out]; rfl, rfl⟩
theorem pad4_spc (n : Nat) (hn : n ≤ 9007199254740991) (w : World) : Calls Tryz.prog 55 #[.int .i64 (n : Int), .int .i64 4] w fun e w' => e = .returned (.int .i64 (pad4 n : Int)) ∧ w = w' := by
  have h := pad_spec (n : Int) 4 w
  rw [padv4 n hn] at h
  exact h
set_option maxHeartbeats 3200000 in
set_option maxRecDepth 8000 in
theorem rest_walk (s : ByteArray) (j p A D q1 q2 gb cp : Nat) (F : Nat → Int) (crc : Bool) (V : Value) (w : World) (hs : s.size ≤ 1048576) (hp : j + 110 = p) (hps : p ≤ s.size) (hA : A ≤ 4294967295) (hD : D ≤ 4294967295) (hq1 : q1 = pad4 (110 + A)) (hq2 : q2 = pad4 D) (hF11 : F 11 = (A : Int)) (hF6 : F 6 = (D : Int)) (hgb : gb < w.heap.size)
    (hN : ∀ m, m < 13 → w.cell? ⟨gb, m, none⟩ = some (.int .i64 (F m)))
    (h1 : s.size < p + A + q1 + D + q2 → V = bdV j 1)
    (h2 : ¬ s.size < p + A + q1 + D + q2 → A = 0 → V = bdV j 4)
    (h3 : ¬ s.size < p + A + q1 + D + q2 → ¬ ((cutv (s.extract p (p + A))).size : Int) = (A : Int) - 1 → V = bdV j 4)
    (h4 : ¬ s.size < p + A + q1 + D + q2 → isNul (s.extract (p + A) (p + A + q1)) = false → V = bdV j 4)
    (h5 : ¬ s.size < p + A + q1 + D + q2 → isNul (s.extract (p + A + q1 + D) (p + A + q1 + D + q2)) = false → V = bdV j 4)
    (h6 : ¬ s.size < p + A + q1 + D + q2 → ¬ A = 0 → ((cutv (s.extract p (p + A))).size : Int) = (A : Int) - 1 → isNul (s.extract (p + A) (p + A + q1)) = true → isNul (s.extract (p + A + q1 + D) (p + A + q1 + D + q2)) = true → ¬ F 12 = sumN crc (s.extract (p + A + q1) (p + A + q1 + D)) → V = bdV j 2)
    (h7 : ¬ s.size < p + A + q1 + D + q2 → ¬ A = 0 → ((cutv (s.extract p (p + A))).size : Int) = (A : Int) - 1 → isNul (s.extract (p + A) (p + A + q1)) = true → isNul (s.extract (p + A + q1 + D) (p + A + q1 + D + q2)) = true → F 12 = sumN crc (s.extract (p + A + q1) (p + A + q1 + D)) → V = .tuple #[.agg (Card.cells ⟨F 0, F 1, F 2, F 3, F 4, F 5, cutv (s.extract p (p + A)), s.extract (p + A + q1) (p + A + q1 + D)⟩).toArray, .int .i64 ((p : Int) + (A : Int) + (q1 : Int) + (D : Int) + (q2 : Int)), .int .i64 0]) :
    Calls Tryz.prog 76 #[.string s, .int .i64 (j : Int), .slice (some ⟨gb, 0, none⟩) 13 cp, .bool crc] w fun e w' => e = .returned V ∧ Below w.heap.size w w' := by
  have HP1 := Lib.hid (fun w => pad4_spc (110 + A) (by omega) w)
  have HP2 := Lib.hid (fun w => pad4_spc D (by omega) w)
  rw [← hq1, show ((110 + A : Nat) : Int) = 110 + (A : Int) from by omega] at HP1
  rw [← hq2] at HP2
  have hl1 : q1 ≤ 3 := by rw [hq1]; exact pad4_le _
  have hl2 : q2 ≤ 3 := by rw [hq2]; exact pad4_le _
  have a0 : IntKind.i64.wrap ((j : Int) + 110) = (p : Int) := by rw [IntKind.wrap_i64]; omega
  have a1 : IntKind.i64.wrap ((p : Int) + (A : Int)) = (p : Int) + (A : Int) := by rw [IntKind.wrap_i64]; omega
  have a2 : IntKind.i64.wrap (110 + (A : Int)) = 110 + (A : Int) := by rw [IntKind.wrap_i64]; omega
  have a3 : IntKind.i64.wrap ((p : Int) + (A : Int) + (q1 : Int)) = (p : Int) + (A : Int) + (q1 : Int) := by rw [IntKind.wrap_i64]; omega
  have a4 : IntKind.i64.wrap ((p : Int) + (A : Int) + (q1 : Int) + (D : Int)) = (p : Int) + (A : Int) + (q1 : Int) + (D : Int) := by rw [IntKind.wrap_i64]; omega
  have a5 : IntKind.i64.wrap ((p : Int) + (A : Int) + (q1 : Int) + (D : Int) + (q2 : Int)) = (p : Int) + (A : Int) + (q1 : Int) + (D : Int) + (q2 : Int) := by rw [IntKind.wrap_i64]; omega
  have a6 : IntKind.i64.wrap ((A : Int) - 1) = (A : Int) - 1 := by rw [IntKind.wrap_i64]; omega
  have H11 := Lib.hid hF11
  have H6 := Lib.hid hF6
  have R0 := Lib.hid (CardO.new w zeroC)
  have B0 : Hid (Below w.heap.size w (w.alloc (.cells zeroC.cells.toArray 48))) := Lib.hid ((Below.refl _ _).alloc (Nat.le_refl _) _)
  have N0 : Hid (∀ m, m < 13 → (w.alloc (.cells zeroC.cells.toArray 48)).cell? ⟨gb, m, none⟩ = some (.int .i64 (F m))) := Lib.hid (fun m hm => (((Below.refl w.heap.size w).alloc (Nat.le_refl _) _).cell (p := ⟨gb, m, none⟩) hgb).trans (hN m hm))
  have HGB := Lib.hid hgb
  simp only [zeroC, Card.cells] at R0 B0 N0
  by_cases hc : s.size < p + A + q1 + D + q2
  · have HF := Lib.hid (h1 hc)
    have hcmp : (s.size : Int) < (p : Int) + (A : Int) + (q1 : Int) + (D : Int) + (q2 : Int) := by omega
    clear h1 h2 h3 h4 h5 h6 h7 hc hs hp hps hA hD hq1 hq2 hl1 hl2 hN hF11 hF6 hgb
    go_enter Tryz.func76, Tryz.ntmps76
    go_upto_region 2 with fail
    generalize World.alloc w _ = w1 at R0 B0 N0 ⊢
    have R : Hid (CardO w1 w.heap.size zeroC) := R0
    have B := B0
    have N := N0
    clear R0 B0 N0
    have n11 := N.out 11 (by omega)
    rw [H11.out] at n11
    go_quiet ((go_at_call 55; refine Calls.quiet_of_same ((HP1.out _).mono (fun e w' h => ⟨h.1, h.2.symm⟩))))
    obtain ⟨w2, hwq⟩ : ∃ y, y = w1.drewN nq := ⟨_, rfl⟩
    replace R : Hid (CardO w2 w.heap.size zeroC) := Lib.hid (by rw [hwq]; exact R.out)
    replace B : Hid (Below w.heap.size w w2) := Lib.hid (by rw [hwq]; exact bel_drewS B.out)
    replace N : Hid (∀ m, m < 13 → w2.cell? ⟨gb, m, none⟩ = some (.int .i64 (F m))) := Lib.hid (by rw [hwq]; exact N.out)
    rw [← hwq]
    clear hwq n11 HP1
    go_upto_region 3 with fail
    have n6 := N.out 6 (by omega)
    rw [H6.out] at n6
    go_quiet ((go_at_call 55; refine Calls.quiet_of_same ((HP2.out _).mono (fun e w' h => ⟨h.1, h.2.symm⟩))))
    obtain ⟨w3, hwq⟩ : ∃ y, y = w2.drewN nq := ⟨_, rfl⟩
    replace R : Hid (CardO w3 w.heap.size zeroC) := Lib.hid (by rw [hwq]; exact R.out)
    replace B : Hid (Below w.heap.size w w3) := Lib.hid (by rw [hwq]; exact bel_drewS B.out)
    replace N : Hid (∀ m, m < 13 → w3.cell? ⟨gb, m, none⟩ = some (.int .i64 (F m))) := Lib.hid (by rw [hwq]; exact N.out)
    rw [← hwq]
    clear hwq n6 HP2
    obtain ⟨d0, d1, d2, d3, d4, d5, d6, d7⟩ := (R.out).at.zero
    simp only [zeroC] at d0 d1 d2 d3 d4 d5 d6 d7
    have f0 := (R.out).fz 0
    have f1 := (R.out).fz 1
    have f2 := (R.out).fz 2
    have f3 := (R.out).fz 3
    have f4 := (R.out).fz 4
    have f5 := (R.out).fz 5
    have f6 := (R.out).fz 6
    have f7 := (R.out).fz 7
    have R9 := (R.out).put zeroC
    have B9 := below_putOC (g := w.heap.size) (B.out) (Nat.le_refl _) zeroC
    simp only [putOC, zeroC] at R9 B9
    go_wp2_with fail
    refine bodyPost_ret (res_OC3 rfl _ rfl R9) rfl ?_
    exact ⟨by rw [HF.out]; rfl, B9⟩
  · have HB2 := Lib.hid (h2 hc)
    have HB3 := Lib.hid (h3 hc)
    have HB4 := Lib.hid (h4 hc)
    have HB5 := Lib.hid (h5 hc)
    have HB6 := Lib.hid (h6 hc)
    have HB7 := Lib.hid (h7 hc)
    have hcmp : ¬ (s.size : Int) < (p : Int) + (A : Int) + (q1 : Int) + (D : Int) + (q2 : Int) := by omega
    have HS1 := Lib.hid (fun w => sl_at s (p : Int) ((p : Int) + (A : Int)) p (p + A) rfl (by omega) (by omega) (by omega) w)
    have HS2 := Lib.hid (fun w => sl_at s ((p : Int) + (A : Int) + (q1 : Int)) ((p : Int) + (A : Int) + (q1 : Int) + (D : Int)) (p + A + q1) (p + A + q1 + D) (by omega) (by omega) (by omega) (by omega) w)
    have HS3 := Lib.hid (fun w => sl_at s ((p : Int) + (A : Int)) ((p : Int) + (A : Int) + (q1 : Int)) (p + A) (p + A + q1) (by omega) (by omega) (by omega) (by omega) w)
    have HS4 := Lib.hid (fun w => sl_at s ((p : Int) + (A : Int) + (q1 : Int) + (D : Int)) ((p : Int) + (A : Int) + (q1 : Int) + (D : Int) + (q2 : Int)) (p + A + q1 + D) (p + A + q1 + D + q2) (by omega) (by omega) (by omega) (by omega) w)
    have HSm := Lib.hid (fun w => l08Sum_any (s.extract (p + A + q1) (p + A + q1 + D)) crc w (by rw [ByteArray.size_extract]; omega))
    have HCut := Lib.hid (fun w => cut_spec (s.extract p (p + A)) w (by rw [ByteArray.size_extract]; omega))
    have HBl : Hid (∀ t w, (t = s.extract (p + A) (p + A + q1) ∨ t = s.extract (p + A + q1 + D) (p + A + q1 + D + q2)) → Calls Tryz.prog 78 #[.string t] w fun e w' => e = .returned (.bool (isNul t)) ∧ w = w') := Lib.hid (fun t w h => blank_any t w (by rcases h with rfl | rfl <;> (rw [ByteArray.size_extract]; omega)))
    have HSc := Lib.hid (fun (h : ((cutv (s.extract p (p + A))).size : Int) = (A : Int) - 1) w => cut_to (s.extract p (p + A)) ((A : Int) - 1) (by omega) (by omega) (by rw [ByteArray.size_extract]; omega) w)
    have HAz : Hid (¬ A = 0 → ¬ (A : Int) = 0) := Lib.hid (by omega)
    clear h1 h2 h3 h4 h5 h6 h7 hc hs hp hps hA hD hq1 hq2 hl1 hl2 hN hF11 hF6 hgb
    generalize s.extract (p + A + q1 + D) (p + A + q1 + D + q2) = t2 at *
    generalize s.extract (p + A + q1) (p + A + q1 + D) = dt at *
    generalize s.extract (p + A) (p + A + q1) = t1 at *
    generalize s.extract p (p + A) = nm at *
    obtain ⟨sm, hsm⟩ : ∃ x, sumN crc dt = x := ⟨_, rfl⟩
    rw [hsm] at HB6 HB7 HSm
    clear hsm
    go_enter Tryz.func76, Tryz.ntmps76
    go_upto_region 2 with fail
    generalize World.alloc w _ = w1 at R0 B0 N0 ⊢
    have R : Hid (CardO w1 w.heap.size zeroC) := R0
    have B := B0
    have N := N0
    clear R0 B0 N0
    have n11 := N.out 11 (by omega)
    rw [H11.out] at n11
    go_quiet ((go_at_call 55; refine Calls.quiet_of_same ((HP1.out _).mono (fun e w' h => ⟨h.1, h.2.symm⟩))))
    obtain ⟨w2, hwq⟩ : ∃ y, y = w1.drewN nq := ⟨_, rfl⟩
    replace R : Hid (CardO w2 w.heap.size zeroC) := Lib.hid (by rw [hwq]; exact R.out)
    replace B : Hid (Below w.heap.size w w2) := Lib.hid (by rw [hwq]; exact bel_drewS B.out)
    replace N : Hid (∀ m, m < 13 → w2.cell? ⟨gb, m, none⟩ = some (.int .i64 (F m))) := Lib.hid (by rw [hwq]; exact N.out)
    rw [← hwq]
    clear hwq n11 HP1
    go_upto_region 3 with fail
    have n6 := N.out 6 (by omega)
    rw [H6.out] at n6
    go_quiet ((go_at_call 55; refine Calls.quiet_of_same ((HP2.out _).mono (fun e w' h => ⟨h.1, h.2.symm⟩))))
    obtain ⟨w3, hwq⟩ : ∃ y, y = w2.drewN nq := ⟨_, rfl⟩
    replace R : Hid (CardO w3 w.heap.size zeroC) := Lib.hid (by rw [hwq]; exact R.out)
    replace B : Hid (Below w.heap.size w w3) := Lib.hid (by rw [hwq]; exact bel_drewS B.out)
    replace N : Hid (∀ m, m < 13 → w3.cell? ⟨gb, m, none⟩ = some (.int .i64 (F m))) := Lib.hid (by rw [hwq]; exact N.out)
    rw [← hwq]
    clear hwq n6 HP2
    go_upto_region 6 with fail
    clear hcmp
    have n11 := N.out 11 (by omega)
    rw [H11.out] at n11
    have n6 := N.out 6 (by omega)
    rw [H6.out] at n6
    have S1 := HS1.out
    have S2 := HS2.out
    go_quiet (fail)
    obtain ⟨w4, hwq⟩ : ∃ y, y = w3.drewN nq := ⟨_, rfl⟩
    replace R : Hid (CardO w4 w.heap.size zeroC) := Lib.hid (by rw [hwq]; exact R.out)
    replace B : Hid (Below w.heap.size w w4) := Lib.hid (by rw [hwq]; exact bel_drewS B.out)
    replace N : Hid (∀ m, m < 13 → w4.cell? ⟨gb, m, none⟩ = some (.int .i64 (F m))) := Lib.hid (by rw [hwq]; exact N.out)
    rw [← hwq]
    clear hwq n11 n6 S1 S2 HS1 HS2
    go_upto_region 7 with fail
    have n11 := N.out 11 (by omega)
    rw [H11.out] at n11
    have n6 := N.out 6 (by omega)
    rw [H6.out] at n6
    by_cases e1 : A = 0
    · have HF := Lib.hid (HB2.out e1)
      have q8 : ((A : Int) == 0) = true := by simp [e1]
      clear HB2 HB3 HB4 HB5 HB6 HB7 HS3 HS4 HSm HCut HBl HSc HAz e1
      go_quiet (fail)
      obtain ⟨w5, hwq⟩ : ∃ y, y = w4.drewN nq := ⟨_, rfl⟩
      replace R : Hid (CardO w5 w.heap.size zeroC) := Lib.hid (by rw [hwq]; exact R.out)
      replace B : Hid (Below w.heap.size w w5) := Lib.hid (by rw [hwq]; exact bel_drewS B.out)
      replace N : Hid (∀ m, m < 13 → w5.cell? ⟨gb, m, none⟩ = some (.int .i64 (F m))) := Lib.hid (by rw [hwq]; exact N.out)
      rw [← hwq]
      clear hwq n11 n6 q8
      obtain ⟨d0, d1, d2, d3, d4, d5, d6, d7⟩ := (R.out).at.zero
      simp only [zeroC] at d0 d1 d2 d3 d4 d5 d6 d7
      have f0 := (R.out).fz 0
      have f1 := (R.out).fz 1
      have f2 := (R.out).fz 2
      have f3 := (R.out).fz 3
      have f4 := (R.out).fz 4
      have f5 := (R.out).fz 5
      have f6 := (R.out).fz 6
      have f7 := (R.out).fz 7
      have R9 := (R.out).put zeroC
      have B9 := below_putOC (g := w.heap.size) (B.out) (Nat.le_refl _) zeroC
      simp only [putOC, zeroC] at R9 B9
      go_wp2_with fail
      refine bodyPost_ret (res_OC3 rfl _ rfl R9) rfl ?_
      exact ⟨by rw [HF.out]; rfl, B9⟩
    have q8 : ((A : Int) == 0) = false := by simpa using e1
    by_cases e2 : ¬ ((cutv nm).size : Int) = (A : Int) - 1
    · have HF := Lib.hid (HB3.out e2)
      have q9 : (((cutv nm).size : Int) != (A : Int) - 1) = true := by simpa using e2
      clear HB2 HB3 HB4 HB5 HB6 HB7 HS3 HS4 HSm HBl HSc HAz e1 e2
      generalize cutv nm = ct at *
      go_quiet ((go_at_call 68; refine Calls.quiet_of_same ((HCut.out _).mono (fun e w' h => ⟨h.1, h.2.symm⟩))))
      obtain ⟨w5, hwq⟩ : ∃ y, y = w4.drewN nq := ⟨_, rfl⟩
      replace R : Hid (CardO w5 w.heap.size zeroC) := Lib.hid (by rw [hwq]; exact R.out)
      replace B : Hid (Below w.heap.size w w5) := Lib.hid (by rw [hwq]; exact bel_drewS B.out)
      replace N : Hid (∀ m, m < 13 → w5.cell? ⟨gb, m, none⟩ = some (.int .i64 (F m))) := Lib.hid (by rw [hwq]; exact N.out)
      rw [← hwq]
      clear hwq n11 n6 q8 q9 HCut
      obtain ⟨d0, d1, d2, d3, d4, d5, d6, d7⟩ := (R.out).at.zero
      simp only [zeroC] at d0 d1 d2 d3 d4 d5 d6 d7
      have f0 := (R.out).fz 0
      have f1 := (R.out).fz 1
      have f2 := (R.out).fz 2
      have f3 := (R.out).fz 3
      have f4 := (R.out).fz 4
      have f5 := (R.out).fz 5
      have f6 := (R.out).fz 6
      have f7 := (R.out).fz 7
      have R9 := (R.out).put zeroC
      have B9 := below_putOC (g := w.heap.size) (B.out) (Nat.le_refl _) zeroC
      simp only [putOC, zeroC] at R9 B9
      go_wp2_with fail
      refine bodyPost_ret (res_OC3 rfl _ rfl R9) rfl ?_
      exact ⟨by rw [HF.out]; rfl, B9⟩
    have e2 : ((cutv nm).size : Int) = (A : Int) - 1 := Decidable.byContradiction e2
    have q9 : (((cutv nm).size : Int) != (A : Int) - 1) = false := by simpa using e2
    have HSc2 := Lib.hid (HSc.out e2)
    have HB6b := Lib.hid (HB6.out e1 e2)
    have HB7b := Lib.hid (HB7.out e1 e2)
    clear e1 e2 HSc HB2 HB3 HB6 HB7 HAz
    generalize cutv nm = ct at *
    have S3 := HS3.out
    have S4 := HS4.out
    by_cases e3 : isNul t1 = false
    · have HF := Lib.hid (HB4.out e3)
      clear HB4 HB5 HB6b HB7b HSm HSc2
      go_quiet (first | (go_at_call 68; refine Calls.quiet_of_same ((HCut.out _).mono (fun e w' h => ⟨h.1, h.2.symm⟩))) | (go_at_call 78; refine Calls.quiet_of_same ((HBl.out _ _ (by first | exact .inl rfl | exact .inr rfl)).mono (fun e w' h => ⟨h.1, h.2.symm⟩))))
      obtain ⟨w5, hwq⟩ : ∃ y, y = w4.drewN nq := ⟨_, rfl⟩
      replace R : Hid (CardO w5 w.heap.size zeroC) := Lib.hid (by rw [hwq]; exact R.out)
      replace B : Hid (Below w.heap.size w w5) := Lib.hid (by rw [hwq]; exact bel_drewS B.out)
      replace N : Hid (∀ m, m < 13 → w5.cell? ⟨gb, m, none⟩ = some (.int .i64 (F m))) := Lib.hid (by rw [hwq]; exact N.out)
      rw [← hwq]
      clear hwq n11 n6 q8 q9 HCut HBl S3 S4 HS3 HS4 e3
      obtain ⟨d0, d1, d2, d3, d4, d5, d6, d7⟩ := (R.out).at.zero
      simp only [zeroC] at d0 d1 d2 d3 d4 d5 d6 d7
      have f0 := (R.out).fz 0
      have f1 := (R.out).fz 1
      have f2 := (R.out).fz 2
      have f3 := (R.out).fz 3
      have f4 := (R.out).fz 4
      have f5 := (R.out).fz 5
      have f6 := (R.out).fz 6
      have f7 := (R.out).fz 7
      have R9 := (R.out).put zeroC
      have B9 := below_putOC (g := w.heap.size) (B.out) (Nat.le_refl _) zeroC
      simp only [putOC, zeroC] at R9 B9
      go_wp2_with fail
      refine bodyPost_ret (res_OC3 rfl _ rfl R9) rfl ?_
      exact ⟨by rw [HF.out]; rfl, B9⟩
    have e3 : isNul t1 = true := by simpa using e3
    by_cases e4 : isNul t2 = false
    · have HF := Lib.hid (HB5.out e4)
      clear HB4 HB5 HB6b HB7b HSm HSc2
      go_quiet (first | (go_at_call 68; refine Calls.quiet_of_same ((HCut.out _).mono (fun e w' h => ⟨h.1, h.2.symm⟩))) | (go_at_call 78; refine Calls.quiet_of_same ((HBl.out _ _ (by first | exact .inl rfl | exact .inr rfl)).mono (fun e w' h => ⟨h.1, h.2.symm⟩))))
      obtain ⟨w5, hwq⟩ : ∃ y, y = w4.drewN nq := ⟨_, rfl⟩
      replace R : Hid (CardO w5 w.heap.size zeroC) := Lib.hid (by rw [hwq]; exact R.out)
      replace B : Hid (Below w.heap.size w w5) := Lib.hid (by rw [hwq]; exact bel_drewS B.out)
      replace N : Hid (∀ m, m < 13 → w5.cell? ⟨gb, m, none⟩ = some (.int .i64 (F m))) := Lib.hid (by rw [hwq]; exact N.out)
      rw [← hwq]
      clear hwq n11 n6 q8 q9 HCut HBl S3 S4 HS3 HS4 e3 e4
      obtain ⟨d0, d1, d2, d3, d4, d5, d6, d7⟩ := (R.out).at.zero
      simp only [zeroC] at d0 d1 d2 d3 d4 d5 d6 d7
      have f0 := (R.out).fz 0
      have f1 := (R.out).fz 1
      have f2 := (R.out).fz 2
      have f3 := (R.out).fz 3
      have f4 := (R.out).fz 4
      have f5 := (R.out).fz 5
      have f6 := (R.out).fz 6
      have f7 := (R.out).fz 7
      have R9 := (R.out).put zeroC
      have B9 := below_putOC (g := w.heap.size) (B.out) (Nat.le_refl _) zeroC
      simp only [putOC, zeroC] at R9 B9
      go_wp2_with fail
      refine bodyPost_ret (res_OC3 rfl _ rfl R9) rfl ?_
      exact ⟨by rw [HF.out]; rfl, B9⟩
    have e4 : isNul t2 = true := by simpa using e4
    have HB6c := Lib.hid (HB6b.out e3 e4)
    have HB7c := Lib.hid (HB7b.out e3 e4)
    clear HB4 HB5 HB6b HB7b
    go_quiet (first | (go_at_call 68; refine Calls.quiet_of_same ((HCut.out _).mono (fun e w' h => ⟨h.1, h.2.symm⟩))) | (go_at_call 78; refine Calls.quiet_of_same ((HBl.out _ _ (by first | exact .inl rfl | exact .inr rfl)).mono (fun e w' h => ⟨h.1, h.2.symm⟩))))
    obtain ⟨w5, hwq⟩ : ∃ y, y = w4.drewN nq := ⟨_, rfl⟩
    replace R : Hid (CardO w5 w.heap.size zeroC) := Lib.hid (by rw [hwq]; exact R.out)
    replace B : Hid (Below w.heap.size w w5) := Lib.hid (by rw [hwq]; exact bel_drewS B.out)
    replace N : Hid (∀ m, m < 13 → w5.cell? ⟨gb, m, none⟩ = some (.int .i64 (F m))) := Lib.hid (by rw [hwq]; exact N.out)
    rw [← hwq]
    clear hwq n11 n6 q8 q9 HCut HBl S3 S4 HS3 HS4 e3 e4
    go_upto_region 9 with fail
    have n12 := N.out 12 (by omega)
    by_cases e5 : ¬ F 12 = sm
    · have HF := Lib.hid (HB6c.out e5)
      have q9 : (F 12 != sm) = true := by simpa using e5
      clear HB6c HB7c HSc2 e5
      generalize F 12 = f12 at *
      go_quiet ((go_at_call 52; refine Calls.quiet_of_same ((HSm.out _).mono (fun e w' h => ⟨h.1, h.2⟩))))
      obtain ⟨w6, hwq⟩ : ∃ y, y = w5.drewN nq := ⟨_, rfl⟩
      replace R : Hid (CardO w6 w.heap.size zeroC) := Lib.hid (by rw [hwq]; exact R.out)
      replace B : Hid (Below w.heap.size w w6) := Lib.hid (by rw [hwq]; exact bel_drewS B.out)
      rw [← hwq]
      clear hwq n12 q9 HSm N
      obtain ⟨d0, d1, d2, d3, d4, d5, d6, d7⟩ := (R.out).at.zero
      simp only [zeroC] at d0 d1 d2 d3 d4 d5 d6 d7
      have f0 := (R.out).fz 0
      have f1 := (R.out).fz 1
      have f2 := (R.out).fz 2
      have f3 := (R.out).fz 3
      have f4 := (R.out).fz 4
      have f5 := (R.out).fz 5
      have f6 := (R.out).fz 6
      have f7 := (R.out).fz 7
      have R9 := (R.out).put zeroC
      have B9 := below_putOC (g := w.heap.size) (B.out) (Nat.le_refl _) zeroC
      simp only [putOC, zeroC] at R9 B9
      go_wp2_with fail
      refine bodyPost_ret (res_OC3 rfl _ rfl R9) rfl ?_
      exact ⟨by rw [HF.out]; rfl, B9⟩
    have e5 : F 12 = sm := Decidable.byContradiction e5
    have HF := Lib.hid (HB7c.out e5)
    have q9 : (F 12 != sm) = false := by simpa using e5
    clear HB6c HB7c e5
    go_quiet ((go_at_call 52; refine Calls.quiet_of_same ((HSm.out _).mono (fun e w' h => ⟨h.1, h.2⟩))))
    obtain ⟨w6, hwq⟩ : ∃ y, y = w5.drewN nq := ⟨_, rfl⟩
    replace R : Hid (CardO w6 w.heap.size zeroC) := Lib.hid (by rw [hwq]; exact R.out)
    replace B : Hid (Below w.heap.size w w6) := Lib.hid (by rw [hwq]; exact bel_drewS B.out)
    replace N : Hid (∀ m, m < 13 → w6.cell? ⟨gb, m, none⟩ = some (.int .i64 (F m))) := Lib.hid (by rw [hwq]; exact N.out)
    rw [← hwq]
    clear hwq n12 q9 HSm
    go_upto_region 11 with fail
    have n0 := N.out 0 (by omega)
    have n1 := N.out 1 (by omega)
    have n2 := N.out 2 (by omega)
    have n3 := N.out 3 (by omega)
    have n4 := N.out 4 (by omega)
    have n5 := N.out 5 (by omega)
    have n11 := N.out 11 (by omega)
    rw [H11.out] at n11
    generalize F 0 = x0 at n0 HF
    generalize F 1 = x1 at n1 HF
    generalize F 2 = x2 at n2 HF
    generalize F 3 = x3 at n3 HF
    generalize F 4 = x4 at n4 HF
    generalize F 5 = x5 at n5 HF
    have HE : Hid (V = .tuple #[.agg #[.int .i64 x0, .int .i64 x1, .int .i64 x2, .int .i64 x3, .int .i64 x4, .int .i64 x5, .string ct, .string dt], .int .i64 ((p : Int) + (A : Int) + (q1 : Int) + (D : Int) + (q2 : Int)), .int .i64 0]) := Lib.hid (by rw [HF.out]; rfl)
    clear HF N H11 H6 e2 e3 e4 e5
    have KC : Hid (∀ w' : World, (w'.cell? ⟨gb, 0, none⟩ = some (.int .i64 x0) ∧ w'.cell? ⟨gb, 1, none⟩ = some (.int .i64 x1) ∧ w'.cell? ⟨gb, 2, none⟩ = some (.int .i64 x2) ∧ w'.cell? ⟨gb, 3, none⟩ = some (.int .i64 x3) ∧ w'.cell? ⟨gb, 4, none⟩ = some (.int .i64 x4) ∧ w'.cell? ⟨gb, 5, none⟩ = some (.int .i64 x5) ∧ w'.cell? ⟨gb, 11, none⟩ = some (.int .i64 (A : Int))) → (w'.cell? ⟨gb, 0, none⟩ = some (.int .i64 x0) ∧ w'.cell? ⟨gb, 1, none⟩ = some (.int .i64 x1) ∧ w'.cell? ⟨gb, 2, none⟩ = some (.int .i64 x2) ∧ w'.cell? ⟨gb, 3, none⟩ = some (.int .i64 x3) ∧ w'.cell? ⟨gb, 4, none⟩ = some (.int .i64 x4) ∧ w'.cell? ⟨gb, 5, none⟩ = some (.int .i64 x5) ∧ w'.cell? ⟨gb, 11, none⟩ = some (.int .i64 (A : Int)))) := Lib.hid (fun w' h => h)
    refine wp_region_u (by kernel_rfl) (fun w' => Below w.heap.size w w' ∧ (w'.cell? ⟨gb, 0, none⟩ = some (.int .i64 x0) ∧ w'.cell? ⟨gb, 1, none⟩ = some (.int .i64 x1) ∧ w'.cell? ⟨gb, 2, none⟩ = some (.int .i64 x2) ∧ w'.cell? ⟨gb, 3, none⟩ = some (.int .i64 x3) ∧ w'.cell? ⟨gb, 4, none⟩ = some (.int .i64 x4) ∧ w'.cell? ⟨gb, 5, none⟩ = some (.int .i64 x5) ∧ w'.cell? ⟨gb, 11, none⟩ = some (.int .i64 (A : Int))) ∧ (w'.heap[w.heap.size]? = some (.cells zeroC.cells.toArray 48 (0, 0)) ∨ w'.heap[w.heap.size]? = some (.cells #[.int .i64 x0, .int .i64 x1, .int .i64 x2, .int .i64 x3, .int .i64 x4, .int .i64 x5, .string ct, .string dt] 48 (0, 0)))) (fun x y => y.heap[w.heap.size]? = x.heap[w.heap.size]? ∨ y.heap[w.heap.size]? = some (.cells #[.int .i64 x0, .int .i64 x1, .int .i64 x2, .int .i64 x3, .int .i64 x4, .int .i64 x5, .string ct, .string dt] 48 (0, 0))) (fun dq vq _ => match dq with | 112 => vq = .slice (some ⟨gb, 0, none⟩) 13 cp | 113 => vq = .pointer (some ⟨gb, 0, none⟩) | 114 => vq = .int .i64 x0 | 115 => vq = .slice (some ⟨gb, 0, none⟩) 13 cp | 116 => vq = .pointer (some ⟨gb, 1, none⟩) | 117 => vq = .int .i64 x1 | 118 => vq = .slice (some ⟨gb, 0, none⟩) 13 cp | 119 => vq = .pointer (some ⟨gb, 2, none⟩) | 120 => vq = .int .i64 x2 | 121 => vq = .slice (some ⟨gb, 0, none⟩) 13 cp | 122 => vq = .pointer (some ⟨gb, 3, none⟩) | 123 => vq = .int .i64 x3 | 124 => vq = .slice (some ⟨gb, 0, none⟩) 13 cp | 125 => vq = .pointer (some ⟨gb, 4, none⟩) | 126 => vq = .int .i64 x4 | 127 => vq = .slice (some ⟨gb, 0, none⟩) 13 cp | 128 => vq = .pointer (some ⟨gb, 5, none⟩) | 129 => vq = .int .i64 x5 | 130 => vq = .string nm | 131 => vq = .slice (some ⟨gb, 0, none⟩) 13 cp | 132 => vq = .pointer (some ⟨gb, 11, none⟩) | 133 => vq = .int .i64 (A : Int) | 134 => vq = .int .i64 ((A : Int) - 1) | 135 => vq = .string ct | 136 => vq = .string dt | 137 => vq = .agg #[.int .i64 x0, .int .i64 x1, .int .i64 x2, .int .i64 x3, .int .i64 x4, .int .i64 x5, .string ct, .string dt] | 138 => vq = .int .i64 ((p : Int) + (A : Int) + (q1 : Int) + (D : Int) + (q2 : Int)) | 9 => vq = .int .i64 ((p : Int) + (A : Int) + (q1 : Int) + (D : Int) + (q2 : Int)) | 10 => vq = .int .i64 0 | _ => True) (fun o w' => o.dst = none → w'.heap[w.heap.size]? = some (.cells #[.int .i64 x0, .int .i64 x1, .int .i64 x2, .int .i64 x3, .int .i64 x4, .int .i64 x5, .string ct, .string dt] 48 (0, 0))) (by kernel_rfl) ⟨B.out.drew, ⟨n0, n1, n2, n3, n4, n5, n11⟩, .inl R.out⟩ (fun _ _ _ _ _ _ h => h) (fun _ _ _ _ hs hu hd => Or.elim hs (fun h => h.trans (hu hd)) (fun h => h)) ?hops ?hend
    case hops =>
      simp only [List.forall_mem_cons]
      refine ⟨?o112, ?o113, ?o114, ?o115, ?o116, ?o117, ?o118, ?o119, ?o120, ?o121, ?o122, ?o123, ?o124, ?o125, ?o126, ?o127, ?o128, ?o129, ?o130, ?o131, ?o132, ?o133, ?o134, ?o135, ?o136, ?o137, ?o138, ?os27, ?o9, ?o10, fun _ h => by cases h⟩
      case o112 =>
        intro Q a w2 hC hV hI
        have e2 : a.eval (.tmp 2) = .slice (some ⟨gb, 0, none⟩) 13 cp := (hI 2 (by simp [Op.operands]) (by kernel_rfl)).trans rfl
        have f2 : a.tmps.getD 2 undef = .slice (some ⟨gb, 0, none⟩) 13 cp := e2
        have g2 : a.tmps[2]?.getD undef = .slice (some ⟨gb, 0, none⟩) 13 cp := by rw [← Array.getD_eq_getD_getElem?]; exact e2
        refine opU_val (C := fun w' => Below w.heap.size w w' ∧ (w'.cell? ⟨gb, 0, none⟩ = some (.int .i64 x0) ∧ w'.cell? ⟨gb, 1, none⟩ = some (.int .i64 x1) ∧ w'.cell? ⟨gb, 2, none⟩ = some (.int .i64 x2) ∧ w'.cell? ⟨gb, 3, none⟩ = some (.int .i64 x3) ∧ w'.cell? ⟨gb, 4, none⟩ = some (.int .i64 x4) ∧ w'.cell? ⟨gb, 5, none⟩ = some (.int .i64 x5) ∧ w'.cell? ⟨gb, 11, none⟩ = some (.int .i64 (A : Int))) ∧ (w'.heap[w.heap.size]? = some (.cells zeroC.cells.toArray 48 (0, 0)) ∨ w'.heap[w.heap.size]? = some (.cells #[.int .i64 x0, .int .i64 x1, .int .i64 x2, .int .i64 x3, .int .i64 x4, .int .i64 x5, .string ct, .string dt] 48 (0, 0)))) (St := fun x y => y.heap[w.heap.size]? = x.heap[w.heap.size]? ∨ y.heap[w.heap.size]? = some (.cells #[.int .i64 x0, .int .i64 x1, .int .i64 x2, .int .i64 x3, .int .i64 x4, .int .i64 x5, .string ct, .string dt] 48 (0, 0))) (V := fun dq vq _ => match dq with | 112 => vq = .slice (some ⟨gb, 0, none⟩) 13 cp | 113 => vq = .pointer (some ⟨gb, 0, none⟩) | 114 => vq = .int .i64 x0 | 115 => vq = .slice (some ⟨gb, 0, none⟩) 13 cp | 116 => vq = .pointer (some ⟨gb, 1, none⟩) | 117 => vq = .int .i64 x1 | 118 => vq = .slice (some ⟨gb, 0, none⟩) 13 cp | 119 => vq = .pointer (some ⟨gb, 2, none⟩) | 120 => vq = .int .i64 x2 | 121 => vq = .slice (some ⟨gb, 0, none⟩) 13 cp | 122 => vq = .pointer (some ⟨gb, 3, none⟩) | 123 => vq = .int .i64 x3 | 124 => vq = .slice (some ⟨gb, 0, none⟩) 13 cp | 125 => vq = .pointer (some ⟨gb, 4, none⟩) | 126 => vq = .int .i64 x4 | 127 => vq = .slice (some ⟨gb, 0, none⟩) 13 cp | 128 => vq = .pointer (some ⟨gb, 5, none⟩) | 129 => vq = .int .i64 x5 | 130 => vq = .string nm | 131 => vq = .slice (some ⟨gb, 0, none⟩) 13 cp | 132 => vq = .pointer (some ⟨gb, 11, none⟩) | 133 => vq = .int .i64 (A : Int) | 134 => vq = .int .i64 ((A : Int) - 1) | 135 => vq = .string ct | 136 => vq = .string dt | 137 => vq = .agg #[.int .i64 x0, .int .i64 x1, .int .i64 x2, .int .i64 x3, .int .i64 x4, .int .i64 x5, .string ct, .string dt] | 138 => vq = .int .i64 ((p : Int) + (A : Int) + (q1 : Int) + (D : Int) + (q2 : Int)) | 9 => vq = .int .i64 ((p : Int) + (A : Int) + (q1 : Int) + (D : Int) + (q2 : Int)) | 10 => vq = .int .i64 0 | _ => True) (U := fun o w' => o.dst = none → w'.heap[w.heap.size]? = some (.cells #[.int .i64 x0, .int .i64 x1, .int .i64 x2, .int .i64 x3, .int .i64 x4, .int .i64 x5, .string ct, .string dt] 48 (0, 0))) (w' := w2) (.slice (some ⟨gb, 0, none⟩) 13 cp) ?_ ?_ ?_ ?_ ?_
        · (clear hV hI hC; go_simp <;> (first | rfl | simp | (rw [IntKind.wrap_i64]; omega)))
        · exact hC
        · exact Or.inl rfl
        · intro d hd; cases hd; rfl
        · intro h; cases h
      case o113 =>
        intro Q a w2 hC hV hI
        have e112 : a.eval (.tmp 112) = .slice (some ⟨gb, 0, none⟩) 13 cp := hV 112 (by simp [Op.operands]) (by kernel_rfl)
        have f112 : a.tmps.getD 112 undef = .slice (some ⟨gb, 0, none⟩) 13 cp := e112
        have g112 : a.tmps[112]?.getD undef = .slice (some ⟨gb, 0, none⟩) 13 cp := by rw [← Array.getD_eq_getD_getElem?]; exact e112
        refine opU_val (C := fun w' => Below w.heap.size w w' ∧ (w'.cell? ⟨gb, 0, none⟩ = some (.int .i64 x0) ∧ w'.cell? ⟨gb, 1, none⟩ = some (.int .i64 x1) ∧ w'.cell? ⟨gb, 2, none⟩ = some (.int .i64 x2) ∧ w'.cell? ⟨gb, 3, none⟩ = some (.int .i64 x3) ∧ w'.cell? ⟨gb, 4, none⟩ = some (.int .i64 x4) ∧ w'.cell? ⟨gb, 5, none⟩ = some (.int .i64 x5) ∧ w'.cell? ⟨gb, 11, none⟩ = some (.int .i64 (A : Int))) ∧ (w'.heap[w.heap.size]? = some (.cells zeroC.cells.toArray 48 (0, 0)) ∨ w'.heap[w.heap.size]? = some (.cells #[.int .i64 x0, .int .i64 x1, .int .i64 x2, .int .i64 x3, .int .i64 x4, .int .i64 x5, .string ct, .string dt] 48 (0, 0)))) (St := fun x y => y.heap[w.heap.size]? = x.heap[w.heap.size]? ∨ y.heap[w.heap.size]? = some (.cells #[.int .i64 x0, .int .i64 x1, .int .i64 x2, .int .i64 x3, .int .i64 x4, .int .i64 x5, .string ct, .string dt] 48 (0, 0))) (V := fun dq vq _ => match dq with | 112 => vq = .slice (some ⟨gb, 0, none⟩) 13 cp | 113 => vq = .pointer (some ⟨gb, 0, none⟩) | 114 => vq = .int .i64 x0 | 115 => vq = .slice (some ⟨gb, 0, none⟩) 13 cp | 116 => vq = .pointer (some ⟨gb, 1, none⟩) | 117 => vq = .int .i64 x1 | 118 => vq = .slice (some ⟨gb, 0, none⟩) 13 cp | 119 => vq = .pointer (some ⟨gb, 2, none⟩) | 120 => vq = .int .i64 x2 | 121 => vq = .slice (some ⟨gb, 0, none⟩) 13 cp | 122 => vq = .pointer (some ⟨gb, 3, none⟩) | 123 => vq = .int .i64 x3 | 124 => vq = .slice (some ⟨gb, 0, none⟩) 13 cp | 125 => vq = .pointer (some ⟨gb, 4, none⟩) | 126 => vq = .int .i64 x4 | 127 => vq = .slice (some ⟨gb, 0, none⟩) 13 cp | 128 => vq = .pointer (some ⟨gb, 5, none⟩) | 129 => vq = .int .i64 x5 | 130 => vq = .string nm | 131 => vq = .slice (some ⟨gb, 0, none⟩) 13 cp | 132 => vq = .pointer (some ⟨gb, 11, none⟩) | 133 => vq = .int .i64 (A : Int) | 134 => vq = .int .i64 ((A : Int) - 1) | 135 => vq = .string ct | 136 => vq = .string dt | 137 => vq = .agg #[.int .i64 x0, .int .i64 x1, .int .i64 x2, .int .i64 x3, .int .i64 x4, .int .i64 x5, .string ct, .string dt] | 138 => vq = .int .i64 ((p : Int) + (A : Int) + (q1 : Int) + (D : Int) + (q2 : Int)) | 9 => vq = .int .i64 ((p : Int) + (A : Int) + (q1 : Int) + (D : Int) + (q2 : Int)) | 10 => vq = .int .i64 0 | _ => True) (U := fun o w' => o.dst = none → w'.heap[w.heap.size]? = some (.cells #[.int .i64 x0, .int .i64 x1, .int .i64 x2, .int .i64 x3, .int .i64 x4, .int .i64 x5, .string ct, .string dt] 48 (0, 0))) (w' := w2) (.pointer (some ⟨gb, 0, none⟩)) ?_ ?_ ?_ ?_ ?_
        · (clear hV hI hC; go_simp <;> (first | rfl | simp | (rw [IntKind.wrap_i64]; omega)))
        · exact hC
        · exact Or.inl rfl
        · intro d hd; cases hd; rfl
        · intro h; cases h
      case o114 =>
        intro Q a w2 hC hV hI
        have e113 : a.eval (.tmp 113) = .pointer (some ⟨gb, 0, none⟩) := hV 113 (by simp [Op.operands]) (by kernel_rfl)
        have f113 : a.tmps.getD 113 undef = .pointer (some ⟨gb, 0, none⟩) := e113
        have g113 : a.tmps[113]?.getD undef = .pointer (some ⟨gb, 0, none⟩) := by rw [← Array.getD_eq_getD_getElem?]; exact e113
        have hK := KC.out w2 hC.2.1
        refine opU_val (C := fun w' => Below w.heap.size w w' ∧ (w'.cell? ⟨gb, 0, none⟩ = some (.int .i64 x0) ∧ w'.cell? ⟨gb, 1, none⟩ = some (.int .i64 x1) ∧ w'.cell? ⟨gb, 2, none⟩ = some (.int .i64 x2) ∧ w'.cell? ⟨gb, 3, none⟩ = some (.int .i64 x3) ∧ w'.cell? ⟨gb, 4, none⟩ = some (.int .i64 x4) ∧ w'.cell? ⟨gb, 5, none⟩ = some (.int .i64 x5) ∧ w'.cell? ⟨gb, 11, none⟩ = some (.int .i64 (A : Int))) ∧ (w'.heap[w.heap.size]? = some (.cells zeroC.cells.toArray 48 (0, 0)) ∨ w'.heap[w.heap.size]? = some (.cells #[.int .i64 x0, .int .i64 x1, .int .i64 x2, .int .i64 x3, .int .i64 x4, .int .i64 x5, .string ct, .string dt] 48 (0, 0)))) (St := fun x y => y.heap[w.heap.size]? = x.heap[w.heap.size]? ∨ y.heap[w.heap.size]? = some (.cells #[.int .i64 x0, .int .i64 x1, .int .i64 x2, .int .i64 x3, .int .i64 x4, .int .i64 x5, .string ct, .string dt] 48 (0, 0))) (V := fun dq vq _ => match dq with | 112 => vq = .slice (some ⟨gb, 0, none⟩) 13 cp | 113 => vq = .pointer (some ⟨gb, 0, none⟩) | 114 => vq = .int .i64 x0 | 115 => vq = .slice (some ⟨gb, 0, none⟩) 13 cp | 116 => vq = .pointer (some ⟨gb, 1, none⟩) | 117 => vq = .int .i64 x1 | 118 => vq = .slice (some ⟨gb, 0, none⟩) 13 cp | 119 => vq = .pointer (some ⟨gb, 2, none⟩) | 120 => vq = .int .i64 x2 | 121 => vq = .slice (some ⟨gb, 0, none⟩) 13 cp | 122 => vq = .pointer (some ⟨gb, 3, none⟩) | 123 => vq = .int .i64 x3 | 124 => vq = .slice (some ⟨gb, 0, none⟩) 13 cp | 125 => vq = .pointer (some ⟨gb, 4, none⟩) | 126 => vq = .int .i64 x4 | 127 => vq = .slice (some ⟨gb, 0, none⟩) 13 cp | 128 => vq = .pointer (some ⟨gb, 5, none⟩) | 129 => vq = .int .i64 x5 | 130 => vq = .string nm | 131 => vq = .slice (some ⟨gb, 0, none⟩) 13 cp | 132 => vq = .pointer (some ⟨gb, 11, none⟩) | 133 => vq = .int .i64 (A : Int) | 134 => vq = .int .i64 ((A : Int) - 1) | 135 => vq = .string ct | 136 => vq = .string dt | 137 => vq = .agg #[.int .i64 x0, .int .i64 x1, .int .i64 x2, .int .i64 x3, .int .i64 x4, .int .i64 x5, .string ct, .string dt] | 138 => vq = .int .i64 ((p : Int) + (A : Int) + (q1 : Int) + (D : Int) + (q2 : Int)) | 9 => vq = .int .i64 ((p : Int) + (A : Int) + (q1 : Int) + (D : Int) + (q2 : Int)) | 10 => vq = .int .i64 0 | _ => True) (U := fun o w' => o.dst = none → w'.heap[w.heap.size]? = some (.cells #[.int .i64 x0, .int .i64 x1, .int .i64 x2, .int .i64 x3, .int .i64 x4, .int .i64 x5, .string ct, .string dt] 48 (0, 0))) (w' := w2) (.int .i64 x0) ?_ ?_ ?_ ?_ ?_
        · (clear hV hI hC; go_simp <;> (first | rfl | simp | (rw [IntKind.wrap_i64]; omega)))
        · exact hC
        · exact Or.inl rfl
        · intro d hd; cases hd; rfl
        · intro h; cases h
      case o115 =>
        intro Q a w2 hC hV hI
        have e2 : a.eval (.tmp 2) = .slice (some ⟨gb, 0, none⟩) 13 cp := (hI 2 (by simp [Op.operands]) (by kernel_rfl)).trans rfl
        have f2 : a.tmps.getD 2 undef = .slice (some ⟨gb, 0, none⟩) 13 cp := e2
        have g2 : a.tmps[2]?.getD undef = .slice (some ⟨gb, 0, none⟩) 13 cp := by rw [← Array.getD_eq_getD_getElem?]; exact e2
        refine opU_val (C := fun w' => Below w.heap.size w w' ∧ (w'.cell? ⟨gb, 0, none⟩ = some (.int .i64 x0) ∧ w'.cell? ⟨gb, 1, none⟩ = some (.int .i64 x1) ∧ w'.cell? ⟨gb, 2, none⟩ = some (.int .i64 x2) ∧ w'.cell? ⟨gb, 3, none⟩ = some (.int .i64 x3) ∧ w'.cell? ⟨gb, 4, none⟩ = some (.int .i64 x4) ∧ w'.cell? ⟨gb, 5, none⟩ = some (.int .i64 x5) ∧ w'.cell? ⟨gb, 11, none⟩ = some (.int .i64 (A : Int))) ∧ (w'.heap[w.heap.size]? = some (.cells zeroC.cells.toArray 48 (0, 0)) ∨ w'.heap[w.heap.size]? = some (.cells #[.int .i64 x0, .int .i64 x1, .int .i64 x2, .int .i64 x3, .int .i64 x4, .int .i64 x5, .string ct, .string dt] 48 (0, 0)))) (St := fun x y => y.heap[w.heap.size]? = x.heap[w.heap.size]? ∨ y.heap[w.heap.size]? = some (.cells #[.int .i64 x0, .int .i64 x1, .int .i64 x2, .int .i64 x3, .int .i64 x4, .int .i64 x5, .string ct, .string dt] 48 (0, 0))) (V := fun dq vq _ => match dq with | 112 => vq = .slice (some ⟨gb, 0, none⟩) 13 cp | 113 => vq = .pointer (some ⟨gb, 0, none⟩) | 114 => vq = .int .i64 x0 | 115 => vq = .slice (some ⟨gb, 0, none⟩) 13 cp | 116 => vq = .pointer (some ⟨gb, 1, none⟩) | 117 => vq = .int .i64 x1 | 118 => vq = .slice (some ⟨gb, 0, none⟩) 13 cp | 119 => vq = .pointer (some ⟨gb, 2, none⟩) | 120 => vq = .int .i64 x2 | 121 => vq = .slice (some ⟨gb, 0, none⟩) 13 cp | 122 => vq = .pointer (some ⟨gb, 3, none⟩) | 123 => vq = .int .i64 x3 | 124 => vq = .slice (some ⟨gb, 0, none⟩) 13 cp | 125 => vq = .pointer (some ⟨gb, 4, none⟩) | 126 => vq = .int .i64 x4 | 127 => vq = .slice (some ⟨gb, 0, none⟩) 13 cp | 128 => vq = .pointer (some ⟨gb, 5, none⟩) | 129 => vq = .int .i64 x5 | 130 => vq = .string nm | 131 => vq = .slice (some ⟨gb, 0, none⟩) 13 cp | 132 => vq = .pointer (some ⟨gb, 11, none⟩) | 133 => vq = .int .i64 (A : Int) | 134 => vq = .int .i64 ((A : Int) - 1) | 135 => vq = .string ct | 136 => vq = .string dt | 137 => vq = .agg #[.int .i64 x0, .int .i64 x1, .int .i64 x2, .int .i64 x3, .int .i64 x4, .int .i64 x5, .string ct, .string dt] | 138 => vq = .int .i64 ((p : Int) + (A : Int) + (q1 : Int) + (D : Int) + (q2 : Int)) | 9 => vq = .int .i64 ((p : Int) + (A : Int) + (q1 : Int) + (D : Int) + (q2 : Int)) | 10 => vq = .int .i64 0 | _ => True) (U := fun o w' => o.dst = none → w'.heap[w.heap.size]? = some (.cells #[.int .i64 x0, .int .i64 x1, .int .i64 x2, .int .i64 x3, .int .i64 x4, .int .i64 x5, .string ct, .string dt] 48 (0, 0))) (w' := w2) (.slice (some ⟨gb, 0, none⟩) 13 cp) ?_ ?_ ?_ ?_ ?_
        · (clear hV hI hC; go_simp <;> (first | rfl | simp | (rw [IntKind.wrap_i64]; omega)))
        · exact hC
        · exact Or.inl rfl
        · intro d hd; cases hd; rfl
        · intro h; cases h
      case o116 =>
        intro Q a w2 hC hV hI
        have e115 : a.eval (.tmp 115) = .slice (some ⟨gb, 0, none⟩) 13 cp := hV 115 (by simp [Op.operands]) (by kernel_rfl)
        have f115 : a.tmps.getD 115 undef = .slice (some ⟨gb, 0, none⟩) 13 cp := e115
        have g115 : a.tmps[115]?.getD undef = .slice (some ⟨gb, 0, none⟩) 13 cp := by rw [← Array.getD_eq_getD_getElem?]; exact e115
        refine opU_val (C := fun w' => Below w.heap.size w w' ∧ (w'.cell? ⟨gb, 0, none⟩ = some (.int .i64 x0) ∧ w'.cell? ⟨gb, 1, none⟩ = some (.int .i64 x1) ∧ w'.cell? ⟨gb, 2, none⟩ = some (.int .i64 x2) ∧ w'.cell? ⟨gb, 3, none⟩ = some (.int .i64 x3) ∧ w'.cell? ⟨gb, 4, none⟩ = some (.int .i64 x4) ∧ w'.cell? ⟨gb, 5, none⟩ = some (.int .i64 x5) ∧ w'.cell? ⟨gb, 11, none⟩ = some (.int .i64 (A : Int))) ∧ (w'.heap[w.heap.size]? = some (.cells zeroC.cells.toArray 48 (0, 0)) ∨ w'.heap[w.heap.size]? = some (.cells #[.int .i64 x0, .int .i64 x1, .int .i64 x2, .int .i64 x3, .int .i64 x4, .int .i64 x5, .string ct, .string dt] 48 (0, 0)))) (St := fun x y => y.heap[w.heap.size]? = x.heap[w.heap.size]? ∨ y.heap[w.heap.size]? = some (.cells #[.int .i64 x0, .int .i64 x1, .int .i64 x2, .int .i64 x3, .int .i64 x4, .int .i64 x5, .string ct, .string dt] 48 (0, 0))) (V := fun dq vq _ => match dq with | 112 => vq = .slice (some ⟨gb, 0, none⟩) 13 cp | 113 => vq = .pointer (some ⟨gb, 0, none⟩) | 114 => vq = .int .i64 x0 | 115 => vq = .slice (some ⟨gb, 0, none⟩) 13 cp | 116 => vq = .pointer (some ⟨gb, 1, none⟩) | 117 => vq = .int .i64 x1 | 118 => vq = .slice (some ⟨gb, 0, none⟩) 13 cp | 119 => vq = .pointer (some ⟨gb, 2, none⟩) | 120 => vq = .int .i64 x2 | 121 => vq = .slice (some ⟨gb, 0, none⟩) 13 cp | 122 => vq = .pointer (some ⟨gb, 3, none⟩) | 123 => vq = .int .i64 x3 | 124 => vq = .slice (some ⟨gb, 0, none⟩) 13 cp | 125 => vq = .pointer (some ⟨gb, 4, none⟩) | 126 => vq = .int .i64 x4 | 127 => vq = .slice (some ⟨gb, 0, none⟩) 13 cp | 128 => vq = .pointer (some ⟨gb, 5, none⟩) | 129 => vq = .int .i64 x5 | 130 => vq = .string nm | 131 => vq = .slice (some ⟨gb, 0, none⟩) 13 cp | 132 => vq = .pointer (some ⟨gb, 11, none⟩) | 133 => vq = .int .i64 (A : Int) | 134 => vq = .int .i64 ((A : Int) - 1) | 135 => vq = .string ct | 136 => vq = .string dt | 137 => vq = .agg #[.int .i64 x0, .int .i64 x1, .int .i64 x2, .int .i64 x3, .int .i64 x4, .int .i64 x5, .string ct, .string dt] | 138 => vq = .int .i64 ((p : Int) + (A : Int) + (q1 : Int) + (D : Int) + (q2 : Int)) | 9 => vq = .int .i64 ((p : Int) + (A : Int) + (q1 : Int) + (D : Int) + (q2 : Int)) | 10 => vq = .int .i64 0 | _ => True) (U := fun o w' => o.dst = none → w'.heap[w.heap.size]? = some (.cells #[.int .i64 x0, .int .i64 x1, .int .i64 x2, .int .i64 x3, .int .i64 x4, .int .i64 x5, .string ct, .string dt] 48 (0, 0))) (w' := w2) (.pointer (some ⟨gb, 1, none⟩)) ?_ ?_ ?_ ?_ ?_
        · (clear hV hI hC; go_simp <;> (first | rfl | simp | (rw [IntKind.wrap_i64]; omega)))
        · exact hC
        · exact Or.inl rfl
        · intro d hd; cases hd; rfl
        · intro h; cases h
      case o117 =>
        intro Q a w2 hC hV hI
        have e116 : a.eval (.tmp 116) = .pointer (some ⟨gb, 1, none⟩) := hV 116 (by simp [Op.operands]) (by kernel_rfl)
        have f116 : a.tmps.getD 116 undef = .pointer (some ⟨gb, 1, none⟩) := e116
        have g116 : a.tmps[116]?.getD undef = .pointer (some ⟨gb, 1, none⟩) := by rw [← Array.getD_eq_getD_getElem?]; exact e116
        have hK := KC.out w2 hC.2.1
        refine opU_val (C := fun w' => Below w.heap.size w w' ∧ (w'.cell? ⟨gb, 0, none⟩ = some (.int .i64 x0) ∧ w'.cell? ⟨gb, 1, none⟩ = some (.int .i64 x1) ∧ w'.cell? ⟨gb, 2, none⟩ = some (.int .i64 x2) ∧ w'.cell? ⟨gb, 3, none⟩ = some (.int .i64 x3) ∧ w'.cell? ⟨gb, 4, none⟩ = some (.int .i64 x4) ∧ w'.cell? ⟨gb, 5, none⟩ = some (.int .i64 x5) ∧ w'.cell? ⟨gb, 11, none⟩ = some (.int .i64 (A : Int))) ∧ (w'.heap[w.heap.size]? = some (.cells zeroC.cells.toArray 48 (0, 0)) ∨ w'.heap[w.heap.size]? = some (.cells #[.int .i64 x0, .int .i64 x1, .int .i64 x2, .int .i64 x3, .int .i64 x4, .int .i64 x5, .string ct, .string dt] 48 (0, 0)))) (St := fun x y => y.heap[w.heap.size]? = x.heap[w.heap.size]? ∨ y.heap[w.heap.size]? = some (.cells #[.int .i64 x0, .int .i64 x1, .int .i64 x2, .int .i64 x3, .int .i64 x4, .int .i64 x5, .string ct, .string dt] 48 (0, 0))) (V := fun dq vq _ => match dq with | 112 => vq = .slice (some ⟨gb, 0, none⟩) 13 cp | 113 => vq = .pointer (some ⟨gb, 0, none⟩) | 114 => vq = .int .i64 x0 | 115 => vq = .slice (some ⟨gb, 0, none⟩) 13 cp | 116 => vq = .pointer (some ⟨gb, 1, none⟩) | 117 => vq = .int .i64 x1 | 118 => vq = .slice (some ⟨gb, 0, none⟩) 13 cp | 119 => vq = .pointer (some ⟨gb, 2, none⟩) | 120 => vq = .int .i64 x2 | 121 => vq = .slice (some ⟨gb, 0, none⟩) 13 cp | 122 => vq = .pointer (some ⟨gb, 3, none⟩) | 123 => vq = .int .i64 x3 | 124 => vq = .slice (some ⟨gb, 0, none⟩) 13 cp | 125 => vq = .pointer (some ⟨gb, 4, none⟩) | 126 => vq = .int .i64 x4 | 127 => vq = .slice (some ⟨gb, 0, none⟩) 13 cp | 128 => vq = .pointer (some ⟨gb, 5, none⟩) | 129 => vq = .int .i64 x5 | 130 => vq = .string nm | 131 => vq = .slice (some ⟨gb, 0, none⟩) 13 cp | 132 => vq = .pointer (some ⟨gb, 11, none⟩) | 133 => vq = .int .i64 (A : Int) | 134 => vq = .int .i64 ((A : Int) - 1) | 135 => vq = .string ct | 136 => vq = .string dt | 137 => vq = .agg #[.int .i64 x0, .int .i64 x1, .int .i64 x2, .int .i64 x3, .int .i64 x4, .int .i64 x5, .string ct, .string dt] | 138 => vq = .int .i64 ((p : Int) + (A : Int) + (q1 : Int) + (D : Int) + (q2 : Int)) | 9 => vq = .int .i64 ((p : Int) + (A : Int) + (q1 : Int) + (D : Int) + (q2 : Int)) | 10 => vq = .int .i64 0 | _ => True) (U := fun o w' => o.dst = none → w'.heap[w.heap.size]? = some (.cells #[.int .i64 x0, .int .i64 x1, .int .i64 x2, .int .i64 x3, .int .i64 x4, .int .i64 x5, .string ct, .string dt] 48 (0, 0))) (w' := w2) (.int .i64 x1) ?_ ?_ ?_ ?_ ?_
        · (clear hV hI hC; go_simp <;> (first | rfl | simp | (rw [IntKind.wrap_i64]; omega)))
        · exact hC
        · exact Or.inl rfl
        · intro d hd; cases hd; rfl
        · intro h; cases h
      case o118 =>
        intro Q a w2 hC hV hI
        have e2 : a.eval (.tmp 2) = .slice (some ⟨gb, 0, none⟩) 13 cp := (hI 2 (by simp [Op.operands]) (by kernel_rfl)).trans rfl
        have f2 : a.tmps.getD 2 undef = .slice (some ⟨gb, 0, none⟩) 13 cp := e2
        have g2 : a.tmps[2]?.getD undef = .slice (some ⟨gb, 0, none⟩) 13 cp := by rw [← Array.getD_eq_getD_getElem?]; exact e2
        refine opU_val (C := fun w' => Below w.heap.size w w' ∧ (w'.cell? ⟨gb, 0, none⟩ = some (.int .i64 x0) ∧ w'.cell? ⟨gb, 1, none⟩ = some (.int .i64 x1) ∧ w'.cell? ⟨gb, 2, none⟩ = some (.int .i64 x2) ∧ w'.cell? ⟨gb, 3, none⟩ = some (.int .i64 x3) ∧ w'.cell? ⟨gb, 4, none⟩ = some (.int .i64 x4) ∧ w'.cell? ⟨gb, 5, none⟩ = some (.int .i64 x5) ∧ w'.cell? ⟨gb, 11, none⟩ = some (.int .i64 (A : Int))) ∧ (w'.heap[w.heap.size]? = some (.cells zeroC.cells.toArray 48 (0, 0)) ∨ w'.heap[w.heap.size]? = some (.cells #[.int .i64 x0, .int .i64 x1, .int .i64 x2, .int .i64 x3, .int .i64 x4, .int .i64 x5, .string ct, .string dt] 48 (0, 0)))) (St := fun x y => y.heap[w.heap.size]? = x.heap[w.heap.size]? ∨ y.heap[w.heap.size]? = some (.cells #[.int .i64 x0, .int .i64 x1, .int .i64 x2, .int .i64 x3, .int .i64 x4, .int .i64 x5, .string ct, .string dt] 48 (0, 0))) (V := fun dq vq _ => match dq with | 112 => vq = .slice (some ⟨gb, 0, none⟩) 13 cp | 113 => vq = .pointer (some ⟨gb, 0, none⟩) | 114 => vq = .int .i64 x0 | 115 => vq = .slice (some ⟨gb, 0, none⟩) 13 cp | 116 => vq = .pointer (some ⟨gb, 1, none⟩) | 117 => vq = .int .i64 x1 | 118 => vq = .slice (some ⟨gb, 0, none⟩) 13 cp | 119 => vq = .pointer (some ⟨gb, 2, none⟩) | 120 => vq = .int .i64 x2 | 121 => vq = .slice (some ⟨gb, 0, none⟩) 13 cp | 122 => vq = .pointer (some ⟨gb, 3, none⟩) | 123 => vq = .int .i64 x3 | 124 => vq = .slice (some ⟨gb, 0, none⟩) 13 cp | 125 => vq = .pointer (some ⟨gb, 4, none⟩) | 126 => vq = .int .i64 x4 | 127 => vq = .slice (some ⟨gb, 0, none⟩) 13 cp | 128 => vq = .pointer (some ⟨gb, 5, none⟩) | 129 => vq = .int .i64 x5 | 130 => vq = .string nm | 131 => vq = .slice (some ⟨gb, 0, none⟩) 13 cp | 132 => vq = .pointer (some ⟨gb, 11, none⟩) | 133 => vq = .int .i64 (A : Int) | 134 => vq = .int .i64 ((A : Int) - 1) | 135 => vq = .string ct | 136 => vq = .string dt | 137 => vq = .agg #[.int .i64 x0, .int .i64 x1, .int .i64 x2, .int .i64 x3, .int .i64 x4, .int .i64 x5, .string ct, .string dt] | 138 => vq = .int .i64 ((p : Int) + (A : Int) + (q1 : Int) + (D : Int) + (q2 : Int)) | 9 => vq = .int .i64 ((p : Int) + (A : Int) + (q1 : Int) + (D : Int) + (q2 : Int)) | 10 => vq = .int .i64 0 | _ => True) (U := fun o w' => o.dst = none → w'.heap[w.heap.size]? = some (.cells #[.int .i64 x0, .int .i64 x1, .int .i64 x2, .int .i64 x3, .int .i64 x4, .int .i64 x5, .string ct, .string dt] 48 (0, 0))) (w' := w2) (.slice (some ⟨gb, 0, none⟩) 13 cp) ?_ ?_ ?_ ?_ ?_
        · (clear hV hI hC; go_simp <;> (first | rfl | simp | (rw [IntKind.wrap_i64]; omega)))
        · exact hC
        · exact Or.inl rfl
        · intro d hd; cases hd; rfl
        · intro h; cases h
      case o119 =>
        intro Q a w2 hC hV hI
        have e118 : a.eval (.tmp 118) = .slice (some ⟨gb, 0, none⟩) 13 cp := hV 118 (by simp [Op.operands]) (by kernel_rfl)
        have f118 : a.tmps.getD 118 undef = .slice (some ⟨gb, 0, none⟩) 13 cp := e118
        have g118 : a.tmps[118]?.getD undef = .slice (some ⟨gb, 0, none⟩) 13 cp := by rw [← Array.getD_eq_getD_getElem?]; exact e118
        refine opU_val (C := fun w' => Below w.heap.size w w' ∧ (w'.cell? ⟨gb, 0, none⟩ = some (.int .i64 x0) ∧ w'.cell? ⟨gb, 1, none⟩ = some (.int .i64 x1) ∧ w'.cell? ⟨gb, 2, none⟩ = some (.int .i64 x2) ∧ w'.cell? ⟨gb, 3, none⟩ = some (.int .i64 x3) ∧ w'.cell? ⟨gb, 4, none⟩ = some (.int .i64 x4) ∧ w'.cell? ⟨gb, 5, none⟩ = some (.int .i64 x5) ∧ w'.cell? ⟨gb, 11, none⟩ = some (.int .i64 (A : Int))) ∧ (w'.heap[w.heap.size]? = some (.cells zeroC.cells.toArray 48 (0, 0)) ∨ w'.heap[w.heap.size]? = some (.cells #[.int .i64 x0, .int .i64 x1, .int .i64 x2, .int .i64 x3, .int .i64 x4, .int .i64 x5, .string ct, .string dt] 48 (0, 0)))) (St := fun x y => y.heap[w.heap.size]? = x.heap[w.heap.size]? ∨ y.heap[w.heap.size]? = some (.cells #[.int .i64 x0, .int .i64 x1, .int .i64 x2, .int .i64 x3, .int .i64 x4, .int .i64 x5, .string ct, .string dt] 48 (0, 0))) (V := fun dq vq _ => match dq with | 112 => vq = .slice (some ⟨gb, 0, none⟩) 13 cp | 113 => vq = .pointer (some ⟨gb, 0, none⟩) | 114 => vq = .int .i64 x0 | 115 => vq = .slice (some ⟨gb, 0, none⟩) 13 cp | 116 => vq = .pointer (some ⟨gb, 1, none⟩) | 117 => vq = .int .i64 x1 | 118 => vq = .slice (some ⟨gb, 0, none⟩) 13 cp | 119 => vq = .pointer (some ⟨gb, 2, none⟩) | 120 => vq = .int .i64 x2 | 121 => vq = .slice (some ⟨gb, 0, none⟩) 13 cp | 122 => vq = .pointer (some ⟨gb, 3, none⟩) | 123 => vq = .int .i64 x3 | 124 => vq = .slice (some ⟨gb, 0, none⟩) 13 cp | 125 => vq = .pointer (some ⟨gb, 4, none⟩) | 126 => vq = .int .i64 x4 | 127 => vq = .slice (some ⟨gb, 0, none⟩) 13 cp | 128 => vq = .pointer (some ⟨gb, 5, none⟩) | 129 => vq = .int .i64 x5 | 130 => vq = .string nm | 131 => vq = .slice (some ⟨gb, 0, none⟩) 13 cp | 132 => vq = .pointer (some ⟨gb, 11, none⟩) | 133 => vq = .int .i64 (A : Int) | 134 => vq = .int .i64 ((A : Int) - 1) | 135 => vq = .string ct | 136 => vq = .string dt | 137 => vq = .agg #[.int .i64 x0, .int .i64 x1, .int .i64 x2, .int .i64 x3, .int .i64 x4, .int .i64 x5, .string ct, .string dt] | 138 => vq = .int .i64 ((p : Int) + (A : Int) + (q1 : Int) + (D : Int) + (q2 : Int)) | 9 => vq = .int .i64 ((p : Int) + (A : Int) + (q1 : Int) + (D : Int) + (q2 : Int)) | 10 => vq = .int .i64 0 | _ => True) (U := fun o w' => o.dst = none → w'.heap[w.heap.size]? = some (.cells #[.int .i64 x0, .int .i64 x1, .int .i64 x2, .int .i64 x3, .int .i64 x4, .int .i64 x5, .string ct, .string dt] 48 (0, 0))) (w' := w2) (.pointer (some ⟨gb, 2, none⟩)) ?_ ?_ ?_ ?_ ?_
        · (clear hV hI hC; go_simp <;> (first | rfl | simp | (rw [IntKind.wrap_i64]; omega)))
        · exact hC
        · exact Or.inl rfl
        · intro d hd; cases hd; rfl
        · intro h; cases h
      case o120 =>
        intro Q a w2 hC hV hI
        have e119 : a.eval (.tmp 119) = .pointer (some ⟨gb, 2, none⟩) := hV 119 (by simp [Op.operands]) (by kernel_rfl)
        have f119 : a.tmps.getD 119 undef = .pointer (some ⟨gb, 2, none⟩) := e119
        have g119 : a.tmps[119]?.getD undef = .pointer (some ⟨gb, 2, none⟩) := by rw [← Array.getD_eq_getD_getElem?]; exact e119
        have hK := KC.out w2 hC.2.1
        refine opU_val (C := fun w' => Below w.heap.size w w' ∧ (w'.cell? ⟨gb, 0, none⟩ = some (.int .i64 x0) ∧ w'.cell? ⟨gb, 1, none⟩ = some (.int .i64 x1) ∧ w'.cell? ⟨gb, 2, none⟩ = some (.int .i64 x2) ∧ w'.cell? ⟨gb, 3, none⟩ = some (.int .i64 x3) ∧ w'.cell? ⟨gb, 4, none⟩ = some (.int .i64 x4) ∧ w'.cell? ⟨gb, 5, none⟩ = some (.int .i64 x5) ∧ w'.cell? ⟨gb, 11, none⟩ = some (.int .i64 (A : Int))) ∧ (w'.heap[w.heap.size]? = some (.cells zeroC.cells.toArray 48 (0, 0)) ∨ w'.heap[w.heap.size]? = some (.cells #[.int .i64 x0, .int .i64 x1, .int .i64 x2, .int .i64 x3, .int .i64 x4, .int .i64 x5, .string ct, .string dt] 48 (0, 0)))) (St := fun x y => y.heap[w.heap.size]? = x.heap[w.heap.size]? ∨ y.heap[w.heap.size]? = some (.cells #[.int .i64 x0, .int .i64 x1, .int .i64 x2, .int .i64 x3, .int .i64 x4, .int .i64 x5, .string ct, .string dt] 48 (0, 0))) (V := fun dq vq _ => match dq with | 112 => vq = .slice (some ⟨gb, 0, none⟩) 13 cp | 113 => vq = .pointer (some ⟨gb, 0, none⟩) | 114 => vq = .int .i64 x0 | 115 => vq = .slice (some ⟨gb, 0, none⟩) 13 cp | 116 => vq = .pointer (some ⟨gb, 1, none⟩) | 117 => vq = .int .i64 x1 | 118 => vq = .slice (some ⟨gb, 0, none⟩) 13 cp | 119 => vq = .pointer (some ⟨gb, 2, none⟩) | 120 => vq = .int .i64 x2 | 121 => vq = .slice (some ⟨gb, 0, none⟩) 13 cp | 122 => vq = .pointer (some ⟨gb, 3, none⟩) | 123 => vq = .int .i64 x3 | 124 => vq = .slice (some ⟨gb, 0, none⟩) 13 cp | 125 => vq = .pointer (some ⟨gb, 4, none⟩) | 126 => vq = .int .i64 x4 | 127 => vq = .slice (some ⟨gb, 0, none⟩) 13 cp | 128 => vq = .pointer (some ⟨gb, 5, none⟩) | 129 => vq = .int .i64 x5 | 130 => vq = .string nm | 131 => vq = .slice (some ⟨gb, 0, none⟩) 13 cp | 132 => vq = .pointer (some ⟨gb, 11, none⟩) | 133 => vq = .int .i64 (A : Int) | 134 => vq = .int .i64 ((A : Int) - 1) | 135 => vq = .string ct | 136 => vq = .string dt | 137 => vq = .agg #[.int .i64 x0, .int .i64 x1, .int .i64 x2, .int .i64 x3, .int .i64 x4, .int .i64 x5, .string ct, .string dt] | 138 => vq = .int .i64 ((p : Int) + (A : Int) + (q1 : Int) + (D : Int) + (q2 : Int)) | 9 => vq = .int .i64 ((p : Int) + (A : Int) + (q1 : Int) + (D : Int) + (q2 : Int)) | 10 => vq = .int .i64 0 | _ => True) (U := fun o w' => o.dst = none → w'.heap[w.heap.size]? = some (.cells #[.int .i64 x0, .int .i64 x1, .int .i64 x2, .int .i64 x3, .int .i64 x4, .int .i64 x5, .string ct, .string dt] 48 (0, 0))) (w' := w2) (.int .i64 x2) ?_ ?_ ?_ ?_ ?_
        · (clear hV hI hC; go_simp <;> (first | rfl | simp | (rw [IntKind.wrap_i64]; omega)))
        · exact hC
        · exact Or.inl rfl
        · intro d hd; cases hd; rfl
        · intro h; cases h
      case o121 =>
        intro Q a w2 hC hV hI
        have e2 : a.eval (.tmp 2) = .slice (some ⟨gb, 0, none⟩) 13 cp := (hI 2 (by simp [Op.operands]) (by kernel_rfl)).trans rfl
        have f2 : a.tmps.getD 2 undef = .slice (some ⟨gb, 0, none⟩) 13 cp := e2
        have g2 : a.tmps[2]?.getD undef = .slice (some ⟨gb, 0, none⟩) 13 cp := by rw [← Array.getD_eq_getD_getElem?]; exact e2
        refine opU_val (C := fun w' => Below w.heap.size w w' ∧ (w'.cell? ⟨gb, 0, none⟩ = some (.int .i64 x0) ∧ w'.cell? ⟨gb, 1, none⟩ = some (.int .i64 x1) ∧ w'.cell? ⟨gb, 2, none⟩ = some (.int .i64 x2) ∧ w'.cell? ⟨gb, 3, none⟩ = some (.int .i64 x3) ∧ w'.cell? ⟨gb, 4, none⟩ = some (.int .i64 x4) ∧ w'.cell? ⟨gb, 5, none⟩ = some (.int .i64 x5) ∧ w'.cell? ⟨gb, 11, none⟩ = some (.int .i64 (A : Int))) ∧ (w'.heap[w.heap.size]? = some (.cells zeroC.cells.toArray 48 (0, 0)) ∨ w'.heap[w.heap.size]? = some (.cells #[.int .i64 x0, .int .i64 x1, .int .i64 x2, .int .i64 x3, .int .i64 x4, .int .i64 x5, .string ct, .string dt] 48 (0, 0)))) (St := fun x y => y.heap[w.heap.size]? = x.heap[w.heap.size]? ∨ y.heap[w.heap.size]? = some (.cells #[.int .i64 x0, .int .i64 x1, .int .i64 x2, .int .i64 x3, .int .i64 x4, .int .i64 x5, .string ct, .string dt] 48 (0, 0))) (V := fun dq vq _ => match dq with | 112 => vq = .slice (some ⟨gb, 0, none⟩) 13 cp | 113 => vq = .pointer (some ⟨gb, 0, none⟩) | 114 => vq = .int .i64 x0 | 115 => vq = .slice (some ⟨gb, 0, none⟩) 13 cp | 116 => vq = .pointer (some ⟨gb, 1, none⟩) | 117 => vq = .int .i64 x1 | 118 => vq = .slice (some ⟨gb, 0, none⟩) 13 cp | 119 => vq = .pointer (some ⟨gb, 2, none⟩) | 120 => vq = .int .i64 x2 | 121 => vq = .slice (some ⟨gb, 0, none⟩) 13 cp | 122 => vq = .pointer (some ⟨gb, 3, none⟩) | 123 => vq = .int .i64 x3 | 124 => vq = .slice (some ⟨gb, 0, none⟩) 13 cp | 125 => vq = .pointer (some ⟨gb, 4, none⟩) | 126 => vq = .int .i64 x4 | 127 => vq = .slice (some ⟨gb, 0, none⟩) 13 cp | 128 => vq = .pointer (some ⟨gb, 5, none⟩) | 129 => vq = .int .i64 x5 | 130 => vq = .string nm | 131 => vq = .slice (some ⟨gb, 0, none⟩) 13 cp | 132 => vq = .pointer (some ⟨gb, 11, none⟩) | 133 => vq = .int .i64 (A : Int) | 134 => vq = .int .i64 ((A : Int) - 1) | 135 => vq = .string ct | 136 => vq = .string dt | 137 => vq = .agg #[.int .i64 x0, .int .i64 x1, .int .i64 x2, .int .i64 x3, .int .i64 x4, .int .i64 x5, .string ct, .string dt] | 138 => vq = .int .i64 ((p : Int) + (A : Int) + (q1 : Int) + (D : Int) + (q2 : Int)) | 9 => vq = .int .i64 ((p : Int) + (A : Int) + (q1 : Int) + (D : Int) + (q2 : Int)) | 10 => vq = .int .i64 0 | _ => True) (U := fun o w' => o.dst = none → w'.heap[w.heap.size]? = some (.cells #[.int .i64 x0, .int .i64 x1, .int .i64 x2, .int .i64 x3, .int .i64 x4, .int .i64 x5, .string ct, .string dt] 48 (0, 0))) (w' := w2) (.slice (some ⟨gb, 0, none⟩) 13 cp) ?_ ?_ ?_ ?_ ?_
        · (clear hV hI hC; go_simp <;> (first | rfl | simp | (rw [IntKind.wrap_i64]; omega)))
        · exact hC
        · exact Or.inl rfl
        · intro d hd; cases hd; rfl
        · intro h; cases h
      case o122 =>
        intro Q a w2 hC hV hI
        have e121 : a.eval (.tmp 121) = .slice (some ⟨gb, 0, none⟩) 13 cp := hV 121 (by simp [Op.operands]) (by kernel_rfl)
        have f121 : a.tmps.getD 121 undef = .slice (some ⟨gb, 0, none⟩) 13 cp := e121
        have g121 : a.tmps[121]?.getD undef = .slice (some ⟨gb, 0, none⟩) 13 cp := by rw [← Array.getD_eq_getD_getElem?]; exact e121
        refine opU_val (C := fun w' => Below w.heap.size w w' ∧ (w'.cell? ⟨gb, 0, none⟩ = some (.int .i64 x0) ∧ w'.cell? ⟨gb, 1, none⟩ = some (.int .i64 x1) ∧ w'.cell? ⟨gb, 2, none⟩ = some (.int .i64 x2) ∧ w'.cell? ⟨gb, 3, none⟩ = some (.int .i64 x3) ∧ w'.cell? ⟨gb, 4, none⟩ = some (.int .i64 x4) ∧ w'.cell? ⟨gb, 5, none⟩ = some (.int .i64 x5) ∧ w'.cell? ⟨gb, 11, none⟩ = some (.int .i64 (A : Int))) ∧ (w'.heap[w.heap.size]? = some (.cells zeroC.cells.toArray 48 (0, 0)) ∨ w'.heap[w.heap.size]? = some (.cells #[.int .i64 x0, .int .i64 x1, .int .i64 x2, .int .i64 x3, .int .i64 x4, .int .i64 x5, .string ct, .string dt] 48 (0, 0)))) (St := fun x y => y.heap[w.heap.size]? = x.heap[w.heap.size]? ∨ y.heap[w.heap.size]? = some (.cells #[.int .i64 x0, .int .i64 x1, .int .i64 x2, .int .i64 x3, .int .i64 x4, .int .i64 x5, .string ct, .string dt] 48 (0, 0))) (V := fun dq vq _ => match dq with | 112 => vq = .slice (some ⟨gb, 0, none⟩) 13 cp | 113 => vq = .pointer (some ⟨gb, 0, none⟩) | 114 => vq = .int .i64 x0 | 115 => vq = .slice (some ⟨gb, 0, none⟩) 13 cp | 116 => vq = .pointer (some ⟨gb, 1, none⟩) | 117 => vq = .int .i64 x1 | 118 => vq = .slice (some ⟨gb, 0, none⟩) 13 cp | 119 => vq = .pointer (some ⟨gb, 2, none⟩) | 120 => vq = .int .i64 x2 | 121 => vq = .slice (some ⟨gb, 0, none⟩) 13 cp | 122 => vq = .pointer (some ⟨gb, 3, none⟩) | 123 => vq = .int .i64 x3 | 124 => vq = .slice (some ⟨gb, 0, none⟩) 13 cp | 125 => vq = .pointer (some ⟨gb, 4, none⟩) | 126 => vq = .int .i64 x4 | 127 => vq = .slice (some ⟨gb, 0, none⟩) 13 cp | 128 => vq = .pointer (some ⟨gb, 5, none⟩) | 129 => vq = .int .i64 x5 | 130 => vq = .string nm | 131 => vq = .slice (some ⟨gb, 0, none⟩) 13 cp | 132 => vq = .pointer (some ⟨gb, 11, none⟩) | 133 => vq = .int .i64 (A : Int) | 134 => vq = .int .i64 ((A : Int) - 1) | 135 => vq = .string ct | 136 => vq = .string dt | 137 => vq = .agg #[.int .i64 x0, .int .i64 x1, .int .i64 x2, .int .i64 x3, .int .i64 x4, .int .i64 x5, .string ct, .string dt] | 138 => vq = .int .i64 ((p : Int) + (A : Int) + (q1 : Int) + (D : Int) + (q2 : Int)) | 9 => vq = .int .i64 ((p : Int) + (A : Int) + (q1 : Int) + (D : Int) + (q2 : Int)) | 10 => vq = .int .i64 0 | _ => True) (U := fun o w' => o.dst = none → w'.heap[w.heap.size]? = some (.cells #[.int .i64 x0, .int .i64 x1, .int .i64 x2, .int .i64 x3, .int .i64 x4, .int .i64 x5, .string ct, .string dt] 48 (0, 0))) (w' := w2) (.pointer (some ⟨gb, 3, none⟩)) ?_ ?_ ?_ ?_ ?_
        · (clear hV hI hC; go_simp <;> (first | rfl | simp | (rw [IntKind.wrap_i64]; omega)))
        · exact hC
        · exact Or.inl rfl
        · intro d hd; cases hd; rfl
        · intro h; cases h
      case o123 =>
        intro Q a w2 hC hV hI
        have e122 : a.eval (.tmp 122) = .pointer (some ⟨gb, 3, none⟩) := hV 122 (by simp [Op.operands]) (by kernel_rfl)
        have f122 : a.tmps.getD 122 undef = .pointer (some ⟨gb, 3, none⟩) := e122
        have g122 : a.tmps[122]?.getD undef = .pointer (some ⟨gb, 3, none⟩) := by rw [← Array.getD_eq_getD_getElem?]; exact e122
        have hK := KC.out w2 hC.2.1
        refine opU_val (C := fun w' => Below w.heap.size w w' ∧ (w'.cell? ⟨gb, 0, none⟩ = some (.int .i64 x0) ∧ w'.cell? ⟨gb, 1, none⟩ = some (.int .i64 x1) ∧ w'.cell? ⟨gb, 2, none⟩ = some (.int .i64 x2) ∧ w'.cell? ⟨gb, 3, none⟩ = some (.int .i64 x3) ∧ w'.cell? ⟨gb, 4, none⟩ = some (.int .i64 x4) ∧ w'.cell? ⟨gb, 5, none⟩ = some (.int .i64 x5) ∧ w'.cell? ⟨gb, 11, none⟩ = some (.int .i64 (A : Int))) ∧ (w'.heap[w.heap.size]? = some (.cells zeroC.cells.toArray 48 (0, 0)) ∨ w'.heap[w.heap.size]? = some (.cells #[.int .i64 x0, .int .i64 x1, .int .i64 x2, .int .i64 x3, .int .i64 x4, .int .i64 x5, .string ct, .string dt] 48 (0, 0)))) (St := fun x y => y.heap[w.heap.size]? = x.heap[w.heap.size]? ∨ y.heap[w.heap.size]? = some (.cells #[.int .i64 x0, .int .i64 x1, .int .i64 x2, .int .i64 x3, .int .i64 x4, .int .i64 x5, .string ct, .string dt] 48 (0, 0))) (V := fun dq vq _ => match dq with | 112 => vq = .slice (some ⟨gb, 0, none⟩) 13 cp | 113 => vq = .pointer (some ⟨gb, 0, none⟩) | 114 => vq = .int .i64 x0 | 115 => vq = .slice (some ⟨gb, 0, none⟩) 13 cp | 116 => vq = .pointer (some ⟨gb, 1, none⟩) | 117 => vq = .int .i64 x1 | 118 => vq = .slice (some ⟨gb, 0, none⟩) 13 cp | 119 => vq = .pointer (some ⟨gb, 2, none⟩) | 120 => vq = .int .i64 x2 | 121 => vq = .slice (some ⟨gb, 0, none⟩) 13 cp | 122 => vq = .pointer (some ⟨gb, 3, none⟩) | 123 => vq = .int .i64 x3 | 124 => vq = .slice (some ⟨gb, 0, none⟩) 13 cp | 125 => vq = .pointer (some ⟨gb, 4, none⟩) | 126 => vq = .int .i64 x4 | 127 => vq = .slice (some ⟨gb, 0, none⟩) 13 cp | 128 => vq = .pointer (some ⟨gb, 5, none⟩) | 129 => vq = .int .i64 x5 | 130 => vq = .string nm | 131 => vq = .slice (some ⟨gb, 0, none⟩) 13 cp | 132 => vq = .pointer (some ⟨gb, 11, none⟩) | 133 => vq = .int .i64 (A : Int) | 134 => vq = .int .i64 ((A : Int) - 1) | 135 => vq = .string ct | 136 => vq = .string dt | 137 => vq = .agg #[.int .i64 x0, .int .i64 x1, .int .i64 x2, .int .i64 x3, .int .i64 x4, .int .i64 x5, .string ct, .string dt] | 138 => vq = .int .i64 ((p : Int) + (A : Int) + (q1 : Int) + (D : Int) + (q2 : Int)) | 9 => vq = .int .i64 ((p : Int) + (A : Int) + (q1 : Int) + (D : Int) + (q2 : Int)) | 10 => vq = .int .i64 0 | _ => True) (U := fun o w' => o.dst = none → w'.heap[w.heap.size]? = some (.cells #[.int .i64 x0, .int .i64 x1, .int .i64 x2, .int .i64 x3, .int .i64 x4, .int .i64 x5, .string ct, .string dt] 48 (0, 0))) (w' := w2) (.int .i64 x3) ?_ ?_ ?_ ?_ ?_
        · (clear hV hI hC; go_simp <;> (first | rfl | simp | (rw [IntKind.wrap_i64]; omega)))
        · exact hC
        · exact Or.inl rfl
        · intro d hd; cases hd; rfl
        · intro h; cases h
      case o124 =>
        intro Q a w2 hC hV hI
        have e2 : a.eval (.tmp 2) = .slice (some ⟨gb, 0, none⟩) 13 cp := (hI 2 (by simp [Op.operands]) (by kernel_rfl)).trans rfl
        have f2 : a.tmps.getD 2 undef = .slice (some ⟨gb, 0, none⟩) 13 cp := e2
        have g2 : a.tmps[2]?.getD undef = .slice (some ⟨gb, 0, none⟩) 13 cp := by rw [← Array.getD_eq_getD_getElem?]; exact e2
        refine opU_val (C := fun w' => Below w.heap.size w w' ∧ (w'.cell? ⟨gb, 0, none⟩ = some (.int .i64 x0) ∧ w'.cell? ⟨gb, 1, none⟩ = some (.int .i64 x1) ∧ w'.cell? ⟨gb, 2, none⟩ = some (.int .i64 x2) ∧ w'.cell? ⟨gb, 3, none⟩ = some (.int .i64 x3) ∧ w'.cell? ⟨gb, 4, none⟩ = some (.int .i64 x4) ∧ w'.cell? ⟨gb, 5, none⟩ = some (.int .i64 x5) ∧ w'.cell? ⟨gb, 11, none⟩ = some (.int .i64 (A : Int))) ∧ (w'.heap[w.heap.size]? = some (.cells zeroC.cells.toArray 48 (0, 0)) ∨ w'.heap[w.heap.size]? = some (.cells #[.int .i64 x0, .int .i64 x1, .int .i64 x2, .int .i64 x3, .int .i64 x4, .int .i64 x5, .string ct, .string dt] 48 (0, 0)))) (St := fun x y => y.heap[w.heap.size]? = x.heap[w.heap.size]? ∨ y.heap[w.heap.size]? = some (.cells #[.int .i64 x0, .int .i64 x1, .int .i64 x2, .int .i64 x3, .int .i64 x4, .int .i64 x5, .string ct, .string dt] 48 (0, 0))) (V := fun dq vq _ => match dq with | 112 => vq = .slice (some ⟨gb, 0, none⟩) 13 cp | 113 => vq = .pointer (some ⟨gb, 0, none⟩) | 114 => vq = .int .i64 x0 | 115 => vq = .slice (some ⟨gb, 0, none⟩) 13 cp | 116 => vq = .pointer (some ⟨gb, 1, none⟩) | 117 => vq = .int .i64 x1 | 118 => vq = .slice (some ⟨gb, 0, none⟩) 13 cp | 119 => vq = .pointer (some ⟨gb, 2, none⟩) | 120 => vq = .int .i64 x2 | 121 => vq = .slice (some ⟨gb, 0, none⟩) 13 cp | 122 => vq = .pointer (some ⟨gb, 3, none⟩) | 123 => vq = .int .i64 x3 | 124 => vq = .slice (some ⟨gb, 0, none⟩) 13 cp | 125 => vq = .pointer (some ⟨gb, 4, none⟩) | 126 => vq = .int .i64 x4 | 127 => vq = .slice (some ⟨gb, 0, none⟩) 13 cp | 128 => vq = .pointer (some ⟨gb, 5, none⟩) | 129 => vq = .int .i64 x5 | 130 => vq = .string nm | 131 => vq = .slice (some ⟨gb, 0, none⟩) 13 cp | 132 => vq = .pointer (some ⟨gb, 11, none⟩) | 133 => vq = .int .i64 (A : Int) | 134 => vq = .int .i64 ((A : Int) - 1) | 135 => vq = .string ct | 136 => vq = .string dt | 137 => vq = .agg #[.int .i64 x0, .int .i64 x1, .int .i64 x2, .int .i64 x3, .int .i64 x4, .int .i64 x5, .string ct, .string dt] | 138 => vq = .int .i64 ((p : Int) + (A : Int) + (q1 : Int) + (D : Int) + (q2 : Int)) | 9 => vq = .int .i64 ((p : Int) + (A : Int) + (q1 : Int) + (D : Int) + (q2 : Int)) | 10 => vq = .int .i64 0 | _ => True) (U := fun o w' => o.dst = none → w'.heap[w.heap.size]? = some (.cells #[.int .i64 x0, .int .i64 x1, .int .i64 x2, .int .i64 x3, .int .i64 x4, .int .i64 x5, .string ct, .string dt] 48 (0, 0))) (w' := w2) (.slice (some ⟨gb, 0, none⟩) 13 cp) ?_ ?_ ?_ ?_ ?_
        · (clear hV hI hC; go_simp <;> (first | rfl | simp | (rw [IntKind.wrap_i64]; omega)))
        · exact hC
        · exact Or.inl rfl
        · intro d hd; cases hd; rfl
        · intro h; cases h
      case o125 =>
        intro Q a w2 hC hV hI
        have e124 : a.eval (.tmp 124) = .slice (some ⟨gb, 0, none⟩) 13 cp := hV 124 (by simp [Op.operands]) (by kernel_rfl)
        have f124 : a.tmps.getD 124 undef = .slice (some ⟨gb, 0, none⟩) 13 cp := e124
        have g124 : a.tmps[124]?.getD undef = .slice (some ⟨gb, 0, none⟩) 13 cp := by rw [← Array.getD_eq_getD_getElem?]; exact e124
        refine opU_val (C := fun w' => Below w.heap.size w w' ∧ (w'.cell? ⟨gb, 0, none⟩ = some (.int .i64 x0) ∧ w'.cell? ⟨gb, 1, none⟩ = some (.int .i64 x1) ∧ w'.cell? ⟨gb, 2, none⟩ = some (.int .i64 x2) ∧ w'.cell? ⟨gb, 3, none⟩ = some (.int .i64 x3) ∧ w'.cell? ⟨gb, 4, none⟩ = some (.int .i64 x4) ∧ w'.cell? ⟨gb, 5, none⟩ = some (.int .i64 x5) ∧ w'.cell? ⟨gb, 11, none⟩ = some (.int .i64 (A : Int))) ∧ (w'.heap[w.heap.size]? = some (.cells zeroC.cells.toArray 48 (0, 0)) ∨ w'.heap[w.heap.size]? = some (.cells #[.int .i64 x0, .int .i64 x1, .int .i64 x2, .int .i64 x3, .int .i64 x4, .int .i64 x5, .string ct, .string dt] 48 (0, 0)))) (St := fun x y => y.heap[w.heap.size]? = x.heap[w.heap.size]? ∨ y.heap[w.heap.size]? = some (.cells #[.int .i64 x0, .int .i64 x1, .int .i64 x2, .int .i64 x3, .int .i64 x4, .int .i64 x5, .string ct, .string dt] 48 (0, 0))) (V := fun dq vq _ => match dq with | 112 => vq = .slice (some ⟨gb, 0, none⟩) 13 cp | 113 => vq = .pointer (some ⟨gb, 0, none⟩) | 114 => vq = .int .i64 x0 | 115 => vq = .slice (some ⟨gb, 0, none⟩) 13 cp | 116 => vq = .pointer (some ⟨gb, 1, none⟩) | 117 => vq = .int .i64 x1 | 118 => vq = .slice (some ⟨gb, 0, none⟩) 13 cp | 119 => vq = .pointer (some ⟨gb, 2, none⟩) | 120 => vq = .int .i64 x2 | 121 => vq = .slice (some ⟨gb, 0, none⟩) 13 cp | 122 => vq = .pointer (some ⟨gb, 3, none⟩) | 123 => vq = .int .i64 x3 | 124 => vq = .slice (some ⟨gb, 0, none⟩) 13 cp | 125 => vq = .pointer (some ⟨gb, 4, none⟩) | 126 => vq = .int .i64 x4 | 127 => vq = .slice (some ⟨gb, 0, none⟩) 13 cp | 128 => vq = .pointer (some ⟨gb, 5, none⟩) | 129 => vq = .int .i64 x5 | 130 => vq = .string nm | 131 => vq = .slice (some ⟨gb, 0, none⟩) 13 cp | 132 => vq = .pointer (some ⟨gb, 11, none⟩) | 133 => vq = .int .i64 (A : Int) | 134 => vq = .int .i64 ((A : Int) - 1) | 135 => vq = .string ct | 136 => vq = .string dt | 137 => vq = .agg #[.int .i64 x0, .int .i64 x1, .int .i64 x2, .int .i64 x3, .int .i64 x4, .int .i64 x5, .string ct, .string dt] | 138 => vq = .int .i64 ((p : Int) + (A : Int) + (q1 : Int) + (D : Int) + (q2 : Int)) | 9 => vq = .int .i64 ((p : Int) + (A : Int) + (q1 : Int) + (D : Int) + (q2 : Int)) | 10 => vq = .int .i64 0 | _ => True) (U := fun o w' => o.dst = none → w'.heap[w.heap.size]? = some (.cells #[.int .i64 x0, .int .i64 x1, .int .i64 x2, .int .i64 x3, .int .i64 x4, .int .i64 x5, .string ct, .string dt] 48 (0, 0))) (w' := w2) (.pointer (some ⟨gb, 4, none⟩)) ?_ ?_ ?_ ?_ ?_
        · (clear hV hI hC; go_simp <;> (first | rfl | simp | (rw [IntKind.wrap_i64]; omega)))
        · exact hC
        · exact Or.inl rfl
        · intro d hd; cases hd; rfl
        · intro h; cases h
      case o126 =>
        intro Q a w2 hC hV hI
        have e125 : a.eval (.tmp 125) = .pointer (some ⟨gb, 4, none⟩) := hV 125 (by simp [Op.operands]) (by kernel_rfl)
        have f125 : a.tmps.getD 125 undef = .pointer (some ⟨gb, 4, none⟩) := e125
        have g125 : a.tmps[125]?.getD undef = .pointer (some ⟨gb, 4, none⟩) := by rw [← Array.getD_eq_getD_getElem?]; exact e125
        have hK := KC.out w2 hC.2.1
        refine opU_val (C := fun w' => Below w.heap.size w w' ∧ (w'.cell? ⟨gb, 0, none⟩ = some (.int .i64 x0) ∧ w'.cell? ⟨gb, 1, none⟩ = some (.int .i64 x1) ∧ w'.cell? ⟨gb, 2, none⟩ = some (.int .i64 x2) ∧ w'.cell? ⟨gb, 3, none⟩ = some (.int .i64 x3) ∧ w'.cell? ⟨gb, 4, none⟩ = some (.int .i64 x4) ∧ w'.cell? ⟨gb, 5, none⟩ = some (.int .i64 x5) ∧ w'.cell? ⟨gb, 11, none⟩ = some (.int .i64 (A : Int))) ∧ (w'.heap[w.heap.size]? = some (.cells zeroC.cells.toArray 48 (0, 0)) ∨ w'.heap[w.heap.size]? = some (.cells #[.int .i64 x0, .int .i64 x1, .int .i64 x2, .int .i64 x3, .int .i64 x4, .int .i64 x5, .string ct, .string dt] 48 (0, 0)))) (St := fun x y => y.heap[w.heap.size]? = x.heap[w.heap.size]? ∨ y.heap[w.heap.size]? = some (.cells #[.int .i64 x0, .int .i64 x1, .int .i64 x2, .int .i64 x3, .int .i64 x4, .int .i64 x5, .string ct, .string dt] 48 (0, 0))) (V := fun dq vq _ => match dq with | 112 => vq = .slice (some ⟨gb, 0, none⟩) 13 cp | 113 => vq = .pointer (some ⟨gb, 0, none⟩) | 114 => vq = .int .i64 x0 | 115 => vq = .slice (some ⟨gb, 0, none⟩) 13 cp | 116 => vq = .pointer (some ⟨gb, 1, none⟩) | 117 => vq = .int .i64 x1 | 118 => vq = .slice (some ⟨gb, 0, none⟩) 13 cp | 119 => vq = .pointer (some ⟨gb, 2, none⟩) | 120 => vq = .int .i64 x2 | 121 => vq = .slice (some ⟨gb, 0, none⟩) 13 cp | 122 => vq = .pointer (some ⟨gb, 3, none⟩) | 123 => vq = .int .i64 x3 | 124 => vq = .slice (some ⟨gb, 0, none⟩) 13 cp | 125 => vq = .pointer (some ⟨gb, 4, none⟩) | 126 => vq = .int .i64 x4 | 127 => vq = .slice (some ⟨gb, 0, none⟩) 13 cp | 128 => vq = .pointer (some ⟨gb, 5, none⟩) | 129 => vq = .int .i64 x5 | 130 => vq = .string nm | 131 => vq = .slice (some ⟨gb, 0, none⟩) 13 cp | 132 => vq = .pointer (some ⟨gb, 11, none⟩) | 133 => vq = .int .i64 (A : Int) | 134 => vq = .int .i64 ((A : Int) - 1) | 135 => vq = .string ct | 136 => vq = .string dt | 137 => vq = .agg #[.int .i64 x0, .int .i64 x1, .int .i64 x2, .int .i64 x3, .int .i64 x4, .int .i64 x5, .string ct, .string dt] | 138 => vq = .int .i64 ((p : Int) + (A : Int) + (q1 : Int) + (D : Int) + (q2 : Int)) | 9 => vq = .int .i64 ((p : Int) + (A : Int) + (q1 : Int) + (D : Int) + (q2 : Int)) | 10 => vq = .int .i64 0 | _ => True) (U := fun o w' => o.dst = none → w'.heap[w.heap.size]? = some (.cells #[.int .i64 x0, .int .i64 x1, .int .i64 x2, .int .i64 x3, .int .i64 x4, .int .i64 x5, .string ct, .string dt] 48 (0, 0))) (w' := w2) (.int .i64 x4) ?_ ?_ ?_ ?_ ?_
        · (clear hV hI hC; go_simp <;> (first | rfl | simp | (rw [IntKind.wrap_i64]; omega)))
        · exact hC
        · exact Or.inl rfl
        · intro d hd; cases hd; rfl
        · intro h; cases h
      case o127 =>
        intro Q a w2 hC hV hI
        have e2 : a.eval (.tmp 2) = .slice (some ⟨gb, 0, none⟩) 13 cp := (hI 2 (by simp [Op.operands]) (by kernel_rfl)).trans rfl
        have f2 : a.tmps.getD 2 undef = .slice (some ⟨gb, 0, none⟩) 13 cp := e2
        have g2 : a.tmps[2]?.getD undef = .slice (some ⟨gb, 0, none⟩) 13 cp := by rw [← Array.getD_eq_getD_getElem?]; exact e2
        refine opU_val (C := fun w' => Below w.heap.size w w' ∧ (w'.cell? ⟨gb, 0, none⟩ = some (.int .i64 x0) ∧ w'.cell? ⟨gb, 1, none⟩ = some (.int .i64 x1) ∧ w'.cell? ⟨gb, 2, none⟩ = some (.int .i64 x2) ∧ w'.cell? ⟨gb, 3, none⟩ = some (.int .i64 x3) ∧ w'.cell? ⟨gb, 4, none⟩ = some (.int .i64 x4) ∧ w'.cell? ⟨gb, 5, none⟩ = some (.int .i64 x5) ∧ w'.cell? ⟨gb, 11, none⟩ = some (.int .i64 (A : Int))) ∧ (w'.heap[w.heap.size]? = some (.cells zeroC.cells.toArray 48 (0, 0)) ∨ w'.heap[w.heap.size]? = some (.cells #[.int .i64 x0, .int .i64 x1, .int .i64 x2, .int .i64 x3, .int .i64 x4, .int .i64 x5, .string ct, .string dt] 48 (0, 0)))) (St := fun x y => y.heap[w.heap.size]? = x.heap[w.heap.size]? ∨ y.heap[w.heap.size]? = some (.cells #[.int .i64 x0, .int .i64 x1, .int .i64 x2, .int .i64 x3, .int .i64 x4, .int .i64 x5, .string ct, .string dt] 48 (0, 0))) (V := fun dq vq _ => match dq with | 112 => vq = .slice (some ⟨gb, 0, none⟩) 13 cp | 113 => vq = .pointer (some ⟨gb, 0, none⟩) | 114 => vq = .int .i64 x0 | 115 => vq = .slice (some ⟨gb, 0, none⟩) 13 cp | 116 => vq = .pointer (some ⟨gb, 1, none⟩) | 117 => vq = .int .i64 x1 | 118 => vq = .slice (some ⟨gb, 0, none⟩) 13 cp | 119 => vq = .pointer (some ⟨gb, 2, none⟩) | 120 => vq = .int .i64 x2 | 121 => vq = .slice (some ⟨gb, 0, none⟩) 13 cp | 122 => vq = .pointer (some ⟨gb, 3, none⟩) | 123 => vq = .int .i64 x3 | 124 => vq = .slice (some ⟨gb, 0, none⟩) 13 cp | 125 => vq = .pointer (some ⟨gb, 4, none⟩) | 126 => vq = .int .i64 x4 | 127 => vq = .slice (some ⟨gb, 0, none⟩) 13 cp | 128 => vq = .pointer (some ⟨gb, 5, none⟩) | 129 => vq = .int .i64 x5 | 130 => vq = .string nm | 131 => vq = .slice (some ⟨gb, 0, none⟩) 13 cp | 132 => vq = .pointer (some ⟨gb, 11, none⟩) | 133 => vq = .int .i64 (A : Int) | 134 => vq = .int .i64 ((A : Int) - 1) | 135 => vq = .string ct | 136 => vq = .string dt | 137 => vq = .agg #[.int .i64 x0, .int .i64 x1, .int .i64 x2, .int .i64 x3, .int .i64 x4, .int .i64 x5, .string ct, .string dt] | 138 => vq = .int .i64 ((p : Int) + (A : Int) + (q1 : Int) + (D : Int) + (q2 : Int)) | 9 => vq = .int .i64 ((p : Int) + (A : Int) + (q1 : Int) + (D : Int) + (q2 : Int)) | 10 => vq = .int .i64 0 | _ => True) (U := fun o w' => o.dst = none → w'.heap[w.heap.size]? = some (.cells #[.int .i64 x0, .int .i64 x1, .int .i64 x2, .int .i64 x3, .int .i64 x4, .int .i64 x5, .string ct, .string dt] 48 (0, 0))) (w' := w2) (.slice (some ⟨gb, 0, none⟩) 13 cp) ?_ ?_ ?_ ?_ ?_
        · (clear hV hI hC; go_simp <;> (first | rfl | simp | (rw [IntKind.wrap_i64]; omega)))
        · exact hC
        · exact Or.inl rfl
        · intro d hd; cases hd; rfl
        · intro h; cases h
      case o128 =>
        intro Q a w2 hC hV hI
        have e127 : a.eval (.tmp 127) = .slice (some ⟨gb, 0, none⟩) 13 cp := hV 127 (by simp [Op.operands]) (by kernel_rfl)
        have f127 : a.tmps.getD 127 undef = .slice (some ⟨gb, 0, none⟩) 13 cp := e127
        have g127 : a.tmps[127]?.getD undef = .slice (some ⟨gb, 0, none⟩) 13 cp := by rw [← Array.getD_eq_getD_getElem?]; exact e127
        refine opU_val (C := fun w' => Below w.heap.size w w' ∧ (w'.cell? ⟨gb, 0, none⟩ = some (.int .i64 x0) ∧ w'.cell? ⟨gb, 1, none⟩ = some (.int .i64 x1) ∧ w'.cell? ⟨gb, 2, none⟩ = some (.int .i64 x2) ∧ w'.cell? ⟨gb, 3, none⟩ = some (.int .i64 x3) ∧ w'.cell? ⟨gb, 4, none⟩ = some (.int .i64 x4) ∧ w'.cell? ⟨gb, 5, none⟩ = some (.int .i64 x5) ∧ w'.cell? ⟨gb, 11, none⟩ = some (.int .i64 (A : Int))) ∧ (w'.heap[w.heap.size]? = some (.cells zeroC.cells.toArray 48 (0, 0)) ∨ w'.heap[w.heap.size]? = some (.cells #[.int .i64 x0, .int .i64 x1, .int .i64 x2, .int .i64 x3, .int .i64 x4, .int .i64 x5, .string ct, .string dt] 48 (0, 0)))) (St := fun x y => y.heap[w.heap.size]? = x.heap[w.heap.size]? ∨ y.heap[w.heap.size]? = some (.cells #[.int .i64 x0, .int .i64 x1, .int .i64 x2, .int .i64 x3, .int .i64 x4, .int .i64 x5, .string ct, .string dt] 48 (0, 0))) (V := fun dq vq _ => match dq with | 112 => vq = .slice (some ⟨gb, 0, none⟩) 13 cp | 113 => vq = .pointer (some ⟨gb, 0, none⟩) | 114 => vq = .int .i64 x0 | 115 => vq = .slice (some ⟨gb, 0, none⟩) 13 cp | 116 => vq = .pointer (some ⟨gb, 1, none⟩) | 117 => vq = .int .i64 x1 | 118 => vq = .slice (some ⟨gb, 0, none⟩) 13 cp | 119 => vq = .pointer (some ⟨gb, 2, none⟩) | 120 => vq = .int .i64 x2 | 121 => vq = .slice (some ⟨gb, 0, none⟩) 13 cp | 122 => vq = .pointer (some ⟨gb, 3, none⟩) | 123 => vq = .int .i64 x3 | 124 => vq = .slice (some ⟨gb, 0, none⟩) 13 cp | 125 => vq = .pointer (some ⟨gb, 4, none⟩) | 126 => vq = .int .i64 x4 | 127 => vq = .slice (some ⟨gb, 0, none⟩) 13 cp | 128 => vq = .pointer (some ⟨gb, 5, none⟩) | 129 => vq = .int .i64 x5 | 130 => vq = .string nm | 131 => vq = .slice (some ⟨gb, 0, none⟩) 13 cp | 132 => vq = .pointer (some ⟨gb, 11, none⟩) | 133 => vq = .int .i64 (A : Int) | 134 => vq = .int .i64 ((A : Int) - 1) | 135 => vq = .string ct | 136 => vq = .string dt | 137 => vq = .agg #[.int .i64 x0, .int .i64 x1, .int .i64 x2, .int .i64 x3, .int .i64 x4, .int .i64 x5, .string ct, .string dt] | 138 => vq = .int .i64 ((p : Int) + (A : Int) + (q1 : Int) + (D : Int) + (q2 : Int)) | 9 => vq = .int .i64 ((p : Int) + (A : Int) + (q1 : Int) + (D : Int) + (q2 : Int)) | 10 => vq = .int .i64 0 | _ => True) (U := fun o w' => o.dst = none → w'.heap[w.heap.size]? = some (.cells #[.int .i64 x0, .int .i64 x1, .int .i64 x2, .int .i64 x3, .int .i64 x4, .int .i64 x5, .string ct, .string dt] 48 (0, 0))) (w' := w2) (.pointer (some ⟨gb, 5, none⟩)) ?_ ?_ ?_ ?_ ?_
        · (clear hV hI hC; go_simp <;> (first | rfl | simp | (rw [IntKind.wrap_i64]; omega)))
        · exact hC
        · exact Or.inl rfl
        · intro d hd; cases hd; rfl
        · intro h; cases h
      case o129 =>
        intro Q a w2 hC hV hI
        have e128 : a.eval (.tmp 128) = .pointer (some ⟨gb, 5, none⟩) := hV 128 (by simp [Op.operands]) (by kernel_rfl)
        have f128 : a.tmps.getD 128 undef = .pointer (some ⟨gb, 5, none⟩) := e128
        have g128 : a.tmps[128]?.getD undef = .pointer (some ⟨gb, 5, none⟩) := by rw [← Array.getD_eq_getD_getElem?]; exact e128
        have hK := KC.out w2 hC.2.1
        refine opU_val (C := fun w' => Below w.heap.size w w' ∧ (w'.cell? ⟨gb, 0, none⟩ = some (.int .i64 x0) ∧ w'.cell? ⟨gb, 1, none⟩ = some (.int .i64 x1) ∧ w'.cell? ⟨gb, 2, none⟩ = some (.int .i64 x2) ∧ w'.cell? ⟨gb, 3, none⟩ = some (.int .i64 x3) ∧ w'.cell? ⟨gb, 4, none⟩ = some (.int .i64 x4) ∧ w'.cell? ⟨gb, 5, none⟩ = some (.int .i64 x5) ∧ w'.cell? ⟨gb, 11, none⟩ = some (.int .i64 (A : Int))) ∧ (w'.heap[w.heap.size]? = some (.cells zeroC.cells.toArray 48 (0, 0)) ∨ w'.heap[w.heap.size]? = some (.cells #[.int .i64 x0, .int .i64 x1, .int .i64 x2, .int .i64 x3, .int .i64 x4, .int .i64 x5, .string ct, .string dt] 48 (0, 0)))) (St := fun x y => y.heap[w.heap.size]? = x.heap[w.heap.size]? ∨ y.heap[w.heap.size]? = some (.cells #[.int .i64 x0, .int .i64 x1, .int .i64 x2, .int .i64 x3, .int .i64 x4, .int .i64 x5, .string ct, .string dt] 48 (0, 0))) (V := fun dq vq _ => match dq with | 112 => vq = .slice (some ⟨gb, 0, none⟩) 13 cp | 113 => vq = .pointer (some ⟨gb, 0, none⟩) | 114 => vq = .int .i64 x0 | 115 => vq = .slice (some ⟨gb, 0, none⟩) 13 cp | 116 => vq = .pointer (some ⟨gb, 1, none⟩) | 117 => vq = .int .i64 x1 | 118 => vq = .slice (some ⟨gb, 0, none⟩) 13 cp | 119 => vq = .pointer (some ⟨gb, 2, none⟩) | 120 => vq = .int .i64 x2 | 121 => vq = .slice (some ⟨gb, 0, none⟩) 13 cp | 122 => vq = .pointer (some ⟨gb, 3, none⟩) | 123 => vq = .int .i64 x3 | 124 => vq = .slice (some ⟨gb, 0, none⟩) 13 cp | 125 => vq = .pointer (some ⟨gb, 4, none⟩) | 126 => vq = .int .i64 x4 | 127 => vq = .slice (some ⟨gb, 0, none⟩) 13 cp | 128 => vq = .pointer (some ⟨gb, 5, none⟩) | 129 => vq = .int .i64 x5 | 130 => vq = .string nm | 131 => vq = .slice (some ⟨gb, 0, none⟩) 13 cp | 132 => vq = .pointer (some ⟨gb, 11, none⟩) | 133 => vq = .int .i64 (A : Int) | 134 => vq = .int .i64 ((A : Int) - 1) | 135 => vq = .string ct | 136 => vq = .string dt | 137 => vq = .agg #[.int .i64 x0, .int .i64 x1, .int .i64 x2, .int .i64 x3, .int .i64 x4, .int .i64 x5, .string ct, .string dt] | 138 => vq = .int .i64 ((p : Int) + (A : Int) + (q1 : Int) + (D : Int) + (q2 : Int)) | 9 => vq = .int .i64 ((p : Int) + (A : Int) + (q1 : Int) + (D : Int) + (q2 : Int)) | 10 => vq = .int .i64 0 | _ => True) (U := fun o w' => o.dst = none → w'.heap[w.heap.size]? = some (.cells #[.int .i64 x0, .int .i64 x1, .int .i64 x2, .int .i64 x3, .int .i64 x4, .int .i64 x5, .string ct, .string dt] 48 (0, 0))) (w' := w2) (.int .i64 x5) ?_ ?_ ?_ ?_ ?_
        · (clear hV hI hC; go_simp <;> (first | rfl | simp | (rw [IntKind.wrap_i64]; omega)))
        · exact hC
        · exact Or.inl rfl
        · intro d hd; cases hd; rfl
        · intro h; cases h
      case o130 =>
        intro Q a w2 hC hV hI
        have e14 : a.eval (.tmp 14) = .string nm := (hI 14 (by simp [Op.operands]) (by kernel_rfl)).trans rfl
        have f14 : a.tmps.getD 14 undef = .string nm := e14
        have g14 : a.tmps[14]?.getD undef = .string nm := by rw [← Array.getD_eq_getD_getElem?]; exact e14
        refine opU_val (C := fun w' => Below w.heap.size w w' ∧ (w'.cell? ⟨gb, 0, none⟩ = some (.int .i64 x0) ∧ w'.cell? ⟨gb, 1, none⟩ = some (.int .i64 x1) ∧ w'.cell? ⟨gb, 2, none⟩ = some (.int .i64 x2) ∧ w'.cell? ⟨gb, 3, none⟩ = some (.int .i64 x3) ∧ w'.cell? ⟨gb, 4, none⟩ = some (.int .i64 x4) ∧ w'.cell? ⟨gb, 5, none⟩ = some (.int .i64 x5) ∧ w'.cell? ⟨gb, 11, none⟩ = some (.int .i64 (A : Int))) ∧ (w'.heap[w.heap.size]? = some (.cells zeroC.cells.toArray 48 (0, 0)) ∨ w'.heap[w.heap.size]? = some (.cells #[.int .i64 x0, .int .i64 x1, .int .i64 x2, .int .i64 x3, .int .i64 x4, .int .i64 x5, .string ct, .string dt] 48 (0, 0)))) (St := fun x y => y.heap[w.heap.size]? = x.heap[w.heap.size]? ∨ y.heap[w.heap.size]? = some (.cells #[.int .i64 x0, .int .i64 x1, .int .i64 x2, .int .i64 x3, .int .i64 x4, .int .i64 x5, .string ct, .string dt] 48 (0, 0))) (V := fun dq vq _ => match dq with | 112 => vq = .slice (some ⟨gb, 0, none⟩) 13 cp | 113 => vq = .pointer (some ⟨gb, 0, none⟩) | 114 => vq = .int .i64 x0 | 115 => vq = .slice (some ⟨gb, 0, none⟩) 13 cp | 116 => vq = .pointer (some ⟨gb, 1, none⟩) | 117 => vq = .int .i64 x1 | 118 => vq = .slice (some ⟨gb, 0, none⟩) 13 cp | 119 => vq = .pointer (some ⟨gb, 2, none⟩) | 120 => vq = .int .i64 x2 | 121 => vq = .slice (some ⟨gb, 0, none⟩) 13 cp | 122 => vq = .pointer (some ⟨gb, 3, none⟩) | 123 => vq = .int .i64 x3 | 124 => vq = .slice (some ⟨gb, 0, none⟩) 13 cp | 125 => vq = .pointer (some ⟨gb, 4, none⟩) | 126 => vq = .int .i64 x4 | 127 => vq = .slice (some ⟨gb, 0, none⟩) 13 cp | 128 => vq = .pointer (some ⟨gb, 5, none⟩) | 129 => vq = .int .i64 x5 | 130 => vq = .string nm | 131 => vq = .slice (some ⟨gb, 0, none⟩) 13 cp | 132 => vq = .pointer (some ⟨gb, 11, none⟩) | 133 => vq = .int .i64 (A : Int) | 134 => vq = .int .i64 ((A : Int) - 1) | 135 => vq = .string ct | 136 => vq = .string dt | 137 => vq = .agg #[.int .i64 x0, .int .i64 x1, .int .i64 x2, .int .i64 x3, .int .i64 x4, .int .i64 x5, .string ct, .string dt] | 138 => vq = .int .i64 ((p : Int) + (A : Int) + (q1 : Int) + (D : Int) + (q2 : Int)) | 9 => vq = .int .i64 ((p : Int) + (A : Int) + (q1 : Int) + (D : Int) + (q2 : Int)) | 10 => vq = .int .i64 0 | _ => True) (U := fun o w' => o.dst = none → w'.heap[w.heap.size]? = some (.cells #[.int .i64 x0, .int .i64 x1, .int .i64 x2, .int .i64 x3, .int .i64 x4, .int .i64 x5, .string ct, .string dt] 48 (0, 0))) (w' := w2) (.string nm) ?_ ?_ ?_ ?_ ?_
        · (clear hV hI hC; go_simp <;> (first | rfl | simp | (rw [IntKind.wrap_i64]; omega)))
        · exact hC
        · exact Or.inl rfl
        · intro d hd; cases hd; rfl
        · intro h; cases h
      case o131 =>
        intro Q a w2 hC hV hI
        have e2 : a.eval (.tmp 2) = .slice (some ⟨gb, 0, none⟩) 13 cp := (hI 2 (by simp [Op.operands]) (by kernel_rfl)).trans rfl
        have f2 : a.tmps.getD 2 undef = .slice (some ⟨gb, 0, none⟩) 13 cp := e2
        have g2 : a.tmps[2]?.getD undef = .slice (some ⟨gb, 0, none⟩) 13 cp := by rw [← Array.getD_eq_getD_getElem?]; exact e2
        refine opU_val (C := fun w' => Below w.heap.size w w' ∧ (w'.cell? ⟨gb, 0, none⟩ = some (.int .i64 x0) ∧ w'.cell? ⟨gb, 1, none⟩ = some (.int .i64 x1) ∧ w'.cell? ⟨gb, 2, none⟩ = some (.int .i64 x2) ∧ w'.cell? ⟨gb, 3, none⟩ = some (.int .i64 x3) ∧ w'.cell? ⟨gb, 4, none⟩ = some (.int .i64 x4) ∧ w'.cell? ⟨gb, 5, none⟩ = some (.int .i64 x5) ∧ w'.cell? ⟨gb, 11, none⟩ = some (.int .i64 (A : Int))) ∧ (w'.heap[w.heap.size]? = some (.cells zeroC.cells.toArray 48 (0, 0)) ∨ w'.heap[w.heap.size]? = some (.cells #[.int .i64 x0, .int .i64 x1, .int .i64 x2, .int .i64 x3, .int .i64 x4, .int .i64 x5, .string ct, .string dt] 48 (0, 0)))) (St := fun x y => y.heap[w.heap.size]? = x.heap[w.heap.size]? ∨ y.heap[w.heap.size]? = some (.cells #[.int .i64 x0, .int .i64 x1, .int .i64 x2, .int .i64 x3, .int .i64 x4, .int .i64 x5, .string ct, .string dt] 48 (0, 0))) (V := fun dq vq _ => match dq with | 112 => vq = .slice (some ⟨gb, 0, none⟩) 13 cp | 113 => vq = .pointer (some ⟨gb, 0, none⟩) | 114 => vq = .int .i64 x0 | 115 => vq = .slice (some ⟨gb, 0, none⟩) 13 cp | 116 => vq = .pointer (some ⟨gb, 1, none⟩) | 117 => vq = .int .i64 x1 | 118 => vq = .slice (some ⟨gb, 0, none⟩) 13 cp | 119 => vq = .pointer (some ⟨gb, 2, none⟩) | 120 => vq = .int .i64 x2 | 121 => vq = .slice (some ⟨gb, 0, none⟩) 13 cp | 122 => vq = .pointer (some ⟨gb, 3, none⟩) | 123 => vq = .int .i64 x3 | 124 => vq = .slice (some ⟨gb, 0, none⟩) 13 cp | 125 => vq = .pointer (some ⟨gb, 4, none⟩) | 126 => vq = .int .i64 x4 | 127 => vq = .slice (some ⟨gb, 0, none⟩) 13 cp | 128 => vq = .pointer (some ⟨gb, 5, none⟩) | 129 => vq = .int .i64 x5 | 130 => vq = .string nm | 131 => vq = .slice (some ⟨gb, 0, none⟩) 13 cp | 132 => vq = .pointer (some ⟨gb, 11, none⟩) | 133 => vq = .int .i64 (A : Int) | 134 => vq = .int .i64 ((A : Int) - 1) | 135 => vq = .string ct | 136 => vq = .string dt | 137 => vq = .agg #[.int .i64 x0, .int .i64 x1, .int .i64 x2, .int .i64 x3, .int .i64 x4, .int .i64 x5, .string ct, .string dt] | 138 => vq = .int .i64 ((p : Int) + (A : Int) + (q1 : Int) + (D : Int) + (q2 : Int)) | 9 => vq = .int .i64 ((p : Int) + (A : Int) + (q1 : Int) + (D : Int) + (q2 : Int)) | 10 => vq = .int .i64 0 | _ => True) (U := fun o w' => o.dst = none → w'.heap[w.heap.size]? = some (.cells #[.int .i64 x0, .int .i64 x1, .int .i64 x2, .int .i64 x3, .int .i64 x4, .int .i64 x5, .string ct, .string dt] 48 (0, 0))) (w' := w2) (.slice (some ⟨gb, 0, none⟩) 13 cp) ?_ ?_ ?_ ?_ ?_
        · (clear hV hI hC; go_simp <;> (first | rfl | simp | (rw [IntKind.wrap_i64]; omega)))
        · exact hC
        · exact Or.inl rfl
        · intro d hd; cases hd; rfl
        · intro h; cases h
      case o132 =>
        intro Q a w2 hC hV hI
        have e131 : a.eval (.tmp 131) = .slice (some ⟨gb, 0, none⟩) 13 cp := hV 131 (by simp [Op.operands]) (by kernel_rfl)
        have f131 : a.tmps.getD 131 undef = .slice (some ⟨gb, 0, none⟩) 13 cp := e131
        have g131 : a.tmps[131]?.getD undef = .slice (some ⟨gb, 0, none⟩) 13 cp := by rw [← Array.getD_eq_getD_getElem?]; exact e131
        refine opU_val (C := fun w' => Below w.heap.size w w' ∧ (w'.cell? ⟨gb, 0, none⟩ = some (.int .i64 x0) ∧ w'.cell? ⟨gb, 1, none⟩ = some (.int .i64 x1) ∧ w'.cell? ⟨gb, 2, none⟩ = some (.int .i64 x2) ∧ w'.cell? ⟨gb, 3, none⟩ = some (.int .i64 x3) ∧ w'.cell? ⟨gb, 4, none⟩ = some (.int .i64 x4) ∧ w'.cell? ⟨gb, 5, none⟩ = some (.int .i64 x5) ∧ w'.cell? ⟨gb, 11, none⟩ = some (.int .i64 (A : Int))) ∧ (w'.heap[w.heap.size]? = some (.cells zeroC.cells.toArray 48 (0, 0)) ∨ w'.heap[w.heap.size]? = some (.cells #[.int .i64 x0, .int .i64 x1, .int .i64 x2, .int .i64 x3, .int .i64 x4, .int .i64 x5, .string ct, .string dt] 48 (0, 0)))) (St := fun x y => y.heap[w.heap.size]? = x.heap[w.heap.size]? ∨ y.heap[w.heap.size]? = some (.cells #[.int .i64 x0, .int .i64 x1, .int .i64 x2, .int .i64 x3, .int .i64 x4, .int .i64 x5, .string ct, .string dt] 48 (0, 0))) (V := fun dq vq _ => match dq with | 112 => vq = .slice (some ⟨gb, 0, none⟩) 13 cp | 113 => vq = .pointer (some ⟨gb, 0, none⟩) | 114 => vq = .int .i64 x0 | 115 => vq = .slice (some ⟨gb, 0, none⟩) 13 cp | 116 => vq = .pointer (some ⟨gb, 1, none⟩) | 117 => vq = .int .i64 x1 | 118 => vq = .slice (some ⟨gb, 0, none⟩) 13 cp | 119 => vq = .pointer (some ⟨gb, 2, none⟩) | 120 => vq = .int .i64 x2 | 121 => vq = .slice (some ⟨gb, 0, none⟩) 13 cp | 122 => vq = .pointer (some ⟨gb, 3, none⟩) | 123 => vq = .int .i64 x3 | 124 => vq = .slice (some ⟨gb, 0, none⟩) 13 cp | 125 => vq = .pointer (some ⟨gb, 4, none⟩) | 126 => vq = .int .i64 x4 | 127 => vq = .slice (some ⟨gb, 0, none⟩) 13 cp | 128 => vq = .pointer (some ⟨gb, 5, none⟩) | 129 => vq = .int .i64 x5 | 130 => vq = .string nm | 131 => vq = .slice (some ⟨gb, 0, none⟩) 13 cp | 132 => vq = .pointer (some ⟨gb, 11, none⟩) | 133 => vq = .int .i64 (A : Int) | 134 => vq = .int .i64 ((A : Int) - 1) | 135 => vq = .string ct | 136 => vq = .string dt | 137 => vq = .agg #[.int .i64 x0, .int .i64 x1, .int .i64 x2, .int .i64 x3, .int .i64 x4, .int .i64 x5, .string ct, .string dt] | 138 => vq = .int .i64 ((p : Int) + (A : Int) + (q1 : Int) + (D : Int) + (q2 : Int)) | 9 => vq = .int .i64 ((p : Int) + (A : Int) + (q1 : Int) + (D : Int) + (q2 : Int)) | 10 => vq = .int .i64 0 | _ => True) (U := fun o w' => o.dst = none → w'.heap[w.heap.size]? = some (.cells #[.int .i64 x0, .int .i64 x1, .int .i64 x2, .int .i64 x3, .int .i64 x4, .int .i64 x5, .string ct, .string dt] 48 (0, 0))) (w' := w2) (.pointer (some ⟨gb, 11, none⟩)) ?_ ?_ ?_ ?_ ?_
        · (clear hV hI hC; go_simp <;> (first | rfl | simp | (rw [IntKind.wrap_i64]; omega)))
        · exact hC
        · exact Or.inl rfl
        · intro d hd; cases hd; rfl
        · intro h; cases h
      case o133 =>
        intro Q a w2 hC hV hI
        have e132 : a.eval (.tmp 132) = .pointer (some ⟨gb, 11, none⟩) := hV 132 (by simp [Op.operands]) (by kernel_rfl)
        have f132 : a.tmps.getD 132 undef = .pointer (some ⟨gb, 11, none⟩) := e132
        have g132 : a.tmps[132]?.getD undef = .pointer (some ⟨gb, 11, none⟩) := by rw [← Array.getD_eq_getD_getElem?]; exact e132
        have hK := KC.out w2 hC.2.1
        refine opU_val (C := fun w' => Below w.heap.size w w' ∧ (w'.cell? ⟨gb, 0, none⟩ = some (.int .i64 x0) ∧ w'.cell? ⟨gb, 1, none⟩ = some (.int .i64 x1) ∧ w'.cell? ⟨gb, 2, none⟩ = some (.int .i64 x2) ∧ w'.cell? ⟨gb, 3, none⟩ = some (.int .i64 x3) ∧ w'.cell? ⟨gb, 4, none⟩ = some (.int .i64 x4) ∧ w'.cell? ⟨gb, 5, none⟩ = some (.int .i64 x5) ∧ w'.cell? ⟨gb, 11, none⟩ = some (.int .i64 (A : Int))) ∧ (w'.heap[w.heap.size]? = some (.cells zeroC.cells.toArray 48 (0, 0)) ∨ w'.heap[w.heap.size]? = some (.cells #[.int .i64 x0, .int .i64 x1, .int .i64 x2, .int .i64 x3, .int .i64 x4, .int .i64 x5, .string ct, .string dt] 48 (0, 0)))) (St := fun x y => y.heap[w.heap.size]? = x.heap[w.heap.size]? ∨ y.heap[w.heap.size]? = some (.cells #[.int .i64 x0, .int .i64 x1, .int .i64 x2, .int .i64 x3, .int .i64 x4, .int .i64 x5, .string ct, .string dt] 48 (0, 0))) (V := fun dq vq _ => match dq with | 112 => vq = .slice (some ⟨gb, 0, none⟩) 13 cp | 113 => vq = .pointer (some ⟨gb, 0, none⟩) | 114 => vq = .int .i64 x0 | 115 => vq = .slice (some ⟨gb, 0, none⟩) 13 cp | 116 => vq = .pointer (some ⟨gb, 1, none⟩) | 117 => vq = .int .i64 x1 | 118 => vq = .slice (some ⟨gb, 0, none⟩) 13 cp | 119 => vq = .pointer (some ⟨gb, 2, none⟩) | 120 => vq = .int .i64 x2 | 121 => vq = .slice (some ⟨gb, 0, none⟩) 13 cp | 122 => vq = .pointer (some ⟨gb, 3, none⟩) | 123 => vq = .int .i64 x3 | 124 => vq = .slice (some ⟨gb, 0, none⟩) 13 cp | 125 => vq = .pointer (some ⟨gb, 4, none⟩) | 126 => vq = .int .i64 x4 | 127 => vq = .slice (some ⟨gb, 0, none⟩) 13 cp | 128 => vq = .pointer (some ⟨gb, 5, none⟩) | 129 => vq = .int .i64 x5 | 130 => vq = .string nm | 131 => vq = .slice (some ⟨gb, 0, none⟩) 13 cp | 132 => vq = .pointer (some ⟨gb, 11, none⟩) | 133 => vq = .int .i64 (A : Int) | 134 => vq = .int .i64 ((A : Int) - 1) | 135 => vq = .string ct | 136 => vq = .string dt | 137 => vq = .agg #[.int .i64 x0, .int .i64 x1, .int .i64 x2, .int .i64 x3, .int .i64 x4, .int .i64 x5, .string ct, .string dt] | 138 => vq = .int .i64 ((p : Int) + (A : Int) + (q1 : Int) + (D : Int) + (q2 : Int)) | 9 => vq = .int .i64 ((p : Int) + (A : Int) + (q1 : Int) + (D : Int) + (q2 : Int)) | 10 => vq = .int .i64 0 | _ => True) (U := fun o w' => o.dst = none → w'.heap[w.heap.size]? = some (.cells #[.int .i64 x0, .int .i64 x1, .int .i64 x2, .int .i64 x3, .int .i64 x4, .int .i64 x5, .string ct, .string dt] 48 (0, 0))) (w' := w2) (.int .i64 (A : Int)) ?_ ?_ ?_ ?_ ?_
        · (clear hV hI hC; go_simp <;> (first | rfl | simp | (rw [IntKind.wrap_i64]; omega)))
        · exact hC
        · exact Or.inl rfl
        · intro d hd; cases hd; rfl
        · intro h; cases h
      case o134 =>
        intro Q a w2 hC hV hI
        have e133 : a.eval (.tmp 133) = .int .i64 (A : Int) := hV 133 (by simp [Op.operands]) (by kernel_rfl)
        have f133 : a.tmps.getD 133 undef = .int .i64 (A : Int) := e133
        have g133 : a.tmps[133]?.getD undef = .int .i64 (A : Int) := by rw [← Array.getD_eq_getD_getElem?]; exact e133
        refine opU_val (C := fun w' => Below w.heap.size w w' ∧ (w'.cell? ⟨gb, 0, none⟩ = some (.int .i64 x0) ∧ w'.cell? ⟨gb, 1, none⟩ = some (.int .i64 x1) ∧ w'.cell? ⟨gb, 2, none⟩ = some (.int .i64 x2) ∧ w'.cell? ⟨gb, 3, none⟩ = some (.int .i64 x3) ∧ w'.cell? ⟨gb, 4, none⟩ = some (.int .i64 x4) ∧ w'.cell? ⟨gb, 5, none⟩ = some (.int .i64 x5) ∧ w'.cell? ⟨gb, 11, none⟩ = some (.int .i64 (A : Int))) ∧ (w'.heap[w.heap.size]? = some (.cells zeroC.cells.toArray 48 (0, 0)) ∨ w'.heap[w.heap.size]? = some (.cells #[.int .i64 x0, .int .i64 x1, .int .i64 x2, .int .i64 x3, .int .i64 x4, .int .i64 x5, .string ct, .string dt] 48 (0, 0)))) (St := fun x y => y.heap[w.heap.size]? = x.heap[w.heap.size]? ∨ y.heap[w.heap.size]? = some (.cells #[.int .i64 x0, .int .i64 x1, .int .i64 x2, .int .i64 x3, .int .i64 x4, .int .i64 x5, .string ct, .string dt] 48 (0, 0))) (V := fun dq vq _ => match dq with | 112 => vq = .slice (some ⟨gb, 0, none⟩) 13 cp | 113 => vq = .pointer (some ⟨gb, 0, none⟩) | 114 => vq = .int .i64 x0 | 115 => vq = .slice (some ⟨gb, 0, none⟩) 13 cp | 116 => vq = .pointer (some ⟨gb, 1, none⟩) | 117 => vq = .int .i64 x1 | 118 => vq = .slice (some ⟨gb, 0, none⟩) 13 cp | 119 => vq = .pointer (some ⟨gb, 2, none⟩) | 120 => vq = .int .i64 x2 | 121 => vq = .slice (some ⟨gb, 0, none⟩) 13 cp | 122 => vq = .pointer (some ⟨gb, 3, none⟩) | 123 => vq = .int .i64 x3 | 124 => vq = .slice (some ⟨gb, 0, none⟩) 13 cp | 125 => vq = .pointer (some ⟨gb, 4, none⟩) | 126 => vq = .int .i64 x4 | 127 => vq = .slice (some ⟨gb, 0, none⟩) 13 cp | 128 => vq = .pointer (some ⟨gb, 5, none⟩) | 129 => vq = .int .i64 x5 | 130 => vq = .string nm | 131 => vq = .slice (some ⟨gb, 0, none⟩) 13 cp | 132 => vq = .pointer (some ⟨gb, 11, none⟩) | 133 => vq = .int .i64 (A : Int) | 134 => vq = .int .i64 ((A : Int) - 1) | 135 => vq = .string ct | 136 => vq = .string dt | 137 => vq = .agg #[.int .i64 x0, .int .i64 x1, .int .i64 x2, .int .i64 x3, .int .i64 x4, .int .i64 x5, .string ct, .string dt] | 138 => vq = .int .i64 ((p : Int) + (A : Int) + (q1 : Int) + (D : Int) + (q2 : Int)) | 9 => vq = .int .i64 ((p : Int) + (A : Int) + (q1 : Int) + (D : Int) + (q2 : Int)) | 10 => vq = .int .i64 0 | _ => True) (U := fun o w' => o.dst = none → w'.heap[w.heap.size]? = some (.cells #[.int .i64 x0, .int .i64 x1, .int .i64 x2, .int .i64 x3, .int .i64 x4, .int .i64 x5, .string ct, .string dt] 48 (0, 0))) (w' := w2) (.int .i64 ((A : Int) - 1)) ?_ ?_ ?_ ?_ ?_
        · (clear hV hI hC; go_simp <;> (first | rfl | simp | (rw [IntKind.wrap_i64]; omega)))
        · exact hC
        · exact Or.inl rfl
        · intro d hd; cases hd; rfl
        · intro h; cases h
      case o135 =>
        intro Q a w2 hC hV hI
        have e130 : a.eval (.tmp 130) = .string nm := hV 130 (by simp [Op.operands]) (by kernel_rfl)
        have f130 : a.tmps.getD 130 undef = .string nm := e130
        have g130 : a.tmps[130]?.getD undef = .string nm := by rw [← Array.getD_eq_getD_getElem?]; exact e130
        have e134 : a.eval (.tmp 134) = .int .i64 ((A : Int) - 1) := hV 134 (by simp [Op.operands]) (by kernel_rfl)
        have f134 : a.tmps.getD 134 undef = .int .i64 ((A : Int) - 1) := e134
        have g134 : a.tmps[134]?.getD undef = .int .i64 ((A : Int) - 1) := by rw [← Array.getD_eq_getD_getElem?]; exact e134
        have q9 := HSc2.out w2
        refine opU_val (C := fun w' => Below w.heap.size w w' ∧ (w'.cell? ⟨gb, 0, none⟩ = some (.int .i64 x0) ∧ w'.cell? ⟨gb, 1, none⟩ = some (.int .i64 x1) ∧ w'.cell? ⟨gb, 2, none⟩ = some (.int .i64 x2) ∧ w'.cell? ⟨gb, 3, none⟩ = some (.int .i64 x3) ∧ w'.cell? ⟨gb, 4, none⟩ = some (.int .i64 x4) ∧ w'.cell? ⟨gb, 5, none⟩ = some (.int .i64 x5) ∧ w'.cell? ⟨gb, 11, none⟩ = some (.int .i64 (A : Int))) ∧ (w'.heap[w.heap.size]? = some (.cells zeroC.cells.toArray 48 (0, 0)) ∨ w'.heap[w.heap.size]? = some (.cells #[.int .i64 x0, .int .i64 x1, .int .i64 x2, .int .i64 x3, .int .i64 x4, .int .i64 x5, .string ct, .string dt] 48 (0, 0)))) (St := fun x y => y.heap[w.heap.size]? = x.heap[w.heap.size]? ∨ y.heap[w.heap.size]? = some (.cells #[.int .i64 x0, .int .i64 x1, .int .i64 x2, .int .i64 x3, .int .i64 x4, .int .i64 x5, .string ct, .string dt] 48 (0, 0))) (V := fun dq vq _ => match dq with | 112 => vq = .slice (some ⟨gb, 0, none⟩) 13 cp | 113 => vq = .pointer (some ⟨gb, 0, none⟩) | 114 => vq = .int .i64 x0 | 115 => vq = .slice (some ⟨gb, 0, none⟩) 13 cp | 116 => vq = .pointer (some ⟨gb, 1, none⟩) | 117 => vq = .int .i64 x1 | 118 => vq = .slice (some ⟨gb, 0, none⟩) 13 cp | 119 => vq = .pointer (some ⟨gb, 2, none⟩) | 120 => vq = .int .i64 x2 | 121 => vq = .slice (some ⟨gb, 0, none⟩) 13 cp | 122 => vq = .pointer (some ⟨gb, 3, none⟩) | 123 => vq = .int .i64 x3 | 124 => vq = .slice (some ⟨gb, 0, none⟩) 13 cp | 125 => vq = .pointer (some ⟨gb, 4, none⟩) | 126 => vq = .int .i64 x4 | 127 => vq = .slice (some ⟨gb, 0, none⟩) 13 cp | 128 => vq = .pointer (some ⟨gb, 5, none⟩) | 129 => vq = .int .i64 x5 | 130 => vq = .string nm | 131 => vq = .slice (some ⟨gb, 0, none⟩) 13 cp | 132 => vq = .pointer (some ⟨gb, 11, none⟩) | 133 => vq = .int .i64 (A : Int) | 134 => vq = .int .i64 ((A : Int) - 1) | 135 => vq = .string ct | 136 => vq = .string dt | 137 => vq = .agg #[.int .i64 x0, .int .i64 x1, .int .i64 x2, .int .i64 x3, .int .i64 x4, .int .i64 x5, .string ct, .string dt] | 138 => vq = .int .i64 ((p : Int) + (A : Int) + (q1 : Int) + (D : Int) + (q2 : Int)) | 9 => vq = .int .i64 ((p : Int) + (A : Int) + (q1 : Int) + (D : Int) + (q2 : Int)) | 10 => vq = .int .i64 0 | _ => True) (U := fun o w' => o.dst = none → w'.heap[w.heap.size]? = some (.cells #[.int .i64 x0, .int .i64 x1, .int .i64 x2, .int .i64 x3, .int .i64 x4, .int .i64 x5, .string ct, .string dt] 48 (0, 0))) (w' := w2) (.string ct) ?_ ?_ ?_ ?_ ?_
        · (clear hV hI hC; go_simp <;> (first | rfl | simp | (rw [IntKind.wrap_i64]; omega)))
        · exact hC
        · exact Or.inl rfl
        · intro d hd; cases hd; rfl
        · intro h; cases h
      case o136 =>
        intro Q a w2 hC hV hI
        have e15 : a.eval (.tmp 15) = .string dt := (hI 15 (by simp [Op.operands]) (by kernel_rfl)).trans rfl
        have f15 : a.tmps.getD 15 undef = .string dt := e15
        have g15 : a.tmps[15]?.getD undef = .string dt := by rw [← Array.getD_eq_getD_getElem?]; exact e15
        refine opU_val (C := fun w' => Below w.heap.size w w' ∧ (w'.cell? ⟨gb, 0, none⟩ = some (.int .i64 x0) ∧ w'.cell? ⟨gb, 1, none⟩ = some (.int .i64 x1) ∧ w'.cell? ⟨gb, 2, none⟩ = some (.int .i64 x2) ∧ w'.cell? ⟨gb, 3, none⟩ = some (.int .i64 x3) ∧ w'.cell? ⟨gb, 4, none⟩ = some (.int .i64 x4) ∧ w'.cell? ⟨gb, 5, none⟩ = some (.int .i64 x5) ∧ w'.cell? ⟨gb, 11, none⟩ = some (.int .i64 (A : Int))) ∧ (w'.heap[w.heap.size]? = some (.cells zeroC.cells.toArray 48 (0, 0)) ∨ w'.heap[w.heap.size]? = some (.cells #[.int .i64 x0, .int .i64 x1, .int .i64 x2, .int .i64 x3, .int .i64 x4, .int .i64 x5, .string ct, .string dt] 48 (0, 0)))) (St := fun x y => y.heap[w.heap.size]? = x.heap[w.heap.size]? ∨ y.heap[w.heap.size]? = some (.cells #[.int .i64 x0, .int .i64 x1, .int .i64 x2, .int .i64 x3, .int .i64 x4, .int .i64 x5, .string ct, .string dt] 48 (0, 0))) (V := fun dq vq _ => match dq with | 112 => vq = .slice (some ⟨gb, 0, none⟩) 13 cp | 113 => vq = .pointer (some ⟨gb, 0, none⟩) | 114 => vq = .int .i64 x0 | 115 => vq = .slice (some ⟨gb, 0, none⟩) 13 cp | 116 => vq = .pointer (some ⟨gb, 1, none⟩) | 117 => vq = .int .i64 x1 | 118 => vq = .slice (some ⟨gb, 0, none⟩) 13 cp | 119 => vq = .pointer (some ⟨gb, 2, none⟩) | 120 => vq = .int .i64 x2 | 121 => vq = .slice (some ⟨gb, 0, none⟩) 13 cp | 122 => vq = .pointer (some ⟨gb, 3, none⟩) | 123 => vq = .int .i64 x3 | 124 => vq = .slice (some ⟨gb, 0, none⟩) 13 cp | 125 => vq = .pointer (some ⟨gb, 4, none⟩) | 126 => vq = .int .i64 x4 | 127 => vq = .slice (some ⟨gb, 0, none⟩) 13 cp | 128 => vq = .pointer (some ⟨gb, 5, none⟩) | 129 => vq = .int .i64 x5 | 130 => vq = .string nm | 131 => vq = .slice (some ⟨gb, 0, none⟩) 13 cp | 132 => vq = .pointer (some ⟨gb, 11, none⟩) | 133 => vq = .int .i64 (A : Int) | 134 => vq = .int .i64 ((A : Int) - 1) | 135 => vq = .string ct | 136 => vq = .string dt | 137 => vq = .agg #[.int .i64 x0, .int .i64 x1, .int .i64 x2, .int .i64 x3, .int .i64 x4, .int .i64 x5, .string ct, .string dt] | 138 => vq = .int .i64 ((p : Int) + (A : Int) + (q1 : Int) + (D : Int) + (q2 : Int)) | 9 => vq = .int .i64 ((p : Int) + (A : Int) + (q1 : Int) + (D : Int) + (q2 : Int)) | 10 => vq = .int .i64 0 | _ => True) (U := fun o w' => o.dst = none → w'.heap[w.heap.size]? = some (.cells #[.int .i64 x0, .int .i64 x1, .int .i64 x2, .int .i64 x3, .int .i64 x4, .int .i64 x5, .string ct, .string dt] 48 (0, 0))) (w' := w2) (.string dt) ?_ ?_ ?_ ?_ ?_
        · (clear hV hI hC; go_simp <;> (first | rfl | simp | (rw [IntKind.wrap_i64]; omega)))
        · exact hC
        · exact Or.inl rfl
        · intro d hd; cases hd; rfl
        · intro h; cases h
      case o137 =>
        intro Q a w2 hC hV hI
        have e114 : a.eval (.tmp 114) = .int .i64 x0 := hV 114 (by simp [Op.operands]) (by kernel_rfl)
        have f114 : a.tmps.getD 114 undef = .int .i64 x0 := e114
        have g114 : a.tmps[114]?.getD undef = .int .i64 x0 := by rw [← Array.getD_eq_getD_getElem?]; exact e114
        have e117 : a.eval (.tmp 117) = .int .i64 x1 := hV 117 (by simp [Op.operands]) (by kernel_rfl)
        have f117 : a.tmps.getD 117 undef = .int .i64 x1 := e117
        have g117 : a.tmps[117]?.getD undef = .int .i64 x1 := by rw [← Array.getD_eq_getD_getElem?]; exact e117
        have e120 : a.eval (.tmp 120) = .int .i64 x2 := hV 120 (by simp [Op.operands]) (by kernel_rfl)
        have f120 : a.tmps.getD 120 undef = .int .i64 x2 := e120
        have g120 : a.tmps[120]?.getD undef = .int .i64 x2 := by rw [← Array.getD_eq_getD_getElem?]; exact e120
        have e123 : a.eval (.tmp 123) = .int .i64 x3 := hV 123 (by simp [Op.operands]) (by kernel_rfl)
        have f123 : a.tmps.getD 123 undef = .int .i64 x3 := e123
        have g123 : a.tmps[123]?.getD undef = .int .i64 x3 := by rw [← Array.getD_eq_getD_getElem?]; exact e123
        have e126 : a.eval (.tmp 126) = .int .i64 x4 := hV 126 (by simp [Op.operands]) (by kernel_rfl)
        have f126 : a.tmps.getD 126 undef = .int .i64 x4 := e126
        have g126 : a.tmps[126]?.getD undef = .int .i64 x4 := by rw [← Array.getD_eq_getD_getElem?]; exact e126
        have e129 : a.eval (.tmp 129) = .int .i64 x5 := hV 129 (by simp [Op.operands]) (by kernel_rfl)
        have f129 : a.tmps.getD 129 undef = .int .i64 x5 := e129
        have g129 : a.tmps[129]?.getD undef = .int .i64 x5 := by rw [← Array.getD_eq_getD_getElem?]; exact e129
        have e135 : a.eval (.tmp 135) = .string ct := hV 135 (by simp [Op.operands]) (by kernel_rfl)
        have f135 : a.tmps.getD 135 undef = .string ct := e135
        have g135 : a.tmps[135]?.getD undef = .string ct := by rw [← Array.getD_eq_getD_getElem?]; exact e135
        have e136 : a.eval (.tmp 136) = .string dt := hV 136 (by simp [Op.operands]) (by kernel_rfl)
        have f136 : a.tmps.getD 136 undef = .string dt := e136
        have g136 : a.tmps[136]?.getD undef = .string dt := by rw [← Array.getD_eq_getD_getElem?]; exact e136
        refine opU_val (C := fun w' => Below w.heap.size w w' ∧ (w'.cell? ⟨gb, 0, none⟩ = some (.int .i64 x0) ∧ w'.cell? ⟨gb, 1, none⟩ = some (.int .i64 x1) ∧ w'.cell? ⟨gb, 2, none⟩ = some (.int .i64 x2) ∧ w'.cell? ⟨gb, 3, none⟩ = some (.int .i64 x3) ∧ w'.cell? ⟨gb, 4, none⟩ = some (.int .i64 x4) ∧ w'.cell? ⟨gb, 5, none⟩ = some (.int .i64 x5) ∧ w'.cell? ⟨gb, 11, none⟩ = some (.int .i64 (A : Int))) ∧ (w'.heap[w.heap.size]? = some (.cells zeroC.cells.toArray 48 (0, 0)) ∨ w'.heap[w.heap.size]? = some (.cells #[.int .i64 x0, .int .i64 x1, .int .i64 x2, .int .i64 x3, .int .i64 x4, .int .i64 x5, .string ct, .string dt] 48 (0, 0)))) (St := fun x y => y.heap[w.heap.size]? = x.heap[w.heap.size]? ∨ y.heap[w.heap.size]? = some (.cells #[.int .i64 x0, .int .i64 x1, .int .i64 x2, .int .i64 x3, .int .i64 x4, .int .i64 x5, .string ct, .string dt] 48 (0, 0))) (V := fun dq vq _ => match dq with | 112 => vq = .slice (some ⟨gb, 0, none⟩) 13 cp | 113 => vq = .pointer (some ⟨gb, 0, none⟩) | 114 => vq = .int .i64 x0 | 115 => vq = .slice (some ⟨gb, 0, none⟩) 13 cp | 116 => vq = .pointer (some ⟨gb, 1, none⟩) | 117 => vq = .int .i64 x1 | 118 => vq = .slice (some ⟨gb, 0, none⟩) 13 cp | 119 => vq = .pointer (some ⟨gb, 2, none⟩) | 120 => vq = .int .i64 x2 | 121 => vq = .slice (some ⟨gb, 0, none⟩) 13 cp | 122 => vq = .pointer (some ⟨gb, 3, none⟩) | 123 => vq = .int .i64 x3 | 124 => vq = .slice (some ⟨gb, 0, none⟩) 13 cp | 125 => vq = .pointer (some ⟨gb, 4, none⟩) | 126 => vq = .int .i64 x4 | 127 => vq = .slice (some ⟨gb, 0, none⟩) 13 cp | 128 => vq = .pointer (some ⟨gb, 5, none⟩) | 129 => vq = .int .i64 x5 | 130 => vq = .string nm | 131 => vq = .slice (some ⟨gb, 0, none⟩) 13 cp | 132 => vq = .pointer (some ⟨gb, 11, none⟩) | 133 => vq = .int .i64 (A : Int) | 134 => vq = .int .i64 ((A : Int) - 1) | 135 => vq = .string ct | 136 => vq = .string dt | 137 => vq = .agg #[.int .i64 x0, .int .i64 x1, .int .i64 x2, .int .i64 x3, .int .i64 x4, .int .i64 x5, .string ct, .string dt] | 138 => vq = .int .i64 ((p : Int) + (A : Int) + (q1 : Int) + (D : Int) + (q2 : Int)) | 9 => vq = .int .i64 ((p : Int) + (A : Int) + (q1 : Int) + (D : Int) + (q2 : Int)) | 10 => vq = .int .i64 0 | _ => True) (U := fun o w' => o.dst = none → w'.heap[w.heap.size]? = some (.cells #[.int .i64 x0, .int .i64 x1, .int .i64 x2, .int .i64 x3, .int .i64 x4, .int .i64 x5, .string ct, .string dt] 48 (0, 0))) (w' := w2) (.agg #[.int .i64 x0, .int .i64 x1, .int .i64 x2, .int .i64 x3, .int .i64 x4, .int .i64 x5, .string ct, .string dt]) ?_ ?_ ?_ ?_ ?_
        · (clear hV hI hC; go_simp <;> (first | rfl | simp | (rw [IntKind.wrap_i64]; omega)))
        · exact hC
        · exact Or.inl rfl
        · intro d hd; cases hd; rfl
        · intro h; cases h
      case o138 =>
        intro Q a w2 hC hV hI
        have e13 : a.eval (.tmp 13) = .int .i64 ((p : Int) + (A : Int) + (q1 : Int) + (D : Int) + (q2 : Int)) := (hI 13 (by simp [Op.operands]) (by kernel_rfl)).trans rfl
        have f13 : a.tmps.getD 13 undef = .int .i64 ((p : Int) + (A : Int) + (q1 : Int) + (D : Int) + (q2 : Int)) := e13
        have g13 : a.tmps[13]?.getD undef = .int .i64 ((p : Int) + (A : Int) + (q1 : Int) + (D : Int) + (q2 : Int)) := by rw [← Array.getD_eq_getD_getElem?]; exact e13
        refine opU_val (C := fun w' => Below w.heap.size w w' ∧ (w'.cell? ⟨gb, 0, none⟩ = some (.int .i64 x0) ∧ w'.cell? ⟨gb, 1, none⟩ = some (.int .i64 x1) ∧ w'.cell? ⟨gb, 2, none⟩ = some (.int .i64 x2) ∧ w'.cell? ⟨gb, 3, none⟩ = some (.int .i64 x3) ∧ w'.cell? ⟨gb, 4, none⟩ = some (.int .i64 x4) ∧ w'.cell? ⟨gb, 5, none⟩ = some (.int .i64 x5) ∧ w'.cell? ⟨gb, 11, none⟩ = some (.int .i64 (A : Int))) ∧ (w'.heap[w.heap.size]? = some (.cells zeroC.cells.toArray 48 (0, 0)) ∨ w'.heap[w.heap.size]? = some (.cells #[.int .i64 x0, .int .i64 x1, .int .i64 x2, .int .i64 x3, .int .i64 x4, .int .i64 x5, .string ct, .string dt] 48 (0, 0)))) (St := fun x y => y.heap[w.heap.size]? = x.heap[w.heap.size]? ∨ y.heap[w.heap.size]? = some (.cells #[.int .i64 x0, .int .i64 x1, .int .i64 x2, .int .i64 x3, .int .i64 x4, .int .i64 x5, .string ct, .string dt] 48 (0, 0))) (V := fun dq vq _ => match dq with | 112 => vq = .slice (some ⟨gb, 0, none⟩) 13 cp | 113 => vq = .pointer (some ⟨gb, 0, none⟩) | 114 => vq = .int .i64 x0 | 115 => vq = .slice (some ⟨gb, 0, none⟩) 13 cp | 116 => vq = .pointer (some ⟨gb, 1, none⟩) | 117 => vq = .int .i64 x1 | 118 => vq = .slice (some ⟨gb, 0, none⟩) 13 cp | 119 => vq = .pointer (some ⟨gb, 2, none⟩) | 120 => vq = .int .i64 x2 | 121 => vq = .slice (some ⟨gb, 0, none⟩) 13 cp | 122 => vq = .pointer (some ⟨gb, 3, none⟩) | 123 => vq = .int .i64 x3 | 124 => vq = .slice (some ⟨gb, 0, none⟩) 13 cp | 125 => vq = .pointer (some ⟨gb, 4, none⟩) | 126 => vq = .int .i64 x4 | 127 => vq = .slice (some ⟨gb, 0, none⟩) 13 cp | 128 => vq = .pointer (some ⟨gb, 5, none⟩) | 129 => vq = .int .i64 x5 | 130 => vq = .string nm | 131 => vq = .slice (some ⟨gb, 0, none⟩) 13 cp | 132 => vq = .pointer (some ⟨gb, 11, none⟩) | 133 => vq = .int .i64 (A : Int) | 134 => vq = .int .i64 ((A : Int) - 1) | 135 => vq = .string ct | 136 => vq = .string dt | 137 => vq = .agg #[.int .i64 x0, .int .i64 x1, .int .i64 x2, .int .i64 x3, .int .i64 x4, .int .i64 x5, .string ct, .string dt] | 138 => vq = .int .i64 ((p : Int) + (A : Int) + (q1 : Int) + (D : Int) + (q2 : Int)) | 9 => vq = .int .i64 ((p : Int) + (A : Int) + (q1 : Int) + (D : Int) + (q2 : Int)) | 10 => vq = .int .i64 0 | _ => True) (U := fun o w' => o.dst = none → w'.heap[w.heap.size]? = some (.cells #[.int .i64 x0, .int .i64 x1, .int .i64 x2, .int .i64 x3, .int .i64 x4, .int .i64 x5, .string ct, .string dt] 48 (0, 0))) (w' := w2) (.int .i64 ((p : Int) + (A : Int) + (q1 : Int) + (D : Int) + (q2 : Int))) ?_ ?_ ?_ ?_ ?_
        · (clear hV hI hC; go_simp <;> (first | rfl | simp | (rw [IntKind.wrap_i64]; omega)))
        · exact hC
        · exact Or.inl rfl
        · intro d hd; cases hd; rfl
        · intro h; cases h
      case os27 =>
        intro Q a w2 hC hV hI
        have e8 : a.eval (.tmp 8) = .pointer (some ⟨w.heap.size, 0, none⟩) := (hI 8 (by simp [Op.operands]) (by kernel_rfl)).trans rfl
        have f8 : a.tmps.getD 8 undef = .pointer (some ⟨w.heap.size, 0, none⟩) := e8
        have g8 : a.tmps[8]?.getD undef = .pointer (some ⟨w.heap.size, 0, none⟩) := by rw [← Array.getD_eq_getD_getElem?]; exact e8
        have e137 : a.eval (.tmp 137) = .agg #[.int .i64 x0, .int .i64 x1, .int .i64 x2, .int .i64 x3, .int .i64 x4, .int .i64 x5, .string ct, .string dt] := hV 137 (by simp [Op.operands]) (by kernel_rfl)
        have f137 : a.tmps.getD 137 undef = .agg #[.int .i64 x0, .int .i64 x1, .int .i64 x2, .int .i64 x3, .int .i64 x4, .int .i64 x5, .string ct, .string dt] := e137
        have g137 : a.tmps[137]?.getD undef = .agg #[.int .i64 x0, .int .i64 x1, .int .i64 x2, .int .i64 x3, .int .i64 x4, .int .i64 x5, .string ct, .string dt] := by rw [← Array.getD_eq_getD_getElem?]; exact e137
        have hS : ∀ cs : Array Value, cs.size = 8 → w2.heap[w.heap.size]? = some (.cells cs 48 (0, 0)) → _ := fun cs hc hR => run_storeVar_row (P := Tryz.prog) w2 w.heap.size 48 48 cs #[.int .i64 x0, .int .i64 x1, .int .i64 x2, .int .i64 x3, .int .i64 x4, .int .i64 x5, .string ct, .string dt] hR (by rw [Tryz.sizeOC]; rfl) hc (by simp [Value.oneCell'])
        have hR2 : (w2.setRow w.heap.size #[.int .i64 x0, .int .i64 x1, .int .i64 x2, .int .i64 x3, .int .i64 x4, .int .i64 x5, .string ct, .string dt]).heap[w.heap.size]? = some (.cells #[.int .i64 x0, .int .i64 x1, .int .i64 x2, .int .i64 x3, .int .i64 x4, .int .i64 x5, .string ct, .string dt] 48 (0, 0)) := hC.2.2.elim (fun h => setRow_heap _ _ _ _ _ _ h) (fun h => setRow_heap _ _ _ _ _ _ h)
        have hgr : gb ≠ w.heap.size := by have := HGB.out; omega
        have hcb : (w2.setRow w.heap.size #[.int .i64 x0, .int .i64 x1, .int .i64 x2, .int .i64 x3, .int .i64 x4, .int .i64 x5, .string ct, .string dt]).heap[gb]? = w2.heap[gb]? := setRow_other _ _ _ _ hgr
        have hkb : ∀ m, (w2.setRow w.heap.size #[.int .i64 x0, .int .i64 x1, .int .i64 x2, .int .i64 x3, .int .i64 x4, .int .i64 x5, .string ct, .string dt]).cell? ⟨gb, m, none⟩ = w2.cell? ⟨gb, m, none⟩ := fun m => World.cell?_of_block hcb
        refine opU_store (C := fun w' => Below w.heap.size w w' ∧ (w'.cell? ⟨gb, 0, none⟩ = some (.int .i64 x0) ∧ w'.cell? ⟨gb, 1, none⟩ = some (.int .i64 x1) ∧ w'.cell? ⟨gb, 2, none⟩ = some (.int .i64 x2) ∧ w'.cell? ⟨gb, 3, none⟩ = some (.int .i64 x3) ∧ w'.cell? ⟨gb, 4, none⟩ = some (.int .i64 x4) ∧ w'.cell? ⟨gb, 5, none⟩ = some (.int .i64 x5) ∧ w'.cell? ⟨gb, 11, none⟩ = some (.int .i64 (A : Int))) ∧ (w'.heap[w.heap.size]? = some (.cells zeroC.cells.toArray 48 (0, 0)) ∨ w'.heap[w.heap.size]? = some (.cells #[.int .i64 x0, .int .i64 x1, .int .i64 x2, .int .i64 x3, .int .i64 x4, .int .i64 x5, .string ct, .string dt] 48 (0, 0)))) (St := fun x y => y.heap[w.heap.size]? = x.heap[w.heap.size]? ∨ y.heap[w.heap.size]? = some (.cells #[.int .i64 x0, .int .i64 x1, .int .i64 x2, .int .i64 x3, .int .i64 x4, .int .i64 x5, .string ct, .string dt] 48 (0, 0))) (V := fun dq vq _ => match dq with | 112 => vq = .slice (some ⟨gb, 0, none⟩) 13 cp | 113 => vq = .pointer (some ⟨gb, 0, none⟩) | 114 => vq = .int .i64 x0 | 115 => vq = .slice (some ⟨gb, 0, none⟩) 13 cp | 116 => vq = .pointer (some ⟨gb, 1, none⟩) | 117 => vq = .int .i64 x1 | 118 => vq = .slice (some ⟨gb, 0, none⟩) 13 cp | 119 => vq = .pointer (some ⟨gb, 2, none⟩) | 120 => vq = .int .i64 x2 | 121 => vq = .slice (some ⟨gb, 0, none⟩) 13 cp | 122 => vq = .pointer (some ⟨gb, 3, none⟩) | 123 => vq = .int .i64 x3 | 124 => vq = .slice (some ⟨gb, 0, none⟩) 13 cp | 125 => vq = .pointer (some ⟨gb, 4, none⟩) | 126 => vq = .int .i64 x4 | 127 => vq = .slice (some ⟨gb, 0, none⟩) 13 cp | 128 => vq = .pointer (some ⟨gb, 5, none⟩) | 129 => vq = .int .i64 x5 | 130 => vq = .string nm | 131 => vq = .slice (some ⟨gb, 0, none⟩) 13 cp | 132 => vq = .pointer (some ⟨gb, 11, none⟩) | 133 => vq = .int .i64 (A : Int) | 134 => vq = .int .i64 ((A : Int) - 1) | 135 => vq = .string ct | 136 => vq = .string dt | 137 => vq = .agg #[.int .i64 x0, .int .i64 x1, .int .i64 x2, .int .i64 x3, .int .i64 x4, .int .i64 x5, .string ct, .string dt] | 138 => vq = .int .i64 ((p : Int) + (A : Int) + (q1 : Int) + (D : Int) + (q2 : Int)) | 9 => vq = .int .i64 ((p : Int) + (A : Int) + (q1 : Int) + (D : Int) + (q2 : Int)) | 10 => vq = .int .i64 0 | _ => True) (U := fun o w' => o.dst = none → w'.heap[w.heap.size]? = some (.cells #[.int .i64 x0, .int .i64 x1, .int .i64 x2, .int .i64 x3, .int .i64 x4, .int .i64 x5, .string ct, .string dt] 48 (0, 0))) 48 _ _ rfl rfl ⟨w.heap.size, 0, none⟩ e8 e137 (hC.2.2.elim (fun h => hS _ rfl h) (fun h => hS _ rfl h)) ?_ ?_ ?_
        · exact ⟨hC.1.trans (below_setK (Nat.le_refl _) _), ⟨(hkb 0).trans hC.2.1.1, (hkb 1).trans hC.2.1.2.1, (hkb 2).trans hC.2.1.2.2.1, (hkb 3).trans hC.2.1.2.2.2.1, (hkb 4).trans hC.2.1.2.2.2.2.1, (hkb 5).trans hC.2.1.2.2.2.2.2.1, (hkb 11).trans hC.2.1.2.2.2.2.2.2⟩, Or.inr hR2⟩
        · exact Or.inr hR2
        · intro _; exact hR2
      case o9 =>
        intro Q a w2 hC hV hI
        have e138 : a.eval (.tmp 138) = .int .i64 ((p : Int) + (A : Int) + (q1 : Int) + (D : Int) + (q2 : Int)) := hV 138 (by simp [Op.operands]) (by kernel_rfl)
        have f138 : a.tmps.getD 138 undef = .int .i64 ((p : Int) + (A : Int) + (q1 : Int) + (D : Int) + (q2 : Int)) := e138
        have g138 : a.tmps[138]?.getD undef = .int .i64 ((p : Int) + (A : Int) + (q1 : Int) + (D : Int) + (q2 : Int)) := by rw [← Array.getD_eq_getD_getElem?]; exact e138
        refine opU_val (C := fun w' => Below w.heap.size w w' ∧ (w'.cell? ⟨gb, 0, none⟩ = some (.int .i64 x0) ∧ w'.cell? ⟨gb, 1, none⟩ = some (.int .i64 x1) ∧ w'.cell? ⟨gb, 2, none⟩ = some (.int .i64 x2) ∧ w'.cell? ⟨gb, 3, none⟩ = some (.int .i64 x3) ∧ w'.cell? ⟨gb, 4, none⟩ = some (.int .i64 x4) ∧ w'.cell? ⟨gb, 5, none⟩ = some (.int .i64 x5) ∧ w'.cell? ⟨gb, 11, none⟩ = some (.int .i64 (A : Int))) ∧ (w'.heap[w.heap.size]? = some (.cells zeroC.cells.toArray 48 (0, 0)) ∨ w'.heap[w.heap.size]? = some (.cells #[.int .i64 x0, .int .i64 x1, .int .i64 x2, .int .i64 x3, .int .i64 x4, .int .i64 x5, .string ct, .string dt] 48 (0, 0)))) (St := fun x y => y.heap[w.heap.size]? = x.heap[w.heap.size]? ∨ y.heap[w.heap.size]? = some (.cells #[.int .i64 x0, .int .i64 x1, .int .i64 x2, .int .i64 x3, .int .i64 x4, .int .i64 x5, .string ct, .string dt] 48 (0, 0))) (V := fun dq vq _ => match dq with | 112 => vq = .slice (some ⟨gb, 0, none⟩) 13 cp | 113 => vq = .pointer (some ⟨gb, 0, none⟩) | 114 => vq = .int .i64 x0 | 115 => vq = .slice (some ⟨gb, 0, none⟩) 13 cp | 116 => vq = .pointer (some ⟨gb, 1, none⟩) | 117 => vq = .int .i64 x1 | 118 => vq = .slice (some ⟨gb, 0, none⟩) 13 cp | 119 => vq = .pointer (some ⟨gb, 2, none⟩) | 120 => vq = .int .i64 x2 | 121 => vq = .slice (some ⟨gb, 0, none⟩) 13 cp | 122 => vq = .pointer (some ⟨gb, 3, none⟩) | 123 => vq = .int .i64 x3 | 124 => vq = .slice (some ⟨gb, 0, none⟩) 13 cp | 125 => vq = .pointer (some ⟨gb, 4, none⟩) | 126 => vq = .int .i64 x4 | 127 => vq = .slice (some ⟨gb, 0, none⟩) 13 cp | 128 => vq = .pointer (some ⟨gb, 5, none⟩) | 129 => vq = .int .i64 x5 | 130 => vq = .string nm | 131 => vq = .slice (some ⟨gb, 0, none⟩) 13 cp | 132 => vq = .pointer (some ⟨gb, 11, none⟩) | 133 => vq = .int .i64 (A : Int) | 134 => vq = .int .i64 ((A : Int) - 1) | 135 => vq = .string ct | 136 => vq = .string dt | 137 => vq = .agg #[.int .i64 x0, .int .i64 x1, .int .i64 x2, .int .i64 x3, .int .i64 x4, .int .i64 x5, .string ct, .string dt] | 138 => vq = .int .i64 ((p : Int) + (A : Int) + (q1 : Int) + (D : Int) + (q2 : Int)) | 9 => vq = .int .i64 ((p : Int) + (A : Int) + (q1 : Int) + (D : Int) + (q2 : Int)) | 10 => vq = .int .i64 0 | _ => True) (U := fun o w' => o.dst = none → w'.heap[w.heap.size]? = some (.cells #[.int .i64 x0, .int .i64 x1, .int .i64 x2, .int .i64 x3, .int .i64 x4, .int .i64 x5, .string ct, .string dt] 48 (0, 0))) (w' := w2) (.int .i64 ((p : Int) + (A : Int) + (q1 : Int) + (D : Int) + (q2 : Int))) ?_ ?_ ?_ ?_ ?_
        · (clear hV hI hC; go_simp <;> (first | rfl | simp | (rw [IntKind.wrap_i64]; omega)))
        · exact hC
        · exact Or.inl rfl
        · intro d hd; cases hd; rfl
        · intro h; cases h
      case o10 =>
        intro Q a w2 hC hV hI
        refine opU_val (C := fun w' => Below w.heap.size w w' ∧ (w'.cell? ⟨gb, 0, none⟩ = some (.int .i64 x0) ∧ w'.cell? ⟨gb, 1, none⟩ = some (.int .i64 x1) ∧ w'.cell? ⟨gb, 2, none⟩ = some (.int .i64 x2) ∧ w'.cell? ⟨gb, 3, none⟩ = some (.int .i64 x3) ∧ w'.cell? ⟨gb, 4, none⟩ = some (.int .i64 x4) ∧ w'.cell? ⟨gb, 5, none⟩ = some (.int .i64 x5) ∧ w'.cell? ⟨gb, 11, none⟩ = some (.int .i64 (A : Int))) ∧ (w'.heap[w.heap.size]? = some (.cells zeroC.cells.toArray 48 (0, 0)) ∨ w'.heap[w.heap.size]? = some (.cells #[.int .i64 x0, .int .i64 x1, .int .i64 x2, .int .i64 x3, .int .i64 x4, .int .i64 x5, .string ct, .string dt] 48 (0, 0)))) (St := fun x y => y.heap[w.heap.size]? = x.heap[w.heap.size]? ∨ y.heap[w.heap.size]? = some (.cells #[.int .i64 x0, .int .i64 x1, .int .i64 x2, .int .i64 x3, .int .i64 x4, .int .i64 x5, .string ct, .string dt] 48 (0, 0))) (V := fun dq vq _ => match dq with | 112 => vq = .slice (some ⟨gb, 0, none⟩) 13 cp | 113 => vq = .pointer (some ⟨gb, 0, none⟩) | 114 => vq = .int .i64 x0 | 115 => vq = .slice (some ⟨gb, 0, none⟩) 13 cp | 116 => vq = .pointer (some ⟨gb, 1, none⟩) | 117 => vq = .int .i64 x1 | 118 => vq = .slice (some ⟨gb, 0, none⟩) 13 cp | 119 => vq = .pointer (some ⟨gb, 2, none⟩) | 120 => vq = .int .i64 x2 | 121 => vq = .slice (some ⟨gb, 0, none⟩) 13 cp | 122 => vq = .pointer (some ⟨gb, 3, none⟩) | 123 => vq = .int .i64 x3 | 124 => vq = .slice (some ⟨gb, 0, none⟩) 13 cp | 125 => vq = .pointer (some ⟨gb, 4, none⟩) | 126 => vq = .int .i64 x4 | 127 => vq = .slice (some ⟨gb, 0, none⟩) 13 cp | 128 => vq = .pointer (some ⟨gb, 5, none⟩) | 129 => vq = .int .i64 x5 | 130 => vq = .string nm | 131 => vq = .slice (some ⟨gb, 0, none⟩) 13 cp | 132 => vq = .pointer (some ⟨gb, 11, none⟩) | 133 => vq = .int .i64 (A : Int) | 134 => vq = .int .i64 ((A : Int) - 1) | 135 => vq = .string ct | 136 => vq = .string dt | 137 => vq = .agg #[.int .i64 x0, .int .i64 x1, .int .i64 x2, .int .i64 x3, .int .i64 x4, .int .i64 x5, .string ct, .string dt] | 138 => vq = .int .i64 ((p : Int) + (A : Int) + (q1 : Int) + (D : Int) + (q2 : Int)) | 9 => vq = .int .i64 ((p : Int) + (A : Int) + (q1 : Int) + (D : Int) + (q2 : Int)) | 10 => vq = .int .i64 0 | _ => True) (U := fun o w' => o.dst = none → w'.heap[w.heap.size]? = some (.cells #[.int .i64 x0, .int .i64 x1, .int .i64 x2, .int .i64 x3, .int .i64 x4, .int .i64 x5, .string ct, .string dt] 48 (0, 0))) (w' := w2) (.int .i64 0) ?_ ?_ ?_ ?_ ?_
        · (clear hV hI hC; go_simp <;> (first | rfl | simp | (rw [IntKind.wrap_i64]; omega)))
        · exact hC
        · exact Or.inl rfl
        · intro d hd; cases hd; rfl
        · intro h; cases h
    case hend =>
      intro f w9 hC hall huall
      simp only [List.forall_mem_cons] at hall
      obtain ⟨h112, h113, h114, h115, h116, h117, h118, h119, h120, h121, h122, h123, h124, h125, h126, h127, h128, h129, h130, h131, h132, h133, h134, h135, h136, h137, h138, _, h9, h10, _⟩ := hall
      simp only [List.forall_mem_cons] at huall
      obtain ⟨_, _, _, _, _, _, _, _, _, _, _, _, _, _, _, _, _, _, _, _, _, _, _, _, _, _, _, hus, _, _, _⟩ := huall
      replace h112 : f 112 = .slice (some ⟨gb, 0, none⟩) 13 cp := h112 112 rfl
      replace h113 : f 113 = .pointer (some ⟨gb, 0, none⟩) := h113 113 rfl
      replace h114 : f 114 = .int .i64 x0 := h114 114 rfl
      replace h115 : f 115 = .slice (some ⟨gb, 0, none⟩) 13 cp := h115 115 rfl
      replace h116 : f 116 = .pointer (some ⟨gb, 1, none⟩) := h116 116 rfl
      replace h117 : f 117 = .int .i64 x1 := h117 117 rfl
      replace h118 : f 118 = .slice (some ⟨gb, 0, none⟩) 13 cp := h118 118 rfl
      replace h119 : f 119 = .pointer (some ⟨gb, 2, none⟩) := h119 119 rfl
      replace h120 : f 120 = .int .i64 x2 := h120 120 rfl
      replace h121 : f 121 = .slice (some ⟨gb, 0, none⟩) 13 cp := h121 121 rfl
      replace h122 : f 122 = .pointer (some ⟨gb, 3, none⟩) := h122 122 rfl
      replace h123 : f 123 = .int .i64 x3 := h123 123 rfl
      replace h124 : f 124 = .slice (some ⟨gb, 0, none⟩) 13 cp := h124 124 rfl
      replace h125 : f 125 = .pointer (some ⟨gb, 4, none⟩) := h125 125 rfl
      replace h126 : f 126 = .int .i64 x4 := h126 126 rfl
      replace h127 : f 127 = .slice (some ⟨gb, 0, none⟩) 13 cp := h127 127 rfl
      replace h128 : f 128 = .pointer (some ⟨gb, 5, none⟩) := h128 128 rfl
      replace h129 : f 129 = .int .i64 x5 := h129 129 rfl
      replace h130 : f 130 = .string nm := h130 130 rfl
      replace h131 : f 131 = .slice (some ⟨gb, 0, none⟩) 13 cp := h131 131 rfl
      replace h132 : f 132 = .pointer (some ⟨gb, 11, none⟩) := h132 132 rfl
      replace h133 : f 133 = .int .i64 (A : Int) := h133 133 rfl
      replace h134 : f 134 = .int .i64 ((A : Int) - 1) := h134 134 rfl
      replace h135 : f 135 = .string ct := h135 135 rfl
      replace h136 : f 136 = .string dt := h136 136 rfl
      replace h137 : f 137 = .agg #[.int .i64 x0, .int .i64 x1, .int .i64 x2, .int .i64 x3, .int .i64 x4, .int .i64 x5, .string ct, .string dt] := h137 137 rfl
      replace h138 : f 138 = .int .i64 ((p : Int) + (A : Int) + (q1 : Int) + (D : Int) + (q2 : Int)) := h138 138 rfl
      replace h9 : f 9 = .int .i64 ((p : Int) + (A : Int) + (q1 : Int) + (D : Int) + (q2 : Int)) := h9 9 rfl
      replace h10 : f 10 = .int .i64 0 := h10 10 rfl
      simp only [putAll, Act.put, List.setIfInBounds_toArray, List.set_cons_succ, List.set_cons_zero, h112, h113, h114, h115, h116, h117, h118, h119, h120, h121, h122, h123, h124, h125, h126, h127, h128, h129, h130, h131, h132, h133, h134, h135, h136, h137, h138, h9, h10]
      clear h112 h113 h114 h115 h116 h117 h118 h119 h120 h121 h122 h123 h124 h125 h126 h127 h128 h129 h130 h131 h132 h133 h134 h135 h136 h137 h138 h9 h10
      have R9 : CardO w9 w.heap.size ⟨x0, x1, x2, x3, x4, x5, ct, dt⟩ := hus trivial
      have B9 := hC.1
      clear KC hC hus
      go_wp2_with fail
      refine bodyPost_ret (res_OC3 rfl _ rfl R9) rfl ?_
      exact ⟨by rw [HE.out]; rfl, B9⟩
end Go.Proofs.YtcnmbolmgifgfabGreatDoor

/- Contract of spec.GetNew. -/
namespace Go.Proofs.YtcnmbolmgifgfabGreatDoor
open Go.ChangeShapes Go.WideShapes Go.ChangeAt Go.RowKit Go.Deep

theorem isNul_nulN (n : Nat) : isNul (nulN n) = true := (isNul_iff _).2 (by rw [nulN_size])
theorem nul_of {s : ByteArray} {a b n : Nat} (h : isNul (s.extract a b) = true) (hb : b ≤ s.size) (hn : a + n = b) : s.extract a b = nulN n := by
  have h1 := (isNul_iff _).1 h
  rw [ByteArray.size_extract, show min b s.size - a = n from by omega] at h1
  exact h1
theorem rest_any (s : ByteArray) (j gb cp : Nat) (crc : Bool) (w : World) (hs : s.size ≤ 1048576) (hj : j + 110 ≤ s.size) (hm : s.extract j (j + 6) = mgN crc) (ho : ∀ k, k < 13 → nO s j k = true) (hz : nN s j 7 = 0 ∧ nN s j 8 = 0 ∧ nN s j 9 = 0 ∧ nN s j 10 = 0) (hgb : gb < w.heap.size) (hN : ∀ m, m < 13 → w.cell? ⟨gb, m, none⟩ = some (.int .i64 (nN s j m))) :
    Calls Tryz.prog 76 #[.string s, .int .i64 (j : Int), .slice (some ⟨gb, 0, none⟩) 13 cp, .bool crc] w fun e w' => e = .returned (ncV s j crc) ∧ Below w.heap.size w w' := by
  have b11 := nN_bd s j 11
  have b6 := nN_bd s j 6
  have e11 : nN s j 11 = ((nN s j 11).toNat : Int) := by omega
  have e6 : nN s j 6 = ((nN s j 6).toNat : Int) := by omega
  have eN : nmB s j = s.extract (j + 110) (j + 110 + (nN s j 11).toNat) := by simp only [nmB, nmE]
  have eD : dtT s j = s.extract (j + 110 + (nN s j 11).toNat + pad4 (110 + (nN s j 11).toNat)) (j + 110 + (nN s j 11).toNat + pad4 (110 + (nN s j 11).toNat) + (nN s j 6).toNat) := by simp only [dtT, dtB, dtE, nmE]
  have eE : cdE s j = j + 110 + (nN s j 11).toNat + pad4 (110 + (nN s j 11).toNat) + (nN s j 6).toNat + pad4 (nN s j 6).toNat := by simp only [cdE, dtB, dtE, nmE]
  have hbad : badN s j ↔ (¬ ((cutv (s.extract (j + 110) (j + 110 + (nN s j 11).toNat))).size : Int) + 1 = nN s j 11 ∨ ¬ s.extract (j + 110 + (nN s j 11).toNat) (j + 110 + (nN s j 11).toNat + pad4 (110 + (nN s j 11).toNat)) = nulN (pad4 (110 + (nN s j 11).toNat)) ∨ ¬ s.extract (j + 110 + (nN s j 11).toNat + pad4 (110 + (nN s j 11).toNat) + (nN s j 6).toNat) (j + 110 + (nN s j 11).toNat + pad4 (110 + (nN s j 11).toNat) + (nN s j 6).toNat + pad4 (nN s j 6).toNat) = nulN (pad4 (nN s j 6).toNat)) := by simp only [badN, nmB, cdE, dtB, dtE, nmE]
  have hV1 := fun h => nc_short hj hm ho hz h
  have hV2 := fun h b => nc_name hj hm ho hz h b
  have hV3 := fun h b q => nc_sum hj hm ho hz h b q
  have hV4 := fun h b q => nc_good hj hm ho hz h b q
  rw [eE] at hV1 hV2 hV3 hV4
  rw [eD] at hV3 hV4
  rw [eN] at hV4
  rw [hbad] at hV2 hV3 hV4
  clear eE eD eN hbad ho hm hz
  generalize ncV s j crc = V at hV1 hV2 hV3 hV4 ⊢
  obtain ⟨F, hF⟩ : ∃ F : Nat → Int, F = nN s j := ⟨_, rfl⟩
  rw [← hF] at hV1 hV2 hV3 hV4 hN b11 b6 e11 e6
  clear hF
  generalize hA : (F 11).toNat = A at *
  generalize hD : (F 6).toNat = D at *
  obtain ⟨q1, hq1⟩ : ∃ q1, q1 = pad4 (110 + A) := ⟨_, rfl⟩
  obtain ⟨q2, hq2⟩ : ∃ q2, q2 = pad4 D := ⟨_, rfl⟩
  rw [← hq1, ← hq2] at hV1 hV2 hV3 hV4
  refine rest_walk s j (j + 110) A D q1 q2 gb cp F crc V w hs rfl hj (by omega) (by omega) hq1 hq2 e11 e6 hgb hN hV1 ?_ ?_ ?_ ?_ ?_ ?_
  · intro h h0
    exact hV2 h (.inl (by omega))
  · intro h h0
    exact hV2 h (.inl (by omega))
  · intro h h0
    exact hV2 h (.inr (.inl (fun e => by rw [e, isNul_nulN] at h0; cases h0)))
  · intro h h0
    exact hV2 h (.inr (.inr (fun e => by rw [e, isNul_nulN] at h0; cases h0)))
  · intro h h0 h1 h2 h3 h4
    refine hV3 h ?_ h4
    rintro (b | b | b)
    · omega
    · exact b (nul_of h2 (by omega) rfl)
    · exact b (nul_of h3 (by omega) rfl)
  · intro h h0 h1 h2 h3 h4
    have h9 := hV4 h ?_ h4
    · rw [h9, show ((j + 110 + A + q1 + D + q2 : Nat) : Int) = ((j + 110 : Nat) : Int) + (A : Int) + (q1 : Int) + (D : Int) + (q2 : Int) from by omega]
    · rintro (b | b | b)
      · omega
      · exact b (nul_of h2 (by omega) rfl)
      · exact b (nul_of h3 (by omega) rfl)
theorem Tryz.infoN8 : (Tryz.prog.info? 3).map (fun i => (i.zero, i.size, i.bytes)) = some (some (.int .i64 0), 1, 8) := by kernel_rfl
def nlN (s : ByteArray) (j : Nat) : Nat → List Value
  | 0 => []
  | k + 1 => nlN s j k ++ [.int .i64 (nN s j k)]
theorem nlN_at (s : ByteArray) (j : Nat) : ∀ (n m : Nat), m < n → (nlN s j n)[m]? = some (.int .i64 (nN s j m)) := by
  intro n
  induction n with
  | zero => intro m h; omega
  | succ n ih =>
    intro m h
    have hl : (nlN s j n).length = n := by
      clear ih h m
      induction n with
      | zero => rfl
      | succ n ih => simp [nlN, ih]
    rw [nlN]
    by_cases e : m = n
    · subst e
      rw [List.getElem?_append_right (by omega), hl]
      simp
    · rw [List.getElem?_append_left (by omega)]
      exact ih m (by omega)
theorem cell_oneNN (w : World) (v : Value) (t : TypeId) : ∀ j u, [v][j]? = some u → (w.alloc (.cells #[v] t)).cell? ((⟨w.heap.size, 0, none⟩ : Addr).add j) = some u := by
  intro j u hj
  match j, hj with
  | 0, hj => simp at hj; subst hj; simp [Addr.add]
  | j + 1, hj => simp at hj
theorem str_neS {a b : ByteArray} (h : ¬ a = b) : (a.toList == b.toList) = false := by
  simp only [beq_eq_false_iff_ne, ne_eq]
  intro e
  apply h
  rw [ba_toList, ba_toList] at e
  exact ba_ext e
theorem ncV_form (s : ByteArray) (i : Int) (crc : Bool) : ∃ (x0 x1 x2 x3 x4 x5 : Int) (x6 x7 : ByteArray) (n c : Int), ncV s i crc = .tuple #[.agg #[.int .i64 x0, .int .i64 x1, .int .i64 x2, .int .i64 x3, .int .i64 x4, .int .i64 x5, .string x6, .string x7], .int .i64 n, .int .i64 c] :=
  ⟨(ncCard s i crc).Ino, (ncCard s i crc).Mode, (ncCard s i crc).Uid, (ncCard s i crc).Gid, (ncCard s i crc).Count, (ncCard s i crc).Time, (ncCard s i crc).Path, (ncCard s i crc).Data, ncNext s i crc, ncCode s i crc, rfl⟩
set_option maxHeartbeats 3200000 in
set_option maxRecDepth 8000 in
theorem getNew_short (s : ByteArray) (i : Int) (crc : Bool) (w : World) (hs : s.size ≤ 1048576) (hi0 : -9223372036854775808 ≤ i) (hi1 : i ≤ 9223372036854775807) (hc : i < 0 ∨ (s.size : Int) < i + 110) :
    Calls Tryz.prog 40 #[.string s, .int .i64 i, .bool crc] w fun e w' => e = .returned (ncV s i crc) ∧ Below w.heap.size w w' := by
  have HF : Hid (ncV s i crc = bdV i 1) := Lib.hid (nc_cut hc)
  have R := Lib.hid (CardO.new w zeroC)
  have B : Hid (Below w.heap.size w (w.alloc (.cells zeroC.cells.toArray 48))) := Lib.hid ((Below.refl _ _).alloc (Nat.le_refl _) _)
  generalize ncV s i crc = r at HF
  by_cases h1 : i < 0
  · clear hc
    simp only [zeroC, Card.cells] at R B
    go_enter Tryz.func40, Tryz.ntmps40
    obtain ⟨d0, d1, d2, d3, d4, d5, d6, d7⟩ := (show CardO _ w.heap.size zeroC from R.out).at.zero
    simp only [zeroC] at d0 d1 d2 d3 d4 d5 d6 d7
    have f0 := (show CardO _ w.heap.size zeroC from R.out).fz 0
    have f1 := (show CardO _ w.heap.size zeroC from R.out).fz 1
    have f2 := (show CardO _ w.heap.size zeroC from R.out).fz 2
    have f3 := (show CardO _ w.heap.size zeroC from R.out).fz 3
    have f4 := (show CardO _ w.heap.size zeroC from R.out).fz 4
    have f5 := (show CardO _ w.heap.size zeroC from R.out).fz 5
    have f6 := (show CardO _ w.heap.size zeroC from R.out).fz 6
    have f7 := (show CardO _ w.heap.size zeroC from R.out).fz 7
    go_wp2_with fail
    refine bodyPost_ret (res_OC3 rfl _ rfl R.out) rfl ?_
    exact ⟨by rw [HF.out]; rfl, B.out⟩
  · have h2 : (s.size : Int) - 110 < i := by omega
    clear hc
    simp only [zeroC, Card.cells] at R B
    go_enter Tryz.func40, Tryz.ntmps40
    obtain ⟨d0, d1, d2, d3, d4, d5, d6, d7⟩ := (show CardO _ w.heap.size zeroC from R.out).at.zero
    simp only [zeroC] at d0 d1 d2 d3 d4 d5 d6 d7
    have f0 := (show CardO _ w.heap.size zeroC from R.out).fz 0
    have f1 := (show CardO _ w.heap.size zeroC from R.out).fz 1
    have f2 := (show CardO _ w.heap.size zeroC from R.out).fz 2
    have f3 := (show CardO _ w.heap.size zeroC from R.out).fz 3
    have f4 := (show CardO _ w.heap.size zeroC from R.out).fz 4
    have f5 := (show CardO _ w.heap.size zeroC from R.out).fz 5
    have f6 := (show CardO _ w.heap.size zeroC from R.out).fz 6
    have f7 := (show CardO _ w.heap.size zeroC from R.out).fz 7
    go_wp2_with fail
    refine bodyPost_ret (res_OC3 rfl _ rfl R.out) rfl ?_
    exact ⟨by rw [HF.out]; rfl, B.out⟩
set_option maxHeartbeats 3200000 in
set_option maxRecDepth 8000 in
theorem getNew_spec (s : ByteArray) (j : Nat) (crc : Bool) (w : World) (hs : s.size ≤ 1048576) (hj : j + 110 ≤ s.size) :
    Calls Tryz.prog 40 #[.string s, .int .i64 (j : Int), .bool crc] w fun e w' => e = .returned (ncV s j crc) ∧ Below w.heap.size w w' := by
  obtain ⟨i0, hi0, hz0, hz1, hz2⟩ := info_parts Tryz.infoN8
  have R := Lib.hid (CardO.new w zeroC)
  have B : Hid (Below w.heap.size w (w.alloc (.cells zeroC.cells.toArray 48))) := Lib.hid ((Below.refl _ _).alloc (Nat.le_refl _) _)
  have h2 : ¬ (s.size : Int) - 110 < (j : Int) := by omega
  have hS6 := fun w => sl_at s (j : Int) ((j : Int) + 6) j (j + 6) rfl (by omega) (by omega) (by omega) w
  have HMg := Lib.hid (fun w => l08Magic_any crc w)
  simp only [zeroC, Card.cells] at R B
  by_cases hm : ¬ s.extract j (j + 6) = mgN crc
  · have HF : Hid (ncV s j crc = bdV j 4) := Lib.hid (nc_magic hj hm)
    have q := str_neS hm
    generalize ncV s j crc = V at HF
    clear hm
    generalize s.extract j (j + 6) = mg at hS6 q
    generalize mgN crc = mg2 at HMg q
    go_enter Tryz.func40, Tryz.ntmps40
    go_upto_region 3 with fail
    generalize World.alloc w _ = w1 at R B ⊢
    replace R : Hid (CardO w1 w.heap.size zeroC) := R
    go_quiet ((go_at_call 51; refine Calls.quiet_of_same ((HMg.out _).mono (fun e w' h => ⟨h.1, h.2⟩))))
    obtain ⟨w2, hwq⟩ : ∃ y, y = w1.drewN nq := ⟨_, rfl⟩
    replace R : Hid (CardO w2 w.heap.size zeroC) := Lib.hid (by rw [hwq]; exact R.out)
    replace B : Hid (Below w.heap.size w w2) := Lib.hid (by rw [hwq]; exact bel_drewS B.out)
    rw [← hwq]
    clear hwq q hS6 HMg
    obtain ⟨d0, d1, d2, d3, d4, d5, d6, d7⟩ := (R.out).at.zero
    simp only [zeroC] at d0 d1 d2 d3 d4 d5 d6 d7
    have f0 := (R.out).fz 0
    have f1 := (R.out).fz 1
    have f2 := (R.out).fz 2
    have f3 := (R.out).fz 3
    have f4 := (R.out).fz 4
    have f5 := (R.out).fz 5
    have f6 := (R.out).fz 6
    have f7 := (R.out).fz 7
    have R9 := (R.out).put zeroC
    have B9 := below_putOC (g := w.heap.size) (B.out) (Nat.le_refl _) zeroC
    simp only [putOC, zeroC] at R9 B9
    go_wp2_with fail
    refine bodyPost_ret (res_OC3 rfl _ rfl R9) rfl ?_
    exact ⟨by rw [HF.out]; rfl, B9⟩
  · have hm : s.extract j (j + 6) = mgN crc := Decidable.byContradiction hm
    have q : ((s.extract j (j + 6)).toList == (mgN crc).toList) = true := by rw [hm]; simp
    have HFld := Lib.hid (fun k hk h => nc_field hj hm (k := k) hk h)
    have HZe := Lib.hid (fun ho h => nc_zero hj hm ho h)
    have HRs := Lib.hid (fun ho hz gb cp w hgb hN => rest_any s j gb cp crc w hs hj hm ho hz hgb hN)
    clear hm
    generalize s.extract j (j + 6) = mg at hS6 q
    generalize mgN crc = mg2 at HMg q
    go_enter Tryz.func40, Tryz.ntmps40
    go_upto_region 3 with fail
    generalize World.alloc w _ = w1 at R B ⊢
    replace R : Hid (CardO w1 w.heap.size zeroC) := R
    go_quiet ((go_at_call 51; refine Calls.quiet_of_same ((HMg.out _).mono (fun e w' h => ⟨h.1, h.2⟩))))
    obtain ⟨w2, hwq⟩ : ∃ y, y = w1.drewN nq := ⟨_, rfl⟩
    replace R : Hid (CardO w2 w.heap.size zeroC) := Lib.hid (by rw [hwq]; exact R.out)
    replace B : Hid (Below w.heap.size w w2) := Lib.hid (by rw [hwq]; exact bel_drewS B.out)
    rw [← hwq]
    clear hwq q hS6 HMg
    have hlt1 := R.out.lt
    have O0 := World.ownsRow_lit (base := w.heap.size + 1) (e := 3) (size := 1) w2 #[] 0 (by omega) (by simp) rfl
    have NB := (Below.refl w2.heap.size w2).alloc (Nat.le_refl _) (.cells #[] 3)
    have O1 : Hid ((w2.alloc (.cells #[] 3)).ownsRow (w.heap.size + 1) 3 1 (.slice (some ⟨w2.heap.size, 0, none⟩) 0 0) 0 (nlN s j 0)) := Lib.hid O0
    have RW := Lib.hid (R.out.below NB hlt1)
    have BW := Lib.hid (btC B.out NB)
    clear O0 NB R B hlt1
    go_wp2_with fail
    go_loopw [9, 10, 11, 12] (fun v u _ _ wr => ∃ k : Nat, u = .int .i64 k ∧ k ≤ 13 ∧ (∀ m, m < k → nO s j m = true) ∧ wr.ownsRow (w.heap.size + 1) 3 1 v k (nlN s j k) ∧ (∃ gb cp, v = .slice (some ⟨gb, 0, none⟩) k cp) ∧ CardO wr w.heap.size zeroC ∧ Below w.heap.size w wr) (fun _ u _ _ _ => 13 - (intOf u).toNat)
    case atStart => exact ⟨0, rfl, by omega, fun m hm => by omega, O1.out, ⟨_, _, rfl⟩, RW.out, BW.out⟩
    case round =>
      obtain ⟨k, rfl, hk, hok, ho, ⟨gb, cp, rfl⟩, hr, hb⟩ := hrel
      clear O1 RW BW
      have OK := Lib.hid hok
      have O := Lib.hid ho
      have R := Lib.hid hr
      have B := Lib.hid hb
      have hszB := B.out.size
      clear hok ho hr hb
      by_cases hlt : k < 13
      · have hlt2 : (k : Int) < 13 := by omega
        have HFk := Lib.hid (HFld.out k hlt)
        have HOn : Hid (nO s j k = true → ∀ m, m < k + 1 → nO s j m = true) := Lib.hid (fun h m hm => by
          by_cases e : m = k
          · subst e; exact h
          · exact OK.out m (by omega))
        have HGo := Lib.hid (fun w => getHex_spec (nB s j k) w (by unfold nB; rw [ByteArray.size_extract]; omega))
        have HNl : Hid (nlN s j (k + 1) = nlN s j k ++ [.int .i64 (nN s j k)]) := Lib.hid rfl
        rw [show (getHexv (nB s j k).data.toList).1 = nN s j k from rfl, show (getHexv (nB s j k).data.toList).2 = nO s j k from rfl] at HGo
        have hS := fun w => sl_at s ((j : Int) + 6 + 8 * (k : Int)) ((j : Int) + 14 + 8 * (k : Int)) (j + 6 + 8 * k) (j + 14 + 8 * k) (by omega) (by omega) (by omega) (by omega) w
        rw [show s.extract (j + 6 + 8 * k) (j + 14 + 8 * k) = nB s j k from rfl] at hS
        generalize nB s j k = fb at hS HGo
        generalize nO s j k = okk at HFk HOn HGo
        generalize nN s j k = x at HNl HGo
        clear HZe HRs
        have w1 : IntKind.i64.wrap (8 * (k : Int)) = 8 * (k : Int) := by rw [IntKind.wrap_i64]; omega
        have w2 : IntKind.i64.wrap ((j : Int) + 6 + 8 * (k : Int)) = (j : Int) + 6 + 8 * (k : Int) := by rw [IntKind.wrap_i64]; omega
        have w3 : IntKind.i64.wrap ((j : Int) + 14 + 8 * (k : Int)) = (j : Int) + 14 + 8 * (k : Int) := by rw [IntKind.wrap_i64]; omega
        go_wp2_with fail
        refine (HGo.out _).mono ?_
        rintro e w3 ⟨rfl, rfl⟩
        cases okk with
        | false =>
          have HF := Lib.hid (HFk.out rfl)
          clear HFk HOn HGo hS
          obtain ⟨d0, d1, d2, d3, d4, d5, d6, d7⟩ := (R.out).at.zero
          simp only [zeroC] at d0 d1 d2 d3 d4 d5 d6 d7
          have f0 := (R.out).fz 0
          have f1 := (R.out).fz 1
          have f2 := (R.out).fz 2
          have f3 := (R.out).fz 3
          have f4 := (R.out).fz 4
          have f5 := (R.out).fz 5
          have f6 := (R.out).fz 6
          have f7 := (R.out).fz 7
          have R9 := (R.out).put zeroC
          have B9 := below_putOC (g := w.heap.size) (B.out) (Nat.le_refl _) zeroC
          simp only [putOC, zeroC] at R9 B9
          go_wp2_with fail
          refine bodyPost_ret (res_OC3 rfl _ rfl R9) rfl ?_
          exact ⟨by rw [HF.out]; rfl, B9⟩
        | true =>
          have HOm := Lib.hid (HOn.out rfl)
          clear HFk HOn HGo hS
          go_wp2_with (at_builtin; refine wpList_append_own_at _ rfl _ _ 77 rfl (w.heap.size + 1) 3 i0 (.int .i64 0) 1 8 Tryz.underlying77 hi0 hz0 hz1 hz2 rfl (by decide) _ _ _ rfl (World.ownsRow.alloc O.out _) ⟨wr.heap.size, 0, none⟩ 1 1 [.int .i64 x] rfl rfl ?c1 ?c2 ?c3 ?c4 ?c5 ?_)
          case c1 => intro jj uu hu; exact cell_oneNN _ _ _ jj uu hu
          case c2 => intro u hu; simp at hu; subst hu; rfl
          case c3 => simp only [maxLen]; omega
          case c4 => omega
          case c5 => simp; omega
          intro v4 w4 hown4 hgrow4 _ hob4
          have NA := (Below.refl wr.heap.size wr).alloc (Nat.le_refl _) (.cells #[.int .i64 x] 3)
          have hbk : ∀ b, (Value.slice (some ⟨gb, 0, none⟩) k cp).ownBlock = some b → w.heap.size + 1 ≤ b := fun b hb => (World.ownsRow.lt O.out b hb).1
          have O4 : Hid (w4.ownsRow (w.heap.size + 1) 3 1 v4 (k + 1) (nlN s j (k + 1))) := Lib.hid (by rw [HNl.out]; exact hown4)
          have V4 : Hid (∃ gb cp, v4 = .slice (some ⟨gb, 0, none⟩) (k + 1) cp) := Lib.hid (by
            rcases hown4.2 with ⟨_, hn⟩ | ⟨g', cap', cur, rfl, _⟩
            · omega
            · exact ⟨g', cap', rfl⟩)
          have R4 := Lib.hid ((R.out.below NA R.out.lt).grown hgrow4 (by simp [Value.ownBlock]; have := hbk gb rfl; omega))
          have B4 : Hid (Below w.heap.size w w4) := Lib.hid ((btC B.out NA).grown hgrow4 (by simp; omega) (fun b hb => by have := hbk b hb; omega))
          clear hown4 hgrow4 hob4 O R B NA hbk
          go_wp2_with fail
          go_roundw
          case rel => exact ⟨k + 1, by go_num, by omega, HOm.out, O4.out, V4.out, R4.out, B4.out⟩
          case measure => simp [intOf]; omega
      · obtain rfl : k = 13 := by omega
        have hlt2 : ¬ ((13 : Nat) : Int) < 13 := by omega
        have HOk : Hid (∀ m, m < 13 → nO s j m = true) := Lib.hid OK.out
        have HN : Hid (∀ m, m < 13 → wr.cell? ⟨gb, m, none⟩ = some (.int .i64 (nN s j m))) := Lib.hid (fun m hm => by
          have h := World.ownsRow.cells O.out (g := gb) rfl m _ (nlN_at s j 13 m hm)
          rwa [show (⟨gb, 0, none⟩ : Addr).add m = ⟨gb, m, none⟩ from by unfold Addr.add; split <;> simp_all] at h)
        have HGb : Hid (gb < wr.heap.size) := Lib.hid ((World.ownsRow.lt O.out gb rfl).2)
        have n7 := HN.out 7 (by omega)
        have n8 := HN.out 8 (by omega)
        have n9 := HN.out 9 (by omega)
        have n10 := HN.out 10 (by omega)
        have b7 := nN_bd s j 7
        have b8 := nN_bd s j 8
        have b9 := nN_bd s j 9
        have b10 := nN_bd s j 10
        have HZ2 := Lib.hid (HZe.out HOk.out)
        have HR2 := Lib.hid (fun hz => HRs.out HOk.out hz gb cp)
        clear HFld HZe HRs O OK HOk
        by_cases hz : ¬ (nN s j 7 = 0 ∧ nN s j 8 = 0 ∧ nN s j 9 = 0 ∧ nN s j 10 = 0)
        · have HF := Lib.hid (HZ2.out hz)
          clear HZ2 HR2 HN
          generalize nN s j 7 = x7 at *
          generalize nN s j 8 = x8 at *
          generalize nN s j 9 = x9 at *
          generalize nN s j 10 = x10 at *
          have a1 : IntKind.i64.wrap (x7 + x8) = x7 + x8 := by rw [IntKind.wrap_i64]; omega
          have a2 : IntKind.i64.wrap (x7 + x8 + x9) = x7 + x8 + x9 := by rw [IntKind.wrap_i64]; omega
          have a3 : IntKind.i64.wrap (x7 + x8 + x9 + x10) = x7 + x8 + x9 + x10 := by rw [IntKind.wrap_i64]; omega
          have q : (x7 + x8 + x9 + x10 != 0) = true := by
            have h9 : ¬ x7 + x8 + x9 + x10 = 0 := by omega
            simpa using h9
          clear b7 b8 b9 b10 hz
          go_upto_region 13 with fail
          go_quiet (fail)
          obtain ⟨w5, hwq⟩ : ∃ y, y = wr.drewN nq := ⟨_, rfl⟩
          replace R : Hid (CardO w5 w.heap.size zeroC) := Lib.hid (by rw [hwq]; exact R.out)
          replace B : Hid (Below w.heap.size w w5) := Lib.hid (by rw [hwq]; exact bel_drewS B.out)
          rw [← hwq]
          clear hwq n7 n8 n9 n10 q
          obtain ⟨d0, d1, d2, d3, d4, d5, d6, d7⟩ := (R.out).at.zero
          simp only [zeroC] at d0 d1 d2 d3 d4 d5 d6 d7
          have f0 := (R.out).fz 0
          have f1 := (R.out).fz 1
          have f2 := (R.out).fz 2
          have f3 := (R.out).fz 3
          have f4 := (R.out).fz 4
          have f5 := (R.out).fz 5
          have f6 := (R.out).fz 6
          have f7 := (R.out).fz 7
          have R9 := (R.out).put zeroC
          have B9 := below_putOC (g := w.heap.size) (B.out) (Nat.le_refl _) zeroC
          simp only [putOC, zeroC] at R9 B9
          go_wp2_with fail
          refine bodyPost_ret (res_OC3 rfl _ rfl R9) rfl ?_
          exact ⟨by rw [HF.out]; rfl, B9⟩
        · have hz : nN s j 7 = 0 ∧ nN s j 8 = 0 ∧ nN s j 9 = 0 ∧ nN s j 10 = 0 := Decidable.byContradiction hz
          have HR3 := Lib.hid (HR2.out hz)
          rw [hz.1] at n7
          rw [hz.2.1] at n8
          rw [hz.2.2.1] at n9
          rw [hz.2.2.2] at n10
          obtain ⟨x0, x1, x2, x3, x4, x5, x6, x7, n, c, hg⟩ := ncV_form s j crc
          rw [hg] at HR3
          have HG := Lib.hid hg
          clear hg HZ2 HR2 hz b7 b8 b9 b10
          go_upto_region 13 with fail
          go_quiet (fail)
          obtain ⟨w5, hwq⟩ : ∃ y, y = wr.drewN nq := ⟨_, rfl⟩
          replace R : Hid (CardO w5 w.heap.size zeroC) := Lib.hid (by rw [hwq]; exact R.out)
          replace B : Hid (Below w.heap.size w w5) := Lib.hid (by rw [hwq]; exact bel_drewS B.out)
          replace HN : Hid (∀ m, m < 13 → w5.cell? ⟨gb, m, none⟩ = some (.int .i64 (nN s j m))) := Lib.hid (by rw [hwq]; exact HN.out)
          replace HGb : Hid (gb < w5.heap.size) := Lib.hid (by rw [hwq]; exact HGb.out)
          rw [← hwq]
          clear hwq n7 n8 n9 n10
          go_wp2_with fail
          refine (HR3.out w5 HGb.out HN.out).mono ?_
          rintro e w6 ⟨rfl, hb⟩
          have R6 : Hid (CardO w6 w.heap.size zeroC) := Lib.hid (R.out.below hb R.out.lt)
          have B6 : Hid (Below w.heap.size w w6) := Lib.hid (btC B.out hb)
          clear hb HR3 R B HN HGb
          obtain ⟨d0, d1, d2, d3, d4, d5, d6, d7⟩ := (R6.out).at.zero
          simp only [zeroC] at d0 d1 d2 d3 d4 d5 d6 d7
          have f0 := R6.out.fz 0
          have f1 := R6.out.fz 1
          have f2 := R6.out.fz 2
          have f3 := R6.out.fz 3
          have f4 := R6.out.fz 4
          have f5 := R6.out.fz 5
          have f6 := R6.out.fz 6
          have f7 := R6.out.fz 7
          have R9 := R6.out.put ⟨x0, x1, x2, x3, x4, x5, x6, x7⟩
          have B9 := below_putOC (g := w.heap.size) B6.out (Nat.le_refl _) ⟨x0, x1, x2, x3, x4, x5, x6, x7⟩
          simp only [putOC] at R9 B9
          have HR := Lib.hid R9
          have HB := Lib.hid B9
          clear R9 B9
          go_wp2_with fail
          refine bodyPost_ret (res_OC3 rfl _ rfl HR.out) rfl ?_
          exact ⟨by rw [HG.out]; rfl, HB.out⟩
end Go.Proofs.YtcnmbolmgifgfabGreatDoor

/- Contract of spec.GetNewc: what both of its walks use. -/
namespace Go.Proofs.YtcnmbolmgifgfabGreatDoor
open Go.ChangeShapes Go.WideShapes Go.ChangeAt Go.RowKit Go.Deep

theorem getNew_at (s : ByteArray) (crc : Bool) (p : Nat) (w : World) (hs : s.size ≤ 1048576) (hp : p < s.size) :
    Calls Tryz.prog 40 #[.string s, .int .i64 (p : Int), .bool crc] w fun e w' => e = .returned (.tuple #[.agg ((newR s crc) p).1.cells.toArray, .int .i64 ((newR s crc) p).2.1, .int .i64 ((newR s crc) p).2.2]) ∧ Below w.heap.size w w' := by
  show Calls Tryz.prog 40 #[.string s, .int .i64 (p : Int), .bool crc] w fun e w' => e = .returned (ncV s p crc) ∧ Below w.heap.size w w'
  by_cases h : (s.size : Int) < (p : Int) + 110
  · exact getNew_short s p crc w hs (by omega) (by omega) (.inr h)
  · exact getNew_spec s p crc w hs (by omega)
theorem cell_newS (w : World) (e : Card) (t : TypeId) (ht : t = 48) : ∀ j u, e.cells[j]? = some u → (w.alloc (.cells e.cells.toArray t)).cell? ((⟨w.heap.size, 0, none⟩ : Addr).add j) = some u := by
  intro j u hu
  subst ht
  have hj : j < 8 := by
    by_cases h : j < 8
    · exact h
    · rw [List.getElem?_eq_none (by rw [cells_lenC]; omega)] at hu; cases hu
  rw [show (⟨w.heap.size, 0, none⟩ : Addr).add j = ⟨w.heap.size, 0 + j, none⟩ from by unfold Addr.add; split <;> simp_all, (CardO.new w e).at j hj]
  exact hu
theorem ownC_cap {w : World} {base g n cap : Nat} {L : List Card} (h : OwnC w base (.slice (some ⟨g, 0, none⟩) n cap) L) : n ≤ cap := by
  rcases h.1.2 with ⟨h0, _⟩ | ⟨g', cap', cur, hv, _, _, hc, _⟩
  · cases h0
  · cases hv
    have := h.row.2.2.2
    omega
end Go.Proofs.YtcnmbolmgifgfabGreatDoor

/- Contract of spec.GetNewc: six bytes and more. -/
namespace Go.Proofs.YtcnmbolmgifgfabGreatDoor
open Go.ChangeShapes Go.WideShapes Go.ChangeAt Go.RowKit Go.Deep

set_option maxHeartbeats 3200000 in
set_option maxRecDepth 8000 in
theorem getNewc_six (s : ByteArray) (crc : Bool) (w : World) (hs : s.size ≤ 1048576) (h6 : 6 ≤ s.size) (hcrc : ((s.extract 0 6).toList == [48, 55, 48, 55, 48, 50]) = crc) :
    Calls Tryz.prog 19 #[.string s] w fun e w' => ∃ v, e = .returned (.tuple #[v, .bool (crc && ((gNw s crc).1 == 0)), .int .i64 (gNw s crc).1]) ∧ OwnE w' w.heap.size v (gNw s crc).2 ∧ Below w.heap.size w w' := by
  obtain ⟨i0, hi0, hz0, hz1, hz2⟩ := info_parts Tryz.infoC
  have HGet := Lib.hid (fun (p : Nat) w hp => getNew_at s crc p w hs hp)
  have HGood := Lib.hid (newR_good s crc hs)
  have S0 := Lib.hid (StR.start (newR s crc) s.size 110)
  rw [show outc (newR s crc) s.size (s.size + 1) [] 0 = newO s crc from rfl] at S0
  have HBd := Lib.hid (fun c (h : newO s crc = (c, [])) hc => gNw_bad h hc)
  have HLi := Lib.hid (fun Q (h : newO s crc = (0, Q)) hz hk => gNw_list h hz hk)
  have HFi := Lib.hid (fun Q (h : newO s crc = (0, Q)) hz hk => gNw_fit h hz hk)
  have HNe := Lib.hid (fun Q (h : newO s crc = (0, Q)) hk => gNw_ne h hk)
  have HYe := Lib.hid (fun Q (h : newO s crc = (0, Q)) hk => gNw_yes h hk)
  obtain ⟨z, hz⟩ : ∃ z, s.size = z := ⟨_, rfl⟩
  have HZ := Lib.hid hz
  generalize newO s crc = O at S0 HBd HLi HFi HNe HYe
  generalize gNw s crc = G at HBd HLi HFi HNe HYe ⊢
  rw [hz] at hs HGood S0 HGet HLi HFi
  generalize newR s crc = R at HGet HGood S0
  clear hz
  have hS6 : ∀ w, (Instr.slice 9 (.string s) none (some (.int .i64 6)) none).run Tryz.prog w = .ok (.string (s.extract 0 6)) w := fun w => by
    have h1 := run_slice_string_h (P := Tryz.prog) (w := w) (t := 9) (s := s) Tryz.underlying9 .i64 (6 : Int) (by omega) (by omega)
    exact h1
  have h6' : (6 : Int) ≤ (s.size : Int) := by omega
  clear h6
  go_enter Tryz.func19, Tryz.ntmps19
  go_upto_region 2 with fail
  clear hS6 h6' hcrc
  go_wp2_with fail
  have O1 : Hid (OwnC (w.alloc (.cells #[] 48)) w.heap.size (.slice (some ⟨w.heap.size, 0, none⟩) 0 0) []) := Lib.hid (OwnC.lit (Nat.le_refl _))
  have B1 : Hid (Below w.heap.size w (w.alloc (.cells #[] 48))) := Lib.hid ((Below.refl _ _).alloc (Nat.le_refl _) _)
  go_loopw [6, 7, 8, 9, 10] (fun v u _ _ _ wr => ∃ (Q : List Card) (p : Nat), u = .int .i64 (p : Int) ∧ StR R z 110 O Q p ∧ OwnC wr w.heap.size v Q ∧ Below w.heap.size w wr) (fun _ u _ _ _ _ => z + 1 - (intOf u).toNat)
  case atStart => exact ⟨[], 0, rfl, S0.out, O1.out, B1.out⟩
  case round =>
    obtain ⟨Q, p, rfl, hst, ho, hb⟩ := hrel
    clear S0 O1 B1
    have St := Lib.hid hst
    have O := Lib.hid ho
    have B := Lib.hid hb
    clear hst ho hb
    by_cases hp : ¬ p < z
    · have hlt : ¬ (p : Int) < (s.size : Int) := by have := HZ.out; omega
      have HF := Lib.hid (HBd.out 5 (St.out.over hp) (by decide))
      clear St HLi HFi HNe HYe HBd HGet HGood
      go_wp2_with fail
      go_ret3
      exact ⟨_, by rw [HF.out]; first | rfl | (cases crc <;> rfl) | (rw [e0, Bool.and_false]; rfl), by rw [HF.out]; exact OwnE.lit B.out.size, B.out.alloc B.out.size _⟩
    have hp : p < z := Decidable.byContradiction hp
    have hlt : (p : Int) < (s.size : Int) := by have := HZ.out; omega
    have HG2 := Lib.hid (fun w' => HGet.out p w' hp)
    have HCo := Lib.hid (fun h => St.out.code hp h)
    have HMo := Lib.hid (fun h t n => St.out.more hp h t n)
    have HLa := Lib.hid (fun h t n => St.out.last HGood.out hp h t n)
    have HStp := Lib.hid (fun h t => St.out.step HGood.out (by decide) hp h t)
    rcases hRp : R p with ⟨⟨q0, q1, q2, q3, q4, q5, qp, qd⟩, nx, co⟩
    rw [hRp] at HG2 HCo HMo HLa HStp
    simp only at HG2 HCo HMo HLa HStp
    have HQl := Lib.hid (show Q.length ≤ p by have := St.out.2.1; omega)
    have HQs := Lib.hid (St.out.2.2.1)
    clear hRp HGet HGood
    go_wp2_with fail
    refine (HG2.out _).mono ?_
    rintro e w2 ⟨rfl, hb⟩
    replace O := Lib.hid (O.out.keep hb)
    replace B := Lib.hid (btC B.out hb)
    clear hb HG2
    have NB : Below w2.heap.size w2 (w2.alloc (.cells (Card.cells ⟨q0, q1, q2, q3, q4, q5, qp, qd⟩).toArray 48)) := (Below.refl _ _).alloc (Nat.le_refl _) _
    have XC := Lib.hid (CardO.new w2 ⟨q0, q1, q2, q3, q4, q5, qp, qd⟩)
    replace O := Lib.hid (O.out.keep NB)
    replace B := Lib.hid (btC B.out NB)
    clear NB
    simp only [Card.cells] at XC O B ⊢
    go_upto_region 6 with fail
    generalize World.alloc w2 _ = w3 at XC O B ⊢
    obtain ⟨d0, d1, d2, d3, d4, d5, d6, d7⟩ := XC.out.at.zero
    simp only at d0 d1 d2 d3 d4 d5 d6 d7
    by_cases hc : ¬ co = 0
    · have e1 : (co != 0) = true := by simpa using hc
      have e0 : (co == 0) = false := by simpa using hc
      have HF := Lib.hid (HBd.out co (HCo.out hc) hc)
      clear HCo HMo HLa HStp HLi HFi HNe HYe HBd
      go_wp2_with fail
      go_ret3
      exact ⟨_, by rw [HF.out]; first | rfl | (cases crc <;> rfl) | (rw [e0, Bool.and_false]; rfl), by rw [HF.out]; exact OwnE.lit B.out.size, B.out.alloc B.out.size _⟩
    have hc : co = 0 := Decidable.byContradiction hc
    subst hc
    have HMo2 := Lib.hid (fun t n => HMo.out rfl t n)
    have HLa2 := Lib.hid (fun t n => HLa.out rfl t n)
    have HSt2 := Lib.hid (fun t => HStp.out rfl t)
    clear HCo HMo HLa HStp
    cases ht : isTr qp with
    | true =>
      have e1 : (qp.toList == [84, 82, 65, 73, 76, 69, 82, 33, 33, 33]) = true := ht
      have HMo3 := Lib.hid (fun n => HMo2.out ht n)
      have HLa3 := Lib.hid (fun n => HLa2.out ht n)
      clear HMo2 HLa2 HSt2 ht
      obtain ⟨gc, cc, rfl, hrc, zc, hbc, hoc⟩ := O.out.open
      have hcap := ownC_cap O.out
      have hql := HQl.out
      have HCl := Lib.hid (fun b => closed_spec Q Q.length gc cc b w3 rfl (by omega) hcap zc (fun c hc => by have := (HQs.out c hc).1; omega) (fun c hc => (HQs.out c hc).2) hrc)
      have HSL := Lib.hid (small_entriesv (C := Q) (fun c hc => by have := (HQs.out c hc).1; omega))
      have HEl := Lib.hid (entriesv_le Q)
      have HZ3 := Lib.hid (Nat.le_of_lt zc)
      clear hrc hoc hcap XC d0 d1 d2 d3 d4 d5 d7 HQs O
      by_cases hn : ¬ nx = (z : Int)
      · have e2 : (nx == (s.size : Int)) = false := by rw [HZ.out]; simpa using hn
        have HF := Lib.hid (HBd.out 5 (HMo3.out hn) (by decide))
        have HP := Lib.hid (fun g cap w hc hg h => putNewc_spec [] 0 g cap crc w rfl (by omega) hc hg (fun e he => by cases he) h)
        have HC5 := Lib.hid (HCl.out false)
        rw [show closedC false (okS Q) = 5 from rfl, show (if false = true then entriesv Q else []) = ([] : List Ent) from rfl] at HC5
        clear HMo3 HLa3 HLi HFi HNe HYe HBd HCl HSL HEl
        generalize putNwT [] crc = pt at HP
        generalize putNwB [] = pb at HP
        go_wp2_with fail
        refine HC5.out.mono ?_
        rintro e w4 ⟨v, rfl, ho, hb⟩
        obtain ⟨gL, cL, rfl, hrL, zL, hbL, hcL, _⟩ := ho.open
        have OL := Lib.hid ho
        have RL := Lib.hid hrL
        have B4 := Lib.hid (btC B.out hb)
        have hb34 := hb.size
        clear hb ho hrL HC5
        go_wp2_with fail
        refine (HP.out gL cL w4 (by omega) zL RL.out).mono ?_
        rintro e w5 ⟨rfl, hb⟩
        have OL5 := Lib.hid (OL.out.keep hb)
        have B5 := Lib.hid (btC B4.out hb)
        clear hb OL RL B4 HP
        cases crc <;> (
          go_wp2_with fail
          go_ret3
          exact ⟨_, by rw [HF.out]; first | rfl | (cases crc <;> rfl) | (rw [e0, Bool.and_false]; rfl), by rw [HF.out]; exact OL5.out.weak B.out.size, B5.out⟩)
      have hn : nx = (z : Int) := Decidable.byContradiction hn
      have e2 : (nx == (s.size : Int)) = true := by rw [HZ.out]; simpa using hn
      obtain ⟨hO, hl, _⟩ := HLa3.out hn
      have HLi2 := Lib.hid (HLi.out Q hO hl)
      have HFi2 := Lib.hid (HFi.out Q hO hl)
      have HNe2 := Lib.hid (HNe.out Q hO)
      have HYe2 := Lib.hid (HYe.out Q hO)
      have HC0 := Lib.hid (HCl.out true)
      rw [show (if true = true then entriesv Q else []) = entriesv Q from rfl] at HC0
      have HP := Lib.hid (fun g cap w hc hg h => putNewc_spec (entriesv Q) (entriesv Q).length g cap crc w rfl (by have := HEl.out; omega) hc hg HSL.out h)
      have HNL : Hid (okS Q = false → entriesv Q = []) := Lib.hid entriesv_no
      have HBT : Hid (putNwB (entriesv Q) = false ∨ putNwB (entriesv Q) = true) := Lib.hid (by cases putNwB (entriesv Q) <;> simp)
      clear HMo3 HLa3 HLi HFi HNe HYe HBd HCl HSL HEl hO hl hn
      generalize entriesv Q = L at *
      generalize okS Q = ok at *
      generalize putNwT L crc = pt at *
      generalize putNwB L = pb at *
      go_wp2_with fail
      refine HC0.out.mono ?_
      rintro e w4 ⟨v, rfl, ho, hb⟩
      obtain ⟨gL, cL, rfl, hrL, zL, hbL, hcL, _⟩ := ho.open
      have OL := Lib.hid ho
      have RL := Lib.hid hrL
      have B4 := Lib.hid (btC B.out hb)
      clear hb ho hrL HC0
      go_wp2_with fail
      refine (HP.out gL cL w4 hcL zL RL.out).mono ?_
      rintro e w5 ⟨rfl, hb⟩
      have OL5 := Lib.hid (OL.out.keep hb)
      have B5 := Lib.hid (btC B4.out hb)
      clear hb OL RL B4 HP
      cases ok with
      | false =>
        have HF := Lib.hid (HLi2.out rfl)
        obtain rfl := HNL.out rfl
        rw [show closedC true false = 4 from rfl]
        clear HLi2 HFi2 HNe2 HYe2
        cases crc <;> (
          go_wp2_with fail
          go_ret3
          exact ⟨_, by rw [HF.out]; first | rfl | (cases crc <;> rfl) | (rw [e0, Bool.and_false]; rfl), by rw [HF.out]; exact OL5.out.weak B.out.size, B5.out⟩)
      | true =>
        rw [show closedC true true = 0 from rfl]
        cases pb with
        | false =>
          have HF := Lib.hid (HFi2.out rfl)
          clear HLi2 HFi2 HNe2 HYe2
          go_wp2_with fail
          go_ret3
          exact ⟨_, by rw [HF.out]; first | rfl | (cases crc <;> rfl) | (rw [e0, Bool.and_false]; rfl), by rw [HF.out]; exact OwnE.lit B5.out.size, B5.out.alloc B5.out.size _⟩
        | true =>
          by_cases hq : pt = s
          · have HF := Lib.hid (HYe2.out hq)
            have e3 : (pt.toList == s.toList) = true := by rw [hq]; simp
            clear HLi2 HFi2 HNe2 HYe2 hq
            cases crc <;> (
              go_wp2_with fail
              go_ret3
              exact ⟨_, by rw [HF.out]; first | rfl | (cases crc <;> rfl) | (rw [e0, Bool.and_false]; rfl), by rw [HF.out]; exact OL5.out.weak B.out.size, B5.out⟩)
          · have HF := Lib.hid (HNe2.out hq)
            have e3 : (pt.toList == s.toList) = false := strR_ne hq
            clear HLi2 HFi2 HNe2 HYe2 hq
            go_wp2_with fail
            go_ret3
            exact ⟨_, by rw [HF.out]; first | rfl | (cases crc <;> rfl) | (rw [e0, Bool.and_false]; rfl), by rw [HF.out]; exact OwnE.lit B5.out.size, B5.out.alloc B5.out.size _⟩
    | false =>
      have e1 : (qp.toList == [84, 82, 65, 73, 76, 69, 82, 33, 33, 33]) = false := ht
      obtain ⟨q, hq, hpq, hst⟩ := HSt2.out ht
      subst hq
      have hqz := hst.2.2.2
      have St2 := Lib.hid hst
      have hql := HQl.out
      have hszB := B.out.size
      clear HMo2 HLa2 HSt2 ht hst
      go_wp2_with (at_builtin; refine wpList_append_own _ rfl _ _ 42 rfl w.heap.size 48 i0 (.agg #[.int .i64 0, .int .i64 0, .int .i64 0, .int .i64 0, .int .i64 0, .int .i64 0, .string ⟨#[]⟩, .string ⟨#[]⟩]) 8 80 Tryz.underlying42 hi0 hz0 hz1 hz2 rfl (by decide) _ Q.length (valsC Q) rfl ?c0q ⟨w3.heap.size, 0, none⟩ 1 1 (valsC [⟨q0, q1, q2, q3, q4, q5, qp, qd⟩]) rfl (valsC_len _) ?c1q ?c2q ?c3q ?c4q ?c5q ?_)
      case c0q => exact World.ownsRow.alloc O.out.1 _
      case c1q => intro jj uu hu; rw [valsC_one] at hu; first | exact hu | exact cell_newS _ ⟨q0, q1, q2, q3, q4, q5, qp, qd⟩ _ rfl jj uu hu
      case c2q => exact valsC_onecell _
      any_goals (first | (simp only [maxLen]; omega) | omega | (simp; omega))
      intro v' w9 hown hgrow hnil
      have NB : Below w3.heap.size w3 (w3.alloc (.cells (Card.cells ⟨q0, q1, q2, q3, q4, q5, qp, qd⟩).toArray 48)) := (Below.refl _ _).alloc (Nat.le_refl _) _
      have O9 : Hid (OwnC w9 w.heap.size v' (Q ++ [⟨q0, q1, q2, q3, q4, q5, qp, qd⟩])) := Lib.hid (own_appC hown rfl rfl hnil)
      have B9 := Lib.hid ((btC B.out NB).grown hgrow (by have := NB.size; omega) (fun b hb => (World.ownsRow.lt O.out.1 b hb).1))
      clear hown hgrow hnil NB O B XC d0 d1 d2 d3 d4 d5 d6 d7
      go_wp2_with fail
      go_roundw
      case rel => exact ⟨_, q, rfl, St2.out, O9.out, B9.out⟩
      case measure => simp [intOf]; omega
end Go.Proofs.YtcnmbolmgifgfabGreatDoor

/- Contract of spec.GetNewc: less than six bytes. -/
namespace Go.Proofs.YtcnmbolmgifgfabGreatDoor
open Go.ChangeShapes Go.WideShapes Go.ChangeAt Go.RowKit Go.Deep

set_option maxHeartbeats 3200000 in
set_option maxRecDepth 8000 in
theorem getNewc_less (s : ByteArray) (w : World) (hs : s.size ≤ 1048576) (h6 : ¬ 6 ≤ s.size) :
    Calls Tryz.prog 19 #[.string s] w fun e w' => ∃ v, e = .returned (.tuple #[v, .bool (false && ((gNw s false).1 == 0)), .int .i64 (gNw s false).1]) ∧ OwnE w' w.heap.size v (gNw s false).2 ∧ Below w.heap.size w w' := by
  obtain ⟨i0, hi0, hz0, hz1, hz2⟩ := info_parts Tryz.infoC
  have HGet := Lib.hid (fun (p : Nat) w hp => getNew_at s false p w hs hp)
  have HGood := Lib.hid (newR_good s false hs)
  have S0 := Lib.hid (StR.start (newR s false) s.size 110)
  rw [show outc (newR s false) s.size (s.size + 1) [] 0 = newO s false from rfl] at S0
  have HBd := Lib.hid (fun c (h : newO s false = (c, [])) hc => gNw_bad h hc)
  have HLi := Lib.hid (fun Q (h : newO s false = (0, Q)) hz hk => gNw_list h hz hk)
  have HFi := Lib.hid (fun Q (h : newO s false = (0, Q)) hz hk => gNw_fit h hz hk)
  have HNe := Lib.hid (fun Q (h : newO s false = (0, Q)) hk => gNw_ne h hk)
  have HYe := Lib.hid (fun Q (h : newO s false = (0, Q)) hk => gNw_yes h hk)
  obtain ⟨z, hz⟩ : ∃ z, s.size = z := ⟨_, rfl⟩
  have HZ := Lib.hid hz
  generalize newO s false = O at S0 HBd HLi HFi HNe HYe
  generalize gNw s false = G at HBd HLi HFi HNe HYe ⊢
  rw [hz] at hs HGood S0 HGet HLi HFi
  generalize newR s false = R at HGet HGood S0
  clear hz
  have h6' : ¬ (6 : Int) ≤ (s.size : Int) := by omega
  clear h6
  go_enter Tryz.func19, Tryz.ntmps19
  go_upto_region 2 with fail
  clear h6'
  go_wp2_with fail
  have O1 : Hid (OwnC (w.alloc (.cells #[] 48)) w.heap.size (.slice (some ⟨w.heap.size, 0, none⟩) 0 0) []) := Lib.hid (OwnC.lit (Nat.le_refl _))
  have B1 : Hid (Below w.heap.size w (w.alloc (.cells #[] 48))) := Lib.hid ((Below.refl _ _).alloc (Nat.le_refl _) _)
  go_loopw [6, 7, 8, 9, 10] (fun v u _ _ _ wr => ∃ (Q : List Card) (p : Nat), u = .int .i64 (p : Int) ∧ StR R z 110 O Q p ∧ OwnC wr w.heap.size v Q ∧ Below w.heap.size w wr) (fun _ u _ _ _ _ => z + 1 - (intOf u).toNat)
  case atStart => exact ⟨[], 0, rfl, S0.out, O1.out, B1.out⟩
  case round =>
    obtain ⟨Q, p, rfl, hst, ho, hb⟩ := hrel
    clear S0 O1 B1
    have St := Lib.hid hst
    have O := Lib.hid ho
    have B := Lib.hid hb
    clear hst ho hb
    by_cases hp : ¬ p < z
    · have hlt : ¬ (p : Int) < (s.size : Int) := by have := HZ.out; omega
      have HF := Lib.hid (HBd.out 5 (St.out.over hp) (by decide))
      clear St HLi HFi HNe HYe HBd HGet HGood
      go_wp2_with fail
      go_ret3
      exact ⟨_, by rw [HF.out]; rfl, by rw [HF.out]; exact OwnE.lit B.out.size, B.out.alloc B.out.size _⟩
    have hp : p < z := Decidable.byContradiction hp
    have hlt : (p : Int) < (s.size : Int) := by have := HZ.out; omega
    have HG2 := Lib.hid (fun w' => HGet.out p w' hp)
    have HCo := Lib.hid (fun h => St.out.code hp h)
    have HMo := Lib.hid (fun h t n => St.out.more hp h t n)
    have HLa := Lib.hid (fun h t n => St.out.last HGood.out hp h t n)
    have HStp := Lib.hid (fun h t => St.out.step HGood.out (by decide) hp h t)
    rcases hRp : R p with ⟨⟨q0, q1, q2, q3, q4, q5, qp, qd⟩, nx, co⟩
    rw [hRp] at HG2 HCo HMo HLa HStp
    simp only at HG2 HCo HMo HLa HStp
    have HQl := Lib.hid (show Q.length ≤ p by have := St.out.2.1; omega)
    have HQs := Lib.hid (St.out.2.2.1)
    clear hRp HGet HGood
    go_wp2_with fail
    refine (HG2.out _).mono ?_
    rintro e w2 ⟨rfl, hb⟩
    replace O := Lib.hid (O.out.keep hb)
    replace B := Lib.hid (btC B.out hb)
    clear hb HG2
    have NB : Below w2.heap.size w2 (w2.alloc (.cells (Card.cells ⟨q0, q1, q2, q3, q4, q5, qp, qd⟩).toArray 48)) := (Below.refl _ _).alloc (Nat.le_refl _) _
    have XC := Lib.hid (CardO.new w2 ⟨q0, q1, q2, q3, q4, q5, qp, qd⟩)
    replace O := Lib.hid (O.out.keep NB)
    replace B := Lib.hid (btC B.out NB)
    clear NB
    simp only [Card.cells] at XC O B ⊢
    go_upto_region 6 with fail
    generalize World.alloc w2 _ = w3 at XC O B ⊢
    obtain ⟨d0, d1, d2, d3, d4, d5, d6, d7⟩ := XC.out.at.zero
    simp only at d0 d1 d2 d3 d4 d5 d6 d7
    by_cases hc : ¬ co = 0
    · have e1 : (co != 0) = true := by simpa using hc
      have e0 : (co == 0) = false := by simpa using hc
      have HF := Lib.hid (HBd.out co (HCo.out hc) hc)
      clear HCo HMo HLa HStp HLi HFi HNe HYe HBd
      go_wp2_with fail
      go_ret3
      exact ⟨_, by rw [HF.out]; rfl, by rw [HF.out]; exact OwnE.lit B.out.size, B.out.alloc B.out.size _⟩
    have hc : co = 0 := Decidable.byContradiction hc
    subst hc
    have HMo2 := Lib.hid (fun t n => HMo.out rfl t n)
    have HLa2 := Lib.hid (fun t n => HLa.out rfl t n)
    have HSt2 := Lib.hid (fun t => HStp.out rfl t)
    clear HCo HMo HLa HStp
    cases ht : isTr qp with
    | true =>
      have e1 : (qp.toList == [84, 82, 65, 73, 76, 69, 82, 33, 33, 33]) = true := ht
      have HMo3 := Lib.hid (fun n => HMo2.out ht n)
      have HLa3 := Lib.hid (fun n => HLa2.out ht n)
      clear HMo2 HLa2 HSt2 ht
      obtain ⟨gc, cc, rfl, hrc, zc, hbc, hoc⟩ := O.out.open
      have hcap := ownC_cap O.out
      have hql := HQl.out
      have HCl := Lib.hid (fun b => closed_spec Q Q.length gc cc b w3 rfl (by omega) hcap zc (fun c hc => by have := (HQs.out c hc).1; omega) (fun c hc => (HQs.out c hc).2) hrc)
      have HSL := Lib.hid (small_entriesv (C := Q) (fun c hc => by have := (HQs.out c hc).1; omega))
      have HEl := Lib.hid (entriesv_le Q)
      have HZ3 := Lib.hid (Nat.le_of_lt zc)
      clear hrc hoc hcap XC d0 d1 d2 d3 d4 d5 d7 HQs O
      by_cases hn : ¬ nx = (z : Int)
      · have e2 : (nx == (s.size : Int)) = false := by rw [HZ.out]; simpa using hn
        have HF := Lib.hid (HBd.out 5 (HMo3.out hn) (by decide))
        have HP := Lib.hid (fun g cap w hc hg h => putNewc_spec [] 0 g cap false w rfl (by omega) hc hg (fun e he => by cases he) h)
        have HC5 := Lib.hid (HCl.out false)
        rw [show closedC false (okS Q) = 5 from rfl, show (if false = true then entriesv Q else []) = ([] : List Ent) from rfl] at HC5
        clear HMo3 HLa3 HLi HFi HNe HYe HBd HCl HSL HEl
        generalize putNwT [] false = pt at HP
        generalize putNwB [] = pb at HP
        go_wp2_with fail
        refine HC5.out.mono ?_
        rintro e w4 ⟨v, rfl, ho, hb⟩
        obtain ⟨gL, cL, rfl, hrL, zL, hbL, hcL, _⟩ := ho.open
        have OL := Lib.hid ho
        have RL := Lib.hid hrL
        have B4 := Lib.hid (btC B.out hb)
        have hb34 := hb.size
        clear hb ho hrL HC5
        go_wp2_with fail
        refine (HP.out gL cL w4 (by omega) zL RL.out).mono ?_
        rintro e w5 ⟨rfl, hb⟩
        have OL5 := Lib.hid (OL.out.keep hb)
        have B5 := Lib.hid (btC B4.out hb)
        clear hb OL RL B4 HP
        go_wp2_with fail
        go_ret3
        exact ⟨_, by rw [HF.out]; rfl, by rw [HF.out]; exact OL5.out.weak B.out.size, B5.out⟩
      have hn : nx = (z : Int) := Decidable.byContradiction hn
      have e2 : (nx == (s.size : Int)) = true := by rw [HZ.out]; simpa using hn
      obtain ⟨hO, hl, _⟩ := HLa3.out hn
      have HLi2 := Lib.hid (HLi.out Q hO hl)
      have HFi2 := Lib.hid (HFi.out Q hO hl)
      have HNe2 := Lib.hid (HNe.out Q hO)
      have HYe2 := Lib.hid (HYe.out Q hO)
      have HC0 := Lib.hid (HCl.out true)
      rw [show (if true = true then entriesv Q else []) = entriesv Q from rfl] at HC0
      have HP := Lib.hid (fun g cap w hc hg h => putNewc_spec (entriesv Q) (entriesv Q).length g cap false w rfl (by have := HEl.out; omega) hc hg HSL.out h)
      have HNL : Hid (okS Q = false → entriesv Q = []) := Lib.hid entriesv_no
      have HBT : Hid (putNwB (entriesv Q) = false ∨ putNwB (entriesv Q) = true) := Lib.hid (by cases putNwB (entriesv Q) <;> simp)
      clear HMo3 HLa3 HLi HFi HNe HYe HBd HCl HSL HEl hO hl hn
      generalize entriesv Q = L at *
      generalize okS Q = ok at *
      generalize putNwT L false = pt at *
      generalize putNwB L = pb at *
      go_wp2_with fail
      refine HC0.out.mono ?_
      rintro e w4 ⟨v, rfl, ho, hb⟩
      obtain ⟨gL, cL, rfl, hrL, zL, hbL, hcL, _⟩ := ho.open
      have OL := Lib.hid ho
      have RL := Lib.hid hrL
      have B4 := Lib.hid (btC B.out hb)
      clear hb ho hrL HC0
      go_wp2_with fail
      refine (HP.out gL cL w4 hcL zL RL.out).mono ?_
      rintro e w5 ⟨rfl, hb⟩
      have OL5 := Lib.hid (OL.out.keep hb)
      have B5 := Lib.hid (btC B4.out hb)
      clear hb OL RL B4 HP
      cases ok with
      | false =>
        have HF := Lib.hid (HLi2.out rfl)
        obtain rfl := HNL.out rfl
        rw [show closedC true false = 4 from rfl]
        clear HLi2 HFi2 HNe2 HYe2
        go_wp2_with fail
        go_ret3
        exact ⟨_, by rw [HF.out]; rfl, by rw [HF.out]; exact OL5.out.weak B.out.size, B5.out⟩
      | true =>
        rw [show closedC true true = 0 from rfl]
        cases pb with
        | false =>
          have HF := Lib.hid (HFi2.out rfl)
          clear HLi2 HFi2 HNe2 HYe2
          go_wp2_with fail
          go_ret3
          exact ⟨_, by rw [HF.out]; rfl, by rw [HF.out]; exact OwnE.lit B5.out.size, B5.out.alloc B5.out.size _⟩
        | true =>
          by_cases hq : pt = s
          · have HF := Lib.hid (HYe2.out hq)
            have e3 : (pt.toList == s.toList) = true := by rw [hq]; simp
            clear HLi2 HFi2 HNe2 HYe2 hq
            go_wp2_with fail
            go_ret3
            exact ⟨_, by rw [HF.out]; rfl, by rw [HF.out]; exact OL5.out.weak B.out.size, B5.out⟩
          · have HF := Lib.hid (HNe2.out hq)
            have e3 : (pt.toList == s.toList) = false := strR_ne hq
            clear HLi2 HFi2 HNe2 HYe2 hq
            go_wp2_with fail
            go_ret3
            exact ⟨_, by rw [HF.out]; rfl, by rw [HF.out]; exact OwnE.lit B5.out.size, B5.out.alloc B5.out.size _⟩
    | false =>
      have e1 : (qp.toList == [84, 82, 65, 73, 76, 69, 82, 33, 33, 33]) = false := ht
      obtain ⟨q, hq, hpq, hst⟩ := HSt2.out ht
      subst hq
      have hqz := hst.2.2.2
      have St2 := Lib.hid hst
      have hql := HQl.out
      have hszB := B.out.size
      clear HMo2 HLa2 HSt2 ht hst
      go_wp2_with (at_builtin; refine wpList_append_own _ rfl _ _ 42 rfl w.heap.size 48 i0 (.agg #[.int .i64 0, .int .i64 0, .int .i64 0, .int .i64 0, .int .i64 0, .int .i64 0, .string ⟨#[]⟩, .string ⟨#[]⟩]) 8 80 Tryz.underlying42 hi0 hz0 hz1 hz2 rfl (by decide) _ Q.length (valsC Q) rfl ?c0q ⟨w3.heap.size, 0, none⟩ 1 1 (valsC [⟨q0, q1, q2, q3, q4, q5, qp, qd⟩]) rfl (valsC_len _) ?c1q ?c2q ?c3q ?c4q ?c5q ?_)
      case c0q => exact World.ownsRow.alloc O.out.1 _
      case c1q => intro jj uu hu; rw [valsC_one] at hu; first | exact hu | exact cell_newS _ ⟨q0, q1, q2, q3, q4, q5, qp, qd⟩ _ rfl jj uu hu
      case c2q => exact valsC_onecell _
      any_goals (first | (simp only [maxLen]; omega) | omega | (simp; omega))
      intro v' w9 hown hgrow hnil
      have NB : Below w3.heap.size w3 (w3.alloc (.cells (Card.cells ⟨q0, q1, q2, q3, q4, q5, qp, qd⟩).toArray 48)) := (Below.refl _ _).alloc (Nat.le_refl _) _
      have O9 : Hid (OwnC w9 w.heap.size v' (Q ++ [⟨q0, q1, q2, q3, q4, q5, qp, qd⟩])) := Lib.hid (own_appC hown rfl rfl hnil)
      have B9 := Lib.hid ((btC B.out NB).grown hgrow (by have := NB.size; omega) (fun b hb => (World.ownsRow.lt O.out.1 b hb).1))
      clear hown hgrow hnil NB O B XC d0 d1 d2 d3 d4 d5 d6 d7
      go_wp2_with fail
      go_roundw
      case rel => exact ⟨_, q, rfl, St2.out, O9.out, B9.out⟩
      case measure => simp [intOf]; omega
end Go.Proofs.YtcnmbolmgifgfabGreatDoor

/- Contract of spec.GetNewc. -/
namespace Go.Proofs.YtcnmbolmgifgfabGreatDoor
open Go.ChangeShapes Go.WideShapes Go.ChangeAt Go.RowKit Go.Deep

theorem getNewc_spec (s : ByteArray) (w : World) (hs : s.size ≤ 1048576) :
    Calls Tryz.prog 19 #[.string s] w fun e w' => ∃ v, e = .returned (.tuple #[v, .bool (crcOf s && ((gNw s (crcOf s)).1 == 0)), .int .i64 (gNw s (crcOf s)).1]) ∧ OwnE w' w.heap.size v (gNw s (crcOf s)).2 ∧ Below w.heap.size w w' := by
  by_cases h6 : 6 ≤ s.size
  · exact getNewc_six s (crcOf s) w hs h6 (by rw [crcOf, decide_eq_true h6, Bool.true_and])
  · have hc : crcOf s = false := by rw [crcOf, decide_eq_false h6, Bool.false_and]
    rw [hc]
    exact getNewc_less s w hs h6
end Go.Proofs.YtcnmbolmgifgfabGreatDoor

/- Contracts of laws.eqEntry and laws.eqEntryS where both are the same. -/
namespace Go.Proofs.YtcnmbolmgifgfabGreatDoor
open Go.ChangeShapes Go.WideShapes Go.ChangeAt Go.RowKit Go.Deep

theorem eqEntry_self (k : Int) (p l : ByteArray) (m u g t : Int) (us gr b : ByteArray) (w : World) :
    Calls Tryz.prog 32 #[.agg #[.int .i64 k, .string p, .string l, .int .i64 m, .int .i64 u, .int .i64 g, .int .i64 t, .string us, .string gr, .string b], .agg #[.int .i64 k, .string p, .string l, .int .i64 m, .int .i64 u, .int .i64 g, .int .i64 t, .string us, .string gr, .string b]] w fun e w' => e = .returned (.bool true) ∧ Below w.heap.size w w' := by
  have q1 : (p.toList == p.toList) = true := by simp
  have q2 : (l.toList == l.toList) = true := by simp
  have q3 : (us.toList == us.toList) = true := by simp
  have q4 : (gr.toList == gr.toList) = true := by simp
  have q5 : (b.toList == b.toList) = true := by simp
  go_enter Tryz.func32, Tryz.ntmps32
  go_wp2_with fail
  go_ret
  exact ⟨rfl, ((Below.refl _ w).alloc (Nat.le_refl _) _).alloc (by simp) _⟩
theorem bl_ch {w x w1 : World} (h1 : Below x.heap.size x w1) (os : x.os = w.os) (tape : x.tape = w.tape) (out : x.output = w.output) (hs : w.heap.size ≤ x.heap.size) (B : Nat) (hB : B ≤ x.heap.size) (hb : ∀ k, k < B → x.heap[k]? = w.heap[k]?) : Below B w w1 :=
  ⟨h1.os.trans os, h1.tape.trans tape, h1.output.trans out, Nat.le_trans hs h1.size, fun k hk => (h1.block k (Nat.lt_of_lt_of_le hk hB)).trans (hb k hk)⟩
theorem getE {L : List Ent} {i : Nat} (h : i < L.length) : ∃ e, L[i]? = some e := ⟨L[i], List.getElem?_eq_getElem h⟩
set_option maxHeartbeats 1600000 in
theorem eqEntryS_any (L : List Ent) (n g g2 ca cb : Nat) (w : World) (hn : n = L.length) (hm : n ≤ 4194304) (hg : g < w.heap.size) (hg2 : g2 < w.heap.size) (h1 : RowE w g L) (h2 : RowE w g2 L) :
    Calls Tryz.prog 12 #[.slice (some ⟨g, 0, none⟩) n ca, .slice (some ⟨g2, 0, none⟩) n cb] w fun e w' => e = .returned (.bool true) ∧ Below w.heap.size w w' := by
  have H1 := Lib.hid h1
  have H2 := Lib.hid h2
  have HG : Hid (∀ i, i < n → ∃ e, L[i]? = some e) := Lib.hid (fun i hi => getE (by omega))
  clear h1 h2 hn
  go_enter Tryz.func12, Tryz.ntmps12
  go_wp2_with fail
  go_loopw [5] (fun u wr => ∃ i : Nat, u = .int .i64 i ∧ i ≤ n ∧ Below w.heap.size w wr) (fun u _ => n - (intOf u).toNat)
  case atStart => exact ⟨0, rfl, Nat.zero_le _, Below.refl _ _⟩
  case round =>
    obtain ⟨i, rfl, hi, hb⟩ := hrel
    have B := Lib.hid hb
    clear hb
    by_cases hlt : i < n
    · have hlt2 : (i : Int) < (n : Int) := by omega
      obtain ⟨e, he⟩ := HG.out i hlt
      have R1 := Lib.hid (H1.out.below B.out hg)
      have R2 := Lib.hid (H2.out.below B.out hg2)
      obtain ⟨c0, c1, c2, c3, c4, c5, c6, c7, c8, c9⟩ := R1.out.ten he
      obtain ⟨d0, d1, d2, d3, d4, d5, d6, d7, d8, d9⟩ := R2.out.ten he
      clear he R1 R2
      obtain ⟨k, p, l, m, u, g0, t, us, gr, b⟩ := e
      have HQ := Lib.hid (fun w => eqEntry_self k p l m u g0 t us gr b w)
      go_wp2_with fail
      have hsz := B.out.size
      go_region_with (go_at_call 32; refine (HQ.out _).mono ?_; rintro e w1 ⟨rfl, hb1⟩; have B1 := Lib.hid (bl_ch hb1 B.out.os B.out.tape B.out.output hsz w.heap.size hsz B.out.block); clear hb1)
      all_goals
        go_wp2_with fail
        go_roundw
        case rel => exact ⟨i + 1, by go_num, by omega, B1.out.os, B1.out.tape, B1.out.output, B1.out.size, B1.out.block⟩
        case measure => simp [intOf]; omega
    · have hlt2 : ¬ (i : Int) < (n : Int) := by omega
      go_wp2_with fail
      go_ret
      exact ⟨rfl, B.out⟩
end Go.Proofs.YtcnmbolmgifgfabGreatDoor

/- What the laws over slices of entries share. -/
namespace Go.Proofs.YtcnmbolmgifgfabGreatDoor
open Go.ChangeShapes Go.WideShapes Go.ChangeAt Go.RowKit Go.Deep

theorem IsRowE.below {w w' : World} {a : Option Addr} {len cap : Nat} {es : List Ent} (h : IsRowE w a len cap es) (hb : Below w.heap.size w w') : IsRowE w' a len cap es := by
  rcases h with h | ⟨x, hx, hl, hm, hn, hc⟩
  · exact .inl h
  · refine .inr ⟨x, hx, hl, hm, hn, fun i hi => ⟨fun j hj => ?_, (hc i hi).2⟩⟩
    have h1 := (hc i hi).1 j hj
    have hsome : ∃ v, w.cell? (x.add (i * 10 + j)) = some v := by
      rw [h1]
      exact ⟨_, List.getElem?_eq_getElem (by show j < 10; exact hj)⟩
    obtain ⟨v, hv⟩ := hsome
    exact (hb.cell (cell_blk hv)).trans h1
end Go.Proofs.YtcnmbolmgifgfabGreatDoor

/- Contracts of laws.markEntryS and laws.heldEntryS. -/
namespace Go.Proofs.YtcnmbolmgifgfabGreatDoor
open Go.ChangeShapes Go.WideShapes Go.ChangeAt Go.RowKit Go.Deep

/-- The entry that is marked from k on, and a row of such. -/
def markEnt (k : Nat) : Ent := ⟨k, markv (k + 1), markv (k + 2), (k : Int) + 3, (k : Int) + 4, (k : Int) + 5, (k : Int) + 6, markv (k + 7), markv (k + 8), markv (k + 9)⟩
def marksE (k : Nat) : Nat → List Ent
  | 0 => []
  | n + 1 => marksE k n ++ [markEnt (k + n * 10)]
theorem marksE_len (k n : Nat) : (marksE k n).length = n := by
  induction n with
  | zero => rfl
  | succ n ih => simp [marksE, ih]
theorem marksE_get (k n i : Nat) (h : i < n) : (marksE k n)[i]? = some (markEnt (k + i * 10)) := by
  induction n with
  | zero => omega
  | succ n ih =>
    rw [marksE]
    by_cases e : i = n
    · subst e
      rw [List.getElem?_append_right (by rw [marksE_len]; omega), marksE_len]
      simp
    · rw [List.getElem?_append_left (by rw [marksE_len]; omega)]
      exact ih (by omega)
/-- The first i entries of a row's cells are the marks. -/
def MarkedE (ys : List Value) (k i : Nat) : Prop := FillE ys i (fun j => markEnt (k + j * 10))
theorem MarkedE.row {w : World} {base g n cap k : Nat} {ys : List Value} (h : MarkedE ys k n) (ho : w.ownsRow base 45 10 (.slice (some ⟨g, 0, none⟩) n cap) n ys) : RowE w g (marksE k n) := by
  intro j u hu
  have hj : j < n * 10 := by
    by_cases hj : j < n * 10
    · exact hj
    · rw [List.getElem?_eq_none (by rw [entVals_len, marksE_len]; omega)] at hu; cases hu
  have h1 := h (j / 10) (by omega) (j % 10) (by omega)
  have h2 := entVals_get (marksE k n) (j / 10) (j % 10) (by omega)
  rw [marksE_get _ _ _ (by omega)] at h2
  rw [show j / 10 * 10 + j % 10 = j from by omega] at h1 h2
  rw [hu] at h2
  have h3 : ys[j]? = some u := h1.trans h2.symm
  have := World.ownsRow.cells ho (g := g) rfl j u h3
  rwa [show (⟨g, 0, none⟩ : Addr).add j = ⟨g, j, none⟩ from by unfold Addr.add; split <;> simp_all] at this
theorem own_at {w : World} {base g n cap : Nat} {e : TypeId} {ys : List Value} (h : w.ownsRow base e 10 (.slice (some ⟨g, 0, none⟩) n cap) n ys) {i : Nat} (hi : i < n) (j : Nat) (hj : j < 10) : ∃ y, w.cell? ⟨g, i * 10 + j, none⟩ = some y := by
  rcases h.2 with ⟨h', _⟩ | ⟨g', cap', cur, h', _, hg, hnc, _, hcs, _⟩
  · simp at h'
  · simp only [Value.slice.injEq, Option.some.injEq, Addr.mk.injEq, and_true, true_and] at h'
    obtain ⟨rfl, rfl⟩ := h'
    have hlt : i * 10 + j < cur.size := by omega
    exact ⟨cur[i * 10 + j], by simp [World.cell?, hg, Array.getElem?_eq_getElem hlt]⟩
theorem kept_cellE {x w1 : World} {g k : Nat} {t : Value} (h1 : Below x.heap.size x w1) (hg : g < x.heap.size) (hc : x.cell? ⟨g, k, none⟩ = .some t) : w1.cell? ⟨g, k, none⟩ = .some t := (h1.cell (p := ⟨g, k, none⟩) hg).trans hc
theorem self_eqE (a : ByteArray) : (a.toList == a.toList) = true := by simp
theorem grown_set {w w' : World} {g : Nat} (h : w.grownBy w' (some g)) (o : Nat) (v : Value) : w.grownBy (w'.setCell ⟨g, o, none⟩ v) (some g) :=
  ⟨h.os, h.tape, h.output, by simpa using h.size, fun k hk hne => (Below.heap_setCell w' _ v k (fun e => hne (by rw [e]))).trans (h.block k hk hne)⟩
theorem grown_below {w w' w'' : World} {row : Option Nat} (h : w.grownBy w' row) (hb : Below w'.heap.size w' w'') : w.grownBy w'' row :=
  ⟨hb.os.trans h.os, hb.tape.trans h.tape, hb.output.trans h.output, Nat.le_trans h.size hb.size, fun k hk hne => (hb.block k (Nat.lt_of_lt_of_le hk h.size)).trans (h.block k hk hne)⟩
theorem own_below {w w' : World} {base : Nat} {ty : TypeId} {v : Value} {n : Nat} {xs : List Value} (h : w.ownsRow base ty 10 v n xs) (hb : Below w.heap.size w w') : w'.ownsRow base ty 10 v n xs :=
  World.ownsRow.kept h (row := none) ⟨hb.os, hb.tape, hb.output, hb.size, fun k hk _ => hb.block k hk⟩ (by cases hv : v.ownBlock <;> simp)
set_option maxHeartbeats 3200000 in
set_option maxRecDepth 8000 in
theorem markEntryS_any (n g cap k : Nat) (base : Nat) (xs : List Value) (w : World) (hk : 1 ≤ k) (hn : k + n * 10 ≤ 100000000) (h1 : w.ownsRow base 45 10 (.slice (some ⟨g, 0, none⟩) n cap) n xs) :
    Calls Tryz.prog 17 #[.slice (some ⟨g, 0, none⟩) n cap, .int .i64 k] w fun e w' => e = .returned (.int .i64 ((k + n * 10 : Nat) : Int)) ∧ (∃ ys, w'.ownsRow base 45 10 (.slice (some ⟨g, 0, none⟩) n cap) n ys) ∧ RowE w' g (marksE k n) ∧ w.grownBy w' (some g) := by
  have H1 := Lib.hid h1
  clear h1
  go_enter Tryz.func17, Tryz.ntmps17
  go_wp2_with fail
  go_loopw [1, 5] (fun x u wr => ∃ (i : Nat) (ys : List Value), i ≤ n ∧ x = .int .i64 ((k + i * 10 : Nat) : Int) ∧ u = .int .i64 i ∧ wr.ownsRow base 45 10 (.slice (some ⟨g, 0, none⟩) n cap) n ys ∧ MarkedE ys k i ∧ w.grownBy wr (some g)) (fun _ u _ => n - (intOf u).toNat)
  case atStart => exact ⟨0, xs, Nat.zero_le _, by simp, rfl, H1.out, fun i hi => by omega, ⟨rfl, rfl, rfl, Nat.le_refl _, fun _ _ _ => rfl⟩⟩
  case round =>
    obtain ⟨i, ys, hi, rfl, rfl, ho, hr, hb⟩ := hrel
    have G := Lib.hid hb
    have O := Lib.hid ho
    have HR := Lib.hid hr
    have hys : ys.length = n * 10 := ho.1
    clear hb ho hr H1
    by_cases hlt : i < n
    · have hlt2 : (i : Int) < (n : Int) := by omega
      have HS : Hid (MarkedE (set10 ys (i * 10) (markEnt (k + i * 10))) k (i + 1)) := Lib.hid (HR.out.step (by omega))
      clear HR
      have hK : k + i * 10 + 10 ≤ 100000000 := by omega
      have hK1 : 1 ≤ k + i * 10 := by omega
      generalize hKe : k + i * 10 = K at *
      have hMT := Lib.hid (fun (x : Int) (j : Nat) w (hx : x = ((K + j : Nat) : Int)) (hj : j ≤ 10) => (by rw [hx]; exact markText_any (K + j) w (by omega) (by omega) : Calls Tryz.prog 39 #[.int .i64 x] w fun e w' => e = .returned (.string (markv (K + j))) ∧ Below w.heap.size w w'))
      obtain ⟨y0, d0⟩ := own_at O.out hlt 0 (by omega)
      rw [Nat.add_zero] at d0
      have f0 := World.ownsRow.frozenAt O.out (i * 10)
      go_wp2_with fail
      refine (hMT.out _ 1 _ (by omega) (by omega)).mono ?_
      rintro e w1 ⟨rfl, hb⟩
      have O1 := Lib.hid (own_below (World.ownsRow.stored O.out (i * 10) _).1 hb)
      have G1 := Lib.hid (grown_below (grown_set G.out (i * 10) _) hb)
      clear hb d0 f0
      obtain ⟨y1, d1⟩ := own_at O1.out hlt 1 (by omega)
      have f1 := World.ownsRow.frozenAt O1.out (i * 10 + 1)
      go_wp2_with fail
      refine (hMT.out _ 2 _ (by omega) (by omega)).mono ?_
      rintro e w2 ⟨rfl, hb⟩
      have O2 := Lib.hid (own_below (World.ownsRow.stored O1.out (i * 10 + 1) (.string (markv (K + 1)))).1 hb)
      have G2 := Lib.hid (grown_below (grown_set G1.out (i * 10 + 1) (.string (markv (K + 1)))) hb)
      clear hb d1 f1
      obtain ⟨y2, d2⟩ := own_at O2.out hlt 2 (by omega)
      have f2 := World.ownsRow.frozenAt O2.out (i * 10 + 2)
      obtain ⟨y3, d3⟩ := own_at O2.out hlt 3 (by omega)
      have f3 := World.ownsRow.frozenAt O2.out (i * 10 + 3)
      obtain ⟨y4, d4⟩ := own_at O2.out hlt 4 (by omega)
      have f4 := World.ownsRow.frozenAt O2.out (i * 10 + 4)
      obtain ⟨y5, d5⟩ := own_at O2.out hlt 5 (by omega)
      have f5 := World.ownsRow.frozenAt O2.out (i * 10 + 5)
      obtain ⟨y6, d6⟩ := own_at O2.out hlt 6 (by omega)
      have f6 := World.ownsRow.frozenAt O2.out (i * 10 + 6)
      go_wp2_with fail
      refine (hMT.out _ 7 _ (by omega) (by omega)).mono ?_
      rintro e w7 ⟨rfl, hb⟩
      have O7 := Lib.hid (own_below (World.ownsRow.stored (World.ownsRow.stored (World.ownsRow.stored (World.ownsRow.stored (World.ownsRow.stored O2.out (i * 10 + 2) (.string (markv (K + 2)))).1 (i * 10 + 3) _).1 (i * 10 + 4) _).1 (i * 10 + 5) _).1 (i * 10 + 6) _).1 hb)
      have G7 := Lib.hid (grown_below (grown_set (grown_set (grown_set (grown_set (grown_set G2.out (i * 10 + 2) (.string (markv (K + 2)))) (i * 10 + 3) _) (i * 10 + 4) _) (i * 10 + 5) _) (i * 10 + 6) _) hb)
      clear hb d2 f2 d3 f3 d4 f4 d5 f5 d6 f6
      obtain ⟨y7, d7⟩ := own_at O7.out hlt 7 (by omega)
      have f7 := World.ownsRow.frozenAt O7.out (i * 10 + 7)
      go_wp2_with fail
      refine (hMT.out _ 8 _ (by omega) (by omega)).mono ?_
      rintro e w8 ⟨rfl, hb⟩
      have O8 := Lib.hid (own_below (World.ownsRow.stored O7.out (i * 10 + 7) (.string (markv (K + 7)))).1 hb)
      have G8 := Lib.hid (grown_below (grown_set G7.out (i * 10 + 7) (.string (markv (K + 7)))) hb)
      clear hb d7 f7
      obtain ⟨y8, d8⟩ := own_at O8.out hlt 8 (by omega)
      have f8 := World.ownsRow.frozenAt O8.out (i * 10 + 8)
      go_wp2_with fail
      refine (hMT.out _ 9 _ (by omega) (by omega)).mono ?_
      rintro e w9 ⟨rfl, hb⟩
      have O9 := Lib.hid (own_below (World.ownsRow.stored O8.out (i * 10 + 8) (.string (markv (K + 8)))).1 hb)
      have G9 := Lib.hid (grown_below (grown_set G8.out (i * 10 + 8) (.string (markv (K + 8)))) hb)
      clear hb d8 f8
      obtain ⟨y9, d9⟩ := own_at O9.out hlt 9 (by omega)
      have f9 := World.ownsRow.frozenAt O9.out (i * 10 + 9)
      go_wp2_with fail
      go_roundw
      case rel => exact ⟨i + 1, _, by omega, by go_num, by go_num, (World.ownsRow.stored O9.out (i * 10 + 9) (.string (markv (K + 9)))).1, HS.out, (grown_set G9.out (i * 10 + 9) (.string (markv (K + 9))))⟩
      case measure => simp [intOf]; omega
    · obtain rfl : i = n := by omega
      have hlt2 : ¬ (i : Int) < (i : Int) := by omega
      go_wp2_with fail
      go_ret
      exact ⟨rfl, ⟨ys, O.out⟩, HR.out.row O.out, G.out⟩
end Go.Proofs.YtcnmbolmgifgfabGreatDoor

/- Contract of laws.heldEntryS. -/
namespace Go.Proofs.YtcnmbolmgifgfabGreatDoor
open Go.ChangeShapes Go.WideShapes Go.ChangeAt Go.RowKit Go.Deep

set_option maxHeartbeats 3200000 in
set_option maxRecDepth 8000 in
theorem heldEntryS_any (n g cap k : Nat) (w : World) (hk : 1 ≤ k) (hn : k + n * 10 ≤ 100000000) (hg : g < w.heap.size) (h1 : RowE w g (marksE k n)) :
    Calls Tryz.prog 18 #[.slice (some ⟨g, 0, none⟩) n cap, .int .i64 k] w fun e w' => e = .returned (.int .i64 ((k + n * 10 : Nat) : Int)) ∧ Below w.heap.size w w' := by
  have H1 := Lib.hid h1
  clear h1
  go_enter Tryz.func18, Tryz.ntmps18
  go_wp2_with fail
  go_loopw [1, 5] (fun x u wr => ∃ (i : Nat), i ≤ n ∧ x = .int .i64 ((k + i * 10 : Nat) : Int) ∧ u = .int .i64 i ∧ Below w.heap.size w wr) (fun _ u _ => n - (intOf u).toNat)
  case atStart => exact ⟨0, Nat.zero_le _, by simp, rfl, Below.refl _ _⟩
  case round =>
    obtain ⟨i, hi, rfl, rfl, hb⟩ := hrel
    have B0 := Lib.hid hb
    clear hb
    by_cases hlt : i < n
    · have hlt2 : (i : Int) < (n : Int) := by omega
      have hK : k + i * 10 + 10 ≤ 100000000 := by omega
      have hK1 : 1 ≤ k + i * 10 := by omega
      have R0 := Lib.hid (H1.out.below B0.out hg)
      have HG := Lib.hid (marksE_get k n i hlt)
      generalize hKe : k + i * 10 = K at *
      have hMT := Lib.hid (fun (x : Int) (j : Nat) w (hx : x = ((K + j : Nat) : Int)) (hj : j ≤ 10) => (by rw [hx]; exact markText_any (K + j) w (by omega) (by omega) : Calls Tryz.prog 39 #[.int .i64 x] w fun e w' => e = .returned (.string (markv (K + j))) ∧ Below w.heap.size w w'))
      have q1 := self_eqE (markv (K + 1))
      have q2 := self_eqE (markv (K + 2))
      have q7 := self_eqE (markv (K + 7))
      have q8 := self_eqE (markv (K + 8))
      have q9 := self_eqE (markv (K + 9))
      have B : Hid (Below w.heap.size w wr) := B0
      have R : Hid (RowE wr g (marksE k n)) := R0
      have z : g < wr.heap.size := by have := B0.out.size; omega
      clear B0 R0
      obtain ⟨c0, c1, c2, c3, c4, c5, c6, c7, c8, c9⟩ := R.out.ten HG.out
      simp only [markEnt] at c0 c1 c2 c3 c4 c5 c6 c7 c8 c9
      go_wp2_with fail
      replace B : Hid (Below w.heap.size w wr.drew) := Lib.hid B.out.drew
      replace R : Hid (RowE wr.drew g (marksE k n)) := Lib.hid R.out
      replace z : g < wr.drew.heap.size := z
      go_region_held3 (fun w' => w'.cell? ⟨g, i * 10 + 1, none⟩ = some (.string (markv (K + 1)))) (assumption) (first | (go_at_call 39; refine (hMT.out _ 1 _ (by omega) (by omega)).mono ?_; rintro e w1 ⟨rfl, hb⟩; have d1 := kept_cellE hb z c1; replace B := Lib.hid (btE B.out hb); replace R := Lib.hid (R.out.below hb z); replace z := Nat.lt_of_lt_of_le z hb.size; clear hb))
      clear c0 c1 c2 c3 c4 c5 c6 c7 c8 c9
      obtain ⟨c0, c1, c2, c3, c4, c5, c6, c7, c8, c9⟩ := R.out.ten HG.out
      simp only [markEnt] at c0 c1 c2 c3 c4 c5 c6 c7 c8 c9
      go_wp2_with fail
      replace B : Hid (Below w.heap.size w w1.drew) := Lib.hid B.out.drew
      replace R : Hid (RowE w1.drew g (marksE k n)) := Lib.hid R.out
      replace z : g < w1.drew.heap.size := z
      go_region_held3 (fun w' => w'.cell? ⟨g, i * 10 + 2, none⟩ = some (.string (markv (K + 2)))) (assumption) (first | (go_at_call 39; refine (hMT.out _ 2 _ (by omega) (by omega)).mono ?_; rintro e w2 ⟨rfl, hb⟩; have d2 := kept_cellE hb z c2; replace B := Lib.hid (btE B.out hb); replace R := Lib.hid (R.out.below hb z); replace z := Nat.lt_of_lt_of_le z hb.size; clear hb))
      clear c0 c1 c2 c3 c4 c5 c6 c7 c8 c9
      obtain ⟨c0, c1, c2, c3, c4, c5, c6, c7, c8, c9⟩ := R.out.ten HG.out
      simp only [markEnt] at c0 c1 c2 c3 c4 c5 c6 c7 c8 c9
      go_wp2_with fail
      replace B : Hid (Below w.heap.size w w2.drew) := Lib.hid B.out.drew
      replace R : Hid (RowE w2.drew g (marksE k n)) := Lib.hid R.out
      replace z : g < w2.drew.heap.size := z
      go_region_held3 (fun w' => w'.cell? ⟨g, i * 10 + 7, none⟩ = some (.string (markv (K + 7)))) (assumption) (first | (go_at_call 39; refine (hMT.out _ 7 _ (by omega) (by omega)).mono ?_; rintro e w7 ⟨rfl, hb⟩; have d7 := kept_cellE hb z c7; replace B := Lib.hid (btE B.out hb); replace R := Lib.hid (R.out.below hb z); replace z := Nat.lt_of_lt_of_le z hb.size; clear hb))
      clear c0 c1 c2 c3 c4 c5 c6 c7 c8 c9
      obtain ⟨c0, c1, c2, c3, c4, c5, c6, c7, c8, c9⟩ := R.out.ten HG.out
      simp only [markEnt] at c0 c1 c2 c3 c4 c5 c6 c7 c8 c9
      go_wp2_with fail
      replace B : Hid (Below w.heap.size w w7.drew) := Lib.hid B.out.drew
      replace R : Hid (RowE w7.drew g (marksE k n)) := Lib.hid R.out
      replace z : g < w7.drew.heap.size := z
      go_region_held3 (fun w' => w'.cell? ⟨g, i * 10 + 8, none⟩ = some (.string (markv (K + 8)))) (assumption) (first | (go_at_call 39; refine (hMT.out _ 8 _ (by omega) (by omega)).mono ?_; rintro e w8 ⟨rfl, hb⟩; have d8 := kept_cellE hb z c8; replace B := Lib.hid (btE B.out hb); replace R := Lib.hid (R.out.below hb z); replace z := Nat.lt_of_lt_of_le z hb.size; clear hb))
      clear c0 c1 c2 c3 c4 c5 c6 c7 c8 c9
      obtain ⟨c0, c1, c2, c3, c4, c5, c6, c7, c8, c9⟩ := R.out.ten HG.out
      simp only [markEnt] at c0 c1 c2 c3 c4 c5 c6 c7 c8 c9
      go_wp2_with fail
      replace B : Hid (Below w.heap.size w w8.drew) := Lib.hid B.out.drew
      replace R : Hid (RowE w8.drew g (marksE k n)) := Lib.hid R.out
      replace z : g < w8.drew.heap.size := z
      go_region_held3 (fun w' => w'.cell? ⟨g, i * 10 + 9, none⟩ = some (.string (markv (K + 9)))) (assumption) (first | (go_at_call 39; refine (hMT.out _ 9 _ (by omega) (by omega)).mono ?_; rintro e w9 ⟨rfl, hb⟩; have d9 := kept_cellE hb z c9; replace B := Lib.hid (btE B.out hb); replace R := Lib.hid (R.out.below hb z); replace z := Nat.lt_of_lt_of_le z hb.size; clear hb))
      clear c0 c1 c2 c3 c4 c5 c6 c7 c8 c9
      go_wp2_with fail
      go_roundw
      case rel => exact ⟨i + 1, by omega, by go_num, by go_num, B.out⟩
      case measure => simp [intOf]; omega
    · obtain rfl : i = n := by omega
      have hlt2 : ¬ (i : Int) < (i : Int) := by omega
      go_wp2_with fail
      go_ret
      exact ⟨rfl, B0.out⟩
end Go.Proofs.YtcnmbolmgifgfabGreatDoor

/- The law laws.FnExactGetNewc returns true. -/
namespace Go.Proofs.YtcnmbolmgifgfabGreatDoor
open Go.ChangeShapes Go.WideShapes Go.ChangeAt Go.RowKit Go.Deep

theorem outc_len (R : Rdr) (z : Nat) : ∀ (f : Nat) (Q : List Card) (p : Nat), (outc R z f Q p).2.length ≤ Q.length + f := by
  intro f
  induction f with
  | zero => intro Q p; exact Nat.zero_le _
  | succ f ih =>
    intro Q p
    rw [outc]
    by_cases h1 : ¬ p < z
    · rw [if_pos h1]; exact Nat.zero_le _
    rw [if_neg h1]
    by_cases h2 : ¬ (R p).2.2 = 0
    · rw [if_pos h2]; exact Nat.zero_le _
    rw [if_neg h2]
    by_cases h3 : isTr (R p).1.Path = true
    · rw [if_pos h3]
      by_cases h4 : (R p).2.1 = (z : Int)
      · rw [if_pos h4]; exact Nat.le_add_right _ _
      · rw [if_neg h4]; exact Nat.zero_le _
    · rw [if_neg h3]
      have h5 := ih (Q ++ [(R p).1]) (R p).2.1.toNat
      rw [List.length_append, List.length_singleton] at h5
      omega
theorem getv_len (O : Int × List Card) (P : List Ent → ByteArray) (s : ByteArray) : (getv O P s).2.length ≤ O.2.length := by
  have h := entriesv_le O.2
  rw [getv]
  by_cases h1 : ¬ O.1 = 0
  · rw [if_pos h1]; exact Nat.zero_le _
  rw [if_neg h1]
  by_cases h2 : P (entriesv O.2) = s
  · rw [if_pos h2]; exact h
  · rw [if_neg h2]; exact Nat.zero_le _
theorem gNw_len (s : ByteArray) : (gNw s (crcOf s)).2.length ≤ s.size + 1 := by
  have h1 := getv_len (newO s (crcOf s)) (fun L => putNwT L (crcOf s)) s
  have h2 := outc_len (newR s (crcOf s)) s.size (s.size + 1) [] 0
  rw [List.length_nil, Nat.zero_add] at h2
  exact Nat.le_trans h1 h2
set_option maxHeartbeats 3200000 in
set_option maxRecDepth 8000 in
theorem getNewc_law (s : ByteArray) (w : World) (ht : Tabs w) :
    Calls Tryz.prog 6 #[.string s] w fun e w' => e = .returned (.bool true) ∧ Below w.heap.size w w' := by
  by_cases hs : (1048576 : Int) < (s.size : Int)
  · go_enter Tryz.func6, Tryz.ntmps6
    go_wp2_with fail
    go_ret
    exact ⟨rfl, Below.refl _ _⟩
  have S1 := Lib.hid (fun w => getNewc_spec s w (by omega))
  have S2 := Lib.hid (fun w h => getNewc_impl s w (by omega) h)
  have HT := Lib.hid ht
  have hD := gNw_len s
  clear ht
  rw [show bNw s = (crcOf s && ((gNw s (crcOf s)).1 == 0)) from rfl] at S2
  generalize (crcOf s && ((gNw s (crcOf s)).1 == 0)) = bb at *
  generalize (gNw s (crcOf s)).1 = c at *
  generalize (gNw s (crcOf s)).2 = D at *
  have qb : (bb != bb) = false := by simp
  have qe : (c != c) = false := by simp
  have HE := Lib.hid (fun g g2 ca cb w hg hg2 h1 h2 => eqEntryS_any D D.length g g2 ca cb w rfl (by omega) hg hg2 h1 h2)
  have HM := Lib.hid (fun g ca base w h => markEntryS_any D.length g ca 1 base (entVals D) w (by omega) (by omega) h)
  have HH := Lib.hid (fun g ca w hg h => heldEntryS_any D.length g ca 1 w (by omega) (by omega) hg h)
  have qm : ¬ ((1 + D.length * 10 : Nat) : Int) < 0 := by omega
  have B : Hid (Below w.heap.size w w) := Lib.hid (Below.refl _ _)
  go_enter Tryz.func6, Tryz.ntmps6
  go_wp2_with fail
  refine (S1.out _).mono ?_
  rintro e w3 ⟨v, rfl, ho, hb⟩
  obtain ⟨gw, cw, rfl, hr, zw, hbase, _, hown⟩ := ho.open
  have Rw := Lib.hid hr
  clear ho hr hown hbase
  replace B := Lib.hid (btE B.out hb)
  clear hb
  go_wp2_with fail
  refine (S2.out _ (HT.out.below B.out)).mono ?_
  rintro e w5 ⟨v2, rfl, ho, hb⟩
  obtain ⟨gg, cg, rfl, hr, zg, hbase, _, hown⟩ := ho.open
  have Rg := Lib.hid hr
  have Og := Lib.hid hown
  have hwg : gw ≠ gg := by omega
  have hgB : w.heap.size ≤ gg := by have := B.out.size; omega
  clear ho hr hown hbase
  replace B := Lib.hid (btE B.out hb)
  replace Rw := Lib.hid (Rw.out.below hb zw)
  replace zw := Nat.lt_of_lt_of_le zw hb.size
  clear hb
  go_wp2_with fail
  refine (HE.out gg gw cg cw _ zg zw Rg.out Rw.out).mono ?_
  rintro e w10 ⟨rfl, hb⟩
  replace B := Lib.hid (btE B.out hb)
  replace Og := Lib.hid (own_below Og.out hb)
  replace Rw := Lib.hid (Rw.out.below hb zw)
  replace zw := Nat.lt_of_lt_of_le zw hb.size
  replace Rg := Lib.hid (Rg.out.below hb zg)
  replace zg := Nat.lt_of_lt_of_le zg hb.size
  clear hb
  go_wp2_with fail
  refine (HM.out gg cg _ _ Og.out).mono ?_
  rintro e w11 ⟨rfl, _, hrm, hg⟩
  replace B : Hid (Below w.heap.size w w11) := Lib.hid (B.out.grown hg B.out.size (fun k hk => by cases hk; omega))
  replace Rw := Lib.hid (Rw.out.grown hg (someNe (by omega)))
  replace zw := Nat.lt_of_lt_of_le zw hg.size
  clear Rg Og
  have Rg := Lib.hid hrm
  replace zg := Nat.lt_of_lt_of_le zg hg.size
  clear hg hrm
  go_wp2_with fail
  refine (HH.out gg cg _ zg Rg.out).mono ?_
  rintro e w12 ⟨rfl, hb⟩
  replace B := Lib.hid (btE B.out hb)
  replace Rw := Lib.hid (Rw.out.below hb zw)
  replace zw := Nat.lt_of_lt_of_le zw hb.size
  replace Rg := Lib.hid (Rg.out.below hb zg)
  replace zg := Nat.lt_of_lt_of_le zg hb.size
  clear hb
  go_wp2_with fail
  refine (S2.out _ (HT.out.below B.out)).mono ?_
  rintro e w14 ⟨v3, rfl, ho, hb⟩
  obtain ⟨gh, ch, rfl, hr, zh, hbase, _, hown⟩ := ho.open
  have Rh := Lib.hid hr
  clear ho hr hown hbase
  replace B := Lib.hid (btE B.out hb)
  replace Rw := Lib.hid (Rw.out.below hb zw)
  replace zw := Nat.lt_of_lt_of_le zw hb.size
  replace Rg := Lib.hid (Rg.out.below hb zg)
  replace zg := Nat.lt_of_lt_of_le zg hb.size
  clear hb
  go_wp2_with fail
  refine (HE.out gh gw ch cw _ zh zw Rh.out Rw.out).mono ?_
  rintro e w15 ⟨rfl, hb⟩
  replace B := Lib.hid (btE B.out hb)
  replace Rg := Lib.hid (Rg.out.below hb zg)
  replace zg := Nat.lt_of_lt_of_le zg hb.size
  clear hb Rw zw Rh zh
  go_wp2_with fail
  refine (HH.out gg cg _ zg Rg.out).mono ?_
  rintro e w16 ⟨rfl, hb⟩
  replace B := Lib.hid (btE B.out hb)
  clear hb
  go_wp2_with fail
  go_ret
  exact ⟨rfl, B.out⟩
end Go.Proofs.YtcnmbolmgifgfabGreatDoor
