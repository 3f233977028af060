/- Contract of impl.GetBin. -/
import Derived.Test.YtancidbbkoeokaaBinBas
import Derived.Test.YtancidbbkoeokaaBinPR
import Derived.Test.YtancidbbkoeokaaPutBnI
import Derived.Test.YtancidbbkoeokaaCut
import Derived.Test.YtancidbbkoeokaaPartMath
namespace Go.Proofs.Ytancidbbkoeokaa
open Go.ChangeShapes Go.WideShapes Go.ChangeAt Go.RowKit Go.Deep

theorem run_equalIn_intB {P : Program} (w : World) (d : Nat) (t e : TypeId) (ht : P.underlying t = some (.array 2 e)) (he : P.underlying e = some (.int .i64)) (hsz : ∀ w, (sizeOf e).run P w = .ok 1 w) (a b x y : Int) :
    (Op.equalIn (d + 2) t (.agg #[.int .i64 a, .int .i64 b]) (.agg #[.int .i64 x, .int .i64 y])).run P w = .ok (decide (a = x) && decide (b = y)) w := by
  rw [Op.equalIn]
  simp only [Sem.run_bind, run_underlying ht, Result.andThen_ok, hsz, Std.Legacy.Range.forIn_eq_forIn_range', Std.Legacy.Range.size, Nat.sub_zero, Nat.add_sub_cancel, Nat.div_one]
  have p0 : ∀ w (v0 v1 : Value), (part e #[v0, v1] 0).run P w = .ok v0 w := fun w _ _ => by simp [part, isAgg, run_underlying he]
  have p1 : ∀ w (v0 v1 : Value), (part e #[v0, v1] 1).run P w = .ok v1 w := fun w _ _ => by simp [part, isAgg, run_underlying he]
  have q : ∀ w a x, (Op.equalIn (d + 1) e (.int .i64 a) (.int .i64 x)).run P w = .ok (decide (a = x)) w := fun w a x => by
    rw [run_equalIn_int _ d e .i64 .i64 _ _ he]
    rfl
  rw [show List.range' 0 2 1 = [0, 1] from rfl]
  simp only [List.forIn_cons, List.forIn_nil, Sem.run_bind, Nat.zero_mul, Nat.one_mul, p0, q, Result.andThen_ok]
  generalize decide (a = x) = u
  cases u
  · simp
  · simp only [Bool.not_true, Bool.false_eq_true, if_false, Sem.run_pure, Sem.run_bind, Result.andThen_ok, p1, q]
    generalize decide (b = y) = v
    cases v <;> simp
theorem ne_zerosB (a b : Int) (w : World) : (binOp .neq 45 (.agg #[.int .i64 a, .int .i64 b]) (.agg #[.int .i64 0, .int .i64 0])).run Try.prog w = .ok (.bool (!(decide (a = 0) && decide (b = 0)))) w := by
  rw [run_neq_struct, run_equalIn_intB w 9998 45 3 Try.underlying45 Try.underlying3 (fun w => by go_simp) a b 0 0]
  rfl
theorem pad2_imp (n : Nat) (hn : n ≤ 9007199254740991) (w : World) : Calls Try.prog 31 #[.int .i64 (n : Int), .int .i64 2] w fun e w' => e = .returned (.int .i64 (pad2 n : Int)) ∧ w = w' := by
  have h := pad_impl (n : Int) 2 w
  rw [padv2 n hn] at h
  exact h
theorem heap_newB (w : World) (o : Obj) (g : Nat) (hg : g = w.heap.size) : (w.alloc o).heap[g]? = some o := by subst hg; exact heap_lastG w o
set_option maxHeartbeats 3200000 in
set_option maxRecDepth 8000 in
theorem getBinI_short (s : ByteArray) (i : Int) (hi : Bool) (w : World) (hs : s.size ≤ 1048576) (hi1 : i ≤ 9223372036854775807) (hc : i < 0 ∨ (s.size : Int) < i + 26) :
    Calls Try.prog 15 #[.string s, .int .i64 i, .bool hi] w fun e w' => e = .returned (bnV s i hi) ∧ Below w.heap.size w w' := by
  have HF : Hid (bnV s i hi = bdB i 1) := Lib.hid (bn_cut hc)
  have R := Lib.hid (CardO.new w zeroC)
  have B : Hid (Below w.heap.size w (w.alloc (.cells zeroC.cells.toArray 33))) := Lib.hid ((Below.refl _ _).alloc (Nat.le_refl _) _)
  generalize bnV s i hi = r at HF
  by_cases h1 : i < 0
  · clear hc
    simp only [zeroC, Card.cells] at R B
    go_enter Try.func15, Try.ntmps15
    obtain ⟨d0, d1, d2, d3, d4, d5, d6, d7⟩ := (show CardO _ w.heap.size zeroC from R.out).at.zero
    simp only [zeroC] at d0 d1 d2 d3 d4 d5 d6 d7
    have f0 := (show CardO _ w.heap.size zeroC from R.out).fz 0
    have f1 := (show CardO _ w.heap.size zeroC from R.out).fz 1
    have f2 := (show CardO _ w.heap.size zeroC from R.out).fz 2
    have f3 := (show CardO _ w.heap.size zeroC from R.out).fz 3
    have f4 := (show CardO _ w.heap.size zeroC from R.out).fz 4
    have f5 := (show CardO _ w.heap.size zeroC from R.out).fz 5
    have f6 := (show CardO _ w.heap.size zeroC from R.out).fz 6
    have f7 := (show CardO _ w.heap.size zeroC from R.out).fz 7
    go_wp2_with fail
    refine bodyPost_ret (res_OCB rfl _ rfl R.out) rfl ?_
    exact ⟨by rw [HF.out]; rfl, B.out⟩
  · have h2 : (s.size : Int) - i < 26 := by omega
    have h3 : IntKind.i64.wrap ((s.size : Int) - i) = (s.size : Int) - i := by rw [IntKind.wrap_i64]; omega
    clear hc
    simp only [zeroC, Card.cells] at R B
    go_enter Try.func15, Try.ntmps15
    obtain ⟨d0, d1, d2, d3, d4, d5, d6, d7⟩ := (show CardO _ w.heap.size zeroC from R.out).at.zero
    simp only [zeroC] at d0 d1 d2 d3 d4 d5 d6 d7
    have f0 := (show CardO _ w.heap.size zeroC from R.out).fz 0
    have f1 := (show CardO _ w.heap.size zeroC from R.out).fz 1
    have f2 := (show CardO _ w.heap.size zeroC from R.out).fz 2
    have f3 := (show CardO _ w.heap.size zeroC from R.out).fz 3
    have f4 := (show CardO _ w.heap.size zeroC from R.out).fz 4
    have f5 := (show CardO _ w.heap.size zeroC from R.out).fz 5
    have f6 := (show CardO _ w.heap.size zeroC from R.out).fz 6
    have f7 := (show CardO _ w.heap.size zeroC from R.out).fz 7
    go_wp2_with fail
    refine bodyPost_ret (res_OCB rfl _ rfl R.out) rfl ?_
    exact ⟨by rw [HF.out]; rfl, B.out⟩
set_option maxHeartbeats 12800000 in
set_option maxRecDepth 8000 in
theorem binI_walk (s : ByteArray) (j p A D q1 q2 : Nat) (x0 x1 x2 x3 x4 x5 x6 x7 xt : Int) (hi : Bool) (V : Value) (ct dt rw : ByteArray) (w : World) (hs : s.size ≤ 1048576) (hp : j + 26 = p) (hps : p ≤ s.size) (hA : A ≤ 65535) (hD : D ≤ 4294967295) (hq1 : q1 = pad2 A) (hq2 : q2 = pad2 D)
    (hT : ∀ g gh w, RdO w g s (j : Int) hi → w.heap[gh]? = some (.cells #[.int .i64 0, .int .i64 0, .int .i64 0, .int .i64 0, .int .i64 0, .int .i64 0, .string ⟨#[]⟩, .string ⟨#[]⟩, .int .i64 0, .int .i64 0, .int .i64 0, .int .i64 0, .int .i64 0] 47 (0, 0)) → gh < g → Calls Try.prog 30 #[.pointer (some ⟨gh, 0, none⟩), .iface 58 (.pointer (some ⟨g, 0, none⟩))] w fun e w' => e = .returned (.int .i64 (p : Int)) ∧ w'.heap[gh]? = some (.cells #[.int .i64 x2, .int .i64 x3, .int .i64 x4, .int .i64 x5, .int .i64 x6, .int .i64 xt, .string ⟨#[]⟩, .string ⟨#[]⟩, .int .i64 x0, .int .i64 x1, .int .i64 x7, .int .i64 (A : Int), .int .i64 (D : Int)] 47 (0, 0)) ∧ Below gh w w')
    (hct : ct = cutv (s.extract p (p + A + q1))) (hdt : dt = s.extract (p + A + q1) (p + A + q1 + D))
    (hrw : rw = binTextv ⟨x2, x3, x4, x5, x6, xt, ct, dt⟩ hi)
    (h8 : ¬ x0 = 29127 → V = bdB j 4)
    (h9 : x0 = 29127 → ¬ (x1 = 0 ∧ x7 = 0) → V = bdB j 3)
    (h1 : x0 = 29127 → x1 = 0 ∧ x7 = 0 → s.size < p + A + q1 + D + q2 → V = bdB j 1)
    (h2 : x0 = 29127 → x1 = 0 ∧ x7 = 0 → ¬ s.size < p + A + q1 + D + q2 → ¬ rw = s.extract j (p + A + q1 + D + q2) → V = bdB j 4)
    (h3 : x0 = 29127 → x1 = 0 ∧ x7 = 0 → ¬ s.size < p + A + q1 + D + q2 → rw = s.extract j (p + A + q1 + D + q2) → V = .tuple #[.agg (Card.cells ⟨x2, x3, x4, x5, x6, xt, ct, dt⟩).toArray, .int .i64 ((p : Int) + (A : Int) + (q1 : Int) + (D : Int) + (q2 : Int)), .int .i64 0]) :
    Calls Try.prog 15 #[.string s, .int .i64 (j : Int), .bool hi] w fun e w' => e = .returned V ∧ Below w.heap.size w w' := by
  have HT := Lib.hid hT
  have HP1 := Lib.hid (fun w => pad2_imp A (by omega) w)
  have HP2 := Lib.hid (fun w => pad2_imp D (by omega) w)
  rw [← hq1] at HP1
  rw [← hq2] at HP2
  have hl1 : q1 ≤ 1 := by rw [hq1]; exact pad2_le _
  have hl2 : q2 ≤ 1 := by rw [hq2]; exact pad2_le _
  have b0 : IntKind.i64.wrap ((s.size : Int) - (j : Int)) = (s.size : Int) - (j : Int) := by rw [IntKind.wrap_i64]; omega
  have b1 : ¬ (s.size : Int) - (j : Int) < 26 := by omega
  have a1 : IntKind.i64.wrap ((p : Int) + (A : Int)) = (p : Int) + (A : Int) := by rw [IntKind.wrap_i64]; omega
  have a3 : IntKind.i64.wrap ((p : Int) + (A : Int) + (q1 : Int)) = (p : Int) + (A : Int) + (q1 : Int) := by rw [IntKind.wrap_i64]; omega
  have a4 : IntKind.i64.wrap ((p : Int) + (A : Int) + (q1 : Int) + (D : Int)) = (p : Int) + (A : Int) + (q1 : Int) + (D : Int) := by rw [IntKind.wrap_i64]; omega
  have a5 : IntKind.i64.wrap ((p : Int) + (A : Int) + (q1 : Int) + (D : Int) + (q2 : Int)) = (p : Int) + (A : Int) + (q1 : Int) + (D : Int) + (q2 : Int) := by rw [IntKind.wrap_i64]; omega
  have R := Lib.hid (CardO.new w zeroC)
  have B : Hid (Below w.heap.size w (w.alloc (.cells zeroC.cells.toArray 33))) := Lib.hid ((Below.refl _ _).alloc (Nat.le_refl _) _)
  simp only [zeroC, Card.cells] at R B
  have K8 := Lib.hid h8
  have K9 := Lib.hid h9
  have K1 := Lib.hid h1
  have K2 := Lib.hid h2
  have K3 := Lib.hid h3
  have HCt := Lib.hid hct
  have HDt := Lib.hid hdt
  have HRw := Lib.hid hrw
  have QS := Lib.hid hs
  have QP := Lib.hid hp
  have QPS := Lib.hid hps
  have QA := Lib.hid hA
  have QD := Lib.hid hD
  have QL1 := Lib.hid hl1
  have QL2 := Lib.hid hl2
  clear h1 h2 h3 h8 h9 hT hct hdt hrw hs hp hps hA hD hq1 hq2 hl1 hl2
  go_enter Try.func15, Try.ntmps15
  go_upto_region 3 with fail
  generalize World.alloc w _ = w1 at R B ⊢
  replace R : Hid (CardO w1 w.heap.size zeroC) := R
  clear b0 b1
  have hlt1 := R.out.lt
  have hs1 : w.heap.size ≤ w1.heap.size := B.out.size
  go_wp2_with fail
  have N1 := (Below.refl w1.heap.size w1).alloc (Nat.le_refl _) (.cells #[.int .i64 0, .int .i64 0, .int .i64 0, .int .i64 0, .int .i64 0, .int .i64 0, .string ⟨#[]⟩, .string ⟨#[]⟩, .int .i64 0, .int .i64 0, .int .i64 0, .int .i64 0, .int .i64 0] 47)
  have M1 := heap_lastG w1 (.cells #[.int .i64 0, .int .i64 0, .int .i64 0, .int .i64 0, .int .i64 0, .int .i64 0, .string ⟨#[]⟩, .string ⟨#[]⟩, .int .i64 0, .int .i64 0, .int .i64 0, .int .i64 0, .int .i64 0] 47)
  generalize hw2 : World.alloc w1 _ = w2 at N1 M1 ⊢
  have hs2 : w2.heap.size = w1.heap.size + 1 := by rw [← hw2]; simp
  clear hw2
  have N2 := (Below.refl w2.heap.size w2).alloc (Nat.le_refl _) (.cells #[.string s, .int .i64 (j : Int), .bool hi] 60)
  have M2 := heap_newB w2 (.cells #[.string s, .int .i64 (j : Int), .bool hi] 60) (w1.heap.size + 1) hs2.symm
  have M12 := (N2.block w1.heap.size (by omega)).trans M1
  generalize hw3 : World.alloc w2 _ = w3 at N2 M2 M12 ⊢
  clear hw3
  refine (HT.out (w1.heap.size + 1) w1.heap.size w3 M2 M12 (by omega)).mono ?_
  rintro e w4 ⟨rfl, hh, hb⟩
  have H := Lib.hid hh
  replace R : Hid (CardO w4 w.heap.size zeroC) := Lib.hid (((R.out.below N1 hlt1).below N2 (by omega)).below hb hlt1)
  replace B : Hid (Below w.heap.size w w4) := Lib.hid (((B.out.trans (N1.mono hs1)).trans (N2.mono (by omega))).trans (hb.mono hs1))
  clear hh hb N1 M1 N2 M2 M12 HT hs2
  obtain ⟨gh, hgh⟩ : ∃ gh, gh = w1.heap.size := ⟨_, rfl⟩
  rw [← hgh] at H hlt1 ⊢
  clear hgh hs1
  go_upto_region 5 with fail
  have c11 : w4.cell? ⟨gh, 11, none⟩ = some (.int .i64 (A : Int)) := by simp [World.cell?, H.out]
  go_quiet ((go_at_call 31; refine Calls.quiet_of_same ((HP1.out _).mono (fun e w' h => ⟨h.1, h.2.symm⟩))))
  obtain ⟨w5, hwq⟩ : ∃ y, y = w4.drewN nq := ⟨_, rfl⟩
  replace R : Hid (CardO w5 w.heap.size zeroC) := Lib.hid (by rw [hwq]; exact R.out)
  replace B : Hid (Below w.heap.size w w5) := Lib.hid (by rw [hwq]; exact bel_drewK B.out)
  replace H : Hid (w5.heap[gh]? = some (.cells #[.int .i64 x2, .int .i64 x3, .int .i64 x4, .int .i64 x5, .int .i64 x6, .int .i64 xt, .string ⟨#[]⟩, .string ⟨#[]⟩, .int .i64 x0, .int .i64 x1, .int .i64 x7, .int .i64 (A : Int), .int .i64 (D : Int)] 47 (0, 0))) := Lib.hid (by rw [hwq]; exact H.out)
  rw [← hwq]
  clear hwq c11 HP1
  go_upto_region 6 with fail
  have c12 : w5.cell? ⟨gh, 12, none⟩ = some (.int .i64 (D : Int)) := by simp [World.cell?, H.out]
  go_quiet ((go_at_call 31; refine Calls.quiet_of_same ((HP2.out _).mono (fun e w' h => ⟨h.1, h.2.symm⟩))))
  obtain ⟨w6, hwq⟩ : ∃ y, y = w5.drewN nq := ⟨_, rfl⟩
  replace R : Hid (CardO w6 w.heap.size zeroC) := Lib.hid (by rw [hwq]; exact R.out)
  replace B : Hid (Below w.heap.size w w6) := Lib.hid (by rw [hwq]; exact bel_drewK B.out)
  replace H : Hid (w6.heap[gh]? = some (.cells #[.int .i64 x2, .int .i64 x3, .int .i64 x4, .int .i64 x5, .int .i64 x6, .int .i64 xt, .string ⟨#[]⟩, .string ⟨#[]⟩, .int .i64 x0, .int .i64 x1, .int .i64 x7, .int .i64 (A : Int), .int .i64 (D : Int)] 47 (0, 0))) := Lib.hid (by rw [hwq]; exact H.out)
  rw [← hwq]
  clear hwq c12 HP2
  go_upto_region 7 with fail
  have c8 : w6.cell? ⟨gh, 8, none⟩ = some (.int .i64 x0) := by simp [World.cell?, H.out]
  by_cases e0 : ¬ x0 = 29127
  · have HF := Lib.hid (K8.out e0)
    have q8 : (x0 != 29127) = true := by simpa using e0
    clear K1 K2 K3 K8 K9 HCt HDt HRw e0 H
    obtain ⟨d0, d1, d2, d3, d4, d5, d6, d7⟩ := (R.out).at.zero
    simp only [zeroC] at d0 d1 d2 d3 d4 d5 d6 d7
    have f0 := (R.out).fz 0
    have f1 := (R.out).fz 1
    have f2 := (R.out).fz 2
    have f3 := (R.out).fz 3
    have f4 := (R.out).fz 4
    have f5 := (R.out).fz 5
    have f6 := (R.out).fz 6
    have f7 := (R.out).fz 7
    have R9 := (R.out).put zeroC
    have B9 := below_putOC (g := w.heap.size) (B.out) (Nat.le_refl _) zeroC
    simp only [putOC, zeroC] at R9 B9
    go_wp2_with fail
    refine bodyPost_ret (res_OCB rfl _ rfl R9) rfl ?_
    exact ⟨by rw [HF.out]; rfl, B9⟩
  have e0 : x0 = 29127 := Decidable.byContradiction e0
  replace K9 := Lib.hid (K9.out e0)
  replace K1 := Lib.hid (K1.out e0)
  replace K2 := Lib.hid (K2.out e0)
  replace K3 := Lib.hid (K3.out e0)
  subst e0
  clear K8
  go_upto_region 9 with fail
  clear c8
  have c9 : w6.cell? ⟨gh, 9, none⟩ = some (.int .i64 x1) := by simp [World.cell?, H.out]
  have c10 : w6.cell? ⟨gh, 10, none⟩ = some (.int .i64 x7) := by simp [World.cell?, H.out]
  by_cases ez : ¬ (x1 = 0 ∧ x7 = 0)
  · have HF := Lib.hid (K9.out ez)
    have q8 := fun w => ne_zerosB x1 x7 w
    rw [show (!(decide (x1 = 0) && decide (x7 = 0))) = true from by simp; omega] at q8
    clear K1 K2 K3 K9 HCt HDt HRw ez H
    obtain ⟨d0, d1, d2, d3, d4, d5, d6, d7⟩ := (R.out).at.zero
    simp only [zeroC] at d0 d1 d2 d3 d4 d5 d6 d7
    have f0 := (R.out).fz 0
    have f1 := (R.out).fz 1
    have f2 := (R.out).fz 2
    have f3 := (R.out).fz 3
    have f4 := (R.out).fz 4
    have f5 := (R.out).fz 5
    have f6 := (R.out).fz 6
    have f7 := (R.out).fz 7
    have R9 := (R.out).put zeroC
    have B9 := below_putOC (g := w.heap.size) (B.out) (Nat.le_refl _) zeroC
    simp only [putOC, zeroC] at R9 B9
    go_wp2_with fail
    refine bodyPost_ret (res_OCB rfl _ rfl R9) rfl ?_
    exact ⟨by rw [HF.out]; rfl, B9⟩
  obtain ⟨rfl, rfl⟩ : x1 = 0 ∧ x7 = 0 := Decidable.byContradiction ez
  replace K1 := Lib.hid (K1.out ⟨rfl, rfl⟩)
  replace K2 := Lib.hid (K2.out ⟨rfl, rfl⟩)
  replace K3 := Lib.hid (K3.out ⟨rfl, rfl⟩)
  have q8 := fun w => ne_zerosB 0 0 w
  rw [show (!(decide ((0 : Int) = 0) && decide ((0 : Int) = 0))) = false from rfl] at q8
  clear K9 ez
  go_upto_region 11 with fail
  clear c9 c10 q8
  by_cases hc : s.size < p + A + q1 + D + q2
  · have HF := Lib.hid (K1.out hc)
    have hcmp : (s.size : Int) < (p : Int) + (A : Int) + (q1 : Int) + (D : Int) + (q2 : Int) := by omega
    clear K1 K2 K3 HCt HDt HRw hc H
    obtain ⟨d0, d1, d2, d3, d4, d5, d6, d7⟩ := (R.out).at.zero
    simp only [zeroC] at d0 d1 d2 d3 d4 d5 d6 d7
    have f0 := (R.out).fz 0
    have f1 := (R.out).fz 1
    have f2 := (R.out).fz 2
    have f3 := (R.out).fz 3
    have f4 := (R.out).fz 4
    have f5 := (R.out).fz 5
    have f6 := (R.out).fz 6
    have f7 := (R.out).fz 7
    have R9 := (R.out).put zeroC
    have B9 := below_putOC (g := w.heap.size) (B.out) (Nat.le_refl _) zeroC
    simp only [putOC, zeroC] at R9 B9
    go_wp2_with fail
    refine bodyPost_ret (res_OCB rfl _ rfl R9) rfl ?_
    exact ⟨by rw [HF.out]; rfl, B9⟩
  have hcmp : ¬ (s.size : Int) < (p : Int) + (A : Int) + (q1 : Int) + (D : Int) + (q2 : Int) := by omega
  replace K2 := Lib.hid (K2.out hc)
  replace K3 := Lib.hid (K3.out hc)
  have hs := QS.out
  have hp := QP.out
  have hps := QPS.out
  have hA := QA.out
  have hD := QD.out
  have hl1 := QL1.out
  have hl2 := QL2.out
  have S1 := fun w => sl_atB s (p : Int) ((p : Int) + (A : Int) + (q1 : Int)) p (p + A + q1) rfl (by omega) (by omega) (by omega) w
  have S2 := fun w => sl_atB s ((p : Int) + (A : Int) + (q1 : Int)) ((p : Int) + (A : Int) + (q1 : Int) + (D : Int)) (p + A + q1) (p + A + q1 + D) (by omega) (by omega) (by omega) (by omega) w
  have HS3 := Lib.hid (fun w => sl_atB s (j : Int) ((p : Int) + (A : Int) + (q1 : Int) + (D : Int) + (q2 : Int)) j (p + A + q1 + D + q2) rfl (by omega) (by omega) (by omega) w)
  have HCu := Lib.hid (fun w => cut_impl (s.extract p (p + A + q1)) w (by rw [ByteArray.size_extract]; omega))
  have HCl := Lib.hid (fun w => clone_any (s.extract (p + A + q1) (p + A + q1 + D)) w (by rw [ByteArray.size_extract]; omega))
  rw [← HCt.out] at HCu
  rw [← HDt.out] at HCl S2
  have hdz : dt.size ≤ 1048576 := by rw [HDt.out, ByteArray.size_extract]; omega
  have hcz : ct.size ≤ 1048576 := by rw [HCt.out]; have := cutv_le (s.extract p (p + A + q1)); rw [ByteArray.size_extract] at this; omega
  have HPt := Lib.hid (fun w => putBin_impl x2 x3 x4 x5 x6 xt ct dt hi w (by omega) (by omega))
  rw [← HRw.out] at HPt
  generalize s.extract j (p + A + q1 + D + q2) = ex at *
  generalize s.extract p (p + A + q1) = nm at *
  clear K1 hc hs hp hps hA hD hl1 hl2 HCt HDt HRw hdz hcz
  go_wp2_with fail
  refine (HCu.out _).mono ?_
  rintro e w7 ⟨rfl, hb⟩
  replace H := Lib.hid ((hb.block gh (obj_ltB H.out)).trans H.out)
  replace R := Lib.hid (R.out.below hb R.out.lt)
  replace B := Lib.hid (B.out.trans (hb.mono B.out.size))
  clear hb HCu S1 hcmp
  have c6 : w7.cell? ⟨gh, 6, none⟩ = some (.string ⟨#[]⟩) := by simp [World.cell?, H.out]
  have f6 : w7.frozen? ⟨gh, 6, none⟩ = false := by simp [World.frozen?, H.out]
  go_upto_region 14 with fail
  generalize hw8 : World.setCell w7 _ _ = w8
  have hne : w.heap.size ≠ gh := by omega
  have H8 := heap_setRB (i := 6) (v := .string ct) H.out
  rw [hw8] at H8
  simp only [List.setIfInBounds_toArray, List.set_cons_succ, List.set_cons_zero] at H8
  replace H := Lib.hid H8
  replace R : Hid (CardO w8 w.heap.size zeroC) := Lib.hid (by rw [← hw8]; exact R.out.other hne)
  replace B : Hid (Below w.heap.size w w8) := Lib.hid (by rw [← hw8]; exact B.out.setCell (by simp; omega) _)
  clear hw8 c6 f6 H8
  have c12 : w8.cell? ⟨gh, 12, none⟩ = some (.int .i64 (D : Int)) := by simp [World.cell?, H.out]
  go_wp2_with fail
  refine (HCl.out _).mono ?_
  rintro e w9 ⟨rfl, hb⟩
  replace H := Lib.hid ((hb.block gh (obj_ltB H.out)).trans H.out)
  replace R := Lib.hid (R.out.below hb R.out.lt)
  replace B := Lib.hid (B.out.trans (hb.mono B.out.size))
  clear hb HCl S2 c12
  have c7 : w9.cell? ⟨gh, 7, none⟩ = some (.string ⟨#[]⟩) := by simp [World.cell?, H.out]
  have f7 : w9.frozen? ⟨gh, 7, none⟩ = false := by simp [World.frozen?, H.out]
  go_upto_region 15 with fail
  generalize hw10 : World.setCell w9 _ _ = w10
  have H8 := heap_setRB (i := 7) (v := .string dt) H.out
  rw [hw10] at H8
  simp only [List.setIfInBounds_toArray, List.set_cons_succ, List.set_cons_zero] at H8
  replace H : Hid (w10.heap[gh]? = some (.cells #[.int .i64 x2, .int .i64 x3, .int .i64 x4, .int .i64 x5, .int .i64 x6, .int .i64 xt, .string ct, .string dt, .int .i64 29127, .int .i64 0, .int .i64 0, .int .i64 (A : Int), .int .i64 (D : Int)] 47 (0, 0))) := Lib.hid H8
  replace R : Hid (CardO w10 w.heap.size zeroC) := Lib.hid (by rw [← hw10]; exact R.out.other hne)
  replace B : Hid (Below w.heap.size w w10) := Lib.hid (by rw [← hw10]; exact B.out.setCell (by simp; omega) _)
  clear hw10 c7 f7 H8
  have KC : Hid (∀ w', Below w10.heap.size w10 w' → w'.cell? ⟨gh, 0, none⟩ = some (.int .i64 x2) ∧ w'.cell? ⟨gh, 1, none⟩ = some (.int .i64 x3) ∧ w'.cell? ⟨gh, 2, none⟩ = some (.int .i64 x4) ∧ w'.cell? ⟨gh, 3, none⟩ = some (.int .i64 x5) ∧ w'.cell? ⟨gh, 4, none⟩ = some (.int .i64 x6) ∧ w'.cell? ⟨gh, 5, none⟩ = some (.int .i64 xt) ∧ w'.cell? ⟨gh, 6, none⟩ = some (.string ct) ∧ w'.cell? ⟨gh, 7, none⟩ = some (.string dt)) := Lib.hid (fun w' hb => by
    have h1 := (hb.block gh (obj_ltB H.out)).trans H.out
    refine ⟨?_, ?_, ?_, ?_, ?_, ?_, ?_, ?_⟩ <;> simp [World.cell?, h1])
  obtain ⟨bq, hbq⟩ : ∃ b : Bool, b = (rw.toList != ex.toList) := ⟨_, rfl⟩
  have HBq := Lib.hid hbq
  clear hbq
  refine wp_region_inv (by kernel_rfl) (fun w' => Below w10.heap.size w10 w') (fun x y => Below x.heap.size x y) (fun dq vq _ => match dq with | 84 => vq = .pointer (some ⟨gh, 0, none⟩) | 85 => vq = .agg #[.int .i64 x2, .int .i64 x3, .int .i64 x4, .int .i64 x5, .int .i64 x6, .int .i64 xt, .string ct, .string dt] | 86 => vq = .bool hi | 87 => vq = .string rw | 88 => vq = .string s | 89 => vq = .int .i64 (j : Int) | 90 => vq = .int .i64 ((p : Int) + (A : Int) + (q1 : Int) + (D : Int) + (q2 : Int)) | 91 => vq = .string ex | 92 => vq = .bool bq | _ => True) (by kernel_rfl) ((Below.refl _ _).drew) (fun _ _ _ _ _ _ h => h) ?hops ?hend
  case hops =>
    simp only [List.forall_mem_cons]
    refine ⟨?o84, ?o85, ?o86, ?o87, ?o88, ?o89, ?o90, ?o91, ?o92, fun _ h => by cases h⟩
    case o84 =>
      intro Q a w2 hC hV hI
      have e9 : a.eval (.tmp 9) = .pointer (some ⟨gh, 0, none⟩) := (hI 9 (by simp [Op.operands]) (by kernel_rfl)).trans rfl
      have f9 : a.tmps.getD 9 undef = .pointer (some ⟨gh, 0, none⟩) := e9
      have g9 : a.tmps[9]?.getD undef = .pointer (some ⟨gh, 0, none⟩) := by rw [← Array.getD_eq_getD_getElem?]; exact e9
      refine op_val (.pointer (some ⟨gh, 0, none⟩)) ?_ hC (Below.refl _ _) (by intro d hd; cases hd; rfl)
      (clear hV hI hC; go_simp <;> (first | rfl | simp | (rw [IntKind.wrap_i64]; omega)))
    case o85 =>
      intro Q a w2 hC hV hI
      have e84 : a.eval (.tmp 84) = .pointer (some ⟨gh, 0, none⟩) := hV 84 (by simp [Op.operands]) (by kernel_rfl)
      have f84 : a.tmps.getD 84 undef = .pointer (some ⟨gh, 0, none⟩) := e84
      have g84 : a.tmps[84]?.getD undef = .pointer (some ⟨gh, 0, none⟩) := by rw [← Array.getD_eq_getD_getElem?]; exact e84
      have hK := KC.out w2 hC
      refine op_val (.agg #[.int .i64 x2, .int .i64 x3, .int .i64 x4, .int .i64 x5, .int .i64 x6, .int .i64 xt, .string ct, .string dt]) ?_ hC (Below.refl _ _) (by intro d hd; cases hd; rfl)
      (clear hV hI hC; go_simp <;> (first | rfl | simp | (rw [IntKind.wrap_i64]; omega)))
    case o86 =>
      intro Q a w2 hC hV hI
      have e2 : a.eval (.tmp 2) = .bool hi := (hI 2 (by simp [Op.operands]) (by kernel_rfl)).trans rfl
      have f2 : a.tmps.getD 2 undef = .bool hi := e2
      have g2 : a.tmps[2]?.getD undef = .bool hi := by rw [← Array.getD_eq_getD_getElem?]; exact e2
      refine op_val (.bool hi) ?_ hC (Below.refl _ _) (by intro d hd; cases hd; rfl)
      (clear hV hI hC; go_simp <;> (first | rfl | simp | (rw [IntKind.wrap_i64]; omega)))
    case o87 =>
      intro Q a w2 hC hV hI
      have e85 : a.eval (.tmp 85) = .agg #[.int .i64 x2, .int .i64 x3, .int .i64 x4, .int .i64 x5, .int .i64 x6, .int .i64 xt, .string ct, .string dt] := hV 85 (by simp [Op.operands, Call.operands]) (by kernel_rfl)
      have f85 : a.tmps.getD 85 undef = .agg #[.int .i64 x2, .int .i64 x3, .int .i64 x4, .int .i64 x5, .int .i64 x6, .int .i64 xt, .string ct, .string dt] := e85
      have g85 : a.tmps[85]?.getD undef = .agg #[.int .i64 x2, .int .i64 x3, .int .i64 x4, .int .i64 x5, .int .i64 x6, .int .i64 xt, .string ct, .string dt] := by rw [← Array.getD_eq_getD_getElem?]; exact e85
      have e86 : a.eval (.tmp 86) = .bool hi := hV 86 (by simp [Op.operands, Call.operands]) (by kernel_rfl)
      have f86 : a.tmps.getD 86 undef = .bool hi := e86
      have g86 : a.tmps[86]?.getD undef = .bool hi := by rw [← Array.getD_eq_getD_getElem?]; exact e86
      refine op_call (f := 13) (args := #[.agg #[.int .i64 x2, .int .i64 x3, .int .i64 x4, .int .i64 x5, .int .i64 x6, .int .i64 xt, .string ct, .string dt], .bool hi]) (R := fun v y => v = .string rw ∧ Below w2.heap.size w2 y) ?_ ((HPt.out w2).mono ?_) ?_
      · (clear hV hI hC; go_simp <;> (first | rfl | simp | (rw [IntKind.wrap_i64]; omega)))
      · rintro e y ⟨rfl, hb⟩; exact ⟨_, rfl, rfl, hb⟩
      · rintro v y ⟨rfl, hb⟩; exact ⟨hC.trans (hb.mono hC.size), hb, by intro d hd; cases hd; rfl⟩
    case o88 =>
      intro Q a w2 hC hV hI
      have e0 : a.eval (.tmp 0) = .string s := (hI 0 (by simp [Op.operands]) (by kernel_rfl)).trans rfl
      have f0 : a.tmps.getD 0 undef = .string s := e0
      have g0 : a.tmps[0]?.getD undef = .string s := by rw [← Array.getD_eq_getD_getElem?]; exact e0
      refine op_val (.string s) ?_ hC (Below.refl _ _) (by intro d hd; cases hd; rfl)
      (clear hV hI hC; go_simp <;> (first | rfl | simp | (rw [IntKind.wrap_i64]; omega)))
    case o89 =>
      intro Q a w2 hC hV hI
      have e1 : a.eval (.tmp 1) = .int .i64 (j : Int) := (hI 1 (by simp [Op.operands]) (by kernel_rfl)).trans rfl
      have f1 : a.tmps.getD 1 undef = .int .i64 (j : Int) := e1
      have g1 : a.tmps[1]?.getD undef = .int .i64 (j : Int) := by rw [← Array.getD_eq_getD_getElem?]; exact e1
      refine op_val (.int .i64 (j : Int)) ?_ hC (Below.refl _ _) (by intro d hd; cases hd; rfl)
      (clear hV hI hC; go_simp <;> (first | rfl | simp | (rw [IntKind.wrap_i64]; omega)))
    case o90 =>
      intro Q a w2 hC hV hI
      have e12 : a.eval (.tmp 12) = .int .i64 ((p : Int) + (A : Int) + (q1 : Int) + (D : Int) + (q2 : Int)) := (hI 12 (by simp [Op.operands]) (by kernel_rfl)).trans rfl
      have f12 : a.tmps.getD 12 undef = .int .i64 ((p : Int) + (A : Int) + (q1 : Int) + (D : Int) + (q2 : Int)) := e12
      have g12 : a.tmps[12]?.getD undef = .int .i64 ((p : Int) + (A : Int) + (q1 : Int) + (D : Int) + (q2 : Int)) := by rw [← Array.getD_eq_getD_getElem?]; exact e12
      refine op_val (.int .i64 ((p : Int) + (A : Int) + (q1 : Int) + (D : Int) + (q2 : Int))) ?_ hC (Below.refl _ _) (by intro d hd; cases hd; rfl)
      (clear hV hI hC; go_simp <;> (first | rfl | simp | (rw [IntKind.wrap_i64]; omega)))
    case o91 =>
      intro Q a w2 hC hV hI
      have e88 : a.eval (.tmp 88) = .string s := hV 88 (by simp [Op.operands]) (by kernel_rfl)
      have f88 : a.tmps.getD 88 undef = .string s := e88
      have g88 : a.tmps[88]?.getD undef = .string s := by rw [← Array.getD_eq_getD_getElem?]; exact e88
      have e89 : a.eval (.tmp 89) = .int .i64 (j : Int) := hV 89 (by simp [Op.operands]) (by kernel_rfl)
      have f89 : a.tmps.getD 89 undef = .int .i64 (j : Int) := e89
      have g89 : a.tmps[89]?.getD undef = .int .i64 (j : Int) := by rw [← Array.getD_eq_getD_getElem?]; exact e89
      have e90 : a.eval (.tmp 90) = .int .i64 ((p : Int) + (A : Int) + (q1 : Int) + (D : Int) + (q2 : Int)) := hV 90 (by simp [Op.operands]) (by kernel_rfl)
      have f90 : a.tmps.getD 90 undef = .int .i64 ((p : Int) + (A : Int) + (q1 : Int) + (D : Int) + (q2 : Int)) := e90
      have g90 : a.tmps[90]?.getD undef = .int .i64 ((p : Int) + (A : Int) + (q1 : Int) + (D : Int) + (q2 : Int)) := by rw [← Array.getD_eq_getD_getElem?]; exact e90
      have q9 := HS3.out w2
      refine op_val (.string ex) ?_ hC (Below.refl _ _) (by intro d hd; cases hd; rfl)
      (clear hV hI hC; go_simp <;> (first | rfl | simp | (rw [IntKind.wrap_i64]; omega)))
    case o92 =>
      intro Q a w2 hC hV hI
      have e87 : a.eval (.tmp 87) = .string rw := hV 87 (by simp [Op.operands]) (by kernel_rfl)
      have f87 : a.tmps.getD 87 undef = .string rw := e87
      have g87 : a.tmps[87]?.getD undef = .string rw := by rw [← Array.getD_eq_getD_getElem?]; exact e87
      have e91 : a.eval (.tmp 91) = .string ex := hV 91 (by simp [Op.operands]) (by kernel_rfl)
      have f91 : a.tmps.getD 91 undef = .string ex := e91
      have g91 : a.tmps[91]?.getD undef = .string ex := by rw [← Array.getD_eq_getD_getElem?]; exact e91
      rw [HBq.out]
      refine op_val (.bool (rw.toList != ex.toList)) ?_ hC (Below.refl _ _) (by intro d hd; cases hd; rfl)
      (clear hV hI hC; go_simp <;> (first | rfl | simp [bne] | (rw [IntKind.wrap_i64]; omega)))
  case hend =>
    intro f w11 hC hall
    simp only [List.forall_mem_cons] at hall
    obtain ⟨h84, h85, h86, h87, h88, h89, h90, h91, h92, _⟩ := hall
    replace h84 : f 84 = .pointer (some ⟨gh, 0, none⟩) := h84 84 rfl
    replace h85 : f 85 = .agg #[.int .i64 x2, .int .i64 x3, .int .i64 x4, .int .i64 x5, .int .i64 x6, .int .i64 xt, .string ct, .string dt] := h85 85 rfl
    replace h86 : f 86 = .bool hi := h86 86 rfl
    replace h87 : f 87 = .string rw := h87 87 rfl
    replace h88 : f 88 = .string s := h88 88 rfl
    replace h89 : f 89 = .int .i64 (j : Int) := h89 89 rfl
    replace h90 : f 90 = .int .i64 ((p : Int) + (A : Int) + (q1 : Int) + (D : Int) + (q2 : Int)) := h90 90 rfl
    replace h91 : f 91 = .string ex := h91 91 rfl
    replace h92 : f 92 = .bool bq := h92 92 rfl
    simp only [putAll, Act.put, List.setIfInBounds_toArray, List.set_cons_succ, List.set_cons_zero, h84, h85, h86, h87, h88, h89, h90, h91, h92]
    clear h84 h85 h86 h87 h88 h89 h90 h91 h92
    replace H := Lib.hid ((hC.block gh (obj_ltB H.out)).trans H.out)
    replace R := Lib.hid (R.out.below hC R.out.lt)
    replace B := Lib.hid (B.out.trans (hC.mono B.out.size))
    clear KC hC HPt HS3
    by_cases e5 : ¬ rw = ex
    · have HF := Lib.hid (K2.out e5)
      obtain rfl : bq = true := by rw [HBq.out]; have := ba_ne e5; simpa using this
      clear K2 K3 HBq e5 H
      obtain ⟨d0, d1, d2, d3, d4, d5, d6, d7⟩ := (R.out).at.zero
      simp only [zeroC] at d0 d1 d2 d3 d4 d5 d6 d7
      have f0 := (R.out).fz 0
      have f1 := (R.out).fz 1
      have f2 := (R.out).fz 2
      have f3 := (R.out).fz 3
      have f4 := (R.out).fz 4
      have f5 := (R.out).fz 5
      have f6 := (R.out).fz 6
      have f7 := (R.out).fz 7
      have R9 := (R.out).put zeroC
      have B9 := below_putOC (g := w.heap.size) (B.out) (Nat.le_refl _) zeroC
      simp only [putOC, zeroC] at R9 B9
      go_wp2_with fail
      refine bodyPost_ret (res_OCB rfl _ rfl R9) rfl ?_
      exact ⟨by rw [HF.out]; rfl, B9⟩
    have e5 : rw = ex := Decidable.byContradiction e5
    have HF := Lib.hid (K3.out e5)
    obtain rfl : bq = false := by rw [HBq.out, e5]; simp
    clear K2 K3 HBq e5
    have c0 : w11.cell? ⟨gh, 0, none⟩ = some (.int .i64 x2) := by simp [World.cell?, H.out]
    have c1 : w11.cell? ⟨gh, 1, none⟩ = some (.int .i64 x3) := by simp [World.cell?, H.out]
    have c2 : w11.cell? ⟨gh, 2, none⟩ = some (.int .i64 x4) := by simp [World.cell?, H.out]
    have c3 : w11.cell? ⟨gh, 3, none⟩ = some (.int .i64 x5) := by simp [World.cell?, H.out]
    have c4 : w11.cell? ⟨gh, 4, none⟩ = some (.int .i64 x6) := by simp [World.cell?, H.out]
    have c5 : w11.cell? ⟨gh, 5, none⟩ = some (.int .i64 xt) := by simp [World.cell?, H.out]
    have c6 : w11.cell? ⟨gh, 6, none⟩ = some (.string ct) := by simp [World.cell?, H.out]
    have c7 : w11.cell? ⟨gh, 7, none⟩ = some (.string dt) := by simp [World.cell?, H.out]
    obtain ⟨d0, d1, d2, d3, d4, d5, d6, d7⟩ := (R.out).at.zero
    simp only [zeroC] at d0 d1 d2 d3 d4 d5 d6 d7
    have f0 := (R.out).fz 0
    have f1 := (R.out).fz 1
    have f2 := (R.out).fz 2
    have f3 := (R.out).fz 3
    have f4 := (R.out).fz 4
    have f5 := (R.out).fz 5
    have f6 := (R.out).fz 6
    have f7 := (R.out).fz 7
    have R9 := (R.out).put ⟨x2, x3, x4, x5, x6, xt, ct, dt⟩
    have B9 := below_putOC (g := w.heap.size) (B.out) (Nat.le_refl _) ⟨x2, x3, x4, x5, x6, xt, ct, dt⟩
    simp only [putOC] at R9 B9
    clear H R B
    go_wp2_with fail
    refine bodyPost_ret (res_OCB rfl _ rfl R9) rfl ?_
    exact ⟨by rw [HF.out]; rfl, B9⟩
theorem getBin_impl (s : ByteArray) (i : Int) (hi : Bool) (w : World) (hs : s.size ≤ 1048576) (hi1 : i ≤ 9223372036854775807) :
    Calls Try.prog 15 #[.string s, .int .i64 i, .bool hi] w fun e w' => e = .returned (bnV s i hi) ∧ Below w.heap.size w w' := by
  by_cases h : i < 0 ∨ (s.size : Int) < i + 26
  · exact getBinI_short s i hi w hs hi1 h
  obtain ⟨j, rfl⟩ : ∃ j : Nat, i = j := ⟨i.toNat, by omega⟩
  have hj : j + 26 ≤ s.size := by omega
  obtain ⟨z1, z2⟩ := bSz_bd (hi := hi) hj
  obtain ⟨m1, m2⟩ := bMn_bd (hi := hi) hj
  have hN : bnN s j hi = j + 26 + bSz s j hi := rfl
  have hB : bnB s j hi = bnN s j hi + pad2 (bSz s j hi) := rfl
  have hD : bnD s j hi = bnB s j hi + bMn s j hi := rfl
  have hE : bnE s j hi = bnD s j hi + pad2 (bMn s j hi) := rfl
  refine binI_walk s j (j + 26) (bSz s j hi) (bMn s j hi) (pad2 (bSz s j hi)) (pad2 (bMn s j hi)) (bW s j hi 0) (bW s j hi 1) (bW s j hi 2) (bW s j hi 3) (bW s j hi 4) (bW s j hi 5) (bW s j hi 6) (bW s j hi 7) (bT s j hi) hi _ _ _ _ w hs rfl hj z2 m2 rfl rfl (fun g gh w h1 h2 h3 => ?_) rfl rfl rfl (fun h => bn_magic hj h) (fun h h' => bn_zero hj h h') (fun h h' q => bn_short hj h h' (by omega)) (fun h h' q e => ?_) (fun h h' q e => ?_)
  · have h9 := pass_r g gh j s hi _ w hs hj h1 h2 h3
    rw [z1, m1] at h9
    exact h9
  · refine bn_name hj h h' (by omega) (Decidable.byContradiction fun b => e ((bin_back hj h h' (by omega)).2 b))
  · have hb : ¬ badB s j hi := (bin_back hj h h' (by omega)).1 e
    have hn := bin_name hb hj (by omega)
    rw [bn_good hj h h' (by omega) hb, ← hn]
    rw [show ((bnE s j hi : Nat) : Int) = ((j + 26 : Nat) : Int) + (bSz s j hi : Int) + (pad2 (bSz s j hi) : Int) + (bMn s j hi : Int) + (pad2 (bMn s j hi) : Int) from by omega]
    rfl
end Go.Proofs.Ytancidbbkoeokaa
