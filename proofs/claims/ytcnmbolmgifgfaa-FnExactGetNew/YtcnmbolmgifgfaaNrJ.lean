/- Contracts of impl.newcReader's judgeTexts and judgeSum. -/
import Derived.Test.YtcnmbolmgifgfaaNrI
namespace Go.Proofs.Ytcnmbolmgifgfaa
open Go.ChangeShapes Go.WideShapes Go.ChangeAt Go.RowKit Go.Deep

def jOk (x : Nr) (a d : Nat) : Prop := ((cutv x.nm).size : Int) + 1 = (a : Int) ∧ x.np = nulN (pad4 (110 + a)) ∧ x.dp = nulN (pad4 d)
instance (x : Nr) (a d : Nat) : Decidable (jOk x a d) := by unfold jOk; infer_instance
set_option maxHeartbeats 3200000 in
set_option maxRecDepth 8000 in
theorem judgeTexts_any (g : Nat) (x : Nr) (a d : Nat) (w : World) (h : NrO w g x) (hps : x.ps = (a : Int)) (hds : x.ds = (d : Int)) (ha : a ≤ 4294967295) (hd : d ≤ 4294967295) (hz : x.nm.size ≤ 4294967295) :
    Calls Try.prog 35 #[.pointer (some ⟨g, 0, none⟩)] w fun e w' => e = .returned (.int .i64 (if jOk x a d then 0 else 4)) ∧ NrO w' g { x with pa := cutv x.nm } ∧ Below g w w' := by
  obtain ⟨m, hm⟩ : ∃ m : Int, 110 + (a : Int) = m := ⟨_, rfl⟩
  obtain ⟨F, hF⟩ : ∃ F : Int → ByteArray, ∀ v, F v = nulN (pad4 v.toNat) := ⟨_, fun _ => rfl⟩
  have HNs : Hid (∀ v w, (v = m ∨ v = (d : Int)) → Calls Try.prog 57 #[.int .i64 v] w fun e w' => e = .returned (.string (F v)) ∧ w' = w) := Lib.hid (fun v w h => by
    have h9 := nuls_any v.toNat w (by omega)
    rw [show ((v.toNat : Nat) : Int) = v from by omega] at h9
    rw [hF]
    exact h9)
  have e1m : nulN (pad4 (110 + a)) = F m := by rw [hF, show m.toNat = 110 + a from by omega]
  have e1d : nulN (pad4 d) = F (d : Int) := by rw [hF, Int.toNat_natCast]
  have HCu := Lib.hid (fun w => cut_impl x.nm w (by omega))
  have hcz := cutv_le x.nm
  have a2 : IntKind.i64.wrap (((cutv x.nm).size : Int) + 1) = ((cutv x.nm).size : Int) + 1 := by rw [IntKind.wrap_i64]; omega
  have a1 : IntKind.i64.wrap (110 + (a : Int)) = m := by rw [IntKind.wrap_i64]; omega
  have HJ : Hid (jOk x a d ↔ (((cutv x.nm).size : Int) + 1 = (a : Int) ∧ x.np = nulN (pad4 (110 + a)) ∧ x.dp = nulN (pad4 d))) := Lib.hid Iff.rfl
  rw [e1m, e1d] at HJ
  have hgl := h.lt
  have c17 := h.cell 17 (.string x.nm) rfl
  have HX := Lib.hid h
  have HY := Lib.hid (fun w' (h' : NrO w' g x) => h'.set (y := { x with pa := cutv x.nm }) 6 (.string (cutv x.nm)) rfl)
  have HYc := Lib.hid (fun w' (h' : NrO w' g { x with pa := cutv x.nm }) => (⟨h'.cell 6 (.string (cutv x.nm)) rfl, (h'.cell 13 (.int .i64 x.ps) rfl).trans (by rw [hps]), (h'.cell 8 (.int .i64 x.ds) rfl).trans (by rw [hds]), h'.cell 18 (.string x.np) rfl, h'.cell 19 (.string x.dp) rfl⟩ : w'.cell? ⟨g, 6, none⟩ = some (.string (cutv x.nm)) ∧ w'.cell? ⟨g, 13, none⟩ = some (.int .i64 (a : Int)) ∧ w'.cell? ⟨g, 8, none⟩ = some (.int .i64 (d : Int)) ∧ w'.cell? ⟨g, 18, none⟩ = some (.string x.np) ∧ w'.cell? ⟨g, 19, none⟩ = some (.string x.dp)))
  have HC1 : Hid (jOk x a d → (if jOk x a d then (0 : Int) else 4) = 0) := Lib.hid (fun h => if_pos h)
  have HC2 : Hid (¬ jOk x a d → (if jOk x a d then (0 : Int) else 4) = 4) := Lib.hid (fun h => if_neg h)
  generalize (if jOk x a d then (0 : Int) else 4) = C at HC1 HC2 ⊢
  generalize jOk x a d = J at HC1 HC2 HJ
  generalize ({ x with pa := cutv x.nm } : Nr) = y at HY HYc ⊢
  clear h hps hds ha hd hz hcz hm e1m e1d hF
  go_enter Try.func35, Try.ntmps35
  go_wp2_with fail
  refine (HCu.out _).mono ?_
  rintro e w1 ⟨rfl, hb⟩
  have X1 := HX.out.below hb hgl
  have k6 := X1.cell 6 (.string x.pa) rfl
  have f6 := X1.fz 6
  have X2 := Lib.hid (HY.out _ X1)
  have B2 := Lib.hid (nr_set (hb.mono (Nat.le_of_lt hgl)) 6 (.string (cutv x.nm)))
  clear hb X1 HX HY HCu c17
  go_upto_region 2 with fail
  generalize World.setCell w1 _ _ = w2 at *
  clear k6 f6
  obtain ⟨q6, q13, q8, q18, q19⟩ := HYc.out _ X2.out
  by_cases h1 : ((cutv x.nm).size : Int) + 1 = (a : Int)
  · have e1 : (((cutv x.nm).size : Int) + 1 != (a : Int)) = false := by simpa using h1
    rw [eq_true h1, true_and] at HJ
    clear h1
    generalize cutv x.nm = cn at *
    go_quiet (fail)
    obtain ⟨wq, hwq⟩ : ∃ y, y = w2.drewN nq := ⟨_, rfl⟩
    have B3 : Hid (Below g w wq) := Lib.hid (by rw [hwq]; exact bel_drew B2.out)
    have X3 : Hid (NrO wq g y) := Lib.hid (by rw [hwq]; exact X2.out)
    rw [← hwq]
    clear hwq X2 B2 q6 q13 q8 q18 q19 a2
    obtain ⟨q6, q13, q8, q18, q19⟩ := HYc.out _ X3.out
    go_upto_region 4 with fail
    generalize hdI : (d : Int) = dI at *
    clear e1
    by_cases h2 : x.np = F m
    · rw [eq_true h2, true_and] at HJ
      have e2 : (x.np.toList == (F m).toList) = true := by rw [h2]; simp
      clear h2
      by_cases h3 : x.dp = F dI
      · have HF : Hid (C = 0) := Lib.hid (HC1.out (HJ.out.2 h3))
        have e3 : (x.dp.toList == (F dI).toList) = true := by rw [h3]; simp
        clear h3 HC1 HC2 HJ HYc
        generalize x.np = np at *
        generalize x.dp = dp at *
        go_quiet ((go_at_call 57; refine Calls.quiet_of_same ((HNs.out _ _ (by first | exact .inl rfl | exact .inr rfl)).mono (fun e w' h => ⟨h.1, h.2⟩))))
        go_wp2_with fail
        go_ret
        exact ⟨by rw [HF.out]; rfl, X3.out, bel_drew B3.out⟩
      · have HF : Hid (C = 4) := Lib.hid (HC2.out (fun h => h3 (HJ.out.1 h)))
        have e3 : (x.dp.toList == (F dI).toList) = false := str_ne h3
        clear h3 HC1 HC2 HJ HYc
        generalize x.np = np at *
        generalize x.dp = dp at *
        go_quiet ((go_at_call 57; refine Calls.quiet_of_same ((HNs.out _ _ (by first | exact .inl rfl | exact .inr rfl)).mono (fun e w' h => ⟨h.1, h.2⟩))))
        go_wp2_with fail
        go_ret
        exact ⟨by rw [HF.out]; rfl, X3.out, bel_drew B3.out⟩
    · have HF : Hid (C = 4) := Lib.hid (HC2.out (fun h => h2 (HJ.out.1 h).1))
      have e2 : (x.np.toList == (F m).toList) = false := str_ne h2
      clear h2 HC1 HC2 HJ HYc
      generalize x.np = np at *
      generalize x.dp = dp at *
      go_quiet ((go_at_call 57; refine Calls.quiet_of_same ((HNs.out _ _ (by first | exact .inl rfl | exact .inr rfl)).mono (fun e w' h => ⟨h.1, h.2⟩))))
      go_wp2_with fail
      go_ret
      exact ⟨by rw [HF.out]; rfl, X3.out, bel_drew B3.out⟩
  · have HF : Hid (C = 4) := Lib.hid (HC2.out (fun h => h1 (HJ.out.1 h).1))
    have e1 : (((cutv x.nm).size : Int) + 1 != (a : Int)) = true := by simpa using h1
    clear h1 HJ HC1 HC2 HYc HNs
    generalize cutv x.nm = cn at *
    go_quiet (fail)
    go_wp2_with fail
    go_ret
    exact ⟨by rw [HF.out]; rfl, X2.out, bel_drew B2.out⟩
end Go.Proofs.Ytcnmbolmgifgfaa
