/- Contract of impl.newcReader's takeTexts. -/
import Derived.Test.YtcnmbolmgifgfaaNrI
namespace Go.Proofs.Ytcnmbolmgifgfaa
open Go.ChangeShapes Go.WideShapes Go.ChangeAt Go.RowKit Go.Deep

theorem take_s (g : Nat) (x : Nr) (s : ByteArray) (p n : Nat) (w : World) (h : NrO w g x) (hr : x.rest = s.extract p s.size) (hn : p + n ≤ s.size) :
    Calls Try.prog 56 #[.pointer (some ⟨g, 0, none⟩), .int .i64 (n : Int)] w fun e w' => e = .returned (.string (s.extract p (p + n))) ∧ NrO w' g { x with rest := s.extract (p + n) s.size } ∧ Below g w w' := by
  have e1 := ext_preN s p n s.size hn (Nat.le_refl _)
  have e2 := ext_sufN s p n s.size hn (Nat.le_refl _)
  have h9 := take_any g x n w h (by rw [hr, ByteArray.size_extract]; omega)
  rw [hr, e1, e2] at h9
  exact h9
/-- The reader when name, data and padding are taken. -/
def nrT (x : Nr) (s : ByteArray) (p a q1 d q2 : Nat) : Nr :=
  { x with nm := s.extract p (p + a), np := s.extract (p + a) (p + a + q1), da := s.extract (p + a + q1) (p + a + q1 + d), dp := s.extract (p + a + q1 + d) (p + a + q1 + d + q2), rest := s.extract (p + a + q1 + d + q2) s.size }
set_option maxHeartbeats 3200000 in
set_option maxRecDepth 8000 in
theorem takeTexts_any (g : Nat) (x : Nr) (s : ByteArray) (p a d : Nat) (w : World) (h : NrO w g x) (hr : x.rest = s.extract p s.size) (hps : x.ps = (a : Int)) (hds : x.ds = (d : Int)) (hp : p ≤ s.size) (hs : s.size ≤ 1048576) (ha : a ≤ 4294967295) (hd : d ≤ 4294967295) :
    Calls Try.prog 34 #[.pointer (some ⟨g, 0, none⟩)] w fun e w' => e = .returned (.int .i64 (if s.size < p + a + pad4 (110 + a) + d + pad4 d then 1 else 0)) ∧ (¬ s.size < p + a + pad4 (110 + a) + d + pad4 d → NrO w' g (nrT x s p a (pad4 (110 + a)) d (pad4 d))) ∧ Below g w w' := by
  have hq1 := nulN_size (pad4 (110 + a))
  have hq2 := nulN_size (pad4 d)
  have hl1 := pad4_le (110 + a)
  have hl2 := pad4_le d
  have HN1 := Lib.hid (fun w => nuls_any (110 + a) w (by omega))
  rw [show ((110 + a : Nat) : Int) = 110 + (a : Int) from by omega] at HN1
  have HN2 := Lib.hid (fun w => nuls_any d w (by omega))
  generalize nulN (pad4 (110 + a)) = nu1 at hq1 HN1
  generalize nulN (pad4 d) = nu2 at hq2 HN2
  rw [← hq1, ← hq2]
  have hn1 : nu1.size ≤ 3 := by omega
  have hn2 : nu2.size ≤ 3 := by omega
  clear hq1 hq2 hl1 hl2
  have hgl := h.lt
  have c8 := h.cell 8 (.int .i64 x.ds) rfl
  have c13 := h.cell 13 (.int .i64 x.ps) rfl
  have c16 := h.cell 16 (.string x.rest) rfl
  rw [hds] at c8
  rw [hps] at c13
  rw [hr] at c16
  have hrz : (s.extract p s.size).size = s.size - p := by rw [ByteArray.size_extract]; omega
  have a1 : IntKind.i64.wrap (110 + (a : Int)) = 110 + (a : Int) := by rw [IntKind.wrap_i64]; omega
  have a2 : IntKind.i64.wrap ((a : Int) + (nu1.size : Int)) = (a : Int) + (nu1.size : Int) := by rw [IntKind.wrap_i64]; omega
  have a3 : IntKind.i64.wrap ((a : Int) + (nu1.size : Int) + (d : Int)) = (a : Int) + (nu1.size : Int) + (d : Int) := by rw [IntKind.wrap_i64]; omega
  have a4 : IntKind.i64.wrap ((a : Int) + (nu1.size : Int) + (d : Int) + (nu2.size : Int)) = (a : Int) + (nu1.size : Int) + (d : Int) + (nu2.size : Int) := by rw [IntKind.wrap_i64]; omega
  have HX := Lib.hid h
  have HR := Lib.hid hr
  have HD := Lib.hid hds
  by_cases hc : s.size < p + a + nu1.size + d + nu2.size
  · rw [if_pos hc]
    have hcmp : (((s.extract p s.size).size : Nat) : Int) < (a : Int) + (nu1.size : Int) + (d : Int) + (nu2.size : Int) := by omega
    have HF : Hid (∀ w', ¬ s.size < p + a + nu1.size + d + nu2.size → NrO w' g (nrT x s p a nu1.size d nu2.size)) := Lib.hid (fun _ h => absurd hc h)
    generalize (nrT x s p a nu1.size d nu2.size) = y at HF ⊢
    generalize hP : (s.size < p + a + nu1.size + d + nu2.size) = PP at HF ⊢
    clear hc hP h hr hps hds hrz ha hd hs
    generalize s.extract p s.size = r at c16 hcmp
    go_enter Try.func34, Try.ntmps34
    go_wp2_with fail
    refine (HN1.out _).mono ?_
    rintro e w1 ⟨rfl, rfl⟩
    go_wp2_with fail
    refine (HN2.out _).mono ?_
    rintro e w2 ⟨rfl, rfl⟩
    go_upto_region 3 with fail
    go_quiet (fail)
    go_wp2_with fail
    go_ret
    exact ⟨rfl, HF.out _, bel_drew (Below.refl _ _)⟩
  · rw [if_neg hc]
    have hcmp2 : ¬ (((s.extract p s.size).size : Nat) : Int) < (a : Int) + (nu1.size : Int) + (d : Int) + (nu2.size : Int) := by omega
    have HT1 := Lib.hid (fun x' w h hr => take_s g x' s p a w h hr (by omega))
    have HT2 := Lib.hid (fun x' w h hr => take_s g x' s (p + a) nu1.size w h hr (by omega))
    have HT3 := Lib.hid (fun x' w h hr => take_s g x' s (p + a + nu1.size) d w h hr (by omega))
    have HT4 := Lib.hid (fun x' w h hr => take_s g x' s (p + a + nu1.size + d) nu2.size w h hr (by omega))
    have HCl := Lib.hid (fun w => clone_any (s.extract (p + a + nu1.size) (p + a + nu1.size + d)) w (by rw [ByteArray.size_extract]; omega))
    have HY : Hid (nrT x s p a nu1.size d nu2.size = { x with nm := s.extract p (p + a), np := s.extract (p + a) (p + a + nu1.size), da := s.extract (p + a + nu1.size) (p + a + nu1.size + d), dp := s.extract (p + a + nu1.size + d) (p + a + nu1.size + d + nu2.size), rest := s.extract (p + a + nu1.size + d + nu2.size) s.size }) := Lib.hid rfl
    generalize (nrT x s p a nu1.size d nu2.size) = y at HY ⊢
    generalize hP : (¬ s.size < p + a + nu1.size + d + nu2.size) = PP
    clear hc hP h hr hps hds hrz ha hd hs hn1 hn2
    generalize s.extract (p + a + nu1.size + d + nu2.size) s.size = r4 at *
    generalize s.extract (p + a + nu1.size + d) (p + a + nu1.size + d + nu2.size) = t4 at *
    generalize s.extract (p + a + nu1.size + d) s.size = r3 at *
    generalize s.extract (p + a + nu1.size) (p + a + nu1.size + d) = t3 at *
    generalize s.extract (p + a + nu1.size) s.size = r2 at *
    generalize s.extract (p + a) (p + a + nu1.size) = t2 at *
    generalize s.extract (p + a) s.size = r1 at *
    generalize s.extract p (p + a) = t1 at *
    generalize s.extract p s.size = r at *
    go_enter Try.func34, Try.ntmps34
    go_wp2_with fail
    refine (HN1.out _).mono ?_
    rintro e w1 ⟨rfl, rfl⟩
    go_wp2_with fail
    refine (HN2.out _).mono ?_
    rintro e w2 ⟨rfl, rfl⟩
    go_upto_region 3 with fail
    go_quiet (fail)
    obtain ⟨wq, hwq⟩ : ∃ y, y = w2.drewN nq := ⟨_, rfl⟩
    have B0 : Hid (Below g w2 wq) := Lib.hid (by rw [hwq]; exact bel_drew (Below.refl _ _))
    have X0 : Hid (NrO wq g x) := Lib.hid (by rw [hwq]; exact HX.out)
    replace c13 := (show wq.cell? ⟨g, 13, none⟩ = some (.int .i64 (a : Int)) from by rw [hwq]; exact c13)
    rw [← hwq]
    clear hwq HX c8 c16 a1 a2 a3 a4
    go_upto_region 5 with fail
    clear hcmp2
    go_wp2_with fail
    refine (HT1.out x _ X0.out HR.out).mono ?_
    rintro e w3 ⟨rfl, hx, hb⟩
    have X1 := Lib.hid (NrO.set hx (y := { x with nm := t1, rest := r1 }) 17 (.string t1) rfl)
    have B1 := Lib.hid (nr_set (B0.out.trans hb) 17 (.string t1))
    have k17 := hx.cell 17 (.string x.nm) rfl
    have f17 := hx.fz 17
    clear hx hb X0 B0 c13 HT1 HR
    go_upto_region 6 with fail
    generalize World.setCell w3 _ _ = w4 at *
    clear k17 f17
    go_wp2_with fail
    refine (HT2.out _ _ X1.out rfl).mono ?_
    rintro e w5 ⟨rfl, hx, hb⟩
    have X2 := Lib.hid (NrO.set hx (y := { x with nm := t1, np := t2, rest := r2 }) 18 (.string t2) rfl)
    have B2 := Lib.hid (nr_set (B1.out.trans hb) 18 (.string t2))
    have k18 := hx.cell 18 (.string x.np) rfl
    have f18 := hx.fz 18
    clear hx hb X1 B1 HT2
    go_upto_region 7 with fail
    generalize World.setCell w5 _ _ = w6 at *
    clear k18 f18
    have k8 := X2.out.cell 8 (.int .i64 x.ds) rfl
    rw [HD.out] at k8
    go_wp2_with fail
    refine (HT3.out _ _ X2.out rfl).mono ?_
    rintro e w7 ⟨rfl, hx, hb⟩
    have X3 := Lib.hid hx
    have B3 := Lib.hid (B2.out.trans hb)
    have hg7 := hx.lt
    clear hx hb X2 B2 HT3 k8
    go_wp2_with fail
    refine (HCl.out _).mono ?_
    rintro e w8 ⟨rfl, hb⟩
    have hx := X3.out.below hb hg7
    have X4 := Lib.hid (NrO.set hx (y := { x with nm := t1, np := t2, da := t3, rest := r3 }) 7 (.string t3) rfl)
    have B4 := Lib.hid (nr_set (B3.out.trans (hb.mono (Nat.le_of_lt hg7))) 7 (.string t3))
    have k7 := hx.cell 7 (.string x.da) rfl
    have f7 := hx.fz 7
    clear hx hb X3 B3 HCl hg7
    go_upto_region 8 with fail
    generalize World.setCell w8 _ _ = w9 at *
    clear k7 f7
    go_wp2_with fail
    refine (HT4.out _ _ X4.out rfl).mono ?_
    rintro e w10 ⟨rfl, hx, hb⟩
    have X5 := Lib.hid (NrO.set hx (y := { x with nm := t1, np := t2, da := t3, dp := t4, rest := r4 }) 19 (.string t4) rfl)
    have B5 := Lib.hid (nr_set (B4.out.trans hb) 19 (.string t4))
    have k19 := hx.cell 19 (.string x.dp) rfl
    have f19 := hx.fz 19
    clear hx hb X4 B4 HT4
    go_wp2_with fail
    go_ret
    exact ⟨rfl, fun _ => by rw [HY.out]; exact X5.out, B5.out⟩
end Go.Proofs.Ytcnmbolmgifgfaa
