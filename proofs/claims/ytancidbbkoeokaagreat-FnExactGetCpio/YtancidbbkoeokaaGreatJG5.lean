/- Texts joined: GetBnS, GetCpioH, GetCpioA, GetCpioB, GetCpioS, EntEq, LawE, MarkE, HeldE, PartsI, OwnO, GetCpioLaw. -/
import Derived.Deep.RegionWith
import Derived.Deep.RegionHeld3
import Derived.Test.YtancidbbkoeokaaGreatMarkT
import Derived.Test.YtancidbbkoeokaaGreatComps
import Derived.Test.YtancidbbkoeokaaGreatOwnL
import Derived.RangeFuncBox
import Derived.Test.YtancidbbkoeokaaGreatJG4
/- Contract of spec.GetBin. -/
namespace Go.Proofs.YtancidbbkoeokaaGreat
open Go.ChangeShapes Go.WideShapes Go.ChangeAt Go.RowKit Go.Deep

theorem Tryz.infoB8 : (Tryz.prog.info? 3).map (fun i => (i.zero, i.size, i.bytes)) = some (some (.int .i64 0), 1, 8) := by kernel_rfl
def blN (F : Nat → Int) : Nat → List Value
  | 0 => []
  | k + 1 => blN F k ++ [.int .i64 (F k)]
theorem blN_at (F : Nat → Int) : ∀ (n m : Nat), m < n → (blN F n)[m]? = some (.int .i64 (F m)) := by
  intro n
  induction n with
  | zero => intro m h; omega
  | succ n ih =>
    intro m h
    have hl : (blN F n).length = n := by
      clear ih h m
      induction n with
      | zero => rfl
      | succ n ih => simp [blN, ih]
    rw [blN]
    by_cases e : m = n
    · subst e
      rw [List.getElem?_append_right (by omega), hl]
      simp
    · rw [List.getElem?_append_left (by omega)]
      exact ih m (by omega)
set_option maxHeartbeats 3200000 in
set_option maxRecDepth 8000 in
theorem getBin_short (s : ByteArray) (i : Int) (hi : Bool) (w : World) (hs : s.size ≤ 1048576) (hi0 : -9223372036854775808 ≤ i) (hi1 : i ≤ 9223372036854775807) (hc : i < 0 ∨ (s.size : Int) < i + 26) :
    Calls Tryz.prog 24 #[.string s, .int .i64 i, .bool hi] w fun e w' => e = .returned (bnV s i hi) ∧ Below w.heap.size w w' := by
  have HF : Hid (bnV s i hi = bdB i 1) := Lib.hid (bn_cut hc)
  have R := Lib.hid (CardO.new w zeroC)
  have B : Hid (Below w.heap.size w (w.alloc (.cells zeroC.cells.toArray 44))) := Lib.hid ((Below.refl _ _).alloc (Nat.le_refl _) _)
  generalize bnV s i hi = r at HF
  by_cases h1 : i < 0
  · clear hc
    simp only [zeroC, Card.cells] at R B
    go_enter Tryz.func24, Tryz.ntmps24
    obtain ⟨d0, d1, d2, d3, d4, d5, d6, d7⟩ := (show CardO _ w.heap.size zeroC from R.out).at.zero
    simp only [zeroC] at d0 d1 d2 d3 d4 d5 d6 d7
    have f0 := (show CardO _ w.heap.size zeroC from R.out).fz 0
    have f1 := (show CardO _ w.heap.size zeroC from R.out).fz 1
    have f2 := (show CardO _ w.heap.size zeroC from R.out).fz 2
    have f3 := (show CardO _ w.heap.size zeroC from R.out).fz 3
    have f4 := (show CardO _ w.heap.size zeroC from R.out).fz 4
    have f5 := (show CardO _ w.heap.size zeroC from R.out).fz 5
    have f6 := (show CardO _ w.heap.size zeroC from R.out).fz 6
    have f7 := (show CardO _ w.heap.size zeroC from R.out).fz 7
    go_wp2_with fail
    refine bodyPost_ret (res_OCB rfl _ rfl R.out) rfl ?_
    exact ⟨by rw [HF.out]; rfl, B.out⟩
  · have h2 : (s.size : Int) - 26 < i := by omega
    clear hc
    simp only [zeroC, Card.cells] at R B
    go_enter Tryz.func24, Tryz.ntmps24
    obtain ⟨d0, d1, d2, d3, d4, d5, d6, d7⟩ := (show CardO _ w.heap.size zeroC from R.out).at.zero
    simp only [zeroC] at d0 d1 d2 d3 d4 d5 d6 d7
    have f0 := (show CardO _ w.heap.size zeroC from R.out).fz 0
    have f1 := (show CardO _ w.heap.size zeroC from R.out).fz 1
    have f2 := (show CardO _ w.heap.size zeroC from R.out).fz 2
    have f3 := (show CardO _ w.heap.size zeroC from R.out).fz 3
    have f4 := (show CardO _ w.heap.size zeroC from R.out).fz 4
    have f5 := (show CardO _ w.heap.size zeroC from R.out).fz 5
    have f6 := (show CardO _ w.heap.size zeroC from R.out).fz 6
    have f7 := (show CardO _ w.heap.size zeroC from R.out).fz 7
    go_wp2_with fail
    refine bodyPost_ret (res_OCB rfl _ rfl R.out) rfl ?_
    exact ⟨by rw [HF.out]; rfl, B.out⟩
set_option maxHeartbeats 12800000 in
set_option maxRecDepth 8000 in
theorem bin_walk (s : ByteArray) (j p A D q1 q2 : Nat) (F : Nat → Int) (xt : Int) (hi : Bool) (V : Value) (w : World) (hs : s.size ≤ 1048576) (hp : j + 26 = p) (hps : p ≤ s.size) (hA : A ≤ 65535) (hD : D ≤ 4294967295) (hq1 : q1 = pad2 A) (hq2 : q2 = pad2 D)
    (hF : ∀ k : Nat, k < 8 → get16v s ((j : Int) + 2 * (k : Int)) hi = F k) (hFA : get16v s ((j : Int) + 20) hi = (A : Int)) (hFD : get32v s ((j : Int) + 22) hi = (D : Int)) (hFt : get32v s ((j : Int) + 16) hi = xt)
    (h8 : ¬ F 0 = 29127 → V = bdB j 4)
    (h9 : F 0 = 29127 → ¬ (F 1 = 0 ∧ F 7 = 0) → V = bdB j 3)
    (h1 : F 0 = 29127 → F 1 = 0 ∧ F 7 = 0 → s.size < p + A + q1 + D + q2 → V = bdB j 1)
    (h2 : F 0 = 29127 → F 1 = 0 ∧ F 7 = 0 → ¬ s.size < p + A + q1 + D + q2 → A = 0 → V = bdB j 4)
    (h3 : F 0 = 29127 → F 1 = 0 ∧ F 7 = 0 → ¬ s.size < p + A + q1 + D + q2 → ¬ ((cutv (s.extract p (p + A))).size : Int) = (A : Int) - 1 → V = bdB j 4)
    (h4 : F 0 = 29127 → F 1 = 0 ∧ F 7 = 0 → ¬ s.size < p + A + q1 + D + q2 → isNul (s.extract (p + A) (p + A + q1)) = false → V = bdB j 4)
    (h5 : F 0 = 29127 → F 1 = 0 ∧ F 7 = 0 → ¬ s.size < p + A + q1 + D + q2 → isNul (s.extract (p + A + q1 + D) (p + A + q1 + D + q2)) = false → V = bdB j 4)
    (h7 : F 0 = 29127 → F 1 = 0 ∧ F 7 = 0 → ¬ s.size < p + A + q1 + D + q2 → ¬ A = 0 → ((cutv (s.extract p (p + A))).size : Int) = (A : Int) - 1 → isNul (s.extract (p + A) (p + A + q1)) = true → isNul (s.extract (p + A + q1 + D) (p + A + q1 + D + q2)) = true → V = .tuple #[.agg (Card.cells ⟨F 2, F 3, F 4, F 5, F 6, xt, cutv (s.extract p (p + A)), s.extract (p + A + q1) (p + A + q1 + D)⟩).toArray, .int .i64 ((p : Int) + (A : Int) + (q1 : Int) + (D : Int) + (q2 : Int)), .int .i64 0]) :
    Calls Tryz.prog 24 #[.string s, .int .i64 (j : Int), .bool hi] w fun e w' => e = .returned V ∧ Below w.heap.size w w' := by
  obtain ⟨i0, hi0, hz0, hz1, hz2⟩ := info_parts Tryz.infoB8
  have HP1 := Lib.hid (fun w => pad2_spcB A (by omega) w)
  have HP2 := Lib.hid (fun w => pad2_spcB D (by omega) w)
  rw [← hq1] at HP1
  rw [← hq2] at HP2
  have HGk : Hid (∀ k : Nat, k < 8 → ∀ w, Calls Tryz.prog 45 #[.string s, .int .i64 ((j : Int) + 2 * (k : Int)), .bool hi] w fun e w' => e = .returned (.int .i64 (F k)) ∧ ∃ n, w' = w.drewN n) := Lib.hid (fun k hk w => by
    have h := get16_spec s ((j : Int) + 2 * (k : Int)) hi w (by omega)
    rwa [hF k hk] at h)
  have HGA := Lib.hid (fun w => get16_spec s ((j : Int) + 20) hi w (by omega))
  have HGD := Lib.hid (fun w => get32_spec s ((j : Int) + 22) hi w (by omega))
  have HGT := Lib.hid (fun w => get32_spec s ((j : Int) + 16) hi w (by omega))
  rw [hFA] at HGA
  rw [hFD] at HGD
  rw [hFt] at HGT
  have hl1 : q1 ≤ 1 := by rw [hq1]; exact pad2_le _
  have hl2 : q2 ≤ 1 := by rw [hq2]; exact pad2_le _
  have h2j : ¬ (s.size : Int) - 26 < (j : Int) := by omega
  have bz : IntKind.i64.wrap ((s.size : Int) - 26) = (s.size : Int) - 26 := by rw [IntKind.wrap_i64]; omega
  have a0 : IntKind.i64.wrap ((j : Int) + 26) = (p : Int) := by rw [IntKind.wrap_i64]; omega
  have a16 : IntKind.i64.wrap ((j : Int) + 16) = (j : Int) + 16 := by rw [IntKind.wrap_i64]; omega
  have a20 : IntKind.i64.wrap ((j : Int) + 20) = (j : Int) + 20 := by rw [IntKind.wrap_i64]; omega
  have a22 : IntKind.i64.wrap ((j : Int) + 22) = (j : Int) + 22 := by rw [IntKind.wrap_i64]; omega
  have a1 : IntKind.i64.wrap ((p : Int) + (A : Int)) = (p : Int) + (A : Int) := by rw [IntKind.wrap_i64]; omega
  have a3 : IntKind.i64.wrap ((p : Int) + (A : Int) + (q1 : Int)) = (p : Int) + (A : Int) + (q1 : Int) := by rw [IntKind.wrap_i64]; omega
  have a4 : IntKind.i64.wrap ((p : Int) + (A : Int) + (q1 : Int) + (D : Int)) = (p : Int) + (A : Int) + (q1 : Int) + (D : Int) := by rw [IntKind.wrap_i64]; omega
  have a5 : IntKind.i64.wrap ((p : Int) + (A : Int) + (q1 : Int) + (D : Int) + (q2 : Int)) = (p : Int) + (A : Int) + (q1 : Int) + (D : Int) + (q2 : Int) := by rw [IntKind.wrap_i64]; omega
  have a6 : IntKind.i64.wrap ((A : Int) - 1) = (A : Int) - 1 := by rw [IntKind.wrap_i64]; omega
  have R := Lib.hid (CardO.new w zeroC)
  have B : Hid (Below w.heap.size w (w.alloc (.cells zeroC.cells.toArray 44))) := Lib.hid ((Below.refl _ _).alloc (Nat.le_refl _) _)
  simp only [zeroC, Card.cells] at R B
  have K8 := Lib.hid h8
  have K9 := Lib.hid h9
  have K1 := Lib.hid h1
  have K2 := Lib.hid h2
  have K3 := Lib.hid h3
  have K4 := Lib.hid h4
  have K5 := Lib.hid h5
  have K7 := Lib.hid h7
  have QS := Lib.hid hs
  have QP := Lib.hid hp
  have QPS := Lib.hid hps
  have QA := Lib.hid hA
  have QD := Lib.hid hD
  have QL1 := Lib.hid hl1
  have QL2 := Lib.hid hl2
  have QW : Hid (∀ k : Nat, k < 8 → IntKind.i64.wrap (2 * (k : Int)) = 2 * (k : Int) ∧ IntKind.i64.wrap ((j : Int) + 2 * (k : Int)) = (j : Int) + 2 * (k : Int)) := Lib.hid (fun k hk => ⟨by rw [IntKind.wrap_i64]; omega, by rw [IntKind.wrap_i64]; omega⟩)
  clear h1 h2 h3 h4 h5 h7 h8 h9 hF hFA hFD hFt hs hp hps hA hD hq1 hq2 hl1 hl2
  go_enter Tryz.func24, Tryz.ntmps24
  go_upto_region 3 with fail
  generalize World.alloc w _ = w2 at R B ⊢
  replace R : Hid (CardO w2 w.heap.size zeroC) := R
  have hlt1 := R.out.lt
  have O0 := World.ownsRow_lit (base := w.heap.size + 1) (e := 3) (size := 1) w2 #[] 0 (by omega) (by simp) rfl
  have NB := (Below.refl w2.heap.size w2).alloc (Nat.le_refl _) (.cells #[] 3)
  have O1 : Hid ((w2.alloc (.cells #[] 3)).ownsRow (w.heap.size + 1) 3 1 (.slice (some ⟨w2.heap.size, 0, none⟩) 0 0) 0 (blN F 0)) := Lib.hid O0
  have RW := Lib.hid (R.out.below NB hlt1)
  have BW := Lib.hid (btC B.out NB)
  clear O0 NB R B hlt1
  go_wp2_with fail
  go_loopw [9, 10] (fun v u wr => ∃ k : Nat, u = .int .i64 k ∧ k ≤ 8 ∧ wr.ownsRow (w.heap.size + 1) 3 1 v k (blN F k) ∧ (∃ gb cp, v = .slice (some ⟨gb, 0, none⟩) k cp) ∧ CardO wr w.heap.size zeroC ∧ Below w.heap.size w wr) (fun _ u _ => 8 - (intOf u).toNat)
  case atStart => exact ⟨0, rfl, by omega, O1.out, ⟨_, _, rfl⟩, RW.out, BW.out⟩
  case round =>
    obtain ⟨k, rfl, hk, ho, ⟨gb, cp, rfl⟩, hr, hb⟩ := hrel
    clear O1 RW BW
    have O := Lib.hid ho
    have R := Lib.hid hr
    have B := Lib.hid hb
    have hszB := B.out.size
    clear ho hr hb
    by_cases hlt : k < 8
    · have hlt2 : (k : Int) < 8 := by omega
      have HGo := Lib.hid (HGk.out k hlt)
      have HNl : Hid (blN F (k + 1) = blN F k ++ [.int .i64 (F k)]) := Lib.hid rfl
      obtain ⟨b1, b2⟩ := QW.out k hlt
      generalize F k = x at HNl HGo
      clear HGk HGA HGD HGT HP1 HP2 K1 K2 K3 K4 K5 K7 K8 K9
      go_wp2_with fail
      refine (HGo.out _).mono ?_
      rintro e wd ⟨rfl, nd, hwd⟩
      replace O : Hid (wd.ownsRow (w.heap.size + 1) 3 1 (.slice (some ⟨gb, 0, none⟩) k cp) k (blN F k)) := Lib.hid (by rw [hwd]; exact O.out)
      replace R : Hid (CardO wd w.heap.size zeroC) := Lib.hid (by rw [hwd]; exact R.out)
      replace B : Hid (Below w.heap.size w wd) := Lib.hid (by rw [hwd]; exact bel_drewK B.out)
      have hszD : wd.heap.size = wr.heap.size := by rw [hwd]; rfl
      have hszC : w.heap.size ≤ wd.heap.size := by omega
      clear hszD hszB
      have hltR := R.out.lt
      clear hwd
      go_wp2_with (at_builtin; refine wpList_append_own_at _ rfl _ _ 63 rfl (w.heap.size + 1) 3 i0 (.int .i64 0) 1 8 Tryz.underlying63 hi0 hz0 hz1 hz2 rfl (by decide) _ _ _ rfl (World.ownsRow.alloc O.out _) ⟨wd.heap.size, 0, none⟩ 1 1 [.int .i64 x] rfl rfl ?c1 ?c2 ?c3 ?c4 ?c5 ?_)
      case c1 => intro jj uu hu; exact cell_oneBB _ _ _ jj uu hu
      case c2 => intro u hu; simp at hu; subst hu; rfl
      case c3 => simp only [maxLen]; omega
      case c4 => omega
      case c5 => simp; omega
      intro v4 w4 hown4 hgrow4 _ hob4
      have NA := (Below.refl wd.heap.size wd).alloc (Nat.le_refl _) (.cells #[.int .i64 x] 3)
      have hbk : ∀ b, (Value.slice (some ⟨gb, 0, none⟩) k cp).ownBlock = some b → w.heap.size + 1 ≤ b := fun b hb => (World.ownsRow.lt O.out b hb).1
      have O4 : Hid (w4.ownsRow (w.heap.size + 1) 3 1 v4 (k + 1) (blN F (k + 1))) := Lib.hid (by rw [HNl.out]; exact hown4)
      have V4 : Hid (∃ gb cp, v4 = .slice (some ⟨gb, 0, none⟩) (k + 1) cp) := Lib.hid (by
        rcases hown4.2 with ⟨_, hn⟩ | ⟨g', cap', cur, rfl, _⟩
        · omega
        · exact ⟨g', cap', rfl⟩)
      have R4 := Lib.hid ((R.out.below NA R.out.lt).grown hgrow4 (by simp [Value.ownBlock]; have := hbk gb rfl; omega))
      have B4 : Hid (Below w.heap.size w w4) := Lib.hid ((btC B.out NA).grown hgrow4 (by simp; omega) (fun b hb => by have := hbk b hb; omega))
      clear hown4 hgrow4 hob4 O R B NA hbk
      go_wp2_with fail
      go_roundw
      case rel => exact ⟨k + 1, by go_num, by omega, O4.out, V4.out, R4.out, B4.out⟩
      case measure => simp [intOf]; omega
    · obtain rfl : k = 8 := by omega
      have hlt2 : ¬ ((8 : Nat) : Int) < 8 := by omega
      have N : Hid (∀ m, m < 8 → wr.cell? ⟨gb, m, none⟩ = some (.int .i64 (F m))) := Lib.hid (fun m hm => by
        have h := World.ownsRow.cells O.out (g := gb) rfl m _ (blN_at F 8 m hm)
        rwa [show (⟨gb, 0, none⟩ : Addr).add m = ⟨gb, m, none⟩ from by unfold Addr.add; split <;> simp_all] at h)
      have HGB : Hid (w.heap.size + 1 ≤ gb ∧ gb < wr.heap.size) := Lib.hid (World.ownsRow.lt O.out gb rfl)
      clear O HGk
      have n0 := N.out 0 (by omega)
      go_upto_region 8 with fail
      by_cases e0 : ¬ F 0 = 29127
      · have HF := Lib.hid (K8.out e0)
        have q8 : (F 0 != 29127) = true := by simpa using e0
        clear K1 K2 K3 K4 K5 K7 K8 K9 HGA HGD HGT HP1 HP2 e0
        generalize F 0 = x0 at *
        obtain ⟨d0, d1, d2, d3, d4, d5, d6, d7⟩ := (R.out).at.zero
        simp only [zeroC] at d0 d1 d2 d3 d4 d5 d6 d7
        have f0 := (R.out).fz 0
        have f1 := (R.out).fz 1
        have f2 := (R.out).fz 2
        have f3 := (R.out).fz 3
        have f4 := (R.out).fz 4
        have f5 := (R.out).fz 5
        have f6 := (R.out).fz 6
        have f7 := (R.out).fz 7
        have R9 := (R.out).put zeroC
        have B9 := below_putOC (g := w.heap.size) (B.out) (Nat.le_refl _) zeroC
        simp only [putOC, zeroC] at R9 B9
        go_wp2_with fail
        refine bodyPost_ret (res_OCB rfl _ rfl R9) rfl ?_
        exact ⟨by rw [HF.out]; rfl, B9⟩
      have e0 : F 0 = 29127 := Decidable.byContradiction e0
      rw [e0] at n0
      replace K9 := Lib.hid (K9.out e0)
      replace K1 := Lib.hid (K1.out e0)
      replace K2 := Lib.hid (K2.out e0)
      replace K3 := Lib.hid (K3.out e0)
      replace K4 := Lib.hid (K4.out e0)
      replace K5 := Lib.hid (K5.out e0)
      replace K7 := Lib.hid (K7.out e0)
      clear e0 K8
      go_upto_region 10 with fail
      clear n0
      have n1 := N.out 1 (by omega)
      have n7 := N.out 7 (by omega)
      by_cases e1 : ¬ F 1 = 0
      · have HF := Lib.hid (K9.out (fun h => e1 h.1))
        have q8 : (F 1 != 0) = true := by simpa using e1
        clear K1 K2 K3 K4 K5 K7 K9 HGA HGD HGT HP1 HP2 e1 n7
        generalize F 1 = x1 at *
        obtain ⟨d0, d1, d2, d3, d4, d5, d6, d7⟩ := (R.out).at.zero
        simp only [zeroC] at d0 d1 d2 d3 d4 d5 d6 d7
        have f0 := (R.out).fz 0
        have f1 := (R.out).fz 1
        have f2 := (R.out).fz 2
        have f3 := (R.out).fz 3
        have f4 := (R.out).fz 4
        have f5 := (R.out).fz 5
        have f6 := (R.out).fz 6
        have f7 := (R.out).fz 7
        have R9 := (R.out).put zeroC
        have B9 := below_putOC (g := w.heap.size) (B.out) (Nat.le_refl _) zeroC
        simp only [putOC, zeroC] at R9 B9
        go_wp2_with fail
        refine bodyPost_ret (res_OCB rfl _ rfl R9) rfl ?_
        exact ⟨by rw [HF.out]; rfl, B9⟩
      by_cases e7 : ¬ F 7 = 0
      · have HF := Lib.hid (K9.out (fun h => e7 h.2))
        have e1 : F 1 = 0 := Decidable.byContradiction e1
        rw [e1] at n1
        have q8 : (F 7 != 0) = true := by simpa using e7
        clear K1 K2 K3 K4 K5 K7 K9 HGA HGD HGT HP1 HP2 e7 e1
        generalize F 7 = x7 at *
        obtain ⟨d0, d1, d2, d3, d4, d5, d6, d7⟩ := (R.out).at.zero
        simp only [zeroC] at d0 d1 d2 d3 d4 d5 d6 d7
        have f0 := (R.out).fz 0
        have f1 := (R.out).fz 1
        have f2 := (R.out).fz 2
        have f3 := (R.out).fz 3
        have f4 := (R.out).fz 4
        have f5 := (R.out).fz 5
        have f6 := (R.out).fz 6
        have f7 := (R.out).fz 7
        have R9 := (R.out).put zeroC
        have B9 := below_putOC (g := w.heap.size) (B.out) (Nat.le_refl _) zeroC
        simp only [putOC, zeroC] at R9 B9
        go_wp2_with fail
        refine bodyPost_ret (res_OCB rfl _ rfl R9) rfl ?_
        exact ⟨by rw [HF.out]; rfl, B9⟩
      have e1 : F 1 = 0 := Decidable.byContradiction e1
      have e7 : F 7 = 0 := Decidable.byContradiction e7
      rw [e1] at n1
      rw [e7] at n7
      replace K1 := Lib.hid (K1.out ⟨e1, e7⟩)
      replace K2 := Lib.hid (K2.out ⟨e1, e7⟩)
      replace K3 := Lib.hid (K3.out ⟨e1, e7⟩)
      replace K4 := Lib.hid (K4.out ⟨e1, e7⟩)
      replace K5 := Lib.hid (K5.out ⟨e1, e7⟩)
      replace K7 := Lib.hid (K7.out ⟨e1, e7⟩)
      clear e1 e7 K9
      go_upto_region 12 with fail
      clear n1 n7
      go_wp2_with fail
      refine (HGA.out _).mono ?_
      rintro e w5 ⟨rfl, nd, hwd⟩
      replace R : Hid (CardO w5 w.heap.size zeroC) := Lib.hid (by rw [hwd]; exact R.out)
      replace B : Hid (Below w.heap.size w w5) := Lib.hid (by rw [hwd]; exact bel_drewK B.out)
      replace N : Hid (∀ m, m < 8 → w5.cell? ⟨gb, m, none⟩ = some (.int .i64 (F m))) := Lib.hid (by rw [hwd]; exact N.out)
      replace HGB : Hid (w.heap.size + 1 ≤ gb ∧ gb < w5.heap.size) := Lib.hid (by rw [hwd]; exact HGB.out)
      clear hwd HGA
      go_wp2_with fail
      refine (HGD.out _).mono ?_
      rintro e w6 ⟨rfl, nd, hwd⟩
      replace R : Hid (CardO w6 w.heap.size zeroC) := Lib.hid (by rw [hwd]; exact R.out)
      replace B : Hid (Below w.heap.size w w6) := Lib.hid (by rw [hwd]; exact bel_drewK B.out)
      replace N : Hid (∀ m, m < 8 → w6.cell? ⟨gb, m, none⟩ = some (.int .i64 (F m))) := Lib.hid (by rw [hwd]; exact N.out)
      replace HGB : Hid (w.heap.size + 1 ≤ gb ∧ gb < w6.heap.size) := Lib.hid (by rw [hwd]; exact HGB.out)
      clear hwd HGD
      go_wp2_with fail
      refine (HP1.out _).mono ?_
      rintro e w7 ⟨rfl, rfl⟩
      clear HP1
      go_wp2_with fail
      refine (HP2.out _).mono ?_
      rintro e w7 ⟨rfl, rfl⟩
      clear HP2
      by_cases hc : s.size < p + A + q1 + D + q2
      · have HF := Lib.hid (K1.out hc)
        have hcmp : (s.size : Int) < (p : Int) + (A : Int) + (q1 : Int) + (D : Int) + (q2 : Int) := by omega
        clear K1 K2 K3 K4 K5 K7 HGT N HGB hc
        obtain ⟨d0, d1, d2, d3, d4, d5, d6, d7⟩ := (R.out).at.zero
        simp only [zeroC] at d0 d1 d2 d3 d4 d5 d6 d7
        have f0 := (R.out).fz 0
        have f1 := (R.out).fz 1
        have f2 := (R.out).fz 2
        have f3 := (R.out).fz 3
        have f4 := (R.out).fz 4
        have f5 := (R.out).fz 5
        have f6 := (R.out).fz 6
        have f7 := (R.out).fz 7
        have R9 := (R.out).put zeroC
        have B9 := below_putOC (g := w.heap.size) (B.out) (Nat.le_refl _) zeroC
        simp only [putOC, zeroC] at R9 B9
        go_wp2_with fail
        refine bodyPost_ret (res_OCB rfl _ rfl R9) rfl ?_
        exact ⟨by rw [HF.out]; rfl, B9⟩
      have hcmp : ¬ (s.size : Int) < (p : Int) + (A : Int) + (q1 : Int) + (D : Int) + (q2 : Int) := by omega
      have hs := QS.out
      have hp := QP.out
      have hps := QPS.out
      have hA := QA.out
      have hD := QD.out
      have hl1 := QL1.out
      have hl2 := QL2.out
      have S1 := fun w => sl_atB s (p : Int) ((p : Int) + (A : Int)) p (p + A) rfl (by omega) (by omega) (by omega) w
      have HS3 := Lib.hid (fun w => sl_atB s ((p : Int) + (A : Int)) ((p : Int) + (A : Int) + (q1 : Int)) (p + A) (p + A + q1) (by omega) (by omega) (by omega) (by omega) w)
      have HS4 := Lib.hid (fun w => sl_atB s ((p : Int) + (A : Int) + (q1 : Int) + (D : Int)) ((p : Int) + (A : Int) + (q1 : Int) + (D : Int) + (q2 : Int)) (p + A + q1 + D) (p + A + q1 + D + q2) (by omega) (by omega) (by omega) (by omega) w)
      have HS5 := Lib.hid (fun w => sl_atB s ((p : Int) + (A : Int) + (q1 : Int)) ((p : Int) + (A : Int) + (q1 : Int) + (D : Int)) (p + A + q1) (p + A + q1 + D) (by omega) (by omega) (by omega) (by omega) w)
      have HCut := Lib.hid (fun w => cut_spec (s.extract p (p + A)) w (by rw [ByteArray.size_extract]; omega))
      have HBl1 := Lib.hid (fun w => blank_anyB (s.extract (p + A) (p + A + q1)) w (by rw [ByteArray.size_extract]; omega))
      have HBl2 := Lib.hid (fun w => blank_anyB (s.extract (p + A + q1 + D) (p + A + q1 + D + q2)) w (by rw [ByteArray.size_extract]; omega))
      have HSc := Lib.hid (fun (h : ((cutv (s.extract p (p + A))).size : Int) = (A : Int) - 1) w => cut_toB (s.extract p (p + A)) ((A : Int) - 1) (by omega) (by omega) (by rw [ByteArray.size_extract]; omega) w)
      replace K2 := Lib.hid (K2.out hc)
      replace K3 := Lib.hid (K3.out hc)
      replace K4 := Lib.hid (K4.out hc)
      replace K5 := Lib.hid (K5.out hc)
      replace K7 := Lib.hid (K7.out hc)
      clear K1 hc hs hp hps hA hD hl1 hl2
      generalize s.extract (p + A + q1 + D) (p + A + q1 + D + q2) = t2 at *
      generalize s.extract (p + A + q1) (p + A + q1 + D) = dt at *
      generalize s.extract (p + A) (p + A + q1) = t1 at *
      generalize s.extract p (p + A) = nm at *
      go_upto_region 19 with fail
      clear hcmp S1
      by_cases e1 : A = 0
      · have HF := Lib.hid (K2.out e1)
        have q8 : ((A : Int) == 0) = true := by simp [e1]
        clear K2 K3 K4 K5 K7 HS3 HS4 HS5 HCut HBl1 HBl2 HSc HGT N HGB e1
        obtain ⟨d0, d1, d2, d3, d4, d5, d6, d7⟩ := (R.out).at.zero
        simp only [zeroC] at d0 d1 d2 d3 d4 d5 d6 d7
        have f0 := (R.out).fz 0
        have f1 := (R.out).fz 1
        have f2 := (R.out).fz 2
        have f3 := (R.out).fz 3
        have f4 := (R.out).fz 4
        have f5 := (R.out).fz 5
        have f6 := (R.out).fz 6
        have f7 := (R.out).fz 7
        have R9 := (R.out).put zeroC
        have B9 := below_putOC (g := w.heap.size) (B.out) (Nat.le_refl _) zeroC
        simp only [putOC, zeroC] at R9 B9
        go_wp2_with fail
        refine bodyPost_ret (res_OCB rfl _ rfl R9) rfl ?_
        exact ⟨by rw [HF.out]; rfl, B9⟩
      have q8 : ((A : Int) == 0) = false := by simpa using e1
      go_wp2_with fail
      refine (HCut.out _).mono ?_
      rintro e w9 ⟨rfl, rfl⟩
      by_cases e2 : ¬ ((cutv nm).size : Int) = (A : Int) - 1
      · have HF := Lib.hid (K3.out e2)
        have q9 : (((cutv nm).size : Int) != (A : Int) - 1) = true := by simpa using e2
        clear K2 K3 K4 K5 K7 HS3 HS4 HS5 HBl1 HBl2 HSc HGT N HGB e1 e2 HCut
        generalize cutv nm = ct at *
        obtain ⟨d0, d1, d2, d3, d4, d5, d6, d7⟩ := (R.out).at.zero
        simp only [zeroC] at d0 d1 d2 d3 d4 d5 d6 d7
        have f0 := (R.out).fz 0
        have f1 := (R.out).fz 1
        have f2 := (R.out).fz 2
        have f3 := (R.out).fz 3
        have f4 := (R.out).fz 4
        have f5 := (R.out).fz 5
        have f6 := (R.out).fz 6
        have f7 := (R.out).fz 7
        have R9 := (R.out).put zeroC
        have B9 := below_putOC (g := w.heap.size) (B.out) (Nat.le_refl _) zeroC
        simp only [putOC, zeroC] at R9 B9
        go_wp2_with fail
        refine bodyPost_ret (res_OCB rfl _ rfl R9) rfl ?_
        exact ⟨by rw [HF.out]; rfl, B9⟩
      have e2 : ((cutv nm).size : Int) = (A : Int) - 1 := Decidable.byContradiction e2
      have q9 : (((cutv nm).size : Int) != (A : Int) - 1) = false := by simpa using e2
      have HSc2 := Lib.hid (HSc.out e2)
      replace K7 := Lib.hid (K7.out e1 e2)
      clear e1 HSc K2 K3 HCut
      generalize cutv nm = ct at *
      have S3 := HS3.out
      have S4 := HS4.out
      go_wp2_with fail
      refine (HBl1.out _).mono ?_
      rintro e w9 ⟨rfl, rfl⟩
      by_cases e3 : isNul t1 = false
      · have HF := Lib.hid (K4.out e3)
        rw [e3]
        clear K4 K5 K7 HS3 HS4 HS5 HBl1 HBl2 HSc2 HGT N HGB e3 S3 e2
        obtain ⟨d0, d1, d2, d3, d4, d5, d6, d7⟩ := (R.out).at.zero
        simp only [zeroC] at d0 d1 d2 d3 d4 d5 d6 d7
        have f0 := (R.out).fz 0
        have f1 := (R.out).fz 1
        have f2 := (R.out).fz 2
        have f3 := (R.out).fz 3
        have f4 := (R.out).fz 4
        have f5 := (R.out).fz 5
        have f6 := (R.out).fz 6
        have f7 := (R.out).fz 7
        have R9 := (R.out).put zeroC
        have B9 := below_putOC (g := w.heap.size) (B.out) (Nat.le_refl _) zeroC
        simp only [putOC, zeroC] at R9 B9
        go_wp2_with fail
        refine bodyPost_ret (res_OCB rfl _ rfl R9) rfl ?_
        exact ⟨by rw [HF.out]; rfl, B9⟩
      have e3 : isNul t1 = true := by simpa using e3
      rw [e3]
      replace K7 := Lib.hid (K7.out e3)
      clear K4 HBl1 S3 HS3 e3
      go_wp2_with fail
      refine (HBl2.out _).mono ?_
      rintro e w9 ⟨rfl, rfl⟩
      by_cases e4 : isNul t2 = false
      · have HF := Lib.hid (K5.out e4)
        rw [e4]
        clear K5 K7 HS4 HS5 HBl2 HSc2 HGT N HGB e4 S4 e2
        obtain ⟨d0, d1, d2, d3, d4, d5, d6, d7⟩ := (R.out).at.zero
        simp only [zeroC] at d0 d1 d2 d3 d4 d5 d6 d7
        have f0 := (R.out).fz 0
        have f1 := (R.out).fz 1
        have f2 := (R.out).fz 2
        have f3 := (R.out).fz 3
        have f4 := (R.out).fz 4
        have f5 := (R.out).fz 5
        have f6 := (R.out).fz 6
        have f7 := (R.out).fz 7
        have R9 := (R.out).put zeroC
        have B9 := below_putOC (g := w.heap.size) (B.out) (Nat.le_refl _) zeroC
        simp only [putOC, zeroC] at R9 B9
        go_wp2_with fail
        refine bodyPost_ret (res_OCB rfl _ rfl R9) rfl ?_
        exact ⟨by rw [HF.out]; rfl, B9⟩
      have e4 : isNul t2 = true := by simpa using e4
      rw [e4]
      have HF := Lib.hid (K7.out e4)
      clear K5 K7 HBl2 S4 HS4 e4 e2
      obtain ⟨w8, hw8⟩ : ∃ wo, wo = w6 := ⟨_, rfl⟩
      subst hw8
      go_upto_region 21 with fail
      have n2 := N.out 2 (by omega)
      have n3 := N.out 3 (by omega)
      have n4 := N.out 4 (by omega)
      have n5 := N.out 5 (by omega)
      have n6 := N.out 6 (by omega)
      generalize F 2 = x2 at n2 HF
      generalize F 3 = x3 at n3 HF
      generalize F 4 = x4 at n4 HF
      generalize F 5 = x5 at n5 HF
      generalize F 6 = x6 at n6 HF
      have HE : Hid (V = .tuple #[.agg #[.int .i64 x2, .int .i64 x3, .int .i64 x4, .int .i64 x5, .int .i64 x6, .int .i64 xt, .string ct, .string dt], .int .i64 ((p : Int) + (A : Int) + (q1 : Int) + (D : Int) + (q2 : Int)), .int .i64 0]) := Lib.hid (by rw [HF.out]; rfl)
      have hgl := HGB.out.2
      have zWR := R.out.lt
      have HG3 : Hid (∀ w', Calls Tryz.prog 46 #[.string s, .int .i64 ((j : Int) + 16), .bool hi] w' fun e y => e = .returned (.int .i64 xt) ∧ Below w'.heap.size w' y) := Lib.hid (fun w' => (HGT.out w').mono (by rintro e y ⟨rfl, n, rfl⟩; exact ⟨rfl, bel_drewK (Below.refl _ _)⟩))
      clear HF N HGT
      have KC : Hid (∀ w' : World, (w'.cell? ⟨gb, 2, none⟩ = some (.int .i64 x2) ∧ w'.cell? ⟨gb, 3, none⟩ = some (.int .i64 x3) ∧ w'.cell? ⟨gb, 4, none⟩ = some (.int .i64 x4) ∧ w'.cell? ⟨gb, 5, none⟩ = some (.int .i64 x5) ∧ w'.cell? ⟨gb, 6, none⟩ = some (.int .i64 x6) ∧ gb < w'.heap.size) → (w'.cell? ⟨gb, 2, none⟩ = some (.int .i64 x2) ∧ w'.cell? ⟨gb, 3, none⟩ = some (.int .i64 x3) ∧ w'.cell? ⟨gb, 4, none⟩ = some (.int .i64 x4) ∧ w'.cell? ⟨gb, 5, none⟩ = some (.int .i64 x5) ∧ w'.cell? ⟨gb, 6, none⟩ = some (.int .i64 x6) ∧ gb < w'.heap.size)) := Lib.hid (fun w' h => h)
      refine wp_region_u (by kernel_rfl) (fun w' => Below w.heap.size w w' ∧ (w'.cell? ⟨gb, 2, none⟩ = some (.int .i64 x2) ∧ w'.cell? ⟨gb, 3, none⟩ = some (.int .i64 x3) ∧ w'.cell? ⟨gb, 4, none⟩ = some (.int .i64 x4) ∧ w'.cell? ⟨gb, 5, none⟩ = some (.int .i64 x5) ∧ w'.cell? ⟨gb, 6, none⟩ = some (.int .i64 x6) ∧ gb < w'.heap.size) ∧ (w'.heap[w.heap.size]? = some (.cells zeroC.cells.toArray 44 (0, 0)) ∨ w'.heap[w.heap.size]? = some (.cells #[.int .i64 x2, .int .i64 x3, .int .i64 x4, .int .i64 x5, .int .i64 x6, .int .i64 xt, .string ct, .string dt] 44 (0, 0)))) (fun x y => y.heap[w.heap.size]? = x.heap[w.heap.size]? ∨ y.heap[w.heap.size]? = some (.cells #[.int .i64 x2, .int .i64 x3, .int .i64 x4, .int .i64 x5, .int .i64 x6, .int .i64 xt, .string ct, .string dt] 44 (0, 0))) (fun dq vq _ => match dq with | 129 => vq = .slice (some ⟨gb, 0, none⟩) 8 cp | 130 => vq = .pointer (some ⟨gb, 2, none⟩) | 131 => vq = .int .i64 x2 | 132 => vq = .slice (some ⟨gb, 0, none⟩) 8 cp | 133 => vq = .pointer (some ⟨gb, 3, none⟩) | 134 => vq = .int .i64 x3 | 135 => vq = .slice (some ⟨gb, 0, none⟩) 8 cp | 136 => vq = .pointer (some ⟨gb, 4, none⟩) | 137 => vq = .int .i64 x4 | 138 => vq = .slice (some ⟨gb, 0, none⟩) 8 cp | 139 => vq = .pointer (some ⟨gb, 5, none⟩) | 140 => vq = .int .i64 x5 | 141 => vq = .slice (some ⟨gb, 0, none⟩) 8 cp | 142 => vq = .pointer (some ⟨gb, 6, none⟩) | 143 => vq = .int .i64 x6 | 144 => vq = .string s | 145 => vq = .int .i64 (j : Int) | 146 => vq = .int .i64 ((j : Int) + 16) | 147 => vq = .bool hi | 148 => vq = .int .i64 xt | 149 => vq = .string nm | 150 => vq = .int .i64 (A : Int) | 151 => vq = .int .i64 ((A : Int) - 1) | 152 => vq = .string ct | 153 => vq = .string s | 154 => vq = .int .i64 ((p : Int) + (A : Int) + (q1 : Int)) | 155 => vq = .int .i64 ((p : Int) + (A : Int) + (q1 : Int)) | 156 => vq = .int .i64 (D : Int) | 157 => vq = .int .i64 ((p : Int) + (A : Int) + (q1 : Int) + (D : Int)) | 158 => vq = .string dt | 159 => vq = .agg #[.int .i64 x2, .int .i64 x3, .int .i64 x4, .int .i64 x5, .int .i64 x6, .int .i64 xt, .string ct, .string dt] | 160 => vq = .int .i64 ((p : Int) + (A : Int) + (q1 : Int) + (D : Int) + (q2 : Int)) | 7 => vq = .int .i64 ((p : Int) + (A : Int) + (q1 : Int) + (D : Int) + (q2 : Int)) | 8 => vq = .int .i64 0 | _ => True) (fun o w' => o.dst = none → w'.heap[w.heap.size]? = some (.cells #[.int .i64 x2, .int .i64 x3, .int .i64 x4, .int .i64 x5, .int .i64 x6, .int .i64 xt, .string ct, .string dt] 44 (0, 0))) (by kernel_rfl) ⟨B.out.drew, ⟨n2, n3, n4, n5, n6, hgl⟩, .inl R.out⟩ (fun _ _ _ _ _ _ h => h) (fun _ _ _ _ hs hu hd => Or.elim hs (fun h => h.trans (hu hd)) (fun h => h)) ?hops ?hend
      case hops =>
        simp only [List.forall_mem_cons]
        refine ⟨?o129, ?o130, ?o131, ?o132, ?o133, ?o134, ?o135, ?o136, ?o137, ?o138, ?o139, ?o140, ?o141, ?o142, ?o143, ?o144, ?o145, ?o146, ?o147, ?o148, ?o149, ?o150, ?o151, ?o152, ?o153, ?o154, ?o155, ?o156, ?o157, ?o158, ?o159, ?o160, ?os32, ?o7, ?o8, fun _ h => by cases h⟩
        case o129 =>
          intro Q a w2 hC hV hI
          have e9 : a.eval (.tmp 9) = .slice (some ⟨gb, 0, none⟩) 8 cp := (hI 9 (by simp [Op.operands]) (by kernel_rfl)).trans rfl
          have f9 : a.tmps.getD 9 undef = .slice (some ⟨gb, 0, none⟩) 8 cp := e9
          have g9 : a.tmps[9]?.getD undef = .slice (some ⟨gb, 0, none⟩) 8 cp := by rw [← Array.getD_eq_getD_getElem?]; exact e9
          refine opU_val (C := fun w' => Below w.heap.size w w' ∧ (w'.cell? ⟨gb, 2, none⟩ = some (.int .i64 x2) ∧ w'.cell? ⟨gb, 3, none⟩ = some (.int .i64 x3) ∧ w'.cell? ⟨gb, 4, none⟩ = some (.int .i64 x4) ∧ w'.cell? ⟨gb, 5, none⟩ = some (.int .i64 x5) ∧ w'.cell? ⟨gb, 6, none⟩ = some (.int .i64 x6) ∧ gb < w'.heap.size) ∧ (w'.heap[w.heap.size]? = some (.cells zeroC.cells.toArray 44 (0, 0)) ∨ w'.heap[w.heap.size]? = some (.cells #[.int .i64 x2, .int .i64 x3, .int .i64 x4, .int .i64 x5, .int .i64 x6, .int .i64 xt, .string ct, .string dt] 44 (0, 0)))) (St := fun x y => y.heap[w.heap.size]? = x.heap[w.heap.size]? ∨ y.heap[w.heap.size]? = some (.cells #[.int .i64 x2, .int .i64 x3, .int .i64 x4, .int .i64 x5, .int .i64 x6, .int .i64 xt, .string ct, .string dt] 44 (0, 0))) (V := fun dq vq _ => match dq with | 129 => vq = .slice (some ⟨gb, 0, none⟩) 8 cp | 130 => vq = .pointer (some ⟨gb, 2, none⟩) | 131 => vq = .int .i64 x2 | 132 => vq = .slice (some ⟨gb, 0, none⟩) 8 cp | 133 => vq = .pointer (some ⟨gb, 3, none⟩) | 134 => vq = .int .i64 x3 | 135 => vq = .slice (some ⟨gb, 0, none⟩) 8 cp | 136 => vq = .pointer (some ⟨gb, 4, none⟩) | 137 => vq = .int .i64 x4 | 138 => vq = .slice (some ⟨gb, 0, none⟩) 8 cp | 139 => vq = .pointer (some ⟨gb, 5, none⟩) | 140 => vq = .int .i64 x5 | 141 => vq = .slice (some ⟨gb, 0, none⟩) 8 cp | 142 => vq = .pointer (some ⟨gb, 6, none⟩) | 143 => vq = .int .i64 x6 | 144 => vq = .string s | 145 => vq = .int .i64 (j : Int) | 146 => vq = .int .i64 ((j : Int) + 16) | 147 => vq = .bool hi | 148 => vq = .int .i64 xt | 149 => vq = .string nm | 150 => vq = .int .i64 (A : Int) | 151 => vq = .int .i64 ((A : Int) - 1) | 152 => vq = .string ct | 153 => vq = .string s | 154 => vq = .int .i64 ((p : Int) + (A : Int) + (q1 : Int)) | 155 => vq = .int .i64 ((p : Int) + (A : Int) + (q1 : Int)) | 156 => vq = .int .i64 (D : Int) | 157 => vq = .int .i64 ((p : Int) + (A : Int) + (q1 : Int) + (D : Int)) | 158 => vq = .string dt | 159 => vq = .agg #[.int .i64 x2, .int .i64 x3, .int .i64 x4, .int .i64 x5, .int .i64 x6, .int .i64 xt, .string ct, .string dt] | 160 => vq = .int .i64 ((p : Int) + (A : Int) + (q1 : Int) + (D : Int) + (q2 : Int)) | 7 => vq = .int .i64 ((p : Int) + (A : Int) + (q1 : Int) + (D : Int) + (q2 : Int)) | 8 => vq = .int .i64 0 | _ => True) (U := fun o w' => o.dst = none → w'.heap[w.heap.size]? = some (.cells #[.int .i64 x2, .int .i64 x3, .int .i64 x4, .int .i64 x5, .int .i64 x6, .int .i64 xt, .string ct, .string dt] 44 (0, 0))) (w' := w2) (.slice (some ⟨gb, 0, none⟩) 8 cp) ?_ ?_ ?_ ?_ ?_
          · (clear hV hI hC; go_simp <;> (first | rfl | simp | (rw [IntKind.wrap_i64]; omega)))
          · exact hC
          · exact Or.inl rfl
          · intro d hd; cases hd; rfl
          · intro h; cases h
        case o130 =>
          intro Q a w2 hC hV hI
          have e129 : a.eval (.tmp 129) = .slice (some ⟨gb, 0, none⟩) 8 cp := hV 129 (by simp [Op.operands]) (by kernel_rfl)
          have f129 : a.tmps.getD 129 undef = .slice (some ⟨gb, 0, none⟩) 8 cp := e129
          have g129 : a.tmps[129]?.getD undef = .slice (some ⟨gb, 0, none⟩) 8 cp := by rw [← Array.getD_eq_getD_getElem?]; exact e129
          refine opU_val (C := fun w' => Below w.heap.size w w' ∧ (w'.cell? ⟨gb, 2, none⟩ = some (.int .i64 x2) ∧ w'.cell? ⟨gb, 3, none⟩ = some (.int .i64 x3) ∧ w'.cell? ⟨gb, 4, none⟩ = some (.int .i64 x4) ∧ w'.cell? ⟨gb, 5, none⟩ = some (.int .i64 x5) ∧ w'.cell? ⟨gb, 6, none⟩ = some (.int .i64 x6) ∧ gb < w'.heap.size) ∧ (w'.heap[w.heap.size]? = some (.cells zeroC.cells.toArray 44 (0, 0)) ∨ w'.heap[w.heap.size]? = some (.cells #[.int .i64 x2, .int .i64 x3, .int .i64 x4, .int .i64 x5, .int .i64 x6, .int .i64 xt, .string ct, .string dt] 44 (0, 0)))) (St := fun x y => y.heap[w.heap.size]? = x.heap[w.heap.size]? ∨ y.heap[w.heap.size]? = some (.cells #[.int .i64 x2, .int .i64 x3, .int .i64 x4, .int .i64 x5, .int .i64 x6, .int .i64 xt, .string ct, .string dt] 44 (0, 0))) (V := fun dq vq _ => match dq with | 129 => vq = .slice (some ⟨gb, 0, none⟩) 8 cp | 130 => vq = .pointer (some ⟨gb, 2, none⟩) | 131 => vq = .int .i64 x2 | 132 => vq = .slice (some ⟨gb, 0, none⟩) 8 cp | 133 => vq = .pointer (some ⟨gb, 3, none⟩) | 134 => vq = .int .i64 x3 | 135 => vq = .slice (some ⟨gb, 0, none⟩) 8 cp | 136 => vq = .pointer (some ⟨gb, 4, none⟩) | 137 => vq = .int .i64 x4 | 138 => vq = .slice (some ⟨gb, 0, none⟩) 8 cp | 139 => vq = .pointer (some ⟨gb, 5, none⟩) | 140 => vq = .int .i64 x5 | 141 => vq = .slice (some ⟨gb, 0, none⟩) 8 cp | 142 => vq = .pointer (some ⟨gb, 6, none⟩) | 143 => vq = .int .i64 x6 | 144 => vq = .string s | 145 => vq = .int .i64 (j : Int) | 146 => vq = .int .i64 ((j : Int) + 16) | 147 => vq = .bool hi | 148 => vq = .int .i64 xt | 149 => vq = .string nm | 150 => vq = .int .i64 (A : Int) | 151 => vq = .int .i64 ((A : Int) - 1) | 152 => vq = .string ct | 153 => vq = .string s | 154 => vq = .int .i64 ((p : Int) + (A : Int) + (q1 : Int)) | 155 => vq = .int .i64 ((p : Int) + (A : Int) + (q1 : Int)) | 156 => vq = .int .i64 (D : Int) | 157 => vq = .int .i64 ((p : Int) + (A : Int) + (q1 : Int) + (D : Int)) | 158 => vq = .string dt | 159 => vq = .agg #[.int .i64 x2, .int .i64 x3, .int .i64 x4, .int .i64 x5, .int .i64 x6, .int .i64 xt, .string ct, .string dt] | 160 => vq = .int .i64 ((p : Int) + (A : Int) + (q1 : Int) + (D : Int) + (q2 : Int)) | 7 => vq = .int .i64 ((p : Int) + (A : Int) + (q1 : Int) + (D : Int) + (q2 : Int)) | 8 => vq = .int .i64 0 | _ => True) (U := fun o w' => o.dst = none → w'.heap[w.heap.size]? = some (.cells #[.int .i64 x2, .int .i64 x3, .int .i64 x4, .int .i64 x5, .int .i64 x6, .int .i64 xt, .string ct, .string dt] 44 (0, 0))) (w' := w2) (.pointer (some ⟨gb, 2, none⟩)) ?_ ?_ ?_ ?_ ?_
          · (clear hV hI hC; go_simp <;> (first | rfl | simp | (rw [IntKind.wrap_i64]; omega)))
          · exact hC
          · exact Or.inl rfl
          · intro d hd; cases hd; rfl
          · intro h; cases h
        case o131 =>
          intro Q a w2 hC hV hI
          have e130 : a.eval (.tmp 130) = .pointer (some ⟨gb, 2, none⟩) := hV 130 (by simp [Op.operands]) (by kernel_rfl)
          have f130 : a.tmps.getD 130 undef = .pointer (some ⟨gb, 2, none⟩) := e130
          have g130 : a.tmps[130]?.getD undef = .pointer (some ⟨gb, 2, none⟩) := by rw [← Array.getD_eq_getD_getElem?]; exact e130
          have hK := KC.out w2 hC.2.1
          refine opU_val (C := fun w' => Below w.heap.size w w' ∧ (w'.cell? ⟨gb, 2, none⟩ = some (.int .i64 x2) ∧ w'.cell? ⟨gb, 3, none⟩ = some (.int .i64 x3) ∧ w'.cell? ⟨gb, 4, none⟩ = some (.int .i64 x4) ∧ w'.cell? ⟨gb, 5, none⟩ = some (.int .i64 x5) ∧ w'.cell? ⟨gb, 6, none⟩ = some (.int .i64 x6) ∧ gb < w'.heap.size) ∧ (w'.heap[w.heap.size]? = some (.cells zeroC.cells.toArray 44 (0, 0)) ∨ w'.heap[w.heap.size]? = some (.cells #[.int .i64 x2, .int .i64 x3, .int .i64 x4, .int .i64 x5, .int .i64 x6, .int .i64 xt, .string ct, .string dt] 44 (0, 0)))) (St := fun x y => y.heap[w.heap.size]? = x.heap[w.heap.size]? ∨ y.heap[w.heap.size]? = some (.cells #[.int .i64 x2, .int .i64 x3, .int .i64 x4, .int .i64 x5, .int .i64 x6, .int .i64 xt, .string ct, .string dt] 44 (0, 0))) (V := fun dq vq _ => match dq with | 129 => vq = .slice (some ⟨gb, 0, none⟩) 8 cp | 130 => vq = .pointer (some ⟨gb, 2, none⟩) | 131 => vq = .int .i64 x2 | 132 => vq = .slice (some ⟨gb, 0, none⟩) 8 cp | 133 => vq = .pointer (some ⟨gb, 3, none⟩) | 134 => vq = .int .i64 x3 | 135 => vq = .slice (some ⟨gb, 0, none⟩) 8 cp | 136 => vq = .pointer (some ⟨gb, 4, none⟩) | 137 => vq = .int .i64 x4 | 138 => vq = .slice (some ⟨gb, 0, none⟩) 8 cp | 139 => vq = .pointer (some ⟨gb, 5, none⟩) | 140 => vq = .int .i64 x5 | 141 => vq = .slice (some ⟨gb, 0, none⟩) 8 cp | 142 => vq = .pointer (some ⟨gb, 6, none⟩) | 143 => vq = .int .i64 x6 | 144 => vq = .string s | 145 => vq = .int .i64 (j : Int) | 146 => vq = .int .i64 ((j : Int) + 16) | 147 => vq = .bool hi | 148 => vq = .int .i64 xt | 149 => vq = .string nm | 150 => vq = .int .i64 (A : Int) | 151 => vq = .int .i64 ((A : Int) - 1) | 152 => vq = .string ct | 153 => vq = .string s | 154 => vq = .int .i64 ((p : Int) + (A : Int) + (q1 : Int)) | 155 => vq = .int .i64 ((p : Int) + (A : Int) + (q1 : Int)) | 156 => vq = .int .i64 (D : Int) | 157 => vq = .int .i64 ((p : Int) + (A : Int) + (q1 : Int) + (D : Int)) | 158 => vq = .string dt | 159 => vq = .agg #[.int .i64 x2, .int .i64 x3, .int .i64 x4, .int .i64 x5, .int .i64 x6, .int .i64 xt, .string ct, .string dt] | 160 => vq = .int .i64 ((p : Int) + (A : Int) + (q1 : Int) + (D : Int) + (q2 : Int)) | 7 => vq = .int .i64 ((p : Int) + (A : Int) + (q1 : Int) + (D : Int) + (q2 : Int)) | 8 => vq = .int .i64 0 | _ => True) (U := fun o w' => o.dst = none → w'.heap[w.heap.size]? = some (.cells #[.int .i64 x2, .int .i64 x3, .int .i64 x4, .int .i64 x5, .int .i64 x6, .int .i64 xt, .string ct, .string dt] 44 (0, 0))) (w' := w2) (.int .i64 x2) ?_ ?_ ?_ ?_ ?_
          · (clear hV hI hC; go_simp <;> (first | rfl | simp | (rw [IntKind.wrap_i64]; omega)))
          · exact hC
          · exact Or.inl rfl
          · intro d hd; cases hd; rfl
          · intro h; cases h
        case o132 =>
          intro Q a w2 hC hV hI
          have e9 : a.eval (.tmp 9) = .slice (some ⟨gb, 0, none⟩) 8 cp := (hI 9 (by simp [Op.operands]) (by kernel_rfl)).trans rfl
          have f9 : a.tmps.getD 9 undef = .slice (some ⟨gb, 0, none⟩) 8 cp := e9
          have g9 : a.tmps[9]?.getD undef = .slice (some ⟨gb, 0, none⟩) 8 cp := by rw [← Array.getD_eq_getD_getElem?]; exact e9
          refine opU_val (C := fun w' => Below w.heap.size w w' ∧ (w'.cell? ⟨gb, 2, none⟩ = some (.int .i64 x2) ∧ w'.cell? ⟨gb, 3, none⟩ = some (.int .i64 x3) ∧ w'.cell? ⟨gb, 4, none⟩ = some (.int .i64 x4) ∧ w'.cell? ⟨gb, 5, none⟩ = some (.int .i64 x5) ∧ w'.cell? ⟨gb, 6, none⟩ = some (.int .i64 x6) ∧ gb < w'.heap.size) ∧ (w'.heap[w.heap.size]? = some (.cells zeroC.cells.toArray 44 (0, 0)) ∨ w'.heap[w.heap.size]? = some (.cells #[.int .i64 x2, .int .i64 x3, .int .i64 x4, .int .i64 x5, .int .i64 x6, .int .i64 xt, .string ct, .string dt] 44 (0, 0)))) (St := fun x y => y.heap[w.heap.size]? = x.heap[w.heap.size]? ∨ y.heap[w.heap.size]? = some (.cells #[.int .i64 x2, .int .i64 x3, .int .i64 x4, .int .i64 x5, .int .i64 x6, .int .i64 xt, .string ct, .string dt] 44 (0, 0))) (V := fun dq vq _ => match dq with | 129 => vq = .slice (some ⟨gb, 0, none⟩) 8 cp | 130 => vq = .pointer (some ⟨gb, 2, none⟩) | 131 => vq = .int .i64 x2 | 132 => vq = .slice (some ⟨gb, 0, none⟩) 8 cp | 133 => vq = .pointer (some ⟨gb, 3, none⟩) | 134 => vq = .int .i64 x3 | 135 => vq = .slice (some ⟨gb, 0, none⟩) 8 cp | 136 => vq = .pointer (some ⟨gb, 4, none⟩) | 137 => vq = .int .i64 x4 | 138 => vq = .slice (some ⟨gb, 0, none⟩) 8 cp | 139 => vq = .pointer (some ⟨gb, 5, none⟩) | 140 => vq = .int .i64 x5 | 141 => vq = .slice (some ⟨gb, 0, none⟩) 8 cp | 142 => vq = .pointer (some ⟨gb, 6, none⟩) | 143 => vq = .int .i64 x6 | 144 => vq = .string s | 145 => vq = .int .i64 (j : Int) | 146 => vq = .int .i64 ((j : Int) + 16) | 147 => vq = .bool hi | 148 => vq = .int .i64 xt | 149 => vq = .string nm | 150 => vq = .int .i64 (A : Int) | 151 => vq = .int .i64 ((A : Int) - 1) | 152 => vq = .string ct | 153 => vq = .string s | 154 => vq = .int .i64 ((p : Int) + (A : Int) + (q1 : Int)) | 155 => vq = .int .i64 ((p : Int) + (A : Int) + (q1 : Int)) | 156 => vq = .int .i64 (D : Int) | 157 => vq = .int .i64 ((p : Int) + (A : Int) + (q1 : Int) + (D : Int)) | 158 => vq = .string dt | 159 => vq = .agg #[.int .i64 x2, .int .i64 x3, .int .i64 x4, .int .i64 x5, .int .i64 x6, .int .i64 xt, .string ct, .string dt] | 160 => vq = .int .i64 ((p : Int) + (A : Int) + (q1 : Int) + (D : Int) + (q2 : Int)) | 7 => vq = .int .i64 ((p : Int) + (A : Int) + (q1 : Int) + (D : Int) + (q2 : Int)) | 8 => vq = .int .i64 0 | _ => True) (U := fun o w' => o.dst = none → w'.heap[w.heap.size]? = some (.cells #[.int .i64 x2, .int .i64 x3, .int .i64 x4, .int .i64 x5, .int .i64 x6, .int .i64 xt, .string ct, .string dt] 44 (0, 0))) (w' := w2) (.slice (some ⟨gb, 0, none⟩) 8 cp) ?_ ?_ ?_ ?_ ?_
          · (clear hV hI hC; go_simp <;> (first | rfl | simp | (rw [IntKind.wrap_i64]; omega)))
          · exact hC
          · exact Or.inl rfl
          · intro d hd; cases hd; rfl
          · intro h; cases h
        case o133 =>
          intro Q a w2 hC hV hI
          have e132 : a.eval (.tmp 132) = .slice (some ⟨gb, 0, none⟩) 8 cp := hV 132 (by simp [Op.operands]) (by kernel_rfl)
          have f132 : a.tmps.getD 132 undef = .slice (some ⟨gb, 0, none⟩) 8 cp := e132
          have g132 : a.tmps[132]?.getD undef = .slice (some ⟨gb, 0, none⟩) 8 cp := by rw [← Array.getD_eq_getD_getElem?]; exact e132
          refine opU_val (C := fun w' => Below w.heap.size w w' ∧ (w'.cell? ⟨gb, 2, none⟩ = some (.int .i64 x2) ∧ w'.cell? ⟨gb, 3, none⟩ = some (.int .i64 x3) ∧ w'.cell? ⟨gb, 4, none⟩ = some (.int .i64 x4) ∧ w'.cell? ⟨gb, 5, none⟩ = some (.int .i64 x5) ∧ w'.cell? ⟨gb, 6, none⟩ = some (.int .i64 x6) ∧ gb < w'.heap.size) ∧ (w'.heap[w.heap.size]? = some (.cells zeroC.cells.toArray 44 (0, 0)) ∨ w'.heap[w.heap.size]? = some (.cells #[.int .i64 x2, .int .i64 x3, .int .i64 x4, .int .i64 x5, .int .i64 x6, .int .i64 xt, .string ct, .string dt] 44 (0, 0)))) (St := fun x y => y.heap[w.heap.size]? = x.heap[w.heap.size]? ∨ y.heap[w.heap.size]? = some (.cells #[.int .i64 x2, .int .i64 x3, .int .i64 x4, .int .i64 x5, .int .i64 x6, .int .i64 xt, .string ct, .string dt] 44 (0, 0))) (V := fun dq vq _ => match dq with | 129 => vq = .slice (some ⟨gb, 0, none⟩) 8 cp | 130 => vq = .pointer (some ⟨gb, 2, none⟩) | 131 => vq = .int .i64 x2 | 132 => vq = .slice (some ⟨gb, 0, none⟩) 8 cp | 133 => vq = .pointer (some ⟨gb, 3, none⟩) | 134 => vq = .int .i64 x3 | 135 => vq = .slice (some ⟨gb, 0, none⟩) 8 cp | 136 => vq = .pointer (some ⟨gb, 4, none⟩) | 137 => vq = .int .i64 x4 | 138 => vq = .slice (some ⟨gb, 0, none⟩) 8 cp | 139 => vq = .pointer (some ⟨gb, 5, none⟩) | 140 => vq = .int .i64 x5 | 141 => vq = .slice (some ⟨gb, 0, none⟩) 8 cp | 142 => vq = .pointer (some ⟨gb, 6, none⟩) | 143 => vq = .int .i64 x6 | 144 => vq = .string s | 145 => vq = .int .i64 (j : Int) | 146 => vq = .int .i64 ((j : Int) + 16) | 147 => vq = .bool hi | 148 => vq = .int .i64 xt | 149 => vq = .string nm | 150 => vq = .int .i64 (A : Int) | 151 => vq = .int .i64 ((A : Int) - 1) | 152 => vq = .string ct | 153 => vq = .string s | 154 => vq = .int .i64 ((p : Int) + (A : Int) + (q1 : Int)) | 155 => vq = .int .i64 ((p : Int) + (A : Int) + (q1 : Int)) | 156 => vq = .int .i64 (D : Int) | 157 => vq = .int .i64 ((p : Int) + (A : Int) + (q1 : Int) + (D : Int)) | 158 => vq = .string dt | 159 => vq = .agg #[.int .i64 x2, .int .i64 x3, .int .i64 x4, .int .i64 x5, .int .i64 x6, .int .i64 xt, .string ct, .string dt] | 160 => vq = .int .i64 ((p : Int) + (A : Int) + (q1 : Int) + (D : Int) + (q2 : Int)) | 7 => vq = .int .i64 ((p : Int) + (A : Int) + (q1 : Int) + (D : Int) + (q2 : Int)) | 8 => vq = .int .i64 0 | _ => True) (U := fun o w' => o.dst = none → w'.heap[w.heap.size]? = some (.cells #[.int .i64 x2, .int .i64 x3, .int .i64 x4, .int .i64 x5, .int .i64 x6, .int .i64 xt, .string ct, .string dt] 44 (0, 0))) (w' := w2) (.pointer (some ⟨gb, 3, none⟩)) ?_ ?_ ?_ ?_ ?_
          · (clear hV hI hC; go_simp <;> (first | rfl | simp | (rw [IntKind.wrap_i64]; omega)))
          · exact hC
          · exact Or.inl rfl
          · intro d hd; cases hd; rfl
          · intro h; cases h
        case o134 =>
          intro Q a w2 hC hV hI
          have e133 : a.eval (.tmp 133) = .pointer (some ⟨gb, 3, none⟩) := hV 133 (by simp [Op.operands]) (by kernel_rfl)
          have f133 : a.tmps.getD 133 undef = .pointer (some ⟨gb, 3, none⟩) := e133
          have g133 : a.tmps[133]?.getD undef = .pointer (some ⟨gb, 3, none⟩) := by rw [← Array.getD_eq_getD_getElem?]; exact e133
          have hK := KC.out w2 hC.2.1
          refine opU_val (C := fun w' => Below w.heap.size w w' ∧ (w'.cell? ⟨gb, 2, none⟩ = some (.int .i64 x2) ∧ w'.cell? ⟨gb, 3, none⟩ = some (.int .i64 x3) ∧ w'.cell? ⟨gb, 4, none⟩ = some (.int .i64 x4) ∧ w'.cell? ⟨gb, 5, none⟩ = some (.int .i64 x5) ∧ w'.cell? ⟨gb, 6, none⟩ = some (.int .i64 x6) ∧ gb < w'.heap.size) ∧ (w'.heap[w.heap.size]? = some (.cells zeroC.cells.toArray 44 (0, 0)) ∨ w'.heap[w.heap.size]? = some (.cells #[.int .i64 x2, .int .i64 x3, .int .i64 x4, .int .i64 x5, .int .i64 x6, .int .i64 xt, .string ct, .string dt] 44 (0, 0)))) (St := fun x y => y.heap[w.heap.size]? = x.heap[w.heap.size]? ∨ y.heap[w.heap.size]? = some (.cells #[.int .i64 x2, .int .i64 x3, .int .i64 x4, .int .i64 x5, .int .i64 x6, .int .i64 xt, .string ct, .string dt] 44 (0, 0))) (V := fun dq vq _ => match dq with | 129 => vq = .slice (some ⟨gb, 0, none⟩) 8 cp | 130 => vq = .pointer (some ⟨gb, 2, none⟩) | 131 => vq = .int .i64 x2 | 132 => vq = .slice (some ⟨gb, 0, none⟩) 8 cp | 133 => vq = .pointer (some ⟨gb, 3, none⟩) | 134 => vq = .int .i64 x3 | 135 => vq = .slice (some ⟨gb, 0, none⟩) 8 cp | 136 => vq = .pointer (some ⟨gb, 4, none⟩) | 137 => vq = .int .i64 x4 | 138 => vq = .slice (some ⟨gb, 0, none⟩) 8 cp | 139 => vq = .pointer (some ⟨gb, 5, none⟩) | 140 => vq = .int .i64 x5 | 141 => vq = .slice (some ⟨gb, 0, none⟩) 8 cp | 142 => vq = .pointer (some ⟨gb, 6, none⟩) | 143 => vq = .int .i64 x6 | 144 => vq = .string s | 145 => vq = .int .i64 (j : Int) | 146 => vq = .int .i64 ((j : Int) + 16) | 147 => vq = .bool hi | 148 => vq = .int .i64 xt | 149 => vq = .string nm | 150 => vq = .int .i64 (A : Int) | 151 => vq = .int .i64 ((A : Int) - 1) | 152 => vq = .string ct | 153 => vq = .string s | 154 => vq = .int .i64 ((p : Int) + (A : Int) + (q1 : Int)) | 155 => vq = .int .i64 ((p : Int) + (A : Int) + (q1 : Int)) | 156 => vq = .int .i64 (D : Int) | 157 => vq = .int .i64 ((p : Int) + (A : Int) + (q1 : Int) + (D : Int)) | 158 => vq = .string dt | 159 => vq = .agg #[.int .i64 x2, .int .i64 x3, .int .i64 x4, .int .i64 x5, .int .i64 x6, .int .i64 xt, .string ct, .string dt] | 160 => vq = .int .i64 ((p : Int) + (A : Int) + (q1 : Int) + (D : Int) + (q2 : Int)) | 7 => vq = .int .i64 ((p : Int) + (A : Int) + (q1 : Int) + (D : Int) + (q2 : Int)) | 8 => vq = .int .i64 0 | _ => True) (U := fun o w' => o.dst = none → w'.heap[w.heap.size]? = some (.cells #[.int .i64 x2, .int .i64 x3, .int .i64 x4, .int .i64 x5, .int .i64 x6, .int .i64 xt, .string ct, .string dt] 44 (0, 0))) (w' := w2) (.int .i64 x3) ?_ ?_ ?_ ?_ ?_
          · (clear hV hI hC; go_simp <;> (first | rfl | simp | (rw [IntKind.wrap_i64]; omega)))
          · exact hC
          · exact Or.inl rfl
          · intro d hd; cases hd; rfl
          · intro h; cases h
        case o135 =>
          intro Q a w2 hC hV hI
          have e9 : a.eval (.tmp 9) = .slice (some ⟨gb, 0, none⟩) 8 cp := (hI 9 (by simp [Op.operands]) (by kernel_rfl)).trans rfl
          have f9 : a.tmps.getD 9 undef = .slice (some ⟨gb, 0, none⟩) 8 cp := e9
          have g9 : a.tmps[9]?.getD undef = .slice (some ⟨gb, 0, none⟩) 8 cp := by rw [← Array.getD_eq_getD_getElem?]; exact e9
          refine opU_val (C := fun w' => Below w.heap.size w w' ∧ (w'.cell? ⟨gb, 2, none⟩ = some (.int .i64 x2) ∧ w'.cell? ⟨gb, 3, none⟩ = some (.int .i64 x3) ∧ w'.cell? ⟨gb, 4, none⟩ = some (.int .i64 x4) ∧ w'.cell? ⟨gb, 5, none⟩ = some (.int .i64 x5) ∧ w'.cell? ⟨gb, 6, none⟩ = some (.int .i64 x6) ∧ gb < w'.heap.size) ∧ (w'.heap[w.heap.size]? = some (.cells zeroC.cells.toArray 44 (0, 0)) ∨ w'.heap[w.heap.size]? = some (.cells #[.int .i64 x2, .int .i64 x3, .int .i64 x4, .int .i64 x5, .int .i64 x6, .int .i64 xt, .string ct, .string dt] 44 (0, 0)))) (St := fun x y => y.heap[w.heap.size]? = x.heap[w.heap.size]? ∨ y.heap[w.heap.size]? = some (.cells #[.int .i64 x2, .int .i64 x3, .int .i64 x4, .int .i64 x5, .int .i64 x6, .int .i64 xt, .string ct, .string dt] 44 (0, 0))) (V := fun dq vq _ => match dq with | 129 => vq = .slice (some ⟨gb, 0, none⟩) 8 cp | 130 => vq = .pointer (some ⟨gb, 2, none⟩) | 131 => vq = .int .i64 x2 | 132 => vq = .slice (some ⟨gb, 0, none⟩) 8 cp | 133 => vq = .pointer (some ⟨gb, 3, none⟩) | 134 => vq = .int .i64 x3 | 135 => vq = .slice (some ⟨gb, 0, none⟩) 8 cp | 136 => vq = .pointer (some ⟨gb, 4, none⟩) | 137 => vq = .int .i64 x4 | 138 => vq = .slice (some ⟨gb, 0, none⟩) 8 cp | 139 => vq = .pointer (some ⟨gb, 5, none⟩) | 140 => vq = .int .i64 x5 | 141 => vq = .slice (some ⟨gb, 0, none⟩) 8 cp | 142 => vq = .pointer (some ⟨gb, 6, none⟩) | 143 => vq = .int .i64 x6 | 144 => vq = .string s | 145 => vq = .int .i64 (j : Int) | 146 => vq = .int .i64 ((j : Int) + 16) | 147 => vq = .bool hi | 148 => vq = .int .i64 xt | 149 => vq = .string nm | 150 => vq = .int .i64 (A : Int) | 151 => vq = .int .i64 ((A : Int) - 1) | 152 => vq = .string ct | 153 => vq = .string s | 154 => vq = .int .i64 ((p : Int) + (A : Int) + (q1 : Int)) | 155 => vq = .int .i64 ((p : Int) + (A : Int) + (q1 : Int)) | 156 => vq = .int .i64 (D : Int) | 157 => vq = .int .i64 ((p : Int) + (A : Int) + (q1 : Int) + (D : Int)) | 158 => vq = .string dt | 159 => vq = .agg #[.int .i64 x2, .int .i64 x3, .int .i64 x4, .int .i64 x5, .int .i64 x6, .int .i64 xt, .string ct, .string dt] | 160 => vq = .int .i64 ((p : Int) + (A : Int) + (q1 : Int) + (D : Int) + (q2 : Int)) | 7 => vq = .int .i64 ((p : Int) + (A : Int) + (q1 : Int) + (D : Int) + (q2 : Int)) | 8 => vq = .int .i64 0 | _ => True) (U := fun o w' => o.dst = none → w'.heap[w.heap.size]? = some (.cells #[.int .i64 x2, .int .i64 x3, .int .i64 x4, .int .i64 x5, .int .i64 x6, .int .i64 xt, .string ct, .string dt] 44 (0, 0))) (w' := w2) (.slice (some ⟨gb, 0, none⟩) 8 cp) ?_ ?_ ?_ ?_ ?_
          · (clear hV hI hC; go_simp <;> (first | rfl | simp | (rw [IntKind.wrap_i64]; omega)))
          · exact hC
          · exact Or.inl rfl
          · intro d hd; cases hd; rfl
          · intro h; cases h
        case o136 =>
          intro Q a w2 hC hV hI
          have e135 : a.eval (.tmp 135) = .slice (some ⟨gb, 0, none⟩) 8 cp := hV 135 (by simp [Op.operands]) (by kernel_rfl)
          have f135 : a.tmps.getD 135 undef = .slice (some ⟨gb, 0, none⟩) 8 cp := e135
          have g135 : a.tmps[135]?.getD undef = .slice (some ⟨gb, 0, none⟩) 8 cp := by rw [← Array.getD_eq_getD_getElem?]; exact e135
          refine opU_val (C := fun w' => Below w.heap.size w w' ∧ (w'.cell? ⟨gb, 2, none⟩ = some (.int .i64 x2) ∧ w'.cell? ⟨gb, 3, none⟩ = some (.int .i64 x3) ∧ w'.cell? ⟨gb, 4, none⟩ = some (.int .i64 x4) ∧ w'.cell? ⟨gb, 5, none⟩ = some (.int .i64 x5) ∧ w'.cell? ⟨gb, 6, none⟩ = some (.int .i64 x6) ∧ gb < w'.heap.size) ∧ (w'.heap[w.heap.size]? = some (.cells zeroC.cells.toArray 44 (0, 0)) ∨ w'.heap[w.heap.size]? = some (.cells #[.int .i64 x2, .int .i64 x3, .int .i64 x4, .int .i64 x5, .int .i64 x6, .int .i64 xt, .string ct, .string dt] 44 (0, 0)))) (St := fun x y => y.heap[w.heap.size]? = x.heap[w.heap.size]? ∨ y.heap[w.heap.size]? = some (.cells #[.int .i64 x2, .int .i64 x3, .int .i64 x4, .int .i64 x5, .int .i64 x6, .int .i64 xt, .string ct, .string dt] 44 (0, 0))) (V := fun dq vq _ => match dq with | 129 => vq = .slice (some ⟨gb, 0, none⟩) 8 cp | 130 => vq = .pointer (some ⟨gb, 2, none⟩) | 131 => vq = .int .i64 x2 | 132 => vq = .slice (some ⟨gb, 0, none⟩) 8 cp | 133 => vq = .pointer (some ⟨gb, 3, none⟩) | 134 => vq = .int .i64 x3 | 135 => vq = .slice (some ⟨gb, 0, none⟩) 8 cp | 136 => vq = .pointer (some ⟨gb, 4, none⟩) | 137 => vq = .int .i64 x4 | 138 => vq = .slice (some ⟨gb, 0, none⟩) 8 cp | 139 => vq = .pointer (some ⟨gb, 5, none⟩) | 140 => vq = .int .i64 x5 | 141 => vq = .slice (some ⟨gb, 0, none⟩) 8 cp | 142 => vq = .pointer (some ⟨gb, 6, none⟩) | 143 => vq = .int .i64 x6 | 144 => vq = .string s | 145 => vq = .int .i64 (j : Int) | 146 => vq = .int .i64 ((j : Int) + 16) | 147 => vq = .bool hi | 148 => vq = .int .i64 xt | 149 => vq = .string nm | 150 => vq = .int .i64 (A : Int) | 151 => vq = .int .i64 ((A : Int) - 1) | 152 => vq = .string ct | 153 => vq = .string s | 154 => vq = .int .i64 ((p : Int) + (A : Int) + (q1 : Int)) | 155 => vq = .int .i64 ((p : Int) + (A : Int) + (q1 : Int)) | 156 => vq = .int .i64 (D : Int) | 157 => vq = .int .i64 ((p : Int) + (A : Int) + (q1 : Int) + (D : Int)) | 158 => vq = .string dt | 159 => vq = .agg #[.int .i64 x2, .int .i64 x3, .int .i64 x4, .int .i64 x5, .int .i64 x6, .int .i64 xt, .string ct, .string dt] | 160 => vq = .int .i64 ((p : Int) + (A : Int) + (q1 : Int) + (D : Int) + (q2 : Int)) | 7 => vq = .int .i64 ((p : Int) + (A : Int) + (q1 : Int) + (D : Int) + (q2 : Int)) | 8 => vq = .int .i64 0 | _ => True) (U := fun o w' => o.dst = none → w'.heap[w.heap.size]? = some (.cells #[.int .i64 x2, .int .i64 x3, .int .i64 x4, .int .i64 x5, .int .i64 x6, .int .i64 xt, .string ct, .string dt] 44 (0, 0))) (w' := w2) (.pointer (some ⟨gb, 4, none⟩)) ?_ ?_ ?_ ?_ ?_
          · (clear hV hI hC; go_simp <;> (first | rfl | simp | (rw [IntKind.wrap_i64]; omega)))
          · exact hC
          · exact Or.inl rfl
          · intro d hd; cases hd; rfl
          · intro h; cases h
        case o137 =>
          intro Q a w2 hC hV hI
          have e136 : a.eval (.tmp 136) = .pointer (some ⟨gb, 4, none⟩) := hV 136 (by simp [Op.operands]) (by kernel_rfl)
          have f136 : a.tmps.getD 136 undef = .pointer (some ⟨gb, 4, none⟩) := e136
          have g136 : a.tmps[136]?.getD undef = .pointer (some ⟨gb, 4, none⟩) := by rw [← Array.getD_eq_getD_getElem?]; exact e136
          have hK := KC.out w2 hC.2.1
          refine opU_val (C := fun w' => Below w.heap.size w w' ∧ (w'.cell? ⟨gb, 2, none⟩ = some (.int .i64 x2) ∧ w'.cell? ⟨gb, 3, none⟩ = some (.int .i64 x3) ∧ w'.cell? ⟨gb, 4, none⟩ = some (.int .i64 x4) ∧ w'.cell? ⟨gb, 5, none⟩ = some (.int .i64 x5) ∧ w'.cell? ⟨gb, 6, none⟩ = some (.int .i64 x6) ∧ gb < w'.heap.size) ∧ (w'.heap[w.heap.size]? = some (.cells zeroC.cells.toArray 44 (0, 0)) ∨ w'.heap[w.heap.size]? = some (.cells #[.int .i64 x2, .int .i64 x3, .int .i64 x4, .int .i64 x5, .int .i64 x6, .int .i64 xt, .string ct, .string dt] 44 (0, 0)))) (St := fun x y => y.heap[w.heap.size]? = x.heap[w.heap.size]? ∨ y.heap[w.heap.size]? = some (.cells #[.int .i64 x2, .int .i64 x3, .int .i64 x4, .int .i64 x5, .int .i64 x6, .int .i64 xt, .string ct, .string dt] 44 (0, 0))) (V := fun dq vq _ => match dq with | 129 => vq = .slice (some ⟨gb, 0, none⟩) 8 cp | 130 => vq = .pointer (some ⟨gb, 2, none⟩) | 131 => vq = .int .i64 x2 | 132 => vq = .slice (some ⟨gb, 0, none⟩) 8 cp | 133 => vq = .pointer (some ⟨gb, 3, none⟩) | 134 => vq = .int .i64 x3 | 135 => vq = .slice (some ⟨gb, 0, none⟩) 8 cp | 136 => vq = .pointer (some ⟨gb, 4, none⟩) | 137 => vq = .int .i64 x4 | 138 => vq = .slice (some ⟨gb, 0, none⟩) 8 cp | 139 => vq = .pointer (some ⟨gb, 5, none⟩) | 140 => vq = .int .i64 x5 | 141 => vq = .slice (some ⟨gb, 0, none⟩) 8 cp | 142 => vq = .pointer (some ⟨gb, 6, none⟩) | 143 => vq = .int .i64 x6 | 144 => vq = .string s | 145 => vq = .int .i64 (j : Int) | 146 => vq = .int .i64 ((j : Int) + 16) | 147 => vq = .bool hi | 148 => vq = .int .i64 xt | 149 => vq = .string nm | 150 => vq = .int .i64 (A : Int) | 151 => vq = .int .i64 ((A : Int) - 1) | 152 => vq = .string ct | 153 => vq = .string s | 154 => vq = .int .i64 ((p : Int) + (A : Int) + (q1 : Int)) | 155 => vq = .int .i64 ((p : Int) + (A : Int) + (q1 : Int)) | 156 => vq = .int .i64 (D : Int) | 157 => vq = .int .i64 ((p : Int) + (A : Int) + (q1 : Int) + (D : Int)) | 158 => vq = .string dt | 159 => vq = .agg #[.int .i64 x2, .int .i64 x3, .int .i64 x4, .int .i64 x5, .int .i64 x6, .int .i64 xt, .string ct, .string dt] | 160 => vq = .int .i64 ((p : Int) + (A : Int) + (q1 : Int) + (D : Int) + (q2 : Int)) | 7 => vq = .int .i64 ((p : Int) + (A : Int) + (q1 : Int) + (D : Int) + (q2 : Int)) | 8 => vq = .int .i64 0 | _ => True) (U := fun o w' => o.dst = none → w'.heap[w.heap.size]? = some (.cells #[.int .i64 x2, .int .i64 x3, .int .i64 x4, .int .i64 x5, .int .i64 x6, .int .i64 xt, .string ct, .string dt] 44 (0, 0))) (w' := w2) (.int .i64 x4) ?_ ?_ ?_ ?_ ?_
          · (clear hV hI hC; go_simp <;> (first | rfl | simp | (rw [IntKind.wrap_i64]; omega)))
          · exact hC
          · exact Or.inl rfl
          · intro d hd; cases hd; rfl
          · intro h; cases h
        case o138 =>
          intro Q a w2 hC hV hI
          have e9 : a.eval (.tmp 9) = .slice (some ⟨gb, 0, none⟩) 8 cp := (hI 9 (by simp [Op.operands]) (by kernel_rfl)).trans rfl
          have f9 : a.tmps.getD 9 undef = .slice (some ⟨gb, 0, none⟩) 8 cp := e9
          have g9 : a.tmps[9]?.getD undef = .slice (some ⟨gb, 0, none⟩) 8 cp := by rw [← Array.getD_eq_getD_getElem?]; exact e9
          refine opU_val (C := fun w' => Below w.heap.size w w' ∧ (w'.cell? ⟨gb, 2, none⟩ = some (.int .i64 x2) ∧ w'.cell? ⟨gb, 3, none⟩ = some (.int .i64 x3) ∧ w'.cell? ⟨gb, 4, none⟩ = some (.int .i64 x4) ∧ w'.cell? ⟨gb, 5, none⟩ = some (.int .i64 x5) ∧ w'.cell? ⟨gb, 6, none⟩ = some (.int .i64 x6) ∧ gb < w'.heap.size) ∧ (w'.heap[w.heap.size]? = some (.cells zeroC.cells.toArray 44 (0, 0)) ∨ w'.heap[w.heap.size]? = some (.cells #[.int .i64 x2, .int .i64 x3, .int .i64 x4, .int .i64 x5, .int .i64 x6, .int .i64 xt, .string ct, .string dt] 44 (0, 0)))) (St := fun x y => y.heap[w.heap.size]? = x.heap[w.heap.size]? ∨ y.heap[w.heap.size]? = some (.cells #[.int .i64 x2, .int .i64 x3, .int .i64 x4, .int .i64 x5, .int .i64 x6, .int .i64 xt, .string ct, .string dt] 44 (0, 0))) (V := fun dq vq _ => match dq with | 129 => vq = .slice (some ⟨gb, 0, none⟩) 8 cp | 130 => vq = .pointer (some ⟨gb, 2, none⟩) | 131 => vq = .int .i64 x2 | 132 => vq = .slice (some ⟨gb, 0, none⟩) 8 cp | 133 => vq = .pointer (some ⟨gb, 3, none⟩) | 134 => vq = .int .i64 x3 | 135 => vq = .slice (some ⟨gb, 0, none⟩) 8 cp | 136 => vq = .pointer (some ⟨gb, 4, none⟩) | 137 => vq = .int .i64 x4 | 138 => vq = .slice (some ⟨gb, 0, none⟩) 8 cp | 139 => vq = .pointer (some ⟨gb, 5, none⟩) | 140 => vq = .int .i64 x5 | 141 => vq = .slice (some ⟨gb, 0, none⟩) 8 cp | 142 => vq = .pointer (some ⟨gb, 6, none⟩) | 143 => vq = .int .i64 x6 | 144 => vq = .string s | 145 => vq = .int .i64 (j : Int) | 146 => vq = .int .i64 ((j : Int) + 16) | 147 => vq = .bool hi | 148 => vq = .int .i64 xt | 149 => vq = .string nm | 150 => vq = .int .i64 (A : Int) | 151 => vq = .int .i64 ((A : Int) - 1) | 152 => vq = .string ct | 153 => vq = .string s | 154 => vq = .int .i64 ((p : Int) + (A : Int) + (q1 : Int)) | 155 => vq = .int .i64 ((p : Int) + (A : Int) + (q1 : Int)) | 156 => vq = .int .i64 (D : Int) | 157 => vq = .int .i64 ((p : Int) + (A : Int) + (q1 : Int) + (D : Int)) | 158 => vq = .string dt | 159 => vq = .agg #[.int .i64 x2, .int .i64 x3, .int .i64 x4, .int .i64 x5, .int .i64 x6, .int .i64 xt, .string ct, .string dt] | 160 => vq = .int .i64 ((p : Int) + (A : Int) + (q1 : Int) + (D : Int) + (q2 : Int)) | 7 => vq = .int .i64 ((p : Int) + (A : Int) + (q1 : Int) + (D : Int) + (q2 : Int)) | 8 => vq = .int .i64 0 | _ => True) (U := fun o w' => o.dst = none → w'.heap[w.heap.size]? = some (.cells #[.int .i64 x2, .int .i64 x3, .int .i64 x4, .int .i64 x5, .int .i64 x6, .int .i64 xt, .string ct, .string dt] 44 (0, 0))) (w' := w2) (.slice (some ⟨gb, 0, none⟩) 8 cp) ?_ ?_ ?_ ?_ ?_
          · (clear hV hI hC; go_simp <;> (first | rfl | simp | (rw [IntKind.wrap_i64]; omega)))
          · exact hC
          · exact Or.inl rfl
          · intro d hd; cases hd; rfl
          · intro h; cases h
        case o139 =>
          intro Q a w2 hC hV hI
          have e138 : a.eval (.tmp 138) = .slice (some ⟨gb, 0, none⟩) 8 cp := hV 138 (by simp [Op.operands]) (by kernel_rfl)
          have f138 : a.tmps.getD 138 undef = .slice (some ⟨gb, 0, none⟩) 8 cp := e138
          have g138 : a.tmps[138]?.getD undef = .slice (some ⟨gb, 0, none⟩) 8 cp := by rw [← Array.getD_eq_getD_getElem?]; exact e138
          refine opU_val (C := fun w' => Below w.heap.size w w' ∧ (w'.cell? ⟨gb, 2, none⟩ = some (.int .i64 x2) ∧ w'.cell? ⟨gb, 3, none⟩ = some (.int .i64 x3) ∧ w'.cell? ⟨gb, 4, none⟩ = some (.int .i64 x4) ∧ w'.cell? ⟨gb, 5, none⟩ = some (.int .i64 x5) ∧ w'.cell? ⟨gb, 6, none⟩ = some (.int .i64 x6) ∧ gb < w'.heap.size) ∧ (w'.heap[w.heap.size]? = some (.cells zeroC.cells.toArray 44 (0, 0)) ∨ w'.heap[w.heap.size]? = some (.cells #[.int .i64 x2, .int .i64 x3, .int .i64 x4, .int .i64 x5, .int .i64 x6, .int .i64 xt, .string ct, .string dt] 44 (0, 0)))) (St := fun x y => y.heap[w.heap.size]? = x.heap[w.heap.size]? ∨ y.heap[w.heap.size]? = some (.cells #[.int .i64 x2, .int .i64 x3, .int .i64 x4, .int .i64 x5, .int .i64 x6, .int .i64 xt, .string ct, .string dt] 44 (0, 0))) (V := fun dq vq _ => match dq with | 129 => vq = .slice (some ⟨gb, 0, none⟩) 8 cp | 130 => vq = .pointer (some ⟨gb, 2, none⟩) | 131 => vq = .int .i64 x2 | 132 => vq = .slice (some ⟨gb, 0, none⟩) 8 cp | 133 => vq = .pointer (some ⟨gb, 3, none⟩) | 134 => vq = .int .i64 x3 | 135 => vq = .slice (some ⟨gb, 0, none⟩) 8 cp | 136 => vq = .pointer (some ⟨gb, 4, none⟩) | 137 => vq = .int .i64 x4 | 138 => vq = .slice (some ⟨gb, 0, none⟩) 8 cp | 139 => vq = .pointer (some ⟨gb, 5, none⟩) | 140 => vq = .int .i64 x5 | 141 => vq = .slice (some ⟨gb, 0, none⟩) 8 cp | 142 => vq = .pointer (some ⟨gb, 6, none⟩) | 143 => vq = .int .i64 x6 | 144 => vq = .string s | 145 => vq = .int .i64 (j : Int) | 146 => vq = .int .i64 ((j : Int) + 16) | 147 => vq = .bool hi | 148 => vq = .int .i64 xt | 149 => vq = .string nm | 150 => vq = .int .i64 (A : Int) | 151 => vq = .int .i64 ((A : Int) - 1) | 152 => vq = .string ct | 153 => vq = .string s | 154 => vq = .int .i64 ((p : Int) + (A : Int) + (q1 : Int)) | 155 => vq = .int .i64 ((p : Int) + (A : Int) + (q1 : Int)) | 156 => vq = .int .i64 (D : Int) | 157 => vq = .int .i64 ((p : Int) + (A : Int) + (q1 : Int) + (D : Int)) | 158 => vq = .string dt | 159 => vq = .agg #[.int .i64 x2, .int .i64 x3, .int .i64 x4, .int .i64 x5, .int .i64 x6, .int .i64 xt, .string ct, .string dt] | 160 => vq = .int .i64 ((p : Int) + (A : Int) + (q1 : Int) + (D : Int) + (q2 : Int)) | 7 => vq = .int .i64 ((p : Int) + (A : Int) + (q1 : Int) + (D : Int) + (q2 : Int)) | 8 => vq = .int .i64 0 | _ => True) (U := fun o w' => o.dst = none → w'.heap[w.heap.size]? = some (.cells #[.int .i64 x2, .int .i64 x3, .int .i64 x4, .int .i64 x5, .int .i64 x6, .int .i64 xt, .string ct, .string dt] 44 (0, 0))) (w' := w2) (.pointer (some ⟨gb, 5, none⟩)) ?_ ?_ ?_ ?_ ?_
          · (clear hV hI hC; go_simp <;> (first | rfl | simp | (rw [IntKind.wrap_i64]; omega)))
          · exact hC
          · exact Or.inl rfl
          · intro d hd; cases hd; rfl
          · intro h; cases h
        case o140 =>
          intro Q a w2 hC hV hI
          have e139 : a.eval (.tmp 139) = .pointer (some ⟨gb, 5, none⟩) := hV 139 (by simp [Op.operands]) (by kernel_rfl)
          have f139 : a.tmps.getD 139 undef = .pointer (some ⟨gb, 5, none⟩) := e139
          have g139 : a.tmps[139]?.getD undef = .pointer (some ⟨gb, 5, none⟩) := by rw [← Array.getD_eq_getD_getElem?]; exact e139
          have hK := KC.out w2 hC.2.1
          refine opU_val (C := fun w' => Below w.heap.size w w' ∧ (w'.cell? ⟨gb, 2, none⟩ = some (.int .i64 x2) ∧ w'.cell? ⟨gb, 3, none⟩ = some (.int .i64 x3) ∧ w'.cell? ⟨gb, 4, none⟩ = some (.int .i64 x4) ∧ w'.cell? ⟨gb, 5, none⟩ = some (.int .i64 x5) ∧ w'.cell? ⟨gb, 6, none⟩ = some (.int .i64 x6) ∧ gb < w'.heap.size) ∧ (w'.heap[w.heap.size]? = some (.cells zeroC.cells.toArray 44 (0, 0)) ∨ w'.heap[w.heap.size]? = some (.cells #[.int .i64 x2, .int .i64 x3, .int .i64 x4, .int .i64 x5, .int .i64 x6, .int .i64 xt, .string ct, .string dt] 44 (0, 0)))) (St := fun x y => y.heap[w.heap.size]? = x.heap[w.heap.size]? ∨ y.heap[w.heap.size]? = some (.cells #[.int .i64 x2, .int .i64 x3, .int .i64 x4, .int .i64 x5, .int .i64 x6, .int .i64 xt, .string ct, .string dt] 44 (0, 0))) (V := fun dq vq _ => match dq with | 129 => vq = .slice (some ⟨gb, 0, none⟩) 8 cp | 130 => vq = .pointer (some ⟨gb, 2, none⟩) | 131 => vq = .int .i64 x2 | 132 => vq = .slice (some ⟨gb, 0, none⟩) 8 cp | 133 => vq = .pointer (some ⟨gb, 3, none⟩) | 134 => vq = .int .i64 x3 | 135 => vq = .slice (some ⟨gb, 0, none⟩) 8 cp | 136 => vq = .pointer (some ⟨gb, 4, none⟩) | 137 => vq = .int .i64 x4 | 138 => vq = .slice (some ⟨gb, 0, none⟩) 8 cp | 139 => vq = .pointer (some ⟨gb, 5, none⟩) | 140 => vq = .int .i64 x5 | 141 => vq = .slice (some ⟨gb, 0, none⟩) 8 cp | 142 => vq = .pointer (some ⟨gb, 6, none⟩) | 143 => vq = .int .i64 x6 | 144 => vq = .string s | 145 => vq = .int .i64 (j : Int) | 146 => vq = .int .i64 ((j : Int) + 16) | 147 => vq = .bool hi | 148 => vq = .int .i64 xt | 149 => vq = .string nm | 150 => vq = .int .i64 (A : Int) | 151 => vq = .int .i64 ((A : Int) - 1) | 152 => vq = .string ct | 153 => vq = .string s | 154 => vq = .int .i64 ((p : Int) + (A : Int) + (q1 : Int)) | 155 => vq = .int .i64 ((p : Int) + (A : Int) + (q1 : Int)) | 156 => vq = .int .i64 (D : Int) | 157 => vq = .int .i64 ((p : Int) + (A : Int) + (q1 : Int) + (D : Int)) | 158 => vq = .string dt | 159 => vq = .agg #[.int .i64 x2, .int .i64 x3, .int .i64 x4, .int .i64 x5, .int .i64 x6, .int .i64 xt, .string ct, .string dt] | 160 => vq = .int .i64 ((p : Int) + (A : Int) + (q1 : Int) + (D : Int) + (q2 : Int)) | 7 => vq = .int .i64 ((p : Int) + (A : Int) + (q1 : Int) + (D : Int) + (q2 : Int)) | 8 => vq = .int .i64 0 | _ => True) (U := fun o w' => o.dst = none → w'.heap[w.heap.size]? = some (.cells #[.int .i64 x2, .int .i64 x3, .int .i64 x4, .int .i64 x5, .int .i64 x6, .int .i64 xt, .string ct, .string dt] 44 (0, 0))) (w' := w2) (.int .i64 x5) ?_ ?_ ?_ ?_ ?_
          · (clear hV hI hC; go_simp <;> (first | rfl | simp | (rw [IntKind.wrap_i64]; omega)))
          · exact hC
          · exact Or.inl rfl
          · intro d hd; cases hd; rfl
          · intro h; cases h
        case o141 =>
          intro Q a w2 hC hV hI
          have e9 : a.eval (.tmp 9) = .slice (some ⟨gb, 0, none⟩) 8 cp := (hI 9 (by simp [Op.operands]) (by kernel_rfl)).trans rfl
          have f9 : a.tmps.getD 9 undef = .slice (some ⟨gb, 0, none⟩) 8 cp := e9
          have g9 : a.tmps[9]?.getD undef = .slice (some ⟨gb, 0, none⟩) 8 cp := by rw [← Array.getD_eq_getD_getElem?]; exact e9
          refine opU_val (C := fun w' => Below w.heap.size w w' ∧ (w'.cell? ⟨gb, 2, none⟩ = some (.int .i64 x2) ∧ w'.cell? ⟨gb, 3, none⟩ = some (.int .i64 x3) ∧ w'.cell? ⟨gb, 4, none⟩ = some (.int .i64 x4) ∧ w'.cell? ⟨gb, 5, none⟩ = some (.int .i64 x5) ∧ w'.cell? ⟨gb, 6, none⟩ = some (.int .i64 x6) ∧ gb < w'.heap.size) ∧ (w'.heap[w.heap.size]? = some (.cells zeroC.cells.toArray 44 (0, 0)) ∨ w'.heap[w.heap.size]? = some (.cells #[.int .i64 x2, .int .i64 x3, .int .i64 x4, .int .i64 x5, .int .i64 x6, .int .i64 xt, .string ct, .string dt] 44 (0, 0)))) (St := fun x y => y.heap[w.heap.size]? = x.heap[w.heap.size]? ∨ y.heap[w.heap.size]? = some (.cells #[.int .i64 x2, .int .i64 x3, .int .i64 x4, .int .i64 x5, .int .i64 x6, .int .i64 xt, .string ct, .string dt] 44 (0, 0))) (V := fun dq vq _ => match dq with | 129 => vq = .slice (some ⟨gb, 0, none⟩) 8 cp | 130 => vq = .pointer (some ⟨gb, 2, none⟩) | 131 => vq = .int .i64 x2 | 132 => vq = .slice (some ⟨gb, 0, none⟩) 8 cp | 133 => vq = .pointer (some ⟨gb, 3, none⟩) | 134 => vq = .int .i64 x3 | 135 => vq = .slice (some ⟨gb, 0, none⟩) 8 cp | 136 => vq = .pointer (some ⟨gb, 4, none⟩) | 137 => vq = .int .i64 x4 | 138 => vq = .slice (some ⟨gb, 0, none⟩) 8 cp | 139 => vq = .pointer (some ⟨gb, 5, none⟩) | 140 => vq = .int .i64 x5 | 141 => vq = .slice (some ⟨gb, 0, none⟩) 8 cp | 142 => vq = .pointer (some ⟨gb, 6, none⟩) | 143 => vq = .int .i64 x6 | 144 => vq = .string s | 145 => vq = .int .i64 (j : Int) | 146 => vq = .int .i64 ((j : Int) + 16) | 147 => vq = .bool hi | 148 => vq = .int .i64 xt | 149 => vq = .string nm | 150 => vq = .int .i64 (A : Int) | 151 => vq = .int .i64 ((A : Int) - 1) | 152 => vq = .string ct | 153 => vq = .string s | 154 => vq = .int .i64 ((p : Int) + (A : Int) + (q1 : Int)) | 155 => vq = .int .i64 ((p : Int) + (A : Int) + (q1 : Int)) | 156 => vq = .int .i64 (D : Int) | 157 => vq = .int .i64 ((p : Int) + (A : Int) + (q1 : Int) + (D : Int)) | 158 => vq = .string dt | 159 => vq = .agg #[.int .i64 x2, .int .i64 x3, .int .i64 x4, .int .i64 x5, .int .i64 x6, .int .i64 xt, .string ct, .string dt] | 160 => vq = .int .i64 ((p : Int) + (A : Int) + (q1 : Int) + (D : Int) + (q2 : Int)) | 7 => vq = .int .i64 ((p : Int) + (A : Int) + (q1 : Int) + (D : Int) + (q2 : Int)) | 8 => vq = .int .i64 0 | _ => True) (U := fun o w' => o.dst = none → w'.heap[w.heap.size]? = some (.cells #[.int .i64 x2, .int .i64 x3, .int .i64 x4, .int .i64 x5, .int .i64 x6, .int .i64 xt, .string ct, .string dt] 44 (0, 0))) (w' := w2) (.slice (some ⟨gb, 0, none⟩) 8 cp) ?_ ?_ ?_ ?_ ?_
          · (clear hV hI hC; go_simp <;> (first | rfl | simp | (rw [IntKind.wrap_i64]; omega)))
          · exact hC
          · exact Or.inl rfl
          · intro d hd; cases hd; rfl
          · intro h; cases h
        case o142 =>
          intro Q a w2 hC hV hI
          have e141 : a.eval (.tmp 141) = .slice (some ⟨gb, 0, none⟩) 8 cp := hV 141 (by simp [Op.operands]) (by kernel_rfl)
          have f141 : a.tmps.getD 141 undef = .slice (some ⟨gb, 0, none⟩) 8 cp := e141
          have g141 : a.tmps[141]?.getD undef = .slice (some ⟨gb, 0, none⟩) 8 cp := by rw [← Array.getD_eq_getD_getElem?]; exact e141
          refine opU_val (C := fun w' => Below w.heap.size w w' ∧ (w'.cell? ⟨gb, 2, none⟩ = some (.int .i64 x2) ∧ w'.cell? ⟨gb, 3, none⟩ = some (.int .i64 x3) ∧ w'.cell? ⟨gb, 4, none⟩ = some (.int .i64 x4) ∧ w'.cell? ⟨gb, 5, none⟩ = some (.int .i64 x5) ∧ w'.cell? ⟨gb, 6, none⟩ = some (.int .i64 x6) ∧ gb < w'.heap.size) ∧ (w'.heap[w.heap.size]? = some (.cells zeroC.cells.toArray 44 (0, 0)) ∨ w'.heap[w.heap.size]? = some (.cells #[.int .i64 x2, .int .i64 x3, .int .i64 x4, .int .i64 x5, .int .i64 x6, .int .i64 xt, .string ct, .string dt] 44 (0, 0)))) (St := fun x y => y.heap[w.heap.size]? = x.heap[w.heap.size]? ∨ y.heap[w.heap.size]? = some (.cells #[.int .i64 x2, .int .i64 x3, .int .i64 x4, .int .i64 x5, .int .i64 x6, .int .i64 xt, .string ct, .string dt] 44 (0, 0))) (V := fun dq vq _ => match dq with | 129 => vq = .slice (some ⟨gb, 0, none⟩) 8 cp | 130 => vq = .pointer (some ⟨gb, 2, none⟩) | 131 => vq = .int .i64 x2 | 132 => vq = .slice (some ⟨gb, 0, none⟩) 8 cp | 133 => vq = .pointer (some ⟨gb, 3, none⟩) | 134 => vq = .int .i64 x3 | 135 => vq = .slice (some ⟨gb, 0, none⟩) 8 cp | 136 => vq = .pointer (some ⟨gb, 4, none⟩) | 137 => vq = .int .i64 x4 | 138 => vq = .slice (some ⟨gb, 0, none⟩) 8 cp | 139 => vq = .pointer (some ⟨gb, 5, none⟩) | 140 => vq = .int .i64 x5 | 141 => vq = .slice (some ⟨gb, 0, none⟩) 8 cp | 142 => vq = .pointer (some ⟨gb, 6, none⟩) | 143 => vq = .int .i64 x6 | 144 => vq = .string s | 145 => vq = .int .i64 (j : Int) | 146 => vq = .int .i64 ((j : Int) + 16) | 147 => vq = .bool hi | 148 => vq = .int .i64 xt | 149 => vq = .string nm | 150 => vq = .int .i64 (A : Int) | 151 => vq = .int .i64 ((A : Int) - 1) | 152 => vq = .string ct | 153 => vq = .string s | 154 => vq = .int .i64 ((p : Int) + (A : Int) + (q1 : Int)) | 155 => vq = .int .i64 ((p : Int) + (A : Int) + (q1 : Int)) | 156 => vq = .int .i64 (D : Int) | 157 => vq = .int .i64 ((p : Int) + (A : Int) + (q1 : Int) + (D : Int)) | 158 => vq = .string dt | 159 => vq = .agg #[.int .i64 x2, .int .i64 x3, .int .i64 x4, .int .i64 x5, .int .i64 x6, .int .i64 xt, .string ct, .string dt] | 160 => vq = .int .i64 ((p : Int) + (A : Int) + (q1 : Int) + (D : Int) + (q2 : Int)) | 7 => vq = .int .i64 ((p : Int) + (A : Int) + (q1 : Int) + (D : Int) + (q2 : Int)) | 8 => vq = .int .i64 0 | _ => True) (U := fun o w' => o.dst = none → w'.heap[w.heap.size]? = some (.cells #[.int .i64 x2, .int .i64 x3, .int .i64 x4, .int .i64 x5, .int .i64 x6, .int .i64 xt, .string ct, .string dt] 44 (0, 0))) (w' := w2) (.pointer (some ⟨gb, 6, none⟩)) ?_ ?_ ?_ ?_ ?_
          · (clear hV hI hC; go_simp <;> (first | rfl | simp | (rw [IntKind.wrap_i64]; omega)))
          · exact hC
          · exact Or.inl rfl
          · intro d hd; cases hd; rfl
          · intro h; cases h
        case o143 =>
          intro Q a w2 hC hV hI
          have e142 : a.eval (.tmp 142) = .pointer (some ⟨gb, 6, none⟩) := hV 142 (by simp [Op.operands]) (by kernel_rfl)
          have f142 : a.tmps.getD 142 undef = .pointer (some ⟨gb, 6, none⟩) := e142
          have g142 : a.tmps[142]?.getD undef = .pointer (some ⟨gb, 6, none⟩) := by rw [← Array.getD_eq_getD_getElem?]; exact e142
          have hK := KC.out w2 hC.2.1
          refine opU_val (C := fun w' => Below w.heap.size w w' ∧ (w'.cell? ⟨gb, 2, none⟩ = some (.int .i64 x2) ∧ w'.cell? ⟨gb, 3, none⟩ = some (.int .i64 x3) ∧ w'.cell? ⟨gb, 4, none⟩ = some (.int .i64 x4) ∧ w'.cell? ⟨gb, 5, none⟩ = some (.int .i64 x5) ∧ w'.cell? ⟨gb, 6, none⟩ = some (.int .i64 x6) ∧ gb < w'.heap.size) ∧ (w'.heap[w.heap.size]? = some (.cells zeroC.cells.toArray 44 (0, 0)) ∨ w'.heap[w.heap.size]? = some (.cells #[.int .i64 x2, .int .i64 x3, .int .i64 x4, .int .i64 x5, .int .i64 x6, .int .i64 xt, .string ct, .string dt] 44 (0, 0)))) (St := fun x y => y.heap[w.heap.size]? = x.heap[w.heap.size]? ∨ y.heap[w.heap.size]? = some (.cells #[.int .i64 x2, .int .i64 x3, .int .i64 x4, .int .i64 x5, .int .i64 x6, .int .i64 xt, .string ct, .string dt] 44 (0, 0))) (V := fun dq vq _ => match dq with | 129 => vq = .slice (some ⟨gb, 0, none⟩) 8 cp | 130 => vq = .pointer (some ⟨gb, 2, none⟩) | 131 => vq = .int .i64 x2 | 132 => vq = .slice (some ⟨gb, 0, none⟩) 8 cp | 133 => vq = .pointer (some ⟨gb, 3, none⟩) | 134 => vq = .int .i64 x3 | 135 => vq = .slice (some ⟨gb, 0, none⟩) 8 cp | 136 => vq = .pointer (some ⟨gb, 4, none⟩) | 137 => vq = .int .i64 x4 | 138 => vq = .slice (some ⟨gb, 0, none⟩) 8 cp | 139 => vq = .pointer (some ⟨gb, 5, none⟩) | 140 => vq = .int .i64 x5 | 141 => vq = .slice (some ⟨gb, 0, none⟩) 8 cp | 142 => vq = .pointer (some ⟨gb, 6, none⟩) | 143 => vq = .int .i64 x6 | 144 => vq = .string s | 145 => vq = .int .i64 (j : Int) | 146 => vq = .int .i64 ((j : Int) + 16) | 147 => vq = .bool hi | 148 => vq = .int .i64 xt | 149 => vq = .string nm | 150 => vq = .int .i64 (A : Int) | 151 => vq = .int .i64 ((A : Int) - 1) | 152 => vq = .string ct | 153 => vq = .string s | 154 => vq = .int .i64 ((p : Int) + (A : Int) + (q1 : Int)) | 155 => vq = .int .i64 ((p : Int) + (A : Int) + (q1 : Int)) | 156 => vq = .int .i64 (D : Int) | 157 => vq = .int .i64 ((p : Int) + (A : Int) + (q1 : Int) + (D : Int)) | 158 => vq = .string dt | 159 => vq = .agg #[.int .i64 x2, .int .i64 x3, .int .i64 x4, .int .i64 x5, .int .i64 x6, .int .i64 xt, .string ct, .string dt] | 160 => vq = .int .i64 ((p : Int) + (A : Int) + (q1 : Int) + (D : Int) + (q2 : Int)) | 7 => vq = .int .i64 ((p : Int) + (A : Int) + (q1 : Int) + (D : Int) + (q2 : Int)) | 8 => vq = .int .i64 0 | _ => True) (U := fun o w' => o.dst = none → w'.heap[w.heap.size]? = some (.cells #[.int .i64 x2, .int .i64 x3, .int .i64 x4, .int .i64 x5, .int .i64 x6, .int .i64 xt, .string ct, .string dt] 44 (0, 0))) (w' := w2) (.int .i64 x6) ?_ ?_ ?_ ?_ ?_
          · (clear hV hI hC; go_simp <;> (first | rfl | simp | (rw [IntKind.wrap_i64]; omega)))
          · exact hC
          · exact Or.inl rfl
          · intro d hd; cases hd; rfl
          · intro h; cases h
        case o144 =>
          intro Q a w2 hC hV hI
          have e0 : a.eval (.tmp 0) = .string s := (hI 0 (by simp [Op.operands]) (by kernel_rfl)).trans rfl
          have f0 : a.tmps.getD 0 undef = .string s := e0
          have g0 : a.tmps[0]?.getD undef = .string s := by rw [← Array.getD_eq_getD_getElem?]; exact e0
          refine opU_val (C := fun w' => Below w.heap.size w w' ∧ (w'.cell? ⟨gb, 2, none⟩ = some (.int .i64 x2) ∧ w'.cell? ⟨gb, 3, none⟩ = some (.int .i64 x3) ∧ w'.cell? ⟨gb, 4, none⟩ = some (.int .i64 x4) ∧ w'.cell? ⟨gb, 5, none⟩ = some (.int .i64 x5) ∧ w'.cell? ⟨gb, 6, none⟩ = some (.int .i64 x6) ∧ gb < w'.heap.size) ∧ (w'.heap[w.heap.size]? = some (.cells zeroC.cells.toArray 44 (0, 0)) ∨ w'.heap[w.heap.size]? = some (.cells #[.int .i64 x2, .int .i64 x3, .int .i64 x4, .int .i64 x5, .int .i64 x6, .int .i64 xt, .string ct, .string dt] 44 (0, 0)))) (St := fun x y => y.heap[w.heap.size]? = x.heap[w.heap.size]? ∨ y.heap[w.heap.size]? = some (.cells #[.int .i64 x2, .int .i64 x3, .int .i64 x4, .int .i64 x5, .int .i64 x6, .int .i64 xt, .string ct, .string dt] 44 (0, 0))) (V := fun dq vq _ => match dq with | 129 => vq = .slice (some ⟨gb, 0, none⟩) 8 cp | 130 => vq = .pointer (some ⟨gb, 2, none⟩) | 131 => vq = .int .i64 x2 | 132 => vq = .slice (some ⟨gb, 0, none⟩) 8 cp | 133 => vq = .pointer (some ⟨gb, 3, none⟩) | 134 => vq = .int .i64 x3 | 135 => vq = .slice (some ⟨gb, 0, none⟩) 8 cp | 136 => vq = .pointer (some ⟨gb, 4, none⟩) | 137 => vq = .int .i64 x4 | 138 => vq = .slice (some ⟨gb, 0, none⟩) 8 cp | 139 => vq = .pointer (some ⟨gb, 5, none⟩) | 140 => vq = .int .i64 x5 | 141 => vq = .slice (some ⟨gb, 0, none⟩) 8 cp | 142 => vq = .pointer (some ⟨gb, 6, none⟩) | 143 => vq = .int .i64 x6 | 144 => vq = .string s | 145 => vq = .int .i64 (j : Int) | 146 => vq = .int .i64 ((j : Int) + 16) | 147 => vq = .bool hi | 148 => vq = .int .i64 xt | 149 => vq = .string nm | 150 => vq = .int .i64 (A : Int) | 151 => vq = .int .i64 ((A : Int) - 1) | 152 => vq = .string ct | 153 => vq = .string s | 154 => vq = .int .i64 ((p : Int) + (A : Int) + (q1 : Int)) | 155 => vq = .int .i64 ((p : Int) + (A : Int) + (q1 : Int)) | 156 => vq = .int .i64 (D : Int) | 157 => vq = .int .i64 ((p : Int) + (A : Int) + (q1 : Int) + (D : Int)) | 158 => vq = .string dt | 159 => vq = .agg #[.int .i64 x2, .int .i64 x3, .int .i64 x4, .int .i64 x5, .int .i64 x6, .int .i64 xt, .string ct, .string dt] | 160 => vq = .int .i64 ((p : Int) + (A : Int) + (q1 : Int) + (D : Int) + (q2 : Int)) | 7 => vq = .int .i64 ((p : Int) + (A : Int) + (q1 : Int) + (D : Int) + (q2 : Int)) | 8 => vq = .int .i64 0 | _ => True) (U := fun o w' => o.dst = none → w'.heap[w.heap.size]? = some (.cells #[.int .i64 x2, .int .i64 x3, .int .i64 x4, .int .i64 x5, .int .i64 x6, .int .i64 xt, .string ct, .string dt] 44 (0, 0))) (w' := w2) (.string s) ?_ ?_ ?_ ?_ ?_
          · (clear hV hI hC; go_simp <;> (first | rfl | simp | (rw [IntKind.wrap_i64]; omega)))
          · exact hC
          · exact Or.inl rfl
          · intro d hd; cases hd; rfl
          · intro h; cases h
        case o145 =>
          intro Q a w2 hC hV hI
          have e1 : a.eval (.tmp 1) = .int .i64 (j : Int) := (hI 1 (by simp [Op.operands]) (by kernel_rfl)).trans rfl
          have f1 : a.tmps.getD 1 undef = .int .i64 (j : Int) := e1
          have g1 : a.tmps[1]?.getD undef = .int .i64 (j : Int) := by rw [← Array.getD_eq_getD_getElem?]; exact e1
          refine opU_val (C := fun w' => Below w.heap.size w w' ∧ (w'.cell? ⟨gb, 2, none⟩ = some (.int .i64 x2) ∧ w'.cell? ⟨gb, 3, none⟩ = some (.int .i64 x3) ∧ w'.cell? ⟨gb, 4, none⟩ = some (.int .i64 x4) ∧ w'.cell? ⟨gb, 5, none⟩ = some (.int .i64 x5) ∧ w'.cell? ⟨gb, 6, none⟩ = some (.int .i64 x6) ∧ gb < w'.heap.size) ∧ (w'.heap[w.heap.size]? = some (.cells zeroC.cells.toArray 44 (0, 0)) ∨ w'.heap[w.heap.size]? = some (.cells #[.int .i64 x2, .int .i64 x3, .int .i64 x4, .int .i64 x5, .int .i64 x6, .int .i64 xt, .string ct, .string dt] 44 (0, 0)))) (St := fun x y => y.heap[w.heap.size]? = x.heap[w.heap.size]? ∨ y.heap[w.heap.size]? = some (.cells #[.int .i64 x2, .int .i64 x3, .int .i64 x4, .int .i64 x5, .int .i64 x6, .int .i64 xt, .string ct, .string dt] 44 (0, 0))) (V := fun dq vq _ => match dq with | 129 => vq = .slice (some ⟨gb, 0, none⟩) 8 cp | 130 => vq = .pointer (some ⟨gb, 2, none⟩) | 131 => vq = .int .i64 x2 | 132 => vq = .slice (some ⟨gb, 0, none⟩) 8 cp | 133 => vq = .pointer (some ⟨gb, 3, none⟩) | 134 => vq = .int .i64 x3 | 135 => vq = .slice (some ⟨gb, 0, none⟩) 8 cp | 136 => vq = .pointer (some ⟨gb, 4, none⟩) | 137 => vq = .int .i64 x4 | 138 => vq = .slice (some ⟨gb, 0, none⟩) 8 cp | 139 => vq = .pointer (some ⟨gb, 5, none⟩) | 140 => vq = .int .i64 x5 | 141 => vq = .slice (some ⟨gb, 0, none⟩) 8 cp | 142 => vq = .pointer (some ⟨gb, 6, none⟩) | 143 => vq = .int .i64 x6 | 144 => vq = .string s | 145 => vq = .int .i64 (j : Int) | 146 => vq = .int .i64 ((j : Int) + 16) | 147 => vq = .bool hi | 148 => vq = .int .i64 xt | 149 => vq = .string nm | 150 => vq = .int .i64 (A : Int) | 151 => vq = .int .i64 ((A : Int) - 1) | 152 => vq = .string ct | 153 => vq = .string s | 154 => vq = .int .i64 ((p : Int) + (A : Int) + (q1 : Int)) | 155 => vq = .int .i64 ((p : Int) + (A : Int) + (q1 : Int)) | 156 => vq = .int .i64 (D : Int) | 157 => vq = .int .i64 ((p : Int) + (A : Int) + (q1 : Int) + (D : Int)) | 158 => vq = .string dt | 159 => vq = .agg #[.int .i64 x2, .int .i64 x3, .int .i64 x4, .int .i64 x5, .int .i64 x6, .int .i64 xt, .string ct, .string dt] | 160 => vq = .int .i64 ((p : Int) + (A : Int) + (q1 : Int) + (D : Int) + (q2 : Int)) | 7 => vq = .int .i64 ((p : Int) + (A : Int) + (q1 : Int) + (D : Int) + (q2 : Int)) | 8 => vq = .int .i64 0 | _ => True) (U := fun o w' => o.dst = none → w'.heap[w.heap.size]? = some (.cells #[.int .i64 x2, .int .i64 x3, .int .i64 x4, .int .i64 x5, .int .i64 x6, .int .i64 xt, .string ct, .string dt] 44 (0, 0))) (w' := w2) (.int .i64 (j : Int)) ?_ ?_ ?_ ?_ ?_
          · (clear hV hI hC; go_simp <;> (first | rfl | simp | (rw [IntKind.wrap_i64]; omega)))
          · exact hC
          · exact Or.inl rfl
          · intro d hd; cases hd; rfl
          · intro h; cases h
        case o146 =>
          intro Q a w2 hC hV hI
          have e145 : a.eval (.tmp 145) = .int .i64 (j : Int) := hV 145 (by simp [Op.operands]) (by kernel_rfl)
          have f145 : a.tmps.getD 145 undef = .int .i64 (j : Int) := e145
          have g145 : a.tmps[145]?.getD undef = .int .i64 (j : Int) := by rw [← Array.getD_eq_getD_getElem?]; exact e145
          refine opU_val (C := fun w' => Below w.heap.size w w' ∧ (w'.cell? ⟨gb, 2, none⟩ = some (.int .i64 x2) ∧ w'.cell? ⟨gb, 3, none⟩ = some (.int .i64 x3) ∧ w'.cell? ⟨gb, 4, none⟩ = some (.int .i64 x4) ∧ w'.cell? ⟨gb, 5, none⟩ = some (.int .i64 x5) ∧ w'.cell? ⟨gb, 6, none⟩ = some (.int .i64 x6) ∧ gb < w'.heap.size) ∧ (w'.heap[w.heap.size]? = some (.cells zeroC.cells.toArray 44 (0, 0)) ∨ w'.heap[w.heap.size]? = some (.cells #[.int .i64 x2, .int .i64 x3, .int .i64 x4, .int .i64 x5, .int .i64 x6, .int .i64 xt, .string ct, .string dt] 44 (0, 0)))) (St := fun x y => y.heap[w.heap.size]? = x.heap[w.heap.size]? ∨ y.heap[w.heap.size]? = some (.cells #[.int .i64 x2, .int .i64 x3, .int .i64 x4, .int .i64 x5, .int .i64 x6, .int .i64 xt, .string ct, .string dt] 44 (0, 0))) (V := fun dq vq _ => match dq with | 129 => vq = .slice (some ⟨gb, 0, none⟩) 8 cp | 130 => vq = .pointer (some ⟨gb, 2, none⟩) | 131 => vq = .int .i64 x2 | 132 => vq = .slice (some ⟨gb, 0, none⟩) 8 cp | 133 => vq = .pointer (some ⟨gb, 3, none⟩) | 134 => vq = .int .i64 x3 | 135 => vq = .slice (some ⟨gb, 0, none⟩) 8 cp | 136 => vq = .pointer (some ⟨gb, 4, none⟩) | 137 => vq = .int .i64 x4 | 138 => vq = .slice (some ⟨gb, 0, none⟩) 8 cp | 139 => vq = .pointer (some ⟨gb, 5, none⟩) | 140 => vq = .int .i64 x5 | 141 => vq = .slice (some ⟨gb, 0, none⟩) 8 cp | 142 => vq = .pointer (some ⟨gb, 6, none⟩) | 143 => vq = .int .i64 x6 | 144 => vq = .string s | 145 => vq = .int .i64 (j : Int) | 146 => vq = .int .i64 ((j : Int) + 16) | 147 => vq = .bool hi | 148 => vq = .int .i64 xt | 149 => vq = .string nm | 150 => vq = .int .i64 (A : Int) | 151 => vq = .int .i64 ((A : Int) - 1) | 152 => vq = .string ct | 153 => vq = .string s | 154 => vq = .int .i64 ((p : Int) + (A : Int) + (q1 : Int)) | 155 => vq = .int .i64 ((p : Int) + (A : Int) + (q1 : Int)) | 156 => vq = .int .i64 (D : Int) | 157 => vq = .int .i64 ((p : Int) + (A : Int) + (q1 : Int) + (D : Int)) | 158 => vq = .string dt | 159 => vq = .agg #[.int .i64 x2, .int .i64 x3, .int .i64 x4, .int .i64 x5, .int .i64 x6, .int .i64 xt, .string ct, .string dt] | 160 => vq = .int .i64 ((p : Int) + (A : Int) + (q1 : Int) + (D : Int) + (q2 : Int)) | 7 => vq = .int .i64 ((p : Int) + (A : Int) + (q1 : Int) + (D : Int) + (q2 : Int)) | 8 => vq = .int .i64 0 | _ => True) (U := fun o w' => o.dst = none → w'.heap[w.heap.size]? = some (.cells #[.int .i64 x2, .int .i64 x3, .int .i64 x4, .int .i64 x5, .int .i64 x6, .int .i64 xt, .string ct, .string dt] 44 (0, 0))) (w' := w2) (.int .i64 ((j : Int) + 16)) ?_ ?_ ?_ ?_ ?_
          · (clear hV hI hC; go_simp <;> (first | rfl | simp | (rw [IntKind.wrap_i64]; omega)))
          · exact hC
          · exact Or.inl rfl
          · intro d hd; cases hd; rfl
          · intro h; cases h
        case o147 =>
          intro Q a w2 hC hV hI
          have e2 : a.eval (.tmp 2) = .bool hi := (hI 2 (by simp [Op.operands]) (by kernel_rfl)).trans rfl
          have f2 : a.tmps.getD 2 undef = .bool hi := e2
          have g2 : a.tmps[2]?.getD undef = .bool hi := by rw [← Array.getD_eq_getD_getElem?]; exact e2
          refine opU_val (C := fun w' => Below w.heap.size w w' ∧ (w'.cell? ⟨gb, 2, none⟩ = some (.int .i64 x2) ∧ w'.cell? ⟨gb, 3, none⟩ = some (.int .i64 x3) ∧ w'.cell? ⟨gb, 4, none⟩ = some (.int .i64 x4) ∧ w'.cell? ⟨gb, 5, none⟩ = some (.int .i64 x5) ∧ w'.cell? ⟨gb, 6, none⟩ = some (.int .i64 x6) ∧ gb < w'.heap.size) ∧ (w'.heap[w.heap.size]? = some (.cells zeroC.cells.toArray 44 (0, 0)) ∨ w'.heap[w.heap.size]? = some (.cells #[.int .i64 x2, .int .i64 x3, .int .i64 x4, .int .i64 x5, .int .i64 x6, .int .i64 xt, .string ct, .string dt] 44 (0, 0)))) (St := fun x y => y.heap[w.heap.size]? = x.heap[w.heap.size]? ∨ y.heap[w.heap.size]? = some (.cells #[.int .i64 x2, .int .i64 x3, .int .i64 x4, .int .i64 x5, .int .i64 x6, .int .i64 xt, .string ct, .string dt] 44 (0, 0))) (V := fun dq vq _ => match dq with | 129 => vq = .slice (some ⟨gb, 0, none⟩) 8 cp | 130 => vq = .pointer (some ⟨gb, 2, none⟩) | 131 => vq = .int .i64 x2 | 132 => vq = .slice (some ⟨gb, 0, none⟩) 8 cp | 133 => vq = .pointer (some ⟨gb, 3, none⟩) | 134 => vq = .int .i64 x3 | 135 => vq = .slice (some ⟨gb, 0, none⟩) 8 cp | 136 => vq = .pointer (some ⟨gb, 4, none⟩) | 137 => vq = .int .i64 x4 | 138 => vq = .slice (some ⟨gb, 0, none⟩) 8 cp | 139 => vq = .pointer (some ⟨gb, 5, none⟩) | 140 => vq = .int .i64 x5 | 141 => vq = .slice (some ⟨gb, 0, none⟩) 8 cp | 142 => vq = .pointer (some ⟨gb, 6, none⟩) | 143 => vq = .int .i64 x6 | 144 => vq = .string s | 145 => vq = .int .i64 (j : Int) | 146 => vq = .int .i64 ((j : Int) + 16) | 147 => vq = .bool hi | 148 => vq = .int .i64 xt | 149 => vq = .string nm | 150 => vq = .int .i64 (A : Int) | 151 => vq = .int .i64 ((A : Int) - 1) | 152 => vq = .string ct | 153 => vq = .string s | 154 => vq = .int .i64 ((p : Int) + (A : Int) + (q1 : Int)) | 155 => vq = .int .i64 ((p : Int) + (A : Int) + (q1 : Int)) | 156 => vq = .int .i64 (D : Int) | 157 => vq = .int .i64 ((p : Int) + (A : Int) + (q1 : Int) + (D : Int)) | 158 => vq = .string dt | 159 => vq = .agg #[.int .i64 x2, .int .i64 x3, .int .i64 x4, .int .i64 x5, .int .i64 x6, .int .i64 xt, .string ct, .string dt] | 160 => vq = .int .i64 ((p : Int) + (A : Int) + (q1 : Int) + (D : Int) + (q2 : Int)) | 7 => vq = .int .i64 ((p : Int) + (A : Int) + (q1 : Int) + (D : Int) + (q2 : Int)) | 8 => vq = .int .i64 0 | _ => True) (U := fun o w' => o.dst = none → w'.heap[w.heap.size]? = some (.cells #[.int .i64 x2, .int .i64 x3, .int .i64 x4, .int .i64 x5, .int .i64 x6, .int .i64 xt, .string ct, .string dt] 44 (0, 0))) (w' := w2) (.bool hi) ?_ ?_ ?_ ?_ ?_
          · (clear hV hI hC; go_simp <;> (first | rfl | simp | (rw [IntKind.wrap_i64]; omega)))
          · exact hC
          · exact Or.inl rfl
          · intro d hd; cases hd; rfl
          · intro h; cases h
        case o148 =>
          intro Q a w2 hC hV hI
          have e144 : a.eval (.tmp 144) = .string s := hV 144 (by simp [Op.operands, Call.operands]) (by kernel_rfl)
          have f144 : a.tmps.getD 144 undef = .string s := e144
          have g144 : a.tmps[144]?.getD undef = .string s := by rw [← Array.getD_eq_getD_getElem?]; exact e144
          have e146 : a.eval (.tmp 146) = .int .i64 ((j : Int) + 16) := hV 146 (by simp [Op.operands, Call.operands]) (by kernel_rfl)
          have f146 : a.tmps.getD 146 undef = .int .i64 ((j : Int) + 16) := e146
          have g146 : a.tmps[146]?.getD undef = .int .i64 ((j : Int) + 16) := by rw [← Array.getD_eq_getD_getElem?]; exact e146
          have e147 : a.eval (.tmp 147) = .bool hi := hV 147 (by simp [Op.operands, Call.operands]) (by kernel_rfl)
          have f147 : a.tmps.getD 147 undef = .bool hi := e147
          have g147 : a.tmps[147]?.getD undef = .bool hi := by rw [← Array.getD_eq_getD_getElem?]; exact e147
          refine opU_call (C := fun w' => Below w.heap.size w w' ∧ (w'.cell? ⟨gb, 2, none⟩ = some (.int .i64 x2) ∧ w'.cell? ⟨gb, 3, none⟩ = some (.int .i64 x3) ∧ w'.cell? ⟨gb, 4, none⟩ = some (.int .i64 x4) ∧ w'.cell? ⟨gb, 5, none⟩ = some (.int .i64 x5) ∧ w'.cell? ⟨gb, 6, none⟩ = some (.int .i64 x6) ∧ gb < w'.heap.size) ∧ (w'.heap[w.heap.size]? = some (.cells zeroC.cells.toArray 44 (0, 0)) ∨ w'.heap[w.heap.size]? = some (.cells #[.int .i64 x2, .int .i64 x3, .int .i64 x4, .int .i64 x5, .int .i64 x6, .int .i64 xt, .string ct, .string dt] 44 (0, 0)))) (St := fun x y => y.heap[w.heap.size]? = x.heap[w.heap.size]? ∨ y.heap[w.heap.size]? = some (.cells #[.int .i64 x2, .int .i64 x3, .int .i64 x4, .int .i64 x5, .int .i64 x6, .int .i64 xt, .string ct, .string dt] 44 (0, 0))) (V := fun dq vq _ => match dq with | 129 => vq = .slice (some ⟨gb, 0, none⟩) 8 cp | 130 => vq = .pointer (some ⟨gb, 2, none⟩) | 131 => vq = .int .i64 x2 | 132 => vq = .slice (some ⟨gb, 0, none⟩) 8 cp | 133 => vq = .pointer (some ⟨gb, 3, none⟩) | 134 => vq = .int .i64 x3 | 135 => vq = .slice (some ⟨gb, 0, none⟩) 8 cp | 136 => vq = .pointer (some ⟨gb, 4, none⟩) | 137 => vq = .int .i64 x4 | 138 => vq = .slice (some ⟨gb, 0, none⟩) 8 cp | 139 => vq = .pointer (some ⟨gb, 5, none⟩) | 140 => vq = .int .i64 x5 | 141 => vq = .slice (some ⟨gb, 0, none⟩) 8 cp | 142 => vq = .pointer (some ⟨gb, 6, none⟩) | 143 => vq = .int .i64 x6 | 144 => vq = .string s | 145 => vq = .int .i64 (j : Int) | 146 => vq = .int .i64 ((j : Int) + 16) | 147 => vq = .bool hi | 148 => vq = .int .i64 xt | 149 => vq = .string nm | 150 => vq = .int .i64 (A : Int) | 151 => vq = .int .i64 ((A : Int) - 1) | 152 => vq = .string ct | 153 => vq = .string s | 154 => vq = .int .i64 ((p : Int) + (A : Int) + (q1 : Int)) | 155 => vq = .int .i64 ((p : Int) + (A : Int) + (q1 : Int)) | 156 => vq = .int .i64 (D : Int) | 157 => vq = .int .i64 ((p : Int) + (A : Int) + (q1 : Int) + (D : Int)) | 158 => vq = .string dt | 159 => vq = .agg #[.int .i64 x2, .int .i64 x3, .int .i64 x4, .int .i64 x5, .int .i64 x6, .int .i64 xt, .string ct, .string dt] | 160 => vq = .int .i64 ((p : Int) + (A : Int) + (q1 : Int) + (D : Int) + (q2 : Int)) | 7 => vq = .int .i64 ((p : Int) + (A : Int) + (q1 : Int) + (D : Int) + (q2 : Int)) | 8 => vq = .int .i64 0 | _ => True) (U := fun o w' => o.dst = none → w'.heap[w.heap.size]? = some (.cells #[.int .i64 x2, .int .i64 x3, .int .i64 x4, .int .i64 x5, .int .i64 x6, .int .i64 xt, .string ct, .string dt] 44 (0, 0))) (f := 46) (args := #[.string s, .int .i64 ((j : Int) + 16), .bool hi]) (R := fun v y => v = .int .i64 xt ∧ Below w2.heap.size w2 y) ?_ ((HG3.out w2).mono ?_) ?_
          · (clear hV hI hC; go_simp <;> (first | rfl | simp | (rw [IntKind.wrap_i64]; omega)))
          · rintro e y ⟨rfl, hb⟩; exact ⟨_, rfl, rfl, hb⟩
          · rintro v y ⟨rfl, hb⟩; exact ⟨⟨hC.1.trans (hb.mono hC.1.size), ⟨(hb.cell (p := ⟨gb, 2, none⟩) hC.2.1.2.2.2.2.2).trans hC.2.1.1, (hb.cell (p := ⟨gb, 3, none⟩) hC.2.1.2.2.2.2.2).trans hC.2.1.2.1, (hb.cell (p := ⟨gb, 4, none⟩) hC.2.1.2.2.2.2.2).trans hC.2.1.2.2.1, (hb.cell (p := ⟨gb, 5, none⟩) hC.2.1.2.2.2.2.2).trans hC.2.1.2.2.2.1, (hb.cell (p := ⟨gb, 6, none⟩) hC.2.1.2.2.2.2.2).trans hC.2.1.2.2.2.2.1, Nat.lt_of_lt_of_le hC.2.1.2.2.2.2.2 hb.size⟩, hC.2.2.imp (fun h => (hb.block _ (obj_ltB h)).trans h) (fun h => (hb.block _ (obj_ltB h)).trans h)⟩, .inl (hb.block _ (hC.2.2.elim obj_ltB obj_ltB)), (by intro d hd; cases hd; rfl), fun h => (by cases h)⟩
        case o149 =>
          intro Q a w2 hC hV hI
          have e16 : a.eval (.tmp 16) = .string nm := (hI 16 (by simp [Op.operands]) (by kernel_rfl)).trans rfl
          have f16 : a.tmps.getD 16 undef = .string nm := e16
          have g16 : a.tmps[16]?.getD undef = .string nm := by rw [← Array.getD_eq_getD_getElem?]; exact e16
          refine opU_val (C := fun w' => Below w.heap.size w w' ∧ (w'.cell? ⟨gb, 2, none⟩ = some (.int .i64 x2) ∧ w'.cell? ⟨gb, 3, none⟩ = some (.int .i64 x3) ∧ w'.cell? ⟨gb, 4, none⟩ = some (.int .i64 x4) ∧ w'.cell? ⟨gb, 5, none⟩ = some (.int .i64 x5) ∧ w'.cell? ⟨gb, 6, none⟩ = some (.int .i64 x6) ∧ gb < w'.heap.size) ∧ (w'.heap[w.heap.size]? = some (.cells zeroC.cells.toArray 44 (0, 0)) ∨ w'.heap[w.heap.size]? = some (.cells #[.int .i64 x2, .int .i64 x3, .int .i64 x4, .int .i64 x5, .int .i64 x6, .int .i64 xt, .string ct, .string dt] 44 (0, 0)))) (St := fun x y => y.heap[w.heap.size]? = x.heap[w.heap.size]? ∨ y.heap[w.heap.size]? = some (.cells #[.int .i64 x2, .int .i64 x3, .int .i64 x4, .int .i64 x5, .int .i64 x6, .int .i64 xt, .string ct, .string dt] 44 (0, 0))) (V := fun dq vq _ => match dq with | 129 => vq = .slice (some ⟨gb, 0, none⟩) 8 cp | 130 => vq = .pointer (some ⟨gb, 2, none⟩) | 131 => vq = .int .i64 x2 | 132 => vq = .slice (some ⟨gb, 0, none⟩) 8 cp | 133 => vq = .pointer (some ⟨gb, 3, none⟩) | 134 => vq = .int .i64 x3 | 135 => vq = .slice (some ⟨gb, 0, none⟩) 8 cp | 136 => vq = .pointer (some ⟨gb, 4, none⟩) | 137 => vq = .int .i64 x4 | 138 => vq = .slice (some ⟨gb, 0, none⟩) 8 cp | 139 => vq = .pointer (some ⟨gb, 5, none⟩) | 140 => vq = .int .i64 x5 | 141 => vq = .slice (some ⟨gb, 0, none⟩) 8 cp | 142 => vq = .pointer (some ⟨gb, 6, none⟩) | 143 => vq = .int .i64 x6 | 144 => vq = .string s | 145 => vq = .int .i64 (j : Int) | 146 => vq = .int .i64 ((j : Int) + 16) | 147 => vq = .bool hi | 148 => vq = .int .i64 xt | 149 => vq = .string nm | 150 => vq = .int .i64 (A : Int) | 151 => vq = .int .i64 ((A : Int) - 1) | 152 => vq = .string ct | 153 => vq = .string s | 154 => vq = .int .i64 ((p : Int) + (A : Int) + (q1 : Int)) | 155 => vq = .int .i64 ((p : Int) + (A : Int) + (q1 : Int)) | 156 => vq = .int .i64 (D : Int) | 157 => vq = .int .i64 ((p : Int) + (A : Int) + (q1 : Int) + (D : Int)) | 158 => vq = .string dt | 159 => vq = .agg #[.int .i64 x2, .int .i64 x3, .int .i64 x4, .int .i64 x5, .int .i64 x6, .int .i64 xt, .string ct, .string dt] | 160 => vq = .int .i64 ((p : Int) + (A : Int) + (q1 : Int) + (D : Int) + (q2 : Int)) | 7 => vq = .int .i64 ((p : Int) + (A : Int) + (q1 : Int) + (D : Int) + (q2 : Int)) | 8 => vq = .int .i64 0 | _ => True) (U := fun o w' => o.dst = none → w'.heap[w.heap.size]? = some (.cells #[.int .i64 x2, .int .i64 x3, .int .i64 x4, .int .i64 x5, .int .i64 x6, .int .i64 xt, .string ct, .string dt] 44 (0, 0))) (w' := w2) (.string nm) ?_ ?_ ?_ ?_ ?_
          · (clear hV hI hC; go_simp <;> (first | rfl | simp | (rw [IntKind.wrap_i64]; omega)))
          · exact hC
          · exact Or.inl rfl
          · intro d hd; cases hd; rfl
          · intro h; cases h
        case o150 =>
          intro Q a w2 hC hV hI
          have e11 : a.eval (.tmp 11) = .int .i64 (A : Int) := (hI 11 (by simp [Op.operands]) (by kernel_rfl)).trans rfl
          have f11 : a.tmps.getD 11 undef = .int .i64 (A : Int) := e11
          have g11 : a.tmps[11]?.getD undef = .int .i64 (A : Int) := by rw [← Array.getD_eq_getD_getElem?]; exact e11
          refine opU_val (C := fun w' => Below w.heap.size w w' ∧ (w'.cell? ⟨gb, 2, none⟩ = some (.int .i64 x2) ∧ w'.cell? ⟨gb, 3, none⟩ = some (.int .i64 x3) ∧ w'.cell? ⟨gb, 4, none⟩ = some (.int .i64 x4) ∧ w'.cell? ⟨gb, 5, none⟩ = some (.int .i64 x5) ∧ w'.cell? ⟨gb, 6, none⟩ = some (.int .i64 x6) ∧ gb < w'.heap.size) ∧ (w'.heap[w.heap.size]? = some (.cells zeroC.cells.toArray 44 (0, 0)) ∨ w'.heap[w.heap.size]? = some (.cells #[.int .i64 x2, .int .i64 x3, .int .i64 x4, .int .i64 x5, .int .i64 x6, .int .i64 xt, .string ct, .string dt] 44 (0, 0)))) (St := fun x y => y.heap[w.heap.size]? = x.heap[w.heap.size]? ∨ y.heap[w.heap.size]? = some (.cells #[.int .i64 x2, .int .i64 x3, .int .i64 x4, .int .i64 x5, .int .i64 x6, .int .i64 xt, .string ct, .string dt] 44 (0, 0))) (V := fun dq vq _ => match dq with | 129 => vq = .slice (some ⟨gb, 0, none⟩) 8 cp | 130 => vq = .pointer (some ⟨gb, 2, none⟩) | 131 => vq = .int .i64 x2 | 132 => vq = .slice (some ⟨gb, 0, none⟩) 8 cp | 133 => vq = .pointer (some ⟨gb, 3, none⟩) | 134 => vq = .int .i64 x3 | 135 => vq = .slice (some ⟨gb, 0, none⟩) 8 cp | 136 => vq = .pointer (some ⟨gb, 4, none⟩) | 137 => vq = .int .i64 x4 | 138 => vq = .slice (some ⟨gb, 0, none⟩) 8 cp | 139 => vq = .pointer (some ⟨gb, 5, none⟩) | 140 => vq = .int .i64 x5 | 141 => vq = .slice (some ⟨gb, 0, none⟩) 8 cp | 142 => vq = .pointer (some ⟨gb, 6, none⟩) | 143 => vq = .int .i64 x6 | 144 => vq = .string s | 145 => vq = .int .i64 (j : Int) | 146 => vq = .int .i64 ((j : Int) + 16) | 147 => vq = .bool hi | 148 => vq = .int .i64 xt | 149 => vq = .string nm | 150 => vq = .int .i64 (A : Int) | 151 => vq = .int .i64 ((A : Int) - 1) | 152 => vq = .string ct | 153 => vq = .string s | 154 => vq = .int .i64 ((p : Int) + (A : Int) + (q1 : Int)) | 155 => vq = .int .i64 ((p : Int) + (A : Int) + (q1 : Int)) | 156 => vq = .int .i64 (D : Int) | 157 => vq = .int .i64 ((p : Int) + (A : Int) + (q1 : Int) + (D : Int)) | 158 => vq = .string dt | 159 => vq = .agg #[.int .i64 x2, .int .i64 x3, .int .i64 x4, .int .i64 x5, .int .i64 x6, .int .i64 xt, .string ct, .string dt] | 160 => vq = .int .i64 ((p : Int) + (A : Int) + (q1 : Int) + (D : Int) + (q2 : Int)) | 7 => vq = .int .i64 ((p : Int) + (A : Int) + (q1 : Int) + (D : Int) + (q2 : Int)) | 8 => vq = .int .i64 0 | _ => True) (U := fun o w' => o.dst = none → w'.heap[w.heap.size]? = some (.cells #[.int .i64 x2, .int .i64 x3, .int .i64 x4, .int .i64 x5, .int .i64 x6, .int .i64 xt, .string ct, .string dt] 44 (0, 0))) (w' := w2) (.int .i64 (A : Int)) ?_ ?_ ?_ ?_ ?_
          · (clear hV hI hC; go_simp <;> (first | rfl | simp | (rw [IntKind.wrap_i64]; omega)))
          · exact hC
          · exact Or.inl rfl
          · intro d hd; cases hd; rfl
          · intro h; cases h
        case o151 =>
          intro Q a w2 hC hV hI
          have e150 : a.eval (.tmp 150) = .int .i64 (A : Int) := hV 150 (by simp [Op.operands]) (by kernel_rfl)
          have f150 : a.tmps.getD 150 undef = .int .i64 (A : Int) := e150
          have g150 : a.tmps[150]?.getD undef = .int .i64 (A : Int) := by rw [← Array.getD_eq_getD_getElem?]; exact e150
          refine opU_val (C := fun w' => Below w.heap.size w w' ∧ (w'.cell? ⟨gb, 2, none⟩ = some (.int .i64 x2) ∧ w'.cell? ⟨gb, 3, none⟩ = some (.int .i64 x3) ∧ w'.cell? ⟨gb, 4, none⟩ = some (.int .i64 x4) ∧ w'.cell? ⟨gb, 5, none⟩ = some (.int .i64 x5) ∧ w'.cell? ⟨gb, 6, none⟩ = some (.int .i64 x6) ∧ gb < w'.heap.size) ∧ (w'.heap[w.heap.size]? = some (.cells zeroC.cells.toArray 44 (0, 0)) ∨ w'.heap[w.heap.size]? = some (.cells #[.int .i64 x2, .int .i64 x3, .int .i64 x4, .int .i64 x5, .int .i64 x6, .int .i64 xt, .string ct, .string dt] 44 (0, 0)))) (St := fun x y => y.heap[w.heap.size]? = x.heap[w.heap.size]? ∨ y.heap[w.heap.size]? = some (.cells #[.int .i64 x2, .int .i64 x3, .int .i64 x4, .int .i64 x5, .int .i64 x6, .int .i64 xt, .string ct, .string dt] 44 (0, 0))) (V := fun dq vq _ => match dq with | 129 => vq = .slice (some ⟨gb, 0, none⟩) 8 cp | 130 => vq = .pointer (some ⟨gb, 2, none⟩) | 131 => vq = .int .i64 x2 | 132 => vq = .slice (some ⟨gb, 0, none⟩) 8 cp | 133 => vq = .pointer (some ⟨gb, 3, none⟩) | 134 => vq = .int .i64 x3 | 135 => vq = .slice (some ⟨gb, 0, none⟩) 8 cp | 136 => vq = .pointer (some ⟨gb, 4, none⟩) | 137 => vq = .int .i64 x4 | 138 => vq = .slice (some ⟨gb, 0, none⟩) 8 cp | 139 => vq = .pointer (some ⟨gb, 5, none⟩) | 140 => vq = .int .i64 x5 | 141 => vq = .slice (some ⟨gb, 0, none⟩) 8 cp | 142 => vq = .pointer (some ⟨gb, 6, none⟩) | 143 => vq = .int .i64 x6 | 144 => vq = .string s | 145 => vq = .int .i64 (j : Int) | 146 => vq = .int .i64 ((j : Int) + 16) | 147 => vq = .bool hi | 148 => vq = .int .i64 xt | 149 => vq = .string nm | 150 => vq = .int .i64 (A : Int) | 151 => vq = .int .i64 ((A : Int) - 1) | 152 => vq = .string ct | 153 => vq = .string s | 154 => vq = .int .i64 ((p : Int) + (A : Int) + (q1 : Int)) | 155 => vq = .int .i64 ((p : Int) + (A : Int) + (q1 : Int)) | 156 => vq = .int .i64 (D : Int) | 157 => vq = .int .i64 ((p : Int) + (A : Int) + (q1 : Int) + (D : Int)) | 158 => vq = .string dt | 159 => vq = .agg #[.int .i64 x2, .int .i64 x3, .int .i64 x4, .int .i64 x5, .int .i64 x6, .int .i64 xt, .string ct, .string dt] | 160 => vq = .int .i64 ((p : Int) + (A : Int) + (q1 : Int) + (D : Int) + (q2 : Int)) | 7 => vq = .int .i64 ((p : Int) + (A : Int) + (q1 : Int) + (D : Int) + (q2 : Int)) | 8 => vq = .int .i64 0 | _ => True) (U := fun o w' => o.dst = none → w'.heap[w.heap.size]? = some (.cells #[.int .i64 x2, .int .i64 x3, .int .i64 x4, .int .i64 x5, .int .i64 x6, .int .i64 xt, .string ct, .string dt] 44 (0, 0))) (w' := w2) (.int .i64 ((A : Int) - 1)) ?_ ?_ ?_ ?_ ?_
          · (clear hV hI hC; go_simp <;> (first | rfl | simp | (rw [IntKind.wrap_i64]; omega)))
          · exact hC
          · exact Or.inl rfl
          · intro d hd; cases hd; rfl
          · intro h; cases h
        case o152 =>
          intro Q a w2 hC hV hI
          have e149 : a.eval (.tmp 149) = .string nm := hV 149 (by simp [Op.operands]) (by kernel_rfl)
          have f149 : a.tmps.getD 149 undef = .string nm := e149
          have g149 : a.tmps[149]?.getD undef = .string nm := by rw [← Array.getD_eq_getD_getElem?]; exact e149
          have e151 : a.eval (.tmp 151) = .int .i64 ((A : Int) - 1) := hV 151 (by simp [Op.operands]) (by kernel_rfl)
          have f151 : a.tmps.getD 151 undef = .int .i64 ((A : Int) - 1) := e151
          have g151 : a.tmps[151]?.getD undef = .int .i64 ((A : Int) - 1) := by rw [← Array.getD_eq_getD_getElem?]; exact e151
          have q9 := HSc2.out w2
          refine opU_val (C := fun w' => Below w.heap.size w w' ∧ (w'.cell? ⟨gb, 2, none⟩ = some (.int .i64 x2) ∧ w'.cell? ⟨gb, 3, none⟩ = some (.int .i64 x3) ∧ w'.cell? ⟨gb, 4, none⟩ = some (.int .i64 x4) ∧ w'.cell? ⟨gb, 5, none⟩ = some (.int .i64 x5) ∧ w'.cell? ⟨gb, 6, none⟩ = some (.int .i64 x6) ∧ gb < w'.heap.size) ∧ (w'.heap[w.heap.size]? = some (.cells zeroC.cells.toArray 44 (0, 0)) ∨ w'.heap[w.heap.size]? = some (.cells #[.int .i64 x2, .int .i64 x3, .int .i64 x4, .int .i64 x5, .int .i64 x6, .int .i64 xt, .string ct, .string dt] 44 (0, 0)))) (St := fun x y => y.heap[w.heap.size]? = x.heap[w.heap.size]? ∨ y.heap[w.heap.size]? = some (.cells #[.int .i64 x2, .int .i64 x3, .int .i64 x4, .int .i64 x5, .int .i64 x6, .int .i64 xt, .string ct, .string dt] 44 (0, 0))) (V := fun dq vq _ => match dq with | 129 => vq = .slice (some ⟨gb, 0, none⟩) 8 cp | 130 => vq = .pointer (some ⟨gb, 2, none⟩) | 131 => vq = .int .i64 x2 | 132 => vq = .slice (some ⟨gb, 0, none⟩) 8 cp | 133 => vq = .pointer (some ⟨gb, 3, none⟩) | 134 => vq = .int .i64 x3 | 135 => vq = .slice (some ⟨gb, 0, none⟩) 8 cp | 136 => vq = .pointer (some ⟨gb, 4, none⟩) | 137 => vq = .int .i64 x4 | 138 => vq = .slice (some ⟨gb, 0, none⟩) 8 cp | 139 => vq = .pointer (some ⟨gb, 5, none⟩) | 140 => vq = .int .i64 x5 | 141 => vq = .slice (some ⟨gb, 0, none⟩) 8 cp | 142 => vq = .pointer (some ⟨gb, 6, none⟩) | 143 => vq = .int .i64 x6 | 144 => vq = .string s | 145 => vq = .int .i64 (j : Int) | 146 => vq = .int .i64 ((j : Int) + 16) | 147 => vq = .bool hi | 148 => vq = .int .i64 xt | 149 => vq = .string nm | 150 => vq = .int .i64 (A : Int) | 151 => vq = .int .i64 ((A : Int) - 1) | 152 => vq = .string ct | 153 => vq = .string s | 154 => vq = .int .i64 ((p : Int) + (A : Int) + (q1 : Int)) | 155 => vq = .int .i64 ((p : Int) + (A : Int) + (q1 : Int)) | 156 => vq = .int .i64 (D : Int) | 157 => vq = .int .i64 ((p : Int) + (A : Int) + (q1 : Int) + (D : Int)) | 158 => vq = .string dt | 159 => vq = .agg #[.int .i64 x2, .int .i64 x3, .int .i64 x4, .int .i64 x5, .int .i64 x6, .int .i64 xt, .string ct, .string dt] | 160 => vq = .int .i64 ((p : Int) + (A : Int) + (q1 : Int) + (D : Int) + (q2 : Int)) | 7 => vq = .int .i64 ((p : Int) + (A : Int) + (q1 : Int) + (D : Int) + (q2 : Int)) | 8 => vq = .int .i64 0 | _ => True) (U := fun o w' => o.dst = none → w'.heap[w.heap.size]? = some (.cells #[.int .i64 x2, .int .i64 x3, .int .i64 x4, .int .i64 x5, .int .i64 x6, .int .i64 xt, .string ct, .string dt] 44 (0, 0))) (w' := w2) (.string ct) ?_ ?_ ?_ ?_ ?_
          · (clear hV hI hC; go_simp <;> (first | rfl | simp | (rw [IntKind.wrap_i64]; omega)))
          · exact hC
          · exact Or.inl rfl
          · intro d hd; cases hd; rfl
          · intro h; cases h
        case o153 =>
          intro Q a w2 hC hV hI
          have e0 : a.eval (.tmp 0) = .string s := (hI 0 (by simp [Op.operands]) (by kernel_rfl)).trans rfl
          have f0 : a.tmps.getD 0 undef = .string s := e0
          have g0 : a.tmps[0]?.getD undef = .string s := by rw [← Array.getD_eq_getD_getElem?]; exact e0
          refine opU_val (C := fun w' => Below w.heap.size w w' ∧ (w'.cell? ⟨gb, 2, none⟩ = some (.int .i64 x2) ∧ w'.cell? ⟨gb, 3, none⟩ = some (.int .i64 x3) ∧ w'.cell? ⟨gb, 4, none⟩ = some (.int .i64 x4) ∧ w'.cell? ⟨gb, 5, none⟩ = some (.int .i64 x5) ∧ w'.cell? ⟨gb, 6, none⟩ = some (.int .i64 x6) ∧ gb < w'.heap.size) ∧ (w'.heap[w.heap.size]? = some (.cells zeroC.cells.toArray 44 (0, 0)) ∨ w'.heap[w.heap.size]? = some (.cells #[.int .i64 x2, .int .i64 x3, .int .i64 x4, .int .i64 x5, .int .i64 x6, .int .i64 xt, .string ct, .string dt] 44 (0, 0)))) (St := fun x y => y.heap[w.heap.size]? = x.heap[w.heap.size]? ∨ y.heap[w.heap.size]? = some (.cells #[.int .i64 x2, .int .i64 x3, .int .i64 x4, .int .i64 x5, .int .i64 x6, .int .i64 xt, .string ct, .string dt] 44 (0, 0))) (V := fun dq vq _ => match dq with | 129 => vq = .slice (some ⟨gb, 0, none⟩) 8 cp | 130 => vq = .pointer (some ⟨gb, 2, none⟩) | 131 => vq = .int .i64 x2 | 132 => vq = .slice (some ⟨gb, 0, none⟩) 8 cp | 133 => vq = .pointer (some ⟨gb, 3, none⟩) | 134 => vq = .int .i64 x3 | 135 => vq = .slice (some ⟨gb, 0, none⟩) 8 cp | 136 => vq = .pointer (some ⟨gb, 4, none⟩) | 137 => vq = .int .i64 x4 | 138 => vq = .slice (some ⟨gb, 0, none⟩) 8 cp | 139 => vq = .pointer (some ⟨gb, 5, none⟩) | 140 => vq = .int .i64 x5 | 141 => vq = .slice (some ⟨gb, 0, none⟩) 8 cp | 142 => vq = .pointer (some ⟨gb, 6, none⟩) | 143 => vq = .int .i64 x6 | 144 => vq = .string s | 145 => vq = .int .i64 (j : Int) | 146 => vq = .int .i64 ((j : Int) + 16) | 147 => vq = .bool hi | 148 => vq = .int .i64 xt | 149 => vq = .string nm | 150 => vq = .int .i64 (A : Int) | 151 => vq = .int .i64 ((A : Int) - 1) | 152 => vq = .string ct | 153 => vq = .string s | 154 => vq = .int .i64 ((p : Int) + (A : Int) + (q1 : Int)) | 155 => vq = .int .i64 ((p : Int) + (A : Int) + (q1 : Int)) | 156 => vq = .int .i64 (D : Int) | 157 => vq = .int .i64 ((p : Int) + (A : Int) + (q1 : Int) + (D : Int)) | 158 => vq = .string dt | 159 => vq = .agg #[.int .i64 x2, .int .i64 x3, .int .i64 x4, .int .i64 x5, .int .i64 x6, .int .i64 xt, .string ct, .string dt] | 160 => vq = .int .i64 ((p : Int) + (A : Int) + (q1 : Int) + (D : Int) + (q2 : Int)) | 7 => vq = .int .i64 ((p : Int) + (A : Int) + (q1 : Int) + (D : Int) + (q2 : Int)) | 8 => vq = .int .i64 0 | _ => True) (U := fun o w' => o.dst = none → w'.heap[w.heap.size]? = some (.cells #[.int .i64 x2, .int .i64 x3, .int .i64 x4, .int .i64 x5, .int .i64 x6, .int .i64 xt, .string ct, .string dt] 44 (0, 0))) (w' := w2) (.string s) ?_ ?_ ?_ ?_ ?_
          · (clear hV hI hC; go_simp <;> (first | rfl | simp | (rw [IntKind.wrap_i64]; omega)))
          · exact hC
          · exact Or.inl rfl
          · intro d hd; cases hd; rfl
          · intro h; cases h
        case o154 =>
          intro Q a w2 hC hV hI
          have e14 : a.eval (.tmp 14) = .int .i64 ((p : Int) + (A : Int) + (q1 : Int)) := (hI 14 (by simp [Op.operands]) (by kernel_rfl)).trans rfl
          have f14 : a.tmps.getD 14 undef = .int .i64 ((p : Int) + (A : Int) + (q1 : Int)) := e14
          have g14 : a.tmps[14]?.getD undef = .int .i64 ((p : Int) + (A : Int) + (q1 : Int)) := by rw [← Array.getD_eq_getD_getElem?]; exact e14
          refine opU_val (C := fun w' => Below w.heap.size w w' ∧ (w'.cell? ⟨gb, 2, none⟩ = some (.int .i64 x2) ∧ w'.cell? ⟨gb, 3, none⟩ = some (.int .i64 x3) ∧ w'.cell? ⟨gb, 4, none⟩ = some (.int .i64 x4) ∧ w'.cell? ⟨gb, 5, none⟩ = some (.int .i64 x5) ∧ w'.cell? ⟨gb, 6, none⟩ = some (.int .i64 x6) ∧ gb < w'.heap.size) ∧ (w'.heap[w.heap.size]? = some (.cells zeroC.cells.toArray 44 (0, 0)) ∨ w'.heap[w.heap.size]? = some (.cells #[.int .i64 x2, .int .i64 x3, .int .i64 x4, .int .i64 x5, .int .i64 x6, .int .i64 xt, .string ct, .string dt] 44 (0, 0)))) (St := fun x y => y.heap[w.heap.size]? = x.heap[w.heap.size]? ∨ y.heap[w.heap.size]? = some (.cells #[.int .i64 x2, .int .i64 x3, .int .i64 x4, .int .i64 x5, .int .i64 x6, .int .i64 xt, .string ct, .string dt] 44 (0, 0))) (V := fun dq vq _ => match dq with | 129 => vq = .slice (some ⟨gb, 0, none⟩) 8 cp | 130 => vq = .pointer (some ⟨gb, 2, none⟩) | 131 => vq = .int .i64 x2 | 132 => vq = .slice (some ⟨gb, 0, none⟩) 8 cp | 133 => vq = .pointer (some ⟨gb, 3, none⟩) | 134 => vq = .int .i64 x3 | 135 => vq = .slice (some ⟨gb, 0, none⟩) 8 cp | 136 => vq = .pointer (some ⟨gb, 4, none⟩) | 137 => vq = .int .i64 x4 | 138 => vq = .slice (some ⟨gb, 0, none⟩) 8 cp | 139 => vq = .pointer (some ⟨gb, 5, none⟩) | 140 => vq = .int .i64 x5 | 141 => vq = .slice (some ⟨gb, 0, none⟩) 8 cp | 142 => vq = .pointer (some ⟨gb, 6, none⟩) | 143 => vq = .int .i64 x6 | 144 => vq = .string s | 145 => vq = .int .i64 (j : Int) | 146 => vq = .int .i64 ((j : Int) + 16) | 147 => vq = .bool hi | 148 => vq = .int .i64 xt | 149 => vq = .string nm | 150 => vq = .int .i64 (A : Int) | 151 => vq = .int .i64 ((A : Int) - 1) | 152 => vq = .string ct | 153 => vq = .string s | 154 => vq = .int .i64 ((p : Int) + (A : Int) + (q1 : Int)) | 155 => vq = .int .i64 ((p : Int) + (A : Int) + (q1 : Int)) | 156 => vq = .int .i64 (D : Int) | 157 => vq = .int .i64 ((p : Int) + (A : Int) + (q1 : Int) + (D : Int)) | 158 => vq = .string dt | 159 => vq = .agg #[.int .i64 x2, .int .i64 x3, .int .i64 x4, .int .i64 x5, .int .i64 x6, .int .i64 xt, .string ct, .string dt] | 160 => vq = .int .i64 ((p : Int) + (A : Int) + (q1 : Int) + (D : Int) + (q2 : Int)) | 7 => vq = .int .i64 ((p : Int) + (A : Int) + (q1 : Int) + (D : Int) + (q2 : Int)) | 8 => vq = .int .i64 0 | _ => True) (U := fun o w' => o.dst = none → w'.heap[w.heap.size]? = some (.cells #[.int .i64 x2, .int .i64 x3, .int .i64 x4, .int .i64 x5, .int .i64 x6, .int .i64 xt, .string ct, .string dt] 44 (0, 0))) (w' := w2) (.int .i64 ((p : Int) + (A : Int) + (q1 : Int))) ?_ ?_ ?_ ?_ ?_
          · (clear hV hI hC; go_simp <;> (first | rfl | simp | (rw [IntKind.wrap_i64]; omega)))
          · exact hC
          · exact Or.inl rfl
          · intro d hd; cases hd; rfl
          · intro h; cases h
        case o155 =>
          intro Q a w2 hC hV hI
          have e14 : a.eval (.tmp 14) = .int .i64 ((p : Int) + (A : Int) + (q1 : Int)) := (hI 14 (by simp [Op.operands]) (by kernel_rfl)).trans rfl
          have f14 : a.tmps.getD 14 undef = .int .i64 ((p : Int) + (A : Int) + (q1 : Int)) := e14
          have g14 : a.tmps[14]?.getD undef = .int .i64 ((p : Int) + (A : Int) + (q1 : Int)) := by rw [← Array.getD_eq_getD_getElem?]; exact e14
          refine opU_val (C := fun w' => Below w.heap.size w w' ∧ (w'.cell? ⟨gb, 2, none⟩ = some (.int .i64 x2) ∧ w'.cell? ⟨gb, 3, none⟩ = some (.int .i64 x3) ∧ w'.cell? ⟨gb, 4, none⟩ = some (.int .i64 x4) ∧ w'.cell? ⟨gb, 5, none⟩ = some (.int .i64 x5) ∧ w'.cell? ⟨gb, 6, none⟩ = some (.int .i64 x6) ∧ gb < w'.heap.size) ∧ (w'.heap[w.heap.size]? = some (.cells zeroC.cells.toArray 44 (0, 0)) ∨ w'.heap[w.heap.size]? = some (.cells #[.int .i64 x2, .int .i64 x3, .int .i64 x4, .int .i64 x5, .int .i64 x6, .int .i64 xt, .string ct, .string dt] 44 (0, 0)))) (St := fun x y => y.heap[w.heap.size]? = x.heap[w.heap.size]? ∨ y.heap[w.heap.size]? = some (.cells #[.int .i64 x2, .int .i64 x3, .int .i64 x4, .int .i64 x5, .int .i64 x6, .int .i64 xt, .string ct, .string dt] 44 (0, 0))) (V := fun dq vq _ => match dq with | 129 => vq = .slice (some ⟨gb, 0, none⟩) 8 cp | 130 => vq = .pointer (some ⟨gb, 2, none⟩) | 131 => vq = .int .i64 x2 | 132 => vq = .slice (some ⟨gb, 0, none⟩) 8 cp | 133 => vq = .pointer (some ⟨gb, 3, none⟩) | 134 => vq = .int .i64 x3 | 135 => vq = .slice (some ⟨gb, 0, none⟩) 8 cp | 136 => vq = .pointer (some ⟨gb, 4, none⟩) | 137 => vq = .int .i64 x4 | 138 => vq = .slice (some ⟨gb, 0, none⟩) 8 cp | 139 => vq = .pointer (some ⟨gb, 5, none⟩) | 140 => vq = .int .i64 x5 | 141 => vq = .slice (some ⟨gb, 0, none⟩) 8 cp | 142 => vq = .pointer (some ⟨gb, 6, none⟩) | 143 => vq = .int .i64 x6 | 144 => vq = .string s | 145 => vq = .int .i64 (j : Int) | 146 => vq = .int .i64 ((j : Int) + 16) | 147 => vq = .bool hi | 148 => vq = .int .i64 xt | 149 => vq = .string nm | 150 => vq = .int .i64 (A : Int) | 151 => vq = .int .i64 ((A : Int) - 1) | 152 => vq = .string ct | 153 => vq = .string s | 154 => vq = .int .i64 ((p : Int) + (A : Int) + (q1 : Int)) | 155 => vq = .int .i64 ((p : Int) + (A : Int) + (q1 : Int)) | 156 => vq = .int .i64 (D : Int) | 157 => vq = .int .i64 ((p : Int) + (A : Int) + (q1 : Int) + (D : Int)) | 158 => vq = .string dt | 159 => vq = .agg #[.int .i64 x2, .int .i64 x3, .int .i64 x4, .int .i64 x5, .int .i64 x6, .int .i64 xt, .string ct, .string dt] | 160 => vq = .int .i64 ((p : Int) + (A : Int) + (q1 : Int) + (D : Int) + (q2 : Int)) | 7 => vq = .int .i64 ((p : Int) + (A : Int) + (q1 : Int) + (D : Int) + (q2 : Int)) | 8 => vq = .int .i64 0 | _ => True) (U := fun o w' => o.dst = none → w'.heap[w.heap.size]? = some (.cells #[.int .i64 x2, .int .i64 x3, .int .i64 x4, .int .i64 x5, .int .i64 x6, .int .i64 xt, .string ct, .string dt] 44 (0, 0))) (w' := w2) (.int .i64 ((p : Int) + (A : Int) + (q1 : Int))) ?_ ?_ ?_ ?_ ?_
          · (clear hV hI hC; go_simp <;> (first | rfl | simp | (rw [IntKind.wrap_i64]; omega)))
          · exact hC
          · exact Or.inl rfl
          · intro d hd; cases hd; rfl
          · intro h; cases h
        case o156 =>
          intro Q a w2 hC hV hI
          have e12 : a.eval (.tmp 12) = .int .i64 (D : Int) := (hI 12 (by simp [Op.operands]) (by kernel_rfl)).trans rfl
          have f12 : a.tmps.getD 12 undef = .int .i64 (D : Int) := e12
          have g12 : a.tmps[12]?.getD undef = .int .i64 (D : Int) := by rw [← Array.getD_eq_getD_getElem?]; exact e12
          refine opU_val (C := fun w' => Below w.heap.size w w' ∧ (w'.cell? ⟨gb, 2, none⟩ = some (.int .i64 x2) ∧ w'.cell? ⟨gb, 3, none⟩ = some (.int .i64 x3) ∧ w'.cell? ⟨gb, 4, none⟩ = some (.int .i64 x4) ∧ w'.cell? ⟨gb, 5, none⟩ = some (.int .i64 x5) ∧ w'.cell? ⟨gb, 6, none⟩ = some (.int .i64 x6) ∧ gb < w'.heap.size) ∧ (w'.heap[w.heap.size]? = some (.cells zeroC.cells.toArray 44 (0, 0)) ∨ w'.heap[w.heap.size]? = some (.cells #[.int .i64 x2, .int .i64 x3, .int .i64 x4, .int .i64 x5, .int .i64 x6, .int .i64 xt, .string ct, .string dt] 44 (0, 0)))) (St := fun x y => y.heap[w.heap.size]? = x.heap[w.heap.size]? ∨ y.heap[w.heap.size]? = some (.cells #[.int .i64 x2, .int .i64 x3, .int .i64 x4, .int .i64 x5, .int .i64 x6, .int .i64 xt, .string ct, .string dt] 44 (0, 0))) (V := fun dq vq _ => match dq with | 129 => vq = .slice (some ⟨gb, 0, none⟩) 8 cp | 130 => vq = .pointer (some ⟨gb, 2, none⟩) | 131 => vq = .int .i64 x2 | 132 => vq = .slice (some ⟨gb, 0, none⟩) 8 cp | 133 => vq = .pointer (some ⟨gb, 3, none⟩) | 134 => vq = .int .i64 x3 | 135 => vq = .slice (some ⟨gb, 0, none⟩) 8 cp | 136 => vq = .pointer (some ⟨gb, 4, none⟩) | 137 => vq = .int .i64 x4 | 138 => vq = .slice (some ⟨gb, 0, none⟩) 8 cp | 139 => vq = .pointer (some ⟨gb, 5, none⟩) | 140 => vq = .int .i64 x5 | 141 => vq = .slice (some ⟨gb, 0, none⟩) 8 cp | 142 => vq = .pointer (some ⟨gb, 6, none⟩) | 143 => vq = .int .i64 x6 | 144 => vq = .string s | 145 => vq = .int .i64 (j : Int) | 146 => vq = .int .i64 ((j : Int) + 16) | 147 => vq = .bool hi | 148 => vq = .int .i64 xt | 149 => vq = .string nm | 150 => vq = .int .i64 (A : Int) | 151 => vq = .int .i64 ((A : Int) - 1) | 152 => vq = .string ct | 153 => vq = .string s | 154 => vq = .int .i64 ((p : Int) + (A : Int) + (q1 : Int)) | 155 => vq = .int .i64 ((p : Int) + (A : Int) + (q1 : Int)) | 156 => vq = .int .i64 (D : Int) | 157 => vq = .int .i64 ((p : Int) + (A : Int) + (q1 : Int) + (D : Int)) | 158 => vq = .string dt | 159 => vq = .agg #[.int .i64 x2, .int .i64 x3, .int .i64 x4, .int .i64 x5, .int .i64 x6, .int .i64 xt, .string ct, .string dt] | 160 => vq = .int .i64 ((p : Int) + (A : Int) + (q1 : Int) + (D : Int) + (q2 : Int)) | 7 => vq = .int .i64 ((p : Int) + (A : Int) + (q1 : Int) + (D : Int) + (q2 : Int)) | 8 => vq = .int .i64 0 | _ => True) (U := fun o w' => o.dst = none → w'.heap[w.heap.size]? = some (.cells #[.int .i64 x2, .int .i64 x3, .int .i64 x4, .int .i64 x5, .int .i64 x6, .int .i64 xt, .string ct, .string dt] 44 (0, 0))) (w' := w2) (.int .i64 (D : Int)) ?_ ?_ ?_ ?_ ?_
          · (clear hV hI hC; go_simp <;> (first | rfl | simp | (rw [IntKind.wrap_i64]; omega)))
          · exact hC
          · exact Or.inl rfl
          · intro d hd; cases hd; rfl
          · intro h; cases h
        case o157 =>
          intro Q a w2 hC hV hI
          have e155 : a.eval (.tmp 155) = .int .i64 ((p : Int) + (A : Int) + (q1 : Int)) := hV 155 (by simp [Op.operands]) (by kernel_rfl)
          have f155 : a.tmps.getD 155 undef = .int .i64 ((p : Int) + (A : Int) + (q1 : Int)) := e155
          have g155 : a.tmps[155]?.getD undef = .int .i64 ((p : Int) + (A : Int) + (q1 : Int)) := by rw [← Array.getD_eq_getD_getElem?]; exact e155
          have e156 : a.eval (.tmp 156) = .int .i64 (D : Int) := hV 156 (by simp [Op.operands]) (by kernel_rfl)
          have f156 : a.tmps.getD 156 undef = .int .i64 (D : Int) := e156
          have g156 : a.tmps[156]?.getD undef = .int .i64 (D : Int) := by rw [← Array.getD_eq_getD_getElem?]; exact e156
          refine opU_val (C := fun w' => Below w.heap.size w w' ∧ (w'.cell? ⟨gb, 2, none⟩ = some (.int .i64 x2) ∧ w'.cell? ⟨gb, 3, none⟩ = some (.int .i64 x3) ∧ w'.cell? ⟨gb, 4, none⟩ = some (.int .i64 x4) ∧ w'.cell? ⟨gb, 5, none⟩ = some (.int .i64 x5) ∧ w'.cell? ⟨gb, 6, none⟩ = some (.int .i64 x6) ∧ gb < w'.heap.size) ∧ (w'.heap[w.heap.size]? = some (.cells zeroC.cells.toArray 44 (0, 0)) ∨ w'.heap[w.heap.size]? = some (.cells #[.int .i64 x2, .int .i64 x3, .int .i64 x4, .int .i64 x5, .int .i64 x6, .int .i64 xt, .string ct, .string dt] 44 (0, 0)))) (St := fun x y => y.heap[w.heap.size]? = x.heap[w.heap.size]? ∨ y.heap[w.heap.size]? = some (.cells #[.int .i64 x2, .int .i64 x3, .int .i64 x4, .int .i64 x5, .int .i64 x6, .int .i64 xt, .string ct, .string dt] 44 (0, 0))) (V := fun dq vq _ => match dq with | 129 => vq = .slice (some ⟨gb, 0, none⟩) 8 cp | 130 => vq = .pointer (some ⟨gb, 2, none⟩) | 131 => vq = .int .i64 x2 | 132 => vq = .slice (some ⟨gb, 0, none⟩) 8 cp | 133 => vq = .pointer (some ⟨gb, 3, none⟩) | 134 => vq = .int .i64 x3 | 135 => vq = .slice (some ⟨gb, 0, none⟩) 8 cp | 136 => vq = .pointer (some ⟨gb, 4, none⟩) | 137 => vq = .int .i64 x4 | 138 => vq = .slice (some ⟨gb, 0, none⟩) 8 cp | 139 => vq = .pointer (some ⟨gb, 5, none⟩) | 140 => vq = .int .i64 x5 | 141 => vq = .slice (some ⟨gb, 0, none⟩) 8 cp | 142 => vq = .pointer (some ⟨gb, 6, none⟩) | 143 => vq = .int .i64 x6 | 144 => vq = .string s | 145 => vq = .int .i64 (j : Int) | 146 => vq = .int .i64 ((j : Int) + 16) | 147 => vq = .bool hi | 148 => vq = .int .i64 xt | 149 => vq = .string nm | 150 => vq = .int .i64 (A : Int) | 151 => vq = .int .i64 ((A : Int) - 1) | 152 => vq = .string ct | 153 => vq = .string s | 154 => vq = .int .i64 ((p : Int) + (A : Int) + (q1 : Int)) | 155 => vq = .int .i64 ((p : Int) + (A : Int) + (q1 : Int)) | 156 => vq = .int .i64 (D : Int) | 157 => vq = .int .i64 ((p : Int) + (A : Int) + (q1 : Int) + (D : Int)) | 158 => vq = .string dt | 159 => vq = .agg #[.int .i64 x2, .int .i64 x3, .int .i64 x4, .int .i64 x5, .int .i64 x6, .int .i64 xt, .string ct, .string dt] | 160 => vq = .int .i64 ((p : Int) + (A : Int) + (q1 : Int) + (D : Int) + (q2 : Int)) | 7 => vq = .int .i64 ((p : Int) + (A : Int) + (q1 : Int) + (D : Int) + (q2 : Int)) | 8 => vq = .int .i64 0 | _ => True) (U := fun o w' => o.dst = none → w'.heap[w.heap.size]? = some (.cells #[.int .i64 x2, .int .i64 x3, .int .i64 x4, .int .i64 x5, .int .i64 x6, .int .i64 xt, .string ct, .string dt] 44 (0, 0))) (w' := w2) (.int .i64 ((p : Int) + (A : Int) + (q1 : Int) + (D : Int))) ?_ ?_ ?_ ?_ ?_
          · (clear hV hI hC; go_simp <;> (first | rfl | simp | (rw [IntKind.wrap_i64]; omega)))
          · exact hC
          · exact Or.inl rfl
          · intro d hd; cases hd; rfl
          · intro h; cases h
        case o158 =>
          intro Q a w2 hC hV hI
          have e153 : a.eval (.tmp 153) = .string s := hV 153 (by simp [Op.operands]) (by kernel_rfl)
          have f153 : a.tmps.getD 153 undef = .string s := e153
          have g153 : a.tmps[153]?.getD undef = .string s := by rw [← Array.getD_eq_getD_getElem?]; exact e153
          have e154 : a.eval (.tmp 154) = .int .i64 ((p : Int) + (A : Int) + (q1 : Int)) := hV 154 (by simp [Op.operands]) (by kernel_rfl)
          have f154 : a.tmps.getD 154 undef = .int .i64 ((p : Int) + (A : Int) + (q1 : Int)) := e154
          have g154 : a.tmps[154]?.getD undef = .int .i64 ((p : Int) + (A : Int) + (q1 : Int)) := by rw [← Array.getD_eq_getD_getElem?]; exact e154
          have e157 : a.eval (.tmp 157) = .int .i64 ((p : Int) + (A : Int) + (q1 : Int) + (D : Int)) := hV 157 (by simp [Op.operands]) (by kernel_rfl)
          have f157 : a.tmps.getD 157 undef = .int .i64 ((p : Int) + (A : Int) + (q1 : Int) + (D : Int)) := e157
          have g157 : a.tmps[157]?.getD undef = .int .i64 ((p : Int) + (A : Int) + (q1 : Int) + (D : Int)) := by rw [← Array.getD_eq_getD_getElem?]; exact e157
          have q9 := HS5.out w2
          refine opU_val (C := fun w' => Below w.heap.size w w' ∧ (w'.cell? ⟨gb, 2, none⟩ = some (.int .i64 x2) ∧ w'.cell? ⟨gb, 3, none⟩ = some (.int .i64 x3) ∧ w'.cell? ⟨gb, 4, none⟩ = some (.int .i64 x4) ∧ w'.cell? ⟨gb, 5, none⟩ = some (.int .i64 x5) ∧ w'.cell? ⟨gb, 6, none⟩ = some (.int .i64 x6) ∧ gb < w'.heap.size) ∧ (w'.heap[w.heap.size]? = some (.cells zeroC.cells.toArray 44 (0, 0)) ∨ w'.heap[w.heap.size]? = some (.cells #[.int .i64 x2, .int .i64 x3, .int .i64 x4, .int .i64 x5, .int .i64 x6, .int .i64 xt, .string ct, .string dt] 44 (0, 0)))) (St := fun x y => y.heap[w.heap.size]? = x.heap[w.heap.size]? ∨ y.heap[w.heap.size]? = some (.cells #[.int .i64 x2, .int .i64 x3, .int .i64 x4, .int .i64 x5, .int .i64 x6, .int .i64 xt, .string ct, .string dt] 44 (0, 0))) (V := fun dq vq _ => match dq with | 129 => vq = .slice (some ⟨gb, 0, none⟩) 8 cp | 130 => vq = .pointer (some ⟨gb, 2, none⟩) | 131 => vq = .int .i64 x2 | 132 => vq = .slice (some ⟨gb, 0, none⟩) 8 cp | 133 => vq = .pointer (some ⟨gb, 3, none⟩) | 134 => vq = .int .i64 x3 | 135 => vq = .slice (some ⟨gb, 0, none⟩) 8 cp | 136 => vq = .pointer (some ⟨gb, 4, none⟩) | 137 => vq = .int .i64 x4 | 138 => vq = .slice (some ⟨gb, 0, none⟩) 8 cp | 139 => vq = .pointer (some ⟨gb, 5, none⟩) | 140 => vq = .int .i64 x5 | 141 => vq = .slice (some ⟨gb, 0, none⟩) 8 cp | 142 => vq = .pointer (some ⟨gb, 6, none⟩) | 143 => vq = .int .i64 x6 | 144 => vq = .string s | 145 => vq = .int .i64 (j : Int) | 146 => vq = .int .i64 ((j : Int) + 16) | 147 => vq = .bool hi | 148 => vq = .int .i64 xt | 149 => vq = .string nm | 150 => vq = .int .i64 (A : Int) | 151 => vq = .int .i64 ((A : Int) - 1) | 152 => vq = .string ct | 153 => vq = .string s | 154 => vq = .int .i64 ((p : Int) + (A : Int) + (q1 : Int)) | 155 => vq = .int .i64 ((p : Int) + (A : Int) + (q1 : Int)) | 156 => vq = .int .i64 (D : Int) | 157 => vq = .int .i64 ((p : Int) + (A : Int) + (q1 : Int) + (D : Int)) | 158 => vq = .string dt | 159 => vq = .agg #[.int .i64 x2, .int .i64 x3, .int .i64 x4, .int .i64 x5, .int .i64 x6, .int .i64 xt, .string ct, .string dt] | 160 => vq = .int .i64 ((p : Int) + (A : Int) + (q1 : Int) + (D : Int) + (q2 : Int)) | 7 => vq = .int .i64 ((p : Int) + (A : Int) + (q1 : Int) + (D : Int) + (q2 : Int)) | 8 => vq = .int .i64 0 | _ => True) (U := fun o w' => o.dst = none → w'.heap[w.heap.size]? = some (.cells #[.int .i64 x2, .int .i64 x3, .int .i64 x4, .int .i64 x5, .int .i64 x6, .int .i64 xt, .string ct, .string dt] 44 (0, 0))) (w' := w2) (.string dt) ?_ ?_ ?_ ?_ ?_
          · (clear hV hI hC; go_simp <;> (first | rfl | simp | (rw [IntKind.wrap_i64]; omega)))
          · exact hC
          · exact Or.inl rfl
          · intro d hd; cases hd; rfl
          · intro h; cases h
        case o159 =>
          intro Q a w2 hC hV hI
          have e131 : a.eval (.tmp 131) = .int .i64 x2 := hV 131 (by simp [Op.operands]) (by kernel_rfl)
          have f131 : a.tmps.getD 131 undef = .int .i64 x2 := e131
          have g131 : a.tmps[131]?.getD undef = .int .i64 x2 := by rw [← Array.getD_eq_getD_getElem?]; exact e131
          have e134 : a.eval (.tmp 134) = .int .i64 x3 := hV 134 (by simp [Op.operands]) (by kernel_rfl)
          have f134 : a.tmps.getD 134 undef = .int .i64 x3 := e134
          have g134 : a.tmps[134]?.getD undef = .int .i64 x3 := by rw [← Array.getD_eq_getD_getElem?]; exact e134
          have e137 : a.eval (.tmp 137) = .int .i64 x4 := hV 137 (by simp [Op.operands]) (by kernel_rfl)
          have f137 : a.tmps.getD 137 undef = .int .i64 x4 := e137
          have g137 : a.tmps[137]?.getD undef = .int .i64 x4 := by rw [← Array.getD_eq_getD_getElem?]; exact e137
          have e140 : a.eval (.tmp 140) = .int .i64 x5 := hV 140 (by simp [Op.operands]) (by kernel_rfl)
          have f140 : a.tmps.getD 140 undef = .int .i64 x5 := e140
          have g140 : a.tmps[140]?.getD undef = .int .i64 x5 := by rw [← Array.getD_eq_getD_getElem?]; exact e140
          have e143 : a.eval (.tmp 143) = .int .i64 x6 := hV 143 (by simp [Op.operands]) (by kernel_rfl)
          have f143 : a.tmps.getD 143 undef = .int .i64 x6 := e143
          have g143 : a.tmps[143]?.getD undef = .int .i64 x6 := by rw [← Array.getD_eq_getD_getElem?]; exact e143
          have e148 : a.eval (.tmp 148) = .int .i64 xt := hV 148 (by simp [Op.operands]) (by kernel_rfl)
          have f148 : a.tmps.getD 148 undef = .int .i64 xt := e148
          have g148 : a.tmps[148]?.getD undef = .int .i64 xt := by rw [← Array.getD_eq_getD_getElem?]; exact e148
          have e152 : a.eval (.tmp 152) = .string ct := hV 152 (by simp [Op.operands]) (by kernel_rfl)
          have f152 : a.tmps.getD 152 undef = .string ct := e152
          have g152 : a.tmps[152]?.getD undef = .string ct := by rw [← Array.getD_eq_getD_getElem?]; exact e152
          have e158 : a.eval (.tmp 158) = .string dt := hV 158 (by simp [Op.operands]) (by kernel_rfl)
          have f158 : a.tmps.getD 158 undef = .string dt := e158
          have g158 : a.tmps[158]?.getD undef = .string dt := by rw [← Array.getD_eq_getD_getElem?]; exact e158
          refine opU_val (C := fun w' => Below w.heap.size w w' ∧ (w'.cell? ⟨gb, 2, none⟩ = some (.int .i64 x2) ∧ w'.cell? ⟨gb, 3, none⟩ = some (.int .i64 x3) ∧ w'.cell? ⟨gb, 4, none⟩ = some (.int .i64 x4) ∧ w'.cell? ⟨gb, 5, none⟩ = some (.int .i64 x5) ∧ w'.cell? ⟨gb, 6, none⟩ = some (.int .i64 x6) ∧ gb < w'.heap.size) ∧ (w'.heap[w.heap.size]? = some (.cells zeroC.cells.toArray 44 (0, 0)) ∨ w'.heap[w.heap.size]? = some (.cells #[.int .i64 x2, .int .i64 x3, .int .i64 x4, .int .i64 x5, .int .i64 x6, .int .i64 xt, .string ct, .string dt] 44 (0, 0)))) (St := fun x y => y.heap[w.heap.size]? = x.heap[w.heap.size]? ∨ y.heap[w.heap.size]? = some (.cells #[.int .i64 x2, .int .i64 x3, .int .i64 x4, .int .i64 x5, .int .i64 x6, .int .i64 xt, .string ct, .string dt] 44 (0, 0))) (V := fun dq vq _ => match dq with | 129 => vq = .slice (some ⟨gb, 0, none⟩) 8 cp | 130 => vq = .pointer (some ⟨gb, 2, none⟩) | 131 => vq = .int .i64 x2 | 132 => vq = .slice (some ⟨gb, 0, none⟩) 8 cp | 133 => vq = .pointer (some ⟨gb, 3, none⟩) | 134 => vq = .int .i64 x3 | 135 => vq = .slice (some ⟨gb, 0, none⟩) 8 cp | 136 => vq = .pointer (some ⟨gb, 4, none⟩) | 137 => vq = .int .i64 x4 | 138 => vq = .slice (some ⟨gb, 0, none⟩) 8 cp | 139 => vq = .pointer (some ⟨gb, 5, none⟩) | 140 => vq = .int .i64 x5 | 141 => vq = .slice (some ⟨gb, 0, none⟩) 8 cp | 142 => vq = .pointer (some ⟨gb, 6, none⟩) | 143 => vq = .int .i64 x6 | 144 => vq = .string s | 145 => vq = .int .i64 (j : Int) | 146 => vq = .int .i64 ((j : Int) + 16) | 147 => vq = .bool hi | 148 => vq = .int .i64 xt | 149 => vq = .string nm | 150 => vq = .int .i64 (A : Int) | 151 => vq = .int .i64 ((A : Int) - 1) | 152 => vq = .string ct | 153 => vq = .string s | 154 => vq = .int .i64 ((p : Int) + (A : Int) + (q1 : Int)) | 155 => vq = .int .i64 ((p : Int) + (A : Int) + (q1 : Int)) | 156 => vq = .int .i64 (D : Int) | 157 => vq = .int .i64 ((p : Int) + (A : Int) + (q1 : Int) + (D : Int)) | 158 => vq = .string dt | 159 => vq = .agg #[.int .i64 x2, .int .i64 x3, .int .i64 x4, .int .i64 x5, .int .i64 x6, .int .i64 xt, .string ct, .string dt] | 160 => vq = .int .i64 ((p : Int) + (A : Int) + (q1 : Int) + (D : Int) + (q2 : Int)) | 7 => vq = .int .i64 ((p : Int) + (A : Int) + (q1 : Int) + (D : Int) + (q2 : Int)) | 8 => vq = .int .i64 0 | _ => True) (U := fun o w' => o.dst = none → w'.heap[w.heap.size]? = some (.cells #[.int .i64 x2, .int .i64 x3, .int .i64 x4, .int .i64 x5, .int .i64 x6, .int .i64 xt, .string ct, .string dt] 44 (0, 0))) (w' := w2) (.agg #[.int .i64 x2, .int .i64 x3, .int .i64 x4, .int .i64 x5, .int .i64 x6, .int .i64 xt, .string ct, .string dt]) ?_ ?_ ?_ ?_ ?_
          · (clear hV hI hC; go_simp <;> (first | rfl | simp | (rw [IntKind.wrap_i64]; omega)))
          · exact hC
          · exact Or.inl rfl
          · intro d hd; cases hd; rfl
          · intro h; cases h
        case o160 =>
          intro Q a w2 hC hV hI
          have e15 : a.eval (.tmp 15) = .int .i64 ((p : Int) + (A : Int) + (q1 : Int) + (D : Int) + (q2 : Int)) := (hI 15 (by simp [Op.operands]) (by kernel_rfl)).trans rfl
          have f15 : a.tmps.getD 15 undef = .int .i64 ((p : Int) + (A : Int) + (q1 : Int) + (D : Int) + (q2 : Int)) := e15
          have g15 : a.tmps[15]?.getD undef = .int .i64 ((p : Int) + (A : Int) + (q1 : Int) + (D : Int) + (q2 : Int)) := by rw [← Array.getD_eq_getD_getElem?]; exact e15
          refine opU_val (C := fun w' => Below w.heap.size w w' ∧ (w'.cell? ⟨gb, 2, none⟩ = some (.int .i64 x2) ∧ w'.cell? ⟨gb, 3, none⟩ = some (.int .i64 x3) ∧ w'.cell? ⟨gb, 4, none⟩ = some (.int .i64 x4) ∧ w'.cell? ⟨gb, 5, none⟩ = some (.int .i64 x5) ∧ w'.cell? ⟨gb, 6, none⟩ = some (.int .i64 x6) ∧ gb < w'.heap.size) ∧ (w'.heap[w.heap.size]? = some (.cells zeroC.cells.toArray 44 (0, 0)) ∨ w'.heap[w.heap.size]? = some (.cells #[.int .i64 x2, .int .i64 x3, .int .i64 x4, .int .i64 x5, .int .i64 x6, .int .i64 xt, .string ct, .string dt] 44 (0, 0)))) (St := fun x y => y.heap[w.heap.size]? = x.heap[w.heap.size]? ∨ y.heap[w.heap.size]? = some (.cells #[.int .i64 x2, .int .i64 x3, .int .i64 x4, .int .i64 x5, .int .i64 x6, .int .i64 xt, .string ct, .string dt] 44 (0, 0))) (V := fun dq vq _ => match dq with | 129 => vq = .slice (some ⟨gb, 0, none⟩) 8 cp | 130 => vq = .pointer (some ⟨gb, 2, none⟩) | 131 => vq = .int .i64 x2 | 132 => vq = .slice (some ⟨gb, 0, none⟩) 8 cp | 133 => vq = .pointer (some ⟨gb, 3, none⟩) | 134 => vq = .int .i64 x3 | 135 => vq = .slice (some ⟨gb, 0, none⟩) 8 cp | 136 => vq = .pointer (some ⟨gb, 4, none⟩) | 137 => vq = .int .i64 x4 | 138 => vq = .slice (some ⟨gb, 0, none⟩) 8 cp | 139 => vq = .pointer (some ⟨gb, 5, none⟩) | 140 => vq = .int .i64 x5 | 141 => vq = .slice (some ⟨gb, 0, none⟩) 8 cp | 142 => vq = .pointer (some ⟨gb, 6, none⟩) | 143 => vq = .int .i64 x6 | 144 => vq = .string s | 145 => vq = .int .i64 (j : Int) | 146 => vq = .int .i64 ((j : Int) + 16) | 147 => vq = .bool hi | 148 => vq = .int .i64 xt | 149 => vq = .string nm | 150 => vq = .int .i64 (A : Int) | 151 => vq = .int .i64 ((A : Int) - 1) | 152 => vq = .string ct | 153 => vq = .string s | 154 => vq = .int .i64 ((p : Int) + (A : Int) + (q1 : Int)) | 155 => vq = .int .i64 ((p : Int) + (A : Int) + (q1 : Int)) | 156 => vq = .int .i64 (D : Int) | 157 => vq = .int .i64 ((p : Int) + (A : Int) + (q1 : Int) + (D : Int)) | 158 => vq = .string dt | 159 => vq = .agg #[.int .i64 x2, .int .i64 x3, .int .i64 x4, .int .i64 x5, .int .i64 x6, .int .i64 xt, .string ct, .string dt] | 160 => vq = .int .i64 ((p : Int) + (A : Int) + (q1 : Int) + (D : Int) + (q2 : Int)) | 7 => vq = .int .i64 ((p : Int) + (A : Int) + (q1 : Int) + (D : Int) + (q2 : Int)) | 8 => vq = .int .i64 0 | _ => True) (U := fun o w' => o.dst = none → w'.heap[w.heap.size]? = some (.cells #[.int .i64 x2, .int .i64 x3, .int .i64 x4, .int .i64 x5, .int .i64 x6, .int .i64 xt, .string ct, .string dt] 44 (0, 0))) (w' := w2) (.int .i64 ((p : Int) + (A : Int) + (q1 : Int) + (D : Int) + (q2 : Int))) ?_ ?_ ?_ ?_ ?_
          · (clear hV hI hC; go_simp <;> (first | rfl | simp | (rw [IntKind.wrap_i64]; omega)))
          · exact hC
          · exact Or.inl rfl
          · intro d hd; cases hd; rfl
          · intro h; cases h
        case os32 =>
          intro Q a w2 hC hV hI
          have e6 : a.eval (.tmp 6) = .pointer (some ⟨w.heap.size, 0, none⟩) := (hI 6 (by simp [Op.operands]) (by kernel_rfl)).trans rfl
          have f6 : a.tmps.getD 6 undef = .pointer (some ⟨w.heap.size, 0, none⟩) := e6
          have g6 : a.tmps[6]?.getD undef = .pointer (some ⟨w.heap.size, 0, none⟩) := by rw [← Array.getD_eq_getD_getElem?]; exact e6
          have e159 : a.eval (.tmp 159) = .agg #[.int .i64 x2, .int .i64 x3, .int .i64 x4, .int .i64 x5, .int .i64 x6, .int .i64 xt, .string ct, .string dt] := hV 159 (by simp [Op.operands]) (by kernel_rfl)
          have f159 : a.tmps.getD 159 undef = .agg #[.int .i64 x2, .int .i64 x3, .int .i64 x4, .int .i64 x5, .int .i64 x6, .int .i64 xt, .string ct, .string dt] := e159
          have g159 : a.tmps[159]?.getD undef = .agg #[.int .i64 x2, .int .i64 x3, .int .i64 x4, .int .i64 x5, .int .i64 x6, .int .i64 xt, .string ct, .string dt] := by rw [← Array.getD_eq_getD_getElem?]; exact e159
          have hS : ∀ cs : Array Value, cs.size = 8 → w2.heap[w.heap.size]? = some (.cells cs 44 (0, 0)) → _ := fun cs hc hR => run_storeVar_row (P := Tryz.prog) w2 w.heap.size 44 44 cs #[.int .i64 x2, .int .i64 x3, .int .i64 x4, .int .i64 x5, .int .i64 x6, .int .i64 xt, .string ct, .string dt] hR (by rw [Tryz.sizeOC]; rfl) hc (by simp [Value.oneCell'])
          have hR2 : (w2.setRow w.heap.size #[.int .i64 x2, .int .i64 x3, .int .i64 x4, .int .i64 x5, .int .i64 x6, .int .i64 xt, .string ct, .string dt]).heap[w.heap.size]? = some (.cells #[.int .i64 x2, .int .i64 x3, .int .i64 x4, .int .i64 x5, .int .i64 x6, .int .i64 xt, .string ct, .string dt] 44 (0, 0)) := hC.2.2.elim (fun h => setRow_heap _ _ _ _ _ _ h) (fun h => setRow_heap _ _ _ _ _ _ h)
          have hgr : gb ≠ w.heap.size := by have := HGB.out; omega
          have hcb : (w2.setRow w.heap.size #[.int .i64 x2, .int .i64 x3, .int .i64 x4, .int .i64 x5, .int .i64 x6, .int .i64 xt, .string ct, .string dt]).heap[gb]? = w2.heap[gb]? := setRow_other _ _ _ _ hgr
          have hkb : ∀ m, (w2.setRow w.heap.size #[.int .i64 x2, .int .i64 x3, .int .i64 x4, .int .i64 x5, .int .i64 x6, .int .i64 xt, .string ct, .string dt]).cell? ⟨gb, m, none⟩ = w2.cell? ⟨gb, m, none⟩ := fun m => World.cell?_of_block hcb
          refine opU_store (C := fun w' => Below w.heap.size w w' ∧ (w'.cell? ⟨gb, 2, none⟩ = some (.int .i64 x2) ∧ w'.cell? ⟨gb, 3, none⟩ = some (.int .i64 x3) ∧ w'.cell? ⟨gb, 4, none⟩ = some (.int .i64 x4) ∧ w'.cell? ⟨gb, 5, none⟩ = some (.int .i64 x5) ∧ w'.cell? ⟨gb, 6, none⟩ = some (.int .i64 x6) ∧ gb < w'.heap.size) ∧ (w'.heap[w.heap.size]? = some (.cells zeroC.cells.toArray 44 (0, 0)) ∨ w'.heap[w.heap.size]? = some (.cells #[.int .i64 x2, .int .i64 x3, .int .i64 x4, .int .i64 x5, .int .i64 x6, .int .i64 xt, .string ct, .string dt] 44 (0, 0)))) (St := fun x y => y.heap[w.heap.size]? = x.heap[w.heap.size]? ∨ y.heap[w.heap.size]? = some (.cells #[.int .i64 x2, .int .i64 x3, .int .i64 x4, .int .i64 x5, .int .i64 x6, .int .i64 xt, .string ct, .string dt] 44 (0, 0))) (V := fun dq vq _ => match dq with | 129 => vq = .slice (some ⟨gb, 0, none⟩) 8 cp | 130 => vq = .pointer (some ⟨gb, 2, none⟩) | 131 => vq = .int .i64 x2 | 132 => vq = .slice (some ⟨gb, 0, none⟩) 8 cp | 133 => vq = .pointer (some ⟨gb, 3, none⟩) | 134 => vq = .int .i64 x3 | 135 => vq = .slice (some ⟨gb, 0, none⟩) 8 cp | 136 => vq = .pointer (some ⟨gb, 4, none⟩) | 137 => vq = .int .i64 x4 | 138 => vq = .slice (some ⟨gb, 0, none⟩) 8 cp | 139 => vq = .pointer (some ⟨gb, 5, none⟩) | 140 => vq = .int .i64 x5 | 141 => vq = .slice (some ⟨gb, 0, none⟩) 8 cp | 142 => vq = .pointer (some ⟨gb, 6, none⟩) | 143 => vq = .int .i64 x6 | 144 => vq = .string s | 145 => vq = .int .i64 (j : Int) | 146 => vq = .int .i64 ((j : Int) + 16) | 147 => vq = .bool hi | 148 => vq = .int .i64 xt | 149 => vq = .string nm | 150 => vq = .int .i64 (A : Int) | 151 => vq = .int .i64 ((A : Int) - 1) | 152 => vq = .string ct | 153 => vq = .string s | 154 => vq = .int .i64 ((p : Int) + (A : Int) + (q1 : Int)) | 155 => vq = .int .i64 ((p : Int) + (A : Int) + (q1 : Int)) | 156 => vq = .int .i64 (D : Int) | 157 => vq = .int .i64 ((p : Int) + (A : Int) + (q1 : Int) + (D : Int)) | 158 => vq = .string dt | 159 => vq = .agg #[.int .i64 x2, .int .i64 x3, .int .i64 x4, .int .i64 x5, .int .i64 x6, .int .i64 xt, .string ct, .string dt] | 160 => vq = .int .i64 ((p : Int) + (A : Int) + (q1 : Int) + (D : Int) + (q2 : Int)) | 7 => vq = .int .i64 ((p : Int) + (A : Int) + (q1 : Int) + (D : Int) + (q2 : Int)) | 8 => vq = .int .i64 0 | _ => True) (U := fun o w' => o.dst = none → w'.heap[w.heap.size]? = some (.cells #[.int .i64 x2, .int .i64 x3, .int .i64 x4, .int .i64 x5, .int .i64 x6, .int .i64 xt, .string ct, .string dt] 44 (0, 0))) 44 _ _ rfl rfl ⟨w.heap.size, 0, none⟩ e6 e159 (hC.2.2.elim (fun h => hS _ rfl h) (fun h => hS _ rfl h)) ?_ ?_ ?_
          · exact ⟨hC.1.trans (below_setB (Nat.le_refl _) _), ⟨(hkb 2).trans hC.2.1.1, (hkb 3).trans hC.2.1.2.1, (hkb 4).trans hC.2.1.2.2.1, (hkb 5).trans hC.2.1.2.2.2.1, (hkb 6).trans hC.2.1.2.2.2.2.1, Nat.lt_of_lt_of_le hC.2.1.2.2.2.2.2 (below_setB (B := 0) (Nat.zero_le _) _).size⟩, Or.inr hR2⟩
          · exact Or.inr hR2
          · intro _; exact hR2
        case o7 =>
          intro Q a w2 hC hV hI
          have e160 : a.eval (.tmp 160) = .int .i64 ((p : Int) + (A : Int) + (q1 : Int) + (D : Int) + (q2 : Int)) := hV 160 (by simp [Op.operands]) (by kernel_rfl)
          have f160 : a.tmps.getD 160 undef = .int .i64 ((p : Int) + (A : Int) + (q1 : Int) + (D : Int) + (q2 : Int)) := e160
          have g160 : a.tmps[160]?.getD undef = .int .i64 ((p : Int) + (A : Int) + (q1 : Int) + (D : Int) + (q2 : Int)) := by rw [← Array.getD_eq_getD_getElem?]; exact e160
          refine opU_val (C := fun w' => Below w.heap.size w w' ∧ (w'.cell? ⟨gb, 2, none⟩ = some (.int .i64 x2) ∧ w'.cell? ⟨gb, 3, none⟩ = some (.int .i64 x3) ∧ w'.cell? ⟨gb, 4, none⟩ = some (.int .i64 x4) ∧ w'.cell? ⟨gb, 5, none⟩ = some (.int .i64 x5) ∧ w'.cell? ⟨gb, 6, none⟩ = some (.int .i64 x6) ∧ gb < w'.heap.size) ∧ (w'.heap[w.heap.size]? = some (.cells zeroC.cells.toArray 44 (0, 0)) ∨ w'.heap[w.heap.size]? = some (.cells #[.int .i64 x2, .int .i64 x3, .int .i64 x4, .int .i64 x5, .int .i64 x6, .int .i64 xt, .string ct, .string dt] 44 (0, 0)))) (St := fun x y => y.heap[w.heap.size]? = x.heap[w.heap.size]? ∨ y.heap[w.heap.size]? = some (.cells #[.int .i64 x2, .int .i64 x3, .int .i64 x4, .int .i64 x5, .int .i64 x6, .int .i64 xt, .string ct, .string dt] 44 (0, 0))) (V := fun dq vq _ => match dq with | 129 => vq = .slice (some ⟨gb, 0, none⟩) 8 cp | 130 => vq = .pointer (some ⟨gb, 2, none⟩) | 131 => vq = .int .i64 x2 | 132 => vq = .slice (some ⟨gb, 0, none⟩) 8 cp | 133 => vq = .pointer (some ⟨gb, 3, none⟩) | 134 => vq = .int .i64 x3 | 135 => vq = .slice (some ⟨gb, 0, none⟩) 8 cp | 136 => vq = .pointer (some ⟨gb, 4, none⟩) | 137 => vq = .int .i64 x4 | 138 => vq = .slice (some ⟨gb, 0, none⟩) 8 cp | 139 => vq = .pointer (some ⟨gb, 5, none⟩) | 140 => vq = .int .i64 x5 | 141 => vq = .slice (some ⟨gb, 0, none⟩) 8 cp | 142 => vq = .pointer (some ⟨gb, 6, none⟩) | 143 => vq = .int .i64 x6 | 144 => vq = .string s | 145 => vq = .int .i64 (j : Int) | 146 => vq = .int .i64 ((j : Int) + 16) | 147 => vq = .bool hi | 148 => vq = .int .i64 xt | 149 => vq = .string nm | 150 => vq = .int .i64 (A : Int) | 151 => vq = .int .i64 ((A : Int) - 1) | 152 => vq = .string ct | 153 => vq = .string s | 154 => vq = .int .i64 ((p : Int) + (A : Int) + (q1 : Int)) | 155 => vq = .int .i64 ((p : Int) + (A : Int) + (q1 : Int)) | 156 => vq = .int .i64 (D : Int) | 157 => vq = .int .i64 ((p : Int) + (A : Int) + (q1 : Int) + (D : Int)) | 158 => vq = .string dt | 159 => vq = .agg #[.int .i64 x2, .int .i64 x3, .int .i64 x4, .int .i64 x5, .int .i64 x6, .int .i64 xt, .string ct, .string dt] | 160 => vq = .int .i64 ((p : Int) + (A : Int) + (q1 : Int) + (D : Int) + (q2 : Int)) | 7 => vq = .int .i64 ((p : Int) + (A : Int) + (q1 : Int) + (D : Int) + (q2 : Int)) | 8 => vq = .int .i64 0 | _ => True) (U := fun o w' => o.dst = none → w'.heap[w.heap.size]? = some (.cells #[.int .i64 x2, .int .i64 x3, .int .i64 x4, .int .i64 x5, .int .i64 x6, .int .i64 xt, .string ct, .string dt] 44 (0, 0))) (w' := w2) (.int .i64 ((p : Int) + (A : Int) + (q1 : Int) + (D : Int) + (q2 : Int))) ?_ ?_ ?_ ?_ ?_
          · (clear hV hI hC; go_simp <;> (first | rfl | simp | (rw [IntKind.wrap_i64]; omega)))
          · exact hC
          · exact Or.inl rfl
          · intro d hd; cases hd; rfl
          · intro h; cases h
        case o8 =>
          intro Q a w2 hC hV hI
          refine opU_val (C := fun w' => Below w.heap.size w w' ∧ (w'.cell? ⟨gb, 2, none⟩ = some (.int .i64 x2) ∧ w'.cell? ⟨gb, 3, none⟩ = some (.int .i64 x3) ∧ w'.cell? ⟨gb, 4, none⟩ = some (.int .i64 x4) ∧ w'.cell? ⟨gb, 5, none⟩ = some (.int .i64 x5) ∧ w'.cell? ⟨gb, 6, none⟩ = some (.int .i64 x6) ∧ gb < w'.heap.size) ∧ (w'.heap[w.heap.size]? = some (.cells zeroC.cells.toArray 44 (0, 0)) ∨ w'.heap[w.heap.size]? = some (.cells #[.int .i64 x2, .int .i64 x3, .int .i64 x4, .int .i64 x5, .int .i64 x6, .int .i64 xt, .string ct, .string dt] 44 (0, 0)))) (St := fun x y => y.heap[w.heap.size]? = x.heap[w.heap.size]? ∨ y.heap[w.heap.size]? = some (.cells #[.int .i64 x2, .int .i64 x3, .int .i64 x4, .int .i64 x5, .int .i64 x6, .int .i64 xt, .string ct, .string dt] 44 (0, 0))) (V := fun dq vq _ => match dq with | 129 => vq = .slice (some ⟨gb, 0, none⟩) 8 cp | 130 => vq = .pointer (some ⟨gb, 2, none⟩) | 131 => vq = .int .i64 x2 | 132 => vq = .slice (some ⟨gb, 0, none⟩) 8 cp | 133 => vq = .pointer (some ⟨gb, 3, none⟩) | 134 => vq = .int .i64 x3 | 135 => vq = .slice (some ⟨gb, 0, none⟩) 8 cp | 136 => vq = .pointer (some ⟨gb, 4, none⟩) | 137 => vq = .int .i64 x4 | 138 => vq = .slice (some ⟨gb, 0, none⟩) 8 cp | 139 => vq = .pointer (some ⟨gb, 5, none⟩) | 140 => vq = .int .i64 x5 | 141 => vq = .slice (some ⟨gb, 0, none⟩) 8 cp | 142 => vq = .pointer (some ⟨gb, 6, none⟩) | 143 => vq = .int .i64 x6 | 144 => vq = .string s | 145 => vq = .int .i64 (j : Int) | 146 => vq = .int .i64 ((j : Int) + 16) | 147 => vq = .bool hi | 148 => vq = .int .i64 xt | 149 => vq = .string nm | 150 => vq = .int .i64 (A : Int) | 151 => vq = .int .i64 ((A : Int) - 1) | 152 => vq = .string ct | 153 => vq = .string s | 154 => vq = .int .i64 ((p : Int) + (A : Int) + (q1 : Int)) | 155 => vq = .int .i64 ((p : Int) + (A : Int) + (q1 : Int)) | 156 => vq = .int .i64 (D : Int) | 157 => vq = .int .i64 ((p : Int) + (A : Int) + (q1 : Int) + (D : Int)) | 158 => vq = .string dt | 159 => vq = .agg #[.int .i64 x2, .int .i64 x3, .int .i64 x4, .int .i64 x5, .int .i64 x6, .int .i64 xt, .string ct, .string dt] | 160 => vq = .int .i64 ((p : Int) + (A : Int) + (q1 : Int) + (D : Int) + (q2 : Int)) | 7 => vq = .int .i64 ((p : Int) + (A : Int) + (q1 : Int) + (D : Int) + (q2 : Int)) | 8 => vq = .int .i64 0 | _ => True) (U := fun o w' => o.dst = none → w'.heap[w.heap.size]? = some (.cells #[.int .i64 x2, .int .i64 x3, .int .i64 x4, .int .i64 x5, .int .i64 x6, .int .i64 xt, .string ct, .string dt] 44 (0, 0))) (w' := w2) (.int .i64 0) ?_ ?_ ?_ ?_ ?_
          · (clear hV hI hC; go_simp <;> (first | rfl | simp | (rw [IntKind.wrap_i64]; omega)))
          · exact hC
          · exact Or.inl rfl
          · intro d hd; cases hd; rfl
          · intro h; cases h
      case hend =>
        intro f w9 hC hall huall
        simp only [List.forall_mem_cons] at hall
        obtain ⟨h129, h130, h131, h132, h133, h134, h135, h136, h137, h138, h139, h140, h141, h142, h143, h144, h145, h146, h147, h148, h149, h150, h151, h152, h153, h154, h155, h156, h157, h158, h159, h160, _, h7, h8, _⟩ := hall
        simp only [List.forall_mem_cons] at huall
        obtain ⟨_, _, _, _, _, _, _, _, _, _, _, _, _, _, _, _, _, _, _, _, _, _, _, _, _, _, _, _, _, _, _, _, hus, _, _, _⟩ := huall
        replace h129 : f 129 = .slice (some ⟨gb, 0, none⟩) 8 cp := h129 129 rfl
        replace h130 : f 130 = .pointer (some ⟨gb, 2, none⟩) := h130 130 rfl
        replace h131 : f 131 = .int .i64 x2 := h131 131 rfl
        replace h132 : f 132 = .slice (some ⟨gb, 0, none⟩) 8 cp := h132 132 rfl
        replace h133 : f 133 = .pointer (some ⟨gb, 3, none⟩) := h133 133 rfl
        replace h134 : f 134 = .int .i64 x3 := h134 134 rfl
        replace h135 : f 135 = .slice (some ⟨gb, 0, none⟩) 8 cp := h135 135 rfl
        replace h136 : f 136 = .pointer (some ⟨gb, 4, none⟩) := h136 136 rfl
        replace h137 : f 137 = .int .i64 x4 := h137 137 rfl
        replace h138 : f 138 = .slice (some ⟨gb, 0, none⟩) 8 cp := h138 138 rfl
        replace h139 : f 139 = .pointer (some ⟨gb, 5, none⟩) := h139 139 rfl
        replace h140 : f 140 = .int .i64 x5 := h140 140 rfl
        replace h141 : f 141 = .slice (some ⟨gb, 0, none⟩) 8 cp := h141 141 rfl
        replace h142 : f 142 = .pointer (some ⟨gb, 6, none⟩) := h142 142 rfl
        replace h143 : f 143 = .int .i64 x6 := h143 143 rfl
        replace h144 : f 144 = .string s := h144 144 rfl
        replace h145 : f 145 = .int .i64 (j : Int) := h145 145 rfl
        replace h146 : f 146 = .int .i64 ((j : Int) + 16) := h146 146 rfl
        replace h147 : f 147 = .bool hi := h147 147 rfl
        replace h148 : f 148 = .int .i64 xt := h148 148 rfl
        replace h149 : f 149 = .string nm := h149 149 rfl
        replace h150 : f 150 = .int .i64 (A : Int) := h150 150 rfl
        replace h151 : f 151 = .int .i64 ((A : Int) - 1) := h151 151 rfl
        replace h152 : f 152 = .string ct := h152 152 rfl
        replace h153 : f 153 = .string s := h153 153 rfl
        replace h154 : f 154 = .int .i64 ((p : Int) + (A : Int) + (q1 : Int)) := h154 154 rfl
        replace h155 : f 155 = .int .i64 ((p : Int) + (A : Int) + (q1 : Int)) := h155 155 rfl
        replace h156 : f 156 = .int .i64 (D : Int) := h156 156 rfl
        replace h157 : f 157 = .int .i64 ((p : Int) + (A : Int) + (q1 : Int) + (D : Int)) := h157 157 rfl
        replace h158 : f 158 = .string dt := h158 158 rfl
        replace h159 : f 159 = .agg #[.int .i64 x2, .int .i64 x3, .int .i64 x4, .int .i64 x5, .int .i64 x6, .int .i64 xt, .string ct, .string dt] := h159 159 rfl
        replace h160 : f 160 = .int .i64 ((p : Int) + (A : Int) + (q1 : Int) + (D : Int) + (q2 : Int)) := h160 160 rfl
        replace h7 : f 7 = .int .i64 ((p : Int) + (A : Int) + (q1 : Int) + (D : Int) + (q2 : Int)) := h7 7 rfl
        replace h8 : f 8 = .int .i64 0 := h8 8 rfl
        simp only [putAll, Act.put, List.setIfInBounds_toArray, List.set_cons_succ, List.set_cons_zero, h129, h130, h131, h132, h133, h134, h135, h136, h137, h138, h139, h140, h141, h142, h143, h144, h145, h146, h147, h148, h149, h150, h151, h152, h153, h154, h155, h156, h157, h158, h159, h160, h7, h8]
        clear h129 h130 h131 h132 h133 h134 h135 h136 h137 h138 h139 h140 h141 h142 h143 h144 h145 h146 h147 h148 h149 h150 h151 h152 h153 h154 h155 h156 h157 h158 h159 h160 h7 h8
        have R9 : CardO w9 w.heap.size ⟨x2, x3, x4, x5, x6, xt, ct, dt⟩ := hus trivial
        have B9 := hC.1
        clear KC hC hus
        go_wp2_with fail
        refine bodyPost_ret (res_OCB rfl _ rfl R9) rfl ?_
        exact ⟨by rw [HE.out]; rfl, B9⟩
theorem getBin_spec (s : ByteArray) (j : Nat) (hi : Bool) (w : World) (hs : s.size ≤ 1048576) (hj : j + 26 ≤ s.size) :
    Calls Tryz.prog 24 #[.string s, .int .i64 (j : Int), .bool hi] w fun e w' => e = .returned (bnV s j hi) ∧ Below w.heap.size w w' := by
  obtain ⟨z1, z2⟩ := bSz_bd (hi := hi) hj
  obtain ⟨m1, m2⟩ := bMn_bd (hi := hi) hj
  have hN : bnN s j hi = j + 26 + bSz s j hi := rfl
  have hB : bnB s j hi = bnN s j hi + pad2 (bSz s j hi) := rfl
  have hD : bnD s j hi = bnB s j hi + bMn s j hi := rfl
  have hE : bnE s j hi = bnD s j hi + pad2 (bMn s j hi) := rfl
  refine bin_walk s j (j + 26) (bSz s j hi) (bMn s j hi) (pad2 (bSz s j hi)) (pad2 (bMn s j hi)) (bW s j hi) (bT s j hi) hi _ w hs rfl hj z2 m2 rfl rfl (fun k _ => ?_) ?_ ?_ ?_ (fun h => bn_magic hj h) (fun h h' => bn_zero hj h h') (fun h h' q => bn_short hj h h' (by omega)) ?_ ?_ ?_ ?_ ?_
  · rw [bW, show ((j : Int) + 2 * (k : Int)) = ((j + 2 * k : Nat) : Int) from by omega]
  · rw [← z1, bW, show ((j : Int) + 20) = ((j + 2 * 10 : Nat) : Int) from by omega]
  · rw [← m1, show ((j : Int) + 22) = ((j + 22 : Nat) : Int) from by omega]
  · rw [bT, show ((j : Int) + 16) = ((j + 16 : Nat) : Int) from by omega]
  · intro h h' q e
    exact bn_name hj h h' (by omega) (.inl (by omega))
  · intro h h' q e
    exact bn_name hj h h' (by omega) (.inl (by have e9 : bnNm s j hi = s.extract (j + 26) (j + 26 + bSz s j hi) := rfl; rw [e9]; omega))
  · intro h h' q e
    exact bn_name hj h h' (by omega) (.inr (.inl (fun e9 => by rw [show s.extract (j + 26 + bSz s j hi) (j + 26 + bSz s j hi + pad2 (bSz s j hi)) = s.extract (bnN s j hi) (bnB s j hi) from rfl, e9, isNul_nulNB] at e; cases e)))
  · intro h h' q e
    exact bn_name hj h h' (by omega) (.inr (.inr (fun e9 => by rw [show s.extract (j + 26 + bSz s j hi + pad2 (bSz s j hi) + bMn s j hi) (j + 26 + bSz s j hi + pad2 (bSz s j hi) + bMn s j hi + pad2 (bMn s j hi)) = s.extract (bnD s j hi) (bnE s j hi) from rfl, e9, isNul_nulNB] at e; cases e)))
  · intro h h' q e0 e1 e2 e3
    rw [bn_good hj h h' (by omega) ?_]
    · rw [show ((bnE s j hi : Nat) : Int) = ((j + 26 : Nat) : Int) + (bSz s j hi : Int) + (pad2 (bSz s j hi) : Int) + (bMn s j hi : Int) + (pad2 (bMn s j hi) : Int) from by omega]
      rfl
    · rintro (b | b | b)
      · exact b (by have e9 : bnNm s j hi = s.extract (j + 26) (j + 26 + bSz s j hi) := rfl; rw [e9]; omega)
      · exact b (nul_ofB e2 (by omega) rfl)
      · exact b (nul_ofB e3 (by omega) rfl)
end Go.Proofs.YtancidbbkoeokaaGreat

/- Contract of spec.GetCpio: what both of its walks use. -/
namespace Go.Proofs.YtancidbbkoeokaaGreat
open Go.ChangeShapes Go.WideShapes Go.ChangeAt Go.RowKit Go.Deep

theorem getBin_at (s : ByteArray) (crc : Bool) (p : Nat) (w : World) (hs : s.size ≤ 1048576) (hp : p < s.size) :
    Calls Tryz.prog 24 #[.string s, .int .i64 (p : Int), .bool crc] w fun e w' => e = .returned (.tuple #[.agg ((binR s crc) p).1.cells.toArray, .int .i64 ((binR s crc) p).2.1, .int .i64 ((binR s crc) p).2.2]) ∧ Below w.heap.size w w' := by
  show Calls Tryz.prog 24 #[.string s, .int .i64 (p : Int), .bool crc] w fun e w' => e = .returned (bnV s p crc) ∧ Below w.heap.size w w'
  by_cases h : (s.size : Int) < (p : Int) + 26
  · exact getBin_short s p crc w hs (by omega) (by omega) (.inr h)
  · exact getBin_spec s p crc w hs (by omega)
theorem cell_newS (w : World) (e : Card) (t : TypeId) (ht : t = 44) : ∀ j u, e.cells[j]? = some u → (w.alloc (.cells e.cells.toArray t)).cell? ((⟨w.heap.size, 0, none⟩ : Addr).add j) = some u := by
  intro j u hu
  subst ht
  have hj : j < 8 := by
    by_cases h : j < 8
    · exact h
    · rw [List.getElem?_eq_none (by rw [cells_lenC]; omega)] at hu; cases hu
  rw [show (⟨w.heap.size, 0, none⟩ : Addr).add j = ⟨w.heap.size, 0 + j, none⟩ from by unfold Addr.add; split <;> simp_all, (CardO.new w e).at j hj]
  exact hu
theorem ownC_cap {w : World} {base g n cap : Nat} {L : List Card} (h : OwnC w base (.slice (some ⟨g, 0, none⟩) n cap) L) : n ≤ cap := by
  rcases h.1.2 with ⟨h0, _⟩ | ⟨g', cap', cur, hv, _, _, hc, _⟩
  · cases h0
  · cases hv
    have := h.row.2.2.2
    omega
end Go.Proofs.YtancidbbkoeokaaGreat

/- Contract of spec.GetCpio: two bytes and more. -/
namespace Go.Proofs.YtancidbbkoeokaaGreat
open Go.ChangeShapes Go.WideShapes Go.ChangeAt Go.RowKit Go.Deep

set_option maxHeartbeats 3200000 in
set_option maxRecDepth 8000 in
theorem getCpio_two (s : ByteArray) (crc : Bool) (w : World) (hs : s.size ≤ 1048576) (h6 : 2 ≤ s.size) (hcrc : ((s.extract 0 2).toList == [113, 199]) = crc) :
    Calls Tryz.prog 10 #[.string s] w fun e w' => ∃ v, e = .returned (.tuple #[v, .bool (crc && ((gBn s crc).1 == 0)), .int .i64 (gBn s crc).1]) ∧ OwnE w' w.heap.size v (gBn s crc).2 ∧ Below w.heap.size w w' := by
  obtain ⟨i0, hi0, hz0, hz1, hz2⟩ := info_parts Tryz.infoC
  have HGet := Lib.hid (fun (p : Nat) w hp => getBin_at s crc p w hs hp)
  have HGood := Lib.hid (binR_good s crc hs)
  have S0 := Lib.hid (StR.start (binR s crc) s.size 26)
  rw [show outc (binR s crc) s.size (s.size + 1) [] 0 = binO s crc from rfl] at S0
  have HBd := Lib.hid (fun c (h : binO s crc = (c, [])) hc => gBn_bad h hc)
  have HLi := Lib.hid (fun Q (h : binO s crc = (0, Q)) hz hk => gBn_list h hz hk)
  have HFi := Lib.hid (fun Q (h : binO s crc = (0, Q)) hz hk => gBn_fit h hz hk)
  have HNe := Lib.hid (fun Q (h : binO s crc = (0, Q)) hk => gBn_ne h hk)
  have HYe := Lib.hid (fun Q (h : binO s crc = (0, Q)) hk => gBn_yes h hk)
  obtain ⟨z, hz⟩ : ∃ z, s.size = z := ⟨_, rfl⟩
  have HZ := Lib.hid hz
  generalize binO s crc = O at S0 HBd HLi HFi HNe HYe
  generalize gBn s crc = G at HBd HLi HFi HNe HYe ⊢
  rw [hz] at hs HGood S0 HGet HLi HFi
  generalize binR s crc = R at HGet HGood S0
  clear hz
  have hS6 : ∀ w, (Instr.slice 9 (.string s) none (some (.int .i64 2)) none).run Tryz.prog w = .ok (.string (s.extract 0 2)) w := fun w => by
    have h1 := run_slice_string_h (P := Tryz.prog) (w := w) (t := 9) (s := s) Tryz.underlying9 .i64 (2 : Int) (by omega) (by omega)
    exact h1
  have h6' : (2 : Int) ≤ (s.size : Int) := by omega
  clear h6
  go_enter Tryz.func10, Tryz.ntmps10
  go_upto_region 2 with fail
  clear hS6 h6' hcrc
  go_wp2_with fail
  have O1 : Hid (OwnC (w.alloc (.cells #[] 44)) w.heap.size (.slice (some ⟨w.heap.size, 0, none⟩) 0 0) []) := Lib.hid (OwnC.lit (Nat.le_refl _))
  have B1 : Hid (Below w.heap.size w (w.alloc (.cells #[] 44))) := Lib.hid ((Below.refl _ _).alloc (Nat.le_refl _) _)
  go_loopw [6, 7, 8, 9, 10] (fun v u _ _ _ wr => ∃ (Q : List Card) (p : Nat), u = .int .i64 (p : Int) ∧ StR R z 26 O Q p ∧ OwnC wr w.heap.size v Q ∧ Below w.heap.size w wr) (fun _ u _ _ _ _ => z + 1 - (intOf u).toNat)
  case atStart => exact ⟨[], 0, rfl, S0.out, O1.out, B1.out⟩
  case round =>
    obtain ⟨Q, p, rfl, hst, ho, hb⟩ := hrel
    clear S0 O1 B1
    have St := Lib.hid hst
    have O := Lib.hid ho
    have B := Lib.hid hb
    clear hst ho hb
    by_cases hp : ¬ p < z
    · have hlt : ¬ (p : Int) < (s.size : Int) := by have := HZ.out; omega
      have HF := Lib.hid (HBd.out 5 (St.out.over hp) (by decide))
      clear St HLi HFi HNe HYe HBd HGet HGood
      go_wp2_with fail
      go_ret3
      exact ⟨_, by rw [HF.out]; first | rfl | (cases crc <;> rfl) | (rw [e0, Bool.and_false]; rfl), by rw [HF.out]; exact OwnE.lit B.out.size, B.out.alloc B.out.size _⟩
    have hp : p < z := Decidable.byContradiction hp
    have hlt : (p : Int) < (s.size : Int) := by have := HZ.out; omega
    have HG2 := Lib.hid (fun w' => HGet.out p w' hp)
    have HCo := Lib.hid (fun h => St.out.code hp h)
    have HMo := Lib.hid (fun h t n => St.out.more hp h t n)
    have HLa := Lib.hid (fun h t n => St.out.last HGood.out hp h t n)
    have HStp := Lib.hid (fun h t => St.out.step HGood.out (by decide) hp h t)
    rcases hRp : R p with ⟨⟨q0, q1, q2, q3, q4, q5, qp, qd⟩, nx, co⟩
    rw [hRp] at HG2 HCo HMo HLa HStp
    simp only at HG2 HCo HMo HLa HStp
    have HQl := Lib.hid (show Q.length ≤ p by have := St.out.2.1; omega)
    have HQs := Lib.hid (St.out.2.2.1)
    clear hRp HGet HGood
    go_wp2_with fail
    refine (HG2.out _).mono ?_
    rintro e w2 ⟨rfl, hb⟩
    replace O := Lib.hid (O.out.keep hb)
    replace B := Lib.hid (btC B.out hb)
    clear hb HG2
    have NB : Below w2.heap.size w2 (w2.alloc (.cells (Card.cells ⟨q0, q1, q2, q3, q4, q5, qp, qd⟩).toArray 44)) := (Below.refl _ _).alloc (Nat.le_refl _) _
    have XC := Lib.hid (CardO.new w2 ⟨q0, q1, q2, q3, q4, q5, qp, qd⟩)
    replace O := Lib.hid (O.out.keep NB)
    replace B := Lib.hid (btC B.out NB)
    clear NB
    simp only [Card.cells] at XC O B ⊢
    go_upto_region 6 with fail
    generalize World.alloc w2 _ = w3 at XC O B ⊢
    obtain ⟨d0, d1, d2, d3, d4, d5, d6, d7⟩ := XC.out.at.zero
    simp only at d0 d1 d2 d3 d4 d5 d6 d7
    by_cases hc : ¬ co = 0
    · have e1 : (co != 0) = true := by simpa using hc
      have e0 : (co == 0) = false := by simpa using hc
      have HF := Lib.hid (HBd.out co (HCo.out hc) hc)
      clear HCo HMo HLa HStp HLi HFi HNe HYe HBd
      go_wp2_with fail
      go_ret3
      exact ⟨_, by rw [HF.out]; first | rfl | (cases crc <;> rfl) | (rw [e0, Bool.and_false]; rfl), by rw [HF.out]; exact OwnE.lit B.out.size, B.out.alloc B.out.size _⟩
    have hc : co = 0 := Decidable.byContradiction hc
    subst hc
    have HMo2 := Lib.hid (fun t n => HMo.out rfl t n)
    have HLa2 := Lib.hid (fun t n => HLa.out rfl t n)
    have HSt2 := Lib.hid (fun t => HStp.out rfl t)
    clear HCo HMo HLa HStp
    cases ht : isTr qp with
    | true =>
      have e1 : (qp.toList == [84, 82, 65, 73, 76, 69, 82, 33, 33, 33]) = true := ht
      have HMo3 := Lib.hid (fun n => HMo2.out ht n)
      have HLa3 := Lib.hid (fun n => HLa2.out ht n)
      clear HMo2 HLa2 HSt2 ht
      obtain ⟨gc, cc, rfl, hrc, zc, hbc, hoc⟩ := O.out.open
      have hcap := ownC_cap O.out
      have hql := HQl.out
      have HCl := Lib.hid (fun b => closed_spec Q Q.length gc cc b w3 rfl (by omega) hcap zc (fun c hc => by have := (HQs.out c hc).1; omega) (fun c hc => (HQs.out c hc).2) hrc)
      have HSL := Lib.hid (small_entriesv (C := Q) (fun c hc => by have := (HQs.out c hc).1; omega))
      have HEl := Lib.hid (entriesv_le Q)
      have HZ3 := Lib.hid (Nat.le_of_lt zc)
      clear hrc hoc hcap XC d0 d1 d2 d3 d4 d5 d7 HQs O
      by_cases hn : ¬ nx = (z : Int)
      · have e2 : (nx == (s.size : Int)) = false := by rw [HZ.out]; simpa using hn
        have HF := Lib.hid (HBd.out 5 (HMo3.out hn) (by decide))
        have HP := Lib.hid (fun g cap w hc hg h => putCpio_spec [] 0 g cap crc w rfl (by omega) hc hg (fun e he => by cases he) h)
        have HC5 := Lib.hid (HCl.out false)
        rw [show closedC false (okS Q) = 5 from rfl, show (if false = true then entriesv Q else []) = ([] : List Ent) from rfl] at HC5
        clear HMo3 HLa3 HLi HFi HNe HYe HBd HCl HSL HEl
        generalize putBwT [] crc = pt at HP
        generalize putBwB [] = pb at HP
        go_wp2_with fail
        refine HC5.out.mono ?_
        rintro e w4 ⟨v, rfl, ho, hb⟩
        obtain ⟨gL, cL, rfl, hrL, zL, hbL, hcL, _⟩ := ho.open
        have OL := Lib.hid ho
        have RL := Lib.hid hrL
        have B4 := Lib.hid (btC B.out hb)
        have hb34 := hb.size
        clear hb ho hrL HC5
        go_wp2_with fail
        refine (HP.out gL cL w4 (by omega) zL RL.out).mono ?_
        rintro e w5 ⟨rfl, hb⟩
        have OL5 := Lib.hid (OL.out.keep hb)
        have B5 := Lib.hid (btC B4.out hb)
        clear hb OL RL B4 HP
        cases crc <;> (
          go_wp2_with fail
          go_ret3
          exact ⟨_, by rw [HF.out]; first | rfl | (cases crc <;> rfl) | (rw [e0, Bool.and_false]; rfl), by rw [HF.out]; exact OL5.out.weak B.out.size, B5.out⟩)
      have hn : nx = (z : Int) := Decidable.byContradiction hn
      have e2 : (nx == (s.size : Int)) = true := by rw [HZ.out]; simpa using hn
      obtain ⟨hO, hl, _⟩ := HLa3.out hn
      have HLi2 := Lib.hid (HLi.out Q hO hl)
      have HFi2 := Lib.hid (HFi.out Q hO hl)
      have HNe2 := Lib.hid (HNe.out Q hO)
      have HYe2 := Lib.hid (HYe.out Q hO)
      have HC0 := Lib.hid (HCl.out true)
      rw [show (if true = true then entriesv Q else []) = entriesv Q from rfl] at HC0
      have HP := Lib.hid (fun g cap w hc hg h => putCpio_spec (entriesv Q) (entriesv Q).length g cap crc w rfl (by have := HEl.out; omega) hc hg HSL.out h)
      have HNL : Hid (okS Q = false → entriesv Q = []) := Lib.hid entriesv_no
      have HBT : Hid (putBwB (entriesv Q) = false ∨ putBwB (entriesv Q) = true) := Lib.hid (by cases putBwB (entriesv Q) <;> simp)
      clear HMo3 HLa3 HLi HFi HNe HYe HBd HCl HSL HEl hO hl hn
      generalize entriesv Q = L at *
      generalize okS Q = ok at *
      generalize putBwT L crc = pt at *
      generalize putBwB L = pb at *
      go_wp2_with fail
      refine HC0.out.mono ?_
      rintro e w4 ⟨v, rfl, ho, hb⟩
      obtain ⟨gL, cL, rfl, hrL, zL, hbL, hcL, _⟩ := ho.open
      have OL := Lib.hid ho
      have RL := Lib.hid hrL
      have B4 := Lib.hid (btC B.out hb)
      clear hb ho hrL HC0
      go_wp2_with fail
      refine (HP.out gL cL w4 hcL zL RL.out).mono ?_
      rintro e w5 ⟨rfl, hb⟩
      have OL5 := Lib.hid (OL.out.keep hb)
      have B5 := Lib.hid (btC B4.out hb)
      clear hb OL RL B4 HP
      cases ok with
      | false =>
        have HF := Lib.hid (HLi2.out rfl)
        obtain rfl := HNL.out rfl
        rw [show closedC true false = 4 from rfl]
        clear HLi2 HFi2 HNe2 HYe2
        cases crc <;> (
          go_wp2_with fail
          go_ret3
          exact ⟨_, by rw [HF.out]; first | rfl | (cases crc <;> rfl) | (rw [e0, Bool.and_false]; rfl), by rw [HF.out]; exact OL5.out.weak B.out.size, B5.out⟩)
      | true =>
        rw [show closedC true true = 0 from rfl]
        cases pb with
        | false =>
          have HF := Lib.hid (HFi2.out rfl)
          clear HLi2 HFi2 HNe2 HYe2
          go_wp2_with fail
          go_ret3
          exact ⟨_, by rw [HF.out]; first | rfl | (cases crc <;> rfl) | (rw [e0, Bool.and_false]; rfl), by rw [HF.out]; exact OwnE.lit B5.out.size, B5.out.alloc B5.out.size _⟩
        | true =>
          by_cases hq : pt = s
          · have HF := Lib.hid (HYe2.out hq)
            have e3 : (pt.toList == s.toList) = true := by rw [hq]; simp
            clear HLi2 HFi2 HNe2 HYe2 hq
            cases crc <;> (
              go_wp2_with fail
              go_ret3
              exact ⟨_, by rw [HF.out]; first | rfl | (cases crc <;> rfl) | (rw [e0, Bool.and_false]; rfl), by rw [HF.out]; exact OL5.out.weak B.out.size, B5.out⟩)
          · have HF := Lib.hid (HNe2.out hq)
            have e3 : (pt.toList == s.toList) = false := strR_ne hq
            clear HLi2 HFi2 HNe2 HYe2 hq
            go_wp2_with fail
            go_ret3
            exact ⟨_, by rw [HF.out]; first | rfl | (cases crc <;> rfl) | (rw [e0, Bool.and_false]; rfl), by rw [HF.out]; exact OwnE.lit B5.out.size, B5.out.alloc B5.out.size _⟩
    | false =>
      have e1 : (qp.toList == [84, 82, 65, 73, 76, 69, 82, 33, 33, 33]) = false := ht
      obtain ⟨q, hq, hpq, hst⟩ := HSt2.out ht
      subst hq
      have hqz := hst.2.2.2
      have St2 := Lib.hid hst
      have hql := HQl.out
      have hszB := B.out.size
      clear HMo2 HLa2 HSt2 ht hst
      go_wp2_with (at_builtin; refine wpList_append_own _ rfl _ _ 38 rfl w.heap.size 44 i0 (.agg #[.int .i64 0, .int .i64 0, .int .i64 0, .int .i64 0, .int .i64 0, .int .i64 0, .string ⟨#[]⟩, .string ⟨#[]⟩]) 8 80 Tryz.underlying38 hi0 hz0 hz1 hz2 rfl (by decide) _ Q.length (valsC Q) rfl ?c0q ⟨w3.heap.size, 0, none⟩ 1 1 (valsC [⟨q0, q1, q2, q3, q4, q5, qp, qd⟩]) rfl (valsC_len _) ?c1q ?c2q ?c3q ?c4q ?c5q ?_)
      case c0q => exact World.ownsRow.alloc O.out.1 _
      case c1q => intro jj uu hu; rw [valsC_one] at hu; first | exact hu | exact cell_newS _ ⟨q0, q1, q2, q3, q4, q5, qp, qd⟩ _ rfl jj uu hu
      case c2q => exact valsC_onecell _
      any_goals (first | (simp only [maxLen]; omega) | omega | (simp; omega))
      intro v' w9 hown hgrow hnil
      have NB : Below w3.heap.size w3 (w3.alloc (.cells (Card.cells ⟨q0, q1, q2, q3, q4, q5, qp, qd⟩).toArray 44)) := (Below.refl _ _).alloc (Nat.le_refl _) _
      have O9 : Hid (OwnC w9 w.heap.size v' (Q ++ [⟨q0, q1, q2, q3, q4, q5, qp, qd⟩])) := Lib.hid (own_appC hown rfl rfl hnil)
      have B9 := Lib.hid ((btC B.out NB).grown hgrow (by have := NB.size; omega) (fun b hb => (World.ownsRow.lt O.out.1 b hb).1))
      clear hown hgrow hnil NB O B XC d0 d1 d2 d3 d4 d5 d6 d7
      go_wp2_with fail
      go_roundw
      case rel => exact ⟨_, q, rfl, St2.out, O9.out, B9.out⟩
      case measure => simp [intOf]; omega
end Go.Proofs.YtancidbbkoeokaaGreat

/- Contract of spec.GetCpio: less than two bytes. -/
namespace Go.Proofs.YtancidbbkoeokaaGreat
open Go.ChangeShapes Go.WideShapes Go.ChangeAt Go.RowKit Go.Deep

set_option maxHeartbeats 3200000 in
set_option maxRecDepth 8000 in
theorem getCpio_less (s : ByteArray) (w : World) (hs : s.size ≤ 1048576) (h6 : ¬ 2 ≤ s.size) :
    Calls Tryz.prog 10 #[.string s] w fun e w' => ∃ v, e = .returned (.tuple #[v, .bool (false && ((gBn s false).1 == 0)), .int .i64 (gBn s false).1]) ∧ OwnE w' w.heap.size v (gBn s false).2 ∧ Below w.heap.size w w' := by
  obtain ⟨i0, hi0, hz0, hz1, hz2⟩ := info_parts Tryz.infoC
  have HGet := Lib.hid (fun (p : Nat) w hp => getBin_at s false p w hs hp)
  have HGood := Lib.hid (binR_good s false hs)
  have S0 := Lib.hid (StR.start (binR s false) s.size 26)
  rw [show outc (binR s false) s.size (s.size + 1) [] 0 = binO s false from rfl] at S0
  have HBd := Lib.hid (fun c (h : binO s false = (c, [])) hc => gBn_bad h hc)
  have HLi := Lib.hid (fun Q (h : binO s false = (0, Q)) hz hk => gBn_list h hz hk)
  have HFi := Lib.hid (fun Q (h : binO s false = (0, Q)) hz hk => gBn_fit h hz hk)
  have HNe := Lib.hid (fun Q (h : binO s false = (0, Q)) hk => gBn_ne h hk)
  have HYe := Lib.hid (fun Q (h : binO s false = (0, Q)) hk => gBn_yes h hk)
  obtain ⟨z, hz⟩ : ∃ z, s.size = z := ⟨_, rfl⟩
  have HZ := Lib.hid hz
  generalize binO s false = O at S0 HBd HLi HFi HNe HYe
  generalize gBn s false = G at HBd HLi HFi HNe HYe ⊢
  rw [hz] at hs HGood S0 HGet HLi HFi
  generalize binR s false = R at HGet HGood S0
  clear hz
  have h6' : ¬ (2 : Int) ≤ (s.size : Int) := by omega
  clear h6
  go_enter Tryz.func10, Tryz.ntmps10
  go_upto_region 2 with fail
  clear h6'
  go_wp2_with fail
  have O1 : Hid (OwnC (w.alloc (.cells #[] 44)) w.heap.size (.slice (some ⟨w.heap.size, 0, none⟩) 0 0) []) := Lib.hid (OwnC.lit (Nat.le_refl _))
  have B1 : Hid (Below w.heap.size w (w.alloc (.cells #[] 44))) := Lib.hid ((Below.refl _ _).alloc (Nat.le_refl _) _)
  go_loopw [6, 7, 8, 9, 10] (fun v u _ _ _ wr => ∃ (Q : List Card) (p : Nat), u = .int .i64 (p : Int) ∧ StR R z 26 O Q p ∧ OwnC wr w.heap.size v Q ∧ Below w.heap.size w wr) (fun _ u _ _ _ _ => z + 1 - (intOf u).toNat)
  case atStart => exact ⟨[], 0, rfl, S0.out, O1.out, B1.out⟩
  case round =>
    obtain ⟨Q, p, rfl, hst, ho, hb⟩ := hrel
    clear S0 O1 B1
    have St := Lib.hid hst
    have O := Lib.hid ho
    have B := Lib.hid hb
    clear hst ho hb
    by_cases hp : ¬ p < z
    · have hlt : ¬ (p : Int) < (s.size : Int) := by have := HZ.out; omega
      have HF := Lib.hid (HBd.out 5 (St.out.over hp) (by decide))
      clear St HLi HFi HNe HYe HBd HGet HGood
      go_wp2_with fail
      go_ret3
      exact ⟨_, by rw [HF.out]; rfl, by rw [HF.out]; exact OwnE.lit B.out.size, B.out.alloc B.out.size _⟩
    have hp : p < z := Decidable.byContradiction hp
    have hlt : (p : Int) < (s.size : Int) := by have := HZ.out; omega
    have HG2 := Lib.hid (fun w' => HGet.out p w' hp)
    have HCo := Lib.hid (fun h => St.out.code hp h)
    have HMo := Lib.hid (fun h t n => St.out.more hp h t n)
    have HLa := Lib.hid (fun h t n => St.out.last HGood.out hp h t n)
    have HStp := Lib.hid (fun h t => St.out.step HGood.out (by decide) hp h t)
    rcases hRp : R p with ⟨⟨q0, q1, q2, q3, q4, q5, qp, qd⟩, nx, co⟩
    rw [hRp] at HG2 HCo HMo HLa HStp
    simp only at HG2 HCo HMo HLa HStp
    have HQl := Lib.hid (show Q.length ≤ p by have := St.out.2.1; omega)
    have HQs := Lib.hid (St.out.2.2.1)
    clear hRp HGet HGood
    go_wp2_with fail
    refine (HG2.out _).mono ?_
    rintro e w2 ⟨rfl, hb⟩
    replace O := Lib.hid (O.out.keep hb)
    replace B := Lib.hid (btC B.out hb)
    clear hb HG2
    have NB : Below w2.heap.size w2 (w2.alloc (.cells (Card.cells ⟨q0, q1, q2, q3, q4, q5, qp, qd⟩).toArray 44)) := (Below.refl _ _).alloc (Nat.le_refl _) _
    have XC := Lib.hid (CardO.new w2 ⟨q0, q1, q2, q3, q4, q5, qp, qd⟩)
    replace O := Lib.hid (O.out.keep NB)
    replace B := Lib.hid (btC B.out NB)
    clear NB
    simp only [Card.cells] at XC O B ⊢
    go_upto_region 6 with fail
    generalize World.alloc w2 _ = w3 at XC O B ⊢
    obtain ⟨d0, d1, d2, d3, d4, d5, d6, d7⟩ := XC.out.at.zero
    simp only at d0 d1 d2 d3 d4 d5 d6 d7
    by_cases hc : ¬ co = 0
    · have e1 : (co != 0) = true := by simpa using hc
      have e0 : (co == 0) = false := by simpa using hc
      have HF := Lib.hid (HBd.out co (HCo.out hc) hc)
      clear HCo HMo HLa HStp HLi HFi HNe HYe HBd
      go_wp2_with fail
      go_ret3
      exact ⟨_, by rw [HF.out]; rfl, by rw [HF.out]; exact OwnE.lit B.out.size, B.out.alloc B.out.size _⟩
    have hc : co = 0 := Decidable.byContradiction hc
    subst hc
    have HMo2 := Lib.hid (fun t n => HMo.out rfl t n)
    have HLa2 := Lib.hid (fun t n => HLa.out rfl t n)
    have HSt2 := Lib.hid (fun t => HStp.out rfl t)
    clear HCo HMo HLa HStp
    cases ht : isTr qp with
    | true =>
      have e1 : (qp.toList == [84, 82, 65, 73, 76, 69, 82, 33, 33, 33]) = true := ht
      have HMo3 := Lib.hid (fun n => HMo2.out ht n)
      have HLa3 := Lib.hid (fun n => HLa2.out ht n)
      clear HMo2 HLa2 HSt2 ht
      obtain ⟨gc, cc, rfl, hrc, zc, hbc, hoc⟩ := O.out.open
      have hcap := ownC_cap O.out
      have hql := HQl.out
      have HCl := Lib.hid (fun b => closed_spec Q Q.length gc cc b w3 rfl (by omega) hcap zc (fun c hc => by have := (HQs.out c hc).1; omega) (fun c hc => (HQs.out c hc).2) hrc)
      have HSL := Lib.hid (small_entriesv (C := Q) (fun c hc => by have := (HQs.out c hc).1; omega))
      have HEl := Lib.hid (entriesv_le Q)
      have HZ3 := Lib.hid (Nat.le_of_lt zc)
      clear hrc hoc hcap XC d0 d1 d2 d3 d4 d5 d7 HQs O
      by_cases hn : ¬ nx = (z : Int)
      · have e2 : (nx == (s.size : Int)) = false := by rw [HZ.out]; simpa using hn
        have HF := Lib.hid (HBd.out 5 (HMo3.out hn) (by decide))
        have HP := Lib.hid (fun g cap w hc hg h => putCpio_spec [] 0 g cap false w rfl (by omega) hc hg (fun e he => by cases he) h)
        have HC5 := Lib.hid (HCl.out false)
        rw [show closedC false (okS Q) = 5 from rfl, show (if false = true then entriesv Q else []) = ([] : List Ent) from rfl] at HC5
        clear HMo3 HLa3 HLi HFi HNe HYe HBd HCl HSL HEl
        generalize putBwT [] false = pt at HP
        generalize putBwB [] = pb at HP
        go_wp2_with fail
        refine HC5.out.mono ?_
        rintro e w4 ⟨v, rfl, ho, hb⟩
        obtain ⟨gL, cL, rfl, hrL, zL, hbL, hcL, _⟩ := ho.open
        have OL := Lib.hid ho
        have RL := Lib.hid hrL
        have B4 := Lib.hid (btC B.out hb)
        have hb34 := hb.size
        clear hb ho hrL HC5
        go_wp2_with fail
        refine (HP.out gL cL w4 (by omega) zL RL.out).mono ?_
        rintro e w5 ⟨rfl, hb⟩
        have OL5 := Lib.hid (OL.out.keep hb)
        have B5 := Lib.hid (btC B4.out hb)
        clear hb OL RL B4 HP
        go_wp2_with fail
        go_ret3
        exact ⟨_, by rw [HF.out]; rfl, by rw [HF.out]; exact OL5.out.weak B.out.size, B5.out⟩
      have hn : nx = (z : Int) := Decidable.byContradiction hn
      have e2 : (nx == (s.size : Int)) = true := by rw [HZ.out]; simpa using hn
      obtain ⟨hO, hl, _⟩ := HLa3.out hn
      have HLi2 := Lib.hid (HLi.out Q hO hl)
      have HFi2 := Lib.hid (HFi.out Q hO hl)
      have HNe2 := Lib.hid (HNe.out Q hO)
      have HYe2 := Lib.hid (HYe.out Q hO)
      have HC0 := Lib.hid (HCl.out true)
      rw [show (if true = true then entriesv Q else []) = entriesv Q from rfl] at HC0
      have HP := Lib.hid (fun g cap w hc hg h => putCpio_spec (entriesv Q) (entriesv Q).length g cap false w rfl (by have := HEl.out; omega) hc hg HSL.out h)
      have HNL : Hid (okS Q = false → entriesv Q = []) := Lib.hid entriesv_no
      have HBT : Hid (putBwB (entriesv Q) = false ∨ putBwB (entriesv Q) = true) := Lib.hid (by cases putBwB (entriesv Q) <;> simp)
      clear HMo3 HLa3 HLi HFi HNe HYe HBd HCl HSL HEl hO hl hn
      generalize entriesv Q = L at *
      generalize okS Q = ok at *
      generalize putBwT L false = pt at *
      generalize putBwB L = pb at *
      go_wp2_with fail
      refine HC0.out.mono ?_
      rintro e w4 ⟨v, rfl, ho, hb⟩
      obtain ⟨gL, cL, rfl, hrL, zL, hbL, hcL, _⟩ := ho.open
      have OL := Lib.hid ho
      have RL := Lib.hid hrL
      have B4 := Lib.hid (btC B.out hb)
      clear hb ho hrL HC0
      go_wp2_with fail
      refine (HP.out gL cL w4 hcL zL RL.out).mono ?_
      rintro e w5 ⟨rfl, hb⟩
      have OL5 := Lib.hid (OL.out.keep hb)
      have B5 := Lib.hid (btC B4.out hb)
      clear hb OL RL B4 HP
      cases ok with
      | false =>
        have HF := Lib.hid (HLi2.out rfl)
        obtain rfl := HNL.out rfl
        rw [show closedC true false = 4 from rfl]
        clear HLi2 HFi2 HNe2 HYe2
        go_wp2_with fail
        go_ret3
        exact ⟨_, by rw [HF.out]; rfl, by rw [HF.out]; exact OL5.out.weak B.out.size, B5.out⟩
      | true =>
        rw [show closedC true true = 0 from rfl]
        cases pb with
        | false =>
          have HF := Lib.hid (HFi2.out rfl)
          clear HLi2 HFi2 HNe2 HYe2
          go_wp2_with fail
          go_ret3
          exact ⟨_, by rw [HF.out]; rfl, by rw [HF.out]; exact OwnE.lit B5.out.size, B5.out.alloc B5.out.size _⟩
        | true =>
          by_cases hq : pt = s
          · have HF := Lib.hid (HYe2.out hq)
            have e3 : (pt.toList == s.toList) = true := by rw [hq]; simp
            clear HLi2 HFi2 HNe2 HYe2 hq
            go_wp2_with fail
            go_ret3
            exact ⟨_, by rw [HF.out]; rfl, by rw [HF.out]; exact OL5.out.weak B.out.size, B5.out⟩
          · have HF := Lib.hid (HNe2.out hq)
            have e3 : (pt.toList == s.toList) = false := strR_ne hq
            clear HLi2 HFi2 HNe2 HYe2 hq
            go_wp2_with fail
            go_ret3
            exact ⟨_, by rw [HF.out]; rfl, by rw [HF.out]; exact OwnE.lit B5.out.size, B5.out.alloc B5.out.size _⟩
    | false =>
      have e1 : (qp.toList == [84, 82, 65, 73, 76, 69, 82, 33, 33, 33]) = false := ht
      obtain ⟨q, hq, hpq, hst⟩ := HSt2.out ht
      subst hq
      have hqz := hst.2.2.2
      have St2 := Lib.hid hst
      have hql := HQl.out
      have hszB := B.out.size
      clear HMo2 HLa2 HSt2 ht hst
      go_wp2_with (at_builtin; refine wpList_append_own _ rfl _ _ 38 rfl w.heap.size 44 i0 (.agg #[.int .i64 0, .int .i64 0, .int .i64 0, .int .i64 0, .int .i64 0, .int .i64 0, .string ⟨#[]⟩, .string ⟨#[]⟩]) 8 80 Tryz.underlying38 hi0 hz0 hz1 hz2 rfl (by decide) _ Q.length (valsC Q) rfl ?c0q ⟨w3.heap.size, 0, none⟩ 1 1 (valsC [⟨q0, q1, q2, q3, q4, q5, qp, qd⟩]) rfl (valsC_len _) ?c1q ?c2q ?c3q ?c4q ?c5q ?_)
      case c0q => exact World.ownsRow.alloc O.out.1 _
      case c1q => intro jj uu hu; rw [valsC_one] at hu; first | exact hu | exact cell_newS _ ⟨q0, q1, q2, q3, q4, q5, qp, qd⟩ _ rfl jj uu hu
      case c2q => exact valsC_onecell _
      any_goals (first | (simp only [maxLen]; omega) | omega | (simp; omega))
      intro v' w9 hown hgrow hnil
      have NB : Below w3.heap.size w3 (w3.alloc (.cells (Card.cells ⟨q0, q1, q2, q3, q4, q5, qp, qd⟩).toArray 44)) := (Below.refl _ _).alloc (Nat.le_refl _) _
      have O9 : Hid (OwnC w9 w.heap.size v' (Q ++ [⟨q0, q1, q2, q3, q4, q5, qp, qd⟩])) := Lib.hid (own_appC hown rfl rfl hnil)
      have B9 := Lib.hid ((btC B.out NB).grown hgrow (by have := NB.size; omega) (fun b hb => (World.ownsRow.lt O.out.1 b hb).1))
      clear hown hgrow hnil NB O B XC d0 d1 d2 d3 d4 d5 d6 d7
      go_wp2_with fail
      go_roundw
      case rel => exact ⟨_, q, rfl, St2.out, O9.out, B9.out⟩
      case measure => simp [intOf]; omega
end Go.Proofs.YtancidbbkoeokaaGreat

/- Contract of spec.GetCpio. -/
namespace Go.Proofs.YtancidbbkoeokaaGreat
open Go.ChangeShapes Go.WideShapes Go.ChangeAt Go.RowKit Go.Deep

theorem getCpio_spec (s : ByteArray) (w : World) (hs : s.size ≤ 1048576) :
    Calls Tryz.prog 10 #[.string s] w fun e w' => ∃ v, e = .returned (.tuple #[v, .bool (hiOf s && ((gBn s (hiOf s)).1 == 0)), .int .i64 (gBn s (hiOf s)).1]) ∧ OwnE w' w.heap.size v (gBn s (hiOf s)).2 ∧ Below w.heap.size w w' := by
  by_cases h6 : 2 ≤ s.size
  · exact getCpio_two s (hiOf s) w hs h6 (by rw [hiOf, decide_eq_true h6, Bool.true_and])
  · have hc : hiOf s = false := by rw [hiOf, decide_eq_false h6, Bool.false_and]
    rw [hc]
    exact getCpio_less s w hs h6
end Go.Proofs.YtancidbbkoeokaaGreat

/- Contracts of laws.eqEntry and laws.eqEntryS where both are the same. -/
namespace Go.Proofs.YtancidbbkoeokaaGreat
open Go.ChangeShapes Go.WideShapes Go.ChangeAt Go.RowKit Go.Deep

theorem eqEntry_self (k : Int) (p l : ByteArray) (m u g t : Int) (us gr b : ByteArray) (w : World) :
    Calls Tryz.prog 23 #[.agg #[.int .i64 k, .string p, .string l, .int .i64 m, .int .i64 u, .int .i64 g, .int .i64 t, .string us, .string gr, .string b], .agg #[.int .i64 k, .string p, .string l, .int .i64 m, .int .i64 u, .int .i64 g, .int .i64 t, .string us, .string gr, .string b]] w fun e w' => e = .returned (.bool true) ∧ Below w.heap.size w w' := by
  have q1 : (p.toList == p.toList) = true := by simp
  have q2 : (l.toList == l.toList) = true := by simp
  have q3 : (us.toList == us.toList) = true := by simp
  have q4 : (gr.toList == gr.toList) = true := by simp
  have q5 : (b.toList == b.toList) = true := by simp
  go_enter Tryz.func23, Tryz.ntmps23
  go_wp2_with fail
  go_ret
  exact ⟨rfl, ((Below.refl _ w).alloc (Nat.le_refl _) _).alloc (by simp) _⟩
theorem bl_ch {w x w1 : World} (h1 : Below x.heap.size x w1) (os : x.os = w.os) (tape : x.tape = w.tape) (out : x.output = w.output) (hs : w.heap.size ≤ x.heap.size) (B : Nat) (hB : B ≤ x.heap.size) (hb : ∀ k, k < B → x.heap[k]? = w.heap[k]?) : Below B w w1 :=
  ⟨h1.os.trans os, h1.tape.trans tape, h1.output.trans out, Nat.le_trans hs h1.size, fun k hk => (h1.block k (Nat.lt_of_lt_of_le hk hB)).trans (hb k hk)⟩
theorem getE {L : List Ent} {i : Nat} (h : i < L.length) : ∃ e, L[i]? = some e := ⟨L[i], List.getElem?_eq_getElem h⟩
set_option maxHeartbeats 1600000 in
theorem eqEntryS_any (L : List Ent) (n g g2 ca cb : Nat) (w : World) (hn : n = L.length) (hm : n ≤ 4194304) (hg : g < w.heap.size) (hg2 : g2 < w.heap.size) (h1 : RowE w g L) (h2 : RowE w g2 L) :
    Calls Tryz.prog 9 #[.slice (some ⟨g, 0, none⟩) n ca, .slice (some ⟨g2, 0, none⟩) n cb] w fun e w' => e = .returned (.bool true) ∧ Below w.heap.size w w' := by
  have H1 := Lib.hid h1
  have H2 := Lib.hid h2
  have HG : Hid (∀ i, i < n → ∃ e, L[i]? = some e) := Lib.hid (fun i hi => getE (by omega))
  clear h1 h2 hn
  go_enter Tryz.func9, Tryz.ntmps9
  go_wp2_with fail
  go_loopw [5] (fun u wr => ∃ i : Nat, u = .int .i64 i ∧ i ≤ n ∧ Below w.heap.size w wr) (fun u _ => n - (intOf u).toNat)
  case atStart => exact ⟨0, rfl, Nat.zero_le _, Below.refl _ _⟩
  case round =>
    obtain ⟨i, rfl, hi, hb⟩ := hrel
    have B := Lib.hid hb
    clear hb
    by_cases hlt : i < n
    · have hlt2 : (i : Int) < (n : Int) := by omega
      obtain ⟨e, he⟩ := HG.out i hlt
      have R1 := Lib.hid (H1.out.below B.out hg)
      have R2 := Lib.hid (H2.out.below B.out hg2)
      obtain ⟨c0, c1, c2, c3, c4, c5, c6, c7, c8, c9⟩ := R1.out.ten he
      obtain ⟨d0, d1, d2, d3, d4, d5, d6, d7, d8, d9⟩ := R2.out.ten he
      clear he R1 R2
      obtain ⟨k, p, l, m, u, g0, t, us, gr, b⟩ := e
      have HQ := Lib.hid (fun w => eqEntry_self k p l m u g0 t us gr b w)
      go_wp2_with fail
      have hsz := B.out.size
      go_region_with (go_at_call 23; refine (HQ.out _).mono ?_; rintro e w1 ⟨rfl, hb1⟩; have B1 := Lib.hid (bl_ch hb1 B.out.os B.out.tape B.out.output hsz w.heap.size hsz B.out.block); clear hb1)
      all_goals
        go_wp2_with fail
        go_roundw
        case rel => exact ⟨i + 1, by go_num, by omega, B1.out.os, B1.out.tape, B1.out.output, B1.out.size, B1.out.block⟩
        case measure => simp [intOf]; omega
    · have hlt2 : ¬ (i : Int) < (n : Int) := by omega
      go_wp2_with fail
      go_ret
      exact ⟨rfl, B.out⟩
end Go.Proofs.YtancidbbkoeokaaGreat

/- What the laws over slices of entries share. -/
namespace Go.Proofs.YtancidbbkoeokaaGreat
open Go.ChangeShapes Go.WideShapes Go.ChangeAt Go.RowKit Go.Deep

theorem IsRowE.below {w w' : World} {a : Option Addr} {len cap : Nat} {es : List Ent} (h : IsRowE w a len cap es) (hb : Below w.heap.size w w') : IsRowE w' a len cap es := by
  rcases h with h | ⟨x, hx, hl, hm, hn, hc⟩
  · exact .inl h
  · refine .inr ⟨x, hx, hl, hm, hn, fun i hi => ⟨fun j hj => ?_, (hc i hi).2⟩⟩
    have h1 := (hc i hi).1 j hj
    have hsome : ∃ v, w.cell? (x.add (i * 10 + j)) = some v := by
      rw [h1]
      exact ⟨_, List.getElem?_eq_getElem (by show j < 10; exact hj)⟩
    obtain ⟨v, hv⟩ := hsome
    exact (hb.cell (cell_blk hv)).trans h1
end Go.Proofs.YtancidbbkoeokaaGreat

/- Contracts of laws.markEntryS and laws.heldEntryS. -/
namespace Go.Proofs.YtancidbbkoeokaaGreat
open Go.ChangeShapes Go.WideShapes Go.ChangeAt Go.RowKit Go.Deep

/-- The entry that is marked from k on, and a row of such. -/
def markEnt (k : Nat) : Ent := ⟨k, markv (k + 1), markv (k + 2), (k : Int) + 3, (k : Int) + 4, (k : Int) + 5, (k : Int) + 6, markv (k + 7), markv (k + 8), markv (k + 9)⟩
def marksE (k : Nat) : Nat → List Ent
  | 0 => []
  | n + 1 => marksE k n ++ [markEnt (k + n * 10)]
theorem marksE_len (k n : Nat) : (marksE k n).length = n := by
  induction n with
  | zero => rfl
  | succ n ih => simp [marksE, ih]
theorem marksE_get (k n i : Nat) (h : i < n) : (marksE k n)[i]? = some (markEnt (k + i * 10)) := by
  induction n with
  | zero => omega
  | succ n ih =>
    rw [marksE]
    by_cases e : i = n
    · subst e
      rw [List.getElem?_append_right (by rw [marksE_len]; omega), marksE_len]
      simp
    · rw [List.getElem?_append_left (by rw [marksE_len]; omega)]
      exact ih (by omega)
/-- The first i entries of a row's cells are the marks. -/
def MarkedE (ys : List Value) (k i : Nat) : Prop := FillE ys i (fun j => markEnt (k + j * 10))
theorem MarkedE.row {w : World} {base g n cap k : Nat} {ys : List Value} (h : MarkedE ys k n) (ho : w.ownsRow base 41 10 (.slice (some ⟨g, 0, none⟩) n cap) n ys) : RowE w g (marksE k n) := by
  intro j u hu
  have hj : j < n * 10 := by
    by_cases hj : j < n * 10
    · exact hj
    · rw [List.getElem?_eq_none (by rw [entVals_len, marksE_len]; omega)] at hu; cases hu
  have h1 := h (j / 10) (by omega) (j % 10) (by omega)
  have h2 := entVals_get (marksE k n) (j / 10) (j % 10) (by omega)
  rw [marksE_get _ _ _ (by omega)] at h2
  rw [show j / 10 * 10 + j % 10 = j from by omega] at h1 h2
  rw [hu] at h2
  have h3 : ys[j]? = some u := h1.trans h2.symm
  have := World.ownsRow.cells ho (g := g) rfl j u h3
  rwa [show (⟨g, 0, none⟩ : Addr).add j = ⟨g, j, none⟩ from by unfold Addr.add; split <;> simp_all] at this
theorem own_at {w : World} {base g n cap : Nat} {e : TypeId} {ys : List Value} (h : w.ownsRow base e 10 (.slice (some ⟨g, 0, none⟩) n cap) n ys) {i : Nat} (hi : i < n) (j : Nat) (hj : j < 10) : ∃ y, w.cell? ⟨g, i * 10 + j, none⟩ = some y := by
  rcases h.2 with ⟨h', _⟩ | ⟨g', cap', cur, h', _, hg, hnc, _, hcs, _⟩
  · simp at h'
  · simp only [Value.slice.injEq, Option.some.injEq, Addr.mk.injEq, and_true, true_and] at h'
    obtain ⟨rfl, rfl⟩ := h'
    have hlt : i * 10 + j < cur.size := by omega
    exact ⟨cur[i * 10 + j], by simp [World.cell?, hg, Array.getElem?_eq_getElem hlt]⟩
theorem kept_cellE {x w1 : World} {g k : Nat} {t : Value} (h1 : Below x.heap.size x w1) (hg : g < x.heap.size) (hc : x.cell? ⟨g, k, none⟩ = .some t) : w1.cell? ⟨g, k, none⟩ = .some t := (h1.cell (p := ⟨g, k, none⟩) hg).trans hc
theorem self_eqE (a : ByteArray) : (a.toList == a.toList) = true := by simp
theorem grown_set {w w' : World} {g : Nat} (h : w.grownBy w' (some g)) (o : Nat) (v : Value) : w.grownBy (w'.setCell ⟨g, o, none⟩ v) (some g) :=
  ⟨h.os, h.tape, h.output, by simpa using h.size, fun k hk hne => (Below.heap_setCell w' _ v k (fun e => hne (by rw [e]))).trans (h.block k hk hne)⟩
theorem grown_belowM {w w' w'' : World} {row : Option Nat} (h : w.grownBy w' row) (hb : Below w'.heap.size w' w'') : w.grownBy w'' row :=
  ⟨hb.os.trans h.os, hb.tape.trans h.tape, hb.output.trans h.output, Nat.le_trans h.size hb.size, fun k hk hne => (hb.block k (Nat.lt_of_lt_of_le hk h.size)).trans (h.block k hk hne)⟩
theorem own_below {w w' : World} {base : Nat} {ty : TypeId} {v : Value} {n : Nat} {xs : List Value} (h : w.ownsRow base ty 10 v n xs) (hb : Below w.heap.size w w') : w'.ownsRow base ty 10 v n xs :=
  World.ownsRow.kept h (row := none) ⟨hb.os, hb.tape, hb.output, hb.size, fun k hk _ => hb.block k hk⟩ (by cases hv : v.ownBlock <;> simp)
set_option maxHeartbeats 3200000 in
set_option maxRecDepth 8000 in
theorem markEntryS_any (n g cap k : Nat) (base : Nat) (xs : List Value) (w : World) (hk : 1 ≤ k) (hn : k + n * 10 ≤ 100000000) (h1 : w.ownsRow base 41 10 (.slice (some ⟨g, 0, none⟩) n cap) n xs) :
    Calls Tryz.prog 12 #[.slice (some ⟨g, 0, none⟩) n cap, .int .i64 k] w fun e w' => e = .returned (.int .i64 ((k + n * 10 : Nat) : Int)) ∧ (∃ ys, w'.ownsRow base 41 10 (.slice (some ⟨g, 0, none⟩) n cap) n ys) ∧ RowE w' g (marksE k n) ∧ w.grownBy w' (some g) := by
  have H1 := Lib.hid h1
  clear h1
  go_enter Tryz.func12, Tryz.ntmps12
  go_wp2_with fail
  go_loopw [1, 5] (fun x u wr => ∃ (i : Nat) (ys : List Value), i ≤ n ∧ x = .int .i64 ((k + i * 10 : Nat) : Int) ∧ u = .int .i64 i ∧ wr.ownsRow base 41 10 (.slice (some ⟨g, 0, none⟩) n cap) n ys ∧ MarkedE ys k i ∧ w.grownBy wr (some g)) (fun _ u _ => n - (intOf u).toNat)
  case atStart => exact ⟨0, xs, Nat.zero_le _, by simp, rfl, H1.out, fun i hi => by omega, ⟨rfl, rfl, rfl, Nat.le_refl _, fun _ _ _ => rfl⟩⟩
  case round =>
    obtain ⟨i, ys, hi, rfl, rfl, ho, hr, hb⟩ := hrel
    have G := Lib.hid hb
    have O := Lib.hid ho
    have HR := Lib.hid hr
    have hys : ys.length = n * 10 := ho.1
    clear hb ho hr H1
    by_cases hlt : i < n
    · have hlt2 : (i : Int) < (n : Int) := by omega
      have HS : Hid (MarkedE (set10 ys (i * 10) (markEnt (k + i * 10))) k (i + 1)) := Lib.hid (HR.out.step (by omega))
      clear HR
      have hK : k + i * 10 + 10 ≤ 100000000 := by omega
      have hK1 : 1 ≤ k + i * 10 := by omega
      generalize hKe : k + i * 10 = K at *
      have hMT := Lib.hid (fun (x : Int) (j : Nat) w (hx : x = ((K + j : Nat) : Int)) (hj : j ≤ 10) => (by rw [hx]; exact markText_any (K + j) w (by omega) (by omega) : Calls Tryz.prog 29 #[.int .i64 x] w fun e w' => e = .returned (.string (markv (K + j))) ∧ Below w.heap.size w w'))
      obtain ⟨y0, d0⟩ := own_at O.out hlt 0 (by omega)
      rw [Nat.add_zero] at d0
      have f0 := World.ownsRow.frozenAt O.out (i * 10)
      go_wp2_with fail
      refine (hMT.out _ 1 _ (by omega) (by omega)).mono ?_
      rintro e w1 ⟨rfl, hb⟩
      have O1 := Lib.hid (own_below (World.ownsRow.stored O.out (i * 10) _).1 hb)
      have G1 := Lib.hid (grown_belowM (grown_set G.out (i * 10) _) hb)
      clear hb d0 f0
      obtain ⟨y1, d1⟩ := own_at O1.out hlt 1 (by omega)
      have f1 := World.ownsRow.frozenAt O1.out (i * 10 + 1)
      go_wp2_with fail
      refine (hMT.out _ 2 _ (by omega) (by omega)).mono ?_
      rintro e w2 ⟨rfl, hb⟩
      have O2 := Lib.hid (own_below (World.ownsRow.stored O1.out (i * 10 + 1) (.string (markv (K + 1)))).1 hb)
      have G2 := Lib.hid (grown_belowM (grown_set G1.out (i * 10 + 1) (.string (markv (K + 1)))) hb)
      clear hb d1 f1
      obtain ⟨y2, d2⟩ := own_at O2.out hlt 2 (by omega)
      have f2 := World.ownsRow.frozenAt O2.out (i * 10 + 2)
      obtain ⟨y3, d3⟩ := own_at O2.out hlt 3 (by omega)
      have f3 := World.ownsRow.frozenAt O2.out (i * 10 + 3)
      obtain ⟨y4, d4⟩ := own_at O2.out hlt 4 (by omega)
      have f4 := World.ownsRow.frozenAt O2.out (i * 10 + 4)
      obtain ⟨y5, d5⟩ := own_at O2.out hlt 5 (by omega)
      have f5 := World.ownsRow.frozenAt O2.out (i * 10 + 5)
      obtain ⟨y6, d6⟩ := own_at O2.out hlt 6 (by omega)
      have f6 := World.ownsRow.frozenAt O2.out (i * 10 + 6)
      go_wp2_with fail
      refine (hMT.out _ 7 _ (by omega) (by omega)).mono ?_
      rintro e w7 ⟨rfl, hb⟩
      have O7 := Lib.hid (own_below (World.ownsRow.stored (World.ownsRow.stored (World.ownsRow.stored (World.ownsRow.stored (World.ownsRow.stored O2.out (i * 10 + 2) (.string (markv (K + 2)))).1 (i * 10 + 3) _).1 (i * 10 + 4) _).1 (i * 10 + 5) _).1 (i * 10 + 6) _).1 hb)
      have G7 := Lib.hid (grown_belowM (grown_set (grown_set (grown_set (grown_set (grown_set G2.out (i * 10 + 2) (.string (markv (K + 2)))) (i * 10 + 3) _) (i * 10 + 4) _) (i * 10 + 5) _) (i * 10 + 6) _) hb)
      clear hb d2 f2 d3 f3 d4 f4 d5 f5 d6 f6
      obtain ⟨y7, d7⟩ := own_at O7.out hlt 7 (by omega)
      have f7 := World.ownsRow.frozenAt O7.out (i * 10 + 7)
      go_wp2_with fail
      refine (hMT.out _ 8 _ (by omega) (by omega)).mono ?_
      rintro e w8 ⟨rfl, hb⟩
      have O8 := Lib.hid (own_below (World.ownsRow.stored O7.out (i * 10 + 7) (.string (markv (K + 7)))).1 hb)
      have G8 := Lib.hid (grown_belowM (grown_set G7.out (i * 10 + 7) (.string (markv (K + 7)))) hb)
      clear hb d7 f7
      obtain ⟨y8, d8⟩ := own_at O8.out hlt 8 (by omega)
      have f8 := World.ownsRow.frozenAt O8.out (i * 10 + 8)
      go_wp2_with fail
      refine (hMT.out _ 9 _ (by omega) (by omega)).mono ?_
      rintro e w9 ⟨rfl, hb⟩
      have O9 := Lib.hid (own_below (World.ownsRow.stored O8.out (i * 10 + 8) (.string (markv (K + 8)))).1 hb)
      have G9 := Lib.hid (grown_belowM (grown_set G8.out (i * 10 + 8) (.string (markv (K + 8)))) hb)
      clear hb d8 f8
      obtain ⟨y9, d9⟩ := own_at O9.out hlt 9 (by omega)
      have f9 := World.ownsRow.frozenAt O9.out (i * 10 + 9)
      go_wp2_with fail
      go_roundw
      case rel => exact ⟨i + 1, _, by omega, by go_num, by go_num, (World.ownsRow.stored O9.out (i * 10 + 9) (.string (markv (K + 9)))).1, HS.out, (grown_set G9.out (i * 10 + 9) (.string (markv (K + 9))))⟩
      case measure => simp [intOf]; omega
    · obtain rfl : i = n := by omega
      have hlt2 : ¬ (i : Int) < (i : Int) := by omega
      go_wp2_with fail
      go_ret
      exact ⟨rfl, ⟨ys, O.out⟩, HR.out.row O.out, G.out⟩
end Go.Proofs.YtancidbbkoeokaaGreat

/- Contract of laws.heldEntryS. -/
namespace Go.Proofs.YtancidbbkoeokaaGreat
open Go.ChangeShapes Go.WideShapes Go.ChangeAt Go.RowKit Go.Deep

set_option maxHeartbeats 3200000 in
set_option maxRecDepth 8000 in
theorem heldEntryS_any (n g cap k : Nat) (w : World) (hk : 1 ≤ k) (hn : k + n * 10 ≤ 100000000) (hg : g < w.heap.size) (h1 : RowE w g (marksE k n)) :
    Calls Tryz.prog 13 #[.slice (some ⟨g, 0, none⟩) n cap, .int .i64 k] w fun e w' => e = .returned (.int .i64 ((k + n * 10 : Nat) : Int)) ∧ Below w.heap.size w w' := by
  have H1 := Lib.hid h1
  clear h1
  go_enter Tryz.func13, Tryz.ntmps13
  go_wp2_with fail
  go_loopw [1, 5] (fun x u wr => ∃ (i : Nat), i ≤ n ∧ x = .int .i64 ((k + i * 10 : Nat) : Int) ∧ u = .int .i64 i ∧ Below w.heap.size w wr) (fun _ u _ => n - (intOf u).toNat)
  case atStart => exact ⟨0, Nat.zero_le _, by simp, rfl, Below.refl _ _⟩
  case round =>
    obtain ⟨i, hi, rfl, rfl, hb⟩ := hrel
    have B0 := Lib.hid hb
    clear hb
    by_cases hlt : i < n
    · have hlt2 : (i : Int) < (n : Int) := by omega
      have hK : k + i * 10 + 10 ≤ 100000000 := by omega
      have hK1 : 1 ≤ k + i * 10 := by omega
      have R0 := Lib.hid (H1.out.below B0.out hg)
      have HG := Lib.hid (marksE_get k n i hlt)
      generalize hKe : k + i * 10 = K at *
      have hMT := Lib.hid (fun (x : Int) (j : Nat) w (hx : x = ((K + j : Nat) : Int)) (hj : j ≤ 10) => (by rw [hx]; exact markText_any (K + j) w (by omega) (by omega) : Calls Tryz.prog 29 #[.int .i64 x] w fun e w' => e = .returned (.string (markv (K + j))) ∧ Below w.heap.size w w'))
      have q1 := self_eqE (markv (K + 1))
      have q2 := self_eqE (markv (K + 2))
      have q7 := self_eqE (markv (K + 7))
      have q8 := self_eqE (markv (K + 8))
      have q9 := self_eqE (markv (K + 9))
      have B : Hid (Below w.heap.size w wr) := B0
      have R : Hid (RowE wr g (marksE k n)) := R0
      have z : g < wr.heap.size := by have := B0.out.size; omega
      clear B0 R0
      obtain ⟨c0, c1, c2, c3, c4, c5, c6, c7, c8, c9⟩ := R.out.ten HG.out
      simp only [markEnt] at c0 c1 c2 c3 c4 c5 c6 c7 c8 c9
      go_wp2_with fail
      replace B : Hid (Below w.heap.size w wr.drew) := Lib.hid B.out.drew
      replace R : Hid (RowE wr.drew g (marksE k n)) := Lib.hid R.out
      replace z : g < wr.drew.heap.size := z
      go_region_held3 (fun w' => w'.cell? ⟨g, i * 10 + 1, none⟩ = some (.string (markv (K + 1)))) (assumption) (first | (go_at_call 29; refine (hMT.out _ 1 _ (by omega) (by omega)).mono ?_; rintro e w1 ⟨rfl, hb⟩; have d1 := kept_cellE hb z c1; replace B := Lib.hid (btE B.out hb); replace R := Lib.hid (R.out.below hb z); replace z := Nat.lt_of_lt_of_le z hb.size; clear hb))
      clear c0 c1 c2 c3 c4 c5 c6 c7 c8 c9
      obtain ⟨c0, c1, c2, c3, c4, c5, c6, c7, c8, c9⟩ := R.out.ten HG.out
      simp only [markEnt] at c0 c1 c2 c3 c4 c5 c6 c7 c8 c9
      go_wp2_with fail
      replace B : Hid (Below w.heap.size w w1.drew) := Lib.hid B.out.drew
      replace R : Hid (RowE w1.drew g (marksE k n)) := Lib.hid R.out
      replace z : g < w1.drew.heap.size := z
      go_region_held3 (fun w' => w'.cell? ⟨g, i * 10 + 2, none⟩ = some (.string (markv (K + 2)))) (assumption) (first | (go_at_call 29; refine (hMT.out _ 2 _ (by omega) (by omega)).mono ?_; rintro e w2 ⟨rfl, hb⟩; have d2 := kept_cellE hb z c2; replace B := Lib.hid (btE B.out hb); replace R := Lib.hid (R.out.below hb z); replace z := Nat.lt_of_lt_of_le z hb.size; clear hb))
      clear c0 c1 c2 c3 c4 c5 c6 c7 c8 c9
      obtain ⟨c0, c1, c2, c3, c4, c5, c6, c7, c8, c9⟩ := R.out.ten HG.out
      simp only [markEnt] at c0 c1 c2 c3 c4 c5 c6 c7 c8 c9
      go_wp2_with fail
      replace B : Hid (Below w.heap.size w w2.drew) := Lib.hid B.out.drew
      replace R : Hid (RowE w2.drew g (marksE k n)) := Lib.hid R.out
      replace z : g < w2.drew.heap.size := z
      go_region_held3 (fun w' => w'.cell? ⟨g, i * 10 + 7, none⟩ = some (.string (markv (K + 7)))) (assumption) (first | (go_at_call 29; refine (hMT.out _ 7 _ (by omega) (by omega)).mono ?_; rintro e w7 ⟨rfl, hb⟩; have d7 := kept_cellE hb z c7; replace B := Lib.hid (btE B.out hb); replace R := Lib.hid (R.out.below hb z); replace z := Nat.lt_of_lt_of_le z hb.size; clear hb))
      clear c0 c1 c2 c3 c4 c5 c6 c7 c8 c9
      obtain ⟨c0, c1, c2, c3, c4, c5, c6, c7, c8, c9⟩ := R.out.ten HG.out
      simp only [markEnt] at c0 c1 c2 c3 c4 c5 c6 c7 c8 c9
      go_wp2_with fail
      replace B : Hid (Below w.heap.size w w7.drew) := Lib.hid B.out.drew
      replace R : Hid (RowE w7.drew g (marksE k n)) := Lib.hid R.out
      replace z : g < w7.drew.heap.size := z
      go_region_held3 (fun w' => w'.cell? ⟨g, i * 10 + 8, none⟩ = some (.string (markv (K + 8)))) (assumption) (first | (go_at_call 29; refine (hMT.out _ 8 _ (by omega) (by omega)).mono ?_; rintro e w8 ⟨rfl, hb⟩; have d8 := kept_cellE hb z c8; replace B := Lib.hid (btE B.out hb); replace R := Lib.hid (R.out.below hb z); replace z := Nat.lt_of_lt_of_le z hb.size; clear hb))
      clear c0 c1 c2 c3 c4 c5 c6 c7 c8 c9
      obtain ⟨c0, c1, c2, c3, c4, c5, c6, c7, c8, c9⟩ := R.out.ten HG.out
      simp only [markEnt] at c0 c1 c2 c3 c4 c5 c6 c7 c8 c9
      go_wp2_with fail
      replace B : Hid (Below w.heap.size w w8.drew) := Lib.hid B.out.drew
      replace R : Hid (RowE w8.drew g (marksE k n)) := Lib.hid R.out
      replace z : g < w8.drew.heap.size := z
      go_region_held3 (fun w' => w'.cell? ⟨g, i * 10 + 9, none⟩ = some (.string (markv (K + 9)))) (assumption) (first | (go_at_call 29; refine (hMT.out _ 9 _ (by omega) (by omega)).mono ?_; rintro e w9 ⟨rfl, hb⟩; have d9 := kept_cellE hb z c9; replace B := Lib.hid (btE B.out hb); replace R := Lib.hid (R.out.below hb z); replace z := Nat.lt_of_lt_of_le z hb.size; clear hb))
      clear c0 c1 c2 c3 c4 c5 c6 c7 c8 c9
      go_wp2_with fail
      go_roundw
      case rel => exact ⟨i + 1, by omega, by go_num, by go_num, B.out⟩
      case measure => simp [intOf]; omega
    · obtain rfl : i = n := by omega
      have hlt2 : ¬ (i : Int) < (i : Int) := by omega
      go_wp2_with fail
      go_ret
      exact ⟨rfl, B0.out⟩
end Go.Proofs.YtancidbbkoeokaaGreat

/- Contract of impl.Parts. -/
namespace Go.Proofs.YtancidbbkoeokaaGreat
open Go.RowKit Go.Shelf

theorem OwnL.keep {w w' : World} {base : Nat} {v : Value} {l : List ByteArray} (h : OwnL w base v l) (hb : Below w.heap.size w w') : OwnL w' base v l := by
  obtain ⟨ho, g, cap, rfl⟩ := h
  exact ⟨OwnT.below ho hb (World.ownsRow.lt ho g rfl).2, g, cap, rfl⟩
theorem OwnT.rebase {w : World} {base g n cap : Nat} {xs : List Value} (h : OwnT w base (.slice (some ⟨g, 0, none⟩) n cap) n xs) : OwnT w g (.slice (some ⟨g, 0, none⟩) n cap) n xs := by
  refine ⟨h.1, ?_⟩
  rcases h.2 with ⟨h', _⟩ | ⟨g', cap', cur, h', _, hgg, rest⟩
  · simp at h'
  · simp only [Value.slice.injEq, Option.some.injEq, Addr.mk.injEq, and_true, true_and] at h'
    obtain ⟨rfl, rfl⟩ := h'
    exact .inr ⟨g, cap, cur, rfl, Nat.le_refl _, hgg, rest⟩

attribute [local go_sem] Oper.semAt_some

end Go.Proofs.YtancidbbkoeokaaGreat

/- What a row of texts of a call's own gives, in one piece; rows of texts behind a call that writes another block. -/
namespace Go.Proofs.YtancidbbkoeokaaGreat
open Go.ChangeShapes Go.WideShapes Go.ChangeAt Go.RowKit

theorem OwnL.open {w : World} {base : Nat} {v : Value} {L : List ByteArray} (h : OwnL w base v L) : ∃ g cap, v = .slice (some ⟨g, 0, none⟩) L.length cap ∧ RowF w g L.length (rowOf L) ∧ g < w.heap.size ∧ base ≤ g ∧ OwnT w g (.slice (some ⟨g, 0, none⟩) L.length cap) L.length (strVals L) := by
  obtain ⟨ho, g, cap, rfl⟩ := h
  exact ⟨g, cap, rfl, ho.rowF, (World.ownsRow.lt ho g rfl).2, (World.ownsRow.lt ho g rfl).1, ho.rebase⟩
theorem RowF.grown {w w' : World} {g n : Nat} {row : Option Nat} {R : Nat → ByteArray} (h : RowF w g n R) (hb : w.grownBy w' row) (hg : some g ≠ row) : RowF w' g n R :=
  fun i hi => hb.cell (h i hi) hg
theorem OwnT.grown {w w' : World} {base g n cap : Nat} {row : Option Nat} {xs : List Value} (h : OwnT w base (.slice (some ⟨g, 0, none⟩) n cap) n xs) (hb : w.grownBy w' row) (hg : some g ≠ row) : OwnT w' base (.slice (some ⟨g, 0, none⟩) n cap) n xs :=
  World.ownsRow.kept h hb (.inr (by simpa [Value.ownBlock] using hg))
theorem someNe {a b : Nat} (h : a ≠ b) : some a ≠ some b := fun e => h (Option.some.inj e)
end Go.Proofs.YtancidbbkoeokaaGreat

/- The law laws.FnExactGetCpio returns true. -/
namespace Go.Proofs.YtancidbbkoeokaaGreat
open Go.ChangeShapes Go.WideShapes Go.ChangeAt Go.RowKit Go.Deep

theorem outc_len (R : Rdr) (z : Nat) : ∀ (f : Nat) (Q : List Card) (p : Nat), (outc R z f Q p).2.length ≤ Q.length + f := by
  intro f
  induction f with
  | zero => intro Q p; exact Nat.zero_le _
  | succ f ih =>
    intro Q p
    rw [outc]
    by_cases h1 : ¬ p < z
    · rw [if_pos h1]; exact Nat.zero_le _
    rw [if_neg h1]
    by_cases h2 : ¬ (R p).2.2 = 0
    · rw [if_pos h2]; exact Nat.zero_le _
    rw [if_neg h2]
    by_cases h3 : isTr (R p).1.Path = true
    · rw [if_pos h3]
      by_cases h4 : (R p).2.1 = (z : Int)
      · rw [if_pos h4]; exact Nat.le_add_right _ _
      · rw [if_neg h4]; exact Nat.zero_le _
    · rw [if_neg h3]
      have h5 := ih (Q ++ [(R p).1]) (R p).2.1.toNat
      rw [List.length_append, List.length_singleton] at h5
      omega
theorem getv_len (O : Int × List Card) (P : List Ent → ByteArray) (s : ByteArray) : (getv O P s).2.length ≤ O.2.length := by
  have h := entriesv_le O.2
  rw [getv]
  by_cases h1 : ¬ O.1 = 0
  · rw [if_pos h1]; exact Nat.zero_le _
  rw [if_neg h1]
  by_cases h2 : P (entriesv O.2) = s
  · rw [if_pos h2]; exact h
  · rw [if_neg h2]; exact Nat.zero_le _
theorem gBn_len (s : ByteArray) : (gBn s (hiOf s)).2.length ≤ s.size + 1 := by
  have h1 := getv_len (binO s (hiOf s)) (fun L => putBwT L (hiOf s)) s
  have h2 := outc_len (binR s (hiOf s)) s.size (s.size + 1) [] 0
  rw [List.length_nil, Nat.zero_add] at h2
  exact Nat.le_trans h1 h2
set_option maxHeartbeats 3200000 in
set_option maxRecDepth 8000 in
theorem getCpio_law (s : ByteArray) (w : World) :
    Calls Tryz.prog 4 #[.string s] w fun e w' => e = .returned (.bool true) ∧ Below w.heap.size w w' := by
  by_cases hs : (1048576 : Int) < (s.size : Int)
  · go_enter Tryz.func4, Tryz.ntmps4
    go_wp2_with fail
    go_ret
    exact ⟨rfl, Below.refl _ _⟩
  have S1 := Lib.hid (fun w => getCpio_spec s w (by omega))
  have S2 := Lib.hid (fun w => getCpio_impl s w (by omega))
  have hD := gBn_len s
  rw [show bBn s = (hiOf s && ((gBn s (hiOf s)).1 == 0)) from rfl] at S2
  generalize (hiOf s && ((gBn s (hiOf s)).1 == 0)) = bb at *
  generalize (gBn s (hiOf s)).1 = c at *
  generalize (gBn s (hiOf s)).2 = D at *
  have qb : (bb != bb) = false := by simp
  have qe : (c != c) = false := by simp
  have HE := Lib.hid (fun g g2 ca cb w hg hg2 h1 h2 => eqEntryS_any D D.length g g2 ca cb w rfl (by omega) hg hg2 h1 h2)
  have HM := Lib.hid (fun g ca base w h => markEntryS_any D.length g ca 1 base (entVals D) w (by omega) (by omega) h)
  have HH := Lib.hid (fun g ca w hg h => heldEntryS_any D.length g ca 1 w (by omega) (by omega) hg h)
  have qm : ¬ ((1 + D.length * 10 : Nat) : Int) < 0 := by omega
  have B : Hid (Below w.heap.size w w) := Lib.hid (Below.refl _ _)
  go_enter Tryz.func4, Tryz.ntmps4
  go_wp2_with fail
  refine (S1.out _).mono ?_
  rintro e w3 ⟨v, rfl, ho, hb⟩
  obtain ⟨gw, cw, rfl, hr, zw, hbase, _, hown⟩ := ho.open
  have Rw := Lib.hid hr
  clear ho hr hown hbase
  replace B := Lib.hid (btE B.out hb)
  clear hb
  go_wp2_with fail
  refine (S2.out _).mono ?_
  rintro e w5 ⟨v2, rfl, ho, hb⟩
  obtain ⟨gg, cg, rfl, hr, zg, hbase, _, hown⟩ := ho.open
  have Rg := Lib.hid hr
  have Og := Lib.hid hown
  have hwg : gw ≠ gg := by omega
  have hgB : w.heap.size ≤ gg := by have := B.out.size; omega
  clear ho hr hown hbase
  replace B := Lib.hid (btE B.out hb)
  replace Rw := Lib.hid (Rw.out.below hb zw)
  replace zw := Nat.lt_of_lt_of_le zw hb.size
  clear hb
  go_wp2_with fail
  refine (HE.out gg gw cg cw _ zg zw Rg.out Rw.out).mono ?_
  rintro e w10 ⟨rfl, hb⟩
  replace B := Lib.hid (btE B.out hb)
  replace Og := Lib.hid (own_below Og.out hb)
  replace Rw := Lib.hid (Rw.out.below hb zw)
  replace zw := Nat.lt_of_lt_of_le zw hb.size
  replace Rg := Lib.hid (Rg.out.below hb zg)
  replace zg := Nat.lt_of_lt_of_le zg hb.size
  clear hb
  go_wp2_with fail
  refine (HM.out gg cg _ _ Og.out).mono ?_
  rintro e w11 ⟨rfl, _, hrm, hg⟩
  replace B : Hid (Below w.heap.size w w11) := Lib.hid (B.out.grown hg B.out.size (fun k hk => by cases hk; omega))
  replace Rw := Lib.hid (Rw.out.grown hg (someNe (by omega)))
  replace zw := Nat.lt_of_lt_of_le zw hg.size
  clear Rg Og
  have Rg := Lib.hid hrm
  replace zg := Nat.lt_of_lt_of_le zg hg.size
  clear hg hrm
  go_wp2_with fail
  refine (HH.out gg cg _ zg Rg.out).mono ?_
  rintro e w12 ⟨rfl, hb⟩
  replace B := Lib.hid (btE B.out hb)
  replace Rw := Lib.hid (Rw.out.below hb zw)
  replace zw := Nat.lt_of_lt_of_le zw hb.size
  replace Rg := Lib.hid (Rg.out.below hb zg)
  replace zg := Nat.lt_of_lt_of_le zg hb.size
  clear hb
  go_wp2_with fail
  refine (S2.out _).mono ?_
  rintro e w14 ⟨v3, rfl, ho, hb⟩
  obtain ⟨gh, ch, rfl, hr, zh, hbase, _, hown⟩ := ho.open
  have Rh := Lib.hid hr
  clear ho hr hown hbase
  replace B := Lib.hid (btE B.out hb)
  replace Rw := Lib.hid (Rw.out.below hb zw)
  replace zw := Nat.lt_of_lt_of_le zw hb.size
  replace Rg := Lib.hid (Rg.out.below hb zg)
  replace zg := Nat.lt_of_lt_of_le zg hb.size
  clear hb
  go_wp2_with fail
  refine (HE.out gh gw ch cw _ zh zw Rh.out Rw.out).mono ?_
  rintro e w15 ⟨rfl, hb⟩
  replace B := Lib.hid (btE B.out hb)
  replace Rg := Lib.hid (Rg.out.below hb zg)
  replace zg := Nat.lt_of_lt_of_le zg hb.size
  clear hb Rw zw Rh zh
  go_wp2_with fail
  refine (HH.out gg cg _ zg Rg.out).mono ?_
  rintro e w16 ⟨rfl, hb⟩
  replace B := Lib.hid (btE B.out hb)
  clear hb
  go_wp2_with fail
  go_ret
  exact ⟨rfl, B.out⟩
end Go.Proofs.YtancidbbkoeokaaGreat
