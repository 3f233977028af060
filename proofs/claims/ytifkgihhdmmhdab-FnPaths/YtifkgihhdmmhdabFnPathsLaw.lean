/- The law laws.FnPaths returns true. -/
import Derived.Test.YtifkgihhdmmhdabFnCleanLaw
import Derived.Test.YtifkgihhdmmhdabSameT
namespace Go.Proofs.Ytifkgihhdmmhdab
open Go.RowKit Go.Shelf

theorem OwnL.row {w : World} {base : Nat} {v : Value} {L : List ByteArray} (h : OwnL w base v L) : ∃ g cap, v = .slice (some ⟨g, 0, none⟩) L.length cap ∧ g < w.heap.size ∧ RowF w g L.length (rowOf L) := by
  obtain ⟨ho, g, cap, rfl⟩ := h
  exact ⟨g, cap, rfl, (World.ownsRow.lt ho g rfl).2, ho.rowF⟩

set_option maxHeartbeats 4000000 in
set_option maxRecDepth 8000 in
theorem fnPaths_law (a : Option Addr) (len cap : Nat) (w : World) (hC : len ≤ 1048576 → CodeIn w a len) :
    Calls Try.prog 4 #[.slice a len cap] w fun e w' => e = .returned (.bool true) ∧ Below w.heap.size w w' := by
  have HB := Lib.hid (fun w => bigc_any a len cap w)
  by_cases hl : len ≤ 1048576
  · have HC := Lib.hid (hC hl)
    have hd : decide (1048576 < (len : Int)) = false := by simp; omega
    rw [hd] at HB
    clear hd hC
    go_enter Try.func4, Try.ntmps4
    go_wp2_with fail
    refine (HB.out _).mono ?_
    rintro e w0 ⟨rfl, rfl⟩
    have B0 := Lib.hid (Below.refl w.heap.size w)
    clear HB
    go_wp2_with fail
    refine (drawPartOk a len cap _ (HC.out.below B0.out)).mono ?_
    rintro e w1 ⟨a1, ha1, rfl, b⟩
    have B1 := Lib.hid (bt B0.out b)
    clear b B0
    go_wp2_with fail
    refine (drawPathOk a len cap _ (HC.out.below B1.out)).mono ?_
    rintro e w2 ⟨s, hs, rfl, b⟩
    have B2 := Lib.hid (bt B1.out b)
    clear b B1
    go_wp2_with fail
    refine (drawParts a len cap _ (HC.out.below B2.out)).mono ?_
    rintro e w3 ⟨p, hp, rfl, b⟩
    have B3 := Lib.hid (bt B2.out b)
    clear b B2
    go_wp2_with fail
    refine (drawJoin a len cap _ (HC.out.below B3.out)).mono ?_
    rintro e w4 ⟨sj, vj, hsj, rfl, oj, b⟩
    have B4 := Lib.hid (bt B3.out b)
    obtain ⟨gj, capj, rfl, lt_gj, rj⟩ := oj.row
    have Rj := Lib.hid rj
    have hTj := Lib.hid (totB_parts sj)
    clear rj oj
    generalize partsv sj = Lj at Rj hTj ⊢
    clear b B3
    go_wp2_with fail
    refine (drawDir a len cap _ (HC.out.below B4.out)).mono ?_
    rintro e w5 ⟨d, hd, rfl, b⟩
    have B5 := Lib.hid (bt B4.out b)
    replace Rj := Lib.hid (Rj.out.below b lt_gj)
    replace lt_gj := Nat.lt_of_lt_of_le lt_gj b.size
    clear b B4
    go_wp2_with fail
    refine (drawBase a len cap _ (HC.out.below B5.out)).mono ?_
    rintro e w6 ⟨bb, hbb, rfl, b⟩
    have B6 := Lib.hid (bt B5.out b)
    replace Rj := Lib.hid (Rj.out.below b lt_gj)
    replace lt_gj := Nat.lt_of_lt_of_le lt_gj b.size
    clear b B5
    go_wp2_with fail
    refine (drawDepth a len cap _ (HC.out.below B6.out)).mono ?_
    rintro e w7 ⟨ee, hee, rfl, b⟩
    have B7 := Lib.hid (bt B6.out b)
    replace Rj := Lib.hid (Rj.out.below b lt_gj)
    replace lt_gj := Nat.lt_of_lt_of_le lt_gj b.size
    clear b B6
    go_wp2_with fail
    refine (drawUnder a len cap _ (HC.out.below B7.out)).mono ?_
    rintro e w8 ⟨u, v, hu, hv, rfl, b⟩
    have B8 := Lib.hid (bt B7.out b)
    replace Rj := Lib.hid (Rj.out.below b lt_gj)
    replace lt_gj := Nat.lt_of_lt_of_le lt_gj b.size
    clear b B7
    go_wp2_with fail
    refine (drawParents a len cap _ (HC.out.below B8.out)).mono ?_
    rintro e w9 ⟨q, hq, rfl, b⟩
    have B9 := Lib.hid (bt B8.out b)
    replace Rj := Lib.hid (Rj.out.below b lt_gj)
    replace lt_gj := Nat.lt_of_lt_of_le lt_gj b.size
    clear b B8
    go_wp2_with fail
    refine (parents_impl q _ (by omega)).mono ?_
    rintro e w10 ⟨vl, rfl, ol, b⟩
    have B10 := Lib.hid (bt B9.out b)
    replace Rj := Lib.hid (Rj.out.below b lt_gj)
    replace lt_gj := Nat.lt_of_lt_of_le lt_gj b.size
    obtain ⟨gl, capl, rfl, lt_gl, rl⟩ := ol.row
    have Rl := Lib.hid rl
    clear rl ol
    clear b B9
    have hLq := parentsv_le q
    have HPA := Lib.hid (fun i (hi : i < (parentsv q).length) => parents_at hi)
    have HPL := Lib.hid (fun h => parents_len (q := q) h)
    have HPS := Lib.hid (fun w => parents_spec q w (by omega))
    generalize parentsv q = L at Rl hLq HPA HPL HPS ⊢
    generalize hLn : L.length = nl at Rl hLq HPA HPL ⊢
    have v1 := Lib.hid (fun w => partOk_impl a1 w)
    have v2 := Lib.hid (fun w => partOk_spec a1 w (by omega))
    generalize partOkv a1 = r1 at v1 v2
    go_wp2_with fail
    refine (v1.out _).mono ?_
    rintro e w_ ⟨rfl, rfl⟩
    go_wp2_with fail
    refine (v2.out _).mono ?_
    rintro e w_ ⟨rfl, rfl⟩
    clear v1 v2
    have v1 := Lib.hid (fun w => pathOk_impl s w (by omega))
    have v2 := Lib.hid (fun w => pathOk_spec s w (by omega))
    generalize pathOkv s = r1 at v1 v2
    go_wp2_with fail
    refine (v1.out _).mono ?_
    rintro e w11 ⟨rfl, b⟩
    have B11 := Lib.hid (bt B10.out b)
    replace Rj := Lib.hid (Rj.out.below b lt_gj)
    replace lt_gj := Nat.lt_of_lt_of_le lt_gj b.size
    replace Rl := Lib.hid (Rl.out.below b lt_gl)
    replace lt_gl := Nat.lt_of_lt_of_le lt_gl b.size
    clear b B10
    go_wp2_with fail
    refine (v2.out _).mono ?_
    rintro e w12 ⟨rfl, b⟩
    have B12 := Lib.hid (bt B11.out b)
    replace Rj := Lib.hid (Rj.out.below b lt_gj)
    replace lt_gj := Nat.lt_of_lt_of_le lt_gj b.size
    replace Rl := Lib.hid (Rl.out.below b lt_gl)
    replace lt_gl := Nat.lt_of_lt_of_le lt_gl b.size
    clear b B11
    clear v1 v2
    have v1 := Lib.hid (fun w => parts_impl p w (by omega))
    have v2 := Lib.hid (fun w => parts_spec p w (by omega))
    have hLp := partsv_le p
    have HJP := Lib.hid (join_parts p)
    have hTp := Lib.hid (totB_parts p)
    generalize partsv p = Lp at v1 v2 hLp HJP hTp
    go_wp2_with fail
    refine (v1.out _).mono ?_
    rintro e w13 ⟨vp, rfl, op, b⟩
    have B13 := Lib.hid (bt B12.out b)
    replace Rj := Lib.hid (Rj.out.below b lt_gj)
    replace lt_gj := Nat.lt_of_lt_of_le lt_gj b.size
    replace Rl := Lib.hid (Rl.out.below b lt_gl)
    replace lt_gl := Nat.lt_of_lt_of_le lt_gl b.size
    obtain ⟨gp, capp, rfl, lt_gp, rp⟩ := op.row
    have Rp := Lib.hid rp
    clear rp op
    clear b B12
    go_wp2_with fail
    refine (v2.out _).mono ?_
    rintro e w14 ⟨vp2, rfl, op, b⟩
    have B14 := Lib.hid (bt B13.out b)
    replace Rj := Lib.hid (Rj.out.below b lt_gj)
    replace lt_gj := Nat.lt_of_lt_of_le lt_gj b.size
    replace Rl := Lib.hid (Rl.out.below b lt_gl)
    replace lt_gl := Nat.lt_of_lt_of_le lt_gl b.size
    replace Rp := Lib.hid (Rp.out.below b lt_gp)
    replace lt_gp := Nat.lt_of_lt_of_le lt_gp b.size
    obtain ⟨gp2, capp2, rfl, lt_gp2, rp⟩ := op.row
    have Rp2 := Lib.hid rp
    clear rp op
    clear b B13
    go_wp2_with fail
    refine (sameT_any (rowOf Lp) Lp.length gp gp2 capp capp2 _ (by omega) lt_gp lt_gp2 Rp.out Rp2.out).mono ?_
    rintro e w15 ⟨rfl, b⟩
    have B15 := Lib.hid (bt B14.out b)
    replace Rj := Lib.hid (Rj.out.below b lt_gj)
    replace lt_gj := Nat.lt_of_lt_of_le lt_gj b.size
    replace Rl := Lib.hid (Rl.out.below b lt_gl)
    replace lt_gl := Nat.lt_of_lt_of_le lt_gl b.size
    replace Rp := Lib.hid (Rp.out.below b lt_gp)
    replace lt_gp := Nat.lt_of_lt_of_le lt_gp b.size
    clear b B14
    clear Rp Rp2 lt_gp lt_gp2
    have v1 := Lib.hid (fun w h1 h2 => join_impl Lj gj 0 capj w h1 (by have := hTj.out; omega) h2)
    have v2 := Lib.hid (fun w h2 => join_spec Lj gj 0 capj w (by have := hTj.out; omega) h2)
    generalize joinv Lj = r1 at v1 v2
    go_wp2_with fail
    refine (v1.out _ lt_gj Rj.out.toO).mono ?_
    rintro e w16 ⟨rfl, b⟩
    have B16 := Lib.hid (bt B15.out b)
    replace Rj := Lib.hid (Rj.out.below b lt_gj)
    replace lt_gj := Nat.lt_of_lt_of_le lt_gj b.size
    replace Rl := Lib.hid (Rl.out.below b lt_gl)
    replace lt_gl := Nat.lt_of_lt_of_le lt_gl b.size
    clear b B15
    go_wp2_with fail
    refine (v2.out _ Rj.out.toO).mono ?_
    rintro e w_ ⟨rfl, rfl⟩
    clear v1 v2 Rj lt_gj hTj
    have v1 := Lib.hid (fun w => dir_impl d w (by omega))
    have v2 := Lib.hid (fun w => dir_spec d w (by omega))
    generalize dirv d = r1 at v1 v2
    go_wp2_with fail
    refine (v1.out _).mono ?_
    rintro e w17 ⟨rfl, b⟩
    have B17 := Lib.hid (bt B16.out b)
    replace Rl := Lib.hid (Rl.out.below b lt_gl)
    replace lt_gl := Nat.lt_of_lt_of_le lt_gl b.size
    clear b B16
    go_wp2_with fail
    refine (v2.out _).mono ?_
    rintro e w_ ⟨rfl, rfl⟩
    clear v1 v2
    have v1 := Lib.hid (fun w => base_impl bb w (by omega))
    have v2 := Lib.hid (fun w => base_spec bb w (by omega))
    generalize basev bb = r1 at v1 v2
    go_wp2_with fail
    refine (v1.out _).mono ?_
    rintro e w18 ⟨rfl, b⟩
    have B18 := Lib.hid (bt B17.out b)
    replace Rl := Lib.hid (Rl.out.below b lt_gl)
    replace lt_gl := Nat.lt_of_lt_of_le lt_gl b.size
    clear b B17
    go_wp2_with fail
    refine (v2.out _).mono ?_
    rintro e w_ ⟨rfl, rfl⟩
    clear v1 v2
    have hz : ∀ x : Int, (x != x) = false := fun x => by simp
    have v1 := Lib.hid (fun w => depth_impl ee w (by omega))
    have v2 := Lib.hid (fun w => depth_spec ee w (by omega))
    generalize depthv ee = r1 at v1 v2
    go_wp2_with fail
    refine (v1.out _).mono ?_
    rintro e w19 ⟨rfl, b⟩
    have B19 := Lib.hid (bt B18.out b)
    replace Rl := Lib.hid (Rl.out.below b lt_gl)
    replace lt_gl := Nat.lt_of_lt_of_le lt_gl b.size
    clear b B18
    go_wp2_with fail
    refine (v2.out _).mono ?_
    rintro e w20 ⟨rfl, b⟩
    have B20 := Lib.hid (bt B19.out b)
    replace Rl := Lib.hid (Rl.out.below b lt_gl)
    replace lt_gl := Nat.lt_of_lt_of_le lt_gl b.size
    clear b B19
    clear v1 v2
    have v1 := Lib.hid (fun w => under_impl u v w (by omega) (by omega))
    have v2 := Lib.hid (fun w => under_spec u v w (by omega) (by omega))
    generalize underv u v = r1 at v1 v2
    go_wp2_with fail
    refine (v1.out _).mono ?_
    rintro e w21 ⟨rfl, b⟩
    have B21 := Lib.hid (bt B20.out b)
    replace Rl := Lib.hid (Rl.out.below b lt_gl)
    replace lt_gl := Nat.lt_of_lt_of_le lt_gl b.size
    clear b B20
    go_wp2_with fail
    refine (v2.out _).mono ?_
    rintro e w22 ⟨rfl, b⟩
    have B22 := Lib.hid (bt B21.out b)
    replace Rl := Lib.hid (Rl.out.below b lt_gl)
    replace lt_gl := Nat.lt_of_lt_of_le lt_gl b.size
    clear b B21
    clear v1 v2
    go_wp2_with fail
    refine (HPS.out _).mono ?_
    rintro e w23 ⟨vp2, rfl, op, b⟩
    have B23 := Lib.hid (bt B22.out b)
    replace Rl := Lib.hid (Rl.out.below b lt_gl)
    replace lt_gl := Nat.lt_of_lt_of_le lt_gl b.size
    obtain ⟨gp2, capp2, rfl, lt_gp2, rp⟩ := op.row
    rw [hLn] at rp ⊢
    have Rp2 := Lib.hid rp
    clear rp op
    clear b B22
    go_wp2_with fail
    refine (sameT_any (rowOf L) nl gl gp2 capl capp2 _ (by omega) lt_gl lt_gp2 Rl.out Rp2.out).mono ?_
    rintro e w24 ⟨rfl, b⟩
    have B24 := Lib.hid (bt B23.out b)
    replace Rl := Lib.hid (Rl.out.below b lt_gl)
    replace lt_gl := Nat.lt_of_lt_of_le lt_gl b.size
    clear b B23
    clear Rp2 lt_gp2 HPS
    have v1 := Lib.hid (fun w => parts_impl p w (by omega))
    have v2 := Lib.hid (fun g cap w h1 h2 => join_impl (partsv p) g 0 cap w h1 (by rw [totB_parts]; omega) h2)
    rw [show joinv (partsv p) = p from join_parts p] at v2
    generalize partsv p = Lq at v1 v2
    go_wp2_with fail
    refine (v1.out _).mono ?_
    rintro e w25 ⟨vp, rfl, op, b⟩
    have B25 := Lib.hid (bt B24.out b)
    replace Rl := Lib.hid (Rl.out.below b lt_gl)
    replace lt_gl := Nat.lt_of_lt_of_le lt_gl b.size
    obtain ⟨gp, capp, rfl, lt_gp, rp⟩ := op.row
    have Rp := Lib.hid rp
    clear rp op
    clear b B24
    go_wp2_with fail
    refine (v2.out _ _ _ lt_gp Rp.out.toO).mono ?_
    rintro e w26 ⟨rfl, b⟩
    have B26 := Lib.hid (bt B25.out b)
    replace Rl := Lib.hid (Rl.out.below b lt_gl)
    replace lt_gl := Nat.lt_of_lt_of_le lt_gl b.size
    clear Rp lt_gp
    clear b B25
    clear v1 v2
    have hqp := self_eq p
    have v1 := Lib.hid (fun w => pathOk_spec d w (by omega))
    have v2 := Lib.hid (fun w => depth_impl d w (by omega))
    have v3 := Lib.hid (fun w => dir_impl d w (by omega))
    have v4 := Lib.hid (fun w => base_impl d w (by omega))
    have hDB := Lib.hid (fun h => dir_base (d := d) h)
    have hds : (dirv d).size ≤ 400 := by
      unfold dirv; split
      · simp [ByteArray.size]
      · simp; omega
    have hbs : (basev d).size ≤ 400 := by unfold basev; simp; omega
    generalize pathOkv d = pd at v1
    generalize depthv d = dd at v2 hDB
    generalize dirv d = d1 at v3 hDB hds
    generalize basev d = d2 at v4 hDB hbs
    cases pd with
    | false =>
      go_wp2_with fail
      refine (v1.out _).mono ?_
      rintro e w27 ⟨rfl, b⟩
      have B27 := Lib.hid (bt B26.out b)
      replace Rl := Lib.hid (Rl.out.below b lt_gl)
      replace lt_gl := Nat.lt_of_lt_of_le lt_gl b.size
      clear b B26
      go_wp2_with fail
      go_loopw [14] (fun u wr => ∃ (k : Nat), k ≤ nl ∧ u = .int .i64 k ∧ RowF wr gl nl (rowOf L) ∧ gl < wr.heap.size ∧ Below w.heap.size w wr) (fun u _ => nl - (intOf u).toNat)
      case atStart => exact ⟨0, Nat.zero_le _, rfl, Rl.out, lt_gl, B27.out⟩
      case round =>
        obtain ⟨k, hk, rfl, hr, hlt, hb⟩ := hrel
        have HR := Lib.hid hr
        have HBB := Lib.hid hb
        clear hr hb Rl lt_gl B27
        by_cases hkn : k < nl
        · have hk2 : (k : Int) < (nl : Int) := by omega
          have hc := HR.out k hkn
          have HX := Lib.hid (HPA.out k hkn)
          generalize rowOf L k = x at hc HX
          have x1 := Lib.hid (fun w => under_impl q x w (by omega) (by have := HX.out.2.2; omega))
          have x2 := Lib.hid (fun w => depth_impl x w (by have := HX.out.2.2; omega))
          rw [HX.out.1] at x1
          rw [HX.out.2.1] at x2
          clear HX
          go_wp2_with fail
          refine (x1.out _).mono ?_
          rintro e y1 ⟨rfl, b1⟩
          have hc1 : y1.cell? ⟨gl, k, none⟩ = some (.string x) := (b1.cell (p := ⟨gl, k, none⟩) hlt).trans hc
          have HR1 := Lib.hid (HR.out.below b1 hlt)
          have hlt1 := Nat.lt_of_lt_of_le hlt b1.size
          have HB1 := Lib.hid (bt HBB.out b1)
          clear b1 HR HBB hc
          go_wp2_with fail
          refine (x2.out _).mono ?_
          rintro e y2 ⟨rfl, b2⟩
          have HR2 := Lib.hid (HR1.out.below b2 hlt1)
          have hlt2 := Nat.lt_of_lt_of_le hlt1 b2.size
          have HB2 := Lib.hid (bt HB1.out b2)
          have hzz := hz ((k : Int) + 1)
          clear b2 HR1 HB1 hc1
          go_wp2_with fail
          go_roundw
          case rel => exact ⟨k + 1, by omega, by go_num, HR2.out, hlt2, HB2.out⟩
          case measure => simp [intOf]; omega
        · cases hpq : pathOkv q with
          | false =>
            have x1 := Lib.hid (fun w => pathOk_spec q w (by omega))
            rw [hpq] at x1
            go_wp2_with fail
            refine (x1.out _).mono ?_
            rintro e y1 ⟨rfl, b1⟩
            have HB1 := Lib.hid (bt HBB.out b1)
            clear b1 HBB
            go_wp2_with fail
            go_ret
            exact ⟨rfl, HB1.out⟩
          | true =>
            have x1 := Lib.hid (fun w => pathOk_spec q w (by omega))
            have x2 := Lib.hid (fun w => depth_impl q w (by omega))
            rw [hpq] at x1
            rw [show depthv q = (nl : Int) + 1 from by have := HPL.out hpq; omega] at x2
            have hnl : (nl : Int) ≤ 402 := by omega
            go_wp2_with fail
            refine (x1.out _).mono ?_
            rintro e y1 ⟨rfl, b1⟩
            have HB1 := Lib.hid (bt HBB.out b1)
            clear b1 HBB
            go_wp2_with fail
            refine (x2.out _).mono ?_
            rintro e y2 ⟨rfl, b2⟩
            have HB2 := Lib.hid (bt HB1.out b2)
            clear b2 HB1
            go_wp2_with fail
            go_ret
            exact ⟨by simp, HB2.out⟩
    | true =>
      by_cases hdd : 1 < dd
      · have hjoin := Lib.hid (hDB.out hdd)
        go_wp2_with fail
        refine (v1.out _).mono ?_
        rintro e w27 ⟨rfl, b⟩
        have B27 := Lib.hid (bt B26.out b)
        replace Rl := Lib.hid (Rl.out.below b lt_gl)
        replace lt_gl := Nat.lt_of_lt_of_le lt_gl b.size
        clear b B26
        go_wp2_with fail
        refine (v2.out _).mono ?_
        rintro e w28 ⟨rfl, b⟩
        have B28 := Lib.hid (bt B27.out b)
        replace Rl := Lib.hid (Rl.out.below b lt_gl)
        replace lt_gl := Nat.lt_of_lt_of_le lt_gl b.size
        clear b B27
        go_wp2_with fail
        refine (v3.out _).mono ?_
        rintro e w29 ⟨rfl, b⟩
        have B29 := Lib.hid (bt B28.out b)
        replace Rl := Lib.hid (Rl.out.below b lt_gl)
        replace lt_gl := Nat.lt_of_lt_of_le lt_gl b.size
        clear b B28
        go_wp2_with fail
        refine (v4.out _).mono ?_
        rintro e w30 ⟨rfl, b⟩
        have B30 := Lib.hid (bt B29.out b)
        replace Rl := Lib.hid (Rl.out.below b lt_gl)
        replace lt_gl := Nat.lt_of_lt_of_le lt_gl b.size
        clear b B29
        have hq3 : ((d1 ++ ⟨#[47]⟩ ++ d2).toList == d.toList) = true := ba_eq hjoin.out
        go_wp2_with fail
        go_loopw [14] (fun u wr => ∃ (k : Nat), k ≤ nl ∧ u = .int .i64 k ∧ RowF wr gl nl (rowOf L) ∧ gl < wr.heap.size ∧ Below w.heap.size w wr) (fun u _ => nl - (intOf u).toNat)
        case atStart => exact ⟨0, Nat.zero_le _, rfl, Rl.out, lt_gl, B30.out⟩
        case round =>
          obtain ⟨k, hk, rfl, hr, hlt, hb⟩ := hrel
          have HR := Lib.hid hr
          have HBB := Lib.hid hb
          clear hr hb Rl lt_gl B30
          by_cases hkn : k < nl
          · have hk2 : (k : Int) < (nl : Int) := by omega
            have hc := HR.out k hkn
            have HX := Lib.hid (HPA.out k hkn)
            generalize rowOf L k = x at hc HX
            have x1 := Lib.hid (fun w => under_impl q x w (by omega) (by have := HX.out.2.2; omega))
            have x2 := Lib.hid (fun w => depth_impl x w (by have := HX.out.2.2; omega))
            rw [HX.out.1] at x1
            rw [HX.out.2.1] at x2
            clear HX
            go_wp2_with fail
            refine (x1.out _).mono ?_
            rintro e y1 ⟨rfl, b1⟩
            have hc1 : y1.cell? ⟨gl, k, none⟩ = some (.string x) := (b1.cell (p := ⟨gl, k, none⟩) hlt).trans hc
            have HR1 := Lib.hid (HR.out.below b1 hlt)
            have hlt1 := Nat.lt_of_lt_of_le hlt b1.size
            have HB1 := Lib.hid (bt HBB.out b1)
            clear b1 HR HBB hc
            go_wp2_with fail
            refine (x2.out _).mono ?_
            rintro e y2 ⟨rfl, b2⟩
            have HR2 := Lib.hid (HR1.out.below b2 hlt1)
            have hlt2 := Nat.lt_of_lt_of_le hlt1 b2.size
            have HB2 := Lib.hid (bt HB1.out b2)
            have hzz := hz ((k : Int) + 1)
            clear b2 HR1 HB1 hc1
            go_wp2_with fail
            go_roundw
            case rel => exact ⟨k + 1, by omega, by go_num, HR2.out, hlt2, HB2.out⟩
            case measure => simp [intOf]; omega
          · cases hpq : pathOkv q with
            | false =>
              have x1 := Lib.hid (fun w => pathOk_spec q w (by omega))
              rw [hpq] at x1
              go_wp2_with fail
              refine (x1.out _).mono ?_
              rintro e y1 ⟨rfl, b1⟩
              have HB1 := Lib.hid (bt HBB.out b1)
              clear b1 HBB
              go_wp2_with fail
              go_ret
              exact ⟨rfl, HB1.out⟩
            | true =>
              have x1 := Lib.hid (fun w => pathOk_spec q w (by omega))
              have x2 := Lib.hid (fun w => depth_impl q w (by omega))
              rw [hpq] at x1
              rw [show depthv q = (nl : Int) + 1 from by have := HPL.out hpq; omega] at x2
              have hnl : (nl : Int) ≤ 402 := by omega
              go_wp2_with fail
              refine (x1.out _).mono ?_
              rintro e y1 ⟨rfl, b1⟩
              have HB1 := Lib.hid (bt HBB.out b1)
              clear b1 HBB
              go_wp2_with fail
              refine (x2.out _).mono ?_
              rintro e y2 ⟨rfl, b2⟩
              have HB2 := Lib.hid (bt HB1.out b2)
              clear b2 HB1
              go_wp2_with fail
              go_ret
              exact ⟨by simp, HB2.out⟩
      · have hdd2 : dd ≤ 1 := by omega
        go_wp2_with fail
        refine (v1.out _).mono ?_
        rintro e w27 ⟨rfl, b⟩
        have B27 := Lib.hid (bt B26.out b)
        replace Rl := Lib.hid (Rl.out.below b lt_gl)
        replace lt_gl := Nat.lt_of_lt_of_le lt_gl b.size
        clear b B26
        go_wp2_with fail
        refine (v2.out _).mono ?_
        rintro e w28 ⟨rfl, b⟩
        have B28 := Lib.hid (bt B27.out b)
        replace Rl := Lib.hid (Rl.out.below b lt_gl)
        replace lt_gl := Nat.lt_of_lt_of_le lt_gl b.size
        clear b B27
        go_wp2_with fail
        go_loopw [14] (fun u wr => ∃ (k : Nat), k ≤ nl ∧ u = .int .i64 k ∧ RowF wr gl nl (rowOf L) ∧ gl < wr.heap.size ∧ Below w.heap.size w wr) (fun u _ => nl - (intOf u).toNat)
        case atStart => exact ⟨0, Nat.zero_le _, rfl, Rl.out, lt_gl, B28.out⟩
        case round =>
          obtain ⟨k, hk, rfl, hr, hlt, hb⟩ := hrel
          have HR := Lib.hid hr
          have HBB := Lib.hid hb
          clear hr hb Rl lt_gl B28
          by_cases hkn : k < nl
          · have hk2 : (k : Int) < (nl : Int) := by omega
            have hc := HR.out k hkn
            have HX := Lib.hid (HPA.out k hkn)
            generalize rowOf L k = x at hc HX
            have x1 := Lib.hid (fun w => under_impl q x w (by omega) (by have := HX.out.2.2; omega))
            have x2 := Lib.hid (fun w => depth_impl x w (by have := HX.out.2.2; omega))
            rw [HX.out.1] at x1
            rw [HX.out.2.1] at x2
            clear HX
            go_wp2_with fail
            refine (x1.out _).mono ?_
            rintro e y1 ⟨rfl, b1⟩
            have hc1 : y1.cell? ⟨gl, k, none⟩ = some (.string x) := (b1.cell (p := ⟨gl, k, none⟩) hlt).trans hc
            have HR1 := Lib.hid (HR.out.below b1 hlt)
            have hlt1 := Nat.lt_of_lt_of_le hlt b1.size
            have HB1 := Lib.hid (bt HBB.out b1)
            clear b1 HR HBB hc
            go_wp2_with fail
            refine (x2.out _).mono ?_
            rintro e y2 ⟨rfl, b2⟩
            have HR2 := Lib.hid (HR1.out.below b2 hlt1)
            have hlt2 := Nat.lt_of_lt_of_le hlt1 b2.size
            have HB2 := Lib.hid (bt HB1.out b2)
            have hzz := hz ((k : Int) + 1)
            clear b2 HR1 HB1 hc1
            go_wp2_with fail
            go_roundw
            case rel => exact ⟨k + 1, by omega, by go_num, HR2.out, hlt2, HB2.out⟩
            case measure => simp [intOf]; omega
          · cases hpq : pathOkv q with
            | false =>
              have x1 := Lib.hid (fun w => pathOk_spec q w (by omega))
              rw [hpq] at x1
              go_wp2_with fail
              refine (x1.out _).mono ?_
              rintro e y1 ⟨rfl, b1⟩
              have HB1 := Lib.hid (bt HBB.out b1)
              clear b1 HBB
              go_wp2_with fail
              go_ret
              exact ⟨rfl, HB1.out⟩
            | true =>
              have x1 := Lib.hid (fun w => pathOk_spec q w (by omega))
              have x2 := Lib.hid (fun w => depth_impl q w (by omega))
              rw [hpq] at x1
              rw [show depthv q = (nl : Int) + 1 from by have := HPL.out hpq; omega] at x2
              have hnl : (nl : Int) ≤ 402 := by omega
              go_wp2_with fail
              refine (x1.out _).mono ?_
              rintro e y1 ⟨rfl, b1⟩
              have HB1 := Lib.hid (bt HBB.out b1)
              clear b1 HBB
              go_wp2_with fail
              refine (x2.out _).mono ?_
              rintro e y2 ⟨rfl, b2⟩
              have HB2 := Lib.hid (bt HB1.out b2)
              clear b2 HB1
              go_wp2_with fail
              go_ret
              exact ⟨by simp, HB2.out⟩
  · have hd : decide (1048576 < (len : Int)) = true := by simp; omega
    rw [hd] at HB
    clear hd
    go_enter Try.func4, Try.ntmps4
    go_wp2_with fail
    refine (HB.out _).mono ?_
    rintro e w0 ⟨rfl, rfl⟩
    go_wp2_with fail
    go_ret
    exact ⟨rfl, Below.refl _ _⟩
end Go.Proofs.Ytifkgihhdmmhdab
