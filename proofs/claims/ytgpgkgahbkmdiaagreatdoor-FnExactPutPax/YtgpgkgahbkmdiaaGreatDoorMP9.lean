/- Texts joined: PutPaxI, PaxT. -/
import Derived.Lib.AtoiErrMem
import Derived.Test.YtgpgkgahbkmdiaaGreatDoorMP8
/- Contract of impl.PutPax. -/
namespace Go.Proofs.YtgpgkgahbkmdiaaGreatDoor
open Go.ChangeShapes Go.WideShapes Go.ChangeAt Go.RowKit Go.Deep

set_option maxHeartbeats 12800000 in
set_option maxRecDepth 8000 in
theorem putPax_impl (L : List Ent) (n g cap : Nat) (w : World) (hn : n = L.length) (hm : n ≤ 1048576) (hg : g < w.heap.size) (hsm : SmallL L) (htab : Tabs w) (hfw : FW w) (h1 : RowE w g L) :
    Calls Tryz.prog 14 #[.slice (some ⟨g, 0, none⟩) n cap] w fun e w' => e = .returned (.tuple #[.string (putPaxv L).1, .bool (putPaxv L).2]) ∧ Below w.heap.size w w' := by
  obtain ⟨i0, hi0, hz0, hz1, hz2⟩ := info_parts Tryz.info5
  have HLO := Lib.hid (fun w h0 h1 => listOk_impl L n g cap w hn (by omega) h0 hsm h1)
  have H1 := Lib.hid h1
  have HTab := Lib.hid htab
  have HFw := Lib.hid hfw
  cases hlo : listOkv L with
  | false =>
    have HE := Lib.hid (pax_bad hlo)
    generalize putPaxv L = r at HE
    rw [hlo] at HLO
    clear h1 hlo hsm hn htab hfw
    go_enter Tryz.func14, Tryz.ntmps14
    go_wp2_with fail
    refine (HLO.out _ hg H1.out).mono ?_
    rintro e w1 ⟨rfl, hb⟩
    go_wp2
    go_ret2
    exact ⟨ret_sb2 HE.out rfl rfl, hb⟩
  | true =>
    have HG : Hid (∀ i, i < n → ∃ e, L[i]? = some e ∧ esz e ≤ 4194304 ∧ entOkv e = true) := Lib.hid (fun i hi => by obtain ⟨e, he⟩ := getE' (L := L) (i := i) (by omega); exact ⟨e, he, hsm.get he, listOk_ent hlo he⟩)
    have HY : Hid (putPaxv L = (paxTo L n ++ nulv 1024, true)) := Lib.hid (by rw [hn]; exact pax_yes hlo)
    have HZ : Hid (∀ i, i ≤ n → (paxTo L i).size ≤ 1400 + 6600 * i) := Lib.hid (fun i hi => pax_size hlo i (by omega))
    have h30 : n ≤ 30 := by rw [hn]; exact listOk_30 hlo
    have HN := Lib.hid (fun w => nulsI_any 1024 w (by omega))
    rw [show ((1024 : Int).toNat) = 1024 from rfl] at HN
    have zn := nulv_size 1024
    generalize nulv 1024 = n1024 at *
    generalize putPaxv L = r at HY
    rw [hlo] at HLO
    clear h1 hlo hsm hn htab hfw
    have P2 := Lib.hid (fun g cap w h0 h1 hT hF => recFile_impl flG paxG [recC] 1 g cap w (by decide) rfl (by omega) h0 (fun r hr => by rw [List.mem_singleton.1 hr]; exact ⟨by decide, by decide⟩) h1 hT hF)
    rw [recC_text, show extrav flG paxG (putRecv recC.key recC.value) = paxTo L 0 from rfl] at P2
    rw [show flG = ⟨#[103]⟩ from rfl, show paxG = ⟨#[112, 97, 120, 95, 103, 108, 111, 98, 97, 108]⟩ from rfl] at P2
    have z0 := HZ.out 0 (Nat.zero_le _)
    go_enter Tryz.func14, Tryz.ntmps14
    go_wp2_with fail
    refine (HLO.out _ hg H1.out).mono ?_
    rintro e w1 ⟨rfl, hb1⟩
    have B1 := Lib.hid hb1
    clear hb1 HLO
    go_wp2_with fail
    have R2 := Lib.hid (newR w1 recC 47)
    have D2 := Lib.hid ((Below.refl w1.heap.size w1).alloc (Nat.le_refl _) (.cells recC.cells.toArray 47))
    have z2 : w1.heap.size < (w1.alloc (.cells recC.cells.toArray 47)).heap.size := by simp
    rw [show recC.cells = [.string ⟨#[99, 111, 109, 109, 101, 110, 116]⟩, .string ⟨#[99, 114, 97, 116, 101, 115]⟩] from rfl] at R2 D2 z2
    generalize w1.alloc (.cells #[.string ⟨#[99, 111, 109, 109, 101, 110, 116]⟩, .string ⟨#[99, 114, 97, 116, 101, 115]⟩] 47) = w2 at *
    have B2 := Lib.hid (btE B1.out D2.out)
    have RR : RowR w2 w1.heap.size [recC] := fun j u hu => by
      have h := R2.out j u hu
      have hadd : (⟨w1.heap.size, 0, none⟩ : Addr).add j = ⟨w1.heap.size, j, none⟩ := by unfold Addr.add; split <;> simp_all
      rw [hadd] at h
      exact h
    refine (P2.out _ _ _ z2 RR (HTab.out.below B2.out) (HFw.out.below B2.out)).mono ?_
    rintro e w3 ⟨rfl, hb1⟩
    have B3 := Lib.hid (btE B2.out hb1)
    clear hb1 B2 D2 R2 RR z2 B1 P2
    have hcv := Lib.run_convert_string_bytes (P := Tryz.prog) w3 9 40 5 (paxTo L 0) Tryz.underlying9 Tryz.underlying40 Tryz.underlying5
    have O4 := Lib.hid (OwnM.of_string (w := w3) (base := w.heap.size) (paxTo L 0) B3.out.size (by simp only [maxLen]; omega))
    have D4 := Lib.hid (Lib.bytesWorld_below w3 5 (paxTo L 0))
    generalize Lib.bytesWorld w3 5 (paxTo L 0) = w4 at *
    have B4 := Lib.hid (btE B3.out D4.out)
    go_wp2_with fail
    go_loopw [4, 18] (fun v u wr => ∃ (i : Nat) (v0 : Value), v0 = v ∧ u = .int .i64 i ∧ i ≤ n ∧ OwnM wr w.heap.size v (paxTo L i).data.toList ∧ Below w.heap.size w wr) (fun _ u _ => n - (intOf u).toNat)
    case atStart => exact ⟨0, _, rfl, rfl, Nat.zero_le _, O4.out, B4.out⟩
    case round =>
      obtain ⟨i, v0, rfl, rfl, hi, ho, hb⟩ := hrel
      have B := Lib.hid hb
      have O := Lib.hid ho
      clear hb ho B3 B4 O4 D4 hcv
      by_cases hlt : i < n
      · have hlt2 : (i : Int) < (n : Int) := by omega
        obtain ⟨e, he, hz, hok⟩ := HG.out i hlt
        obtain ⟨c0, c1, c2, c3, c4, c5, c6, c7, c8, c9⟩ := (H1.out.below B.out hg).ten he
        have HS := Lib.hid (pax_stepM he)
        have y1 := HZ.out i hi
        obtain ⟨-, -, -, -, -, nu, ng, nt⟩ := entOk_texts hok
        have zt := base1E_texts hok
        have hl5 := base1L_five e
        have hsmR := base1L_small hok
        have eAy : Hid ((0 : Int) < ((base1L e).length : Int) → paxA (paxTo L i) e = paxTo L i ++ extrav flX paxX (putRecsv (base1L e))) := Lib.hid (paxA_yes (e := e))
        have eAn : Hid (¬ (0 : Int) < ((base1L e).length : Int) → paxA (paxTo L i) e = paxTo L i) := Lib.hid (paxA_no (e := e))
        have hsz := small_parts hz
        clear he hz hok
        obtain ⟨k, p, l, m, u, g0, t, us, gr, b⟩ := e
        dsimp only at hsz c0 c1 c2 c3 c4 c5 c6 c7 c8 c9 nu ng nt
        have S1 := (fun w h => base1_impl k p l m u g0 t us gr b w hsz.1 hsz.2.1 hsz.2.2.1 hsz.2.2.2.1 hsz.2.2.2.2 (by omega) (by omega) (by omega) (by omega) (by omega) (by omega) h)
        have zx := extra_le flX paxX (putRecsv (base1L ⟨k, p, l, m, u, g0, t, us, gr, b⟩))
        have zx2 := putRecs_le (base1L ⟨k, p, l, m, u, g0, t, us, gr, b⟩) hl5
        generalize paxA (paxTo L i) ⟨k, p, l, m, u, g0, t, us, gr, b⟩ = TA at *
        generalize base1L ⟨k, p, l, m, u, g0, t, us, gr, b⟩ = LL at *
        generalize base1E ⟨k, p, l, m, u, g0, t, us, gr, b⟩ = rE at *
        obtain ⟨k2, p2, l2, m2, u2, g2, t2, us2, gr2, b2⟩ := rE
        dsimp only at zt HS
        have Q1 : Hid (∀ w, Lib.TabIs Tryz.prog w "internal/strconv.uint64pow10" .u64 Lib.pow10Tab → Calls Tryz.prog 39 #[.agg #[.int .i64 k, .string p, .string l, .int .i64 m, .int .i64 u, .int .i64 g0, .int .i64 t, .string us, .string gr, .string b]] w fun e w' => (∃ v, e = .returned (.tuple #[.agg #[.int .i64 k2, .string p2, .string l2, .int .i64 m2, .int .i64 u2, .int .i64 g2, .int .i64 t2, .string us2, .string gr2, .string b2], v]) ∧ OwnR w' w.heap.size v LL) ∧ Below w.heap.size w w') := Lib.hid S1
        have HX := Lib.hid (fun g cap w h0 h1 hT hF => recFile_impl flX paxX LL LL.length g cap w (by decide) rfl hl5 h0 hsmR h1 hT hF)
        have HFl := Lib.hid (fun w => flag_impl k2 w)
        have HM := Lib.hid (fun w' hT hF => putMember_any k2 p2 l2 m2 u2 g2 t2 us2 gr2 b2 (flagv k2) w' (by omega) (by omega) (by omega) (by omega) (by omega) hT hF)
        have zm := mem_le ⟨k2, p2, l2, m2, u2, g2, t2, us2, gr2, b2⟩ (flagv k2)
        dsimp only at zm
        rw [show flX = ⟨#[120]⟩ from rfl, show paxX = ⟨#[112, 97, 120, 95, 120]⟩ from rfl] at HX
        rw [show flX = ⟨#[120]⟩ from rfl, show paxX = ⟨#[112, 97, 120, 95, 120]⟩ from rfl] at eAy zx
        generalize extrav ⟨#[120]⟩ ⟨#[112, 97, 120, 95, 120]⟩ (putRecsv LL) = ex at *
        generalize memv ⟨k2, p2, l2, m2, u2, g2, t2, us2, gr2, b2⟩ (flagv k2) = md at *
        generalize flagv k2 = fl at *
        generalize paxTo L i = T at *
        have yT : T.size ≤ 199400 := by omega
        have sB := B.out.size
        clear S1 hsz y1 nu ng nt hsmR
        go_wp2_with fail
        have E0 := EntO.new wr ⟨k, p, l, m, u, g0, t, us, gr, b⟩
        have B0 := (Below.refl wr.heap.size wr).alloc (Nat.le_refl _) (.cells (Ent.cells ⟨k, p, l, m, u, g0, t, us, gr, b⟩).toArray 34)
        simp only [Ent.cells] at E0 B0
        generalize wr.alloc (.cells #[.int .i64 k, .string p, .string l, .int .i64 m, .int .i64 u, .int .i64 g0, .int .i64 t, .string us, .string gr, .string b] 34) = w10 at *
        have X10 : Hid (EntO w10 wr.heap.size ⟨k, p, l, m, u, g0, t, us, gr, b⟩) := Lib.hid E0
        have B10 := Lib.hid (btE B.out B0)
        have O10 := Lib.hid (OwnM.below O.out B0)
        clear E0 B0 O B c0 c1 c2 c3 c4 c5 c6 c7 c8 c9
        refine (Q1.out _ (HTab.out.below B10.out).2.2).mono ?_
        rintro e wb ⟨⟨v, rfl, ho⟩, hb⟩
        obtain ⟨gw, cw, rfl, hr, zw, _, _⟩ := ho.open
        have Bb := Lib.hid (btE B10.out hb)
        have Ob := Lib.hid (OwnM.below O10.out hb)
        have Rb := Lib.hid hr
        clear ho hr hb B10 O10 X10 Q1
        by_cases q1 : (0 : Int) < (LL.length : Int)
        · have eA := Lib.hid (eAy.out (by omega))
          clear eAy eAn
          go_wp2_with fail
          have E0 := EntO.new wb ⟨k2, p2, l2, m2, u2, g2, t2, us2, gr2, b2⟩
          have B0 := (Below.refl wb.heap.size wb).alloc (Nat.le_refl _) (.cells (Ent.cells ⟨k2, p2, l2, m2, u2, g2, t2, us2, gr2, b2⟩).toArray 34)
          simp only [Ent.cells] at E0 B0
          generalize wb.alloc (.cells #[.int .i64 k2, .string p2, .string l2, .int .i64 m2, .int .i64 u2, .int .i64 g2, .int .i64 t2, .string us2, .string gr2, .string b2] 34) = w11 at *
          have X11 : Hid (EntO w11 wb.heap.size ⟨k2, p2, l2, m2, u2, g2, t2, us2, gr2, b2⟩) := Lib.hid E0
          have B11 := Lib.hid (btE Bb.out B0)
          have O11 := Lib.hid (OwnM.below Ob.out B0)
          have R11 := Lib.hid (RowR.below Rb.out B0 zw)
          have zR11 := Nat.lt_of_lt_of_le zw B0.size
          clear E0 B0 Bb Rb Ob
          refine (HX.out gw cw _ zR11 R11.out (HTab.out.below B11.out) (HFw.out.below B11.out)).mono ?_
          rintro e w12 ⟨rfl, hb⟩
          have O12 := Lib.hid (OwnM.below O11.out hb)
          have B12 := Lib.hid (btE B11.out hb)
          have X12 := Lib.hid (EntO.below X11.out hb X11.out.lt)
          clear hb O11 B11 X11
          have zl1 : T.data.toList.length = T.size := by simp
          have sb1 := B12.out.size
          go_wp2_with (at_builtin; refine wpList_append_ownM rfl _ _ rfl w.heap.size i0 hi0 hz0 hz1 hz2 _ _ rfl O12.out ex rfl ?yp1 ?yq1 ?_)
          case yp1 => omega
          case yq1 => omega
          · intro v21 w21 hown hgrow
            obtain ⟨T1, hT1⟩ : ∃ x : ByteArray, x = T ++ ex := ⟨_, rfl⟩
            have zT1 : T1.size ≤ 202000 := by rw [hT1, ByteArray.size_append]; omega
            have O21 : Hid (OwnM w21 w.heap.size v21 T1.data.toList) := Lib.hid (by rw [hT1]; simpa using hown)
            have B21 : Hid (Below w.heap.size w w21) := Lib.hid (B12.out.grown hgrow (by omega) (fun b hb => (OwnM.lt O12.out b hb).1))
            have X21 := Lib.hid (boxKM O12.out X12.out hgrow)
            have HT1 := Lib.hid hT1
            clear hT1 hown hgrow O12 B12 X12 zl1 sb1
            obtain ⟨c0, c1, c2, c3, c4, c5, c6, c7, c8, c9⟩ := X21.out.at.zero
            go_wp2_with fail
            clear c0 c1 c2 c3 c4 c5 c6 c7 c8 c9
            have KC : Hid (∀ w', Below w21.heap.size w21 w' → w'.cell? ⟨wb.heap.size, 0, none⟩ = some (.int .i64 k2) ∧ w'.cell? ⟨wb.heap.size, 1, none⟩ = some (.string p2) ∧ w'.cell? ⟨wb.heap.size, 2, none⟩ = some (.string l2) ∧ w'.cell? ⟨wb.heap.size, 3, none⟩ = some (.int .i64 m2) ∧ w'.cell? ⟨wb.heap.size, 4, none⟩ = some (.int .i64 u2) ∧ w'.cell? ⟨wb.heap.size, 5, none⟩ = some (.int .i64 g2) ∧ w'.cell? ⟨wb.heap.size, 6, none⟩ = some (.int .i64 t2) ∧ w'.cell? ⟨wb.heap.size, 7, none⟩ = some (.string us2) ∧ w'.cell? ⟨wb.heap.size, 8, none⟩ = some (.string gr2) ∧ w'.cell? ⟨wb.heap.size, 9, none⟩ = some (.string b2)) := Lib.hid (fun w' hb => by obtain ⟨c0, c1, c2, c3, c4, c5, c6, c7, c8, c9⟩ := (X21.out.below hb X21.out.lt).at.zero; exact ⟨c0, c1, c2, c3, c4, c5, c6, c7, c8, c9⟩)
            refine wp_region_cut 6 (by kernel_rfl) (fun w' => Below w21.heap.size w21 w') (fun x y => Below x.heap.size x y) (fun d v _ => match d with | 34 => v = v21 | 35 => v = .agg #[.int .i64 k2, .string p2, .string l2, .int .i64 m2, .int .i64 u2, .int .i64 g2, .int .i64 t2, .string us2, .string gr2, .string b2] | 36 => v = .pointer (some ⟨wb.heap.size, 0, none⟩) | 37 => v = .int .i64 k2 | 38 => v = .string fl | 39 => v = .string md | _ => True) (by kernel_rfl) (by kernel_rfl) ((Below.refl _ _).drew) (fun _ _ _ _ _ _ h => h) (by simp) ?hops ?hend
            case hops =>
              simp only [List.take_succ_cons, List.take_zero, List.forall_mem_cons]
              refine ⟨?o34, ?o35, ?o36, ?o37, ?o38, ?o39, fun _ h => by cases h⟩
              case o34 =>
                intro Q a w2 hC hV hI
                have e4 : a.eval (.tmp 4) = v21 := (hI 4 (by simp [Op.operands]) (by kernel_rfl)).trans rfl
                have f4 : a.tmps.getD 4 undef = v21 := e4
                have g4 : a.tmps[4]?.getD undef = v21 := by rw [← Array.getD_eq_getD_getElem?]; exact e4
                refine op_val (v21) ?_ hC (Below.refl _ _) (by intro d hd; cases hd; rfl)
                (clear hV hI hC; go_simp <;> (first | rfl | simp))
              case o35 =>
                intro Q a w2 hC hV hI
                have e7 : a.eval (.tmp 7) = .pointer (some ⟨wb.heap.size, 0, none⟩) := (hI 7 (by simp [Op.operands]) (by kernel_rfl)).trans rfl
                have f7 : a.tmps.getD 7 undef = .pointer (some ⟨wb.heap.size, 0, none⟩) := e7
                have g7 : a.tmps[7]?.getD undef = .pointer (some ⟨wb.heap.size, 0, none⟩) := by rw [← Array.getD_eq_getD_getElem?]; exact e7
                have hK := KC.out w2 hC
                refine op_val (.agg #[.int .i64 k2, .string p2, .string l2, .int .i64 m2, .int .i64 u2, .int .i64 g2, .int .i64 t2, .string us2, .string gr2, .string b2]) ?_ hC (Below.refl _ _) (by intro d hd; cases hd; rfl)
                (clear hV hI hC; go_simp <;> (first | rfl | simp))
              case o36 =>
                intro Q a w2 hC hV hI
                have e7 : a.eval (.tmp 7) = .pointer (some ⟨wb.heap.size, 0, none⟩) := (hI 7 (by simp [Op.operands]) (by kernel_rfl)).trans rfl
                have f7 : a.tmps.getD 7 undef = .pointer (some ⟨wb.heap.size, 0, none⟩) := e7
                have g7 : a.tmps[7]?.getD undef = .pointer (some ⟨wb.heap.size, 0, none⟩) := by rw [← Array.getD_eq_getD_getElem?]; exact e7
                refine op_val (.pointer (some ⟨wb.heap.size, 0, none⟩)) ?_ hC (Below.refl _ _) (by intro d hd; cases hd; rfl)
                (clear hV hI hC; go_simp <;> (first | rfl | simp))
              case o37 =>
                intro Q a w2 hC hV hI
                have e36 : a.eval (.tmp 36) = .pointer (some ⟨wb.heap.size, 0, none⟩) := hV 36 (by simp [Op.operands]) (by kernel_rfl)
                have f36 : a.tmps.getD 36 undef = .pointer (some ⟨wb.heap.size, 0, none⟩) := e36
                have g36 : a.tmps[36]?.getD undef = .pointer (some ⟨wb.heap.size, 0, none⟩) := by rw [← Array.getD_eq_getD_getElem?]; exact e36
                have hK := KC.out w2 hC
                refine op_val (.int .i64 k2) ?_ hC (Below.refl _ _) (by intro d hd; cases hd; rfl)
                (clear hV hI hC; go_simp <;> (first | rfl | simp))
              case o38 =>
                intro Q a w2 hC hV hI
                have e37 : a.eval (.tmp 37) = .int .i64 k2 := hV 37 (by simp [Op.operands, Call.operands]) (by kernel_rfl)
                have f37 : a.tmps.getD 37 undef = .int .i64 k2 := e37
                have g37 : a.tmps[37]?.getD undef = .int .i64 k2 := by rw [← Array.getD_eq_getD_getElem?]; exact e37
                refine op_call (f := 26) (args := #[.int .i64 k2]) (R := fun v y => v = .string fl ∧ w2 = y) ?_ ((HFl.out w2).mono ?_) ?_
                · (clear hV hI hC; go_simp <;> (first | rfl | simp))
                · rintro e y ⟨rfl, rfl⟩; exact ⟨_, rfl, rfl, rfl⟩
                · rintro v y ⟨rfl, rfl⟩; exact ⟨hC, Below.refl _ _, by intro d hd; cases hd; rfl⟩
              case o39 =>
                intro Q a w2 hC hV hI
                have e35 : a.eval (.tmp 35) = .agg #[.int .i64 k2, .string p2, .string l2, .int .i64 m2, .int .i64 u2, .int .i64 g2, .int .i64 t2, .string us2, .string gr2, .string b2] := hV 35 (by simp [Op.operands, Call.operands]) (by kernel_rfl)
                have f35 : a.tmps.getD 35 undef = .agg #[.int .i64 k2, .string p2, .string l2, .int .i64 m2, .int .i64 u2, .int .i64 g2, .int .i64 t2, .string us2, .string gr2, .string b2] := e35
                have g35 : a.tmps[35]?.getD undef = .agg #[.int .i64 k2, .string p2, .string l2, .int .i64 m2, .int .i64 u2, .int .i64 g2, .int .i64 t2, .string us2, .string gr2, .string b2] := by rw [← Array.getD_eq_getD_getElem?]; exact e35
                have e38 : a.eval (.tmp 38) = .string fl := hV 38 (by simp [Op.operands, Call.operands]) (by kernel_rfl)
                have f38 : a.tmps.getD 38 undef = .string fl := e38
                have g38 : a.tmps[38]?.getD undef = .string fl := by rw [← Array.getD_eq_getD_getElem?]; exact e38
                refine op_call (f := 33) (args := #[.agg #[.int .i64 k2, .string p2, .string l2, .int .i64 m2, .int .i64 u2, .int .i64 g2, .int .i64 t2, .string us2, .string gr2, .string b2], .string fl]) (R := fun v y => v = .string md ∧ Below w2.heap.size w2 y) ?_ ((HM.out w2 (HTab.out.below (btE B21.out hC)) (HFw.out.below (btE B21.out hC))).mono ?_) ?_
                · (clear hV hI hC; go_simp <;> (first | rfl | simp))
                · rintro e y ⟨rfl, hb⟩; exact ⟨_, rfl, rfl, hb⟩
                · rintro v y ⟨rfl, hb⟩; exact ⟨hC.trans (hb.mono hC.size), hb, by intro d hd; cases hd; rfl⟩
            case hend =>
              intro f w13 hC hall
              simp only [List.take_succ_cons, List.take_zero, List.drop_succ_cons, List.drop_zero] at hall ⊢
              simp only [List.forall_mem_cons] at hall
              obtain ⟨h34, h35, h36, h37, h38, h39, _⟩ := hall
              replace h34 : f 34 = v21 := h34 34 rfl
              replace h35 : f 35 = .agg #[.int .i64 k2, .string p2, .string l2, .int .i64 m2, .int .i64 u2, .int .i64 g2, .int .i64 t2, .string us2, .string gr2, .string b2] := h35 35 rfl
              replace h36 : f 36 = .pointer (some ⟨wb.heap.size, 0, none⟩) := h36 36 rfl
              replace h37 : f 37 = .int .i64 k2 := h37 37 rfl
              replace h38 : f 38 = .string fl := h38 38 rfl
              replace h39 : f 39 = .string md := h39 39 rfl
              simp only [putAll, Act.put, List.setIfInBounds_toArray, List.set_cons_succ, List.set_cons_zero, h34, h35, h36, h37, h38, h39]
              clear h34 h35 h36 h37 h38 h39
              have B13 := Lib.hid (btE B21.out hC)
              have O13 := Lib.hid (OwnM.below O21.out hC)
              clear hC KC B21 O21 X21
              have zl2 : T1.data.toList.length = T1.size := by simp
              have sb2 := B13.out.size
              go_wp2_with (at_builtin; refine wpList_append_ownM rfl _ _ rfl w.heap.size i0 hi0 hz0 hz1 hz2 _ _ rfl O13.out md rfl ?yp2 ?yq2 ?_)
              case yp2 => omega
              case yq2 => omega
              · intro v22 w22 hown hgrow
                obtain ⟨T2, hT2⟩ : ∃ x : ByteArray, x = T1 ++ md := ⟨_, rfl⟩
                have zT2 : T2.size ≤ 207000 := by rw [hT2, ByteArray.size_append]; omega
                have O22 : Hid (OwnM w22 w.heap.size v22 T2.data.toList) := Lib.hid (by rw [hT2]; simpa using hown)
                have B22 : Hid (Below w.heap.size w w22) := Lib.hid (B13.out.grown hgrow (by omega) (fun b hb => (OwnM.lt O13.out b hb).1))
                have HT2 := Lib.hid hT2
                clear hT2 hown hgrow O13 B13  zl2 sb2
                have HXX : Hid (paxTo L (i + 1) = T2) := Lib.hid (by rw [HS.out, eA.out, HT2.out, HT1.out])
                go_wp2_with fail
                go_roundw
                case rel => exact ⟨i + 1, _, rfl, by go_num, by omega, by rw [HXX.out]; exact O22.out, B22.out⟩
                case measure => simp [intOf]; omega
        · have eA := Lib.hid (eAn.out (by omega))
          clear eAy eAn
          go_wp2_with fail
          have E0 := EntO.new wb ⟨k2, p2, l2, m2, u2, g2, t2, us2, gr2, b2⟩
          have B0 := (Below.refl wb.heap.size wb).alloc (Nat.le_refl _) (.cells (Ent.cells ⟨k2, p2, l2, m2, u2, g2, t2, us2, gr2, b2⟩).toArray 34)
          simp only [Ent.cells] at E0 B0
          generalize wb.alloc (.cells #[.int .i64 k2, .string p2, .string l2, .int .i64 m2, .int .i64 u2, .int .i64 g2, .int .i64 t2, .string us2, .string gr2, .string b2] 34) = w11 at *
          have X11 : Hid (EntO w11 wb.heap.size ⟨k2, p2, l2, m2, u2, g2, t2, us2, gr2, b2⟩) := Lib.hid E0
          have B11 := Lib.hid (btE Bb.out B0)
          have O11 := Lib.hid (OwnM.below Ob.out B0)
          have R11 := Lib.hid (RowR.below Rb.out B0 zw)
          have zR11 := Nat.lt_of_lt_of_le zw B0.size
          clear E0 B0 Bb Rb Ob
          have KC : Hid (∀ w', Below w11.heap.size w11 w' → w'.cell? ⟨wb.heap.size, 0, none⟩ = some (.int .i64 k2) ∧ w'.cell? ⟨wb.heap.size, 1, none⟩ = some (.string p2) ∧ w'.cell? ⟨wb.heap.size, 2, none⟩ = some (.string l2) ∧ w'.cell? ⟨wb.heap.size, 3, none⟩ = some (.int .i64 m2) ∧ w'.cell? ⟨wb.heap.size, 4, none⟩ = some (.int .i64 u2) ∧ w'.cell? ⟨wb.heap.size, 5, none⟩ = some (.int .i64 g2) ∧ w'.cell? ⟨wb.heap.size, 6, none⟩ = some (.int .i64 t2) ∧ w'.cell? ⟨wb.heap.size, 7, none⟩ = some (.string us2) ∧ w'.cell? ⟨wb.heap.size, 8, none⟩ = some (.string gr2) ∧ w'.cell? ⟨wb.heap.size, 9, none⟩ = some (.string b2)) := Lib.hid (fun w' hb => by obtain ⟨c0, c1, c2, c3, c4, c5, c6, c7, c8, c9⟩ := (X11.out.below hb X11.out.lt).at.zero; exact ⟨c0, c1, c2, c3, c4, c5, c6, c7, c8, c9⟩)
          refine wp_region_cut 6 (by kernel_rfl) (fun w' => Below w11.heap.size w11 w') (fun x y => Below x.heap.size x y) (fun d v _ => match d with | 34 => v = v0 | 35 => v = .agg #[.int .i64 k2, .string p2, .string l2, .int .i64 m2, .int .i64 u2, .int .i64 g2, .int .i64 t2, .string us2, .string gr2, .string b2] | 36 => v = .pointer (some ⟨wb.heap.size, 0, none⟩) | 37 => v = .int .i64 k2 | 38 => v = .string fl | 39 => v = .string md | _ => True) (by kernel_rfl) (by kernel_rfl) ((Below.refl _ _).drew) (fun _ _ _ _ _ _ h => h) (by simp) ?hops ?hend
          case hops =>
            simp only [List.take_succ_cons, List.take_zero, List.forall_mem_cons]
            refine ⟨?o34, ?o35, ?o36, ?o37, ?o38, ?o39, fun _ h => by cases h⟩
            case o34 =>
              intro Q a w2 hC hV hI
              have e4 : a.eval (.tmp 4) = v0 := (hI 4 (by simp [Op.operands]) (by kernel_rfl)).trans rfl
              have f4 : a.tmps.getD 4 undef = v0 := e4
              have g4 : a.tmps[4]?.getD undef = v0 := by rw [← Array.getD_eq_getD_getElem?]; exact e4
              refine op_val (v0) ?_ hC (Below.refl _ _) (by intro d hd; cases hd; rfl)
              (clear hV hI hC; go_simp <;> (first | rfl | simp))
            case o35 =>
              intro Q a w2 hC hV hI
              have e7 : a.eval (.tmp 7) = .pointer (some ⟨wb.heap.size, 0, none⟩) := (hI 7 (by simp [Op.operands]) (by kernel_rfl)).trans rfl
              have f7 : a.tmps.getD 7 undef = .pointer (some ⟨wb.heap.size, 0, none⟩) := e7
              have g7 : a.tmps[7]?.getD undef = .pointer (some ⟨wb.heap.size, 0, none⟩) := by rw [← Array.getD_eq_getD_getElem?]; exact e7
              have hK := KC.out w2 hC
              refine op_val (.agg #[.int .i64 k2, .string p2, .string l2, .int .i64 m2, .int .i64 u2, .int .i64 g2, .int .i64 t2, .string us2, .string gr2, .string b2]) ?_ hC (Below.refl _ _) (by intro d hd; cases hd; rfl)
              (clear hV hI hC; go_simp <;> (first | rfl | simp))
            case o36 =>
              intro Q a w2 hC hV hI
              have e7 : a.eval (.tmp 7) = .pointer (some ⟨wb.heap.size, 0, none⟩) := (hI 7 (by simp [Op.operands]) (by kernel_rfl)).trans rfl
              have f7 : a.tmps.getD 7 undef = .pointer (some ⟨wb.heap.size, 0, none⟩) := e7
              have g7 : a.tmps[7]?.getD undef = .pointer (some ⟨wb.heap.size, 0, none⟩) := by rw [← Array.getD_eq_getD_getElem?]; exact e7
              refine op_val (.pointer (some ⟨wb.heap.size, 0, none⟩)) ?_ hC (Below.refl _ _) (by intro d hd; cases hd; rfl)
              (clear hV hI hC; go_simp <;> (first | rfl | simp))
            case o37 =>
              intro Q a w2 hC hV hI
              have e36 : a.eval (.tmp 36) = .pointer (some ⟨wb.heap.size, 0, none⟩) := hV 36 (by simp [Op.operands]) (by kernel_rfl)
              have f36 : a.tmps.getD 36 undef = .pointer (some ⟨wb.heap.size, 0, none⟩) := e36
              have g36 : a.tmps[36]?.getD undef = .pointer (some ⟨wb.heap.size, 0, none⟩) := by rw [← Array.getD_eq_getD_getElem?]; exact e36
              have hK := KC.out w2 hC
              refine op_val (.int .i64 k2) ?_ hC (Below.refl _ _) (by intro d hd; cases hd; rfl)
              (clear hV hI hC; go_simp <;> (first | rfl | simp))
            case o38 =>
              intro Q a w2 hC hV hI
              have e37 : a.eval (.tmp 37) = .int .i64 k2 := hV 37 (by simp [Op.operands, Call.operands]) (by kernel_rfl)
              have f37 : a.tmps.getD 37 undef = .int .i64 k2 := e37
              have g37 : a.tmps[37]?.getD undef = .int .i64 k2 := by rw [← Array.getD_eq_getD_getElem?]; exact e37
              refine op_call (f := 26) (args := #[.int .i64 k2]) (R := fun v y => v = .string fl ∧ w2 = y) ?_ ((HFl.out w2).mono ?_) ?_
              · (clear hV hI hC; go_simp <;> (first | rfl | simp))
              · rintro e y ⟨rfl, rfl⟩; exact ⟨_, rfl, rfl, rfl⟩
              · rintro v y ⟨rfl, rfl⟩; exact ⟨hC, Below.refl _ _, by intro d hd; cases hd; rfl⟩
            case o39 =>
              intro Q a w2 hC hV hI
              have e35 : a.eval (.tmp 35) = .agg #[.int .i64 k2, .string p2, .string l2, .int .i64 m2, .int .i64 u2, .int .i64 g2, .int .i64 t2, .string us2, .string gr2, .string b2] := hV 35 (by simp [Op.operands, Call.operands]) (by kernel_rfl)
              have f35 : a.tmps.getD 35 undef = .agg #[.int .i64 k2, .string p2, .string l2, .int .i64 m2, .int .i64 u2, .int .i64 g2, .int .i64 t2, .string us2, .string gr2, .string b2] := e35
              have g35 : a.tmps[35]?.getD undef = .agg #[.int .i64 k2, .string p2, .string l2, .int .i64 m2, .int .i64 u2, .int .i64 g2, .int .i64 t2, .string us2, .string gr2, .string b2] := by rw [← Array.getD_eq_getD_getElem?]; exact e35
              have e38 : a.eval (.tmp 38) = .string fl := hV 38 (by simp [Op.operands, Call.operands]) (by kernel_rfl)
              have f38 : a.tmps.getD 38 undef = .string fl := e38
              have g38 : a.tmps[38]?.getD undef = .string fl := by rw [← Array.getD_eq_getD_getElem?]; exact e38
              refine op_call (f := 33) (args := #[.agg #[.int .i64 k2, .string p2, .string l2, .int .i64 m2, .int .i64 u2, .int .i64 g2, .int .i64 t2, .string us2, .string gr2, .string b2], .string fl]) (R := fun v y => v = .string md ∧ Below w2.heap.size w2 y) ?_ ((HM.out w2 (HTab.out.below (btE B11.out hC)) (HFw.out.below (btE B11.out hC))).mono ?_) ?_
              · (clear hV hI hC; go_simp <;> (first | rfl | simp))
              · rintro e y ⟨rfl, hb⟩; exact ⟨_, rfl, rfl, hb⟩
              · rintro v y ⟨rfl, hb⟩; exact ⟨hC.trans (hb.mono hC.size), hb, by intro d hd; cases hd; rfl⟩
          case hend =>
            intro f w13 hC hall
            simp only [List.take_succ_cons, List.take_zero, List.drop_succ_cons, List.drop_zero] at hall ⊢
            simp only [List.forall_mem_cons] at hall
            obtain ⟨h34, h35, h36, h37, h38, h39, _⟩ := hall
            replace h34 : f 34 = v0 := h34 34 rfl
            replace h35 : f 35 = .agg #[.int .i64 k2, .string p2, .string l2, .int .i64 m2, .int .i64 u2, .int .i64 g2, .int .i64 t2, .string us2, .string gr2, .string b2] := h35 35 rfl
            replace h36 : f 36 = .pointer (some ⟨wb.heap.size, 0, none⟩) := h36 36 rfl
            replace h37 : f 37 = .int .i64 k2 := h37 37 rfl
            replace h38 : f 38 = .string fl := h38 38 rfl
            replace h39 : f 39 = .string md := h39 39 rfl
            simp only [putAll, Act.put, List.setIfInBounds_toArray, List.set_cons_succ, List.set_cons_zero, h34, h35, h36, h37, h38, h39]
            clear h34 h35 h36 h37 h38 h39
            have B13 := Lib.hid (btE B11.out hC)
            have O13 := Lib.hid (OwnM.below O11.out hC)
            clear hC KC B11 O11 X11
            have zl1 : T.data.toList.length = T.size := by simp
            have sb1 := B13.out.size
            go_wp2_with (at_builtin; refine wpList_append_ownM rfl _ _ rfl w.heap.size i0 hi0 hz0 hz1 hz2 _ _ rfl O13.out md rfl ?zp1 ?zq1 ?_)
            case zp1 => omega
            case zq1 => omega
            · intro v21 w21 hown hgrow
              obtain ⟨T1, hT1⟩ : ∃ x : ByteArray, x = T ++ md := ⟨_, rfl⟩
              have zT1 : T1.size ≤ 207000 := by rw [hT1, ByteArray.size_append]; omega
              have O21 : Hid (OwnM w21 w.heap.size v21 T1.data.toList) := Lib.hid (by rw [hT1]; simpa using hown)
              have B21 : Hid (Below w.heap.size w w21) := Lib.hid (B13.out.grown hgrow (by omega) (fun b hb => (OwnM.lt O13.out b hb).1))
              have HT1 := Lib.hid hT1
              clear hT1 hown hgrow O13 B13  zl1 sb1
              have HXX : Hid (paxTo L (i + 1) = T1) := Lib.hid (by rw [HS.out, eA.out, HT1.out])
              go_wp2_with fail
              go_roundw
              case rel => exact ⟨i + 1, _, rfl, by go_num, by omega, by rw [HXX.out]; exact O21.out, B21.out⟩
              case measure => simp [intOf]; omega
      · obtain rfl : i = n := by omega
        have hlt2 : ¬ (i : Int) < (i : Int) := by omega
        have HE := HY
        have y1 := HZ.out i (Nat.le_refl _)
        generalize paxTo L i = T at HE y1 O
        have yT : T.size ≤ 199400 := by omega
        have zT : T.data.toList.length = T.size := by simp
        go_wp2_with fail
        refine (HN.out _).mono ?_
        rintro e w2 ⟨rfl, hb⟩
        have O2 := Lib.hid (OwnM.below O.out hb)
        have B2 := Lib.hid (btE B.out hb)
        clear hb O B
        have s2 := B2.out.size
        go_wp2_with (at_builtin; refine wpList_append_ownM rfl _ _ rfl w.heap.size i0 hi0 hz0 hz1 hz2 _ _ rfl O2.out n1024 rfl ?f3 ?f4 ?_)
        case f3 => omega
        case f4 => omega
        · intro v3 w3 hown3 hgrow3
          have B3 : Hid (Below w.heap.size w w3) := Lib.hid (B2.out.grown hgrow3 (by omega) (fun b hb => (OwnM.lt O2.out b hb).1))
          have hc := hown3.conv
          rw [show (⟨(T.data.toList ++ n1024.data.toList).toArray⟩ : ByteArray) = T ++ n1024 from ba_ext (by simp)] at hc
          clear hown3 hgrow3 O2 B2
          go_wp2_with fail
          go_ret2
          exact ⟨ret_sb2 HE.out rfl rfl, B3.out⟩
end Go.Proofs.YtgpgkgahbkmdiaaGreatDoor

/- PutPax, as the law asks it. -/
namespace Go.Proofs.YtgpgkgahbkmdiaaGreatDoor
open Go.ChangeShapes Go.WideShapes Go.ChangeAt Go.RowKit Go.Deep

def TabsF (w : World) : Prop := Tabs w ∧ FW w
theorem TabsF.below {w w' : World} (h : TabsF w) (hb : Below w.heap.size w w') : TabsF w' := ⟨h.1.below hb, h.2.below hb⟩
theorem pax_spec (L : List Ent) (n g cap : Nat) (w : World) (hn : n = L.length) (hm : n ≤ 1048576) (hcap : n ≤ cap) (hg : g < w.heap.size) (hsm : SmallL L) (h1 : RowE w g L) :
    Calls Tryz.prog 13 #[.slice (some ⟨g, 0, none⟩) n cap] w fun e w' => e = .returned (.tuple #[.string (putPaxv L).1, .bool (putPaxv L).2]) ∧ Below w.heap.size w w' := putPax_spec L n g cap w hn hm hcap hg hsm h1
theorem pax_impl (L : List Ent) (n g cap : Nat) (w : World) (hn : n = L.length) (hm : n ≤ 1048576) (hg : g < w.heap.size) (hsm : SmallL L) (ht : TabsF w) (h1 : RowE w g L) :
    Calls Tryz.prog 14 #[.slice (some ⟨g, 0, none⟩) n cap] w fun e w' => e = .returned (.tuple #[.string (putPaxv L).1, .bool (putPaxv L).2]) ∧ Below w.heap.size w w' := putPax_impl L n g cap w hn hm hg hsm ht.1 ht.2 h1
end Go.Proofs.YtgpgkgahbkmdiaaGreatDoor
