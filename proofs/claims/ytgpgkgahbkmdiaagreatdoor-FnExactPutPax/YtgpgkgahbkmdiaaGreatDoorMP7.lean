/- Texts joined: PutPaxS, CopyE, RegTail. -/
import Derived.Test.YtgpgkgahbkmdiaaGreatDoorMP6
/- Contract of spec.PutPax. -/
namespace Go.Proofs.YtgpgkgahbkmdiaaGreatDoor
open Go.ChangeShapes Go.WideShapes Go.ChangeAt Go.RowKit Go.Deep

set_option maxHeartbeats 12800000 in
set_option maxRecDepth 8000 in
theorem putPax_spec (L : List Ent) (n g cap : Nat) (w : World) (hn : n = L.length) (hm : n ≤ 1048576) (hcap : n ≤ cap) (hg : g < w.heap.size) (hsm : SmallL L) (h1 : RowE w g L) :
    Calls Tryz.prog 13 #[.slice (some ⟨g, 0, none⟩) n cap] w fun e w' => e = .returned (.tuple #[.string (putPaxv L).1, .bool (putPaxv L).2]) ∧ Below w.heap.size w w' := by
  have HLO := Lib.hid (fun w h0 h1 => listOk_spec L n g cap w hn (by omega) hcap h0 hsm h1)
  have H1 := Lib.hid h1
  cases hlo : listOkv L with
  | false =>
    have HE := Lib.hid (pax_bad hlo)
    generalize putPaxv L = r at HE
    rw [hlo] at HLO
    clear h1 hlo hsm hn
    go_enter Tryz.func13, Tryz.ntmps13
    go_wp2_with fail
    refine (HLO.out _ hg H1.out).mono ?_
    rintro e w1 ⟨rfl, hb⟩
    go_wp2
    go_ret2
    exact ⟨ret_sb2 HE.out rfl rfl, hb⟩
  | true =>
    have HG : Hid (∀ i, i < n → ∃ e, L[i]? = some e ∧ esz e ≤ 4194304 ∧ entOkv e = true) := Lib.hid (fun i hi => by obtain ⟨e, he⟩ := getE' (L := L) (i := i) (by omega); exact ⟨e, he, hsm.get he, listOk_ent hlo he⟩)
    have HY : Hid (putPaxv L = (paxTo L n ++ nulv 1024, true)) := Lib.hid (by rw [hn]; exact pax_yes hlo)
    have HZ : Hid (∀ i, i ≤ n → (paxTo L i).size ≤ 1400 + 6600 * i) := Lib.hid (fun i hi => pax_size hlo i (by omega))
    have h30 : n ≤ 30 := by rw [hn]; exact listOk_30 hlo
    have HN := Lib.hid (fun w => nuls_spec 1024 w (by omega))
    rw [show ((1024 : Int).toNat) = 1024 from rfl] at HN
    have zn := nulv_size 1024
    generalize nulv 1024 = n1024 at *
    generalize putPaxv L = r at HY
    rw [hlo] at HLO
    clear h1 hlo hsm hn
    have P1 := Lib.hid (fun w => putRecord_spec recC.key recC.value w (by decide) (by decide))
    have P2 := Lib.hid (fun w => extra_spec flG paxG (putRecv recC.key recC.value) w (by decide) (by have := putRec_le recC.key recC.value; omega))
    rw [show extrav flG paxG (putRecv recC.key recC.value) = paxTo L 0 from rfl] at P2
    rw [show recC.key = ⟨#[99, 111, 109, 109, 101, 110, 116]⟩ from rfl, show recC.value = ⟨#[99, 114, 97, 116, 101, 115]⟩ from rfl] at P1
    rw [show recC.key = ⟨#[99, 111, 109, 109, 101, 110, 116]⟩ from rfl, show recC.value = ⟨#[99, 114, 97, 116, 101, 115]⟩ from rfl, show flG = ⟨#[103]⟩ from rfl, show paxG = ⟨#[112, 97, 120, 95, 103, 108, 111, 98, 97, 108]⟩ from rfl] at P2
    generalize putRecv ⟨#[99, 111, 109, 109, 101, 110, 116]⟩ ⟨#[99, 114, 97, 116, 101, 115]⟩ = tc at *
    go_enter Tryz.func13, Tryz.ntmps13
    go_wp2_with fail
    refine (HLO.out _ hg H1.out).mono ?_
    rintro e w1 ⟨rfl, hb1⟩
    have B1 := Lib.hid hb1
    clear hb1 HLO
    go_wp2_with fail
    refine (P1.out _).mono ?_
    rintro e w2 ⟨rfl, hb1⟩
    have B2 := Lib.hid (btE B1.out hb1)
    clear hb1 B1
    go_wp2_with fail
    refine (P2.out _).mono ?_
    rintro e w3 ⟨rfl, hb1⟩
    have B3 := Lib.hid (btE B2.out hb1)
    clear hb1 B2 P1 P2
    go_wp2_with fail
    go_loopw [4, 5] (fun v u wr => ∃ i : Nat, v = .string (paxTo L i) ∧ u = .int .i64 i ∧ i ≤ n ∧ Below w.heap.size w wr) (fun _ u _ => n - (intOf u).toNat)
    case atStart => exact ⟨0, rfl, rfl, Nat.zero_le _, B3.out⟩
    case round =>
      obtain ⟨i, rfl, rfl, hi, hb⟩ := hrel
      have B := Lib.hid hb
      clear hb B3
      by_cases hlt : i < n
      · have hlt2 : (i : Int) < (n : Int) := by omega
        obtain ⟨e, he, hz, hok⟩ := HG.out i hlt
        obtain ⟨c0, c1, c2, c3, c4, c5, c6, c7, c8, c9⟩ := (H1.out.below B.out hg).ten he
        have HS := Lib.hid (pax_step he)
        have y1 := HZ.out i hi
        obtain ⟨-, -, -, -, -, nu, ng, nt⟩ := entOk_texts hok
        have zt := base1E_texts hok
        have hl5 := base1L_five e
        have hsmR := base1L_small hok
        have eAy : Hid ((0 : Int) < ((base1L e).length : Int) → paxA (paxTo L i) e = paxTo L i ++ extrav flX paxX (putRecsv (base1L e))) := Lib.hid (paxA_yes (e := e))
        have eAn : Hid (¬ (0 : Int) < ((base1L e).length : Int) → paxA (paxTo L i) e = paxTo L i) := Lib.hid (paxA_no (e := e))
        have hsz := small_parts hz
        clear he hz hok
        obtain ⟨k, p, l, m, u, g0, t, us, gr, b⟩ := e
        dsimp only at hsz c0 c1 c2 c3 c4 c5 c6 c7 c8 c9 nu ng nt
        have S1 := (fun w => base1_spec k p l m u g0 t us gr b w hsz.1 hsz.2.1 hsz.2.2.1 hsz.2.2.2.1 hsz.2.2.2.2 (by omega) (by omega) (by omega) (by omega) (by omega) (by omega))
        have zx := extra_le flX paxX (putRecsv (base1L ⟨k, p, l, m, u, g0, t, us, gr, b⟩))
        have zx2 := putRecs_le (base1L ⟨k, p, l, m, u, g0, t, us, gr, b⟩) hl5
        generalize paxA (paxTo L i) ⟨k, p, l, m, u, g0, t, us, gr, b⟩ = TA at *
        generalize base1L ⟨k, p, l, m, u, g0, t, us, gr, b⟩ = LL at *
        generalize base1E ⟨k, p, l, m, u, g0, t, us, gr, b⟩ = rE at *
        obtain ⟨k2, p2, l2, m2, u2, g2, t2, us2, gr2, b2⟩ := rE
        dsimp only at zt HS
        have Q1 : Hid (∀ w, Calls Tryz.prog 36 #[.agg #[.int .i64 k, .string p, .string l, .int .i64 m, .int .i64 u, .int .i64 g0, .int .i64 t, .string us, .string gr, .string b]] w fun e w' => (∃ v, e = .returned (.tuple #[.agg #[.int .i64 k2, .string p2, .string l2, .int .i64 m2, .int .i64 u2, .int .i64 g2, .int .i64 t2, .string us2, .string gr2, .string b2], v]) ∧ OwnR w' w.heap.size v LL) ∧ Below w.heap.size w w') := Lib.hid S1
        have HR := Lib.hid (fun g cap w h0 h1 => putRecords_spec LL LL.length g cap w rfl (by omega) h0 hsmR h1)
        have HX := Lib.hid (fun w => extra_spec flX paxX (putRecsv LL) w (by decide) (by omega))
        have HFl := Lib.hid (fun w => flag_spec k2 w)
        have HH := Lib.hid (fun w => putHead_spec k2 p2 l2 m2 u2 g2 t2 us2 gr2 b2 (flagv k2) b2.size w (by omega) (by omega) (by omega) (by omega) (by omega))
        have HBd := Lib.hid (fun w => l04Body_spec b2 w (by omega))
        have zh := putHead_le ⟨k2, p2, l2, m2, u2, g2, t2, us2, gr2, b2⟩ (flagv k2) b2.size
        have zb := body_size b2
        rw [show flX = ⟨#[120]⟩ from rfl, show paxX = ⟨#[112, 97, 120, 95, 120]⟩ from rfl] at HX
        rw [show flX = ⟨#[120]⟩ from rfl, show paxX = ⟨#[112, 97, 120, 95, 120]⟩ from rfl] at eAy zx
        generalize extrav ⟨#[120]⟩ ⟨#[112, 97, 120, 95, 120]⟩ (putRecsv LL) = ex at *
        generalize putRecsv LL = tx at *
        generalize putHeadv ⟨k2, p2, l2, m2, u2, g2, t2, us2, gr2, b2⟩ (flagv k2) b2.size = hd at *
        generalize bodyP b2 = bb at *
        generalize flagv k2 = fl at *
        generalize paxTo L i = T at *
        have yT : T.size ≤ 199400 := by omega
        have sB := B.out.size
        clear S1 hsz y1 nu ng nt hsmR
        go_wp2_with fail
        refine (Q1.out _).mono ?_
        rintro e wb ⟨⟨v, rfl, ho⟩, hb⟩
        obtain ⟨gw, cw, rfl, hr, zw, _, _⟩ := ho.open
        have Bb := Lib.hid (btE B.out hb)
        have Rb := Lib.hid hr
        clear ho hr hb B c0 c1 c2 c3 c4 c5 c6 c7 c8 c9 Q1
        by_cases q1 : (0 : Int) < (LL.length : Int)
        · have eA := Lib.hid (eAy.out (by omega))
          clear eAy eAn
          go_wp2_with fail
          have E0 := EntO.new wb ⟨k2, p2, l2, m2, u2, g2, t2, us2, gr2, b2⟩
          have B0 := (Below.refl wb.heap.size wb).alloc (Nat.le_refl _) (.cells (Ent.cells ⟨k2, p2, l2, m2, u2, g2, t2, us2, gr2, b2⟩).toArray 34)
          simp only [Ent.cells] at E0 B0
          generalize wb.alloc (.cells #[.int .i64 k2, .string p2, .string l2, .int .i64 m2, .int .i64 u2, .int .i64 g2, .int .i64 t2, .string us2, .string gr2, .string b2] 34) = w10 at *
          have X10 : Hid (EntO w10 wb.heap.size ⟨k2, p2, l2, m2, u2, g2, t2, us2, gr2, b2⟩) := Lib.hid E0
          have B10 := Lib.hid (btE Bb.out B0)
          have R10 := Lib.hid (RowR.below Rb.out B0 zw)
          have zR10 := Nat.lt_of_lt_of_le zw B0.size
          clear E0 B0 Bb Rb
          have zt0 : tx.size ≤ 1430 := by omega
          refine (HR.out gw cw _ zR10 R10.out).mono ?_
          rintro e w11 ⟨rfl, hb⟩
          have B11 := Lib.hid (btE B10.out hb)
          have X11 := Lib.hid (EntO.below X10.out hb X10.out.lt)
          clear hb  B10 X10
          go_wp2_with fail
          refine (HX.out _).mono ?_
          rintro e w12 ⟨rfl, hb⟩
          have B12 := Lib.hid (btE B11.out hb)
          have X12 := Lib.hid (EntO.below X11.out hb X11.out.lt)
          clear hb  B11 X11
          obtain ⟨c0, c1, c2, c3, c4, c5, c6, c7, c8, c9⟩ := X12.out.at.zero
          obtain ⟨Ta, hTa⟩ : ∃ x : ByteArray, x = T ++ ex := ⟨_, rfl⟩
          have zTa : Ta.size ≤ 202000 := by rw [hTa, ByteArray.size_append]; omega
          have HTa := Lib.hid hTa
          have HAa : Hid (∀ w, (Op.stringOp .add T ex).run Tryz.prog w = .ok (.string Ta) w) := Lib.hid (fun w => by rw [HTa.out]; exact run_string_add_sum w _ _ (by omega))
          clear hTa
          have ha := HAa.out w12
          go_wp2_with fail
          clear c0 c1 c2 c3 c4 c5 c6 c7 c8 c9 ha HAa
          have KC : Hid (∀ w', Below w12.heap.size w12 w' → w'.cell? ⟨wb.heap.size, 0, none⟩ = some (.int .i64 k2) ∧ w'.cell? ⟨wb.heap.size, 1, none⟩ = some (.string p2) ∧ w'.cell? ⟨wb.heap.size, 2, none⟩ = some (.string l2) ∧ w'.cell? ⟨wb.heap.size, 3, none⟩ = some (.int .i64 m2) ∧ w'.cell? ⟨wb.heap.size, 4, none⟩ = some (.int .i64 u2) ∧ w'.cell? ⟨wb.heap.size, 5, none⟩ = some (.int .i64 g2) ∧ w'.cell? ⟨wb.heap.size, 6, none⟩ = some (.int .i64 t2) ∧ w'.cell? ⟨wb.heap.size, 7, none⟩ = some (.string us2) ∧ w'.cell? ⟨wb.heap.size, 8, none⟩ = some (.string gr2) ∧ w'.cell? ⟨wb.heap.size, 9, none⟩ = some (.string b2)) := Lib.hid (fun w' hb => by obtain ⟨c0, c1, c2, c3, c4, c5, c6, c7, c8, c9⟩ := (X12.out.below hb X12.out.lt).at.zero; exact ⟨c0, c1, c2, c3, c4, c5, c6, c7, c8, c9⟩)
          obtain ⟨x45, hx45⟩ : ∃ x : ByteArray, x = Ta ++ hd := ⟨_, rfl⟩
          obtain ⟨x49, hx49⟩ : ∃ x : ByteArray, x = x45 ++ bb := ⟨_, rfl⟩
          have zx45 : x45.size ≤ 202512 := by rw [hx45, ByteArray.size_append]; omega
          have zx49 : x49.size ≤ 206023 := by rw [hx49, ByteArray.size_append]; omega
          have HA45 : Hid (∀ w, (Op.stringOp .add Ta hd).run Tryz.prog w = .ok (.string x45) w) := Lib.hid (fun w => by rw [hx45]; exact run_string_add_sum w _ _ (by omega))
          have HA49 : Hid (∀ w, (Op.stringOp .add x45 bb).run Tryz.prog w = .ok (.string x49) w) := Lib.hid (fun w => by rw [hx49]; exact run_string_add_sum w _ _ (by omega))
          have HX45 := Lib.hid hx45
          have HX49 := Lib.hid hx49
          clear hx45 hx49
          refine wp_region_inv (by kernel_rfl) (fun w' => Below w12.heap.size w12 w') (fun x y => Below x.heap.size x y) (fun d v _ => match d with | 36 => v = .string Ta | 37 => v = .agg #[.int .i64 k2, .string p2, .string l2, .int .i64 m2, .int .i64 u2, .int .i64 g2, .int .i64 t2, .string us2, .string gr2, .string b2] | 38 => v = .pointer (some ⟨wb.heap.size, 0, none⟩) | 39 => v = .int .i64 k2 | 40 => v = .string fl | 41 => v = .pointer (some ⟨wb.heap.size, 9, none⟩) | 42 => v = .string b2 | 43 => v = .int .i64 (b2.size : Int) | 44 => v = .string hd | 45 => v = .string x45 | 46 => v = .pointer (some ⟨wb.heap.size, 9, none⟩) | 47 => v = .string b2 | 48 => v = .string bb | 49 => v = .string x49 | 4 => v = .string x49 | _ => True) (by kernel_rfl) ((Below.refl _ _).drew) (fun _ _ _ _ _ _ h => h) ?hops ?hend
          case hops =>
            simp only [List.forall_mem_cons]
            refine ⟨?o36, ?o37, ?o38, ?o39, ?o40, ?o41, ?o42, ?o43, ?o44, ?o45, ?o46, ?o47, ?o48, ?o49, ?o4, fun _ h => by cases h⟩
            case o36 =>
              intro Q a w2 hC hV hI
              have e4 : a.eval (.tmp 4) = .string Ta := (hI 4 (by simp [Op.operands]) (by kernel_rfl)).trans rfl
              have f4 : a.tmps.getD 4 undef = .string Ta := e4
              have g4 : a.tmps[4]?.getD undef = .string Ta := by rw [← Array.getD_eq_getD_getElem?]; exact e4
              refine op_val (.string Ta) ?_ hC (Below.refl _ _) (by intro d hd; cases hd; rfl)
              (clear hV hI hC; go_simp <;> (first | rfl | simp))
            case o37 =>
              intro Q a w2 hC hV hI
              have e6 : a.eval (.tmp 6) = .pointer (some ⟨wb.heap.size, 0, none⟩) := (hI 6 (by simp [Op.operands]) (by kernel_rfl)).trans rfl
              have f6 : a.tmps.getD 6 undef = .pointer (some ⟨wb.heap.size, 0, none⟩) := e6
              have g6 : a.tmps[6]?.getD undef = .pointer (some ⟨wb.heap.size, 0, none⟩) := by rw [← Array.getD_eq_getD_getElem?]; exact e6
              have hK := KC.out w2 hC
              refine op_val (.agg #[.int .i64 k2, .string p2, .string l2, .int .i64 m2, .int .i64 u2, .int .i64 g2, .int .i64 t2, .string us2, .string gr2, .string b2]) ?_ hC (Below.refl _ _) (by intro d hd; cases hd; rfl)
              (clear hV hI hC; go_simp <;> (first | rfl | simp))
            case o38 =>
              intro Q a w2 hC hV hI
              have e6 : a.eval (.tmp 6) = .pointer (some ⟨wb.heap.size, 0, none⟩) := (hI 6 (by simp [Op.operands]) (by kernel_rfl)).trans rfl
              have f6 : a.tmps.getD 6 undef = .pointer (some ⟨wb.heap.size, 0, none⟩) := e6
              have g6 : a.tmps[6]?.getD undef = .pointer (some ⟨wb.heap.size, 0, none⟩) := by rw [← Array.getD_eq_getD_getElem?]; exact e6
              refine op_val (.pointer (some ⟨wb.heap.size, 0, none⟩)) ?_ hC (Below.refl _ _) (by intro d hd; cases hd; rfl)
              (clear hV hI hC; go_simp <;> (first | rfl | simp))
            case o39 =>
              intro Q a w2 hC hV hI
              have e38 : a.eval (.tmp 38) = .pointer (some ⟨wb.heap.size, 0, none⟩) := hV 38 (by simp [Op.operands]) (by kernel_rfl)
              have f38 : a.tmps.getD 38 undef = .pointer (some ⟨wb.heap.size, 0, none⟩) := e38
              have g38 : a.tmps[38]?.getD undef = .pointer (some ⟨wb.heap.size, 0, none⟩) := by rw [← Array.getD_eq_getD_getElem?]; exact e38
              have hK := KC.out w2 hC
              refine op_val (.int .i64 k2) ?_ hC (Below.refl _ _) (by intro d hd; cases hd; rfl)
              (clear hV hI hC; go_simp <;> (first | rfl | simp))
            case o40 =>
              intro Q a w2 hC hV hI
              have e39 : a.eval (.tmp 39) = .int .i64 k2 := hV 39 (by simp [Op.operands, Call.operands]) (by kernel_rfl)
              have f39 : a.tmps.getD 39 undef = .int .i64 k2 := e39
              have g39 : a.tmps[39]?.getD undef = .int .i64 k2 := by rw [← Array.getD_eq_getD_getElem?]; exact e39
              refine op_call (f := 19) (args := #[.int .i64 k2]) (R := fun v y => v = .string fl ∧ Below w2.heap.size w2 y) ?_ ((HFl.out w2).mono ?_) ?_
              · (clear hV hI hC; go_simp <;> (first | rfl | simp))
              · rintro e y ⟨rfl, hb⟩; exact ⟨_, rfl, rfl, hb⟩
              · rintro v y ⟨rfl, hb⟩; exact ⟨hC.trans (hb.mono hC.size), hb, by intro d hd; cases hd; rfl⟩
            case o41 =>
              intro Q a w2 hC hV hI
              have e6 : a.eval (.tmp 6) = .pointer (some ⟨wb.heap.size, 0, none⟩) := (hI 6 (by simp [Op.operands]) (by kernel_rfl)).trans rfl
              have f6 : a.tmps.getD 6 undef = .pointer (some ⟨wb.heap.size, 0, none⟩) := e6
              have g6 : a.tmps[6]?.getD undef = .pointer (some ⟨wb.heap.size, 0, none⟩) := by rw [← Array.getD_eq_getD_getElem?]; exact e6
              refine op_val (.pointer (some ⟨wb.heap.size, 9, none⟩)) ?_ hC (Below.refl _ _) (by intro d hd; cases hd; rfl)
              (clear hV hI hC; go_simp <;> (first | rfl | simp))
            case o42 =>
              intro Q a w2 hC hV hI
              have e41 : a.eval (.tmp 41) = .pointer (some ⟨wb.heap.size, 9, none⟩) := hV 41 (by simp [Op.operands]) (by kernel_rfl)
              have f41 : a.tmps.getD 41 undef = .pointer (some ⟨wb.heap.size, 9, none⟩) := e41
              have g41 : a.tmps[41]?.getD undef = .pointer (some ⟨wb.heap.size, 9, none⟩) := by rw [← Array.getD_eq_getD_getElem?]; exact e41
              have hK := KC.out w2 hC
              refine op_val (.string b2) ?_ hC (Below.refl _ _) (by intro d hd; cases hd; rfl)
              (clear hV hI hC; go_simp <;> (first | rfl | simp))
            case o43 =>
              intro Q a w2 hC hV hI
              have e42 : a.eval (.tmp 42) = .string b2 := hV 42 (by simp [Op.operands, Call.operands]) (by kernel_rfl)
              have f42 : a.tmps.getD 42 undef = .string b2 := e42
              have g42 : a.tmps[42]?.getD undef = .string b2 := by rw [← Array.getD_eq_getD_getElem?]; exact e42
              refine op_val (.int .i64 (b2.size : Int)) ?_ hC (Below.refl _ _) (by intro d hd; cases hd; rfl)
              (clear hV hI hC; go_simp <;> (first | rfl | simp))
            case o44 =>
              intro Q a w2 hC hV hI
              have e37 : a.eval (.tmp 37) = .agg #[.int .i64 k2, .string p2, .string l2, .int .i64 m2, .int .i64 u2, .int .i64 g2, .int .i64 t2, .string us2, .string gr2, .string b2] := hV 37 (by simp [Op.operands, Call.operands]) (by kernel_rfl)
              have f37 : a.tmps.getD 37 undef = .agg #[.int .i64 k2, .string p2, .string l2, .int .i64 m2, .int .i64 u2, .int .i64 g2, .int .i64 t2, .string us2, .string gr2, .string b2] := e37
              have g37 : a.tmps[37]?.getD undef = .agg #[.int .i64 k2, .string p2, .string l2, .int .i64 m2, .int .i64 u2, .int .i64 g2, .int .i64 t2, .string us2, .string gr2, .string b2] := by rw [← Array.getD_eq_getD_getElem?]; exact e37
              have e40 : a.eval (.tmp 40) = .string fl := hV 40 (by simp [Op.operands, Call.operands]) (by kernel_rfl)
              have f40 : a.tmps.getD 40 undef = .string fl := e40
              have g40 : a.tmps[40]?.getD undef = .string fl := by rw [← Array.getD_eq_getD_getElem?]; exact e40
              have e43 : a.eval (.tmp 43) = .int .i64 (b2.size : Int) := hV 43 (by simp [Op.operands, Call.operands]) (by kernel_rfl)
              have f43 : a.tmps.getD 43 undef = .int .i64 (b2.size : Int) := e43
              have g43 : a.tmps[43]?.getD undef = .int .i64 (b2.size : Int) := by rw [← Array.getD_eq_getD_getElem?]; exact e43
              refine op_call (f := 31) (args := #[.agg #[.int .i64 k2, .string p2, .string l2, .int .i64 m2, .int .i64 u2, .int .i64 g2, .int .i64 t2, .string us2, .string gr2, .string b2], .string fl, .int .i64 (b2.size : Int)]) (R := fun v y => v = .string hd ∧ Below w2.heap.size w2 y) ?_ ((HH.out w2).mono ?_) ?_
              · (clear hV hI hC; go_simp <;> (first | rfl | simp))
              · rintro e y ⟨rfl, hb⟩; exact ⟨_, rfl, rfl, hb⟩
              · rintro v y ⟨rfl, hb⟩; exact ⟨hC.trans (hb.mono hC.size), hb, by intro d hd; cases hd; rfl⟩
            case o45 =>
              intro Q a w2 hC hV hI
              have e36 : a.eval (.tmp 36) = .string Ta := hV 36 (by simp [Op.operands]) (by kernel_rfl)
              have f36 : a.tmps.getD 36 undef = .string Ta := e36
              have g36 : a.tmps[36]?.getD undef = .string Ta := by rw [← Array.getD_eq_getD_getElem?]; exact e36
              have e44 : a.eval (.tmp 44) = .string hd := hV 44 (by simp [Op.operands]) (by kernel_rfl)
              have f44 : a.tmps.getD 44 undef = .string hd := e44
              have g44 : a.tmps[44]?.getD undef = .string hd := by rw [← Array.getD_eq_getD_getElem?]; exact e44
              refine op_val (.string x45) ?_ hC (Below.refl _ _) (by intro d hd; cases hd; rfl)
              have q := HA45.out w2
              (clear hV hI hC; go_simp <;> (first | rfl | simp))
            case o46 =>
              intro Q a w2 hC hV hI
              have e6 : a.eval (.tmp 6) = .pointer (some ⟨wb.heap.size, 0, none⟩) := (hI 6 (by simp [Op.operands]) (by kernel_rfl)).trans rfl
              have f6 : a.tmps.getD 6 undef = .pointer (some ⟨wb.heap.size, 0, none⟩) := e6
              have g6 : a.tmps[6]?.getD undef = .pointer (some ⟨wb.heap.size, 0, none⟩) := by rw [← Array.getD_eq_getD_getElem?]; exact e6
              refine op_val (.pointer (some ⟨wb.heap.size, 9, none⟩)) ?_ hC (Below.refl _ _) (by intro d hd; cases hd; rfl)
              (clear hV hI hC; go_simp <;> (first | rfl | simp))
            case o47 =>
              intro Q a w2 hC hV hI
              have e46 : a.eval (.tmp 46) = .pointer (some ⟨wb.heap.size, 9, none⟩) := hV 46 (by simp [Op.operands]) (by kernel_rfl)
              have f46 : a.tmps.getD 46 undef = .pointer (some ⟨wb.heap.size, 9, none⟩) := e46
              have g46 : a.tmps[46]?.getD undef = .pointer (some ⟨wb.heap.size, 9, none⟩) := by rw [← Array.getD_eq_getD_getElem?]; exact e46
              have hK := KC.out w2 hC
              refine op_val (.string b2) ?_ hC (Below.refl _ _) (by intro d hd; cases hd; rfl)
              (clear hV hI hC; go_simp <;> (first | rfl | simp))
            case o48 =>
              intro Q a w2 hC hV hI
              have e47 : a.eval (.tmp 47) = .string b2 := hV 47 (by simp [Op.operands, Call.operands]) (by kernel_rfl)
              have f47 : a.tmps.getD 47 undef = .string b2 := e47
              have g47 : a.tmps[47]?.getD undef = .string b2 := by rw [← Array.getD_eq_getD_getElem?]; exact e47
              refine op_call (f := 20) (args := #[.string b2]) (R := fun v y => v = .string bb ∧ Below w2.heap.size w2 y) ?_ ((HBd.out w2).mono ?_) ?_
              · (clear hV hI hC; go_simp <;> (first | rfl | simp))
              · rintro e y ⟨rfl, hb⟩; exact ⟨_, rfl, rfl, hb⟩
              · rintro v y ⟨rfl, hb⟩; exact ⟨hC.trans (hb.mono hC.size), hb, by intro d hd; cases hd; rfl⟩
            case o49 =>
              intro Q a w2 hC hV hI
              have e45 : a.eval (.tmp 45) = .string x45 := hV 45 (by simp [Op.operands]) (by kernel_rfl)
              have f45 : a.tmps.getD 45 undef = .string x45 := e45
              have g45 : a.tmps[45]?.getD undef = .string x45 := by rw [← Array.getD_eq_getD_getElem?]; exact e45
              have e48 : a.eval (.tmp 48) = .string bb := hV 48 (by simp [Op.operands]) (by kernel_rfl)
              have f48 : a.tmps.getD 48 undef = .string bb := e48
              have g48 : a.tmps[48]?.getD undef = .string bb := by rw [← Array.getD_eq_getD_getElem?]; exact e48
              refine op_val (.string x49) ?_ hC (Below.refl _ _) (by intro d hd; cases hd; rfl)
              have q := HA49.out w2
              (clear hV hI hC; go_simp <;> (first | rfl | simp))
            case o4 =>
              intro Q a w2 hC hV hI
              have e49 : a.eval (.tmp 49) = .string x49 := hV 49 (by simp [Op.operands]) (by kernel_rfl)
              have f49 : a.tmps.getD 49 undef = .string x49 := e49
              have g49 : a.tmps[49]?.getD undef = .string x49 := by rw [← Array.getD_eq_getD_getElem?]; exact e49
              refine op_val (.string x49) ?_ hC (Below.refl _ _) (by intro d hd; cases hd; rfl)
              (clear hV hI hC; go_simp <;> (first | rfl | simp))
          case hend =>
            intro f w13 hC hall
            clear HA45 HA49
            simp only [List.forall_mem_cons] at hall
            obtain ⟨h36, h37, h38, h39, h40, h41, h42, h43, h44, h45, h46, h47, h48, h49, h4, _⟩ := hall
            replace h36 : f 36 = .string Ta := h36 36 rfl
            replace h37 : f 37 = .agg #[.int .i64 k2, .string p2, .string l2, .int .i64 m2, .int .i64 u2, .int .i64 g2, .int .i64 t2, .string us2, .string gr2, .string b2] := h37 37 rfl
            replace h38 : f 38 = .pointer (some ⟨wb.heap.size, 0, none⟩) := h38 38 rfl
            replace h39 : f 39 = .int .i64 k2 := h39 39 rfl
            replace h40 : f 40 = .string fl := h40 40 rfl
            replace h41 : f 41 = .pointer (some ⟨wb.heap.size, 9, none⟩) := h41 41 rfl
            replace h42 : f 42 = .string b2 := h42 42 rfl
            replace h43 : f 43 = .int .i64 (b2.size : Int) := h43 43 rfl
            replace h44 : f 44 = .string hd := h44 44 rfl
            replace h45 : f 45 = .string x45 := h45 45 rfl
            replace h46 : f 46 = .pointer (some ⟨wb.heap.size, 9, none⟩) := h46 46 rfl
            replace h47 : f 47 = .string b2 := h47 47 rfl
            replace h48 : f 48 = .string bb := h48 48 rfl
            replace h49 : f 49 = .string x49 := h49 49 rfl
            replace h4 : f 4 = .string x49 := h4 4 rfl
            simp only [putAll, Act.put, List.setIfInBounds_toArray, List.set_cons_succ, List.set_cons_zero, h36, h37, h38, h39, h40, h41, h42, h43, h44, h45, h46, h47, h48, h49, h4]
            clear h36 h37 h38 h39 h40 h41 h42 h43 h44 h45 h46 h47 h48 h49 h4
            have HXX : Hid (paxTo L (i + 1) = x49) := Lib.hid (by rw [HS.out, eA.out, HX49.out, HX45.out, HTa.out])
            have B13 := Lib.hid (btE B12.out hC)
            clear hC KC HS X12 B12 HX45 HX49
            go_wp2_with fail
            go_roundw
            case rel => exact ⟨i + 1, by rw [HXX.out], by go_num, by omega, B13.out⟩
            case measure => simp [intOf]; omega
        · have eA := Lib.hid (eAn.out (by omega))
          clear eAy eAn
          go_wp2_with fail
          have E0 := EntO.new wb ⟨k2, p2, l2, m2, u2, g2, t2, us2, gr2, b2⟩
          have B0 := (Below.refl wb.heap.size wb).alloc (Nat.le_refl _) (.cells (Ent.cells ⟨k2, p2, l2, m2, u2, g2, t2, us2, gr2, b2⟩).toArray 34)
          simp only [Ent.cells] at E0 B0
          generalize wb.alloc (.cells #[.int .i64 k2, .string p2, .string l2, .int .i64 m2, .int .i64 u2, .int .i64 g2, .int .i64 t2, .string us2, .string gr2, .string b2] 34) = w10 at *
          have X10 : Hid (EntO w10 wb.heap.size ⟨k2, p2, l2, m2, u2, g2, t2, us2, gr2, b2⟩) := Lib.hid E0
          have B10 := Lib.hid (btE Bb.out B0)
          have R10 := Lib.hid (RowR.below Rb.out B0 zw)
          have zR10 := Nat.lt_of_lt_of_le zw B0.size
          clear E0 B0 Bb Rb
          have KC : Hid (∀ w', Below w10.heap.size w10 w' → w'.cell? ⟨wb.heap.size, 0, none⟩ = some (.int .i64 k2) ∧ w'.cell? ⟨wb.heap.size, 1, none⟩ = some (.string p2) ∧ w'.cell? ⟨wb.heap.size, 2, none⟩ = some (.string l2) ∧ w'.cell? ⟨wb.heap.size, 3, none⟩ = some (.int .i64 m2) ∧ w'.cell? ⟨wb.heap.size, 4, none⟩ = some (.int .i64 u2) ∧ w'.cell? ⟨wb.heap.size, 5, none⟩ = some (.int .i64 g2) ∧ w'.cell? ⟨wb.heap.size, 6, none⟩ = some (.int .i64 t2) ∧ w'.cell? ⟨wb.heap.size, 7, none⟩ = some (.string us2) ∧ w'.cell? ⟨wb.heap.size, 8, none⟩ = some (.string gr2) ∧ w'.cell? ⟨wb.heap.size, 9, none⟩ = some (.string b2)) := Lib.hid (fun w' hb => by obtain ⟨c0, c1, c2, c3, c4, c5, c6, c7, c8, c9⟩ := (X10.out.below hb X10.out.lt).at.zero; exact ⟨c0, c1, c2, c3, c4, c5, c6, c7, c8, c9⟩)
          obtain ⟨x45, hx45⟩ : ∃ x : ByteArray, x = T ++ hd := ⟨_, rfl⟩
          obtain ⟨x49, hx49⟩ : ∃ x : ByteArray, x = x45 ++ bb := ⟨_, rfl⟩
          have zx45 : x45.size ≤ 202512 := by rw [hx45, ByteArray.size_append]; omega
          have zx49 : x49.size ≤ 206023 := by rw [hx49, ByteArray.size_append]; omega
          have HA45 : Hid (∀ w, (Op.stringOp .add T hd).run Tryz.prog w = .ok (.string x45) w) := Lib.hid (fun w => by rw [hx45]; exact run_string_add_sum w _ _ (by omega))
          have HA49 : Hid (∀ w, (Op.stringOp .add x45 bb).run Tryz.prog w = .ok (.string x49) w) := Lib.hid (fun w => by rw [hx49]; exact run_string_add_sum w _ _ (by omega))
          have HX45 := Lib.hid hx45
          have HX49 := Lib.hid hx49
          clear hx45 hx49
          refine wp_region_inv (by kernel_rfl) (fun w' => Below w10.heap.size w10 w') (fun x y => Below x.heap.size x y) (fun d v _ => match d with | 36 => v = .string T | 37 => v = .agg #[.int .i64 k2, .string p2, .string l2, .int .i64 m2, .int .i64 u2, .int .i64 g2, .int .i64 t2, .string us2, .string gr2, .string b2] | 38 => v = .pointer (some ⟨wb.heap.size, 0, none⟩) | 39 => v = .int .i64 k2 | 40 => v = .string fl | 41 => v = .pointer (some ⟨wb.heap.size, 9, none⟩) | 42 => v = .string b2 | 43 => v = .int .i64 (b2.size : Int) | 44 => v = .string hd | 45 => v = .string x45 | 46 => v = .pointer (some ⟨wb.heap.size, 9, none⟩) | 47 => v = .string b2 | 48 => v = .string bb | 49 => v = .string x49 | 4 => v = .string x49 | _ => True) (by kernel_rfl) ((Below.refl _ _).drew) (fun _ _ _ _ _ _ h => h) ?hops ?hend
          case hops =>
            simp only [List.forall_mem_cons]
            refine ⟨?o36, ?o37, ?o38, ?o39, ?o40, ?o41, ?o42, ?o43, ?o44, ?o45, ?o46, ?o47, ?o48, ?o49, ?o4, fun _ h => by cases h⟩
            case o36 =>
              intro Q a w2 hC hV hI
              have e4 : a.eval (.tmp 4) = .string T := (hI 4 (by simp [Op.operands]) (by kernel_rfl)).trans rfl
              have f4 : a.tmps.getD 4 undef = .string T := e4
              have g4 : a.tmps[4]?.getD undef = .string T := by rw [← Array.getD_eq_getD_getElem?]; exact e4
              refine op_val (.string T) ?_ hC (Below.refl _ _) (by intro d hd; cases hd; rfl)
              (clear hV hI hC; go_simp <;> (first | rfl | simp))
            case o37 =>
              intro Q a w2 hC hV hI
              have e6 : a.eval (.tmp 6) = .pointer (some ⟨wb.heap.size, 0, none⟩) := (hI 6 (by simp [Op.operands]) (by kernel_rfl)).trans rfl
              have f6 : a.tmps.getD 6 undef = .pointer (some ⟨wb.heap.size, 0, none⟩) := e6
              have g6 : a.tmps[6]?.getD undef = .pointer (some ⟨wb.heap.size, 0, none⟩) := by rw [← Array.getD_eq_getD_getElem?]; exact e6
              have hK := KC.out w2 hC
              refine op_val (.agg #[.int .i64 k2, .string p2, .string l2, .int .i64 m2, .int .i64 u2, .int .i64 g2, .int .i64 t2, .string us2, .string gr2, .string b2]) ?_ hC (Below.refl _ _) (by intro d hd; cases hd; rfl)
              (clear hV hI hC; go_simp <;> (first | rfl | simp))
            case o38 =>
              intro Q a w2 hC hV hI
              have e6 : a.eval (.tmp 6) = .pointer (some ⟨wb.heap.size, 0, none⟩) := (hI 6 (by simp [Op.operands]) (by kernel_rfl)).trans rfl
              have f6 : a.tmps.getD 6 undef = .pointer (some ⟨wb.heap.size, 0, none⟩) := e6
              have g6 : a.tmps[6]?.getD undef = .pointer (some ⟨wb.heap.size, 0, none⟩) := by rw [← Array.getD_eq_getD_getElem?]; exact e6
              refine op_val (.pointer (some ⟨wb.heap.size, 0, none⟩)) ?_ hC (Below.refl _ _) (by intro d hd; cases hd; rfl)
              (clear hV hI hC; go_simp <;> (first | rfl | simp))
            case o39 =>
              intro Q a w2 hC hV hI
              have e38 : a.eval (.tmp 38) = .pointer (some ⟨wb.heap.size, 0, none⟩) := hV 38 (by simp [Op.operands]) (by kernel_rfl)
              have f38 : a.tmps.getD 38 undef = .pointer (some ⟨wb.heap.size, 0, none⟩) := e38
              have g38 : a.tmps[38]?.getD undef = .pointer (some ⟨wb.heap.size, 0, none⟩) := by rw [← Array.getD_eq_getD_getElem?]; exact e38
              have hK := KC.out w2 hC
              refine op_val (.int .i64 k2) ?_ hC (Below.refl _ _) (by intro d hd; cases hd; rfl)
              (clear hV hI hC; go_simp <;> (first | rfl | simp))
            case o40 =>
              intro Q a w2 hC hV hI
              have e39 : a.eval (.tmp 39) = .int .i64 k2 := hV 39 (by simp [Op.operands, Call.operands]) (by kernel_rfl)
              have f39 : a.tmps.getD 39 undef = .int .i64 k2 := e39
              have g39 : a.tmps[39]?.getD undef = .int .i64 k2 := by rw [← Array.getD_eq_getD_getElem?]; exact e39
              refine op_call (f := 19) (args := #[.int .i64 k2]) (R := fun v y => v = .string fl ∧ Below w2.heap.size w2 y) ?_ ((HFl.out w2).mono ?_) ?_
              · (clear hV hI hC; go_simp <;> (first | rfl | simp))
              · rintro e y ⟨rfl, hb⟩; exact ⟨_, rfl, rfl, hb⟩
              · rintro v y ⟨rfl, hb⟩; exact ⟨hC.trans (hb.mono hC.size), hb, by intro d hd; cases hd; rfl⟩
            case o41 =>
              intro Q a w2 hC hV hI
              have e6 : a.eval (.tmp 6) = .pointer (some ⟨wb.heap.size, 0, none⟩) := (hI 6 (by simp [Op.operands]) (by kernel_rfl)).trans rfl
              have f6 : a.tmps.getD 6 undef = .pointer (some ⟨wb.heap.size, 0, none⟩) := e6
              have g6 : a.tmps[6]?.getD undef = .pointer (some ⟨wb.heap.size, 0, none⟩) := by rw [← Array.getD_eq_getD_getElem?]; exact e6
              refine op_val (.pointer (some ⟨wb.heap.size, 9, none⟩)) ?_ hC (Below.refl _ _) (by intro d hd; cases hd; rfl)
              (clear hV hI hC; go_simp <;> (first | rfl | simp))
            case o42 =>
              intro Q a w2 hC hV hI
              have e41 : a.eval (.tmp 41) = .pointer (some ⟨wb.heap.size, 9, none⟩) := hV 41 (by simp [Op.operands]) (by kernel_rfl)
              have f41 : a.tmps.getD 41 undef = .pointer (some ⟨wb.heap.size, 9, none⟩) := e41
              have g41 : a.tmps[41]?.getD undef = .pointer (some ⟨wb.heap.size, 9, none⟩) := by rw [← Array.getD_eq_getD_getElem?]; exact e41
              have hK := KC.out w2 hC
              refine op_val (.string b2) ?_ hC (Below.refl _ _) (by intro d hd; cases hd; rfl)
              (clear hV hI hC; go_simp <;> (first | rfl | simp))
            case o43 =>
              intro Q a w2 hC hV hI
              have e42 : a.eval (.tmp 42) = .string b2 := hV 42 (by simp [Op.operands, Call.operands]) (by kernel_rfl)
              have f42 : a.tmps.getD 42 undef = .string b2 := e42
              have g42 : a.tmps[42]?.getD undef = .string b2 := by rw [← Array.getD_eq_getD_getElem?]; exact e42
              refine op_val (.int .i64 (b2.size : Int)) ?_ hC (Below.refl _ _) (by intro d hd; cases hd; rfl)
              (clear hV hI hC; go_simp <;> (first | rfl | simp))
            case o44 =>
              intro Q a w2 hC hV hI
              have e37 : a.eval (.tmp 37) = .agg #[.int .i64 k2, .string p2, .string l2, .int .i64 m2, .int .i64 u2, .int .i64 g2, .int .i64 t2, .string us2, .string gr2, .string b2] := hV 37 (by simp [Op.operands, Call.operands]) (by kernel_rfl)
              have f37 : a.tmps.getD 37 undef = .agg #[.int .i64 k2, .string p2, .string l2, .int .i64 m2, .int .i64 u2, .int .i64 g2, .int .i64 t2, .string us2, .string gr2, .string b2] := e37
              have g37 : a.tmps[37]?.getD undef = .agg #[.int .i64 k2, .string p2, .string l2, .int .i64 m2, .int .i64 u2, .int .i64 g2, .int .i64 t2, .string us2, .string gr2, .string b2] := by rw [← Array.getD_eq_getD_getElem?]; exact e37
              have e40 : a.eval (.tmp 40) = .string fl := hV 40 (by simp [Op.operands, Call.operands]) (by kernel_rfl)
              have f40 : a.tmps.getD 40 undef = .string fl := e40
              have g40 : a.tmps[40]?.getD undef = .string fl := by rw [← Array.getD_eq_getD_getElem?]; exact e40
              have e43 : a.eval (.tmp 43) = .int .i64 (b2.size : Int) := hV 43 (by simp [Op.operands, Call.operands]) (by kernel_rfl)
              have f43 : a.tmps.getD 43 undef = .int .i64 (b2.size : Int) := e43
              have g43 : a.tmps[43]?.getD undef = .int .i64 (b2.size : Int) := by rw [← Array.getD_eq_getD_getElem?]; exact e43
              refine op_call (f := 31) (args := #[.agg #[.int .i64 k2, .string p2, .string l2, .int .i64 m2, .int .i64 u2, .int .i64 g2, .int .i64 t2, .string us2, .string gr2, .string b2], .string fl, .int .i64 (b2.size : Int)]) (R := fun v y => v = .string hd ∧ Below w2.heap.size w2 y) ?_ ((HH.out w2).mono ?_) ?_
              · (clear hV hI hC; go_simp <;> (first | rfl | simp))
              · rintro e y ⟨rfl, hb⟩; exact ⟨_, rfl, rfl, hb⟩
              · rintro v y ⟨rfl, hb⟩; exact ⟨hC.trans (hb.mono hC.size), hb, by intro d hd; cases hd; rfl⟩
            case o45 =>
              intro Q a w2 hC hV hI
              have e36 : a.eval (.tmp 36) = .string T := hV 36 (by simp [Op.operands]) (by kernel_rfl)
              have f36 : a.tmps.getD 36 undef = .string T := e36
              have g36 : a.tmps[36]?.getD undef = .string T := by rw [← Array.getD_eq_getD_getElem?]; exact e36
              have e44 : a.eval (.tmp 44) = .string hd := hV 44 (by simp [Op.operands]) (by kernel_rfl)
              have f44 : a.tmps.getD 44 undef = .string hd := e44
              have g44 : a.tmps[44]?.getD undef = .string hd := by rw [← Array.getD_eq_getD_getElem?]; exact e44
              refine op_val (.string x45) ?_ hC (Below.refl _ _) (by intro d hd; cases hd; rfl)
              have q := HA45.out w2
              (clear hV hI hC; go_simp <;> (first | rfl | simp))
            case o46 =>
              intro Q a w2 hC hV hI
              have e6 : a.eval (.tmp 6) = .pointer (some ⟨wb.heap.size, 0, none⟩) := (hI 6 (by simp [Op.operands]) (by kernel_rfl)).trans rfl
              have f6 : a.tmps.getD 6 undef = .pointer (some ⟨wb.heap.size, 0, none⟩) := e6
              have g6 : a.tmps[6]?.getD undef = .pointer (some ⟨wb.heap.size, 0, none⟩) := by rw [← Array.getD_eq_getD_getElem?]; exact e6
              refine op_val (.pointer (some ⟨wb.heap.size, 9, none⟩)) ?_ hC (Below.refl _ _) (by intro d hd; cases hd; rfl)
              (clear hV hI hC; go_simp <;> (first | rfl | simp))
            case o47 =>
              intro Q a w2 hC hV hI
              have e46 : a.eval (.tmp 46) = .pointer (some ⟨wb.heap.size, 9, none⟩) := hV 46 (by simp [Op.operands]) (by kernel_rfl)
              have f46 : a.tmps.getD 46 undef = .pointer (some ⟨wb.heap.size, 9, none⟩) := e46
              have g46 : a.tmps[46]?.getD undef = .pointer (some ⟨wb.heap.size, 9, none⟩) := by rw [← Array.getD_eq_getD_getElem?]; exact e46
              have hK := KC.out w2 hC
              refine op_val (.string b2) ?_ hC (Below.refl _ _) (by intro d hd; cases hd; rfl)
              (clear hV hI hC; go_simp <;> (first | rfl | simp))
            case o48 =>
              intro Q a w2 hC hV hI
              have e47 : a.eval (.tmp 47) = .string b2 := hV 47 (by simp [Op.operands, Call.operands]) (by kernel_rfl)
              have f47 : a.tmps.getD 47 undef = .string b2 := e47
              have g47 : a.tmps[47]?.getD undef = .string b2 := by rw [← Array.getD_eq_getD_getElem?]; exact e47
              refine op_call (f := 20) (args := #[.string b2]) (R := fun v y => v = .string bb ∧ Below w2.heap.size w2 y) ?_ ((HBd.out w2).mono ?_) ?_
              · (clear hV hI hC; go_simp <;> (first | rfl | simp))
              · rintro e y ⟨rfl, hb⟩; exact ⟨_, rfl, rfl, hb⟩
              · rintro v y ⟨rfl, hb⟩; exact ⟨hC.trans (hb.mono hC.size), hb, by intro d hd; cases hd; rfl⟩
            case o49 =>
              intro Q a w2 hC hV hI
              have e45 : a.eval (.tmp 45) = .string x45 := hV 45 (by simp [Op.operands]) (by kernel_rfl)
              have f45 : a.tmps.getD 45 undef = .string x45 := e45
              have g45 : a.tmps[45]?.getD undef = .string x45 := by rw [← Array.getD_eq_getD_getElem?]; exact e45
              have e48 : a.eval (.tmp 48) = .string bb := hV 48 (by simp [Op.operands]) (by kernel_rfl)
              have f48 : a.tmps.getD 48 undef = .string bb := e48
              have g48 : a.tmps[48]?.getD undef = .string bb := by rw [← Array.getD_eq_getD_getElem?]; exact e48
              refine op_val (.string x49) ?_ hC (Below.refl _ _) (by intro d hd; cases hd; rfl)
              have q := HA49.out w2
              (clear hV hI hC; go_simp <;> (first | rfl | simp))
            case o4 =>
              intro Q a w2 hC hV hI
              have e49 : a.eval (.tmp 49) = .string x49 := hV 49 (by simp [Op.operands]) (by kernel_rfl)
              have f49 : a.tmps.getD 49 undef = .string x49 := e49
              have g49 : a.tmps[49]?.getD undef = .string x49 := by rw [← Array.getD_eq_getD_getElem?]; exact e49
              refine op_val (.string x49) ?_ hC (Below.refl _ _) (by intro d hd; cases hd; rfl)
              (clear hV hI hC; go_simp <;> (first | rfl | simp))
          case hend =>
            intro f w13 hC hall
            clear HA45 HA49
            simp only [List.forall_mem_cons] at hall
            obtain ⟨h36, h37, h38, h39, h40, h41, h42, h43, h44, h45, h46, h47, h48, h49, h4, _⟩ := hall
            replace h36 : f 36 = .string T := h36 36 rfl
            replace h37 : f 37 = .agg #[.int .i64 k2, .string p2, .string l2, .int .i64 m2, .int .i64 u2, .int .i64 g2, .int .i64 t2, .string us2, .string gr2, .string b2] := h37 37 rfl
            replace h38 : f 38 = .pointer (some ⟨wb.heap.size, 0, none⟩) := h38 38 rfl
            replace h39 : f 39 = .int .i64 k2 := h39 39 rfl
            replace h40 : f 40 = .string fl := h40 40 rfl
            replace h41 : f 41 = .pointer (some ⟨wb.heap.size, 9, none⟩) := h41 41 rfl
            replace h42 : f 42 = .string b2 := h42 42 rfl
            replace h43 : f 43 = .int .i64 (b2.size : Int) := h43 43 rfl
            replace h44 : f 44 = .string hd := h44 44 rfl
            replace h45 : f 45 = .string x45 := h45 45 rfl
            replace h46 : f 46 = .pointer (some ⟨wb.heap.size, 9, none⟩) := h46 46 rfl
            replace h47 : f 47 = .string b2 := h47 47 rfl
            replace h48 : f 48 = .string bb := h48 48 rfl
            replace h49 : f 49 = .string x49 := h49 49 rfl
            replace h4 : f 4 = .string x49 := h4 4 rfl
            simp only [putAll, Act.put, List.setIfInBounds_toArray, List.set_cons_succ, List.set_cons_zero, h36, h37, h38, h39, h40, h41, h42, h43, h44, h45, h46, h47, h48, h49, h4]
            clear h36 h37 h38 h39 h40 h41 h42 h43 h44 h45 h46 h47 h48 h49 h4
            have HXX : Hid (paxTo L (i + 1) = x49) := Lib.hid (by rw [HS.out, eA.out, HX49.out, HX45.out])
            have B13 := Lib.hid (btE B10.out hC)
            clear hC KC HS X10 B10 HX45 HX49
            go_wp2_with fail
            go_roundw
            case rel => exact ⟨i + 1, by rw [HXX.out], by go_num, by omega, B13.out⟩
            case measure => simp [intOf]; omega
      · obtain rfl : i = n := by omega
        have hlt2 : ¬ (i : Int) < (i : Int) := by omega
        have HE := HY
        have y1 := HZ.out i (Nat.le_refl _)
        generalize paxTo L i = T at HE y1
        have yT : T.size ≤ 199400 := by omega
        go_wp2_with fail
        refine (HN.out _).mono ?_
        rintro e w2 ⟨rfl, hb⟩
        go_wp2
        go_ret2
        exact ⟨ret_sb2 HE.out rfl rfl, btE B.out hb⟩
end Go.Proofs.YtgpgkgahbkmdiaaGreatDoor

/- Contract of impl.copyEntry. -/
namespace Go.Proofs.YtgpgkgahbkmdiaaGreatDoor
open Go.ChangeShapes Go.WideShapes Go.ChangeAt Go.RowKit Go.Deep

theorem two_newO {w w1 : World} {e z : Ent} (h : Below ((w.alloc (.cells e.cells.toArray 34)).alloc (.cells z.cells.toArray 34)).heap.size ((w.alloc (.cells e.cells.toArray 34)).alloc (.cells z.cells.toArray 34)) w1) :
    EntO w1 w.heap.size e ∧ EntO w1 (w.heap.size + 1) z ∧ Below w.heap.size w w1 := by
  have hs1 : (w.alloc (.cells e.cells.toArray 34)).heap.size = w.heap.size + 1 := by simp
  have hs2 : ((w.alloc (.cells e.cells.toArray 34)).alloc (.cells z.cells.toArray 34)).heap.size = w.heap.size + 2 := by simp
  have a1 := EntO.new w e
  have a2 : EntO ((w.alloc (.cells e.cells.toArray 34)).alloc (.cells z.cells.toArray 34)) w.heap.size e := a1.below ((Below.refl _ _).alloc (Nat.le_refl _) _) (by omega)
  have b2 := EntO.new (w.alloc (.cells e.cells.toArray 34)) z
  rw [hs1] at b2
  exact ⟨a2.below h (by omega), b2.below h (by omega), (((Below.refl _ w).alloc (Nat.le_refl _) _).alloc (by omega) _).trans (h.mono (by omega))⟩
set_option maxHeartbeats 3200000 in
set_option maxRecDepth 8000 in
theorem copyEntry_impl (k : Int) (p l : ByteArray) (m u g t : Int) (us gr b : ByteArray) (w : World) (hp : p.size ≤ 4194304) (hl : l.size ≤ 4194304) (hus : us.size ≤ 4194304) (hgr : gr.size ≤ 4194304) (hbz : b.size ≤ 4194304) :
    Calls Tryz.prog 59 #[.agg #[.int .i64 k, .string p, .string l, .int .i64 m, .int .i64 u, .int .i64 g, .int .i64 t, .string us, .string gr, .string b]] w fun e w' => e = .returned (.agg #[.int .i64 k, .string p, .string l, .int .i64 m, .int .i64 u, .int .i64 g, .int .i64 t, .string us, .string gr, .string b]) ∧ Below w.heap.size w w' := by
  have K1 := Lib.hid (fun w => clone_any p w (by omega))
  have K2 := Lib.hid (fun w => clone_any l w (by omega))
  have K7 := Lib.hid (fun w => clone_any us w (by omega))
  have K8 := Lib.hid (fun w => clone_any gr w (by omega))
  have K9 := Lib.hid (fun w => clone_any b w (by omega))
  go_enter Tryz.func59, Tryz.ntmps59
  go_wp2_with fail
  refine (K1.out _).mono ?_
  rintro e w1 ⟨rfl, hb⟩
  obtain ⟨e1, e2, e3⟩ := two_newO (e := ⟨k, p, l, m, u, g, t, us, gr, b⟩) (z := ⟨0, ⟨#[]⟩, ⟨#[]⟩, 0, 0, 0, 0, ⟨#[]⟩, ⟨#[]⟩, ⟨#[]⟩⟩) hb
  have EO := Lib.hid e1
  have RO := Lib.hid e2
  have B := Lib.hid e3
  clear hb e1 e2 e3
  obtain ⟨c0, c1, c2, c3, c4, c5, c6, c7, c8, c9⟩ := EO.out.at.zero
  have f1 := EO.out.fz 1
  go_wp2_with fail
  refine (K2.out _).mono ?_
  rintro e w2 ⟨rfl, hb⟩
  have EO2 := Lib.hid ((EO.out.set (e' := ⟨k, p, l, m, u, g, t, us, gr, b⟩) 1 (.string p) rfl).below hb (by simpa using EO.out.lt))
  have RO2 := Lib.hid ((EntO.other (b := w.heap.size) (i := 1) (v := .string p) RO.out (by omega)).below hb (by simpa using RO.out.lt))
  have B2 := Lib.hid (btE (B.out.setCell (p := ⟨w.heap.size, 1, none⟩) (Nat.le_refl _) (.string p)) hb)
  clear hb EO RO B c0 c1 c2 c3 c4 c5 c6 c7 c8 c9 f1
  have EO := EO2
  have RO := RO2
  have B := B2
  clear EO2 RO2 B2
  obtain ⟨c0, c1, c2, c3, c4, c5, c6, c7, c8, c9⟩ := EO.out.at.zero
  have f2 := EO.out.fz 2
  go_wp2_with fail
  refine (K7.out _).mono ?_
  rintro e w7 ⟨rfl, hb⟩
  have EO7 := Lib.hid ((EO.out.set (e' := ⟨k, p, l, m, u, g, t, us, gr, b⟩) 2 (.string l) rfl).below hb (by simpa using EO.out.lt))
  have RO7 := Lib.hid ((EntO.other (b := w.heap.size) (i := 2) (v := .string l) RO.out (by omega)).below hb (by simpa using RO.out.lt))
  have B7 := Lib.hid (btE (B.out.setCell (p := ⟨w.heap.size, 2, none⟩) (Nat.le_refl _) (.string l)) hb)
  clear hb EO RO B c0 c1 c2 c3 c4 c5 c6 c7 c8 c9 f2
  have EO := EO7
  have RO := RO7
  have B := B7
  clear EO7 RO7 B7
  obtain ⟨c0, c1, c2, c3, c4, c5, c6, c7, c8, c9⟩ := EO.out.at.zero
  have f7 := EO.out.fz 7
  go_wp2_with fail
  refine (K8.out _).mono ?_
  rintro e w8 ⟨rfl, hb⟩
  have EO8 := Lib.hid ((EO.out.set (e' := ⟨k, p, l, m, u, g, t, us, gr, b⟩) 7 (.string us) rfl).below hb (by simpa using EO.out.lt))
  have RO8 := Lib.hid ((EntO.other (b := w.heap.size) (i := 7) (v := .string us) RO.out (by omega)).below hb (by simpa using RO.out.lt))
  have B8 := Lib.hid (btE (B.out.setCell (p := ⟨w.heap.size, 7, none⟩) (Nat.le_refl _) (.string us)) hb)
  clear hb EO RO B c0 c1 c2 c3 c4 c5 c6 c7 c8 c9 f7
  have EO := EO8
  have RO := RO8
  have B := B8
  clear EO8 RO8 B8
  obtain ⟨c0, c1, c2, c3, c4, c5, c6, c7, c8, c9⟩ := EO.out.at.zero
  have f8 := EO.out.fz 8
  go_wp2_with fail
  refine (K9.out _).mono ?_
  rintro e w9 ⟨rfl, hb⟩
  have EO9 := Lib.hid ((EO.out.set (e' := ⟨k, p, l, m, u, g, t, us, gr, b⟩) 8 (.string gr) rfl).below hb (by simpa using EO.out.lt))
  have RO9 := Lib.hid ((EntO.other (b := w.heap.size) (i := 8) (v := .string gr) RO.out (by omega)).below hb (by simpa using RO.out.lt))
  have B9 := Lib.hid (btE (B.out.setCell (p := ⟨w.heap.size, 8, none⟩) (Nat.le_refl _) (.string gr)) hb)
  clear hb EO RO B c0 c1 c2 c3 c4 c5 c6 c7 c8 c9 f8
  have EO := EO9
  have RO := RO9
  have B := B9
  clear EO9 RO9 B9
  obtain ⟨c0, c1, c2, c3, c4, c5, c6, c7, c8, c9⟩ := EO.out.at.zero
  have f9 := EO.out.fz 9
  have EO2 := Lib.hid (EO.out.set (e' := ⟨k, p, l, m, u, g, t, us, gr, b⟩) 9 (.string b) rfl)
  have RO2 := Lib.hid (EntO.other (b := w.heap.size) (i := 9) (v := .string b) RO.out (by omega))
  have B2 := Lib.hid (B.out.setCell (p := ⟨w.heap.size, 9, none⟩) (Nat.le_refl _) (.string b))
  obtain ⟨x0, x1, x2, x3, x4, x5, x6, x7, x8, x9⟩ := EO2.out.at.zero
  obtain ⟨d0, d1, d2, d3, d4, d5, d6, d7, d8, d9⟩ := RO2.out.at.zero
  have g0 := RO2.out.fz 0
  have g1 := RO2.out.fz 1
  have g2 := RO2.out.fz 2
  have g3 := RO2.out.fz 3
  have g4 := RO2.out.fz 4
  have g5 := RO2.out.fz 5
  have g6 := RO2.out.fz 6
  have g7 := RO2.out.fz 7
  have g8 := RO2.out.fz 8
  have g9 := RO2.out.fz 9
  go_wp2_with fail
  have RP := RO2.out.put ⟨k, p, l, m, u, g, t, us, gr, b⟩
  have BP := below_putE (g := w.heap.size + 1) B2.out (by omega) ⟨k, p, l, m, u, g, t, us, gr, b⟩
  simp only [putE] at RP BP
  exact bodyPost_ret (res_ent1 rfl _ rfl RP) rfl ⟨rfl, BP⟩
end Go.Proofs.YtgpgkgahbkmdiaaGreatDoor

/- A statement that draws its order but for its last operations, which come behind all others in their own order. Nothing of the program is said here. -/
namespace Go.Proofs.YtgpgkgahbkmdiaaGreatDoor
open Go

section
variable {P : Program} {Q : Exit → Act → World → Prop}

/-- Each operation ahead of i has one behind it, up to i, that waits for it. -/
def covB (md : Region.Mode) (ops : Array Oper) (i : Nat) : Bool :=
  (List.range i).all fun k => (List.range (i + 1)).any fun k' => decide (k < k') && (match ops[k']? with | some o => o.after.any (fun e => Region.binds md e && e.on == k) | none => false)
def tailB (md : Region.Mode) (l t : List Oper) : Bool :=
  t.all (fun o => o.guard.isNone) && (List.range t.length).all (fun j => covB md (l ++ t).toArray (l.length + j)) && (List.range t.length).all (fun j => match (l ++ t).toArray[l.length + j]? with | some o => o.after.all (fun e => !Region.binds md e || decide (e.on < l.length + j)) | none => true)
theorem cov_all {md : Region.Mode} {ops : Array Oper} {i : Nat} {o : Oper} {listed : Array Bool} (hc : covB md ops i = true) (ho : ops[i]? = some o)
    (clo : ∀ j p, ops[j]? = some p → listed.getD j false = true → ∀ e ∈ p.after, Region.binds md e = true → listed.getD e.on false = true)
    (hall : ∀ e ∈ o.after, Region.binds md e = true → listed.getD e.on false = true) : ∀ k, k < i → listed.getD k false = true := by
  have key : ∀ n k, k < i → i - k ≤ n → listed.getD k false = true := by
    intro n
    induction n with
    | zero => intro k hk hn; omega
    | succ n ih =>
      intro k hk hn
      have h1 := List.all_eq_true.1 hc k (List.mem_range.2 hk)
      obtain ⟨k', hk', h2⟩ := List.any_eq_true.1 h1
      rw [List.mem_range] at hk'
      simp only [Bool.and_eq_true, decide_eq_true_eq] at h2
      cases hp : ops[k']? with
      | none => rw [hp] at h2; simp at h2
      | some p =>
        rw [hp] at h2
        simp only [Array.any_eq_true', Bool.and_eq_true, beq_iff_eq] at h2
        obtain ⟨hlt, e, he, hb, rfl⟩ := h2
        by_cases q : k' = i
        · subst q
          rw [ho] at hp
          obtain rfl := Option.some.inj hp
          exact hall e he hb
        · exact clo k' p hp (ih k' (by omega) (by omega)) e he hb
  exact fun k hk => key (i - k) k hk (Nat.le_refl _)
theorem wp_region_tail {id : Nat} {a0 : Act} {w0 : World} (l t : List Oper) (hm : P.follows .mixedOrders = true) (C : World → Prop) (St : World → World → Prop) (V : Nat → Value → World → Prop) (hB : regB .any l.toArray a0.tmps.size = true) (hTl : tailB .any l t = true)
    (hC : C { w0 with drawn := w0.drawn + 1 }) (hV : ∀ d v w w', C w → St w w' → V d v w → V d v w') (hne : l ≠ []) (hops : ∀ o ∈ l, OpOk P l.toArray C St V a0 o)
    (hend : ∀ (f : Nat → Value) (w : World), C w → (∀ o ∈ l, ∀ d, o.dst = some d → V d (f d) w) → wpList P (l ++ t).toArray Q t (putAll f l a0) w) : (Code.region id (l ++ t).toArray true).wp P Q a0 w0 := by
  simp only [tailB, Bool.and_eq_true] at hTl
  obtain ⟨⟨hg, hcov⟩, hlt⟩ := hTl
  have hsz : (l ++ t).toArray.size = l.length + t.length := by simp
  have hleft : ∀ i o, i < l.length → ((l ++ t).toArray[i]? = some o ↔ l.toArray[i]? = some o) := by
    intro i o hi
    simp [List.getElem?_append_left hi]
  refine wp_region_any hm (wpAny_inv (fun listed a w => listed.size = (l ++ t).toArray.size ∧ (∀ j p, (l ++ t).toArray[j]? = some p → listed.getD j false = true → ∀ e ∈ p.after, Region.binds .any e = true → listed.getD e.on false = true) ∧
    ((∃ k, k ≤ t.length ∧ (∀ i, i < l.length + k → listed.getD i false = true) ∧ (∀ i, l.length + k ≤ i → listed.getD i false = false) ∧ wpList P (l ++ t).toArray Q (t.drop k) a w) ∨
     ((∃ i, i < l.length ∧ listed.getD i false = false) ∧ (∀ i, l.length ≤ i → listed.getD i false = false) ∧ C w ∧ a.defers = a0.defers ∧ a.tmps.size = a0.tmps.size ∧
      (∀ s, (∀ i o, l.toArray[i]? = some o → listed.getD i false = true → o.dst ≠ some s) → a.tmps.getD s undef = a0.tmps.getD s undef) ∧
      (∀ i o d, l.toArray[i]? = some o → listed.getD i false = true → o.dst = some d → V d (a.tmps.getD d undef) w)))) ?_ ?_ _ _ _ _ ?_ ?_)
  · rintro listed a w ⟨hs, clo, hI⟩ i hi
    obtain ⟨hun, o, ho, hall⟩ := mem_ready.1 hi
    have hil : i < listed.size := by rw [hs]; exact (Array.getElem?_eq_some_iff.1 ho).1
    have hun' : listed.getD i false = false := by simp only [Array.getD, hil, dif_pos] at hun ⊢; exact hun
    have hup : ∀ k, listed.getD k false = true → (listed.setIfInBounds i true).getD k false = true := fun k hk => by
      by_cases q : k = i
      · subst q; exact set_getD_self hil
      · rw [set_getD_ne q]; exact hk
    have clo' : ∀ j p, (l ++ t).toArray[j]? = some p → (listed.setIfInBounds i true).getD j false = true → ∀ e ∈ p.after, Region.binds .any e = true → (listed.setIfInBounds i true).getD e.on false = true := by
      intro j p hp hl e he hb
      by_cases hj : j = i
      · subst hj
        rw [ho] at hp
        obtain rfl := Option.some.inj hp
        exact hup _ (hall e he hb)
      · rw [set_getD_ne hj] at hl
        exact hup _ (clo j p hp hl e he hb)
    rcases hI with ⟨k, hk, h1, h2, hw⟩ | ⟨⟨i0, hi0, hu0⟩, hnt, hCw, hd, hts, hold, hnew⟩
    · have hik : l.length + k ≤ i := by
        by_cases q : l.length + k ≤ i
        · exact q
        · rw [h1 i (by omega)] at hun'; cases hun'
      have hit : i < l.length + t.length := by rw [← hsz]; exact (Array.getElem?_eq_some_iff.1 ho).1
      have hcv : covB .any (l ++ t).toArray i = true := by
        have := List.all_eq_true.1 hcov (i - l.length) (List.mem_range.2 (by omega))
        rwa [show l.length + (i - l.length) = i from by omega] at this
      have hbef := cov_all hcv ho clo hall
      obtain rfl : i = l.length + k := by
        by_cases q : i = l.length + k
        · exact q
        · have := hbef (l.length + k) (by omega)
          rw [h2 _ (Nat.le_refl _)] at this
          cases this
      have hkt : k < t.length := by omega
      have hot : t[k]? = some o := by
        have : (l ++ t)[l.length + k]? = some o := by simpa using ho
        rw [List.getElem?_append_right (by omega)] at this
        simpa using this
      have hgd : o.guard = none := by
        have := List.all_eq_true.1 hg o (List.mem_of_getElem? hot)
        simpa using this
      have hwant : Region.wanted o (yielded (l ++ t).toArray a.tmps) = true := by simp [Region.wanted, hgd]
      have hdrop : t.drop k = o :: t.drop (k + 1) := by
        rw [List.drop_eq_getElem_cons hkt]
        congr 1
        have := List.getElem?_eq_getElem hkt
        rw [hot] at this
        exact (Option.some.inj this).symm
      rw [hdrop, wpList, if_pos hwant] at hw
      unfold wpOp
      simp only [ho, hwant, if_true]
      refine hw.imp (Oper.wp_mono (fun a' w' h' => ?_)) (fun x => x)
      refine ⟨by simpa using hs, clo', .inl ⟨k + 1, by omega, fun j hj => ?_, fun j hj => ?_, h'⟩⟩
      · by_cases q : j = l.length + k
        · subst q; exact set_getD_self hil
        · rw [set_getD_ne q]; exact h1 j (by omega)
      · rw [set_getD_ne (by omega)]; exact h2 j (by omega)
    · have him : i < l.length := by
        by_cases q : i < l.length
        · exact q
        · have hit : i < l.length + t.length := by rw [← hsz]; exact (Array.getElem?_eq_some_iff.1 ho).1
          have hcv : covB .any (l ++ t).toArray i = true := by
            have := List.all_eq_true.1 hcov (i - l.length) (List.mem_range.2 (by omega))
            rwa [show l.length + (i - l.length) = i from by omega] at this
          have := cov_all hcv ho clo hall i0 (by omega)
          rw [hu0] at this
          cases this
      have hol := (hleft i o him).1 ho
      have hat := regB_at hB hol
      have hmem : o ∈ l := by
        have := Array.mem_of_getElem? hol
        simpa using this
      have hwant : Region.wanted o (yielded (l ++ t).toArray a.tmps) = true := by simp [Region.wanted, hat.1]
      have hrun := hops o hmem Q a w hCw (fun s hs' hin => ?_) (fun s hs' hin => ?_)
      · unfold wpOp
        simp only [ho, hwant, if_true]
        refine .inl (Oper.wp_mono (fun a' w' h' => ?_) hrun)
        obtain ⟨v, rfl, hC', hSt, hv⟩ := h'
        have hd' : (a.put o.dst v).defers = a0.defers := by cases hdst : o.dst <;> simp [Act.put, hd]
        have hts' : (a.put o.dst v).tmps.size = a0.tmps.size := by cases hdst : o.dst <;> simp [Act.put, hts]
        have hold' : ∀ s, (∀ j p, l.toArray[j]? = some p → (listed.setIfInBounds i true).getD j false = true → p.dst ≠ some s) → (a.put o.dst v).tmps.getD s undef = a0.tmps.getD s undef := by
          intro s hs'
          have hne' : o.dst ≠ some s := hs' i o hol (set_getD_self hil)
          have h1 := hold s (fun j p hp hl => hs' j p hp (hup j hl))
          rw [← h1]
          cases hdst : o.dst with
          | none => rfl
          | some d =>
            have hdt : d ≠ s := fun e => hne' (by rw [hdst, e])
            exact getD_put_ne hdt
        have hnew' : ∀ j p d, l.toArray[j]? = some p → (listed.setIfInBounds i true).getD j false = true → p.dst = some d → V d ((a.put o.dst v).tmps.getD d undef) w' := by
          intro j p d hp hl hd2
          by_cases hj : j = i
          · subst hj
            rw [hol] at hp
            obtain rfl := Option.some.inj hp
            have hdl := hat.2.1 d hd2
            have : (a.put o.dst v).tmps.getD d undef = v := by
              rw [hd2]; simp [Act.put, Array.getD, hts, hdl]
            rw [this]
            exact hv d hd2
          · have hl' : listed.getD j false = true := by rw [set_getD_ne hj] at hl; exact hl
            have hne' : o.dst ≠ some d := ((hat.2.2.2 j p d hp hd2).1).resolve_left (Ne.symm hj)
            have hold2 := hnew j p d hp hl' hd2
            have : (a.put o.dst v).tmps.getD d undef = a.tmps.getD d undef := by
              cases hdst : o.dst with
              | none => rfl
              | some d' =>
                have hdt : d' ≠ d := fun e => hne' (by rw [hdst, e])
                exact getD_put_ne hdt
            rw [this]
            exact hV d _ _ _ hCw hSt hold2
        have hnt' : ∀ j, l.length ≤ j → (listed.setIfInBounds i true).getD j false = false := fun j hj => by rw [set_getD_ne (by omega)]; exact hnt j hj
        refine ⟨by simpa using hs, clo', ?_⟩
        by_cases hfull : ∀ j, j < l.length → (listed.setIfInBounds i true).getD j false = true
        · refine .inl ⟨0, Nat.zero_le _, fun j hj => hfull j (by omega), fun j hj => hnt' j (by omega), ?_⟩
          have hput := putAll_facts (fun d => (a.put o.dst v).tmps.getD d undef) l a0
          have ha : a.put o.dst v = putAll (fun d => (a.put o.dst v).tmps.getD d undef) l a0 := by
            refine act_ext (hd'.trans hput.1.symm) (hts'.trans hput.2.1.symm) (fun s hs' => ?_)
            rw [hput.2.1] at hs'
            rw [hput.2.2 s hs']
            by_cases h : l.any (fun o => o.dst == some s) = true
            · rw [if_pos h]
            · rw [if_neg h]
              refine hold' s (fun j p hp _ hd2 => h ?_)
              rw [List.any_eq_true]
              exact ⟨p, by have := Array.mem_of_getElem? hp; simpa using this, by rw [hd2]; simp⟩
          rw [List.drop_zero, ha]
          refine hend _ w' hC' (fun p hp d hd2 => ?_)
          obtain ⟨j, hj⟩ := List.mem_iff_getElem?.1 hp
          have hj' : l.toArray[j]? = some p := by simpa using hj
          exact hnew' j p d hj' (hfull j (List.getElem?_eq_some_iff.1 hj).1) hd2
        · refine .inr ⟨?_, hnt', hC', hd', hts', hold', hnew'⟩
          obtain ⟨j, hj⟩ := Classical.not_forall.1 hfull
          obtain ⟨hj1, hj2⟩ := Classical.not_imp.1 hj
          exact ⟨j, hj1, by simpa using hj2⟩
      · obtain ⟨j, p, hp, hd2⟩ := oldB_f hin
        obtain ⟨e, he, hb, rfl⟩ := (hat.2.2.2 j p s hp hd2).2 (by simpa using hs') hin
        exact hnew e.on p s hp (hall e he hb) hd2
      · refine hold s (fun j p hp hl hd2 => ?_)
        obtain ⟨d, hod, e, he, hb, hq⟩ := oldB_t hin hp hd2
        have hjl : j < l.length := by have := (Array.getElem?_eq_some_iff.1 hp).1; simpa using this
        have hel := clo j p ((hleft j p hjl).2 hp) hl e he hb
        cases hqq : l.toArray[e.on]? with
        | none => rw [hqq] at hq; cases hq
        | some q =>
          rw [hqq] at hq
          rcases (hat.2.2.2 e.on q d hqq hq).1 with rfl | h
          · rw [hun'] at hel; cases hel
          · exact h hod
  · rintro listed a w ⟨hs, clo, hI⟩ hr
    have hal : ∀ i, i < (l ++ t).toArray.size → listed.getD i false = true := by
      intro i
      induction i using Nat.strongRecOn with
      | ind i ih =>
        intro hi
        cases h : listed.getD i false with
        | true => rfl
        | false =>
          have ho : (l ++ t).toArray[i]? = some (l ++ t).toArray[i] := Array.getElem?_eq_getElem hi
          have hmem : i ∈ Region.ready .any (l ++ t).toArray listed := by
            have hil : i < listed.size := by rw [hs]; exact hi
            refine mem_ready.2 ⟨by simp only [Array.getD, hil, dif_pos] at h ⊢; exact h, _, ho, fun e he hb => ?_⟩
            have hlt2 : e.on < i := by
              by_cases q : i < l.length
              · exact (regB_at hB ((hleft i _ q).1 ho)).2.2.1 e he hb
              · have h3 := List.all_eq_true.1 hlt (i - l.length) (List.mem_range.2 (by omega))
                rw [show l.length + (i - l.length) = i from by omega, ho] at h3
                have := Array.all_eq_true'.1 h3 e he
                simpa [hb] using this
            exact ih e.on hlt2 (by omega)
          rw [hr] at hmem
          cases hmem
    rcases hI with ⟨k, hk, h1, h2, hw⟩ | ⟨⟨i0, hi0, hu0⟩, _⟩
    · obtain rfl : k = t.length := by
        by_cases q : k = t.length
        · exact q
        · have := hal (l.length + k) (by omega)
          rw [h2 _ (Nat.le_refl _)] at this
          cases this
      rw [List.drop_length] at hw
      exact hw
    · have := hal i0 (by omega)
      rw [hu0] at this
      cases this
  · unfold openOps
    exact Nat.le_trans (List.length_filter_le _ _) (by simp)
  · have hf : ∀ i, (Array.replicate (l ++ t).toArray.size false).getD i false = false := fun i => by
      simp [Array.getD]
    have hpos : 0 < l.length := by
      cases l with
      | nil => exact absurd rfl hne
      | cons _ _ => simp
    refine ⟨by simp, ?_, .inr ⟨⟨0, hpos, hf 0⟩, fun i _ => hf i, hC, rfl, rfl, fun s _ => rfl, ?_⟩⟩
    · intro j p _ hl
      rw [hf] at hl; cases hl
    · intro i o d _ hl
      rw [hf] at hl; cases hl
theorem wp_region_cut {id : Nat} {a0 : Act} {w0 : World} {full : List Oper} (K : Nat) (hm : P.follows .mixedOrders = true) (C : World → Prop) (St : World → World → Prop) (V : Nat → Value → World → Prop) (hB : regB .any (full.take K).toArray a0.tmps.size = true) (hTl : tailB .any (full.take K) (full.drop K) = true)
    (hC : C { w0 with drawn := w0.drawn + 1 }) (hV : ∀ d v w w', C w → St w w' → V d v w → V d v w') (hne : full.take K ≠ []) (hops : ∀ o ∈ full.take K, OpOk P (full.take K).toArray C St V a0 o)
    (hend : ∀ (f : Nat → Value) (w : World), C w → (∀ o ∈ full.take K, ∀ d, o.dst = some d → V d (f d) w) → wpList P full.toArray Q (full.drop K) (putAll f (full.take K) a0) w) : (Code.region id full.toArray true).wp P Q a0 w0 := by
  have h := wp_region_tail (P := P) (Q := Q) (id := id) (a0 := a0) (w0 := w0) (full.take K) (full.drop K) hm C St V hB hTl hC hV hne hops (by rw [List.take_append_drop]; exact hend)
  rw [List.take_append_drop] at h
  exact h
end
end Go.Proofs.YtgpgkgahbkmdiaaGreatDoor
