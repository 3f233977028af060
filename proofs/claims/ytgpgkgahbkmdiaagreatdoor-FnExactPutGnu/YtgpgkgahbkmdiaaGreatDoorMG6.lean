/- Texts joined: PutGnuS, MapS, KindMath, ListOkI. -/
import Derived.Maps.OwnSet
import Derived.Maps.OwnOps
import Derived.Test.YtgpgkgahbkmdiaaGreatDoorMG5
/- Contract of spec.PutGnu. -/
namespace Go.Proofs.YtgpgkgahbkmdiaaGreatDoor
open Go.ChangeShapes Go.WideShapes Go.ChangeAt Go.RowKit Go.Deep

set_option maxHeartbeats 12800000 in
set_option maxRecDepth 8000 in
theorem putGnu_spec (L : List Ent) (n g cap : Nat) (w : World) (hn : n = L.length) (hm : n ≤ 1048576) (hcap : n ≤ cap) (hg : g < w.heap.size) (hsm : SmallL L) (h1 : RowE w g L) :
    Calls Tryz.prog 7 #[.slice (some ⟨g, 0, none⟩) n cap] w fun e w' => e = .returned (.tuple #[.string (putGnuv L).1, .bool (putGnuv L).2]) ∧ Below w.heap.size w w' := by
  have HLO := Lib.hid (fun w h0 h1 => listOk_spec L n g cap w hn (by omega) hcap h0 hsm h1)
  have H1 := Lib.hid h1
  cases hlo : listOkv L with
  | false =>
    have HE := Lib.hid (gnu_bad hlo)
    generalize putGnuv L = r at HE
    rw [hlo] at HLO
    clear h1 hlo hsm hn
    go_enter Tryz.func7, Tryz.ntmps7
    go_wp2_with fail
    refine (HLO.out _ hg H1.out).mono ?_
    rintro e w1 ⟨rfl, hb⟩
    go_wp2
    go_ret2
    exact ⟨ret_sb2 HE.out rfl rfl, hb⟩
  | true =>
    have HG : Hid (∀ i, i < n → ∃ e, L[i]? = some e ∧ esz e ≤ 4194304 ∧ entOkv e = true) := Lib.hid (fun i hi => by obtain ⟨e, he⟩ := getE' (L := L) (i := i) (by omega); exact ⟨e, he, hsm.get he, listOk_ent hlo he⟩)
    have HY : Hid (putGnuv L = (gpiecesTo L n ++ nulv 1024, true)) := Lib.hid (by rw [hn]; exact gnu_yes hlo)
    have HZ : Hid (∀ i, i ≤ n → (gpiecesTo L i).size ≤ 6600 * i) := Lib.hid (fun i hi => gpieces_size hlo i (by omega))
    have h30 : n ≤ 30 := by rw [hn]; exact listOk_30 hlo
    have HN := Lib.hid (fun w => nuls_spec 1024 w (by omega))
    rw [show ((1024 : Int).toNat) = 1024 from rfl] at HN
    have zn := nulv_size 1024
    generalize nulv 1024 = n1024 at *
    generalize putGnuv L = r at HY
    rw [hlo] at HLO
    clear h1 hlo hsm hn
    go_enter Tryz.func7, Tryz.ntmps7
    go_wp2_with fail
    refine (HLO.out _ hg H1.out).mono ?_
    rintro e w1 ⟨rfl, hb1⟩
    have B1 := Lib.hid hb1
    clear hb1 HLO
    go_wp2_with fail
    go_loopw [4, 5] (fun v u wr => ∃ i : Nat, v = .string (gpiecesTo L i) ∧ u = .int .i64 i ∧ i ≤ n ∧ Below w.heap.size w wr) (fun _ u _ => n - (intOf u).toNat)
    case atStart => exact ⟨0, rfl, rfl, Nat.zero_le _, B1.out⟩
    case round =>
      obtain ⟨i, rfl, rfl, hi, hb⟩ := hrel
      have B := Lib.hid hb
      clear hb B1
      by_cases hlt : i < n
      · have hlt2 : (i : Int) < (n : Int) := by omega
        obtain ⟨e, he, hz, hok⟩ := HG.out i hlt
        obtain ⟨c0, c1, c2, c3, c4, c5, c6, c7, c8, c9⟩ := (H1.out.below B.out hg).ten he
        have HS := Lib.hid (gpieces_step he)
        have y1 := HZ.out i hi
        have hsz := small_parts hz
        have hkb := entOk_kb hok
        have zb := body_size e.body
        clear he hz hok
        obtain ⟨k, p, l, m, u, g0, t, us, gr, b⟩ := e
        dsimp only at hsz c0 c1 c2 c3 c4 c5 c6 c7 c8 c9 hkb zb HS
        have zbk := hkb.2
        have HFl := Lib.hid (fun w => flag_spec k w)
        have HH := Lib.hid (fun w => putLong_spec k p l m u g0 t us gr b (flagv k) b.size w hsz.1 hsz.2.1 hsz.2.2.1 hsz.2.2.2.1 hsz.2.2.2.2)
        have HLn := Lib.hid (fun w => longName_spec flagL p w hsz.1)
        have HKn := Lib.hid (fun w => longName_spec flagK l w hsz.2.1)
        have HBd := Lib.hid (fun w => l04Body_spec b w (by omega))
        have zh := putLong_size (e := ⟨k, p, l, m, u, g0, t, us, gr, b⟩) (flag := flagv k) (size := (b.size : Int))
        have zlp := long_size flagL p
        have zlk := long_size flagK l
        have eAy : Hid ((100 : Int) < p.size → gnuA (gpiecesTo L i) ⟨k, p, l, m, u, g0, t, us, gr, b⟩ = gpiecesTo L i ++ longv flagL p) := Lib.hid (gnuA_yes (e := ⟨k, p, l, m, u, g0, t, us, gr, b⟩))
        have eAn : Hid (¬ (100 : Int) < p.size → gnuA (gpiecesTo L i) ⟨k, p, l, m, u, g0, t, us, gr, b⟩ = gpiecesTo L i) := Lib.hid (gnuA_no (e := ⟨k, p, l, m, u, g0, t, us, gr, b⟩))
        have eBy : Hid (∀ T, (100 : Int) < l.size → gnuB T ⟨k, p, l, m, u, g0, t, us, gr, b⟩ = T ++ longv flagK l) := Lib.hid (fun T => gnuB_yes (e := ⟨k, p, l, m, u, g0, t, us, gr, b⟩))
        have eBn : Hid (∀ T, ¬ (100 : Int) < l.size → gnuB T ⟨k, p, l, m, u, g0, t, us, gr, b⟩ = T) := Lib.hid (fun T => gnuB_no (e := ⟨k, p, l, m, u, g0, t, us, gr, b⟩))
        rw [show flagL = ⟨#[76]⟩ from rfl] at HLn zlp eAy
        rw [show flagK = ⟨#[75]⟩ from rfl] at HKn zlk eBy
        generalize putLongv ⟨k, p, l, m, u, g0, t, us, gr, b⟩ (flagv k) b.size = hd at HS HH zh
        generalize flagv k = fl at HH HFl
        generalize bodyP b = bb at *
        generalize longv ⟨#[76]⟩ p = lp at *
        generalize longv ⟨#[75]⟩ l = lk at *
        generalize gnuA (gpiecesTo L i) ⟨k, p, l, m, u, g0, t, us, gr, b⟩ = TA at *
        generalize gpiecesTo L i = T at *
        have yT : T.size ≤ 198000 := by omega
        have sB := B.out.size
        clear hsz y1 hkb
        by_cases q1 : (100 : Int) < p.size
        · have eA := Lib.hid (eAy.out q1)
          clear eAy eAn
          by_cases q2 : (100 : Int) < l.size
          · have eB := Lib.hid (eBy.out TA q2)
            clear eBy eBn
            go_wp2_with fail
            have E0 := EntAt.new wr ⟨k, p, l, m, u, g0, t, us, gr, b⟩ 34
            have B0 := (Below.refl wr.heap.size wr).alloc (Nat.le_refl _) (.cells (Ent.cells ⟨k, p, l, m, u, g0, t, us, gr, b⟩).toArray 34)
            have X0 : (wr.alloc (.cells (Ent.cells ⟨k, p, l, m, u, g0, t, us, gr, b⟩).toArray 34)).heap[wr.heap.size]? = some (.cells (Ent.cells ⟨k, p, l, m, u, g0, t, us, gr, b⟩).toArray 34 (0, 0)) := heap_alloc_last _ _
            have z0 : wr.heap.size < (wr.alloc (.cells (Ent.cells ⟨k, p, l, m, u, g0, t, us, gr, b⟩).toArray 34)).heap.size := by simp
            simp only [Ent.cells] at E0 B0 z0 X0
            generalize wr.alloc (.cells #[.int .i64 k, .string p, .string l, .int .i64 m, .int .i64 u, .int .i64 g0, .int .i64 t, .string us, .string gr, .string b] 34) = w10 at *
            have E1 := Lib.hid E0
            have X1 := Lib.hid X0
            have B1 := Lib.hid (btE B.out B0)
            clear E0 B0 X0 B c0 c1 c2 c3 c4 c5 c6 c7 c8 c9
            have X10 : Hid (EntO w10 wr.heap.size ⟨k, p, l, m, u, g0, t, us, gr, b⟩) := X1
            have B10 := B1
            clear E1 X1 B1 z0
            refine (HLn.out _).mono ?_
            rintro e w11 ⟨rfl, hb⟩
            have B11 := Lib.hid (btE B10.out hb)
            have X11 := Lib.hid (EntO.below X10.out hb X10.out.lt)
            clear hb  B10 X10
            obtain ⟨c0, c1, c2, c3, c4, c5, c6, c7, c8, c9⟩ := X11.out.at.zero
            obtain ⟨Ta, hTa⟩ : ∃ x : ByteArray, x = T ++ lp := ⟨_, rfl⟩
            have zTa : Ta.size ≤ 199275 := by rw [hTa, ByteArray.size_append]; omega
            have HTa := Lib.hid hTa
            have HAa : Hid (∀ w, (Op.stringOp .add T lp).run Tryz.prog w = .ok (.string Ta) w) := Lib.hid (fun w => by rw [HTa.out]; exact run_string_add_sum w _ _ (by omega))
            clear hTa
            have ha := HAa.out w11
            go_wp2_with fail
            refine (HKn.out _).mono ?_
            rintro e w12 ⟨rfl, hb⟩
            have B12 := Lib.hid (btE B11.out hb)
            have X12 := Lib.hid (EntO.below X11.out hb X11.out.lt)
            clear hb  B11 X11 c0 c1 c2 c3 c4 c5 c6 c7 c8 c9 ha HAa
            obtain ⟨c0, c1, c2, c3, c4, c5, c6, c7, c8, c9⟩ := X12.out.at.zero
            obtain ⟨Tb, hTb⟩ : ∃ x : ByteArray, x = Ta ++ lk := ⟨_, rfl⟩
            have zTb : Tb.size ≤ 200550 := by rw [hTb, ByteArray.size_append]; omega
            have HTb := Lib.hid hTb
            have HAb : Hid (∀ w, (Op.stringOp .add Ta lk).run Tryz.prog w = .ok (.string Tb) w) := Lib.hid (fun w => by rw [HTb.out]; exact run_string_add_sum w _ _ (by omega))
            clear hTb
            have hb9 := HAb.out w12
            go_wp2_with fail
            clear c0 c1 c2 c3 c4 c5 c6 c7 c8 c9 hb9 HAb
            have KC : Hid (∀ w', Below w12.heap.size w12 w' → w'.cell? ⟨wr.heap.size, 0, none⟩ = some (.int .i64 k) ∧ w'.cell? ⟨wr.heap.size, 1, none⟩ = some (.string p) ∧ w'.cell? ⟨wr.heap.size, 2, none⟩ = some (.string l) ∧ w'.cell? ⟨wr.heap.size, 3, none⟩ = some (.int .i64 m) ∧ w'.cell? ⟨wr.heap.size, 4, none⟩ = some (.int .i64 u) ∧ w'.cell? ⟨wr.heap.size, 5, none⟩ = some (.int .i64 g0) ∧ w'.cell? ⟨wr.heap.size, 6, none⟩ = some (.int .i64 t) ∧ w'.cell? ⟨wr.heap.size, 7, none⟩ = some (.string us) ∧ w'.cell? ⟨wr.heap.size, 8, none⟩ = some (.string gr) ∧ w'.cell? ⟨wr.heap.size, 9, none⟩ = some (.string b)) := Lib.hid (fun w' hb => by obtain ⟨c0, c1, c2, c3, c4, c5, c6, c7, c8, c9⟩ := (X12.out.below hb X12.out.lt).at.zero; exact ⟨c0, c1, c2, c3, c4, c5, c6, c7, c8, c9⟩)
            obtain ⟨x47, hx47⟩ : ∃ x : ByteArray, x = Tb ++ hd := ⟨_, rfl⟩
            obtain ⟨x51, hx51⟩ : ∃ x : ByteArray, x = x47 ++ bb := ⟨_, rfl⟩
            have zx47 : x47.size ≤ 201062 := by rw [hx47, ByteArray.size_append]; omega
            have zx51 : x51.size ≤ 204573 := by rw [hx51, ByteArray.size_append]; omega
            have HA47 : Hid (∀ w, (Op.stringOp .add Tb hd).run Tryz.prog w = .ok (.string x47) w) := Lib.hid (fun w => by rw [hx47]; exact run_string_add_sum w _ _ (by omega))
            have HA51 : Hid (∀ w, (Op.stringOp .add x47 bb).run Tryz.prog w = .ok (.string x51) w) := Lib.hid (fun w => by rw [hx51]; exact run_string_add_sum w _ _ (by omega))
            have HX47 := Lib.hid hx47
            have HX51 := Lib.hid hx51
            clear hx47 hx51
            refine wp_region_inv (by kernel_rfl) (fun w' => Below w12.heap.size w12 w') (fun x y => Below x.heap.size x y) (fun d v _ => match d with | 38 => v = .string Tb | 39 => v = .agg #[.int .i64 k, .string p, .string l, .int .i64 m, .int .i64 u, .int .i64 g0, .int .i64 t, .string us, .string gr, .string b] | 40 => v = .pointer (some ⟨wr.heap.size, 0, none⟩) | 41 => v = .int .i64 k | 42 => v = .string fl | 43 => v = .pointer (some ⟨wr.heap.size, 9, none⟩) | 44 => v = .string b | 45 => v = .int .i64 (b.size : Int) | 46 => v = .string hd | 47 => v = .string x47 | 48 => v = .pointer (some ⟨wr.heap.size, 9, none⟩) | 49 => v = .string b | 50 => v = .string bb | 51 => v = .string x51 | 4 => v = .string x51 | _ => True) (by kernel_rfl) ((Below.refl _ _).drew) (fun _ _ _ _ _ _ h => h) ?hops ?hend
            case hops =>
              simp only [List.forall_mem_cons]
              refine ⟨?o38, ?o39, ?o40, ?o41, ?o42, ?o43, ?o44, ?o45, ?o46, ?o47, ?o48, ?o49, ?o50, ?o51, ?o4, fun _ h => by cases h⟩
              case o38 =>
                intro Q a w2 hC hV hI
                have e4 : a.eval (.tmp 4) = .string Tb := (hI 4 (by simp [Op.operands]) (by kernel_rfl)).trans rfl
                have f4 : a.tmps.getD 4 undef = .string Tb := e4
                have g4 : a.tmps[4]?.getD undef = .string Tb := by rw [← Array.getD_eq_getD_getElem?]; exact e4
                refine op_val (.string Tb) ?_ hC (Below.refl _ _) (by intro d hd; cases hd; rfl)
                (clear hV hI hC; go_simp <;> (first | rfl | simp))
              case o39 =>
                intro Q a w2 hC hV hI
                have e6 : a.eval (.tmp 6) = .pointer (some ⟨wr.heap.size, 0, none⟩) := (hI 6 (by simp [Op.operands]) (by kernel_rfl)).trans rfl
                have f6 : a.tmps.getD 6 undef = .pointer (some ⟨wr.heap.size, 0, none⟩) := e6
                have g6 : a.tmps[6]?.getD undef = .pointer (some ⟨wr.heap.size, 0, none⟩) := by rw [← Array.getD_eq_getD_getElem?]; exact e6
                have hK := KC.out w2 hC
                refine op_val (.agg #[.int .i64 k, .string p, .string l, .int .i64 m, .int .i64 u, .int .i64 g0, .int .i64 t, .string us, .string gr, .string b]) ?_ hC (Below.refl _ _) (by intro d hd; cases hd; rfl)
                (clear hV hI hC; go_simp <;> (first | rfl | simp))
              case o40 =>
                intro Q a w2 hC hV hI
                have e6 : a.eval (.tmp 6) = .pointer (some ⟨wr.heap.size, 0, none⟩) := (hI 6 (by simp [Op.operands]) (by kernel_rfl)).trans rfl
                have f6 : a.tmps.getD 6 undef = .pointer (some ⟨wr.heap.size, 0, none⟩) := e6
                have g6 : a.tmps[6]?.getD undef = .pointer (some ⟨wr.heap.size, 0, none⟩) := by rw [← Array.getD_eq_getD_getElem?]; exact e6
                refine op_val (.pointer (some ⟨wr.heap.size, 0, none⟩)) ?_ hC (Below.refl _ _) (by intro d hd; cases hd; rfl)
                (clear hV hI hC; go_simp <;> (first | rfl | simp))
              case o41 =>
                intro Q a w2 hC hV hI
                have e40 : a.eval (.tmp 40) = .pointer (some ⟨wr.heap.size, 0, none⟩) := hV 40 (by simp [Op.operands]) (by kernel_rfl)
                have f40 : a.tmps.getD 40 undef = .pointer (some ⟨wr.heap.size, 0, none⟩) := e40
                have g40 : a.tmps[40]?.getD undef = .pointer (some ⟨wr.heap.size, 0, none⟩) := by rw [← Array.getD_eq_getD_getElem?]; exact e40
                have hK := KC.out w2 hC
                refine op_val (.int .i64 k) ?_ hC (Below.refl _ _) (by intro d hd; cases hd; rfl)
                (clear hV hI hC; go_simp <;> (first | rfl | simp))
              case o42 =>
                intro Q a w2 hC hV hI
                have e41 : a.eval (.tmp 41) = .int .i64 k := hV 41 (by simp [Op.operands, Call.operands]) (by kernel_rfl)
                have f41 : a.tmps.getD 41 undef = .int .i64 k := e41
                have g41 : a.tmps[41]?.getD undef = .int .i64 k := by rw [← Array.getD_eq_getD_getElem?]; exact e41
                refine op_call (f := 19) (args := #[.int .i64 k]) (R := fun v y => v = .string fl ∧ Below w2.heap.size w2 y) ?_ ((HFl.out w2).mono ?_) ?_
                · (clear hV hI hC; go_simp <;> (first | rfl | simp))
                · rintro e y ⟨rfl, hb⟩; exact ⟨_, rfl, rfl, hb⟩
                · rintro v y ⟨rfl, hb⟩; exact ⟨hC.trans (hb.mono hC.size), hb, by intro d hd; cases hd; rfl⟩
              case o43 =>
                intro Q a w2 hC hV hI
                have e6 : a.eval (.tmp 6) = .pointer (some ⟨wr.heap.size, 0, none⟩) := (hI 6 (by simp [Op.operands]) (by kernel_rfl)).trans rfl
                have f6 : a.tmps.getD 6 undef = .pointer (some ⟨wr.heap.size, 0, none⟩) := e6
                have g6 : a.tmps[6]?.getD undef = .pointer (some ⟨wr.heap.size, 0, none⟩) := by rw [← Array.getD_eq_getD_getElem?]; exact e6
                refine op_val (.pointer (some ⟨wr.heap.size, 9, none⟩)) ?_ hC (Below.refl _ _) (by intro d hd; cases hd; rfl)
                (clear hV hI hC; go_simp <;> (first | rfl | simp))
              case o44 =>
                intro Q a w2 hC hV hI
                have e43 : a.eval (.tmp 43) = .pointer (some ⟨wr.heap.size, 9, none⟩) := hV 43 (by simp [Op.operands]) (by kernel_rfl)
                have f43 : a.tmps.getD 43 undef = .pointer (some ⟨wr.heap.size, 9, none⟩) := e43
                have g43 : a.tmps[43]?.getD undef = .pointer (some ⟨wr.heap.size, 9, none⟩) := by rw [← Array.getD_eq_getD_getElem?]; exact e43
                have hK := KC.out w2 hC
                refine op_val (.string b) ?_ hC (Below.refl _ _) (by intro d hd; cases hd; rfl)
                (clear hV hI hC; go_simp <;> (first | rfl | simp))
              case o45 =>
                intro Q a w2 hC hV hI
                have e44 : a.eval (.tmp 44) = .string b := hV 44 (by simp [Op.operands, Call.operands]) (by kernel_rfl)
                have f44 : a.tmps.getD 44 undef = .string b := e44
                have g44 : a.tmps[44]?.getD undef = .string b := by rw [← Array.getD_eq_getD_getElem?]; exact e44
                refine op_val (.int .i64 (b.size : Int)) ?_ hC (Below.refl _ _) (by intro d hd; cases hd; rfl)
                (clear hV hI hC; go_simp <;> (first | rfl | simp))
              case o46 =>
                intro Q a w2 hC hV hI
                have e39 : a.eval (.tmp 39) = .agg #[.int .i64 k, .string p, .string l, .int .i64 m, .int .i64 u, .int .i64 g0, .int .i64 t, .string us, .string gr, .string b] := hV 39 (by simp [Op.operands, Call.operands]) (by kernel_rfl)
                have f39 : a.tmps.getD 39 undef = .agg #[.int .i64 k, .string p, .string l, .int .i64 m, .int .i64 u, .int .i64 g0, .int .i64 t, .string us, .string gr, .string b] := e39
                have g39 : a.tmps[39]?.getD undef = .agg #[.int .i64 k, .string p, .string l, .int .i64 m, .int .i64 u, .int .i64 g0, .int .i64 t, .string us, .string gr, .string b] := by rw [← Array.getD_eq_getD_getElem?]; exact e39
                have e42 : a.eval (.tmp 42) = .string fl := hV 42 (by simp [Op.operands, Call.operands]) (by kernel_rfl)
                have f42 : a.tmps.getD 42 undef = .string fl := e42
                have g42 : a.tmps[42]?.getD undef = .string fl := by rw [← Array.getD_eq_getD_getElem?]; exact e42
                have e45 : a.eval (.tmp 45) = .int .i64 (b.size : Int) := hV 45 (by simp [Op.operands, Call.operands]) (by kernel_rfl)
                have f45 : a.tmps.getD 45 undef = .int .i64 (b.size : Int) := e45
                have g45 : a.tmps[45]?.getD undef = .int .i64 (b.size : Int) := by rw [← Array.getD_eq_getD_getElem?]; exact e45
                refine op_call (f := 18) (args := #[.agg #[.int .i64 k, .string p, .string l, .int .i64 m, .int .i64 u, .int .i64 g0, .int .i64 t, .string us, .string gr, .string b], .string fl, .int .i64 (b.size : Int)]) (R := fun v y => v = .string hd ∧ Below w2.heap.size w2 y) ?_ ((HH.out w2).mono ?_) ?_
                · (clear hV hI hC; go_simp <;> (first | rfl | simp))
                · rintro e y ⟨rfl, hb⟩; exact ⟨_, rfl, rfl, hb⟩
                · rintro v y ⟨rfl, hb⟩; exact ⟨hC.trans (hb.mono hC.size), hb, by intro d hd; cases hd; rfl⟩
              case o47 =>
                intro Q a w2 hC hV hI
                have e38 : a.eval (.tmp 38) = .string Tb := hV 38 (by simp [Op.operands]) (by kernel_rfl)
                have f38 : a.tmps.getD 38 undef = .string Tb := e38
                have g38 : a.tmps[38]?.getD undef = .string Tb := by rw [← Array.getD_eq_getD_getElem?]; exact e38
                have e46 : a.eval (.tmp 46) = .string hd := hV 46 (by simp [Op.operands]) (by kernel_rfl)
                have f46 : a.tmps.getD 46 undef = .string hd := e46
                have g46 : a.tmps[46]?.getD undef = .string hd := by rw [← Array.getD_eq_getD_getElem?]; exact e46
                refine op_val (.string x47) ?_ hC (Below.refl _ _) (by intro d hd; cases hd; rfl)
                have q := HA47.out w2
                (clear hV hI hC; go_simp <;> (first | rfl | simp))
              case o48 =>
                intro Q a w2 hC hV hI
                have e6 : a.eval (.tmp 6) = .pointer (some ⟨wr.heap.size, 0, none⟩) := (hI 6 (by simp [Op.operands]) (by kernel_rfl)).trans rfl
                have f6 : a.tmps.getD 6 undef = .pointer (some ⟨wr.heap.size, 0, none⟩) := e6
                have g6 : a.tmps[6]?.getD undef = .pointer (some ⟨wr.heap.size, 0, none⟩) := by rw [← Array.getD_eq_getD_getElem?]; exact e6
                refine op_val (.pointer (some ⟨wr.heap.size, 9, none⟩)) ?_ hC (Below.refl _ _) (by intro d hd; cases hd; rfl)
                (clear hV hI hC; go_simp <;> (first | rfl | simp))
              case o49 =>
                intro Q a w2 hC hV hI
                have e48 : a.eval (.tmp 48) = .pointer (some ⟨wr.heap.size, 9, none⟩) := hV 48 (by simp [Op.operands]) (by kernel_rfl)
                have f48 : a.tmps.getD 48 undef = .pointer (some ⟨wr.heap.size, 9, none⟩) := e48
                have g48 : a.tmps[48]?.getD undef = .pointer (some ⟨wr.heap.size, 9, none⟩) := by rw [← Array.getD_eq_getD_getElem?]; exact e48
                have hK := KC.out w2 hC
                refine op_val (.string b) ?_ hC (Below.refl _ _) (by intro d hd; cases hd; rfl)
                (clear hV hI hC; go_simp <;> (first | rfl | simp))
              case o50 =>
                intro Q a w2 hC hV hI
                have e49 : a.eval (.tmp 49) = .string b := hV 49 (by simp [Op.operands, Call.operands]) (by kernel_rfl)
                have f49 : a.tmps.getD 49 undef = .string b := e49
                have g49 : a.tmps[49]?.getD undef = .string b := by rw [← Array.getD_eq_getD_getElem?]; exact e49
                refine op_call (f := 20) (args := #[.string b]) (R := fun v y => v = .string bb ∧ Below w2.heap.size w2 y) ?_ ((HBd.out w2).mono ?_) ?_
                · (clear hV hI hC; go_simp <;> (first | rfl | simp))
                · rintro e y ⟨rfl, hb⟩; exact ⟨_, rfl, rfl, hb⟩
                · rintro v y ⟨rfl, hb⟩; exact ⟨hC.trans (hb.mono hC.size), hb, by intro d hd; cases hd; rfl⟩
              case o51 =>
                intro Q a w2 hC hV hI
                have e47 : a.eval (.tmp 47) = .string x47 := hV 47 (by simp [Op.operands]) (by kernel_rfl)
                have f47 : a.tmps.getD 47 undef = .string x47 := e47
                have g47 : a.tmps[47]?.getD undef = .string x47 := by rw [← Array.getD_eq_getD_getElem?]; exact e47
                have e50 : a.eval (.tmp 50) = .string bb := hV 50 (by simp [Op.operands]) (by kernel_rfl)
                have f50 : a.tmps.getD 50 undef = .string bb := e50
                have g50 : a.tmps[50]?.getD undef = .string bb := by rw [← Array.getD_eq_getD_getElem?]; exact e50
                refine op_val (.string x51) ?_ hC (Below.refl _ _) (by intro d hd; cases hd; rfl)
                have q := HA51.out w2
                (clear hV hI hC; go_simp <;> (first | rfl | simp))
              case o4 =>
                intro Q a w2 hC hV hI
                have e51 : a.eval (.tmp 51) = .string x51 := hV 51 (by simp [Op.operands]) (by kernel_rfl)
                have f51 : a.tmps.getD 51 undef = .string x51 := e51
                have g51 : a.tmps[51]?.getD undef = .string x51 := by rw [← Array.getD_eq_getD_getElem?]; exact e51
                refine op_val (.string x51) ?_ hC (Below.refl _ _) (by intro d hd; cases hd; rfl)
                (clear hV hI hC; go_simp <;> (first | rfl | simp))
            case hend =>
              intro f w13 hC hall
              clear HA47 HA51
              simp only [List.forall_mem_cons] at hall
              obtain ⟨h38, h39, h40, h41, h42, h43, h44, h45, h46, h47, h48, h49, h50, h51, h4, _⟩ := hall
              replace h38 : f 38 = .string Tb := h38 38 rfl
              replace h39 : f 39 = .agg #[.int .i64 k, .string p, .string l, .int .i64 m, .int .i64 u, .int .i64 g0, .int .i64 t, .string us, .string gr, .string b] := h39 39 rfl
              replace h40 : f 40 = .pointer (some ⟨wr.heap.size, 0, none⟩) := h40 40 rfl
              replace h41 : f 41 = .int .i64 k := h41 41 rfl
              replace h42 : f 42 = .string fl := h42 42 rfl
              replace h43 : f 43 = .pointer (some ⟨wr.heap.size, 9, none⟩) := h43 43 rfl
              replace h44 : f 44 = .string b := h44 44 rfl
              replace h45 : f 45 = .int .i64 (b.size : Int) := h45 45 rfl
              replace h46 : f 46 = .string hd := h46 46 rfl
              replace h47 : f 47 = .string x47 := h47 47 rfl
              replace h48 : f 48 = .pointer (some ⟨wr.heap.size, 9, none⟩) := h48 48 rfl
              replace h49 : f 49 = .string b := h49 49 rfl
              replace h50 : f 50 = .string bb := h50 50 rfl
              replace h51 : f 51 = .string x51 := h51 51 rfl
              replace h4 : f 4 = .string x51 := h4 4 rfl
              simp only [putAll, Act.put, List.setIfInBounds_toArray, List.set_cons_succ, List.set_cons_zero, h38, h39, h40, h41, h42, h43, h44, h45, h46, h47, h48, h49, h50, h51, h4]
              clear h38 h39 h40 h41 h42 h43 h44 h45 h46 h47 h48 h49 h50 h51 h4
              have HXX : Hid (gpiecesTo L (i + 1) = x51) := Lib.hid (by rw [HS.out, eB.out, eA.out, HX51.out, HX47.out, HTb.out, HTa.out])
              have B13 := Lib.hid (btE B12.out hC)
              clear hC KC HS X12 B12 HX47 HX51
              go_wp2_with fail
              go_roundw
              case rel => exact ⟨i + 1, by rw [HXX.out], by go_num, by omega, B13.out⟩
              case measure => simp [intOf]; omega
          · have eB := Lib.hid (eBn.out TA q2)
            clear eBy eBn
            go_wp2_with fail
            have E0 := EntAt.new wr ⟨k, p, l, m, u, g0, t, us, gr, b⟩ 34
            have B0 := (Below.refl wr.heap.size wr).alloc (Nat.le_refl _) (.cells (Ent.cells ⟨k, p, l, m, u, g0, t, us, gr, b⟩).toArray 34)
            have X0 : (wr.alloc (.cells (Ent.cells ⟨k, p, l, m, u, g0, t, us, gr, b⟩).toArray 34)).heap[wr.heap.size]? = some (.cells (Ent.cells ⟨k, p, l, m, u, g0, t, us, gr, b⟩).toArray 34 (0, 0)) := heap_alloc_last _ _
            have z0 : wr.heap.size < (wr.alloc (.cells (Ent.cells ⟨k, p, l, m, u, g0, t, us, gr, b⟩).toArray 34)).heap.size := by simp
            simp only [Ent.cells] at E0 B0 z0 X0
            generalize wr.alloc (.cells #[.int .i64 k, .string p, .string l, .int .i64 m, .int .i64 u, .int .i64 g0, .int .i64 t, .string us, .string gr, .string b] 34) = w10 at *
            have E1 := Lib.hid E0
            have X1 := Lib.hid X0
            have B1 := Lib.hid (btE B.out B0)
            clear E0 B0 X0 B c0 c1 c2 c3 c4 c5 c6 c7 c8 c9
            have X10 : Hid (EntO w10 wr.heap.size ⟨k, p, l, m, u, g0, t, us, gr, b⟩) := X1
            have B10 := B1
            clear E1 X1 B1 z0
            refine (HLn.out _).mono ?_
            rintro e w11 ⟨rfl, hb⟩
            have B11 := Lib.hid (btE B10.out hb)
            have X11 := Lib.hid (EntO.below X10.out hb X10.out.lt)
            clear hb  B10 X10
            obtain ⟨c0, c1, c2, c3, c4, c5, c6, c7, c8, c9⟩ := X11.out.at.zero
            obtain ⟨Ta, hTa⟩ : ∃ x : ByteArray, x = T ++ lp := ⟨_, rfl⟩
            have zTa : Ta.size ≤ 199275 := by rw [hTa, ByteArray.size_append]; omega
            have HTa := Lib.hid hTa
            have HAa : Hid (∀ w, (Op.stringOp .add T lp).run Tryz.prog w = .ok (.string Ta) w) := Lib.hid (fun w => by rw [HTa.out]; exact run_string_add_sum w _ _ (by omega))
            clear hTa
            have ha := HAa.out w11
            go_wp2_with fail
            clear c0 c1 c2 c3 c4 c5 c6 c7 c8 c9 ha HAa
            have KC : Hid (∀ w', Below w11.heap.size w11 w' → w'.cell? ⟨wr.heap.size, 0, none⟩ = some (.int .i64 k) ∧ w'.cell? ⟨wr.heap.size, 1, none⟩ = some (.string p) ∧ w'.cell? ⟨wr.heap.size, 2, none⟩ = some (.string l) ∧ w'.cell? ⟨wr.heap.size, 3, none⟩ = some (.int .i64 m) ∧ w'.cell? ⟨wr.heap.size, 4, none⟩ = some (.int .i64 u) ∧ w'.cell? ⟨wr.heap.size, 5, none⟩ = some (.int .i64 g0) ∧ w'.cell? ⟨wr.heap.size, 6, none⟩ = some (.int .i64 t) ∧ w'.cell? ⟨wr.heap.size, 7, none⟩ = some (.string us) ∧ w'.cell? ⟨wr.heap.size, 8, none⟩ = some (.string gr) ∧ w'.cell? ⟨wr.heap.size, 9, none⟩ = some (.string b)) := Lib.hid (fun w' hb => by obtain ⟨c0, c1, c2, c3, c4, c5, c6, c7, c8, c9⟩ := (X11.out.below hb X11.out.lt).at.zero; exact ⟨c0, c1, c2, c3, c4, c5, c6, c7, c8, c9⟩)
            obtain ⟨x47, hx47⟩ : ∃ x : ByteArray, x = Ta ++ hd := ⟨_, rfl⟩
            obtain ⟨x51, hx51⟩ : ∃ x : ByteArray, x = x47 ++ bb := ⟨_, rfl⟩
            have zx47 : x47.size ≤ 201062 := by rw [hx47, ByteArray.size_append]; omega
            have zx51 : x51.size ≤ 204573 := by rw [hx51, ByteArray.size_append]; omega
            have HA47 : Hid (∀ w, (Op.stringOp .add Ta hd).run Tryz.prog w = .ok (.string x47) w) := Lib.hid (fun w => by rw [hx47]; exact run_string_add_sum w _ _ (by omega))
            have HA51 : Hid (∀ w, (Op.stringOp .add x47 bb).run Tryz.prog w = .ok (.string x51) w) := Lib.hid (fun w => by rw [hx51]; exact run_string_add_sum w _ _ (by omega))
            have HX47 := Lib.hid hx47
            have HX51 := Lib.hid hx51
            clear hx47 hx51
            refine wp_region_inv (by kernel_rfl) (fun w' => Below w11.heap.size w11 w') (fun x y => Below x.heap.size x y) (fun d v _ => match d with | 38 => v = .string Ta | 39 => v = .agg #[.int .i64 k, .string p, .string l, .int .i64 m, .int .i64 u, .int .i64 g0, .int .i64 t, .string us, .string gr, .string b] | 40 => v = .pointer (some ⟨wr.heap.size, 0, none⟩) | 41 => v = .int .i64 k | 42 => v = .string fl | 43 => v = .pointer (some ⟨wr.heap.size, 9, none⟩) | 44 => v = .string b | 45 => v = .int .i64 (b.size : Int) | 46 => v = .string hd | 47 => v = .string x47 | 48 => v = .pointer (some ⟨wr.heap.size, 9, none⟩) | 49 => v = .string b | 50 => v = .string bb | 51 => v = .string x51 | 4 => v = .string x51 | _ => True) (by kernel_rfl) ((Below.refl _ _).drew) (fun _ _ _ _ _ _ h => h) ?hops ?hend
            case hops =>
              simp only [List.forall_mem_cons]
              refine ⟨?o38, ?o39, ?o40, ?o41, ?o42, ?o43, ?o44, ?o45, ?o46, ?o47, ?o48, ?o49, ?o50, ?o51, ?o4, fun _ h => by cases h⟩
              case o38 =>
                intro Q a w2 hC hV hI
                have e4 : a.eval (.tmp 4) = .string Ta := (hI 4 (by simp [Op.operands]) (by kernel_rfl)).trans rfl
                have f4 : a.tmps.getD 4 undef = .string Ta := e4
                have g4 : a.tmps[4]?.getD undef = .string Ta := by rw [← Array.getD_eq_getD_getElem?]; exact e4
                refine op_val (.string Ta) ?_ hC (Below.refl _ _) (by intro d hd; cases hd; rfl)
                (clear hV hI hC; go_simp <;> (first | rfl | simp))
              case o39 =>
                intro Q a w2 hC hV hI
                have e6 : a.eval (.tmp 6) = .pointer (some ⟨wr.heap.size, 0, none⟩) := (hI 6 (by simp [Op.operands]) (by kernel_rfl)).trans rfl
                have f6 : a.tmps.getD 6 undef = .pointer (some ⟨wr.heap.size, 0, none⟩) := e6
                have g6 : a.tmps[6]?.getD undef = .pointer (some ⟨wr.heap.size, 0, none⟩) := by rw [← Array.getD_eq_getD_getElem?]; exact e6
                have hK := KC.out w2 hC
                refine op_val (.agg #[.int .i64 k, .string p, .string l, .int .i64 m, .int .i64 u, .int .i64 g0, .int .i64 t, .string us, .string gr, .string b]) ?_ hC (Below.refl _ _) (by intro d hd; cases hd; rfl)
                (clear hV hI hC; go_simp <;> (first | rfl | simp))
              case o40 =>
                intro Q a w2 hC hV hI
                have e6 : a.eval (.tmp 6) = .pointer (some ⟨wr.heap.size, 0, none⟩) := (hI 6 (by simp [Op.operands]) (by kernel_rfl)).trans rfl
                have f6 : a.tmps.getD 6 undef = .pointer (some ⟨wr.heap.size, 0, none⟩) := e6
                have g6 : a.tmps[6]?.getD undef = .pointer (some ⟨wr.heap.size, 0, none⟩) := by rw [← Array.getD_eq_getD_getElem?]; exact e6
                refine op_val (.pointer (some ⟨wr.heap.size, 0, none⟩)) ?_ hC (Below.refl _ _) (by intro d hd; cases hd; rfl)
                (clear hV hI hC; go_simp <;> (first | rfl | simp))
              case o41 =>
                intro Q a w2 hC hV hI
                have e40 : a.eval (.tmp 40) = .pointer (some ⟨wr.heap.size, 0, none⟩) := hV 40 (by simp [Op.operands]) (by kernel_rfl)
                have f40 : a.tmps.getD 40 undef = .pointer (some ⟨wr.heap.size, 0, none⟩) := e40
                have g40 : a.tmps[40]?.getD undef = .pointer (some ⟨wr.heap.size, 0, none⟩) := by rw [← Array.getD_eq_getD_getElem?]; exact e40
                have hK := KC.out w2 hC
                refine op_val (.int .i64 k) ?_ hC (Below.refl _ _) (by intro d hd; cases hd; rfl)
                (clear hV hI hC; go_simp <;> (first | rfl | simp))
              case o42 =>
                intro Q a w2 hC hV hI
                have e41 : a.eval (.tmp 41) = .int .i64 k := hV 41 (by simp [Op.operands, Call.operands]) (by kernel_rfl)
                have f41 : a.tmps.getD 41 undef = .int .i64 k := e41
                have g41 : a.tmps[41]?.getD undef = .int .i64 k := by rw [← Array.getD_eq_getD_getElem?]; exact e41
                refine op_call (f := 19) (args := #[.int .i64 k]) (R := fun v y => v = .string fl ∧ Below w2.heap.size w2 y) ?_ ((HFl.out w2).mono ?_) ?_
                · (clear hV hI hC; go_simp <;> (first | rfl | simp))
                · rintro e y ⟨rfl, hb⟩; exact ⟨_, rfl, rfl, hb⟩
                · rintro v y ⟨rfl, hb⟩; exact ⟨hC.trans (hb.mono hC.size), hb, by intro d hd; cases hd; rfl⟩
              case o43 =>
                intro Q a w2 hC hV hI
                have e6 : a.eval (.tmp 6) = .pointer (some ⟨wr.heap.size, 0, none⟩) := (hI 6 (by simp [Op.operands]) (by kernel_rfl)).trans rfl
                have f6 : a.tmps.getD 6 undef = .pointer (some ⟨wr.heap.size, 0, none⟩) := e6
                have g6 : a.tmps[6]?.getD undef = .pointer (some ⟨wr.heap.size, 0, none⟩) := by rw [← Array.getD_eq_getD_getElem?]; exact e6
                refine op_val (.pointer (some ⟨wr.heap.size, 9, none⟩)) ?_ hC (Below.refl _ _) (by intro d hd; cases hd; rfl)
                (clear hV hI hC; go_simp <;> (first | rfl | simp))
              case o44 =>
                intro Q a w2 hC hV hI
                have e43 : a.eval (.tmp 43) = .pointer (some ⟨wr.heap.size, 9, none⟩) := hV 43 (by simp [Op.operands]) (by kernel_rfl)
                have f43 : a.tmps.getD 43 undef = .pointer (some ⟨wr.heap.size, 9, none⟩) := e43
                have g43 : a.tmps[43]?.getD undef = .pointer (some ⟨wr.heap.size, 9, none⟩) := by rw [← Array.getD_eq_getD_getElem?]; exact e43
                have hK := KC.out w2 hC
                refine op_val (.string b) ?_ hC (Below.refl _ _) (by intro d hd; cases hd; rfl)
                (clear hV hI hC; go_simp <;> (first | rfl | simp))
              case o45 =>
                intro Q a w2 hC hV hI
                have e44 : a.eval (.tmp 44) = .string b := hV 44 (by simp [Op.operands, Call.operands]) (by kernel_rfl)
                have f44 : a.tmps.getD 44 undef = .string b := e44
                have g44 : a.tmps[44]?.getD undef = .string b := by rw [← Array.getD_eq_getD_getElem?]; exact e44
                refine op_val (.int .i64 (b.size : Int)) ?_ hC (Below.refl _ _) (by intro d hd; cases hd; rfl)
                (clear hV hI hC; go_simp <;> (first | rfl | simp))
              case o46 =>
                intro Q a w2 hC hV hI
                have e39 : a.eval (.tmp 39) = .agg #[.int .i64 k, .string p, .string l, .int .i64 m, .int .i64 u, .int .i64 g0, .int .i64 t, .string us, .string gr, .string b] := hV 39 (by simp [Op.operands, Call.operands]) (by kernel_rfl)
                have f39 : a.tmps.getD 39 undef = .agg #[.int .i64 k, .string p, .string l, .int .i64 m, .int .i64 u, .int .i64 g0, .int .i64 t, .string us, .string gr, .string b] := e39
                have g39 : a.tmps[39]?.getD undef = .agg #[.int .i64 k, .string p, .string l, .int .i64 m, .int .i64 u, .int .i64 g0, .int .i64 t, .string us, .string gr, .string b] := by rw [← Array.getD_eq_getD_getElem?]; exact e39
                have e42 : a.eval (.tmp 42) = .string fl := hV 42 (by simp [Op.operands, Call.operands]) (by kernel_rfl)
                have f42 : a.tmps.getD 42 undef = .string fl := e42
                have g42 : a.tmps[42]?.getD undef = .string fl := by rw [← Array.getD_eq_getD_getElem?]; exact e42
                have e45 : a.eval (.tmp 45) = .int .i64 (b.size : Int) := hV 45 (by simp [Op.operands, Call.operands]) (by kernel_rfl)
                have f45 : a.tmps.getD 45 undef = .int .i64 (b.size : Int) := e45
                have g45 : a.tmps[45]?.getD undef = .int .i64 (b.size : Int) := by rw [← Array.getD_eq_getD_getElem?]; exact e45
                refine op_call (f := 18) (args := #[.agg #[.int .i64 k, .string p, .string l, .int .i64 m, .int .i64 u, .int .i64 g0, .int .i64 t, .string us, .string gr, .string b], .string fl, .int .i64 (b.size : Int)]) (R := fun v y => v = .string hd ∧ Below w2.heap.size w2 y) ?_ ((HH.out w2).mono ?_) ?_
                · (clear hV hI hC; go_simp <;> (first | rfl | simp))
                · rintro e y ⟨rfl, hb⟩; exact ⟨_, rfl, rfl, hb⟩
                · rintro v y ⟨rfl, hb⟩; exact ⟨hC.trans (hb.mono hC.size), hb, by intro d hd; cases hd; rfl⟩
              case o47 =>
                intro Q a w2 hC hV hI
                have e38 : a.eval (.tmp 38) = .string Ta := hV 38 (by simp [Op.operands]) (by kernel_rfl)
                have f38 : a.tmps.getD 38 undef = .string Ta := e38
                have g38 : a.tmps[38]?.getD undef = .string Ta := by rw [← Array.getD_eq_getD_getElem?]; exact e38
                have e46 : a.eval (.tmp 46) = .string hd := hV 46 (by simp [Op.operands]) (by kernel_rfl)
                have f46 : a.tmps.getD 46 undef = .string hd := e46
                have g46 : a.tmps[46]?.getD undef = .string hd := by rw [← Array.getD_eq_getD_getElem?]; exact e46
                refine op_val (.string x47) ?_ hC (Below.refl _ _) (by intro d hd; cases hd; rfl)
                have q := HA47.out w2
                (clear hV hI hC; go_simp <;> (first | rfl | simp))
              case o48 =>
                intro Q a w2 hC hV hI
                have e6 : a.eval (.tmp 6) = .pointer (some ⟨wr.heap.size, 0, none⟩) := (hI 6 (by simp [Op.operands]) (by kernel_rfl)).trans rfl
                have f6 : a.tmps.getD 6 undef = .pointer (some ⟨wr.heap.size, 0, none⟩) := e6
                have g6 : a.tmps[6]?.getD undef = .pointer (some ⟨wr.heap.size, 0, none⟩) := by rw [← Array.getD_eq_getD_getElem?]; exact e6
                refine op_val (.pointer (some ⟨wr.heap.size, 9, none⟩)) ?_ hC (Below.refl _ _) (by intro d hd; cases hd; rfl)
                (clear hV hI hC; go_simp <;> (first | rfl | simp))
              case o49 =>
                intro Q a w2 hC hV hI
                have e48 : a.eval (.tmp 48) = .pointer (some ⟨wr.heap.size, 9, none⟩) := hV 48 (by simp [Op.operands]) (by kernel_rfl)
                have f48 : a.tmps.getD 48 undef = .pointer (some ⟨wr.heap.size, 9, none⟩) := e48
                have g48 : a.tmps[48]?.getD undef = .pointer (some ⟨wr.heap.size, 9, none⟩) := by rw [← Array.getD_eq_getD_getElem?]; exact e48
                have hK := KC.out w2 hC
                refine op_val (.string b) ?_ hC (Below.refl _ _) (by intro d hd; cases hd; rfl)
                (clear hV hI hC; go_simp <;> (first | rfl | simp))
              case o50 =>
                intro Q a w2 hC hV hI
                have e49 : a.eval (.tmp 49) = .string b := hV 49 (by simp [Op.operands, Call.operands]) (by kernel_rfl)
                have f49 : a.tmps.getD 49 undef = .string b := e49
                have g49 : a.tmps[49]?.getD undef = .string b := by rw [← Array.getD_eq_getD_getElem?]; exact e49
                refine op_call (f := 20) (args := #[.string b]) (R := fun v y => v = .string bb ∧ Below w2.heap.size w2 y) ?_ ((HBd.out w2).mono ?_) ?_
                · (clear hV hI hC; go_simp <;> (first | rfl | simp))
                · rintro e y ⟨rfl, hb⟩; exact ⟨_, rfl, rfl, hb⟩
                · rintro v y ⟨rfl, hb⟩; exact ⟨hC.trans (hb.mono hC.size), hb, by intro d hd; cases hd; rfl⟩
              case o51 =>
                intro Q a w2 hC hV hI
                have e47 : a.eval (.tmp 47) = .string x47 := hV 47 (by simp [Op.operands]) (by kernel_rfl)
                have f47 : a.tmps.getD 47 undef = .string x47 := e47
                have g47 : a.tmps[47]?.getD undef = .string x47 := by rw [← Array.getD_eq_getD_getElem?]; exact e47
                have e50 : a.eval (.tmp 50) = .string bb := hV 50 (by simp [Op.operands]) (by kernel_rfl)
                have f50 : a.tmps.getD 50 undef = .string bb := e50
                have g50 : a.tmps[50]?.getD undef = .string bb := by rw [← Array.getD_eq_getD_getElem?]; exact e50
                refine op_val (.string x51) ?_ hC (Below.refl _ _) (by intro d hd; cases hd; rfl)
                have q := HA51.out w2
                (clear hV hI hC; go_simp <;> (first | rfl | simp))
              case o4 =>
                intro Q a w2 hC hV hI
                have e51 : a.eval (.tmp 51) = .string x51 := hV 51 (by simp [Op.operands]) (by kernel_rfl)
                have f51 : a.tmps.getD 51 undef = .string x51 := e51
                have g51 : a.tmps[51]?.getD undef = .string x51 := by rw [← Array.getD_eq_getD_getElem?]; exact e51
                refine op_val (.string x51) ?_ hC (Below.refl _ _) (by intro d hd; cases hd; rfl)
                (clear hV hI hC; go_simp <;> (first | rfl | simp))
            case hend =>
              intro f w13 hC hall
              clear HA47 HA51
              simp only [List.forall_mem_cons] at hall
              obtain ⟨h38, h39, h40, h41, h42, h43, h44, h45, h46, h47, h48, h49, h50, h51, h4, _⟩ := hall
              replace h38 : f 38 = .string Ta := h38 38 rfl
              replace h39 : f 39 = .agg #[.int .i64 k, .string p, .string l, .int .i64 m, .int .i64 u, .int .i64 g0, .int .i64 t, .string us, .string gr, .string b] := h39 39 rfl
              replace h40 : f 40 = .pointer (some ⟨wr.heap.size, 0, none⟩) := h40 40 rfl
              replace h41 : f 41 = .int .i64 k := h41 41 rfl
              replace h42 : f 42 = .string fl := h42 42 rfl
              replace h43 : f 43 = .pointer (some ⟨wr.heap.size, 9, none⟩) := h43 43 rfl
              replace h44 : f 44 = .string b := h44 44 rfl
              replace h45 : f 45 = .int .i64 (b.size : Int) := h45 45 rfl
              replace h46 : f 46 = .string hd := h46 46 rfl
              replace h47 : f 47 = .string x47 := h47 47 rfl
              replace h48 : f 48 = .pointer (some ⟨wr.heap.size, 9, none⟩) := h48 48 rfl
              replace h49 : f 49 = .string b := h49 49 rfl
              replace h50 : f 50 = .string bb := h50 50 rfl
              replace h51 : f 51 = .string x51 := h51 51 rfl
              replace h4 : f 4 = .string x51 := h4 4 rfl
              simp only [putAll, Act.put, List.setIfInBounds_toArray, List.set_cons_succ, List.set_cons_zero, h38, h39, h40, h41, h42, h43, h44, h45, h46, h47, h48, h49, h50, h51, h4]
              clear h38 h39 h40 h41 h42 h43 h44 h45 h46 h47 h48 h49 h50 h51 h4
              have HXX : Hid (gpiecesTo L (i + 1) = x51) := Lib.hid (by rw [HS.out, eB.out, eA.out, HX51.out, HX47.out, HTa.out])
              have B13 := Lib.hid (btE B11.out hC)
              clear hC KC HS X11 B11 HX47 HX51
              go_wp2_with fail
              go_roundw
              case rel => exact ⟨i + 1, by rw [HXX.out], by go_num, by omega, B13.out⟩
              case measure => simp [intOf]; omega
        · have eA := Lib.hid (eAn.out q1)
          clear eAy eAn
          by_cases q2 : (100 : Int) < l.size
          · have eB := Lib.hid (eBy.out TA q2)
            clear eBy eBn
            go_wp2_with fail
            have E0 := EntAt.new wr ⟨k, p, l, m, u, g0, t, us, gr, b⟩ 34
            have B0 := (Below.refl wr.heap.size wr).alloc (Nat.le_refl _) (.cells (Ent.cells ⟨k, p, l, m, u, g0, t, us, gr, b⟩).toArray 34)
            have X0 : (wr.alloc (.cells (Ent.cells ⟨k, p, l, m, u, g0, t, us, gr, b⟩).toArray 34)).heap[wr.heap.size]? = some (.cells (Ent.cells ⟨k, p, l, m, u, g0, t, us, gr, b⟩).toArray 34 (0, 0)) := heap_alloc_last _ _
            have z0 : wr.heap.size < (wr.alloc (.cells (Ent.cells ⟨k, p, l, m, u, g0, t, us, gr, b⟩).toArray 34)).heap.size := by simp
            simp only [Ent.cells] at E0 B0 z0 X0
            generalize wr.alloc (.cells #[.int .i64 k, .string p, .string l, .int .i64 m, .int .i64 u, .int .i64 g0, .int .i64 t, .string us, .string gr, .string b] 34) = w10 at *
            have E1 := Lib.hid E0
            have X1 := Lib.hid X0
            have B1 := Lib.hid (btE B.out B0)
            clear E0 B0 X0 B c0 c1 c2 c3 c4 c5 c6 c7 c8 c9
            have X10 : Hid (EntO w10 wr.heap.size ⟨k, p, l, m, u, g0, t, us, gr, b⟩) := X1
            have B10 := B1
            clear E1 X1 B1 z0
            refine (HKn.out _).mono ?_
            rintro e w12 ⟨rfl, hb⟩
            have B12 := Lib.hid (btE B10.out hb)
            have X12 := Lib.hid (EntO.below X10.out hb X10.out.lt)
            clear hb  B10 X10
            obtain ⟨c0, c1, c2, c3, c4, c5, c6, c7, c8, c9⟩ := X12.out.at.zero
            obtain ⟨Tb, hTb⟩ : ∃ x : ByteArray, x = T ++ lk := ⟨_, rfl⟩
            have zTb : Tb.size ≤ 200550 := by rw [hTb, ByteArray.size_append]; omega
            have HTb := Lib.hid hTb
            have HAb : Hid (∀ w, (Op.stringOp .add T lk).run Tryz.prog w = .ok (.string Tb) w) := Lib.hid (fun w => by rw [HTb.out]; exact run_string_add_sum w _ _ (by omega))
            clear hTb
            have hb9 := HAb.out w12
            go_wp2_with fail
            clear c0 c1 c2 c3 c4 c5 c6 c7 c8 c9 hb9 HAb
            have KC : Hid (∀ w', Below w12.heap.size w12 w' → w'.cell? ⟨wr.heap.size, 0, none⟩ = some (.int .i64 k) ∧ w'.cell? ⟨wr.heap.size, 1, none⟩ = some (.string p) ∧ w'.cell? ⟨wr.heap.size, 2, none⟩ = some (.string l) ∧ w'.cell? ⟨wr.heap.size, 3, none⟩ = some (.int .i64 m) ∧ w'.cell? ⟨wr.heap.size, 4, none⟩ = some (.int .i64 u) ∧ w'.cell? ⟨wr.heap.size, 5, none⟩ = some (.int .i64 g0) ∧ w'.cell? ⟨wr.heap.size, 6, none⟩ = some (.int .i64 t) ∧ w'.cell? ⟨wr.heap.size, 7, none⟩ = some (.string us) ∧ w'.cell? ⟨wr.heap.size, 8, none⟩ = some (.string gr) ∧ w'.cell? ⟨wr.heap.size, 9, none⟩ = some (.string b)) := Lib.hid (fun w' hb => by obtain ⟨c0, c1, c2, c3, c4, c5, c6, c7, c8, c9⟩ := (X12.out.below hb X12.out.lt).at.zero; exact ⟨c0, c1, c2, c3, c4, c5, c6, c7, c8, c9⟩)
            obtain ⟨x47, hx47⟩ : ∃ x : ByteArray, x = Tb ++ hd := ⟨_, rfl⟩
            obtain ⟨x51, hx51⟩ : ∃ x : ByteArray, x = x47 ++ bb := ⟨_, rfl⟩
            have zx47 : x47.size ≤ 201062 := by rw [hx47, ByteArray.size_append]; omega
            have zx51 : x51.size ≤ 204573 := by rw [hx51, ByteArray.size_append]; omega
            have HA47 : Hid (∀ w, (Op.stringOp .add Tb hd).run Tryz.prog w = .ok (.string x47) w) := Lib.hid (fun w => by rw [hx47]; exact run_string_add_sum w _ _ (by omega))
            have HA51 : Hid (∀ w, (Op.stringOp .add x47 bb).run Tryz.prog w = .ok (.string x51) w) := Lib.hid (fun w => by rw [hx51]; exact run_string_add_sum w _ _ (by omega))
            have HX47 := Lib.hid hx47
            have HX51 := Lib.hid hx51
            clear hx47 hx51
            refine wp_region_inv (by kernel_rfl) (fun w' => Below w12.heap.size w12 w') (fun x y => Below x.heap.size x y) (fun d v _ => match d with | 38 => v = .string Tb | 39 => v = .agg #[.int .i64 k, .string p, .string l, .int .i64 m, .int .i64 u, .int .i64 g0, .int .i64 t, .string us, .string gr, .string b] | 40 => v = .pointer (some ⟨wr.heap.size, 0, none⟩) | 41 => v = .int .i64 k | 42 => v = .string fl | 43 => v = .pointer (some ⟨wr.heap.size, 9, none⟩) | 44 => v = .string b | 45 => v = .int .i64 (b.size : Int) | 46 => v = .string hd | 47 => v = .string x47 | 48 => v = .pointer (some ⟨wr.heap.size, 9, none⟩) | 49 => v = .string b | 50 => v = .string bb | 51 => v = .string x51 | 4 => v = .string x51 | _ => True) (by kernel_rfl) ((Below.refl _ _).drew) (fun _ _ _ _ _ _ h => h) ?hops ?hend
            case hops =>
              simp only [List.forall_mem_cons]
              refine ⟨?o38, ?o39, ?o40, ?o41, ?o42, ?o43, ?o44, ?o45, ?o46, ?o47, ?o48, ?o49, ?o50, ?o51, ?o4, fun _ h => by cases h⟩
              case o38 =>
                intro Q a w2 hC hV hI
                have e4 : a.eval (.tmp 4) = .string Tb := (hI 4 (by simp [Op.operands]) (by kernel_rfl)).trans rfl
                have f4 : a.tmps.getD 4 undef = .string Tb := e4
                have g4 : a.tmps[4]?.getD undef = .string Tb := by rw [← Array.getD_eq_getD_getElem?]; exact e4
                refine op_val (.string Tb) ?_ hC (Below.refl _ _) (by intro d hd; cases hd; rfl)
                (clear hV hI hC; go_simp <;> (first | rfl | simp))
              case o39 =>
                intro Q a w2 hC hV hI
                have e6 : a.eval (.tmp 6) = .pointer (some ⟨wr.heap.size, 0, none⟩) := (hI 6 (by simp [Op.operands]) (by kernel_rfl)).trans rfl
                have f6 : a.tmps.getD 6 undef = .pointer (some ⟨wr.heap.size, 0, none⟩) := e6
                have g6 : a.tmps[6]?.getD undef = .pointer (some ⟨wr.heap.size, 0, none⟩) := by rw [← Array.getD_eq_getD_getElem?]; exact e6
                have hK := KC.out w2 hC
                refine op_val (.agg #[.int .i64 k, .string p, .string l, .int .i64 m, .int .i64 u, .int .i64 g0, .int .i64 t, .string us, .string gr, .string b]) ?_ hC (Below.refl _ _) (by intro d hd; cases hd; rfl)
                (clear hV hI hC; go_simp <;> (first | rfl | simp))
              case o40 =>
                intro Q a w2 hC hV hI
                have e6 : a.eval (.tmp 6) = .pointer (some ⟨wr.heap.size, 0, none⟩) := (hI 6 (by simp [Op.operands]) (by kernel_rfl)).trans rfl
                have f6 : a.tmps.getD 6 undef = .pointer (some ⟨wr.heap.size, 0, none⟩) := e6
                have g6 : a.tmps[6]?.getD undef = .pointer (some ⟨wr.heap.size, 0, none⟩) := by rw [← Array.getD_eq_getD_getElem?]; exact e6
                refine op_val (.pointer (some ⟨wr.heap.size, 0, none⟩)) ?_ hC (Below.refl _ _) (by intro d hd; cases hd; rfl)
                (clear hV hI hC; go_simp <;> (first | rfl | simp))
              case o41 =>
                intro Q a w2 hC hV hI
                have e40 : a.eval (.tmp 40) = .pointer (some ⟨wr.heap.size, 0, none⟩) := hV 40 (by simp [Op.operands]) (by kernel_rfl)
                have f40 : a.tmps.getD 40 undef = .pointer (some ⟨wr.heap.size, 0, none⟩) := e40
                have g40 : a.tmps[40]?.getD undef = .pointer (some ⟨wr.heap.size, 0, none⟩) := by rw [← Array.getD_eq_getD_getElem?]; exact e40
                have hK := KC.out w2 hC
                refine op_val (.int .i64 k) ?_ hC (Below.refl _ _) (by intro d hd; cases hd; rfl)
                (clear hV hI hC; go_simp <;> (first | rfl | simp))
              case o42 =>
                intro Q a w2 hC hV hI
                have e41 : a.eval (.tmp 41) = .int .i64 k := hV 41 (by simp [Op.operands, Call.operands]) (by kernel_rfl)
                have f41 : a.tmps.getD 41 undef = .int .i64 k := e41
                have g41 : a.tmps[41]?.getD undef = .int .i64 k := by rw [← Array.getD_eq_getD_getElem?]; exact e41
                refine op_call (f := 19) (args := #[.int .i64 k]) (R := fun v y => v = .string fl ∧ Below w2.heap.size w2 y) ?_ ((HFl.out w2).mono ?_) ?_
                · (clear hV hI hC; go_simp <;> (first | rfl | simp))
                · rintro e y ⟨rfl, hb⟩; exact ⟨_, rfl, rfl, hb⟩
                · rintro v y ⟨rfl, hb⟩; exact ⟨hC.trans (hb.mono hC.size), hb, by intro d hd; cases hd; rfl⟩
              case o43 =>
                intro Q a w2 hC hV hI
                have e6 : a.eval (.tmp 6) = .pointer (some ⟨wr.heap.size, 0, none⟩) := (hI 6 (by simp [Op.operands]) (by kernel_rfl)).trans rfl
                have f6 : a.tmps.getD 6 undef = .pointer (some ⟨wr.heap.size, 0, none⟩) := e6
                have g6 : a.tmps[6]?.getD undef = .pointer (some ⟨wr.heap.size, 0, none⟩) := by rw [← Array.getD_eq_getD_getElem?]; exact e6
                refine op_val (.pointer (some ⟨wr.heap.size, 9, none⟩)) ?_ hC (Below.refl _ _) (by intro d hd; cases hd; rfl)
                (clear hV hI hC; go_simp <;> (first | rfl | simp))
              case o44 =>
                intro Q a w2 hC hV hI
                have e43 : a.eval (.tmp 43) = .pointer (some ⟨wr.heap.size, 9, none⟩) := hV 43 (by simp [Op.operands]) (by kernel_rfl)
                have f43 : a.tmps.getD 43 undef = .pointer (some ⟨wr.heap.size, 9, none⟩) := e43
                have g43 : a.tmps[43]?.getD undef = .pointer (some ⟨wr.heap.size, 9, none⟩) := by rw [← Array.getD_eq_getD_getElem?]; exact e43
                have hK := KC.out w2 hC
                refine op_val (.string b) ?_ hC (Below.refl _ _) (by intro d hd; cases hd; rfl)
                (clear hV hI hC; go_simp <;> (first | rfl | simp))
              case o45 =>
                intro Q a w2 hC hV hI
                have e44 : a.eval (.tmp 44) = .string b := hV 44 (by simp [Op.operands, Call.operands]) (by kernel_rfl)
                have f44 : a.tmps.getD 44 undef = .string b := e44
                have g44 : a.tmps[44]?.getD undef = .string b := by rw [← Array.getD_eq_getD_getElem?]; exact e44
                refine op_val (.int .i64 (b.size : Int)) ?_ hC (Below.refl _ _) (by intro d hd; cases hd; rfl)
                (clear hV hI hC; go_simp <;> (first | rfl | simp))
              case o46 =>
                intro Q a w2 hC hV hI
                have e39 : a.eval (.tmp 39) = .agg #[.int .i64 k, .string p, .string l, .int .i64 m, .int .i64 u, .int .i64 g0, .int .i64 t, .string us, .string gr, .string b] := hV 39 (by simp [Op.operands, Call.operands]) (by kernel_rfl)
                have f39 : a.tmps.getD 39 undef = .agg #[.int .i64 k, .string p, .string l, .int .i64 m, .int .i64 u, .int .i64 g0, .int .i64 t, .string us, .string gr, .string b] := e39
                have g39 : a.tmps[39]?.getD undef = .agg #[.int .i64 k, .string p, .string l, .int .i64 m, .int .i64 u, .int .i64 g0, .int .i64 t, .string us, .string gr, .string b] := by rw [← Array.getD_eq_getD_getElem?]; exact e39
                have e42 : a.eval (.tmp 42) = .string fl := hV 42 (by simp [Op.operands, Call.operands]) (by kernel_rfl)
                have f42 : a.tmps.getD 42 undef = .string fl := e42
                have g42 : a.tmps[42]?.getD undef = .string fl := by rw [← Array.getD_eq_getD_getElem?]; exact e42
                have e45 : a.eval (.tmp 45) = .int .i64 (b.size : Int) := hV 45 (by simp [Op.operands, Call.operands]) (by kernel_rfl)
                have f45 : a.tmps.getD 45 undef = .int .i64 (b.size : Int) := e45
                have g45 : a.tmps[45]?.getD undef = .int .i64 (b.size : Int) := by rw [← Array.getD_eq_getD_getElem?]; exact e45
                refine op_call (f := 18) (args := #[.agg #[.int .i64 k, .string p, .string l, .int .i64 m, .int .i64 u, .int .i64 g0, .int .i64 t, .string us, .string gr, .string b], .string fl, .int .i64 (b.size : Int)]) (R := fun v y => v = .string hd ∧ Below w2.heap.size w2 y) ?_ ((HH.out w2).mono ?_) ?_
                · (clear hV hI hC; go_simp <;> (first | rfl | simp))
                · rintro e y ⟨rfl, hb⟩; exact ⟨_, rfl, rfl, hb⟩
                · rintro v y ⟨rfl, hb⟩; exact ⟨hC.trans (hb.mono hC.size), hb, by intro d hd; cases hd; rfl⟩
              case o47 =>
                intro Q a w2 hC hV hI
                have e38 : a.eval (.tmp 38) = .string Tb := hV 38 (by simp [Op.operands]) (by kernel_rfl)
                have f38 : a.tmps.getD 38 undef = .string Tb := e38
                have g38 : a.tmps[38]?.getD undef = .string Tb := by rw [← Array.getD_eq_getD_getElem?]; exact e38
                have e46 : a.eval (.tmp 46) = .string hd := hV 46 (by simp [Op.operands]) (by kernel_rfl)
                have f46 : a.tmps.getD 46 undef = .string hd := e46
                have g46 : a.tmps[46]?.getD undef = .string hd := by rw [← Array.getD_eq_getD_getElem?]; exact e46
                refine op_val (.string x47) ?_ hC (Below.refl _ _) (by intro d hd; cases hd; rfl)
                have q := HA47.out w2
                (clear hV hI hC; go_simp <;> (first | rfl | simp))
              case o48 =>
                intro Q a w2 hC hV hI
                have e6 : a.eval (.tmp 6) = .pointer (some ⟨wr.heap.size, 0, none⟩) := (hI 6 (by simp [Op.operands]) (by kernel_rfl)).trans rfl
                have f6 : a.tmps.getD 6 undef = .pointer (some ⟨wr.heap.size, 0, none⟩) := e6
                have g6 : a.tmps[6]?.getD undef = .pointer (some ⟨wr.heap.size, 0, none⟩) := by rw [← Array.getD_eq_getD_getElem?]; exact e6
                refine op_val (.pointer (some ⟨wr.heap.size, 9, none⟩)) ?_ hC (Below.refl _ _) (by intro d hd; cases hd; rfl)
                (clear hV hI hC; go_simp <;> (first | rfl | simp))
              case o49 =>
                intro Q a w2 hC hV hI
                have e48 : a.eval (.tmp 48) = .pointer (some ⟨wr.heap.size, 9, none⟩) := hV 48 (by simp [Op.operands]) (by kernel_rfl)
                have f48 : a.tmps.getD 48 undef = .pointer (some ⟨wr.heap.size, 9, none⟩) := e48
                have g48 : a.tmps[48]?.getD undef = .pointer (some ⟨wr.heap.size, 9, none⟩) := by rw [← Array.getD_eq_getD_getElem?]; exact e48
                have hK := KC.out w2 hC
                refine op_val (.string b) ?_ hC (Below.refl _ _) (by intro d hd; cases hd; rfl)
                (clear hV hI hC; go_simp <;> (first | rfl | simp))
              case o50 =>
                intro Q a w2 hC hV hI
                have e49 : a.eval (.tmp 49) = .string b := hV 49 (by simp [Op.operands, Call.operands]) (by kernel_rfl)
                have f49 : a.tmps.getD 49 undef = .string b := e49
                have g49 : a.tmps[49]?.getD undef = .string b := by rw [← Array.getD_eq_getD_getElem?]; exact e49
                refine op_call (f := 20) (args := #[.string b]) (R := fun v y => v = .string bb ∧ Below w2.heap.size w2 y) ?_ ((HBd.out w2).mono ?_) ?_
                · (clear hV hI hC; go_simp <;> (first | rfl | simp))
                · rintro e y ⟨rfl, hb⟩; exact ⟨_, rfl, rfl, hb⟩
                · rintro v y ⟨rfl, hb⟩; exact ⟨hC.trans (hb.mono hC.size), hb, by intro d hd; cases hd; rfl⟩
              case o51 =>
                intro Q a w2 hC hV hI
                have e47 : a.eval (.tmp 47) = .string x47 := hV 47 (by simp [Op.operands]) (by kernel_rfl)
                have f47 : a.tmps.getD 47 undef = .string x47 := e47
                have g47 : a.tmps[47]?.getD undef = .string x47 := by rw [← Array.getD_eq_getD_getElem?]; exact e47
                have e50 : a.eval (.tmp 50) = .string bb := hV 50 (by simp [Op.operands]) (by kernel_rfl)
                have f50 : a.tmps.getD 50 undef = .string bb := e50
                have g50 : a.tmps[50]?.getD undef = .string bb := by rw [← Array.getD_eq_getD_getElem?]; exact e50
                refine op_val (.string x51) ?_ hC (Below.refl _ _) (by intro d hd; cases hd; rfl)
                have q := HA51.out w2
                (clear hV hI hC; go_simp <;> (first | rfl | simp))
              case o4 =>
                intro Q a w2 hC hV hI
                have e51 : a.eval (.tmp 51) = .string x51 := hV 51 (by simp [Op.operands]) (by kernel_rfl)
                have f51 : a.tmps.getD 51 undef = .string x51 := e51
                have g51 : a.tmps[51]?.getD undef = .string x51 := by rw [← Array.getD_eq_getD_getElem?]; exact e51
                refine op_val (.string x51) ?_ hC (Below.refl _ _) (by intro d hd; cases hd; rfl)
                (clear hV hI hC; go_simp <;> (first | rfl | simp))
            case hend =>
              intro f w13 hC hall
              clear HA47 HA51
              simp only [List.forall_mem_cons] at hall
              obtain ⟨h38, h39, h40, h41, h42, h43, h44, h45, h46, h47, h48, h49, h50, h51, h4, _⟩ := hall
              replace h38 : f 38 = .string Tb := h38 38 rfl
              replace h39 : f 39 = .agg #[.int .i64 k, .string p, .string l, .int .i64 m, .int .i64 u, .int .i64 g0, .int .i64 t, .string us, .string gr, .string b] := h39 39 rfl
              replace h40 : f 40 = .pointer (some ⟨wr.heap.size, 0, none⟩) := h40 40 rfl
              replace h41 : f 41 = .int .i64 k := h41 41 rfl
              replace h42 : f 42 = .string fl := h42 42 rfl
              replace h43 : f 43 = .pointer (some ⟨wr.heap.size, 9, none⟩) := h43 43 rfl
              replace h44 : f 44 = .string b := h44 44 rfl
              replace h45 : f 45 = .int .i64 (b.size : Int) := h45 45 rfl
              replace h46 : f 46 = .string hd := h46 46 rfl
              replace h47 : f 47 = .string x47 := h47 47 rfl
              replace h48 : f 48 = .pointer (some ⟨wr.heap.size, 9, none⟩) := h48 48 rfl
              replace h49 : f 49 = .string b := h49 49 rfl
              replace h50 : f 50 = .string bb := h50 50 rfl
              replace h51 : f 51 = .string x51 := h51 51 rfl
              replace h4 : f 4 = .string x51 := h4 4 rfl
              simp only [putAll, Act.put, List.setIfInBounds_toArray, List.set_cons_succ, List.set_cons_zero, h38, h39, h40, h41, h42, h43, h44, h45, h46, h47, h48, h49, h50, h51, h4]
              clear h38 h39 h40 h41 h42 h43 h44 h45 h46 h47 h48 h49 h50 h51 h4
              have HXX : Hid (gpiecesTo L (i + 1) = x51) := Lib.hid (by rw [HS.out, eB.out, eA.out, HX51.out, HX47.out, HTb.out])
              have B13 := Lib.hid (btE B12.out hC)
              clear hC KC HS X12 B12 HX47 HX51
              go_wp2_with fail
              go_roundw
              case rel => exact ⟨i + 1, by rw [HXX.out], by go_num, by omega, B13.out⟩
              case measure => simp [intOf]; omega
          · have eB := Lib.hid (eBn.out TA q2)
            clear eBy eBn
            go_wp2_with fail
            have E0 := EntAt.new wr ⟨k, p, l, m, u, g0, t, us, gr, b⟩ 34
            have B0 := (Below.refl wr.heap.size wr).alloc (Nat.le_refl _) (.cells (Ent.cells ⟨k, p, l, m, u, g0, t, us, gr, b⟩).toArray 34)
            have X0 : (wr.alloc (.cells (Ent.cells ⟨k, p, l, m, u, g0, t, us, gr, b⟩).toArray 34)).heap[wr.heap.size]? = some (.cells (Ent.cells ⟨k, p, l, m, u, g0, t, us, gr, b⟩).toArray 34 (0, 0)) := heap_alloc_last _ _
            have z0 : wr.heap.size < (wr.alloc (.cells (Ent.cells ⟨k, p, l, m, u, g0, t, us, gr, b⟩).toArray 34)).heap.size := by simp
            simp only [Ent.cells] at E0 B0 z0 X0
            generalize wr.alloc (.cells #[.int .i64 k, .string p, .string l, .int .i64 m, .int .i64 u, .int .i64 g0, .int .i64 t, .string us, .string gr, .string b] 34) = w10 at *
            have E1 := Lib.hid E0
            have X1 := Lib.hid X0
            have B1 := Lib.hid (btE B.out B0)
            clear E0 B0 X0 B c0 c1 c2 c3 c4 c5 c6 c7 c8 c9
            have X10 : Hid (EntO w10 wr.heap.size ⟨k, p, l, m, u, g0, t, us, gr, b⟩) := X1
            have B10 := B1
            clear E1 X1 B1 z0
            have KC : Hid (∀ w', Below w10.heap.size w10 w' → w'.cell? ⟨wr.heap.size, 0, none⟩ = some (.int .i64 k) ∧ w'.cell? ⟨wr.heap.size, 1, none⟩ = some (.string p) ∧ w'.cell? ⟨wr.heap.size, 2, none⟩ = some (.string l) ∧ w'.cell? ⟨wr.heap.size, 3, none⟩ = some (.int .i64 m) ∧ w'.cell? ⟨wr.heap.size, 4, none⟩ = some (.int .i64 u) ∧ w'.cell? ⟨wr.heap.size, 5, none⟩ = some (.int .i64 g0) ∧ w'.cell? ⟨wr.heap.size, 6, none⟩ = some (.int .i64 t) ∧ w'.cell? ⟨wr.heap.size, 7, none⟩ = some (.string us) ∧ w'.cell? ⟨wr.heap.size, 8, none⟩ = some (.string gr) ∧ w'.cell? ⟨wr.heap.size, 9, none⟩ = some (.string b)) := Lib.hid (fun w' hb => by obtain ⟨c0, c1, c2, c3, c4, c5, c6, c7, c8, c9⟩ := (X10.out.below hb X10.out.lt).at.zero; exact ⟨c0, c1, c2, c3, c4, c5, c6, c7, c8, c9⟩)
            obtain ⟨x47, hx47⟩ : ∃ x : ByteArray, x = T ++ hd := ⟨_, rfl⟩
            obtain ⟨x51, hx51⟩ : ∃ x : ByteArray, x = x47 ++ bb := ⟨_, rfl⟩
            have zx47 : x47.size ≤ 201062 := by rw [hx47, ByteArray.size_append]; omega
            have zx51 : x51.size ≤ 204573 := by rw [hx51, ByteArray.size_append]; omega
            have HA47 : Hid (∀ w, (Op.stringOp .add T hd).run Tryz.prog w = .ok (.string x47) w) := Lib.hid (fun w => by rw [hx47]; exact run_string_add_sum w _ _ (by omega))
            have HA51 : Hid (∀ w, (Op.stringOp .add x47 bb).run Tryz.prog w = .ok (.string x51) w) := Lib.hid (fun w => by rw [hx51]; exact run_string_add_sum w _ _ (by omega))
            have HX47 := Lib.hid hx47
            have HX51 := Lib.hid hx51
            clear hx47 hx51
            refine wp_region_inv (by kernel_rfl) (fun w' => Below w10.heap.size w10 w') (fun x y => Below x.heap.size x y) (fun d v _ => match d with | 38 => v = .string T | 39 => v = .agg #[.int .i64 k, .string p, .string l, .int .i64 m, .int .i64 u, .int .i64 g0, .int .i64 t, .string us, .string gr, .string b] | 40 => v = .pointer (some ⟨wr.heap.size, 0, none⟩) | 41 => v = .int .i64 k | 42 => v = .string fl | 43 => v = .pointer (some ⟨wr.heap.size, 9, none⟩) | 44 => v = .string b | 45 => v = .int .i64 (b.size : Int) | 46 => v = .string hd | 47 => v = .string x47 | 48 => v = .pointer (some ⟨wr.heap.size, 9, none⟩) | 49 => v = .string b | 50 => v = .string bb | 51 => v = .string x51 | 4 => v = .string x51 | _ => True) (by kernel_rfl) ((Below.refl _ _).drew) (fun _ _ _ _ _ _ h => h) ?hops ?hend
            case hops =>
              simp only [List.forall_mem_cons]
              refine ⟨?o38, ?o39, ?o40, ?o41, ?o42, ?o43, ?o44, ?o45, ?o46, ?o47, ?o48, ?o49, ?o50, ?o51, ?o4, fun _ h => by cases h⟩
              case o38 =>
                intro Q a w2 hC hV hI
                have e4 : a.eval (.tmp 4) = .string T := (hI 4 (by simp [Op.operands]) (by kernel_rfl)).trans rfl
                have f4 : a.tmps.getD 4 undef = .string T := e4
                have g4 : a.tmps[4]?.getD undef = .string T := by rw [← Array.getD_eq_getD_getElem?]; exact e4
                refine op_val (.string T) ?_ hC (Below.refl _ _) (by intro d hd; cases hd; rfl)
                (clear hV hI hC; go_simp <;> (first | rfl | simp))
              case o39 =>
                intro Q a w2 hC hV hI
                have e6 : a.eval (.tmp 6) = .pointer (some ⟨wr.heap.size, 0, none⟩) := (hI 6 (by simp [Op.operands]) (by kernel_rfl)).trans rfl
                have f6 : a.tmps.getD 6 undef = .pointer (some ⟨wr.heap.size, 0, none⟩) := e6
                have g6 : a.tmps[6]?.getD undef = .pointer (some ⟨wr.heap.size, 0, none⟩) := by rw [← Array.getD_eq_getD_getElem?]; exact e6
                have hK := KC.out w2 hC
                refine op_val (.agg #[.int .i64 k, .string p, .string l, .int .i64 m, .int .i64 u, .int .i64 g0, .int .i64 t, .string us, .string gr, .string b]) ?_ hC (Below.refl _ _) (by intro d hd; cases hd; rfl)
                (clear hV hI hC; go_simp <;> (first | rfl | simp))
              case o40 =>
                intro Q a w2 hC hV hI
                have e6 : a.eval (.tmp 6) = .pointer (some ⟨wr.heap.size, 0, none⟩) := (hI 6 (by simp [Op.operands]) (by kernel_rfl)).trans rfl
                have f6 : a.tmps.getD 6 undef = .pointer (some ⟨wr.heap.size, 0, none⟩) := e6
                have g6 : a.tmps[6]?.getD undef = .pointer (some ⟨wr.heap.size, 0, none⟩) := by rw [← Array.getD_eq_getD_getElem?]; exact e6
                refine op_val (.pointer (some ⟨wr.heap.size, 0, none⟩)) ?_ hC (Below.refl _ _) (by intro d hd; cases hd; rfl)
                (clear hV hI hC; go_simp <;> (first | rfl | simp))
              case o41 =>
                intro Q a w2 hC hV hI
                have e40 : a.eval (.tmp 40) = .pointer (some ⟨wr.heap.size, 0, none⟩) := hV 40 (by simp [Op.operands]) (by kernel_rfl)
                have f40 : a.tmps.getD 40 undef = .pointer (some ⟨wr.heap.size, 0, none⟩) := e40
                have g40 : a.tmps[40]?.getD undef = .pointer (some ⟨wr.heap.size, 0, none⟩) := by rw [← Array.getD_eq_getD_getElem?]; exact e40
                have hK := KC.out w2 hC
                refine op_val (.int .i64 k) ?_ hC (Below.refl _ _) (by intro d hd; cases hd; rfl)
                (clear hV hI hC; go_simp <;> (first | rfl | simp))
              case o42 =>
                intro Q a w2 hC hV hI
                have e41 : a.eval (.tmp 41) = .int .i64 k := hV 41 (by simp [Op.operands, Call.operands]) (by kernel_rfl)
                have f41 : a.tmps.getD 41 undef = .int .i64 k := e41
                have g41 : a.tmps[41]?.getD undef = .int .i64 k := by rw [← Array.getD_eq_getD_getElem?]; exact e41
                refine op_call (f := 19) (args := #[.int .i64 k]) (R := fun v y => v = .string fl ∧ Below w2.heap.size w2 y) ?_ ((HFl.out w2).mono ?_) ?_
                · (clear hV hI hC; go_simp <;> (first | rfl | simp))
                · rintro e y ⟨rfl, hb⟩; exact ⟨_, rfl, rfl, hb⟩
                · rintro v y ⟨rfl, hb⟩; exact ⟨hC.trans (hb.mono hC.size), hb, by intro d hd; cases hd; rfl⟩
              case o43 =>
                intro Q a w2 hC hV hI
                have e6 : a.eval (.tmp 6) = .pointer (some ⟨wr.heap.size, 0, none⟩) := (hI 6 (by simp [Op.operands]) (by kernel_rfl)).trans rfl
                have f6 : a.tmps.getD 6 undef = .pointer (some ⟨wr.heap.size, 0, none⟩) := e6
                have g6 : a.tmps[6]?.getD undef = .pointer (some ⟨wr.heap.size, 0, none⟩) := by rw [← Array.getD_eq_getD_getElem?]; exact e6
                refine op_val (.pointer (some ⟨wr.heap.size, 9, none⟩)) ?_ hC (Below.refl _ _) (by intro d hd; cases hd; rfl)
                (clear hV hI hC; go_simp <;> (first | rfl | simp))
              case o44 =>
                intro Q a w2 hC hV hI
                have e43 : a.eval (.tmp 43) = .pointer (some ⟨wr.heap.size, 9, none⟩) := hV 43 (by simp [Op.operands]) (by kernel_rfl)
                have f43 : a.tmps.getD 43 undef = .pointer (some ⟨wr.heap.size, 9, none⟩) := e43
                have g43 : a.tmps[43]?.getD undef = .pointer (some ⟨wr.heap.size, 9, none⟩) := by rw [← Array.getD_eq_getD_getElem?]; exact e43
                have hK := KC.out w2 hC
                refine op_val (.string b) ?_ hC (Below.refl _ _) (by intro d hd; cases hd; rfl)
                (clear hV hI hC; go_simp <;> (first | rfl | simp))
              case o45 =>
                intro Q a w2 hC hV hI
                have e44 : a.eval (.tmp 44) = .string b := hV 44 (by simp [Op.operands, Call.operands]) (by kernel_rfl)
                have f44 : a.tmps.getD 44 undef = .string b := e44
                have g44 : a.tmps[44]?.getD undef = .string b := by rw [← Array.getD_eq_getD_getElem?]; exact e44
                refine op_val (.int .i64 (b.size : Int)) ?_ hC (Below.refl _ _) (by intro d hd; cases hd; rfl)
                (clear hV hI hC; go_simp <;> (first | rfl | simp))
              case o46 =>
                intro Q a w2 hC hV hI
                have e39 : a.eval (.tmp 39) = .agg #[.int .i64 k, .string p, .string l, .int .i64 m, .int .i64 u, .int .i64 g0, .int .i64 t, .string us, .string gr, .string b] := hV 39 (by simp [Op.operands, Call.operands]) (by kernel_rfl)
                have f39 : a.tmps.getD 39 undef = .agg #[.int .i64 k, .string p, .string l, .int .i64 m, .int .i64 u, .int .i64 g0, .int .i64 t, .string us, .string gr, .string b] := e39
                have g39 : a.tmps[39]?.getD undef = .agg #[.int .i64 k, .string p, .string l, .int .i64 m, .int .i64 u, .int .i64 g0, .int .i64 t, .string us, .string gr, .string b] := by rw [← Array.getD_eq_getD_getElem?]; exact e39
                have e42 : a.eval (.tmp 42) = .string fl := hV 42 (by simp [Op.operands, Call.operands]) (by kernel_rfl)
                have f42 : a.tmps.getD 42 undef = .string fl := e42
                have g42 : a.tmps[42]?.getD undef = .string fl := by rw [← Array.getD_eq_getD_getElem?]; exact e42
                have e45 : a.eval (.tmp 45) = .int .i64 (b.size : Int) := hV 45 (by simp [Op.operands, Call.operands]) (by kernel_rfl)
                have f45 : a.tmps.getD 45 undef = .int .i64 (b.size : Int) := e45
                have g45 : a.tmps[45]?.getD undef = .int .i64 (b.size : Int) := by rw [← Array.getD_eq_getD_getElem?]; exact e45
                refine op_call (f := 18) (args := #[.agg #[.int .i64 k, .string p, .string l, .int .i64 m, .int .i64 u, .int .i64 g0, .int .i64 t, .string us, .string gr, .string b], .string fl, .int .i64 (b.size : Int)]) (R := fun v y => v = .string hd ∧ Below w2.heap.size w2 y) ?_ ((HH.out w2).mono ?_) ?_
                · (clear hV hI hC; go_simp <;> (first | rfl | simp))
                · rintro e y ⟨rfl, hb⟩; exact ⟨_, rfl, rfl, hb⟩
                · rintro v y ⟨rfl, hb⟩; exact ⟨hC.trans (hb.mono hC.size), hb, by intro d hd; cases hd; rfl⟩
              case o47 =>
                intro Q a w2 hC hV hI
                have e38 : a.eval (.tmp 38) = .string T := hV 38 (by simp [Op.operands]) (by kernel_rfl)
                have f38 : a.tmps.getD 38 undef = .string T := e38
                have g38 : a.tmps[38]?.getD undef = .string T := by rw [← Array.getD_eq_getD_getElem?]; exact e38
                have e46 : a.eval (.tmp 46) = .string hd := hV 46 (by simp [Op.operands]) (by kernel_rfl)
                have f46 : a.tmps.getD 46 undef = .string hd := e46
                have g46 : a.tmps[46]?.getD undef = .string hd := by rw [← Array.getD_eq_getD_getElem?]; exact e46
                refine op_val (.string x47) ?_ hC (Below.refl _ _) (by intro d hd; cases hd; rfl)
                have q := HA47.out w2
                (clear hV hI hC; go_simp <;> (first | rfl | simp))
              case o48 =>
                intro Q a w2 hC hV hI
                have e6 : a.eval (.tmp 6) = .pointer (some ⟨wr.heap.size, 0, none⟩) := (hI 6 (by simp [Op.operands]) (by kernel_rfl)).trans rfl
                have f6 : a.tmps.getD 6 undef = .pointer (some ⟨wr.heap.size, 0, none⟩) := e6
                have g6 : a.tmps[6]?.getD undef = .pointer (some ⟨wr.heap.size, 0, none⟩) := by rw [← Array.getD_eq_getD_getElem?]; exact e6
                refine op_val (.pointer (some ⟨wr.heap.size, 9, none⟩)) ?_ hC (Below.refl _ _) (by intro d hd; cases hd; rfl)
                (clear hV hI hC; go_simp <;> (first | rfl | simp))
              case o49 =>
                intro Q a w2 hC hV hI
                have e48 : a.eval (.tmp 48) = .pointer (some ⟨wr.heap.size, 9, none⟩) := hV 48 (by simp [Op.operands]) (by kernel_rfl)
                have f48 : a.tmps.getD 48 undef = .pointer (some ⟨wr.heap.size, 9, none⟩) := e48
                have g48 : a.tmps[48]?.getD undef = .pointer (some ⟨wr.heap.size, 9, none⟩) := by rw [← Array.getD_eq_getD_getElem?]; exact e48
                have hK := KC.out w2 hC
                refine op_val (.string b) ?_ hC (Below.refl _ _) (by intro d hd; cases hd; rfl)
                (clear hV hI hC; go_simp <;> (first | rfl | simp))
              case o50 =>
                intro Q a w2 hC hV hI
                have e49 : a.eval (.tmp 49) = .string b := hV 49 (by simp [Op.operands, Call.operands]) (by kernel_rfl)
                have f49 : a.tmps.getD 49 undef = .string b := e49
                have g49 : a.tmps[49]?.getD undef = .string b := by rw [← Array.getD_eq_getD_getElem?]; exact e49
                refine op_call (f := 20) (args := #[.string b]) (R := fun v y => v = .string bb ∧ Below w2.heap.size w2 y) ?_ ((HBd.out w2).mono ?_) ?_
                · (clear hV hI hC; go_simp <;> (first | rfl | simp))
                · rintro e y ⟨rfl, hb⟩; exact ⟨_, rfl, rfl, hb⟩
                · rintro v y ⟨rfl, hb⟩; exact ⟨hC.trans (hb.mono hC.size), hb, by intro d hd; cases hd; rfl⟩
              case o51 =>
                intro Q a w2 hC hV hI
                have e47 : a.eval (.tmp 47) = .string x47 := hV 47 (by simp [Op.operands]) (by kernel_rfl)
                have f47 : a.tmps.getD 47 undef = .string x47 := e47
                have g47 : a.tmps[47]?.getD undef = .string x47 := by rw [← Array.getD_eq_getD_getElem?]; exact e47
                have e50 : a.eval (.tmp 50) = .string bb := hV 50 (by simp [Op.operands]) (by kernel_rfl)
                have f50 : a.tmps.getD 50 undef = .string bb := e50
                have g50 : a.tmps[50]?.getD undef = .string bb := by rw [← Array.getD_eq_getD_getElem?]; exact e50
                refine op_val (.string x51) ?_ hC (Below.refl _ _) (by intro d hd; cases hd; rfl)
                have q := HA51.out w2
                (clear hV hI hC; go_simp <;> (first | rfl | simp))
              case o4 =>
                intro Q a w2 hC hV hI
                have e51 : a.eval (.tmp 51) = .string x51 := hV 51 (by simp [Op.operands]) (by kernel_rfl)
                have f51 : a.tmps.getD 51 undef = .string x51 := e51
                have g51 : a.tmps[51]?.getD undef = .string x51 := by rw [← Array.getD_eq_getD_getElem?]; exact e51
                refine op_val (.string x51) ?_ hC (Below.refl _ _) (by intro d hd; cases hd; rfl)
                (clear hV hI hC; go_simp <;> (first | rfl | simp))
            case hend =>
              intro f w13 hC hall
              clear HA47 HA51
              simp only [List.forall_mem_cons] at hall
              obtain ⟨h38, h39, h40, h41, h42, h43, h44, h45, h46, h47, h48, h49, h50, h51, h4, _⟩ := hall
              replace h38 : f 38 = .string T := h38 38 rfl
              replace h39 : f 39 = .agg #[.int .i64 k, .string p, .string l, .int .i64 m, .int .i64 u, .int .i64 g0, .int .i64 t, .string us, .string gr, .string b] := h39 39 rfl
              replace h40 : f 40 = .pointer (some ⟨wr.heap.size, 0, none⟩) := h40 40 rfl
              replace h41 : f 41 = .int .i64 k := h41 41 rfl
              replace h42 : f 42 = .string fl := h42 42 rfl
              replace h43 : f 43 = .pointer (some ⟨wr.heap.size, 9, none⟩) := h43 43 rfl
              replace h44 : f 44 = .string b := h44 44 rfl
              replace h45 : f 45 = .int .i64 (b.size : Int) := h45 45 rfl
              replace h46 : f 46 = .string hd := h46 46 rfl
              replace h47 : f 47 = .string x47 := h47 47 rfl
              replace h48 : f 48 = .pointer (some ⟨wr.heap.size, 9, none⟩) := h48 48 rfl
              replace h49 : f 49 = .string b := h49 49 rfl
              replace h50 : f 50 = .string bb := h50 50 rfl
              replace h51 : f 51 = .string x51 := h51 51 rfl
              replace h4 : f 4 = .string x51 := h4 4 rfl
              simp only [putAll, Act.put, List.setIfInBounds_toArray, List.set_cons_succ, List.set_cons_zero, h38, h39, h40, h41, h42, h43, h44, h45, h46, h47, h48, h49, h50, h51, h4]
              clear h38 h39 h40 h41 h42 h43 h44 h45 h46 h47 h48 h49 h50 h51 h4
              have HXX : Hid (gpiecesTo L (i + 1) = x51) := Lib.hid (by rw [HS.out, eB.out, eA.out, HX51.out, HX47.out])
              have B13 := Lib.hid (btE B10.out hC)
              clear hC KC HS X10 B10 HX47 HX51
              go_wp2_with fail
              go_roundw
              case rel => exact ⟨i + 1, by rw [HXX.out], by go_num, by omega, B13.out⟩
              case measure => simp [intOf]; omega
      · obtain rfl : i = n := by omega
        have hlt2 : ¬ (i : Int) < (i : Int) := by omega
        have HE := HY
        have y1 := HZ.out i (Nat.le_refl _)
        generalize gpiecesTo L i = T at HE y1
        have yT : T.size ≤ 198000 := by omega
        go_wp2_with fail
        refine (HN.out _).mono ?_
        rintro e w2 ⟨rfl, hb⟩
        go_wp2
        go_ret2
        exact ⟨ret_sb2 HE.out rfl rfl, btE B.out hb⟩
end Go.Proofs.YtgpgkgahbkmdiaaGreatDoor

/- Maps from texts to numbers, and sets of texts, that a call makes. -/
namespace Go.Proofs.YtgpgkgahbkmdiaaGreatDoor
open Go.ChangeShapes Go.WideShapes Go.ChangeAt Go.RowKit Go.Maps

theorem lawS : Keyed Tryz.prog 9 := string_keyed Tryz.underlying9
theorem zeroN (w : World) : (zeroValue 3).run Tryz.prog w = .ok (.int .i64 0) w := by kernel_rfl
def keyS (s : ByteArray) : Lit := .string s.data.toList
theorem key_of {s : ByteArray} (h : s.size ≤ maxLen) : keyOf Tryz.prog 9 (.string s) = some (keyS s) := WideMaps.keyOf_string_mk Tryz.underlying9 h
theorem keyS_ne {a b : ByteArray} (h : ¬ a = b) : keyS a ≠ keyS b := by
  intro e
  apply h
  exact ba_ext (by simpa [keyS] using e)
theorem keyS_lit (a : ByteArray) : WideAt.IsKeyLit (keyS a) := trivial
/-- What the map D tells of each text. -/
def MapIs (D : DataW Unit) (M : ByteArray → Option Int) : Prop := IsMap D ∧ ∀ s, Maps.has D (keyS s) = (M s).isSome ∧ ∀ c, M s = some c → D.atKey (keyS s) (.lit (.int .i64 0)) = .lit (.int .i64 c)
/-- Block b is a map from texts to numbers of at most n entries. -/
def MapAt (w : World) (b n : Nat) (M : ByteArray → Option Int) : Prop := ∃ D : DataW Unit, w.ownsMap Tryz.prog 9 (plainElem Tryz.prog 3) b n D ∧ MapIs D M
def putM (M : ByteArray → Option Int) (s : ByteArray) (c : Int) : ByteArray → Option Int := fun t => if t = s then some c else M t
theorem MapIs.put {D : DataW Unit} {M : ByteArray → Option Int} (h : MapIs D M) (s : ByteArray) (c : Int) : MapIs (D.put (keyS s) (.lit (.int .i64 c))) (putM M s c) := by
  refine ⟨h.1.put _ _, fun t => ?_⟩
  by_cases e : t = s
  · subst e
    refine ⟨by rw [Maps.has_put_same h.1 (keyS_lit _)]; simp [putM], fun d hd => ?_⟩
    rw [Maps.atKey_put_same h.1 (keyS_lit _)]
    simp [putM] at hd
    rw [hd]
  · refine ⟨by rw [Maps.has_put_other (keyS_ne e), (h.2 t).1]; simp [putM, e], fun d hd => ?_⟩
    rw [Maps.atKey_put_other (keyS_ne e)]
    simp [putM, e] at hd
    exact (h.2 t).2 d hd
theorem mapIs_empty : MapIs (.map []) (fun _ => none) := ⟨isMap_empty, fun _ => ⟨rfl, fun _ h => by cases h⟩⟩
theorem mapAt_made (w : World) : MapAt (w.alloc (.map #[] 0)) w.heap.size 0 (fun _ => none) := ⟨.map [], World.ownsMap_made w _ _ _, mapIs_empty⟩
theorem MapAt.kept {w w' : World} {b n : Nat} {M : ByteArray → Option Int} {row : Option Nat} (h : MapAt w b n M) (hg : w.grownBy w' row) (hne : some b ≠ row) : MapAt w' b n M := by
  obtain ⟨D, ho, hs⟩ := h
  exact ⟨D, World.ownsMap.kept ho hg hne, hs⟩
theorem ownsMap_below {w w' : World} {k : TypeId} {R : Value → Option (DataW Unit × List MemPlace)} {b n : Nat} {D : DataW Unit} (h : w.ownsMap Tryz.prog k R b n D) (hb : Below w.heap.size w w') : w'.ownsMap Tryz.prog k R b n D :=
  World.ownsMap.kept h (row := none) ⟨hb.os, hb.tape, hb.output, hb.size, fun k hk _ => hb.block k hk⟩ (by simp)
theorem MapAt.below {w w' : World} {b n : Nat} {M : ByteArray → Option Int} (h : MapAt w b n M) (hb : Below w.heap.size w w') : MapAt w' b n M := by
  obtain ⟨D, ho, hs⟩ := h
  exact ⟨D, ownsMap_below ho hb, hs⟩
theorem MapAt.lt {w : World} {b n : Nat} {M : ByteArray → Option Int} (h : MapAt w b n M) : b < w.heap.size := by
  obtain ⟨D, ho, _⟩ := h
  exact World.ownsMap.lt ho
/-- The set D of texts. -/
def SetSIs (D : DataW Unit) (T : ByteArray → Bool) : Prop := IsMap D ∧ ∀ s, Maps.has D (keyS s) = T s
def SetSAt (w : World) (b n : Nat) (T : ByteArray → Bool) : Prop := ∃ D : DataW Unit, w.ownsMap Tryz.prog 9 (unitElem (H := Unit)) b n D ∧ SetSIs D T
def putT (T : ByteArray → Bool) (s : ByteArray) : ByteArray → Bool := fun t => decide (t = s) || T t
theorem SetSIs.put {D : DataW Unit} {T : ByteArray → Bool} (h : SetSIs D T) (s : ByteArray) (u : DataW Unit) : SetSIs (D.put (keyS s) u) (putT T s) := by
  refine ⟨h.1.put _ _, fun t => ?_⟩
  by_cases e : t = s
  · subst e
    rw [Maps.has_put_same h.1 (keyS_lit _)]; simp [putT]
  · rw [Maps.has_put_other (keyS_ne e), h.2 t]; simp [putT, e]
theorem setS_made (w : World) : SetSAt (w.alloc (.map #[] 0)) w.heap.size 0 (fun _ => false) := ⟨.map [], World.ownsMap_made w _ _ _, isMap_empty, fun _ => rfl⟩
theorem SetSAt.kept {w w' : World} {b n : Nat} {T : ByteArray → Bool} {row : Option Nat} (h : SetSAt w b n T) (hg : w.grownBy w' row) (hne : some b ≠ row) : SetSAt w' b n T := by
  obtain ⟨D, ho, hs⟩ := h
  exact ⟨D, World.ownsMap.kept ho hg hne, hs⟩
theorem SetSAt.below {w w' : World} {b n : Nat} {T : ByteArray → Bool} (h : SetSAt w b n T) (hb : Below w.heap.size w w') : SetSAt w' b n T := by
  obtain ⟨D, ho, hs⟩ := h
  exact ⟨D, ownsMap_below ho hb, hs⟩
theorem SetSAt.lt {w : World} {b n : Nat} {T : ByteArray → Bool} (h : SetSAt w b n T) : b < w.heap.size := by
  obtain ⟨D, ho, _⟩ := h
  exact World.ownsMap.lt ho
end Go.Proofs.YtgpgkgahbkmdiaaGreatDoor

/- ListOk by the kinds of the entries so far: plain mathematics. -/
namespace Go.Proofs.YtgpgkgahbkmdiaaGreatDoor
open Go.RowKit

/-- The kind of the first entry with a path. -/
def kindOf (L : List Ent) (p : ByteArray) : Option Int := (L.find? fun e => decide (e.path = p)).map Ent.kind
theorem findFrom_kind (L : List Ent) (p : ByteArray) (i : Nat) : (kindOf L p = none ∧ findFrom L p i = -1) ∨ ∃ (a : Nat) (e : Ent), kindOf L p = some e.kind ∧ findFrom L p i = ((i + a : Nat) : Int) ∧ L[a]? = some e ∧ e.path = p := by
  induction L generalizing i with
  | nil => exact .inl ⟨rfl, rfl⟩
  | cons e L ih =>
    rw [findFrom]
    by_cases h : e.path = p
    · exact .inr ⟨0, e, by simp [kindOf, h], by simp [h], rfl, h⟩
    · rw [if_neg h]
      have hk : kindOf (e :: L) p = kindOf L p := by simp [kindOf, h]
      rw [hk]
      rcases ih (i + 1) with h1 | ⟨a, e', h0, h1, h2, h3⟩
      · exact .inl h1
      · exact .inr ⟨a + 1, e', h0, by rw [h1]; congr 1; omega, by simpa using h2, h3⟩
theorem find_kind (L : List Ent) (p : ByteArray) : (kindOf L p = none ∧ findv L p = -1) ∨ ∃ (a : Nat) (e : Ent), kindOf L p = some e.kind ∧ findv L p = (a : Int) ∧ L[a]? = some e ∧ e.path = p := by
  rcases findFrom_kind L p 0 with h | ⟨a, e, h0, h1, h2, h3⟩
  · exact .inl h
  · exact .inr ⟨a, e, h0, by rw [findv, h1]; simp, h2, h3⟩
theorem fileAt_kind (L : List Ent) (p : ByteArray) : fileAt L p = decide (kindOf L p = some 0) := by
  rcases find_kind L p with ⟨h, h1⟩ | ⟨a, e, h, h1, h2, _⟩
  · rw [fileAt_none h1, h]; simp
  · rw [fileAt_some h1 h2, h]; simp
theorem findFrom_app (L M : List Ent) (p : ByteArray) (i : Nat) : findFrom (L ++ M) p i = if kindOf L p = none then findFrom M p (i + L.length) else findFrom L p i := by
  induction L generalizing i with
  | nil => simp [kindOf]
  | cons e L ih =>
    rw [List.cons_append, findFrom]
    by_cases h : e.path = p
    · simp [kindOf, h, findFrom]
    · have hk : kindOf (e :: L) p = kindOf L p := by simp [kindOf, h]
      rw [if_neg h, ih, hk]
      simp only [List.length_cons, findFrom, if_neg h]
      rw [show i + 1 + L.length = i + (L.length + 1) from by omega]
theorem find_self {L : List Ent} {i : Nat} {e : Ent} (he : L[i]? = some e) : findv L e.path = (i : Int) ↔ kindOf (L.take i) e.path = none := by
  have hlt : i < L.length := (List.getElem?_eq_some_iff.1 he).1
  have hL : L = L.take i ++ (e :: L.drop (i + 1)) := by
    have h1 := (List.getElem?_eq_some_iff.1 he).2
    conv => lhs; rw [← List.take_append_drop i L]
    rw [List.drop_eq_getElem_cons hlt, h1]
  have hl : (L.take i).length = i := by simp; omega
  constructor
  · intro h
    cases hk : kindOf (L.take i) e.path with
    | none => rfl
    | some c =>
      rw [findv, hL, findFrom_app, if_neg (by rw [hk]; simp)] at h
      rcases findFrom_kind (L.take i) e.path 0 with ⟨h0, _⟩ | ⟨a, e', _, h1, h2, _⟩
      · rw [h0] at hk; cases hk
      · have := (List.getElem?_eq_some_iff.1 h2).1
        rw [h1] at h
        omega
  · intro h
    rw [findv]
    conv => lhs; rw [hL]
    rw [findFrom_app, if_pos h, findFrom, if_pos rfl, hl]
    simp
theorem entAtOk_kind {L : List Ent} {i : Nat} {e : Ent} (he : L[i]? = some e) : entAtOk L i e = (entOkv e && decide (kindOf (L.take i) e.path = none) && (if e.kind = 3 then decide (kindOf (L.take i) e.link = some 0) else true)) := by
  rw [entAtOk, fileAt_kind]
  congr 2
  rw [decide_eq_decide]
  exact find_self he
theorem kindOf_snoc {L : List Ent} {i : Nat} {e : Ent} (he : L[i]? = some e) (hk : kindOf (L.take i) e.path = none) : kindOf (L.take (i + 1)) = putM (kindOf (L.take i)) e.path e.kind := by
  have hlt : i < L.length := (List.getElem?_eq_some_iff.1 he).1
  have h1 := (List.getElem?_eq_some_iff.1 he).2
  funext p
  rw [List.take_succ_eq_append_getElem hlt, h1]
  simp only [kindOf, putM, List.find?_append] at hk ⊢
  by_cases h : p = e.path
  · subst h
    simp at hk
    have : List.find? (fun e' => decide (e'.path = e.path)) (List.take i L) = none := by
      rw [List.find?_eq_none]
      intro x hx
      simpa using hk x hx
    simp [this]
  · have h' : ¬ e.path = p := fun x => h x.symm
    simp [h, h']
theorem kindOf_zero (L : List Ent) : kindOf (L.take 0) = fun _ => none := by
  funext p; simp [kindOf]
theorem entOk_kind (e : Ent) (h : entOkv e = true) : -9223372036854775808 ≤ e.kind ∧ e.kind ≤ 9223372036854775807 := by
  simp only [entOkv, Bool.and_eq_true] at h
  have h2 := h.2
  unfold kindOk at h2
  split at h2
  · omega
  · split at h2
    · omega
    · split at h2
      · omega
      · split at h2
        · omega
        · cases h2
end Go.Proofs.YtgpgkgahbkmdiaaGreatDoor

/- Contract of impl.ListOk. -/
namespace Go.Proofs.YtgpgkgahbkmdiaaGreatDoor
open Go.ChangeShapes Go.WideShapes Go.ChangeAt Go.RowKit Go.Deep Go.Maps

theorem listOk_long {L : List Ent} (h : 30 < L.length) : listOkv L = false := by
  rw [listOkv, decide_eq_false (by omega)]; simp
set_option maxHeartbeats 1600000 in
theorem listOk_impl (L : List Ent) (n g cap : Nat) (w : World) (hn : n = L.length) (hm : n ≤ 4194304) (hg : g < w.heap.size) (hsm : SmallL L) (h1 : RowE w g L) :
    Calls Tryz.prog 23 #[.slice (some ⟨g, 0, none⟩) n cap] w fun e w' => e = .returned (.bool (listOkv L)) ∧ Below w.heap.size w w' := by
  have H1 := Lib.hid h1
  have HG : Hid (∀ i, i < n → ∃ e, L[i]? = some e ∧ esz e ≤ 4194304) := Lib.hid (fun i hi => by obtain ⟨e, he⟩ := getE' (L := L) (i := i) (by omega); exact ⟨e, he, hsm.get he⟩)
  have HBad : Hid (∀ i e, L[i]? = some e → entAtOk L i e = false → listOkv L = false) := Lib.hid (fun i e he hk => listOk_bad he hk)
  have HDone : Hid (OksTo L n → n ≤ 30 → listOkv L = true) := Lib.hid (by rw [hn]; intro h h2; rw [listOk_done h]; simpa using h2)
  have HLong : Hid (30 < n → listOkv L = false) := Lib.hid (by rw [hn]; exact listOk_long)
  generalize listOkv L = r at HBad HDone HLong
  clear h1 hn hsm
  by_cases h30 : 30 < n
  · have h30' : (30 : Int) < (n : Int) := by omega
    have HX := Lib.hid (HLong.out h30)
    go_enter Tryz.func23, Tryz.ntmps23
    go_wp2_with fail
    go_ret
    exact ⟨ret_bool HX.out.symm, Below.refl _ _⟩
  have h30' : ¬ (30 : Int) < (n : Int) := by omega
  have hmm := @run_makeMap Tryz.prog
  go_enter Tryz.func23, Tryz.ntmps23
  go_wp2_with fail
  go_loopw [5, 6, 7, 8, 9, 16] (fun _ _ _ _ _ u wr => ∃ i : Nat, u = .int .i64 i ∧ i ≤ n ∧ OksTo L i ∧ MapAt wr w.heap.size i (kindOf (L.take i)) ∧ Below w.heap.size w wr) (fun _ _ _ _ _ u _ => n - (intOf u).toNat)
  case atStart => exact ⟨0, rfl, Nat.zero_le _, fun j hj => by omega, by rw [kindOf_zero]; exact mapAt_made w, (Below.refl _ _).alloc (Nat.le_refl _) _⟩
  case round =>
    obtain ⟨i, rfl, hi, hr, hmap, hb⟩ := hrel
    have HR := Lib.hid hr
    have B := Lib.hid hb
    have HMp := Lib.hid hmap
    have zm := hmap.lt
    clear hr hb hmap hmm
    by_cases hlt : i < n
    · have hlt2 : (i : Int) < (n : Int) := by omega
      obtain ⟨e, he, hz⟩ := HG.out i hlt
      have R := Lib.hid (H1.out.below B.out hg)
      obtain ⟨c0, c1, c2, c3, c4, c5, c6, c7, c8, c9⟩ := R.out.ten he
      have HBi := Lib.hid (HBad.out i e he)
      have HSi := Lib.hid (fun hk => HR.out.step he hk)
      have HA := Lib.hid (entAtOk_kind he)
      have HK := Lib.hid (fun h => kindOf_snoc he h)
      clear he HBad HG HR
      have hsz := small_parts hz
      generalize kindOf (L.take i) = M at HMp HA HK
      obtain ⟨k, p, l, m, u, g0, t, us, gr, b⟩ := e
      have HO := Lib.hid (fun w => entryOk_impl k p l m u g0 t us gr b w hsz.1 hsz.2.1 hsz.2.2.1 hsz.2.2.2.1)
      dsimp only at hsz
      have kp : p.size ≤ maxLen := by have := hsz.1; simp only [maxLen]; omega
      have kl : l.size ≤ maxLen := by have := hsz.2.1; simp only [maxLen]; omega
      have HKd := Lib.hid (entOk_kind ⟨k, p, l, m, u, g0, t, us, gr, b⟩)
      generalize entAtOk L i ⟨k, p, l, m, u, g0, t, us, gr, b⟩ = ra at HA HBi HSi
      generalize entOkv ⟨k, p, l, m, u, g0, t, us, gr, b⟩ = b1 at HA HO HKd
      dsimp only at HA HK HKd
      clear hsz hz
      have zr : g < wr.heap.size := by have := B.out.size; omega
      obtain ⟨D, ho, hD⟩ := HMp.out
      have OM := Lib.hid ho
      have HD := Lib.hid hD
      clear ho hD HMp
      have HP := Lib.hid (HD.out.2 p).1
      have HLk := Lib.hid (HD.out.2 l)
      cases hp : M p with
      | some x =>
        have hh : Maps.has D (keyS p) = true := by rw [HP.out, hp]; rfl
        have HX : Hid (r = false) := Lib.hid (HBi.out (by rw [HA.out, hp]; simp))
        clear HA HK HP HLk HBi HSi HO HD hp
        go_wp2_with (at_lookup; refine wpList_lookup_own_ok_int _ rfl _ _ 58 rfl 9 3 .i64 lawS Tryz.underlying58 Tryz.underlying3 (zeroN _) w.heap.size i D rfl (OM.out.alloc _) _ _ rfl (key_of kp) ?_; intro c _ _)
        go_ret
        exact ⟨ret_bool HX.out.symm, B.out.alloc B.out.size _⟩
      | none =>
        have hh : Maps.has D (keyS p) = false := by rw [HP.out, hp]; rfl
        have HN := Lib.hid (HK.out hp)
        have HA2 : Hid (ra = (b1 && (if k = 3 then decide (M l = some 0) else true))) := Lib.hid (by rw [HA.out, hp]; simp)
        clear HA HK HP hp
        go_wp2_with (at_lookup; refine wpList_lookup_own_ok_int _ rfl _ _ 58 rfl 9 3 .i64 lawS Tryz.underlying58 Tryz.underlying3 (zeroN _) w.heap.size i D rfl (OM.out.alloc _) _ _ rfl (key_of kp) ?_; intro c _ _)
        refine (HO.out _).mono ?_
        rintro e w1 ⟨rfl, hb⟩
        have O1 := Lib.hid (ownsMap_below (OM.out.alloc _) hb)
        obtain ⟨k1, bb, z1⟩ := one_new (e1 := ⟨k, p, l, m, u, g0, t, us, gr, b⟩) hb
        have E1 := Lib.hid k1
        have B1 := Lib.hid (btE B.out bb)
        clear hb k1 bb c0 c1 c2 c3 c4 c5 c6 c7 c8 c9 R B HO OM hh
        obtain ⟨c0, c1, c2, c3, c4, c5, c6, c7, c8, c9⟩ := E1.out.zero
        have hsz1 := B1.out.size
        cases b1 with
        | false =>
          go_wp2_with fail
          go_ret
          exact ⟨ret_bool (HBi.out (by rw [HA2.out]; simp)).symm, B1.out⟩
        | true =>
          by_cases hk : k = 3
          · subst hk
            cases hl : M l with
            | none =>
              have hh : Maps.has D (keyS l) = false := by rw [HLk.out.1, hl]; rfl
              have HX : Hid (r = false) := Lib.hid (HBi.out (by rw [HA2.out, hl]; simp))
              clear HA2 HBi HSi HLk hl HN
              go_wp2_with (at_lookup; refine wpList_lookup_own_ok_int _ rfl _ _ 58 rfl 9 3 .i64 lawS Tryz.underlying58 Tryz.underlying3 (zeroN _) w.heap.size i D rfl O1.out _ _ rfl (key_of kl) ?_; intro c' _ _)
              go_ret
              exact ⟨ret_bool HX.out.symm, B1.out⟩
            | some x =>
              have hh : Maps.has D (keyS l) = true := by rw [HLk.out.1, hl]; rfl
              have HT := Lib.hid (HLk.out.2 x hl)
              by_cases hx : x = 0
              · subst hx
                have HS := Lib.hid (HSi.out (by rw [HA2.out, hl]; simp))
                clear HA2 HBi HSi HLk hl
                go_wp2_with (first | (at_lookup; refine wpList_lookup_own_ok_int _ rfl _ _ 58 rfl 9 3 .i64 lawS Tryz.underlying58 Tryz.underlying3 (zeroN _) w.heap.size i D rfl O1.out _ _ rfl (key_of kl) ?_; intro c' hat _; obtain rfl : c' = 0 := (by have := hat.symm.trans HT.out; simpa using this); clear hat) | (at_mapUpdate; refine wpList_mapUpdate_own _ rfl _ _ _ 58 rfl 9 3 lawS Tryz.underlying58 _ w.heap.size i D rfl O1.out (by simp only [maxLen]; omega) _ _ _ rfl rfl (key_of kp) _ [] (plainElem_int Tryz.underlying3 (by decide)) ?_; intro w2 hown2 hgrow2))
                have HM2 : Hid (MapAt w2 w.heap.size (i + 1) (kindOf (L.take (i + 1)))) := Lib.hid (by rw [HN.out]; exact ⟨_, hown2, HD.out.put p 3⟩)
                have B2 : Hid (Below w.heap.size w w2) := Lib.hid (B1.out.grown hgrow2 hsz1 (fun b hb => by cases hb; exact Nat.le_refl _))
                clear hown2 hgrow2 HN HT hh
                go_wp2_with fail
                go_roundw
                case rel => exact ⟨i + 1, by go_num, by omega, HS.out, HM2.out, B2.out⟩
                case measure => simp [intOf]; omega
              · have HX : Hid (r = false) := Lib.hid (HBi.out (by rw [HA2.out, hl]; simp [hx]))
                have hx2 : (x != 0) = true := by simpa using hx
                clear HA2 HBi HSi HLk hl HN hx
                go_wp2_with (at_lookup; refine wpList_lookup_own_ok_int _ rfl _ _ 58 rfl 9 3 .i64 lawS Tryz.underlying58 Tryz.underlying3 (zeroN _) w.heap.size i D rfl O1.out _ _ rfl (key_of kl) ?_; intro c' hat _; obtain rfl : c' = x := (by have := hat.symm.trans HT.out; simpa using this); clear hat)
                go_ret
                exact ⟨ret_bool HX.out.symm, B1.out⟩
          · have HS := Lib.hid (HSi.out (by rw [HA2.out]; simp [hk]))
            have hk2 : (k == 3) = false := by simpa using hk
            have hk3 : decide (k = 3) = false := by simpa using hk
            have hwk : (Lit.int .i64 k).wf = true := WalkArith.wf_i64 (HKd.out rfl)
            clear HA2 HBi HSi HLk hk
            go_wp2_with (first | (at_lookup; refine wpList_lookup_own_ok_int _ rfl _ _ 58 rfl 9 3 .i64 lawS Tryz.underlying58 Tryz.underlying3 (zeroN _) w.heap.size i D rfl O1.out _ _ rfl (key_of kl) ?_; intro c' _ _) | (at_mapUpdate; refine wpList_mapUpdate_own _ rfl _ _ _ 58 rfl 9 3 lawS Tryz.underlying58 _ w.heap.size i D rfl O1.out (by simp only [maxLen]; omega) _ _ _ rfl rfl (key_of kp) _ [] (plainElem_int Tryz.underlying3 hwk) ?_; intro w2 hown2 hgrow2))
            have HM2 : Hid (MapAt w2 w.heap.size (i + 1) (kindOf (L.take (i + 1)))) := Lib.hid (by rw [HN.out]; exact ⟨_, hown2, HD.out.put p k⟩)
            have B2 : Hid (Below w.heap.size w w2) := Lib.hid (B1.out.grown hgrow2 hsz1 (fun b hb => by cases hb; exact Nat.le_refl _))
            clear hown2 hgrow2 HN
            go_wp2_with fail
            go_roundw
            case rel => exact ⟨i + 1, by go_num, by omega, HS.out, HM2.out, B2.out⟩
            case measure => simp [intOf]; omega
    · obtain rfl : i = n := by omega
      have hlt2 : ¬ (i : Int) < (i : Int) := by omega
      have HFin := Lib.hid (HDone.out HR.out (by omega))
      go_wp2_with fail
      go_ret
      exact ⟨ret_bool HFin.out.symm, B.out⟩
end Go.Proofs.YtgpgkgahbkmdiaaGreatDoor
