/- Texts joined: PutUstarS, MapS, KindMath, ListOkI, PutUstarI, UstarT. -/
import Derived.Maps.OwnSet
import Derived.Maps.OwnOps
import Derived.Lib.AppendStr
import Derived.Test.YtkpdeeembnjmnabGreatDoorJU4
/- Contracts of spec.l04Body and spec.PutUstar. -/
namespace Go.Proofs.YtkpdeeembnjmnabGreatDoor
open Go.ChangeShapes Go.WideShapes Go.ChangeAt Go.RowKit Go.Deep

theorem ret_sb2 {a c : ByteArray} {b d : Bool} {r : ByteArray × Bool} (h : r = (a, b)) (h1 : c = a) (h2 : d = b) : Ending.returned (.tuple #[.string c, .bool d]) = .returned (.tuple #[.string r.1, .bool r.2]) := by
  subst h h1 h2; rfl
theorem l04Body_spec (s : ByteArray) (w : World) (hs : s.size ≤ 4194304) :
    Calls Tryz.prog 30 #[.string s] w fun e w' => e = .returned (.string (bodyP s)) ∧ Below w.heap.size w w' := by
  have H1 := Lib.hid (fun w => pad_spec s.size 512 w)
  have hp := pad_bd s.size
  have HE : Hid (bodyP s = s ++ nulv (padv s.size 512).toNat) := Lib.hid rfl
  generalize bodyP s = r at HE
  have H2 := Lib.hid (fun w => nuls_spec (padv s.size 512) w (by omega))
  have z := nulv_size (padv s.size 512).toNat
  generalize nulv (padv s.size 512).toNat = nn at *
  generalize padv s.size 512 = pp at *
  go_enter Tryz.func30, Tryz.ntmps30
  go_wp2_with fail
  refine (H1.out _).mono ?_
  rintro e w1 ⟨rfl, rfl⟩
  go_wp2_with fail
  refine (H2.out _).mono ?_
  rintro e w2 ⟨rfl, hb⟩
  go_wp2
  go_ret
  exact ⟨ret_str HE.out.symm, hb⟩
set_option maxHeartbeats 6400000 in
set_option maxRecDepth 8000 in
theorem putUstar_spec (L : List Ent) (n g cap : Nat) (w : World) (hn : n = L.length) (hm : n ≤ 1048576) (hcap : n ≤ cap) (hg : g < w.heap.size) (hsm : SmallL L) (h1 : RowE w g L) :
    Calls Tryz.prog 11 #[.slice (some ⟨g, 0, none⟩) n cap] w fun e w' => e = .returned (.tuple #[.string (putUstarv L).1, .bool (putUstarv L).2]) ∧ Below w.heap.size w w' := by
  have HLO := Lib.hid (fun w h0 h1 => listOk_spec L n g cap w hn (by omega) hcap h0 hsm h1)
  have H1 := Lib.hid h1
  cases hlo : listOkv L with
  | false =>
    have HE := Lib.hid (ustar_bad hlo)
    generalize putUstarv L = r at HE
    rw [hlo] at HLO
    clear h1 hlo hsm hn
    go_enter Tryz.func11, Tryz.ntmps11
    go_wp2_with fail
    refine (HLO.out _ hg H1.out).mono ?_
    rintro e w1 ⟨rfl, hb⟩
    go_wp2
    go_ret2
    exact ⟨ret_sb2 HE.out rfl rfl, hb⟩
  | true =>
    have HG : Hid (∀ i, i < n → ∃ e, L[i]? = some e ∧ esz e ≤ 4194304 ∧ entOkv e = true) := Lib.hid (fun i hi => by obtain ⟨e, he⟩ := getE' (L := L) (i := i) (by omega); exact ⟨e, he, hsm.get he, listOk_ent hlo he⟩)
    have HY : Hid (FitTo L n → putUstarv L = (piecesTo L n ++ nulv 1024, true)) := Lib.hid (by rw [hn]; exact ustar_yes hlo)
    have HNo : Hid (∀ i e, L[i]? = some e → fitsv e = false → putUstarv L = (⟨#[]⟩, false)) := Lib.hid (fun i e h1 h2 => ustar_no h1 h2)
    have HZ : Hid (∀ i, i ≤ n → (piecesTo L i).size ≤ 4100 * i) := Lib.hid (fun i hi => pieces_size hlo i (by omega))
    have h30 : n ≤ 30 := by rw [hn]; exact listOk_30 hlo
    have HN := Lib.hid (fun w => nuls_spec 1024 w (by omega))
    rw [show ((1024 : Int).toNat) = 1024 from rfl] at HN
    have zn := nulv_size 1024
    generalize nulv 1024 = n1024 at *
    generalize putUstarv L = r at HY HNo
    rw [hlo] at HLO
    clear h1 hlo hsm hn
    go_enter Tryz.func11, Tryz.ntmps11
    go_wp2_with fail
    refine (HLO.out _ hg H1.out).mono ?_
    rintro e w1 ⟨rfl, hb1⟩
    have B1 := Lib.hid hb1
    clear hb1 HLO
    go_wp2_with fail
    go_loopw [4, 5] (fun v u wr => ∃ i : Nat, v = .string (piecesTo L i) ∧ u = .int .i64 i ∧ i ≤ n ∧ FitTo L i ∧ Below w.heap.size w wr) (fun _ u _ => n - (intOf u).toNat)
    case atStart => exact ⟨0, rfl, rfl, Nat.zero_le _, fun j h => absurd h (by omega), B1.out⟩
    case round =>
      obtain ⟨i, rfl, rfl, hi, hft, hb⟩ := hrel
      have B := Lib.hid hb
      have HFT := Lib.hid hft
      clear hb hft B1
      by_cases hlt : i < n
      · have hlt2 : (i : Int) < (n : Int) := by omega
        obtain ⟨e, he, hz, hok⟩ := HG.out i hlt
        have R := Lib.hid (H1.out.below B.out hg)
        obtain ⟨c0, c1, c2, c3, c4, c5, c6, c7, c8, c9⟩ := R.out.ten he
        have HS := Lib.hid (pieces_step he)
        have HNX := Lib.hid (fun h => HNo.out i e he h)
        have HFS := Lib.hid (fun h => HFT.out.step he h)
        have HHE := Lib.hid (And.intro (head_or hok) (And.intro (body_size e.body) (entOk_kb hok)))
        have HTEN := Lib.hid (fun w' (hb : Below wr.heap.size wr w') => (R.out.below hb (Nat.lt_of_lt_of_le hg B.out.size)).ten he)
        have y1 := HZ.out i hi
        have hsz := small_parts hz
        clear he hz hok R
        obtain ⟨k, p, l, m, u, g0, t, us, gr, b⟩ := e
        dsimp only at hsz c0 c1 c2 c3 c4 c5 c6 c7 c8 c9
        have HF := Lib.hid (fun w => fits_spec k p l m u g0 t us gr b w hsz.1 hsz.2.1 hsz.2.2.1 hsz.2.2.2.1 hsz.2.2.2.2)
        cases hf : fitsv ⟨k, p, l, m, u, g0, t, us, gr, b⟩ with
        | false =>
          have HE := Lib.hid (HNX.out hf)
          rw [hf] at HF
          clear hf HNX HFS HHE HS HTEN
          go_wp2_with fail
          refine (HF.out _).mono ?_
          rintro e w2 ⟨rfl, hb⟩
          go_wp2
          go_ret2
          exact ⟨ret_sb2 HE.out rfl rfl, btE B.out hb⟩
        | true =>
          have HFN := Lib.hid (HFS.out hf)
          have zh : (putHeadv ⟨k, p, l, m, u, g0, t, us, gr, b⟩ (flagv k) b.size).size = 512 := by
            rcases HHE.out.1 with ⟨_, h⟩ | ⟨h, _⟩
            · exact h
            · rw [hf] at h; cases h
          have zb := HHE.out.2.1
          dsimp only at zb
          have zbb := hsz.2.2.2.2
          have HFl := Lib.hid (fun w => flag_spec k w)
          have HH := Lib.hid (fun w => putHead_spec k p l m u g0 t us gr b (flagv k) b.size w hsz.1 hsz.2.1 hsz.2.2.1 hsz.2.2.2.1 hsz.2.2.2.2)
          have HBd := Lib.hid (fun w => l04Body_spec b w hsz.2.2.2.2)
          have hbk : b.size ≤ 3000 := HHE.out.2.2.2
          rw [hf] at HF
          dsimp only at HS
          clear hf HNX HFS HHE
          generalize putHeadv ⟨k, p, l, m, u, g0, t, us, gr, b⟩ (flagv k) b.size = hd at HS HH zh
          generalize flagv k = fl at HH HFl
          generalize bodyP b = bb at HS HBd zb
          generalize piecesTo L i = T at HS y1
          have yT : T.size ≤ 123000 := by omega
          have yb : bb.size ≤ 3511 := by omega
          go_wp2_with fail
          refine (HF.out _).mono ?_
          rintro e w2 ⟨rfl, hb2⟩
          have B2 := Lib.hid (btE B.out hb2)
          have BW := Lib.hid hb2
          clear hb2 B HF c0 c1 c2 c3 c4 c5 c6 c7 c8 c9 hsz y1 zb
          go_wp2_with fail
          have KC : Hid (∀ w', Below w2.heap.size w2 w' → w'.cell? ⟨g, i * 10, none⟩ = some (.int .i64 k) ∧ w'.cell? ⟨g, i * 10 + 1, none⟩ = some (.string p) ∧ w'.cell? ⟨g, i * 10 + 2, none⟩ = some (.string l) ∧ w'.cell? ⟨g, i * 10 + 3, none⟩ = some (.int .i64 m) ∧ w'.cell? ⟨g, i * 10 + 4, none⟩ = some (.int .i64 u) ∧ w'.cell? ⟨g, i * 10 + 5, none⟩ = some (.int .i64 g0) ∧ w'.cell? ⟨g, i * 10 + 6, none⟩ = some (.int .i64 t) ∧ w'.cell? ⟨g, i * 10 + 7, none⟩ = some (.string us) ∧ w'.cell? ⟨g, i * 10 + 8, none⟩ = some (.string gr) ∧ w'.cell? ⟨g, i * 10 + 9, none⟩ = some (.string b)) := Lib.hid (fun w' hb => HTEN.out w' (btE BW.out hb))
          obtain ⟨x39, hx39⟩ : ∃ x : ByteArray, x = T ++ hd := ⟨_, rfl⟩
          obtain ⟨x46, hx46⟩ : ∃ x : ByteArray, x = x39 ++ bb := ⟨_, rfl⟩
          have zx39 : x39.size ≤ 123512 := by rw [hx39, ByteArray.size_append]; omega
          have zx46 : x46.size ≤ 127023 := by rw [hx46, ByteArray.size_append]; omega
          have HA39 : Hid (∀ w, (Op.stringOp .add T hd).run Tryz.prog w = .ok (.string x39) w) := Lib.hid (fun w => by rw [hx39]; exact run_string_add_sum w _ _ (by omega))
          have HA46 : Hid (∀ w, (Op.stringOp .add x39 bb).run Tryz.prog w = .ok (.string x46) w) := Lib.hid (fun w => by rw [hx46]; exact run_string_add_sum w _ _ (by omega))
          have HX39 := Lib.hid hx39
          have HX46 := Lib.hid hx46
          clear hx39 hx46
          refine wp_region_inv (by kernel_rfl) (fun w' => Below w2.heap.size w2 w') (fun x y => Below x.heap.size x y) (fun d v _ => match d with | 21 => v = .string T | 22 => v = .slice (some ⟨g, 0, none⟩) n cap | 23 => v = .int .i64 (i : Int) | 24 => v = .pointer (some ⟨g, i * 10, none⟩) | 25 => v = .agg #[.int .i64 k, .string p, .string l, .int .i64 m, .int .i64 u, .int .i64 g0, .int .i64 t, .string us, .string gr, .string b] | 26 => v = .slice (some ⟨g, 0, none⟩) n cap | 27 => v = .int .i64 (i : Int) | 28 => v = .pointer (some ⟨g, i * 10, none⟩) | 29 => v = .pointer (some ⟨g, i * 10, none⟩) | 30 => v = .int .i64 k | 31 => v = .string fl | 32 => v = .slice (some ⟨g, 0, none⟩) n cap | 33 => v = .int .i64 (i : Int) | 34 => v = .pointer (some ⟨g, i * 10, none⟩) | 35 => v = .pointer (some ⟨g, i * 10 + 9, none⟩) | 36 => v = .string b | 37 => v = .int .i64 (b.size : Int) | 38 => v = .string hd | 39 => v = .string x39 | 40 => v = .slice (some ⟨g, 0, none⟩) n cap | 41 => v = .int .i64 (i : Int) | 42 => v = .pointer (some ⟨g, i * 10, none⟩) | 43 => v = .pointer (some ⟨g, i * 10 + 9, none⟩) | 44 => v = .string b | 45 => v = .string bb | 46 => v = .string x46 | 4 => v = .string x46 | _ => True) (by kernel_rfl) ((Below.refl _ _).drew) (fun _ _ _ _ _ _ h => h) ?hops ?hend
          case hops =>
            simp only [List.forall_mem_cons]
            refine ⟨?o21, ?o22, ?o23, ?o24, ?o25, ?o26, ?o27, ?o28, ?o29, ?o30, ?o31, ?o32, ?o33, ?o34, ?o35, ?o36, ?o37, ?o38, ?o39, ?o40, ?o41, ?o42, ?o43, ?o44, ?o45, ?o46, ?o4, fun _ h => by cases h⟩
            case o21 =>
              intro Q a w2 hC hV hI
              have e4 : a.eval (.tmp 4) = .string T := (hI 4 (by simp [Op.operands]) (by kernel_rfl)).trans rfl
              have f4 : a.tmps.getD 4 undef = .string T := e4
              have g4 : a.tmps[4]?.getD undef = .string T := by rw [← Array.getD_eq_getD_getElem?]; exact e4
              refine op_val (.string T) ?_ hC (Below.refl _ _) (by intro d hd; cases hd; rfl)
              (clear hV hI hC; go_simp <;> (first | rfl | simp))
            case o22 =>
              intro Q a w2 hC hV hI
              have e0 : a.eval (.tmp 0) = .slice (some ⟨g, 0, none⟩) n cap := (hI 0 (by simp [Op.operands]) (by kernel_rfl)).trans rfl
              have f0 : a.tmps.getD 0 undef = .slice (some ⟨g, 0, none⟩) n cap := e0
              have g0 : a.tmps[0]?.getD undef = .slice (some ⟨g, 0, none⟩) n cap := by rw [← Array.getD_eq_getD_getElem?]; exact e0
              refine op_val (.slice (some ⟨g, 0, none⟩) n cap) ?_ hC (Below.refl _ _) (by intro d hd; cases hd; rfl)
              (clear hV hI hC; go_simp <;> (first | rfl | simp))
            case o23 =>
              intro Q a w2 hC hV hI
              have e5 : a.eval (.tmp 5) = .int .i64 (i : Int) := (hI 5 (by simp [Op.operands]) (by kernel_rfl)).trans rfl
              have f5 : a.tmps.getD 5 undef = .int .i64 (i : Int) := e5
              have g5 : a.tmps[5]?.getD undef = .int .i64 (i : Int) := by rw [← Array.getD_eq_getD_getElem?]; exact e5
              refine op_val (.int .i64 (i : Int)) ?_ hC (Below.refl _ _) (by intro d hd; cases hd; rfl)
              (clear hV hI hC; go_simp <;> (first | rfl | simp))
            case o24 =>
              intro Q a w2 hC hV hI
              have e22 : a.eval (.tmp 22) = .slice (some ⟨g, 0, none⟩) n cap := hV 22 (by simp [Op.operands]) (by kernel_rfl)
              have f22 : a.tmps.getD 22 undef = .slice (some ⟨g, 0, none⟩) n cap := e22
              have g22 : a.tmps[22]?.getD undef = .slice (some ⟨g, 0, none⟩) n cap := by rw [← Array.getD_eq_getD_getElem?]; exact e22
              have e23 : a.eval (.tmp 23) = .int .i64 (i : Int) := hV 23 (by simp [Op.operands]) (by kernel_rfl)
              have f23 : a.tmps.getD 23 undef = .int .i64 (i : Int) := e23
              have g23 : a.tmps[23]?.getD undef = .int .i64 (i : Int) := by rw [← Array.getD_eq_getD_getElem?]; exact e23
              refine op_val (.pointer (some ⟨g, i * 10, none⟩)) ?_ hC (Below.refl _ _) (by intro d hd; cases hd; rfl)
              (clear hV hI hC; go_simp <;> (first | rfl | simp))
            case o25 =>
              intro Q a w2 hC hV hI
              have e24 : a.eval (.tmp 24) = .pointer (some ⟨g, i * 10, none⟩) := hV 24 (by simp [Op.operands]) (by kernel_rfl)
              have f24 : a.tmps.getD 24 undef = .pointer (some ⟨g, i * 10, none⟩) := e24
              have g24 : a.tmps[24]?.getD undef = .pointer (some ⟨g, i * 10, none⟩) := by rw [← Array.getD_eq_getD_getElem?]; exact e24
              have hK := KC.out w2 hC
              refine op_val (.agg #[.int .i64 k, .string p, .string l, .int .i64 m, .int .i64 u, .int .i64 g0, .int .i64 t, .string us, .string gr, .string b]) ?_ hC (Below.refl _ _) (by intro d hd; cases hd; rfl)
              (clear hV hI hC; go_simp <;> (first | rfl | simp))
            case o26 =>
              intro Q a w2 hC hV hI
              have e0 : a.eval (.tmp 0) = .slice (some ⟨g, 0, none⟩) n cap := (hI 0 (by simp [Op.operands]) (by kernel_rfl)).trans rfl
              have f0 : a.tmps.getD 0 undef = .slice (some ⟨g, 0, none⟩) n cap := e0
              have g0 : a.tmps[0]?.getD undef = .slice (some ⟨g, 0, none⟩) n cap := by rw [← Array.getD_eq_getD_getElem?]; exact e0
              refine op_val (.slice (some ⟨g, 0, none⟩) n cap) ?_ hC (Below.refl _ _) (by intro d hd; cases hd; rfl)
              (clear hV hI hC; go_simp <;> (first | rfl | simp))
            case o27 =>
              intro Q a w2 hC hV hI
              have e5 : a.eval (.tmp 5) = .int .i64 (i : Int) := (hI 5 (by simp [Op.operands]) (by kernel_rfl)).trans rfl
              have f5 : a.tmps.getD 5 undef = .int .i64 (i : Int) := e5
              have g5 : a.tmps[5]?.getD undef = .int .i64 (i : Int) := by rw [← Array.getD_eq_getD_getElem?]; exact e5
              refine op_val (.int .i64 (i : Int)) ?_ hC (Below.refl _ _) (by intro d hd; cases hd; rfl)
              (clear hV hI hC; go_simp <;> (first | rfl | simp))
            case o28 =>
              intro Q a w2 hC hV hI
              have e26 : a.eval (.tmp 26) = .slice (some ⟨g, 0, none⟩) n cap := hV 26 (by simp [Op.operands]) (by kernel_rfl)
              have f26 : a.tmps.getD 26 undef = .slice (some ⟨g, 0, none⟩) n cap := e26
              have g26 : a.tmps[26]?.getD undef = .slice (some ⟨g, 0, none⟩) n cap := by rw [← Array.getD_eq_getD_getElem?]; exact e26
              have e27 : a.eval (.tmp 27) = .int .i64 (i : Int) := hV 27 (by simp [Op.operands]) (by kernel_rfl)
              have f27 : a.tmps.getD 27 undef = .int .i64 (i : Int) := e27
              have g27 : a.tmps[27]?.getD undef = .int .i64 (i : Int) := by rw [← Array.getD_eq_getD_getElem?]; exact e27
              refine op_val (.pointer (some ⟨g, i * 10, none⟩)) ?_ hC (Below.refl _ _) (by intro d hd; cases hd; rfl)
              (clear hV hI hC; go_simp <;> (first | rfl | simp))
            case o29 =>
              intro Q a w2 hC hV hI
              have e28 : a.eval (.tmp 28) = .pointer (some ⟨g, i * 10, none⟩) := hV 28 (by simp [Op.operands]) (by kernel_rfl)
              have f28 : a.tmps.getD 28 undef = .pointer (some ⟨g, i * 10, none⟩) := e28
              have g28 : a.tmps[28]?.getD undef = .pointer (some ⟨g, i * 10, none⟩) := by rw [← Array.getD_eq_getD_getElem?]; exact e28
              refine op_val (.pointer (some ⟨g, i * 10, none⟩)) ?_ hC (Below.refl _ _) (by intro d hd; cases hd; rfl)
              (clear hV hI hC; go_simp <;> (first | rfl | simp))
            case o30 =>
              intro Q a w2 hC hV hI
              have e29 : a.eval (.tmp 29) = .pointer (some ⟨g, i * 10, none⟩) := hV 29 (by simp [Op.operands]) (by kernel_rfl)
              have f29 : a.tmps.getD 29 undef = .pointer (some ⟨g, i * 10, none⟩) := e29
              have g29 : a.tmps[29]?.getD undef = .pointer (some ⟨g, i * 10, none⟩) := by rw [← Array.getD_eq_getD_getElem?]; exact e29
              have hK := KC.out w2 hC
              refine op_val (.int .i64 k) ?_ hC (Below.refl _ _) (by intro d hd; cases hd; rfl)
              (clear hV hI hC; go_simp <;> (first | rfl | simp))
            case o31 =>
              intro Q a w2 hC hV hI
              have e30 : a.eval (.tmp 30) = .int .i64 k := hV 30 (by simp [Op.operands, Call.operands]) (by kernel_rfl)
              have f30 : a.tmps.getD 30 undef = .int .i64 k := e30
              have g30 : a.tmps[30]?.getD undef = .int .i64 k := by rw [← Array.getD_eq_getD_getElem?]; exact e30
              refine op_call (f := 29) (args := #[.int .i64 k]) (R := fun v y => v = .string fl ∧ Below w2.heap.size w2 y) ?_ ((HFl.out w2).mono ?_) ?_
              · (clear hV hI hC; go_simp <;> (first | rfl | simp))
              · rintro e y ⟨rfl, hb⟩; exact ⟨_, rfl, rfl, hb⟩
              · rintro v y ⟨rfl, hb⟩; exact ⟨hC.trans (hb.mono hC.size), hb, by intro d hd; cases hd; rfl⟩
            case o32 =>
              intro Q a w2 hC hV hI
              have e0 : a.eval (.tmp 0) = .slice (some ⟨g, 0, none⟩) n cap := (hI 0 (by simp [Op.operands]) (by kernel_rfl)).trans rfl
              have f0 : a.tmps.getD 0 undef = .slice (some ⟨g, 0, none⟩) n cap := e0
              have g0 : a.tmps[0]?.getD undef = .slice (some ⟨g, 0, none⟩) n cap := by rw [← Array.getD_eq_getD_getElem?]; exact e0
              refine op_val (.slice (some ⟨g, 0, none⟩) n cap) ?_ hC (Below.refl _ _) (by intro d hd; cases hd; rfl)
              (clear hV hI hC; go_simp <;> (first | rfl | simp))
            case o33 =>
              intro Q a w2 hC hV hI
              have e5 : a.eval (.tmp 5) = .int .i64 (i : Int) := (hI 5 (by simp [Op.operands]) (by kernel_rfl)).trans rfl
              have f5 : a.tmps.getD 5 undef = .int .i64 (i : Int) := e5
              have g5 : a.tmps[5]?.getD undef = .int .i64 (i : Int) := by rw [← Array.getD_eq_getD_getElem?]; exact e5
              refine op_val (.int .i64 (i : Int)) ?_ hC (Below.refl _ _) (by intro d hd; cases hd; rfl)
              (clear hV hI hC; go_simp <;> (first | rfl | simp))
            case o34 =>
              intro Q a w2 hC hV hI
              have e32 : a.eval (.tmp 32) = .slice (some ⟨g, 0, none⟩) n cap := hV 32 (by simp [Op.operands]) (by kernel_rfl)
              have f32 : a.tmps.getD 32 undef = .slice (some ⟨g, 0, none⟩) n cap := e32
              have g32 : a.tmps[32]?.getD undef = .slice (some ⟨g, 0, none⟩) n cap := by rw [← Array.getD_eq_getD_getElem?]; exact e32
              have e33 : a.eval (.tmp 33) = .int .i64 (i : Int) := hV 33 (by simp [Op.operands]) (by kernel_rfl)
              have f33 : a.tmps.getD 33 undef = .int .i64 (i : Int) := e33
              have g33 : a.tmps[33]?.getD undef = .int .i64 (i : Int) := by rw [← Array.getD_eq_getD_getElem?]; exact e33
              refine op_val (.pointer (some ⟨g, i * 10, none⟩)) ?_ hC (Below.refl _ _) (by intro d hd; cases hd; rfl)
              (clear hV hI hC; go_simp <;> (first | rfl | simp))
            case o35 =>
              intro Q a w2 hC hV hI
              have e34 : a.eval (.tmp 34) = .pointer (some ⟨g, i * 10, none⟩) := hV 34 (by simp [Op.operands]) (by kernel_rfl)
              have f34 : a.tmps.getD 34 undef = .pointer (some ⟨g, i * 10, none⟩) := e34
              have g34 : a.tmps[34]?.getD undef = .pointer (some ⟨g, i * 10, none⟩) := by rw [← Array.getD_eq_getD_getElem?]; exact e34
              refine op_val (.pointer (some ⟨g, i * 10 + 9, none⟩)) ?_ hC (Below.refl _ _) (by intro d hd; cases hd; rfl)
              (clear hV hI hC; go_simp <;> (first | rfl | simp))
            case o36 =>
              intro Q a w2 hC hV hI
              have e35 : a.eval (.tmp 35) = .pointer (some ⟨g, i * 10 + 9, none⟩) := hV 35 (by simp [Op.operands]) (by kernel_rfl)
              have f35 : a.tmps.getD 35 undef = .pointer (some ⟨g, i * 10 + 9, none⟩) := e35
              have g35 : a.tmps[35]?.getD undef = .pointer (some ⟨g, i * 10 + 9, none⟩) := by rw [← Array.getD_eq_getD_getElem?]; exact e35
              have hK := KC.out w2 hC
              refine op_val (.string b) ?_ hC (Below.refl _ _) (by intro d hd; cases hd; rfl)
              (clear hV hI hC; go_simp <;> (first | rfl | simp))
            case o37 =>
              intro Q a w2 hC hV hI
              have e36 : a.eval (.tmp 36) = .string b := hV 36 (by simp [Op.operands, Call.operands]) (by kernel_rfl)
              have f36 : a.tmps.getD 36 undef = .string b := e36
              have g36 : a.tmps[36]?.getD undef = .string b := by rw [← Array.getD_eq_getD_getElem?]; exact e36
              refine op_val (.int .i64 (b.size : Int)) ?_ hC (Below.refl _ _) (by intro d hd; cases hd; rfl)
              (clear hV hI hC; go_simp <;> (first | rfl | simp))
            case o38 =>
              intro Q a w2 hC hV hI
              have e25 : a.eval (.tmp 25) = .agg #[.int .i64 k, .string p, .string l, .int .i64 m, .int .i64 u, .int .i64 g0, .int .i64 t, .string us, .string gr, .string b] := hV 25 (by simp [Op.operands, Call.operands]) (by kernel_rfl)
              have f25 : a.tmps.getD 25 undef = .agg #[.int .i64 k, .string p, .string l, .int .i64 m, .int .i64 u, .int .i64 g0, .int .i64 t, .string us, .string gr, .string b] := e25
              have g25 : a.tmps[25]?.getD undef = .agg #[.int .i64 k, .string p, .string l, .int .i64 m, .int .i64 u, .int .i64 g0, .int .i64 t, .string us, .string gr, .string b] := by rw [← Array.getD_eq_getD_getElem?]; exact e25
              have e31 : a.eval (.tmp 31) = .string fl := hV 31 (by simp [Op.operands, Call.operands]) (by kernel_rfl)
              have f31 : a.tmps.getD 31 undef = .string fl := e31
              have g31 : a.tmps[31]?.getD undef = .string fl := by rw [← Array.getD_eq_getD_getElem?]; exact e31
              have e37 : a.eval (.tmp 37) = .int .i64 (b.size : Int) := hV 37 (by simp [Op.operands, Call.operands]) (by kernel_rfl)
              have f37 : a.tmps.getD 37 undef = .int .i64 (b.size : Int) := e37
              have g37 : a.tmps[37]?.getD undef = .int .i64 (b.size : Int) := by rw [← Array.getD_eq_getD_getElem?]; exact e37
              refine op_call (f := 22) (args := #[.agg #[.int .i64 k, .string p, .string l, .int .i64 m, .int .i64 u, .int .i64 g0, .int .i64 t, .string us, .string gr, .string b], .string fl, .int .i64 (b.size : Int)]) (R := fun v y => v = .string hd ∧ Below w2.heap.size w2 y) ?_ ((HH.out w2).mono ?_) ?_
              · (clear hV hI hC; go_simp <;> (first | rfl | simp))
              · rintro e y ⟨rfl, hb⟩; exact ⟨_, rfl, rfl, hb⟩
              · rintro v y ⟨rfl, hb⟩; exact ⟨hC.trans (hb.mono hC.size), hb, by intro d hd; cases hd; rfl⟩
            case o39 =>
              intro Q a w2 hC hV hI
              have e21 : a.eval (.tmp 21) = .string T := hV 21 (by simp [Op.operands]) (by kernel_rfl)
              have f21 : a.tmps.getD 21 undef = .string T := e21
              have g21 : a.tmps[21]?.getD undef = .string T := by rw [← Array.getD_eq_getD_getElem?]; exact e21
              have e38 : a.eval (.tmp 38) = .string hd := hV 38 (by simp [Op.operands]) (by kernel_rfl)
              have f38 : a.tmps.getD 38 undef = .string hd := e38
              have g38 : a.tmps[38]?.getD undef = .string hd := by rw [← Array.getD_eq_getD_getElem?]; exact e38
              refine op_val (.string x39) ?_ hC (Below.refl _ _) (by intro d hd; cases hd; rfl)
              have q := HA39.out w2
              (clear hV hI hC; go_simp <;> (first | rfl | simp))
            case o40 =>
              intro Q a w2 hC hV hI
              have e0 : a.eval (.tmp 0) = .slice (some ⟨g, 0, none⟩) n cap := (hI 0 (by simp [Op.operands]) (by kernel_rfl)).trans rfl
              have f0 : a.tmps.getD 0 undef = .slice (some ⟨g, 0, none⟩) n cap := e0
              have g0 : a.tmps[0]?.getD undef = .slice (some ⟨g, 0, none⟩) n cap := by rw [← Array.getD_eq_getD_getElem?]; exact e0
              refine op_val (.slice (some ⟨g, 0, none⟩) n cap) ?_ hC (Below.refl _ _) (by intro d hd; cases hd; rfl)
              (clear hV hI hC; go_simp <;> (first | rfl | simp))
            case o41 =>
              intro Q a w2 hC hV hI
              have e5 : a.eval (.tmp 5) = .int .i64 (i : Int) := (hI 5 (by simp [Op.operands]) (by kernel_rfl)).trans rfl
              have f5 : a.tmps.getD 5 undef = .int .i64 (i : Int) := e5
              have g5 : a.tmps[5]?.getD undef = .int .i64 (i : Int) := by rw [← Array.getD_eq_getD_getElem?]; exact e5
              refine op_val (.int .i64 (i : Int)) ?_ hC (Below.refl _ _) (by intro d hd; cases hd; rfl)
              (clear hV hI hC; go_simp <;> (first | rfl | simp))
            case o42 =>
              intro Q a w2 hC hV hI
              have e40 : a.eval (.tmp 40) = .slice (some ⟨g, 0, none⟩) n cap := hV 40 (by simp [Op.operands]) (by kernel_rfl)
              have f40 : a.tmps.getD 40 undef = .slice (some ⟨g, 0, none⟩) n cap := e40
              have g40 : a.tmps[40]?.getD undef = .slice (some ⟨g, 0, none⟩) n cap := by rw [← Array.getD_eq_getD_getElem?]; exact e40
              have e41 : a.eval (.tmp 41) = .int .i64 (i : Int) := hV 41 (by simp [Op.operands]) (by kernel_rfl)
              have f41 : a.tmps.getD 41 undef = .int .i64 (i : Int) := e41
              have g41 : a.tmps[41]?.getD undef = .int .i64 (i : Int) := by rw [← Array.getD_eq_getD_getElem?]; exact e41
              refine op_val (.pointer (some ⟨g, i * 10, none⟩)) ?_ hC (Below.refl _ _) (by intro d hd; cases hd; rfl)
              (clear hV hI hC; go_simp <;> (first | rfl | simp))
            case o43 =>
              intro Q a w2 hC hV hI
              have e42 : a.eval (.tmp 42) = .pointer (some ⟨g, i * 10, none⟩) := hV 42 (by simp [Op.operands]) (by kernel_rfl)
              have f42 : a.tmps.getD 42 undef = .pointer (some ⟨g, i * 10, none⟩) := e42
              have g42 : a.tmps[42]?.getD undef = .pointer (some ⟨g, i * 10, none⟩) := by rw [← Array.getD_eq_getD_getElem?]; exact e42
              refine op_val (.pointer (some ⟨g, i * 10 + 9, none⟩)) ?_ hC (Below.refl _ _) (by intro d hd; cases hd; rfl)
              (clear hV hI hC; go_simp <;> (first | rfl | simp))
            case o44 =>
              intro Q a w2 hC hV hI
              have e43 : a.eval (.tmp 43) = .pointer (some ⟨g, i * 10 + 9, none⟩) := hV 43 (by simp [Op.operands]) (by kernel_rfl)
              have f43 : a.tmps.getD 43 undef = .pointer (some ⟨g, i * 10 + 9, none⟩) := e43
              have g43 : a.tmps[43]?.getD undef = .pointer (some ⟨g, i * 10 + 9, none⟩) := by rw [← Array.getD_eq_getD_getElem?]; exact e43
              have hK := KC.out w2 hC
              refine op_val (.string b) ?_ hC (Below.refl _ _) (by intro d hd; cases hd; rfl)
              (clear hV hI hC; go_simp <;> (first | rfl | simp))
            case o45 =>
              intro Q a w2 hC hV hI
              have e44 : a.eval (.tmp 44) = .string b := hV 44 (by simp [Op.operands, Call.operands]) (by kernel_rfl)
              have f44 : a.tmps.getD 44 undef = .string b := e44
              have g44 : a.tmps[44]?.getD undef = .string b := by rw [← Array.getD_eq_getD_getElem?]; exact e44
              refine op_call (f := 30) (args := #[.string b]) (R := fun v y => v = .string bb ∧ Below w2.heap.size w2 y) ?_ ((HBd.out w2).mono ?_) ?_
              · (clear hV hI hC; go_simp <;> (first | rfl | simp))
              · rintro e y ⟨rfl, hb⟩; exact ⟨_, rfl, rfl, hb⟩
              · rintro v y ⟨rfl, hb⟩; exact ⟨hC.trans (hb.mono hC.size), hb, by intro d hd; cases hd; rfl⟩
            case o46 =>
              intro Q a w2 hC hV hI
              have e39 : a.eval (.tmp 39) = .string x39 := hV 39 (by simp [Op.operands]) (by kernel_rfl)
              have f39 : a.tmps.getD 39 undef = .string x39 := e39
              have g39 : a.tmps[39]?.getD undef = .string x39 := by rw [← Array.getD_eq_getD_getElem?]; exact e39
              have e45 : a.eval (.tmp 45) = .string bb := hV 45 (by simp [Op.operands]) (by kernel_rfl)
              have f45 : a.tmps.getD 45 undef = .string bb := e45
              have g45 : a.tmps[45]?.getD undef = .string bb := by rw [← Array.getD_eq_getD_getElem?]; exact e45
              refine op_val (.string x46) ?_ hC (Below.refl _ _) (by intro d hd; cases hd; rfl)
              have q := HA46.out w2
              (clear hV hI hC; go_simp <;> (first | rfl | simp))
            case o4 =>
              intro Q a w2 hC hV hI
              have e46 : a.eval (.tmp 46) = .string x46 := hV 46 (by simp [Op.operands]) (by kernel_rfl)
              have f46 : a.tmps.getD 46 undef = .string x46 := e46
              have g46 : a.tmps[46]?.getD undef = .string x46 := by rw [← Array.getD_eq_getD_getElem?]; exact e46
              refine op_val (.string x46) ?_ hC (Below.refl _ _) (by intro d hd; cases hd; rfl)
              (clear hV hI hC; go_simp <;> (first | rfl | simp))
          case hend =>
            intro f w3 hC hall
            clear HA39 HA46
            simp only [List.forall_mem_cons] at hall
            obtain ⟨h21, h22, h23, h24, h25, h26, h27, h28, h29, h30, h31, h32, h33, h34, h35, h36, h37, h38, h39, h40, h41, h42, h43, h44, h45, h46, h4, _⟩ := hall
            replace h21 : f 21 = .string T := h21 21 rfl
            replace h22 : f 22 = .slice (some ⟨g, 0, none⟩) n cap := h22 22 rfl
            replace h23 : f 23 = .int .i64 (i : Int) := h23 23 rfl
            replace h24 : f 24 = .pointer (some ⟨g, i * 10, none⟩) := h24 24 rfl
            replace h25 : f 25 = .agg #[.int .i64 k, .string p, .string l, .int .i64 m, .int .i64 u, .int .i64 g0, .int .i64 t, .string us, .string gr, .string b] := h25 25 rfl
            replace h26 : f 26 = .slice (some ⟨g, 0, none⟩) n cap := h26 26 rfl
            replace h27 : f 27 = .int .i64 (i : Int) := h27 27 rfl
            replace h28 : f 28 = .pointer (some ⟨g, i * 10, none⟩) := h28 28 rfl
            replace h29 : f 29 = .pointer (some ⟨g, i * 10, none⟩) := h29 29 rfl
            replace h30 : f 30 = .int .i64 k := h30 30 rfl
            replace h31 : f 31 = .string fl := h31 31 rfl
            replace h32 : f 32 = .slice (some ⟨g, 0, none⟩) n cap := h32 32 rfl
            replace h33 : f 33 = .int .i64 (i : Int) := h33 33 rfl
            replace h34 : f 34 = .pointer (some ⟨g, i * 10, none⟩) := h34 34 rfl
            replace h35 : f 35 = .pointer (some ⟨g, i * 10 + 9, none⟩) := h35 35 rfl
            replace h36 : f 36 = .string b := h36 36 rfl
            replace h37 : f 37 = .int .i64 (b.size : Int) := h37 37 rfl
            replace h38 : f 38 = .string hd := h38 38 rfl
            replace h39 : f 39 = .string x39 := h39 39 rfl
            replace h40 : f 40 = .slice (some ⟨g, 0, none⟩) n cap := h40 40 rfl
            replace h41 : f 41 = .int .i64 (i : Int) := h41 41 rfl
            replace h42 : f 42 = .pointer (some ⟨g, i * 10, none⟩) := h42 42 rfl
            replace h43 : f 43 = .pointer (some ⟨g, i * 10 + 9, none⟩) := h43 43 rfl
            replace h44 : f 44 = .string b := h44 44 rfl
            replace h45 : f 45 = .string bb := h45 45 rfl
            replace h46 : f 46 = .string x46 := h46 46 rfl
            replace h4 : f 4 = .string x46 := h4 4 rfl
            simp only [putAll, Act.put, List.setIfInBounds_toArray, List.set_cons_succ, List.set_cons_zero, h21, h22, h23, h24, h25, h26, h27, h28, h29, h30, h31, h32, h33, h34, h35, h36, h37, h38, h39, h40, h41, h42, h43, h44, h45, h46, h4]
            clear h21 h22 h23 h24 h25 h26 h27 h28 h29 h30 h31 h32 h33 h34 h35 h36 h37 h38 h39 h40 h41 h42 h43 h44 h45 h46 h4
            have HXX : Hid (piecesTo L (i + 1) = x46) := Lib.hid (by rw [HS.out, HX46.out, HX39.out])
            have B3 := Lib.hid (btE B2.out hC)
            clear hC KC HTEN BW B2 HS HX39 HX46
            go_wp2_with fail
            go_roundw
            case rel => exact ⟨i + 1, by rw [HXX.out], by go_num, by omega, HFN.out, B3.out⟩
            case measure => simp [intOf]; omega
      · obtain rfl : i = n := by omega
        have hlt2 : ¬ (i : Int) < (i : Int) := by omega
        have HE := Lib.hid (HY.out HFT.out)
        have y1 := HZ.out i (Nat.le_refl _)
        generalize piecesTo L i = T at HE y1
        have yT : T.size ≤ 123000 := by omega
        go_wp2_with fail
        refine (HN.out _).mono ?_
        rintro e w2 ⟨rfl, hb⟩
        go_wp2
        go_ret2
        exact ⟨ret_sb2 HE.out rfl rfl, btE B.out hb⟩
end Go.Proofs.YtkpdeeembnjmnabGreatDoor

/- Maps from texts to numbers, and sets of texts, that a call makes. -/
namespace Go.Proofs.YtkpdeeembnjmnabGreatDoor
open Go.ChangeShapes Go.WideShapes Go.ChangeAt Go.RowKit Go.Maps

theorem lawS : Keyed Tryz.prog 9 := string_keyed Tryz.underlying9
theorem zeroN (w : World) : (zeroValue 3).run Tryz.prog w = .ok (.int .i64 0) w := by kernel_rfl
def keyS (s : ByteArray) : Lit := .string s.data.toList
theorem key_of {s : ByteArray} (h : s.size ≤ maxLen) : keyOf Tryz.prog 9 (.string s) = some (keyS s) := WideMaps.keyOf_string_mk Tryz.underlying9 h
theorem keyS_ne {a b : ByteArray} (h : ¬ a = b) : keyS a ≠ keyS b := by
  intro e
  apply h
  exact ba_ext (by simpa [keyS] using e)
theorem keyS_lit (a : ByteArray) : WideAt.IsKeyLit (keyS a) := trivial
/-- What the map D tells of each text. -/
def MapIs (D : DataW Unit) (M : ByteArray → Option Int) : Prop := IsMap D ∧ ∀ s, Maps.has D (keyS s) = (M s).isSome ∧ ∀ c, M s = some c → D.atKey (keyS s) (.lit (.int .i64 0)) = .lit (.int .i64 c)
/-- Block b is a map from texts to numbers of at most n entries. -/
def MapAt (w : World) (b n : Nat) (M : ByteArray → Option Int) : Prop := ∃ D : DataW Unit, w.ownsMap Tryz.prog 9 (plainElem Tryz.prog 3) b n D ∧ MapIs D M
def putM (M : ByteArray → Option Int) (s : ByteArray) (c : Int) : ByteArray → Option Int := fun t => if t = s then some c else M t
theorem MapIs.put {D : DataW Unit} {M : ByteArray → Option Int} (h : MapIs D M) (s : ByteArray) (c : Int) : MapIs (D.put (keyS s) (.lit (.int .i64 c))) (putM M s c) := by
  refine ⟨h.1.put _ _, fun t => ?_⟩
  by_cases e : t = s
  · subst e
    refine ⟨by rw [Maps.has_put_same h.1 (keyS_lit _)]; simp [putM], fun d hd => ?_⟩
    rw [Maps.atKey_put_same h.1 (keyS_lit _)]
    simp [putM] at hd
    rw [hd]
  · refine ⟨by rw [Maps.has_put_other (keyS_ne e), (h.2 t).1]; simp [putM, e], fun d hd => ?_⟩
    rw [Maps.atKey_put_other (keyS_ne e)]
    simp [putM, e] at hd
    exact (h.2 t).2 d hd
theorem mapIs_empty : MapIs (.map []) (fun _ => none) := ⟨isMap_empty, fun _ => ⟨rfl, fun _ h => by cases h⟩⟩
theorem mapAt_made (w : World) : MapAt (w.alloc (.map #[] 0)) w.heap.size 0 (fun _ => none) := ⟨.map [], World.ownsMap_made w _ _ _, mapIs_empty⟩
theorem MapAt.kept {w w' : World} {b n : Nat} {M : ByteArray → Option Int} {row : Option Nat} (h : MapAt w b n M) (hg : w.grownBy w' row) (hne : some b ≠ row) : MapAt w' b n M := by
  obtain ⟨D, ho, hs⟩ := h
  exact ⟨D, World.ownsMap.kept ho hg hne, hs⟩
theorem ownsMap_below {w w' : World} {k : TypeId} {R : Value → Option (DataW Unit × List MemPlace)} {b n : Nat} {D : DataW Unit} (h : w.ownsMap Tryz.prog k R b n D) (hb : Below w.heap.size w w') : w'.ownsMap Tryz.prog k R b n D :=
  World.ownsMap.kept h (row := none) ⟨hb.os, hb.tape, hb.output, hb.size, fun k hk _ => hb.block k hk⟩ (by simp)
theorem MapAt.below {w w' : World} {b n : Nat} {M : ByteArray → Option Int} (h : MapAt w b n M) (hb : Below w.heap.size w w') : MapAt w' b n M := by
  obtain ⟨D, ho, hs⟩ := h
  exact ⟨D, ownsMap_below ho hb, hs⟩
theorem MapAt.lt {w : World} {b n : Nat} {M : ByteArray → Option Int} (h : MapAt w b n M) : b < w.heap.size := by
  obtain ⟨D, ho, _⟩ := h
  exact World.ownsMap.lt ho
/-- The set D of texts. -/
def SetSIs (D : DataW Unit) (T : ByteArray → Bool) : Prop := IsMap D ∧ ∀ s, Maps.has D (keyS s) = T s
def SetSAt (w : World) (b n : Nat) (T : ByteArray → Bool) : Prop := ∃ D : DataW Unit, w.ownsMap Tryz.prog 9 (unitElem (H := Unit)) b n D ∧ SetSIs D T
def putT (T : ByteArray → Bool) (s : ByteArray) : ByteArray → Bool := fun t => decide (t = s) || T t
theorem SetSIs.put {D : DataW Unit} {T : ByteArray → Bool} (h : SetSIs D T) (s : ByteArray) (u : DataW Unit) : SetSIs (D.put (keyS s) u) (putT T s) := by
  refine ⟨h.1.put _ _, fun t => ?_⟩
  by_cases e : t = s
  · subst e
    rw [Maps.has_put_same h.1 (keyS_lit _)]; simp [putT]
  · rw [Maps.has_put_other (keyS_ne e), h.2 t]; simp [putT, e]
theorem setS_made (w : World) : SetSAt (w.alloc (.map #[] 0)) w.heap.size 0 (fun _ => false) := ⟨.map [], World.ownsMap_made w _ _ _, isMap_empty, fun _ => rfl⟩
theorem SetSAt.kept {w w' : World} {b n : Nat} {T : ByteArray → Bool} {row : Option Nat} (h : SetSAt w b n T) (hg : w.grownBy w' row) (hne : some b ≠ row) : SetSAt w' b n T := by
  obtain ⟨D, ho, hs⟩ := h
  exact ⟨D, World.ownsMap.kept ho hg hne, hs⟩
theorem SetSAt.below {w w' : World} {b n : Nat} {T : ByteArray → Bool} (h : SetSAt w b n T) (hb : Below w.heap.size w w') : SetSAt w' b n T := by
  obtain ⟨D, ho, hs⟩ := h
  exact ⟨D, ownsMap_below ho hb, hs⟩
theorem SetSAt.lt {w : World} {b n : Nat} {T : ByteArray → Bool} (h : SetSAt w b n T) : b < w.heap.size := by
  obtain ⟨D, ho, _⟩ := h
  exact World.ownsMap.lt ho
end Go.Proofs.YtkpdeeembnjmnabGreatDoor

/- ListOk by the kinds of the entries so far: plain mathematics. -/
namespace Go.Proofs.YtkpdeeembnjmnabGreatDoor
open Go.RowKit

/-- The kind of the first entry with a path. -/
def kindOf (L : List Ent) (p : ByteArray) : Option Int := (L.find? fun e => decide (e.path = p)).map Ent.kind
theorem findFrom_kind (L : List Ent) (p : ByteArray) (i : Nat) : (kindOf L p = none ∧ findFrom L p i = -1) ∨ ∃ (a : Nat) (e : Ent), kindOf L p = some e.kind ∧ findFrom L p i = ((i + a : Nat) : Int) ∧ L[a]? = some e ∧ e.path = p := by
  induction L generalizing i with
  | nil => exact .inl ⟨rfl, rfl⟩
  | cons e L ih =>
    rw [findFrom]
    by_cases h : e.path = p
    · exact .inr ⟨0, e, by simp [kindOf, h], by simp [h], rfl, h⟩
    · rw [if_neg h]
      have hk : kindOf (e :: L) p = kindOf L p := by simp [kindOf, h]
      rw [hk]
      rcases ih (i + 1) with h1 | ⟨a, e', h0, h1, h2, h3⟩
      · exact .inl h1
      · exact .inr ⟨a + 1, e', h0, by rw [h1]; congr 1; omega, by simpa using h2, h3⟩
theorem find_kind (L : List Ent) (p : ByteArray) : (kindOf L p = none ∧ findv L p = -1) ∨ ∃ (a : Nat) (e : Ent), kindOf L p = some e.kind ∧ findv L p = (a : Int) ∧ L[a]? = some e ∧ e.path = p := by
  rcases findFrom_kind L p 0 with h | ⟨a, e, h0, h1, h2, h3⟩
  · exact .inl h
  · exact .inr ⟨a, e, h0, by rw [findv, h1]; simp, h2, h3⟩
theorem fileAt_kind (L : List Ent) (p : ByteArray) : fileAt L p = decide (kindOf L p = some 0) := by
  rcases find_kind L p with ⟨h, h1⟩ | ⟨a, e, h, h1, h2, _⟩
  · rw [fileAt_none h1, h]; simp
  · rw [fileAt_some h1 h2, h]; simp
theorem findFrom_app (L M : List Ent) (p : ByteArray) (i : Nat) : findFrom (L ++ M) p i = if kindOf L p = none then findFrom M p (i + L.length) else findFrom L p i := by
  induction L generalizing i with
  | nil => simp [kindOf]
  | cons e L ih =>
    rw [List.cons_append, findFrom]
    by_cases h : e.path = p
    · simp [kindOf, h, findFrom]
    · have hk : kindOf (e :: L) p = kindOf L p := by simp [kindOf, h]
      rw [if_neg h, ih, hk]
      simp only [List.length_cons, findFrom, if_neg h]
      rw [show i + 1 + L.length = i + (L.length + 1) from by omega]
theorem find_self {L : List Ent} {i : Nat} {e : Ent} (he : L[i]? = some e) : findv L e.path = (i : Int) ↔ kindOf (L.take i) e.path = none := by
  have hlt : i < L.length := (List.getElem?_eq_some_iff.1 he).1
  have hL : L = L.take i ++ (e :: L.drop (i + 1)) := by
    have h1 := (List.getElem?_eq_some_iff.1 he).2
    conv => lhs; rw [← List.take_append_drop i L]
    rw [List.drop_eq_getElem_cons hlt, h1]
  have hl : (L.take i).length = i := by simp; omega
  constructor
  · intro h
    cases hk : kindOf (L.take i) e.path with
    | none => rfl
    | some c =>
      rw [findv, hL, findFrom_app, if_neg (by rw [hk]; simp)] at h
      rcases findFrom_kind (L.take i) e.path 0 with ⟨h0, _⟩ | ⟨a, e', _, h1, h2, _⟩
      · rw [h0] at hk; cases hk
      · have := (List.getElem?_eq_some_iff.1 h2).1
        rw [h1] at h
        omega
  · intro h
    rw [findv]
    conv => lhs; rw [hL]
    rw [findFrom_app, if_pos h, findFrom, if_pos rfl, hl]
    simp
theorem entAtOk_kind {L : List Ent} {i : Nat} {e : Ent} (he : L[i]? = some e) : entAtOk L i e = (entOkv e && decide (kindOf (L.take i) e.path = none) && (if e.kind = 3 then decide (kindOf (L.take i) e.link = some 0) else true)) := by
  rw [entAtOk, fileAt_kind]
  congr 2
  rw [decide_eq_decide]
  exact find_self he
theorem kindOf_snoc {L : List Ent} {i : Nat} {e : Ent} (he : L[i]? = some e) (hk : kindOf (L.take i) e.path = none) : kindOf (L.take (i + 1)) = putM (kindOf (L.take i)) e.path e.kind := by
  have hlt : i < L.length := (List.getElem?_eq_some_iff.1 he).1
  have h1 := (List.getElem?_eq_some_iff.1 he).2
  funext p
  rw [List.take_succ_eq_append_getElem hlt, h1]
  simp only [kindOf, putM, List.find?_append] at hk ⊢
  by_cases h : p = e.path
  · subst h
    simp at hk
    have : List.find? (fun e' => decide (e'.path = e.path)) (List.take i L) = none := by
      rw [List.find?_eq_none]
      intro x hx
      simpa using hk x hx
    simp [this]
  · have h' : ¬ e.path = p := fun x => h x.symm
    simp [h, h']
theorem kindOf_zero (L : List Ent) : kindOf (L.take 0) = fun _ => none := by
  funext p; simp [kindOf]
theorem entOk_kind (e : Ent) (h : entOkv e = true) : -9223372036854775808 ≤ e.kind ∧ e.kind ≤ 9223372036854775807 := by
  simp only [entOkv, Bool.and_eq_true] at h
  have h2 := h.2
  unfold kindOk at h2
  split at h2
  · omega
  · split at h2
    · omega
    · split at h2
      · omega
      · split at h2
        · omega
        · cases h2
end Go.Proofs.YtkpdeeembnjmnabGreatDoor

/- Contract of impl.ListOk. -/
namespace Go.Proofs.YtkpdeeembnjmnabGreatDoor
open Go.ChangeShapes Go.WideShapes Go.ChangeAt Go.RowKit Go.Deep Go.Maps

theorem listOk_long {L : List Ent} (h : 30 < L.length) : listOkv L = false := by
  rw [listOkv, decide_eq_false (by omega)]; simp
set_option maxHeartbeats 1600000 in
theorem listOk_impl (L : List Ent) (n g cap : Nat) (w : World) (hn : n = L.length) (hm : n ≤ 4194304) (hg : g < w.heap.size) (hsm : SmallL L) (h1 : RowE w g L) :
    Calls Tryz.prog 33 #[.slice (some ⟨g, 0, none⟩) n cap] w fun e w' => e = .returned (.bool (listOkv L)) ∧ Below w.heap.size w w' := by
  have H1 := Lib.hid h1
  have HG : Hid (∀ i, i < n → ∃ e, L[i]? = some e ∧ esz e ≤ 4194304) := Lib.hid (fun i hi => by obtain ⟨e, he⟩ := getE' (L := L) (i := i) (by omega); exact ⟨e, he, hsm.get he⟩)
  have HBad : Hid (∀ i e, L[i]? = some e → entAtOk L i e = false → listOkv L = false) := Lib.hid (fun i e he hk => listOk_bad he hk)
  have HDone : Hid (OksTo L n → n ≤ 30 → listOkv L = true) := Lib.hid (by rw [hn]; intro h h2; rw [listOk_done h]; simpa using h2)
  have HLong : Hid (30 < n → listOkv L = false) := Lib.hid (by rw [hn]; exact listOk_long)
  generalize listOkv L = r at HBad HDone HLong
  clear h1 hn hsm
  by_cases h30 : 30 < n
  · have h30' : (30 : Int) < (n : Int) := by omega
    have HX := Lib.hid (HLong.out h30)
    go_enter Tryz.func33, Tryz.ntmps33
    go_wp2_with fail
    go_ret
    exact ⟨ret_bool HX.out.symm, Below.refl _ _⟩
  have h30' : ¬ (30 : Int) < (n : Int) := by omega
  have hmm := @run_makeMap Tryz.prog
  go_enter Tryz.func33, Tryz.ntmps33
  go_wp2_with fail
  go_loopw [5, 6, 7, 8, 9, 16] (fun _ _ _ _ _ u wr => ∃ i : Nat, u = .int .i64 i ∧ i ≤ n ∧ OksTo L i ∧ MapAt wr w.heap.size i (kindOf (L.take i)) ∧ Below w.heap.size w wr) (fun _ _ _ _ _ u _ => n - (intOf u).toNat)
  case atStart => exact ⟨0, rfl, Nat.zero_le _, fun j hj => by omega, by rw [kindOf_zero]; exact mapAt_made w, (Below.refl _ _).alloc (Nat.le_refl _) _⟩
  case round =>
    obtain ⟨i, rfl, hi, hr, hmap, hb⟩ := hrel
    have HR := Lib.hid hr
    have B := Lib.hid hb
    have HMp := Lib.hid hmap
    have zm := hmap.lt
    clear hr hb hmap hmm
    by_cases hlt : i < n
    · have hlt2 : (i : Int) < (n : Int) := by omega
      obtain ⟨e, he, hz⟩ := HG.out i hlt
      have R := Lib.hid (H1.out.below B.out hg)
      obtain ⟨c0, c1, c2, c3, c4, c5, c6, c7, c8, c9⟩ := R.out.ten he
      have HBi := Lib.hid (HBad.out i e he)
      have HSi := Lib.hid (fun hk => HR.out.step he hk)
      have HA := Lib.hid (entAtOk_kind he)
      have HK := Lib.hid (fun h => kindOf_snoc he h)
      clear he HBad HG HR
      have hsz := small_parts hz
      generalize kindOf (L.take i) = M at HMp HA HK
      obtain ⟨k, p, l, m, u, g0, t, us, gr, b⟩ := e
      have HO := Lib.hid (fun w => entryOk_impl k p l m u g0 t us gr b w hsz.1 hsz.2.1 hsz.2.2.1 hsz.2.2.2.1)
      dsimp only at hsz
      have kp : p.size ≤ maxLen := by have := hsz.1; simp only [maxLen]; omega
      have kl : l.size ≤ maxLen := by have := hsz.2.1; simp only [maxLen]; omega
      have HKd := Lib.hid (entOk_kind ⟨k, p, l, m, u, g0, t, us, gr, b⟩)
      generalize entAtOk L i ⟨k, p, l, m, u, g0, t, us, gr, b⟩ = ra at HA HBi HSi
      generalize entOkv ⟨k, p, l, m, u, g0, t, us, gr, b⟩ = b1 at HA HO HKd
      dsimp only at HA HK HKd
      clear hsz hz
      have zr : g < wr.heap.size := by have := B.out.size; omega
      obtain ⟨D, ho, hD⟩ := HMp.out
      have OM := Lib.hid ho
      have HD := Lib.hid hD
      clear ho hD HMp
      have HP := Lib.hid (HD.out.2 p).1
      have HLk := Lib.hid (HD.out.2 l)
      cases hp : M p with
      | some x =>
        have hh : Maps.has D (keyS p) = true := by rw [HP.out, hp]; rfl
        have HX : Hid (r = false) := Lib.hid (HBi.out (by rw [HA.out, hp]; simp))
        clear HA HK HP HLk HBi HSi HO HD hp
        go_wp2_with (at_lookup; refine wpList_lookup_own_ok_int _ rfl _ _ 84 rfl 9 3 .i64 lawS Tryz.underlying84 Tryz.underlying3 (zeroN _) w.heap.size i D rfl (OM.out.alloc _) _ _ rfl (key_of kp) ?_; intro c _ _)
        go_ret
        exact ⟨ret_bool HX.out.symm, B.out.alloc B.out.size _⟩
      | none =>
        have hh : Maps.has D (keyS p) = false := by rw [HP.out, hp]; rfl
        have HN := Lib.hid (HK.out hp)
        have HA2 : Hid (ra = (b1 && (if k = 3 then decide (M l = some 0) else true))) := Lib.hid (by rw [HA.out, hp]; simp)
        clear HA HK HP hp
        go_wp2_with (at_lookup; refine wpList_lookup_own_ok_int _ rfl _ _ 84 rfl 9 3 .i64 lawS Tryz.underlying84 Tryz.underlying3 (zeroN _) w.heap.size i D rfl (OM.out.alloc _) _ _ rfl (key_of kp) ?_; intro c _ _)
        refine (HO.out _).mono ?_
        rintro e w1 ⟨rfl, hb⟩
        have O1 := Lib.hid (ownsMap_below (OM.out.alloc _) hb)
        obtain ⟨k1, bb, z1⟩ := one_new (e1 := ⟨k, p, l, m, u, g0, t, us, gr, b⟩) hb
        have E1 := Lib.hid k1
        have B1 := Lib.hid (btE B.out bb)
        clear hb k1 bb c0 c1 c2 c3 c4 c5 c6 c7 c8 c9 R B HO OM hh
        obtain ⟨c0, c1, c2, c3, c4, c5, c6, c7, c8, c9⟩ := E1.out.zero
        have hsz1 := B1.out.size
        cases b1 with
        | false =>
          go_wp2_with fail
          go_ret
          exact ⟨ret_bool (HBi.out (by rw [HA2.out]; simp)).symm, B1.out⟩
        | true =>
          by_cases hk : k = 3
          · subst hk
            cases hl : M l with
            | none =>
              have hh : Maps.has D (keyS l) = false := by rw [HLk.out.1, hl]; rfl
              have HX : Hid (r = false) := Lib.hid (HBi.out (by rw [HA2.out, hl]; simp))
              clear HA2 HBi HSi HLk hl HN
              go_wp2_with (at_lookup; refine wpList_lookup_own_ok_int _ rfl _ _ 84 rfl 9 3 .i64 lawS Tryz.underlying84 Tryz.underlying3 (zeroN _) w.heap.size i D rfl O1.out _ _ rfl (key_of kl) ?_; intro c' _ _)
              go_ret
              exact ⟨ret_bool HX.out.symm, B1.out⟩
            | some x =>
              have hh : Maps.has D (keyS l) = true := by rw [HLk.out.1, hl]; rfl
              have HT := Lib.hid (HLk.out.2 x hl)
              by_cases hx : x = 0
              · subst hx
                have HS := Lib.hid (HSi.out (by rw [HA2.out, hl]; simp))
                clear HA2 HBi HSi HLk hl
                go_wp2_with (first | (at_lookup; refine wpList_lookup_own_ok_int _ rfl _ _ 84 rfl 9 3 .i64 lawS Tryz.underlying84 Tryz.underlying3 (zeroN _) w.heap.size i D rfl O1.out _ _ rfl (key_of kl) ?_; intro c' hat _; obtain rfl : c' = 0 := (by have := hat.symm.trans HT.out; simpa using this); clear hat) | (at_mapUpdate; refine wpList_mapUpdate_own _ rfl _ _ _ 84 rfl 9 3 lawS Tryz.underlying84 _ w.heap.size i D rfl O1.out (by simp only [maxLen]; omega) _ _ _ rfl rfl (key_of kp) _ [] (plainElem_int Tryz.underlying3 (by decide)) ?_; intro w2 hown2 hgrow2))
                have HM2 : Hid (MapAt w2 w.heap.size (i + 1) (kindOf (L.take (i + 1)))) := Lib.hid (by rw [HN.out]; exact ⟨_, hown2, HD.out.put p 3⟩)
                have B2 : Hid (Below w.heap.size w w2) := Lib.hid (B1.out.grown hgrow2 hsz1 (fun b hb => by cases hb; exact Nat.le_refl _))
                clear hown2 hgrow2 HN HT hh
                go_wp2_with fail
                go_roundw
                case rel => exact ⟨i + 1, by go_num, by omega, HS.out, HM2.out, B2.out⟩
                case measure => simp [intOf]; omega
              · have HX : Hid (r = false) := Lib.hid (HBi.out (by rw [HA2.out, hl]; simp [hx]))
                have hx2 : (x != 0) = true := by simpa using hx
                clear HA2 HBi HSi HLk hl HN hx
                go_wp2_with (at_lookup; refine wpList_lookup_own_ok_int _ rfl _ _ 84 rfl 9 3 .i64 lawS Tryz.underlying84 Tryz.underlying3 (zeroN _) w.heap.size i D rfl O1.out _ _ rfl (key_of kl) ?_; intro c' hat _; obtain rfl : c' = x := (by have := hat.symm.trans HT.out; simpa using this); clear hat)
                go_ret
                exact ⟨ret_bool HX.out.symm, B1.out⟩
          · have HS := Lib.hid (HSi.out (by rw [HA2.out]; simp [hk]))
            have hk2 : (k == 3) = false := by simpa using hk
            have hk3 : decide (k = 3) = false := by simpa using hk
            have hwk : (Lit.int .i64 k).wf = true := WalkArith.wf_i64 (HKd.out rfl)
            clear HA2 HBi HSi HLk hk
            go_wp2_with (first | (at_lookup; refine wpList_lookup_own_ok_int _ rfl _ _ 84 rfl 9 3 .i64 lawS Tryz.underlying84 Tryz.underlying3 (zeroN _) w.heap.size i D rfl O1.out _ _ rfl (key_of kl) ?_; intro c' _ _) | (at_mapUpdate; refine wpList_mapUpdate_own _ rfl _ _ _ 84 rfl 9 3 lawS Tryz.underlying84 _ w.heap.size i D rfl O1.out (by simp only [maxLen]; omega) _ _ _ rfl rfl (key_of kp) _ [] (plainElem_int Tryz.underlying3 hwk) ?_; intro w2 hown2 hgrow2))
            have HM2 : Hid (MapAt w2 w.heap.size (i + 1) (kindOf (L.take (i + 1)))) := Lib.hid (by rw [HN.out]; exact ⟨_, hown2, HD.out.put p k⟩)
            have B2 : Hid (Below w.heap.size w w2) := Lib.hid (B1.out.grown hgrow2 hsz1 (fun b hb => by cases hb; exact Nat.le_refl _))
            clear hown2 hgrow2 HN
            go_wp2_with fail
            go_roundw
            case rel => exact ⟨i + 1, by go_num, by omega, HS.out, HM2.out, B2.out⟩
            case measure => simp [intOf]; omega
    · obtain rfl : i = n := by omega
      have hlt2 : ¬ (i : Int) < (i : Int) := by omega
      have HFin := Lib.hid (HDone.out HR.out (by omega))
      go_wp2_with fail
      go_ret
      exact ⟨ret_bool HFin.out.symm, B.out⟩
end Go.Proofs.YtkpdeeembnjmnabGreatDoor

/- Contracts of impl.nuls and impl.PutUstar. -/
namespace Go.Proofs.YtkpdeeembnjmnabGreatDoor
open Go.ChangeShapes Go.WideShapes Go.ChangeAt Go.RowKit Go.Deep

theorem fill_empty {n : Int} (h : n ≤ 1024) : fillv ⟨#[]⟩ n = nulv n.toNat := by
  unfold fillv
  have z : (⟨#[]⟩ : ByteArray).size = 0 := rfl
  by_cases q : n ≤ 0
  · rw [if_pos (.inr (by omega)), show n.toNat = 0 from by omega]; rfl
  · rw [if_neg (by omega), z]
    apply ba_ext
    simp
theorem nulsI_any (n : Int) (w : World) (hn : n ≤ 1024) :
    Calls Tryz.prog 36 #[.int .i64 n] w fun e w' => e = .returned (.string (nulv n.toNat)) ∧ Below w.heap.size w w' := by
  have H := Lib.hid (fun w => fill_impl ⟨#[]⟩ n w (by decide))
  rw [fill_empty hn] at H
  generalize nulv n.toNat = r at H
  go_enter Tryz.func36, Tryz.ntmps36
  go_wp2_with fail
  refine (H.out _).mono ?_
  rintro e w1 ⟨rfl, hb⟩
  go_wp2
  go_ret
  exact ⟨rfl, hb⟩
theorem OwnB.textU {w : World} {base n : Nat} {v : Value} {l : List UInt8} {s : ByteArray} (hn : n = l.length + s.size) (h : w.ownsRow base 5 1 v n (byteVals l ++ Lib.strCells s)) : OwnB w base v (l ++ s.data.toList) := by
  subst hn
  have e : byteVals l ++ Lib.strCells s = byteVals (l ++ s.data.toList) := by simp [byteVals, Lib.strCells]
  rw [e, show l.length + s.size = (l ++ s.data.toList).length from by simp] at h
  exact h
theorem ownB_belowU {w w' : World} {base : Nat} {v : Value} {l : List UInt8} (h : OwnB w base v l) (hb : Below w.heap.size w w') : OwnB w' base v l :=
  World.ownsRow.kept h (row := none) ⟨hb.os, hb.tape, hb.output, hb.size, fun k hk _ => hb.block k hk⟩ (by cases hv : v.ownBlock <;> simp)
/-- A row of another type is another block. -/
theorem own_ne {w : World} {base n g : Nat} {e t : TypeId} {v : Value} {xs : List Value} {c : Array Value} {fr : Nat × Nat} (ho : w.ownsRow base e 1 v n xs) (hg : w.heap[g]? = some (.cells c t fr)) (hne : t ≠ e) : some g ≠ v.ownBlock := by
  rcases ho.2 with ⟨rfl, _⟩ | ⟨g', cap, cur, rfl, _, hc, _⟩
  · simp [Value.ownBlock]
  · simp only [Value.ownBlock]
    intro h
    obtain rfl : g = g' := Option.some.inj h
    rw [hg] at hc
    simp only [Option.some.injEq, Obj.cells.injEq] at hc
    exact hne hc.2.1
theorem box_kept {w w' : World} {base n g : Nat} {e t : TypeId} {v : Value} {xs : List Value} {c : Array Value} {fr : Nat × Nat} (ho : w.ownsRow base e 1 v n xs) (hg : w.heap[g]? = some (.cells c t fr)) (hne : t ≠ e) (hgrow : w.grownBy w' v.ownBlock) : w'.heap[g]? = some (.cells c t fr) := by
  have hl : g < w.heap.size := (Array.getElem?_eq_some_iff.1 hg).1
  rw [← hg]
  exact hgrow.block g hl (own_ne ho hg hne)
set_option maxHeartbeats 6400000 in
set_option maxRecDepth 8000 in
theorem putUstar_impl (L : List Ent) (n g cap : Nat) (w : World) (hn : n = L.length) (hm : n ≤ 1048576) (hg : g < w.heap.size) (hsm : SmallL L) (htab : Tabs w) (hfw : FW w) (h1 : RowE w g L) :
    Calls Tryz.prog 13 #[.slice (some ⟨g, 0, none⟩) n cap] w fun e w' => e = .returned (.tuple #[.string (putUstarv L).1, .bool (putUstarv L).2]) ∧ Below w.heap.size w w' := by
  obtain ⟨i0, hi0, hz0, hz1, hz2⟩ := info_parts Tryz.info5
  have HLO := Lib.hid (fun w h0 h1 => listOk_impl L n g cap w hn (by omega) h0 hsm h1)
  have H1 := Lib.hid h1
  have HTab := Lib.hid htab
  have HFw := Lib.hid hfw
  cases hlo : listOkv L with
  | false =>
    have HE := Lib.hid (ustar_bad hlo)
    generalize putUstarv L = r at HE
    rw [hlo] at HLO
    clear h1 hlo hsm hn htab hfw
    go_enter Tryz.func13, Tryz.ntmps13
    go_wp2_with fail
    refine (HLO.out _ hg H1.out).mono ?_
    rintro e w1 ⟨rfl, hb⟩
    go_wp2
    go_ret2
    exact ⟨ret_sb2 HE.out rfl rfl, hb⟩
  | true =>
    have HG : Hid (∀ i, i < n → ∃ e, L[i]? = some e ∧ esz e ≤ 4194304 ∧ entOkv e = true) := Lib.hid (fun i hi => by obtain ⟨e, he⟩ := getE' (L := L) (i := i) (by omega); exact ⟨e, he, hsm.get he, listOk_ent hlo he⟩)
    have HY : Hid (FitTo L n → putUstarv L = (piecesTo L n ++ nulv 1024, true)) := Lib.hid (by rw [hn]; exact ustar_yes hlo)
    have HNo : Hid (∀ i e, L[i]? = some e → fitsv e = false → putUstarv L = (⟨#[]⟩, false)) := Lib.hid (fun i e h1 h2 => ustar_no h1 h2)
    have HZ : Hid (∀ i, i ≤ n → (piecesTo L i).size ≤ 4100 * i) := Lib.hid (fun i hi => pieces_size hlo i (by omega))
    have h30 : n ≤ 30 := by rw [hn]; exact listOk_30 hlo
    have HN := Lib.hid (fun w => nulsI_any 1024 w (by omega))
    rw [show ((1024 : Int).toNat) = 1024 from rfl] at HN
    have zn := nulv_size 1024
    generalize nulv 1024 = n1024 at *
    generalize putUstarv L = r at HY HNo
    rw [hlo] at HLO
    clear h1 hlo hsm hn htab hfw
    go_enter Tryz.func13, Tryz.ntmps13
    go_wp2_with fail
    refine (HLO.out _ hg H1.out).mono ?_
    rintro e w1 ⟨rfl, hb1⟩
    have B1 := Lib.hid hb1
    clear hb1 HLO
    go_wp2_with fail
    go_loopw [4, 13] (fun v u wr => ∃ i : Nat, u = .int .i64 i ∧ i ≤ n ∧ FitTo L i ∧ OwnB wr w.heap.size v (piecesTo L i).data.toList ∧ Below w.heap.size w wr) (fun _ u _ => n - (intOf u).toNat)
    case atStart => exact ⟨0, rfl, Nat.zero_le _, fun j h => absurd h (by omega), World.ownsRow_nil _ _ _ _, B1.out⟩
    case round =>
      obtain ⟨i, rfl, hi, hft, ho, hb⟩ := hrel
      have B := Lib.hid hb
      have O := Lib.hid ho
      have HFT := Lib.hid hft
      clear hb hft ho B1
      by_cases hlt : i < n
      · have hlt2 : (i : Int) < (n : Int) := by omega
        obtain ⟨e, he, hz, hok⟩ := HG.out i hlt
        obtain ⟨c0, c1, c2, c3, c4, c5, c6, c7, c8, c9⟩ := (H1.out.below B.out hg).ten he
        have HS := Lib.hid (pieces_step he)
        have HNX := Lib.hid (fun h => HNo.out i e he h)
        have HFS := Lib.hid (fun h => HFT.out.step he h)
        have HHE := Lib.hid (And.intro (head_or hok) (And.intro (pad_bd e.body.size) (entOk_kb hok)))
        have y1 := HZ.out i hi
        have hsz := small_parts hz
        clear he hz hok
        obtain ⟨k, p, l, m, u, g0, t, us, gr, b⟩ := e
        dsimp only at hsz c0 c1 c2 c3 c4 c5 c6 c7 c8 c9
        have hbk : b.size ≤ 3000 := HHE.out.2.2.2
        have hpd : 0 ≤ padv b.size 512 ∧ padv b.size 512 ≤ 511 := HHE.out.2.1
        have HFl := Lib.hid (fun w => flag_impl k w)
        have HH := Lib.hid (fun w' hT hF => putHead_impl k p l m u g0 t us gr b (flagv k) b.size w' hsz.1 hsz.2.1 hsz.2.2.1 hsz.2.2.2.1 hT hF)
        have HP := Lib.hid (fun w => pad_impl b.size 512 w)
        have HNu := Lib.hid (fun w => nulsI_any (padv b.size 512) w (by omega))
        have znu := nulv_size (padv b.size 512).toNat
        have HBd : Hid (bodyP b = b ++ nulv (padv b.size 512).toNat) := Lib.hid rfl
        have HH5 : Hid ((fitsv ⟨k, p, l, m, u, g0, t, us, gr, b⟩ = true ∧ (putHeadv ⟨k, p, l, m, u, g0, t, us, gr, b⟩ (flagv k) b.size).size = 512) ∨ (fitsv ⟨k, p, l, m, u, g0, t, us, gr, b⟩ = false ∧ putHeadv ⟨k, p, l, m, u, g0, t, us, gr, b⟩ (flagv k) b.size = ⟨#[]⟩)) := Lib.hid HHE.out.1
        dsimp only at HS
        clear HHE
        generalize putHeadv ⟨k, p, l, m, u, g0, t, us, gr, b⟩ (flagv k) b.size = hd at HS HH HH5
        generalize flagv k = fl at HH HFl
        generalize bodyP b = bb at HS HBd
        generalize nulv (padv b.size 512).toNat = nn at *
        generalize padv b.size 512 = pp at *
        generalize piecesTo L i = T at HS y1 O
        have yT : T.size ≤ 123000 := by omega
        have sB := B.out.size
        clear hsz y1
        go_wp2_with fail
        have E0 := EntAt.new wr ⟨k, p, l, m, u, g0, t, us, gr, b⟩ 23
        have B0 := (Below.refl wr.heap.size wr).alloc (Nat.le_refl _) (.cells (Ent.cells ⟨k, p, l, m, u, g0, t, us, gr, b⟩).toArray 23)
        have X0 : (wr.alloc (.cells (Ent.cells ⟨k, p, l, m, u, g0, t, us, gr, b⟩).toArray 23)).heap[wr.heap.size]? = some (.cells (Ent.cells ⟨k, p, l, m, u, g0, t, us, gr, b⟩).toArray 23 (0, 0)) := heap_alloc_last _ _
        have z0 : wr.heap.size < (wr.alloc (.cells (Ent.cells ⟨k, p, l, m, u, g0, t, us, gr, b⟩).toArray 23)).heap.size := by simp
        simp only [Ent.cells] at E0 B0 z0 X0
        generalize wr.alloc (.cells #[.int .i64 k, .string p, .string l, .int .i64 m, .int .i64 u, .int .i64 g0, .int .i64 t, .string us, .string gr, .string b] 23) = w1 at *
        have E1 := Lib.hid E0
        have B1 := Lib.hid (btE B.out B0)
        have O1 := Lib.hid (ownB_belowU O.out B0)
        have X1 := Lib.hid X0
        clear E0 B0 B O X0 c0 c1 c2 c3 c4 c5 c6 c7 c8 c9
        have KC : Hid (∀ w', Below w1.heap.size w1 w' → w'.cell? ⟨wr.heap.size, 0, none⟩ = some (.int .i64 k) ∧ w'.cell? ⟨wr.heap.size, 1, none⟩ = some (.string p) ∧ w'.cell? ⟨wr.heap.size, 2, none⟩ = some (.string l) ∧ w'.cell? ⟨wr.heap.size, 3, none⟩ = some (.int .i64 m) ∧ w'.cell? ⟨wr.heap.size, 4, none⟩ = some (.int .i64 u) ∧ w'.cell? ⟨wr.heap.size, 5, none⟩ = some (.int .i64 g0) ∧ w'.cell? ⟨wr.heap.size, 6, none⟩ = some (.int .i64 t) ∧ w'.cell? ⟨wr.heap.size, 7, none⟩ = some (.string us) ∧ w'.cell? ⟨wr.heap.size, 8, none⟩ = some (.string gr) ∧ w'.cell? ⟨wr.heap.size, 9, none⟩ = some (.string b)) := Lib.hid (fun w' hb => by obtain ⟨c0, c1, c2, c3, c4, c5, c6, c7, c8, c9⟩ := (E1.out.below hb z0).zero; exact ⟨c0, c1, c2, c3, c4, c5, c6, c7, c8, c9⟩)
        refine wp_region_inv (by kernel_rfl) (fun w' => Below w1.heap.size w1 w') (fun x y => Below x.heap.size x y) (fun d v _ => match d with | 17 => v = .agg #[.int .i64 k, .string p, .string l, .int .i64 m, .int .i64 u, .int .i64 g0, .int .i64 t, .string us, .string gr, .string b] | 18 => v = .pointer (some ⟨wr.heap.size, 0, none⟩) | 19 => v = .int .i64 k | 20 => v = .string fl | 21 => v = .pointer (some ⟨wr.heap.size, 9, none⟩) | 22 => v = .string b | 23 => v = .int .i64 (b.size : Int) | 24 => v = .string hd | 7 => v = .string hd | _ => True) (by kernel_rfl) ((Below.refl _ _).drew) (fun _ _ _ _ _ _ h => h) ?hops ?hend
        case hops =>
          simp only [List.forall_mem_cons]
          refine ⟨?o17, ?o18, ?o19, ?o20, ?o21, ?o22, ?o23, ?o24, ?o7, fun _ h => by cases h⟩
          case o17 =>
            intro Q a w2 hC hV hI
            have e6 : a.eval (.tmp 6) = .pointer (some ⟨wr.heap.size, 0, none⟩) := (hI 6 (by simp [Op.operands]) (by kernel_rfl)).trans rfl
            have f6 : a.tmps.getD 6 undef = .pointer (some ⟨wr.heap.size, 0, none⟩) := e6
            have g6 : a.tmps[6]?.getD undef = .pointer (some ⟨wr.heap.size, 0, none⟩) := by rw [← Array.getD_eq_getD_getElem?]; exact e6
            have hK := KC.out w2 hC
            refine op_val (.agg #[.int .i64 k, .string p, .string l, .int .i64 m, .int .i64 u, .int .i64 g0, .int .i64 t, .string us, .string gr, .string b]) ?_ hC (Below.refl _ _) (by intro d hd; cases hd; rfl)
            (clear hV hI hC; go_simp <;> (first | rfl | simp))
          case o18 =>
            intro Q a w2 hC hV hI
            have e6 : a.eval (.tmp 6) = .pointer (some ⟨wr.heap.size, 0, none⟩) := (hI 6 (by simp [Op.operands]) (by kernel_rfl)).trans rfl
            have f6 : a.tmps.getD 6 undef = .pointer (some ⟨wr.heap.size, 0, none⟩) := e6
            have g6 : a.tmps[6]?.getD undef = .pointer (some ⟨wr.heap.size, 0, none⟩) := by rw [← Array.getD_eq_getD_getElem?]; exact e6
            refine op_val (.pointer (some ⟨wr.heap.size, 0, none⟩)) ?_ hC (Below.refl _ _) (by intro d hd; cases hd; rfl)
            (clear hV hI hC; go_simp <;> (first | rfl | simp))
          case o19 =>
            intro Q a w2 hC hV hI
            have e18 : a.eval (.tmp 18) = .pointer (some ⟨wr.heap.size, 0, none⟩) := hV 18 (by simp [Op.operands]) (by kernel_rfl)
            have f18 : a.tmps.getD 18 undef = .pointer (some ⟨wr.heap.size, 0, none⟩) := e18
            have g18 : a.tmps[18]?.getD undef = .pointer (some ⟨wr.heap.size, 0, none⟩) := by rw [← Array.getD_eq_getD_getElem?]; exact e18
            have hK := KC.out w2 hC
            refine op_val (.int .i64 k) ?_ hC (Below.refl _ _) (by intro d hd; cases hd; rfl)
            (clear hV hI hC; go_simp <;> (first | rfl | simp))
          case o20 =>
            intro Q a w2 hC hV hI
            have e19 : a.eval (.tmp 19) = .int .i64 k := hV 19 (by simp [Op.operands, Call.operands]) (by kernel_rfl)
            have f19 : a.tmps.getD 19 undef = .int .i64 k := e19
            have g19 : a.tmps[19]?.getD undef = .int .i64 k := by rw [← Array.getD_eq_getD_getElem?]; exact e19
            refine op_call (f := 35) (args := #[.int .i64 k]) (R := fun v y => v = .string fl ∧ w2 = y) ?_ ((HFl.out w2).mono ?_) ?_
            · (clear hV hI hC; go_simp <;> (first | rfl | simp))
            · rintro e y ⟨rfl, rfl⟩; exact ⟨_, rfl, rfl, rfl⟩
            · rintro v y ⟨rfl, rfl⟩; exact ⟨hC, Below.refl _ _, by intro d hd; cases hd; rfl⟩
          case o21 =>
            intro Q a w2 hC hV hI
            have e6 : a.eval (.tmp 6) = .pointer (some ⟨wr.heap.size, 0, none⟩) := (hI 6 (by simp [Op.operands]) (by kernel_rfl)).trans rfl
            have f6 : a.tmps.getD 6 undef = .pointer (some ⟨wr.heap.size, 0, none⟩) := e6
            have g6 : a.tmps[6]?.getD undef = .pointer (some ⟨wr.heap.size, 0, none⟩) := by rw [← Array.getD_eq_getD_getElem?]; exact e6
            refine op_val (.pointer (some ⟨wr.heap.size, 9, none⟩)) ?_ hC (Below.refl _ _) (by intro d hd; cases hd; rfl)
            (clear hV hI hC; go_simp <;> (first | rfl | simp))
          case o22 =>
            intro Q a w2 hC hV hI
            have e21 : a.eval (.tmp 21) = .pointer (some ⟨wr.heap.size, 9, none⟩) := hV 21 (by simp [Op.operands]) (by kernel_rfl)
            have f21 : a.tmps.getD 21 undef = .pointer (some ⟨wr.heap.size, 9, none⟩) := e21
            have g21 : a.tmps[21]?.getD undef = .pointer (some ⟨wr.heap.size, 9, none⟩) := by rw [← Array.getD_eq_getD_getElem?]; exact e21
            have hK := KC.out w2 hC
            refine op_val (.string b) ?_ hC (Below.refl _ _) (by intro d hd; cases hd; rfl)
            (clear hV hI hC; go_simp <;> (first | rfl | simp))
          case o23 =>
            intro Q a w2 hC hV hI
            have e22 : a.eval (.tmp 22) = .string b := hV 22 (by simp [Op.operands, Call.operands]) (by kernel_rfl)
            have f22 : a.tmps.getD 22 undef = .string b := e22
            have g22 : a.tmps[22]?.getD undef = .string b := by rw [← Array.getD_eq_getD_getElem?]; exact e22
            refine op_val (.int .i64 (b.size : Int)) ?_ hC (Below.refl _ _) (by intro d hd; cases hd; rfl)
            (clear hV hI hC; go_simp <;> (first | rfl | simp))
          case o24 =>
            intro Q a w2 hC hV hI
            have e17 : a.eval (.tmp 17) = .agg #[.int .i64 k, .string p, .string l, .int .i64 m, .int .i64 u, .int .i64 g0, .int .i64 t, .string us, .string gr, .string b] := hV 17 (by simp [Op.operands, Call.operands]) (by kernel_rfl)
            have f17 : a.tmps.getD 17 undef = .agg #[.int .i64 k, .string p, .string l, .int .i64 m, .int .i64 u, .int .i64 g0, .int .i64 t, .string us, .string gr, .string b] := e17
            have g17 : a.tmps[17]?.getD undef = .agg #[.int .i64 k, .string p, .string l, .int .i64 m, .int .i64 u, .int .i64 g0, .int .i64 t, .string us, .string gr, .string b] := by rw [← Array.getD_eq_getD_getElem?]; exact e17
            have e20 : a.eval (.tmp 20) = .string fl := hV 20 (by simp [Op.operands, Call.operands]) (by kernel_rfl)
            have f20 : a.tmps.getD 20 undef = .string fl := e20
            have g20 : a.tmps[20]?.getD undef = .string fl := by rw [← Array.getD_eq_getD_getElem?]; exact e20
            have e23 : a.eval (.tmp 23) = .int .i64 (b.size : Int) := hV 23 (by simp [Op.operands, Call.operands]) (by kernel_rfl)
            have f23 : a.tmps.getD 23 undef = .int .i64 (b.size : Int) := e23
            have g23 : a.tmps[23]?.getD undef = .int .i64 (b.size : Int) := by rw [← Array.getD_eq_getD_getElem?]; exact e23
            refine op_call (f := 34) (args := #[.agg #[.int .i64 k, .string p, .string l, .int .i64 m, .int .i64 u, .int .i64 g0, .int .i64 t, .string us, .string gr, .string b], .string fl, .int .i64 (b.size : Int)]) (R := fun v y => v = .string hd ∧ Below w2.heap.size w2 y) ?_ ((HH.out w2 (HTab.out.below (btE B1.out hC)) (HFw.out.below (btE B1.out hC))).mono ?_) ?_
            · (clear hV hI hC; go_simp <;> (first | rfl | simp))
            · rintro e y ⟨rfl, hb⟩; exact ⟨_, rfl, rfl, hb⟩
            · rintro v y ⟨rfl, hb⟩; exact ⟨hC.trans (hb.mono hC.size), hb, by intro d hd; cases hd; rfl⟩
          case o7 =>
            intro Q a w2 hC hV hI
            have e24 : a.eval (.tmp 24) = .string hd := hV 24 (by simp [Op.operands]) (by kernel_rfl)
            have f24 : a.tmps.getD 24 undef = .string hd := e24
            have g24 : a.tmps[24]?.getD undef = .string hd := by rw [← Array.getD_eq_getD_getElem?]; exact e24
            refine op_val (.string hd) ?_ hC (Below.refl _ _) (by intro d hd; cases hd; rfl)
            (clear hV hI hC; go_simp <;> (first | rfl | simp))
        case hend =>
          intro f w3 hC hall
          simp only [List.forall_mem_cons] at hall
          obtain ⟨h17, h18, h19, h20, h21, h22, h23, h24, h7, _⟩ := hall
          replace h17 : f 17 = .agg #[.int .i64 k, .string p, .string l, .int .i64 m, .int .i64 u, .int .i64 g0, .int .i64 t, .string us, .string gr, .string b] := h17 17 rfl
          replace h18 : f 18 = .pointer (some ⟨wr.heap.size, 0, none⟩) := h18 18 rfl
          replace h19 : f 19 = .int .i64 k := h19 19 rfl
          replace h20 : f 20 = .string fl := h20 20 rfl
          replace h21 : f 21 = .pointer (some ⟨wr.heap.size, 9, none⟩) := h21 21 rfl
          replace h22 : f 22 = .string b := h22 22 rfl
          replace h23 : f 23 = .int .i64 (b.size : Int) := h23 23 rfl
          replace h24 : f 24 = .string hd := h24 24 rfl
          replace h7 : f 7 = .string hd := h7 7 rfl
          simp only [putAll, Act.put, List.setIfInBounds_toArray, List.set_cons_succ, List.set_cons_zero, h17, h18, h19, h20, h21, h22, h23, h24, h7]
          clear h17 h18 h19 h20 h21 h22 h23 h24 h7
          have B3 := Lib.hid (btE B1.out hC)
          have O3 := Lib.hid (ownB_belowU O1.out hC)
          have X3 := Lib.hid ((hC.block _ z0).trans X1.out)
          clear hC KC B1 O1 X1 E1 HFl HH
          rcases HH5.out with ⟨hf, z5⟩ | ⟨hf, rfl⟩
          · have q := empty_f (l := hd) (by omega)
            have HFN := Lib.hid (HFS.out hf)
            have zT : T.data.toList.length = T.size := by simp
            have s3 := B3.out.size
            clear HH5 HNX HFS hf
            go_wp2_with (at_builtin; refine Lib.wpList_append_own_string _ rfl _ _ 56 9 rfl w.heap.size 5 i0 Tryz.underlying56 Tryz.underlying9 hi0 hz0 hz1 hz2 _ _ _ rfl O3.out hd rfl ?d3 ?d4 ?d5 ?_)
            case d3 => simp only [maxLen]; omega
            case d4 => omega
            case d5 => omega
            · intro v4 w4 hown4 hgrow4 _
              have O4 : Hid (OwnB w4 w.heap.size v4 (T.data.toList ++ hd.data.toList)) := Lib.hid (OwnB.textU (by simp <;> omega) hown4)
              have B4 : Hid (Below w.heap.size w w4) := Lib.hid (B3.out.grown hgrow4 (by omega) (fun b hb => (World.ownsRow.lt O3.out b hb).1))
              have X4 := Lib.hid (box_kept O3.out X3.out (by decide) hgrow4)
              clear hown4 hgrow4 O3 B3 X3
              have s4 := B4.out.size
              have z4 : (T.data.toList ++ hd.data.toList).length = T.size + 512 := by simp; omega
              have c9 : w4.cell? ⟨wr.heap.size, 9, none⟩ = some (.string b) := by rw [cell_of_row _ _ _ _ _ _ X4.out]; rfl
              go_wp2_with (at_builtin; refine Lib.wpList_append_own_string _ rfl _ _ 56 9 rfl w.heap.size 5 i0 Tryz.underlying56 Tryz.underlying9 hi0 hz0 hz1 hz2 _ _ _ rfl O4.out b rfl ?d6 ?d7 ?d8 ?_)
              case d6 => rw [z4]; simp only [maxLen]; omega
              case d7 => rw [z4]; omega
              case d8 => omega
              · intro v5 w5 hown5 hgrow5 _
                have O5 : Hid (OwnB w5 w.heap.size v5 (T.data.toList ++ hd.data.toList ++ b.data.toList)) := Lib.hid (OwnB.textU (by simp <;> omega) hown5)
                have B5 : Hid (Below w.heap.size w w5) := Lib.hid (B4.out.grown hgrow5 (by omega) (fun b hb => (World.ownsRow.lt O4.out b hb).1))
                have X5 := Lib.hid (box_kept O4.out X4.out (by decide) hgrow5)
                clear hown5 hgrow5 O4 B4 X4 c9
                have s5 := B5.out.size
                have c9 : w5.cell? ⟨wr.heap.size, 9, none⟩ = some (.string b) := by rw [cell_of_row _ _ _ _ _ _ X5.out]; rfl
                go_wp2_with fail
                refine (HP.out _).mono ?_
                rintro e w6 ⟨rfl, rfl⟩
                go_wp2_with fail
                refine (HNu.out _).mono ?_
                rintro e w6 ⟨rfl, hb6⟩
                have O6 := Lib.hid (ownB_belowU O5.out hb6)
                have B6 := Lib.hid (btE B5.out hb6)
                clear hb6 O5 B5 X5 c9
                have s6 := B6.out.size
                have z6 : (T.data.toList ++ hd.data.toList ++ b.data.toList).length = T.size + 512 + b.size := by simp; omega
                go_wp2_with (at_builtin; refine Lib.wpList_append_own_string _ rfl _ _ 56 9 rfl w.heap.size 5 i0 Tryz.underlying56 Tryz.underlying9 hi0 hz0 hz1 hz2 _ _ _ rfl O6.out nn rfl ?d9 ?d10 ?d11 ?_)
                case d9 => rw [z6]; simp only [maxLen]; omega
                case d10 => rw [z6]; omega
                case d11 => omega
                · intro v7 w7 hown7 hgrow7 _
                  have O7 : Hid (OwnB w7 w.heap.size v7 (piecesTo L (i + 1)).data.toList) := Lib.hid (by
                    have h := OwnB.textU (by simp <;> omega) hown7
                    rw [HS.out, HBd.out]
                    simpa using h)
                  have B7 : Hid (Below w.heap.size w w7) := Lib.hid (B6.out.grown hgrow7 (by omega) (fun b hb => (World.ownsRow.lt O6.out b hb).1))
                  clear hown7 hgrow7 O6 B6
                  go_wp2_with fail
                  go_roundw
                  case rel => exact ⟨i + 1, by go_num, by omega, HFN.out, O7.out, B7.out⟩
                  case measure => simp [intOf]; omega
          · have q := empty_t (l := ⟨#[]⟩) rfl
            have HE := Lib.hid (HNX.out hf)
            clear HH5 HNX HFS hf
            go_wp2_with fail
            go_ret2
            exact ⟨ret_sb2 HE.out rfl rfl, B3.out⟩
      · obtain rfl : i = n := by omega
        have hlt2 : ¬ (i : Int) < (i : Int) := by omega
        have HE := Lib.hid (HY.out HFT.out)
        have y1 := HZ.out i (Nat.le_refl _)
        generalize piecesTo L i = T at HE y1 O
        have yT : T.size ≤ 123000 := by omega
        have zT : T.data.toList.length = T.size := by simp
        go_wp2_with fail
        refine (HN.out _).mono ?_
        rintro e w2 ⟨rfl, hb⟩
        have O2 := Lib.hid (ownB_belowU O.out hb)
        have B2 := Lib.hid (btE B.out hb)
        clear hb O B
        have s2 := B2.out.size
        go_wp2_with (at_builtin; refine Lib.wpList_append_own_string _ rfl _ _ 56 9 rfl w.heap.size 5 i0 Tryz.underlying56 Tryz.underlying9 hi0 hz0 hz1 hz2 _ _ _ rfl O2.out n1024 rfl ?f3 ?f4 ?f5 ?_)
        case f3 => simp only [maxLen]; omega
        case f4 => omega
        case f5 => omega
        · intro v3 w3 hown3 hgrow3 _
          have O3 : OwnB w3 w.heap.size v3 (T.data.toList ++ n1024.data.toList) := OwnB.textU (by simp <;> omega) hown3
          have B3 : Hid (Below w.heap.size w w3) := Lib.hid (B2.out.grown hgrow3 (by omega) (fun b hb => (World.ownsRow.lt O2.out b hb).1))
          have hc := O3.conv
          rw [show (⟨(T.data.toList ++ n1024.data.toList).toArray⟩ : ByteArray) = T ++ n1024 from ba_ext (by simp)] at hc
          clear hown3 hgrow3 O2 B2 O3
          go_wp2_with fail
          go_ret2
          exact ⟨ret_sb2 HE.out rfl rfl, B3.out⟩
end Go.Proofs.YtkpdeeembnjmnabGreatDoor

/- PutUstar and Blocks, as the laws ask them. -/
namespace Go.Proofs.YtkpdeeembnjmnabGreatDoor
open Go.ChangeShapes Go.WideShapes Go.ChangeAt Go.RowKit Go.Deep

def TabsF (w : World) : Prop := Tabs w ∧ FW w
theorem TabsF.below {w w' : World} (h : TabsF w) (hb : Below w.heap.size w w') : TabsF w' := ⟨h.1.below hb, h.2.below hb⟩
theorem ustar_spec (L : List Ent) (n g cap : Nat) (w : World) (hn : n = L.length) (hm : n ≤ 1048576) (hcap : n ≤ cap) (hg : g < w.heap.size) (hsm : SmallL L) (h1 : RowE w g L) :
    Calls Tryz.prog 11 #[.slice (some ⟨g, 0, none⟩) n cap] w fun e w' => e = .returned (.tuple #[.string (putUstarv L).1, .bool (putUstarv L).2]) ∧ Below w.heap.size w w' := putUstar_spec L n g cap w hn hm hcap hg hsm h1
theorem ustar_impl (L : List Ent) (n g cap : Nat) (w : World) (hn : n = L.length) (hm : n ≤ 1048576) (hg : g < w.heap.size) (hsm : SmallL L) (ht : TabsF w) (h1 : RowE w g L) :
    Calls Tryz.prog 13 #[.slice (some ⟨g, 0, none⟩) n cap] w fun e w' => e = .returned (.tuple #[.string (putUstarv L).1, .bool (putUstarv L).2]) ∧ Below w.heap.size w w' := putUstar_impl L n g cap w hn hm hg hsm ht.1 ht.2 h1
theorem ustar_len (L : List Ent) : (putUstarv L).1.size ≤ 200000 := by
  unfold putUstarv
  split
  · rename_i h
    simp only [ustarOk, Bool.and_eq_true] at h
    have h1 := pieces_size h.1 L.length (Nat.le_refl _)
    have h2 := listOk_30 h.1
    rw [ByteArray.size_append, nulv_size]
    omega
  · decide
def blocksv (L : List Ent) : Int := ((putUstarv L).1.size : Int) / 512
theorem blocks_spec (L : List Ent) (n g cap : Nat) (w : World) (hn : n = L.length) (hm : n ≤ 1048576) (hcap : n ≤ cap) (hg : g < w.heap.size) (hsm : SmallL L) (h1 : RowE w g L) :
    Calls Tryz.prog 19 #[.slice (some ⟨g, 0, none⟩) n cap] w fun e w' => e = .returned (.int .i64 (blocksv L)) ∧ Below w.heap.size w w' := by
  have H := Lib.hid (fun w h0 h1 => ustar_spec L n g cap w hn hm hcap h0 hsm h1)
  have HE : Hid (blocksv L = ((putUstarv L).1.size : Int) / 512) := Lib.hid rfl
  have z := ustar_len L
  generalize blocksv L = r at HE
  generalize putUstarv L = pr at *
  obtain ⟨s, b⟩ := pr
  simp only at H HE z
  have H1 := Lib.hid h1
  clear h1 hsm hn
  go_enter Tryz.func19, Tryz.ntmps19
  go_wp2_with fail
  refine (H.out _ hg H1.out).mono ?_
  rintro e w1 ⟨rfl, hb⟩
  go_wp2
  go_ret
  exact ⟨ret_int HE.out.symm, hb⟩
theorem blocks_impl (L : List Ent) (n g cap : Nat) (w : World) (hn : n = L.length) (hm : n ≤ 1048576) (hg : g < w.heap.size) (hsm : SmallL L) (ht : TabsF w) (h1 : RowE w g L) :
    Calls Tryz.prog 20 #[.slice (some ⟨g, 0, none⟩) n cap] w fun e w' => e = .returned (.int .i64 (blocksv L)) ∧ Below w.heap.size w w' := by
  have H := Lib.hid (fun w h0 ht h1 => ustar_impl L n g cap w hn hm h0 hsm ht h1)
  have HE : Hid (blocksv L = ((putUstarv L).1.size : Int) / 512) := Lib.hid rfl
  have z := ustar_len L
  generalize blocksv L = r at HE
  generalize putUstarv L = pr at *
  obtain ⟨s, b⟩ := pr
  simp only at H HE z
  have H1 := Lib.hid h1
  have HT := Lib.hid ht
  clear h1 hsm hn ht
  go_enter Tryz.func20, Tryz.ntmps20
  go_wp2_with fail
  refine (H.out _ hg HT.out H1.out).mono ?_
  rintro e w1 ⟨rfl, hb⟩
  go_wp2
  go_ret
  exact ⟨ret_int HE.out.symm, hb⟩
end Go.Proofs.YtkpdeeembnjmnabGreatDoor
