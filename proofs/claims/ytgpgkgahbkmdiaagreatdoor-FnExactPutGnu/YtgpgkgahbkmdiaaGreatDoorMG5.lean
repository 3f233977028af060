/- Texts joined: HeadL, LongS, LongI, LongN, ArchK. -/
import Derived.Lib.AppendStr
import Derived.Test.YtgpgkgahbkmdiaaGreatDoorMG4
/- Contract of spec.l06Head. -/
namespace Go.Proofs.YtgpgkgahbkmdiaaGreatDoor
open Go.ChangeShapes Go.WideShapes Go.ChangeAt Go.RowKit Go.Deep

set_option maxHeartbeats 6400000 in
set_option maxRecDepth 8000 in
theorem l06Head_spec (k : Int) (p l : ByteArray) (m u g t : Int) (us gr b nm fl : ByteArray) (sz : Int) (w : World) (hl : l.size ≤ 100000) (hus : us.size ≤ 100000) (hgr : gr.size ≤ 100000) (hnm : nm.size ≤ 100000) (hfl : fl.size ≤ 100000) (nm0 : 0 ≤ m ∧ m ≤ 4095) (nu : 0 ≤ u ∧ u ≤ 9007199254740991) (ng : 0 ≤ g ∧ g ≤ 9007199254740991) (nt : 0 ≤ t ∧ t ≤ 9007199254740991) (ns : 0 ≤ sz ∧ sz ≤ 3001) :
    Calls Tryz.prog 42 #[.string nm, .agg #[.int .i64 k, .string p, .string l, .int .i64 m, .int .i64 u, .int .i64 g, .int .i64 t, .string us, .string gr, .string b], .string fl, .int .i64 sz] w fun e w' => e = .returned (.string (lhdv ⟨k, p, l, m, u, g, t, us, gr, b⟩ nm fl sz)) ∧ Below w.heap.size w w' := by
  have p7 : (8 : Nat) ^ (8 - 1) = 2097152 := by decide
  have p11 : (8 : Nat) ^ (12 - 1) = 8589934592 := by decide
  have HQn := Lib.hid (fun w => l06First_any nm w (by omega))
  have HQl := Lib.hid (fun w => l06First_any l w (by omega))
  have qzn := first_size nm
  have qzl := first_size l
  have HN := Lib.hid (fun w => fill_spec (firstv nm) 100 w (by omega))
  have HLk := Lib.hid (fun w => fill_spec (firstv l) 100 w (by omega))
  have HU := Lib.hid (fun w => fill_spec us 32 w (by omega))
  have HG := Lib.hid (fun w => fill_spec gr 32 w (by omega))
  have HZ := Lib.hid (fun w => nuls_spec 167 w (by omega))
  have HOm := Lib.hid (fun w => l04Oct_spec m 8 w (by omega) (by omega))
  have em : numz m ((8 : Nat)) = octz m ((8 : Nat) : Int) := numz_oct nm0.1 (by omega) (by omega) (by omega)
  have HOu := Lib.hid (fun w => l06Num_spec u 8 2097151 w nu.1 nu.2 (by omega) (by omega) (by decide))
  have HOg := Lib.hid (fun w => l06Num_spec g 8 2097151 w ng.1 ng.2 (by omega) (by omega) (by decide))
  have HOs := Lib.hid (fun w => l04Oct_spec sz 12 w (by omega) (by omega))
  have es : numz sz ((12 : Nat)) = octz sz ((12 : Nat) : Int) := numz_oct ns.1 (by omega) (by omega) (by omega)
  have HOt := Lib.hid (fun w => l06Num_spec t 12 8589934591 w nt.1 nt.2 (by omega) (by omega) (by decide))
  have HO0 := Lib.hid (fun w => l04Oct_spec 0 8 w (by omega) (by omega))
  have zfn := fill_size (firstv nm) 100 (by omega)
  have zfl := fill_size (firstv l) 100 (by omega)
  have zfu := fill_size us 32 (by omega)
  have zfg := fill_size gr 32 (by omega)
  have zz := nulv_size 167
  have zom := octz_size m 8
  have zou := numz_size (n := u) (x := 8) nu.1 nu.2 (by omega) (by omega)
  have zog := numz_size (n := g) (x := 8) ng.1 ng.2 (by omega) (by omega)
  have zos := octz_size sz 12
  have zot := numz_size (n := t) (x := 12) nt.1 nt.2 (by omega) (by omega)
  have zo0 := octz_size 0 8
  have zlit : (⟨#[117, 115, 116, 97, 114, 32, 32, 0]⟩ : ByteArray).size = 8 := rfl
  have HE : Hid (lhdv ⟨k, p, l, m, u, g, t, us, gr, b⟩ nm fl sz = hdA ⟨k, p, l, m, u, g, t, us, gr, b⟩ (firstv nm) sz ++ (putOctv (sumv (hdA ⟨k, p, l, m, u, g, t, us, gr, b⟩ (firstv nm) sz).data.toList + 256 + sumv (headB ⟨k, p, firstv l, m, u, g, t, us, gr, b⟩ ⟨#[]⟩ fl magicG).data.toList) 6).1 ++ ⟨#[0, 32]⟩ ++ headB ⟨k, p, firstv l, m, u, g, t, us, gr, b⟩ ⟨#[]⟩ fl magicG) := Lib.hid rfl
  have HEA : Hid (hdA ⟨k, p, l, m, u, g, t, us, gr, b⟩ (firstv nm) sz = fillv (firstv nm) 100 ++ octz m 8 ++ numz u 8 ++ numz g 8 ++ octz sz 12 ++ numz t 12) := Lib.hid (by
    show fillv (firstv nm) 100 ++ numz m 8 ++ numz u 8 ++ numz g 8 ++ numz sz 12 ++ numz t 12 = _
    rw [em, es]; rfl)
  have HEB : Hid (headB ⟨k, p, firstv l, m, u, g, t, us, gr, b⟩ ⟨#[]⟩ fl magicG = fl ++ fillv (firstv l) 100 ++ ⟨#[117, 115, 116, 97, 114, 32, 32, 0]⟩ ++ fillv us 32 ++ fillv gr 32 ++ octz 0 8 ++ octz 0 8 ++ nulv 167) := Lib.hid (by
    rw [← nul_167]
    apply ba_ext
    simp [headB, magicG])
  clear em es p7 p11 nu ng nt ns nm0
  generalize lhdv ⟨k, p, l, m, u, g, t, us, gr, b⟩ nm fl sz = r at HE
  generalize hdA ⟨k, p, l, m, u, g, t, us, gr, b⟩ (firstv nm) sz = hA at HE HEA
  generalize headB ⟨k, p, firstv l, m, u, g, t, us, gr, b⟩ ⟨#[]⟩ fl magicG = hB at HE HEB
  rw [show ((167 : Int).toNat) = 167 from rfl] at HZ
  generalize fillv (firstv nm) 100 = fn at *
  generalize fillv (firstv l) 100 = fll at *
  generalize fillv us 32 = fu at *
  generalize fillv gr 32 = fg at *
  generalize nulv 167 = z12 at *
  generalize octz m 8 = om at *
  generalize numz u 8 = ou at *
  generalize numz g 8 = og at *
  generalize octz sz 12 = os at *
  generalize numz t 12 = ot at *
  generalize octz 0 8 = o0 at *
  generalize firstv nm = qn at *
  generalize firstv l = ql at *
  simp only [show ((100 : Int).toNat) = 100 from rfl, show ((32 : Int).toNat) = 32 from rfl] at zfn zfl zfu zfg
  simp only [show (((8 : Nat) : Int)) = 8 from rfl, show (((12 : Nat) : Int)) = 12 from rfl] at HOu HOg HOt
  go_enter Tryz.func42, Tryz.ntmps42
  go_wp2_with fail
  have E0 := EntAt.new w ⟨k, p, l, m, u, g, t, us, gr, b⟩ 34
  have B0 := (Below.refl w.heap.size w).alloc (Nat.le_refl _) (.cells (Ent.cells ⟨k, p, l, m, u, g, t, us, gr, b⟩).toArray 34)
  have z0 : w.heap.size < (w.alloc (.cells (Ent.cells ⟨k, p, l, m, u, g, t, us, gr, b⟩).toArray 34)).heap.size := by simp
  simp only [Ent.cells] at E0 B0 z0
  generalize w.alloc (.cells #[.int .i64 k, .string p, .string l, .int .i64 m, .int .i64 u, .int .i64 g, .int .i64 t, .string us, .string gr, .string b] 34) = w1 at *
  have E1 := Lib.hid E0
  have B1 := Lib.hid B0
  clear E0 B0
  have KC : Hid (∀ w', Below w1.heap.size w1 w' → w'.cell? ⟨w.heap.size, 1, none⟩ = some (.string p) ∧ w'.cell? ⟨w.heap.size, 2, none⟩ = some (.string l) ∧ w'.cell? ⟨w.heap.size, 3, none⟩ = some (.int .i64 m) ∧ w'.cell? ⟨w.heap.size, 4, none⟩ = some (.int .i64 u) ∧ w'.cell? ⟨w.heap.size, 5, none⟩ = some (.int .i64 g) ∧ w'.cell? ⟨w.heap.size, 6, none⟩ = some (.int .i64 t) ∧ w'.cell? ⟨w.heap.size, 7, none⟩ = some (.string us) ∧ w'.cell? ⟨w.heap.size, 8, none⟩ = some (.string gr)) := Lib.hid (fun w' hb => by obtain ⟨c0, c1, c2, c3, c4, c5, c6, c7, c8, c9⟩ := (E1.out.below hb z0).zero; exact ⟨c1, c2, c3, c4, c5, c6, c7, c8⟩)
  obtain ⟨x19, hx19⟩ : ∃ x : ByteArray, x = fn ++ om := ⟨_, rfl⟩
  obtain ⟨x23, hx23⟩ : ∃ x : ByteArray, x = x19 ++ ou := ⟨_, rfl⟩
  obtain ⟨x27, hx27⟩ : ∃ x : ByteArray, x = x23 ++ og := ⟨_, rfl⟩
  obtain ⟨x30, hx30⟩ : ∃ x : ByteArray, x = x27 ++ os := ⟨_, rfl⟩
  obtain ⟨x34, hx34⟩ : ∃ x : ByteArray, x = x30 ++ ot := ⟨_, rfl⟩
  have zx19 : x19.size ≤ 100121 := by rw [hx19, ByteArray.size_append]; omega
  have zx23 : x23.size ≤ 100142 := by rw [hx23, ByteArray.size_append]; omega
  have zx27 : x27.size ≤ 100163 := by rw [hx27, ByteArray.size_append]; omega
  have zx30 : x30.size ≤ 100184 := by rw [hx30, ByteArray.size_append]; omega
  have zx34 : x34.size ≤ 100205 := by rw [hx34, ByteArray.size_append]; omega
  have HA19 : Hid (∀ w, (Op.stringOp .add fn om).run Tryz.prog w = .ok (.string x19) w) := Lib.hid (fun w => by rw [hx19]; exact run_string_add_sum w _ _ (by omega))
  have HA23 : Hid (∀ w, (Op.stringOp .add x19 ou).run Tryz.prog w = .ok (.string x23) w) := Lib.hid (fun w => by rw [hx23]; exact run_string_add_sum w _ _ (by omega))
  have HA27 : Hid (∀ w, (Op.stringOp .add x23 og).run Tryz.prog w = .ok (.string x27) w) := Lib.hid (fun w => by rw [hx27]; exact run_string_add_sum w _ _ (by omega))
  have HA30 : Hid (∀ w, (Op.stringOp .add x27 os).run Tryz.prog w = .ok (.string x30) w) := Lib.hid (fun w => by rw [hx30]; exact run_string_add_sum w _ _ (by omega))
  have HA34 : Hid (∀ w, (Op.stringOp .add x30 ot).run Tryz.prog w = .ok (.string x34) w) := Lib.hid (fun w => by rw [hx34]; exact run_string_add_sum w _ _ (by omega))
  have HX19 := Lib.hid hx19
  have HX23 := Lib.hid hx23
  have HX27 := Lib.hid hx27
  have HX30 := Lib.hid hx30
  have HX34 := Lib.hid hx34
  clear hx19 hx23 hx27 hx30 hx34
  refine wp_region_inv (by kernel_rfl) (fun w' => Below w1.heap.size w1 w') (fun x y => Below x.heap.size x y) (fun d v _ => match d with | 13 => v = .string nm | 14 => v = .string qn | 15 => v = .string fn | 16 => v = .pointer (some ⟨w.heap.size, 3, none⟩) | 17 => v = .int .i64 m | 18 => v = .string om | 19 => v = .string x19 | 20 => v = .pointer (some ⟨w.heap.size, 4, none⟩) | 21 => v = .int .i64 u | 22 => v = .string ou | 23 => v = .string x23 | 24 => v = .pointer (some ⟨w.heap.size, 5, none⟩) | 25 => v = .int .i64 g | 26 => v = .string og | 27 => v = .string x27 | 28 => v = .int .i64 sz | 29 => v = .string os | 30 => v = .string x30 | 31 => v = .pointer (some ⟨w.heap.size, 6, none⟩) | 32 => v = .int .i64 t | 33 => v = .string ot | 34 => v = .string x34 | 9 => v = .string x34 | _ => True) (by kernel_rfl) ((Below.refl _ _).drew) (fun _ _ _ _ _ _ h => h) ?hops ?hend
  case hops =>
    simp only [List.forall_mem_cons]
    refine ⟨?o13, ?o14, ?o15, ?o16, ?o17, ?o18, ?o19, ?o20, ?o21, ?o22, ?o23, ?o24, ?o25, ?o26, ?o27, ?o28, ?o29, ?o30, ?o31, ?o32, ?o33, ?o34, ?o9, fun _ h => by cases h⟩
    case o13 =>
      intro Q a w2 hC hV hI
      have e0 : a.eval (.tmp 0) = .string nm := (hI 0 (by simp [Op.operands]) (by kernel_rfl)).trans rfl
      have f0 : a.tmps.getD 0 undef = .string nm := e0
      have g0 : a.tmps[0]?.getD undef = .string nm := by rw [← Array.getD_eq_getD_getElem?]; exact e0
      refine op_val (.string nm) ?_ hC (Below.refl _ _) (by intro d hd; cases hd; rfl)
      (clear hV hI hC; go_simp <;> (first | rfl | simp))
    case o14 =>
      intro Q a w2 hC hV hI
      have e13 : a.eval (.tmp 13) = .string nm := hV 13 (by simp [Op.operands, Call.operands]) (by kernel_rfl)
      have f13 : a.tmps.getD 13 undef = .string nm := e13
      have g13 : a.tmps[13]?.getD undef = .string nm := by rw [← Array.getD_eq_getD_getElem?]; exact e13
      refine op_call (f := 67) (args := #[.string nm, .int .i64 100]) (R := fun v y => v = .string qn ∧ w2 = y) ?_ ((HQn.out w2).mono ?_) ?_
      · (clear hV hI hC; go_simp <;> (first | rfl | simp))
      · rintro e y ⟨rfl, rfl⟩; exact ⟨_, rfl, rfl, rfl⟩
      · rintro v y ⟨rfl, rfl⟩; exact ⟨hC, Below.refl _ _, by intro d hd; cases hd; rfl⟩
    case o15 =>
      intro Q a w2 hC hV hI
      have e14 : a.eval (.tmp 14) = .string qn := hV 14 (by simp [Op.operands, Call.operands]) (by kernel_rfl)
      have f14 : a.tmps.getD 14 undef = .string qn := e14
      have g14 : a.tmps[14]?.getD undef = .string qn := by rw [← Array.getD_eq_getD_getElem?]; exact e14
      refine op_call (f := 66) (args := #[.string qn, .int .i64 100]) (R := fun v y => v = .string fn ∧ Below w2.heap.size w2 y) ?_ ((HN.out w2).mono ?_) ?_
      · (clear hV hI hC; go_simp <;> (first | rfl | simp))
      · rintro e y ⟨rfl, hb⟩; exact ⟨_, rfl, rfl, hb⟩
      · rintro v y ⟨rfl, hb⟩; exact ⟨hC.trans (hb.mono hC.size), hb, by intro d hd; cases hd; rfl⟩
    case o16 =>
      intro Q a w2 hC hV hI
      have e5 : a.eval (.tmp 5) = .pointer (some ⟨w.heap.size, 0, none⟩) := (hI 5 (by simp [Op.operands]) (by kernel_rfl)).trans rfl
      have f5 : a.tmps.getD 5 undef = .pointer (some ⟨w.heap.size, 0, none⟩) := e5
      have g5 : a.tmps[5]?.getD undef = .pointer (some ⟨w.heap.size, 0, none⟩) := by rw [← Array.getD_eq_getD_getElem?]; exact e5
      refine op_val (.pointer (some ⟨w.heap.size, 3, none⟩)) ?_ hC (Below.refl _ _) (by intro d hd; cases hd; rfl)
      (clear hV hI hC; go_simp <;> (first | rfl | simp))
    case o17 =>
      intro Q a w2 hC hV hI
      have e16 : a.eval (.tmp 16) = .pointer (some ⟨w.heap.size, 3, none⟩) := hV 16 (by simp [Op.operands]) (by kernel_rfl)
      have f16 : a.tmps.getD 16 undef = .pointer (some ⟨w.heap.size, 3, none⟩) := e16
      have g16 : a.tmps[16]?.getD undef = .pointer (some ⟨w.heap.size, 3, none⟩) := by rw [← Array.getD_eq_getD_getElem?]; exact e16
      have hK := KC.out w2 hC
      refine op_val (.int .i64 m) ?_ hC (Below.refl _ _) (by intro d hd; cases hd; rfl)
      (clear hV hI hC; go_simp <;> (first | rfl | simp))
    case o18 =>
      intro Q a w2 hC hV hI
      have e17 : a.eval (.tmp 17) = .int .i64 m := hV 17 (by simp [Op.operands, Call.operands]) (by kernel_rfl)
      have f17 : a.tmps.getD 17 undef = .int .i64 m := e17
      have g17 : a.tmps[17]?.getD undef = .int .i64 m := by rw [← Array.getD_eq_getD_getElem?]; exact e17
      refine op_call (f := 68) (args := #[.int .i64 m, .int .i64 8]) (R := fun v y => v = .string om ∧ w2 = y) ?_ ((HOm.out w2).mono ?_) ?_
      · (clear hV hI hC; go_simp <;> (first | rfl | simp))
      · rintro e y ⟨rfl, rfl⟩; exact ⟨_, rfl, rfl, rfl⟩
      · rintro v y ⟨rfl, rfl⟩; exact ⟨hC, Below.refl _ _, by intro d hd; cases hd; rfl⟩
    case o19 =>
      intro Q a w2 hC hV hI
      have e15 : a.eval (.tmp 15) = .string fn := hV 15 (by simp [Op.operands]) (by kernel_rfl)
      have f15 : a.tmps.getD 15 undef = .string fn := e15
      have g15 : a.tmps[15]?.getD undef = .string fn := by rw [← Array.getD_eq_getD_getElem?]; exact e15
      have e18 : a.eval (.tmp 18) = .string om := hV 18 (by simp [Op.operands]) (by kernel_rfl)
      have f18 : a.tmps.getD 18 undef = .string om := e18
      have g18 : a.tmps[18]?.getD undef = .string om := by rw [← Array.getD_eq_getD_getElem?]; exact e18
      refine op_val (.string x19) ?_ hC (Below.refl _ _) (by intro d hd; cases hd; rfl)
      have q := HA19.out w2
      (clear hV hI hC; go_simp <;> (first | rfl | simp))
    case o20 =>
      intro Q a w2 hC hV hI
      have e5 : a.eval (.tmp 5) = .pointer (some ⟨w.heap.size, 0, none⟩) := (hI 5 (by simp [Op.operands]) (by kernel_rfl)).trans rfl
      have f5 : a.tmps.getD 5 undef = .pointer (some ⟨w.heap.size, 0, none⟩) := e5
      have g5 : a.tmps[5]?.getD undef = .pointer (some ⟨w.heap.size, 0, none⟩) := by rw [← Array.getD_eq_getD_getElem?]; exact e5
      refine op_val (.pointer (some ⟨w.heap.size, 4, none⟩)) ?_ hC (Below.refl _ _) (by intro d hd; cases hd; rfl)
      (clear hV hI hC; go_simp <;> (first | rfl | simp))
    case o21 =>
      intro Q a w2 hC hV hI
      have e20 : a.eval (.tmp 20) = .pointer (some ⟨w.heap.size, 4, none⟩) := hV 20 (by simp [Op.operands]) (by kernel_rfl)
      have f20 : a.tmps.getD 20 undef = .pointer (some ⟨w.heap.size, 4, none⟩) := e20
      have g20 : a.tmps[20]?.getD undef = .pointer (some ⟨w.heap.size, 4, none⟩) := by rw [← Array.getD_eq_getD_getElem?]; exact e20
      have hK := KC.out w2 hC
      refine op_val (.int .i64 u) ?_ hC (Below.refl _ _) (by intro d hd; cases hd; rfl)
      (clear hV hI hC; go_simp <;> (first | rfl | simp))
    case o22 =>
      intro Q a w2 hC hV hI
      have e21 : a.eval (.tmp 21) = .int .i64 u := hV 21 (by simp [Op.operands, Call.operands]) (by kernel_rfl)
      have f21 : a.tmps.getD 21 undef = .int .i64 u := e21
      have g21 : a.tmps[21]?.getD undef = .int .i64 u := by rw [← Array.getD_eq_getD_getElem?]; exact e21
      refine op_call (f := 69) (args := #[.int .i64 u, .int .i64 8, .int .i64 2097151]) (R := fun v y => v = .string ou ∧ Below w2.heap.size w2 y) ?_ ((HOu.out w2).mono ?_) ?_
      · (clear hV hI hC; go_simp <;> (first | rfl | simp))
      · rintro e y ⟨rfl, hb⟩; exact ⟨_, rfl, rfl, hb⟩
      · rintro v y ⟨rfl, hb⟩; exact ⟨hC.trans (hb.mono hC.size), hb, by intro d hd; cases hd; rfl⟩
    case o23 =>
      intro Q a w2 hC hV hI
      have e19 : a.eval (.tmp 19) = .string x19 := hV 19 (by simp [Op.operands]) (by kernel_rfl)
      have f19 : a.tmps.getD 19 undef = .string x19 := e19
      have g19 : a.tmps[19]?.getD undef = .string x19 := by rw [← Array.getD_eq_getD_getElem?]; exact e19
      have e22 : a.eval (.tmp 22) = .string ou := hV 22 (by simp [Op.operands]) (by kernel_rfl)
      have f22 : a.tmps.getD 22 undef = .string ou := e22
      have g22 : a.tmps[22]?.getD undef = .string ou := by rw [← Array.getD_eq_getD_getElem?]; exact e22
      refine op_val (.string x23) ?_ hC (Below.refl _ _) (by intro d hd; cases hd; rfl)
      have q := HA23.out w2
      (clear hV hI hC; go_simp <;> (first | rfl | simp))
    case o24 =>
      intro Q a w2 hC hV hI
      have e5 : a.eval (.tmp 5) = .pointer (some ⟨w.heap.size, 0, none⟩) := (hI 5 (by simp [Op.operands]) (by kernel_rfl)).trans rfl
      have f5 : a.tmps.getD 5 undef = .pointer (some ⟨w.heap.size, 0, none⟩) := e5
      have g5 : a.tmps[5]?.getD undef = .pointer (some ⟨w.heap.size, 0, none⟩) := by rw [← Array.getD_eq_getD_getElem?]; exact e5
      refine op_val (.pointer (some ⟨w.heap.size, 5, none⟩)) ?_ hC (Below.refl _ _) (by intro d hd; cases hd; rfl)
      (clear hV hI hC; go_simp <;> (first | rfl | simp))
    case o25 =>
      intro Q a w2 hC hV hI
      have e24 : a.eval (.tmp 24) = .pointer (some ⟨w.heap.size, 5, none⟩) := hV 24 (by simp [Op.operands]) (by kernel_rfl)
      have f24 : a.tmps.getD 24 undef = .pointer (some ⟨w.heap.size, 5, none⟩) := e24
      have g24 : a.tmps[24]?.getD undef = .pointer (some ⟨w.heap.size, 5, none⟩) := by rw [← Array.getD_eq_getD_getElem?]; exact e24
      have hK := KC.out w2 hC
      refine op_val (.int .i64 g) ?_ hC (Below.refl _ _) (by intro d hd; cases hd; rfl)
      (clear hV hI hC; go_simp <;> (first | rfl | simp))
    case o26 =>
      intro Q a w2 hC hV hI
      have e25 : a.eval (.tmp 25) = .int .i64 g := hV 25 (by simp [Op.operands, Call.operands]) (by kernel_rfl)
      have f25 : a.tmps.getD 25 undef = .int .i64 g := e25
      have g25 : a.tmps[25]?.getD undef = .int .i64 g := by rw [← Array.getD_eq_getD_getElem?]; exact e25
      refine op_call (f := 69) (args := #[.int .i64 g, .int .i64 8, .int .i64 2097151]) (R := fun v y => v = .string og ∧ Below w2.heap.size w2 y) ?_ ((HOg.out w2).mono ?_) ?_
      · (clear hV hI hC; go_simp <;> (first | rfl | simp))
      · rintro e y ⟨rfl, hb⟩; exact ⟨_, rfl, rfl, hb⟩
      · rintro v y ⟨rfl, hb⟩; exact ⟨hC.trans (hb.mono hC.size), hb, by intro d hd; cases hd; rfl⟩
    case o27 =>
      intro Q a w2 hC hV hI
      have e23 : a.eval (.tmp 23) = .string x23 := hV 23 (by simp [Op.operands]) (by kernel_rfl)
      have f23 : a.tmps.getD 23 undef = .string x23 := e23
      have g23 : a.tmps[23]?.getD undef = .string x23 := by rw [← Array.getD_eq_getD_getElem?]; exact e23
      have e26 : a.eval (.tmp 26) = .string og := hV 26 (by simp [Op.operands]) (by kernel_rfl)
      have f26 : a.tmps.getD 26 undef = .string og := e26
      have g26 : a.tmps[26]?.getD undef = .string og := by rw [← Array.getD_eq_getD_getElem?]; exact e26
      refine op_val (.string x27) ?_ hC (Below.refl _ _) (by intro d hd; cases hd; rfl)
      have q := HA27.out w2
      (clear hV hI hC; go_simp <;> (first | rfl | simp))
    case o28 =>
      intro Q a w2 hC hV hI
      have e3 : a.eval (.tmp 3) = .int .i64 sz := (hI 3 (by simp [Op.operands]) (by kernel_rfl)).trans rfl
      have f3 : a.tmps.getD 3 undef = .int .i64 sz := e3
      have g3 : a.tmps[3]?.getD undef = .int .i64 sz := by rw [← Array.getD_eq_getD_getElem?]; exact e3
      refine op_val (.int .i64 sz) ?_ hC (Below.refl _ _) (by intro d hd; cases hd; rfl)
      (clear hV hI hC; go_simp <;> (first | rfl | simp))
    case o29 =>
      intro Q a w2 hC hV hI
      have e28 : a.eval (.tmp 28) = .int .i64 sz := hV 28 (by simp [Op.operands, Call.operands]) (by kernel_rfl)
      have f28 : a.tmps.getD 28 undef = .int .i64 sz := e28
      have g28 : a.tmps[28]?.getD undef = .int .i64 sz := by rw [← Array.getD_eq_getD_getElem?]; exact e28
      refine op_call (f := 68) (args := #[.int .i64 sz, .int .i64 12]) (R := fun v y => v = .string os ∧ w2 = y) ?_ ((HOs.out w2).mono ?_) ?_
      · (clear hV hI hC; go_simp <;> (first | rfl | simp))
      · rintro e y ⟨rfl, rfl⟩; exact ⟨_, rfl, rfl, rfl⟩
      · rintro v y ⟨rfl, rfl⟩; exact ⟨hC, Below.refl _ _, by intro d hd; cases hd; rfl⟩
    case o30 =>
      intro Q a w2 hC hV hI
      have e27 : a.eval (.tmp 27) = .string x27 := hV 27 (by simp [Op.operands]) (by kernel_rfl)
      have f27 : a.tmps.getD 27 undef = .string x27 := e27
      have g27 : a.tmps[27]?.getD undef = .string x27 := by rw [← Array.getD_eq_getD_getElem?]; exact e27
      have e29 : a.eval (.tmp 29) = .string os := hV 29 (by simp [Op.operands]) (by kernel_rfl)
      have f29 : a.tmps.getD 29 undef = .string os := e29
      have g29 : a.tmps[29]?.getD undef = .string os := by rw [← Array.getD_eq_getD_getElem?]; exact e29
      refine op_val (.string x30) ?_ hC (Below.refl _ _) (by intro d hd; cases hd; rfl)
      have q := HA30.out w2
      (clear hV hI hC; go_simp <;> (first | rfl | simp))
    case o31 =>
      intro Q a w2 hC hV hI
      have e5 : a.eval (.tmp 5) = .pointer (some ⟨w.heap.size, 0, none⟩) := (hI 5 (by simp [Op.operands]) (by kernel_rfl)).trans rfl
      have f5 : a.tmps.getD 5 undef = .pointer (some ⟨w.heap.size, 0, none⟩) := e5
      have g5 : a.tmps[5]?.getD undef = .pointer (some ⟨w.heap.size, 0, none⟩) := by rw [← Array.getD_eq_getD_getElem?]; exact e5
      refine op_val (.pointer (some ⟨w.heap.size, 6, none⟩)) ?_ hC (Below.refl _ _) (by intro d hd; cases hd; rfl)
      (clear hV hI hC; go_simp <;> (first | rfl | simp))
    case o32 =>
      intro Q a w2 hC hV hI
      have e31 : a.eval (.tmp 31) = .pointer (some ⟨w.heap.size, 6, none⟩) := hV 31 (by simp [Op.operands]) (by kernel_rfl)
      have f31 : a.tmps.getD 31 undef = .pointer (some ⟨w.heap.size, 6, none⟩) := e31
      have g31 : a.tmps[31]?.getD undef = .pointer (some ⟨w.heap.size, 6, none⟩) := by rw [← Array.getD_eq_getD_getElem?]; exact e31
      have hK := KC.out w2 hC
      refine op_val (.int .i64 t) ?_ hC (Below.refl _ _) (by intro d hd; cases hd; rfl)
      (clear hV hI hC; go_simp <;> (first | rfl | simp))
    case o33 =>
      intro Q a w2 hC hV hI
      have e32 : a.eval (.tmp 32) = .int .i64 t := hV 32 (by simp [Op.operands, Call.operands]) (by kernel_rfl)
      have f32 : a.tmps.getD 32 undef = .int .i64 t := e32
      have g32 : a.tmps[32]?.getD undef = .int .i64 t := by rw [← Array.getD_eq_getD_getElem?]; exact e32
      refine op_call (f := 69) (args := #[.int .i64 t, .int .i64 12, .int .i64 8589934591]) (R := fun v y => v = .string ot ∧ Below w2.heap.size w2 y) ?_ ((HOt.out w2).mono ?_) ?_
      · (clear hV hI hC; go_simp <;> (first | rfl | simp))
      · rintro e y ⟨rfl, hb⟩; exact ⟨_, rfl, rfl, hb⟩
      · rintro v y ⟨rfl, hb⟩; exact ⟨hC.trans (hb.mono hC.size), hb, by intro d hd; cases hd; rfl⟩
    case o34 =>
      intro Q a w2 hC hV hI
      have e30 : a.eval (.tmp 30) = .string x30 := hV 30 (by simp [Op.operands]) (by kernel_rfl)
      have f30 : a.tmps.getD 30 undef = .string x30 := e30
      have g30 : a.tmps[30]?.getD undef = .string x30 := by rw [← Array.getD_eq_getD_getElem?]; exact e30
      have e33 : a.eval (.tmp 33) = .string ot := hV 33 (by simp [Op.operands]) (by kernel_rfl)
      have f33 : a.tmps.getD 33 undef = .string ot := e33
      have g33 : a.tmps[33]?.getD undef = .string ot := by rw [← Array.getD_eq_getD_getElem?]; exact e33
      refine op_val (.string x34) ?_ hC (Below.refl _ _) (by intro d hd; cases hd; rfl)
      have q := HA34.out w2
      (clear hV hI hC; go_simp <;> (first | rfl | simp))
    case o9 =>
      intro Q a w2 hC hV hI
      have e34 : a.eval (.tmp 34) = .string x34 := hV 34 (by simp [Op.operands]) (by kernel_rfl)
      have f34 : a.tmps.getD 34 undef = .string x34 := e34
      have g34 : a.tmps[34]?.getD undef = .string x34 := by rw [← Array.getD_eq_getD_getElem?]; exact e34
      refine op_val (.string x34) ?_ hC (Below.refl _ _) (by intro d hd; cases hd; rfl)
      (clear hV hI hC; go_simp <;> (first | rfl | simp))
  case hend =>
    intro f w3 hC hall
    clear HA19 HA23 HA27 HA30 HA34
    simp only [List.forall_mem_cons] at hall
    obtain ⟨h13, h14, h15, h16, h17, h18, h19, h20, h21, h22, h23, h24, h25, h26, h27, h28, h29, h30, h31, h32, h33, h34, h9, _⟩ := hall
    replace h13 : f 13 = .string nm := h13 13 rfl
    replace h14 : f 14 = .string qn := h14 14 rfl
    replace h15 : f 15 = .string fn := h15 15 rfl
    replace h16 : f 16 = .pointer (some ⟨w.heap.size, 3, none⟩) := h16 16 rfl
    replace h17 : f 17 = .int .i64 m := h17 17 rfl
    replace h18 : f 18 = .string om := h18 18 rfl
    replace h19 : f 19 = .string x19 := h19 19 rfl
    replace h20 : f 20 = .pointer (some ⟨w.heap.size, 4, none⟩) := h20 20 rfl
    replace h21 : f 21 = .int .i64 u := h21 21 rfl
    replace h22 : f 22 = .string ou := h22 22 rfl
    replace h23 : f 23 = .string x23 := h23 23 rfl
    replace h24 : f 24 = .pointer (some ⟨w.heap.size, 5, none⟩) := h24 24 rfl
    replace h25 : f 25 = .int .i64 g := h25 25 rfl
    replace h26 : f 26 = .string og := h26 26 rfl
    replace h27 : f 27 = .string x27 := h27 27 rfl
    replace h28 : f 28 = .int .i64 sz := h28 28 rfl
    replace h29 : f 29 = .string os := h29 29 rfl
    replace h30 : f 30 = .string x30 := h30 30 rfl
    replace h31 : f 31 = .pointer (some ⟨w.heap.size, 6, none⟩) := h31 31 rfl
    replace h32 : f 32 = .int .i64 t := h32 32 rfl
    replace h33 : f 33 = .string ot := h33 33 rfl
    replace h34 : f 34 = .string x34 := h34 34 rfl
    replace h9 : f 9 = .string x34 := h9 9 rfl
    simp only [putAll, Act.put, List.setIfInBounds_toArray, List.set_cons_succ, List.set_cons_zero, h13, h14, h15, h16, h17, h18, h19, h20, h21, h22, h23, h24, h25, h26, h27, h28, h29, h30, h31, h32, h33, h34, h9]
    clear h13 h14 h15 h16 h17 h18 h19 h20 h21 h22 h23 h24 h25 h26 h27 h28 h29 h30 h31 h32 h33 h34 h9
    have HXA : Hid (hA = x34) := Lib.hid (by rw [HEA.out, HX34.out, HX30.out, HX27.out, HX23.out, HX19.out])
    have E3 := Lib.hid (E1.out.below hC z0)
    have B3 := Lib.hid (btE B1.out hC)
    replace z0 := Nat.lt_of_lt_of_le z0 hC.size
    clear hC KC E1 B1 HX19 HX23 HX27 HX30 HX34
    go_wp2_with fail
    have KC : Hid (∀ w', Below w3.heap.size w3 w' → w'.cell? ⟨w.heap.size, 1, none⟩ = some (.string p) ∧ w'.cell? ⟨w.heap.size, 2, none⟩ = some (.string l) ∧ w'.cell? ⟨w.heap.size, 3, none⟩ = some (.int .i64 m) ∧ w'.cell? ⟨w.heap.size, 4, none⟩ = some (.int .i64 u) ∧ w'.cell? ⟨w.heap.size, 5, none⟩ = some (.int .i64 g) ∧ w'.cell? ⟨w.heap.size, 6, none⟩ = some (.int .i64 t) ∧ w'.cell? ⟨w.heap.size, 7, none⟩ = some (.string us) ∧ w'.cell? ⟨w.heap.size, 8, none⟩ = some (.string gr)) := Lib.hid (fun w' hb => by obtain ⟨c0, c1, c2, c3, c4, c5, c6, c7, c8, c9⟩ := (E3.out.below hb z0).zero; exact ⟨c1, c2, c3, c4, c5, c6, c7, c8⟩)
    obtain ⟨x40, hx40⟩ : ∃ x : ByteArray, x = fl ++ fll := ⟨_, rfl⟩
    obtain ⟨x41, hx41⟩ : ∃ x : ByteArray, x = x40 ++ ⟨#[117, 115, 116, 97, 114, 32, 32, 0]⟩ := ⟨_, rfl⟩
    obtain ⟨x45, hx45⟩ : ∃ x : ByteArray, x = x41 ++ fu := ⟨_, rfl⟩
    obtain ⟨x49, hx49⟩ : ∃ x : ByteArray, x = x45 ++ fg := ⟨_, rfl⟩
    obtain ⟨x51, hx51⟩ : ∃ x : ByteArray, x = x49 ++ o0 := ⟨_, rfl⟩
    obtain ⟨x53, hx53⟩ : ∃ x : ByteArray, x = x51 ++ o0 := ⟨_, rfl⟩
    obtain ⟨x55, hx55⟩ : ∃ x : ByteArray, x = x53 ++ z12 := ⟨_, rfl⟩
    have zx40 : x40.size ≤ 200100 := by rw [hx40, ByteArray.size_append]; omega
    have zx41 : x41.size ≤ 200108 := by rw [hx41, ByteArray.size_append]; omega
    have zx45 : x45.size ≤ 300140 := by rw [hx45, ByteArray.size_append]; omega
    have zx49 : x49.size ≤ 400172 := by rw [hx49, ByteArray.size_append]; omega
    have zx51 : x51.size ≤ 400193 := by rw [hx51, ByteArray.size_append]; omega
    have zx53 : x53.size ≤ 400214 := by rw [hx53, ByteArray.size_append]; omega
    have zx55 : x55.size ≤ 400381 := by rw [hx55, ByteArray.size_append]; omega
    have HA40 : Hid (∀ w, (Op.stringOp .add fl fll).run Tryz.prog w = .ok (.string x40) w) := Lib.hid (fun w => by rw [hx40]; exact run_string_add_sum w _ _ (by omega))
    have HA41 : Hid (∀ w, (Op.stringOp .add x40 ⟨#[117, 115, 116, 97, 114, 32, 32, 0]⟩).run Tryz.prog w = .ok (.string x41) w) := Lib.hid (fun w => by rw [hx41]; exact run_string_add_sum w _ _ (by omega))
    have HA45 : Hid (∀ w, (Op.stringOp .add x41 fu).run Tryz.prog w = .ok (.string x45) w) := Lib.hid (fun w => by rw [hx45]; exact run_string_add_sum w _ _ (by omega))
    have HA49 : Hid (∀ w, (Op.stringOp .add x45 fg).run Tryz.prog w = .ok (.string x49) w) := Lib.hid (fun w => by rw [hx49]; exact run_string_add_sum w _ _ (by omega))
    have HA51 : Hid (∀ w, (Op.stringOp .add x49 o0).run Tryz.prog w = .ok (.string x51) w) := Lib.hid (fun w => by rw [hx51]; exact run_string_add_sum w _ _ (by omega))
    have HA53 : Hid (∀ w, (Op.stringOp .add x51 o0).run Tryz.prog w = .ok (.string x53) w) := Lib.hid (fun w => by rw [hx53]; exact run_string_add_sum w _ _ (by omega))
    have HA55 : Hid (∀ w, (Op.stringOp .add x53 z12).run Tryz.prog w = .ok (.string x55) w) := Lib.hid (fun w => by rw [hx55]; exact run_string_add_sum w _ _ (by omega))
    have HX40 := Lib.hid hx40
    have HX41 := Lib.hid hx41
    have HX45 := Lib.hid hx45
    have HX49 := Lib.hid hx49
    have HX51 := Lib.hid hx51
    have HX53 := Lib.hid hx53
    have HX55 := Lib.hid hx55
    clear hx40 hx41 hx45 hx49 hx51 hx53 hx55
    refine wp_region_inv (by kernel_rfl) (fun w' => Below w3.heap.size w3 w') (fun x y => Below x.heap.size x y) (fun d v _ => match d with | 35 => v = .string fl | 36 => v = .pointer (some ⟨w.heap.size, 2, none⟩) | 37 => v = .string l | 38 => v = .string ql | 39 => v = .string fll | 40 => v = .string x40 | 41 => v = .string x41 | 42 => v = .pointer (some ⟨w.heap.size, 7, none⟩) | 43 => v = .string us | 44 => v = .string fu | 45 => v = .string x45 | 46 => v = .pointer (some ⟨w.heap.size, 8, none⟩) | 47 => v = .string gr | 48 => v = .string fg | 49 => v = .string x49 | 50 => v = .string o0 | 51 => v = .string x51 | 52 => v = .string o0 | 53 => v = .string x53 | 54 => v = .string z12 | 55 => v = .string x55 | 10 => v = .string x55 | _ => True) (by kernel_rfl) ((Below.refl _ _).drew) (fun _ _ _ _ _ _ h => h) ?hops ?hend
    case hops =>
      simp only [List.forall_mem_cons]
      refine ⟨?o35, ?o36, ?o37, ?o38, ?o39, ?o40, ?o41, ?o42, ?o43, ?o44, ?o45, ?o46, ?o47, ?o48, ?o49, ?o50, ?o51, ?o52, ?o53, ?o54, ?o55, ?o10, fun _ h => by cases h⟩
      case o35 =>
        intro Q a w2 hC hV hI
        have e2 : a.eval (.tmp 2) = .string fl := (hI 2 (by simp [Op.operands]) (by kernel_rfl)).trans rfl
        have f2 : a.tmps.getD 2 undef = .string fl := e2
        have g2 : a.tmps[2]?.getD undef = .string fl := by rw [← Array.getD_eq_getD_getElem?]; exact e2
        refine op_val (.string fl) ?_ hC (Below.refl _ _) (by intro d hd; cases hd; rfl)
        (clear hV hI hC; go_simp <;> (first | rfl | simp))
      case o36 =>
        intro Q a w2 hC hV hI
        have e5 : a.eval (.tmp 5) = .pointer (some ⟨w.heap.size, 0, none⟩) := (hI 5 (by simp [Op.operands]) (by kernel_rfl)).trans rfl
        have f5 : a.tmps.getD 5 undef = .pointer (some ⟨w.heap.size, 0, none⟩) := e5
        have g5 : a.tmps[5]?.getD undef = .pointer (some ⟨w.heap.size, 0, none⟩) := by rw [← Array.getD_eq_getD_getElem?]; exact e5
        refine op_val (.pointer (some ⟨w.heap.size, 2, none⟩)) ?_ hC (Below.refl _ _) (by intro d hd; cases hd; rfl)
        (clear hV hI hC; go_simp <;> (first | rfl | simp))
      case o37 =>
        intro Q a w2 hC hV hI
        have e36 : a.eval (.tmp 36) = .pointer (some ⟨w.heap.size, 2, none⟩) := hV 36 (by simp [Op.operands]) (by kernel_rfl)
        have f36 : a.tmps.getD 36 undef = .pointer (some ⟨w.heap.size, 2, none⟩) := e36
        have g36 : a.tmps[36]?.getD undef = .pointer (some ⟨w.heap.size, 2, none⟩) := by rw [← Array.getD_eq_getD_getElem?]; exact e36
        have hK := KC.out w2 hC
        refine op_val (.string l) ?_ hC (Below.refl _ _) (by intro d hd; cases hd; rfl)
        (clear hV hI hC; go_simp <;> (first | rfl | simp))
      case o38 =>
        intro Q a w2 hC hV hI
        have e37 : a.eval (.tmp 37) = .string l := hV 37 (by simp [Op.operands, Call.operands]) (by kernel_rfl)
        have f37 : a.tmps.getD 37 undef = .string l := e37
        have g37 : a.tmps[37]?.getD undef = .string l := by rw [← Array.getD_eq_getD_getElem?]; exact e37
        refine op_call (f := 67) (args := #[.string l, .int .i64 100]) (R := fun v y => v = .string ql ∧ w2 = y) ?_ ((HQl.out w2).mono ?_) ?_
        · (clear hV hI hC; go_simp <;> (first | rfl | simp))
        · rintro e y ⟨rfl, rfl⟩; exact ⟨_, rfl, rfl, rfl⟩
        · rintro v y ⟨rfl, rfl⟩; exact ⟨hC, Below.refl _ _, by intro d hd; cases hd; rfl⟩
      case o39 =>
        intro Q a w2 hC hV hI
        have e38 : a.eval (.tmp 38) = .string ql := hV 38 (by simp [Op.operands, Call.operands]) (by kernel_rfl)
        have f38 : a.tmps.getD 38 undef = .string ql := e38
        have g38 : a.tmps[38]?.getD undef = .string ql := by rw [← Array.getD_eq_getD_getElem?]; exact e38
        refine op_call (f := 66) (args := #[.string ql, .int .i64 100]) (R := fun v y => v = .string fll ∧ Below w2.heap.size w2 y) ?_ ((HLk.out w2).mono ?_) ?_
        · (clear hV hI hC; go_simp <;> (first | rfl | simp))
        · rintro e y ⟨rfl, hb⟩; exact ⟨_, rfl, rfl, hb⟩
        · rintro v y ⟨rfl, hb⟩; exact ⟨hC.trans (hb.mono hC.size), hb, by intro d hd; cases hd; rfl⟩
      case o40 =>
        intro Q a w2 hC hV hI
        have e35 : a.eval (.tmp 35) = .string fl := hV 35 (by simp [Op.operands]) (by kernel_rfl)
        have f35 : a.tmps.getD 35 undef = .string fl := e35
        have g35 : a.tmps[35]?.getD undef = .string fl := by rw [← Array.getD_eq_getD_getElem?]; exact e35
        have e39 : a.eval (.tmp 39) = .string fll := hV 39 (by simp [Op.operands]) (by kernel_rfl)
        have f39 : a.tmps.getD 39 undef = .string fll := e39
        have g39 : a.tmps[39]?.getD undef = .string fll := by rw [← Array.getD_eq_getD_getElem?]; exact e39
        refine op_val (.string x40) ?_ hC (Below.refl _ _) (by intro d hd; cases hd; rfl)
        have q := HA40.out w2
        (clear hV hI hC; go_simp <;> (first | rfl | simp))
      case o41 =>
        intro Q a w2 hC hV hI
        have e40 : a.eval (.tmp 40) = .string x40 := hV 40 (by simp [Op.operands]) (by kernel_rfl)
        have f40 : a.tmps.getD 40 undef = .string x40 := e40
        have g40 : a.tmps[40]?.getD undef = .string x40 := by rw [← Array.getD_eq_getD_getElem?]; exact e40
        refine op_val (.string x41) ?_ hC (Below.refl _ _) (by intro d hd; cases hd; rfl)
        have q := HA41.out w2
        (clear hV hI hC; go_simp <;> (first | rfl | simp))
      case o42 =>
        intro Q a w2 hC hV hI
        have e5 : a.eval (.tmp 5) = .pointer (some ⟨w.heap.size, 0, none⟩) := (hI 5 (by simp [Op.operands]) (by kernel_rfl)).trans rfl
        have f5 : a.tmps.getD 5 undef = .pointer (some ⟨w.heap.size, 0, none⟩) := e5
        have g5 : a.tmps[5]?.getD undef = .pointer (some ⟨w.heap.size, 0, none⟩) := by rw [← Array.getD_eq_getD_getElem?]; exact e5
        refine op_val (.pointer (some ⟨w.heap.size, 7, none⟩)) ?_ hC (Below.refl _ _) (by intro d hd; cases hd; rfl)
        (clear hV hI hC; go_simp <;> (first | rfl | simp))
      case o43 =>
        intro Q a w2 hC hV hI
        have e42 : a.eval (.tmp 42) = .pointer (some ⟨w.heap.size, 7, none⟩) := hV 42 (by simp [Op.operands]) (by kernel_rfl)
        have f42 : a.tmps.getD 42 undef = .pointer (some ⟨w.heap.size, 7, none⟩) := e42
        have g42 : a.tmps[42]?.getD undef = .pointer (some ⟨w.heap.size, 7, none⟩) := by rw [← Array.getD_eq_getD_getElem?]; exact e42
        have hK := KC.out w2 hC
        refine op_val (.string us) ?_ hC (Below.refl _ _) (by intro d hd; cases hd; rfl)
        (clear hV hI hC; go_simp <;> (first | rfl | simp))
      case o44 =>
        intro Q a w2 hC hV hI
        have e43 : a.eval (.tmp 43) = .string us := hV 43 (by simp [Op.operands, Call.operands]) (by kernel_rfl)
        have f43 : a.tmps.getD 43 undef = .string us := e43
        have g43 : a.tmps[43]?.getD undef = .string us := by rw [← Array.getD_eq_getD_getElem?]; exact e43
        refine op_call (f := 66) (args := #[.string us, .int .i64 32]) (R := fun v y => v = .string fu ∧ Below w2.heap.size w2 y) ?_ ((HU.out w2).mono ?_) ?_
        · (clear hV hI hC; go_simp <;> (first | rfl | simp))
        · rintro e y ⟨rfl, hb⟩; exact ⟨_, rfl, rfl, hb⟩
        · rintro v y ⟨rfl, hb⟩; exact ⟨hC.trans (hb.mono hC.size), hb, by intro d hd; cases hd; rfl⟩
      case o45 =>
        intro Q a w2 hC hV hI
        have e41 : a.eval (.tmp 41) = .string x41 := hV 41 (by simp [Op.operands]) (by kernel_rfl)
        have f41 : a.tmps.getD 41 undef = .string x41 := e41
        have g41 : a.tmps[41]?.getD undef = .string x41 := by rw [← Array.getD_eq_getD_getElem?]; exact e41
        have e44 : a.eval (.tmp 44) = .string fu := hV 44 (by simp [Op.operands]) (by kernel_rfl)
        have f44 : a.tmps.getD 44 undef = .string fu := e44
        have g44 : a.tmps[44]?.getD undef = .string fu := by rw [← Array.getD_eq_getD_getElem?]; exact e44
        refine op_val (.string x45) ?_ hC (Below.refl _ _) (by intro d hd; cases hd; rfl)
        have q := HA45.out w2
        (clear hV hI hC; go_simp <;> (first | rfl | simp))
      case o46 =>
        intro Q a w2 hC hV hI
        have e5 : a.eval (.tmp 5) = .pointer (some ⟨w.heap.size, 0, none⟩) := (hI 5 (by simp [Op.operands]) (by kernel_rfl)).trans rfl
        have f5 : a.tmps.getD 5 undef = .pointer (some ⟨w.heap.size, 0, none⟩) := e5
        have g5 : a.tmps[5]?.getD undef = .pointer (some ⟨w.heap.size, 0, none⟩) := by rw [← Array.getD_eq_getD_getElem?]; exact e5
        refine op_val (.pointer (some ⟨w.heap.size, 8, none⟩)) ?_ hC (Below.refl _ _) (by intro d hd; cases hd; rfl)
        (clear hV hI hC; go_simp <;> (first | rfl | simp))
      case o47 =>
        intro Q a w2 hC hV hI
        have e46 : a.eval (.tmp 46) = .pointer (some ⟨w.heap.size, 8, none⟩) := hV 46 (by simp [Op.operands]) (by kernel_rfl)
        have f46 : a.tmps.getD 46 undef = .pointer (some ⟨w.heap.size, 8, none⟩) := e46
        have g46 : a.tmps[46]?.getD undef = .pointer (some ⟨w.heap.size, 8, none⟩) := by rw [← Array.getD_eq_getD_getElem?]; exact e46
        have hK := KC.out w2 hC
        refine op_val (.string gr) ?_ hC (Below.refl _ _) (by intro d hd; cases hd; rfl)
        (clear hV hI hC; go_simp <;> (first | rfl | simp))
      case o48 =>
        intro Q a w2 hC hV hI
        have e47 : a.eval (.tmp 47) = .string gr := hV 47 (by simp [Op.operands, Call.operands]) (by kernel_rfl)
        have f47 : a.tmps.getD 47 undef = .string gr := e47
        have g47 : a.tmps[47]?.getD undef = .string gr := by rw [← Array.getD_eq_getD_getElem?]; exact e47
        refine op_call (f := 66) (args := #[.string gr, .int .i64 32]) (R := fun v y => v = .string fg ∧ Below w2.heap.size w2 y) ?_ ((HG.out w2).mono ?_) ?_
        · (clear hV hI hC; go_simp <;> (first | rfl | simp))
        · rintro e y ⟨rfl, hb⟩; exact ⟨_, rfl, rfl, hb⟩
        · rintro v y ⟨rfl, hb⟩; exact ⟨hC.trans (hb.mono hC.size), hb, by intro d hd; cases hd; rfl⟩
      case o49 =>
        intro Q a w2 hC hV hI
        have e45 : a.eval (.tmp 45) = .string x45 := hV 45 (by simp [Op.operands]) (by kernel_rfl)
        have f45 : a.tmps.getD 45 undef = .string x45 := e45
        have g45 : a.tmps[45]?.getD undef = .string x45 := by rw [← Array.getD_eq_getD_getElem?]; exact e45
        have e48 : a.eval (.tmp 48) = .string fg := hV 48 (by simp [Op.operands]) (by kernel_rfl)
        have f48 : a.tmps.getD 48 undef = .string fg := e48
        have g48 : a.tmps[48]?.getD undef = .string fg := by rw [← Array.getD_eq_getD_getElem?]; exact e48
        refine op_val (.string x49) ?_ hC (Below.refl _ _) (by intro d hd; cases hd; rfl)
        have q := HA49.out w2
        (clear hV hI hC; go_simp <;> (first | rfl | simp))
      case o50 =>
        intro Q a w2 hC hV hI
        refine op_call (f := 68) (args := #[.int .i64 0, .int .i64 8]) (R := fun v y => v = .string o0 ∧ w2 = y) ?_ ((HO0.out w2).mono ?_) ?_
        · (clear hV hI hC; go_simp <;> (first | rfl | simp))
        · rintro e y ⟨rfl, rfl⟩; exact ⟨_, rfl, rfl, rfl⟩
        · rintro v y ⟨rfl, rfl⟩; exact ⟨hC, Below.refl _ _, by intro d hd; cases hd; rfl⟩
      case o51 =>
        intro Q a w2 hC hV hI
        have e49 : a.eval (.tmp 49) = .string x49 := hV 49 (by simp [Op.operands]) (by kernel_rfl)
        have f49 : a.tmps.getD 49 undef = .string x49 := e49
        have g49 : a.tmps[49]?.getD undef = .string x49 := by rw [← Array.getD_eq_getD_getElem?]; exact e49
        have e50 : a.eval (.tmp 50) = .string o0 := hV 50 (by simp [Op.operands]) (by kernel_rfl)
        have f50 : a.tmps.getD 50 undef = .string o0 := e50
        have g50 : a.tmps[50]?.getD undef = .string o0 := by rw [← Array.getD_eq_getD_getElem?]; exact e50
        refine op_val (.string x51) ?_ hC (Below.refl _ _) (by intro d hd; cases hd; rfl)
        have q := HA51.out w2
        (clear hV hI hC; go_simp <;> (first | rfl | simp))
      case o52 =>
        intro Q a w2 hC hV hI
        refine op_call (f := 68) (args := #[.int .i64 0, .int .i64 8]) (R := fun v y => v = .string o0 ∧ w2 = y) ?_ ((HO0.out w2).mono ?_) ?_
        · (clear hV hI hC; go_simp <;> (first | rfl | simp))
        · rintro e y ⟨rfl, rfl⟩; exact ⟨_, rfl, rfl, rfl⟩
        · rintro v y ⟨rfl, rfl⟩; exact ⟨hC, Below.refl _ _, by intro d hd; cases hd; rfl⟩
      case o53 =>
        intro Q a w2 hC hV hI
        have e51 : a.eval (.tmp 51) = .string x51 := hV 51 (by simp [Op.operands]) (by kernel_rfl)
        have f51 : a.tmps.getD 51 undef = .string x51 := e51
        have g51 : a.tmps[51]?.getD undef = .string x51 := by rw [← Array.getD_eq_getD_getElem?]; exact e51
        have e52 : a.eval (.tmp 52) = .string o0 := hV 52 (by simp [Op.operands]) (by kernel_rfl)
        have f52 : a.tmps.getD 52 undef = .string o0 := e52
        have g52 : a.tmps[52]?.getD undef = .string o0 := by rw [← Array.getD_eq_getD_getElem?]; exact e52
        refine op_val (.string x53) ?_ hC (Below.refl _ _) (by intro d hd; cases hd; rfl)
        have q := HA53.out w2
        (clear hV hI hC; go_simp <;> (first | rfl | simp))
      case o54 =>
        intro Q a w2 hC hV hI
        refine op_call (f := 21) (args := #[.int .i64 167]) (R := fun v y => v = .string z12 ∧ Below w2.heap.size w2 y) ?_ ((HZ.out w2).mono ?_) ?_
        · (clear hV hI hC; go_simp <;> (first | rfl | simp))
        · rintro e y ⟨rfl, hb⟩; exact ⟨_, rfl, rfl, hb⟩
        · rintro v y ⟨rfl, hb⟩; exact ⟨hC.trans (hb.mono hC.size), hb, by intro d hd; cases hd; rfl⟩
      case o55 =>
        intro Q a w2 hC hV hI
        have e53 : a.eval (.tmp 53) = .string x53 := hV 53 (by simp [Op.operands]) (by kernel_rfl)
        have f53 : a.tmps.getD 53 undef = .string x53 := e53
        have g53 : a.tmps[53]?.getD undef = .string x53 := by rw [← Array.getD_eq_getD_getElem?]; exact e53
        have e54 : a.eval (.tmp 54) = .string z12 := hV 54 (by simp [Op.operands]) (by kernel_rfl)
        have f54 : a.tmps.getD 54 undef = .string z12 := e54
        have g54 : a.tmps[54]?.getD undef = .string z12 := by rw [← Array.getD_eq_getD_getElem?]; exact e54
        refine op_val (.string x55) ?_ hC (Below.refl _ _) (by intro d hd; cases hd; rfl)
        have q := HA55.out w2
        (clear hV hI hC; go_simp <;> (first | rfl | simp))
      case o10 =>
        intro Q a w2 hC hV hI
        have e55 : a.eval (.tmp 55) = .string x55 := hV 55 (by simp [Op.operands]) (by kernel_rfl)
        have f55 : a.tmps.getD 55 undef = .string x55 := e55
        have g55 : a.tmps[55]?.getD undef = .string x55 := by rw [← Array.getD_eq_getD_getElem?]; exact e55
        refine op_val (.string x55) ?_ hC (Below.refl _ _) (by intro d hd; cases hd; rfl)
        (clear hV hI hC; go_simp <;> (first | rfl | simp))
    case hend =>
      intro f w4 hC hall
      clear HA40 HA41 HA45 HA49 HA51 HA53 HA55
      simp only [List.forall_mem_cons] at hall
      obtain ⟨h35, h36, h37, h38, h39, h40, h41, h42, h43, h44, h45, h46, h47, h48, h49, h50, h51, h52, h53, h54, h55, h10, _⟩ := hall
      replace h35 : f 35 = .string fl := h35 35 rfl
      replace h36 : f 36 = .pointer (some ⟨w.heap.size, 2, none⟩) := h36 36 rfl
      replace h37 : f 37 = .string l := h37 37 rfl
      replace h38 : f 38 = .string ql := h38 38 rfl
      replace h39 : f 39 = .string fll := h39 39 rfl
      replace h40 : f 40 = .string x40 := h40 40 rfl
      replace h41 : f 41 = .string x41 := h41 41 rfl
      replace h42 : f 42 = .pointer (some ⟨w.heap.size, 7, none⟩) := h42 42 rfl
      replace h43 : f 43 = .string us := h43 43 rfl
      replace h44 : f 44 = .string fu := h44 44 rfl
      replace h45 : f 45 = .string x45 := h45 45 rfl
      replace h46 : f 46 = .pointer (some ⟨w.heap.size, 8, none⟩) := h46 46 rfl
      replace h47 : f 47 = .string gr := h47 47 rfl
      replace h48 : f 48 = .string fg := h48 48 rfl
      replace h49 : f 49 = .string x49 := h49 49 rfl
      replace h50 : f 50 = .string o0 := h50 50 rfl
      replace h51 : f 51 = .string x51 := h51 51 rfl
      replace h52 : f 52 = .string o0 := h52 52 rfl
      replace h53 : f 53 = .string x53 := h53 53 rfl
      replace h54 : f 54 = .string z12 := h54 54 rfl
      replace h55 : f 55 = .string x55 := h55 55 rfl
      replace h10 : f 10 = .string x55 := h10 10 rfl
      simp only [putAll, Act.put, List.setIfInBounds_toArray, List.set_cons_succ, List.set_cons_zero, h35, h36, h37, h38, h39, h40, h41, h42, h43, h44, h45, h46, h47, h48, h49, h50, h51, h52, h53, h54, h55, h10]
      clear h35 h36 h37 h38 h39 h40 h41 h42 h43 h44 h45 h46 h47 h48 h49 h50 h51 h52 h53 h54 h55 h10
      have HXB : Hid (hB = x55) := Lib.hid (by rw [HEB.out, HX55.out, HX53.out, HX51.out, HX49.out, HX45.out, HX41.out, HX40.out])
      have B4 := Lib.hid (btE B3.out hC)
      clear hC KC E3 B3 HX40 HX41 HX45 HX49 HX51 HX53 HX55
      rw [HXA.out, HXB.out] at HE
      clear HXA HXB HEA HEB HN HLk HU HG HZ HOm HOu HOg HOs HOt HO0 HQn HQl
      have S1 := Lib.hid (fun w => sum_spec x34 w (by omega))
      have S2 := Lib.hid (fun w => sum_spec x55 w (by omega))
      have b1 := sumv_bd x34.data.toList
      have b2 := sumv_bd x55.data.toList
      have l1 : x34.data.toList.length ≤ 100205 := by simp; omega
      have l2 : x55.data.toList.length ≤ 400381 := by simp; omega
      have S3 := Lib.hid (fun w => putOct_spec (sumv x34.data.toList + 256 + sumv x55.data.toList) 6 w)
      have zo := putOct_size (sumv x34.data.toList + 256 + sumv x55.data.toList) 6
      generalize putOctv (sumv x34.data.toList + 256 + sumv x55.data.toList) 6 = pr at HE S3 zo
      obtain ⟨od, ob⟩ := pr
      simp only at HE S3 zo
      generalize sumv x34.data.toList = s1 at *
      generalize sumv x55.data.toList = s2 at *
      go_wp2_with fail
      refine (S1.out _).mono ?_
      rintro e w5 ⟨rfl, rfl⟩
      go_wp2_with fail
      refine (S2.out _).mono ?_
      rintro e w5 ⟨rfl, rfl⟩
      go_wp2_with fail
      refine (S3.out _).mono ?_
      rintro e w5 ⟨rfl, rfl⟩
      have zc : (x34 ++ od).size ≤ 100225 := by rw [ByteArray.size_append]; omega
      have zc2 : (x34 ++ od ++ (⟨#[0, 32]⟩ : ByteArray)).size ≤ 100227 := by rw [ByteArray.size_append]; have : (⟨#[0, 32]⟩ : ByteArray).size = 2 := rfl; omega
      go_wp2
      go_ret
      exact ⟨ret_str HE.out.symm, B4.out⟩
end Go.Proofs.YtgpgkgahbkmdiaaGreatDoor

/- Contracts of spec.PutLong and spec.LongName. -/
namespace Go.Proofs.YtgpgkgahbkmdiaaGreatDoor
open Go.ChangeShapes Go.WideShapes Go.ChangeAt Go.RowKit Go.Deep

set_option maxHeartbeats 1600000 in
set_option maxRecDepth 8000 in
theorem putLong_spec (k : Int) (p l : ByteArray) (m u g t : Int) (us gr b fl : ByteArray) (sz : Int) (w : World) (hp : p.size ≤ 4194304) (hl : l.size ≤ 4194304) (hus : us.size ≤ 4194304) (hgr : gr.size ≤ 4194304) (hbz : b.size ≤ 4194304) :
    Calls Tryz.prog 18 #[.agg #[.int .i64 k, .string p, .string l, .int .i64 m, .int .i64 u, .int .i64 g, .int .i64 t, .string us, .string gr, .string b], .string fl, .int .i64 sz] w fun e w' => e = .returned (.string (putLongv ⟨k, p, l, m, u, g, t, us, gr, b⟩ fl sz)) ∧ Below w.heap.size w w' := by
  have H1 := Lib.hid (fun w => entryOk_spec k p l m u g t us gr b w hp hl hus hgr hbz)
  have H2 := Lib.hid (fun w => in_any sz 0 3000 w)
  by_cases hy : entOkv ⟨k, p, l, m, u, g, t, us, gr, b⟩ = true ∧ fl.size = 1 ∧ (0 ≤ sz ∧ sz ≤ 3000)
  · have HE : Hid (putLongv ⟨k, p, l, m, u, g, t, us, gr, b⟩ fl sz = lhdv ⟨k, p, l, m, u, g, t, us, gr, b⟩ p fl sz) := Lib.hid (by rw [putLongv, if_pos hy])
    obtain ⟨hf, hfl, hs⟩ := hy
    obtain ⟨n1, n2, n3, n4, n5, n6⟩ := entOk_nums hf
    simp only at n1 n2 n3 n4 n5 n6
    have hz : p.size ≤ 100000 ∧ l.size ≤ 100000 := entOk_pl hf
    have H4 := Lib.hid (fun w => l06Head_spec k p l m u g t us gr b p fl sz w hz.2 (by omega) (by omega) hz.1 (by omega) n1 (by omega) (by omega) (by omega) (by omega))
    rw [hf] at H1
    rw [inB_t hs] at H2
    rw [← HE.out] at H4
    generalize putLongv ⟨k, p, l, m, u, g, t, us, gr, b⟩ fl sz = r at *
    have hfl' : (fl.size : Int) = 1 := by omega
    clear HE hf hfl hs hp hl hus hgr hbz n1 n2 n3 n4 n5 n6 hz
    go_enter Tryz.func18, Tryz.ntmps18
    go_wp2_with fail
    refine (H1.out _).mono ?_
    rintro e w1 ⟨rfl, hb⟩
    obtain ⟨k1, bb1, z1⟩ := one_new (e1 := ⟨k, p, l, m, u, g, t, us, gr, b⟩) hb
    have E1 := Lib.hid k1
    have B1 := Lib.hid bb1
    clear hb k1 bb1 H1
    go_wp2_with fail
    refine (H2.out _).mono ?_
    rintro e w2 ⟨rfl, rfl⟩
    obtain ⟨c0, c1, c2, c3, c4, c5, c6, c7, c8, c9⟩ := E1.out.zero
    go_wp2_with fail
    refine (H4.out _).mono ?_
    rintro e w3 ⟨rfl, hb⟩
    go_wp2
    go_ret
    exact ⟨rfl, btE B1.out hb⟩
  · have HE := Lib.hid (putLong_no hy)
    generalize putLongv ⟨k, p, l, m, u, g, t, us, gr, b⟩ fl sz = r at HE
    generalize entOkv ⟨k, p, l, m, u, g, t, us, gr, b⟩ = bf at H1 hy
    clear hp hl hus hgr hbz
    cases bf with
    | false =>
      clear hy
      go_enter Tryz.func18, Tryz.ntmps18
      go_wp2_with fail
      refine (H1.out _).mono ?_
      rintro e w1 ⟨rfl, hb⟩
      obtain ⟨-, bb1, -⟩ := one_new (e1 := ⟨k, p, l, m, u, g, t, us, gr, b⟩) hb
      have B1 := Lib.hid bb1
      clear hb bb1
      go_wp2
      go_ret
      exact ⟨ret_str HE.out.symm, B1.out⟩
    | true =>
      by_cases h1 : (fl.size : Int) = 1
      · have h2 : inB sz 0 3000 = false := inB_f (fun h => hy ⟨rfl, by omega, h⟩)
        rw [h2] at H2
        clear hy h2
        go_enter Tryz.func18, Tryz.ntmps18
        go_wp2_with fail
        refine (H1.out _).mono ?_
        rintro e w1 ⟨rfl, hb⟩
        obtain ⟨-, bb1, -⟩ := one_new (e1 := ⟨k, p, l, m, u, g, t, us, gr, b⟩) hb
        have B1 := Lib.hid bb1
        clear hb bb1
        go_wp2_with fail
        refine (H2.out _).mono ?_
        rintro e w2 ⟨rfl, rfl⟩
        go_wp2
        go_ret
        exact ⟨ret_str HE.out.symm, B1.out⟩
      · clear hy
        go_enter Tryz.func18, Tryz.ntmps18
        go_wp2_with fail
        refine (H1.out _).mono ?_
        rintro e w1 ⟨rfl, hb⟩
        obtain ⟨-, bb1, -⟩ := one_new (e1 := ⟨k, p, l, m, u, g, t, us, gr, b⟩) hb
        have B1 := Lib.hid bb1
        clear hb bb1
        go_wp2
        go_ret
        exact ⟨ret_str HE.out.symm, B1.out⟩
end Go.Proofs.YtgpgkgahbkmdiaaGreatDoor

/- Contracts of impl.startOfName, impl.longHeadText and impl.PutLong. -/
namespace Go.Proofs.YtgpgkgahbkmdiaaGreatDoor
open Go.ChangeShapes Go.WideShapes Go.ChangeAt Go.RowKit Go.Deep

theorem startOf_any (s : ByteArray) (w : World) (hs : s.size ≤ 4194304) :
    Calls Tryz.prog 76 #[.string s] w fun e w' => e = .returned (.string (firstv s)) ∧ w = w' := by
  by_cases h : (s.size : Int) ≤ 100
  · have HE : Hid (firstv s = s.extract 0 (min (s.size : Int) 100).toNat) := Lib.hid (by rw [first_same (by omega), show (min (s.size : Int) 100).toNat = s.size from by omega]; simp)
    generalize firstv s = r at HE
    go_enter Tryz.func76, Tryz.ntmps76
    go_wp2
    go_ret
    exact ⟨ret_str HE.out.symm, rfl⟩
  · have HE : Hid (firstv s = s.extract 0 (min (s.size : Int) 100).toNat) := Lib.hid (by rw [firstv, if_neg (by omega), show (min (s.size : Int) 100).toNat = 100 from by omega])
    generalize firstv s = r at HE
    go_enter Tryz.func76, Tryz.ntmps76
    go_wp2
    go_ret
    exact ⟨ret_str HE.out.symm, rfl⟩
set_option maxHeartbeats 3200000 in
set_option maxRecDepth 8000 in
theorem longHead_impl (k : Int) (p l : ByteArray) (m u g t : Int) (us gr b fl : ByteArray) (sz : Int) (w : World) (hp : p.size ≤ 4194304) (hl : l.size ≤ 4194304) (zus : us.size ≤ 32) (zgr : gr.size ≤ 32) (zfl : fl.size = 1) (nm : 0 ≤ m ∧ m ≤ 9007199254740991) (nu : 0 ≤ u ∧ u ≤ 9007199254740991) (ng : 0 ≤ g ∧ g ≤ 9007199254740991) (nt : 0 ≤ t ∧ t ≤ 9007199254740991) (ns : 0 ≤ sz ∧ sz ≤ 9007199254740991) (hT : Tabs w) (hF : FW w) :
    Calls Tryz.prog 46 #[.agg #[.int .i64 k, .string p, .string l, .int .i64 m, .int .i64 u, .int .i64 g, .int .i64 t, .string us, .string gr, .string b, .string fl, .int .i64 sz]] w fun e w' => e = .returned (.string (lhdv ⟨k, p, l, m, u, g, t, us, gr, b⟩ p fl sz)) ∧ Below w.heap.size w w' := by
  have H1 := Lib.hid (fun w => startOf_any p w hp)
  have H2 := Lib.hid (fun w => startOf_any l w hl)
  have H4 := Lib.hid (fun w hT hF => headText_impl k (firstv p) (firstv l) m u g t us gr b fl sz ⟨#[]⟩ magicG w (first_size p) (first_size l) zus zgr zfl (by decide) (by decide) nm nu ng nt ns hT hF)
  have hv : hdv ⟨k, firstv p, firstv l, m, u, g, t, us, gr, b⟩ (firstv p) ⟨#[]⟩ fl sz magicG = lhdv ⟨k, p, l, m, u, g, t, us, gr, b⟩ p fl sz := rfl
  rw [hv, show magicG = ⟨#[117, 115, 116, 97, 114, 32, 32, 0]⟩ from rfl] at H4
  generalize lhdv ⟨k, p, l, m, u, g, t, us, gr, b⟩ p fl sz = r at *
  generalize firstv p = fp at *
  generalize firstv l = fl' at *
  have HF := Lib.hid hF
  have HT := Lib.hid hT
  clear hv hF hT hp hl zus zgr zfl nm nu ng nt ns
  have E0 := Lib.hid (HdO.new w ⟨k, p, l, m, u, g, t, us, gr, b⟩ fl sz)
  have B0 := Lib.hid ((Below.refl w.heap.size w).alloc (Nat.le_refl _) (.cells (hdCells ⟨k, p, l, m, u, g, t, us, gr, b⟩ fl sz).toArray 62))
  simp only [hdCells] at E0 B0
  go_enter Tryz.func46, Tryz.ntmps46
  go_wp2_with fail
  generalize w.alloc (.cells #[.int .i64 k, .string p, .string l, .int .i64 m, .int .i64 u, .int .i64 g, .int .i64 t, .string us, .string gr, .string b, .string fl, .int .i64 sz] 62) = w1 at *
  refine (H1.out _).mono ?_
  rintro e w2 ⟨rfl, rfl⟩
  have hfz := E0.out.fz 1
  obtain ⟨_, c1, c2, _⟩ := E0.out.at.zero
  have E1 := Lib.hid (E0.out.set (e' := ⟨k, fp, l, m, u, g, t, us, gr, b⟩) (fl' := fl) (sz' := sz) 1 (.string fp) rfl)
  have B1 := Lib.hid (B0.out.setCell (p := ⟨w.heap.size, 1, none⟩) (Nat.le_refl _) (.string fp))
  go_wp2_with fail
  generalize w1.setCell ⟨w.heap.size, 1, none⟩ (.string fp) = w2 at *
  clear c1 c2 hfz
  have hfz := E1.out.fz 2
  obtain ⟨_, c1, c2, _⟩ := E1.out.at.zero
  obtain ⟨c10, c11⟩ := E1.out.two
  refine (H2.out _).mono ?_
  rintro e w3 ⟨rfl, rfl⟩
  have E2 := Lib.hid (E1.out.set (e' := ⟨k, fp, fl', m, u, g, t, us, gr, b⟩) (fl' := fl) (sz' := sz) 2 (.string fl') rfl)
  have B2 := Lib.hid (B1.out.setCell (p := ⟨w.heap.size, 2, none⟩) (Nat.le_refl _) (.string fl'))
  go_wp2_with fail
  refine (H4.out _ (HT.out.below B2.out) (HF.out.below B2.out)).mono ?_
  rintro e w4 ⟨rfl, hb⟩
  go_wp2
  go_ret
  exact ⟨rfl, btE B2.out hb⟩
set_option maxHeartbeats 3200000 in
set_option maxRecDepth 8000 in
theorem putLong_impl (k : Int) (p l : ByteArray) (m u g t : Int) (us gr b fl : ByteArray) (sz : Int) (w : World) (hp : p.size ≤ 4194304) (hl : l.size ≤ 4194304) (hus : us.size ≤ 4194304) (hgr : gr.size ≤ 4194304) (hT : Tabs w) (hF : FW w) :
    Calls Tryz.prog 25 #[.agg #[.int .i64 k, .string p, .string l, .int .i64 m, .int .i64 u, .int .i64 g, .int .i64 t, .string us, .string gr, .string b], .string fl, .int .i64 sz] w fun e w' => e = .returned (.string (putLongv ⟨k, p, l, m, u, g, t, us, gr, b⟩ fl sz)) ∧ Below w.heap.size w w' := by
  have H1 := Lib.hid (fun w => entryOk_impl k p l m u g t us gr b w hp hl hus hgr)
  have H2 := Lib.hid (fun w => headOkI_any fl sz w)
  by_cases hy : entOkv ⟨k, p, l, m, u, g, t, us, gr, b⟩ = true ∧ fl.size = 1 ∧ (0 ≤ sz ∧ sz ≤ 3000)
  · have HE : Hid (putLongv ⟨k, p, l, m, u, g, t, us, gr, b⟩ fl sz = lhdv ⟨k, p, l, m, u, g, t, us, gr, b⟩ p fl sz) := Lib.hid (by rw [putLongv, if_pos hy])
    obtain ⟨n1, n2, n3, n4, n5, n6⟩ := entOk_nums hy.1
    simp only at n1 n2 n3 n4 n5 n6
    rw [hy.1] at H1
    rw [hok_iff.2 hy.2] at H2
    have H4 := Lib.hid (fun w hT hF => longHead_impl k p l m u g t us gr b fl sz w hp hl n5 n6 hy.2.1 (by omega) (by omega) (by omega) (by omega) (by have := hy.2.2; omega) hT hF)
    rw [← HE.out] at H4
    generalize putLongv ⟨k, p, l, m, u, g, t, us, gr, b⟩ fl sz = r at *
    have HF := Lib.hid hF
    have HT := Lib.hid hT
    clear HE hy hp hl hus hgr n1 n2 n3 n4 n5 n6 hF hT
    go_enter Tryz.func25, Tryz.ntmps25
    go_wp2_with fail
    refine (H1.out _).mono ?_
    rintro e w1 ⟨rfl, hb⟩
    obtain ⟨k1, bb1, z1⟩ := one_new (e1 := ⟨k, p, l, m, u, g, t, us, gr, b⟩) hb
    have E1 := Lib.hid k1
    have B1 := Lib.hid bb1
    clear hb k1 bb1 H1
    go_wp2_with fail
    refine (H2.out _).mono ?_
    rintro e w2 ⟨rfl, rfl⟩
    obtain ⟨c0, c1, c2, c3, c4, c5, c6, c7, c8, c9⟩ := E1.out.zero
    go_wp2_with fail
    refine (H4.out _ (HT.out.below B1.out) (HF.out.below B1.out)).mono ?_
    rintro e w3 ⟨rfl, hb⟩
    go_wp2
    go_ret
    exact ⟨rfl, btE B1.out hb⟩
  · have HE := Lib.hid (putLong_no hy)
    have hh : entOkv ⟨k, p, l, m, u, g, t, us, gr, b⟩ = true → hokv fl sz = false := fun h => by
      cases hq : hokv fl sz with
      | false => rfl
      | true => exact absurd ⟨h, hok_iff.1 hq⟩ hy
    generalize putLongv ⟨k, p, l, m, u, g, t, us, gr, b⟩ fl sz = r at HE
    generalize entOkv ⟨k, p, l, m, u, g, t, us, gr, b⟩ = bf at H1 hy hh
    clear hT hF hp hl hus hgr hy
    cases bf with
    | false =>
      clear hh
      go_enter Tryz.func25, Tryz.ntmps25
      go_wp2_with fail
      refine (H1.out _).mono ?_
      rintro e w1 ⟨rfl, hb⟩
      obtain ⟨-, bb1, -⟩ := one_new (e1 := ⟨k, p, l, m, u, g, t, us, gr, b⟩) hb
      have B1 := Lib.hid bb1
      clear hb bb1
      go_wp2
      go_ret
      exact ⟨ret_str HE.out.symm, B1.out⟩
    | true =>
      rw [hh rfl] at H2
      clear hh
      go_enter Tryz.func25, Tryz.ntmps25
      go_wp2_with fail
      refine (H1.out _).mono ?_
      rintro e w1 ⟨rfl, hb⟩
      obtain ⟨-, bb1, -⟩ := one_new (e1 := ⟨k, p, l, m, u, g, t, us, gr, b⟩) hb
      have B1 := Lib.hid bb1
      clear hb bb1
      go_wp2_with fail
      refine (H2.out _).mono ?_
      rintro e w2 ⟨rfl, rfl⟩
      go_wp2
      go_ret
      exact ⟨ret_str HE.out.symm, B1.out⟩
end Go.Proofs.YtgpgkgahbkmdiaaGreatDoor

/- Contracts of spec.LongName and impl.LongName. -/
namespace Go.Proofs.YtgpgkgahbkmdiaaGreatDoor
open Go.ChangeShapes Go.WideShapes Go.ChangeAt Go.RowKit Go.Deep

theorem kind_ne {a b : ByteArray} (h : a ≠ b) : (a.toList == b.toList) = false := by
  rw [beq_eq_false_iff_ne, ba_toList, ba_toList]
  exact fun e => h (ba_ext e)
theorem kind_eq {a b : ByteArray} (h : a = b) : (a.toList == b.toList) = true := by rw [h]; exact beq_self_eq_true _
theorem lp_size : longPath.size ≤ 4194304 := by have : longPath.size = 13 := rfl; omega
theorem em_size : (⟨#[]⟩ : ByteArray).size ≤ 4194304 := Nat.zero_le _
theorem flagL_list : flagL.toList = [76] := by rw [ba_toList]; rfl
theorem flagK_list : flagK.toList = [75] := by rw [ba_toList]; rfl
theorem kinds_of {kd : ByteArray} (h0 : kd = flagL ∨ kd = flagK) : (kd.toList == [76]) = true ∨ ((kd.toList == [76]) = false ∧ (kd.toList == [75]) = true) := by
  rw [← flagL_list, ← flagK_list]
  rcases h0 with rfl | rfl
  · exact .inl (kind_eq rfl)
  · exact .inr ⟨kind_ne (by decide), kind_eq rfl⟩
theorem kinds_not {kd : ByteArray} (h0 : ¬ (kd = flagL ∨ kd = flagK)) : (kd.toList == [76]) = false ∧ (kd.toList == [75]) = false := by
  rw [← flagL_list, ← flagK_list]
  exact ⟨kind_ne (fun e => h0 (.inl e)), kind_ne (fun e => h0 (.inr e))⟩
theorem long_head2 (kd : ByteArray) (x : Int) : lhdv ⟨0, longPath, ⟨#[]⟩, 0, 0, 0, 0, ⟨#[]⟩, ⟨#[]⟩, ⟨#[]⟩⟩ longPath kd x = lhdv zE longPath kd x := by
  unfold lhdv hdv hdA headB zE
  rfl
set_option maxHeartbeats 1600000 in
set_option maxRecDepth 8000 in
theorem longName_spec (kd s : ByteArray) (w : World) (hs : s.size ≤ 4194304) :
    Calls Tryz.prog 17 #[.string kd, .string s] w fun e w' => e = .returned (.string (longv kd s)) ∧ Below w.heap.size w w' := by
  by_cases h0 : kd = flagL ∨ kd = flagK
  · by_cases h1 : (s.size : Int) ≤ 250
    · have hz1 := long_head (kind := kd) (text := s) h0 (by omega)
      have hz2 := body_size (s ++ ⟨#[0]⟩)
      have hz3 : (s ++ (⟨#[0]⟩ : ByteArray)).size = s.size + 1 := by rw [ByteArray.size_append]; rfl
      have HE : Hid (longv kd s = lhdv zE longPath kd ((s.size : Int) + 1) ++ bodyP (s ++ ⟨#[0]⟩)) := Lib.hid (by rw [longv, if_pos ⟨h0, by omega⟩])
      have H1 := Lib.hid (fun w => l06Head_spec 0 ⟨#[]⟩ ⟨#[]⟩ 0 0 0 0 ⟨#[]⟩ ⟨#[]⟩ ⟨#[]⟩ longPath kd ((s.size : Int) + 1) w (by decide) (by decide) (by decide) (by decide) (by rw [long_kind h0]; omega) (by decide) (by decide) (by decide) (by decide) (by omega))
      rw [show (⟨0, ⟨#[]⟩, ⟨#[]⟩, 0, 0, 0, 0, ⟨#[]⟩, ⟨#[]⟩, ⟨#[]⟩⟩ : Ent) = zE from rfl, show longPath = ⟨#[46, 47, 46, 47, 64, 76, 111, 110, 103, 76, 105, 110, 107]⟩ from rfl] at H1
      rw [show longPath = ⟨#[46, 47, 46, 47, 64, 76, 111, 110, 103, 76, 105, 110, 107]⟩ from rfl] at HE hz1
      have H2 := Lib.hid (fun w => l04Body_spec (s ++ ⟨#[0]⟩) w (by omega))
      generalize longv kd s = r at HE
      generalize lhdv zE ⟨#[46, 47, 46, 47, 64, 76, 111, 110, 103, 76, 105, 110, 107]⟩ kd ((s.size : Int) + 1) = hd at *
      generalize bodyP (s ++ ⟨#[0]⟩) = bd at *
      have hk := kinds_of h0
      clear h0
      rcases hk with hk | ⟨hk, hk2⟩
      · go_enter Tryz.func17, Tryz.ntmps17
        go_wp2_with fail
        refine (H1.out _).mono ?_
        rintro e w1 ⟨rfl, hb1⟩
        have B1 := Lib.hid hb1
        clear hb1
        go_wp2_with fail
        refine (H2.out _).mono ?_
        rintro e w2 ⟨rfl, hb2⟩
        go_wp2
        go_ret
        exact ⟨ret_str HE.out.symm, btE B1.out hb2⟩
      · go_enter Tryz.func17, Tryz.ntmps17
        go_wp2_with fail
        refine (H1.out _).mono ?_
        rintro e w1 ⟨rfl, hb1⟩
        have B1 := Lib.hid hb1
        clear hb1
        go_wp2_with fail
        refine (H2.out _).mono ?_
        rintro e w2 ⟨rfl, hb2⟩
        go_wp2
        go_ret
        exact ⟨ret_str HE.out.symm, btE B1.out hb2⟩
    · have HE := Lib.hid (long_no (kind := kd) (text := s) (fun h => h1 (by have := h.2; omega)))
      generalize longv kd s = r at HE
      have hk := kinds_of h0
      clear h0
      rcases hk with hk | ⟨hk, hk2⟩
      · go_enter Tryz.func17, Tryz.ntmps17
        go_wp2
        go_ret
        exact ⟨ret_str HE.out.symm, Below.refl _ _⟩
      · go_enter Tryz.func17, Tryz.ntmps17
        go_wp2
        go_ret
        exact ⟨ret_str HE.out.symm, Below.refl _ _⟩
  · have HE := Lib.hid (long_no (kind := kd) (text := s) (fun h => h0 h.1))
    obtain ⟨k1, k2⟩ := kinds_not h0
    generalize longv kd s = r at HE
    clear h0
    go_enter Tryz.func17, Tryz.ntmps17
    go_wp2
    go_ret
    exact ⟨ret_str HE.out.symm, Below.refl _ _⟩
set_option maxHeartbeats 1600000 in
set_option maxRecDepth 8000 in
theorem longName_impl (kd s : ByteArray) (w : World) (hs : s.size ≤ 4194304) (hT : Tabs w) (hF : FW w) :
    Calls Tryz.prog 24 #[.string kd, .string s] w fun e w' => e = .returned (.string (longv kd s)) ∧ Below w.heap.size w w' := by
  by_cases h0 : kd = flagL ∨ kd = flagK
  · by_cases h1 : (s.size : Int) ≤ 250
    · have hz1 := long_head (kind := kd) (text := s) h0 (by omega)
      have hz2 := body_size (s ++ ⟨#[0]⟩)
      have hz3 : (s ++ (⟨#[0]⟩ : ByteArray)).size = s.size + 1 := by rw [ByteArray.size_append]; rfl
      have HE : Hid (longv kd s = lhdv zE longPath kd ((s.size : Int) + 1) ++ bodyP (s ++ ⟨#[0]⟩)) := Lib.hid (by rw [longv, if_pos ⟨h0, by omega⟩])
      have H1 := Lib.hid (fun w hT hF => longHead_impl 0 longPath ⟨#[]⟩ 0 0 0 0 ⟨#[]⟩ ⟨#[]⟩ ⟨#[]⟩ kd ((s.size : Int) + 1) w lp_size em_size (Nat.zero_le _) (Nat.zero_le _) (long_kind h0) (by omega) (by omega) (by omega) (by omega) (by omega) hT hF)
      rw [long_head2, show longPath = ⟨#[46, 47, 46, 47, 64, 76, 111, 110, 103, 76, 105, 110, 107]⟩ from rfl] at H1
      rw [show longPath = ⟨#[46, 47, 46, 47, 64, 76, 111, 110, 103, 76, 105, 110, 107]⟩ from rfl] at HE hz1
      have H2 := Lib.hid (fun w => padded_any (s ++ ⟨#[0]⟩) w (by omega))
      generalize longv kd s = r at HE
      generalize lhdv zE ⟨#[46, 47, 46, 47, 64, 76, 111, 110, 103, 76, 105, 110, 107]⟩ kd ((s.size : Int) + 1) = hd at *
      generalize bodyP (s ++ ⟨#[0]⟩) = bd at *
      have hk := kinds_of h0
      have HT := Lib.hid hT
      have HF := Lib.hid hF
      rw [hz3] at hz2
      clear h0 hT hF hz3
      rcases hk with hk | ⟨hk, hk2⟩
      · go_enter Tryz.func24, Tryz.ntmps24
        go_wp2_with fail
        refine (H1.out _ HT.out HF.out).mono ?_
        rintro e w1 ⟨rfl, hb1⟩
        have B1 := Lib.hid hb1
        clear hb1
        go_wp2_with fail
        refine (H2.out _).mono ?_
        rintro e w2 ⟨rfl, hb2⟩
        go_wp2
        go_ret
        exact ⟨ret_str HE.out.symm, btE B1.out hb2⟩
      · go_enter Tryz.func24, Tryz.ntmps24
        go_wp2_with fail
        refine (H1.out _ HT.out HF.out).mono ?_
        rintro e w1 ⟨rfl, hb1⟩
        have B1 := Lib.hid hb1
        clear hb1
        go_wp2_with fail
        refine (H2.out _).mono ?_
        rintro e w2 ⟨rfl, hb2⟩
        go_wp2
        go_ret
        exact ⟨ret_str HE.out.symm, btE B1.out hb2⟩
    · have HE := Lib.hid (long_no (kind := kd) (text := s) (fun h => h1 (by have := h.2; omega)))
      generalize longv kd s = r at HE
      have hk := kinds_of h0
      clear h0 hT hF
      rcases hk with hk | ⟨hk, hk2⟩
      · go_enter Tryz.func24, Tryz.ntmps24
        go_wp2
        go_ret
        exact ⟨ret_str HE.out.symm, Below.refl _ _⟩
      · go_enter Tryz.func24, Tryz.ntmps24
        go_wp2
        go_ret
        exact ⟨ret_str HE.out.symm, Below.refl _ _⟩
  · have HE := Lib.hid (long_no (kind := kd) (text := s) (fun h => h0 h.1))
    obtain ⟨k1, k2⟩ := kinds_not h0
    generalize longv kd s = r at HE
    clear h0 hT hF
    go_enter Tryz.func24, Tryz.ntmps24
    go_wp2
    go_ret
    exact ⟨ret_str HE.out.symm, Below.refl _ _⟩
end Go.Proofs.YtgpgkgahbkmdiaaGreatDoor

/- Bytes of the call's own that grow, beside an entry in a block of its own. -/
namespace Go.Proofs.YtgpgkgahbkmdiaaGreatDoor
open Go.ChangeShapes Go.WideShapes Go.ChangeAt Go.RowKit Go.Deep

theorem OwnB.textU {w : World} {base n : Nat} {v : Value} {l : List UInt8} {s : ByteArray} (hn : n = l.length + s.size) (h : w.ownsRow base 5 1 v n (byteVals l ++ Lib.strCells s)) : OwnB w base v (l ++ s.data.toList) := by
  subst hn
  have e : byteVals l ++ Lib.strCells s = byteVals (l ++ s.data.toList) := by simp [byteVals, Lib.strCells]
  rw [e, show l.length + s.size = (l ++ s.data.toList).length from by simp] at h
  exact h
theorem ownB_belowU {w w' : World} {base : Nat} {v : Value} {l : List UInt8} (h : OwnB w base v l) (hb : Below w.heap.size w w') : OwnB w' base v l :=
  World.ownsRow.kept h (row := none) ⟨hb.os, hb.tape, hb.output, hb.size, fun k hk _ => hb.block k hk⟩ (by cases hv : v.ownBlock <;> simp)
/-- A row of another type is another block. -/
theorem own_ne {w : World} {base n g : Nat} {e t : TypeId} {v : Value} {xs : List Value} {c : Array Value} {fr : Nat × Nat} (ho : w.ownsRow base e 1 v n xs) (hg : w.heap[g]? = some (.cells c t fr)) (hne : t ≠ e) : some g ≠ v.ownBlock := by
  rcases ho.2 with ⟨rfl, _⟩ | ⟨g', cap, cur, rfl, _, hc, _⟩
  · simp [Value.ownBlock]
  · simp only [Value.ownBlock]
    intro h
    obtain rfl : g = g' := Option.some.inj h
    rw [hg] at hc
    simp only [Option.some.injEq, Obj.cells.injEq] at hc
    exact hne hc.2.1
theorem box_kept {w w' : World} {base n g : Nat} {e t : TypeId} {v : Value} {xs : List Value} {c : Array Value} {fr : Nat × Nat} (ho : w.ownsRow base e 1 v n xs) (hg : w.heap[g]? = some (.cells c t fr)) (hne : t ≠ e) (hgrow : w.grownBy w' v.ownBlock) : w'.heap[g]? = some (.cells c t fr) := by
  have hl : g < w.heap.size := (Array.getElem?_eq_some_iff.1 hg).1
  rw [← hg]
  exact hgrow.block g hl (own_ne ho hg hne)
theorem boxK {w w' : World} {g base n : Nat} {e : Ent} {v : Value} {xs : List Value} (ho : w.ownsRow base 5 1 v n xs) (h : EntO w g e) (hgrow : w.grownBy w' v.ownBlock) : EntO w' g e :=
  box_kept ho h (by decide) hgrow
theorem ret_sb2 {a c : ByteArray} {b d : Bool} {r : ByteArray × Bool} (h : r = (a, b)) (h1 : c = a) (h2 : d = b) : Ending.returned (.tuple #[.string c, .bool d]) = .returned (.tuple #[.string r.1, .bool r.2]) := by
  subst h h1 h2; rfl
theorem OwnB.textT {w : World} {base n : Nat} {v : Value} {T s x : ByteArray} (hx : x = T ++ s) (hn : n = T.data.toList.length + s.size) (h : w.ownsRow base 5 1 v n (byteVals T.data.toList ++ Lib.strCells s)) : OwnB w base v x.data.toList := by
  have := OwnB.textU hn h
  rw [hx]
  simpa using this
theorem ba_back (T : ByteArray) : (⟨T.data.toList.toArray⟩ : ByteArray) = T := by simp
end Go.Proofs.YtgpgkgahbkmdiaaGreatDoor
