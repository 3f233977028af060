/- Texts joined: HeadS, PutHeadS, GetHdS, EntEq, GetHeadLaw. -/
import Derived.Test.YtgpgkgahbkmdiabGreatDoorEntL
import Derived.Deep.RegionWith
import Derived.Deep.RegionHeld3
import Derived.Test.YtgpgkgahbkmdiabGreatDoorJG2
/- Contracts of spec.l04Head and spec.PutHead. -/
namespace Go.Proofs.YtgpgkgahbkmdiabGreatDoor
open Go.ChangeShapes Go.WideShapes Go.ChangeAt Go.RowKit Go.Deep

set_option maxHeartbeats 6400000 in
set_option maxRecDepth 8000 in
theorem l04Head_spec (k : Int) (p l : ByteArray) (m u g t : Int) (us gr b nm pf fl : ByteArray) (sz : Int) (mg : ByteArray) (w : World) (hl : l.size ≤ 100000) (hus : us.size ≤ 100000) (hgr : gr.size ≤ 100000) (hnm : nm.size ≤ 100000) (hpf : pf.size ≤ 100000) (hfl : fl.size ≤ 100000) (hmg : mg.size ≤ 100000) :
    Calls Tryz.prog 53 #[.agg #[.int .i64 k, .string p, .string l, .int .i64 m, .int .i64 u, .int .i64 g, .int .i64 t, .string us, .string gr, .string b], .string nm, .string pf, .string fl, .int .i64 sz, .string mg] w fun e w' => e = .returned (.string (headv ⟨k, p, l, m, u, g, t, us, gr, b⟩ nm pf fl sz mg)) ∧ Below w.heap.size w w' := by
  have HN := Lib.hid (fun w => fill_spec nm 100 w (by omega))
  have HLk := Lib.hid (fun w => fill_spec l 100 w (by omega))
  have HU := Lib.hid (fun w => fill_spec us 32 w (by omega))
  have HG := Lib.hid (fun w => fill_spec gr 32 w (by omega))
  have HP := Lib.hid (fun w => fill_spec pf 155 w (by omega))
  have HZ := Lib.hid (fun w => nuls_spec 12 w (by omega))
  have HOm := Lib.hid (fun w => l04Oct_spec m 8 w (by omega) (by omega))
  have HOu := Lib.hid (fun w => l04Oct_spec u 8 w (by omega) (by omega))
  have HOg := Lib.hid (fun w => l04Oct_spec g 8 w (by omega) (by omega))
  have HOs := Lib.hid (fun w => l04Oct_spec sz 12 w (by omega) (by omega))
  have HOt := Lib.hid (fun w => l04Oct_spec t 12 w (by omega) (by omega))
  have HO0 := Lib.hid (fun w => l04Oct_spec 0 8 w (by omega) (by omega))
  have zfn := fill_size nm 100 (by omega)
  have zfl := fill_size l 100 (by omega)
  have zfu := fill_size us 32 (by omega)
  have zfg := fill_size gr 32 (by omega)
  have zfp := fill_size pf 155 (by omega)
  have zz := nulv_size 12
  have zom := octz_size m 8
  have zou := octz_size u 8
  have zog := octz_size g 8
  have zos := octz_size sz 12
  have zot := octz_size t 12
  have zo0 := octz_size 0 8
  have HE : Hid (headv ⟨k, p, l, m, u, g, t, us, gr, b⟩ nm pf fl sz mg = headA ⟨k, p, l, m, u, g, t, us, gr, b⟩ nm sz ++ (putOctv (sumv (headA ⟨k, p, l, m, u, g, t, us, gr, b⟩ nm sz).data.toList + 256 + sumv (headB ⟨k, p, l, m, u, g, t, us, gr, b⟩ pf fl mg).data.toList) 6).1 ++ ⟨#[0, 32]⟩ ++ headB ⟨k, p, l, m, u, g, t, us, gr, b⟩ pf fl mg) := Lib.hid rfl
  have HEA : Hid (headA ⟨k, p, l, m, u, g, t, us, gr, b⟩ nm sz = fillv nm 100 ++ octz m 8 ++ octz u 8 ++ octz g 8 ++ octz sz 12 ++ octz t 12) := Lib.hid rfl
  have HEB : Hid (headB ⟨k, p, l, m, u, g, t, us, gr, b⟩ pf fl mg = fl ++ fillv l 100 ++ mg ++ fillv us 32 ++ fillv gr 32 ++ octz 0 8 ++ octz 0 8 ++ fillv pf 155 ++ nulv 12) := Lib.hid rfl
  generalize headv ⟨k, p, l, m, u, g, t, us, gr, b⟩ nm pf fl sz mg = r at HE
  generalize headA ⟨k, p, l, m, u, g, t, us, gr, b⟩ nm sz = hA at HE HEA
  generalize headB ⟨k, p, l, m, u, g, t, us, gr, b⟩ pf fl mg = hB at HE HEB
  rw [show ((12 : Int).toNat) = 12 from rfl] at HZ
  generalize fillv nm 100 = fn at *
  generalize fillv l 100 = fll at *
  generalize fillv us 32 = fu at *
  generalize fillv gr 32 = fg at *
  generalize fillv pf 155 = fp at *
  generalize nulv 12 = z12 at *
  generalize octz m 8 = om at *
  generalize octz u 8 = ou at *
  generalize octz g 8 = og at *
  generalize octz sz 12 = os at *
  generalize octz t 12 = ot at *
  generalize octz 0 8 = o0 at *
  simp only [show ((100 : Int).toNat) = 100 from rfl, show ((32 : Int).toNat) = 32 from rfl, show ((155 : Int).toNat) = 155 from rfl] at zfn zfl zfu zfg zfp
  go_enter Tryz.func53, Tryz.ntmps53
  go_wp2_with fail
  have E0 := EntAt.new w ⟨k, p, l, m, u, g, t, us, gr, b⟩ 23
  have B0 := (Below.refl w.heap.size w).alloc (Nat.le_refl _) (.cells (Ent.cells ⟨k, p, l, m, u, g, t, us, gr, b⟩).toArray 23)
  have z0 : w.heap.size < (w.alloc (.cells (Ent.cells ⟨k, p, l, m, u, g, t, us, gr, b⟩).toArray 23)).heap.size := by simp
  simp only [Ent.cells] at E0 B0 z0
  generalize w.alloc (.cells #[.int .i64 k, .string p, .string l, .int .i64 m, .int .i64 u, .int .i64 g, .int .i64 t, .string us, .string gr, .string b] 23) = w1 at *
  have E1 := Lib.hid E0
  have B1 := Lib.hid B0
  clear E0 B0
  have KC : Hid (∀ w', Below w1.heap.size w1 w' → w'.cell? ⟨w.heap.size, 1, none⟩ = some (.string p) ∧ w'.cell? ⟨w.heap.size, 2, none⟩ = some (.string l) ∧ w'.cell? ⟨w.heap.size, 3, none⟩ = some (.int .i64 m) ∧ w'.cell? ⟨w.heap.size, 4, none⟩ = some (.int .i64 u) ∧ w'.cell? ⟨w.heap.size, 5, none⟩ = some (.int .i64 g) ∧ w'.cell? ⟨w.heap.size, 6, none⟩ = some (.int .i64 t) ∧ w'.cell? ⟨w.heap.size, 7, none⟩ = some (.string us) ∧ w'.cell? ⟨w.heap.size, 8, none⟩ = some (.string gr)) := Lib.hid (fun w' hb => by obtain ⟨c0, c1, c2, c3, c4, c5, c6, c7, c8, c9⟩ := (E1.out.below hb z0).zero; exact ⟨c1, c2, c3, c4, c5, c6, c7, c8⟩)
  obtain ⟨x22, hx22⟩ : ∃ x : ByteArray, x = fn ++ om := ⟨_, rfl⟩
  obtain ⟨x26, hx26⟩ : ∃ x : ByteArray, x = x22 ++ ou := ⟨_, rfl⟩
  obtain ⟨x30, hx30⟩ : ∃ x : ByteArray, x = x26 ++ og := ⟨_, rfl⟩
  obtain ⟨x33, hx33⟩ : ∃ x : ByteArray, x = x30 ++ os := ⟨_, rfl⟩
  obtain ⟨x37, hx37⟩ : ∃ x : ByteArray, x = x33 ++ ot := ⟨_, rfl⟩
  have zx22 : x22.size ≤ 100121 := by rw [hx22, ByteArray.size_append]; omega
  have zx26 : x26.size ≤ 100142 := by rw [hx26, ByteArray.size_append]; omega
  have zx30 : x30.size ≤ 100163 := by rw [hx30, ByteArray.size_append]; omega
  have zx33 : x33.size ≤ 100184 := by rw [hx33, ByteArray.size_append]; omega
  have zx37 : x37.size ≤ 100205 := by rw [hx37, ByteArray.size_append]; omega
  have HA22 : Hid (∀ w, (Op.stringOp .add fn om).run Tryz.prog w = .ok (.string x22) w) := Lib.hid (fun w => by rw [hx22]; exact run_string_add_sum w _ _ (by omega))
  have HA26 : Hid (∀ w, (Op.stringOp .add x22 ou).run Tryz.prog w = .ok (.string x26) w) := Lib.hid (fun w => by rw [hx26]; exact run_string_add_sum w _ _ (by omega))
  have HA30 : Hid (∀ w, (Op.stringOp .add x26 og).run Tryz.prog w = .ok (.string x30) w) := Lib.hid (fun w => by rw [hx30]; exact run_string_add_sum w _ _ (by omega))
  have HA33 : Hid (∀ w, (Op.stringOp .add x30 os).run Tryz.prog w = .ok (.string x33) w) := Lib.hid (fun w => by rw [hx33]; exact run_string_add_sum w _ _ (by omega))
  have HA37 : Hid (∀ w, (Op.stringOp .add x33 ot).run Tryz.prog w = .ok (.string x37) w) := Lib.hid (fun w => by rw [hx37]; exact run_string_add_sum w _ _ (by omega))
  have HX22 := Lib.hid hx22
  have HX26 := Lib.hid hx26
  have HX30 := Lib.hid hx30
  have HX33 := Lib.hid hx33
  have HX37 := Lib.hid hx37
  clear hx22 hx26 hx30 hx33 hx37
  refine wp_region_inv (by kernel_rfl) (fun w' => Below w1.heap.size w1 w') (fun x y => Below x.heap.size x y) (fun d v _ => match d with | 17 => v = .string nm | 18 => v = .string fn | 19 => v = .pointer (some ⟨w.heap.size, 3, none⟩) | 20 => v = .int .i64 m | 21 => v = .string om | 22 => v = .string x22 | 23 => v = .pointer (some ⟨w.heap.size, 4, none⟩) | 24 => v = .int .i64 u | 25 => v = .string ou | 26 => v = .string x26 | 27 => v = .pointer (some ⟨w.heap.size, 5, none⟩) | 28 => v = .int .i64 g | 29 => v = .string og | 30 => v = .string x30 | 31 => v = .int .i64 sz | 32 => v = .string os | 33 => v = .string x33 | 34 => v = .pointer (some ⟨w.heap.size, 6, none⟩) | 35 => v = .int .i64 t | 36 => v = .string ot | 37 => v = .string x37 | 13 => v = .string x37 | _ => True) (by kernel_rfl) ((Below.refl _ _).drew) (fun _ _ _ _ _ _ h => h) ?hops ?hend
  case hops =>
    simp only [List.forall_mem_cons]
    refine ⟨?o17, ?o18, ?o19, ?o20, ?o21, ?o22, ?o23, ?o24, ?o25, ?o26, ?o27, ?o28, ?o29, ?o30, ?o31, ?o32, ?o33, ?o34, ?o35, ?o36, ?o37, ?o13, fun _ h => by cases h⟩
    case o17 =>
      intro Q a w2 hC hV hI
      have e1 : a.eval (.tmp 1) = .string nm := (hI 1 (by simp [Op.operands]) (by kernel_rfl)).trans rfl
      have f1 : a.tmps.getD 1 undef = .string nm := e1
      have g1 : a.tmps[1]?.getD undef = .string nm := by rw [← Array.getD_eq_getD_getElem?]; exact e1
      refine op_val (.string nm) ?_ hC (Below.refl _ _) (by intro d hd; cases hd; rfl)
      (clear hV hI hC; go_simp <;> (first | rfl | simp))
    case o18 =>
      intro Q a w2 hC hV hI
      have e17 : a.eval (.tmp 17) = .string nm := hV 17 (by simp [Op.operands, Call.operands]) (by kernel_rfl)
      have f17 : a.tmps.getD 17 undef = .string nm := e17
      have g17 : a.tmps[17]?.getD undef = .string nm := by rw [← Array.getD_eq_getD_getElem?]; exact e17
      refine op_call (f := 62) (args := #[.string nm, .int .i64 100]) (R := fun v y => v = .string fn ∧ Below w2.heap.size w2 y) ?_ ((HN.out w2).mono ?_) ?_
      · (clear hV hI hC; go_simp <;> (first | rfl | simp))
      · rintro e y ⟨rfl, hb⟩; exact ⟨_, rfl, rfl, hb⟩
      · rintro v y ⟨rfl, hb⟩; exact ⟨hC.trans (hb.mono hC.size), hb, by intro d hd; cases hd; rfl⟩
    case o19 =>
      intro Q a w2 hC hV hI
      have e6 : a.eval (.tmp 6) = .pointer (some ⟨w.heap.size, 0, none⟩) := (hI 6 (by simp [Op.operands]) (by kernel_rfl)).trans rfl
      have f6 : a.tmps.getD 6 undef = .pointer (some ⟨w.heap.size, 0, none⟩) := e6
      have g6 : a.tmps[6]?.getD undef = .pointer (some ⟨w.heap.size, 0, none⟩) := by rw [← Array.getD_eq_getD_getElem?]; exact e6
      refine op_val (.pointer (some ⟨w.heap.size, 3, none⟩)) ?_ hC (Below.refl _ _) (by intro d hd; cases hd; rfl)
      (clear hV hI hC; go_simp <;> (first | rfl | simp))
    case o20 =>
      intro Q a w2 hC hV hI
      have e19 : a.eval (.tmp 19) = .pointer (some ⟨w.heap.size, 3, none⟩) := hV 19 (by simp [Op.operands]) (by kernel_rfl)
      have f19 : a.tmps.getD 19 undef = .pointer (some ⟨w.heap.size, 3, none⟩) := e19
      have g19 : a.tmps[19]?.getD undef = .pointer (some ⟨w.heap.size, 3, none⟩) := by rw [← Array.getD_eq_getD_getElem?]; exact e19
      have hK := KC.out w2 hC
      refine op_val (.int .i64 m) ?_ hC (Below.refl _ _) (by intro d hd; cases hd; rfl)
      (clear hV hI hC; go_simp <;> (first | rfl | simp))
    case o21 =>
      intro Q a w2 hC hV hI
      have e20 : a.eval (.tmp 20) = .int .i64 m := hV 20 (by simp [Op.operands, Call.operands]) (by kernel_rfl)
      have f20 : a.tmps.getD 20 undef = .int .i64 m := e20
      have g20 : a.tmps[20]?.getD undef = .int .i64 m := by rw [← Array.getD_eq_getD_getElem?]; exact e20
      refine op_call (f := 64) (args := #[.int .i64 m, .int .i64 8]) (R := fun v y => v = .string om ∧ w2 = y) ?_ ((HOm.out w2).mono ?_) ?_
      · (clear hV hI hC; go_simp <;> (first | rfl | simp))
      · rintro e y ⟨rfl, rfl⟩; exact ⟨_, rfl, rfl, rfl⟩
      · rintro v y ⟨rfl, rfl⟩; exact ⟨hC, Below.refl _ _, by intro d hd; cases hd; rfl⟩
    case o22 =>
      intro Q a w2 hC hV hI
      have e18 : a.eval (.tmp 18) = .string fn := hV 18 (by simp [Op.operands]) (by kernel_rfl)
      have f18 : a.tmps.getD 18 undef = .string fn := e18
      have g18 : a.tmps[18]?.getD undef = .string fn := by rw [← Array.getD_eq_getD_getElem?]; exact e18
      have e21 : a.eval (.tmp 21) = .string om := hV 21 (by simp [Op.operands]) (by kernel_rfl)
      have f21 : a.tmps.getD 21 undef = .string om := e21
      have g21 : a.tmps[21]?.getD undef = .string om := by rw [← Array.getD_eq_getD_getElem?]; exact e21
      refine op_val (.string x22) ?_ hC (Below.refl _ _) (by intro d hd; cases hd; rfl)
      have q := HA22.out w2
      (clear hV hI hC; go_simp <;> (first | rfl | simp))
    case o23 =>
      intro Q a w2 hC hV hI
      have e6 : a.eval (.tmp 6) = .pointer (some ⟨w.heap.size, 0, none⟩) := (hI 6 (by simp [Op.operands]) (by kernel_rfl)).trans rfl
      have f6 : a.tmps.getD 6 undef = .pointer (some ⟨w.heap.size, 0, none⟩) := e6
      have g6 : a.tmps[6]?.getD undef = .pointer (some ⟨w.heap.size, 0, none⟩) := by rw [← Array.getD_eq_getD_getElem?]; exact e6
      refine op_val (.pointer (some ⟨w.heap.size, 4, none⟩)) ?_ hC (Below.refl _ _) (by intro d hd; cases hd; rfl)
      (clear hV hI hC; go_simp <;> (first | rfl | simp))
    case o24 =>
      intro Q a w2 hC hV hI
      have e23 : a.eval (.tmp 23) = .pointer (some ⟨w.heap.size, 4, none⟩) := hV 23 (by simp [Op.operands]) (by kernel_rfl)
      have f23 : a.tmps.getD 23 undef = .pointer (some ⟨w.heap.size, 4, none⟩) := e23
      have g23 : a.tmps[23]?.getD undef = .pointer (some ⟨w.heap.size, 4, none⟩) := by rw [← Array.getD_eq_getD_getElem?]; exact e23
      have hK := KC.out w2 hC
      refine op_val (.int .i64 u) ?_ hC (Below.refl _ _) (by intro d hd; cases hd; rfl)
      (clear hV hI hC; go_simp <;> (first | rfl | simp))
    case o25 =>
      intro Q a w2 hC hV hI
      have e24 : a.eval (.tmp 24) = .int .i64 u := hV 24 (by simp [Op.operands, Call.operands]) (by kernel_rfl)
      have f24 : a.tmps.getD 24 undef = .int .i64 u := e24
      have g24 : a.tmps[24]?.getD undef = .int .i64 u := by rw [← Array.getD_eq_getD_getElem?]; exact e24
      refine op_call (f := 64) (args := #[.int .i64 u, .int .i64 8]) (R := fun v y => v = .string ou ∧ w2 = y) ?_ ((HOu.out w2).mono ?_) ?_
      · (clear hV hI hC; go_simp <;> (first | rfl | simp))
      · rintro e y ⟨rfl, rfl⟩; exact ⟨_, rfl, rfl, rfl⟩
      · rintro v y ⟨rfl, rfl⟩; exact ⟨hC, Below.refl _ _, by intro d hd; cases hd; rfl⟩
    case o26 =>
      intro Q a w2 hC hV hI
      have e22 : a.eval (.tmp 22) = .string x22 := hV 22 (by simp [Op.operands]) (by kernel_rfl)
      have f22 : a.tmps.getD 22 undef = .string x22 := e22
      have g22 : a.tmps[22]?.getD undef = .string x22 := by rw [← Array.getD_eq_getD_getElem?]; exact e22
      have e25 : a.eval (.tmp 25) = .string ou := hV 25 (by simp [Op.operands]) (by kernel_rfl)
      have f25 : a.tmps.getD 25 undef = .string ou := e25
      have g25 : a.tmps[25]?.getD undef = .string ou := by rw [← Array.getD_eq_getD_getElem?]; exact e25
      refine op_val (.string x26) ?_ hC (Below.refl _ _) (by intro d hd; cases hd; rfl)
      have q := HA26.out w2
      (clear hV hI hC; go_simp <;> (first | rfl | simp))
    case o27 =>
      intro Q a w2 hC hV hI
      have e6 : a.eval (.tmp 6) = .pointer (some ⟨w.heap.size, 0, none⟩) := (hI 6 (by simp [Op.operands]) (by kernel_rfl)).trans rfl
      have f6 : a.tmps.getD 6 undef = .pointer (some ⟨w.heap.size, 0, none⟩) := e6
      have g6 : a.tmps[6]?.getD undef = .pointer (some ⟨w.heap.size, 0, none⟩) := by rw [← Array.getD_eq_getD_getElem?]; exact e6
      refine op_val (.pointer (some ⟨w.heap.size, 5, none⟩)) ?_ hC (Below.refl _ _) (by intro d hd; cases hd; rfl)
      (clear hV hI hC; go_simp <;> (first | rfl | simp))
    case o28 =>
      intro Q a w2 hC hV hI
      have e27 : a.eval (.tmp 27) = .pointer (some ⟨w.heap.size, 5, none⟩) := hV 27 (by simp [Op.operands]) (by kernel_rfl)
      have f27 : a.tmps.getD 27 undef = .pointer (some ⟨w.heap.size, 5, none⟩) := e27
      have g27 : a.tmps[27]?.getD undef = .pointer (some ⟨w.heap.size, 5, none⟩) := by rw [← Array.getD_eq_getD_getElem?]; exact e27
      have hK := KC.out w2 hC
      refine op_val (.int .i64 g) ?_ hC (Below.refl _ _) (by intro d hd; cases hd; rfl)
      (clear hV hI hC; go_simp <;> (first | rfl | simp))
    case o29 =>
      intro Q a w2 hC hV hI
      have e28 : a.eval (.tmp 28) = .int .i64 g := hV 28 (by simp [Op.operands, Call.operands]) (by kernel_rfl)
      have f28 : a.tmps.getD 28 undef = .int .i64 g := e28
      have g28 : a.tmps[28]?.getD undef = .int .i64 g := by rw [← Array.getD_eq_getD_getElem?]; exact e28
      refine op_call (f := 64) (args := #[.int .i64 g, .int .i64 8]) (R := fun v y => v = .string og ∧ w2 = y) ?_ ((HOg.out w2).mono ?_) ?_
      · (clear hV hI hC; go_simp <;> (first | rfl | simp))
      · rintro e y ⟨rfl, rfl⟩; exact ⟨_, rfl, rfl, rfl⟩
      · rintro v y ⟨rfl, rfl⟩; exact ⟨hC, Below.refl _ _, by intro d hd; cases hd; rfl⟩
    case o30 =>
      intro Q a w2 hC hV hI
      have e26 : a.eval (.tmp 26) = .string x26 := hV 26 (by simp [Op.operands]) (by kernel_rfl)
      have f26 : a.tmps.getD 26 undef = .string x26 := e26
      have g26 : a.tmps[26]?.getD undef = .string x26 := by rw [← Array.getD_eq_getD_getElem?]; exact e26
      have e29 : a.eval (.tmp 29) = .string og := hV 29 (by simp [Op.operands]) (by kernel_rfl)
      have f29 : a.tmps.getD 29 undef = .string og := e29
      have g29 : a.tmps[29]?.getD undef = .string og := by rw [← Array.getD_eq_getD_getElem?]; exact e29
      refine op_val (.string x30) ?_ hC (Below.refl _ _) (by intro d hd; cases hd; rfl)
      have q := HA30.out w2
      (clear hV hI hC; go_simp <;> (first | rfl | simp))
    case o31 =>
      intro Q a w2 hC hV hI
      have e4 : a.eval (.tmp 4) = .int .i64 sz := (hI 4 (by simp [Op.operands]) (by kernel_rfl)).trans rfl
      have f4 : a.tmps.getD 4 undef = .int .i64 sz := e4
      have g4 : a.tmps[4]?.getD undef = .int .i64 sz := by rw [← Array.getD_eq_getD_getElem?]; exact e4
      refine op_val (.int .i64 sz) ?_ hC (Below.refl _ _) (by intro d hd; cases hd; rfl)
      (clear hV hI hC; go_simp <;> (first | rfl | simp))
    case o32 =>
      intro Q a w2 hC hV hI
      have e31 : a.eval (.tmp 31) = .int .i64 sz := hV 31 (by simp [Op.operands, Call.operands]) (by kernel_rfl)
      have f31 : a.tmps.getD 31 undef = .int .i64 sz := e31
      have g31 : a.tmps[31]?.getD undef = .int .i64 sz := by rw [← Array.getD_eq_getD_getElem?]; exact e31
      refine op_call (f := 64) (args := #[.int .i64 sz, .int .i64 12]) (R := fun v y => v = .string os ∧ w2 = y) ?_ ((HOs.out w2).mono ?_) ?_
      · (clear hV hI hC; go_simp <;> (first | rfl | simp))
      · rintro e y ⟨rfl, rfl⟩; exact ⟨_, rfl, rfl, rfl⟩
      · rintro v y ⟨rfl, rfl⟩; exact ⟨hC, Below.refl _ _, by intro d hd; cases hd; rfl⟩
    case o33 =>
      intro Q a w2 hC hV hI
      have e30 : a.eval (.tmp 30) = .string x30 := hV 30 (by simp [Op.operands]) (by kernel_rfl)
      have f30 : a.tmps.getD 30 undef = .string x30 := e30
      have g30 : a.tmps[30]?.getD undef = .string x30 := by rw [← Array.getD_eq_getD_getElem?]; exact e30
      have e32 : a.eval (.tmp 32) = .string os := hV 32 (by simp [Op.operands]) (by kernel_rfl)
      have f32 : a.tmps.getD 32 undef = .string os := e32
      have g32 : a.tmps[32]?.getD undef = .string os := by rw [← Array.getD_eq_getD_getElem?]; exact e32
      refine op_val (.string x33) ?_ hC (Below.refl _ _) (by intro d hd; cases hd; rfl)
      have q := HA33.out w2
      (clear hV hI hC; go_simp <;> (first | rfl | simp))
    case o34 =>
      intro Q a w2 hC hV hI
      have e6 : a.eval (.tmp 6) = .pointer (some ⟨w.heap.size, 0, none⟩) := (hI 6 (by simp [Op.operands]) (by kernel_rfl)).trans rfl
      have f6 : a.tmps.getD 6 undef = .pointer (some ⟨w.heap.size, 0, none⟩) := e6
      have g6 : a.tmps[6]?.getD undef = .pointer (some ⟨w.heap.size, 0, none⟩) := by rw [← Array.getD_eq_getD_getElem?]; exact e6
      refine op_val (.pointer (some ⟨w.heap.size, 6, none⟩)) ?_ hC (Below.refl _ _) (by intro d hd; cases hd; rfl)
      (clear hV hI hC; go_simp <;> (first | rfl | simp))
    case o35 =>
      intro Q a w2 hC hV hI
      have e34 : a.eval (.tmp 34) = .pointer (some ⟨w.heap.size, 6, none⟩) := hV 34 (by simp [Op.operands]) (by kernel_rfl)
      have f34 : a.tmps.getD 34 undef = .pointer (some ⟨w.heap.size, 6, none⟩) := e34
      have g34 : a.tmps[34]?.getD undef = .pointer (some ⟨w.heap.size, 6, none⟩) := by rw [← Array.getD_eq_getD_getElem?]; exact e34
      have hK := KC.out w2 hC
      refine op_val (.int .i64 t) ?_ hC (Below.refl _ _) (by intro d hd; cases hd; rfl)
      (clear hV hI hC; go_simp <;> (first | rfl | simp))
    case o36 =>
      intro Q a w2 hC hV hI
      have e35 : a.eval (.tmp 35) = .int .i64 t := hV 35 (by simp [Op.operands, Call.operands]) (by kernel_rfl)
      have f35 : a.tmps.getD 35 undef = .int .i64 t := e35
      have g35 : a.tmps[35]?.getD undef = .int .i64 t := by rw [← Array.getD_eq_getD_getElem?]; exact e35
      refine op_call (f := 64) (args := #[.int .i64 t, .int .i64 12]) (R := fun v y => v = .string ot ∧ w2 = y) ?_ ((HOt.out w2).mono ?_) ?_
      · (clear hV hI hC; go_simp <;> (first | rfl | simp))
      · rintro e y ⟨rfl, rfl⟩; exact ⟨_, rfl, rfl, rfl⟩
      · rintro v y ⟨rfl, rfl⟩; exact ⟨hC, Below.refl _ _, by intro d hd; cases hd; rfl⟩
    case o37 =>
      intro Q a w2 hC hV hI
      have e33 : a.eval (.tmp 33) = .string x33 := hV 33 (by simp [Op.operands]) (by kernel_rfl)
      have f33 : a.tmps.getD 33 undef = .string x33 := e33
      have g33 : a.tmps[33]?.getD undef = .string x33 := by rw [← Array.getD_eq_getD_getElem?]; exact e33
      have e36 : a.eval (.tmp 36) = .string ot := hV 36 (by simp [Op.operands]) (by kernel_rfl)
      have f36 : a.tmps.getD 36 undef = .string ot := e36
      have g36 : a.tmps[36]?.getD undef = .string ot := by rw [← Array.getD_eq_getD_getElem?]; exact e36
      refine op_val (.string x37) ?_ hC (Below.refl _ _) (by intro d hd; cases hd; rfl)
      have q := HA37.out w2
      (clear hV hI hC; go_simp <;> (first | rfl | simp))
    case o13 =>
      intro Q a w2 hC hV hI
      have e37 : a.eval (.tmp 37) = .string x37 := hV 37 (by simp [Op.operands]) (by kernel_rfl)
      have f37 : a.tmps.getD 37 undef = .string x37 := e37
      have g37 : a.tmps[37]?.getD undef = .string x37 := by rw [← Array.getD_eq_getD_getElem?]; exact e37
      refine op_val (.string x37) ?_ hC (Below.refl _ _) (by intro d hd; cases hd; rfl)
      (clear hV hI hC; go_simp <;> (first | rfl | simp))
  case hend =>
    intro f w3 hC hall
    clear HA22 HA26 HA30 HA33 HA37
    simp only [List.forall_mem_cons] at hall
    obtain ⟨h17, h18, h19, h20, h21, h22, h23, h24, h25, h26, h27, h28, h29, h30, h31, h32, h33, h34, h35, h36, h37, h13, _⟩ := hall
    replace h17 : f 17 = .string nm := h17 17 rfl
    replace h18 : f 18 = .string fn := h18 18 rfl
    replace h19 : f 19 = .pointer (some ⟨w.heap.size, 3, none⟩) := h19 19 rfl
    replace h20 : f 20 = .int .i64 m := h20 20 rfl
    replace h21 : f 21 = .string om := h21 21 rfl
    replace h22 : f 22 = .string x22 := h22 22 rfl
    replace h23 : f 23 = .pointer (some ⟨w.heap.size, 4, none⟩) := h23 23 rfl
    replace h24 : f 24 = .int .i64 u := h24 24 rfl
    replace h25 : f 25 = .string ou := h25 25 rfl
    replace h26 : f 26 = .string x26 := h26 26 rfl
    replace h27 : f 27 = .pointer (some ⟨w.heap.size, 5, none⟩) := h27 27 rfl
    replace h28 : f 28 = .int .i64 g := h28 28 rfl
    replace h29 : f 29 = .string og := h29 29 rfl
    replace h30 : f 30 = .string x30 := h30 30 rfl
    replace h31 : f 31 = .int .i64 sz := h31 31 rfl
    replace h32 : f 32 = .string os := h32 32 rfl
    replace h33 : f 33 = .string x33 := h33 33 rfl
    replace h34 : f 34 = .pointer (some ⟨w.heap.size, 6, none⟩) := h34 34 rfl
    replace h35 : f 35 = .int .i64 t := h35 35 rfl
    replace h36 : f 36 = .string ot := h36 36 rfl
    replace h37 : f 37 = .string x37 := h37 37 rfl
    replace h13 : f 13 = .string x37 := h13 13 rfl
    simp only [putAll, Act.put, List.setIfInBounds_toArray, List.set_cons_succ, List.set_cons_zero, h17, h18, h19, h20, h21, h22, h23, h24, h25, h26, h27, h28, h29, h30, h31, h32, h33, h34, h35, h36, h37, h13]
    clear h17 h18 h19 h20 h21 h22 h23 h24 h25 h26 h27 h28 h29 h30 h31 h32 h33 h34 h35 h36 h37 h13
    have HXA : Hid (hA = x37) := Lib.hid (by rw [HEA.out, HX37.out, HX33.out, HX30.out, HX26.out, HX22.out])
    have E3 := Lib.hid (E1.out.below hC z0)
    have B3 := Lib.hid (btE B1.out hC)
    replace z0 := Nat.lt_of_lt_of_le z0 hC.size
    clear hC KC E1 B1 HX22 HX26 HX30 HX33 HX37
    go_wp2_with fail
    have KC : Hid (∀ w', Below w3.heap.size w3 w' → w'.cell? ⟨w.heap.size, 1, none⟩ = some (.string p) ∧ w'.cell? ⟨w.heap.size, 2, none⟩ = some (.string l) ∧ w'.cell? ⟨w.heap.size, 3, none⟩ = some (.int .i64 m) ∧ w'.cell? ⟨w.heap.size, 4, none⟩ = some (.int .i64 u) ∧ w'.cell? ⟨w.heap.size, 5, none⟩ = some (.int .i64 g) ∧ w'.cell? ⟨w.heap.size, 6, none⟩ = some (.int .i64 t) ∧ w'.cell? ⟨w.heap.size, 7, none⟩ = some (.string us) ∧ w'.cell? ⟨w.heap.size, 8, none⟩ = some (.string gr)) := Lib.hid (fun w' hb => by obtain ⟨c0, c1, c2, c3, c4, c5, c6, c7, c8, c9⟩ := (E3.out.below hb z0).zero; exact ⟨c1, c2, c3, c4, c5, c6, c7, c8⟩)
    obtain ⟨x42, hx42⟩ : ∃ x : ByteArray, x = fl ++ fll := ⟨_, rfl⟩
    obtain ⟨x44, hx44⟩ : ∃ x : ByteArray, x = x42 ++ mg := ⟨_, rfl⟩
    obtain ⟨x48, hx48⟩ : ∃ x : ByteArray, x = x44 ++ fu := ⟨_, rfl⟩
    obtain ⟨x52, hx52⟩ : ∃ x : ByteArray, x = x48 ++ fg := ⟨_, rfl⟩
    obtain ⟨x54, hx54⟩ : ∃ x : ByteArray, x = x52 ++ o0 := ⟨_, rfl⟩
    obtain ⟨x56, hx56⟩ : ∃ x : ByteArray, x = x54 ++ o0 := ⟨_, rfl⟩
    obtain ⟨x59, hx59⟩ : ∃ x : ByteArray, x = x56 ++ fp := ⟨_, rfl⟩
    obtain ⟨x61, hx61⟩ : ∃ x : ByteArray, x = x59 ++ z12 := ⟨_, rfl⟩
    have zx42 : x42.size ≤ 200100 := by rw [hx42, ByteArray.size_append]; omega
    have zx44 : x44.size ≤ 300100 := by rw [hx44, ByteArray.size_append]; omega
    have zx48 : x48.size ≤ 400132 := by rw [hx48, ByteArray.size_append]; omega
    have zx52 : x52.size ≤ 500164 := by rw [hx52, ByteArray.size_append]; omega
    have zx54 : x54.size ≤ 500185 := by rw [hx54, ByteArray.size_append]; omega
    have zx56 : x56.size ≤ 500206 := by rw [hx56, ByteArray.size_append]; omega
    have zx59 : x59.size ≤ 600361 := by rw [hx59, ByteArray.size_append]; omega
    have zx61 : x61.size ≤ 600373 := by rw [hx61, ByteArray.size_append]; omega
    have HA42 : Hid (∀ w, (Op.stringOp .add fl fll).run Tryz.prog w = .ok (.string x42) w) := Lib.hid (fun w => by rw [hx42]; exact run_string_add_sum w _ _ (by omega))
    have HA44 : Hid (∀ w, (Op.stringOp .add x42 mg).run Tryz.prog w = .ok (.string x44) w) := Lib.hid (fun w => by rw [hx44]; exact run_string_add_sum w _ _ (by omega))
    have HA48 : Hid (∀ w, (Op.stringOp .add x44 fu).run Tryz.prog w = .ok (.string x48) w) := Lib.hid (fun w => by rw [hx48]; exact run_string_add_sum w _ _ (by omega))
    have HA52 : Hid (∀ w, (Op.stringOp .add x48 fg).run Tryz.prog w = .ok (.string x52) w) := Lib.hid (fun w => by rw [hx52]; exact run_string_add_sum w _ _ (by omega))
    have HA54 : Hid (∀ w, (Op.stringOp .add x52 o0).run Tryz.prog w = .ok (.string x54) w) := Lib.hid (fun w => by rw [hx54]; exact run_string_add_sum w _ _ (by omega))
    have HA56 : Hid (∀ w, (Op.stringOp .add x54 o0).run Tryz.prog w = .ok (.string x56) w) := Lib.hid (fun w => by rw [hx56]; exact run_string_add_sum w _ _ (by omega))
    have HA59 : Hid (∀ w, (Op.stringOp .add x56 fp).run Tryz.prog w = .ok (.string x59) w) := Lib.hid (fun w => by rw [hx59]; exact run_string_add_sum w _ _ (by omega))
    have HA61 : Hid (∀ w, (Op.stringOp .add x59 z12).run Tryz.prog w = .ok (.string x61) w) := Lib.hid (fun w => by rw [hx61]; exact run_string_add_sum w _ _ (by omega))
    have HX42 := Lib.hid hx42
    have HX44 := Lib.hid hx44
    have HX48 := Lib.hid hx48
    have HX52 := Lib.hid hx52
    have HX54 := Lib.hid hx54
    have HX56 := Lib.hid hx56
    have HX59 := Lib.hid hx59
    have HX61 := Lib.hid hx61
    clear hx42 hx44 hx48 hx52 hx54 hx56 hx59 hx61
    refine wp_region_inv (by kernel_rfl) (fun w' => Below w3.heap.size w3 w') (fun x y => Below x.heap.size x y) (fun d v _ => match d with | 38 => v = .string fl | 39 => v = .pointer (some ⟨w.heap.size, 2, none⟩) | 40 => v = .string l | 41 => v = .string fll | 42 => v = .string x42 | 43 => v = .string mg | 44 => v = .string x44 | 45 => v = .pointer (some ⟨w.heap.size, 7, none⟩) | 46 => v = .string us | 47 => v = .string fu | 48 => v = .string x48 | 49 => v = .pointer (some ⟨w.heap.size, 8, none⟩) | 50 => v = .string gr | 51 => v = .string fg | 52 => v = .string x52 | 53 => v = .string o0 | 54 => v = .string x54 | 55 => v = .string o0 | 56 => v = .string x56 | 57 => v = .string pf | 58 => v = .string fp | 59 => v = .string x59 | 60 => v = .string z12 | 61 => v = .string x61 | 14 => v = .string x61 | _ => True) (by kernel_rfl) ((Below.refl _ _).drew) (fun _ _ _ _ _ _ h => h) ?hops ?hend
    case hops =>
      simp only [List.forall_mem_cons]
      refine ⟨?o38, ?o39, ?o40, ?o41, ?o42, ?o43, ?o44, ?o45, ?o46, ?o47, ?o48, ?o49, ?o50, ?o51, ?o52, ?o53, ?o54, ?o55, ?o56, ?o57, ?o58, ?o59, ?o60, ?o61, ?o14, fun _ h => by cases h⟩
      case o38 =>
        intro Q a w2 hC hV hI
        have e3 : a.eval (.tmp 3) = .string fl := (hI 3 (by simp [Op.operands]) (by kernel_rfl)).trans rfl
        have f3 : a.tmps.getD 3 undef = .string fl := e3
        have g3 : a.tmps[3]?.getD undef = .string fl := by rw [← Array.getD_eq_getD_getElem?]; exact e3
        refine op_val (.string fl) ?_ hC (Below.refl _ _) (by intro d hd; cases hd; rfl)
        (clear hV hI hC; go_simp <;> (first | rfl | simp))
      case o39 =>
        intro Q a w2 hC hV hI
        have e6 : a.eval (.tmp 6) = .pointer (some ⟨w.heap.size, 0, none⟩) := (hI 6 (by simp [Op.operands]) (by kernel_rfl)).trans rfl
        have f6 : a.tmps.getD 6 undef = .pointer (some ⟨w.heap.size, 0, none⟩) := e6
        have g6 : a.tmps[6]?.getD undef = .pointer (some ⟨w.heap.size, 0, none⟩) := by rw [← Array.getD_eq_getD_getElem?]; exact e6
        refine op_val (.pointer (some ⟨w.heap.size, 2, none⟩)) ?_ hC (Below.refl _ _) (by intro d hd; cases hd; rfl)
        (clear hV hI hC; go_simp <;> (first | rfl | simp))
      case o40 =>
        intro Q a w2 hC hV hI
        have e39 : a.eval (.tmp 39) = .pointer (some ⟨w.heap.size, 2, none⟩) := hV 39 (by simp [Op.operands]) (by kernel_rfl)
        have f39 : a.tmps.getD 39 undef = .pointer (some ⟨w.heap.size, 2, none⟩) := e39
        have g39 : a.tmps[39]?.getD undef = .pointer (some ⟨w.heap.size, 2, none⟩) := by rw [← Array.getD_eq_getD_getElem?]; exact e39
        have hK := KC.out w2 hC
        refine op_val (.string l) ?_ hC (Below.refl _ _) (by intro d hd; cases hd; rfl)
        (clear hV hI hC; go_simp <;> (first | rfl | simp))
      case o41 =>
        intro Q a w2 hC hV hI
        have e40 : a.eval (.tmp 40) = .string l := hV 40 (by simp [Op.operands, Call.operands]) (by kernel_rfl)
        have f40 : a.tmps.getD 40 undef = .string l := e40
        have g40 : a.tmps[40]?.getD undef = .string l := by rw [← Array.getD_eq_getD_getElem?]; exact e40
        refine op_call (f := 62) (args := #[.string l, .int .i64 100]) (R := fun v y => v = .string fll ∧ Below w2.heap.size w2 y) ?_ ((HLk.out w2).mono ?_) ?_
        · (clear hV hI hC; go_simp <;> (first | rfl | simp))
        · rintro e y ⟨rfl, hb⟩; exact ⟨_, rfl, rfl, hb⟩
        · rintro v y ⟨rfl, hb⟩; exact ⟨hC.trans (hb.mono hC.size), hb, by intro d hd; cases hd; rfl⟩
      case o42 =>
        intro Q a w2 hC hV hI
        have e38 : a.eval (.tmp 38) = .string fl := hV 38 (by simp [Op.operands]) (by kernel_rfl)
        have f38 : a.tmps.getD 38 undef = .string fl := e38
        have g38 : a.tmps[38]?.getD undef = .string fl := by rw [← Array.getD_eq_getD_getElem?]; exact e38
        have e41 : a.eval (.tmp 41) = .string fll := hV 41 (by simp [Op.operands]) (by kernel_rfl)
        have f41 : a.tmps.getD 41 undef = .string fll := e41
        have g41 : a.tmps[41]?.getD undef = .string fll := by rw [← Array.getD_eq_getD_getElem?]; exact e41
        refine op_val (.string x42) ?_ hC (Below.refl _ _) (by intro d hd; cases hd; rfl)
        have q := HA42.out w2
        (clear hV hI hC; go_simp <;> (first | rfl | simp))
      case o43 =>
        intro Q a w2 hC hV hI
        have e5 : a.eval (.tmp 5) = .string mg := (hI 5 (by simp [Op.operands]) (by kernel_rfl)).trans rfl
        have f5 : a.tmps.getD 5 undef = .string mg := e5
        have g5 : a.tmps[5]?.getD undef = .string mg := by rw [← Array.getD_eq_getD_getElem?]; exact e5
        refine op_val (.string mg) ?_ hC (Below.refl _ _) (by intro d hd; cases hd; rfl)
        (clear hV hI hC; go_simp <;> (first | rfl | simp))
      case o44 =>
        intro Q a w2 hC hV hI
        have e42 : a.eval (.tmp 42) = .string x42 := hV 42 (by simp [Op.operands]) (by kernel_rfl)
        have f42 : a.tmps.getD 42 undef = .string x42 := e42
        have g42 : a.tmps[42]?.getD undef = .string x42 := by rw [← Array.getD_eq_getD_getElem?]; exact e42
        have e43 : a.eval (.tmp 43) = .string mg := hV 43 (by simp [Op.operands]) (by kernel_rfl)
        have f43 : a.tmps.getD 43 undef = .string mg := e43
        have g43 : a.tmps[43]?.getD undef = .string mg := by rw [← Array.getD_eq_getD_getElem?]; exact e43
        refine op_val (.string x44) ?_ hC (Below.refl _ _) (by intro d hd; cases hd; rfl)
        have q := HA44.out w2
        (clear hV hI hC; go_simp <;> (first | rfl | simp))
      case o45 =>
        intro Q a w2 hC hV hI
        have e6 : a.eval (.tmp 6) = .pointer (some ⟨w.heap.size, 0, none⟩) := (hI 6 (by simp [Op.operands]) (by kernel_rfl)).trans rfl
        have f6 : a.tmps.getD 6 undef = .pointer (some ⟨w.heap.size, 0, none⟩) := e6
        have g6 : a.tmps[6]?.getD undef = .pointer (some ⟨w.heap.size, 0, none⟩) := by rw [← Array.getD_eq_getD_getElem?]; exact e6
        refine op_val (.pointer (some ⟨w.heap.size, 7, none⟩)) ?_ hC (Below.refl _ _) (by intro d hd; cases hd; rfl)
        (clear hV hI hC; go_simp <;> (first | rfl | simp))
      case o46 =>
        intro Q a w2 hC hV hI
        have e45 : a.eval (.tmp 45) = .pointer (some ⟨w.heap.size, 7, none⟩) := hV 45 (by simp [Op.operands]) (by kernel_rfl)
        have f45 : a.tmps.getD 45 undef = .pointer (some ⟨w.heap.size, 7, none⟩) := e45
        have g45 : a.tmps[45]?.getD undef = .pointer (some ⟨w.heap.size, 7, none⟩) := by rw [← Array.getD_eq_getD_getElem?]; exact e45
        have hK := KC.out w2 hC
        refine op_val (.string us) ?_ hC (Below.refl _ _) (by intro d hd; cases hd; rfl)
        (clear hV hI hC; go_simp <;> (first | rfl | simp))
      case o47 =>
        intro Q a w2 hC hV hI
        have e46 : a.eval (.tmp 46) = .string us := hV 46 (by simp [Op.operands, Call.operands]) (by kernel_rfl)
        have f46 : a.tmps.getD 46 undef = .string us := e46
        have g46 : a.tmps[46]?.getD undef = .string us := by rw [← Array.getD_eq_getD_getElem?]; exact e46
        refine op_call (f := 62) (args := #[.string us, .int .i64 32]) (R := fun v y => v = .string fu ∧ Below w2.heap.size w2 y) ?_ ((HU.out w2).mono ?_) ?_
        · (clear hV hI hC; go_simp <;> (first | rfl | simp))
        · rintro e y ⟨rfl, hb⟩; exact ⟨_, rfl, rfl, hb⟩
        · rintro v y ⟨rfl, hb⟩; exact ⟨hC.trans (hb.mono hC.size), hb, by intro d hd; cases hd; rfl⟩
      case o48 =>
        intro Q a w2 hC hV hI
        have e44 : a.eval (.tmp 44) = .string x44 := hV 44 (by simp [Op.operands]) (by kernel_rfl)
        have f44 : a.tmps.getD 44 undef = .string x44 := e44
        have g44 : a.tmps[44]?.getD undef = .string x44 := by rw [← Array.getD_eq_getD_getElem?]; exact e44
        have e47 : a.eval (.tmp 47) = .string fu := hV 47 (by simp [Op.operands]) (by kernel_rfl)
        have f47 : a.tmps.getD 47 undef = .string fu := e47
        have g47 : a.tmps[47]?.getD undef = .string fu := by rw [← Array.getD_eq_getD_getElem?]; exact e47
        refine op_val (.string x48) ?_ hC (Below.refl _ _) (by intro d hd; cases hd; rfl)
        have q := HA48.out w2
        (clear hV hI hC; go_simp <;> (first | rfl | simp))
      case o49 =>
        intro Q a w2 hC hV hI
        have e6 : a.eval (.tmp 6) = .pointer (some ⟨w.heap.size, 0, none⟩) := (hI 6 (by simp [Op.operands]) (by kernel_rfl)).trans rfl
        have f6 : a.tmps.getD 6 undef = .pointer (some ⟨w.heap.size, 0, none⟩) := e6
        have g6 : a.tmps[6]?.getD undef = .pointer (some ⟨w.heap.size, 0, none⟩) := by rw [← Array.getD_eq_getD_getElem?]; exact e6
        refine op_val (.pointer (some ⟨w.heap.size, 8, none⟩)) ?_ hC (Below.refl _ _) (by intro d hd; cases hd; rfl)
        (clear hV hI hC; go_simp <;> (first | rfl | simp))
      case o50 =>
        intro Q a w2 hC hV hI
        have e49 : a.eval (.tmp 49) = .pointer (some ⟨w.heap.size, 8, none⟩) := hV 49 (by simp [Op.operands]) (by kernel_rfl)
        have f49 : a.tmps.getD 49 undef = .pointer (some ⟨w.heap.size, 8, none⟩) := e49
        have g49 : a.tmps[49]?.getD undef = .pointer (some ⟨w.heap.size, 8, none⟩) := by rw [← Array.getD_eq_getD_getElem?]; exact e49
        have hK := KC.out w2 hC
        refine op_val (.string gr) ?_ hC (Below.refl _ _) (by intro d hd; cases hd; rfl)
        (clear hV hI hC; go_simp <;> (first | rfl | simp))
      case o51 =>
        intro Q a w2 hC hV hI
        have e50 : a.eval (.tmp 50) = .string gr := hV 50 (by simp [Op.operands, Call.operands]) (by kernel_rfl)
        have f50 : a.tmps.getD 50 undef = .string gr := e50
        have g50 : a.tmps[50]?.getD undef = .string gr := by rw [← Array.getD_eq_getD_getElem?]; exact e50
        refine op_call (f := 62) (args := #[.string gr, .int .i64 32]) (R := fun v y => v = .string fg ∧ Below w2.heap.size w2 y) ?_ ((HG.out w2).mono ?_) ?_
        · (clear hV hI hC; go_simp <;> (first | rfl | simp))
        · rintro e y ⟨rfl, hb⟩; exact ⟨_, rfl, rfl, hb⟩
        · rintro v y ⟨rfl, hb⟩; exact ⟨hC.trans (hb.mono hC.size), hb, by intro d hd; cases hd; rfl⟩
      case o52 =>
        intro Q a w2 hC hV hI
        have e48 : a.eval (.tmp 48) = .string x48 := hV 48 (by simp [Op.operands]) (by kernel_rfl)
        have f48 : a.tmps.getD 48 undef = .string x48 := e48
        have g48 : a.tmps[48]?.getD undef = .string x48 := by rw [← Array.getD_eq_getD_getElem?]; exact e48
        have e51 : a.eval (.tmp 51) = .string fg := hV 51 (by simp [Op.operands]) (by kernel_rfl)
        have f51 : a.tmps.getD 51 undef = .string fg := e51
        have g51 : a.tmps[51]?.getD undef = .string fg := by rw [← Array.getD_eq_getD_getElem?]; exact e51
        refine op_val (.string x52) ?_ hC (Below.refl _ _) (by intro d hd; cases hd; rfl)
        have q := HA52.out w2
        (clear hV hI hC; go_simp <;> (first | rfl | simp))
      case o53 =>
        intro Q a w2 hC hV hI
        refine op_call (f := 64) (args := #[.int .i64 0, .int .i64 8]) (R := fun v y => v = .string o0 ∧ w2 = y) ?_ ((HO0.out w2).mono ?_) ?_
        · (clear hV hI hC; go_simp <;> (first | rfl | simp))
        · rintro e y ⟨rfl, rfl⟩; exact ⟨_, rfl, rfl, rfl⟩
        · rintro v y ⟨rfl, rfl⟩; exact ⟨hC, Below.refl _ _, by intro d hd; cases hd; rfl⟩
      case o54 =>
        intro Q a w2 hC hV hI
        have e52 : a.eval (.tmp 52) = .string x52 := hV 52 (by simp [Op.operands]) (by kernel_rfl)
        have f52 : a.tmps.getD 52 undef = .string x52 := e52
        have g52 : a.tmps[52]?.getD undef = .string x52 := by rw [← Array.getD_eq_getD_getElem?]; exact e52
        have e53 : a.eval (.tmp 53) = .string o0 := hV 53 (by simp [Op.operands]) (by kernel_rfl)
        have f53 : a.tmps.getD 53 undef = .string o0 := e53
        have g53 : a.tmps[53]?.getD undef = .string o0 := by rw [← Array.getD_eq_getD_getElem?]; exact e53
        refine op_val (.string x54) ?_ hC (Below.refl _ _) (by intro d hd; cases hd; rfl)
        have q := HA54.out w2
        (clear hV hI hC; go_simp <;> (first | rfl | simp))
      case o55 =>
        intro Q a w2 hC hV hI
        refine op_call (f := 64) (args := #[.int .i64 0, .int .i64 8]) (R := fun v y => v = .string o0 ∧ w2 = y) ?_ ((HO0.out w2).mono ?_) ?_
        · (clear hV hI hC; go_simp <;> (first | rfl | simp))
        · rintro e y ⟨rfl, rfl⟩; exact ⟨_, rfl, rfl, rfl⟩
        · rintro v y ⟨rfl, rfl⟩; exact ⟨hC, Below.refl _ _, by intro d hd; cases hd; rfl⟩
      case o56 =>
        intro Q a w2 hC hV hI
        have e54 : a.eval (.tmp 54) = .string x54 := hV 54 (by simp [Op.operands]) (by kernel_rfl)
        have f54 : a.tmps.getD 54 undef = .string x54 := e54
        have g54 : a.tmps[54]?.getD undef = .string x54 := by rw [← Array.getD_eq_getD_getElem?]; exact e54
        have e55 : a.eval (.tmp 55) = .string o0 := hV 55 (by simp [Op.operands]) (by kernel_rfl)
        have f55 : a.tmps.getD 55 undef = .string o0 := e55
        have g55 : a.tmps[55]?.getD undef = .string o0 := by rw [← Array.getD_eq_getD_getElem?]; exact e55
        refine op_val (.string x56) ?_ hC (Below.refl _ _) (by intro d hd; cases hd; rfl)
        have q := HA56.out w2
        (clear hV hI hC; go_simp <;> (first | rfl | simp))
      case o57 =>
        intro Q a w2 hC hV hI
        have e2 : a.eval (.tmp 2) = .string pf := (hI 2 (by simp [Op.operands]) (by kernel_rfl)).trans rfl
        have f2 : a.tmps.getD 2 undef = .string pf := e2
        have g2 : a.tmps[2]?.getD undef = .string pf := by rw [← Array.getD_eq_getD_getElem?]; exact e2
        refine op_val (.string pf) ?_ hC (Below.refl _ _) (by intro d hd; cases hd; rfl)
        (clear hV hI hC; go_simp <;> (first | rfl | simp))
      case o58 =>
        intro Q a w2 hC hV hI
        have e57 : a.eval (.tmp 57) = .string pf := hV 57 (by simp [Op.operands, Call.operands]) (by kernel_rfl)
        have f57 : a.tmps.getD 57 undef = .string pf := e57
        have g57 : a.tmps[57]?.getD undef = .string pf := by rw [← Array.getD_eq_getD_getElem?]; exact e57
        refine op_call (f := 62) (args := #[.string pf, .int .i64 155]) (R := fun v y => v = .string fp ∧ Below w2.heap.size w2 y) ?_ ((HP.out w2).mono ?_) ?_
        · (clear hV hI hC; go_simp <;> (first | rfl | simp))
        · rintro e y ⟨rfl, hb⟩; exact ⟨_, rfl, rfl, hb⟩
        · rintro v y ⟨rfl, hb⟩; exact ⟨hC.trans (hb.mono hC.size), hb, by intro d hd; cases hd; rfl⟩
      case o59 =>
        intro Q a w2 hC hV hI
        have e56 : a.eval (.tmp 56) = .string x56 := hV 56 (by simp [Op.operands]) (by kernel_rfl)
        have f56 : a.tmps.getD 56 undef = .string x56 := e56
        have g56 : a.tmps[56]?.getD undef = .string x56 := by rw [← Array.getD_eq_getD_getElem?]; exact e56
        have e58 : a.eval (.tmp 58) = .string fp := hV 58 (by simp [Op.operands]) (by kernel_rfl)
        have f58 : a.tmps.getD 58 undef = .string fp := e58
        have g58 : a.tmps[58]?.getD undef = .string fp := by rw [← Array.getD_eq_getD_getElem?]; exact e58
        refine op_val (.string x59) ?_ hC (Below.refl _ _) (by intro d hd; cases hd; rfl)
        have q := HA59.out w2
        (clear hV hI hC; go_simp <;> (first | rfl | simp))
      case o60 =>
        intro Q a w2 hC hV hI
        refine op_call (f := 66) (args := #[.int .i64 12]) (R := fun v y => v = .string z12 ∧ Below w2.heap.size w2 y) ?_ ((HZ.out w2).mono ?_) ?_
        · (clear hV hI hC; go_simp <;> (first | rfl | simp))
        · rintro e y ⟨rfl, hb⟩; exact ⟨_, rfl, rfl, hb⟩
        · rintro v y ⟨rfl, hb⟩; exact ⟨hC.trans (hb.mono hC.size), hb, by intro d hd; cases hd; rfl⟩
      case o61 =>
        intro Q a w2 hC hV hI
        have e59 : a.eval (.tmp 59) = .string x59 := hV 59 (by simp [Op.operands]) (by kernel_rfl)
        have f59 : a.tmps.getD 59 undef = .string x59 := e59
        have g59 : a.tmps[59]?.getD undef = .string x59 := by rw [← Array.getD_eq_getD_getElem?]; exact e59
        have e60 : a.eval (.tmp 60) = .string z12 := hV 60 (by simp [Op.operands]) (by kernel_rfl)
        have f60 : a.tmps.getD 60 undef = .string z12 := e60
        have g60 : a.tmps[60]?.getD undef = .string z12 := by rw [← Array.getD_eq_getD_getElem?]; exact e60
        refine op_val (.string x61) ?_ hC (Below.refl _ _) (by intro d hd; cases hd; rfl)
        have q := HA61.out w2
        (clear hV hI hC; go_simp <;> (first | rfl | simp))
      case o14 =>
        intro Q a w2 hC hV hI
        have e61 : a.eval (.tmp 61) = .string x61 := hV 61 (by simp [Op.operands]) (by kernel_rfl)
        have f61 : a.tmps.getD 61 undef = .string x61 := e61
        have g61 : a.tmps[61]?.getD undef = .string x61 := by rw [← Array.getD_eq_getD_getElem?]; exact e61
        refine op_val (.string x61) ?_ hC (Below.refl _ _) (by intro d hd; cases hd; rfl)
        (clear hV hI hC; go_simp <;> (first | rfl | simp))
    case hend =>
      intro f w4 hC hall
      clear HA42 HA44 HA48 HA52 HA54 HA56 HA59 HA61
      simp only [List.forall_mem_cons] at hall
      obtain ⟨h38, h39, h40, h41, h42, h43, h44, h45, h46, h47, h48, h49, h50, h51, h52, h53, h54, h55, h56, h57, h58, h59, h60, h61, h14, _⟩ := hall
      replace h38 : f 38 = .string fl := h38 38 rfl
      replace h39 : f 39 = .pointer (some ⟨w.heap.size, 2, none⟩) := h39 39 rfl
      replace h40 : f 40 = .string l := h40 40 rfl
      replace h41 : f 41 = .string fll := h41 41 rfl
      replace h42 : f 42 = .string x42 := h42 42 rfl
      replace h43 : f 43 = .string mg := h43 43 rfl
      replace h44 : f 44 = .string x44 := h44 44 rfl
      replace h45 : f 45 = .pointer (some ⟨w.heap.size, 7, none⟩) := h45 45 rfl
      replace h46 : f 46 = .string us := h46 46 rfl
      replace h47 : f 47 = .string fu := h47 47 rfl
      replace h48 : f 48 = .string x48 := h48 48 rfl
      replace h49 : f 49 = .pointer (some ⟨w.heap.size, 8, none⟩) := h49 49 rfl
      replace h50 : f 50 = .string gr := h50 50 rfl
      replace h51 : f 51 = .string fg := h51 51 rfl
      replace h52 : f 52 = .string x52 := h52 52 rfl
      replace h53 : f 53 = .string o0 := h53 53 rfl
      replace h54 : f 54 = .string x54 := h54 54 rfl
      replace h55 : f 55 = .string o0 := h55 55 rfl
      replace h56 : f 56 = .string x56 := h56 56 rfl
      replace h57 : f 57 = .string pf := h57 57 rfl
      replace h58 : f 58 = .string fp := h58 58 rfl
      replace h59 : f 59 = .string x59 := h59 59 rfl
      replace h60 : f 60 = .string z12 := h60 60 rfl
      replace h61 : f 61 = .string x61 := h61 61 rfl
      replace h14 : f 14 = .string x61 := h14 14 rfl
      simp only [putAll, Act.put, List.setIfInBounds_toArray, List.set_cons_succ, List.set_cons_zero, h38, h39, h40, h41, h42, h43, h44, h45, h46, h47, h48, h49, h50, h51, h52, h53, h54, h55, h56, h57, h58, h59, h60, h61, h14]
      clear h38 h39 h40 h41 h42 h43 h44 h45 h46 h47 h48 h49 h50 h51 h52 h53 h54 h55 h56 h57 h58 h59 h60 h61 h14
      have HXB : Hid (hB = x61) := Lib.hid (by rw [HEB.out, HX61.out, HX59.out, HX56.out, HX54.out, HX52.out, HX48.out, HX44.out, HX42.out])
      have B4 := Lib.hid (btE B3.out hC)
      clear hC KC E3 B3 HX42 HX44 HX48 HX52 HX54 HX56 HX59 HX61
      rw [HXA.out, HXB.out] at HE
      clear HXA HXB HEA HEB HN HLk HU HG HP HZ HOm HOu HOg HOs HOt HO0
      have S1 := Lib.hid (fun w => sum_spec x37 w (by omega))
      have S2 := Lib.hid (fun w => sum_spec x61 w (by omega))
      have b1 := sumv_bd x37.data.toList
      have b2 := sumv_bd x61.data.toList
      have l1 : x37.data.toList.length ≤ 100205 := by simp; omega
      have l2 : x61.data.toList.length ≤ 600373 := by simp; omega
      have S3 := Lib.hid (fun w => putOct_spec (sumv x37.data.toList + 256 + sumv x61.data.toList) 6 w)
      have zo := putOct_size (sumv x37.data.toList + 256 + sumv x61.data.toList) 6
      generalize putOctv (sumv x37.data.toList + 256 + sumv x61.data.toList) 6 = pr at HE S3 zo
      obtain ⟨od, ob⟩ := pr
      simp only at HE S3 zo
      generalize sumv x37.data.toList = s1 at *
      generalize sumv x61.data.toList = s2 at *
      go_wp2_with fail
      refine (S1.out _).mono ?_
      rintro e w5 ⟨rfl, rfl⟩
      go_wp2_with fail
      refine (S2.out _).mono ?_
      rintro e w5 ⟨rfl, rfl⟩
      go_wp2_with fail
      refine (S3.out _).mono ?_
      rintro e w5 ⟨rfl, rfl⟩
      have zc : (x37 ++ od).size ≤ 100225 := by rw [ByteArray.size_append]; omega
      have zc2 : (x37 ++ od ++ (⟨#[0, 32]⟩ : ByteArray)).size ≤ 100227 := by rw [ByteArray.size_append]; have : (⟨#[0, 32]⟩ : ByteArray).size = 2 := rfl; omega
      go_wp2
      go_ret
      exact ⟨ret_str HE.out.symm, B4.out⟩
end Go.Proofs.YtgpgkgahbkmdiabGreatDoor

/- Contract of spec.PutHead. -/
namespace Go.Proofs.YtgpgkgahbkmdiabGreatDoor
open Go.ChangeShapes Go.WideShapes Go.ChangeAt Go.RowKit Go.Deep

set_option maxHeartbeats 1600000 in
set_option maxRecDepth 8000 in
theorem putHead_spec (k : Int) (p l : ByteArray) (m u g t : Int) (us gr b fl : ByteArray) (sz : Int) (w : World) (hp : p.size ≤ 4194304) (hl : l.size ≤ 4194304) (hus : us.size ≤ 4194304) (hgr : gr.size ≤ 4194304) (hbz : b.size ≤ 4194304) :
    Calls Tryz.prog 23 #[.agg #[.int .i64 k, .string p, .string l, .int .i64 m, .int .i64 u, .int .i64 g, .int .i64 t, .string us, .string gr, .string b], .string fl, .int .i64 sz] w fun e w' => e = .returned (.string (putHeadv ⟨k, p, l, m, u, g, t, us, gr, b⟩ fl sz)) ∧ Below w.heap.size w w' := by
  have H1 := Lib.hid (fun w => fits_spec k p l m u g t us gr b w hp hl hus hgr hbz)
  have H2 := Lib.hid (fun w => in_any sz 0 3000 w)
  have H3 := Lib.hid (fun w => split_spec p w hp)
  by_cases hy : fitsv ⟨k, p, l, m, u, g, t, us, gr, b⟩ = true ∧ fl.size = 1 ∧ (0 ≤ sz ∧ sz ≤ 3000)
  · have HE : Hid (putHeadv ⟨k, p, l, m, u, g, t, us, gr, b⟩ fl sz = headv ⟨k, p, l, m, u, g, t, us, gr, b⟩ (splitN p) (splitP p) fl sz magicU) := Lib.hid (by rw [putHeadv, if_pos hy])
    obtain ⟨hf, hfl, hs⟩ := hy
    obtain ⟨-, -, -, -, zl, zus, zgr, hso⟩ := fits_nums hf
    simp only at zl zus zgr hso
    obtain ⟨zn, zp⟩ := split_sizes hso
    have H4 := Lib.hid (fun w => l04Head_spec k p l m u g t us gr b (splitN p) (splitP p) fl sz magicU w (by omega) (by omega) (by omega) (by omega) (by omega) (by omega) (by decide))
    rw [hf] at H1
    rw [inB_t hs] at H2
    rw [← HE.out, show magicU = ⟨#[117, 115, 116, 97, 114, 0, 48, 48]⟩ from rfl] at H4
    generalize putHeadv ⟨k, p, l, m, u, g, t, us, gr, b⟩ fl sz = r at *
    generalize splitN p = sn at *
    generalize splitP p = sp at *
    generalize splitOk p = so at *
    have hfl' : (fl.size : Int) = 1 := by omega
    clear HE hf hfl zl zus zgr zn zp hs hso hp hl hus hgr hbz
    go_enter Tryz.func23, Tryz.ntmps23
    go_wp2_with fail
    refine (H1.out _).mono ?_
    rintro e w1 ⟨rfl, hb⟩
    obtain ⟨k1, bb1, z1⟩ := one_new (e1 := ⟨k, p, l, m, u, g, t, us, gr, b⟩) hb
    have E1 := Lib.hid k1
    have B1 := Lib.hid bb1
    clear hb k1 bb1 H1
    go_wp2_with fail
    refine (H2.out _).mono ?_
    rintro e w2 ⟨rfl, rfl⟩
    obtain ⟨_, c1, _⟩ := E1.out.zero
    go_wp2_with fail
    refine (H3.out _).mono ?_
    rintro e w2 ⟨rfl, hb⟩
    have E2 := Lib.hid (E1.out.below hb (by omega))
    have B2 := Lib.hid (btE B1.out hb)
    clear hb c1 E1 B1
    obtain ⟨c0, c1, c2, c3, c4, c5, c6, c7, c8, c9⟩ := E2.out.zero
    go_wp2_with fail
    refine (H4.out _).mono ?_
    rintro e w3 ⟨rfl, hb⟩
    go_wp2
    go_ret
    exact ⟨rfl, btE B2.out hb⟩
  · have HE := Lib.hid (putHead_no hy)
    generalize putHeadv ⟨k, p, l, m, u, g, t, us, gr, b⟩ fl sz = r at HE
    generalize fitsv ⟨k, p, l, m, u, g, t, us, gr, b⟩ = bf at H1 hy
    clear hp hl hus hgr hbz H3
    cases bf with
    | false =>
      clear hy
      go_enter Tryz.func23, Tryz.ntmps23
      go_wp2_with fail
      refine (H1.out _).mono ?_
      rintro e w1 ⟨rfl, hb⟩
      obtain ⟨-, bb1, -⟩ := one_new (e1 := ⟨k, p, l, m, u, g, t, us, gr, b⟩) hb
      have B1 := Lib.hid bb1
      clear hb bb1
      go_wp2
      go_ret
      exact ⟨ret_str HE.out.symm, B1.out⟩
    | true =>
      by_cases h1 : (fl.size : Int) = 1
      · have h2 : inB sz 0 3000 = false := inB_f (fun h => hy ⟨rfl, by omega, h⟩)
        rw [h2] at H2
        clear hy h2
        go_enter Tryz.func23, Tryz.ntmps23
        go_wp2_with fail
        refine (H1.out _).mono ?_
        rintro e w1 ⟨rfl, hb⟩
        obtain ⟨-, bb1, -⟩ := one_new (e1 := ⟨k, p, l, m, u, g, t, us, gr, b⟩) hb
        have B1 := Lib.hid bb1
        clear hb bb1
        go_wp2_with fail
        refine (H2.out _).mono ?_
        rintro e w2 ⟨rfl, rfl⟩
        go_wp2
        go_ret
        exact ⟨ret_str HE.out.symm, B1.out⟩
      · clear hy
        go_enter Tryz.func23, Tryz.ntmps23
        go_wp2_with fail
        refine (H1.out _).mono ?_
        rintro e w1 ⟨rfl, hb⟩
        obtain ⟨-, bb1, -⟩ := one_new (e1 := ⟨k, p, l, m, u, g, t, us, gr, b⟩) hb
        have B1 := Lib.hid bb1
        clear hb bb1
        go_wp2
        go_ret
        exact ⟨ret_str HE.out.symm, B1.out⟩
end Go.Proofs.YtgpgkgahbkmdiabGreatDoor

/- Contract of spec.GetHead. -/
namespace Go.Proofs.YtgpgkgahbkmdiabGreatDoor
open Go.ChangeShapes Go.WideShapes Go.ChangeAt Go.RowKit

theorem hdc_bad {s : ByteArray} (h : ¬ rdc s = 0) : hdc s = rdc s := by
  unfold rdc at h ⊢
  unfold hdc
  split
  · rfl
  · rename_i h1
    rw [if_neg h1] at h
    split
    · rfl
    · rename_i h2
      rw [if_neg h2] at h
      split
      · rfl
      · rename_i h3
        rw [if_neg h3] at h
        exact absurd rfl h
theorem hdc_good {s : ByteArray} (h : rdc s = 0) : 512 ≤ s.size ∧ hdc s = if againOk (lOf s) = true then 0 else 4 := by
  unfold rdc at h
  split at h
  · omega
  · rename_i h1
    split at h
    · omega
    · rename_i h2
      split at h
      · omega
      · rename_i h3
        exact ⟨by omega, by rw [hdc, if_neg h1, if_neg h2, if_neg h3]⟩
theorem lOf_whole (s : ByteArray) : (⟨(lOf s).toArray⟩ : ByteArray) = s.extract 0 512 := by
  apply ba_ext
  simp [lOf, ByteArray.data_extract]
set_option maxHeartbeats 6400000 in
set_option maxRecDepth 8000 in
theorem getHead_spec (s : ByteArray) (w : World) (hs : s.size ≤ 1048576) :
    Calls Tryz.prog 8 #[.string s] w fun e w' => e = .returned (getV s) ∧ Below w.heap.size w w' := by
  have B0 := Lib.hid ((Below.refl w.heap.size w).alloc (Nat.le_refl _) (.cells zEnt 23))
  have R0 : Hid ((w.alloc (.cells zEnt 23)).heap[w.heap.size]? = some (.cells zEnt 23 (0, 0))) := Lib.hid (heap_alloc_last _ _)
  have H1 := Lib.hid (fun w => read_spec s w hs)
  by_cases h0 : rdc s = 0
  · rw [readS, if_pos h0] at H1
    obtain ⟨h512, hh⟩ := hdc_good h0
    have HA : Hid (againOk (lOf s) = decide (putHeadv (withKind (entL (lOf s)) (fW (lOf s) 7)) (fW (lOf s) 7) (fnumv (fW (lOf s) 4)) = s.extract 0 512)) := Lib.hid (by rw [← lOf_whole s]; rfl)
    have HH := Lib.hid hh
    have HG : Hid (getV s = if hdc s = 0 then .tuple #[.agg (entL (lOf s)).cells.toArray, .string (fW (lOf s) 7), .int .i64 (fnumv (fW (lOf s) 4)), .int .i64 0] else .tuple #[.agg zEnt, .string ⟨#[]⟩, .int .i64 0, .int .i64 (hdc s)]) := Lib.hid rfl
    have HEN : Hid (entL (lOf s) = ⟨0, pathL (lOf s), cutv (fW (lOf s) 8), fnumv (fW (lOf s) 1), fnumv (fW (lOf s) 2), fnumv (fW (lOf s) 3), fnumv (fW (lOf s) 5), cutv (fW (lOf s) 10), cutv (fW (lOf s) 11), ⟨#[]⟩⟩) := Lib.hid rfl
    have zp : (pathL (lOf s)).size ≤ 311 := by
      have a := fW_small (lOf s) 0
      have b := fW_small (lOf s) 14
      unfold pathL
      split
      · omega
      · rw [ByteArray.size_append, ByteArray.size_append]; have : (⟨#[47]⟩ : ByteArray).size = 1 := rfl; omega
    have zl := fW_small (lOf s) 8
    have zu := fW_small (lOf s) 10
    have zgr := fW_small (lOf s) 11
    rw [HEN.out] at HA HG H1
    generalize againOk (lOf s) = ag at *
    generalize pathL (lOf s) = pth at *
    generalize cutv (fW (lOf s) 8) = lk at *
    generalize cutv (fW (lOf s) 10) = us at *
    generalize cutv (fW (lOf s) 11) = gr at *
    generalize fnumv (fW (lOf s) 1) = nm at *
    generalize fnumv (fW (lOf s) 2) = nu at *
    generalize fnumv (fW (lOf s) 3) = ng at *
    generalize fnumv (fW (lOf s) 5) = nt at *
    generalize fnumv (fW (lOf s) 4) = nz at *
    generalize fW (lOf s) 7 = fl at *
    have HK := Lib.hid (fun w => kindS_any pth lk nm nu ng nt us gr ⟨#[]⟩ fl w)
    obtain ⟨kk, hkk⟩ : ∃ kk, (if 0 ≤ kindv fl then kindv fl else 0) = kk := ⟨_, rfl⟩
    have HWK : Hid (withKind ⟨0, pth, lk, nm, nu, ng, nt, us, gr, ⟨#[]⟩⟩ fl = ⟨kk, pth, lk, nm, nu, ng, nt, us, gr, ⟨#[]⟩⟩) := Lib.hid (by rw [← hkk, withKind])
    rw [hkk] at HK
    rw [HWK.out] at HA
    have HPH := Lib.hid (fun w => putHead_spec kk pth lk nm nu ng nt us gr ⟨#[]⟩ fl nz w (by omega) (by omega) (by omega) (by omega) (by decide))
    generalize putHeadv ⟨kk, pth, lk, nm, nu, ng, nt, us, gr, ⟨#[]⟩⟩ fl nz = hd at HA HPH
    have HE : Hid (getV s = if hd = s.extract 0 512 then .tuple #[.agg #[.int .i64 0, .string pth, .string lk, .int .i64 nm, .int .i64 nu, .int .i64 ng, .int .i64 nt, .string us, .string gr, .string ⟨#[]⟩], .string fl, .int .i64 nz, .int .i64 0] else .tuple #[.agg zEnt, .string ⟨#[]⟩, .int .i64 0, .int .i64 4]) := Lib.hid (by
      rw [HG.out, HH.out, HA.out]
      by_cases q : hd = s.extract 0 512
      · rw [if_pos q, if_pos (decide_eq_true q), if_pos rfl]; rfl
      · rw [if_neg q, if_neg (fun h => q (of_decide_eq_true h)), if_neg (by decide)])
    have d1 : (512 : Int) ≤ (s.size : Int) := by omega
    clear hh HH HG HEN HA HWK hkk h0
    go_enter Tryz.func8, Tryz.ntmps8
    go_wp2_with fail
    refine (H1.out _).mono ?_
    rintro e w1 ⟨rfl, hb⟩
    have R1 := (hb.block _ (obj_lt R0.out)).trans R0.out
    have B1 := B0.out.trans (hb.mono B0.out.size)
    have HSn := Lib.hid (run_storeVar_new (P := Tryz.prog) w1 23 zEnt #[.int .i64 0, .string pth, .string lk, .int .i64 nm, .int .i64 nu, .int .i64 ng, .int .i64 nt, .string us, .string gr, .string ⟨#[]⟩] (by rw [Tryz.sizeEnt]; rfl) rfl (by simp [Value.oneCell']))
    have OB := heap_alloc_last w1 (.cells #[.int .i64 0, .string pth, .string lk, .int .i64 nm, .int .i64 nu, .int .i64 ng, .int .i64 nt, .string us, .string gr, .string ⟨#[]⟩] 23)
    have BX := (Below.refl w1.heap.size w1).alloc (Nat.le_refl _) (.cells #[.int .i64 0, .string pth, .string lk, .int .i64 nm, .int .i64 nu, .int .i64 ng, .int .i64 nt, .string us, .string gr, .string ⟨#[]⟩] 23)
    clear hb R0 B0 H1
    go_wp2_with ((with_reducible refine wpList_store_eq rfl 23 _ _ rfl ⟨w1.heap.size, 0, none⟩ ?_ ?_ HSn.out ?_); rfl; rfl)
    clear HSn
    generalize w1.alloc (.cells #[.int .i64 0, .string pth, .string lk, .int .i64 nm, .int .i64 nu, .int .i64 ng, .int .i64 nt, .string us, .string gr, .string ⟨#[]⟩] 23) = w4 at *
    have RO4 := Lib.hid ((BX.block _ (obj_lt R1)).trans R1)
    have B4 := Lib.hid (B1.trans (BX.mono B1.size))
    have zR4 := obj_lt RO4.out
    have OB' := Lib.hid OB
    have KC : Hid (∀ w' : World, Below w4.heap.size w4 w' → w'.cell? ⟨w1.heap.size, 0, none⟩ = some (.int .i64 0) ∧ w'.cell? ⟨w1.heap.size, 1, none⟩ = some (.string pth) ∧ w'.cell? ⟨w1.heap.size, 2, none⟩ = some (.string lk) ∧ w'.cell? ⟨w1.heap.size, 3, none⟩ = some (.int .i64 nm) ∧ w'.cell? ⟨w1.heap.size, 4, none⟩ = some (.int .i64 nu) ∧ w'.cell? ⟨w1.heap.size, 5, none⟩ = some (.int .i64 ng) ∧ w'.cell? ⟨w1.heap.size, 6, none⟩ = some (.int .i64 nt) ∧ w'.cell? ⟨w1.heap.size, 7, none⟩ = some (.string us) ∧ w'.cell? ⟨w1.heap.size, 8, none⟩ = some (.string gr) ∧ w'.cell? ⟨w1.heap.size, 9, none⟩ = some (.string ⟨#[]⟩)) := Lib.hid (fun w' hb => by
      have h1 := (hb.block _ (obj_lt OB'.out)).trans OB'.out
      refine ⟨?_, ?_, ?_, ?_, ?_, ?_, ?_, ?_, ?_, ?_⟩ <;> (rw [cell_of_row _ _ _ _ _ _ h1]; rfl))
    clear OB BX R1 B1
    by_cases hq : hd = s.extract 0 512
    · have q := ba_eq hq
      have HE2 := Lib.hid (HE.out.trans (if_pos hq))
      clear HE hq
      refine wp_region_inv (by kernel_rfl) (fun w' => Below w4.heap.size w4 w') (fun x y => Below x.heap.size x y) (fun d v _ => match d with | 21 => v = .agg #[.int .i64 0, .string pth, .string lk, .int .i64 nm, .int .i64 nu, .int .i64 ng, .int .i64 nt, .string us, .string gr, .string ⟨#[]⟩] | 22 => v = .string fl | 23 => v = .agg #[.int .i64 kk, .string pth, .string lk, .int .i64 nm, .int .i64 nu, .int .i64 ng, .int .i64 nt, .string us, .string gr, .string ⟨#[]⟩] | 24 => v = .string fl | 25 => v = .int .i64 nz | 26 => v = .string hd | 27 => v = .string s | 28 => v = .string (s.extract 0 512) | 29 => v = .bool false | _ => True) (by kernel_rfl) ((Below.refl _ _).drew) (fun _ _ _ _ _ _ h => h) ?hops ?hend
      case hops =>
        simp only [List.forall_mem_cons]
        refine ⟨?o21, ?o22, ?o23, ?o24, ?o25, ?o26, ?o27, ?o28, ?o29, fun _ h => by cases h⟩
        case o21 =>
          intro Q a w2 hC hV hI
          have e6 : a.eval (.tmp 6) = .pointer (some ⟨w1.heap.size, 0, none⟩) := (hI 6 (by simp [Op.operands]) (by kernel_rfl)).trans rfl
          have f6 : a.tmps.getD 6 undef = .pointer (some ⟨w1.heap.size, 0, none⟩) := e6
          have g6 : a.tmps[6]?.getD undef = .pointer (some ⟨w1.heap.size, 0, none⟩) := by rw [← Array.getD_eq_getD_getElem?]; exact e6
          have hK := KC.out w2 hC
          refine op_val (.agg #[.int .i64 0, .string pth, .string lk, .int .i64 nm, .int .i64 nu, .int .i64 ng, .int .i64 nt, .string us, .string gr, .string ⟨#[]⟩]) ?_ hC (Below.refl _ _) (by intro d hd; cases hd; rfl)
          (clear hV hI hC; go_simp <;> (first | rfl | simp))
        case o22 =>
          intro Q a w2 hC hV hI
          have e7 : a.eval (.tmp 7) = .string fl := (hI 7 (by simp [Op.operands]) (by kernel_rfl)).trans rfl
          have f7 : a.tmps.getD 7 undef = .string fl := e7
          have g7 : a.tmps[7]?.getD undef = .string fl := by rw [← Array.getD_eq_getD_getElem?]; exact e7
          refine op_val (.string fl) ?_ hC (Below.refl _ _) (by intro d hd; cases hd; rfl)
          (clear hV hI hC; go_simp <;> (first | rfl | simp))
        case o23 =>
          intro Q a w2 hC hV hI
          have e21 : a.eval (.tmp 21) = .agg #[.int .i64 0, .string pth, .string lk, .int .i64 nm, .int .i64 nu, .int .i64 ng, .int .i64 nt, .string us, .string gr, .string ⟨#[]⟩] := hV 21 (by simp [Op.operands, Call.operands]) (by kernel_rfl)
          have f21 : a.tmps.getD 21 undef = .agg #[.int .i64 0, .string pth, .string lk, .int .i64 nm, .int .i64 nu, .int .i64 ng, .int .i64 nt, .string us, .string gr, .string ⟨#[]⟩] := e21
          have g21 : a.tmps[21]?.getD undef = .agg #[.int .i64 0, .string pth, .string lk, .int .i64 nm, .int .i64 nu, .int .i64 ng, .int .i64 nt, .string us, .string gr, .string ⟨#[]⟩] := by rw [← Array.getD_eq_getD_getElem?]; exact e21
          have e22 : a.eval (.tmp 22) = .string fl := hV 22 (by simp [Op.operands, Call.operands]) (by kernel_rfl)
          have f22 : a.tmps.getD 22 undef = .string fl := e22
          have g22 : a.tmps[22]?.getD undef = .string fl := by rw [← Array.getD_eq_getD_getElem?]; exact e22
          refine op_call (f := 24) (args := #[.agg #[.int .i64 0, .string pth, .string lk, .int .i64 nm, .int .i64 nu, .int .i64 ng, .int .i64 nt, .string us, .string gr, .string ⟨#[]⟩], .string fl]) (R := fun v y => v = .agg #[.int .i64 kk, .string pth, .string lk, .int .i64 nm, .int .i64 nu, .int .i64 ng, .int .i64 nt, .string us, .string gr, .string ⟨#[]⟩] ∧ Below w2.heap.size w2 y) ?_ ((HK.out w2).mono ?_) ?_
          · (clear hV hI hC; go_simp <;> (first | rfl | simp))
          · rintro e y ⟨rfl, hb⟩; exact ⟨_, rfl, rfl, hb⟩
          · rintro v y ⟨rfl, hb⟩; exact ⟨hC.trans (hb.mono hC.size), hb, by intro d hd; cases hd; rfl⟩
        case o24 =>
          intro Q a w2 hC hV hI
          have e7 : a.eval (.tmp 7) = .string fl := (hI 7 (by simp [Op.operands]) (by kernel_rfl)).trans rfl
          have f7 : a.tmps.getD 7 undef = .string fl := e7
          have g7 : a.tmps[7]?.getD undef = .string fl := by rw [← Array.getD_eq_getD_getElem?]; exact e7
          refine op_val (.string fl) ?_ hC (Below.refl _ _) (by intro d hd; cases hd; rfl)
          (clear hV hI hC; go_simp <;> (first | rfl | simp))
        case o25 =>
          intro Q a w2 hC hV hI
          have e8 : a.eval (.tmp 8) = .int .i64 nz := (hI 8 (by simp [Op.operands]) (by kernel_rfl)).trans rfl
          have f8 : a.tmps.getD 8 undef = .int .i64 nz := e8
          have g8 : a.tmps[8]?.getD undef = .int .i64 nz := by rw [← Array.getD_eq_getD_getElem?]; exact e8
          refine op_val (.int .i64 nz) ?_ hC (Below.refl _ _) (by intro d hd; cases hd; rfl)
          (clear hV hI hC; go_simp <;> (first | rfl | simp))
        case o26 =>
          intro Q a w2 hC hV hI
          have e23 : a.eval (.tmp 23) = .agg #[.int .i64 kk, .string pth, .string lk, .int .i64 nm, .int .i64 nu, .int .i64 ng, .int .i64 nt, .string us, .string gr, .string ⟨#[]⟩] := hV 23 (by simp [Op.operands, Call.operands]) (by kernel_rfl)
          have f23 : a.tmps.getD 23 undef = .agg #[.int .i64 kk, .string pth, .string lk, .int .i64 nm, .int .i64 nu, .int .i64 ng, .int .i64 nt, .string us, .string gr, .string ⟨#[]⟩] := e23
          have g23 : a.tmps[23]?.getD undef = .agg #[.int .i64 kk, .string pth, .string lk, .int .i64 nm, .int .i64 nu, .int .i64 ng, .int .i64 nt, .string us, .string gr, .string ⟨#[]⟩] := by rw [← Array.getD_eq_getD_getElem?]; exact e23
          have e24 : a.eval (.tmp 24) = .string fl := hV 24 (by simp [Op.operands, Call.operands]) (by kernel_rfl)
          have f24 : a.tmps.getD 24 undef = .string fl := e24
          have g24 : a.tmps[24]?.getD undef = .string fl := by rw [← Array.getD_eq_getD_getElem?]; exact e24
          have e25 : a.eval (.tmp 25) = .int .i64 nz := hV 25 (by simp [Op.operands, Call.operands]) (by kernel_rfl)
          have f25 : a.tmps.getD 25 undef = .int .i64 nz := e25
          have g25 : a.tmps[25]?.getD undef = .int .i64 nz := by rw [← Array.getD_eq_getD_getElem?]; exact e25
          refine op_call (f := 23) (args := #[.agg #[.int .i64 kk, .string pth, .string lk, .int .i64 nm, .int .i64 nu, .int .i64 ng, .int .i64 nt, .string us, .string gr, .string ⟨#[]⟩], .string fl, .int .i64 nz]) (R := fun v y => v = .string hd ∧ Below w2.heap.size w2 y) ?_ ((HPH.out w2).mono ?_) ?_
          · (clear hV hI hC; go_simp <;> (first | rfl | simp))
          · rintro e y ⟨rfl, hb⟩; exact ⟨_, rfl, rfl, hb⟩
          · rintro v y ⟨rfl, hb⟩; exact ⟨hC.trans (hb.mono hC.size), hb, by intro d hd; cases hd; rfl⟩
        case o27 =>
          intro Q a w2 hC hV hI
          have e0 : a.eval (.tmp 0) = .string s := (hI 0 (by simp [Op.operands]) (by kernel_rfl)).trans rfl
          have f0 : a.tmps.getD 0 undef = .string s := e0
          have g0 : a.tmps[0]?.getD undef = .string s := by rw [← Array.getD_eq_getD_getElem?]; exact e0
          refine op_val (.string s) ?_ hC (Below.refl _ _) (by intro d hd; cases hd; rfl)
          (clear hV hI hC; go_simp <;> (first | rfl | simp))
        case o28 =>
          intro Q a w2 hC hV hI
          have e27 : a.eval (.tmp 27) = .string s := hV 27 (by simp [Op.operands]) (by kernel_rfl)
          have f27 : a.tmps.getD 27 undef = .string s := e27
          have g27 : a.tmps[27]?.getD undef = .string s := by rw [← Array.getD_eq_getD_getElem?]; exact e27
          refine op_val (.string (s.extract 0 512)) ?_ hC (Below.refl _ _) (by intro d hd; cases hd; rfl)
          (clear hV hI hC; go_simp <;> (first | rfl | simp))
        case o29 =>
          intro Q a w2 hC hV hI
          have e26 : a.eval (.tmp 26) = .string hd := hV 26 (by simp [Op.operands]) (by kernel_rfl)
          have f26 : a.tmps.getD 26 undef = .string hd := e26
          have g26 : a.tmps[26]?.getD undef = .string hd := by rw [← Array.getD_eq_getD_getElem?]; exact e26
          have e28 : a.eval (.tmp 28) = .string (s.extract 0 512) := hV 28 (by simp [Op.operands]) (by kernel_rfl)
          have f28 : a.tmps.getD 28 undef = .string (s.extract 0 512) := e28
          have g28 : a.tmps[28]?.getD undef = .string (s.extract 0 512) := by rw [← Array.getD_eq_getD_getElem?]; exact e28
          refine op_val (.bool false) ?_ hC (Below.refl _ _) (by intro d hd; cases hd; rfl)
          (clear hV hI hC; go_simp <;> (first | rfl | simp))
      case hend =>
        intro f w9 hC hall
        simp only [List.forall_mem_cons] at hall
        obtain ⟨h21, h22, h23, h24, h25, h26, h27, h28, h29, _⟩ := hall
        replace h21 : f 21 = .agg #[.int .i64 0, .string pth, .string lk, .int .i64 nm, .int .i64 nu, .int .i64 ng, .int .i64 nt, .string us, .string gr, .string ⟨#[]⟩] := h21 21 rfl
        replace h22 : f 22 = .string fl := h22 22 rfl
        replace h23 : f 23 = .agg #[.int .i64 kk, .string pth, .string lk, .int .i64 nm, .int .i64 nu, .int .i64 ng, .int .i64 nt, .string us, .string gr, .string ⟨#[]⟩] := h23 23 rfl
        replace h24 : f 24 = .string fl := h24 24 rfl
        replace h25 : f 25 = .int .i64 nz := h25 25 rfl
        replace h26 : f 26 = .string hd := h26 26 rfl
        replace h27 : f 27 = .string s := h27 27 rfl
        replace h28 : f 28 = .string (s.extract 0 512) := h28 28 rfl
        replace h29 : f 29 = .bool false := h29 29 rfl
        simp only [putAll, Act.put, List.setIfInBounds_toArray, List.set_cons_succ, List.set_cons_zero, h21, h22, h23, h24, h25, h26, h27, h28, h29]
        clear h21 h22 h23 h24 h25 h26 h27 h28 h29
        have h9 := (hC.block _ (obj_lt OB'.out)).trans OB'.out
        have RO9 := Lib.hid ((hC.block _ zR4).trans RO4.out)
        have B9 := Lib.hid (B4.out.trans (hC.mono B4.out.size))
        have HLd := Lib.hid (run_loadVar_row (P := Tryz.prog) _ _ 23 23 _ (0, 0) _ h9 Tryz.underlying23 rfl (by rw [Tryz.sizeEnt]; rfl))
        have HSt := Lib.hid (run_storeVar_row (P := Tryz.prog) _ w.heap.size 23 23 zEnt #[.int .i64 0, .string pth, .string lk, .int .i64 nm, .int .i64 nu, .int .i64 ng, .int .i64 nt, .string us, .string gr, .string ⟨#[]⟩] RO9.out (by rw [Tryz.sizeEnt]; rfl) rfl (by simp [Value.oneCell']))
        clear hC h9
        go_wp2_with (first | ((with_reducible refine wpList_load_eq rfl 23 _ rfl ⟨w1.heap.size, 0, none⟩ ?_ HLd.out ?_); rfl) | ((with_reducible refine wpList_store_eq rfl 23 _ _ rfl ⟨w.heap.size, 0, none⟩ ?_ ?_ HSt.out ?_); rfl; rfl))
        refine bodyPost_ret (results_cell4 rfl _ _ w.heap.size _ #[.int .i64 0, .string pth, .string lk, .int .i64 nm, .int .i64 nu, .int .i64 ng, .int .i64 nt, .string us, .string gr, .string ⟨#[]⟩] (0, 0) _ rfl (setRow_heap _ _ _ _ _ _ RO9.out) Tryz.underlying23 rfl (by rw [Tryz.sizeEnt]; rfl)) rfl ?_
        rw [HE2.out]
        exact ⟨rfl, B9.out.trans (below_set (Nat.le_refl _) _)⟩
    · have q := ba_ne hq
      have HE2 := Lib.hid (HE.out.trans (if_neg hq))
      clear HE hq
      refine wp_region_inv (by kernel_rfl) (fun w' => Below w4.heap.size w4 w') (fun x y => Below x.heap.size x y) (fun d v _ => match d with | 21 => v = .agg #[.int .i64 0, .string pth, .string lk, .int .i64 nm, .int .i64 nu, .int .i64 ng, .int .i64 nt, .string us, .string gr, .string ⟨#[]⟩] | 22 => v = .string fl | 23 => v = .agg #[.int .i64 kk, .string pth, .string lk, .int .i64 nm, .int .i64 nu, .int .i64 ng, .int .i64 nt, .string us, .string gr, .string ⟨#[]⟩] | 24 => v = .string fl | 25 => v = .int .i64 nz | 26 => v = .string hd | 27 => v = .string s | 28 => v = .string (s.extract 0 512) | 29 => v = .bool true | _ => True) (by kernel_rfl) ((Below.refl _ _).drew) (fun _ _ _ _ _ _ h => h) ?hops ?hend
      case hops =>
        simp only [List.forall_mem_cons]
        refine ⟨?o21, ?o22, ?o23, ?o24, ?o25, ?o26, ?o27, ?o28, ?o29, fun _ h => by cases h⟩
        case o21 =>
          intro Q a w2 hC hV hI
          have e6 : a.eval (.tmp 6) = .pointer (some ⟨w1.heap.size, 0, none⟩) := (hI 6 (by simp [Op.operands]) (by kernel_rfl)).trans rfl
          have f6 : a.tmps.getD 6 undef = .pointer (some ⟨w1.heap.size, 0, none⟩) := e6
          have g6 : a.tmps[6]?.getD undef = .pointer (some ⟨w1.heap.size, 0, none⟩) := by rw [← Array.getD_eq_getD_getElem?]; exact e6
          have hK := KC.out w2 hC
          refine op_val (.agg #[.int .i64 0, .string pth, .string lk, .int .i64 nm, .int .i64 nu, .int .i64 ng, .int .i64 nt, .string us, .string gr, .string ⟨#[]⟩]) ?_ hC (Below.refl _ _) (by intro d hd; cases hd; rfl)
          (clear hV hI hC; go_simp <;> (first | rfl | simp))
        case o22 =>
          intro Q a w2 hC hV hI
          have e7 : a.eval (.tmp 7) = .string fl := (hI 7 (by simp [Op.operands]) (by kernel_rfl)).trans rfl
          have f7 : a.tmps.getD 7 undef = .string fl := e7
          have g7 : a.tmps[7]?.getD undef = .string fl := by rw [← Array.getD_eq_getD_getElem?]; exact e7
          refine op_val (.string fl) ?_ hC (Below.refl _ _) (by intro d hd; cases hd; rfl)
          (clear hV hI hC; go_simp <;> (first | rfl | simp))
        case o23 =>
          intro Q a w2 hC hV hI
          have e21 : a.eval (.tmp 21) = .agg #[.int .i64 0, .string pth, .string lk, .int .i64 nm, .int .i64 nu, .int .i64 ng, .int .i64 nt, .string us, .string gr, .string ⟨#[]⟩] := hV 21 (by simp [Op.operands, Call.operands]) (by kernel_rfl)
          have f21 : a.tmps.getD 21 undef = .agg #[.int .i64 0, .string pth, .string lk, .int .i64 nm, .int .i64 nu, .int .i64 ng, .int .i64 nt, .string us, .string gr, .string ⟨#[]⟩] := e21
          have g21 : a.tmps[21]?.getD undef = .agg #[.int .i64 0, .string pth, .string lk, .int .i64 nm, .int .i64 nu, .int .i64 ng, .int .i64 nt, .string us, .string gr, .string ⟨#[]⟩] := by rw [← Array.getD_eq_getD_getElem?]; exact e21
          have e22 : a.eval (.tmp 22) = .string fl := hV 22 (by simp [Op.operands, Call.operands]) (by kernel_rfl)
          have f22 : a.tmps.getD 22 undef = .string fl := e22
          have g22 : a.tmps[22]?.getD undef = .string fl := by rw [← Array.getD_eq_getD_getElem?]; exact e22
          refine op_call (f := 24) (args := #[.agg #[.int .i64 0, .string pth, .string lk, .int .i64 nm, .int .i64 nu, .int .i64 ng, .int .i64 nt, .string us, .string gr, .string ⟨#[]⟩], .string fl]) (R := fun v y => v = .agg #[.int .i64 kk, .string pth, .string lk, .int .i64 nm, .int .i64 nu, .int .i64 ng, .int .i64 nt, .string us, .string gr, .string ⟨#[]⟩] ∧ Below w2.heap.size w2 y) ?_ ((HK.out w2).mono ?_) ?_
          · (clear hV hI hC; go_simp <;> (first | rfl | simp))
          · rintro e y ⟨rfl, hb⟩; exact ⟨_, rfl, rfl, hb⟩
          · rintro v y ⟨rfl, hb⟩; exact ⟨hC.trans (hb.mono hC.size), hb, by intro d hd; cases hd; rfl⟩
        case o24 =>
          intro Q a w2 hC hV hI
          have e7 : a.eval (.tmp 7) = .string fl := (hI 7 (by simp [Op.operands]) (by kernel_rfl)).trans rfl
          have f7 : a.tmps.getD 7 undef = .string fl := e7
          have g7 : a.tmps[7]?.getD undef = .string fl := by rw [← Array.getD_eq_getD_getElem?]; exact e7
          refine op_val (.string fl) ?_ hC (Below.refl _ _) (by intro d hd; cases hd; rfl)
          (clear hV hI hC; go_simp <;> (first | rfl | simp))
        case o25 =>
          intro Q a w2 hC hV hI
          have e8 : a.eval (.tmp 8) = .int .i64 nz := (hI 8 (by simp [Op.operands]) (by kernel_rfl)).trans rfl
          have f8 : a.tmps.getD 8 undef = .int .i64 nz := e8
          have g8 : a.tmps[8]?.getD undef = .int .i64 nz := by rw [← Array.getD_eq_getD_getElem?]; exact e8
          refine op_val (.int .i64 nz) ?_ hC (Below.refl _ _) (by intro d hd; cases hd; rfl)
          (clear hV hI hC; go_simp <;> (first | rfl | simp))
        case o26 =>
          intro Q a w2 hC hV hI
          have e23 : a.eval (.tmp 23) = .agg #[.int .i64 kk, .string pth, .string lk, .int .i64 nm, .int .i64 nu, .int .i64 ng, .int .i64 nt, .string us, .string gr, .string ⟨#[]⟩] := hV 23 (by simp [Op.operands, Call.operands]) (by kernel_rfl)
          have f23 : a.tmps.getD 23 undef = .agg #[.int .i64 kk, .string pth, .string lk, .int .i64 nm, .int .i64 nu, .int .i64 ng, .int .i64 nt, .string us, .string gr, .string ⟨#[]⟩] := e23
          have g23 : a.tmps[23]?.getD undef = .agg #[.int .i64 kk, .string pth, .string lk, .int .i64 nm, .int .i64 nu, .int .i64 ng, .int .i64 nt, .string us, .string gr, .string ⟨#[]⟩] := by rw [← Array.getD_eq_getD_getElem?]; exact e23
          have e24 : a.eval (.tmp 24) = .string fl := hV 24 (by simp [Op.operands, Call.operands]) (by kernel_rfl)
          have f24 : a.tmps.getD 24 undef = .string fl := e24
          have g24 : a.tmps[24]?.getD undef = .string fl := by rw [← Array.getD_eq_getD_getElem?]; exact e24
          have e25 : a.eval (.tmp 25) = .int .i64 nz := hV 25 (by simp [Op.operands, Call.operands]) (by kernel_rfl)
          have f25 : a.tmps.getD 25 undef = .int .i64 nz := e25
          have g25 : a.tmps[25]?.getD undef = .int .i64 nz := by rw [← Array.getD_eq_getD_getElem?]; exact e25
          refine op_call (f := 23) (args := #[.agg #[.int .i64 kk, .string pth, .string lk, .int .i64 nm, .int .i64 nu, .int .i64 ng, .int .i64 nt, .string us, .string gr, .string ⟨#[]⟩], .string fl, .int .i64 nz]) (R := fun v y => v = .string hd ∧ Below w2.heap.size w2 y) ?_ ((HPH.out w2).mono ?_) ?_
          · (clear hV hI hC; go_simp <;> (first | rfl | simp))
          · rintro e y ⟨rfl, hb⟩; exact ⟨_, rfl, rfl, hb⟩
          · rintro v y ⟨rfl, hb⟩; exact ⟨hC.trans (hb.mono hC.size), hb, by intro d hd; cases hd; rfl⟩
        case o27 =>
          intro Q a w2 hC hV hI
          have e0 : a.eval (.tmp 0) = .string s := (hI 0 (by simp [Op.operands]) (by kernel_rfl)).trans rfl
          have f0 : a.tmps.getD 0 undef = .string s := e0
          have g0 : a.tmps[0]?.getD undef = .string s := by rw [← Array.getD_eq_getD_getElem?]; exact e0
          refine op_val (.string s) ?_ hC (Below.refl _ _) (by intro d hd; cases hd; rfl)
          (clear hV hI hC; go_simp <;> (first | rfl | simp))
        case o28 =>
          intro Q a w2 hC hV hI
          have e27 : a.eval (.tmp 27) = .string s := hV 27 (by simp [Op.operands]) (by kernel_rfl)
          have f27 : a.tmps.getD 27 undef = .string s := e27
          have g27 : a.tmps[27]?.getD undef = .string s := by rw [← Array.getD_eq_getD_getElem?]; exact e27
          refine op_val (.string (s.extract 0 512)) ?_ hC (Below.refl _ _) (by intro d hd; cases hd; rfl)
          (clear hV hI hC; go_simp <;> (first | rfl | simp))
        case o29 =>
          intro Q a w2 hC hV hI
          have e26 : a.eval (.tmp 26) = .string hd := hV 26 (by simp [Op.operands]) (by kernel_rfl)
          have f26 : a.tmps.getD 26 undef = .string hd := e26
          have g26 : a.tmps[26]?.getD undef = .string hd := by rw [← Array.getD_eq_getD_getElem?]; exact e26
          have e28 : a.eval (.tmp 28) = .string (s.extract 0 512) := hV 28 (by simp [Op.operands]) (by kernel_rfl)
          have f28 : a.tmps.getD 28 undef = .string (s.extract 0 512) := e28
          have g28 : a.tmps[28]?.getD undef = .string (s.extract 0 512) := by rw [← Array.getD_eq_getD_getElem?]; exact e28
          refine op_val (.bool true) ?_ hC (Below.refl _ _) (by intro d hd; cases hd; rfl)
          (clear hV hI hC; go_simp <;> (first | rfl | simp))
      case hend =>
        intro f w9 hC hall
        simp only [List.forall_mem_cons] at hall
        obtain ⟨h21, h22, h23, h24, h25, h26, h27, h28, h29, _⟩ := hall
        replace h21 : f 21 = .agg #[.int .i64 0, .string pth, .string lk, .int .i64 nm, .int .i64 nu, .int .i64 ng, .int .i64 nt, .string us, .string gr, .string ⟨#[]⟩] := h21 21 rfl
        replace h22 : f 22 = .string fl := h22 22 rfl
        replace h23 : f 23 = .agg #[.int .i64 kk, .string pth, .string lk, .int .i64 nm, .int .i64 nu, .int .i64 ng, .int .i64 nt, .string us, .string gr, .string ⟨#[]⟩] := h23 23 rfl
        replace h24 : f 24 = .string fl := h24 24 rfl
        replace h25 : f 25 = .int .i64 nz := h25 25 rfl
        replace h26 : f 26 = .string hd := h26 26 rfl
        replace h27 : f 27 = .string s := h27 27 rfl
        replace h28 : f 28 = .string (s.extract 0 512) := h28 28 rfl
        replace h29 : f 29 = .bool true := h29 29 rfl
        simp only [putAll, Act.put, List.setIfInBounds_toArray, List.set_cons_succ, List.set_cons_zero, h21, h22, h23, h24, h25, h26, h27, h28, h29]
        clear h21 h22 h23 h24 h25 h26 h27 h28 h29
        have RO9 := Lib.hid ((hC.block _ zR4).trans RO4.out)
        have B9 := Lib.hid (B4.out.trans (hC.mono B4.out.size))
        have HSt := Lib.hid (run_storeVar_row (P := Tryz.prog) _ w.heap.size 23 23 zEnt zEnt RO9.out (by rw [Tryz.sizeEnt]; rfl) rfl (by simp [zEnt, Value.oneCell']))
        clear hC
        go_wp2_with ((with_reducible refine wpList_store_eq rfl 23 _ _ rfl ⟨w.heap.size, 0, none⟩ ?_ ?_ HSt.out ?_); rfl; rfl)
        refine bodyPost_ret (results_cell4 rfl _ _ w.heap.size _ zEnt (0, 0) _ rfl (setRow_heap _ _ _ _ _ _ RO9.out) Tryz.underlying23 rfl (by rw [Tryz.sizeEnt]; rfl)) rfl ?_
        rw [HE2.out]
        exact ⟨rfl, B9.out.trans (below_set (Nat.le_refl _) _)⟩
  · have HE : Hid (getV s = .tuple #[.agg zEnt, .string ⟨#[]⟩, .int .i64 0, .int .i64 (rdc s)]) := Lib.hid (by rw [getV, hdc_bad h0, if_neg h0])
    rw [readS_bad rfl h0] at H1
    generalize rdc s = cd at *
    go_enter Tryz.func8, Tryz.ntmps8
    go_wp2_with fail
    refine (H1.out _).mono ?_
    rintro e w1 ⟨rfl, hb⟩
    have R1 := (hb.block _ (obj_lt R0.out)).trans R0.out
    have B1 := B0.out.trans (hb.mono B0.out.size)
    have HSn := Lib.hid (run_storeVar_new (P := Tryz.prog) w1 23 zEnt zEnt (by rw [Tryz.sizeEnt]; rfl) rfl (by simp [zEnt, Value.oneCell']))
    have BX := (Below.refl w1.heap.size w1).alloc (Nat.le_refl _) (.cells zEnt 23)
    have RO7 := Lib.hid ((BX.block _ (obj_lt R1)).trans R1)
    have B7 := Lib.hid (B1.trans (BX.mono B1.size))
    have HSt := Lib.hid (run_storeVar_row (P := Tryz.prog) _ w.heap.size 23 23 zEnt zEnt RO7.out (by rw [Tryz.sizeEnt]; rfl) rfl (by simp [zEnt, Value.oneCell']))
    clear hb R0 B0 H1 BX R1 B1
    go_wp2_with (first | ((with_reducible refine wpList_store_eq rfl 23 _ _ rfl ⟨w1.heap.size, 0, none⟩ ?_ ?_ HSn.out ?_); rfl; rfl) | ((with_reducible refine wpList_store_eq rfl 23 _ _ rfl ⟨w.heap.size, 0, none⟩ ?_ ?_ HSt.out ?_); rfl; rfl))
    refine bodyPost_ret (results_cell4 rfl _ _ w.heap.size _ zEnt (0, 0) _ rfl (setRow_heap _ _ _ _ _ _ RO7.out) Tryz.underlying23 rfl (by rw [Tryz.sizeEnt]; rfl)) rfl ?_
    rw [HE.out]
    exact ⟨rfl, B7.out.trans (below_set (Nat.le_refl _) _)⟩
end Go.Proofs.YtgpgkgahbkmdiabGreatDoor

/- Contracts of laws.eqEntry and laws.eqEntryS where both are the same. -/
namespace Go.Proofs.YtgpgkgahbkmdiabGreatDoor
open Go.ChangeShapes Go.WideShapes Go.ChangeAt Go.RowKit Go.Deep

theorem eqEntry_self (k : Int) (p l : ByteArray) (m u g t : Int) (us gr b : ByteArray) (w : World) :
    Calls Tryz.prog 10 #[.agg #[.int .i64 k, .string p, .string l, .int .i64 m, .int .i64 u, .int .i64 g, .int .i64 t, .string us, .string gr, .string b], .agg #[.int .i64 k, .string p, .string l, .int .i64 m, .int .i64 u, .int .i64 g, .int .i64 t, .string us, .string gr, .string b]] w fun e w' => e = .returned (.bool true) ∧ Below w.heap.size w w' := by
  have q1 : (p.toList == p.toList) = true := by simp
  have q2 : (l.toList == l.toList) = true := by simp
  have q3 : (us.toList == us.toList) = true := by simp
  have q4 : (gr.toList == gr.toList) = true := by simp
  have q5 : (b.toList == b.toList) = true := by simp
  go_enter Tryz.func10, Tryz.ntmps10
  go_wp2_with fail
  go_ret
  exact ⟨rfl, ((Below.refl _ w).alloc (Nat.le_refl _) _).alloc (by simp) _⟩
theorem bl_ch {w x w1 : World} (h1 : Below x.heap.size x w1) (os : x.os = w.os) (tape : x.tape = w.tape) (out : x.output = w.output) (hs : w.heap.size ≤ x.heap.size) (B : Nat) (hB : B ≤ x.heap.size) (hb : ∀ k, k < B → x.heap[k]? = w.heap[k]?) : Below B w w1 :=
  ⟨h1.os.trans os, h1.tape.trans tape, h1.output.trans out, Nat.le_trans hs h1.size, fun k hk => (h1.block k (Nat.lt_of_lt_of_le hk hB)).trans (hb k hk)⟩
theorem getE {L : List Ent} {i : Nat} (h : i < L.length) : ∃ e, L[i]? = some e := ⟨L[i], List.getElem?_eq_getElem h⟩
set_option maxHeartbeats 1600000 in
theorem eqEntryS_any (L : List Ent) (n g g2 ca cb : Nat) (w : World) (hn : n = L.length) (hm : n ≤ 4194304) (hg : g < w.heap.size) (hg2 : g2 < w.heap.size) (h1 : RowE w g L) (h2 : RowE w g2 L) :
    Calls Tryz.prog 15 #[.slice (some ⟨g, 0, none⟩) n ca, .slice (some ⟨g2, 0, none⟩) n cb] w fun e w' => e = .returned (.bool true) ∧ Below w.heap.size w w' := by
  have H1 := Lib.hid h1
  have H2 := Lib.hid h2
  have HG : Hid (∀ i, i < n → ∃ e, L[i]? = some e) := Lib.hid (fun i hi => getE (by omega))
  clear h1 h2 hn
  go_enter Tryz.func15, Tryz.ntmps15
  go_wp2_with fail
  go_loopw [5] (fun u wr => ∃ i : Nat, u = .int .i64 i ∧ i ≤ n ∧ Below w.heap.size w wr) (fun u _ => n - (intOf u).toNat)
  case atStart => exact ⟨0, rfl, Nat.zero_le _, Below.refl _ _⟩
  case round =>
    obtain ⟨i, rfl, hi, hb⟩ := hrel
    have B := Lib.hid hb
    clear hb
    by_cases hlt : i < n
    · have hlt2 : (i : Int) < (n : Int) := by omega
      obtain ⟨e, he⟩ := HG.out i hlt
      have R1 := Lib.hid (H1.out.below B.out hg)
      have R2 := Lib.hid (H2.out.below B.out hg2)
      obtain ⟨c0, c1, c2, c3, c4, c5, c6, c7, c8, c9⟩ := R1.out.ten he
      obtain ⟨d0, d1, d2, d3, d4, d5, d6, d7, d8, d9⟩ := R2.out.ten he
      clear he R1 R2
      obtain ⟨k, p, l, m, u, g0, t, us, gr, b⟩ := e
      have HQ := Lib.hid (fun w => eqEntry_self k p l m u g0 t us gr b w)
      go_wp2_with fail
      have hsz := B.out.size
      go_region_with (go_at_call 10; refine (HQ.out _).mono ?_; rintro e w1 ⟨rfl, hb1⟩; have B1 := Lib.hid (bl_ch hb1 B.out.os B.out.tape B.out.output hsz w.heap.size hsz B.out.block); clear hb1)
      all_goals
        go_wp2_with fail
        go_roundw
        case rel => exact ⟨i + 1, by go_num, by omega, B1.out.os, B1.out.tape, B1.out.output, B1.out.size, B1.out.block⟩
        case measure => simp [intOf]; omega
    · have hlt2 : ¬ (i : Int) < (n : Int) := by omega
      go_wp2_with fail
      go_ret
      exact ⟨rfl, B.out⟩
end Go.Proofs.YtgpgkgahbkmdiabGreatDoor

/- The law laws.FnExactGetHead returns true. -/
namespace Go.Proofs.YtgpgkgahbkmdiabGreatDoor
open Go.ChangeShapes Go.WideShapes Go.ChangeAt Go.RowKit

theorem getV_form (s : ByteArray) : ∃ (k : Int) (p l : ByteArray) (m u g t : Int) (us gr b fl : ByteArray) (z c : Int), getV s = .tuple #[.agg #[.int .i64 k, .string p, .string l, .int .i64 m, .int .i64 u, .int .i64 g, .int .i64 t, .string us, .string gr, .string b], .string fl, .int .i64 z, .int .i64 c] := by
  unfold getV
  split
  · exact ⟨_, _, _, _, _, _, _, _, _, _, _, _, _, rfl⟩
  · exact ⟨_, _, _, _, _, _, _, _, _, _, _, _, _, rfl⟩
set_option maxHeartbeats 1600000 in
set_option maxRecDepth 8000 in
theorem getHead_law (s : ByteArray) (w : World) (hT : Tabs w) (hF : FW w) (hH : Handle w) :
    Calls Tryz.prog 3 #[.string s] w fun e w' => e = .returned (.bool true) ∧ Below w.heap.size w w' := by
  by_cases hs : (s.size : Int) ≤ 1048576
  · have S1 := Lib.hid (fun w => getHead_spec s w (by omega))
    have S2 := Lib.hid (fun w hT hF hH => getHead_impl s w (by omega) hT hF hH)
    obtain ⟨k, p, l, m, u, g, t, us, gr, b, fl, z, c, hg⟩ := getV_form s
    rw [hg] at S1 S2
    have HQ := Lib.hid (fun w => eqEntry_self k p l m u g t us gr b w)
    have q : (fl.toList == fl.toList) = true := by simp
    have HT := Lib.hid hT
    have HF := Lib.hid hF
    have HH := Lib.hid hH
    clear hT hF hH hg
    go_enter Tryz.func3, Tryz.ntmps3
    go_wp2_with fail
    refine (S1.out _).mono ?_
    rintro e w1 ⟨rfl, hb⟩
    have B1 := Lib.hid hb
    have HS1 := Lib.hid (run_storeVar_new (P := Tryz.prog) w1 23 zEnt #[.int .i64 k, .string p, .string l, .int .i64 m, .int .i64 u, .int .i64 g, .int .i64 t, .string us, .string gr, .string b] (by rw [Tryz.sizeEnt]; rfl) rfl (by simp [Value.oneCell']))
    have O2 := heap_alloc_last w1 (.cells #[.int .i64 k, .string p, .string l, .int .i64 m, .int .i64 u, .int .i64 g, .int .i64 t, .string us, .string gr, .string b] 23)
    have B2 := Lib.hid (B1.out.alloc B1.out.size (.cells #[.int .i64 k, .string p, .string l, .int .i64 m, .int .i64 u, .int .i64 g, .int .i64 t, .string us, .string gr, .string b] 23))
    clear hb S1
    go_wp2_with ((with_reducible refine wpList_store_eq rfl 23 _ _ rfl ⟨w1.heap.size, 0, none⟩ ?_ ?_ HS1.out ?_); rfl; rfl)
    clear HS1
    generalize w1.alloc (.cells #[.int .i64 k, .string p, .string l, .int .i64 m, .int .i64 u, .int .i64 g, .int .i64 t, .string us, .string gr, .string b] 23) = w2 at *
    refine (S2.out _ (HT.out.below B2.out) (HF.out.below B2.out) (HH.out.below B2.out)).mono ?_
    rintro e w3 ⟨rfl, hb⟩
    have O3 := (hb.block _ (obj_lt O2)).trans O2
    have B3 := Lib.hid (B2.out.trans (hb.mono B2.out.size))
    have HS2 := Lib.hid (run_storeVar_new (P := Tryz.prog) w3 23 zEnt #[.int .i64 k, .string p, .string l, .int .i64 m, .int .i64 u, .int .i64 g, .int .i64 t, .string us, .string gr, .string b] (by rw [Tryz.sizeEnt]; rfl) rfl (by simp [Value.oneCell']))
    have O4 := heap_alloc_last w3 (.cells #[.int .i64 k, .string p, .string l, .int .i64 m, .int .i64 u, .int .i64 g, .int .i64 t, .string us, .string gr, .string b] 23)
    have B4 := Lib.hid (B3.out.alloc B3.out.size (.cells #[.int .i64 k, .string p, .string l, .int .i64 m, .int .i64 u, .int .i64 g, .int .i64 t, .string us, .string gr, .string b] 23))
    have O5 := (((Below.refl w3.heap.size w3).alloc (Nat.le_refl _) (.cells #[.int .i64 k, .string p, .string l, .int .i64 m, .int .i64 u, .int .i64 g, .int .i64 t, .string us, .string gr, .string b] 23)).block _ (obj_lt O3)).trans O3
    have HL1 := Lib.hid (run_loadVar_row (P := Tryz.prog) _ _ 23 23 _ (0, 0) _ O4 Tryz.underlying23 rfl (by rw [Tryz.sizeEnt]; rfl))
    have HL2 := Lib.hid (run_loadVar_row (P := Tryz.prog) _ _ 23 23 _ (0, 0) _ O5 Tryz.underlying23 rfl (by rw [Tryz.sizeEnt]; rfl))
    clear hb S2 HT HF HH O2 O3 O4 O5 B1 B2 B3
    go_wp2_with (first | ((with_reducible refine wpList_store_eq rfl 23 _ _ rfl ⟨w3.heap.size, 0, none⟩ ?_ ?_ HS2.out ?_); rfl; rfl) | ((with_reducible refine wpList_load_eq rfl 23 _ rfl ⟨w3.heap.size, 0, none⟩ ?_ HL1.out ?_); rfl) | ((with_reducible refine wpList_load_eq rfl 23 _ rfl ⟨w1.heap.size, 0, none⟩ ?_ HL2.out ?_); rfl))
    refine (HQ.out _).mono ?_
    rintro e w5 ⟨rfl, hb⟩
    have B5 := Lib.hid (B4.out.trans (hb.mono B4.out.size))
    clear hb
    go_wp2_with fail
    go_ret
    exact ⟨rfl, B5.out⟩
  · go_enter Tryz.func3, Tryz.ntmps3
    go_wp2_with fail
    go_ret
    exact ⟨rfl, Below.refl _ _⟩
end Go.Proofs.YtgpgkgahbkmdiabGreatDoor
