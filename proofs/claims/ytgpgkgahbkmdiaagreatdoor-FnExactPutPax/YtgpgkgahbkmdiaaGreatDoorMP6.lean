/- Texts joined: HeadS, PutHeadS, PaxK, ShortS, Base1S, ArchK. -/
import Derived.Deep.DeepCutAuto
import Derived.OwnWalk
import Derived.Lib.AppendStr
import Derived.Test.YtgpgkgahbkmdiaaGreatDoorMP5
/- Contracts of spec.l04Head and spec.PutHead. -/
namespace Go.Proofs.YtgpgkgahbkmdiaaGreatDoor
open Go.ChangeShapes Go.WideShapes Go.ChangeAt Go.RowKit Go.Deep

set_option maxHeartbeats 6400000 in
set_option maxRecDepth 8000 in
theorem l04Head_spec (k : Int) (p l : ByteArray) (m u g t : Int) (us gr b nm pf fl : ByteArray) (sz : Int) (mg : ByteArray) (w : World) (hl : l.size ≤ 100000) (hus : us.size ≤ 100000) (hgr : gr.size ≤ 100000) (hnm : nm.size ≤ 100000) (hpf : pf.size ≤ 100000) (hfl : fl.size ≤ 100000) (hmg : mg.size ≤ 100000) :
    Calls Tryz.prog 51 #[.agg #[.int .i64 k, .string p, .string l, .int .i64 m, .int .i64 u, .int .i64 g, .int .i64 t, .string us, .string gr, .string b], .string nm, .string pf, .string fl, .int .i64 sz, .string mg] w fun e w' => e = .returned (.string (headv ⟨k, p, l, m, u, g, t, us, gr, b⟩ nm pf fl sz mg)) ∧ Below w.heap.size w w' := by
  have HN := Lib.hid (fun w => fill_spec nm 100 w (by omega))
  have HLk := Lib.hid (fun w => fill_spec l 100 w (by omega))
  have HU := Lib.hid (fun w => fill_spec us 32 w (by omega))
  have HG := Lib.hid (fun w => fill_spec gr 32 w (by omega))
  have HP := Lib.hid (fun w => fill_spec pf 155 w (by omega))
  have HZ := Lib.hid (fun w => nuls_spec 12 w (by omega))
  have HOm := Lib.hid (fun w => l04Oct_spec m 8 w (by omega) (by omega))
  have HOu := Lib.hid (fun w => l04Oct_spec u 8 w (by omega) (by omega))
  have HOg := Lib.hid (fun w => l04Oct_spec g 8 w (by omega) (by omega))
  have HOs := Lib.hid (fun w => l04Oct_spec sz 12 w (by omega) (by omega))
  have HOt := Lib.hid (fun w => l04Oct_spec t 12 w (by omega) (by omega))
  have HO0 := Lib.hid (fun w => l04Oct_spec 0 8 w (by omega) (by omega))
  have zfn := fill_size nm 100 (by omega)
  have zfl := fill_size l 100 (by omega)
  have zfu := fill_size us 32 (by omega)
  have zfg := fill_size gr 32 (by omega)
  have zfp := fill_size pf 155 (by omega)
  have zz := nulv_size 12
  have zom := octz_size m 8
  have zou := octz_size u 8
  have zog := octz_size g 8
  have zos := octz_size sz 12
  have zot := octz_size t 12
  have zo0 := octz_size 0 8
  have HE : Hid (headv ⟨k, p, l, m, u, g, t, us, gr, b⟩ nm pf fl sz mg = headA ⟨k, p, l, m, u, g, t, us, gr, b⟩ nm sz ++ (putOctv (sumv (headA ⟨k, p, l, m, u, g, t, us, gr, b⟩ nm sz).data.toList + 256 + sumv (headB ⟨k, p, l, m, u, g, t, us, gr, b⟩ pf fl mg).data.toList) 6).1 ++ ⟨#[0, 32]⟩ ++ headB ⟨k, p, l, m, u, g, t, us, gr, b⟩ pf fl mg) := Lib.hid rfl
  have HEA : Hid (headA ⟨k, p, l, m, u, g, t, us, gr, b⟩ nm sz = fillv nm 100 ++ octz m 8 ++ octz u 8 ++ octz g 8 ++ octz sz 12 ++ octz t 12) := Lib.hid rfl
  have HEB : Hid (headB ⟨k, p, l, m, u, g, t, us, gr, b⟩ pf fl mg = fl ++ fillv l 100 ++ mg ++ fillv us 32 ++ fillv gr 32 ++ octz 0 8 ++ octz 0 8 ++ fillv pf 155 ++ nulv 12) := Lib.hid rfl
  generalize headv ⟨k, p, l, m, u, g, t, us, gr, b⟩ nm pf fl sz mg = r at HE
  generalize headA ⟨k, p, l, m, u, g, t, us, gr, b⟩ nm sz = hA at HE HEA
  generalize headB ⟨k, p, l, m, u, g, t, us, gr, b⟩ pf fl mg = hB at HE HEB
  rw [show ((12 : Int).toNat) = 12 from rfl] at HZ
  generalize fillv nm 100 = fn at *
  generalize fillv l 100 = fll at *
  generalize fillv us 32 = fu at *
  generalize fillv gr 32 = fg at *
  generalize fillv pf 155 = fp at *
  generalize nulv 12 = z12 at *
  generalize octz m 8 = om at *
  generalize octz u 8 = ou at *
  generalize octz g 8 = og at *
  generalize octz sz 12 = os at *
  generalize octz t 12 = ot at *
  generalize octz 0 8 = o0 at *
  simp only [show ((100 : Int).toNat) = 100 from rfl, show ((32 : Int).toNat) = 32 from rfl, show ((155 : Int).toNat) = 155 from rfl] at zfn zfl zfu zfg zfp
  go_enter Tryz.func51, Tryz.ntmps51
  go_wp2_with fail
  have E0 := EntAt.new w ⟨k, p, l, m, u, g, t, us, gr, b⟩ 34
  have B0 := (Below.refl w.heap.size w).alloc (Nat.le_refl _) (.cells (Ent.cells ⟨k, p, l, m, u, g, t, us, gr, b⟩).toArray 34)
  have z0 : w.heap.size < (w.alloc (.cells (Ent.cells ⟨k, p, l, m, u, g, t, us, gr, b⟩).toArray 34)).heap.size := by simp
  simp only [Ent.cells] at E0 B0 z0
  generalize w.alloc (.cells #[.int .i64 k, .string p, .string l, .int .i64 m, .int .i64 u, .int .i64 g, .int .i64 t, .string us, .string gr, .string b] 34) = w1 at *
  have E1 := Lib.hid E0
  have B1 := Lib.hid B0
  clear E0 B0
  have KC : Hid (∀ w', Below w1.heap.size w1 w' → w'.cell? ⟨w.heap.size, 1, none⟩ = some (.string p) ∧ w'.cell? ⟨w.heap.size, 2, none⟩ = some (.string l) ∧ w'.cell? ⟨w.heap.size, 3, none⟩ = some (.int .i64 m) ∧ w'.cell? ⟨w.heap.size, 4, none⟩ = some (.int .i64 u) ∧ w'.cell? ⟨w.heap.size, 5, none⟩ = some (.int .i64 g) ∧ w'.cell? ⟨w.heap.size, 6, none⟩ = some (.int .i64 t) ∧ w'.cell? ⟨w.heap.size, 7, none⟩ = some (.string us) ∧ w'.cell? ⟨w.heap.size, 8, none⟩ = some (.string gr)) := Lib.hid (fun w' hb => by obtain ⟨c0, c1, c2, c3, c4, c5, c6, c7, c8, c9⟩ := (E1.out.below hb z0).zero; exact ⟨c1, c2, c3, c4, c5, c6, c7, c8⟩)
  obtain ⟨x22, hx22⟩ : ∃ x : ByteArray, x = fn ++ om := ⟨_, rfl⟩
  obtain ⟨x26, hx26⟩ : ∃ x : ByteArray, x = x22 ++ ou := ⟨_, rfl⟩
  obtain ⟨x30, hx30⟩ : ∃ x : ByteArray, x = x26 ++ og := ⟨_, rfl⟩
  obtain ⟨x33, hx33⟩ : ∃ x : ByteArray, x = x30 ++ os := ⟨_, rfl⟩
  obtain ⟨x37, hx37⟩ : ∃ x : ByteArray, x = x33 ++ ot := ⟨_, rfl⟩
  have zx22 : x22.size ≤ 100121 := by rw [hx22, ByteArray.size_append]; omega
  have zx26 : x26.size ≤ 100142 := by rw [hx26, ByteArray.size_append]; omega
  have zx30 : x30.size ≤ 100163 := by rw [hx30, ByteArray.size_append]; omega
  have zx33 : x33.size ≤ 100184 := by rw [hx33, ByteArray.size_append]; omega
  have zx37 : x37.size ≤ 100205 := by rw [hx37, ByteArray.size_append]; omega
  have HA22 : Hid (∀ w, (Op.stringOp .add fn om).run Tryz.prog w = .ok (.string x22) w) := Lib.hid (fun w => by rw [hx22]; exact run_string_add_sum w _ _ (by omega))
  have HA26 : Hid (∀ w, (Op.stringOp .add x22 ou).run Tryz.prog w = .ok (.string x26) w) := Lib.hid (fun w => by rw [hx26]; exact run_string_add_sum w _ _ (by omega))
  have HA30 : Hid (∀ w, (Op.stringOp .add x26 og).run Tryz.prog w = .ok (.string x30) w) := Lib.hid (fun w => by rw [hx30]; exact run_string_add_sum w _ _ (by omega))
  have HA33 : Hid (∀ w, (Op.stringOp .add x30 os).run Tryz.prog w = .ok (.string x33) w) := Lib.hid (fun w => by rw [hx33]; exact run_string_add_sum w _ _ (by omega))
  have HA37 : Hid (∀ w, (Op.stringOp .add x33 ot).run Tryz.prog w = .ok (.string x37) w) := Lib.hid (fun w => by rw [hx37]; exact run_string_add_sum w _ _ (by omega))
  have HX22 := Lib.hid hx22
  have HX26 := Lib.hid hx26
  have HX30 := Lib.hid hx30
  have HX33 := Lib.hid hx33
  have HX37 := Lib.hid hx37
  clear hx22 hx26 hx30 hx33 hx37
  refine wp_region_inv (by kernel_rfl) (fun w' => Below w1.heap.size w1 w') (fun x y => Below x.heap.size x y) (fun d v _ => match d with | 17 => v = .string nm | 18 => v = .string fn | 19 => v = .pointer (some ⟨w.heap.size, 3, none⟩) | 20 => v = .int .i64 m | 21 => v = .string om | 22 => v = .string x22 | 23 => v = .pointer (some ⟨w.heap.size, 4, none⟩) | 24 => v = .int .i64 u | 25 => v = .string ou | 26 => v = .string x26 | 27 => v = .pointer (some ⟨w.heap.size, 5, none⟩) | 28 => v = .int .i64 g | 29 => v = .string og | 30 => v = .string x30 | 31 => v = .int .i64 sz | 32 => v = .string os | 33 => v = .string x33 | 34 => v = .pointer (some ⟨w.heap.size, 6, none⟩) | 35 => v = .int .i64 t | 36 => v = .string ot | 37 => v = .string x37 | 13 => v = .string x37 | _ => True) (by kernel_rfl) ((Below.refl _ _).drew) (fun _ _ _ _ _ _ h => h) ?hops ?hend
  case hops =>
    simp only [List.forall_mem_cons]
    refine ⟨?o17, ?o18, ?o19, ?o20, ?o21, ?o22, ?o23, ?o24, ?o25, ?o26, ?o27, ?o28, ?o29, ?o30, ?o31, ?o32, ?o33, ?o34, ?o35, ?o36, ?o37, ?o13, fun _ h => by cases h⟩
    case o17 =>
      intro Q a w2 hC hV hI
      have e1 : a.eval (.tmp 1) = .string nm := (hI 1 (by simp [Op.operands]) (by kernel_rfl)).trans rfl
      have f1 : a.tmps.getD 1 undef = .string nm := e1
      have g1 : a.tmps[1]?.getD undef = .string nm := by rw [← Array.getD_eq_getD_getElem?]; exact e1
      refine op_val (.string nm) ?_ hC (Below.refl _ _) (by intro d hd; cases hd; rfl)
      (clear hV hI hC; go_simp <;> (first | rfl | simp))
    case o18 =>
      intro Q a w2 hC hV hI
      have e17 : a.eval (.tmp 17) = .string nm := hV 17 (by simp [Op.operands, Call.operands]) (by kernel_rfl)
      have f17 : a.tmps.getD 17 undef = .string nm := e17
      have g17 : a.tmps[17]?.getD undef = .string nm := by rw [← Array.getD_eq_getD_getElem?]; exact e17
      refine op_call (f := 66) (args := #[.string nm, .int .i64 100]) (R := fun v y => v = .string fn ∧ Below w2.heap.size w2 y) ?_ ((HN.out w2).mono ?_) ?_
      · (clear hV hI hC; go_simp <;> (first | rfl | simp))
      · rintro e y ⟨rfl, hb⟩; exact ⟨_, rfl, rfl, hb⟩
      · rintro v y ⟨rfl, hb⟩; exact ⟨hC.trans (hb.mono hC.size), hb, by intro d hd; cases hd; rfl⟩
    case o19 =>
      intro Q a w2 hC hV hI
      have e6 : a.eval (.tmp 6) = .pointer (some ⟨w.heap.size, 0, none⟩) := (hI 6 (by simp [Op.operands]) (by kernel_rfl)).trans rfl
      have f6 : a.tmps.getD 6 undef = .pointer (some ⟨w.heap.size, 0, none⟩) := e6
      have g6 : a.tmps[6]?.getD undef = .pointer (some ⟨w.heap.size, 0, none⟩) := by rw [← Array.getD_eq_getD_getElem?]; exact e6
      refine op_val (.pointer (some ⟨w.heap.size, 3, none⟩)) ?_ hC (Below.refl _ _) (by intro d hd; cases hd; rfl)
      (clear hV hI hC; go_simp <;> (first | rfl | simp))
    case o20 =>
      intro Q a w2 hC hV hI
      have e19 : a.eval (.tmp 19) = .pointer (some ⟨w.heap.size, 3, none⟩) := hV 19 (by simp [Op.operands]) (by kernel_rfl)
      have f19 : a.tmps.getD 19 undef = .pointer (some ⟨w.heap.size, 3, none⟩) := e19
      have g19 : a.tmps[19]?.getD undef = .pointer (some ⟨w.heap.size, 3, none⟩) := by rw [← Array.getD_eq_getD_getElem?]; exact e19
      have hK := KC.out w2 hC
      refine op_val (.int .i64 m) ?_ hC (Below.refl _ _) (by intro d hd; cases hd; rfl)
      (clear hV hI hC; go_simp <;> (first | rfl | simp))
    case o21 =>
      intro Q a w2 hC hV hI
      have e20 : a.eval (.tmp 20) = .int .i64 m := hV 20 (by simp [Op.operands, Call.operands]) (by kernel_rfl)
      have f20 : a.tmps.getD 20 undef = .int .i64 m := e20
      have g20 : a.tmps[20]?.getD undef = .int .i64 m := by rw [← Array.getD_eq_getD_getElem?]; exact e20
      refine op_call (f := 68) (args := #[.int .i64 m, .int .i64 8]) (R := fun v y => v = .string om ∧ w2 = y) ?_ ((HOm.out w2).mono ?_) ?_
      · (clear hV hI hC; go_simp <;> (first | rfl | simp))
      · rintro e y ⟨rfl, rfl⟩; exact ⟨_, rfl, rfl, rfl⟩
      · rintro v y ⟨rfl, rfl⟩; exact ⟨hC, Below.refl _ _, by intro d hd; cases hd; rfl⟩
    case o22 =>
      intro Q a w2 hC hV hI
      have e18 : a.eval (.tmp 18) = .string fn := hV 18 (by simp [Op.operands]) (by kernel_rfl)
      have f18 : a.tmps.getD 18 undef = .string fn := e18
      have g18 : a.tmps[18]?.getD undef = .string fn := by rw [← Array.getD_eq_getD_getElem?]; exact e18
      have e21 : a.eval (.tmp 21) = .string om := hV 21 (by simp [Op.operands]) (by kernel_rfl)
      have f21 : a.tmps.getD 21 undef = .string om := e21
      have g21 : a.tmps[21]?.getD undef = .string om := by rw [← Array.getD_eq_getD_getElem?]; exact e21
      refine op_val (.string x22) ?_ hC (Below.refl _ _) (by intro d hd; cases hd; rfl)
      have q := HA22.out w2
      (clear hV hI hC; go_simp <;> (first | rfl | simp))
    case o23 =>
      intro Q a w2 hC hV hI
      have e6 : a.eval (.tmp 6) = .pointer (some ⟨w.heap.size, 0, none⟩) := (hI 6 (by simp [Op.operands]) (by kernel_rfl)).trans rfl
      have f6 : a.tmps.getD 6 undef = .pointer (some ⟨w.heap.size, 0, none⟩) := e6
      have g6 : a.tmps[6]?.getD undef = .pointer (some ⟨w.heap.size, 0, none⟩) := by rw [← Array.getD_eq_getD_getElem?]; exact e6
      refine op_val (.pointer (some ⟨w.heap.size, 4, none⟩)) ?_ hC (Below.refl _ _) (by intro d hd; cases hd; rfl)
      (clear hV hI hC; go_simp <;> (first | rfl | simp))
    case o24 =>
      intro Q a w2 hC hV hI
      have e23 : a.eval (.tmp 23) = .pointer (some ⟨w.heap.size, 4, none⟩) := hV 23 (by simp [Op.operands]) (by kernel_rfl)
      have f23 : a.tmps.getD 23 undef = .pointer (some ⟨w.heap.size, 4, none⟩) := e23
      have g23 : a.tmps[23]?.getD undef = .pointer (some ⟨w.heap.size, 4, none⟩) := by rw [← Array.getD_eq_getD_getElem?]; exact e23
      have hK := KC.out w2 hC
      refine op_val (.int .i64 u) ?_ hC (Below.refl _ _) (by intro d hd; cases hd; rfl)
      (clear hV hI hC; go_simp <;> (first | rfl | simp))
    case o25 =>
      intro Q a w2 hC hV hI
      have e24 : a.eval (.tmp 24) = .int .i64 u := hV 24 (by simp [Op.operands, Call.operands]) (by kernel_rfl)
      have f24 : a.tmps.getD 24 undef = .int .i64 u := e24
      have g24 : a.tmps[24]?.getD undef = .int .i64 u := by rw [← Array.getD_eq_getD_getElem?]; exact e24
      refine op_call (f := 68) (args := #[.int .i64 u, .int .i64 8]) (R := fun v y => v = .string ou ∧ w2 = y) ?_ ((HOu.out w2).mono ?_) ?_
      · (clear hV hI hC; go_simp <;> (first | rfl | simp))
      · rintro e y ⟨rfl, rfl⟩; exact ⟨_, rfl, rfl, rfl⟩
      · rintro v y ⟨rfl, rfl⟩; exact ⟨hC, Below.refl _ _, by intro d hd; cases hd; rfl⟩
    case o26 =>
      intro Q a w2 hC hV hI
      have e22 : a.eval (.tmp 22) = .string x22 := hV 22 (by simp [Op.operands]) (by kernel_rfl)
      have f22 : a.tmps.getD 22 undef = .string x22 := e22
      have g22 : a.tmps[22]?.getD undef = .string x22 := by rw [← Array.getD_eq_getD_getElem?]; exact e22
      have e25 : a.eval (.tmp 25) = .string ou := hV 25 (by simp [Op.operands]) (by kernel_rfl)
      have f25 : a.tmps.getD 25 undef = .string ou := e25
      have g25 : a.tmps[25]?.getD undef = .string ou := by rw [← Array.getD_eq_getD_getElem?]; exact e25
      refine op_val (.string x26) ?_ hC (Below.refl _ _) (by intro d hd; cases hd; rfl)
      have q := HA26.out w2
      (clear hV hI hC; go_simp <;> (first | rfl | simp))
    case o27 =>
      intro Q a w2 hC hV hI
      have e6 : a.eval (.tmp 6) = .pointer (some ⟨w.heap.size, 0, none⟩) := (hI 6 (by simp [Op.operands]) (by kernel_rfl)).trans rfl
      have f6 : a.tmps.getD 6 undef = .pointer (some ⟨w.heap.size, 0, none⟩) := e6
      have g6 : a.tmps[6]?.getD undef = .pointer (some ⟨w.heap.size, 0, none⟩) := by rw [← Array.getD_eq_getD_getElem?]; exact e6
      refine op_val (.pointer (some ⟨w.heap.size, 5, none⟩)) ?_ hC (Below.refl _ _) (by intro d hd; cases hd; rfl)
      (clear hV hI hC; go_simp <;> (first | rfl | simp))
    case o28 =>
      intro Q a w2 hC hV hI
      have e27 : a.eval (.tmp 27) = .pointer (some ⟨w.heap.size, 5, none⟩) := hV 27 (by simp [Op.operands]) (by kernel_rfl)
      have f27 : a.tmps.getD 27 undef = .pointer (some ⟨w.heap.size, 5, none⟩) := e27
      have g27 : a.tmps[27]?.getD undef = .pointer (some ⟨w.heap.size, 5, none⟩) := by rw [← Array.getD_eq_getD_getElem?]; exact e27
      have hK := KC.out w2 hC
      refine op_val (.int .i64 g) ?_ hC (Below.refl _ _) (by intro d hd; cases hd; rfl)
      (clear hV hI hC; go_simp <;> (first | rfl | simp))
    case o29 =>
      intro Q a w2 hC hV hI
      have e28 : a.eval (.tmp 28) = .int .i64 g := hV 28 (by simp [Op.operands, Call.operands]) (by kernel_rfl)
      have f28 : a.tmps.getD 28 undef = .int .i64 g := e28
      have g28 : a.tmps[28]?.getD undef = .int .i64 g := by rw [← Array.getD_eq_getD_getElem?]; exact e28
      refine op_call (f := 68) (args := #[.int .i64 g, .int .i64 8]) (R := fun v y => v = .string og ∧ w2 = y) ?_ ((HOg.out w2).mono ?_) ?_
      · (clear hV hI hC; go_simp <;> (first | rfl | simp))
      · rintro e y ⟨rfl, rfl⟩; exact ⟨_, rfl, rfl, rfl⟩
      · rintro v y ⟨rfl, rfl⟩; exact ⟨hC, Below.refl _ _, by intro d hd; cases hd; rfl⟩
    case o30 =>
      intro Q a w2 hC hV hI
      have e26 : a.eval (.tmp 26) = .string x26 := hV 26 (by simp [Op.operands]) (by kernel_rfl)
      have f26 : a.tmps.getD 26 undef = .string x26 := e26
      have g26 : a.tmps[26]?.getD undef = .string x26 := by rw [← Array.getD_eq_getD_getElem?]; exact e26
      have e29 : a.eval (.tmp 29) = .string og := hV 29 (by simp [Op.operands]) (by kernel_rfl)
      have f29 : a.tmps.getD 29 undef = .string og := e29
      have g29 : a.tmps[29]?.getD undef = .string og := by rw [← Array.getD_eq_getD_getElem?]; exact e29
      refine op_val (.string x30) ?_ hC (Below.refl _ _) (by intro d hd; cases hd; rfl)
      have q := HA30.out w2
      (clear hV hI hC; go_simp <;> (first | rfl | simp))
    case o31 =>
      intro Q a w2 hC hV hI
      have e4 : a.eval (.tmp 4) = .int .i64 sz := (hI 4 (by simp [Op.operands]) (by kernel_rfl)).trans rfl
      have f4 : a.tmps.getD 4 undef = .int .i64 sz := e4
      have g4 : a.tmps[4]?.getD undef = .int .i64 sz := by rw [← Array.getD_eq_getD_getElem?]; exact e4
      refine op_val (.int .i64 sz) ?_ hC (Below.refl _ _) (by intro d hd; cases hd; rfl)
      (clear hV hI hC; go_simp <;> (first | rfl | simp))
    case o32 =>
      intro Q a w2 hC hV hI
      have e31 : a.eval (.tmp 31) = .int .i64 sz := hV 31 (by simp [Op.operands, Call.operands]) (by kernel_rfl)
      have f31 : a.tmps.getD 31 undef = .int .i64 sz := e31
      have g31 : a.tmps[31]?.getD undef = .int .i64 sz := by rw [← Array.getD_eq_getD_getElem?]; exact e31
      refine op_call (f := 68) (args := #[.int .i64 sz, .int .i64 12]) (R := fun v y => v = .string os ∧ w2 = y) ?_ ((HOs.out w2).mono ?_) ?_
      · (clear hV hI hC; go_simp <;> (first | rfl | simp))
      · rintro e y ⟨rfl, rfl⟩; exact ⟨_, rfl, rfl, rfl⟩
      · rintro v y ⟨rfl, rfl⟩; exact ⟨hC, Below.refl _ _, by intro d hd; cases hd; rfl⟩
    case o33 =>
      intro Q a w2 hC hV hI
      have e30 : a.eval (.tmp 30) = .string x30 := hV 30 (by simp [Op.operands]) (by kernel_rfl)
      have f30 : a.tmps.getD 30 undef = .string x30 := e30
      have g30 : a.tmps[30]?.getD undef = .string x30 := by rw [← Array.getD_eq_getD_getElem?]; exact e30
      have e32 : a.eval (.tmp 32) = .string os := hV 32 (by simp [Op.operands]) (by kernel_rfl)
      have f32 : a.tmps.getD 32 undef = .string os := e32
      have g32 : a.tmps[32]?.getD undef = .string os := by rw [← Array.getD_eq_getD_getElem?]; exact e32
      refine op_val (.string x33) ?_ hC (Below.refl _ _) (by intro d hd; cases hd; rfl)
      have q := HA33.out w2
      (clear hV hI hC; go_simp <;> (first | rfl | simp))
    case o34 =>
      intro Q a w2 hC hV hI
      have e6 : a.eval (.tmp 6) = .pointer (some ⟨w.heap.size, 0, none⟩) := (hI 6 (by simp [Op.operands]) (by kernel_rfl)).trans rfl
      have f6 : a.tmps.getD 6 undef = .pointer (some ⟨w.heap.size, 0, none⟩) := e6
      have g6 : a.tmps[6]?.getD undef = .pointer (some ⟨w.heap.size, 0, none⟩) := by rw [← Array.getD_eq_getD_getElem?]; exact e6
      refine op_val (.pointer (some ⟨w.heap.size, 6, none⟩)) ?_ hC (Below.refl _ _) (by intro d hd; cases hd; rfl)
      (clear hV hI hC; go_simp <;> (first | rfl | simp))
    case o35 =>
      intro Q a w2 hC hV hI
      have e34 : a.eval (.tmp 34) = .pointer (some ⟨w.heap.size, 6, none⟩) := hV 34 (by simp [Op.operands]) (by kernel_rfl)
      have f34 : a.tmps.getD 34 undef = .pointer (some ⟨w.heap.size, 6, none⟩) := e34
      have g34 : a.tmps[34]?.getD undef = .pointer (some ⟨w.heap.size, 6, none⟩) := by rw [← Array.getD_eq_getD_getElem?]; exact e34
      have hK := KC.out w2 hC
      refine op_val (.int .i64 t) ?_ hC (Below.refl _ _) (by intro d hd; cases hd; rfl)
      (clear hV hI hC; go_simp <;> (first | rfl | simp))
    case o36 =>
      intro Q a w2 hC hV hI
      have e35 : a.eval (.tmp 35) = .int .i64 t := hV 35 (by simp [Op.operands, Call.operands]) (by kernel_rfl)
      have f35 : a.tmps.getD 35 undef = .int .i64 t := e35
      have g35 : a.tmps[35]?.getD undef = .int .i64 t := by rw [← Array.getD_eq_getD_getElem?]; exact e35
      refine op_call (f := 68) (args := #[.int .i64 t, .int .i64 12]) (R := fun v y => v = .string ot ∧ w2 = y) ?_ ((HOt.out w2).mono ?_) ?_
      · (clear hV hI hC; go_simp <;> (first | rfl | simp))
      · rintro e y ⟨rfl, rfl⟩; exact ⟨_, rfl, rfl, rfl⟩
      · rintro v y ⟨rfl, rfl⟩; exact ⟨hC, Below.refl _ _, by intro d hd; cases hd; rfl⟩
    case o37 =>
      intro Q a w2 hC hV hI
      have e33 : a.eval (.tmp 33) = .string x33 := hV 33 (by simp [Op.operands]) (by kernel_rfl)
      have f33 : a.tmps.getD 33 undef = .string x33 := e33
      have g33 : a.tmps[33]?.getD undef = .string x33 := by rw [← Array.getD_eq_getD_getElem?]; exact e33
      have e36 : a.eval (.tmp 36) = .string ot := hV 36 (by simp [Op.operands]) (by kernel_rfl)
      have f36 : a.tmps.getD 36 undef = .string ot := e36
      have g36 : a.tmps[36]?.getD undef = .string ot := by rw [← Array.getD_eq_getD_getElem?]; exact e36
      refine op_val (.string x37) ?_ hC (Below.refl _ _) (by intro d hd; cases hd; rfl)
      have q := HA37.out w2
      (clear hV hI hC; go_simp <;> (first | rfl | simp))
    case o13 =>
      intro Q a w2 hC hV hI
      have e37 : a.eval (.tmp 37) = .string x37 := hV 37 (by simp [Op.operands]) (by kernel_rfl)
      have f37 : a.tmps.getD 37 undef = .string x37 := e37
      have g37 : a.tmps[37]?.getD undef = .string x37 := by rw [← Array.getD_eq_getD_getElem?]; exact e37
      refine op_val (.string x37) ?_ hC (Below.refl _ _) (by intro d hd; cases hd; rfl)
      (clear hV hI hC; go_simp <;> (first | rfl | simp))
  case hend =>
    intro f w3 hC hall
    clear HA22 HA26 HA30 HA33 HA37
    simp only [List.forall_mem_cons] at hall
    obtain ⟨h17, h18, h19, h20, h21, h22, h23, h24, h25, h26, h27, h28, h29, h30, h31, h32, h33, h34, h35, h36, h37, h13, _⟩ := hall
    replace h17 : f 17 = .string nm := h17 17 rfl
    replace h18 : f 18 = .string fn := h18 18 rfl
    replace h19 : f 19 = .pointer (some ⟨w.heap.size, 3, none⟩) := h19 19 rfl
    replace h20 : f 20 = .int .i64 m := h20 20 rfl
    replace h21 : f 21 = .string om := h21 21 rfl
    replace h22 : f 22 = .string x22 := h22 22 rfl
    replace h23 : f 23 = .pointer (some ⟨w.heap.size, 4, none⟩) := h23 23 rfl
    replace h24 : f 24 = .int .i64 u := h24 24 rfl
    replace h25 : f 25 = .string ou := h25 25 rfl
    replace h26 : f 26 = .string x26 := h26 26 rfl
    replace h27 : f 27 = .pointer (some ⟨w.heap.size, 5, none⟩) := h27 27 rfl
    replace h28 : f 28 = .int .i64 g := h28 28 rfl
    replace h29 : f 29 = .string og := h29 29 rfl
    replace h30 : f 30 = .string x30 := h30 30 rfl
    replace h31 : f 31 = .int .i64 sz := h31 31 rfl
    replace h32 : f 32 = .string os := h32 32 rfl
    replace h33 : f 33 = .string x33 := h33 33 rfl
    replace h34 : f 34 = .pointer (some ⟨w.heap.size, 6, none⟩) := h34 34 rfl
    replace h35 : f 35 = .int .i64 t := h35 35 rfl
    replace h36 : f 36 = .string ot := h36 36 rfl
    replace h37 : f 37 = .string x37 := h37 37 rfl
    replace h13 : f 13 = .string x37 := h13 13 rfl
    simp only [putAll, Act.put, List.setIfInBounds_toArray, List.set_cons_succ, List.set_cons_zero, h17, h18, h19, h20, h21, h22, h23, h24, h25, h26, h27, h28, h29, h30, h31, h32, h33, h34, h35, h36, h37, h13]
    clear h17 h18 h19 h20 h21 h22 h23 h24 h25 h26 h27 h28 h29 h30 h31 h32 h33 h34 h35 h36 h37 h13
    have HXA : Hid (hA = x37) := Lib.hid (by rw [HEA.out, HX37.out, HX33.out, HX30.out, HX26.out, HX22.out])
    have E3 := Lib.hid (E1.out.below hC z0)
    have B3 := Lib.hid (btE B1.out hC)
    replace z0 := Nat.lt_of_lt_of_le z0 hC.size
    clear hC KC E1 B1 HX22 HX26 HX30 HX33 HX37
    go_wp2_with fail
    have KC : Hid (∀ w', Below w3.heap.size w3 w' → w'.cell? ⟨w.heap.size, 1, none⟩ = some (.string p) ∧ w'.cell? ⟨w.heap.size, 2, none⟩ = some (.string l) ∧ w'.cell? ⟨w.heap.size, 3, none⟩ = some (.int .i64 m) ∧ w'.cell? ⟨w.heap.size, 4, none⟩ = some (.int .i64 u) ∧ w'.cell? ⟨w.heap.size, 5, none⟩ = some (.int .i64 g) ∧ w'.cell? ⟨w.heap.size, 6, none⟩ = some (.int .i64 t) ∧ w'.cell? ⟨w.heap.size, 7, none⟩ = some (.string us) ∧ w'.cell? ⟨w.heap.size, 8, none⟩ = some (.string gr)) := Lib.hid (fun w' hb => by obtain ⟨c0, c1, c2, c3, c4, c5, c6, c7, c8, c9⟩ := (E3.out.below hb z0).zero; exact ⟨c1, c2, c3, c4, c5, c6, c7, c8⟩)
    obtain ⟨x42, hx42⟩ : ∃ x : ByteArray, x = fl ++ fll := ⟨_, rfl⟩
    obtain ⟨x44, hx44⟩ : ∃ x : ByteArray, x = x42 ++ mg := ⟨_, rfl⟩
    obtain ⟨x48, hx48⟩ : ∃ x : ByteArray, x = x44 ++ fu := ⟨_, rfl⟩
    obtain ⟨x52, hx52⟩ : ∃ x : ByteArray, x = x48 ++ fg := ⟨_, rfl⟩
    obtain ⟨x54, hx54⟩ : ∃ x : ByteArray, x = x52 ++ o0 := ⟨_, rfl⟩
    obtain ⟨x56, hx56⟩ : ∃ x : ByteArray, x = x54 ++ o0 := ⟨_, rfl⟩
    obtain ⟨x59, hx59⟩ : ∃ x : ByteArray, x = x56 ++ fp := ⟨_, rfl⟩
    obtain ⟨x61, hx61⟩ : ∃ x : ByteArray, x = x59 ++ z12 := ⟨_, rfl⟩
    have zx42 : x42.size ≤ 200100 := by rw [hx42, ByteArray.size_append]; omega
    have zx44 : x44.size ≤ 300100 := by rw [hx44, ByteArray.size_append]; omega
    have zx48 : x48.size ≤ 400132 := by rw [hx48, ByteArray.size_append]; omega
    have zx52 : x52.size ≤ 500164 := by rw [hx52, ByteArray.size_append]; omega
    have zx54 : x54.size ≤ 500185 := by rw [hx54, ByteArray.size_append]; omega
    have zx56 : x56.size ≤ 500206 := by rw [hx56, ByteArray.size_append]; omega
    have zx59 : x59.size ≤ 600361 := by rw [hx59, ByteArray.size_append]; omega
    have zx61 : x61.size ≤ 600373 := by rw [hx61, ByteArray.size_append]; omega
    have HA42 : Hid (∀ w, (Op.stringOp .add fl fll).run Tryz.prog w = .ok (.string x42) w) := Lib.hid (fun w => by rw [hx42]; exact run_string_add_sum w _ _ (by omega))
    have HA44 : Hid (∀ w, (Op.stringOp .add x42 mg).run Tryz.prog w = .ok (.string x44) w) := Lib.hid (fun w => by rw [hx44]; exact run_string_add_sum w _ _ (by omega))
    have HA48 : Hid (∀ w, (Op.stringOp .add x44 fu).run Tryz.prog w = .ok (.string x48) w) := Lib.hid (fun w => by rw [hx48]; exact run_string_add_sum w _ _ (by omega))
    have HA52 : Hid (∀ w, (Op.stringOp .add x48 fg).run Tryz.prog w = .ok (.string x52) w) := Lib.hid (fun w => by rw [hx52]; exact run_string_add_sum w _ _ (by omega))
    have HA54 : Hid (∀ w, (Op.stringOp .add x52 o0).run Tryz.prog w = .ok (.string x54) w) := Lib.hid (fun w => by rw [hx54]; exact run_string_add_sum w _ _ (by omega))
    have HA56 : Hid (∀ w, (Op.stringOp .add x54 o0).run Tryz.prog w = .ok (.string x56) w) := Lib.hid (fun w => by rw [hx56]; exact run_string_add_sum w _ _ (by omega))
    have HA59 : Hid (∀ w, (Op.stringOp .add x56 fp).run Tryz.prog w = .ok (.string x59) w) := Lib.hid (fun w => by rw [hx59]; exact run_string_add_sum w _ _ (by omega))
    have HA61 : Hid (∀ w, (Op.stringOp .add x59 z12).run Tryz.prog w = .ok (.string x61) w) := Lib.hid (fun w => by rw [hx61]; exact run_string_add_sum w _ _ (by omega))
    have HX42 := Lib.hid hx42
    have HX44 := Lib.hid hx44
    have HX48 := Lib.hid hx48
    have HX52 := Lib.hid hx52
    have HX54 := Lib.hid hx54
    have HX56 := Lib.hid hx56
    have HX59 := Lib.hid hx59
    have HX61 := Lib.hid hx61
    clear hx42 hx44 hx48 hx52 hx54 hx56 hx59 hx61
    refine wp_region_inv (by kernel_rfl) (fun w' => Below w3.heap.size w3 w') (fun x y => Below x.heap.size x y) (fun d v _ => match d with | 38 => v = .string fl | 39 => v = .pointer (some ⟨w.heap.size, 2, none⟩) | 40 => v = .string l | 41 => v = .string fll | 42 => v = .string x42 | 43 => v = .string mg | 44 => v = .string x44 | 45 => v = .pointer (some ⟨w.heap.size, 7, none⟩) | 46 => v = .string us | 47 => v = .string fu | 48 => v = .string x48 | 49 => v = .pointer (some ⟨w.heap.size, 8, none⟩) | 50 => v = .string gr | 51 => v = .string fg | 52 => v = .string x52 | 53 => v = .string o0 | 54 => v = .string x54 | 55 => v = .string o0 | 56 => v = .string x56 | 57 => v = .string pf | 58 => v = .string fp | 59 => v = .string x59 | 60 => v = .string z12 | 61 => v = .string x61 | 14 => v = .string x61 | _ => True) (by kernel_rfl) ((Below.refl _ _).drew) (fun _ _ _ _ _ _ h => h) ?hops ?hend
    case hops =>
      simp only [List.forall_mem_cons]
      refine ⟨?o38, ?o39, ?o40, ?o41, ?o42, ?o43, ?o44, ?o45, ?o46, ?o47, ?o48, ?o49, ?o50, ?o51, ?o52, ?o53, ?o54, ?o55, ?o56, ?o57, ?o58, ?o59, ?o60, ?o61, ?o14, fun _ h => by cases h⟩
      case o38 =>
        intro Q a w2 hC hV hI
        have e3 : a.eval (.tmp 3) = .string fl := (hI 3 (by simp [Op.operands]) (by kernel_rfl)).trans rfl
        have f3 : a.tmps.getD 3 undef = .string fl := e3
        have g3 : a.tmps[3]?.getD undef = .string fl := by rw [← Array.getD_eq_getD_getElem?]; exact e3
        refine op_val (.string fl) ?_ hC (Below.refl _ _) (by intro d hd; cases hd; rfl)
        (clear hV hI hC; go_simp <;> (first | rfl | simp))
      case o39 =>
        intro Q a w2 hC hV hI
        have e6 : a.eval (.tmp 6) = .pointer (some ⟨w.heap.size, 0, none⟩) := (hI 6 (by simp [Op.operands]) (by kernel_rfl)).trans rfl
        have f6 : a.tmps.getD 6 undef = .pointer (some ⟨w.heap.size, 0, none⟩) := e6
        have g6 : a.tmps[6]?.getD undef = .pointer (some ⟨w.heap.size, 0, none⟩) := by rw [← Array.getD_eq_getD_getElem?]; exact e6
        refine op_val (.pointer (some ⟨w.heap.size, 2, none⟩)) ?_ hC (Below.refl _ _) (by intro d hd; cases hd; rfl)
        (clear hV hI hC; go_simp <;> (first | rfl | simp))
      case o40 =>
        intro Q a w2 hC hV hI
        have e39 : a.eval (.tmp 39) = .pointer (some ⟨w.heap.size, 2, none⟩) := hV 39 (by simp [Op.operands]) (by kernel_rfl)
        have f39 : a.tmps.getD 39 undef = .pointer (some ⟨w.heap.size, 2, none⟩) := e39
        have g39 : a.tmps[39]?.getD undef = .pointer (some ⟨w.heap.size, 2, none⟩) := by rw [← Array.getD_eq_getD_getElem?]; exact e39
        have hK := KC.out w2 hC
        refine op_val (.string l) ?_ hC (Below.refl _ _) (by intro d hd; cases hd; rfl)
        (clear hV hI hC; go_simp <;> (first | rfl | simp))
      case o41 =>
        intro Q a w2 hC hV hI
        have e40 : a.eval (.tmp 40) = .string l := hV 40 (by simp [Op.operands, Call.operands]) (by kernel_rfl)
        have f40 : a.tmps.getD 40 undef = .string l := e40
        have g40 : a.tmps[40]?.getD undef = .string l := by rw [← Array.getD_eq_getD_getElem?]; exact e40
        refine op_call (f := 66) (args := #[.string l, .int .i64 100]) (R := fun v y => v = .string fll ∧ Below w2.heap.size w2 y) ?_ ((HLk.out w2).mono ?_) ?_
        · (clear hV hI hC; go_simp <;> (first | rfl | simp))
        · rintro e y ⟨rfl, hb⟩; exact ⟨_, rfl, rfl, hb⟩
        · rintro v y ⟨rfl, hb⟩; exact ⟨hC.trans (hb.mono hC.size), hb, by intro d hd; cases hd; rfl⟩
      case o42 =>
        intro Q a w2 hC hV hI
        have e38 : a.eval (.tmp 38) = .string fl := hV 38 (by simp [Op.operands]) (by kernel_rfl)
        have f38 : a.tmps.getD 38 undef = .string fl := e38
        have g38 : a.tmps[38]?.getD undef = .string fl := by rw [← Array.getD_eq_getD_getElem?]; exact e38
        have e41 : a.eval (.tmp 41) = .string fll := hV 41 (by simp [Op.operands]) (by kernel_rfl)
        have f41 : a.tmps.getD 41 undef = .string fll := e41
        have g41 : a.tmps[41]?.getD undef = .string fll := by rw [← Array.getD_eq_getD_getElem?]; exact e41
        refine op_val (.string x42) ?_ hC (Below.refl _ _) (by intro d hd; cases hd; rfl)
        have q := HA42.out w2
        (clear hV hI hC; go_simp <;> (first | rfl | simp))
      case o43 =>
        intro Q a w2 hC hV hI
        have e5 : a.eval (.tmp 5) = .string mg := (hI 5 (by simp [Op.operands]) (by kernel_rfl)).trans rfl
        have f5 : a.tmps.getD 5 undef = .string mg := e5
        have g5 : a.tmps[5]?.getD undef = .string mg := by rw [← Array.getD_eq_getD_getElem?]; exact e5
        refine op_val (.string mg) ?_ hC (Below.refl _ _) (by intro d hd; cases hd; rfl)
        (clear hV hI hC; go_simp <;> (first | rfl | simp))
      case o44 =>
        intro Q a w2 hC hV hI
        have e42 : a.eval (.tmp 42) = .string x42 := hV 42 (by simp [Op.operands]) (by kernel_rfl)
        have f42 : a.tmps.getD 42 undef = .string x42 := e42
        have g42 : a.tmps[42]?.getD undef = .string x42 := by rw [← Array.getD_eq_getD_getElem?]; exact e42
        have e43 : a.eval (.tmp 43) = .string mg := hV 43 (by simp [Op.operands]) (by kernel_rfl)
        have f43 : a.tmps.getD 43 undef = .string mg := e43
        have g43 : a.tmps[43]?.getD undef = .string mg := by rw [← Array.getD_eq_getD_getElem?]; exact e43
        refine op_val (.string x44) ?_ hC (Below.refl _ _) (by intro d hd; cases hd; rfl)
        have q := HA44.out w2
        (clear hV hI hC; go_simp <;> (first | rfl | simp))
      case o45 =>
        intro Q a w2 hC hV hI
        have e6 : a.eval (.tmp 6) = .pointer (some ⟨w.heap.size, 0, none⟩) := (hI 6 (by simp [Op.operands]) (by kernel_rfl)).trans rfl
        have f6 : a.tmps.getD 6 undef = .pointer (some ⟨w.heap.size, 0, none⟩) := e6
        have g6 : a.tmps[6]?.getD undef = .pointer (some ⟨w.heap.size, 0, none⟩) := by rw [← Array.getD_eq_getD_getElem?]; exact e6
        refine op_val (.pointer (some ⟨w.heap.size, 7, none⟩)) ?_ hC (Below.refl _ _) (by intro d hd; cases hd; rfl)
        (clear hV hI hC; go_simp <;> (first | rfl | simp))
      case o46 =>
        intro Q a w2 hC hV hI
        have e45 : a.eval (.tmp 45) = .pointer (some ⟨w.heap.size, 7, none⟩) := hV 45 (by simp [Op.operands]) (by kernel_rfl)
        have f45 : a.tmps.getD 45 undef = .pointer (some ⟨w.heap.size, 7, none⟩) := e45
        have g45 : a.tmps[45]?.getD undef = .pointer (some ⟨w.heap.size, 7, none⟩) := by rw [← Array.getD_eq_getD_getElem?]; exact e45
        have hK := KC.out w2 hC
        refine op_val (.string us) ?_ hC (Below.refl _ _) (by intro d hd; cases hd; rfl)
        (clear hV hI hC; go_simp <;> (first | rfl | simp))
      case o47 =>
        intro Q a w2 hC hV hI
        have e46 : a.eval (.tmp 46) = .string us := hV 46 (by simp [Op.operands, Call.operands]) (by kernel_rfl)
        have f46 : a.tmps.getD 46 undef = .string us := e46
        have g46 : a.tmps[46]?.getD undef = .string us := by rw [← Array.getD_eq_getD_getElem?]; exact e46
        refine op_call (f := 66) (args := #[.string us, .int .i64 32]) (R := fun v y => v = .string fu ∧ Below w2.heap.size w2 y) ?_ ((HU.out w2).mono ?_) ?_
        · (clear hV hI hC; go_simp <;> (first | rfl | simp))
        · rintro e y ⟨rfl, hb⟩; exact ⟨_, rfl, rfl, hb⟩
        · rintro v y ⟨rfl, hb⟩; exact ⟨hC.trans (hb.mono hC.size), hb, by intro d hd; cases hd; rfl⟩
      case o48 =>
        intro Q a w2 hC hV hI
        have e44 : a.eval (.tmp 44) = .string x44 := hV 44 (by simp [Op.operands]) (by kernel_rfl)
        have f44 : a.tmps.getD 44 undef = .string x44 := e44
        have g44 : a.tmps[44]?.getD undef = .string x44 := by rw [← Array.getD_eq_getD_getElem?]; exact e44
        have e47 : a.eval (.tmp 47) = .string fu := hV 47 (by simp [Op.operands]) (by kernel_rfl)
        have f47 : a.tmps.getD 47 undef = .string fu := e47
        have g47 : a.tmps[47]?.getD undef = .string fu := by rw [← Array.getD_eq_getD_getElem?]; exact e47
        refine op_val (.string x48) ?_ hC (Below.refl _ _) (by intro d hd; cases hd; rfl)
        have q := HA48.out w2
        (clear hV hI hC; go_simp <;> (first | rfl | simp))
      case o49 =>
        intro Q a w2 hC hV hI
        have e6 : a.eval (.tmp 6) = .pointer (some ⟨w.heap.size, 0, none⟩) := (hI 6 (by simp [Op.operands]) (by kernel_rfl)).trans rfl
        have f6 : a.tmps.getD 6 undef = .pointer (some ⟨w.heap.size, 0, none⟩) := e6
        have g6 : a.tmps[6]?.getD undef = .pointer (some ⟨w.heap.size, 0, none⟩) := by rw [← Array.getD_eq_getD_getElem?]; exact e6
        refine op_val (.pointer (some ⟨w.heap.size, 8, none⟩)) ?_ hC (Below.refl _ _) (by intro d hd; cases hd; rfl)
        (clear hV hI hC; go_simp <;> (first | rfl | simp))
      case o50 =>
        intro Q a w2 hC hV hI
        have e49 : a.eval (.tmp 49) = .pointer (some ⟨w.heap.size, 8, none⟩) := hV 49 (by simp [Op.operands]) (by kernel_rfl)
        have f49 : a.tmps.getD 49 undef = .pointer (some ⟨w.heap.size, 8, none⟩) := e49
        have g49 : a.tmps[49]?.getD undef = .pointer (some ⟨w.heap.size, 8, none⟩) := by rw [← Array.getD_eq_getD_getElem?]; exact e49
        have hK := KC.out w2 hC
        refine op_val (.string gr) ?_ hC (Below.refl _ _) (by intro d hd; cases hd; rfl)
        (clear hV hI hC; go_simp <;> (first | rfl | simp))
      case o51 =>
        intro Q a w2 hC hV hI
        have e50 : a.eval (.tmp 50) = .string gr := hV 50 (by simp [Op.operands, Call.operands]) (by kernel_rfl)
        have f50 : a.tmps.getD 50 undef = .string gr := e50
        have g50 : a.tmps[50]?.getD undef = .string gr := by rw [← Array.getD_eq_getD_getElem?]; exact e50
        refine op_call (f := 66) (args := #[.string gr, .int .i64 32]) (R := fun v y => v = .string fg ∧ Below w2.heap.size w2 y) ?_ ((HG.out w2).mono ?_) ?_
        · (clear hV hI hC; go_simp <;> (first | rfl | simp))
        · rintro e y ⟨rfl, hb⟩; exact ⟨_, rfl, rfl, hb⟩
        · rintro v y ⟨rfl, hb⟩; exact ⟨hC.trans (hb.mono hC.size), hb, by intro d hd; cases hd; rfl⟩
      case o52 =>
        intro Q a w2 hC hV hI
        have e48 : a.eval (.tmp 48) = .string x48 := hV 48 (by simp [Op.operands]) (by kernel_rfl)
        have f48 : a.tmps.getD 48 undef = .string x48 := e48
        have g48 : a.tmps[48]?.getD undef = .string x48 := by rw [← Array.getD_eq_getD_getElem?]; exact e48
        have e51 : a.eval (.tmp 51) = .string fg := hV 51 (by simp [Op.operands]) (by kernel_rfl)
        have f51 : a.tmps.getD 51 undef = .string fg := e51
        have g51 : a.tmps[51]?.getD undef = .string fg := by rw [← Array.getD_eq_getD_getElem?]; exact e51
        refine op_val (.string x52) ?_ hC (Below.refl _ _) (by intro d hd; cases hd; rfl)
        have q := HA52.out w2
        (clear hV hI hC; go_simp <;> (first | rfl | simp))
      case o53 =>
        intro Q a w2 hC hV hI
        refine op_call (f := 68) (args := #[.int .i64 0, .int .i64 8]) (R := fun v y => v = .string o0 ∧ w2 = y) ?_ ((HO0.out w2).mono ?_) ?_
        · (clear hV hI hC; go_simp <;> (first | rfl | simp))
        · rintro e y ⟨rfl, rfl⟩; exact ⟨_, rfl, rfl, rfl⟩
        · rintro v y ⟨rfl, rfl⟩; exact ⟨hC, Below.refl _ _, by intro d hd; cases hd; rfl⟩
      case o54 =>
        intro Q a w2 hC hV hI
        have e52 : a.eval (.tmp 52) = .string x52 := hV 52 (by simp [Op.operands]) (by kernel_rfl)
        have f52 : a.tmps.getD 52 undef = .string x52 := e52
        have g52 : a.tmps[52]?.getD undef = .string x52 := by rw [← Array.getD_eq_getD_getElem?]; exact e52
        have e53 : a.eval (.tmp 53) = .string o0 := hV 53 (by simp [Op.operands]) (by kernel_rfl)
        have f53 : a.tmps.getD 53 undef = .string o0 := e53
        have g53 : a.tmps[53]?.getD undef = .string o0 := by rw [← Array.getD_eq_getD_getElem?]; exact e53
        refine op_val (.string x54) ?_ hC (Below.refl _ _) (by intro d hd; cases hd; rfl)
        have q := HA54.out w2
        (clear hV hI hC; go_simp <;> (first | rfl | simp))
      case o55 =>
        intro Q a w2 hC hV hI
        refine op_call (f := 68) (args := #[.int .i64 0, .int .i64 8]) (R := fun v y => v = .string o0 ∧ w2 = y) ?_ ((HO0.out w2).mono ?_) ?_
        · (clear hV hI hC; go_simp <;> (first | rfl | simp))
        · rintro e y ⟨rfl, rfl⟩; exact ⟨_, rfl, rfl, rfl⟩
        · rintro v y ⟨rfl, rfl⟩; exact ⟨hC, Below.refl _ _, by intro d hd; cases hd; rfl⟩
      case o56 =>
        intro Q a w2 hC hV hI
        have e54 : a.eval (.tmp 54) = .string x54 := hV 54 (by simp [Op.operands]) (by kernel_rfl)
        have f54 : a.tmps.getD 54 undef = .string x54 := e54
        have g54 : a.tmps[54]?.getD undef = .string x54 := by rw [← Array.getD_eq_getD_getElem?]; exact e54
        have e55 : a.eval (.tmp 55) = .string o0 := hV 55 (by simp [Op.operands]) (by kernel_rfl)
        have f55 : a.tmps.getD 55 undef = .string o0 := e55
        have g55 : a.tmps[55]?.getD undef = .string o0 := by rw [← Array.getD_eq_getD_getElem?]; exact e55
        refine op_val (.string x56) ?_ hC (Below.refl _ _) (by intro d hd; cases hd; rfl)
        have q := HA56.out w2
        (clear hV hI hC; go_simp <;> (first | rfl | simp))
      case o57 =>
        intro Q a w2 hC hV hI
        have e2 : a.eval (.tmp 2) = .string pf := (hI 2 (by simp [Op.operands]) (by kernel_rfl)).trans rfl
        have f2 : a.tmps.getD 2 undef = .string pf := e2
        have g2 : a.tmps[2]?.getD undef = .string pf := by rw [← Array.getD_eq_getD_getElem?]; exact e2
        refine op_val (.string pf) ?_ hC (Below.refl _ _) (by intro d hd; cases hd; rfl)
        (clear hV hI hC; go_simp <;> (first | rfl | simp))
      case o58 =>
        intro Q a w2 hC hV hI
        have e57 : a.eval (.tmp 57) = .string pf := hV 57 (by simp [Op.operands, Call.operands]) (by kernel_rfl)
        have f57 : a.tmps.getD 57 undef = .string pf := e57
        have g57 : a.tmps[57]?.getD undef = .string pf := by rw [← Array.getD_eq_getD_getElem?]; exact e57
        refine op_call (f := 66) (args := #[.string pf, .int .i64 155]) (R := fun v y => v = .string fp ∧ Below w2.heap.size w2 y) ?_ ((HP.out w2).mono ?_) ?_
        · (clear hV hI hC; go_simp <;> (first | rfl | simp))
        · rintro e y ⟨rfl, hb⟩; exact ⟨_, rfl, rfl, hb⟩
        · rintro v y ⟨rfl, hb⟩; exact ⟨hC.trans (hb.mono hC.size), hb, by intro d hd; cases hd; rfl⟩
      case o59 =>
        intro Q a w2 hC hV hI
        have e56 : a.eval (.tmp 56) = .string x56 := hV 56 (by simp [Op.operands]) (by kernel_rfl)
        have f56 : a.tmps.getD 56 undef = .string x56 := e56
        have g56 : a.tmps[56]?.getD undef = .string x56 := by rw [← Array.getD_eq_getD_getElem?]; exact e56
        have e58 : a.eval (.tmp 58) = .string fp := hV 58 (by simp [Op.operands]) (by kernel_rfl)
        have f58 : a.tmps.getD 58 undef = .string fp := e58
        have g58 : a.tmps[58]?.getD undef = .string fp := by rw [← Array.getD_eq_getD_getElem?]; exact e58
        refine op_val (.string x59) ?_ hC (Below.refl _ _) (by intro d hd; cases hd; rfl)
        have q := HA59.out w2
        (clear hV hI hC; go_simp <;> (first | rfl | simp))
      case o60 =>
        intro Q a w2 hC hV hI
        refine op_call (f := 21) (args := #[.int .i64 12]) (R := fun v y => v = .string z12 ∧ Below w2.heap.size w2 y) ?_ ((HZ.out w2).mono ?_) ?_
        · (clear hV hI hC; go_simp <;> (first | rfl | simp))
        · rintro e y ⟨rfl, hb⟩; exact ⟨_, rfl, rfl, hb⟩
        · rintro v y ⟨rfl, hb⟩; exact ⟨hC.trans (hb.mono hC.size), hb, by intro d hd; cases hd; rfl⟩
      case o61 =>
        intro Q a w2 hC hV hI
        have e59 : a.eval (.tmp 59) = .string x59 := hV 59 (by simp [Op.operands]) (by kernel_rfl)
        have f59 : a.tmps.getD 59 undef = .string x59 := e59
        have g59 : a.tmps[59]?.getD undef = .string x59 := by rw [← Array.getD_eq_getD_getElem?]; exact e59
        have e60 : a.eval (.tmp 60) = .string z12 := hV 60 (by simp [Op.operands]) (by kernel_rfl)
        have f60 : a.tmps.getD 60 undef = .string z12 := e60
        have g60 : a.tmps[60]?.getD undef = .string z12 := by rw [← Array.getD_eq_getD_getElem?]; exact e60
        refine op_val (.string x61) ?_ hC (Below.refl _ _) (by intro d hd; cases hd; rfl)
        have q := HA61.out w2
        (clear hV hI hC; go_simp <;> (first | rfl | simp))
      case o14 =>
        intro Q a w2 hC hV hI
        have e61 : a.eval (.tmp 61) = .string x61 := hV 61 (by simp [Op.operands]) (by kernel_rfl)
        have f61 : a.tmps.getD 61 undef = .string x61 := e61
        have g61 : a.tmps[61]?.getD undef = .string x61 := by rw [← Array.getD_eq_getD_getElem?]; exact e61
        refine op_val (.string x61) ?_ hC (Below.refl _ _) (by intro d hd; cases hd; rfl)
        (clear hV hI hC; go_simp <;> (first | rfl | simp))
    case hend =>
      intro f w4 hC hall
      clear HA42 HA44 HA48 HA52 HA54 HA56 HA59 HA61
      simp only [List.forall_mem_cons] at hall
      obtain ⟨h38, h39, h40, h41, h42, h43, h44, h45, h46, h47, h48, h49, h50, h51, h52, h53, h54, h55, h56, h57, h58, h59, h60, h61, h14, _⟩ := hall
      replace h38 : f 38 = .string fl := h38 38 rfl
      replace h39 : f 39 = .pointer (some ⟨w.heap.size, 2, none⟩) := h39 39 rfl
      replace h40 : f 40 = .string l := h40 40 rfl
      replace h41 : f 41 = .string fll := h41 41 rfl
      replace h42 : f 42 = .string x42 := h42 42 rfl
      replace h43 : f 43 = .string mg := h43 43 rfl
      replace h44 : f 44 = .string x44 := h44 44 rfl
      replace h45 : f 45 = .pointer (some ⟨w.heap.size, 7, none⟩) := h45 45 rfl
      replace h46 : f 46 = .string us := h46 46 rfl
      replace h47 : f 47 = .string fu := h47 47 rfl
      replace h48 : f 48 = .string x48 := h48 48 rfl
      replace h49 : f 49 = .pointer (some ⟨w.heap.size, 8, none⟩) := h49 49 rfl
      replace h50 : f 50 = .string gr := h50 50 rfl
      replace h51 : f 51 = .string fg := h51 51 rfl
      replace h52 : f 52 = .string x52 := h52 52 rfl
      replace h53 : f 53 = .string o0 := h53 53 rfl
      replace h54 : f 54 = .string x54 := h54 54 rfl
      replace h55 : f 55 = .string o0 := h55 55 rfl
      replace h56 : f 56 = .string x56 := h56 56 rfl
      replace h57 : f 57 = .string pf := h57 57 rfl
      replace h58 : f 58 = .string fp := h58 58 rfl
      replace h59 : f 59 = .string x59 := h59 59 rfl
      replace h60 : f 60 = .string z12 := h60 60 rfl
      replace h61 : f 61 = .string x61 := h61 61 rfl
      replace h14 : f 14 = .string x61 := h14 14 rfl
      simp only [putAll, Act.put, List.setIfInBounds_toArray, List.set_cons_succ, List.set_cons_zero, h38, h39, h40, h41, h42, h43, h44, h45, h46, h47, h48, h49, h50, h51, h52, h53, h54, h55, h56, h57, h58, h59, h60, h61, h14]
      clear h38 h39 h40 h41 h42 h43 h44 h45 h46 h47 h48 h49 h50 h51 h52 h53 h54 h55 h56 h57 h58 h59 h60 h61 h14
      have HXB : Hid (hB = x61) := Lib.hid (by rw [HEB.out, HX61.out, HX59.out, HX56.out, HX54.out, HX52.out, HX48.out, HX44.out, HX42.out])
      have B4 := Lib.hid (btE B3.out hC)
      clear hC KC E3 B3 HX42 HX44 HX48 HX52 HX54 HX56 HX59 HX61
      rw [HXA.out, HXB.out] at HE
      clear HXA HXB HEA HEB HN HLk HU HG HP HZ HOm HOu HOg HOs HOt HO0
      have S1 := Lib.hid (fun w => sum_spec x37 w (by omega))
      have S2 := Lib.hid (fun w => sum_spec x61 w (by omega))
      have b1 := sumv_bd x37.data.toList
      have b2 := sumv_bd x61.data.toList
      have l1 : x37.data.toList.length ≤ 100205 := by simp; omega
      have l2 : x61.data.toList.length ≤ 600373 := by simp; omega
      have S3 := Lib.hid (fun w => putOct_spec (sumv x37.data.toList + 256 + sumv x61.data.toList) 6 w)
      have zo := putOct_size (sumv x37.data.toList + 256 + sumv x61.data.toList) 6
      generalize putOctv (sumv x37.data.toList + 256 + sumv x61.data.toList) 6 = pr at HE S3 zo
      obtain ⟨od, ob⟩ := pr
      simp only at HE S3 zo
      generalize sumv x37.data.toList = s1 at *
      generalize sumv x61.data.toList = s2 at *
      go_wp2_with fail
      refine (S1.out _).mono ?_
      rintro e w5 ⟨rfl, rfl⟩
      go_wp2_with fail
      refine (S2.out _).mono ?_
      rintro e w5 ⟨rfl, rfl⟩
      go_wp2_with fail
      refine (S3.out _).mono ?_
      rintro e w5 ⟨rfl, rfl⟩
      have zc : (x37 ++ od).size ≤ 100225 := by rw [ByteArray.size_append]; omega
      have zc2 : (x37 ++ od ++ (⟨#[0, 32]⟩ : ByteArray)).size ≤ 100227 := by rw [ByteArray.size_append]; have : (⟨#[0, 32]⟩ : ByteArray).size = 2 := rfl; omega
      go_wp2
      go_ret
      exact ⟨ret_str HE.out.symm, B4.out⟩
end Go.Proofs.YtgpgkgahbkmdiaaGreatDoor

/- Contract of spec.PutHead. -/
namespace Go.Proofs.YtgpgkgahbkmdiaaGreatDoor
open Go.ChangeShapes Go.WideShapes Go.ChangeAt Go.RowKit Go.Deep

set_option maxHeartbeats 1600000 in
set_option maxRecDepth 8000 in
theorem putHead_spec (k : Int) (p l : ByteArray) (m u g t : Int) (us gr b fl : ByteArray) (sz : Int) (w : World) (hp : p.size ≤ 4194304) (hl : l.size ≤ 4194304) (hus : us.size ≤ 4194304) (hgr : gr.size ≤ 4194304) (hbz : b.size ≤ 4194304) :
    Calls Tryz.prog 31 #[.agg #[.int .i64 k, .string p, .string l, .int .i64 m, .int .i64 u, .int .i64 g, .int .i64 t, .string us, .string gr, .string b], .string fl, .int .i64 sz] w fun e w' => e = .returned (.string (putHeadv ⟨k, p, l, m, u, g, t, us, gr, b⟩ fl sz)) ∧ Below w.heap.size w w' := by
  have H1 := Lib.hid (fun w => fits_spec k p l m u g t us gr b w hp hl hus hgr hbz)
  have H2 := Lib.hid (fun w => in_any sz 0 3000 w)
  have H3 := Lib.hid (fun w => split_spec p w hp)
  by_cases hy : fitsv ⟨k, p, l, m, u, g, t, us, gr, b⟩ = true ∧ fl.size = 1 ∧ (0 ≤ sz ∧ sz ≤ 3000)
  · have HE : Hid (putHeadv ⟨k, p, l, m, u, g, t, us, gr, b⟩ fl sz = headv ⟨k, p, l, m, u, g, t, us, gr, b⟩ (splitN p) (splitP p) fl sz magicU) := Lib.hid (by rw [putHeadv, if_pos hy])
    obtain ⟨hf, hfl, hs⟩ := hy
    obtain ⟨-, -, -, -, zl, zus, zgr, hso⟩ := fits_nums hf
    simp only at zl zus zgr hso
    obtain ⟨zn, zp⟩ := split_sizes hso
    have H4 := Lib.hid (fun w => l04Head_spec k p l m u g t us gr b (splitN p) (splitP p) fl sz magicU w (by omega) (by omega) (by omega) (by omega) (by omega) (by omega) (by decide))
    rw [hf] at H1
    rw [inB_t hs] at H2
    rw [← HE.out, show magicU = ⟨#[117, 115, 116, 97, 114, 0, 48, 48]⟩ from rfl] at H4
    generalize putHeadv ⟨k, p, l, m, u, g, t, us, gr, b⟩ fl sz = r at *
    generalize splitN p = sn at *
    generalize splitP p = sp at *
    generalize splitOk p = so at *
    have hfl' : (fl.size : Int) = 1 := by omega
    clear HE hf hfl zl zus zgr zn zp hs hso hp hl hus hgr hbz
    go_enter Tryz.func31, Tryz.ntmps31
    go_wp2_with fail
    refine (H1.out _).mono ?_
    rintro e w1 ⟨rfl, hb⟩
    obtain ⟨k1, bb1, z1⟩ := one_new (e1 := ⟨k, p, l, m, u, g, t, us, gr, b⟩) hb
    have E1 := Lib.hid k1
    have B1 := Lib.hid bb1
    clear hb k1 bb1 H1
    go_wp2_with fail
    refine (H2.out _).mono ?_
    rintro e w2 ⟨rfl, rfl⟩
    obtain ⟨_, c1, _⟩ := E1.out.zero
    go_wp2_with fail
    refine (H3.out _).mono ?_
    rintro e w2 ⟨rfl, hb⟩
    have E2 := Lib.hid (E1.out.below hb (by omega))
    have B2 := Lib.hid (btE B1.out hb)
    clear hb c1 E1 B1
    obtain ⟨c0, c1, c2, c3, c4, c5, c6, c7, c8, c9⟩ := E2.out.zero
    go_wp2_with fail
    refine (H4.out _).mono ?_
    rintro e w3 ⟨rfl, hb⟩
    go_wp2
    go_ret
    exact ⟨rfl, btE B2.out hb⟩
  · have HE := Lib.hid (putHead_no hy)
    generalize putHeadv ⟨k, p, l, m, u, g, t, us, gr, b⟩ fl sz = r at HE
    generalize fitsv ⟨k, p, l, m, u, g, t, us, gr, b⟩ = bf at H1 hy
    clear hp hl hus hgr hbz H3
    cases bf with
    | false =>
      clear hy
      go_enter Tryz.func31, Tryz.ntmps31
      go_wp2_with fail
      refine (H1.out _).mono ?_
      rintro e w1 ⟨rfl, hb⟩
      obtain ⟨-, bb1, -⟩ := one_new (e1 := ⟨k, p, l, m, u, g, t, us, gr, b⟩) hb
      have B1 := Lib.hid bb1
      clear hb bb1
      go_wp2
      go_ret
      exact ⟨ret_str HE.out.symm, B1.out⟩
    | true =>
      by_cases h1 : (fl.size : Int) = 1
      · have h2 : inB sz 0 3000 = false := inB_f (fun h => hy ⟨rfl, by omega, h⟩)
        rw [h2] at H2
        clear hy h2
        go_enter Tryz.func31, Tryz.ntmps31
        go_wp2_with fail
        refine (H1.out _).mono ?_
        rintro e w1 ⟨rfl, hb⟩
        obtain ⟨-, bb1, -⟩ := one_new (e1 := ⟨k, p, l, m, u, g, t, us, gr, b⟩) hb
        have B1 := Lib.hid bb1
        clear hb bb1
        go_wp2_with fail
        refine (H2.out _).mono ?_
        rintro e w2 ⟨rfl, rfl⟩
        go_wp2
        go_ret
        exact ⟨ret_str HE.out.symm, B1.out⟩
      · clear hy
        go_enter Tryz.func31, Tryz.ntmps31
        go_wp2_with fail
        refine (H1.out _).mono ?_
        rintro e w1 ⟨rfl, hb⟩
        obtain ⟨-, bb1, -⟩ := one_new (e1 := ⟨k, p, l, m, u, g, t, us, gr, b⟩) hb
        have B1 := Lib.hid bb1
        clear hb bb1
        go_wp2
        go_ret
        exact ⟨ret_str HE.out.symm, B1.out⟩
end Go.Proofs.YtgpgkgahbkmdiaaGreatDoor

/- Contracts of spec.l05Extra and impl.recordsFile. -/
namespace Go.Proofs.YtgpgkgahbkmdiaaGreatDoor
open Go.ChangeShapes Go.WideShapes Go.ChangeAt Go.RowKit Go.Deep

set_option maxHeartbeats 1600000 in
set_option maxRecDepth 8000 in
theorem extra_spec (fl path body : ByteArray) (w : World) (hp : path.size ≤ 4194304) (hb : body.size ≤ 1000000) :
    Calls Tryz.prog 34 #[.string fl, .string path, .string body] w fun e w' => e = .returned (.string (extrav fl path body)) ∧ Below w.heap.size w w' := by
  have he : (⟨#[]⟩ : ByteArray).size ≤ 4194304 := Nat.zero_le _
  have H1 := Lib.hid (fun w => putHead_spec 0 path ⟨#[]⟩ 420 0 0 0 ⟨#[]⟩ ⟨#[]⟩ ⟨#[]⟩ fl body.size w hp he he he he)
  have H2 := Lib.hid (fun w => l04Body_spec body w (by omega))
  have z1 := putHead_le ⟨0, path, ⟨#[]⟩, 420, 0, 0, 0, ⟨#[]⟩, ⟨#[]⟩, ⟨#[]⟩⟩ fl body.size
  have z2 := body_size body
  have HE : Hid (extrav fl path body = putHeadv ⟨0, path, ⟨#[]⟩, 420, 0, 0, 0, ⟨#[]⟩, ⟨#[]⟩, ⟨#[]⟩⟩ fl body.size ++ bodyP body) := Lib.hid rfl
  generalize extrav fl path body = r at HE
  generalize putHeadv ⟨0, path, ⟨#[]⟩, 420, 0, 0, 0, ⟨#[]⟩, ⟨#[]⟩, ⟨#[]⟩⟩ fl body.size = hd at *
  generalize bodyP body = bb at *
  clear he
  go_enter Tryz.func34, Tryz.ntmps34
  go_wp2_with fail
  refine (H1.out _).mono ?_
  rintro e w1 ⟨rfl, hb1⟩
  have B1 := Lib.hid hb1
  clear hb1
  go_wp2_with fail
  refine (H2.out _).mono ?_
  rintro e w2 ⟨rfl, hb2⟩
  go_wp2
  go_ret
  exact ⟨ret_str HE.out.symm, btE B1.out hb2⟩
set_option maxHeartbeats 1600000 in
set_option maxRecDepth 8000 in
theorem recFile_impl (fl path : ByteArray) (L : List Rec) (n g cap : Nat) (w : World) (hp : path.size ≤ 4194304) (hn : n = L.length) (h5 : n ≤ 5) (hg : g < w.heap.size) (hsm : SmallR L) (h1 : RowR w g L) (hT : Tabs w) (hF : FW w) :
    Calls Tryz.prog 38 #[.string fl, .string path, .slice (some ⟨g, 0, none⟩) n cap] w fun e w' => e = .returned (.string (extrav fl path (putRecsv L))) ∧ Below w.heap.size w w' := by
  have he : (⟨#[]⟩ : ByteArray).size ≤ 4194304 := Nat.zero_le _
  have H0 := Lib.hid (fun w h0 h1 ht => putRecords_impl L n g cap w hn (by omega) h0 hsm h1 ht)
  have z1 := putRecs_le L (by omega)
  have z2 : (putRecsv L).size ≤ 1000000 := by omega
  have hem := extra_mem fl path (putRecsv L)
  generalize extrav fl path (putRecsv L) = r at *
  generalize putRecsv L = tx at *
  have H1 : Hid (∀ w, Tabs w → FW w → Calls Tryz.prog 33 #[.agg #[.int .i64 0, .string path, .string ⟨#[]⟩, .int .i64 420, .int .i64 0, .int .i64 0, .int .i64 0, .string ⟨#[]⟩, .string ⟨#[]⟩, .string tx], .string fl] w fun e w' => e = .returned (.string r) ∧ Below w.heap.size w w') := Lib.hid (fun w hT hF => hem ▸ putMember_any 0 path ⟨#[]⟩ 420 0 0 0 ⟨#[]⟩ ⟨#[]⟩ tx fl w hp he he he z2 hT hF)
  clear hem z2 hp
  have R := Lib.hid h1
  have HT := Lib.hid hT
  have HF := Lib.hid hF
  clear hT hF h1 hsm he z1 hn h5
  go_enter Tryz.func38, Tryz.ntmps38
  go_wp2_with fail
  refine (H0.out _ hg R.out HT.out.2.2).mono ?_
  rintro e w1 ⟨rfl, hb1⟩
  have B1 := Lib.hid hb1
  clear hb1
  go_wp2_with fail
  refine (H1.out _ (HT.out.below B1.out) (HF.out.below B1.out)).mono ?_
  rintro e w2 ⟨rfl, hb2⟩
  go_wp2
  go_ret
  exact ⟨rfl, btE B1.out hb2⟩
end Go.Proofs.YtgpgkgahbkmdiaaGreatDoor

/- Contracts of spec.l05Short and impl.shortLink. -/
namespace Go.Proofs.YtgpgkgahbkmdiaaGreatDoor
open Go.ChangeShapes Go.WideShapes Go.ChangeAt Go.RowKit Go.Deep


set_option maxHeartbeats 1600000 in
theorem short_spec (k : Int) (p l : ByteArray) (m u g t : Int) (us gr b : ByteArray) (w : World) (hl : l.size ≤ 4194304) (h100 : ¬ k = 3 → 100 < l.size) :
    Calls Tryz.prog 57 #[.agg #[.int .i64 k, .string p, .string l, .int .i64 m, .int .i64 u, .int .i64 g, .int .i64 t, .string us, .string gr, .string b]] w fun e w' => e = .returned (.string (shortv k p l)) ∧ Below w.heap.size w w' := by
  have HV : Hid (shortv k p l = if k ≠ 3 then l.extract 0 100 else if basev l ≠ p then basev l else if p ≠ ⟨#[120]⟩ then ⟨#[120]⟩ else ⟨#[121]⟩) := Lib.hid rfl
  generalize shortv k p l = r at HV
  have H3 := Lib.hid (fun w => base_spec l w (by omega))
  have B0 : Hid (Below w.heap.size w (w.alloc (.cells (Ent.cells ⟨k, p, l, m, u, g, t, us, gr, b⟩).toArray 34))) := Lib.hid ((Below.refl _ _).alloc (Nat.le_refl _) _)
  by_cases hk : k = 3
  · have hq : (k == 3) = true := by simp [hk]
    have hq2 : (k != 3) = false := by simp [hk]
    have HF : Hid (r = if basev l ≠ p then basev l else if p ≠ ⟨#[120]⟩ then ⟨#[120]⟩ else ⟨#[121]⟩) := Lib.hid (by rw [HV.out, if_neg (by simp [hk])])
    clear HV h100 hk
    generalize basev l = bl at H3 HF
    go_enter Tryz.func57, Tryz.ntmps57
    go_wp2_with fail
    refine (H3.out _).mono ?_
    rintro e w1 ⟨rfl, hw⟩
    have hb : Below (w.alloc (.cells (Ent.cells ⟨k, p, l, m, u, g, t, us, gr, b⟩).toArray 34)).heap.size (w.alloc (.cells (Ent.cells ⟨k, p, l, m, u, g, t, us, gr, b⟩).toArray 34)) w1 := by rw [← hw]; exact Below.refl _ _
    clear hw
    obtain ⟨k1, b1, z1⟩ := one_new (e1 := ⟨k, p, l, m, u, g, t, us, gr, b⟩) hb
    have B := Lib.hid b1
    obtain ⟨c0, c1, c2, c3, c4, c5, c6, c7, c8, c9⟩ := k1.zero
    clear hb k1 b1
    by_cases h1 : bl = p
    · have q1 := ba_eq h1
      by_cases h2 : p = ⟨#[120]⟩
      · have q2 := lit_eq (l := [120]) h2
        have q3 := lit_eq (l := [120]) (h1.trans h2)
        have HG : Hid (r = ⟨#[121]⟩) := Lib.hid (by rw [HF.out, if_neg (by simp [h1]), if_neg (by simp [h2])])
        clear h1 h2
        go_wp2_with fail
        go_ret
        exact ⟨ret_str HG.out.symm, B.out⟩
      · have q2 := lit_ne (l := [120]) h2
        have q3 := lit_ne (l := [120]) (fun e => h2 (h1.symm.trans e))
        have HG : Hid (r = ⟨#[120]⟩) := Lib.hid (by rw [HF.out, if_neg (by simp [h1]), if_pos h2])
        clear h1 h2
        go_wp2_with fail
        go_ret
        exact ⟨ret_str HG.out.symm, B.out⟩
    · have q1 := ba_ne h1
      have HG : Hid (r = bl) := Lib.hid (by rw [HF.out, if_pos h1])
      clear h1
      go_wp2_with fail
      go_ret
      exact ⟨ret_str HG.out.symm, B.out⟩
  · have hq : (k == 3) = false := by simp [hk]
    have hq2 : (k != 3) = true := by simp [hk]
    have HF : Hid (r = l.extract 0 100) := Lib.hid (by rw [HV.out, if_pos hk])
    have hl1 := h100 hk
    have hl2 : (100 : Int) ≤ (l.size : Int) := by omega
    clear HV h100 hk
    go_enter Tryz.func57, Tryz.ntmps57
    go_wp2_with fail
    go_ret
    exact ⟨ret_str HF.out.symm, B0.out⟩

set_option maxHeartbeats 1600000 in
theorem short_impl (k : Int) (p l : ByteArray) (m u g t : Int) (us gr b : ByteArray) (w : World) (hl : l.size ≤ 4194304) (h100 : ¬ k = 3 → 100 < l.size) :
    Calls Tryz.prog 61 #[.agg #[.int .i64 k, .string p, .string l, .int .i64 m, .int .i64 u, .int .i64 g, .int .i64 t, .string us, .string gr, .string b]] w fun e w' => e = .returned (.string (shortv k p l)) ∧ Below w.heap.size w w' := by
  have HV : Hid (shortv k p l = if k ≠ 3 then l.extract 0 100 else if basev l ≠ p then basev l else if p ≠ ⟨#[120]⟩ then ⟨#[120]⟩ else ⟨#[121]⟩) := Lib.hid rfl
  generalize shortv k p l = r at HV
  have H3 := Lib.hid (fun w => base_impl l w (by omega))
  have B0 : Hid (Below w.heap.size w (w.alloc (.cells (Ent.cells ⟨k, p, l, m, u, g, t, us, gr, b⟩).toArray 34))) := Lib.hid ((Below.refl _ _).alloc (Nat.le_refl _) _)
  by_cases hk : k = 3
  · have hq : (k == 3) = true := by simp [hk]
    have hq2 : (k != 3) = false := by simp [hk]
    have HF : Hid (r = if basev l ≠ p then basev l else if p ≠ ⟨#[120]⟩ then ⟨#[120]⟩ else ⟨#[121]⟩) := Lib.hid (by rw [HV.out, if_neg (by simp [hk])])
    clear HV h100 hk
    generalize basev l = bl at H3 HF
    go_enter Tryz.func61, Tryz.ntmps61
    go_wp2_with fail
    refine (H3.out _).mono ?_
    rintro e w1 ⟨rfl, hb⟩
    obtain ⟨k1, b1, z1⟩ := one_new (e1 := ⟨k, p, l, m, u, g, t, us, gr, b⟩) hb
    have B := Lib.hid b1
    obtain ⟨c0, c1, c2, c3, c4, c5, c6, c7, c8, c9⟩ := k1.zero
    clear hb k1 b1
    by_cases h1 : bl = p
    · have q1 := ba_eq h1
      by_cases h2 : p = ⟨#[120]⟩
      · have q2 := lit_eq (l := [120]) h2
        have q3 := lit_eq (l := [120]) (h1.trans h2)
        have HG : Hid (r = ⟨#[121]⟩) := Lib.hid (by rw [HF.out, if_neg (by simp [h1]), if_neg (by simp [h2])])
        clear h1 h2
        go_wp2_with fail
        go_ret
        exact ⟨ret_str HG.out.symm, B.out⟩
      · have q2 := lit_ne (l := [120]) h2
        have q3 := lit_ne (l := [120]) (fun e => h2 (h1.symm.trans e))
        have HG : Hid (r = ⟨#[120]⟩) := Lib.hid (by rw [HF.out, if_neg (by simp [h1]), if_pos h2])
        clear h1 h2
        go_wp2_with fail
        go_ret
        exact ⟨ret_str HG.out.symm, B.out⟩
    · have q1 := ba_ne h1
      have HG : Hid (r = bl) := Lib.hid (by rw [HF.out, if_pos h1])
      clear h1
      go_wp2_with fail
      go_ret
      exact ⟨ret_str HG.out.symm, B.out⟩
  · have hq : (k == 3) = false := by simp [hk]
    have hq2 : (k != 3) = true := by simp [hk]
    have HF : Hid (r = l.extract 0 100) := Lib.hid (by rw [HV.out, if_pos hk])
    have hl1 := h100 hk
    have hl2 : (100 : Int) ≤ (l.size : Int) := by omega
    clear HV h100 hk
    have KC := Lib.hid (fun w => clone_any (l.extract 0 100) w (by simp; omega))
    go_enter Tryz.func61, Tryz.ntmps61
    go_wp2_with fail
    refine (KC.out _).mono ?_
    rintro e w1 ⟨rfl, hb⟩
    have B := Lib.hid (one_new (e1 := ⟨k, p, l, m, u, g, t, us, gr, b⟩) hb).2.1
    clear hb
    go_wp2_with fail
    go_ret
    exact ⟨ret_str HF.out.symm, B.out⟩
end Go.Proofs.YtgpgkgahbkmdiaaGreatDoor

/- Contract of spec.Base1. -/
namespace Go.Proofs.YtgpgkgahbkmdiaaGreatDoor
open Go.ChangeShapes Go.WideShapes Go.ChangeAt Go.RowKit Go.Deep

/-- What the walk keeps: the records so far, the entry as it is, the argument's box and the result's. -/
def B1 (w wx : World) (gx : Nat) (v : Value) (L : List Rec) (x e : Ent) : Prop :=
  OwnR wx w.heap.size v L ∧ EntO wx gx x ∧ EntO wx w.heap.size e ∧ EntO wx (w.heap.size + 1) ⟨0, ⟨#[]⟩, ⟨#[]⟩, 0, 0, 0, 0, ⟨#[]⟩, ⟨#[]⟩, ⟨#[]⟩⟩ ∧ Below w.heap.size w wx ∧ w.heap.size + 1 < gx
theorem own_neE {w : World} {base n g : Nat} {v : Value} {xs : List Value} {e : Ent} (ho : w.ownsRow base 47 2 v n xs) (hg : EntO w g e) : some g ≠ v.ownBlock := by
  rcases ho.2 with ⟨rfl, _⟩ | ⟨g', cap, cur, rfl, _, hc, _⟩
  · simp [Value.ownBlock]
  · simp only [Value.ownBlock]
    intro h
    obtain rfl : g = g' := Option.some.inj h
    unfold EntO at hg
    rw [hg] at hc
    simp only [Option.some.injEq, Obj.cells.injEq] at hc
    exact absurd hc.2.1 (by decide)
theorem B1.below {w wx wy : World} {gx : Nat} {v : Value} {L : List Rec} {x e : Ent} (h : B1 w wx gx v L x e) (hb : Below wx.heap.size wx wy) : B1 w wy gx v L x e := by
  obtain ⟨o, a, b, c, d, z⟩ := h
  exact ⟨o.keep hb, a.below hb a.lt, b.below hb b.lt, c.below hb c.lt, btE d hb, z⟩
theorem B1.app {w wx w6 : World} {gx : Nat} {v v' : Value} {L : List Rec} {x e : Ent} {r : Rec} {t : TypeId} (h : B1 w wx gx v L x e) (hown : w6.ownsRow w.heap.size 47 2 v' (L.length + 1) (valsR L ++ valsR [r])) (hgrow : (wx.alloc (.cells r.cells.toArray t)).grownBy w6 v.ownBlock) (hnil : ¬ v' = .slice none 0 0) : B1 w w6 gx v' (L ++ [r]) x e := by
  obtain ⟨o, a, b, c, d, z⟩ := h
  have hb : Below wx.heap.size wx (wx.alloc (.cells r.cells.toArray t)) := (Below.refl _ _).alloc (Nat.le_refl _) _
  refine ⟨own_appR hown rfl rfl hnil, (a.below hb a.lt).grown hgrow (own_neE o.1 a), (b.below hb b.lt).grown hgrow (own_neE o.1 b), (c.below hb c.lt).grown hgrow (own_neE o.1 c), ?_, z⟩
  exact (d.alloc d.size _).grown hgrow (by have := d.size; simp; omega) (fun b hb => (World.ownsRow.lt o.1 b hb).1)
theorem B1.store {w wx : World} {gx : Nat} {v : Value} {L : List Rec} {x x' e : Ent} (h : B1 w wx gx v L x e) (i : Nat) (y : Value) (hx : x.cells.toArray.setIfInBounds i y = x'.cells.toArray) : B1 w (wx.setCell ⟨gx, i, none⟩ y) gx v L x' e := by
  obtain ⟨o, a, b, c, d, z⟩ := h
  have hne := own_neE o.1 a
  obtain ⟨ho, gl, cap, rfl⟩ := o
  refine ⟨OwnR.kept ⟨ho, gl, cap, rfl⟩ (grown_setO (grown_reflO wx (some gx)) i y) (fun e => hne (by rw [← e]; rfl)), a.set i y hx, b.other (by omega), c.other (by omega), d.setCell (p := ⟨gx, i, none⟩) (show w.heap.size ≤ gx by omega) _, z⟩
theorem B1.ok {w wx : World} {gx : Nat} {v : Value} {L : List Rec} {x e : Ent} (h : B1 w wx gx v L x e) : OwnR wx w.heap.size v L ∧ EntAt wx gx 0 x ∧ EntAt wx w.heap.size 0 e ∧ (∀ i, wx.frozen? ⟨gx, i, none⟩ = false) ∧ gx < wx.heap.size ∧ w.heap.size < wx.heap.size := ⟨h.1, h.2.1.at, h.2.2.1.at, h.2.1.fz, h.2.1.lt, h.2.2.1.lt⟩
set_option maxHeartbeats 6400000 in
set_option maxRecDepth 8000 in
theorem base1_spec (k : Int) (p l : ByteArray) (m u g t : Int) (us gr b : ByteArray) (w : World) (hp : p.size ≤ 4194304) (hl : l.size ≤ 4194304) (hus : us.size ≤ 4194304) (hgr : gr.size ≤ 4194304) (hbz : b.size ≤ 4194304) (hu0 : -9223372036854775808 ≤ u) (hu1 : u ≤ 9223372036854775807) (hg0 : -9223372036854775808 ≤ g) (hg1 : g ≤ 9223372036854775807) (ht0 : -9223372036854775808 ≤ t) (ht1 : t ≤ 9223372036854775807) :
    Calls Tryz.prog 36 #[.agg #[.int .i64 k, .string p, .string l, .int .i64 m, .int .i64 u, .int .i64 g, .int .i64 t, .string us, .string gr, .string b]] w fun e w' => (∃ v, e = .returned (.tuple #[.agg (base1E ⟨k, p, l, m, u, g, t, us, gr, b⟩).cells.toArray, v]) ∧ OwnR w' w.heap.size v (base1L ⟨k, p, l, m, u, g, t, us, gr, b⟩)) ∧ Below w.heap.size w w' := by
  obtain ⟨i0, hi0, hz0, hz1, hz2⟩ := info_parts Tryz.infoR
  have H1 := Lib.hid (fun w => entryOk_spec k p l m u g t us gr b w hp hl hus hgr hbz)
  have H2 := Lib.hid (fun w => split_spec p w hp)
  have H3 := Lib.hid (fun w => base_spec p w (by omega))
  have HE : Hid (base1E ⟨k, p, l, m, u, g, t, us, gr, b⟩ = if entOkv ⟨k, p, l, m, u, g, t, us, gr, b⟩ then ⟨k, b1p p, b2l k (b1p p) l, m, bn 2097151 u, bn 2097151 g, bn 8589934591 t, us, gr, b⟩ else ⟨0, ⟨#[]⟩, ⟨#[]⟩, 0, 0, 0, 0, ⟨#[]⟩, ⟨#[]⟩, ⟨#[]⟩⟩) := Lib.hid rfl
  have HL : Hid (base1L ⟨k, p, l, m, u, g, t, us, gr, b⟩ = if entOkv ⟨k, p, l, m, u, g, t, us, gr, b⟩ then bnL kTime 8589934591 t (bnL kGid 2097151 g (bnL kUid 2097151 u (b2L k (b1p p) l (b1L p)))) else []) := Lib.hid rfl
  generalize base1E ⟨k, p, l, m, u, g, t, us, gr, b⟩ = rE at HE
  generalize base1L ⟨k, p, l, m, u, g, t, us, gr, b⟩ = rL at HL
  generalize entOkv ⟨k, p, l, m, u, g, t, us, gr, b⟩ = ok at H1 HE HL
  go_enter Tryz.func36, Tryz.ntmps36
  go_wp2_with fail
  refine (H1.out _).mono ?_
  rintro e w1 ⟨rfl, hb⟩
  obtain ⟨e1, e2, e3, e4, e5⟩ := three_new (e := ⟨k, p, l, m, u, g, t, us, gr, b⟩) (z := ⟨0, ⟨#[]⟩, ⟨#[]⟩, 0, 0, 0, 0, ⟨#[]⟩, ⟨#[]⟩, ⟨#[]⟩⟩) hb
  have EO := Lib.hid e1
  have RO := Lib.hid e2
  have OL := Lib.hid e3
  have B := Lib.hid e4
  clear hb e1 e2 e3 e4
  obtain ⟨c0, c1, c2, c3, c4, c5, c6, c7, c8, c9⟩ := EO.out.at.zero
  cases ok with
  | false =>
    obtain ⟨d0, d1, d2, d3, d4, d5, d6, d7, d8, d9⟩ := RO.out.at.zero
    have f0 := RO.out.fz 0
    have f1 := RO.out.fz 1
    have f2 := RO.out.fz 2
    have f3 := RO.out.fz 3
    have f4 := RO.out.fz 4
    have f5 := RO.out.fz 5
    have f6 := RO.out.fz 6
    have f7 := RO.out.fz 7
    have f8 := RO.out.fz 8
    have f9 := RO.out.fz 9
    go_wp2_with fail
    have RP := RO.out.put ⟨0, ⟨#[]⟩, ⟨#[]⟩, 0, 0, 0, 0, ⟨#[]⟩, ⟨#[]⟩, ⟨#[]⟩⟩
    have BP := below_putE (g := w.heap.size + 1) B.out (by omega) ⟨0, ⟨#[]⟩, ⟨#[]⟩, 0, 0, 0, 0, ⟨#[]⟩, ⟨#[]⟩, ⟨#[]⟩⟩
    have OP := OwnR.kept (w' := putE w1 (w.heap.size + 1) ⟨0, ⟨#[]⟩, ⟨#[]⟩, 0, 0, 0, 0, ⟨#[]⟩, ⟨#[]⟩, ⟨#[]⟩⟩) OL.out (row := some (w.heap.size + 1)) (grown_putE w1 _ _) (fun e => by have := Option.some.inj e; omega)
    simp only [putE] at RP BP OP
    refine bodyPost_ret (res_ent2 rfl _ rfl RP) rfl ?_
    exact ⟨⟨_, by rw [HE.out]; rfl, by rw [HL.out]; exact OP⟩, BP⟩
  | true =>
    have zx : w.heap.size < w1.heap.size := by omega
    have hal : Below w1.heap.size w1 (w1.alloc (.cells #[.int .i64 k, .string p, .string l, .int .i64 m, .int .i64 u, .int .i64 g, .int .i64 t, .string us, .string gr, .string b] 34)) := (Below.refl _ _).alloc (Nat.le_refl _) _
    have XO := Lib.hid (EntO.new w1 ⟨k, p, l, m, u, g, t, us, gr, b⟩)
    replace EO := Lib.hid (EO.out.below hal (by omega))
    replace RO := Lib.hid (RO.out.below hal (by omega))
    replace OL := Lib.hid (OL.out.keep hal)
    replace B := Lib.hid (btE B.out hal)
    have XO2 : Hid (EntO (w1.alloc (.cells #[.int .i64 k, .string p, .string l, .int .i64 m, .int .i64 u, .int .i64 g, .int .i64 t, .string us, .string gr, .string b] 34)) w1.heap.size ⟨k, p, l, m, u, g, t, us, gr, b⟩) := XO
    clear hal XO
    have cc := EO.out.at.zero
    obtain ⟨x0, x1, x2, x3, x4, x5, x6, x7, x8, x9⟩ := cc
    go_wp2_with fail
    refine (H2.out _).mono ?_
    rintro e w2 ⟨rfl, hb⟩
    replace EO := Lib.hid (EO.out.below hb EO.out.lt)
    replace RO := Lib.hid (RO.out.below hb RO.out.lt)
    replace XO2 := Lib.hid (XO2.out.below hb XO2.out.lt)
    replace OL := Lib.hid (OL.out.keep hb)
    replace B := Lib.hid (btE B.out hb)
    clear hb x0 x1 x2 x3 x4 x5 x6 x7 x8 x9 c0 c1 c2 c3 c4 c5 c6 c7 c8 c9
    generalize w1.heap.size = gx at *
    have ST : Hid (B1 w w2 gx (.slice (some ⟨w.heap.size + 2, 0, none⟩) 0 0) [] ⟨k, p, l, m, u, g, t, us, gr, b⟩ ⟨k, p, l, m, u, g, t, us, gr, b⟩) := Lib.hid ⟨OL.out, XO2.out, EO.out, RO.out, B.out, by omega⟩
    clear EO RO XO2 OL B
    -- STAGES
    have HB1 : Hid (b1p p = if splitOk p then p else basev p) := Lib.hid rfl
    have HB2 : Hid (b1L p = if splitOk p then [] else [⟨kPath, p⟩]) := Lib.hid rfl
    have hl1 := b1L_len p
    generalize splitOk p = so at HB1 HB2 ⊢
    generalize b1p p = p1 at HB1 HE HL ⊢
    generalize b1L p = L1 at HB2 HL hl1 ⊢
    go_upto_if 24 with fail
    go_cut [4] (fun v wx => B1 w wx gx v L1 ⟨k, p1, l, m, u, g, t, us, gr, b⟩ ⟨k, p, l, m, u, g, t, us, gr, b⟩)
    case first =>
      cases so with
      | true =>
        go_wp2_with fail
        go_meet
        case rel => rw [show p1 = p from HB1.out, show L1 = [] from HB2.out]; exact ST.out
      | false =>
        have hL1 : L1 = [⟨kPath, p⟩] := HB2.out
        have hp1 : p1 = basev p := HB1.out
        rw [← hp1] at H3
        subst hL1
        clear HB1 HB2 HE HL hp1
        obtain ⟨ol, xa, ea, xf, zx1, ze1⟩ := ST.out.ok
        have ow := ol.1
        have OW := Lib.hid ow
        obtain ⟨c0, c1, c2, c3, c4, c5, c6, c7, c8, c9⟩ := ea.zero
        obtain ⟨d0, d1, d2, d3, d4, d5, d6, d7, d8, d9⟩ := xa.zero
        have zB := ST.out.2.2.2.2.1.size
        clear ol ow xa ea xf
        go_wp2_with (at_builtin; refine wpList_append_own _ rfl _ _ 48 rfl w.heap.size 47 i0 (.agg #[.string ⟨#[]⟩, .string ⟨#[]⟩]) 2 32 Tryz.underlying48 hi0 hz0 hz1 hz2 rfl (by decide) _ ([] : List Rec).length (valsR ([] : List Rec)) rfl ?c0q1 ⟨w2.heap.size, 0, none⟩ 1 1 (valsR [(⟨kPath, p⟩ : Rec)]) rfl (valsR_len _) ?c1q1 ?c2q1 ?c3q1 ?c4q1 ?c5q1 ?_)
        case c0q1 => exact World.ownsRow.alloc OW.out _
        case c1q1 => intro jj uu hu; rw [valsR_one] at hu; first | exact hu | exact newR w2 (⟨kPath, p⟩ : Rec) _ jj uu (by rw [valsR_one]; exact hu)
        case c2q1 => exact valsR_onecell _
        any_goals (first | (simp only [maxLen]; omega) | omega | (simp; omega))
        intro v' w6 hown hgrow hnil
        have S6 := Lib.hid (B1.app ST.out hown hgrow hnil)
        clear ST OW hown hgrow hnil c0 c1 c2 c3 c4 c5 c6 c7 c8 c9 d0 d1 d2 d3 d4 d5 d6 d7 d8 d9
        obtain ⟨ol, xa, ea, xf, zx2, ze2⟩ := S6.out.ok
        obtain ⟨c0, c1, c2, c3, c4, c5, c6, c7, c8, c9⟩ := ea.zero
        obtain ⟨d0, d1, d2, d3, d4, d5, d6, d7, d8, d9⟩ := xa.zero
        have f1 := xf 1
        have f2 := xf 2
        have f4 := xf 4
        have f5 := xf 5
        have f6 := xf 6
        clear ol xa ea xf
        go_wp2_with fail
        refine (H3.out _).mono ?_
        rintro e w7 ⟨rfl, hw⟩
        obtain rfl : w6 = w7 := hw
        go_wp2_with fail
        go_meet
        case rel => exact S6.out.store 1 (.string p1) rfl
    case rest =>
      clear ST H2 H3 HB1 HB2
      have ST := Lib.hid hcut
      clear hcut
      have HB0 : Hid (b2c k p1 l = (decide (100 < l.size) || (decide (k = 3) && decide (l = p1)))) := Lib.hid rfl
      have HB1 : Hid (b2l k p1 l = if b2c k p1 l then shortv k p1 l else l) := Lib.hid rfl
      have HB2 : Hid (b2L k p1 l L1 = if b2c k p1 l then L1 ++ [⟨kLink, l⟩] else L1) := Lib.hid rfl
      have hl2 := b2L_len k p1 l L1
      generalize b2l k p1 l = l2 at HB1 HE ⊢
      generalize b2L k p1 l L1 = L2 at HB2 HL hl2 ⊢
      generalize b2c k p1 l = cc at HB0 HB1 HB2 ⊢
      obtain ⟨gl, cl, hvl, _, _, _, _⟩ := ST.out.1.open
      subst hvl
      obtain ⟨ol, xa, ea, xf, zx1, ze1⟩ := ST.out.ok
      have ow := ol.1
      have OW := Lib.hid ow
      obtain ⟨c0, c1, c2, c3, c4, c5, c6, c7, c8, c9⟩ := ea.zero
      obtain ⟨d0, d1, d2, d3, d4, d5, d6, d7, d8, d9⟩ := xa.zero
      have zB := ST.out.2.2.2.2.1.size
      clear ol ow xa ea xf
      go_upto_region 9 with fail
      go_cut [4, 50] (fun v4 v wx => v4 = .slice (some ⟨gl, 0, none⟩) L1.length cl ∧ v = .bool cc ∧ wx = wc)
      case first =>
        by_cases a1 : (100 : Int) < (l.size : Int)
        · have HC : Hid (cc = true) := Lib.hid (by rw [HB0.out, decide_eq_true (by omega)]; rfl)
          go_wp2_with fail
          go_meet
          case rel => exact ⟨rfl, by rw [HC.out], rfl⟩
        · by_cases a2 : k = 3
          · have hq : (k == 3) = true := by simp [a2]
            by_cases a3 : l = p1
            · have q3 := ba_eq a3
              have HC : Hid (cc = true) := Lib.hid (by rw [HB0.out]; simp [a2, a3])
              clear a2 a3
              go_wp2_with fail
              go_meet
              case rel => exact ⟨rfl, by rw [HC.out], rfl⟩
            · have q3 := ba_ne a3
              have HC : Hid (cc = false) := Lib.hid (by rw [HB0.out]; simp [a3]; omega)
              clear a2 a3
              go_wp2_with fail
              go_meet
              case rel => exact ⟨rfl, by rw [HC.out], rfl⟩
          · have hq : (k == 3) = false := by simp [a2]
            have HC : Hid (cc = false) := Lib.hid (by rw [HB0.out]; simp [a2]; omega)
            clear a2
            go_wp2_with fail
            go_meet
            case rel => exact ⟨rfl, by rw [HC.out], rfl⟩
      case rest =>
        obtain ⟨hv4, hv5, hw5⟩ := hcut
        subst hv4 hv5
        obtain rfl := hw5
        have HK : cc = true → ¬ k = 3 → 100 < l.size := fun h h3 => by rw [HB0.out] at h; simp [h3] at h; exact h
        go_upto_if 50 with fail
        go_cut [4] (fun v wx => B1 w wx gx v L2 ⟨k, p1, l2, m, u, g, t, us, gr, b⟩ ⟨k, p, l, m, u, g, t, us, gr, b⟩)
        case first =>
          cases hcc : cc with
          | false =>
            rw [hcc] at HB1 HB2
            go_wp2_with fail
            go_meet
            case rel => rw [show l2 = l from HB1.out, show L2 = L1 from HB2.out]; exact ST.out
          | true =>
            rw [hcc] at HB1 HB2
            have hL2 : L2 = L1 ++ [⟨kLink, l⟩] := HB2.out
            have hl2' : l2 = shortv k p1 l := HB1.out
            have H4 := Lib.hid (fun w => short_spec k p1 l m u g t us gr b w hl (HK hcc))
            rw [← hl2'] at H4
            subst hL2
            clear HB0 HB1 HB2 HE HL hl2' HK
            go_wp2_with (at_builtin; refine wpList_append_own _ rfl _ _ 48 rfl w.heap.size 47 i0 (.agg #[.string ⟨#[]⟩, .string ⟨#[]⟩]) 2 32 Tryz.underlying48 hi0 hz0 hz1 hz2 rfl (by decide) _ (L1).length (valsR (L1)) rfl ?c0q2 ⟨wc.heap.size, 0, none⟩ 1 1 (valsR [(⟨kLink, l⟩ : Rec)]) rfl (valsR_len _) ?c1q2 ?c2q2 ?c3q2 ?c4q2 ?c5q2 ?_)
            case c0q2 => exact World.ownsRow.alloc OW.out _
            case c1q2 => intro jj uu hu; rw [valsR_one] at hu; first | exact hu | exact newR wc (⟨kLink, l⟩ : Rec) _ jj uu (by rw [valsR_one]; exact hu)
            case c2q2 => exact valsR_onecell _
            any_goals (first | (simp only [maxLen]; omega) | omega | (simp; omega))
            intro v' w6 hown hgrow hnil
            have S6 := Lib.hid (B1.app ST.out hown hgrow hnil)
            clear ST OW hown hgrow hnil c0 c1 c2 c3 c4 c5 c6 c7 c8 c9 d0 d1 d2 d3 d4 d5 d6 d7 d8 d9
            obtain ⟨ol, xa, ea, xf, zx2, ze2⟩ := S6.out.ok
            obtain ⟨c0, c1, c2, c3, c4, c5, c6, c7, c8, c9⟩ := ea.zero
            obtain ⟨d0, d1, d2, d3, d4, d5, d6, d7, d8, d9⟩ := xa.zero
            have f1 := xf 1
            have f2 := xf 2
            have f4 := xf 4
            have f5 := xf 5
            have f6 := xf 6
            clear ol xa ea xf
            go_wp2_with fail
            refine (H4.out _).mono ?_
            rintro e w7 ⟨rfl, hb⟩
            have S7 := Lib.hid (S6.out.below hb)
            clear hb S6 c0 c1 c2 c3 c4 c5 c6 c7 c8 c9 d0 d1 d2 d3 d4 d5 d6 d7 d8 d9 f1 f2 f4 f5 f6
            obtain ⟨ol, xa, ea, xf, zx3, ze3⟩ := S7.out.ok
            obtain ⟨d0, d1, d2, d3, d4, d5, d6, d7, d8, d9⟩ := xa.zero
            have f2 := xf 2
            clear ol xa ea xf
            go_wp2_with fail
            go_meet
            case rel => exact S7.out.store 2 (.string l2) rfl
        case rest =>
          clear ST HB0 HB1 HB2 HK OW c0 c1 c2 c3 c4 c5 c6 c7 c8 c9 d0 d1 d2 d3 d4 d5 d6 d7 d8 d9 zx1 ze1 zB
          have ST := Lib.hid hcut
          clear hcut
          have HB1 : Hid (bn 2097151 u = if 2097151 < u then 0 else u) := Lib.hid rfl
          have HB2 : Hid (bnL kUid 2097151 u L2 = if 2097151 < u then L2 ++ [⟨kUid, decTextv u⟩] else L2) := Lib.hid rfl
          have hl3 := bnL_len kUid 2097151 u L2
          generalize bn 2097151 u = u3 at HB1 HE ⊢
          generalize bnL kUid 2097151 u L2 = L3 at HB2 HL hl3 ⊢
          obtain ⟨gl, cl, hvl, _, _, _, _⟩ := ST.out.1.open
          subst hvl
          obtain ⟨ol, xa, ea, xf, zx1, ze1⟩ := ST.out.ok
          have ow := ol.1
          have OW := Lib.hid ow
          obtain ⟨c0, c1, c2, c3, c4, c5, c6, c7, c8, c9⟩ := ea.zero
          obtain ⟨d0, d1, d2, d3, d4, d5, d6, d7, d8, d9⟩ := xa.zero
          have zB := ST.out.2.2.2.2.1.size
          clear ol ow xa ea xf
          go_upto_if 62 with fail
          go_cut [4] (fun v wx => B1 w wx gx v L3 ⟨k, p1, l2, m, u3, g, t, us, gr, b⟩ ⟨k, p, l, m, u, g, t, us, gr, b⟩)
          case first =>
            by_cases hq : 2097151 < u
            · have hn : u3 = 0 := by rw [HB1.out, if_pos hq]
              have hL : L3 = L2 ++ [⟨kUid, decTextv u⟩] := by rw [HB2.out, if_pos hq]
              have H5 := Lib.hid (fun w => decText_spec u hu0 hu1 w)
              subst hL
              have HN0 := Lib.hid hn
              clear HB1 HB2 HE HL hn
              go_wp2_with fail
              refine (H5.out _).mono ?_
              rintro e w5 ⟨rfl, hw5⟩
              obtain rfl : wc = w5 := hw5
              go_wp2_with (at_builtin; refine wpList_append_own _ rfl _ _ 48 rfl w.heap.size 47 i0 (.agg #[.string ⟨#[]⟩, .string ⟨#[]⟩]) 2 32 Tryz.underlying48 hi0 hz0 hz1 hz2 rfl (by decide) _ (L2).length (valsR (L2)) rfl ?c0q3 ⟨wc.heap.size, 0, none⟩ 1 1 (valsR [(⟨kUid, decTextv u⟩ : Rec)]) rfl (valsR_len _) ?c1q3 ?c2q3 ?c3q3 ?c4q3 ?c5q3 ?_)
              case c0q3 => exact World.ownsRow.alloc OW.out _
              case c1q3 => intro jj uu hu; rw [valsR_one] at hu; first | exact hu | exact newR wc (⟨kUid, decTextv u⟩ : Rec) _ jj uu (by rw [valsR_one]; exact hu)
              case c2q3 => exact valsR_onecell _
              any_goals (first | (simp only [maxLen]; omega) | omega | (simp; omega))
              intro v' w6 hown hgrow hnil
              have S6 := Lib.hid (B1.app ST.out hown hgrow hnil)
              clear ST OW hown hgrow hnil c0 c1 c2 c3 c4 c5 c6 c7 c8 c9 d0 d1 d2 d3 d4 d5 d6 d7 d8 d9
              obtain ⟨ol, xa, ea, xf, zx2, ze2⟩ := S6.out.ok
              obtain ⟨c0, c1, c2, c3, c4, c5, c6, c7, c8, c9⟩ := ea.zero
              obtain ⟨d0, d1, d2, d3, d4, d5, d6, d7, d8, d9⟩ := xa.zero
              have f1 := xf 1
              have f2 := xf 2
              have f4 := xf 4
              have f5 := xf 5
              have f6 := xf 6
              clear ol xa ea xf
              go_wp2_with fail
              go_meet
              case rel => rw [HN0.out]; exact S6.out.store 4 (.int .i64 0) rfl
            · have hn : u3 = u := by rw [HB1.out, if_neg hq]
              have hL : L3 = L2 := by rw [HB2.out, if_neg hq]
              clear HB1 HB2 HE HL
              go_wp2_with fail
              go_meet
              case rel => rw [hn, hL]; exact ST.out
          case rest =>
            clear ST HB1 HB2 OW c0 c1 c2 c3 c4 c5 c6 c7 c8 c9 d0 d1 d2 d3 d4 d5 d6 d7 d8 d9 zx1 ze1 zB
            have ST := Lib.hid hcut
            clear hcut
            have HB1 : Hid (bn 2097151 g = if 2097151 < g then 0 else g) := Lib.hid rfl
            have HB2 : Hid (bnL kGid 2097151 g L3 = if 2097151 < g then L3 ++ [⟨kGid, decTextv g⟩] else L3) := Lib.hid rfl
            have hl4 := bnL_len kGid 2097151 g L3
            generalize bn 2097151 g = g4 at HB1 HE ⊢
            generalize bnL kGid 2097151 g L3 = L4 at HB2 HL hl4 ⊢
            obtain ⟨gl, cl, hvl, _, _, _, _⟩ := ST.out.1.open
            subst hvl
            obtain ⟨ol, xa, ea, xf, zx1, ze1⟩ := ST.out.ok
            have ow := ol.1
            have OW := Lib.hid ow
            obtain ⟨c0, c1, c2, c3, c4, c5, c6, c7, c8, c9⟩ := ea.zero
            obtain ⟨d0, d1, d2, d3, d4, d5, d6, d7, d8, d9⟩ := xa.zero
            have zB := ST.out.2.2.2.2.1.size
            clear ol ow xa ea xf
            go_upto_if 73 with fail
            go_cut [4] (fun v wx => B1 w wx gx v L4 ⟨k, p1, l2, m, u3, g4, t, us, gr, b⟩ ⟨k, p, l, m, u, g, t, us, gr, b⟩)
            case first =>
              by_cases hq : 2097151 < g
              · have hn : g4 = 0 := by rw [HB1.out, if_pos hq]
                have hL : L4 = L3 ++ [⟨kGid, decTextv g⟩] := by rw [HB2.out, if_pos hq]
                have H5 := Lib.hid (fun w => decText_spec g hg0 hg1 w)
                subst hL
                have HN0 := Lib.hid hn
                clear HB1 HB2 HE HL hn
                go_wp2_with fail
                refine (H5.out _).mono ?_
                rintro e w5 ⟨rfl, hw5⟩
                obtain rfl : wc = w5 := hw5
                go_wp2_with (at_builtin; refine wpList_append_own _ rfl _ _ 48 rfl w.heap.size 47 i0 (.agg #[.string ⟨#[]⟩, .string ⟨#[]⟩]) 2 32 Tryz.underlying48 hi0 hz0 hz1 hz2 rfl (by decide) _ (L3).length (valsR (L3)) rfl ?c0q4 ⟨wc.heap.size, 0, none⟩ 1 1 (valsR [(⟨kGid, decTextv g⟩ : Rec)]) rfl (valsR_len _) ?c1q4 ?c2q4 ?c3q4 ?c4q4 ?c5q4 ?_)
                case c0q4 => exact World.ownsRow.alloc OW.out _
                case c1q4 => intro jj uu hu; rw [valsR_one] at hu; first | exact hu | exact newR wc (⟨kGid, decTextv g⟩ : Rec) _ jj uu (by rw [valsR_one]; exact hu)
                case c2q4 => exact valsR_onecell _
                any_goals (first | (simp only [maxLen]; omega) | omega | (simp; omega))
                intro v' w6 hown hgrow hnil
                have S6 := Lib.hid (B1.app ST.out hown hgrow hnil)
                clear ST OW hown hgrow hnil c0 c1 c2 c3 c4 c5 c6 c7 c8 c9 d0 d1 d2 d3 d4 d5 d6 d7 d8 d9
                obtain ⟨ol, xa, ea, xf, zx2, ze2⟩ := S6.out.ok
                obtain ⟨c0, c1, c2, c3, c4, c5, c6, c7, c8, c9⟩ := ea.zero
                obtain ⟨d0, d1, d2, d3, d4, d5, d6, d7, d8, d9⟩ := xa.zero
                have f1 := xf 1
                have f2 := xf 2
                have f4 := xf 4
                have f5 := xf 5
                have f6 := xf 6
                clear ol xa ea xf
                go_wp2_with fail
                go_meet
                case rel => rw [HN0.out]; exact S6.out.store 5 (.int .i64 0) rfl
              · have hn : g4 = g := by rw [HB1.out, if_neg hq]
                have hL : L4 = L3 := by rw [HB2.out, if_neg hq]
                clear HB1 HB2 HE HL
                go_wp2_with fail
                go_meet
                case rel => rw [hn, hL]; exact ST.out
            case rest =>
              clear ST HB1 HB2 OW c0 c1 c2 c3 c4 c5 c6 c7 c8 c9 d0 d1 d2 d3 d4 d5 d6 d7 d8 d9 zx1 ze1 zB
              have ST := Lib.hid hcut
              clear hcut
              have HB1 : Hid (bn 8589934591 t = if 8589934591 < t then 0 else t) := Lib.hid rfl
              have HB2 : Hid (bnL kTime 8589934591 t L4 = if 8589934591 < t then L4 ++ [⟨kTime, decTextv t⟩] else L4) := Lib.hid rfl
              have hl5 := bnL_len kTime 8589934591 t L4
              generalize bn 8589934591 t = t5 at HB1 HE ⊢
              generalize bnL kTime 8589934591 t L4 = L5 at HB2 HL hl5 ⊢
              obtain ⟨gl, cl, hvl, _, _, _, _⟩ := ST.out.1.open
              subst hvl
              obtain ⟨ol, xa, ea, xf, zx1, ze1⟩ := ST.out.ok
              have ow := ol.1
              have OW := Lib.hid ow
              obtain ⟨c0, c1, c2, c3, c4, c5, c6, c7, c8, c9⟩ := ea.zero
              obtain ⟨d0, d1, d2, d3, d4, d5, d6, d7, d8, d9⟩ := xa.zero
              have zB := ST.out.2.2.2.2.1.size
              clear ol ow xa ea xf
              go_upto_if 84 with fail
              go_cut [4] (fun v wx => B1 w wx gx v L5 ⟨k, p1, l2, m, u3, g4, t5, us, gr, b⟩ ⟨k, p, l, m, u, g, t, us, gr, b⟩)
              case first =>
                by_cases hq : 8589934591 < t
                · have hn : t5 = 0 := by rw [HB1.out, if_pos hq]
                  have hL : L5 = L4 ++ [⟨kTime, decTextv t⟩] := by rw [HB2.out, if_pos hq]
                  have H5 := Lib.hid (fun w => decText_spec t ht0 ht1 w)
                  subst hL
                  have HN0 := Lib.hid hn
                  clear HB1 HB2 HE HL hn
                  go_wp2_with fail
                  refine (H5.out _).mono ?_
                  rintro e w5 ⟨rfl, hw5⟩
                  obtain rfl : wc = w5 := hw5
                  go_wp2_with (at_builtin; refine wpList_append_own _ rfl _ _ 48 rfl w.heap.size 47 i0 (.agg #[.string ⟨#[]⟩, .string ⟨#[]⟩]) 2 32 Tryz.underlying48 hi0 hz0 hz1 hz2 rfl (by decide) _ (L4).length (valsR (L4)) rfl ?c0q5 ⟨wc.heap.size, 0, none⟩ 1 1 (valsR [(⟨kTime, decTextv t⟩ : Rec)]) rfl (valsR_len _) ?c1q5 ?c2q5 ?c3q5 ?c4q5 ?c5q5 ?_)
                  case c0q5 => exact World.ownsRow.alloc OW.out _
                  case c1q5 => intro jj uu hu; rw [valsR_one] at hu; first | exact hu | exact newR wc (⟨kTime, decTextv t⟩ : Rec) _ jj uu (by rw [valsR_one]; exact hu)
                  case c2q5 => exact valsR_onecell _
                  any_goals (first | (simp only [maxLen]; omega) | omega | (simp; omega))
                  intro v' w6 hown hgrow hnil
                  have S6 := Lib.hid (B1.app ST.out hown hgrow hnil)
                  clear ST OW hown hgrow hnil c0 c1 c2 c3 c4 c5 c6 c7 c8 c9 d0 d1 d2 d3 d4 d5 d6 d7 d8 d9
                  obtain ⟨ol, xa, ea, xf, zx2, ze2⟩ := S6.out.ok
                  obtain ⟨c0, c1, c2, c3, c4, c5, c6, c7, c8, c9⟩ := ea.zero
                  obtain ⟨d0, d1, d2, d3, d4, d5, d6, d7, d8, d9⟩ := xa.zero
                  have f1 := xf 1
                  have f2 := xf 2
                  have f4 := xf 4
                  have f5 := xf 5
                  have f6 := xf 6
                  clear ol xa ea xf
                  go_wp2_with fail
                  go_meet
                  case rel => rw [HN0.out]; exact S6.out.store 6 (.int .i64 0) rfl
                · have hn : t5 = t := by rw [HB1.out, if_neg hq]
                  have hL : L5 = L4 := by rw [HB2.out, if_neg hq]
                  clear HB1 HB2 HE HL
                  go_wp2_with fail
                  go_meet
                  case rel => rw [hn, hL]; exact ST.out
              case rest =>
                clear ST HB1 HB2 OW c0 c1 c2 c3 c4 c5 c6 c7 c8 c9 d0 d1 d2 d3 d4 d5 d6 d7 d8 d9 zx1 ze1 zB
                have ST := Lib.hid hcut
                clear hcut
                obtain ⟨gl, cl, hvl, _, _, _, _⟩ := ST.out.1.open
                subst hvl
                obtain ⟨o, a, b9, c, d, z⟩ := ST.out
                have OL := Lib.hid o
                have RO := Lib.hid c
                have B := Lib.hid d
                obtain ⟨x0, x1, x2, x3, x4, x5, x6, x7, x8, x9⟩ := a.at.zero
                obtain ⟨d0, d1, d2, d3, d4, d5, d6, d7, d8, d9⟩ := RO.out.at.zero
                have f0 := RO.out.fz 0
                have f1 := RO.out.fz 1
                have f2 := RO.out.fz 2
                have f3 := RO.out.fz 3
                have f4 := RO.out.fz 4
                have f5 := RO.out.fz 5
                have f6 := RO.out.fz 6
                have f7 := RO.out.fz 7
                have f8 := RO.out.fz 8
                have f9 := RO.out.fz 9
                have hne := own_neE o.1 c
                clear o a b9 c d ST
                have HF : Hid (rE = ⟨k, p1, l2, m, u3, g4, t5, us, gr, b⟩) := Lib.hid HE.out
                have HG : Hid (rL = L5) := Lib.hid HL.out
                clear HE HL
                go_wp2_with fail
                have RP := RO.out.put ⟨k, p1, l2, m, u3, g4, t5, us, gr, b⟩
                have BP := below_putE (g := w.heap.size + 1) B.out (by omega) ⟨k, p1, l2, m, u3, g4, t5, us, gr, b⟩
                have OP := OwnR.kept (w' := putE wc (w.heap.size + 1) ⟨k, p1, l2, m, u3, g4, t5, us, gr, b⟩) OL.out (row := some (w.heap.size + 1)) (grown_putE wc _ _) (fun e => hne (by rw [← e]; rfl))
                simp only [putE] at RP BP OP
                refine bodyPost_ret (res_ent2 rfl _ rfl RP) rfl ?_
                exact ⟨⟨_, by rw [HF.out], by rw [HG.out]; exact OP⟩, BP⟩
end Go.Proofs.YtgpgkgahbkmdiaaGreatDoor

/- Bytes of the call's own that grow, beside an entry in a block of its own. -/
namespace Go.Proofs.YtgpgkgahbkmdiaaGreatDoor
open Go.ChangeShapes Go.WideShapes Go.ChangeAt Go.RowKit Go.Deep

theorem OwnB.textU {w : World} {base n : Nat} {v : Value} {l : List UInt8} {s : ByteArray} (hn : n = l.length + s.size) (h : w.ownsRow base 5 1 v n (byteVals l ++ Lib.strCells s)) : OwnB w base v (l ++ s.data.toList) := by
  subst hn
  have e : byteVals l ++ Lib.strCells s = byteVals (l ++ s.data.toList) := by simp [byteVals, Lib.strCells]
  rw [e, show l.length + s.size = (l ++ s.data.toList).length from by simp] at h
  exact h
theorem ownB_belowU {w w' : World} {base : Nat} {v : Value} {l : List UInt8} (h : OwnB w base v l) (hb : Below w.heap.size w w') : OwnB w' base v l :=
  World.ownsRow.kept h (row := none) ⟨hb.os, hb.tape, hb.output, hb.size, fun k hk _ => hb.block k hk⟩ (by cases hv : v.ownBlock <;> simp)
/-- A row of another type is another block. -/
theorem own_ne {w : World} {base n g : Nat} {e t : TypeId} {v : Value} {xs : List Value} {c : Array Value} {fr : Nat × Nat} (ho : w.ownsRow base e 1 v n xs) (hg : w.heap[g]? = some (.cells c t fr)) (hne : t ≠ e) : some g ≠ v.ownBlock := by
  rcases ho.2 with ⟨rfl, _⟩ | ⟨g', cap, cur, rfl, _, hc, _⟩
  · simp [Value.ownBlock]
  · simp only [Value.ownBlock]
    intro h
    obtain rfl : g = g' := Option.some.inj h
    rw [hg] at hc
    simp only [Option.some.injEq, Obj.cells.injEq] at hc
    exact hne hc.2.1
theorem box_kept {w w' : World} {base n g : Nat} {e t : TypeId} {v : Value} {xs : List Value} {c : Array Value} {fr : Nat × Nat} (ho : w.ownsRow base e 1 v n xs) (hg : w.heap[g]? = some (.cells c t fr)) (hne : t ≠ e) (hgrow : w.grownBy w' v.ownBlock) : w'.heap[g]? = some (.cells c t fr) := by
  have hl : g < w.heap.size := (Array.getElem?_eq_some_iff.1 hg).1
  rw [← hg]
  exact hgrow.block g hl (own_ne ho hg hne)
theorem boxK {w w' : World} {g base n : Nat} {e : Ent} {v : Value} {xs : List Value} (ho : w.ownsRow base 5 1 v n xs) (h : EntO w g e) (hgrow : w.grownBy w' v.ownBlock) : EntO w' g e :=
  box_kept ho h (by decide) hgrow
theorem ret_sb2 {a c : ByteArray} {b d : Bool} {r : ByteArray × Bool} (h : r = (a, b)) (h1 : c = a) (h2 : d = b) : Ending.returned (.tuple #[.string c, .bool d]) = .returned (.tuple #[.string r.1, .bool r.2]) := by
  subst h h1 h2; rfl
theorem OwnB.textT {w : World} {base n : Nat} {v : Value} {T s x : ByteArray} (hx : x = T ++ s) (hn : n = T.data.toList.length + s.size) (h : w.ownsRow base 5 1 v n (byteVals T.data.toList ++ Lib.strCells s)) : OwnB w base v x.data.toList := by
  have := OwnB.textU hn h
  rw [hx]
  simpa using this
theorem ba_back (T : ByteArray) : (⟨T.data.toList.toArray⟩ : ByteArray) = T := by simp
end Go.Proofs.YtgpgkgahbkmdiaaGreatDoor
