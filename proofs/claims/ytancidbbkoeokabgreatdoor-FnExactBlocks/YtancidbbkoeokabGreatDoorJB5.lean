/- Texts joined: HeadS, PutHeadS, ArchK, PutUstarS, PutMem, MapS. -/
import Derived.Lib.AppendStr
import Derived.Maps.OwnSet
import Derived.Maps.OwnOps
import Derived.Test.YtancidbbkoeokabGreatDoorJB4
/- Contracts of spec.l04Head and spec.PutHead. -/
namespace Go.Proofs.YtancidbbkoeokabGreatDoor
open Go.ChangeShapes Go.WideShapes Go.ChangeAt Go.RowKit Go.Deep

set_option maxHeartbeats 6400000 in
set_option maxRecDepth 8000 in
theorem l04Head_spec (k : Int) (p l : ByteArray) (m u g t : Int) (us gr b nm pf fl : ByteArray) (sz : Int) (mg : ByteArray) (w : World) (hl : l.size ≤ 100000) (hus : us.size ≤ 100000) (hgr : gr.size ≤ 100000) (hnm : nm.size ≤ 100000) (hpf : pf.size ≤ 100000) (hfl : fl.size ≤ 100000) (hmg : mg.size ≤ 100000) :
    Calls Tryz.prog 127 #[.agg #[.int .i64 k, .string p, .string l, .int .i64 m, .int .i64 u, .int .i64 g, .int .i64 t, .string us, .string gr, .string b], .string nm, .string pf, .string fl, .int .i64 sz, .string mg] w fun e w' => e = .returned (.string (headv ⟨k, p, l, m, u, g, t, us, gr, b⟩ nm pf fl sz mg)) ∧ Below w.heap.size w w' := by
  have HN := Lib.hid (fun w => fill_spec nm 100 w (by omega))
  have HLk := Lib.hid (fun w => fill_spec l 100 w (by omega))
  have HU := Lib.hid (fun w => fill_spec us 32 w (by omega))
  have HG := Lib.hid (fun w => fill_spec gr 32 w (by omega))
  have HP := Lib.hid (fun w => fill_spec pf 155 w (by omega))
  have HZ := Lib.hid (fun w => nuls_spec 12 w (by omega))
  have HOm := Lib.hid (fun w => l04Oct_spec m 8 w (by omega) (by omega))
  have HOu := Lib.hid (fun w => l04Oct_spec u 8 w (by omega) (by omega))
  have HOg := Lib.hid (fun w => l04Oct_spec g 8 w (by omega) (by omega))
  have HOs := Lib.hid (fun w => l04Oct_spec sz 12 w (by omega) (by omega))
  have HOt := Lib.hid (fun w => l04Oct_spec t 12 w (by omega) (by omega))
  have HO0 := Lib.hid (fun w => l04Oct_spec 0 8 w (by omega) (by omega))
  have zfn := fill_size nm 100 (by omega)
  have zfl := fill_size l 100 (by omega)
  have zfu := fill_size us 32 (by omega)
  have zfg := fill_size gr 32 (by omega)
  have zfp := fill_size pf 155 (by omega)
  have zz := nulv_size 12
  have zom := octz_size m 8
  have zou := octz_size u 8
  have zog := octz_size g 8
  have zos := octz_size sz 12
  have zot := octz_size t 12
  have zo0 := octz_size 0 8
  have HE : Hid (headv ⟨k, p, l, m, u, g, t, us, gr, b⟩ nm pf fl sz mg = headA ⟨k, p, l, m, u, g, t, us, gr, b⟩ nm sz ++ (putOctv (sumv (headA ⟨k, p, l, m, u, g, t, us, gr, b⟩ nm sz).data.toList + 256 + sumv (headB ⟨k, p, l, m, u, g, t, us, gr, b⟩ pf fl mg).data.toList) 6).1 ++ ⟨#[0, 32]⟩ ++ headB ⟨k, p, l, m, u, g, t, us, gr, b⟩ pf fl mg) := Lib.hid rfl
  have HEA : Hid (headA ⟨k, p, l, m, u, g, t, us, gr, b⟩ nm sz = fillv nm 100 ++ octz m 8 ++ octz u 8 ++ octz g 8 ++ octz sz 12 ++ octz t 12) := Lib.hid rfl
  have HEB : Hid (headB ⟨k, p, l, m, u, g, t, us, gr, b⟩ pf fl mg = fl ++ fillv l 100 ++ mg ++ fillv us 32 ++ fillv gr 32 ++ octz 0 8 ++ octz 0 8 ++ fillv pf 155 ++ nulv 12) := Lib.hid rfl
  generalize headv ⟨k, p, l, m, u, g, t, us, gr, b⟩ nm pf fl sz mg = r at HE
  generalize headA ⟨k, p, l, m, u, g, t, us, gr, b⟩ nm sz = hA at HE HEA
  generalize headB ⟨k, p, l, m, u, g, t, us, gr, b⟩ pf fl mg = hB at HE HEB
  rw [show ((12 : Int).toNat) = 12 from rfl] at HZ
  generalize fillv nm 100 = fn at *
  generalize fillv l 100 = fll at *
  generalize fillv us 32 = fu at *
  generalize fillv gr 32 = fg at *
  generalize fillv pf 155 = fp at *
  generalize nulv 12 = z12 at *
  generalize octz m 8 = om at *
  generalize octz u 8 = ou at *
  generalize octz g 8 = og at *
  generalize octz sz 12 = os at *
  generalize octz t 12 = ot at *
  generalize octz 0 8 = o0 at *
  simp only [show ((100 : Int).toNat) = 100 from rfl, show ((32 : Int).toNat) = 32 from rfl, show ((155 : Int).toNat) = 155 from rfl] at zfn zfl zfu zfg zfp
  go_enter Tryz.func127, Tryz.ntmps127
  go_wp2_with fail
  have E0 := EntAt.new w ⟨k, p, l, m, u, g, t, us, gr, b⟩ 44
  have B0 := (Below.refl w.heap.size w).alloc (Nat.le_refl _) (.cells (Ent.cells ⟨k, p, l, m, u, g, t, us, gr, b⟩).toArray 44)
  have z0 : w.heap.size < (w.alloc (.cells (Ent.cells ⟨k, p, l, m, u, g, t, us, gr, b⟩).toArray 44)).heap.size := by simp
  simp only [Ent.cells] at E0 B0 z0
  generalize w.alloc (.cells #[.int .i64 k, .string p, .string l, .int .i64 m, .int .i64 u, .int .i64 g, .int .i64 t, .string us, .string gr, .string b] 44) = w1 at *
  have E1 := Lib.hid E0
  have B1 := Lib.hid B0
  clear E0 B0
  have KC : Hid (∀ w', Below w1.heap.size w1 w' → w'.cell? ⟨w.heap.size, 1, none⟩ = some (.string p) ∧ w'.cell? ⟨w.heap.size, 2, none⟩ = some (.string l) ∧ w'.cell? ⟨w.heap.size, 3, none⟩ = some (.int .i64 m) ∧ w'.cell? ⟨w.heap.size, 4, none⟩ = some (.int .i64 u) ∧ w'.cell? ⟨w.heap.size, 5, none⟩ = some (.int .i64 g) ∧ w'.cell? ⟨w.heap.size, 6, none⟩ = some (.int .i64 t) ∧ w'.cell? ⟨w.heap.size, 7, none⟩ = some (.string us) ∧ w'.cell? ⟨w.heap.size, 8, none⟩ = some (.string gr)) := Lib.hid (fun w' hb => by obtain ⟨c0, c1, c2, c3, c4, c5, c6, c7, c8, c9⟩ := (E1.out.below hb z0).zero; exact ⟨c1, c2, c3, c4, c5, c6, c7, c8⟩)
  obtain ⟨x22, hx22⟩ : ∃ x : ByteArray, x = fn ++ om := ⟨_, rfl⟩
  obtain ⟨x26, hx26⟩ : ∃ x : ByteArray, x = x22 ++ ou := ⟨_, rfl⟩
  obtain ⟨x30, hx30⟩ : ∃ x : ByteArray, x = x26 ++ og := ⟨_, rfl⟩
  obtain ⟨x33, hx33⟩ : ∃ x : ByteArray, x = x30 ++ os := ⟨_, rfl⟩
  obtain ⟨x37, hx37⟩ : ∃ x : ByteArray, x = x33 ++ ot := ⟨_, rfl⟩
  have zx22 : x22.size ≤ 100121 := by rw [hx22, ByteArray.size_append]; omega
  have zx26 : x26.size ≤ 100142 := by rw [hx26, ByteArray.size_append]; omega
  have zx30 : x30.size ≤ 100163 := by rw [hx30, ByteArray.size_append]; omega
  have zx33 : x33.size ≤ 100184 := by rw [hx33, ByteArray.size_append]; omega
  have zx37 : x37.size ≤ 100205 := by rw [hx37, ByteArray.size_append]; omega
  have HA22 : Hid (∀ w, (Op.stringOp .add fn om).run Tryz.prog w = .ok (.string x22) w) := Lib.hid (fun w => by rw [hx22]; exact run_string_add_sum w _ _ (by omega))
  have HA26 : Hid (∀ w, (Op.stringOp .add x22 ou).run Tryz.prog w = .ok (.string x26) w) := Lib.hid (fun w => by rw [hx26]; exact run_string_add_sum w _ _ (by omega))
  have HA30 : Hid (∀ w, (Op.stringOp .add x26 og).run Tryz.prog w = .ok (.string x30) w) := Lib.hid (fun w => by rw [hx30]; exact run_string_add_sum w _ _ (by omega))
  have HA33 : Hid (∀ w, (Op.stringOp .add x30 os).run Tryz.prog w = .ok (.string x33) w) := Lib.hid (fun w => by rw [hx33]; exact run_string_add_sum w _ _ (by omega))
  have HA37 : Hid (∀ w, (Op.stringOp .add x33 ot).run Tryz.prog w = .ok (.string x37) w) := Lib.hid (fun w => by rw [hx37]; exact run_string_add_sum w _ _ (by omega))
  have HX22 := Lib.hid hx22
  have HX26 := Lib.hid hx26
  have HX30 := Lib.hid hx30
  have HX33 := Lib.hid hx33
  have HX37 := Lib.hid hx37
  clear hx22 hx26 hx30 hx33 hx37
  refine wp_region_inv (by kernel_rfl) (fun w' => Below w1.heap.size w1 w') (fun x y => Below x.heap.size x y) (fun d v _ => match d with | 17 => v = .string nm | 18 => v = .string fn | 19 => v = .pointer (some ⟨w.heap.size, 3, none⟩) | 20 => v = .int .i64 m | 21 => v = .string om | 22 => v = .string x22 | 23 => v = .pointer (some ⟨w.heap.size, 4, none⟩) | 24 => v = .int .i64 u | 25 => v = .string ou | 26 => v = .string x26 | 27 => v = .pointer (some ⟨w.heap.size, 5, none⟩) | 28 => v = .int .i64 g | 29 => v = .string og | 30 => v = .string x30 | 31 => v = .int .i64 sz | 32 => v = .string os | 33 => v = .string x33 | 34 => v = .pointer (some ⟨w.heap.size, 6, none⟩) | 35 => v = .int .i64 t | 36 => v = .string ot | 37 => v = .string x37 | 13 => v = .string x37 | _ => True) (by kernel_rfl) ((Below.refl _ _).drew) (fun _ _ _ _ _ _ h => h) ?hops ?hend
  case hops =>
    simp only [List.forall_mem_cons]
    refine ⟨?o17, ?o18, ?o19, ?o20, ?o21, ?o22, ?o23, ?o24, ?o25, ?o26, ?o27, ?o28, ?o29, ?o30, ?o31, ?o32, ?o33, ?o34, ?o35, ?o36, ?o37, ?o13, fun _ h => by cases h⟩
    case o17 =>
      intro Q a w2 hC hV hI
      have e1 : a.eval (.tmp 1) = .string nm := (hI 1 (by simp [Op.operands]) (by kernel_rfl)).trans rfl
      have f1 : a.tmps.getD 1 undef = .string nm := e1
      have g1 : a.tmps[1]?.getD undef = .string nm := by rw [← Array.getD_eq_getD_getElem?]; exact e1
      refine op_val (.string nm) ?_ hC (Below.refl _ _) (by intro d hd; cases hd; rfl)
      (clear hV hI hC; go_simp <;> (first | rfl | simp))
    case o18 =>
      intro Q a w2 hC hV hI
      have e17 : a.eval (.tmp 17) = .string nm := hV 17 (by simp [Op.operands, Call.operands]) (by kernel_rfl)
      have f17 : a.tmps.getD 17 undef = .string nm := e17
      have g17 : a.tmps[17]?.getD undef = .string nm := by rw [← Array.getD_eq_getD_getElem?]; exact e17
      refine op_call (f := 151) (args := #[.string nm, .int .i64 100]) (R := fun v y => v = .string fn ∧ Below w2.heap.size w2 y) ?_ ((HN.out w2).mono ?_) ?_
      · (clear hV hI hC; go_simp <;> (first | rfl | simp))
      · rintro e y ⟨rfl, hb⟩; exact ⟨_, rfl, rfl, hb⟩
      · rintro v y ⟨rfl, hb⟩; exact ⟨hC.trans (hb.mono hC.size), hb, by intro d hd; cases hd; rfl⟩
    case o19 =>
      intro Q a w2 hC hV hI
      have e6 : a.eval (.tmp 6) = .pointer (some ⟨w.heap.size, 0, none⟩) := (hI 6 (by simp [Op.operands]) (by kernel_rfl)).trans rfl
      have f6 : a.tmps.getD 6 undef = .pointer (some ⟨w.heap.size, 0, none⟩) := e6
      have g6 : a.tmps[6]?.getD undef = .pointer (some ⟨w.heap.size, 0, none⟩) := by rw [← Array.getD_eq_getD_getElem?]; exact e6
      refine op_val (.pointer (some ⟨w.heap.size, 3, none⟩)) ?_ hC (Below.refl _ _) (by intro d hd; cases hd; rfl)
      (clear hV hI hC; go_simp <;> (first | rfl | simp))
    case o20 =>
      intro Q a w2 hC hV hI
      have e19 : a.eval (.tmp 19) = .pointer (some ⟨w.heap.size, 3, none⟩) := hV 19 (by simp [Op.operands]) (by kernel_rfl)
      have f19 : a.tmps.getD 19 undef = .pointer (some ⟨w.heap.size, 3, none⟩) := e19
      have g19 : a.tmps[19]?.getD undef = .pointer (some ⟨w.heap.size, 3, none⟩) := by rw [← Array.getD_eq_getD_getElem?]; exact e19
      have hK := KC.out w2 hC
      refine op_val (.int .i64 m) ?_ hC (Below.refl _ _) (by intro d hd; cases hd; rfl)
      (clear hV hI hC; go_simp <;> (first | rfl | simp))
    case o21 =>
      intro Q a w2 hC hV hI
      have e20 : a.eval (.tmp 20) = .int .i64 m := hV 20 (by simp [Op.operands, Call.operands]) (by kernel_rfl)
      have f20 : a.tmps.getD 20 undef = .int .i64 m := e20
      have g20 : a.tmps[20]?.getD undef = .int .i64 m := by rw [← Array.getD_eq_getD_getElem?]; exact e20
      refine op_call (f := 153) (args := #[.int .i64 m, .int .i64 8]) (R := fun v y => v = .string om ∧ w2 = y) ?_ ((HOm.out w2).mono ?_) ?_
      · (clear hV hI hC; go_simp <;> (first | rfl | simp))
      · rintro e y ⟨rfl, rfl⟩; exact ⟨_, rfl, rfl, rfl⟩
      · rintro v y ⟨rfl, rfl⟩; exact ⟨hC, Below.refl _ _, by intro d hd; cases hd; rfl⟩
    case o22 =>
      intro Q a w2 hC hV hI
      have e18 : a.eval (.tmp 18) = .string fn := hV 18 (by simp [Op.operands]) (by kernel_rfl)
      have f18 : a.tmps.getD 18 undef = .string fn := e18
      have g18 : a.tmps[18]?.getD undef = .string fn := by rw [← Array.getD_eq_getD_getElem?]; exact e18
      have e21 : a.eval (.tmp 21) = .string om := hV 21 (by simp [Op.operands]) (by kernel_rfl)
      have f21 : a.tmps.getD 21 undef = .string om := e21
      have g21 : a.tmps[21]?.getD undef = .string om := by rw [← Array.getD_eq_getD_getElem?]; exact e21
      refine op_val (.string x22) ?_ hC (Below.refl _ _) (by intro d hd; cases hd; rfl)
      have q := HA22.out w2
      (clear hV hI hC; go_simp <;> (first | rfl | simp))
    case o23 =>
      intro Q a w2 hC hV hI
      have e6 : a.eval (.tmp 6) = .pointer (some ⟨w.heap.size, 0, none⟩) := (hI 6 (by simp [Op.operands]) (by kernel_rfl)).trans rfl
      have f6 : a.tmps.getD 6 undef = .pointer (some ⟨w.heap.size, 0, none⟩) := e6
      have g6 : a.tmps[6]?.getD undef = .pointer (some ⟨w.heap.size, 0, none⟩) := by rw [← Array.getD_eq_getD_getElem?]; exact e6
      refine op_val (.pointer (some ⟨w.heap.size, 4, none⟩)) ?_ hC (Below.refl _ _) (by intro d hd; cases hd; rfl)
      (clear hV hI hC; go_simp <;> (first | rfl | simp))
    case o24 =>
      intro Q a w2 hC hV hI
      have e23 : a.eval (.tmp 23) = .pointer (some ⟨w.heap.size, 4, none⟩) := hV 23 (by simp [Op.operands]) (by kernel_rfl)
      have f23 : a.tmps.getD 23 undef = .pointer (some ⟨w.heap.size, 4, none⟩) := e23
      have g23 : a.tmps[23]?.getD undef = .pointer (some ⟨w.heap.size, 4, none⟩) := by rw [← Array.getD_eq_getD_getElem?]; exact e23
      have hK := KC.out w2 hC
      refine op_val (.int .i64 u) ?_ hC (Below.refl _ _) (by intro d hd; cases hd; rfl)
      (clear hV hI hC; go_simp <;> (first | rfl | simp))
    case o25 =>
      intro Q a w2 hC hV hI
      have e24 : a.eval (.tmp 24) = .int .i64 u := hV 24 (by simp [Op.operands, Call.operands]) (by kernel_rfl)
      have f24 : a.tmps.getD 24 undef = .int .i64 u := e24
      have g24 : a.tmps[24]?.getD undef = .int .i64 u := by rw [← Array.getD_eq_getD_getElem?]; exact e24
      refine op_call (f := 153) (args := #[.int .i64 u, .int .i64 8]) (R := fun v y => v = .string ou ∧ w2 = y) ?_ ((HOu.out w2).mono ?_) ?_
      · (clear hV hI hC; go_simp <;> (first | rfl | simp))
      · rintro e y ⟨rfl, rfl⟩; exact ⟨_, rfl, rfl, rfl⟩
      · rintro v y ⟨rfl, rfl⟩; exact ⟨hC, Below.refl _ _, by intro d hd; cases hd; rfl⟩
    case o26 =>
      intro Q a w2 hC hV hI
      have e22 : a.eval (.tmp 22) = .string x22 := hV 22 (by simp [Op.operands]) (by kernel_rfl)
      have f22 : a.tmps.getD 22 undef = .string x22 := e22
      have g22 : a.tmps[22]?.getD undef = .string x22 := by rw [← Array.getD_eq_getD_getElem?]; exact e22
      have e25 : a.eval (.tmp 25) = .string ou := hV 25 (by simp [Op.operands]) (by kernel_rfl)
      have f25 : a.tmps.getD 25 undef = .string ou := e25
      have g25 : a.tmps[25]?.getD undef = .string ou := by rw [← Array.getD_eq_getD_getElem?]; exact e25
      refine op_val (.string x26) ?_ hC (Below.refl _ _) (by intro d hd; cases hd; rfl)
      have q := HA26.out w2
      (clear hV hI hC; go_simp <;> (first | rfl | simp))
    case o27 =>
      intro Q a w2 hC hV hI
      have e6 : a.eval (.tmp 6) = .pointer (some ⟨w.heap.size, 0, none⟩) := (hI 6 (by simp [Op.operands]) (by kernel_rfl)).trans rfl
      have f6 : a.tmps.getD 6 undef = .pointer (some ⟨w.heap.size, 0, none⟩) := e6
      have g6 : a.tmps[6]?.getD undef = .pointer (some ⟨w.heap.size, 0, none⟩) := by rw [← Array.getD_eq_getD_getElem?]; exact e6
      refine op_val (.pointer (some ⟨w.heap.size, 5, none⟩)) ?_ hC (Below.refl _ _) (by intro d hd; cases hd; rfl)
      (clear hV hI hC; go_simp <;> (first | rfl | simp))
    case o28 =>
      intro Q a w2 hC hV hI
      have e27 : a.eval (.tmp 27) = .pointer (some ⟨w.heap.size, 5, none⟩) := hV 27 (by simp [Op.operands]) (by kernel_rfl)
      have f27 : a.tmps.getD 27 undef = .pointer (some ⟨w.heap.size, 5, none⟩) := e27
      have g27 : a.tmps[27]?.getD undef = .pointer (some ⟨w.heap.size, 5, none⟩) := by rw [← Array.getD_eq_getD_getElem?]; exact e27
      have hK := KC.out w2 hC
      refine op_val (.int .i64 g) ?_ hC (Below.refl _ _) (by intro d hd; cases hd; rfl)
      (clear hV hI hC; go_simp <;> (first | rfl | simp))
    case o29 =>
      intro Q a w2 hC hV hI
      have e28 : a.eval (.tmp 28) = .int .i64 g := hV 28 (by simp [Op.operands, Call.operands]) (by kernel_rfl)
      have f28 : a.tmps.getD 28 undef = .int .i64 g := e28
      have g28 : a.tmps[28]?.getD undef = .int .i64 g := by rw [← Array.getD_eq_getD_getElem?]; exact e28
      refine op_call (f := 153) (args := #[.int .i64 g, .int .i64 8]) (R := fun v y => v = .string og ∧ w2 = y) ?_ ((HOg.out w2).mono ?_) ?_
      · (clear hV hI hC; go_simp <;> (first | rfl | simp))
      · rintro e y ⟨rfl, rfl⟩; exact ⟨_, rfl, rfl, rfl⟩
      · rintro v y ⟨rfl, rfl⟩; exact ⟨hC, Below.refl _ _, by intro d hd; cases hd; rfl⟩
    case o30 =>
      intro Q a w2 hC hV hI
      have e26 : a.eval (.tmp 26) = .string x26 := hV 26 (by simp [Op.operands]) (by kernel_rfl)
      have f26 : a.tmps.getD 26 undef = .string x26 := e26
      have g26 : a.tmps[26]?.getD undef = .string x26 := by rw [← Array.getD_eq_getD_getElem?]; exact e26
      have e29 : a.eval (.tmp 29) = .string og := hV 29 (by simp [Op.operands]) (by kernel_rfl)
      have f29 : a.tmps.getD 29 undef = .string og := e29
      have g29 : a.tmps[29]?.getD undef = .string og := by rw [← Array.getD_eq_getD_getElem?]; exact e29
      refine op_val (.string x30) ?_ hC (Below.refl _ _) (by intro d hd; cases hd; rfl)
      have q := HA30.out w2
      (clear hV hI hC; go_simp <;> (first | rfl | simp))
    case o31 =>
      intro Q a w2 hC hV hI
      have e4 : a.eval (.tmp 4) = .int .i64 sz := (hI 4 (by simp [Op.operands]) (by kernel_rfl)).trans rfl
      have f4 : a.tmps.getD 4 undef = .int .i64 sz := e4
      have g4 : a.tmps[4]?.getD undef = .int .i64 sz := by rw [← Array.getD_eq_getD_getElem?]; exact e4
      refine op_val (.int .i64 sz) ?_ hC (Below.refl _ _) (by intro d hd; cases hd; rfl)
      (clear hV hI hC; go_simp <;> (first | rfl | simp))
    case o32 =>
      intro Q a w2 hC hV hI
      have e31 : a.eval (.tmp 31) = .int .i64 sz := hV 31 (by simp [Op.operands, Call.operands]) (by kernel_rfl)
      have f31 : a.tmps.getD 31 undef = .int .i64 sz := e31
      have g31 : a.tmps[31]?.getD undef = .int .i64 sz := by rw [← Array.getD_eq_getD_getElem?]; exact e31
      refine op_call (f := 153) (args := #[.int .i64 sz, .int .i64 12]) (R := fun v y => v = .string os ∧ w2 = y) ?_ ((HOs.out w2).mono ?_) ?_
      · (clear hV hI hC; go_simp <;> (first | rfl | simp))
      · rintro e y ⟨rfl, rfl⟩; exact ⟨_, rfl, rfl, rfl⟩
      · rintro v y ⟨rfl, rfl⟩; exact ⟨hC, Below.refl _ _, by intro d hd; cases hd; rfl⟩
    case o33 =>
      intro Q a w2 hC hV hI
      have e30 : a.eval (.tmp 30) = .string x30 := hV 30 (by simp [Op.operands]) (by kernel_rfl)
      have f30 : a.tmps.getD 30 undef = .string x30 := e30
      have g30 : a.tmps[30]?.getD undef = .string x30 := by rw [← Array.getD_eq_getD_getElem?]; exact e30
      have e32 : a.eval (.tmp 32) = .string os := hV 32 (by simp [Op.operands]) (by kernel_rfl)
      have f32 : a.tmps.getD 32 undef = .string os := e32
      have g32 : a.tmps[32]?.getD undef = .string os := by rw [← Array.getD_eq_getD_getElem?]; exact e32
      refine op_val (.string x33) ?_ hC (Below.refl _ _) (by intro d hd; cases hd; rfl)
      have q := HA33.out w2
      (clear hV hI hC; go_simp <;> (first | rfl | simp))
    case o34 =>
      intro Q a w2 hC hV hI
      have e6 : a.eval (.tmp 6) = .pointer (some ⟨w.heap.size, 0, none⟩) := (hI 6 (by simp [Op.operands]) (by kernel_rfl)).trans rfl
      have f6 : a.tmps.getD 6 undef = .pointer (some ⟨w.heap.size, 0, none⟩) := e6
      have g6 : a.tmps[6]?.getD undef = .pointer (some ⟨w.heap.size, 0, none⟩) := by rw [← Array.getD_eq_getD_getElem?]; exact e6
      refine op_val (.pointer (some ⟨w.heap.size, 6, none⟩)) ?_ hC (Below.refl _ _) (by intro d hd; cases hd; rfl)
      (clear hV hI hC; go_simp <;> (first | rfl | simp))
    case o35 =>
      intro Q a w2 hC hV hI
      have e34 : a.eval (.tmp 34) = .pointer (some ⟨w.heap.size, 6, none⟩) := hV 34 (by simp [Op.operands]) (by kernel_rfl)
      have f34 : a.tmps.getD 34 undef = .pointer (some ⟨w.heap.size, 6, none⟩) := e34
      have g34 : a.tmps[34]?.getD undef = .pointer (some ⟨w.heap.size, 6, none⟩) := by rw [← Array.getD_eq_getD_getElem?]; exact e34
      have hK := KC.out w2 hC
      refine op_val (.int .i64 t) ?_ hC (Below.refl _ _) (by intro d hd; cases hd; rfl)
      (clear hV hI hC; go_simp <;> (first | rfl | simp))
    case o36 =>
      intro Q a w2 hC hV hI
      have e35 : a.eval (.tmp 35) = .int .i64 t := hV 35 (by simp [Op.operands, Call.operands]) (by kernel_rfl)
      have f35 : a.tmps.getD 35 undef = .int .i64 t := e35
      have g35 : a.tmps[35]?.getD undef = .int .i64 t := by rw [← Array.getD_eq_getD_getElem?]; exact e35
      refine op_call (f := 153) (args := #[.int .i64 t, .int .i64 12]) (R := fun v y => v = .string ot ∧ w2 = y) ?_ ((HOt.out w2).mono ?_) ?_
      · (clear hV hI hC; go_simp <;> (first | rfl | simp))
      · rintro e y ⟨rfl, rfl⟩; exact ⟨_, rfl, rfl, rfl⟩
      · rintro v y ⟨rfl, rfl⟩; exact ⟨hC, Below.refl _ _, by intro d hd; cases hd; rfl⟩
    case o37 =>
      intro Q a w2 hC hV hI
      have e33 : a.eval (.tmp 33) = .string x33 := hV 33 (by simp [Op.operands]) (by kernel_rfl)
      have f33 : a.tmps.getD 33 undef = .string x33 := e33
      have g33 : a.tmps[33]?.getD undef = .string x33 := by rw [← Array.getD_eq_getD_getElem?]; exact e33
      have e36 : a.eval (.tmp 36) = .string ot := hV 36 (by simp [Op.operands]) (by kernel_rfl)
      have f36 : a.tmps.getD 36 undef = .string ot := e36
      have g36 : a.tmps[36]?.getD undef = .string ot := by rw [← Array.getD_eq_getD_getElem?]; exact e36
      refine op_val (.string x37) ?_ hC (Below.refl _ _) (by intro d hd; cases hd; rfl)
      have q := HA37.out w2
      (clear hV hI hC; go_simp <;> (first | rfl | simp))
    case o13 =>
      intro Q a w2 hC hV hI
      have e37 : a.eval (.tmp 37) = .string x37 := hV 37 (by simp [Op.operands]) (by kernel_rfl)
      have f37 : a.tmps.getD 37 undef = .string x37 := e37
      have g37 : a.tmps[37]?.getD undef = .string x37 := by rw [← Array.getD_eq_getD_getElem?]; exact e37
      refine op_val (.string x37) ?_ hC (Below.refl _ _) (by intro d hd; cases hd; rfl)
      (clear hV hI hC; go_simp <;> (first | rfl | simp))
  case hend =>
    intro f w3 hC hall
    clear HA22 HA26 HA30 HA33 HA37
    simp only [List.forall_mem_cons] at hall
    obtain ⟨h17, h18, h19, h20, h21, h22, h23, h24, h25, h26, h27, h28, h29, h30, h31, h32, h33, h34, h35, h36, h37, h13, _⟩ := hall
    replace h17 : f 17 = .string nm := h17 17 rfl
    replace h18 : f 18 = .string fn := h18 18 rfl
    replace h19 : f 19 = .pointer (some ⟨w.heap.size, 3, none⟩) := h19 19 rfl
    replace h20 : f 20 = .int .i64 m := h20 20 rfl
    replace h21 : f 21 = .string om := h21 21 rfl
    replace h22 : f 22 = .string x22 := h22 22 rfl
    replace h23 : f 23 = .pointer (some ⟨w.heap.size, 4, none⟩) := h23 23 rfl
    replace h24 : f 24 = .int .i64 u := h24 24 rfl
    replace h25 : f 25 = .string ou := h25 25 rfl
    replace h26 : f 26 = .string x26 := h26 26 rfl
    replace h27 : f 27 = .pointer (some ⟨w.heap.size, 5, none⟩) := h27 27 rfl
    replace h28 : f 28 = .int .i64 g := h28 28 rfl
    replace h29 : f 29 = .string og := h29 29 rfl
    replace h30 : f 30 = .string x30 := h30 30 rfl
    replace h31 : f 31 = .int .i64 sz := h31 31 rfl
    replace h32 : f 32 = .string os := h32 32 rfl
    replace h33 : f 33 = .string x33 := h33 33 rfl
    replace h34 : f 34 = .pointer (some ⟨w.heap.size, 6, none⟩) := h34 34 rfl
    replace h35 : f 35 = .int .i64 t := h35 35 rfl
    replace h36 : f 36 = .string ot := h36 36 rfl
    replace h37 : f 37 = .string x37 := h37 37 rfl
    replace h13 : f 13 = .string x37 := h13 13 rfl
    simp only [putAll, Act.put, List.setIfInBounds_toArray, List.set_cons_succ, List.set_cons_zero, h17, h18, h19, h20, h21, h22, h23, h24, h25, h26, h27, h28, h29, h30, h31, h32, h33, h34, h35, h36, h37, h13]
    clear h17 h18 h19 h20 h21 h22 h23 h24 h25 h26 h27 h28 h29 h30 h31 h32 h33 h34 h35 h36 h37 h13
    have HXA : Hid (hA = x37) := Lib.hid (by rw [HEA.out, HX37.out, HX33.out, HX30.out, HX26.out, HX22.out])
    have E3 := Lib.hid (E1.out.below hC z0)
    have B3 := Lib.hid (btE B1.out hC)
    replace z0 := Nat.lt_of_lt_of_le z0 hC.size
    clear hC KC E1 B1 HX22 HX26 HX30 HX33 HX37
    go_wp2_with fail
    have KC : Hid (∀ w', Below w3.heap.size w3 w' → w'.cell? ⟨w.heap.size, 1, none⟩ = some (.string p) ∧ w'.cell? ⟨w.heap.size, 2, none⟩ = some (.string l) ∧ w'.cell? ⟨w.heap.size, 3, none⟩ = some (.int .i64 m) ∧ w'.cell? ⟨w.heap.size, 4, none⟩ = some (.int .i64 u) ∧ w'.cell? ⟨w.heap.size, 5, none⟩ = some (.int .i64 g) ∧ w'.cell? ⟨w.heap.size, 6, none⟩ = some (.int .i64 t) ∧ w'.cell? ⟨w.heap.size, 7, none⟩ = some (.string us) ∧ w'.cell? ⟨w.heap.size, 8, none⟩ = some (.string gr)) := Lib.hid (fun w' hb => by obtain ⟨c0, c1, c2, c3, c4, c5, c6, c7, c8, c9⟩ := (E3.out.below hb z0).zero; exact ⟨c1, c2, c3, c4, c5, c6, c7, c8⟩)
    obtain ⟨x42, hx42⟩ : ∃ x : ByteArray, x = fl ++ fll := ⟨_, rfl⟩
    obtain ⟨x44, hx44⟩ : ∃ x : ByteArray, x = x42 ++ mg := ⟨_, rfl⟩
    obtain ⟨x48, hx48⟩ : ∃ x : ByteArray, x = x44 ++ fu := ⟨_, rfl⟩
    obtain ⟨x52, hx52⟩ : ∃ x : ByteArray, x = x48 ++ fg := ⟨_, rfl⟩
    obtain ⟨x54, hx54⟩ : ∃ x : ByteArray, x = x52 ++ o0 := ⟨_, rfl⟩
    obtain ⟨x56, hx56⟩ : ∃ x : ByteArray, x = x54 ++ o0 := ⟨_, rfl⟩
    obtain ⟨x59, hx59⟩ : ∃ x : ByteArray, x = x56 ++ fp := ⟨_, rfl⟩
    obtain ⟨x61, hx61⟩ : ∃ x : ByteArray, x = x59 ++ z12 := ⟨_, rfl⟩
    have zx42 : x42.size ≤ 200100 := by rw [hx42, ByteArray.size_append]; omega
    have zx44 : x44.size ≤ 300100 := by rw [hx44, ByteArray.size_append]; omega
    have zx48 : x48.size ≤ 400132 := by rw [hx48, ByteArray.size_append]; omega
    have zx52 : x52.size ≤ 500164 := by rw [hx52, ByteArray.size_append]; omega
    have zx54 : x54.size ≤ 500185 := by rw [hx54, ByteArray.size_append]; omega
    have zx56 : x56.size ≤ 500206 := by rw [hx56, ByteArray.size_append]; omega
    have zx59 : x59.size ≤ 600361 := by rw [hx59, ByteArray.size_append]; omega
    have zx61 : x61.size ≤ 600373 := by rw [hx61, ByteArray.size_append]; omega
    have HA42 : Hid (∀ w, (Op.stringOp .add fl fll).run Tryz.prog w = .ok (.string x42) w) := Lib.hid (fun w => by rw [hx42]; exact run_string_add_sum w _ _ (by omega))
    have HA44 : Hid (∀ w, (Op.stringOp .add x42 mg).run Tryz.prog w = .ok (.string x44) w) := Lib.hid (fun w => by rw [hx44]; exact run_string_add_sum w _ _ (by omega))
    have HA48 : Hid (∀ w, (Op.stringOp .add x44 fu).run Tryz.prog w = .ok (.string x48) w) := Lib.hid (fun w => by rw [hx48]; exact run_string_add_sum w _ _ (by omega))
    have HA52 : Hid (∀ w, (Op.stringOp .add x48 fg).run Tryz.prog w = .ok (.string x52) w) := Lib.hid (fun w => by rw [hx52]; exact run_string_add_sum w _ _ (by omega))
    have HA54 : Hid (∀ w, (Op.stringOp .add x52 o0).run Tryz.prog w = .ok (.string x54) w) := Lib.hid (fun w => by rw [hx54]; exact run_string_add_sum w _ _ (by omega))
    have HA56 : Hid (∀ w, (Op.stringOp .add x54 o0).run Tryz.prog w = .ok (.string x56) w) := Lib.hid (fun w => by rw [hx56]; exact run_string_add_sum w _ _ (by omega))
    have HA59 : Hid (∀ w, (Op.stringOp .add x56 fp).run Tryz.prog w = .ok (.string x59) w) := Lib.hid (fun w => by rw [hx59]; exact run_string_add_sum w _ _ (by omega))
    have HA61 : Hid (∀ w, (Op.stringOp .add x59 z12).run Tryz.prog w = .ok (.string x61) w) := Lib.hid (fun w => by rw [hx61]; exact run_string_add_sum w _ _ (by omega))
    have HX42 := Lib.hid hx42
    have HX44 := Lib.hid hx44
    have HX48 := Lib.hid hx48
    have HX52 := Lib.hid hx52
    have HX54 := Lib.hid hx54
    have HX56 := Lib.hid hx56
    have HX59 := Lib.hid hx59
    have HX61 := Lib.hid hx61
    clear hx42 hx44 hx48 hx52 hx54 hx56 hx59 hx61
    refine wp_region_inv (by kernel_rfl) (fun w' => Below w3.heap.size w3 w') (fun x y => Below x.heap.size x y) (fun d v _ => match d with | 38 => v = .string fl | 39 => v = .pointer (some ⟨w.heap.size, 2, none⟩) | 40 => v = .string l | 41 => v = .string fll | 42 => v = .string x42 | 43 => v = .string mg | 44 => v = .string x44 | 45 => v = .pointer (some ⟨w.heap.size, 7, none⟩) | 46 => v = .string us | 47 => v = .string fu | 48 => v = .string x48 | 49 => v = .pointer (some ⟨w.heap.size, 8, none⟩) | 50 => v = .string gr | 51 => v = .string fg | 52 => v = .string x52 | 53 => v = .string o0 | 54 => v = .string x54 | 55 => v = .string o0 | 56 => v = .string x56 | 57 => v = .string pf | 58 => v = .string fp | 59 => v = .string x59 | 60 => v = .string z12 | 61 => v = .string x61 | 14 => v = .string x61 | _ => True) (by kernel_rfl) ((Below.refl _ _).drew) (fun _ _ _ _ _ _ h => h) ?hops ?hend
    case hops =>
      simp only [List.forall_mem_cons]
      refine ⟨?o38, ?o39, ?o40, ?o41, ?o42, ?o43, ?o44, ?o45, ?o46, ?o47, ?o48, ?o49, ?o50, ?o51, ?o52, ?o53, ?o54, ?o55, ?o56, ?o57, ?o58, ?o59, ?o60, ?o61, ?o14, fun _ h => by cases h⟩
      case o38 =>
        intro Q a w2 hC hV hI
        have e3 : a.eval (.tmp 3) = .string fl := (hI 3 (by simp [Op.operands]) (by kernel_rfl)).trans rfl
        have f3 : a.tmps.getD 3 undef = .string fl := e3
        have g3 : a.tmps[3]?.getD undef = .string fl := by rw [← Array.getD_eq_getD_getElem?]; exact e3
        refine op_val (.string fl) ?_ hC (Below.refl _ _) (by intro d hd; cases hd; rfl)
        (clear hV hI hC; go_simp <;> (first | rfl | simp))
      case o39 =>
        intro Q a w2 hC hV hI
        have e6 : a.eval (.tmp 6) = .pointer (some ⟨w.heap.size, 0, none⟩) := (hI 6 (by simp [Op.operands]) (by kernel_rfl)).trans rfl
        have f6 : a.tmps.getD 6 undef = .pointer (some ⟨w.heap.size, 0, none⟩) := e6
        have g6 : a.tmps[6]?.getD undef = .pointer (some ⟨w.heap.size, 0, none⟩) := by rw [← Array.getD_eq_getD_getElem?]; exact e6
        refine op_val (.pointer (some ⟨w.heap.size, 2, none⟩)) ?_ hC (Below.refl _ _) (by intro d hd; cases hd; rfl)
        (clear hV hI hC; go_simp <;> (first | rfl | simp))
      case o40 =>
        intro Q a w2 hC hV hI
        have e39 : a.eval (.tmp 39) = .pointer (some ⟨w.heap.size, 2, none⟩) := hV 39 (by simp [Op.operands]) (by kernel_rfl)
        have f39 : a.tmps.getD 39 undef = .pointer (some ⟨w.heap.size, 2, none⟩) := e39
        have g39 : a.tmps[39]?.getD undef = .pointer (some ⟨w.heap.size, 2, none⟩) := by rw [← Array.getD_eq_getD_getElem?]; exact e39
        have hK := KC.out w2 hC
        refine op_val (.string l) ?_ hC (Below.refl _ _) (by intro d hd; cases hd; rfl)
        (clear hV hI hC; go_simp <;> (first | rfl | simp))
      case o41 =>
        intro Q a w2 hC hV hI
        have e40 : a.eval (.tmp 40) = .string l := hV 40 (by simp [Op.operands, Call.operands]) (by kernel_rfl)
        have f40 : a.tmps.getD 40 undef = .string l := e40
        have g40 : a.tmps[40]?.getD undef = .string l := by rw [← Array.getD_eq_getD_getElem?]; exact e40
        refine op_call (f := 151) (args := #[.string l, .int .i64 100]) (R := fun v y => v = .string fll ∧ Below w2.heap.size w2 y) ?_ ((HLk.out w2).mono ?_) ?_
        · (clear hV hI hC; go_simp <;> (first | rfl | simp))
        · rintro e y ⟨rfl, hb⟩; exact ⟨_, rfl, rfl, hb⟩
        · rintro v y ⟨rfl, hb⟩; exact ⟨hC.trans (hb.mono hC.size), hb, by intro d hd; cases hd; rfl⟩
      case o42 =>
        intro Q a w2 hC hV hI
        have e38 : a.eval (.tmp 38) = .string fl := hV 38 (by simp [Op.operands]) (by kernel_rfl)
        have f38 : a.tmps.getD 38 undef = .string fl := e38
        have g38 : a.tmps[38]?.getD undef = .string fl := by rw [← Array.getD_eq_getD_getElem?]; exact e38
        have e41 : a.eval (.tmp 41) = .string fll := hV 41 (by simp [Op.operands]) (by kernel_rfl)
        have f41 : a.tmps.getD 41 undef = .string fll := e41
        have g41 : a.tmps[41]?.getD undef = .string fll := by rw [← Array.getD_eq_getD_getElem?]; exact e41
        refine op_val (.string x42) ?_ hC (Below.refl _ _) (by intro d hd; cases hd; rfl)
        have q := HA42.out w2
        (clear hV hI hC; go_simp <;> (first | rfl | simp))
      case o43 =>
        intro Q a w2 hC hV hI
        have e5 : a.eval (.tmp 5) = .string mg := (hI 5 (by simp [Op.operands]) (by kernel_rfl)).trans rfl
        have f5 : a.tmps.getD 5 undef = .string mg := e5
        have g5 : a.tmps[5]?.getD undef = .string mg := by rw [← Array.getD_eq_getD_getElem?]; exact e5
        refine op_val (.string mg) ?_ hC (Below.refl _ _) (by intro d hd; cases hd; rfl)
        (clear hV hI hC; go_simp <;> (first | rfl | simp))
      case o44 =>
        intro Q a w2 hC hV hI
        have e42 : a.eval (.tmp 42) = .string x42 := hV 42 (by simp [Op.operands]) (by kernel_rfl)
        have f42 : a.tmps.getD 42 undef = .string x42 := e42
        have g42 : a.tmps[42]?.getD undef = .string x42 := by rw [← Array.getD_eq_getD_getElem?]; exact e42
        have e43 : a.eval (.tmp 43) = .string mg := hV 43 (by simp [Op.operands]) (by kernel_rfl)
        have f43 : a.tmps.getD 43 undef = .string mg := e43
        have g43 : a.tmps[43]?.getD undef = .string mg := by rw [← Array.getD_eq_getD_getElem?]; exact e43
        refine op_val (.string x44) ?_ hC (Below.refl _ _) (by intro d hd; cases hd; rfl)
        have q := HA44.out w2
        (clear hV hI hC; go_simp <;> (first | rfl | simp))
      case o45 =>
        intro Q a w2 hC hV hI
        have e6 : a.eval (.tmp 6) = .pointer (some ⟨w.heap.size, 0, none⟩) := (hI 6 (by simp [Op.operands]) (by kernel_rfl)).trans rfl
        have f6 : a.tmps.getD 6 undef = .pointer (some ⟨w.heap.size, 0, none⟩) := e6
        have g6 : a.tmps[6]?.getD undef = .pointer (some ⟨w.heap.size, 0, none⟩) := by rw [← Array.getD_eq_getD_getElem?]; exact e6
        refine op_val (.pointer (some ⟨w.heap.size, 7, none⟩)) ?_ hC (Below.refl _ _) (by intro d hd; cases hd; rfl)
        (clear hV hI hC; go_simp <;> (first | rfl | simp))
      case o46 =>
        intro Q a w2 hC hV hI
        have e45 : a.eval (.tmp 45) = .pointer (some ⟨w.heap.size, 7, none⟩) := hV 45 (by simp [Op.operands]) (by kernel_rfl)
        have f45 : a.tmps.getD 45 undef = .pointer (some ⟨w.heap.size, 7, none⟩) := e45
        have g45 : a.tmps[45]?.getD undef = .pointer (some ⟨w.heap.size, 7, none⟩) := by rw [← Array.getD_eq_getD_getElem?]; exact e45
        have hK := KC.out w2 hC
        refine op_val (.string us) ?_ hC (Below.refl _ _) (by intro d hd; cases hd; rfl)
        (clear hV hI hC; go_simp <;> (first | rfl | simp))
      case o47 =>
        intro Q a w2 hC hV hI
        have e46 : a.eval (.tmp 46) = .string us := hV 46 (by simp [Op.operands, Call.operands]) (by kernel_rfl)
        have f46 : a.tmps.getD 46 undef = .string us := e46
        have g46 : a.tmps[46]?.getD undef = .string us := by rw [← Array.getD_eq_getD_getElem?]; exact e46
        refine op_call (f := 151) (args := #[.string us, .int .i64 32]) (R := fun v y => v = .string fu ∧ Below w2.heap.size w2 y) ?_ ((HU.out w2).mono ?_) ?_
        · (clear hV hI hC; go_simp <;> (first | rfl | simp))
        · rintro e y ⟨rfl, hb⟩; exact ⟨_, rfl, rfl, hb⟩
        · rintro v y ⟨rfl, hb⟩; exact ⟨hC.trans (hb.mono hC.size), hb, by intro d hd; cases hd; rfl⟩
      case o48 =>
        intro Q a w2 hC hV hI
        have e44 : a.eval (.tmp 44) = .string x44 := hV 44 (by simp [Op.operands]) (by kernel_rfl)
        have f44 : a.tmps.getD 44 undef = .string x44 := e44
        have g44 : a.tmps[44]?.getD undef = .string x44 := by rw [← Array.getD_eq_getD_getElem?]; exact e44
        have e47 : a.eval (.tmp 47) = .string fu := hV 47 (by simp [Op.operands]) (by kernel_rfl)
        have f47 : a.tmps.getD 47 undef = .string fu := e47
        have g47 : a.tmps[47]?.getD undef = .string fu := by rw [← Array.getD_eq_getD_getElem?]; exact e47
        refine op_val (.string x48) ?_ hC (Below.refl _ _) (by intro d hd; cases hd; rfl)
        have q := HA48.out w2
        (clear hV hI hC; go_simp <;> (first | rfl | simp))
      case o49 =>
        intro Q a w2 hC hV hI
        have e6 : a.eval (.tmp 6) = .pointer (some ⟨w.heap.size, 0, none⟩) := (hI 6 (by simp [Op.operands]) (by kernel_rfl)).trans rfl
        have f6 : a.tmps.getD 6 undef = .pointer (some ⟨w.heap.size, 0, none⟩) := e6
        have g6 : a.tmps[6]?.getD undef = .pointer (some ⟨w.heap.size, 0, none⟩) := by rw [← Array.getD_eq_getD_getElem?]; exact e6
        refine op_val (.pointer (some ⟨w.heap.size, 8, none⟩)) ?_ hC (Below.refl _ _) (by intro d hd; cases hd; rfl)
        (clear hV hI hC; go_simp <;> (first | rfl | simp))
      case o50 =>
        intro Q a w2 hC hV hI
        have e49 : a.eval (.tmp 49) = .pointer (some ⟨w.heap.size, 8, none⟩) := hV 49 (by simp [Op.operands]) (by kernel_rfl)
        have f49 : a.tmps.getD 49 undef = .pointer (some ⟨w.heap.size, 8, none⟩) := e49
        have g49 : a.tmps[49]?.getD undef = .pointer (some ⟨w.heap.size, 8, none⟩) := by rw [← Array.getD_eq_getD_getElem?]; exact e49
        have hK := KC.out w2 hC
        refine op_val (.string gr) ?_ hC (Below.refl _ _) (by intro d hd; cases hd; rfl)
        (clear hV hI hC; go_simp <;> (first | rfl | simp))
      case o51 =>
        intro Q a w2 hC hV hI
        have e50 : a.eval (.tmp 50) = .string gr := hV 50 (by simp [Op.operands, Call.operands]) (by kernel_rfl)
        have f50 : a.tmps.getD 50 undef = .string gr := e50
        have g50 : a.tmps[50]?.getD undef = .string gr := by rw [← Array.getD_eq_getD_getElem?]; exact e50
        refine op_call (f := 151) (args := #[.string gr, .int .i64 32]) (R := fun v y => v = .string fg ∧ Below w2.heap.size w2 y) ?_ ((HG.out w2).mono ?_) ?_
        · (clear hV hI hC; go_simp <;> (first | rfl | simp))
        · rintro e y ⟨rfl, hb⟩; exact ⟨_, rfl, rfl, hb⟩
        · rintro v y ⟨rfl, hb⟩; exact ⟨hC.trans (hb.mono hC.size), hb, by intro d hd; cases hd; rfl⟩
      case o52 =>
        intro Q a w2 hC hV hI
        have e48 : a.eval (.tmp 48) = .string x48 := hV 48 (by simp [Op.operands]) (by kernel_rfl)
        have f48 : a.tmps.getD 48 undef = .string x48 := e48
        have g48 : a.tmps[48]?.getD undef = .string x48 := by rw [← Array.getD_eq_getD_getElem?]; exact e48
        have e51 : a.eval (.tmp 51) = .string fg := hV 51 (by simp [Op.operands]) (by kernel_rfl)
        have f51 : a.tmps.getD 51 undef = .string fg := e51
        have g51 : a.tmps[51]?.getD undef = .string fg := by rw [← Array.getD_eq_getD_getElem?]; exact e51
        refine op_val (.string x52) ?_ hC (Below.refl _ _) (by intro d hd; cases hd; rfl)
        have q := HA52.out w2
        (clear hV hI hC; go_simp <;> (first | rfl | simp))
      case o53 =>
        intro Q a w2 hC hV hI
        refine op_call (f := 153) (args := #[.int .i64 0, .int .i64 8]) (R := fun v y => v = .string o0 ∧ w2 = y) ?_ ((HO0.out w2).mono ?_) ?_
        · (clear hV hI hC; go_simp <;> (first | rfl | simp))
        · rintro e y ⟨rfl, rfl⟩; exact ⟨_, rfl, rfl, rfl⟩
        · rintro v y ⟨rfl, rfl⟩; exact ⟨hC, Below.refl _ _, by intro d hd; cases hd; rfl⟩
      case o54 =>
        intro Q a w2 hC hV hI
        have e52 : a.eval (.tmp 52) = .string x52 := hV 52 (by simp [Op.operands]) (by kernel_rfl)
        have f52 : a.tmps.getD 52 undef = .string x52 := e52
        have g52 : a.tmps[52]?.getD undef = .string x52 := by rw [← Array.getD_eq_getD_getElem?]; exact e52
        have e53 : a.eval (.tmp 53) = .string o0 := hV 53 (by simp [Op.operands]) (by kernel_rfl)
        have f53 : a.tmps.getD 53 undef = .string o0 := e53
        have g53 : a.tmps[53]?.getD undef = .string o0 := by rw [← Array.getD_eq_getD_getElem?]; exact e53
        refine op_val (.string x54) ?_ hC (Below.refl _ _) (by intro d hd; cases hd; rfl)
        have q := HA54.out w2
        (clear hV hI hC; go_simp <;> (first | rfl | simp))
      case o55 =>
        intro Q a w2 hC hV hI
        refine op_call (f := 153) (args := #[.int .i64 0, .int .i64 8]) (R := fun v y => v = .string o0 ∧ w2 = y) ?_ ((HO0.out w2).mono ?_) ?_
        · (clear hV hI hC; go_simp <;> (first | rfl | simp))
        · rintro e y ⟨rfl, rfl⟩; exact ⟨_, rfl, rfl, rfl⟩
        · rintro v y ⟨rfl, rfl⟩; exact ⟨hC, Below.refl _ _, by intro d hd; cases hd; rfl⟩
      case o56 =>
        intro Q a w2 hC hV hI
        have e54 : a.eval (.tmp 54) = .string x54 := hV 54 (by simp [Op.operands]) (by kernel_rfl)
        have f54 : a.tmps.getD 54 undef = .string x54 := e54
        have g54 : a.tmps[54]?.getD undef = .string x54 := by rw [← Array.getD_eq_getD_getElem?]; exact e54
        have e55 : a.eval (.tmp 55) = .string o0 := hV 55 (by simp [Op.operands]) (by kernel_rfl)
        have f55 : a.tmps.getD 55 undef = .string o0 := e55
        have g55 : a.tmps[55]?.getD undef = .string o0 := by rw [← Array.getD_eq_getD_getElem?]; exact e55
        refine op_val (.string x56) ?_ hC (Below.refl _ _) (by intro d hd; cases hd; rfl)
        have q := HA56.out w2
        (clear hV hI hC; go_simp <;> (first | rfl | simp))
      case o57 =>
        intro Q a w2 hC hV hI
        have e2 : a.eval (.tmp 2) = .string pf := (hI 2 (by simp [Op.operands]) (by kernel_rfl)).trans rfl
        have f2 : a.tmps.getD 2 undef = .string pf := e2
        have g2 : a.tmps[2]?.getD undef = .string pf := by rw [← Array.getD_eq_getD_getElem?]; exact e2
        refine op_val (.string pf) ?_ hC (Below.refl _ _) (by intro d hd; cases hd; rfl)
        (clear hV hI hC; go_simp <;> (first | rfl | simp))
      case o58 =>
        intro Q a w2 hC hV hI
        have e57 : a.eval (.tmp 57) = .string pf := hV 57 (by simp [Op.operands, Call.operands]) (by kernel_rfl)
        have f57 : a.tmps.getD 57 undef = .string pf := e57
        have g57 : a.tmps[57]?.getD undef = .string pf := by rw [← Array.getD_eq_getD_getElem?]; exact e57
        refine op_call (f := 151) (args := #[.string pf, .int .i64 155]) (R := fun v y => v = .string fp ∧ Below w2.heap.size w2 y) ?_ ((HP.out w2).mono ?_) ?_
        · (clear hV hI hC; go_simp <;> (first | rfl | simp))
        · rintro e y ⟨rfl, hb⟩; exact ⟨_, rfl, rfl, hb⟩
        · rintro v y ⟨rfl, hb⟩; exact ⟨hC.trans (hb.mono hC.size), hb, by intro d hd; cases hd; rfl⟩
      case o59 =>
        intro Q a w2 hC hV hI
        have e56 : a.eval (.tmp 56) = .string x56 := hV 56 (by simp [Op.operands]) (by kernel_rfl)
        have f56 : a.tmps.getD 56 undef = .string x56 := e56
        have g56 : a.tmps[56]?.getD undef = .string x56 := by rw [← Array.getD_eq_getD_getElem?]; exact e56
        have e58 : a.eval (.tmp 58) = .string fp := hV 58 (by simp [Op.operands]) (by kernel_rfl)
        have f58 : a.tmps.getD 58 undef = .string fp := e58
        have g58 : a.tmps[58]?.getD undef = .string fp := by rw [← Array.getD_eq_getD_getElem?]; exact e58
        refine op_val (.string x59) ?_ hC (Below.refl _ _) (by intro d hd; cases hd; rfl)
        have q := HA59.out w2
        (clear hV hI hC; go_simp <;> (first | rfl | simp))
      case o60 =>
        intro Q a w2 hC hV hI
        refine op_call (f := 51) (args := #[.int .i64 12]) (R := fun v y => v = .string z12 ∧ Below w2.heap.size w2 y) ?_ ((HZ.out w2).mono ?_) ?_
        · (clear hV hI hC; go_simp <;> (first | rfl | simp))
        · rintro e y ⟨rfl, hb⟩; exact ⟨_, rfl, rfl, hb⟩
        · rintro v y ⟨rfl, hb⟩; exact ⟨hC.trans (hb.mono hC.size), hb, by intro d hd; cases hd; rfl⟩
      case o61 =>
        intro Q a w2 hC hV hI
        have e59 : a.eval (.tmp 59) = .string x59 := hV 59 (by simp [Op.operands]) (by kernel_rfl)
        have f59 : a.tmps.getD 59 undef = .string x59 := e59
        have g59 : a.tmps[59]?.getD undef = .string x59 := by rw [← Array.getD_eq_getD_getElem?]; exact e59
        have e60 : a.eval (.tmp 60) = .string z12 := hV 60 (by simp [Op.operands]) (by kernel_rfl)
        have f60 : a.tmps.getD 60 undef = .string z12 := e60
        have g60 : a.tmps[60]?.getD undef = .string z12 := by rw [← Array.getD_eq_getD_getElem?]; exact e60
        refine op_val (.string x61) ?_ hC (Below.refl _ _) (by intro d hd; cases hd; rfl)
        have q := HA61.out w2
        (clear hV hI hC; go_simp <;> (first | rfl | simp))
      case o14 =>
        intro Q a w2 hC hV hI
        have e61 : a.eval (.tmp 61) = .string x61 := hV 61 (by simp [Op.operands]) (by kernel_rfl)
        have f61 : a.tmps.getD 61 undef = .string x61 := e61
        have g61 : a.tmps[61]?.getD undef = .string x61 := by rw [← Array.getD_eq_getD_getElem?]; exact e61
        refine op_val (.string x61) ?_ hC (Below.refl _ _) (by intro d hd; cases hd; rfl)
        (clear hV hI hC; go_simp <;> (first | rfl | simp))
    case hend =>
      intro f w4 hC hall
      clear HA42 HA44 HA48 HA52 HA54 HA56 HA59 HA61
      simp only [List.forall_mem_cons] at hall
      obtain ⟨h38, h39, h40, h41, h42, h43, h44, h45, h46, h47, h48, h49, h50, h51, h52, h53, h54, h55, h56, h57, h58, h59, h60, h61, h14, _⟩ := hall
      replace h38 : f 38 = .string fl := h38 38 rfl
      replace h39 : f 39 = .pointer (some ⟨w.heap.size, 2, none⟩) := h39 39 rfl
      replace h40 : f 40 = .string l := h40 40 rfl
      replace h41 : f 41 = .string fll := h41 41 rfl
      replace h42 : f 42 = .string x42 := h42 42 rfl
      replace h43 : f 43 = .string mg := h43 43 rfl
      replace h44 : f 44 = .string x44 := h44 44 rfl
      replace h45 : f 45 = .pointer (some ⟨w.heap.size, 7, none⟩) := h45 45 rfl
      replace h46 : f 46 = .string us := h46 46 rfl
      replace h47 : f 47 = .string fu := h47 47 rfl
      replace h48 : f 48 = .string x48 := h48 48 rfl
      replace h49 : f 49 = .pointer (some ⟨w.heap.size, 8, none⟩) := h49 49 rfl
      replace h50 : f 50 = .string gr := h50 50 rfl
      replace h51 : f 51 = .string fg := h51 51 rfl
      replace h52 : f 52 = .string x52 := h52 52 rfl
      replace h53 : f 53 = .string o0 := h53 53 rfl
      replace h54 : f 54 = .string x54 := h54 54 rfl
      replace h55 : f 55 = .string o0 := h55 55 rfl
      replace h56 : f 56 = .string x56 := h56 56 rfl
      replace h57 : f 57 = .string pf := h57 57 rfl
      replace h58 : f 58 = .string fp := h58 58 rfl
      replace h59 : f 59 = .string x59 := h59 59 rfl
      replace h60 : f 60 = .string z12 := h60 60 rfl
      replace h61 : f 61 = .string x61 := h61 61 rfl
      replace h14 : f 14 = .string x61 := h14 14 rfl
      simp only [putAll, Act.put, List.setIfInBounds_toArray, List.set_cons_succ, List.set_cons_zero, h38, h39, h40, h41, h42, h43, h44, h45, h46, h47, h48, h49, h50, h51, h52, h53, h54, h55, h56, h57, h58, h59, h60, h61, h14]
      clear h38 h39 h40 h41 h42 h43 h44 h45 h46 h47 h48 h49 h50 h51 h52 h53 h54 h55 h56 h57 h58 h59 h60 h61 h14
      have HXB : Hid (hB = x61) := Lib.hid (by rw [HEB.out, HX61.out, HX59.out, HX56.out, HX54.out, HX52.out, HX48.out, HX44.out, HX42.out])
      have B4 := Lib.hid (btE B3.out hC)
      clear hC KC E3 B3 HX42 HX44 HX48 HX52 HX54 HX56 HX59 HX61
      rw [HXA.out, HXB.out] at HE
      clear HXA HXB HEA HEB HN HLk HU HG HP HZ HOm HOu HOg HOs HOt HO0
      have S1 := Lib.hid (fun w => sum_spec x37 w (by omega))
      have S2 := Lib.hid (fun w => sum_spec x61 w (by omega))
      have b1 := sumv_bd x37.data.toList
      have b2 := sumv_bd x61.data.toList
      have l1 : x37.data.toList.length ≤ 100205 := by simp; omega
      have l2 : x61.data.toList.length ≤ 600373 := by simp; omega
      have S3 := Lib.hid (fun w => putOct_spec (sumv x37.data.toList + 256 + sumv x61.data.toList) 6 w)
      have zo := putOct_size (sumv x37.data.toList + 256 + sumv x61.data.toList) 6
      generalize putOctv (sumv x37.data.toList + 256 + sumv x61.data.toList) 6 = pr at HE S3 zo
      obtain ⟨od, ob⟩ := pr
      simp only at HE S3 zo
      generalize sumv x37.data.toList = s1 at *
      generalize sumv x61.data.toList = s2 at *
      go_wp2_with fail
      refine (S1.out _).mono ?_
      rintro e w5 ⟨rfl, rfl⟩
      go_wp2_with fail
      refine (S2.out _).mono ?_
      rintro e w5 ⟨rfl, rfl⟩
      go_wp2_with fail
      refine (S3.out _).mono ?_
      rintro e w5 ⟨rfl, rfl⟩
      have zc : (x37 ++ od).size ≤ 100225 := by rw [ByteArray.size_append]; omega
      have zc2 : (x37 ++ od ++ (⟨#[0, 32]⟩ : ByteArray)).size ≤ 100227 := by rw [ByteArray.size_append]; have : (⟨#[0, 32]⟩ : ByteArray).size = 2 := rfl; omega
      go_wp2
      go_ret
      exact ⟨ret_str HE.out.symm, B4.out⟩
end Go.Proofs.YtancidbbkoeokabGreatDoor

/- Contract of spec.PutHead. -/
namespace Go.Proofs.YtancidbbkoeokabGreatDoor
open Go.ChangeShapes Go.WideShapes Go.ChangeAt Go.RowKit Go.Deep

set_option maxHeartbeats 1600000 in
set_option maxRecDepth 8000 in
theorem putHead_spec (k : Int) (p l : ByteArray) (m u g t : Int) (us gr b fl : ByteArray) (sz : Int) (w : World) (hp : p.size ≤ 4194304) (hl : l.size ≤ 4194304) (hus : us.size ≤ 4194304) (hgr : gr.size ≤ 4194304) (hbz : b.size ≤ 4194304) :
    Calls Tryz.prog 76 #[.agg #[.int .i64 k, .string p, .string l, .int .i64 m, .int .i64 u, .int .i64 g, .int .i64 t, .string us, .string gr, .string b], .string fl, .int .i64 sz] w fun e w' => e = .returned (.string (putHeadv ⟨k, p, l, m, u, g, t, us, gr, b⟩ fl sz)) ∧ Below w.heap.size w w' := by
  have H1 := Lib.hid (fun w => fits_spec k p l m u g t us gr b w hp hl hus hgr hbz)
  have H2 := Lib.hid (fun w => in_any sz 0 3000 w)
  have H3 := Lib.hid (fun w => split_spec p w hp)
  by_cases hy : fitsv ⟨k, p, l, m, u, g, t, us, gr, b⟩ = true ∧ fl.size = 1 ∧ (0 ≤ sz ∧ sz ≤ 3000)
  · have HE : Hid (putHeadv ⟨k, p, l, m, u, g, t, us, gr, b⟩ fl sz = headv ⟨k, p, l, m, u, g, t, us, gr, b⟩ (splitN p) (splitP p) fl sz magicU) := Lib.hid (by rw [putHeadv, if_pos hy])
    obtain ⟨hf, hfl, hs⟩ := hy
    obtain ⟨-, -, -, -, zl, zus, zgr, hso⟩ := fits_nums hf
    simp only at zl zus zgr hso
    obtain ⟨zn, zp⟩ := split_sizes hso
    have H4 := Lib.hid (fun w => l04Head_spec k p l m u g t us gr b (splitN p) (splitP p) fl sz magicU w (by omega) (by omega) (by omega) (by omega) (by omega) (by omega) (by decide))
    rw [hf] at H1
    rw [inB_t hs] at H2
    rw [← HE.out, show magicU = ⟨#[117, 115, 116, 97, 114, 0, 48, 48]⟩ from rfl] at H4
    generalize putHeadv ⟨k, p, l, m, u, g, t, us, gr, b⟩ fl sz = r at *
    generalize splitN p = sn at *
    generalize splitP p = sp at *
    generalize splitOk p = so at *
    have hfl' : (fl.size : Int) = 1 := by omega
    clear HE hf hfl zl zus zgr zn zp hs hso hp hl hus hgr hbz
    go_enter Tryz.func76, Tryz.ntmps76
    go_wp2_with fail
    refine (H1.out _).mono ?_
    rintro e w1 ⟨rfl, hb⟩
    obtain ⟨k1, bb1, z1⟩ := one_new (e1 := ⟨k, p, l, m, u, g, t, us, gr, b⟩) hb
    have E1 := Lib.hid k1
    have B1 := Lib.hid bb1
    clear hb k1 bb1 H1
    go_wp2_with fail
    refine (H2.out _).mono ?_
    rintro e w2 ⟨rfl, rfl⟩
    obtain ⟨_, c1, _⟩ := E1.out.zero
    go_wp2_with fail
    refine (H3.out _).mono ?_
    rintro e w2 ⟨rfl, hb⟩
    have E2 := Lib.hid (E1.out.below hb (by omega))
    have B2 := Lib.hid (btE B1.out hb)
    clear hb c1 E1 B1
    obtain ⟨c0, c1, c2, c3, c4, c5, c6, c7, c8, c9⟩ := E2.out.zero
    go_wp2_with fail
    refine (H4.out _).mono ?_
    rintro e w3 ⟨rfl, hb⟩
    go_wp2
    go_ret
    exact ⟨rfl, btE B2.out hb⟩
  · have HE := Lib.hid (putHead_no hy)
    generalize putHeadv ⟨k, p, l, m, u, g, t, us, gr, b⟩ fl sz = r at HE
    generalize fitsv ⟨k, p, l, m, u, g, t, us, gr, b⟩ = bf at H1 hy
    clear hp hl hus hgr hbz H3
    cases bf with
    | false =>
      clear hy
      go_enter Tryz.func76, Tryz.ntmps76
      go_wp2_with fail
      refine (H1.out _).mono ?_
      rintro e w1 ⟨rfl, hb⟩
      obtain ⟨-, bb1, -⟩ := one_new (e1 := ⟨k, p, l, m, u, g, t, us, gr, b⟩) hb
      have B1 := Lib.hid bb1
      clear hb bb1
      go_wp2
      go_ret
      exact ⟨ret_str HE.out.symm, B1.out⟩
    | true =>
      by_cases h1 : (fl.size : Int) = 1
      · have h2 : inB sz 0 3000 = false := inB_f (fun h => hy ⟨rfl, by omega, h⟩)
        rw [h2] at H2
        clear hy h2
        go_enter Tryz.func76, Tryz.ntmps76
        go_wp2_with fail
        refine (H1.out _).mono ?_
        rintro e w1 ⟨rfl, hb⟩
        obtain ⟨-, bb1, -⟩ := one_new (e1 := ⟨k, p, l, m, u, g, t, us, gr, b⟩) hb
        have B1 := Lib.hid bb1
        clear hb bb1
        go_wp2_with fail
        refine (H2.out _).mono ?_
        rintro e w2 ⟨rfl, rfl⟩
        go_wp2
        go_ret
        exact ⟨ret_str HE.out.symm, B1.out⟩
      · clear hy
        go_enter Tryz.func76, Tryz.ntmps76
        go_wp2_with fail
        refine (H1.out _).mono ?_
        rintro e w1 ⟨rfl, hb⟩
        obtain ⟨-, bb1, -⟩ := one_new (e1 := ⟨k, p, l, m, u, g, t, us, gr, b⟩) hb
        have B1 := Lib.hid bb1
        clear hb bb1
        go_wp2
        go_ret
        exact ⟨ret_str HE.out.symm, B1.out⟩
end Go.Proofs.YtancidbbkoeokabGreatDoor

/- Bytes of the call's own that grow, beside an entry in a block of its own. -/
namespace Go.Proofs.YtancidbbkoeokabGreatDoor
open Go.ChangeShapes Go.WideShapes Go.ChangeAt Go.RowKit Go.Deep

theorem OwnB.textU {w : World} {base n : Nat} {v : Value} {l : List UInt8} {s : ByteArray} (hn : n = l.length + s.size) (h : w.ownsRow base 5 1 v n (byteVals l ++ Lib.strCells s)) : OwnB w base v (l ++ s.data.toList) := by
  subst hn
  have e : byteVals l ++ Lib.strCells s = byteVals (l ++ s.data.toList) := by simp [byteVals, Lib.strCells]
  rw [e, show l.length + s.size = (l ++ s.data.toList).length from by simp] at h
  exact h
theorem ownB_belowU {w w' : World} {base : Nat} {v : Value} {l : List UInt8} (h : OwnB w base v l) (hb : Below w.heap.size w w') : OwnB w' base v l :=
  World.ownsRow.kept h (row := none) ⟨hb.os, hb.tape, hb.output, hb.size, fun k hk _ => hb.block k hk⟩ (by cases hv : v.ownBlock <;> simp)
/-- A row of another type is another block. -/
theorem own_ne {w : World} {base n g : Nat} {e t : TypeId} {v : Value} {xs : List Value} {c : Array Value} {fr : Nat × Nat} (ho : w.ownsRow base e 1 v n xs) (hg : w.heap[g]? = some (.cells c t fr)) (hne : t ≠ e) : some g ≠ v.ownBlock := by
  rcases ho.2 with ⟨rfl, _⟩ | ⟨g', cap, cur, rfl, _, hc, _⟩
  · simp [Value.ownBlock]
  · simp only [Value.ownBlock]
    intro h
    obtain rfl : g = g' := Option.some.inj h
    rw [hg] at hc
    simp only [Option.some.injEq, Obj.cells.injEq] at hc
    exact hne hc.2.1
theorem box_kept {w w' : World} {base n g : Nat} {e t : TypeId} {v : Value} {xs : List Value} {c : Array Value} {fr : Nat × Nat} (ho : w.ownsRow base e 1 v n xs) (hg : w.heap[g]? = some (.cells c t fr)) (hne : t ≠ e) (hgrow : w.grownBy w' v.ownBlock) : w'.heap[g]? = some (.cells c t fr) := by
  have hl : g < w.heap.size := (Array.getElem?_eq_some_iff.1 hg).1
  rw [← hg]
  exact hgrow.block g hl (own_ne ho hg hne)
theorem boxK {w w' : World} {g base n : Nat} {e : Ent} {v : Value} {xs : List Value} (ho : w.ownsRow base 5 1 v n xs) (h : EntO w g e) (hgrow : w.grownBy w' v.ownBlock) : EntO w' g e :=
  box_kept ho h (by decide) hgrow
theorem ret_sb2 {a c : ByteArray} {b d : Bool} {r : ByteArray × Bool} (h : r = (a, b)) (h1 : c = a) (h2 : d = b) : Ending.returned (.tuple #[.string c, .bool d]) = .returned (.tuple #[.string r.1, .bool r.2]) := by
  subst h h1 h2; rfl
theorem OwnB.textT {w : World} {base n : Nat} {v : Value} {T s x : ByteArray} (hx : x = T ++ s) (hn : n = T.data.toList.length + s.size) (h : w.ownsRow base 5 1 v n (byteVals T.data.toList ++ Lib.strCells s)) : OwnB w base v x.data.toList := by
  have := OwnB.textU hn h
  rw [hx]
  simpa using this
theorem ba_back (T : ByteArray) : (⟨T.data.toList.toArray⟩ : ByteArray) = T := by simp
end Go.Proofs.YtancidbbkoeokabGreatDoor

/- Contracts of spec.l04Body and spec.PutUstar. -/
namespace Go.Proofs.YtancidbbkoeokabGreatDoor
open Go.ChangeShapes Go.WideShapes Go.ChangeAt Go.RowKit Go.Deep

set_option maxHeartbeats 6400000 in
set_option maxRecDepth 8000 in
theorem putUstar_spec (L : List Ent) (n g cap : Nat) (w : World) (hn : n = L.length) (hm : n ≤ 1048576) (hcap : n ≤ cap) (hg : g < w.heap.size) (hsm : SmallL L) (h1 : RowE w g L) :
    Calls Tryz.prog 38 #[.slice (some ⟨g, 0, none⟩) n cap] w fun e w' => e = .returned (.tuple #[.string (putUstarv L).1, .bool (putUstarv L).2]) ∧ Below w.heap.size w w' := by
  have HLO := Lib.hid (fun w h0 h1 => listOk_spec L n g cap w hn (by omega) hcap h0 hsm h1)
  have H1 := Lib.hid h1
  cases hlo : listOkv L with
  | false =>
    have HE := Lib.hid (ustar_bad hlo)
    generalize putUstarv L = r at HE
    rw [hlo] at HLO
    clear h1 hlo hsm hn
    go_enter Tryz.func38, Tryz.ntmps38
    go_wp2_with fail
    refine (HLO.out _ hg H1.out).mono ?_
    rintro e w1 ⟨rfl, hb⟩
    go_wp2
    go_ret2
    exact ⟨ret_sb2 HE.out rfl rfl, hb⟩
  | true =>
    have HG : Hid (∀ i, i < n → ∃ e, L[i]? = some e ∧ esz e ≤ 4194304 ∧ entOkv e = true) := Lib.hid (fun i hi => by obtain ⟨e, he⟩ := getE' (L := L) (i := i) (by omega); exact ⟨e, he, hsm.get he, listOk_ent hlo he⟩)
    have HY : Hid (FitTo L n → putUstarv L = (piecesTo L n ++ nulv 1024, true)) := Lib.hid (by rw [hn]; exact ustar_yes hlo)
    have HNo : Hid (∀ i e, L[i]? = some e → fitsv e = false → putUstarv L = (⟨#[]⟩, false)) := Lib.hid (fun i e h1 h2 => ustar_no h1 h2)
    have HZ : Hid (∀ i, i ≤ n → (piecesTo L i).size ≤ 4100 * i) := Lib.hid (fun i hi => pieces_size hlo i (by omega))
    have h30 : n ≤ 30 := by rw [hn]; exact listOk_30 hlo
    have HN := Lib.hid (fun w => nuls_spec 1024 w (by omega))
    rw [show ((1024 : Int).toNat) = 1024 from rfl] at HN
    have zn := nulv_size 1024
    generalize nulv 1024 = n1024 at *
    generalize putUstarv L = r at HY HNo
    rw [hlo] at HLO
    clear h1 hlo hsm hn
    go_enter Tryz.func38, Tryz.ntmps38
    go_wp2_with fail
    refine (HLO.out _ hg H1.out).mono ?_
    rintro e w1 ⟨rfl, hb1⟩
    have B1 := Lib.hid hb1
    clear hb1 HLO
    go_wp2_with fail
    go_loopw [4, 5] (fun v u wr => ∃ i : Nat, v = .string (piecesTo L i) ∧ u = .int .i64 i ∧ i ≤ n ∧ FitTo L i ∧ Below w.heap.size w wr) (fun _ u _ => n - (intOf u).toNat)
    case atStart => exact ⟨0, rfl, rfl, Nat.zero_le _, fun j h => absurd h (by omega), B1.out⟩
    case round =>
      obtain ⟨i, rfl, rfl, hi, hft, hb⟩ := hrel
      have B := Lib.hid hb
      have HFT := Lib.hid hft
      clear hb hft B1
      by_cases hlt : i < n
      · have hlt2 : (i : Int) < (n : Int) := by omega
        obtain ⟨e, he, hz, hok⟩ := HG.out i hlt
        have R := Lib.hid (H1.out.below B.out hg)
        obtain ⟨c0, c1, c2, c3, c4, c5, c6, c7, c8, c9⟩ := R.out.ten he
        have HS := Lib.hid (pieces_step he)
        have HNX := Lib.hid (fun h => HNo.out i e he h)
        have HFS := Lib.hid (fun h => HFT.out.step he h)
        have HHE := Lib.hid (And.intro (head_or hok) (And.intro (body_size e.body) (entOk_kb hok)))
        have HTEN := Lib.hid (fun w' (hb : Below wr.heap.size wr w') => (R.out.below hb (Nat.lt_of_lt_of_le hg B.out.size)).ten he)
        have y1 := HZ.out i hi
        have hsz := small_parts hz
        clear he hz hok R
        obtain ⟨k, p, l, m, u, g0, t, us, gr, b⟩ := e
        dsimp only at hsz c0 c1 c2 c3 c4 c5 c6 c7 c8 c9
        have HF := Lib.hid (fun w => fits_spec k p l m u g0 t us gr b w hsz.1 hsz.2.1 hsz.2.2.1 hsz.2.2.2.1 hsz.2.2.2.2)
        cases hf : fitsv ⟨k, p, l, m, u, g0, t, us, gr, b⟩ with
        | false =>
          have HE := Lib.hid (HNX.out hf)
          rw [hf] at HF
          clear hf HNX HFS HHE HS HTEN
          go_wp2_with fail
          refine (HF.out _).mono ?_
          rintro e w2 ⟨rfl, hb⟩
          go_wp2
          go_ret2
          exact ⟨ret_sb2 HE.out rfl rfl, btE B.out hb⟩
        | true =>
          have HFN := Lib.hid (HFS.out hf)
          have zh : (putHeadv ⟨k, p, l, m, u, g0, t, us, gr, b⟩ (flagv k) b.size).size = 512 := by
            rcases HHE.out.1 with ⟨_, h⟩ | ⟨h, _⟩
            · exact h
            · rw [hf] at h; cases h
          have zb := HHE.out.2.1
          dsimp only at zb
          have zbb := hsz.2.2.2.2
          have HFl := Lib.hid (fun w => flag_spec k w)
          have HH := Lib.hid (fun w => putHead_spec k p l m u g0 t us gr b (flagv k) b.size w hsz.1 hsz.2.1 hsz.2.2.1 hsz.2.2.2.1 hsz.2.2.2.2)
          have HBd := Lib.hid (fun w => l04Body_spec b w hsz.2.2.2.2)
          have hbk : b.size ≤ 3000 := HHE.out.2.2.2
          rw [hf] at HF
          dsimp only at HS
          clear hf HNX HFS HHE
          generalize putHeadv ⟨k, p, l, m, u, g0, t, us, gr, b⟩ (flagv k) b.size = hd at HS HH zh
          generalize flagv k = fl at HH HFl
          generalize bodyP b = bb at HS HBd zb
          generalize piecesTo L i = T at HS y1
          have yT : T.size ≤ 123000 := by omega
          have yb : bb.size ≤ 3511 := by omega
          go_wp2_with fail
          refine (HF.out _).mono ?_
          rintro e w2 ⟨rfl, hb2⟩
          have B2 := Lib.hid (btE B.out hb2)
          have BW := Lib.hid hb2
          clear hb2 B HF c0 c1 c2 c3 c4 c5 c6 c7 c8 c9 hsz y1 zb
          go_wp2_with fail
          have KC : Hid (∀ w', Below w2.heap.size w2 w' → w'.cell? ⟨g, i * 10, none⟩ = some (.int .i64 k) ∧ w'.cell? ⟨g, i * 10 + 1, none⟩ = some (.string p) ∧ w'.cell? ⟨g, i * 10 + 2, none⟩ = some (.string l) ∧ w'.cell? ⟨g, i * 10 + 3, none⟩ = some (.int .i64 m) ∧ w'.cell? ⟨g, i * 10 + 4, none⟩ = some (.int .i64 u) ∧ w'.cell? ⟨g, i * 10 + 5, none⟩ = some (.int .i64 g0) ∧ w'.cell? ⟨g, i * 10 + 6, none⟩ = some (.int .i64 t) ∧ w'.cell? ⟨g, i * 10 + 7, none⟩ = some (.string us) ∧ w'.cell? ⟨g, i * 10 + 8, none⟩ = some (.string gr) ∧ w'.cell? ⟨g, i * 10 + 9, none⟩ = some (.string b)) := Lib.hid (fun w' hb => HTEN.out w' (btE BW.out hb))
          obtain ⟨x39, hx39⟩ : ∃ x : ByteArray, x = T ++ hd := ⟨_, rfl⟩
          obtain ⟨x46, hx46⟩ : ∃ x : ByteArray, x = x39 ++ bb := ⟨_, rfl⟩
          have zx39 : x39.size ≤ 123512 := by rw [hx39, ByteArray.size_append]; omega
          have zx46 : x46.size ≤ 127023 := by rw [hx46, ByteArray.size_append]; omega
          have HA39 : Hid (∀ w, (Op.stringOp .add T hd).run Tryz.prog w = .ok (.string x39) w) := Lib.hid (fun w => by rw [hx39]; exact run_string_add_sum w _ _ (by omega))
          have HA46 : Hid (∀ w, (Op.stringOp .add x39 bb).run Tryz.prog w = .ok (.string x46) w) := Lib.hid (fun w => by rw [hx46]; exact run_string_add_sum w _ _ (by omega))
          have HX39 := Lib.hid hx39
          have HX46 := Lib.hid hx46
          clear hx39 hx46
          refine wp_region_inv (by kernel_rfl) (fun w' => Below w2.heap.size w2 w') (fun x y => Below x.heap.size x y) (fun d v _ => match d with | 21 => v = .string T | 22 => v = .slice (some ⟨g, 0, none⟩) n cap | 23 => v = .int .i64 (i : Int) | 24 => v = .pointer (some ⟨g, i * 10, none⟩) | 25 => v = .agg #[.int .i64 k, .string p, .string l, .int .i64 m, .int .i64 u, .int .i64 g0, .int .i64 t, .string us, .string gr, .string b] | 26 => v = .slice (some ⟨g, 0, none⟩) n cap | 27 => v = .int .i64 (i : Int) | 28 => v = .pointer (some ⟨g, i * 10, none⟩) | 29 => v = .pointer (some ⟨g, i * 10, none⟩) | 30 => v = .int .i64 k | 31 => v = .string fl | 32 => v = .slice (some ⟨g, 0, none⟩) n cap | 33 => v = .int .i64 (i : Int) | 34 => v = .pointer (some ⟨g, i * 10, none⟩) | 35 => v = .pointer (some ⟨g, i * 10 + 9, none⟩) | 36 => v = .string b | 37 => v = .int .i64 (b.size : Int) | 38 => v = .string hd | 39 => v = .string x39 | 40 => v = .slice (some ⟨g, 0, none⟩) n cap | 41 => v = .int .i64 (i : Int) | 42 => v = .pointer (some ⟨g, i * 10, none⟩) | 43 => v = .pointer (some ⟨g, i * 10 + 9, none⟩) | 44 => v = .string b | 45 => v = .string bb | 46 => v = .string x46 | 4 => v = .string x46 | _ => True) (by kernel_rfl) ((Below.refl _ _).drew) (fun _ _ _ _ _ _ h => h) ?hops ?hend
          case hops =>
            simp only [List.forall_mem_cons]
            refine ⟨?o21, ?o22, ?o23, ?o24, ?o25, ?o26, ?o27, ?o28, ?o29, ?o30, ?o31, ?o32, ?o33, ?o34, ?o35, ?o36, ?o37, ?o38, ?o39, ?o40, ?o41, ?o42, ?o43, ?o44, ?o45, ?o46, ?o4, fun _ h => by cases h⟩
            case o21 =>
              intro Q a w2 hC hV hI
              have e4 : a.eval (.tmp 4) = .string T := (hI 4 (by simp [Op.operands]) (by kernel_rfl)).trans rfl
              have f4 : a.tmps.getD 4 undef = .string T := e4
              have g4 : a.tmps[4]?.getD undef = .string T := by rw [← Array.getD_eq_getD_getElem?]; exact e4
              refine op_val (.string T) ?_ hC (Below.refl _ _) (by intro d hd; cases hd; rfl)
              (clear hV hI hC; go_simp <;> (first | rfl | simp))
            case o22 =>
              intro Q a w2 hC hV hI
              have e0 : a.eval (.tmp 0) = .slice (some ⟨g, 0, none⟩) n cap := (hI 0 (by simp [Op.operands]) (by kernel_rfl)).trans rfl
              have f0 : a.tmps.getD 0 undef = .slice (some ⟨g, 0, none⟩) n cap := e0
              have g0 : a.tmps[0]?.getD undef = .slice (some ⟨g, 0, none⟩) n cap := by rw [← Array.getD_eq_getD_getElem?]; exact e0
              refine op_val (.slice (some ⟨g, 0, none⟩) n cap) ?_ hC (Below.refl _ _) (by intro d hd; cases hd; rfl)
              (clear hV hI hC; go_simp <;> (first | rfl | simp))
            case o23 =>
              intro Q a w2 hC hV hI
              have e5 : a.eval (.tmp 5) = .int .i64 (i : Int) := (hI 5 (by simp [Op.operands]) (by kernel_rfl)).trans rfl
              have f5 : a.tmps.getD 5 undef = .int .i64 (i : Int) := e5
              have g5 : a.tmps[5]?.getD undef = .int .i64 (i : Int) := by rw [← Array.getD_eq_getD_getElem?]; exact e5
              refine op_val (.int .i64 (i : Int)) ?_ hC (Below.refl _ _) (by intro d hd; cases hd; rfl)
              (clear hV hI hC; go_simp <;> (first | rfl | simp))
            case o24 =>
              intro Q a w2 hC hV hI
              have e22 : a.eval (.tmp 22) = .slice (some ⟨g, 0, none⟩) n cap := hV 22 (by simp [Op.operands]) (by kernel_rfl)
              have f22 : a.tmps.getD 22 undef = .slice (some ⟨g, 0, none⟩) n cap := e22
              have g22 : a.tmps[22]?.getD undef = .slice (some ⟨g, 0, none⟩) n cap := by rw [← Array.getD_eq_getD_getElem?]; exact e22
              have e23 : a.eval (.tmp 23) = .int .i64 (i : Int) := hV 23 (by simp [Op.operands]) (by kernel_rfl)
              have f23 : a.tmps.getD 23 undef = .int .i64 (i : Int) := e23
              have g23 : a.tmps[23]?.getD undef = .int .i64 (i : Int) := by rw [← Array.getD_eq_getD_getElem?]; exact e23
              refine op_val (.pointer (some ⟨g, i * 10, none⟩)) ?_ hC (Below.refl _ _) (by intro d hd; cases hd; rfl)
              (clear hV hI hC; go_simp <;> (first | rfl | simp))
            case o25 =>
              intro Q a w2 hC hV hI
              have e24 : a.eval (.tmp 24) = .pointer (some ⟨g, i * 10, none⟩) := hV 24 (by simp [Op.operands]) (by kernel_rfl)
              have f24 : a.tmps.getD 24 undef = .pointer (some ⟨g, i * 10, none⟩) := e24
              have g24 : a.tmps[24]?.getD undef = .pointer (some ⟨g, i * 10, none⟩) := by rw [← Array.getD_eq_getD_getElem?]; exact e24
              have hK := KC.out w2 hC
              refine op_val (.agg #[.int .i64 k, .string p, .string l, .int .i64 m, .int .i64 u, .int .i64 g0, .int .i64 t, .string us, .string gr, .string b]) ?_ hC (Below.refl _ _) (by intro d hd; cases hd; rfl)
              (clear hV hI hC; go_simp <;> (first | rfl | simp))
            case o26 =>
              intro Q a w2 hC hV hI
              have e0 : a.eval (.tmp 0) = .slice (some ⟨g, 0, none⟩) n cap := (hI 0 (by simp [Op.operands]) (by kernel_rfl)).trans rfl
              have f0 : a.tmps.getD 0 undef = .slice (some ⟨g, 0, none⟩) n cap := e0
              have g0 : a.tmps[0]?.getD undef = .slice (some ⟨g, 0, none⟩) n cap := by rw [← Array.getD_eq_getD_getElem?]; exact e0
              refine op_val (.slice (some ⟨g, 0, none⟩) n cap) ?_ hC (Below.refl _ _) (by intro d hd; cases hd; rfl)
              (clear hV hI hC; go_simp <;> (first | rfl | simp))
            case o27 =>
              intro Q a w2 hC hV hI
              have e5 : a.eval (.tmp 5) = .int .i64 (i : Int) := (hI 5 (by simp [Op.operands]) (by kernel_rfl)).trans rfl
              have f5 : a.tmps.getD 5 undef = .int .i64 (i : Int) := e5
              have g5 : a.tmps[5]?.getD undef = .int .i64 (i : Int) := by rw [← Array.getD_eq_getD_getElem?]; exact e5
              refine op_val (.int .i64 (i : Int)) ?_ hC (Below.refl _ _) (by intro d hd; cases hd; rfl)
              (clear hV hI hC; go_simp <;> (first | rfl | simp))
            case o28 =>
              intro Q a w2 hC hV hI
              have e26 : a.eval (.tmp 26) = .slice (some ⟨g, 0, none⟩) n cap := hV 26 (by simp [Op.operands]) (by kernel_rfl)
              have f26 : a.tmps.getD 26 undef = .slice (some ⟨g, 0, none⟩) n cap := e26
              have g26 : a.tmps[26]?.getD undef = .slice (some ⟨g, 0, none⟩) n cap := by rw [← Array.getD_eq_getD_getElem?]; exact e26
              have e27 : a.eval (.tmp 27) = .int .i64 (i : Int) := hV 27 (by simp [Op.operands]) (by kernel_rfl)
              have f27 : a.tmps.getD 27 undef = .int .i64 (i : Int) := e27
              have g27 : a.tmps[27]?.getD undef = .int .i64 (i : Int) := by rw [← Array.getD_eq_getD_getElem?]; exact e27
              refine op_val (.pointer (some ⟨g, i * 10, none⟩)) ?_ hC (Below.refl _ _) (by intro d hd; cases hd; rfl)
              (clear hV hI hC; go_simp <;> (first | rfl | simp))
            case o29 =>
              intro Q a w2 hC hV hI
              have e28 : a.eval (.tmp 28) = .pointer (some ⟨g, i * 10, none⟩) := hV 28 (by simp [Op.operands]) (by kernel_rfl)
              have f28 : a.tmps.getD 28 undef = .pointer (some ⟨g, i * 10, none⟩) := e28
              have g28 : a.tmps[28]?.getD undef = .pointer (some ⟨g, i * 10, none⟩) := by rw [← Array.getD_eq_getD_getElem?]; exact e28
              refine op_val (.pointer (some ⟨g, i * 10, none⟩)) ?_ hC (Below.refl _ _) (by intro d hd; cases hd; rfl)
              (clear hV hI hC; go_simp <;> (first | rfl | simp))
            case o30 =>
              intro Q a w2 hC hV hI
              have e29 : a.eval (.tmp 29) = .pointer (some ⟨g, i * 10, none⟩) := hV 29 (by simp [Op.operands]) (by kernel_rfl)
              have f29 : a.tmps.getD 29 undef = .pointer (some ⟨g, i * 10, none⟩) := e29
              have g29 : a.tmps[29]?.getD undef = .pointer (some ⟨g, i * 10, none⟩) := by rw [← Array.getD_eq_getD_getElem?]; exact e29
              have hK := KC.out w2 hC
              refine op_val (.int .i64 k) ?_ hC (Below.refl _ _) (by intro d hd; cases hd; rfl)
              (clear hV hI hC; go_simp <;> (first | rfl | simp))
            case o31 =>
              intro Q a w2 hC hV hI
              have e30 : a.eval (.tmp 30) = .int .i64 k := hV 30 (by simp [Op.operands, Call.operands]) (by kernel_rfl)
              have f30 : a.tmps.getD 30 undef = .int .i64 k := e30
              have g30 : a.tmps[30]?.getD undef = .int .i64 k := by rw [← Array.getD_eq_getD_getElem?]; exact e30
              refine op_call (f := 49) (args := #[.int .i64 k]) (R := fun v y => v = .string fl ∧ Below w2.heap.size w2 y) ?_ ((HFl.out w2).mono ?_) ?_
              · (clear hV hI hC; go_simp <;> (first | rfl | simp))
              · rintro e y ⟨rfl, hb⟩; exact ⟨_, rfl, rfl, hb⟩
              · rintro v y ⟨rfl, hb⟩; exact ⟨hC.trans (hb.mono hC.size), hb, by intro d hd; cases hd; rfl⟩
            case o32 =>
              intro Q a w2 hC hV hI
              have e0 : a.eval (.tmp 0) = .slice (some ⟨g, 0, none⟩) n cap := (hI 0 (by simp [Op.operands]) (by kernel_rfl)).trans rfl
              have f0 : a.tmps.getD 0 undef = .slice (some ⟨g, 0, none⟩) n cap := e0
              have g0 : a.tmps[0]?.getD undef = .slice (some ⟨g, 0, none⟩) n cap := by rw [← Array.getD_eq_getD_getElem?]; exact e0
              refine op_val (.slice (some ⟨g, 0, none⟩) n cap) ?_ hC (Below.refl _ _) (by intro d hd; cases hd; rfl)
              (clear hV hI hC; go_simp <;> (first | rfl | simp))
            case o33 =>
              intro Q a w2 hC hV hI
              have e5 : a.eval (.tmp 5) = .int .i64 (i : Int) := (hI 5 (by simp [Op.operands]) (by kernel_rfl)).trans rfl
              have f5 : a.tmps.getD 5 undef = .int .i64 (i : Int) := e5
              have g5 : a.tmps[5]?.getD undef = .int .i64 (i : Int) := by rw [← Array.getD_eq_getD_getElem?]; exact e5
              refine op_val (.int .i64 (i : Int)) ?_ hC (Below.refl _ _) (by intro d hd; cases hd; rfl)
              (clear hV hI hC; go_simp <;> (first | rfl | simp))
            case o34 =>
              intro Q a w2 hC hV hI
              have e32 : a.eval (.tmp 32) = .slice (some ⟨g, 0, none⟩) n cap := hV 32 (by simp [Op.operands]) (by kernel_rfl)
              have f32 : a.tmps.getD 32 undef = .slice (some ⟨g, 0, none⟩) n cap := e32
              have g32 : a.tmps[32]?.getD undef = .slice (some ⟨g, 0, none⟩) n cap := by rw [← Array.getD_eq_getD_getElem?]; exact e32
              have e33 : a.eval (.tmp 33) = .int .i64 (i : Int) := hV 33 (by simp [Op.operands]) (by kernel_rfl)
              have f33 : a.tmps.getD 33 undef = .int .i64 (i : Int) := e33
              have g33 : a.tmps[33]?.getD undef = .int .i64 (i : Int) := by rw [← Array.getD_eq_getD_getElem?]; exact e33
              refine op_val (.pointer (some ⟨g, i * 10, none⟩)) ?_ hC (Below.refl _ _) (by intro d hd; cases hd; rfl)
              (clear hV hI hC; go_simp <;> (first | rfl | simp))
            case o35 =>
              intro Q a w2 hC hV hI
              have e34 : a.eval (.tmp 34) = .pointer (some ⟨g, i * 10, none⟩) := hV 34 (by simp [Op.operands]) (by kernel_rfl)
              have f34 : a.tmps.getD 34 undef = .pointer (some ⟨g, i * 10, none⟩) := e34
              have g34 : a.tmps[34]?.getD undef = .pointer (some ⟨g, i * 10, none⟩) := by rw [← Array.getD_eq_getD_getElem?]; exact e34
              refine op_val (.pointer (some ⟨g, i * 10 + 9, none⟩)) ?_ hC (Below.refl _ _) (by intro d hd; cases hd; rfl)
              (clear hV hI hC; go_simp <;> (first | rfl | simp))
            case o36 =>
              intro Q a w2 hC hV hI
              have e35 : a.eval (.tmp 35) = .pointer (some ⟨g, i * 10 + 9, none⟩) := hV 35 (by simp [Op.operands]) (by kernel_rfl)
              have f35 : a.tmps.getD 35 undef = .pointer (some ⟨g, i * 10 + 9, none⟩) := e35
              have g35 : a.tmps[35]?.getD undef = .pointer (some ⟨g, i * 10 + 9, none⟩) := by rw [← Array.getD_eq_getD_getElem?]; exact e35
              have hK := KC.out w2 hC
              refine op_val (.string b) ?_ hC (Below.refl _ _) (by intro d hd; cases hd; rfl)
              (clear hV hI hC; go_simp <;> (first | rfl | simp))
            case o37 =>
              intro Q a w2 hC hV hI
              have e36 : a.eval (.tmp 36) = .string b := hV 36 (by simp [Op.operands, Call.operands]) (by kernel_rfl)
              have f36 : a.tmps.getD 36 undef = .string b := e36
              have g36 : a.tmps[36]?.getD undef = .string b := by rw [← Array.getD_eq_getD_getElem?]; exact e36
              refine op_val (.int .i64 (b.size : Int)) ?_ hC (Below.refl _ _) (by intro d hd; cases hd; rfl)
              (clear hV hI hC; go_simp <;> (first | rfl | simp))
            case o38 =>
              intro Q a w2 hC hV hI
              have e25 : a.eval (.tmp 25) = .agg #[.int .i64 k, .string p, .string l, .int .i64 m, .int .i64 u, .int .i64 g0, .int .i64 t, .string us, .string gr, .string b] := hV 25 (by simp [Op.operands, Call.operands]) (by kernel_rfl)
              have f25 : a.tmps.getD 25 undef = .agg #[.int .i64 k, .string p, .string l, .int .i64 m, .int .i64 u, .int .i64 g0, .int .i64 t, .string us, .string gr, .string b] := e25
              have g25 : a.tmps[25]?.getD undef = .agg #[.int .i64 k, .string p, .string l, .int .i64 m, .int .i64 u, .int .i64 g0, .int .i64 t, .string us, .string gr, .string b] := by rw [← Array.getD_eq_getD_getElem?]; exact e25
              have e31 : a.eval (.tmp 31) = .string fl := hV 31 (by simp [Op.operands, Call.operands]) (by kernel_rfl)
              have f31 : a.tmps.getD 31 undef = .string fl := e31
              have g31 : a.tmps[31]?.getD undef = .string fl := by rw [← Array.getD_eq_getD_getElem?]; exact e31
              have e37 : a.eval (.tmp 37) = .int .i64 (b.size : Int) := hV 37 (by simp [Op.operands, Call.operands]) (by kernel_rfl)
              have f37 : a.tmps.getD 37 undef = .int .i64 (b.size : Int) := e37
              have g37 : a.tmps[37]?.getD undef = .int .i64 (b.size : Int) := by rw [← Array.getD_eq_getD_getElem?]; exact e37
              refine op_call (f := 76) (args := #[.agg #[.int .i64 k, .string p, .string l, .int .i64 m, .int .i64 u, .int .i64 g0, .int .i64 t, .string us, .string gr, .string b], .string fl, .int .i64 (b.size : Int)]) (R := fun v y => v = .string hd ∧ Below w2.heap.size w2 y) ?_ ((HH.out w2).mono ?_) ?_
              · (clear hV hI hC; go_simp <;> (first | rfl | simp))
              · rintro e y ⟨rfl, hb⟩; exact ⟨_, rfl, rfl, hb⟩
              · rintro v y ⟨rfl, hb⟩; exact ⟨hC.trans (hb.mono hC.size), hb, by intro d hd; cases hd; rfl⟩
            case o39 =>
              intro Q a w2 hC hV hI
              have e21 : a.eval (.tmp 21) = .string T := hV 21 (by simp [Op.operands]) (by kernel_rfl)
              have f21 : a.tmps.getD 21 undef = .string T := e21
              have g21 : a.tmps[21]?.getD undef = .string T := by rw [← Array.getD_eq_getD_getElem?]; exact e21
              have e38 : a.eval (.tmp 38) = .string hd := hV 38 (by simp [Op.operands]) (by kernel_rfl)
              have f38 : a.tmps.getD 38 undef = .string hd := e38
              have g38 : a.tmps[38]?.getD undef = .string hd := by rw [← Array.getD_eq_getD_getElem?]; exact e38
              refine op_val (.string x39) ?_ hC (Below.refl _ _) (by intro d hd; cases hd; rfl)
              have q := HA39.out w2
              (clear hV hI hC; go_simp <;> (first | rfl | simp))
            case o40 =>
              intro Q a w2 hC hV hI
              have e0 : a.eval (.tmp 0) = .slice (some ⟨g, 0, none⟩) n cap := (hI 0 (by simp [Op.operands]) (by kernel_rfl)).trans rfl
              have f0 : a.tmps.getD 0 undef = .slice (some ⟨g, 0, none⟩) n cap := e0
              have g0 : a.tmps[0]?.getD undef = .slice (some ⟨g, 0, none⟩) n cap := by rw [← Array.getD_eq_getD_getElem?]; exact e0
              refine op_val (.slice (some ⟨g, 0, none⟩) n cap) ?_ hC (Below.refl _ _) (by intro d hd; cases hd; rfl)
              (clear hV hI hC; go_simp <;> (first | rfl | simp))
            case o41 =>
              intro Q a w2 hC hV hI
              have e5 : a.eval (.tmp 5) = .int .i64 (i : Int) := (hI 5 (by simp [Op.operands]) (by kernel_rfl)).trans rfl
              have f5 : a.tmps.getD 5 undef = .int .i64 (i : Int) := e5
              have g5 : a.tmps[5]?.getD undef = .int .i64 (i : Int) := by rw [← Array.getD_eq_getD_getElem?]; exact e5
              refine op_val (.int .i64 (i : Int)) ?_ hC (Below.refl _ _) (by intro d hd; cases hd; rfl)
              (clear hV hI hC; go_simp <;> (first | rfl | simp))
            case o42 =>
              intro Q a w2 hC hV hI
              have e40 : a.eval (.tmp 40) = .slice (some ⟨g, 0, none⟩) n cap := hV 40 (by simp [Op.operands]) (by kernel_rfl)
              have f40 : a.tmps.getD 40 undef = .slice (some ⟨g, 0, none⟩) n cap := e40
              have g40 : a.tmps[40]?.getD undef = .slice (some ⟨g, 0, none⟩) n cap := by rw [← Array.getD_eq_getD_getElem?]; exact e40
              have e41 : a.eval (.tmp 41) = .int .i64 (i : Int) := hV 41 (by simp [Op.operands]) (by kernel_rfl)
              have f41 : a.tmps.getD 41 undef = .int .i64 (i : Int) := e41
              have g41 : a.tmps[41]?.getD undef = .int .i64 (i : Int) := by rw [← Array.getD_eq_getD_getElem?]; exact e41
              refine op_val (.pointer (some ⟨g, i * 10, none⟩)) ?_ hC (Below.refl _ _) (by intro d hd; cases hd; rfl)
              (clear hV hI hC; go_simp <;> (first | rfl | simp))
            case o43 =>
              intro Q a w2 hC hV hI
              have e42 : a.eval (.tmp 42) = .pointer (some ⟨g, i * 10, none⟩) := hV 42 (by simp [Op.operands]) (by kernel_rfl)
              have f42 : a.tmps.getD 42 undef = .pointer (some ⟨g, i * 10, none⟩) := e42
              have g42 : a.tmps[42]?.getD undef = .pointer (some ⟨g, i * 10, none⟩) := by rw [← Array.getD_eq_getD_getElem?]; exact e42
              refine op_val (.pointer (some ⟨g, i * 10 + 9, none⟩)) ?_ hC (Below.refl _ _) (by intro d hd; cases hd; rfl)
              (clear hV hI hC; go_simp <;> (first | rfl | simp))
            case o44 =>
              intro Q a w2 hC hV hI
              have e43 : a.eval (.tmp 43) = .pointer (some ⟨g, i * 10 + 9, none⟩) := hV 43 (by simp [Op.operands]) (by kernel_rfl)
              have f43 : a.tmps.getD 43 undef = .pointer (some ⟨g, i * 10 + 9, none⟩) := e43
              have g43 : a.tmps[43]?.getD undef = .pointer (some ⟨g, i * 10 + 9, none⟩) := by rw [← Array.getD_eq_getD_getElem?]; exact e43
              have hK := KC.out w2 hC
              refine op_val (.string b) ?_ hC (Below.refl _ _) (by intro d hd; cases hd; rfl)
              (clear hV hI hC; go_simp <;> (first | rfl | simp))
            case o45 =>
              intro Q a w2 hC hV hI
              have e44 : a.eval (.tmp 44) = .string b := hV 44 (by simp [Op.operands, Call.operands]) (by kernel_rfl)
              have f44 : a.tmps.getD 44 undef = .string b := e44
              have g44 : a.tmps[44]?.getD undef = .string b := by rw [← Array.getD_eq_getD_getElem?]; exact e44
              refine op_call (f := 50) (args := #[.string b]) (R := fun v y => v = .string bb ∧ Below w2.heap.size w2 y) ?_ ((HBd.out w2).mono ?_) ?_
              · (clear hV hI hC; go_simp <;> (first | rfl | simp))
              · rintro e y ⟨rfl, hb⟩; exact ⟨_, rfl, rfl, hb⟩
              · rintro v y ⟨rfl, hb⟩; exact ⟨hC.trans (hb.mono hC.size), hb, by intro d hd; cases hd; rfl⟩
            case o46 =>
              intro Q a w2 hC hV hI
              have e39 : a.eval (.tmp 39) = .string x39 := hV 39 (by simp [Op.operands]) (by kernel_rfl)
              have f39 : a.tmps.getD 39 undef = .string x39 := e39
              have g39 : a.tmps[39]?.getD undef = .string x39 := by rw [← Array.getD_eq_getD_getElem?]; exact e39
              have e45 : a.eval (.tmp 45) = .string bb := hV 45 (by simp [Op.operands]) (by kernel_rfl)
              have f45 : a.tmps.getD 45 undef = .string bb := e45
              have g45 : a.tmps[45]?.getD undef = .string bb := by rw [← Array.getD_eq_getD_getElem?]; exact e45
              refine op_val (.string x46) ?_ hC (Below.refl _ _) (by intro d hd; cases hd; rfl)
              have q := HA46.out w2
              (clear hV hI hC; go_simp <;> (first | rfl | simp))
            case o4 =>
              intro Q a w2 hC hV hI
              have e46 : a.eval (.tmp 46) = .string x46 := hV 46 (by simp [Op.operands]) (by kernel_rfl)
              have f46 : a.tmps.getD 46 undef = .string x46 := e46
              have g46 : a.tmps[46]?.getD undef = .string x46 := by rw [← Array.getD_eq_getD_getElem?]; exact e46
              refine op_val (.string x46) ?_ hC (Below.refl _ _) (by intro d hd; cases hd; rfl)
              (clear hV hI hC; go_simp <;> (first | rfl | simp))
          case hend =>
            intro f w3 hC hall
            clear HA39 HA46
            simp only [List.forall_mem_cons] at hall
            obtain ⟨h21, h22, h23, h24, h25, h26, h27, h28, h29, h30, h31, h32, h33, h34, h35, h36, h37, h38, h39, h40, h41, h42, h43, h44, h45, h46, h4, _⟩ := hall
            replace h21 : f 21 = .string T := h21 21 rfl
            replace h22 : f 22 = .slice (some ⟨g, 0, none⟩) n cap := h22 22 rfl
            replace h23 : f 23 = .int .i64 (i : Int) := h23 23 rfl
            replace h24 : f 24 = .pointer (some ⟨g, i * 10, none⟩) := h24 24 rfl
            replace h25 : f 25 = .agg #[.int .i64 k, .string p, .string l, .int .i64 m, .int .i64 u, .int .i64 g0, .int .i64 t, .string us, .string gr, .string b] := h25 25 rfl
            replace h26 : f 26 = .slice (some ⟨g, 0, none⟩) n cap := h26 26 rfl
            replace h27 : f 27 = .int .i64 (i : Int) := h27 27 rfl
            replace h28 : f 28 = .pointer (some ⟨g, i * 10, none⟩) := h28 28 rfl
            replace h29 : f 29 = .pointer (some ⟨g, i * 10, none⟩) := h29 29 rfl
            replace h30 : f 30 = .int .i64 k := h30 30 rfl
            replace h31 : f 31 = .string fl := h31 31 rfl
            replace h32 : f 32 = .slice (some ⟨g, 0, none⟩) n cap := h32 32 rfl
            replace h33 : f 33 = .int .i64 (i : Int) := h33 33 rfl
            replace h34 : f 34 = .pointer (some ⟨g, i * 10, none⟩) := h34 34 rfl
            replace h35 : f 35 = .pointer (some ⟨g, i * 10 + 9, none⟩) := h35 35 rfl
            replace h36 : f 36 = .string b := h36 36 rfl
            replace h37 : f 37 = .int .i64 (b.size : Int) := h37 37 rfl
            replace h38 : f 38 = .string hd := h38 38 rfl
            replace h39 : f 39 = .string x39 := h39 39 rfl
            replace h40 : f 40 = .slice (some ⟨g, 0, none⟩) n cap := h40 40 rfl
            replace h41 : f 41 = .int .i64 (i : Int) := h41 41 rfl
            replace h42 : f 42 = .pointer (some ⟨g, i * 10, none⟩) := h42 42 rfl
            replace h43 : f 43 = .pointer (some ⟨g, i * 10 + 9, none⟩) := h43 43 rfl
            replace h44 : f 44 = .string b := h44 44 rfl
            replace h45 : f 45 = .string bb := h45 45 rfl
            replace h46 : f 46 = .string x46 := h46 46 rfl
            replace h4 : f 4 = .string x46 := h4 4 rfl
            simp only [putAll, Act.put, List.setIfInBounds_toArray, List.set_cons_succ, List.set_cons_zero, h21, h22, h23, h24, h25, h26, h27, h28, h29, h30, h31, h32, h33, h34, h35, h36, h37, h38, h39, h40, h41, h42, h43, h44, h45, h46, h4]
            clear h21 h22 h23 h24 h25 h26 h27 h28 h29 h30 h31 h32 h33 h34 h35 h36 h37 h38 h39 h40 h41 h42 h43 h44 h45 h46 h4
            have HXX : Hid (piecesTo L (i + 1) = x46) := Lib.hid (by rw [HS.out, HX46.out, HX39.out])
            have B3 := Lib.hid (btE B2.out hC)
            clear hC KC HTEN BW B2 HS HX39 HX46
            go_wp2_with fail
            go_roundw
            case rel => exact ⟨i + 1, by rw [HXX.out], by go_num, by omega, HFN.out, B3.out⟩
            case measure => simp [intOf]; omega
      · obtain rfl : i = n := by omega
        have hlt2 : ¬ (i : Int) < (i : Int) := by omega
        have HE := Lib.hid (HY.out HFT.out)
        have y1 := HZ.out i (Nat.le_refl _)
        generalize piecesTo L i = T at HE y1
        have yT : T.size ≤ 123000 := by omega
        go_wp2_with fail
        refine (HN.out _).mono ?_
        rintro e w2 ⟨rfl, hb⟩
        go_wp2
        go_ret2
        exact ⟨ret_sb2 HE.out rfl rfl, btE B.out hb⟩
end Go.Proofs.YtancidbbkoeokabGreatDoor

/- Contract of impl.putMember. -/
namespace Go.Proofs.YtancidbbkoeokabGreatDoor
open Go.ChangeShapes Go.WideShapes Go.ChangeAt Go.RowKit Go.Deep

theorem putHead_le (e : Ent) (fl : ByteArray) (sz : Int) : (putHeadv e fl sz).size ≤ 512 := by
  by_cases h : fitsv e = true ∧ fl.size = 1 ∧ (0 ≤ sz ∧ sz ≤ 3000)
  · exact Nat.le_of_eq (putHead_size h.1 h.2.1 h.2.2)
  · rw [putHead_no h]; exact Nat.zero_le _
def memv (e : Ent) (fl : ByteArray) : ByteArray := putHeadv e fl e.body.size ++ bodyP e.body
theorem mem_le (e : Ent) (fl : ByteArray) : (memv e fl).size ≤ e.body.size + 1023 := by
  have h1 := putHead_le e fl e.body.size
  have h2 := body_size e.body
  rw [memv, ByteArray.size_append]; omega
set_option maxHeartbeats 3200000 in
set_option maxRecDepth 8000 in
theorem putMember_any (k : Int) (p l : ByteArray) (m u g0 t : Int) (us gr b fl : ByteArray) (w : World) (hp : p.size ≤ 4194304) (hl : l.size ≤ 4194304) (hus : us.size ≤ 4194304) (hgr : gr.size ≤ 4194304) (hb : b.size ≤ 1000000) (hT : Tabs w) (hF : FW w) :
    Calls Tryz.prog 85 #[.agg #[.int .i64 k, .string p, .string l, .int .i64 m, .int .i64 u, .int .i64 g0, .int .i64 t, .string us, .string gr, .string b], .string fl] w fun e w' => e = .returned (.string (memv ⟨k, p, l, m, u, g0, t, us, gr, b⟩ fl)) ∧ Below w.heap.size w w' := by
  have HH := Lib.hid (fun w' hT hF => putHead_impl k p l m u g0 t us gr b fl b.size w' hp hl hus hgr hT hF)
  have HP := Lib.hid (fun w => padded_any b w (by omega))
  have z1 := putHead_le ⟨k, p, l, m, u, g0, t, us, gr, b⟩ fl b.size
  have z2 := body_size b
  have HE : Hid (memv ⟨k, p, l, m, u, g0, t, us, gr, b⟩ fl = putHeadv ⟨k, p, l, m, u, g0, t, us, gr, b⟩ fl b.size ++ bodyP b) := Lib.hid rfl
  generalize memv ⟨k, p, l, m, u, g0, t, us, gr, b⟩ fl = r at HE
  generalize putHeadv ⟨k, p, l, m, u, g0, t, us, gr, b⟩ fl b.size = hd at *
  generalize bodyP b = bb at *
  have HTab := Lib.hid hT
  have HFw := Lib.hid hF
  clear hT hF hp hl hus hgr
  go_enter Tryz.func85, Tryz.ntmps85
  go_wp2_with fail
  have E0 := EntAt.new w ⟨k, p, l, m, u, g0, t, us, gr, b⟩ 44
  have B0 := (Below.refl w.heap.size w).alloc (Nat.le_refl _) (.cells (Ent.cells ⟨k, p, l, m, u, g0, t, us, gr, b⟩).toArray 44)
  have X0 : (w.alloc (.cells (Ent.cells ⟨k, p, l, m, u, g0, t, us, gr, b⟩).toArray 44)).heap[w.heap.size]? = some (.cells (Ent.cells ⟨k, p, l, m, u, g0, t, us, gr, b⟩).toArray 44 (0, 0)) := heap_alloc_last _ _
  have z0 : w.heap.size < (w.alloc (.cells (Ent.cells ⟨k, p, l, m, u, g0, t, us, gr, b⟩).toArray 44)).heap.size := by simp
  simp only [Ent.cells] at E0 B0 z0 X0
  generalize w.alloc (.cells #[.int .i64 k, .string p, .string l, .int .i64 m, .int .i64 u, .int .i64 g0, .int .i64 t, .string us, .string gr, .string b] 44) = w1 at *
  have E1 := Lib.hid E0
  have X1 := Lib.hid X0
  have B1 := Lib.hid B0
  clear E0 B0 X0
  have KC : Hid (∀ w', Below w1.heap.size w1 w' → w'.cell? ⟨w.heap.size, 0, none⟩ = some (.int .i64 k) ∧ w'.cell? ⟨w.heap.size, 1, none⟩ = some (.string p) ∧ w'.cell? ⟨w.heap.size, 2, none⟩ = some (.string l) ∧ w'.cell? ⟨w.heap.size, 3, none⟩ = some (.int .i64 m) ∧ w'.cell? ⟨w.heap.size, 4, none⟩ = some (.int .i64 u) ∧ w'.cell? ⟨w.heap.size, 5, none⟩ = some (.int .i64 g0) ∧ w'.cell? ⟨w.heap.size, 6, none⟩ = some (.int .i64 t) ∧ w'.cell? ⟨w.heap.size, 7, none⟩ = some (.string us) ∧ w'.cell? ⟨w.heap.size, 8, none⟩ = some (.string gr) ∧ w'.cell? ⟨w.heap.size, 9, none⟩ = some (.string b)) := Lib.hid (fun w' hb => by obtain ⟨c0, c1, c2, c3, c4, c5, c6, c7, c8, c9⟩ := (E1.out.below hb z0).zero; exact ⟨c0, c1, c2, c3, c4, c5, c6, c7, c8, c9⟩)
  obtain ⟨x14, hx14⟩ : ∃ x : ByteArray, x = hd ++ bb := ⟨_, rfl⟩
  have zx14 : x14.size ≤ 1001023 := by rw [hx14, ByteArray.size_append]; omega
  have HA14 : Hid (∀ w, (Op.stringOp .add hd bb).run Tryz.prog w = .ok (.string x14) w) := Lib.hid (fun w => by rw [hx14]; exact run_string_add_sum w _ _ (by omega))
  have HX14 := Lib.hid hx14
  clear hx14
  refine wp_region_inv (by kernel_rfl) (fun w' => Below w1.heap.size w1 w') (fun x y => Below x.heap.size x y) (fun d v _ => match d with | 5 => v = .agg #[.int .i64 k, .string p, .string l, .int .i64 m, .int .i64 u, .int .i64 g0, .int .i64 t, .string us, .string gr, .string b] | 6 => v = .string fl | 7 => v = .pointer (some ⟨w.heap.size, 9, none⟩) | 8 => v = .string b | 9 => v = .int .i64 (b.size : Int) | 10 => v = .string hd | 11 => v = .pointer (some ⟨w.heap.size, 9, none⟩) | 12 => v = .string b | 13 => v = .string bb | 14 => v = .string x14 | 4 => v = .string x14 | _ => True) (by kernel_rfl) ((Below.refl _ _).drew) (fun _ _ _ _ _ _ h => h) ?hops ?hend
  case hops =>
    simp only [List.forall_mem_cons]
    refine ⟨?o5, ?o6, ?o7, ?o8, ?o9, ?o10, ?o11, ?o12, ?o13, ?o14, ?o4, fun _ h => by cases h⟩
    case o5 =>
      intro Q a w2 hC hV hI
      have e2 : a.eval (.tmp 2) = .pointer (some ⟨w.heap.size, 0, none⟩) := (hI 2 (by simp [Op.operands]) (by kernel_rfl)).trans rfl
      have f2 : a.tmps.getD 2 undef = .pointer (some ⟨w.heap.size, 0, none⟩) := e2
      have g2 : a.tmps[2]?.getD undef = .pointer (some ⟨w.heap.size, 0, none⟩) := by rw [← Array.getD_eq_getD_getElem?]; exact e2
      have hK := KC.out w2 hC
      refine op_val (.agg #[.int .i64 k, .string p, .string l, .int .i64 m, .int .i64 u, .int .i64 g0, .int .i64 t, .string us, .string gr, .string b]) ?_ hC (Below.refl _ _) (by intro d hd; cases hd; rfl)
      (clear hV hI hC; go_simp <;> (first | rfl | simp))
    case o6 =>
      intro Q a w2 hC hV hI
      have e1 : a.eval (.tmp 1) = .string fl := (hI 1 (by simp [Op.operands]) (by kernel_rfl)).trans rfl
      have f1 : a.tmps.getD 1 undef = .string fl := e1
      have g1 : a.tmps[1]?.getD undef = .string fl := by rw [← Array.getD_eq_getD_getElem?]; exact e1
      refine op_val (.string fl) ?_ hC (Below.refl _ _) (by intro d hd; cases hd; rfl)
      (clear hV hI hC; go_simp <;> (first | rfl | simp))
    case o7 =>
      intro Q a w2 hC hV hI
      have e2 : a.eval (.tmp 2) = .pointer (some ⟨w.heap.size, 0, none⟩) := (hI 2 (by simp [Op.operands]) (by kernel_rfl)).trans rfl
      have f2 : a.tmps.getD 2 undef = .pointer (some ⟨w.heap.size, 0, none⟩) := e2
      have g2 : a.tmps[2]?.getD undef = .pointer (some ⟨w.heap.size, 0, none⟩) := by rw [← Array.getD_eq_getD_getElem?]; exact e2
      refine op_val (.pointer (some ⟨w.heap.size, 9, none⟩)) ?_ hC (Below.refl _ _) (by intro d hd; cases hd; rfl)
      (clear hV hI hC; go_simp <;> (first | rfl | simp))
    case o8 =>
      intro Q a w2 hC hV hI
      have e7 : a.eval (.tmp 7) = .pointer (some ⟨w.heap.size, 9, none⟩) := hV 7 (by simp [Op.operands]) (by kernel_rfl)
      have f7 : a.tmps.getD 7 undef = .pointer (some ⟨w.heap.size, 9, none⟩) := e7
      have g7 : a.tmps[7]?.getD undef = .pointer (some ⟨w.heap.size, 9, none⟩) := by rw [← Array.getD_eq_getD_getElem?]; exact e7
      have hK := KC.out w2 hC
      refine op_val (.string b) ?_ hC (Below.refl _ _) (by intro d hd; cases hd; rfl)
      (clear hV hI hC; go_simp <;> (first | rfl | simp))
    case o9 =>
      intro Q a w2 hC hV hI
      have e8 : a.eval (.tmp 8) = .string b := hV 8 (by simp [Op.operands, Call.operands]) (by kernel_rfl)
      have f8 : a.tmps.getD 8 undef = .string b := e8
      have g8 : a.tmps[8]?.getD undef = .string b := by rw [← Array.getD_eq_getD_getElem?]; exact e8
      refine op_val (.int .i64 (b.size : Int)) ?_ hC (Below.refl _ _) (by intro d hd; cases hd; rfl)
      (clear hV hI hC; go_simp <;> (first | rfl | simp))
    case o10 =>
      intro Q a w2 hC hV hI
      have e5 : a.eval (.tmp 5) = .agg #[.int .i64 k, .string p, .string l, .int .i64 m, .int .i64 u, .int .i64 g0, .int .i64 t, .string us, .string gr, .string b] := hV 5 (by simp [Op.operands, Call.operands]) (by kernel_rfl)
      have f5 : a.tmps.getD 5 undef = .agg #[.int .i64 k, .string p, .string l, .int .i64 m, .int .i64 u, .int .i64 g0, .int .i64 t, .string us, .string gr, .string b] := e5
      have g5 : a.tmps[5]?.getD undef = .agg #[.int .i64 k, .string p, .string l, .int .i64 m, .int .i64 u, .int .i64 g0, .int .i64 t, .string us, .string gr, .string b] := by rw [← Array.getD_eq_getD_getElem?]; exact e5
      have e6 : a.eval (.tmp 6) = .string fl := hV 6 (by simp [Op.operands, Call.operands]) (by kernel_rfl)
      have f6 : a.tmps.getD 6 undef = .string fl := e6
      have g6 : a.tmps[6]?.getD undef = .string fl := by rw [← Array.getD_eq_getD_getElem?]; exact e6
      have e9 : a.eval (.tmp 9) = .int .i64 (b.size : Int) := hV 9 (by simp [Op.operands, Call.operands]) (by kernel_rfl)
      have f9 : a.tmps.getD 9 undef = .int .i64 (b.size : Int) := e9
      have g9 : a.tmps[9]?.getD undef = .int .i64 (b.size : Int) := by rw [← Array.getD_eq_getD_getElem?]; exact e9
      refine op_call (f := 80) (args := #[.agg #[.int .i64 k, .string p, .string l, .int .i64 m, .int .i64 u, .int .i64 g0, .int .i64 t, .string us, .string gr, .string b], .string fl, .int .i64 (b.size : Int)]) (R := fun v y => v = .string hd ∧ Below w2.heap.size w2 y) ?_ ((HH.out w2 (HTab.out.below (B1.out.trans (hC.mono B1.out.size))) (HFw.out.below (B1.out.trans (hC.mono B1.out.size)))).mono ?_) ?_
      · (clear hV hI hC; go_simp <;> (first | rfl | simp))
      · rintro e y ⟨rfl, hb⟩; exact ⟨_, rfl, rfl, hb⟩
      · rintro v y ⟨rfl, hb⟩; exact ⟨hC.trans (hb.mono hC.size), hb, by intro d hd; cases hd; rfl⟩
    case o11 =>
      intro Q a w2 hC hV hI
      have e2 : a.eval (.tmp 2) = .pointer (some ⟨w.heap.size, 0, none⟩) := (hI 2 (by simp [Op.operands]) (by kernel_rfl)).trans rfl
      have f2 : a.tmps.getD 2 undef = .pointer (some ⟨w.heap.size, 0, none⟩) := e2
      have g2 : a.tmps[2]?.getD undef = .pointer (some ⟨w.heap.size, 0, none⟩) := by rw [← Array.getD_eq_getD_getElem?]; exact e2
      refine op_val (.pointer (some ⟨w.heap.size, 9, none⟩)) ?_ hC (Below.refl _ _) (by intro d hd; cases hd; rfl)
      (clear hV hI hC; go_simp <;> (first | rfl | simp))
    case o12 =>
      intro Q a w2 hC hV hI
      have e11 : a.eval (.tmp 11) = .pointer (some ⟨w.heap.size, 9, none⟩) := hV 11 (by simp [Op.operands]) (by kernel_rfl)
      have f11 : a.tmps.getD 11 undef = .pointer (some ⟨w.heap.size, 9, none⟩) := e11
      have g11 : a.tmps[11]?.getD undef = .pointer (some ⟨w.heap.size, 9, none⟩) := by rw [← Array.getD_eq_getD_getElem?]; exact e11
      have hK := KC.out w2 hC
      refine op_val (.string b) ?_ hC (Below.refl _ _) (by intro d hd; cases hd; rfl)
      (clear hV hI hC; go_simp <;> (first | rfl | simp))
    case o13 =>
      intro Q a w2 hC hV hI
      have e12 : a.eval (.tmp 12) = .string b := hV 12 (by simp [Op.operands, Call.operands]) (by kernel_rfl)
      have f12 : a.tmps.getD 12 undef = .string b := e12
      have g12 : a.tmps[12]?.getD undef = .string b := by rw [← Array.getD_eq_getD_getElem?]; exact e12
      refine op_call (f := 67) (args := #[.string b]) (R := fun v y => v = .string bb ∧ Below w2.heap.size w2 y) ?_ ((HP.out w2).mono ?_) ?_
      · (clear hV hI hC; go_simp <;> (first | rfl | simp))
      · rintro e y ⟨rfl, hb⟩; exact ⟨_, rfl, rfl, hb⟩
      · rintro v y ⟨rfl, hb⟩; exact ⟨hC.trans (hb.mono hC.size), hb, by intro d hd; cases hd; rfl⟩
    case o14 =>
      intro Q a w2 hC hV hI
      have e10 : a.eval (.tmp 10) = .string hd := hV 10 (by simp [Op.operands]) (by kernel_rfl)
      have f10 : a.tmps.getD 10 undef = .string hd := e10
      have g10 : a.tmps[10]?.getD undef = .string hd := by rw [← Array.getD_eq_getD_getElem?]; exact e10
      have e13 : a.eval (.tmp 13) = .string bb := hV 13 (by simp [Op.operands]) (by kernel_rfl)
      have f13 : a.tmps.getD 13 undef = .string bb := e13
      have g13 : a.tmps[13]?.getD undef = .string bb := by rw [← Array.getD_eq_getD_getElem?]; exact e13
      refine op_val (.string x14) ?_ hC (Below.refl _ _) (by intro d hd; cases hd; rfl)
      have q := HA14.out w2
      (clear hV hI hC; go_simp <;> (first | rfl | simp))
    case o4 =>
      intro Q a w2 hC hV hI
      have e14 : a.eval (.tmp 14) = .string x14 := hV 14 (by simp [Op.operands]) (by kernel_rfl)
      have f14 : a.tmps.getD 14 undef = .string x14 := e14
      have g14 : a.tmps[14]?.getD undef = .string x14 := by rw [← Array.getD_eq_getD_getElem?]; exact e14
      refine op_val (.string x14) ?_ hC (Below.refl _ _) (by intro d hd; cases hd; rfl)
      (clear hV hI hC; go_simp <;> (first | rfl | simp))
  case hend =>
    intro f w3 hC hall
    clear HA14
    simp only [List.forall_mem_cons] at hall
    obtain ⟨h5, h6, h7, h8, h9, h10, h11, h12, h13, h14, h4, _⟩ := hall
    replace h5 : f 5 = .agg #[.int .i64 k, .string p, .string l, .int .i64 m, .int .i64 u, .int .i64 g0, .int .i64 t, .string us, .string gr, .string b] := h5 5 rfl
    replace h6 : f 6 = .string fl := h6 6 rfl
    replace h7 : f 7 = .pointer (some ⟨w.heap.size, 9, none⟩) := h7 7 rfl
    replace h8 : f 8 = .string b := h8 8 rfl
    replace h9 : f 9 = .int .i64 (b.size : Int) := h9 9 rfl
    replace h10 : f 10 = .string hd := h10 10 rfl
    replace h11 : f 11 = .pointer (some ⟨w.heap.size, 9, none⟩) := h11 11 rfl
    replace h12 : f 12 = .string b := h12 12 rfl
    replace h13 : f 13 = .string bb := h13 13 rfl
    replace h14 : f 14 = .string x14 := h14 14 rfl
    replace h4 : f 4 = .string x14 := h4 4 rfl
    simp only [putAll, Act.put, List.setIfInBounds_toArray, List.set_cons_succ, List.set_cons_zero, h5, h6, h7, h8, h9, h10, h11, h12, h13, h14, h4]
    clear h5 h6 h7 h8 h9 h10 h11 h12 h13 h14 h4
    have B3 := Lib.hid (btE B1.out hC)
    have HXX : Hid (r = x14) := Lib.hid (by rw [HE.out, HX14.out])
    clear hC KC B1 E1 X1 HX14 HE
    go_wp2
    go_ret
    exact ⟨ret_str HXX.out.symm, B3.out⟩
end Go.Proofs.YtancidbbkoeokabGreatDoor

/- Maps from texts to numbers, and sets of texts, that a call makes. -/
namespace Go.Proofs.YtancidbbkoeokabGreatDoor
open Go.ChangeShapes Go.WideShapes Go.ChangeAt Go.RowKit Go.Maps

theorem lawS : Keyed Tryz.prog 9 := string_keyed Tryz.underlying9
theorem zeroN (w : World) : (zeroValue 3).run Tryz.prog w = .ok (.int .i64 0) w := by kernel_rfl
theorem zeroN0 (w : World) : (zeroValue 79).run Tryz.prog w = .ok (.agg #[]) w := by kernel_rfl
def keyS (s : ByteArray) : Lit := .string s.data.toList
theorem key_of {s : ByteArray} (h : s.size ≤ maxLen) : keyOf Tryz.prog 9 (.string s) = some (keyS s) := WideMaps.keyOf_string_mk Tryz.underlying9 h
theorem keyS_ne {a b : ByteArray} (h : ¬ a = b) : keyS a ≠ keyS b := by
  intro e
  apply h
  exact ba_ext (by simpa [keyS] using e)
theorem keyS_lit (a : ByteArray) : WideAt.IsKeyLit (keyS a) := trivial
/-- What the map D tells of each text. -/
def MapIs (D : DataW Unit) (M : ByteArray → Option Int) : Prop := IsMap D ∧ ∀ s, Maps.has D (keyS s) = (M s).isSome ∧ ∀ c, M s = some c → D.atKey (keyS s) (.lit (.int .i64 0)) = .lit (.int .i64 c)
/-- Block b is a map from texts to numbers of at most n entries. -/
def MapAt (w : World) (b n : Nat) (M : ByteArray → Option Int) : Prop := ∃ D : DataW Unit, w.ownsMap Tryz.prog 9 (plainElem Tryz.prog 3) b n D ∧ MapIs D M
def putM (M : ByteArray → Option Int) (s : ByteArray) (c : Int) : ByteArray → Option Int := fun t => if t = s then some c else M t
theorem MapIs.put {D : DataW Unit} {M : ByteArray → Option Int} (h : MapIs D M) (s : ByteArray) (c : Int) : MapIs (D.put (keyS s) (.lit (.int .i64 c))) (putM M s c) := by
  refine ⟨h.1.put _ _, fun t => ?_⟩
  by_cases e : t = s
  · subst e
    refine ⟨by rw [Maps.has_put_same h.1 (keyS_lit _)]; simp [putM], fun d hd => ?_⟩
    rw [Maps.atKey_put_same h.1 (keyS_lit _)]
    simp [putM] at hd
    rw [hd]
  · refine ⟨by rw [Maps.has_put_other (keyS_ne e), (h.2 t).1]; simp [putM, e], fun d hd => ?_⟩
    rw [Maps.atKey_put_other (keyS_ne e)]
    simp [putM, e] at hd
    exact (h.2 t).2 d hd
theorem mapIs_empty : MapIs (.map []) (fun _ => none) := ⟨isMap_empty, fun _ => ⟨rfl, fun _ h => by cases h⟩⟩
theorem mapAt_made (w : World) : MapAt (w.alloc (.map #[] 0)) w.heap.size 0 (fun _ => none) := ⟨.map [], World.ownsMap_made w _ _ _, mapIs_empty⟩
theorem MapAt.kept {w w' : World} {b n : Nat} {M : ByteArray → Option Int} {row : Option Nat} (h : MapAt w b n M) (hg : w.grownBy w' row) (hne : some b ≠ row) : MapAt w' b n M := by
  obtain ⟨D, ho, hs⟩ := h
  exact ⟨D, World.ownsMap.kept ho hg hne, hs⟩
theorem ownsMap_below {w w' : World} {k : TypeId} {R : Value → Option (DataW Unit × List MemPlace)} {b n : Nat} {D : DataW Unit} (h : w.ownsMap Tryz.prog k R b n D) (hb : Below w.heap.size w w') : w'.ownsMap Tryz.prog k R b n D :=
  World.ownsMap.kept h (row := none) ⟨hb.os, hb.tape, hb.output, hb.size, fun k hk _ => hb.block k hk⟩ (by simp)
theorem MapAt.below {w w' : World} {b n : Nat} {M : ByteArray → Option Int} (h : MapAt w b n M) (hb : Below w.heap.size w w') : MapAt w' b n M := by
  obtain ⟨D, ho, hs⟩ := h
  exact ⟨D, ownsMap_below ho hb, hs⟩
theorem MapAt.lt {w : World} {b n : Nat} {M : ByteArray → Option Int} (h : MapAt w b n M) : b < w.heap.size := by
  obtain ⟨D, ho, _⟩ := h
  exact World.ownsMap.lt ho
/-- The set D of texts. -/
def SetSIs (D : DataW Unit) (T : ByteArray → Bool) : Prop := IsMap D ∧ ∀ s, Maps.has D (keyS s) = T s
def SetSAt (w : World) (b n : Nat) (T : ByteArray → Bool) : Prop := ∃ D : DataW Unit, w.ownsMap Tryz.prog 9 (unitElem (H := Unit)) b n D ∧ SetSIs D T
def putT (T : ByteArray → Bool) (s : ByteArray) : ByteArray → Bool := fun t => decide (t = s) || T t
theorem SetSIs.put {D : DataW Unit} {T : ByteArray → Bool} (h : SetSIs D T) (s : ByteArray) (u : DataW Unit) : SetSIs (D.put (keyS s) u) (putT T s) := by
  refine ⟨h.1.put _ _, fun t => ?_⟩
  by_cases e : t = s
  · subst e
    rw [Maps.has_put_same h.1 (keyS_lit _)]; simp [putT]
  · rw [Maps.has_put_other (keyS_ne e), h.2 t]; simp [putT, e]
theorem setS_made (w : World) : SetSAt (w.alloc (.map #[] 0)) w.heap.size 0 (fun _ => false) := ⟨.map [], World.ownsMap_made w _ _ _, isMap_empty, fun _ => rfl⟩
theorem SetSAt.kept {w w' : World} {b n : Nat} {T : ByteArray → Bool} {row : Option Nat} (h : SetSAt w b n T) (hg : w.grownBy w' row) (hne : some b ≠ row) : SetSAt w' b n T := by
  obtain ⟨D, ho, hs⟩ := h
  exact ⟨D, World.ownsMap.kept ho hg hne, hs⟩
theorem SetSAt.below {w w' : World} {b n : Nat} {T : ByteArray → Bool} (h : SetSAt w b n T) (hb : Below w.heap.size w w') : SetSAt w' b n T := by
  obtain ⟨D, ho, hs⟩ := h
  exact ⟨D, ownsMap_below ho hb, hs⟩
theorem SetSAt.lt {w : World} {b n : Nat} {T : ByteArray → Bool} (h : SetSAt w b n T) : b < w.heap.size := by
  obtain ⟨D, ho, _⟩ := h
  exact World.ownsMap.lt ho
end Go.Proofs.YtancidbbkoeokabGreatDoor
