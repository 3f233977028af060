/- Texts joined: HeadS, PutHeadS, GetHdS, OneS, ListOk, UstOut, UstLink, UstEnd, MemIt, MemSt, MergeE, MapS, KindMath, ListOkI, UstI, UstS, EqE, SizeE, EntEq, LawE, MarkE, HeldE, PartsI, OwnO, GetUstarELaw. -/
import Derived.Deep.RegionWith
import Derived.Deep.RegionHeld3
import Derived.Test.YtancidbbkoeokaaGreatDoorComps
import Derived.Test.YtancidbbkoeokaaGreatDoorCom
import Derived.Maps.OwnSet
import Derived.Maps.OwnOps
import Derived.RangeFuncNested
import Derived.Stop.RegionWithIn
import Derived.OwnWalkIn
import Derived.Laws.StructEq
import Derived.Test.YtancidbbkoeokaaGreatDoorMarkT
import Derived.Test.YtancidbbkoeokaaGreatDoorClone
import Derived.Test.YtancidbbkoeokaaGreatDoorOwnL
import Derived.RangeFuncBox
import Derived.Test.YtancidbbkoeokaaGreatDoorJU2
/- Contracts of spec.l04Head and spec.PutHead. -/
namespace Go.Proofs.YtancidbbkoeokaaGreatDoor
open Go.ChangeShapes Go.WideShapes Go.ChangeAt Go.RowKit Go.Deep

set_option maxHeartbeats 6400000 in
set_option maxRecDepth 8000 in
theorem l04Head_spec (k : Int) (p l : ByteArray) (m u g t : Int) (us gr b nm pf fl : ByteArray) (sz : Int) (mg : ByteArray) (w : World) (hl : l.size ≤ 100000) (hus : us.size ≤ 100000) (hgr : gr.size ≤ 100000) (hnm : nm.size ≤ 100000) (hpf : pf.size ≤ 100000) (hfl : fl.size ≤ 100000) (hmg : mg.size ≤ 100000) :
    Calls Tryz.prog 68 #[.agg #[.int .i64 k, .string p, .string l, .int .i64 m, .int .i64 u, .int .i64 g, .int .i64 t, .string us, .string gr, .string b], .string nm, .string pf, .string fl, .int .i64 sz, .string mg] w fun e w' => e = .returned (.string (headv ⟨k, p, l, m, u, g, t, us, gr, b⟩ nm pf fl sz mg)) ∧ Below w.heap.size w w' := by
  have HN := Lib.hid (fun w => fill_spec nm 100 w (by omega))
  have HLk := Lib.hid (fun w => fill_spec l 100 w (by omega))
  have HU := Lib.hid (fun w => fill_spec us 32 w (by omega))
  have HG := Lib.hid (fun w => fill_spec gr 32 w (by omega))
  have HP := Lib.hid (fun w => fill_spec pf 155 w (by omega))
  have HZ := Lib.hid (fun w => nuls_spec 12 w (by omega))
  have HOm := Lib.hid (fun w => l04Oct_spec m 8 w (by omega) (by omega))
  have HOu := Lib.hid (fun w => l04Oct_spec u 8 w (by omega) (by omega))
  have HOg := Lib.hid (fun w => l04Oct_spec g 8 w (by omega) (by omega))
  have HOs := Lib.hid (fun w => l04Oct_spec sz 12 w (by omega) (by omega))
  have HOt := Lib.hid (fun w => l04Oct_spec t 12 w (by omega) (by omega))
  have HO0 := Lib.hid (fun w => l04Oct_spec 0 8 w (by omega) (by omega))
  have zfn := fill_size nm 100 (by omega)
  have zfl := fill_size l 100 (by omega)
  have zfu := fill_size us 32 (by omega)
  have zfg := fill_size gr 32 (by omega)
  have zfp := fill_size pf 155 (by omega)
  have zz := nulv_size 12
  have zom := octz_size m 8
  have zou := octz_size u 8
  have zog := octz_size g 8
  have zos := octz_size sz 12
  have zot := octz_size t 12
  have zo0 := octz_size 0 8
  have HE : Hid (headv ⟨k, p, l, m, u, g, t, us, gr, b⟩ nm pf fl sz mg = headA ⟨k, p, l, m, u, g, t, us, gr, b⟩ nm sz ++ (putOctv (sumv (headA ⟨k, p, l, m, u, g, t, us, gr, b⟩ nm sz).data.toList + 256 + sumv (headB ⟨k, p, l, m, u, g, t, us, gr, b⟩ pf fl mg).data.toList) 6).1 ++ ⟨#[0, 32]⟩ ++ headB ⟨k, p, l, m, u, g, t, us, gr, b⟩ pf fl mg) := Lib.hid rfl
  have HEA : Hid (headA ⟨k, p, l, m, u, g, t, us, gr, b⟩ nm sz = fillv nm 100 ++ octz m 8 ++ octz u 8 ++ octz g 8 ++ octz sz 12 ++ octz t 12) := Lib.hid rfl
  have HEB : Hid (headB ⟨k, p, l, m, u, g, t, us, gr, b⟩ pf fl mg = fl ++ fillv l 100 ++ mg ++ fillv us 32 ++ fillv gr 32 ++ octz 0 8 ++ octz 0 8 ++ fillv pf 155 ++ nulv 12) := Lib.hid rfl
  generalize headv ⟨k, p, l, m, u, g, t, us, gr, b⟩ nm pf fl sz mg = r at HE
  generalize headA ⟨k, p, l, m, u, g, t, us, gr, b⟩ nm sz = hA at HE HEA
  generalize headB ⟨k, p, l, m, u, g, t, us, gr, b⟩ pf fl mg = hB at HE HEB
  rw [show ((12 : Int).toNat) = 12 from rfl] at HZ
  generalize fillv nm 100 = fn at *
  generalize fillv l 100 = fll at *
  generalize fillv us 32 = fu at *
  generalize fillv gr 32 = fg at *
  generalize fillv pf 155 = fp at *
  generalize nulv 12 = z12 at *
  generalize octz m 8 = om at *
  generalize octz u 8 = ou at *
  generalize octz g 8 = og at *
  generalize octz sz 12 = os at *
  generalize octz t 12 = ot at *
  generalize octz 0 8 = o0 at *
  simp only [show ((100 : Int).toNat) = 100 from rfl, show ((32 : Int).toNat) = 32 from rfl, show ((155 : Int).toNat) = 155 from rfl] at zfn zfl zfu zfg zfp
  go_enter Tryz.func68, Tryz.ntmps68
  go_wp2_with fail
  have E0 := EntAt.new w ⟨k, p, l, m, u, g, t, us, gr, b⟩ 32
  have B0 := (Below.refl w.heap.size w).alloc (Nat.le_refl _) (.cells (Ent.cells ⟨k, p, l, m, u, g, t, us, gr, b⟩).toArray 32)
  have z0 : w.heap.size < (w.alloc (.cells (Ent.cells ⟨k, p, l, m, u, g, t, us, gr, b⟩).toArray 32)).heap.size := by simp
  simp only [Ent.cells] at E0 B0 z0
  generalize w.alloc (.cells #[.int .i64 k, .string p, .string l, .int .i64 m, .int .i64 u, .int .i64 g, .int .i64 t, .string us, .string gr, .string b] 32) = w1 at *
  have E1 := Lib.hid E0
  have B1 := Lib.hid B0
  clear E0 B0
  have KC : Hid (∀ w', Below w1.heap.size w1 w' → w'.cell? ⟨w.heap.size, 1, none⟩ = some (.string p) ∧ w'.cell? ⟨w.heap.size, 2, none⟩ = some (.string l) ∧ w'.cell? ⟨w.heap.size, 3, none⟩ = some (.int .i64 m) ∧ w'.cell? ⟨w.heap.size, 4, none⟩ = some (.int .i64 u) ∧ w'.cell? ⟨w.heap.size, 5, none⟩ = some (.int .i64 g) ∧ w'.cell? ⟨w.heap.size, 6, none⟩ = some (.int .i64 t) ∧ w'.cell? ⟨w.heap.size, 7, none⟩ = some (.string us) ∧ w'.cell? ⟨w.heap.size, 8, none⟩ = some (.string gr)) := Lib.hid (fun w' hb => by obtain ⟨c0, c1, c2, c3, c4, c5, c6, c7, c8, c9⟩ := (E1.out.below hb z0).zero; exact ⟨c1, c2, c3, c4, c5, c6, c7, c8⟩)
  obtain ⟨x22, hx22⟩ : ∃ x : ByteArray, x = fn ++ om := ⟨_, rfl⟩
  obtain ⟨x26, hx26⟩ : ∃ x : ByteArray, x = x22 ++ ou := ⟨_, rfl⟩
  obtain ⟨x30, hx30⟩ : ∃ x : ByteArray, x = x26 ++ og := ⟨_, rfl⟩
  obtain ⟨x33, hx33⟩ : ∃ x : ByteArray, x = x30 ++ os := ⟨_, rfl⟩
  obtain ⟨x37, hx37⟩ : ∃ x : ByteArray, x = x33 ++ ot := ⟨_, rfl⟩
  have zx22 : x22.size ≤ 100121 := by rw [hx22, ByteArray.size_append]; omega
  have zx26 : x26.size ≤ 100142 := by rw [hx26, ByteArray.size_append]; omega
  have zx30 : x30.size ≤ 100163 := by rw [hx30, ByteArray.size_append]; omega
  have zx33 : x33.size ≤ 100184 := by rw [hx33, ByteArray.size_append]; omega
  have zx37 : x37.size ≤ 100205 := by rw [hx37, ByteArray.size_append]; omega
  have HA22 : Hid (∀ w, (Op.stringOp .add fn om).run Tryz.prog w = .ok (.string x22) w) := Lib.hid (fun w => by rw [hx22]; exact run_string_add_sum w _ _ (by omega))
  have HA26 : Hid (∀ w, (Op.stringOp .add x22 ou).run Tryz.prog w = .ok (.string x26) w) := Lib.hid (fun w => by rw [hx26]; exact run_string_add_sum w _ _ (by omega))
  have HA30 : Hid (∀ w, (Op.stringOp .add x26 og).run Tryz.prog w = .ok (.string x30) w) := Lib.hid (fun w => by rw [hx30]; exact run_string_add_sum w _ _ (by omega))
  have HA33 : Hid (∀ w, (Op.stringOp .add x30 os).run Tryz.prog w = .ok (.string x33) w) := Lib.hid (fun w => by rw [hx33]; exact run_string_add_sum w _ _ (by omega))
  have HA37 : Hid (∀ w, (Op.stringOp .add x33 ot).run Tryz.prog w = .ok (.string x37) w) := Lib.hid (fun w => by rw [hx37]; exact run_string_add_sum w _ _ (by omega))
  have HX22 := Lib.hid hx22
  have HX26 := Lib.hid hx26
  have HX30 := Lib.hid hx30
  have HX33 := Lib.hid hx33
  have HX37 := Lib.hid hx37
  clear hx22 hx26 hx30 hx33 hx37
  refine wp_region_inv (by kernel_rfl) (fun w' => Below w1.heap.size w1 w') (fun x y => Below x.heap.size x y) (fun d v _ => match d with | 17 => v = .string nm | 18 => v = .string fn | 19 => v = .pointer (some ⟨w.heap.size, 3, none⟩) | 20 => v = .int .i64 m | 21 => v = .string om | 22 => v = .string x22 | 23 => v = .pointer (some ⟨w.heap.size, 4, none⟩) | 24 => v = .int .i64 u | 25 => v = .string ou | 26 => v = .string x26 | 27 => v = .pointer (some ⟨w.heap.size, 5, none⟩) | 28 => v = .int .i64 g | 29 => v = .string og | 30 => v = .string x30 | 31 => v = .int .i64 sz | 32 => v = .string os | 33 => v = .string x33 | 34 => v = .pointer (some ⟨w.heap.size, 6, none⟩) | 35 => v = .int .i64 t | 36 => v = .string ot | 37 => v = .string x37 | 13 => v = .string x37 | _ => True) (by kernel_rfl) ((Below.refl _ _).drew) (fun _ _ _ _ _ _ h => h) ?hops ?hend
  case hops =>
    simp only [List.forall_mem_cons]
    refine ⟨?o17, ?o18, ?o19, ?o20, ?o21, ?o22, ?o23, ?o24, ?o25, ?o26, ?o27, ?o28, ?o29, ?o30, ?o31, ?o32, ?o33, ?o34, ?o35, ?o36, ?o37, ?o13, fun _ h => by cases h⟩
    case o17 =>
      intro Q a w2 hC hV hI
      have e1 : a.eval (.tmp 1) = .string nm := (hI 1 (by simp [Op.operands]) (by kernel_rfl)).trans rfl
      have f1 : a.tmps.getD 1 undef = .string nm := e1
      have g1 : a.tmps[1]?.getD undef = .string nm := by rw [← Array.getD_eq_getD_getElem?]; exact e1
      refine op_val (.string nm) ?_ hC (Below.refl _ _) (by intro d hd; cases hd; rfl)
      (clear hV hI hC; go_simp <;> (first | rfl | simp))
    case o18 =>
      intro Q a w2 hC hV hI
      have e17 : a.eval (.tmp 17) = .string nm := hV 17 (by simp [Op.operands, Call.operands]) (by kernel_rfl)
      have f17 : a.tmps.getD 17 undef = .string nm := e17
      have g17 : a.tmps[17]?.getD undef = .string nm := by rw [← Array.getD_eq_getD_getElem?]; exact e17
      refine op_call (f := 89) (args := #[.string nm, .int .i64 100]) (R := fun v y => v = .string fn ∧ Below w2.heap.size w2 y) ?_ ((HN.out w2).mono ?_) ?_
      · (clear hV hI hC; go_simp <;> (first | rfl | simp))
      · rintro e y ⟨rfl, hb⟩; exact ⟨_, rfl, rfl, hb⟩
      · rintro v y ⟨rfl, hb⟩; exact ⟨hC.trans (hb.mono hC.size), hb, by intro d hd; cases hd; rfl⟩
    case o19 =>
      intro Q a w2 hC hV hI
      have e6 : a.eval (.tmp 6) = .pointer (some ⟨w.heap.size, 0, none⟩) := (hI 6 (by simp [Op.operands]) (by kernel_rfl)).trans rfl
      have f6 : a.tmps.getD 6 undef = .pointer (some ⟨w.heap.size, 0, none⟩) := e6
      have g6 : a.tmps[6]?.getD undef = .pointer (some ⟨w.heap.size, 0, none⟩) := by rw [← Array.getD_eq_getD_getElem?]; exact e6
      refine op_val (.pointer (some ⟨w.heap.size, 3, none⟩)) ?_ hC (Below.refl _ _) (by intro d hd; cases hd; rfl)
      (clear hV hI hC; go_simp <;> (first | rfl | simp))
    case o20 =>
      intro Q a w2 hC hV hI
      have e19 : a.eval (.tmp 19) = .pointer (some ⟨w.heap.size, 3, none⟩) := hV 19 (by simp [Op.operands]) (by kernel_rfl)
      have f19 : a.tmps.getD 19 undef = .pointer (some ⟨w.heap.size, 3, none⟩) := e19
      have g19 : a.tmps[19]?.getD undef = .pointer (some ⟨w.heap.size, 3, none⟩) := by rw [← Array.getD_eq_getD_getElem?]; exact e19
      have hK := KC.out w2 hC
      refine op_val (.int .i64 m) ?_ hC (Below.refl _ _) (by intro d hd; cases hd; rfl)
      (clear hV hI hC; go_simp <;> (first | rfl | simp))
    case o21 =>
      intro Q a w2 hC hV hI
      have e20 : a.eval (.tmp 20) = .int .i64 m := hV 20 (by simp [Op.operands, Call.operands]) (by kernel_rfl)
      have f20 : a.tmps.getD 20 undef = .int .i64 m := e20
      have g20 : a.tmps[20]?.getD undef = .int .i64 m := by rw [← Array.getD_eq_getD_getElem?]; exact e20
      refine op_call (f := 90) (args := #[.int .i64 m, .int .i64 8]) (R := fun v y => v = .string om ∧ w2 = y) ?_ ((HOm.out w2).mono ?_) ?_
      · (clear hV hI hC; go_simp <;> (first | rfl | simp))
      · rintro e y ⟨rfl, rfl⟩; exact ⟨_, rfl, rfl, rfl⟩
      · rintro v y ⟨rfl, rfl⟩; exact ⟨hC, Below.refl _ _, by intro d hd; cases hd; rfl⟩
    case o22 =>
      intro Q a w2 hC hV hI
      have e18 : a.eval (.tmp 18) = .string fn := hV 18 (by simp [Op.operands]) (by kernel_rfl)
      have f18 : a.tmps.getD 18 undef = .string fn := e18
      have g18 : a.tmps[18]?.getD undef = .string fn := by rw [← Array.getD_eq_getD_getElem?]; exact e18
      have e21 : a.eval (.tmp 21) = .string om := hV 21 (by simp [Op.operands]) (by kernel_rfl)
      have f21 : a.tmps.getD 21 undef = .string om := e21
      have g21 : a.tmps[21]?.getD undef = .string om := by rw [← Array.getD_eq_getD_getElem?]; exact e21
      refine op_val (.string x22) ?_ hC (Below.refl _ _) (by intro d hd; cases hd; rfl)
      have q := HA22.out w2
      (clear hV hI hC; go_simp <;> (first | rfl | simp))
    case o23 =>
      intro Q a w2 hC hV hI
      have e6 : a.eval (.tmp 6) = .pointer (some ⟨w.heap.size, 0, none⟩) := (hI 6 (by simp [Op.operands]) (by kernel_rfl)).trans rfl
      have f6 : a.tmps.getD 6 undef = .pointer (some ⟨w.heap.size, 0, none⟩) := e6
      have g6 : a.tmps[6]?.getD undef = .pointer (some ⟨w.heap.size, 0, none⟩) := by rw [← Array.getD_eq_getD_getElem?]; exact e6
      refine op_val (.pointer (some ⟨w.heap.size, 4, none⟩)) ?_ hC (Below.refl _ _) (by intro d hd; cases hd; rfl)
      (clear hV hI hC; go_simp <;> (first | rfl | simp))
    case o24 =>
      intro Q a w2 hC hV hI
      have e23 : a.eval (.tmp 23) = .pointer (some ⟨w.heap.size, 4, none⟩) := hV 23 (by simp [Op.operands]) (by kernel_rfl)
      have f23 : a.tmps.getD 23 undef = .pointer (some ⟨w.heap.size, 4, none⟩) := e23
      have g23 : a.tmps[23]?.getD undef = .pointer (some ⟨w.heap.size, 4, none⟩) := by rw [← Array.getD_eq_getD_getElem?]; exact e23
      have hK := KC.out w2 hC
      refine op_val (.int .i64 u) ?_ hC (Below.refl _ _) (by intro d hd; cases hd; rfl)
      (clear hV hI hC; go_simp <;> (first | rfl | simp))
    case o25 =>
      intro Q a w2 hC hV hI
      have e24 : a.eval (.tmp 24) = .int .i64 u := hV 24 (by simp [Op.operands, Call.operands]) (by kernel_rfl)
      have f24 : a.tmps.getD 24 undef = .int .i64 u := e24
      have g24 : a.tmps[24]?.getD undef = .int .i64 u := by rw [← Array.getD_eq_getD_getElem?]; exact e24
      refine op_call (f := 90) (args := #[.int .i64 u, .int .i64 8]) (R := fun v y => v = .string ou ∧ w2 = y) ?_ ((HOu.out w2).mono ?_) ?_
      · (clear hV hI hC; go_simp <;> (first | rfl | simp))
      · rintro e y ⟨rfl, rfl⟩; exact ⟨_, rfl, rfl, rfl⟩
      · rintro v y ⟨rfl, rfl⟩; exact ⟨hC, Below.refl _ _, by intro d hd; cases hd; rfl⟩
    case o26 =>
      intro Q a w2 hC hV hI
      have e22 : a.eval (.tmp 22) = .string x22 := hV 22 (by simp [Op.operands]) (by kernel_rfl)
      have f22 : a.tmps.getD 22 undef = .string x22 := e22
      have g22 : a.tmps[22]?.getD undef = .string x22 := by rw [← Array.getD_eq_getD_getElem?]; exact e22
      have e25 : a.eval (.tmp 25) = .string ou := hV 25 (by simp [Op.operands]) (by kernel_rfl)
      have f25 : a.tmps.getD 25 undef = .string ou := e25
      have g25 : a.tmps[25]?.getD undef = .string ou := by rw [← Array.getD_eq_getD_getElem?]; exact e25
      refine op_val (.string x26) ?_ hC (Below.refl _ _) (by intro d hd; cases hd; rfl)
      have q := HA26.out w2
      (clear hV hI hC; go_simp <;> (first | rfl | simp))
    case o27 =>
      intro Q a w2 hC hV hI
      have e6 : a.eval (.tmp 6) = .pointer (some ⟨w.heap.size, 0, none⟩) := (hI 6 (by simp [Op.operands]) (by kernel_rfl)).trans rfl
      have f6 : a.tmps.getD 6 undef = .pointer (some ⟨w.heap.size, 0, none⟩) := e6
      have g6 : a.tmps[6]?.getD undef = .pointer (some ⟨w.heap.size, 0, none⟩) := by rw [← Array.getD_eq_getD_getElem?]; exact e6
      refine op_val (.pointer (some ⟨w.heap.size, 5, none⟩)) ?_ hC (Below.refl _ _) (by intro d hd; cases hd; rfl)
      (clear hV hI hC; go_simp <;> (first | rfl | simp))
    case o28 =>
      intro Q a w2 hC hV hI
      have e27 : a.eval (.tmp 27) = .pointer (some ⟨w.heap.size, 5, none⟩) := hV 27 (by simp [Op.operands]) (by kernel_rfl)
      have f27 : a.tmps.getD 27 undef = .pointer (some ⟨w.heap.size, 5, none⟩) := e27
      have g27 : a.tmps[27]?.getD undef = .pointer (some ⟨w.heap.size, 5, none⟩) := by rw [← Array.getD_eq_getD_getElem?]; exact e27
      have hK := KC.out w2 hC
      refine op_val (.int .i64 g) ?_ hC (Below.refl _ _) (by intro d hd; cases hd; rfl)
      (clear hV hI hC; go_simp <;> (first | rfl | simp))
    case o29 =>
      intro Q a w2 hC hV hI
      have e28 : a.eval (.tmp 28) = .int .i64 g := hV 28 (by simp [Op.operands, Call.operands]) (by kernel_rfl)
      have f28 : a.tmps.getD 28 undef = .int .i64 g := e28
      have g28 : a.tmps[28]?.getD undef = .int .i64 g := by rw [← Array.getD_eq_getD_getElem?]; exact e28
      refine op_call (f := 90) (args := #[.int .i64 g, .int .i64 8]) (R := fun v y => v = .string og ∧ w2 = y) ?_ ((HOg.out w2).mono ?_) ?_
      · (clear hV hI hC; go_simp <;> (first | rfl | simp))
      · rintro e y ⟨rfl, rfl⟩; exact ⟨_, rfl, rfl, rfl⟩
      · rintro v y ⟨rfl, rfl⟩; exact ⟨hC, Below.refl _ _, by intro d hd; cases hd; rfl⟩
    case o30 =>
      intro Q a w2 hC hV hI
      have e26 : a.eval (.tmp 26) = .string x26 := hV 26 (by simp [Op.operands]) (by kernel_rfl)
      have f26 : a.tmps.getD 26 undef = .string x26 := e26
      have g26 : a.tmps[26]?.getD undef = .string x26 := by rw [← Array.getD_eq_getD_getElem?]; exact e26
      have e29 : a.eval (.tmp 29) = .string og := hV 29 (by simp [Op.operands]) (by kernel_rfl)
      have f29 : a.tmps.getD 29 undef = .string og := e29
      have g29 : a.tmps[29]?.getD undef = .string og := by rw [← Array.getD_eq_getD_getElem?]; exact e29
      refine op_val (.string x30) ?_ hC (Below.refl _ _) (by intro d hd; cases hd; rfl)
      have q := HA30.out w2
      (clear hV hI hC; go_simp <;> (first | rfl | simp))
    case o31 =>
      intro Q a w2 hC hV hI
      have e4 : a.eval (.tmp 4) = .int .i64 sz := (hI 4 (by simp [Op.operands]) (by kernel_rfl)).trans rfl
      have f4 : a.tmps.getD 4 undef = .int .i64 sz := e4
      have g4 : a.tmps[4]?.getD undef = .int .i64 sz := by rw [← Array.getD_eq_getD_getElem?]; exact e4
      refine op_val (.int .i64 sz) ?_ hC (Below.refl _ _) (by intro d hd; cases hd; rfl)
      (clear hV hI hC; go_simp <;> (first | rfl | simp))
    case o32 =>
      intro Q a w2 hC hV hI
      have e31 : a.eval (.tmp 31) = .int .i64 sz := hV 31 (by simp [Op.operands, Call.operands]) (by kernel_rfl)
      have f31 : a.tmps.getD 31 undef = .int .i64 sz := e31
      have g31 : a.tmps[31]?.getD undef = .int .i64 sz := by rw [← Array.getD_eq_getD_getElem?]; exact e31
      refine op_call (f := 90) (args := #[.int .i64 sz, .int .i64 12]) (R := fun v y => v = .string os ∧ w2 = y) ?_ ((HOs.out w2).mono ?_) ?_
      · (clear hV hI hC; go_simp <;> (first | rfl | simp))
      · rintro e y ⟨rfl, rfl⟩; exact ⟨_, rfl, rfl, rfl⟩
      · rintro v y ⟨rfl, rfl⟩; exact ⟨hC, Below.refl _ _, by intro d hd; cases hd; rfl⟩
    case o33 =>
      intro Q a w2 hC hV hI
      have e30 : a.eval (.tmp 30) = .string x30 := hV 30 (by simp [Op.operands]) (by kernel_rfl)
      have f30 : a.tmps.getD 30 undef = .string x30 := e30
      have g30 : a.tmps[30]?.getD undef = .string x30 := by rw [← Array.getD_eq_getD_getElem?]; exact e30
      have e32 : a.eval (.tmp 32) = .string os := hV 32 (by simp [Op.operands]) (by kernel_rfl)
      have f32 : a.tmps.getD 32 undef = .string os := e32
      have g32 : a.tmps[32]?.getD undef = .string os := by rw [← Array.getD_eq_getD_getElem?]; exact e32
      refine op_val (.string x33) ?_ hC (Below.refl _ _) (by intro d hd; cases hd; rfl)
      have q := HA33.out w2
      (clear hV hI hC; go_simp <;> (first | rfl | simp))
    case o34 =>
      intro Q a w2 hC hV hI
      have e6 : a.eval (.tmp 6) = .pointer (some ⟨w.heap.size, 0, none⟩) := (hI 6 (by simp [Op.operands]) (by kernel_rfl)).trans rfl
      have f6 : a.tmps.getD 6 undef = .pointer (some ⟨w.heap.size, 0, none⟩) := e6
      have g6 : a.tmps[6]?.getD undef = .pointer (some ⟨w.heap.size, 0, none⟩) := by rw [← Array.getD_eq_getD_getElem?]; exact e6
      refine op_val (.pointer (some ⟨w.heap.size, 6, none⟩)) ?_ hC (Below.refl _ _) (by intro d hd; cases hd; rfl)
      (clear hV hI hC; go_simp <;> (first | rfl | simp))
    case o35 =>
      intro Q a w2 hC hV hI
      have e34 : a.eval (.tmp 34) = .pointer (some ⟨w.heap.size, 6, none⟩) := hV 34 (by simp [Op.operands]) (by kernel_rfl)
      have f34 : a.tmps.getD 34 undef = .pointer (some ⟨w.heap.size, 6, none⟩) := e34
      have g34 : a.tmps[34]?.getD undef = .pointer (some ⟨w.heap.size, 6, none⟩) := by rw [← Array.getD_eq_getD_getElem?]; exact e34
      have hK := KC.out w2 hC
      refine op_val (.int .i64 t) ?_ hC (Below.refl _ _) (by intro d hd; cases hd; rfl)
      (clear hV hI hC; go_simp <;> (first | rfl | simp))
    case o36 =>
      intro Q a w2 hC hV hI
      have e35 : a.eval (.tmp 35) = .int .i64 t := hV 35 (by simp [Op.operands, Call.operands]) (by kernel_rfl)
      have f35 : a.tmps.getD 35 undef = .int .i64 t := e35
      have g35 : a.tmps[35]?.getD undef = .int .i64 t := by rw [← Array.getD_eq_getD_getElem?]; exact e35
      refine op_call (f := 90) (args := #[.int .i64 t, .int .i64 12]) (R := fun v y => v = .string ot ∧ w2 = y) ?_ ((HOt.out w2).mono ?_) ?_
      · (clear hV hI hC; go_simp <;> (first | rfl | simp))
      · rintro e y ⟨rfl, rfl⟩; exact ⟨_, rfl, rfl, rfl⟩
      · rintro v y ⟨rfl, rfl⟩; exact ⟨hC, Below.refl _ _, by intro d hd; cases hd; rfl⟩
    case o37 =>
      intro Q a w2 hC hV hI
      have e33 : a.eval (.tmp 33) = .string x33 := hV 33 (by simp [Op.operands]) (by kernel_rfl)
      have f33 : a.tmps.getD 33 undef = .string x33 := e33
      have g33 : a.tmps[33]?.getD undef = .string x33 := by rw [← Array.getD_eq_getD_getElem?]; exact e33
      have e36 : a.eval (.tmp 36) = .string ot := hV 36 (by simp [Op.operands]) (by kernel_rfl)
      have f36 : a.tmps.getD 36 undef = .string ot := e36
      have g36 : a.tmps[36]?.getD undef = .string ot := by rw [← Array.getD_eq_getD_getElem?]; exact e36
      refine op_val (.string x37) ?_ hC (Below.refl _ _) (by intro d hd; cases hd; rfl)
      have q := HA37.out w2
      (clear hV hI hC; go_simp <;> (first | rfl | simp))
    case o13 =>
      intro Q a w2 hC hV hI
      have e37 : a.eval (.tmp 37) = .string x37 := hV 37 (by simp [Op.operands]) (by kernel_rfl)
      have f37 : a.tmps.getD 37 undef = .string x37 := e37
      have g37 : a.tmps[37]?.getD undef = .string x37 := by rw [← Array.getD_eq_getD_getElem?]; exact e37
      refine op_val (.string x37) ?_ hC (Below.refl _ _) (by intro d hd; cases hd; rfl)
      (clear hV hI hC; go_simp <;> (first | rfl | simp))
  case hend =>
    intro f w3 hC hall
    clear HA22 HA26 HA30 HA33 HA37
    simp only [List.forall_mem_cons] at hall
    obtain ⟨h17, h18, h19, h20, h21, h22, h23, h24, h25, h26, h27, h28, h29, h30, h31, h32, h33, h34, h35, h36, h37, h13, _⟩ := hall
    replace h17 : f 17 = .string nm := h17 17 rfl
    replace h18 : f 18 = .string fn := h18 18 rfl
    replace h19 : f 19 = .pointer (some ⟨w.heap.size, 3, none⟩) := h19 19 rfl
    replace h20 : f 20 = .int .i64 m := h20 20 rfl
    replace h21 : f 21 = .string om := h21 21 rfl
    replace h22 : f 22 = .string x22 := h22 22 rfl
    replace h23 : f 23 = .pointer (some ⟨w.heap.size, 4, none⟩) := h23 23 rfl
    replace h24 : f 24 = .int .i64 u := h24 24 rfl
    replace h25 : f 25 = .string ou := h25 25 rfl
    replace h26 : f 26 = .string x26 := h26 26 rfl
    replace h27 : f 27 = .pointer (some ⟨w.heap.size, 5, none⟩) := h27 27 rfl
    replace h28 : f 28 = .int .i64 g := h28 28 rfl
    replace h29 : f 29 = .string og := h29 29 rfl
    replace h30 : f 30 = .string x30 := h30 30 rfl
    replace h31 : f 31 = .int .i64 sz := h31 31 rfl
    replace h32 : f 32 = .string os := h32 32 rfl
    replace h33 : f 33 = .string x33 := h33 33 rfl
    replace h34 : f 34 = .pointer (some ⟨w.heap.size, 6, none⟩) := h34 34 rfl
    replace h35 : f 35 = .int .i64 t := h35 35 rfl
    replace h36 : f 36 = .string ot := h36 36 rfl
    replace h37 : f 37 = .string x37 := h37 37 rfl
    replace h13 : f 13 = .string x37 := h13 13 rfl
    simp only [putAll, Act.put, List.setIfInBounds_toArray, List.set_cons_succ, List.set_cons_zero, h17, h18, h19, h20, h21, h22, h23, h24, h25, h26, h27, h28, h29, h30, h31, h32, h33, h34, h35, h36, h37, h13]
    clear h17 h18 h19 h20 h21 h22 h23 h24 h25 h26 h27 h28 h29 h30 h31 h32 h33 h34 h35 h36 h37 h13
    have HXA : Hid (hA = x37) := Lib.hid (by rw [HEA.out, HX37.out, HX33.out, HX30.out, HX26.out, HX22.out])
    have E3 := Lib.hid (E1.out.below hC z0)
    have B3 := Lib.hid (btE B1.out hC)
    replace z0 := Nat.lt_of_lt_of_le z0 hC.size
    clear hC KC E1 B1 HX22 HX26 HX30 HX33 HX37
    go_wp2_with fail
    have KC : Hid (∀ w', Below w3.heap.size w3 w' → w'.cell? ⟨w.heap.size, 1, none⟩ = some (.string p) ∧ w'.cell? ⟨w.heap.size, 2, none⟩ = some (.string l) ∧ w'.cell? ⟨w.heap.size, 3, none⟩ = some (.int .i64 m) ∧ w'.cell? ⟨w.heap.size, 4, none⟩ = some (.int .i64 u) ∧ w'.cell? ⟨w.heap.size, 5, none⟩ = some (.int .i64 g) ∧ w'.cell? ⟨w.heap.size, 6, none⟩ = some (.int .i64 t) ∧ w'.cell? ⟨w.heap.size, 7, none⟩ = some (.string us) ∧ w'.cell? ⟨w.heap.size, 8, none⟩ = some (.string gr)) := Lib.hid (fun w' hb => by obtain ⟨c0, c1, c2, c3, c4, c5, c6, c7, c8, c9⟩ := (E3.out.below hb z0).zero; exact ⟨c1, c2, c3, c4, c5, c6, c7, c8⟩)
    obtain ⟨x42, hx42⟩ : ∃ x : ByteArray, x = fl ++ fll := ⟨_, rfl⟩
    obtain ⟨x44, hx44⟩ : ∃ x : ByteArray, x = x42 ++ mg := ⟨_, rfl⟩
    obtain ⟨x48, hx48⟩ : ∃ x : ByteArray, x = x44 ++ fu := ⟨_, rfl⟩
    obtain ⟨x52, hx52⟩ : ∃ x : ByteArray, x = x48 ++ fg := ⟨_, rfl⟩
    obtain ⟨x54, hx54⟩ : ∃ x : ByteArray, x = x52 ++ o0 := ⟨_, rfl⟩
    obtain ⟨x56, hx56⟩ : ∃ x : ByteArray, x = x54 ++ o0 := ⟨_, rfl⟩
    obtain ⟨x59, hx59⟩ : ∃ x : ByteArray, x = x56 ++ fp := ⟨_, rfl⟩
    obtain ⟨x61, hx61⟩ : ∃ x : ByteArray, x = x59 ++ z12 := ⟨_, rfl⟩
    have zx42 : x42.size ≤ 200100 := by rw [hx42, ByteArray.size_append]; omega
    have zx44 : x44.size ≤ 300100 := by rw [hx44, ByteArray.size_append]; omega
    have zx48 : x48.size ≤ 400132 := by rw [hx48, ByteArray.size_append]; omega
    have zx52 : x52.size ≤ 500164 := by rw [hx52, ByteArray.size_append]; omega
    have zx54 : x54.size ≤ 500185 := by rw [hx54, ByteArray.size_append]; omega
    have zx56 : x56.size ≤ 500206 := by rw [hx56, ByteArray.size_append]; omega
    have zx59 : x59.size ≤ 600361 := by rw [hx59, ByteArray.size_append]; omega
    have zx61 : x61.size ≤ 600373 := by rw [hx61, ByteArray.size_append]; omega
    have HA42 : Hid (∀ w, (Op.stringOp .add fl fll).run Tryz.prog w = .ok (.string x42) w) := Lib.hid (fun w => by rw [hx42]; exact run_string_add_sum w _ _ (by omega))
    have HA44 : Hid (∀ w, (Op.stringOp .add x42 mg).run Tryz.prog w = .ok (.string x44) w) := Lib.hid (fun w => by rw [hx44]; exact run_string_add_sum w _ _ (by omega))
    have HA48 : Hid (∀ w, (Op.stringOp .add x44 fu).run Tryz.prog w = .ok (.string x48) w) := Lib.hid (fun w => by rw [hx48]; exact run_string_add_sum w _ _ (by omega))
    have HA52 : Hid (∀ w, (Op.stringOp .add x48 fg).run Tryz.prog w = .ok (.string x52) w) := Lib.hid (fun w => by rw [hx52]; exact run_string_add_sum w _ _ (by omega))
    have HA54 : Hid (∀ w, (Op.stringOp .add x52 o0).run Tryz.prog w = .ok (.string x54) w) := Lib.hid (fun w => by rw [hx54]; exact run_string_add_sum w _ _ (by omega))
    have HA56 : Hid (∀ w, (Op.stringOp .add x54 o0).run Tryz.prog w = .ok (.string x56) w) := Lib.hid (fun w => by rw [hx56]; exact run_string_add_sum w _ _ (by omega))
    have HA59 : Hid (∀ w, (Op.stringOp .add x56 fp).run Tryz.prog w = .ok (.string x59) w) := Lib.hid (fun w => by rw [hx59]; exact run_string_add_sum w _ _ (by omega))
    have HA61 : Hid (∀ w, (Op.stringOp .add x59 z12).run Tryz.prog w = .ok (.string x61) w) := Lib.hid (fun w => by rw [hx61]; exact run_string_add_sum w _ _ (by omega))
    have HX42 := Lib.hid hx42
    have HX44 := Lib.hid hx44
    have HX48 := Lib.hid hx48
    have HX52 := Lib.hid hx52
    have HX54 := Lib.hid hx54
    have HX56 := Lib.hid hx56
    have HX59 := Lib.hid hx59
    have HX61 := Lib.hid hx61
    clear hx42 hx44 hx48 hx52 hx54 hx56 hx59 hx61
    refine wp_region_inv (by kernel_rfl) (fun w' => Below w3.heap.size w3 w') (fun x y => Below x.heap.size x y) (fun d v _ => match d with | 38 => v = .string fl | 39 => v = .pointer (some ⟨w.heap.size, 2, none⟩) | 40 => v = .string l | 41 => v = .string fll | 42 => v = .string x42 | 43 => v = .string mg | 44 => v = .string x44 | 45 => v = .pointer (some ⟨w.heap.size, 7, none⟩) | 46 => v = .string us | 47 => v = .string fu | 48 => v = .string x48 | 49 => v = .pointer (some ⟨w.heap.size, 8, none⟩) | 50 => v = .string gr | 51 => v = .string fg | 52 => v = .string x52 | 53 => v = .string o0 | 54 => v = .string x54 | 55 => v = .string o0 | 56 => v = .string x56 | 57 => v = .string pf | 58 => v = .string fp | 59 => v = .string x59 | 60 => v = .string z12 | 61 => v = .string x61 | 14 => v = .string x61 | _ => True) (by kernel_rfl) ((Below.refl _ _).drew) (fun _ _ _ _ _ _ h => h) ?hops ?hend
    case hops =>
      simp only [List.forall_mem_cons]
      refine ⟨?o38, ?o39, ?o40, ?o41, ?o42, ?o43, ?o44, ?o45, ?o46, ?o47, ?o48, ?o49, ?o50, ?o51, ?o52, ?o53, ?o54, ?o55, ?o56, ?o57, ?o58, ?o59, ?o60, ?o61, ?o14, fun _ h => by cases h⟩
      case o38 =>
        intro Q a w2 hC hV hI
        have e3 : a.eval (.tmp 3) = .string fl := (hI 3 (by simp [Op.operands]) (by kernel_rfl)).trans rfl
        have f3 : a.tmps.getD 3 undef = .string fl := e3
        have g3 : a.tmps[3]?.getD undef = .string fl := by rw [← Array.getD_eq_getD_getElem?]; exact e3
        refine op_val (.string fl) ?_ hC (Below.refl _ _) (by intro d hd; cases hd; rfl)
        (clear hV hI hC; go_simp <;> (first | rfl | simp))
      case o39 =>
        intro Q a w2 hC hV hI
        have e6 : a.eval (.tmp 6) = .pointer (some ⟨w.heap.size, 0, none⟩) := (hI 6 (by simp [Op.operands]) (by kernel_rfl)).trans rfl
        have f6 : a.tmps.getD 6 undef = .pointer (some ⟨w.heap.size, 0, none⟩) := e6
        have g6 : a.tmps[6]?.getD undef = .pointer (some ⟨w.heap.size, 0, none⟩) := by rw [← Array.getD_eq_getD_getElem?]; exact e6
        refine op_val (.pointer (some ⟨w.heap.size, 2, none⟩)) ?_ hC (Below.refl _ _) (by intro d hd; cases hd; rfl)
        (clear hV hI hC; go_simp <;> (first | rfl | simp))
      case o40 =>
        intro Q a w2 hC hV hI
        have e39 : a.eval (.tmp 39) = .pointer (some ⟨w.heap.size, 2, none⟩) := hV 39 (by simp [Op.operands]) (by kernel_rfl)
        have f39 : a.tmps.getD 39 undef = .pointer (some ⟨w.heap.size, 2, none⟩) := e39
        have g39 : a.tmps[39]?.getD undef = .pointer (some ⟨w.heap.size, 2, none⟩) := by rw [← Array.getD_eq_getD_getElem?]; exact e39
        have hK := KC.out w2 hC
        refine op_val (.string l) ?_ hC (Below.refl _ _) (by intro d hd; cases hd; rfl)
        (clear hV hI hC; go_simp <;> (first | rfl | simp))
      case o41 =>
        intro Q a w2 hC hV hI
        have e40 : a.eval (.tmp 40) = .string l := hV 40 (by simp [Op.operands, Call.operands]) (by kernel_rfl)
        have f40 : a.tmps.getD 40 undef = .string l := e40
        have g40 : a.tmps[40]?.getD undef = .string l := by rw [← Array.getD_eq_getD_getElem?]; exact e40
        refine op_call (f := 89) (args := #[.string l, .int .i64 100]) (R := fun v y => v = .string fll ∧ Below w2.heap.size w2 y) ?_ ((HLk.out w2).mono ?_) ?_
        · (clear hV hI hC; go_simp <;> (first | rfl | simp))
        · rintro e y ⟨rfl, hb⟩; exact ⟨_, rfl, rfl, hb⟩
        · rintro v y ⟨rfl, hb⟩; exact ⟨hC.trans (hb.mono hC.size), hb, by intro d hd; cases hd; rfl⟩
      case o42 =>
        intro Q a w2 hC hV hI
        have e38 : a.eval (.tmp 38) = .string fl := hV 38 (by simp [Op.operands]) (by kernel_rfl)
        have f38 : a.tmps.getD 38 undef = .string fl := e38
        have g38 : a.tmps[38]?.getD undef = .string fl := by rw [← Array.getD_eq_getD_getElem?]; exact e38
        have e41 : a.eval (.tmp 41) = .string fll := hV 41 (by simp [Op.operands]) (by kernel_rfl)
        have f41 : a.tmps.getD 41 undef = .string fll := e41
        have g41 : a.tmps[41]?.getD undef = .string fll := by rw [← Array.getD_eq_getD_getElem?]; exact e41
        refine op_val (.string x42) ?_ hC (Below.refl _ _) (by intro d hd; cases hd; rfl)
        have q := HA42.out w2
        (clear hV hI hC; go_simp <;> (first | rfl | simp))
      case o43 =>
        intro Q a w2 hC hV hI
        have e5 : a.eval (.tmp 5) = .string mg := (hI 5 (by simp [Op.operands]) (by kernel_rfl)).trans rfl
        have f5 : a.tmps.getD 5 undef = .string mg := e5
        have g5 : a.tmps[5]?.getD undef = .string mg := by rw [← Array.getD_eq_getD_getElem?]; exact e5
        refine op_val (.string mg) ?_ hC (Below.refl _ _) (by intro d hd; cases hd; rfl)
        (clear hV hI hC; go_simp <;> (first | rfl | simp))
      case o44 =>
        intro Q a w2 hC hV hI
        have e42 : a.eval (.tmp 42) = .string x42 := hV 42 (by simp [Op.operands]) (by kernel_rfl)
        have f42 : a.tmps.getD 42 undef = .string x42 := e42
        have g42 : a.tmps[42]?.getD undef = .string x42 := by rw [← Array.getD_eq_getD_getElem?]; exact e42
        have e43 : a.eval (.tmp 43) = .string mg := hV 43 (by simp [Op.operands]) (by kernel_rfl)
        have f43 : a.tmps.getD 43 undef = .string mg := e43
        have g43 : a.tmps[43]?.getD undef = .string mg := by rw [← Array.getD_eq_getD_getElem?]; exact e43
        refine op_val (.string x44) ?_ hC (Below.refl _ _) (by intro d hd; cases hd; rfl)
        have q := HA44.out w2
        (clear hV hI hC; go_simp <;> (first | rfl | simp))
      case o45 =>
        intro Q a w2 hC hV hI
        have e6 : a.eval (.tmp 6) = .pointer (some ⟨w.heap.size, 0, none⟩) := (hI 6 (by simp [Op.operands]) (by kernel_rfl)).trans rfl
        have f6 : a.tmps.getD 6 undef = .pointer (some ⟨w.heap.size, 0, none⟩) := e6
        have g6 : a.tmps[6]?.getD undef = .pointer (some ⟨w.heap.size, 0, none⟩) := by rw [← Array.getD_eq_getD_getElem?]; exact e6
        refine op_val (.pointer (some ⟨w.heap.size, 7, none⟩)) ?_ hC (Below.refl _ _) (by intro d hd; cases hd; rfl)
        (clear hV hI hC; go_simp <;> (first | rfl | simp))
      case o46 =>
        intro Q a w2 hC hV hI
        have e45 : a.eval (.tmp 45) = .pointer (some ⟨w.heap.size, 7, none⟩) := hV 45 (by simp [Op.operands]) (by kernel_rfl)
        have f45 : a.tmps.getD 45 undef = .pointer (some ⟨w.heap.size, 7, none⟩) := e45
        have g45 : a.tmps[45]?.getD undef = .pointer (some ⟨w.heap.size, 7, none⟩) := by rw [← Array.getD_eq_getD_getElem?]; exact e45
        have hK := KC.out w2 hC
        refine op_val (.string us) ?_ hC (Below.refl _ _) (by intro d hd; cases hd; rfl)
        (clear hV hI hC; go_simp <;> (first | rfl | simp))
      case o47 =>
        intro Q a w2 hC hV hI
        have e46 : a.eval (.tmp 46) = .string us := hV 46 (by simp [Op.operands, Call.operands]) (by kernel_rfl)
        have f46 : a.tmps.getD 46 undef = .string us := e46
        have g46 : a.tmps[46]?.getD undef = .string us := by rw [← Array.getD_eq_getD_getElem?]; exact e46
        refine op_call (f := 89) (args := #[.string us, .int .i64 32]) (R := fun v y => v = .string fu ∧ Below w2.heap.size w2 y) ?_ ((HU.out w2).mono ?_) ?_
        · (clear hV hI hC; go_simp <;> (first | rfl | simp))
        · rintro e y ⟨rfl, hb⟩; exact ⟨_, rfl, rfl, hb⟩
        · rintro v y ⟨rfl, hb⟩; exact ⟨hC.trans (hb.mono hC.size), hb, by intro d hd; cases hd; rfl⟩
      case o48 =>
        intro Q a w2 hC hV hI
        have e44 : a.eval (.tmp 44) = .string x44 := hV 44 (by simp [Op.operands]) (by kernel_rfl)
        have f44 : a.tmps.getD 44 undef = .string x44 := e44
        have g44 : a.tmps[44]?.getD undef = .string x44 := by rw [← Array.getD_eq_getD_getElem?]; exact e44
        have e47 : a.eval (.tmp 47) = .string fu := hV 47 (by simp [Op.operands]) (by kernel_rfl)
        have f47 : a.tmps.getD 47 undef = .string fu := e47
        have g47 : a.tmps[47]?.getD undef = .string fu := by rw [← Array.getD_eq_getD_getElem?]; exact e47
        refine op_val (.string x48) ?_ hC (Below.refl _ _) (by intro d hd; cases hd; rfl)
        have q := HA48.out w2
        (clear hV hI hC; go_simp <;> (first | rfl | simp))
      case o49 =>
        intro Q a w2 hC hV hI
        have e6 : a.eval (.tmp 6) = .pointer (some ⟨w.heap.size, 0, none⟩) := (hI 6 (by simp [Op.operands]) (by kernel_rfl)).trans rfl
        have f6 : a.tmps.getD 6 undef = .pointer (some ⟨w.heap.size, 0, none⟩) := e6
        have g6 : a.tmps[6]?.getD undef = .pointer (some ⟨w.heap.size, 0, none⟩) := by rw [← Array.getD_eq_getD_getElem?]; exact e6
        refine op_val (.pointer (some ⟨w.heap.size, 8, none⟩)) ?_ hC (Below.refl _ _) (by intro d hd; cases hd; rfl)
        (clear hV hI hC; go_simp <;> (first | rfl | simp))
      case o50 =>
        intro Q a w2 hC hV hI
        have e49 : a.eval (.tmp 49) = .pointer (some ⟨w.heap.size, 8, none⟩) := hV 49 (by simp [Op.operands]) (by kernel_rfl)
        have f49 : a.tmps.getD 49 undef = .pointer (some ⟨w.heap.size, 8, none⟩) := e49
        have g49 : a.tmps[49]?.getD undef = .pointer (some ⟨w.heap.size, 8, none⟩) := by rw [← Array.getD_eq_getD_getElem?]; exact e49
        have hK := KC.out w2 hC
        refine op_val (.string gr) ?_ hC (Below.refl _ _) (by intro d hd; cases hd; rfl)
        (clear hV hI hC; go_simp <;> (first | rfl | simp))
      case o51 =>
        intro Q a w2 hC hV hI
        have e50 : a.eval (.tmp 50) = .string gr := hV 50 (by simp [Op.operands, Call.operands]) (by kernel_rfl)
        have f50 : a.tmps.getD 50 undef = .string gr := e50
        have g50 : a.tmps[50]?.getD undef = .string gr := by rw [← Array.getD_eq_getD_getElem?]; exact e50
        refine op_call (f := 89) (args := #[.string gr, .int .i64 32]) (R := fun v y => v = .string fg ∧ Below w2.heap.size w2 y) ?_ ((HG.out w2).mono ?_) ?_
        · (clear hV hI hC; go_simp <;> (first | rfl | simp))
        · rintro e y ⟨rfl, hb⟩; exact ⟨_, rfl, rfl, hb⟩
        · rintro v y ⟨rfl, hb⟩; exact ⟨hC.trans (hb.mono hC.size), hb, by intro d hd; cases hd; rfl⟩
      case o52 =>
        intro Q a w2 hC hV hI
        have e48 : a.eval (.tmp 48) = .string x48 := hV 48 (by simp [Op.operands]) (by kernel_rfl)
        have f48 : a.tmps.getD 48 undef = .string x48 := e48
        have g48 : a.tmps[48]?.getD undef = .string x48 := by rw [← Array.getD_eq_getD_getElem?]; exact e48
        have e51 : a.eval (.tmp 51) = .string fg := hV 51 (by simp [Op.operands]) (by kernel_rfl)
        have f51 : a.tmps.getD 51 undef = .string fg := e51
        have g51 : a.tmps[51]?.getD undef = .string fg := by rw [← Array.getD_eq_getD_getElem?]; exact e51
        refine op_val (.string x52) ?_ hC (Below.refl _ _) (by intro d hd; cases hd; rfl)
        have q := HA52.out w2
        (clear hV hI hC; go_simp <;> (first | rfl | simp))
      case o53 =>
        intro Q a w2 hC hV hI
        refine op_call (f := 90) (args := #[.int .i64 0, .int .i64 8]) (R := fun v y => v = .string o0 ∧ w2 = y) ?_ ((HO0.out w2).mono ?_) ?_
        · (clear hV hI hC; go_simp <;> (first | rfl | simp))
        · rintro e y ⟨rfl, rfl⟩; exact ⟨_, rfl, rfl, rfl⟩
        · rintro v y ⟨rfl, rfl⟩; exact ⟨hC, Below.refl _ _, by intro d hd; cases hd; rfl⟩
      case o54 =>
        intro Q a w2 hC hV hI
        have e52 : a.eval (.tmp 52) = .string x52 := hV 52 (by simp [Op.operands]) (by kernel_rfl)
        have f52 : a.tmps.getD 52 undef = .string x52 := e52
        have g52 : a.tmps[52]?.getD undef = .string x52 := by rw [← Array.getD_eq_getD_getElem?]; exact e52
        have e53 : a.eval (.tmp 53) = .string o0 := hV 53 (by simp [Op.operands]) (by kernel_rfl)
        have f53 : a.tmps.getD 53 undef = .string o0 := e53
        have g53 : a.tmps[53]?.getD undef = .string o0 := by rw [← Array.getD_eq_getD_getElem?]; exact e53
        refine op_val (.string x54) ?_ hC (Below.refl _ _) (by intro d hd; cases hd; rfl)
        have q := HA54.out w2
        (clear hV hI hC; go_simp <;> (first | rfl | simp))
      case o55 =>
        intro Q a w2 hC hV hI
        refine op_call (f := 90) (args := #[.int .i64 0, .int .i64 8]) (R := fun v y => v = .string o0 ∧ w2 = y) ?_ ((HO0.out w2).mono ?_) ?_
        · (clear hV hI hC; go_simp <;> (first | rfl | simp))
        · rintro e y ⟨rfl, rfl⟩; exact ⟨_, rfl, rfl, rfl⟩
        · rintro v y ⟨rfl, rfl⟩; exact ⟨hC, Below.refl _ _, by intro d hd; cases hd; rfl⟩
      case o56 =>
        intro Q a w2 hC hV hI
        have e54 : a.eval (.tmp 54) = .string x54 := hV 54 (by simp [Op.operands]) (by kernel_rfl)
        have f54 : a.tmps.getD 54 undef = .string x54 := e54
        have g54 : a.tmps[54]?.getD undef = .string x54 := by rw [← Array.getD_eq_getD_getElem?]; exact e54
        have e55 : a.eval (.tmp 55) = .string o0 := hV 55 (by simp [Op.operands]) (by kernel_rfl)
        have f55 : a.tmps.getD 55 undef = .string o0 := e55
        have g55 : a.tmps[55]?.getD undef = .string o0 := by rw [← Array.getD_eq_getD_getElem?]; exact e55
        refine op_val (.string x56) ?_ hC (Below.refl _ _) (by intro d hd; cases hd; rfl)
        have q := HA56.out w2
        (clear hV hI hC; go_simp <;> (first | rfl | simp))
      case o57 =>
        intro Q a w2 hC hV hI
        have e2 : a.eval (.tmp 2) = .string pf := (hI 2 (by simp [Op.operands]) (by kernel_rfl)).trans rfl
        have f2 : a.tmps.getD 2 undef = .string pf := e2
        have g2 : a.tmps[2]?.getD undef = .string pf := by rw [← Array.getD_eq_getD_getElem?]; exact e2
        refine op_val (.string pf) ?_ hC (Below.refl _ _) (by intro d hd; cases hd; rfl)
        (clear hV hI hC; go_simp <;> (first | rfl | simp))
      case o58 =>
        intro Q a w2 hC hV hI
        have e57 : a.eval (.tmp 57) = .string pf := hV 57 (by simp [Op.operands, Call.operands]) (by kernel_rfl)
        have f57 : a.tmps.getD 57 undef = .string pf := e57
        have g57 : a.tmps[57]?.getD undef = .string pf := by rw [← Array.getD_eq_getD_getElem?]; exact e57
        refine op_call (f := 89) (args := #[.string pf, .int .i64 155]) (R := fun v y => v = .string fp ∧ Below w2.heap.size w2 y) ?_ ((HP.out w2).mono ?_) ?_
        · (clear hV hI hC; go_simp <;> (first | rfl | simp))
        · rintro e y ⟨rfl, hb⟩; exact ⟨_, rfl, rfl, hb⟩
        · rintro v y ⟨rfl, hb⟩; exact ⟨hC.trans (hb.mono hC.size), hb, by intro d hd; cases hd; rfl⟩
      case o59 =>
        intro Q a w2 hC hV hI
        have e56 : a.eval (.tmp 56) = .string x56 := hV 56 (by simp [Op.operands]) (by kernel_rfl)
        have f56 : a.tmps.getD 56 undef = .string x56 := e56
        have g56 : a.tmps[56]?.getD undef = .string x56 := by rw [← Array.getD_eq_getD_getElem?]; exact e56
        have e58 : a.eval (.tmp 58) = .string fp := hV 58 (by simp [Op.operands]) (by kernel_rfl)
        have f58 : a.tmps.getD 58 undef = .string fp := e58
        have g58 : a.tmps[58]?.getD undef = .string fp := by rw [← Array.getD_eq_getD_getElem?]; exact e58
        refine op_val (.string x59) ?_ hC (Below.refl _ _) (by intro d hd; cases hd; rfl)
        have q := HA59.out w2
        (clear hV hI hC; go_simp <;> (first | rfl | simp))
      case o60 =>
        intro Q a w2 hC hV hI
        refine op_call (f := 91) (args := #[.int .i64 12]) (R := fun v y => v = .string z12 ∧ Below w2.heap.size w2 y) ?_ ((HZ.out w2).mono ?_) ?_
        · (clear hV hI hC; go_simp <;> (first | rfl | simp))
        · rintro e y ⟨rfl, hb⟩; exact ⟨_, rfl, rfl, hb⟩
        · rintro v y ⟨rfl, hb⟩; exact ⟨hC.trans (hb.mono hC.size), hb, by intro d hd; cases hd; rfl⟩
      case o61 =>
        intro Q a w2 hC hV hI
        have e59 : a.eval (.tmp 59) = .string x59 := hV 59 (by simp [Op.operands]) (by kernel_rfl)
        have f59 : a.tmps.getD 59 undef = .string x59 := e59
        have g59 : a.tmps[59]?.getD undef = .string x59 := by rw [← Array.getD_eq_getD_getElem?]; exact e59
        have e60 : a.eval (.tmp 60) = .string z12 := hV 60 (by simp [Op.operands]) (by kernel_rfl)
        have f60 : a.tmps.getD 60 undef = .string z12 := e60
        have g60 : a.tmps[60]?.getD undef = .string z12 := by rw [← Array.getD_eq_getD_getElem?]; exact e60
        refine op_val (.string x61) ?_ hC (Below.refl _ _) (by intro d hd; cases hd; rfl)
        have q := HA61.out w2
        (clear hV hI hC; go_simp <;> (first | rfl | simp))
      case o14 =>
        intro Q a w2 hC hV hI
        have e61 : a.eval (.tmp 61) = .string x61 := hV 61 (by simp [Op.operands]) (by kernel_rfl)
        have f61 : a.tmps.getD 61 undef = .string x61 := e61
        have g61 : a.tmps[61]?.getD undef = .string x61 := by rw [← Array.getD_eq_getD_getElem?]; exact e61
        refine op_val (.string x61) ?_ hC (Below.refl _ _) (by intro d hd; cases hd; rfl)
        (clear hV hI hC; go_simp <;> (first | rfl | simp))
    case hend =>
      intro f w4 hC hall
      clear HA42 HA44 HA48 HA52 HA54 HA56 HA59 HA61
      simp only [List.forall_mem_cons] at hall
      obtain ⟨h38, h39, h40, h41, h42, h43, h44, h45, h46, h47, h48, h49, h50, h51, h52, h53, h54, h55, h56, h57, h58, h59, h60, h61, h14, _⟩ := hall
      replace h38 : f 38 = .string fl := h38 38 rfl
      replace h39 : f 39 = .pointer (some ⟨w.heap.size, 2, none⟩) := h39 39 rfl
      replace h40 : f 40 = .string l := h40 40 rfl
      replace h41 : f 41 = .string fll := h41 41 rfl
      replace h42 : f 42 = .string x42 := h42 42 rfl
      replace h43 : f 43 = .string mg := h43 43 rfl
      replace h44 : f 44 = .string x44 := h44 44 rfl
      replace h45 : f 45 = .pointer (some ⟨w.heap.size, 7, none⟩) := h45 45 rfl
      replace h46 : f 46 = .string us := h46 46 rfl
      replace h47 : f 47 = .string fu := h47 47 rfl
      replace h48 : f 48 = .string x48 := h48 48 rfl
      replace h49 : f 49 = .pointer (some ⟨w.heap.size, 8, none⟩) := h49 49 rfl
      replace h50 : f 50 = .string gr := h50 50 rfl
      replace h51 : f 51 = .string fg := h51 51 rfl
      replace h52 : f 52 = .string x52 := h52 52 rfl
      replace h53 : f 53 = .string o0 := h53 53 rfl
      replace h54 : f 54 = .string x54 := h54 54 rfl
      replace h55 : f 55 = .string o0 := h55 55 rfl
      replace h56 : f 56 = .string x56 := h56 56 rfl
      replace h57 : f 57 = .string pf := h57 57 rfl
      replace h58 : f 58 = .string fp := h58 58 rfl
      replace h59 : f 59 = .string x59 := h59 59 rfl
      replace h60 : f 60 = .string z12 := h60 60 rfl
      replace h61 : f 61 = .string x61 := h61 61 rfl
      replace h14 : f 14 = .string x61 := h14 14 rfl
      simp only [putAll, Act.put, List.setIfInBounds_toArray, List.set_cons_succ, List.set_cons_zero, h38, h39, h40, h41, h42, h43, h44, h45, h46, h47, h48, h49, h50, h51, h52, h53, h54, h55, h56, h57, h58, h59, h60, h61, h14]
      clear h38 h39 h40 h41 h42 h43 h44 h45 h46 h47 h48 h49 h50 h51 h52 h53 h54 h55 h56 h57 h58 h59 h60 h61 h14
      have HXB : Hid (hB = x61) := Lib.hid (by rw [HEB.out, HX61.out, HX59.out, HX56.out, HX54.out, HX52.out, HX48.out, HX44.out, HX42.out])
      have B4 := Lib.hid (btE B3.out hC)
      clear hC KC E3 B3 HX42 HX44 HX48 HX52 HX54 HX56 HX59 HX61
      rw [HXA.out, HXB.out] at HE
      clear HXA HXB HEA HEB HN HLk HU HG HP HZ HOm HOu HOg HOs HOt HO0
      have S1 := Lib.hid (fun w => sum_spec x37 w (by omega))
      have S2 := Lib.hid (fun w => sum_spec x61 w (by omega))
      have b1 := sumv_bd x37.data.toList
      have b2 := sumv_bd x61.data.toList
      have l1 : x37.data.toList.length ≤ 100205 := by simp; omega
      have l2 : x61.data.toList.length ≤ 600373 := by simp; omega
      have S3 := Lib.hid (fun w => putOct_spec (sumv x37.data.toList + 256 + sumv x61.data.toList) 6 w)
      have zo := putOct_size (sumv x37.data.toList + 256 + sumv x61.data.toList) 6
      generalize putOctv (sumv x37.data.toList + 256 + sumv x61.data.toList) 6 = pr at HE S3 zo
      obtain ⟨od, ob⟩ := pr
      simp only at HE S3 zo
      generalize sumv x37.data.toList = s1 at *
      generalize sumv x61.data.toList = s2 at *
      go_wp2_with fail
      refine (S1.out _).mono ?_
      rintro e w5 ⟨rfl, rfl⟩
      go_wp2_with fail
      refine (S2.out _).mono ?_
      rintro e w5 ⟨rfl, rfl⟩
      go_wp2_with fail
      refine (S3.out _).mono ?_
      rintro e w5 ⟨rfl, rfl⟩
      have zc : (x37 ++ od).size ≤ 100225 := by rw [ByteArray.size_append]; omega
      have zc2 : (x37 ++ od ++ (⟨#[0, 32]⟩ : ByteArray)).size ≤ 100227 := by rw [ByteArray.size_append]; have : (⟨#[0, 32]⟩ : ByteArray).size = 2 := rfl; omega
      go_wp2
      go_ret
      exact ⟨ret_str HE.out.symm, B4.out⟩
end Go.Proofs.YtancidbbkoeokaaGreatDoor

/- Contract of spec.PutHead. -/
namespace Go.Proofs.YtancidbbkoeokaaGreatDoor
open Go.ChangeShapes Go.WideShapes Go.ChangeAt Go.RowKit Go.Deep

set_option maxHeartbeats 1600000 in
set_option maxRecDepth 8000 in
theorem putHead_spec (k : Int) (p l : ByteArray) (m u g t : Int) (us gr b fl : ByteArray) (sz : Int) (w : World) (hp : p.size ≤ 4194304) (hl : l.size ≤ 4194304) (hus : us.size ≤ 4194304) (hgr : gr.size ≤ 4194304) (hbz : b.size ≤ 4194304) :
    Calls Tryz.prog 38 #[.agg #[.int .i64 k, .string p, .string l, .int .i64 m, .int .i64 u, .int .i64 g, .int .i64 t, .string us, .string gr, .string b], .string fl, .int .i64 sz] w fun e w' => e = .returned (.string (putHeadv ⟨k, p, l, m, u, g, t, us, gr, b⟩ fl sz)) ∧ Below w.heap.size w w' := by
  have H1 := Lib.hid (fun w => fits_spec k p l m u g t us gr b w hp hl hus hgr hbz)
  have H2 := Lib.hid (fun w => in_any sz 0 3000 w)
  have H3 := Lib.hid (fun w => split_spec p w hp)
  by_cases hy : fitsv ⟨k, p, l, m, u, g, t, us, gr, b⟩ = true ∧ fl.size = 1 ∧ (0 ≤ sz ∧ sz ≤ 3000)
  · have HE : Hid (putHeadv ⟨k, p, l, m, u, g, t, us, gr, b⟩ fl sz = headv ⟨k, p, l, m, u, g, t, us, gr, b⟩ (splitN p) (splitP p) fl sz magicU) := Lib.hid (by rw [putHeadv, if_pos hy])
    obtain ⟨hf, hfl, hs⟩ := hy
    obtain ⟨-, -, -, -, zl, zus, zgr, hso⟩ := fits_nums hf
    simp only at zl zus zgr hso
    obtain ⟨zn, zp⟩ := split_sizes hso
    have H4 := Lib.hid (fun w => l04Head_spec k p l m u g t us gr b (splitN p) (splitP p) fl sz magicU w (by omega) (by omega) (by omega) (by omega) (by omega) (by omega) (by decide))
    rw [hf] at H1
    rw [inB_t hs] at H2
    rw [← HE.out, show magicU = ⟨#[117, 115, 116, 97, 114, 0, 48, 48]⟩ from rfl] at H4
    generalize putHeadv ⟨k, p, l, m, u, g, t, us, gr, b⟩ fl sz = r at *
    generalize splitN p = sn at *
    generalize splitP p = sp at *
    generalize splitOk p = so at *
    have hfl' : (fl.size : Int) = 1 := by omega
    clear HE hf hfl zl zus zgr zn zp hs hso hp hl hus hgr hbz
    go_enter Tryz.func38, Tryz.ntmps38
    go_wp2_with fail
    refine (H1.out _).mono ?_
    rintro e w1 ⟨rfl, hb⟩
    obtain ⟨k1, bb1, z1⟩ := one_new (e1 := ⟨k, p, l, m, u, g, t, us, gr, b⟩) hb
    have E1 := Lib.hid k1
    have B1 := Lib.hid bb1
    clear hb k1 bb1 H1
    go_wp2_with fail
    refine (H2.out _).mono ?_
    rintro e w2 ⟨rfl, rfl⟩
    obtain ⟨_, c1, _⟩ := E1.out.zero
    go_wp2_with fail
    refine (H3.out _).mono ?_
    rintro e w2 ⟨rfl, hb⟩
    have E2 := Lib.hid (E1.out.below hb (by omega))
    have B2 := Lib.hid (btE B1.out hb)
    clear hb c1 E1 B1
    obtain ⟨c0, c1, c2, c3, c4, c5, c6, c7, c8, c9⟩ := E2.out.zero
    go_wp2_with fail
    refine (H4.out _).mono ?_
    rintro e w3 ⟨rfl, hb⟩
    go_wp2
    go_ret
    exact ⟨rfl, btE B2.out hb⟩
  · have HE := Lib.hid (putHead_no hy)
    generalize putHeadv ⟨k, p, l, m, u, g, t, us, gr, b⟩ fl sz = r at HE
    generalize fitsv ⟨k, p, l, m, u, g, t, us, gr, b⟩ = bf at H1 hy
    clear hp hl hus hgr hbz H3
    cases bf with
    | false =>
      clear hy
      go_enter Tryz.func38, Tryz.ntmps38
      go_wp2_with fail
      refine (H1.out _).mono ?_
      rintro e w1 ⟨rfl, hb⟩
      obtain ⟨-, bb1, -⟩ := one_new (e1 := ⟨k, p, l, m, u, g, t, us, gr, b⟩) hb
      have B1 := Lib.hid bb1
      clear hb bb1
      go_wp2
      go_ret
      exact ⟨ret_str HE.out.symm, B1.out⟩
    | true =>
      by_cases h1 : (fl.size : Int) = 1
      · have h2 : inB sz 0 3000 = false := inB_f (fun h => hy ⟨rfl, by omega, h⟩)
        rw [h2] at H2
        clear hy h2
        go_enter Tryz.func38, Tryz.ntmps38
        go_wp2_with fail
        refine (H1.out _).mono ?_
        rintro e w1 ⟨rfl, hb⟩
        obtain ⟨-, bb1, -⟩ := one_new (e1 := ⟨k, p, l, m, u, g, t, us, gr, b⟩) hb
        have B1 := Lib.hid bb1
        clear hb bb1
        go_wp2_with fail
        refine (H2.out _).mono ?_
        rintro e w2 ⟨rfl, rfl⟩
        go_wp2
        go_ret
        exact ⟨ret_str HE.out.symm, B1.out⟩
      · clear hy
        go_enter Tryz.func38, Tryz.ntmps38
        go_wp2_with fail
        refine (H1.out _).mono ?_
        rintro e w1 ⟨rfl, hb⟩
        obtain ⟨-, bb1, -⟩ := one_new (e1 := ⟨k, p, l, m, u, g, t, us, gr, b⟩) hb
        have B1 := Lib.hid bb1
        clear hb bb1
        go_wp2
        go_ret
        exact ⟨ret_str HE.out.symm, B1.out⟩
end Go.Proofs.YtancidbbkoeokaaGreatDoor

/- Contract of spec.GetHead. -/
namespace Go.Proofs.YtancidbbkoeokaaGreatDoor
open Go.ChangeShapes Go.WideShapes Go.ChangeAt Go.RowKit

theorem hdc_bad {s : ByteArray} (h : ¬ rdc s = 0) : hdc s = rdc s := by
  unfold rdc at h ⊢
  unfold hdc
  split
  · rfl
  · rename_i h1
    rw [if_neg h1] at h
    split
    · rfl
    · rename_i h2
      rw [if_neg h2] at h
      split
      · rfl
      · rename_i h3
        rw [if_neg h3] at h
        exact absurd rfl h
theorem hdc_good {s : ByteArray} (h : rdc s = 0) : 512 ≤ s.size ∧ hdc s = if againOk (lOf s) = true then 0 else 4 := by
  unfold rdc at h
  split at h
  · omega
  · rename_i h1
    split at h
    · omega
    · rename_i h2
      split at h
      · omega
      · rename_i h3
        exact ⟨by omega, by rw [hdc, if_neg h1, if_neg h2, if_neg h3]⟩
theorem lOf_whole (s : ByteArray) : (⟨(lOf s).toArray⟩ : ByteArray) = s.extract 0 512 := by
  apply ba_ext
  simp [lOf, ByteArray.data_extract]
set_option maxHeartbeats 6400000 in
set_option maxRecDepth 8000 in
theorem getHead_spec (s : ByteArray) (w : World) (hs : s.size ≤ 1048576) :
    Calls Tryz.prog 21 #[.string s] w fun e w' => e = .returned (getV s) ∧ Below w.heap.size w w' := by
  have B0 := Lib.hid ((Below.refl w.heap.size w).alloc (Nat.le_refl _) (.cells zEnt 32))
  have R0 : Hid ((w.alloc (.cells zEnt 32)).heap[w.heap.size]? = some (.cells zEnt 32 (0, 0))) := Lib.hid (heap_alloc_last _ _)
  have H1 := Lib.hid (fun w => read_spec s w hs)
  by_cases h0 : rdc s = 0
  · rw [readS, if_pos h0] at H1
    obtain ⟨h512, hh⟩ := hdc_good h0
    have HA : Hid (againOk (lOf s) = decide (putHeadv (withKind (entL (lOf s)) (fW (lOf s) 7)) (fW (lOf s) 7) (fnumv (fW (lOf s) 4)) = s.extract 0 512)) := Lib.hid (by rw [← lOf_whole s]; rfl)
    have HH := Lib.hid hh
    have HG : Hid (getV s = if hdc s = 0 then .tuple #[.agg (entL (lOf s)).cells.toArray, .string (fW (lOf s) 7), .int .i64 (fnumv (fW (lOf s) 4)), .int .i64 0] else .tuple #[.agg zEnt, .string ⟨#[]⟩, .int .i64 0, .int .i64 (hdc s)]) := Lib.hid rfl
    have HEN : Hid (entL (lOf s) = ⟨0, pathL (lOf s), cutv (fW (lOf s) 8), fnumv (fW (lOf s) 1), fnumv (fW (lOf s) 2), fnumv (fW (lOf s) 3), fnumv (fW (lOf s) 5), cutv (fW (lOf s) 10), cutv (fW (lOf s) 11), ⟨#[]⟩⟩) := Lib.hid rfl
    have zp : (pathL (lOf s)).size ≤ 311 := by
      have a := fW_small (lOf s) 0
      have b := fW_small (lOf s) 14
      unfold pathL
      split
      · omega
      · rw [ByteArray.size_append, ByteArray.size_append]; have : (⟨#[47]⟩ : ByteArray).size = 1 := rfl; omega
    have zl := fW_small (lOf s) 8
    have zu := fW_small (lOf s) 10
    have zgr := fW_small (lOf s) 11
    rw [HEN.out] at HA HG H1
    generalize againOk (lOf s) = ag at *
    generalize pathL (lOf s) = pth at *
    generalize cutv (fW (lOf s) 8) = lk at *
    generalize cutv (fW (lOf s) 10) = us at *
    generalize cutv (fW (lOf s) 11) = gr at *
    generalize fnumv (fW (lOf s) 1) = nm at *
    generalize fnumv (fW (lOf s) 2) = nu at *
    generalize fnumv (fW (lOf s) 3) = ng at *
    generalize fnumv (fW (lOf s) 5) = nt at *
    generalize fnumv (fW (lOf s) 4) = nz at *
    generalize fW (lOf s) 7 = fl at *
    have HK := Lib.hid (fun w => kindS_any pth lk nm nu ng nt us gr ⟨#[]⟩ fl w)
    obtain ⟨kk, hkk⟩ : ∃ kk, (if 0 ≤ kindv fl then kindv fl else 0) = kk := ⟨_, rfl⟩
    have HWK : Hid (withKind ⟨0, pth, lk, nm, nu, ng, nt, us, gr, ⟨#[]⟩⟩ fl = ⟨kk, pth, lk, nm, nu, ng, nt, us, gr, ⟨#[]⟩⟩) := Lib.hid (by rw [← hkk, withKind])
    rw [hkk] at HK
    rw [HWK.out] at HA
    have HPH := Lib.hid (fun w => putHead_spec kk pth lk nm nu ng nt us gr ⟨#[]⟩ fl nz w (by omega) (by omega) (by omega) (by omega) (by decide))
    generalize putHeadv ⟨kk, pth, lk, nm, nu, ng, nt, us, gr, ⟨#[]⟩⟩ fl nz = hd at HA HPH
    have HE : Hid (getV s = if hd = s.extract 0 512 then .tuple #[.agg #[.int .i64 0, .string pth, .string lk, .int .i64 nm, .int .i64 nu, .int .i64 ng, .int .i64 nt, .string us, .string gr, .string ⟨#[]⟩], .string fl, .int .i64 nz, .int .i64 0] else .tuple #[.agg zEnt, .string ⟨#[]⟩, .int .i64 0, .int .i64 4]) := Lib.hid (by
      rw [HG.out, HH.out, HA.out]
      by_cases q : hd = s.extract 0 512
      · rw [if_pos q, if_pos (decide_eq_true q), if_pos rfl]; rfl
      · rw [if_neg q, if_neg (fun h => q (of_decide_eq_true h)), if_neg (by decide)])
    have d1 : (512 : Int) ≤ (s.size : Int) := by omega
    clear hh HH HG HEN HA HWK hkk h0
    go_enter Tryz.func21, Tryz.ntmps21
    go_wp2_with fail
    refine (H1.out _).mono ?_
    rintro e w1 ⟨rfl, hb⟩
    have R1 := (hb.block _ (obj_lt R0.out)).trans R0.out
    have B1 := B0.out.trans (hb.mono B0.out.size)
    have HSn := Lib.hid (run_storeVar_new (P := Tryz.prog) w1 32 zEnt #[.int .i64 0, .string pth, .string lk, .int .i64 nm, .int .i64 nu, .int .i64 ng, .int .i64 nt, .string us, .string gr, .string ⟨#[]⟩] (by rw [Tryz.sizeEnt]; rfl) rfl (by simp [Value.oneCell']))
    have OB := heap_alloc_last w1 (.cells #[.int .i64 0, .string pth, .string lk, .int .i64 nm, .int .i64 nu, .int .i64 ng, .int .i64 nt, .string us, .string gr, .string ⟨#[]⟩] 32)
    have BX := (Below.refl w1.heap.size w1).alloc (Nat.le_refl _) (.cells #[.int .i64 0, .string pth, .string lk, .int .i64 nm, .int .i64 nu, .int .i64 ng, .int .i64 nt, .string us, .string gr, .string ⟨#[]⟩] 32)
    clear hb R0 B0 H1
    go_wp2_with ((with_reducible refine wpList_store_eq rfl 32 _ _ rfl ⟨w1.heap.size, 0, none⟩ ?_ ?_ HSn.out ?_); rfl; rfl)
    clear HSn
    generalize w1.alloc (.cells #[.int .i64 0, .string pth, .string lk, .int .i64 nm, .int .i64 nu, .int .i64 ng, .int .i64 nt, .string us, .string gr, .string ⟨#[]⟩] 32) = w4 at *
    have RO4 := Lib.hid ((BX.block _ (obj_lt R1)).trans R1)
    have B4 := Lib.hid (B1.trans (BX.mono B1.size))
    have zR4 := obj_lt RO4.out
    have OB' := Lib.hid OB
    have KC : Hid (∀ w' : World, Below w4.heap.size w4 w' → w'.cell? ⟨w1.heap.size, 0, none⟩ = some (.int .i64 0) ∧ w'.cell? ⟨w1.heap.size, 1, none⟩ = some (.string pth) ∧ w'.cell? ⟨w1.heap.size, 2, none⟩ = some (.string lk) ∧ w'.cell? ⟨w1.heap.size, 3, none⟩ = some (.int .i64 nm) ∧ w'.cell? ⟨w1.heap.size, 4, none⟩ = some (.int .i64 nu) ∧ w'.cell? ⟨w1.heap.size, 5, none⟩ = some (.int .i64 ng) ∧ w'.cell? ⟨w1.heap.size, 6, none⟩ = some (.int .i64 nt) ∧ w'.cell? ⟨w1.heap.size, 7, none⟩ = some (.string us) ∧ w'.cell? ⟨w1.heap.size, 8, none⟩ = some (.string gr) ∧ w'.cell? ⟨w1.heap.size, 9, none⟩ = some (.string ⟨#[]⟩)) := Lib.hid (fun w' hb => by
      have h1 := (hb.block _ (obj_lt OB'.out)).trans OB'.out
      refine ⟨?_, ?_, ?_, ?_, ?_, ?_, ?_, ?_, ?_, ?_⟩ <;> (rw [cell_of_row _ _ _ _ _ _ h1]; rfl))
    clear OB BX R1 B1
    by_cases hq : hd = s.extract 0 512
    · have q := ba_eq hq
      have HE2 := Lib.hid (HE.out.trans (if_pos hq))
      clear HE hq
      refine wp_region_inv (by kernel_rfl) (fun w' => Below w4.heap.size w4 w') (fun x y => Below x.heap.size x y) (fun d v _ => match d with | 21 => v = .agg #[.int .i64 0, .string pth, .string lk, .int .i64 nm, .int .i64 nu, .int .i64 ng, .int .i64 nt, .string us, .string gr, .string ⟨#[]⟩] | 22 => v = .string fl | 23 => v = .agg #[.int .i64 kk, .string pth, .string lk, .int .i64 nm, .int .i64 nu, .int .i64 ng, .int .i64 nt, .string us, .string gr, .string ⟨#[]⟩] | 24 => v = .string fl | 25 => v = .int .i64 nz | 26 => v = .string hd | 27 => v = .string s | 28 => v = .string (s.extract 0 512) | 29 => v = .bool false | _ => True) (by kernel_rfl) ((Below.refl _ _).drew) (fun _ _ _ _ _ _ h => h) ?hops ?hend
      case hops =>
        simp only [List.forall_mem_cons]
        refine ⟨?o21, ?o22, ?o23, ?o24, ?o25, ?o26, ?o27, ?o28, ?o29, fun _ h => by cases h⟩
        case o21 =>
          intro Q a w2 hC hV hI
          have e6 : a.eval (.tmp 6) = .pointer (some ⟨w1.heap.size, 0, none⟩) := (hI 6 (by simp [Op.operands]) (by kernel_rfl)).trans rfl
          have f6 : a.tmps.getD 6 undef = .pointer (some ⟨w1.heap.size, 0, none⟩) := e6
          have g6 : a.tmps[6]?.getD undef = .pointer (some ⟨w1.heap.size, 0, none⟩) := by rw [← Array.getD_eq_getD_getElem?]; exact e6
          have hK := KC.out w2 hC
          refine op_val (.agg #[.int .i64 0, .string pth, .string lk, .int .i64 nm, .int .i64 nu, .int .i64 ng, .int .i64 nt, .string us, .string gr, .string ⟨#[]⟩]) ?_ hC (Below.refl _ _) (by intro d hd; cases hd; rfl)
          (clear hV hI hC; go_simp <;> (first | rfl | simp))
        case o22 =>
          intro Q a w2 hC hV hI
          have e7 : a.eval (.tmp 7) = .string fl := (hI 7 (by simp [Op.operands]) (by kernel_rfl)).trans rfl
          have f7 : a.tmps.getD 7 undef = .string fl := e7
          have g7 : a.tmps[7]?.getD undef = .string fl := by rw [← Array.getD_eq_getD_getElem?]; exact e7
          refine op_val (.string fl) ?_ hC (Below.refl _ _) (by intro d hd; cases hd; rfl)
          (clear hV hI hC; go_simp <;> (first | rfl | simp))
        case o23 =>
          intro Q a w2 hC hV hI
          have e21 : a.eval (.tmp 21) = .agg #[.int .i64 0, .string pth, .string lk, .int .i64 nm, .int .i64 nu, .int .i64 ng, .int .i64 nt, .string us, .string gr, .string ⟨#[]⟩] := hV 21 (by simp [Op.operands, Call.operands]) (by kernel_rfl)
          have f21 : a.tmps.getD 21 undef = .agg #[.int .i64 0, .string pth, .string lk, .int .i64 nm, .int .i64 nu, .int .i64 ng, .int .i64 nt, .string us, .string gr, .string ⟨#[]⟩] := e21
          have g21 : a.tmps[21]?.getD undef = .agg #[.int .i64 0, .string pth, .string lk, .int .i64 nm, .int .i64 nu, .int .i64 ng, .int .i64 nt, .string us, .string gr, .string ⟨#[]⟩] := by rw [← Array.getD_eq_getD_getElem?]; exact e21
          have e22 : a.eval (.tmp 22) = .string fl := hV 22 (by simp [Op.operands, Call.operands]) (by kernel_rfl)
          have f22 : a.tmps.getD 22 undef = .string fl := e22
          have g22 : a.tmps[22]?.getD undef = .string fl := by rw [← Array.getD_eq_getD_getElem?]; exact e22
          refine op_call (f := 39) (args := #[.agg #[.int .i64 0, .string pth, .string lk, .int .i64 nm, .int .i64 nu, .int .i64 ng, .int .i64 nt, .string us, .string gr, .string ⟨#[]⟩], .string fl]) (R := fun v y => v = .agg #[.int .i64 kk, .string pth, .string lk, .int .i64 nm, .int .i64 nu, .int .i64 ng, .int .i64 nt, .string us, .string gr, .string ⟨#[]⟩] ∧ Below w2.heap.size w2 y) ?_ ((HK.out w2).mono ?_) ?_
          · (clear hV hI hC; go_simp <;> (first | rfl | simp))
          · rintro e y ⟨rfl, hb⟩; exact ⟨_, rfl, rfl, hb⟩
          · rintro v y ⟨rfl, hb⟩; exact ⟨hC.trans (hb.mono hC.size), hb, by intro d hd; cases hd; rfl⟩
        case o24 =>
          intro Q a w2 hC hV hI
          have e7 : a.eval (.tmp 7) = .string fl := (hI 7 (by simp [Op.operands]) (by kernel_rfl)).trans rfl
          have f7 : a.tmps.getD 7 undef = .string fl := e7
          have g7 : a.tmps[7]?.getD undef = .string fl := by rw [← Array.getD_eq_getD_getElem?]; exact e7
          refine op_val (.string fl) ?_ hC (Below.refl _ _) (by intro d hd; cases hd; rfl)
          (clear hV hI hC; go_simp <;> (first | rfl | simp))
        case o25 =>
          intro Q a w2 hC hV hI
          have e8 : a.eval (.tmp 8) = .int .i64 nz := (hI 8 (by simp [Op.operands]) (by kernel_rfl)).trans rfl
          have f8 : a.tmps.getD 8 undef = .int .i64 nz := e8
          have g8 : a.tmps[8]?.getD undef = .int .i64 nz := by rw [← Array.getD_eq_getD_getElem?]; exact e8
          refine op_val (.int .i64 nz) ?_ hC (Below.refl _ _) (by intro d hd; cases hd; rfl)
          (clear hV hI hC; go_simp <;> (first | rfl | simp))
        case o26 =>
          intro Q a w2 hC hV hI
          have e23 : a.eval (.tmp 23) = .agg #[.int .i64 kk, .string pth, .string lk, .int .i64 nm, .int .i64 nu, .int .i64 ng, .int .i64 nt, .string us, .string gr, .string ⟨#[]⟩] := hV 23 (by simp [Op.operands, Call.operands]) (by kernel_rfl)
          have f23 : a.tmps.getD 23 undef = .agg #[.int .i64 kk, .string pth, .string lk, .int .i64 nm, .int .i64 nu, .int .i64 ng, .int .i64 nt, .string us, .string gr, .string ⟨#[]⟩] := e23
          have g23 : a.tmps[23]?.getD undef = .agg #[.int .i64 kk, .string pth, .string lk, .int .i64 nm, .int .i64 nu, .int .i64 ng, .int .i64 nt, .string us, .string gr, .string ⟨#[]⟩] := by rw [← Array.getD_eq_getD_getElem?]; exact e23
          have e24 : a.eval (.tmp 24) = .string fl := hV 24 (by simp [Op.operands, Call.operands]) (by kernel_rfl)
          have f24 : a.tmps.getD 24 undef = .string fl := e24
          have g24 : a.tmps[24]?.getD undef = .string fl := by rw [← Array.getD_eq_getD_getElem?]; exact e24
          have e25 : a.eval (.tmp 25) = .int .i64 nz := hV 25 (by simp [Op.operands, Call.operands]) (by kernel_rfl)
          have f25 : a.tmps.getD 25 undef = .int .i64 nz := e25
          have g25 : a.tmps[25]?.getD undef = .int .i64 nz := by rw [← Array.getD_eq_getD_getElem?]; exact e25
          refine op_call (f := 38) (args := #[.agg #[.int .i64 kk, .string pth, .string lk, .int .i64 nm, .int .i64 nu, .int .i64 ng, .int .i64 nt, .string us, .string gr, .string ⟨#[]⟩], .string fl, .int .i64 nz]) (R := fun v y => v = .string hd ∧ Below w2.heap.size w2 y) ?_ ((HPH.out w2).mono ?_) ?_
          · (clear hV hI hC; go_simp <;> (first | rfl | simp))
          · rintro e y ⟨rfl, hb⟩; exact ⟨_, rfl, rfl, hb⟩
          · rintro v y ⟨rfl, hb⟩; exact ⟨hC.trans (hb.mono hC.size), hb, by intro d hd; cases hd; rfl⟩
        case o27 =>
          intro Q a w2 hC hV hI
          have e0 : a.eval (.tmp 0) = .string s := (hI 0 (by simp [Op.operands]) (by kernel_rfl)).trans rfl
          have f0 : a.tmps.getD 0 undef = .string s := e0
          have g0 : a.tmps[0]?.getD undef = .string s := by rw [← Array.getD_eq_getD_getElem?]; exact e0
          refine op_val (.string s) ?_ hC (Below.refl _ _) (by intro d hd; cases hd; rfl)
          (clear hV hI hC; go_simp <;> (first | rfl | simp))
        case o28 =>
          intro Q a w2 hC hV hI
          have e27 : a.eval (.tmp 27) = .string s := hV 27 (by simp [Op.operands]) (by kernel_rfl)
          have f27 : a.tmps.getD 27 undef = .string s := e27
          have g27 : a.tmps[27]?.getD undef = .string s := by rw [← Array.getD_eq_getD_getElem?]; exact e27
          refine op_val (.string (s.extract 0 512)) ?_ hC (Below.refl _ _) (by intro d hd; cases hd; rfl)
          (clear hV hI hC; go_simp <;> (first | rfl | simp))
        case o29 =>
          intro Q a w2 hC hV hI
          have e26 : a.eval (.tmp 26) = .string hd := hV 26 (by simp [Op.operands]) (by kernel_rfl)
          have f26 : a.tmps.getD 26 undef = .string hd := e26
          have g26 : a.tmps[26]?.getD undef = .string hd := by rw [← Array.getD_eq_getD_getElem?]; exact e26
          have e28 : a.eval (.tmp 28) = .string (s.extract 0 512) := hV 28 (by simp [Op.operands]) (by kernel_rfl)
          have f28 : a.tmps.getD 28 undef = .string (s.extract 0 512) := e28
          have g28 : a.tmps[28]?.getD undef = .string (s.extract 0 512) := by rw [← Array.getD_eq_getD_getElem?]; exact e28
          refine op_val (.bool false) ?_ hC (Below.refl _ _) (by intro d hd; cases hd; rfl)
          (clear hV hI hC; go_simp <;> (first | rfl | simp))
      case hend =>
        intro f w9 hC hall
        simp only [List.forall_mem_cons] at hall
        obtain ⟨h21, h22, h23, h24, h25, h26, h27, h28, h29, _⟩ := hall
        replace h21 : f 21 = .agg #[.int .i64 0, .string pth, .string lk, .int .i64 nm, .int .i64 nu, .int .i64 ng, .int .i64 nt, .string us, .string gr, .string ⟨#[]⟩] := h21 21 rfl
        replace h22 : f 22 = .string fl := h22 22 rfl
        replace h23 : f 23 = .agg #[.int .i64 kk, .string pth, .string lk, .int .i64 nm, .int .i64 nu, .int .i64 ng, .int .i64 nt, .string us, .string gr, .string ⟨#[]⟩] := h23 23 rfl
        replace h24 : f 24 = .string fl := h24 24 rfl
        replace h25 : f 25 = .int .i64 nz := h25 25 rfl
        replace h26 : f 26 = .string hd := h26 26 rfl
        replace h27 : f 27 = .string s := h27 27 rfl
        replace h28 : f 28 = .string (s.extract 0 512) := h28 28 rfl
        replace h29 : f 29 = .bool false := h29 29 rfl
        simp only [putAll, Act.put, List.setIfInBounds_toArray, List.set_cons_succ, List.set_cons_zero, h21, h22, h23, h24, h25, h26, h27, h28, h29]
        clear h21 h22 h23 h24 h25 h26 h27 h28 h29
        have h9 := (hC.block _ (obj_lt OB'.out)).trans OB'.out
        have RO9 := Lib.hid ((hC.block _ zR4).trans RO4.out)
        have B9 := Lib.hid (B4.out.trans (hC.mono B4.out.size))
        have HLd := Lib.hid (run_loadVar_row (P := Tryz.prog) _ _ 32 32 _ (0, 0) _ h9 Tryz.underlying32 rfl (by rw [Tryz.sizeEnt]; rfl))
        have HSt := Lib.hid (run_storeVar_row (P := Tryz.prog) _ w.heap.size 32 32 zEnt #[.int .i64 0, .string pth, .string lk, .int .i64 nm, .int .i64 nu, .int .i64 ng, .int .i64 nt, .string us, .string gr, .string ⟨#[]⟩] RO9.out (by rw [Tryz.sizeEnt]; rfl) rfl (by simp [Value.oneCell']))
        clear hC h9
        go_wp2_with (first | ((with_reducible refine wpList_load_eq rfl 32 _ rfl ⟨w1.heap.size, 0, none⟩ ?_ HLd.out ?_); rfl) | ((with_reducible refine wpList_store_eq rfl 32 _ _ rfl ⟨w.heap.size, 0, none⟩ ?_ ?_ HSt.out ?_); rfl; rfl))
        refine bodyPost_ret (results_cell4 rfl _ _ w.heap.size _ #[.int .i64 0, .string pth, .string lk, .int .i64 nm, .int .i64 nu, .int .i64 ng, .int .i64 nt, .string us, .string gr, .string ⟨#[]⟩] (0, 0) _ rfl (setRow_heap _ _ _ _ _ _ RO9.out) Tryz.underlying32 rfl (by rw [Tryz.sizeEnt]; rfl)) rfl ?_
        rw [HE2.out]
        exact ⟨rfl, B9.out.trans (below_set (Nat.le_refl _) _)⟩
    · have q := ba_ne hq
      have HE2 := Lib.hid (HE.out.trans (if_neg hq))
      clear HE hq
      refine wp_region_inv (by kernel_rfl) (fun w' => Below w4.heap.size w4 w') (fun x y => Below x.heap.size x y) (fun d v _ => match d with | 21 => v = .agg #[.int .i64 0, .string pth, .string lk, .int .i64 nm, .int .i64 nu, .int .i64 ng, .int .i64 nt, .string us, .string gr, .string ⟨#[]⟩] | 22 => v = .string fl | 23 => v = .agg #[.int .i64 kk, .string pth, .string lk, .int .i64 nm, .int .i64 nu, .int .i64 ng, .int .i64 nt, .string us, .string gr, .string ⟨#[]⟩] | 24 => v = .string fl | 25 => v = .int .i64 nz | 26 => v = .string hd | 27 => v = .string s | 28 => v = .string (s.extract 0 512) | 29 => v = .bool true | _ => True) (by kernel_rfl) ((Below.refl _ _).drew) (fun _ _ _ _ _ _ h => h) ?hops ?hend
      case hops =>
        simp only [List.forall_mem_cons]
        refine ⟨?o21, ?o22, ?o23, ?o24, ?o25, ?o26, ?o27, ?o28, ?o29, fun _ h => by cases h⟩
        case o21 =>
          intro Q a w2 hC hV hI
          have e6 : a.eval (.tmp 6) = .pointer (some ⟨w1.heap.size, 0, none⟩) := (hI 6 (by simp [Op.operands]) (by kernel_rfl)).trans rfl
          have f6 : a.tmps.getD 6 undef = .pointer (some ⟨w1.heap.size, 0, none⟩) := e6
          have g6 : a.tmps[6]?.getD undef = .pointer (some ⟨w1.heap.size, 0, none⟩) := by rw [← Array.getD_eq_getD_getElem?]; exact e6
          have hK := KC.out w2 hC
          refine op_val (.agg #[.int .i64 0, .string pth, .string lk, .int .i64 nm, .int .i64 nu, .int .i64 ng, .int .i64 nt, .string us, .string gr, .string ⟨#[]⟩]) ?_ hC (Below.refl _ _) (by intro d hd; cases hd; rfl)
          (clear hV hI hC; go_simp <;> (first | rfl | simp))
        case o22 =>
          intro Q a w2 hC hV hI
          have e7 : a.eval (.tmp 7) = .string fl := (hI 7 (by simp [Op.operands]) (by kernel_rfl)).trans rfl
          have f7 : a.tmps.getD 7 undef = .string fl := e7
          have g7 : a.tmps[7]?.getD undef = .string fl := by rw [← Array.getD_eq_getD_getElem?]; exact e7
          refine op_val (.string fl) ?_ hC (Below.refl _ _) (by intro d hd; cases hd; rfl)
          (clear hV hI hC; go_simp <;> (first | rfl | simp))
        case o23 =>
          intro Q a w2 hC hV hI
          have e21 : a.eval (.tmp 21) = .agg #[.int .i64 0, .string pth, .string lk, .int .i64 nm, .int .i64 nu, .int .i64 ng, .int .i64 nt, .string us, .string gr, .string ⟨#[]⟩] := hV 21 (by simp [Op.operands, Call.operands]) (by kernel_rfl)
          have f21 : a.tmps.getD 21 undef = .agg #[.int .i64 0, .string pth, .string lk, .int .i64 nm, .int .i64 nu, .int .i64 ng, .int .i64 nt, .string us, .string gr, .string ⟨#[]⟩] := e21
          have g21 : a.tmps[21]?.getD undef = .agg #[.int .i64 0, .string pth, .string lk, .int .i64 nm, .int .i64 nu, .int .i64 ng, .int .i64 nt, .string us, .string gr, .string ⟨#[]⟩] := by rw [← Array.getD_eq_getD_getElem?]; exact e21
          have e22 : a.eval (.tmp 22) = .string fl := hV 22 (by simp [Op.operands, Call.operands]) (by kernel_rfl)
          have f22 : a.tmps.getD 22 undef = .string fl := e22
          have g22 : a.tmps[22]?.getD undef = .string fl := by rw [← Array.getD_eq_getD_getElem?]; exact e22
          refine op_call (f := 39) (args := #[.agg #[.int .i64 0, .string pth, .string lk, .int .i64 nm, .int .i64 nu, .int .i64 ng, .int .i64 nt, .string us, .string gr, .string ⟨#[]⟩], .string fl]) (R := fun v y => v = .agg #[.int .i64 kk, .string pth, .string lk, .int .i64 nm, .int .i64 nu, .int .i64 ng, .int .i64 nt, .string us, .string gr, .string ⟨#[]⟩] ∧ Below w2.heap.size w2 y) ?_ ((HK.out w2).mono ?_) ?_
          · (clear hV hI hC; go_simp <;> (first | rfl | simp))
          · rintro e y ⟨rfl, hb⟩; exact ⟨_, rfl, rfl, hb⟩
          · rintro v y ⟨rfl, hb⟩; exact ⟨hC.trans (hb.mono hC.size), hb, by intro d hd; cases hd; rfl⟩
        case o24 =>
          intro Q a w2 hC hV hI
          have e7 : a.eval (.tmp 7) = .string fl := (hI 7 (by simp [Op.operands]) (by kernel_rfl)).trans rfl
          have f7 : a.tmps.getD 7 undef = .string fl := e7
          have g7 : a.tmps[7]?.getD undef = .string fl := by rw [← Array.getD_eq_getD_getElem?]; exact e7
          refine op_val (.string fl) ?_ hC (Below.refl _ _) (by intro d hd; cases hd; rfl)
          (clear hV hI hC; go_simp <;> (first | rfl | simp))
        case o25 =>
          intro Q a w2 hC hV hI
          have e8 : a.eval (.tmp 8) = .int .i64 nz := (hI 8 (by simp [Op.operands]) (by kernel_rfl)).trans rfl
          have f8 : a.tmps.getD 8 undef = .int .i64 nz := e8
          have g8 : a.tmps[8]?.getD undef = .int .i64 nz := by rw [← Array.getD_eq_getD_getElem?]; exact e8
          refine op_val (.int .i64 nz) ?_ hC (Below.refl _ _) (by intro d hd; cases hd; rfl)
          (clear hV hI hC; go_simp <;> (first | rfl | simp))
        case o26 =>
          intro Q a w2 hC hV hI
          have e23 : a.eval (.tmp 23) = .agg #[.int .i64 kk, .string pth, .string lk, .int .i64 nm, .int .i64 nu, .int .i64 ng, .int .i64 nt, .string us, .string gr, .string ⟨#[]⟩] := hV 23 (by simp [Op.operands, Call.operands]) (by kernel_rfl)
          have f23 : a.tmps.getD 23 undef = .agg #[.int .i64 kk, .string pth, .string lk, .int .i64 nm, .int .i64 nu, .int .i64 ng, .int .i64 nt, .string us, .string gr, .string ⟨#[]⟩] := e23
          have g23 : a.tmps[23]?.getD undef = .agg #[.int .i64 kk, .string pth, .string lk, .int .i64 nm, .int .i64 nu, .int .i64 ng, .int .i64 nt, .string us, .string gr, .string ⟨#[]⟩] := by rw [← Array.getD_eq_getD_getElem?]; exact e23
          have e24 : a.eval (.tmp 24) = .string fl := hV 24 (by simp [Op.operands, Call.operands]) (by kernel_rfl)
          have f24 : a.tmps.getD 24 undef = .string fl := e24
          have g24 : a.tmps[24]?.getD undef = .string fl := by rw [← Array.getD_eq_getD_getElem?]; exact e24
          have e25 : a.eval (.tmp 25) = .int .i64 nz := hV 25 (by simp [Op.operands, Call.operands]) (by kernel_rfl)
          have f25 : a.tmps.getD 25 undef = .int .i64 nz := e25
          have g25 : a.tmps[25]?.getD undef = .int .i64 nz := by rw [← Array.getD_eq_getD_getElem?]; exact e25
          refine op_call (f := 38) (args := #[.agg #[.int .i64 kk, .string pth, .string lk, .int .i64 nm, .int .i64 nu, .int .i64 ng, .int .i64 nt, .string us, .string gr, .string ⟨#[]⟩], .string fl, .int .i64 nz]) (R := fun v y => v = .string hd ∧ Below w2.heap.size w2 y) ?_ ((HPH.out w2).mono ?_) ?_
          · (clear hV hI hC; go_simp <;> (first | rfl | simp))
          · rintro e y ⟨rfl, hb⟩; exact ⟨_, rfl, rfl, hb⟩
          · rintro v y ⟨rfl, hb⟩; exact ⟨hC.trans (hb.mono hC.size), hb, by intro d hd; cases hd; rfl⟩
        case o27 =>
          intro Q a w2 hC hV hI
          have e0 : a.eval (.tmp 0) = .string s := (hI 0 (by simp [Op.operands]) (by kernel_rfl)).trans rfl
          have f0 : a.tmps.getD 0 undef = .string s := e0
          have g0 : a.tmps[0]?.getD undef = .string s := by rw [← Array.getD_eq_getD_getElem?]; exact e0
          refine op_val (.string s) ?_ hC (Below.refl _ _) (by intro d hd; cases hd; rfl)
          (clear hV hI hC; go_simp <;> (first | rfl | simp))
        case o28 =>
          intro Q a w2 hC hV hI
          have e27 : a.eval (.tmp 27) = .string s := hV 27 (by simp [Op.operands]) (by kernel_rfl)
          have f27 : a.tmps.getD 27 undef = .string s := e27
          have g27 : a.tmps[27]?.getD undef = .string s := by rw [← Array.getD_eq_getD_getElem?]; exact e27
          refine op_val (.string (s.extract 0 512)) ?_ hC (Below.refl _ _) (by intro d hd; cases hd; rfl)
          (clear hV hI hC; go_simp <;> (first | rfl | simp))
        case o29 =>
          intro Q a w2 hC hV hI
          have e26 : a.eval (.tmp 26) = .string hd := hV 26 (by simp [Op.operands]) (by kernel_rfl)
          have f26 : a.tmps.getD 26 undef = .string hd := e26
          have g26 : a.tmps[26]?.getD undef = .string hd := by rw [← Array.getD_eq_getD_getElem?]; exact e26
          have e28 : a.eval (.tmp 28) = .string (s.extract 0 512) := hV 28 (by simp [Op.operands]) (by kernel_rfl)
          have f28 : a.tmps.getD 28 undef = .string (s.extract 0 512) := e28
          have g28 : a.tmps[28]?.getD undef = .string (s.extract 0 512) := by rw [← Array.getD_eq_getD_getElem?]; exact e28
          refine op_val (.bool true) ?_ hC (Below.refl _ _) (by intro d hd; cases hd; rfl)
          (clear hV hI hC; go_simp <;> (first | rfl | simp))
      case hend =>
        intro f w9 hC hall
        simp only [List.forall_mem_cons] at hall
        obtain ⟨h21, h22, h23, h24, h25, h26, h27, h28, h29, _⟩ := hall
        replace h21 : f 21 = .agg #[.int .i64 0, .string pth, .string lk, .int .i64 nm, .int .i64 nu, .int .i64 ng, .int .i64 nt, .string us, .string gr, .string ⟨#[]⟩] := h21 21 rfl
        replace h22 : f 22 = .string fl := h22 22 rfl
        replace h23 : f 23 = .agg #[.int .i64 kk, .string pth, .string lk, .int .i64 nm, .int .i64 nu, .int .i64 ng, .int .i64 nt, .string us, .string gr, .string ⟨#[]⟩] := h23 23 rfl
        replace h24 : f 24 = .string fl := h24 24 rfl
        replace h25 : f 25 = .int .i64 nz := h25 25 rfl
        replace h26 : f 26 = .string hd := h26 26 rfl
        replace h27 : f 27 = .string s := h27 27 rfl
        replace h28 : f 28 = .string (s.extract 0 512) := h28 28 rfl
        replace h29 : f 29 = .bool true := h29 29 rfl
        simp only [putAll, Act.put, List.setIfInBounds_toArray, List.set_cons_succ, List.set_cons_zero, h21, h22, h23, h24, h25, h26, h27, h28, h29]
        clear h21 h22 h23 h24 h25 h26 h27 h28 h29
        have RO9 := Lib.hid ((hC.block _ zR4).trans RO4.out)
        have B9 := Lib.hid (B4.out.trans (hC.mono B4.out.size))
        have HSt := Lib.hid (run_storeVar_row (P := Tryz.prog) _ w.heap.size 32 32 zEnt zEnt RO9.out (by rw [Tryz.sizeEnt]; rfl) rfl (by simp [zEnt, Value.oneCell']))
        clear hC
        go_wp2_with ((with_reducible refine wpList_store_eq rfl 32 _ _ rfl ⟨w.heap.size, 0, none⟩ ?_ ?_ HSt.out ?_); rfl; rfl)
        refine bodyPost_ret (results_cell4 rfl _ _ w.heap.size _ zEnt (0, 0) _ rfl (setRow_heap _ _ _ _ _ _ RO9.out) Tryz.underlying32 rfl (by rw [Tryz.sizeEnt]; rfl)) rfl ?_
        rw [HE2.out]
        exact ⟨rfl, B9.out.trans (below_set (Nat.le_refl _) _)⟩
  · have HE : Hid (getV s = .tuple #[.agg zEnt, .string ⟨#[]⟩, .int .i64 0, .int .i64 (rdc s)]) := Lib.hid (by rw [getV, hdc_bad h0, if_neg h0])
    rw [readS_bad rfl h0] at H1
    generalize rdc s = cd at *
    go_enter Tryz.func21, Tryz.ntmps21
    go_wp2_with fail
    refine (H1.out _).mono ?_
    rintro e w1 ⟨rfl, hb⟩
    have R1 := (hb.block _ (obj_lt R0.out)).trans R0.out
    have B1 := B0.out.trans (hb.mono B0.out.size)
    have HSn := Lib.hid (run_storeVar_new (P := Tryz.prog) w1 32 zEnt zEnt (by rw [Tryz.sizeEnt]; rfl) rfl (by simp [zEnt, Value.oneCell']))
    have BX := (Below.refl w1.heap.size w1).alloc (Nat.le_refl _) (.cells zEnt 32)
    have RO7 := Lib.hid ((BX.block _ (obj_lt R1)).trans R1)
    have B7 := Lib.hid (B1.trans (BX.mono B1.size))
    have HSt := Lib.hid (run_storeVar_row (P := Tryz.prog) _ w.heap.size 32 32 zEnt zEnt RO7.out (by rw [Tryz.sizeEnt]; rfl) rfl (by simp [zEnt, Value.oneCell']))
    clear hb R0 B0 H1 BX R1 B1
    go_wp2_with (first | ((with_reducible refine wpList_store_eq rfl 32 _ _ rfl ⟨w1.heap.size, 0, none⟩ ?_ ?_ HSn.out ?_); rfl; rfl) | ((with_reducible refine wpList_store_eq rfl 32 _ _ rfl ⟨w.heap.size, 0, none⟩ ?_ ?_ HSt.out ?_); rfl; rfl))
    refine bodyPost_ret (results_cell4 rfl _ _ w.heap.size _ zEnt (0, 0) _ rfl (setRow_heap _ _ _ _ _ _ RO7.out) Tryz.underlying32 rfl (by rw [Tryz.sizeEnt]; rfl)) rfl ?_
    rw [HE.out]
    exact ⟨rfl, B7.out.trans (below_set (Nat.le_refl _) _)⟩
end Go.Proofs.YtancidbbkoeokaaGreatDoor

/- Contract of spec.l04One: a member read at a place. -/
namespace Go.Proofs.YtancidbbkoeokaaGreatDoor
open Go.ChangeShapes Go.WideShapes Go.ChangeAt Go.RowKit

set_option maxHeartbeats 3200000 in
set_option maxRecDepth 8000 in
theorem one_bad (s : ByteArray) (a : Nat) (c : Int) (w : World) (ha : a ≤ s.size) (hc : ¬ c = 0)
    (H1 : ∀ w', Calls Tryz.prog 21 #[.string (s.extract a s.size)] w' fun e w2 => e = .returned (.tuple #[.agg zEnt, .string ⟨#[]⟩, .int .i64 0, .int .i64 c]) ∧ Below w'.heap.size w' w2) :
    Calls Tryz.prog 11 #[.string s, .int .i64 (a : Int)] w fun e w' => e = .returned (.tuple #[.agg zEnt, .int .i64 (a : Int), .int .i64 c]) ∧ Below w.heap.size w w' := by
  have H1 := Lib.hid H1
  have hS := fun w => slEnd_at s a ha w
  generalize s.extract a s.size = rs at H1 hS
  have B0 := Lib.hid ((Below.refl w.heap.size w).alloc (Nat.le_refl _) (.cells zEnt 32))
  have R0 : Hid ((w.alloc (.cells zEnt 32)).heap[w.heap.size]? = some (.cells zEnt 32 (0, 0))) := Lib.hid (heap_alloc_last _ _)
  have e1 : (c != 0) = true := by simpa using hc
  go_enter Tryz.func11, Tryz.ntmps11
  go_wp2_with fail
  refine (H1.out _).mono ?_
  rintro e w1 ⟨rfl, hb1⟩
  have RO1 := Lib.hid ((hb1.block w.heap.size (by simp)).trans R0.out)
  have B1 := Lib.hid (B0.out.trans (hb1.mono (by simp)))
  clear hb1 R0 B0 H1 hS
  have HSn := Lib.hid (run_storeVar_new (P := Tryz.prog) w1 32 zEnt zEnt (by rw [Tryz.sizeEnt]; rfl) rfl (by simp [zEnt, Value.oneCell']))
  have BX := (Below.refl w1.heap.size w1).alloc (Nat.le_refl _) (.cells zEnt 32)
  have RO4 := Lib.hid ((BX.block _ (obj_lt RO1.out)).trans RO1.out)
  have B4 := Lib.hid (B1.out.trans (BX.mono B1.out.size))
  have HSt := Lib.hid (run_storeVar_row (P := Tryz.prog) _ w.heap.size 32 32 zEnt zEnt RO4.out (by rw [Tryz.sizeEnt]; rfl) rfl (by simp [zEnt, Value.oneCell']))
  clear BX RO1 B1
  go_wp2_with (first | ((with_reducible refine wpList_store_eq rfl 32 _ _ rfl ⟨w1.heap.size, 0, none⟩ ?_ ?_ HSn.out ?_); rfl; rfl) | ((with_reducible refine wpList_store_eq rfl 32 _ _ rfl ⟨w.heap.size, 0, none⟩ ?_ ?_ HSt.out ?_); rfl; rfl))
  refine bodyPost_ret (results_head3 rfl _ _ w.heap.size _ zEnt (0, 0) _ rfl (setRow_heap _ _ _ _ _ _ RO4.out) Tryz.underlying32 rfl (by rw [Tryz.sizeEnt]; rfl)) rfl ?_
  exact ⟨rfl, B4.out.trans (below_set (Nat.le_refl _) _)⟩
set_option maxHeartbeats 3200000 in
set_option maxRecDepth 8000 in
theorem one_kind (s pth lk : ByteArray) (nm nu ng nt : Int) (us gr fl : ByteArray) (nz : Int) (a : Nat) (w : World) (ha : a ≤ s.size) (hk : kindv fl < 0)
    (H1 : ∀ w', Calls Tryz.prog 21 #[.string (s.extract a s.size)] w' fun e w2 => e = .returned (.tuple #[.agg #[.int .i64 0, .string pth, .string lk, .int .i64 nm, .int .i64 nu, .int .i64 ng, .int .i64 nt, .string us, .string gr, .string ⟨#[]⟩], .string fl, .int .i64 nz, .int .i64 0]) ∧ Below w'.heap.size w' w2) :
    Calls Tryz.prog 11 #[.string s, .int .i64 (a : Int)] w fun e w' => e = .returned (.tuple #[.agg zEnt, .int .i64 (a : Int), .int .i64 4]) ∧ Below w.heap.size w w' := by
  have H1 := Lib.hid H1
  have hS := fun w => slEnd_at s a ha w
  generalize s.extract a s.size = rs at H1 hS
  have HKd := Lib.hid (fun w => kind_spec fl w)
  generalize kindv fl = kk at *
  have B0 := Lib.hid ((Below.refl w.heap.size w).alloc (Nat.le_refl _) (.cells zEnt 32))
  have R0 : Hid ((w.alloc (.cells zEnt 32)).heap[w.heap.size]? = some (.cells zEnt 32 (0, 0))) := Lib.hid (heap_alloc_last _ _)
  go_enter Tryz.func11, Tryz.ntmps11
  go_wp2_with fail
  refine (H1.out _).mono ?_
  rintro e w1 ⟨rfl, hb1⟩
  have RO1 := Lib.hid ((hb1.block w.heap.size (by simp)).trans R0.out)
  have B1 := Lib.hid (B0.out.trans (hb1.mono (by simp)))
  clear hb1 R0 B0 H1 hS
  have HSn := Lib.hid (run_storeVar_new (P := Tryz.prog) w1 32 zEnt #[.int .i64 0, .string pth, .string lk, .int .i64 nm, .int .i64 nu, .int .i64 ng, .int .i64 nt, .string us, .string gr, .string ⟨#[]⟩] (by rw [Tryz.sizeEnt]; rfl) rfl (by simp [Value.oneCell']))
  have BX := (Below.refl w1.heap.size w1).alloc (Nat.le_refl _) (.cells #[.int .i64 0, .string pth, .string lk, .int .i64 nm, .int .i64 nu, .int .i64 ng, .int .i64 nt, .string us, .string gr, .string ⟨#[]⟩] 32)
  have RO4 := Lib.hid ((BX.block _ (obj_lt RO1.out)).trans RO1.out)
  have B4 := Lib.hid (B1.out.trans (BX.mono B1.out.size))
  clear BX RO1 B1
  go_wp2_with ((with_reducible refine wpList_store_eq rfl 32 _ _ rfl ⟨w1.heap.size, 0, none⟩ ?_ ?_ HSn.out ?_); rfl; rfl)
  refine (HKd.out _).mono ?_
  rintro e w5 ⟨rfl, hb⟩
  have RO5 := Lib.hid ((hb.block _ (obj_lt RO4.out)).trans RO4.out)
  have B5 := Lib.hid (B4.out.trans (hb.mono B4.out.size))
  clear hb RO4 B4 HSn HKd
  have HSt := Lib.hid (run_storeVar_row (P := Tryz.prog) _ w.heap.size 32 32 zEnt zEnt RO5.out (by rw [Tryz.sizeEnt]; rfl) rfl (by simp [zEnt, Value.oneCell']))
  go_wp2_with ((with_reducible refine wpList_store_eq rfl 32 _ _ rfl ⟨w.heap.size, 0, none⟩ ?_ ?_ HSt.out ?_); rfl; rfl)
  refine bodyPost_ret (results_head3 rfl _ _ w.heap.size _ zEnt (0, 0) _ rfl (setRow_heap _ _ _ _ _ _ RO5.out) Tryz.underlying32 rfl (by rw [Tryz.sizeEnt]; rfl)) rfl ?_
  exact ⟨rfl, B5.out.trans (below_set (Nat.le_refl _) _)⟩
set_option maxHeartbeats 6400000 in
set_option maxRecDepth 8000 in
theorem one_ok (s pth lk : ByteArray) (nm nu ng nt : Int) (us gr fl : ByteArray) (z a : Nat) (w : World) (ha : a + 512 ≤ s.size) (hs : s.size ≤ 1048576) (hz : z ≤ 1048576) (hk : ¬ kindv fl < 0)
    (H1 : ∀ w', Calls Tryz.prog 21 #[.string (s.extract a s.size)] w' fun e w2 => e = .returned (.tuple #[.agg #[.int .i64 0, .string pth, .string lk, .int .i64 nm, .int .i64 nu, .int .i64 ng, .int .i64 nt, .string us, .string gr, .string ⟨#[]⟩], .string fl, .int .i64 (z : Int), .int .i64 0]) ∧ Below w'.heap.size w' w2) :
    Calls Tryz.prog 11 #[.string s, .int .i64 (a : Int)] w fun e w' => e = .returned (.tuple #[.agg #[.int .i64 (kindv fl), .string pth, .string lk, .int .i64 nm, .int .i64 nu, .int .i64 ng, .int .i64 nt, .string us, .string gr, .string (takeV s (a + 512) z).1], .int .i64 (takeV s (a + 512) z).2.1, .int .i64 (takeV s (a + 512) z).2.2]) ∧ Below w.heap.size w w' := by
  have H1 := Lib.hid H1
  have hS := fun w => slEnd_at s a (by omega) w
  generalize s.extract a s.size = rs at H1 hS
  have HKd := Lib.hid (fun w => kind_spec fl w)
  have HTk := Lib.hid (fun w => take_spec s (a + 512) z w hs ha hz)
  generalize takeV s (a + 512) z = tk at HTk ⊢
  rw [show ((a + 512 : Nat) : Int) = (a : Int) + 512 from rfl] at HTk
  have aw : IntKind.i64.wrap ((a : Int) + 512) = (a : Int) + 512 := by rw [IntKind.wrap_i64]; omega
  obtain ⟨bd, nx, co⟩ := tk
  simp only at HTk ⊢
  generalize kindv fl = kk at *
  have B0 := Lib.hid ((Below.refl w.heap.size w).alloc (Nat.le_refl _) (.cells zEnt 32))
  have R0 : Hid ((w.alloc (.cells zEnt 32)).heap[w.heap.size]? = some (.cells zEnt 32 (0, 0))) := Lib.hid (heap_alloc_last _ _)
  go_enter Tryz.func11, Tryz.ntmps11
  go_wp2_with fail
  refine (H1.out _).mono ?_
  rintro e w1 ⟨rfl, hb1⟩
  have RO1 := Lib.hid ((hb1.block w.heap.size (by simp)).trans R0.out)
  have B1 := Lib.hid (B0.out.trans (hb1.mono (by simp)))
  clear hb1 R0 B0 H1 hS
  have HSn := Lib.hid (run_storeVar_new (P := Tryz.prog) w1 32 zEnt #[.int .i64 0, .string pth, .string lk, .int .i64 nm, .int .i64 nu, .int .i64 ng, .int .i64 nt, .string us, .string gr, .string ⟨#[]⟩] (by rw [Tryz.sizeEnt]; rfl) rfl (by simp [Value.oneCell']))
  have OB := Lib.hid (heap_alloc_last w1 (.cells #[.int .i64 0, .string pth, .string lk, .int .i64 nm, .int .i64 nu, .int .i64 ng, .int .i64 nt, .string us, .string gr, .string ⟨#[]⟩] 32))
  have BX := (Below.refl w1.heap.size w1).alloc (Nat.le_refl _) (.cells #[.int .i64 0, .string pth, .string lk, .int .i64 nm, .int .i64 nu, .int .i64 ng, .int .i64 nt, .string us, .string gr, .string ⟨#[]⟩] 32)
  have RO4 := Lib.hid ((BX.block _ (obj_lt RO1.out)).trans RO1.out)
  have B4 := Lib.hid (B1.out.trans (BX.mono B1.out.size))
  have h14 : w.heap.size < w1.heap.size := obj_lt RO1.out
  clear BX RO1 B1
  go_upto_region 4 with ((with_reducible refine wpList_store_eq rfl 32 _ _ rfl ⟨w1.heap.size, 0, none⟩ ?_ ?_ HSn.out ?_); rfl; rfl)
  clear HSn
  generalize w1.alloc (.cells #[.int .i64 0, .string pth, .string lk, .int .i64 nm, .int .i64 nu, .int .i64 ng, .int .i64 nt, .string us, .string gr, .string ⟨#[]⟩] 32) = w4 at *
  go_wp2_with fail
  refine (HKd.out _).mono ?_
  rintro e w5 ⟨rfl, hb⟩
  have RO5 := Lib.hid ((hb.block _ (obj_lt RO4.out)).trans RO4.out)
  have OB5 := Lib.hid ((hb.block _ (obj_lt OB.out)).trans OB.out)
  have B5 := Lib.hid (B4.out.trans (hb.mono B4.out.size))
  clear hb RO4 B4 OB
  go_wp2_with fail
  refine (HTk.out _).mono ?_
  rintro e w6 ⟨rfl, rfl⟩
  go_wp2_with fail
  refine (HKd.out _).mono ?_
  rintro e w7 ⟨rfl, hb⟩
  have RO7 := Lib.hid ((hb.block _ (obj_lt RO5.out)).trans RO5.out)
  have OB7 := Lib.hid ((hb.block _ (obj_lt OB5.out)).trans OB5.out)
  have B7 := Lib.hid (B5.out.trans (hb.mono B5.out.size))
  clear hb RO5 B5 OB5 HKd HTk
  have f0 : w7.frozen? ⟨w1.heap.size, 0, none⟩ = false := obj_frozen OB7.out
  have k0 : w7.cell? ⟨w1.heap.size, 0, none⟩ = some (.int .i64 0) := by rw [cell_of_row _ _ _ _ _ _ OB7.out]; rfl
  have E1 := Lib.hid (heap_setHd (i := 0) (v := .int .i64 kk) OB7.out)
  have R1 := Lib.hid ((Below.heap_setCell w7 ⟨w1.heap.size, 0, none⟩ (.int .i64 kk) w.heap.size (by show w.heap.size ≠ w1.heap.size; omega)).trans RO7.out)
  have B10 := Lib.hid (B7.out.setCell (p := ⟨w1.heap.size, 0, none⟩) (by show w.heap.size ≤ w1.heap.size; omega) (.int .i64 kk))
  simp only [List.setIfInBounds_toArray, List.set_cons_zero] at E1
  go_upto_region 8 with fail
  clear f0 k0 OB7 RO7 B7
  generalize w7.setCell ⟨w1.heap.size, 0, none⟩ (.int .i64 kk) = w8 at *
  have f9 : w8.frozen? ⟨w1.heap.size, 9, none⟩ = false := obj_frozen E1.out
  have k9 : w8.cell? ⟨w1.heap.size, 9, none⟩ = some (.string ⟨#[]⟩) := by rw [cell_of_row _ _ _ _ _ _ E1.out]; rfl
  have E3 := Lib.hid (heap_setHd (i := 9) (v := .string bd) E1.out)
  have R3 := Lib.hid ((Below.heap_setCell w8 ⟨w1.heap.size, 9, none⟩ (.string bd) w.heap.size (by show w.heap.size ≠ w1.heap.size; omega)).trans R1.out)
  have B13 := Lib.hid (B10.out.setCell (p := ⟨w1.heap.size, 9, none⟩) (by show w.heap.size ≤ w1.heap.size; omega) (.string bd))
  simp only [List.setIfInBounds_toArray, List.set_cons_zero, List.set_cons_succ] at E3
  go_upto_region 9 with fail
  clear f9 k9 E1 R1 B10
  generalize w8.setCell ⟨w1.heap.size, 9, none⟩ (.string bd) = w13 at *
  have HLd := Lib.hid (run_loadVar_row (P := Tryz.prog) _ _ 32 32 _ (0, 0) _ E3.out Tryz.underlying32 rfl (by rw [Tryz.sizeEnt]; rfl))
  have HSt := Lib.hid (run_storeVar_row (P := Tryz.prog) w13 w.heap.size 32 32 zEnt #[.int .i64 kk, .string pth, .string lk, .int .i64 nm, .int .i64 nu, .int .i64 ng, .int .i64 nt, .string us, .string gr, .string bd] R3.out (by rw [Tryz.sizeEnt]; rfl) rfl (by simp [Value.oneCell']))
  go_wp2_with (first | ((with_reducible refine wpList_load_eq rfl 32 _ rfl ⟨w1.heap.size, 0, none⟩ ?_ HLd.out ?_); rfl) | ((with_reducible refine wpList_store_eq rfl 32 _ _ rfl ⟨w.heap.size, 0, none⟩ ?_ ?_ HSt.out ?_); rfl; rfl))
  refine bodyPost_ret (results_head3 rfl _ _ w.heap.size _ #[.int .i64 kk, .string pth, .string lk, .int .i64 nm, .int .i64 nu, .int .i64 ng, .int .i64 nt, .string us, .string gr, .string bd] (0, 0) _ rfl (setRow_heap _ _ _ _ _ _ R3.out) Tryz.underlying32 rfl (by rw [Tryz.sizeEnt]; rfl)) rfl ?_
  exact ⟨rfl, B13.out.trans (below_set (Nat.le_refl _) _)⟩
end Go.Proofs.YtancidbbkoeokaaGreatDoor

/- Contract of spec.ListOk. -/
namespace Go.Proofs.YtancidbbkoeokaaGreatDoor
open Go.ChangeShapes Go.WideShapes Go.ChangeAt Go.RowKit Go.Deep

/-- No entry's texts are longer than a bound that no argument comes near. -/
def SmallL (L : List Ent) : Prop := ∀ e ∈ L, esz e ≤ 4194304
theorem findFrom_cases (L : List Ent) (p : ByteArray) (i : Nat) : findFrom L p i = -1 ∨ ∃ (a : Nat) (e : Ent), findFrom L p i = ((i + a : Nat) : Int) ∧ L[a]? = some e ∧ e.path = p := by
  induction L generalizing i with
  | nil => exact .inl rfl
  | cons e L ih =>
    rw [findFrom]
    by_cases h : e.path = p
    · rw [if_pos h]
      exact .inr ⟨0, e, by simp, rfl, h⟩
    · rw [if_neg h]
      rcases ih (i + 1) with h1 | ⟨a, e', h1, h2, h3⟩
      · exact .inl h1
      · exact .inr ⟨a + 1, e', by rw [h1]; congr 1; omega, by simpa using h2, h3⟩
theorem find_cases (L : List Ent) (p : ByteArray) : findv L p = -1 ∨ ∃ (a : Nat) (e : Ent), findv L p = ((a : Nat) : Int) ∧ L[a]? = some e ∧ e.path = p := by
  rcases findFrom_cases L p 0 with h | ⟨a, e, h, h1, h2⟩
  · exact .inl h
  · exact .inr ⟨a, e, by rw [findv, h]; simp, h1, h2⟩
/-- The file that a hard link among the entries behind L asks for. -/
def fileIn (L : List Ent) (p : ByteArray) : Bool := L.any fun e => decide (e.path = p) && decide (e.kind = 0)
def fileAt (L : List Ent) (p : ByteArray) : Bool := if findv L p < 0 then false else decide ((L.getD (findv L p).toNat entD).kind = 0)
theorem fileAt_none {L : List Ent} {p : ByteArray} (h : findv L p = -1) : fileAt L p = false := by simp [fileAt, h]
theorem fileAt_some {L : List Ent} {p : ByteArray} {a : Nat} {e : Ent} (h : findv L p = (a : Int)) (he : L[a]? = some e) : fileAt L p = decide (e.kind = 0) := by
  rw [fileAt, h, if_neg (by omega)]
  simp [List.getD, he]
/-- What the i-th entry e of L must be. -/
def entAtOk (L : List Ent) (i : Nat) (e : Ent) : Bool := entOkv e && decide (findv L e.path = (i : Int)) && (if e.kind = 3 then fileAt (L.take i) e.link else true)
def listOkv (L : List Ent) : Bool := ((List.range L.length).all fun i => entAtOk L i (L.getD i entD)) && decide (L.length ≤ 30)
def OksTo (L : List Ent) (i : Nat) : Prop := ∀ j, j < i → entAtOk L j (L.getD j entD) = true
theorem OksTo.step {L : List Ent} {i : Nat} {e : Ent} (h : OksTo L i) (he : L[i]? = some e) (hk : entAtOk L i e = true) : OksTo L (i + 1) := by
  intro j hj
  by_cases e1 : j = i
  · subst e1; simpa [List.getD, he] using hk
  · exact h j (by omega)
theorem listOk_bad {L : List Ent} {i : Nat} {e : Ent} (he : L[i]? = some e) (hk : entAtOk L i e = false) : listOkv L = false := by
  have hlt : i < L.length := (List.getElem?_eq_some_iff.1 he).1
  cases h : listOkv L with
  | false => rfl
  | true =>
    simp only [listOkv, Bool.and_eq_true, List.all_eq_true] at h
    have := h.1 i (List.mem_range.2 hlt)
    simp only [List.getD, he, Option.getD_some] at this
    rw [hk] at this; cases this
theorem listOk_done {L : List Ent} (h : OksTo L L.length) : listOkv L = decide (L.length ≤ 30) := by
  have : ((List.range L.length).all fun i => entAtOk L i (L.getD i entD)) = true := List.all_eq_true.2 (fun i hi => h i (List.mem_range.1 hi))
  rw [listOkv, this]; simp
theorem small_parts {e : Ent} (h : esz e ≤ 4194304) : e.path.size ≤ 4194304 ∧ e.link.size ≤ 4194304 ∧ e.user.size ≤ 4194304 ∧ e.group.size ≤ 4194304 ∧ e.body.size ≤ 4194304 := by
  simp only [esz] at h
  omega
theorem SmallL.get {L : List Ent} (h : SmallL L) {i : Nat} {e : Ent} (he : L[i]? = some e) : esz e ≤ 4194304 := h e (List.mem_of_getElem? he)
theorem kept_cellF {x w1 : World} {g k : Nat} {t : Value} (h1 : Below x.heap.size x w1) (hg : g + 1 ≤ x.heap.size) (hc : x.cell? ⟨g, k, none⟩ = .some t) : w1.cell? ⟨g, k, none⟩ = .some t := (h1.cell (p := ⟨g, k, none⟩) hg).trans hc
set_option maxHeartbeats 1600000 in
theorem listOk_spec (L : List Ent) (n g cap : Nat) (w : World) (hn : n = L.length) (hm : n ≤ 4194304) (hcap : n ≤ cap) (hg : g < w.heap.size) (hsm : SmallL L) (h1 : RowE w g L) :
    Calls Tryz.prog 10 #[.slice (some ⟨g, 0, none⟩) n cap] w fun e w' => e = .returned (.bool (listOkv L)) ∧ Below w.heap.size w w' := by
  have H1 := Lib.hid h1
  have HG : Hid (∀ i, i < n → ∃ e, L[i]? = some e ∧ esz e ≤ 4194304) := Lib.hid (fun i hi => by obtain ⟨e, he⟩ := getE' (L := L) (i := i) (by omega); exact ⟨e, he, hsm.get he⟩)
  have HBad : Hid (∀ i e, L[i]? = some e → entAtOk L i e = false → listOkv L = false) := Lib.hid (fun i e he hk => listOk_bad he hk)
  have HDone : Hid (OksTo L n → listOkv L = decide (n ≤ 30)) := Lib.hid (by rw [hn]; exact listOk_done)
  have HF := Lib.hid (fun p w (hg : g < w.heap.size) (h : RowE w g L) => find_spec L p n g cap w hn hm hg h)
  have HFt := Lib.hid (fun i p w (hi : i ≤ n) (hg : g < w.heap.size) (h : RowE w g L) => find_spec (L.take i) p i g cap w (by simp; omega) (by omega) hg (h.take i))
  generalize listOkv L = r at HBad HDone
  clear h1 hn hsm
  go_enter Tryz.func10, Tryz.ntmps10
  go_wp2_with fail
  go_loopw [3] (fun u wr => ∃ i : Nat, u = .int .i64 i ∧ i ≤ n ∧ OksTo L i ∧ Below w.heap.size w wr) (fun u _ => n - (intOf u).toNat)
  case atStart => exact ⟨0, rfl, Nat.zero_le _, fun j hj => by omega, Below.refl _ _⟩
  case round =>
    obtain ⟨i, rfl, hi, hr, hb⟩ := hrel
    have HR := Lib.hid hr
    have B := Lib.hid hb
    clear hr hb
    by_cases hlt : i < n
    · have hlt2 : (i : Int) < (n : Int) := by omega
      obtain ⟨e, he, hz⟩ := HG.out i hlt
      have R := Lib.hid (H1.out.below B.out hg)
      obtain ⟨c0, c1, c2, c3, c4, c5, c6, c7, c8, c9⟩ := R.out.ten he
      have HBi := Lib.hid (HBad.out i e he)
      have HSi := Lib.hid (fun hk => HR.out.step he hk)
      clear he HBad HG
      have hsz := small_parts hz
      obtain ⟨k, p, l, m, u, g0, t, us, gr, b⟩ := e
      have HO := Lib.hid (fun w => entryOk_spec k p l m u g0 t us gr b w hsz.1 hsz.2.1 hsz.2.2.1 hsz.2.2.2.1 hsz.2.2.2.2)
      have HA : Hid (entAtOk L i ⟨k, p, l, m, u, g0, t, us, gr, b⟩ = (entOkv ⟨k, p, l, m, u, g0, t, us, gr, b⟩ && decide (findv L p = (i : Int)) && (if k = 3 then fileAt (L.take i) l else true))) := Lib.hid rfl
      generalize entAtOk L i ⟨k, p, l, m, u, g0, t, us, gr, b⟩ = ra at HA HBi HSi
      generalize entOkv ⟨k, p, l, m, u, g0, t, us, gr, b⟩ = b1 at HA HO
      have HFi := Lib.hid (HF.out p)
      have HFl := Lib.hid (fun w => HFt.out i l w hi)
      have HFc := Lib.hid (find_cases (L.take i) l)
      have HTk : Hid (∀ a e, (L.take i)[a]? = some e → a < i ∧ L[a]? = some e) := Lib.hid (fun a e h => by
        rw [List.getElem?_take] at h
        split at h
        · exact ⟨by assumption, h⟩
        · cases h)
      have HA1 : Hid (findv (L.take i) l = -1 → fileAt (L.take i) l = false) := Lib.hid fileAt_none
      have HA2 : Hid (∀ (a : Nat) e, findv (L.take i) l = (a : Int) → (L.take i)[a]? = some e → fileAt (L.take i) l = decide (e.kind = 0)) := Lib.hid (fun a e h he => fileAt_some h he)
      generalize findv L p = f1 at HA HFi
      generalize findv (L.take i) l = f2 at HFl HFc HA1 HA2
      generalize fileAt (L.take i) l = rf at HA HA1 HA2
      have zr : g < wr.heap.size := by have := B.out.size; omega
      go_wp2_with fail
      refine (HO.out _).mono ?_
      rintro e w1 ⟨rfl, hb⟩
      obtain ⟨k1, bb, z1⟩ := one_new (e1 := ⟨k, p, l, m, u, g0, t, us, gr, b⟩) hb
      have E1 := Lib.hid k1
      have R1 := Lib.hid (R.out.below bb zr)
      have B1 := Lib.hid (btE B.out bb)
      clear hb k1 bb c0 c1 c2 c3 c4 c5 c6 c7 c8 c9 R B HO
      obtain ⟨c0, c1, c2, c3, c4, c5, c6, c7, c8, c9⟩ := E1.out.zero
      cases b1 with
      | false =>
        go_wp2_with fail
        go_ret
        exact ⟨ret_bool (HBi.out (by rw [HA.out]; simp)).symm, B1.out⟩
      | true =>
        go_wp2_with fail
        refine (HFi.out _ (by omega) R1.out).mono ?_
        rintro e w2 ⟨rfl, hb⟩
        have E2 := Lib.hid (E1.out.below hb (by omega))
        have R2 := Lib.hid (R1.out.below hb (by omega))
        have B2 := Lib.hid (btE B1.out hb)
        have z2 := Nat.le_trans z1 hb.size
        clear hb c0 c1 c2 c3 c4 c5 c6 c7 c8 c9 E1 R1 B1 HFi
        obtain ⟨c0, c1, c2, c3, c4, c5, c6, c7, c8, c9⟩ := E2.out.zero
        by_cases hf : f1 = (i : Int)
        · by_cases hk : k = 3
          · subst hk
            have hic : (i : Int) ≤ (cap : Int) := by omega
            go_wp2_with fail
            have R3 : Hid (RowE w2.drew g L) := Lib.hid R2.out
            have B3 : Hid (Below w.heap.size w w2.drew) := Lib.hid B2.out.drew
            have z3 : wr.heap.size + 1 ≤ w2.drew.heap.size := z2
            have zg : g < w2.drew.heap.size := by omega
            clear R2 B2 z2
            go_region_held3 (fun w' => w'.cell? ⟨wr.heap.size, 2, none⟩ = some (.string l)) (assumption) (first | (go_at_call 20; refine (HFl.out _ zg R3.out).mono ?_; rintro e w3 ⟨rfl, hb⟩; have d2 := kept_cellF hb z3 c2; replace R3 := Lib.hid (R3.out.below hb zg); replace B3 := Lib.hid (btE B3.out hb); replace z3 := Nat.le_trans z3 hb.size; replace zg := Nat.lt_of_lt_of_le zg hb.size; clear hb))
            clear c0 c1 c2 c3 c4 c5 c6 c7 c8 c9 E2 HFl
            rcases HFc.out with h | ⟨a, e, h, he, _⟩
            · have HX : Hid (r = false) := Lib.hid (HBi.out (by rw [HA.out, HA1.out h]; simp))
              subst h
              clear HA HBi HSi HA1 HA2 HFc HTk
              go_wp2_with fail
              go_ret
              exact ⟨ret_bool HX.out.symm, B3.out⟩
            · subst h
              obtain ⟨ha, hLa⟩ := HTk.out a e he
              have HQ := Lib.hid (HA2.out a e rfl he)
              have ha2 : (a : Int) < (n : Int) := by omega
              obtain ⟨d0, _⟩ := R3.out.ten hLa
              clear he hLa
              generalize e.kind = ek at d0 HQ
              by_cases hek : ek = 0
              · subst hek
                have HS := Lib.hid (HSi.out (by rw [HA.out, HQ.out]; simp [hf]))
                clear HA HBi HSi HA1 HA2 HFc HTk HQ
                go_wp2_with fail
                go_roundw
                case rel => exact ⟨i + 1, by go_num, by omega, HS.out, B3.out⟩
                case measure => simp [intOf]; omega
              · have HX : Hid (r = false) := Lib.hid (HBi.out (by rw [HA.out, HQ.out]; simp [hek]))
                have hek2 : (ek != 0) = true := by simpa using hek
                clear HA HBi HSi HA1 HA2 HFc HTk HQ hek
                go_wp2_with fail
                go_ret
                exact ⟨ret_bool HX.out.symm, B3.out⟩
          · have HS := Lib.hid (HSi.out (by rw [HA.out]; simp [hf, hk]))
            clear HA HBi HSi HA1 HA2 HFc HTk
            go_wp2_with fail
            go_roundw
            case rel => exact ⟨i + 1, by go_num, by omega, HS.out, B2.out⟩
            case measure => simp [intOf]; omega
        · have HX : Hid (r = false) := Lib.hid (HBi.out (by rw [HA.out]; simp [hf]))
          clear HA HBi HSi HA1 HA2 HFc HTk
          go_wp2_with fail
          go_ret
          exact ⟨ret_bool HX.out.symm, B2.out⟩
    · obtain rfl : i = n := by omega
      have hlt2 : ¬ (i : Int) < (i : Int) := by omega
      have HFin := Lib.hid (HDone.out HR.out)
      go_wp2_with fail
      go_ret
      exact ⟨ret_bool (by rw [HFin.out]; simp; try omega), B.out⟩
end Go.Proofs.YtancidbbkoeokaaGreatDoor

/- What reading an archive's members one after another comes to: plain mathematics; the model's reading of one member. -/
namespace Go.Proofs.YtancidbbkoeokaaGreatDoor
open Go.ChangeShapes Go.WideShapes Go.ChangeAt Go.RowKit

abbrev ERdr := Nat → Ent × Int × Int
def zE : Ent := ⟨0, ⟨#[]⟩, ⟨#[]⟩, 0, 0, 0, 0, ⟨#[]⟩, ⟨#[]⟩, ⟨#[]⟩⟩
/-- The member at p: its entry, the place behind it, the code. -/
def oneR (s : ByteArray) : ERdr := fun p =>
  if ¬ hdc (s.extract p s.size) = 0 then (zE, p, hdc (s.extract p s.size))
  else if kindv (fW (lOf (s.extract p s.size)) 7) < 0 then (zE, p, 4)
  else ({ entL (lOf (s.extract p s.size)) with kind := kindv (fW (lOf (s.extract p s.size)) 7), body := (takeV s (p + 512) (fnumv (fW (lOf (s.extract p s.size)) 4)).toNat).1 }, (takeV s (p + 512) (fnumv (fW (lOf (s.extract p s.size)) 4)).toNat).2.1, (takeV s (p + 512) (fnumv (fW (lOf (s.extract p s.size)) 4)).toNat).2.2)
/-- The list and the code where R reads members from p on and E tells the end, Q read before. -/
def outU (R : ERdr) (E : Nat → Bool × Int) : Nat → List Ent → Nat → List Ent × Int
  | 0, Q, _ => (Q, 5)
  | f + 1, Q, p => if (E p).1 = true then (Q, if (E p).2 = 0 ∧ listOkv Q = false then 4 else (E p).2) else if ¬ (R p).2.2 = 0 then (Q, (R p).2.2) else outU R E f (Q ++ [(R p).1]) (R p).2.1.toNat
def GoodU (R : ERdr) (z : Nat) : Prop := ∀ p, p ≤ z → (R p).2.2 = 0 → ((p : Int) + 512 ≤ (R p).2.1 ∧ (R p).2.1 ≤ z) ∧ esz (R p).1 ≤ 4194304
def StU (R : ERdr) (E : Nat → Bool × Int) (z : Nat) (O : List Ent × Int) (Q : List Ent) (p : Nat) : Prop :=
  (∃ f, z < p + f ∧ outU R E f Q p = O) ∧ Q.length * 512 ≤ p ∧ SmallL Q ∧ p ≤ z
section
variable {R : ERdr} {E : Nat → Bool × Int} {z : Nat} {O : List Ent × Int} {Q : List Ent} {p : Nat}
theorem StU.start (R : ERdr) (E : Nat → Bool × Int) (z : Nat) : StU R E z (outU R E (z + 1) [] 0) [] 0 := ⟨⟨z + 1, by omega, rfl⟩, by simp, fun c hc => (by cases hc), by omega⟩
theorem StU.fuel (s : StU R E z O Q p) : ∃ f, z < p + (f + 1) ∧ outU R E (f + 1) Q p = O := by
  obtain ⟨⟨f, hf, ho⟩, _, _, hp⟩ := s
  cases f with
  | zero => omega
  | succ f => exact ⟨f, hf, ho⟩
theorem StU.ends (s : StU R E z O Q p) (h : (E p).1 = true) : O = (Q, if (E p).2 = 0 ∧ listOkv Q = false then 4 else (E p).2) := by
  obtain ⟨f, _, ho⟩ := s.fuel
  rw [outU, if_pos h] at ho
  exact ho.symm
theorem StU.code (s : StU R E z O Q p) (h : (E p).1 = false) (hc : ¬ (R p).2.2 = 0) : O = (Q, (R p).2.2) := by
  obtain ⟨f, _, ho⟩ := s.fuel
  rw [outU, if_neg (by simp [h]), if_pos hc] at ho
  exact ho.symm
theorem StU.step (s : StU R E z O Q p) (g : GoodU R z) (h : (E p).1 = false) (hc : (R p).2.2 = 0) : ∃ q : Nat, (R p).2.1 = (q : Int) ∧ p + 512 ≤ q ∧ StU R E z O (Q ++ [(R p).1]) q := by
  obtain ⟨f, hf, ho⟩ := s.fuel
  rw [outU, if_neg (by simp [h]), if_neg (by omega)] at ho
  obtain ⟨⟨h1, h2⟩, h3⟩ := g p s.2.2.2 hc
  obtain ⟨q, hq⟩ := Int.eq_ofNat_of_zero_le (show 0 ≤ (R p).2.1 by omega)
  refine ⟨q, hq, by omega, ⟨f, by omega, ?_⟩, ?_, ?_, by omega⟩
  · rw [hq, Int.toNat_natCast] at ho
    exact ho
  · have h5 := s.2.1
    have h6 : p + 512 ≤ q := by omega
    rw [List.length_append, List.length_singleton, Nat.add_mul, Nat.one_mul]
    exact Nat.le_trans (Nat.add_le_add_right h5 512) h6
  · intro c hcm
    rcases List.mem_append.1 hcm with hm | hm
    · exact s.2.2.1 c hm
    · rw [List.mem_singleton] at hm
      subst hm
      exact h3
end
theorem hdc_zero {r : ByteArray} (h : hdc r = 0) : 512 ≤ r.size ∧ headOk (lOf r) = true := by
  unfold hdc at h
  split at h
  · omega
  · split at h
    · omega
    · split at h
      · omega
      · rename_i h1 _ h3
        exact ⟨by omega, by simpa using h3⟩
theorem octf_bd {l : List UInt8} (h : (getOctv l).2 = true) : 0 ≤ (getOctv l).1 ∧ (getOctv l).1 ≤ 9007199254740991 := by
  unfold getOctv at h ⊢
  split
  · rename_i hv
    refine ⟨hv.2.2, ?_⟩
    show vals 8 0 l ≤ _
    rw [vals_lead 8 (by omega) 0 l (by omega)]
    have := lead_bd 8 (by omega) 0 l (by omega) (by omega)
    split <;> omega
  · rename_i hv
    rw [if_neg hv] at h
    cases h
theorem size_of_head {r : ByteArray} (h : headOk (lOf r) = true) : 0 ≤ fnumv (fW (lOf r) 4) ∧ fnumv (fW (lOf r) 4) ≤ 3000 := by
  rw [headOk, Bool.and_eq_true, decide_eq_true_iff] at h
  refine ⟨?_, h.2⟩
  have h5 : fnumOk (fW (lOf r) 4) = true := by
    have h1 := h.1
    simp only [ok5, Bool.and_eq_true] at h1
    exact h1.1.2
  rw [fnumOk, Bool.and_eq_true] at h5
  exact (octf_bd h5.1).1
theorem take_ok {s : ByteArray} {a z : Nat} (h : (takeV s a z).2.2 = 0) : (takeV s a z).2.1 = a + z + padv z 512 ∧ (takeV s a z).2.1 ≤ s.size ∧ (takeV s a z).1 = s.extract a (a + z) := by
  unfold takeV at h ⊢
  split
  · rename_i h1; rw [if_pos h1] at h; cases h
  · rename_i h1
    rw [if_neg h1] at h
    split
    · rename_i h2; rw [if_pos h2] at h; cases h
    · exact ⟨rfl, by show (a : Int) + z + padv z 512 ≤ s.size; omega, rfl⟩
theorem pathL_le (l : List UInt8) : (pathL l).size ≤ 311 := by
  have a := fW_small l 0
  have b := fW_small l 14
  unfold pathL
  split
  · omega
  · rw [ByteArray.size_append, ByteArray.size_append]; have : (⟨#[47]⟩ : ByteArray).size = 1 := rfl; omega
theorem oneR_good (s : ByteArray) (hs : s.size ≤ 1048576) : GoodU (oneR s) s.size := by
  intro p hp hc
  unfold oneR at hc ⊢
  split
  · rename_i h1; rw [if_pos h1] at hc; exact absurd hc h1
  · rename_i h1
    rw [if_neg h1] at hc
    split
    · rename_i h2; rw [if_pos h2] at hc; cases hc
    · rename_i h2
      rw [if_neg h2] at hc
      have h0 : hdc (s.extract p s.size) = 0 := Decidable.byContradiction h1
      obtain ⟨_, hh⟩ := hdc_zero h0
      have hb := size_of_head hh
      have zl := fW_small (lOf (s.extract p s.size)) 8
      have zu := fW_small (lOf (s.extract p s.size)) 10
      have zg := fW_small (lOf (s.extract p s.size)) 11
      have zp := pathL_le (lOf (s.extract p s.size))
      simp only at hc ⊢
      obtain ⟨t1, t2, t3⟩ := take_ok hc
      have hpd := padz_bd ((fnumv (fW (lOf (s.extract p s.size)) 4)).toNat : Int)
      refine ⟨⟨by omega, t2⟩, ?_⟩
      simp only [esz, entL]
      rw [t3, ByteArray.size_extract]
      omega
theorem one_spec (s : ByteArray) (p : Nat) (w : World) (hs : s.size ≤ 1048576) (hp : p ≤ s.size) :
    Calls Tryz.prog 11 #[.string s, .int .i64 (p : Int)] w fun e w' => e = .returned (.tuple #[.agg (oneR s p).1.cells.toArray, .int .i64 (oneR s p).2.1, .int .i64 (oneR s p).2.2]) ∧ Below w.heap.size w w' := by
  have H := Lib.hid (fun w => getHead_spec (s.extract p s.size) w (by rw [ByteArray.size_extract]; omega))
  unfold oneR
  by_cases h0 : ¬ hdc (s.extract p s.size) = 0
  · rw [getV, if_neg h0] at H
    rw [if_pos h0]
    exact one_bad s p _ w hp h0 H.out
  have h0 : hdc (s.extract p s.size) = 0 := Decidable.byContradiction h0
  rw [getV, if_pos h0] at H
  obtain ⟨h5, hh⟩ := hdc_zero h0
  have hb := size_of_head hh
  rw [ByteArray.size_extract] at h5
  rw [if_neg (by simp [h0])]
  by_cases hk : kindv (fW (lOf (s.extract p s.size)) 7) < 0
  · rw [if_pos hk]
    exact one_kind s _ _ _ _ _ _ _ _ _ _ p w hp hk H.out
  · rw [if_neg hk]
    obtain ⟨n, hn⟩ := Int.eq_ofNat_of_zero_le hb.1
    rw [hn] at hb H ⊢
    simp only [entL, Ent.cells, Int.toNat_natCast] at H ⊢
    generalize pathL (lOf (s.extract p s.size)) = pth at *
    generalize cutv (fW (lOf (s.extract p s.size)) 8) = lk at *
    generalize cutv (fW (lOf (s.extract p s.size)) 10) = us at *
    generalize cutv (fW (lOf (s.extract p s.size)) 11) = gr at *
    generalize fnumv (fW (lOf (s.extract p s.size)) 1) = nm at *
    generalize fnumv (fW (lOf (s.extract p s.size)) 2) = nu at *
    generalize fnumv (fW (lOf (s.extract p s.size)) 3) = ng at *
    generalize fnumv (fW (lOf (s.extract p s.size)) 5) = nt at *
    generalize fW (lOf (s.extract p s.size)) 7 = fl at *
    have hz : n ≤ 1048576 := by omega
    clear hb hn hh h0
    exact one_ok s pth lk nm nu ng nt us gr fl n p w (by omega) hs hz hk H.out
/-- What GetUstar answers: the list and the code. -/
def ustV (s : ByteArray) : List Ent × Int := outU (oneR s) (endV s) (s.size + 1) [] 0
end Go.Proofs.YtancidbbkoeokaaGreatDoor

/- readMember at the rest of an archive answers as the model's reading of one member. -/
namespace Go.Proofs.YtancidbbkoeokaaGreatDoor
open Go.ChangeShapes Go.WideShapes Go.ChangeAt Go.RowKit

/-- What readMember answers where the model's reading is x, the flag fl, the size z. -/
def memE (x : Ent × Int × Int) (p : Nat) (fl : ByteArray) (z : Int) : Value :=
  if ¬ x.2.2 = 0 then mbad x.2.2
  else .tuple #[.agg #[.int .i64 x.1.kind, .string x.1.path, .string x.1.link, .int .i64 x.1.mode, .int .i64 x.1.uid, .int .i64 x.1.gid, .int .i64 x.1.time, .string x.1.user, .string x.1.group, .string x.1.body, .string fl, .int .i64 z], .int .i64 (x.2.1 - p), .nilIface]
theorem rest_ext (s : ByteArray) (p a b : Nat) (hb : p + b ≤ s.size) : (s.extract p s.size).extract a b = s.extract (p + a) (p + b) := by
  rw [ByteArray.extract_extract, Nat.min_eq_left hb]
theorem nul_same (t : ByteArray) (n : Nat) (h : t.size = n) : isNul t = false ↔ ¬ t = nulv n := by
  subst h
  have e : nulv t.size = nulN t.size := by apply ba_ext; simp [nulv, nulN, nuls]
  rw [e]
  constructor
  · intro h1 h2
    rw [(isNul_iff t).2 h2] at h1
    cases h1
  · intro h1
    cases h2 : isNul t with
    | false => rfl
    | true => exact absurd ((isNul_iff t).1 h2) h1
theorem mem_same (s pth lk us gr fl : ByteArray) (nm nu ng nt : Int) (p n : Nat) (h5 : 512 ≤ s.size - p) (hk : ¬ kindv fl < 0) :
    memOkV (s.extract p s.size) pth lk nm nu ng nt us gr fl (n : Int) = memE (⟨kindv fl, pth, lk, nm, nu, ng, nt, us, gr, (takeV s (p + 512) n).1⟩, (takeV s (p + 512) n).2.1, (takeV s (p + 512) n).2.2) p fl (n : Int) := by
  have hz : (s.extract p s.size).size = s.size - p := by rw [ByteArray.size_extract]; omega
  have hpd := padz_bd (n : Int)
  have hm : max (kindv fl) 0 = kindv fl := by omega
  have hu : usedv (n : Int) = 512 + n + padv n 512 := rfl
  rw [memOkV, Int.toNat_natCast, hm]
  generalize kindv fl = kk at *
  obtain ⟨u, hU⟩ : ∃ u, usedv (n : Int) = u := ⟨_, rfl⟩
  rw [hU] at hu ⊢
  have ht0 : takeV s (p + 512) n = if (s.size : Int) < ((p + 512 : Nat) : Int) + n + padv n 512 then (⟨#[]⟩, ((p + 512 : Nat) : Int), 1) else if isNul (s.extract (p + 512 + n) (((p + 512 : Nat) : Int) + n + padv n 512).toNat) = false then (⟨#[]⟩, ((p + 512 : Nat) : Int), 4) else (s.extract (p + 512) (p + 512 + n), ((p + 512 : Nat) : Int) + n + padv n 512, 0) := rfl
  generalize takeV s (p + 512) n = tk at ht0 ⊢
  generalize padv (n : Int) 512 = pd at *
  by_cases hl : ((s.extract p s.size).size : Int) < u
  · rw [if_pos hl, ht0, if_pos (by rw [hz] at hl; omega)]
    rfl
  · rw [hz] at hl
    have e1 : (s.extract p s.size).extract (512 + n) u.toNat = s.extract (p + 512 + n) (((p + 512 : Nat) : Int) + n + pd).toNat := by
      rw [rest_ext s p _ _ (by omega), ← Nat.add_assoc, show p + u.toNat = (((p + 512 : Nat) : Int) + n + pd).toNat from by omega]
    have e2 : (s.extract p s.size).extract 512 (512 + n) = s.extract (p + 512) (p + 512 + n) := by
      rw [rest_ext s p _ _ (by omega), Nat.add_assoc p 512 n]
    have z1 : (s.extract (p + 512 + n) (((p + 512 : Nat) : Int) + n + pd).toNat).size = pd.toNat := by
      rw [ByteArray.size_extract]; omega
    rw [if_neg (show ¬ ((s.extract p s.size).size : Int) < u by rw [hz]; omega), e1, e2]
    rw [if_neg (show ¬ (s.size : Int) < ((p + 512 : Nat) : Int) + n + pd by omega)] at ht0
    generalize s.extract (p + 512 + n) (((p + 512 : Nat) : Int) + n + pd).toNat = tl at *
    generalize s.extract (p + 512) (p + 512 + n) = bd at *
    by_cases hnul : isNul tl = false
    · rw [if_pos ((nul_same _ _ z1).1 hnul), ht0, if_pos hnul]
      rfl
    · rw [if_neg (fun k => hnul ((nul_same _ _ z1).2 k)), ht0, if_neg hnul, memE, if_neg (show ¬ ¬ (0 : Int) = 0 by simp)]
      rw [show u = ((p + 512 : Nat) : Int) + n + pd - p from by omega]
theorem readMember_one (s : ByteArray) (p : Nat) (w : World) (hs : s.size ≤ 1048576) (hp : p < s.size) (hT : Tabs w) (hF : FW w) :
    Calls Tryz.prog 27 #[.string (s.extract p s.size), .func (.func 13) #[] #[]] w fun e w' => e = .returned (memE (oneR s p) p (fW (lOf (s.extract p s.size)) 7) (fnumv (fW (lOf (s.extract p s.size)) 4))) ∧ Below w.heap.size w w' := by
  have hz : (s.extract p s.size).size = s.size - p := by rw [ByteArray.size_extract]; omega
  have H1 := fun w' (hb : Below w.heap.size w w') => knownHead_any (s.extract p s.size) w' (by omega) (hT.below hb) (hF.below hb)
  by_cases h0 : ¬ hdc (s.extract p s.size) = 0
  · have hk : knownV (s.extract p s.size) = badHd (hdc (s.extract p s.size)) := by
      rw [knownV, if_neg (fun k => h0 k.1)]
      exact ((readV_code _).resolve_left (fun k => h0 k.1)).2
    rw [hk] at H1
    rw [show oneR s p = (zE, (p : Int), hdc (s.extract p s.size)) from by rw [oneR, if_pos h0], memE, if_pos h0]
    exact readMember_bad _ _ w (by omega) H1
  have h0 : hdc (s.extract p s.size) = 0 := Decidable.byContradiction h0
  by_cases hk : kindv (fW (lOf (s.extract p s.size)) 7) < 0
  · have hk2 : knownV (s.extract p s.size) = badHd 4 := by rw [knownV, if_pos ⟨h0, hk⟩]
    rw [hk2] at H1
    rw [show oneR s p = (zE, (p : Int), 4) from by rw [oneR, if_neg (by simp [h0]), if_pos hk], memE, if_pos (show ¬ (4 : Int) = 0 by decide)]
    exact readMember_bad _ _ w (by omega) H1
  · have hk2 : knownV (s.extract p s.size) = .tuple #[.agg (okCells (lOf (s.extract p s.size))), .nilIface] := by
      rw [knownV, if_neg (fun k => hk k.2)]
      exact ((readV_code _).resolve_right (fun k => k.1 h0)).2
    obtain ⟨h5, hh⟩ := hdc_zero h0
    have hb := size_of_head hh
    have HO : oneR s p = ({ entL (lOf (s.extract p s.size)) with kind := kindv (fW (lOf (s.extract p s.size)) 7), body := (takeV s (p + 512) (fnumv (fW (lOf (s.extract p s.size)) 4)).toNat).1 }, (takeV s (p + 512) (fnumv (fW (lOf (s.extract p s.size)) 4)).toNat).2.1, (takeV s (p + 512) (fnumv (fW (lOf (s.extract p s.size)) 4)).toNat).2.2) := by
      rw [oneR, if_neg (by simp [h0]), if_neg hk]
    rw [hk2, okCells] at H1
    rw [HO]
    obtain ⟨n, hn⟩ := Int.eq_ofNat_of_zero_le hb.1
    rw [hn] at hb H1 ⊢
    simp only [entL, Int.toNat_natCast] at H1 ⊢
    generalize pathL (lOf (s.extract p s.size)) = pth at *
    generalize cutv (fW (lOf (s.extract p s.size)) 8) = lk at *
    generalize cutv (fW (lOf (s.extract p s.size)) 10) = us at *
    generalize cutv (fW (lOf (s.extract p s.size)) 11) = gr at *
    generalize fnumv (fW (lOf (s.extract p s.size)) 1) = nm at *
    generalize fnumv (fW (lOf (s.extract p s.size)) 2) = nu at *
    generalize fnumv (fW (lOf (s.extract p s.size)) 3) = ng at *
    generalize fnumv (fW (lOf (s.extract p s.size)) 5) = nt at *
    generalize fW (lOf (s.extract p s.size)) 7 = fl at *
    have HM := readMember_ok (s.extract p s.size) pth lk nm nu ng nt us gr fl (n : Int) w (by omega) h5 (by omega) (by omega) H1
    rw [mem_same s pth lk us gr fl nm nu ng nt p n (by omega) hk] at HM
    exact HM
end Go.Proofs.YtancidbbkoeokaaGreatDoor

/- Where impl.members ends is where the model's l04End says so: plain mathematics. -/
namespace Go.Proofs.YtancidbbkoeokaaGreatDoor
open Go.ChangeShapes Go.WideShapes Go.ChangeAt Go.RowKit

theorem ext_list (s : ByteArray) (a b : Nat) : (s.extract a b).data.toList = (s.data.toList.drop a).take (b - a) := by
  simp [ByteArray.data_extract]
theorem rest_list (s : ByteArray) (p : Nat) : (s.extract p s.size).data.toList = s.data.toList.drop p := by
  rw [ext_list, List.take_of_length_le (by simp)]
theorem isNul_nulv (t : ByteArray) (n : Nat) (h : t.size = n) : isNul t = true ↔ t = nulv n := by
  have h1 := nul_same t n h
  cases hb : isNul t with
  | false => exact ⟨fun k => (by cases k), fun k => absurd k (h1.1 hb)⟩
  | true => exact ⟨fun _ => Decidable.byContradiction (fun k => by rw [h1.2 k] at hb; cases hb), fun _ => rfl⟩
theorem pre512 (s : ByteArray) (p : Nat) : Lib.hasPrefix (s.extract p s.size).data.toList (nulv 512).data.toList = true ↔ (p + 512 ≤ s.size ∧ isNul (s.extract p (p + 512)) = true) := by
  have hn : (nulv 512).data.toList.length = 512 := by rw [Array.length_toList]; exact nulv_size 512
  have hl : s.data.toList.length = s.size := Array.length_toList
  rw [show Lib.hasPrefix (s.extract p s.size).data.toList (nulv 512).data.toList = (nulv 512).data.toList.isPrefixOf (s.extract p s.size).data.toList from rfl, List.isPrefixOf_iff_prefix, List.prefix_iff_eq_take, hn, rest_list]
  have e : ((s.data.toList.drop p).take 512) = (s.extract p (p + 512)).data.toList := by rw [ext_list, Nat.add_sub_cancel_left]
  rw [e]
  constructor
  · intro h
    have hz : (s.extract p (p + 512)).size = 512 := by
      have := congrArg List.length h
      rw [hn, Array.length_toList] at this
      exact this.symm
    have h2 : p + 512 ≤ s.size := by rw [ByteArray.size_extract] at hz; omega
    exact ⟨h2, (isNul_nulv _ 512 hz).2 (ba_ext h.symm)⟩
  · rintro ⟨h1, h2⟩
    have hz : (s.extract p (p + 512)).size = 512 := by rw [ByteArray.size_extract]; omega
    rw [(isNul_nulv _ 512 hz).1 h2]
theorem end_pre (s : ByteArray) (p : Nat) (h : Lib.hasPrefix (s.extract p s.size).data.toList (nulv 512).data.toList = true) : endV s p = (true, if s.extract p s.size = nulv 1024 then 0 else 5) := by
  obtain ⟨h1, h2⟩ := (pre512 s p).1 h
  have hz : (s.extract p s.size).size = s.size - p := by rw [ByteArray.size_extract]; omega
  rw [endV, if_neg (by omega), if_neg (by omega), if_neg (by simp [h2])]
  by_cases h3 : s.size - p = 1024
  · have e := isNul_nulv (s.extract p s.size) 1024 (by omega)
    by_cases h4 : s.extract p s.size = nulv 1024
    · rw [if_pos ⟨h3, e.2 h4⟩, if_pos h4]
    · rw [if_neg (fun k => h4 (e.1 k.2)), if_neg h4]
  · rw [if_neg (fun k => h3 k.1), if_neg]
    intro k
    have := congrArg ByteArray.size k
    rw [nulv_size, hz] at this
    exact h3 this
theorem end_not (s : ByteArray) (p : Nat) (hp : p < s.size) (h : ¬ Lib.hasPrefix (s.extract p s.size).data.toList (nulv 512).data.toList = true) : endV s p = (false, 0) := by
  have h1 := fun k => h ((pre512 s p).2 k)
  rw [endV, if_neg (by omega)]
  by_cases h2 : s.size < p + 512
  · rw [if_pos h2]
  · rw [if_neg h2, if_pos]
    cases hb : isNul (s.extract p (p + 512)) with
    | false => rfl
    | true => exact absurd ⟨by omega, hb⟩ h1
theorem end_at (s : ByteArray) (p : Nat) (hp : s.size ≤ p) : endV s p = (true, 5) := by rw [endV, if_pos hp]
end Go.Proofs.YtancidbbkoeokaaGreatDoor

/- The iterator of impl.members over readKnownHead: what it yields. -/
namespace Go.Proofs.YtancidbbkoeokaaGreatDoor
open Go.RowKit Go.Shelf Go.ChangeShapes Go.WideShapes Go.ChangeAt

attribute [local go_sem] Oper.semAt_some

/-- One yield: a member's entry, flag and size with code 0, or a code. -/
structure Yd where
  e : Ent
  fl : ByteArray
  z : Int
  c : Int
def encY (x : Yd) : Array Value :=
  if x.c = 0 then #[.agg #[.int .i64 x.e.kind, .string x.e.path, .string x.e.link, .int .i64 x.e.mode, .int .i64 x.e.uid, .int .i64 x.e.gid, .int .i64 x.e.time, .string x.e.user, .string x.e.group, .string x.e.body, .string x.fl, .int .i64 x.z], .nilIface]
  else #[.agg zHead, .iface 58 (.agg #[.int .i64 x.c])]
def allG (xs : List Yd) : Prop := ∀ x ∈ xs, x.c = 0
def entsY (xs : List Yd) : List Ent := xs.map (·.e)
def badY (c : Int) : Yd := ⟨zE, ⟨#[]⟩, 0, c⟩
theorem encY_bad {c : Int} (h : ¬ c = 0) : encY (badY c) = #[.agg zHead, .iface 58 (.agg #[.int .i64 c])] := if_neg h
theorem encY_size (x : Yd) : (encY x).size = 2 := by unfold encY; split <;> rfl
theorem allG_app {xs : List Yd} {x : Yd} (h : allG xs) (hx : x.c = 0) : allG (xs ++ [x]) := by
  intro y hy
  rcases List.mem_append.1 hy with h1 | h1
  · exact h y h1
  · rw [List.mem_singleton] at h1; rw [h1]; exact hx
theorem entsY_app (xs : List Yd) (x : Yd) : entsY (xs ++ [x]) = entsY xs ++ [x.e] := by simp [entsY]
theorem grown_none {w w' : World} (h : Below w.heap.size w w') : w.grownBy w' none := ⟨h.os, h.tape, h.output, h.size, fun k hk _ => h.block k hk⟩
/-- What the whole row of yields is, and what a row of yields is that a round stops. -/
def doneY (s : ByteArray) (ys : List Yd) : Prop := (allG ys ∧ ∃ p, StU (oneR s) (endV s) s.size (ustV s) (entsY ys) p ∧ endV s p = (true, 0)) ∨ (∃ pre x, ys = pre ++ [x] ∧ ¬ x.c = 0)
def stopY (s : ByteArray) (ys : List Yd) : Prop := ∃ pre x, ys = pre ++ [x] ∧ (x.c = 0 ∨ (allG pre ∧ ustV s = (entsY pre, x.c)))
theorem entsY_len (xs : List Yd) : (entsY xs).length = xs.length := by simp [entsY]
theorem rest_step (s : ByteArray) (p q : Nat) (hpq : p ≤ q) (hq : q ≤ s.size) (w : World) : (Instr.slice 9 (.string (s.extract p s.size)) (some (.int .i64 ((q : Int) - p))) none none).run Tryz.prog w = .ok (.string (s.extract q s.size)) w := by
  have hz : (s.extract p s.size).size = s.size - p := by rw [ByteArray.size_extract]; omega
  have h1 := run_slice_string_l (P := Tryz.prog) (w := w) (t := 9) (s := s.extract p s.size) Tryz.underlying9 .i64 ((q : Int) - p) (by omega) (by omega)
  rw [h1, show ((q : Int) - p).toNat = q - p from by omega, hz, rest_ext s p _ _ (by omega), show p + (q - p) = q from by omega, show p + (s.size - p) = s.size from by omega]
theorem mem_step (s : ByteArray) (w0 : World) (n₀ p : Nat) (Q : List Ent) (hs : s.size ≤ 1048576) (hT : Tabs w0) (hF : FW w0) (hn0 : w0.heap.size = n₀) (hst : StU (oneR s) (endV s) s.size (ustV s) Q p)
    (hpx : ¬ Lib.hasPrefix (s.extract p s.size).data.toList (nulv 512).data.toList = true) :
    (∃ c : Int, ¬ c = 0 ∧ ustV s = (Q, c) ∧ ∀ w, Below n₀ w0 w → Calls Tryz.prog 27 #[.string (s.extract p s.size), .func (.func 13) #[] #[]] w fun e w' => e = .returned (mbad c) ∧ Below w.heap.size w w')
    ∨ ∃ (ek : Int) (ep el : ByteArray) (em eu eg et : Int) (es er eb fl : ByteArray) (z : Int) (q : Nat), p + 512 ≤ q ∧ q ≤ s.size ∧ StU (oneR s) (endV s) s.size (ustV s) (Q ++ [⟨ek, ep, el, em, eu, eg, et, es, er, eb⟩]) q ∧ ∀ w, Below n₀ w0 w → Calls Tryz.prog 27 #[.string (s.extract p s.size), .func (.func 13) #[] #[]] w fun e w' => e = .returned (.tuple #[.agg #[.int .i64 ek, .string ep, .string el, .int .i64 em, .int .i64 eu, .int .i64 eg, .int .i64 et, .string es, .string er, .string eb, .string fl, .int .i64 z], .int .i64 ((q : Int) - p), .nilIface]) ∧ Below w.heap.size w w' := by
  subst hn0
  have hpz := hst.2.2.2
  by_cases hp : p < s.size
  · have HE := end_not s p hp hpx
    have HR := fun w (hb : Below w0.heap.size w0 w) => readMember_one s p w hs hp (hT.below hb) (hF.below hb)
    by_cases hc : ¬ (oneR s p).2.2 = 0
    · refine .inl ⟨(oneR s p).2.2, hc, hst.code (by rw [HE]) hc, fun w hb => ?_⟩
      have := HR w hb
      rw [memE, if_pos hc] at this
      exact this
    · obtain ⟨q, hq, hpq, h2⟩ := hst.step (oneR_good s hs) (by rw [HE]) (Decidable.byContradiction hc)
      refine .inr ⟨_, _, _, _, _, _, _, _, _, _, fW (lOf (s.extract p s.size)) 7, fnumv (fW (lOf (s.extract p s.size)) 4), q, hpq, h2.2.2.2, h2, fun w hb => ?_⟩
      have := HR w hb
      rw [memE, if_neg hc, hq] at this
      exact this
  · have e : s.extract p s.size = ⟨#[]⟩ := by
      apply ba_ext
      rw [rest_list, List.drop_eq_nil_of_le (by rw [Array.length_toList]; show s.size ≤ p; omega)]
    refine .inl ⟨5, by decide, ?_, fun w hb => ?_⟩
    · have h1 := end_at s p (by omega)
      have := hst.ends (by rw [h1])
      rw [this, h1]; rfl
    · rw [e]
      exact readMember_end w
set_option maxRecDepth 100000 in
set_option maxHeartbeats 3200000 in
theorem members_in (n l B1 B2 n₀ : Nat) (s : ByteArray) (w0 : World) (J Jx : List Yd → World → Prop) (hs : s.size ≤ 1048576) (B : Nat) (hJ : AbidesFrom B J)
    (hT : Tabs w0) (hF : FW w0) (hn0 : w0.heap.size = n₀) 
    (hY : ∀ pre x W, J pre W → pre.length < s.size + 1 → YieldAt Fence.wide (n - 1) Tryz.prog l (encY x) W fun e W' =>
      (e = .returned (.bool true) ∧ J (pre ++ [x]) W' ∧ (Below n₀ W W' ∧ W'.heap[B2]? = W.heap[B2]?)) ∨ (e = .returned (.bool false) ∧ Jx (pre ++ [x]) W'))
    (W : World) (hb0 : Below n₀ w0 W) (hB1 : W.cell? ⟨B1, 0, none⟩ = some (.string s)) (hB2 : W.cell? ⟨B2, 0, none⟩ = some (.func (.func 13) #[] #[])) (hl2 : B2 < W.heap.size) (h0 : J [] W) :
    CallsIn Fence.wide n Tryz.prog 24 #[.func (.yield l) #[] #[], .pointer (some ⟨B1, 0, none⟩), .pointer (some ⟨B2, 0, none⟩)] W fun e W' => (∃ v, e = .returned v) ∧
      ((∃ ys, doneY s ys ∧ J ys W') ∨ (∃ pre, stopY s pre ∧ Jx pre W')) := by
  have HS := Lib.hid hs
  clear hs
  have S0 := Lib.hid (StU.start (oneR s) (endV s) s.size)
  rw [show outU (oneR s) (endV s) (s.size + 1) [] 0 = ustV s from rfl] at S0
  refine callsIn_of_wp Tryz.func24 rfl trivial ?_ rfl
  simp only [Tryz.ntmps24, List.size_toArray, List.length_cons, List.length_nil, Nat.reduceAdd, Nat.reduceSub, Array.replicate_succ, Array.replicate_zero, List.push_toArray, List.append_toArray, List.nil_append, List.cons_append]
  gi_wp2
  gi_loopw [4, 5, 6, 7] (fun r _ _ _ wr => ∃ (pre : List Yd) (p : Nat), r = .string (s.extract p s.size) ∧ StU (oneR s) (endV s) s.size (ustV s) (entsY pre) p ∧ allG pre ∧ J pre wr ∧ Below n₀ w0 wr ∧ wr.cell? ⟨B2, 0, none⟩ = some (.func (.func 13) #[] #[]) ∧ B2 < wr.heap.size)
    (fun r _ _ _ _ => (match r with | .string t => t.size | _ => 0))
  case atStart => exact ⟨[], 0, by rw [ByteArray.extract_zero_size], S0.out, (fun x hx => by cases hx), h0, hb0, hB2, hl2⟩
  case round =>
    obtain ⟨pre, p, rfl, hst, hg, hJs, hb, hc2, hl⟩ := hrel
    clear S0 h0 hb0 hB1 hB2 hl2
    have St := Lib.hid hst
    have G := Lib.hid hg
    have HJs := Lib.hid hJs
    have BB := Lib.hid hb
    have hpz := hst.2.2.2
    have hlen : Hid (pre.length < s.size + 1) := Lib.hid (by have h1 := hst.2.1; rw [entsY_len] at h1; omega)
    clear hst hg hJs hb
    have HN := Lib.hid (fun w => (callsIn_wide (n := n - 1)).2 (nulsI_any 512 w (by decide)))
    have HP := Lib.hid (fun w => (callsIn_wide (n := n - 1)).2 (Tryz.strings_HasPrefix (s.extract p s.size) (nulv 512) w))
    by_cases hpx : Lib.hasPrefix (s.extract p s.size).data.toList (nulv 512).data.toList = true
    · rw [hpx] at HP
      have HE := Lib.hid (end_pre s p hpx)
      have HN2 := Lib.hid (fun w => (callsIn_wide (n := n - 1)).2 (nulsI_any 1024 w (by decide)))
      gi_wp2_with fail
      refine ⟨trivial, wide_room, (HN.out _).mono ?_⟩
      rintro e w1 ⟨rfl, hb1⟩
      gi_wp2_with fail
      refine ⟨trivial, wide_room, (HP.out _).mono ?_⟩
      rintro e w2 ⟨rfl, rfl⟩
      gi_wp2_with fail
      refine ⟨trivial, wide_room, (HN2.out _).mono ?_⟩
      rintro e w3 ⟨rfl, hb3⟩
      have J3 := Lib.hid (hJ _ _ _ none (hJ _ _ _ none HJs.out (grown_none hb1) (fun _ h => by cases h)) (grown_none hb3) (fun _ h => by cases h))
      clear hb1 hb3 HN HN2 HP
      by_cases h4 : s.extract p s.size = nulv 1024
      · have hnq : ((s.extract p s.size).toList == (nulv 1024).toList) = true := ba_eq h4
        gi_wp2
        go_end0
        exact ⟨⟨_, rfl⟩, .inl ⟨pre, .inl ⟨G.out, p, St.out, by rw [HE.out, if_pos h4]⟩, J3.out⟩⟩
      · have hnq : ((s.extract p s.size).toList == (nulv 1024).toList) = false := ba_ne h4
        have hY1 := hY pre (badY 5) w3 J3.out hlen.out
        rw [encY_bad (by decide), zHead] at hY1
        obtain ⟨fn, tmps, assign, body, hy, hR⟩ := hY1
        have HR := Lib.hid hR
        clear hR
        gi_wp2
        refine ⟨wide_room, HR.out.mono ?_⟩
        rintro e W3 (⟨rfl, hJ3, _⟩ | ⟨rfl, hJx3⟩)
        · have HJ3 := Lib.hid hJ3
          clear hJ3
          gi_wp2
          go_end0
          exact ⟨⟨_, rfl⟩, .inl ⟨pre ++ [badY 5], .inr ⟨pre, badY 5, rfl, by show ¬ (5 : Int) = 0; decide⟩, HJ3.out⟩⟩
        · have HJ3 := Lib.hid hJx3
          clear hJx3
          gi_wp2
          go_end0
          exact ⟨⟨_, rfl⟩, .inr ⟨pre ++ [badY 5], ⟨pre, badY 5, rfl, .inr ⟨G.out, by rw [St.out.ends (by rw [HE.out]), HE.out, if_neg h4]; rfl⟩⟩, HJ3.out⟩⟩
    · have hpf : Lib.hasPrefix (s.extract p s.size).data.toList (nulv 512).data.toList = false := by simpa using hpx
      rcases mem_step s w0 n₀ p (entsY pre) HS.out hT hF hn0 St.out hpx with ⟨c, hc, hG, hR⟩ | ⟨ek, ep, el, em, eu, eg, et, es, er, eb, fl, z, q, hpq, hqz, hst2, hR⟩
      · skip
        have HRd := Lib.hid (fun w hb => (callsIn_wide (n := n - 1)).2 (hR w hb))
        clear hR
        rw [hpf] at HP
        gi_wp2_with fail
        refine ⟨trivial, wide_room, (HN.out _).mono ?_⟩
        rintro e w1 ⟨rfl, hb1⟩
        have c1 : w1.cell? ⟨B2, 0, none⟩ = some (.func (.func 13) #[] #[]) := (hb1.cell (p := ⟨B2, 0, none⟩) hl).trans hc2
        have l1 : B2 < w1.heap.size := Nat.lt_of_lt_of_le hl hb1.size
        have J1 := Lib.hid (hJ _ _ _ none HJs.out (grown_none hb1) (fun _ h => by cases h))
        have BB1 := Lib.hid (BB.out.trans (hb1.mono (by have := BB.out.size; omega)))
        clear hb1 hc2 hl HJs BB HN
        gi_wp2_with fail
        refine ⟨trivial, wide_room, (HP.out _).mono ?_⟩
        rintro e w2 ⟨rfl, rfl⟩
        clear HP
        gi_wp2_with fail
        refine ⟨trivial, wide_room, (HRd.out _ BB1.out).mono ?_⟩
        rintro e w3 ⟨rfl, hb3⟩
        have c3 : w3.cell? ⟨B2, 0, none⟩ = some (.func (.func 13) #[] #[]) := (hb3.cell (p := ⟨B2, 0, none⟩) l1).trans c1
        have l3 : B2 < w3.heap.size := Nat.lt_of_lt_of_le l1 hb3.size
        have J3 := Lib.hid (hJ _ _ _ none J1.out (grown_none hb3) (fun _ h => by cases h))
        have BB3 := Lib.hid (BB1.out.trans (hb3.mono (by have := BB1.out.size; omega)))
        clear hb3 c1 l1 J1 BB1 HRd
        have BX := (Below.refl w3.heap.size w3).alloc (Nat.le_refl _) (.cells #[.int .i64 0, .string ⟨#[]⟩, .string ⟨#[]⟩, .int .i64 0, .int .i64 0, .int .i64 0, .int .i64 0, .string ⟨#[]⟩, .string ⟨#[]⟩, .string ⟨#[]⟩, .string ⟨#[]⟩, .int .i64 0] 40)
        have c4 := (BX.cell (p := ⟨B2, 0, none⟩) l3).trans c3
        have l4 := Nat.lt_of_lt_of_le l3 BX.size
        have J4 := Lib.hid (hJ _ _ _ none J3.out (grown_none BX) (fun _ h => by cases h))
        have BB4 := Lib.hid (BB3.out.trans (BX.mono (by have := BB3.out.size; omega)))
        clear BX c3 l3 J3 BB3
        have hY1 := hY pre (badY c) _ J4.out hlen.out
        rw [encY_bad hc, zHead] at hY1
        obtain ⟨fn, tmps, assign, body, hy, hR⟩ := hY1
        have HR := Lib.hid hR
        clear hR
        simp only [mbad, zHead]
        gi_wp2
        refine ⟨wide_room, HR.out.mono ?_⟩
        rintro e W3 (⟨rfl, hJ3, _⟩ | ⟨rfl, hJx3⟩)
        · have HJ3 := Lib.hid hJ3
          clear hJ3
          gi_wp2
          refine bodyPost_ret (results_none rfl _ _ _) rfl ?_
          exact ⟨⟨_, rfl⟩, .inl ⟨pre ++ [badY c], .inr ⟨pre, badY c, rfl, hc⟩, HJ3.out⟩⟩
        · have HJ3 := Lib.hid hJx3
          clear hJx3
          gi_wp2
          refine bodyPost_ret (results_none rfl _ _ _) rfl ?_
          exact ⟨⟨_, rfl⟩, .inr ⟨pre ++ [badY c], ⟨pre, badY c, rfl, .inr ⟨G.out, hG⟩⟩, HJ3.out⟩⟩
      · skip
        have HRd := Lib.hid (fun w hb => (callsIn_wide (n := n - 1)).2 (hR w hb))
        clear hR
        rw [hpf] at HP
        gi_wp2_with fail
        refine ⟨trivial, wide_room, (HN.out _).mono ?_⟩
        rintro e w1 ⟨rfl, hb1⟩
        have c1 : w1.cell? ⟨B2, 0, none⟩ = some (.func (.func 13) #[] #[]) := (hb1.cell (p := ⟨B2, 0, none⟩) hl).trans hc2
        have l1 : B2 < w1.heap.size := Nat.lt_of_lt_of_le hl hb1.size
        have J1 := Lib.hid (hJ _ _ _ none HJs.out (grown_none hb1) (fun _ h => by cases h))
        have BB1 := Lib.hid (BB.out.trans (hb1.mono (by have := BB.out.size; omega)))
        clear hb1 hc2 hl HJs BB HN
        gi_wp2_with fail
        refine ⟨trivial, wide_room, (HP.out _).mono ?_⟩
        rintro e w2 ⟨rfl, rfl⟩
        clear HP
        gi_wp2_with fail
        refine ⟨trivial, wide_room, (HRd.out _ BB1.out).mono ?_⟩
        rintro e w3 ⟨rfl, hb3⟩
        have c3 : w3.cell? ⟨B2, 0, none⟩ = some (.func (.func 13) #[] #[]) := (hb3.cell (p := ⟨B2, 0, none⟩) l1).trans c1
        have l3 : B2 < w3.heap.size := Nat.lt_of_lt_of_le l1 hb3.size
        have J3 := Lib.hid (hJ _ _ _ none J1.out (grown_none hb3) (fun _ h => by cases h))
        have BB3 := Lib.hid (BB1.out.trans (hb3.mono (by have := BB1.out.size; omega)))
        clear hb3 c1 l1 J1 BB1 HRd
        have BX := (Below.refl w3.heap.size w3).alloc (Nat.le_refl _) (.cells #[.int .i64 ek, .string ep, .string el, .int .i64 em, .int .i64 eu, .int .i64 eg, .int .i64 et, .string es, .string er, .string eb, .string fl, .int .i64 z] 40)
        have c4 := (BX.cell (p := ⟨B2, 0, none⟩) l3).trans c3
        have l4 := Nat.lt_of_lt_of_le l3 BX.size
        have J4 := Lib.hid (hJ _ _ _ none J3.out (grown_none BX) (fun _ h => by cases h))
        have BB4 := Lib.hid (BB3.out.trans (BX.mono (by have := BB3.out.size; omega)))
        clear BX c3 l3 J3 BB3
        have hY1 := hY pre ⟨⟨ek, ep, el, em, eu, eg, et, es, er, eb⟩, fl, z, 0⟩ _ J4.out hlen.out
        rw [show encY ⟨⟨ek, ep, el, em, eu, eg, et, es, er, eb⟩, fl, z, 0⟩ = #[.agg #[.int .i64 ek, .string ep, .string el, .int .i64 em, .int .i64 eu, .int .i64 eg, .int .i64 et, .string es, .string er, .string eb, .string fl, .int .i64 z], .nilIface] from if_pos rfl] at hY1
        obtain ⟨fn, tmps, assign, body, hy, hR⟩ := hY1
        have HR := Lib.hid hR
        clear hR
        gi_wp2
        refine ⟨wide_room, HR.out.mono ?_⟩
        rintro e W3 (⟨rfl, hJ3, hk, hk2⟩ | ⟨rfl, hJx3⟩)
        · have HJ3 := Lib.hid hJ3
          have c5 := (World.cell?_of_block (a := ⟨B2, 0, none⟩) hk2).trans c4
          have BB5 := Lib.hid (BB4.out.trans hk)
          have l5 := Nat.lt_of_lt_of_le l4 hk.size
          have hsl := rest_step s p q (by omega) hqz
          have X2 := Lib.hid hst2
          clear hJ3 hk hk2 c4 l4 BB4 hst2 J4
          gi_wp2
          go_roundw
          case rel => exact ⟨pre ++ [⟨⟨ek, ep, el, em, eu, eg, et, es, er, eb⟩, fl, z, 0⟩], q, rfl, by rw [entsY_app]; exact X2.out, allG_app G.out rfl, HJ3.out, BB5.out, c5, l5⟩
          case measure => simp only [ByteArray.size_extract]; omega
        · have HJ3 := Lib.hid hJx3
          clear hJx3
          gi_wp2
          refine bodyPost_ret (results_none rfl _ _ _) rfl ?_
          exact ⟨⟨_, rfl⟩, .inr ⟨pre ++ [⟨⟨ek, ep, el, em, eu, eg, et, es, er, eb⟩, fl, z, 0⟩], ⟨pre, _, rfl, .inl rfl⟩, HJ3.out⟩⟩
end Go.Proofs.YtancidbbkoeokaaGreatDoor

/- The function value of impl.members, and its contract for a range over it. -/
namespace Go.Proofs.YtancidbbkoeokaaGreatDoor
open Go.RowKit Go.Shelf Go.ChangeShapes Go.WideShapes Go.ChangeAt

attribute [local go_sem] Oper.semAt_some

/-- What a round keeps: all that lay ahead of the call, and the box of 'read'. -/
def KpU (n₀ B2 : Nat) (W W' : World) : Prop := Below n₀ W W' ∧ W'.heap[B2]? = W.heap[B2]?
theorem KpU.trans {n₀ B2 : Nat} {A B C : World} (h : KpU n₀ B2 A B) (k : KpU n₀ B2 B C) : KpU n₀ B2 A C := ⟨h.1.trans k.1, k.2.trans h.2⟩
theorem KpU.refl (n₀ B2 : Nat) (W : World) : KpU n₀ B2 W W := ⟨Below.refl _ _, rfl⟩
theorem KpU.book {n₀ B2 : Nat} {w : World} (hn : n₀ ≤ w.heap.size) (h2 : B2 < w.heap.size) (W : World) (l : Nat) (o o' : Obj) (hl : w.heap.size ≤ l) (h : W.heap[l]? = some o) (a : o.isCells = false) (b : o.isWalk = false) : KpU n₀ B2 W (W.putObj l o') :=
  ⟨belowK_b hn W l o o' hl h a b, World.putObj_heap_other (by omega)⟩
theorem members_make (n : Nat) (s : ByteArray) (w : World) :
    CallsIn Fence.wide n Tryz.prog 12 #[.string s, .func (.func 13) #[] #[]] w fun e w' => e = .returned (.func (.func 24) #[] #[.pointer (some ⟨w.heap.size, 0, none⟩), .pointer (some ⟨w.heap.size + 1, 0, none⟩)]) ∧ ∃ T, T ≠ 32 ∧ w' = (w.alloc (.cells #[.string s] 9)).alloc (.cells #[.func (.func 13) #[] #[]] T) := by
  refine callsIn_of_wp Tryz.func12 rfl trivial ?_ rfl
  simp only [Tryz.ntmps12, List.size_toArray, List.length_cons, List.length_nil, Nat.reduceAdd, Nat.reduceSub, Array.replicate_succ, Array.replicate_zero, List.push_toArray, List.append_toArray, List.nil_append, List.cons_append]
  gi_wp2
  go_ret
  refine ⟨by simp, _, ?_, rfl⟩
  decide
theorem members_stops (n B1 B2 n₀ : Nat) (s : ByteArray) (w0 w : World) (hs : s.size ≤ 1048576) (hT : Tabs w0) (hF : FW w0) (hn0 : w0.heap.size = n₀) (hb0 : Below n₀ w0 w) (h1 : B1 < w.heap.size) (h2 : B2 < w.heap.size)
    (hB1 : w.cell? ⟨B1, 0, none⟩ = some (.string s)) (hB2 : w.cell? ⟨B2, 0, none⟩ = some (.func (.func 13) #[] #[])) :
    SeqStopsK Fence.wide n Tryz.prog 24 #[.pointer (some ⟨B1, 0, none⟩), .pointer (some ⟨B2, 0, none⟩)] encY (KpU n₀ B2) (doneY s) (stopY s) (s.size + 1) w :=
  fun l J Jx W hW hJ _ hY h0 => members_in n l B1 B2 n₀ s w0 J Jx hs _ hJ hT hF hn0 hY W (hb0.trans (hW.mono (by have := hb0.size; omega))) ((hW.cell (p := ⟨B1, 0, none⟩) h1).trans hB1) ((hW.cell (p := ⟨B2, 0, none⟩) h2).trans hB2) (Nat.lt_of_lt_of_le h2 hW.size) h0
end Go.Proofs.YtancidbbkoeokaaGreatDoor

/- Contract of spec.Merge. -/
namespace Go.Proofs.YtancidbbkoeokaaGreatDoor
open Go.ChangeShapes Go.WideShapes Go.ChangeAt Go.RowKit Go.Deep

theorem OwnE.open {w : World} {base : Nat} {v : Value} {L : List Ent} (h : OwnE w base v L) : ∃ g cap, v = .slice (some ⟨g, 0, none⟩) L.length cap ∧ RowE w g L ∧ g < w.heap.size ∧ base ≤ g ∧ L.length ≤ cap ∧ w.ownsRow base 32 10 (.slice (some ⟨g, 0, none⟩) L.length cap) L.length (entVals L) := by
  obtain ⟨ho, g, cap, rfl⟩ := h
  have hr := OwnE.row (n := L.length) ⟨ho, g, cap, rfl⟩
  refine ⟨g, cap, rfl, hr.1, hr.2.1, hr.2.2.1, ?_, ho⟩
  rcases ho.2 with ⟨h', _⟩ | ⟨g', cap', cur, h', _, _, hnc, _⟩
  · simp at h'
  · simp at h'
    obtain ⟨_, rfl⟩ := h'
    exact hnc
/-- The entries of L, as far as i, whose path is none of M's. -/
def mergeTo (L M : List Ent) : Nat → List Ent
  | 0 => []
  | i + 1 => if findv M (L.getD i entD).path < 0 then mergeTo L M i ++ [L.getD i entD] else mergeTo L M i
def mergev (L M : List Ent) : List Ent := if listOkv (mergeTo L M L.length ++ M) = true then mergeTo L M L.length ++ M else L
theorem mergeTo_len (L M : List Ent) (i : Nat) : (mergeTo L M i).length ≤ i := by
  induction i with
  | zero => simp [mergeTo]
  | succ i ih =>
    rw [mergeTo]
    split
    · simp; omega
    · omega
theorem mergeTo_hit {L M : List Ent} {i : Nat} {e : Ent} (h : L[i]? = some e) (hf : findv M e.path < 0) : mergeTo L M (i + 1) = mergeTo L M i ++ [e] := by
  rw [mergeTo]; simp [List.getD, h, hf]
theorem mergeTo_miss {L M : List Ent} {i : Nat} {e : Ent} (h : L[i]? = some e) (hf : ¬ findv M e.path < 0) : mergeTo L M (i + 1) = mergeTo L M i := by
  rw [mergeTo]; simp [List.getD, h, hf]
theorem mergeTo_mem {L M : List Ent} {i : Nat} (hi : i ≤ L.length) : ∀ e ∈ mergeTo L M i, e ∈ L := by
  induction i with
  | zero => simp [mergeTo]
  | succ i ih =>
    rw [mergeTo]
    have hx : L.getD i entD ∈ L := by
      rw [List.getD, List.getElem?_eq_getElem (show i < L.length by omega)]
      exact List.getElem_mem _
    split
    · intro e he
      rcases List.mem_append.1 he with h | h
      · exact ih (by omega) e h
      · simp at h; subst h; exact hx
    · exact ih (by omega)
theorem own_belowE {w w' : World} {base : Nat} {ty : TypeId} {v : Value} {n : Nat} {xs : List Value} (h : w.ownsRow base ty 10 v n xs) (hb : Below w.heap.size w w') : w'.ownsRow base ty 10 v n xs :=
  World.ownsRow.kept h (row := none) ⟨hb.os, hb.tape, hb.output, hb.size, fun k hk _ => hb.block k hk⟩ (by cases hv : v.ownBlock <;> simp)
end Go.Proofs.YtancidbbkoeokaaGreatDoor

/- Maps from texts to numbers, and sets of texts, that a call makes. -/
namespace Go.Proofs.YtancidbbkoeokaaGreatDoor
open Go.ChangeShapes Go.WideShapes Go.ChangeAt Go.RowKit Go.Maps

theorem lawS : Keyed Tryz.prog 9 := string_keyed Tryz.underlying9
theorem zeroN (w : World) : (zeroValue 3).run Tryz.prog w = .ok (.int .i64 0) w := by kernel_rfl
def keyS (s : ByteArray) : Lit := .string s.data.toList
theorem key_of {s : ByteArray} (h : s.size ≤ maxLen) : keyOf Tryz.prog 9 (.string s) = some (keyS s) := WideMaps.keyOf_string_mk Tryz.underlying9 h
theorem keyS_ne {a b : ByteArray} (h : ¬ a = b) : keyS a ≠ keyS b := by
  intro e
  apply h
  exact ba_ext (by simpa [keyS] using e)
theorem keyS_lit (a : ByteArray) : WideAt.IsKeyLit (keyS a) := trivial
/-- What the map D tells of each text. -/
def MapIs (D : DataW Unit) (M : ByteArray → Option Int) : Prop := IsMap D ∧ ∀ s, Maps.has D (keyS s) = (M s).isSome ∧ ∀ c, M s = some c → D.atKey (keyS s) (.lit (.int .i64 0)) = .lit (.int .i64 c)
/-- Block b is a map from texts to numbers of at most n entries. -/
def MapAt (w : World) (b n : Nat) (M : ByteArray → Option Int) : Prop := ∃ D : DataW Unit, w.ownsMap Tryz.prog 9 (plainElem Tryz.prog 3) b n D ∧ MapIs D M
def putM (M : ByteArray → Option Int) (s : ByteArray) (c : Int) : ByteArray → Option Int := fun t => if t = s then some c else M t
theorem MapIs.put {D : DataW Unit} {M : ByteArray → Option Int} (h : MapIs D M) (s : ByteArray) (c : Int) : MapIs (D.put (keyS s) (.lit (.int .i64 c))) (putM M s c) := by
  refine ⟨h.1.put _ _, fun t => ?_⟩
  by_cases e : t = s
  · subst e
    refine ⟨by rw [Maps.has_put_same h.1 (keyS_lit _)]; simp [putM], fun d hd => ?_⟩
    rw [Maps.atKey_put_same h.1 (keyS_lit _)]
    simp [putM] at hd
    rw [hd]
  · refine ⟨by rw [Maps.has_put_other (keyS_ne e), (h.2 t).1]; simp [putM, e], fun d hd => ?_⟩
    rw [Maps.atKey_put_other (keyS_ne e)]
    simp [putM, e] at hd
    exact (h.2 t).2 d hd
theorem mapIs_empty : MapIs (.map []) (fun _ => none) := ⟨isMap_empty, fun _ => ⟨rfl, fun _ h => by cases h⟩⟩
theorem mapAt_made (w : World) : MapAt (w.alloc (.map #[] 0)) w.heap.size 0 (fun _ => none) := ⟨.map [], World.ownsMap_made w _ _ _, mapIs_empty⟩
theorem MapAt.kept {w w' : World} {b n : Nat} {M : ByteArray → Option Int} {row : Option Nat} (h : MapAt w b n M) (hg : w.grownBy w' row) (hne : some b ≠ row) : MapAt w' b n M := by
  obtain ⟨D, ho, hs⟩ := h
  exact ⟨D, World.ownsMap.kept ho hg hne, hs⟩
theorem ownsMap_below {w w' : World} {k : TypeId} {R : Value → Option (DataW Unit × List MemPlace)} {b n : Nat} {D : DataW Unit} (h : w.ownsMap Tryz.prog k R b n D) (hb : Below w.heap.size w w') : w'.ownsMap Tryz.prog k R b n D :=
  World.ownsMap.kept h (row := none) ⟨hb.os, hb.tape, hb.output, hb.size, fun k hk _ => hb.block k hk⟩ (by simp)
theorem MapAt.below {w w' : World} {b n : Nat} {M : ByteArray → Option Int} (h : MapAt w b n M) (hb : Below w.heap.size w w') : MapAt w' b n M := by
  obtain ⟨D, ho, hs⟩ := h
  exact ⟨D, ownsMap_below ho hb, hs⟩
theorem MapAt.lt {w : World} {b n : Nat} {M : ByteArray → Option Int} (h : MapAt w b n M) : b < w.heap.size := by
  obtain ⟨D, ho, _⟩ := h
  exact World.ownsMap.lt ho
/-- The set D of texts. -/
def SetSIs (D : DataW Unit) (T : ByteArray → Bool) : Prop := IsMap D ∧ ∀ s, Maps.has D (keyS s) = T s
def SetSAt (w : World) (b n : Nat) (T : ByteArray → Bool) : Prop := ∃ D : DataW Unit, w.ownsMap Tryz.prog 9 (unitElem (H := Unit)) b n D ∧ SetSIs D T
def putT (T : ByteArray → Bool) (s : ByteArray) : ByteArray → Bool := fun t => decide (t = s) || T t
theorem SetSIs.put {D : DataW Unit} {T : ByteArray → Bool} (h : SetSIs D T) (s : ByteArray) (u : DataW Unit) : SetSIs (D.put (keyS s) u) (putT T s) := by
  refine ⟨h.1.put _ _, fun t => ?_⟩
  by_cases e : t = s
  · subst e
    rw [Maps.has_put_same h.1 (keyS_lit _)]; simp [putT]
  · rw [Maps.has_put_other (keyS_ne e), h.2 t]; simp [putT, e]
theorem setS_made (w : World) : SetSAt (w.alloc (.map #[] 0)) w.heap.size 0 (fun _ => false) := ⟨.map [], World.ownsMap_made w _ _ _, isMap_empty, fun _ => rfl⟩
theorem SetSAt.kept {w w' : World} {b n : Nat} {T : ByteArray → Bool} {row : Option Nat} (h : SetSAt w b n T) (hg : w.grownBy w' row) (hne : some b ≠ row) : SetSAt w' b n T := by
  obtain ⟨D, ho, hs⟩ := h
  exact ⟨D, World.ownsMap.kept ho hg hne, hs⟩
theorem SetSAt.below {w w' : World} {b n : Nat} {T : ByteArray → Bool} (h : SetSAt w b n T) (hb : Below w.heap.size w w') : SetSAt w' b n T := by
  obtain ⟨D, ho, hs⟩ := h
  exact ⟨D, ownsMap_below ho hb, hs⟩
theorem SetSAt.lt {w : World} {b n : Nat} {T : ByteArray → Bool} (h : SetSAt w b n T) : b < w.heap.size := by
  obtain ⟨D, ho, _⟩ := h
  exact World.ownsMap.lt ho
end Go.Proofs.YtancidbbkoeokaaGreatDoor

/- ListOk by the kinds of the entries so far: plain mathematics. -/
namespace Go.Proofs.YtancidbbkoeokaaGreatDoor
open Go.RowKit

/-- The kind of the first entry with a path. -/
def kindOf (L : List Ent) (p : ByteArray) : Option Int := (L.find? fun e => decide (e.path = p)).map Ent.kind
theorem findFrom_kind (L : List Ent) (p : ByteArray) (i : Nat) : (kindOf L p = none ∧ findFrom L p i = -1) ∨ ∃ (a : Nat) (e : Ent), kindOf L p = some e.kind ∧ findFrom L p i = ((i + a : Nat) : Int) ∧ L[a]? = some e ∧ e.path = p := by
  induction L generalizing i with
  | nil => exact .inl ⟨rfl, rfl⟩
  | cons e L ih =>
    rw [findFrom]
    by_cases h : e.path = p
    · exact .inr ⟨0, e, by simp [kindOf, h], by simp [h], rfl, h⟩
    · rw [if_neg h]
      have hk : kindOf (e :: L) p = kindOf L p := by simp [kindOf, h]
      rw [hk]
      rcases ih (i + 1) with h1 | ⟨a, e', h0, h1, h2, h3⟩
      · exact .inl h1
      · exact .inr ⟨a + 1, e', h0, by rw [h1]; congr 1; omega, by simpa using h2, h3⟩
theorem find_kind (L : List Ent) (p : ByteArray) : (kindOf L p = none ∧ findv L p = -1) ∨ ∃ (a : Nat) (e : Ent), kindOf L p = some e.kind ∧ findv L p = (a : Int) ∧ L[a]? = some e ∧ e.path = p := by
  rcases findFrom_kind L p 0 with h | ⟨a, e, h0, h1, h2, h3⟩
  · exact .inl h
  · exact .inr ⟨a, e, h0, by rw [findv, h1]; simp, h2, h3⟩
theorem fileAt_kind (L : List Ent) (p : ByteArray) : fileAt L p = decide (kindOf L p = some 0) := by
  rcases find_kind L p with ⟨h, h1⟩ | ⟨a, e, h, h1, h2, _⟩
  · rw [fileAt_none h1, h]; simp
  · rw [fileAt_some h1 h2, h]; simp
theorem findFrom_app (L M : List Ent) (p : ByteArray) (i : Nat) : findFrom (L ++ M) p i = if kindOf L p = none then findFrom M p (i + L.length) else findFrom L p i := by
  induction L generalizing i with
  | nil => simp [kindOf]
  | cons e L ih =>
    rw [List.cons_append, findFrom]
    by_cases h : e.path = p
    · simp [kindOf, h, findFrom]
    · have hk : kindOf (e :: L) p = kindOf L p := by simp [kindOf, h]
      rw [if_neg h, ih, hk]
      simp only [List.length_cons, findFrom, if_neg h]
      rw [show i + 1 + L.length = i + (L.length + 1) from by omega]
theorem find_self {L : List Ent} {i : Nat} {e : Ent} (he : L[i]? = some e) : findv L e.path = (i : Int) ↔ kindOf (L.take i) e.path = none := by
  have hlt : i < L.length := (List.getElem?_eq_some_iff.1 he).1
  have hL : L = L.take i ++ (e :: L.drop (i + 1)) := by
    have h1 := (List.getElem?_eq_some_iff.1 he).2
    conv => lhs; rw [← List.take_append_drop i L]
    rw [List.drop_eq_getElem_cons hlt, h1]
  have hl : (L.take i).length = i := by simp; omega
  constructor
  · intro h
    cases hk : kindOf (L.take i) e.path with
    | none => rfl
    | some c =>
      rw [findv, hL, findFrom_app, if_neg (by rw [hk]; simp)] at h
      rcases findFrom_kind (L.take i) e.path 0 with ⟨h0, _⟩ | ⟨a, e', _, h1, h2, _⟩
      · rw [h0] at hk; cases hk
      · have := (List.getElem?_eq_some_iff.1 h2).1
        rw [h1] at h
        omega
  · intro h
    rw [findv]
    conv => lhs; rw [hL]
    rw [findFrom_app, if_pos h, findFrom, if_pos rfl, hl]
    simp
theorem entAtOk_kind {L : List Ent} {i : Nat} {e : Ent} (he : L[i]? = some e) : entAtOk L i e = (entOkv e && decide (kindOf (L.take i) e.path = none) && (if e.kind = 3 then decide (kindOf (L.take i) e.link = some 0) else true)) := by
  rw [entAtOk, fileAt_kind]
  congr 2
  rw [decide_eq_decide]
  exact find_self he
theorem kindOf_snoc {L : List Ent} {i : Nat} {e : Ent} (he : L[i]? = some e) (hk : kindOf (L.take i) e.path = none) : kindOf (L.take (i + 1)) = putM (kindOf (L.take i)) e.path e.kind := by
  have hlt : i < L.length := (List.getElem?_eq_some_iff.1 he).1
  have h1 := (List.getElem?_eq_some_iff.1 he).2
  funext p
  rw [List.take_succ_eq_append_getElem hlt, h1]
  simp only [kindOf, putM, List.find?_append] at hk ⊢
  by_cases h : p = e.path
  · subst h
    simp at hk
    have : List.find? (fun e' => decide (e'.path = e.path)) (List.take i L) = none := by
      rw [List.find?_eq_none]
      intro x hx
      simpa using hk x hx
    simp [this]
  · have h' : ¬ e.path = p := fun x => h x.symm
    simp [h, h']
theorem kindOf_zero (L : List Ent) : kindOf (L.take 0) = fun _ => none := by
  funext p; simp [kindOf]
theorem entOk_kind (e : Ent) (h : entOkv e = true) : -9223372036854775808 ≤ e.kind ∧ e.kind ≤ 9223372036854775807 := by
  simp only [entOkv, Bool.and_eq_true] at h
  have h2 := h.2
  unfold kindOk at h2
  split at h2
  · omega
  · split at h2
    · omega
    · split at h2
      · omega
      · split at h2
        · omega
        · cases h2
end Go.Proofs.YtancidbbkoeokaaGreatDoor

/- Contract of impl.ListOk. -/
namespace Go.Proofs.YtancidbbkoeokaaGreatDoor
open Go.ChangeShapes Go.WideShapes Go.ChangeAt Go.RowKit Go.Deep Go.Maps

theorem listOk_long {L : List Ent} (h : 30 < L.length) : listOkv L = false := by
  rw [listOkv, decide_eq_false (by omega)]; simp
set_option maxHeartbeats 1600000 in
theorem listOk_impl (L : List Ent) (n g cap : Nat) (w : World) (hn : n = L.length) (hm : n ≤ 4194304) (hg : g < w.heap.size) (hsm : SmallL L) (h1 : RowE w g L) :
    Calls Tryz.prog 15 #[.slice (some ⟨g, 0, none⟩) n cap] w fun e w' => e = .returned (.bool (listOkv L)) ∧ Below w.heap.size w w' := by
  have H1 := Lib.hid h1
  have HG : Hid (∀ i, i < n → ∃ e, L[i]? = some e ∧ esz e ≤ 4194304) := Lib.hid (fun i hi => by obtain ⟨e, he⟩ := getE' (L := L) (i := i) (by omega); exact ⟨e, he, hsm.get he⟩)
  have HBad : Hid (∀ i e, L[i]? = some e → entAtOk L i e = false → listOkv L = false) := Lib.hid (fun i e he hk => listOk_bad he hk)
  have HDone : Hid (OksTo L n → n ≤ 30 → listOkv L = true) := Lib.hid (by rw [hn]; intro h h2; rw [listOk_done h]; simpa using h2)
  have HLong : Hid (30 < n → listOkv L = false) := Lib.hid (by rw [hn]; exact listOk_long)
  generalize listOkv L = r at HBad HDone HLong
  clear h1 hn hsm
  by_cases h30 : 30 < n
  · have h30' : (30 : Int) < (n : Int) := by omega
    have HX := Lib.hid (HLong.out h30)
    go_enter Tryz.func15, Tryz.ntmps15
    go_wp2_with fail
    go_ret
    exact ⟨ret_bool HX.out.symm, Below.refl _ _⟩
  have h30' : ¬ (30 : Int) < (n : Int) := by omega
  have hmm := @run_makeMap Tryz.prog
  go_enter Tryz.func15, Tryz.ntmps15
  go_wp2_with fail
  go_loopw [5, 6, 7, 8, 9, 16] (fun _ _ _ _ _ u wr => ∃ i : Nat, u = .int .i64 i ∧ i ≤ n ∧ OksTo L i ∧ MapAt wr w.heap.size i (kindOf (L.take i)) ∧ Below w.heap.size w wr) (fun _ _ _ _ _ u _ => n - (intOf u).toNat)
  case atStart => exact ⟨0, rfl, Nat.zero_le _, fun j hj => by omega, by rw [kindOf_zero]; exact mapAt_made w, (Below.refl _ _).alloc (Nat.le_refl _) _⟩
  case round =>
    obtain ⟨i, rfl, hi, hr, hmap, hb⟩ := hrel
    have HR := Lib.hid hr
    have B := Lib.hid hb
    have HMp := Lib.hid hmap
    have zm := hmap.lt
    clear hr hb hmap hmm
    by_cases hlt : i < n
    · have hlt2 : (i : Int) < (n : Int) := by omega
      obtain ⟨e, he, hz⟩ := HG.out i hlt
      have R := Lib.hid (H1.out.below B.out hg)
      obtain ⟨c0, c1, c2, c3, c4, c5, c6, c7, c8, c9⟩ := R.out.ten he
      have HBi := Lib.hid (HBad.out i e he)
      have HSi := Lib.hid (fun hk => HR.out.step he hk)
      have HA := Lib.hid (entAtOk_kind he)
      have HK := Lib.hid (fun h => kindOf_snoc he h)
      clear he HBad HG HR
      have hsz := small_parts hz
      generalize kindOf (L.take i) = M at HMp HA HK
      obtain ⟨k, p, l, m, u, g0, t, us, gr, b⟩ := e
      have HO := Lib.hid (fun w => entryOk_impl k p l m u g0 t us gr b w hsz.1 hsz.2.1 hsz.2.2.1 hsz.2.2.2.1)
      dsimp only at hsz
      have kp : p.size ≤ maxLen := by have := hsz.1; simp only [maxLen]; omega
      have kl : l.size ≤ maxLen := by have := hsz.2.1; simp only [maxLen]; omega
      have HKd := Lib.hid (entOk_kind ⟨k, p, l, m, u, g0, t, us, gr, b⟩)
      generalize entAtOk L i ⟨k, p, l, m, u, g0, t, us, gr, b⟩ = ra at HA HBi HSi
      generalize entOkv ⟨k, p, l, m, u, g0, t, us, gr, b⟩ = b1 at HA HO HKd
      dsimp only at HA HK HKd
      clear hsz hz
      have zr : g < wr.heap.size := by have := B.out.size; omega
      obtain ⟨D, ho, hD⟩ := HMp.out
      have OM := Lib.hid ho
      have HD := Lib.hid hD
      clear ho hD HMp
      have HP := Lib.hid (HD.out.2 p).1
      have HLk := Lib.hid (HD.out.2 l)
      cases hp : M p with
      | some x =>
        have hh : Maps.has D (keyS p) = true := by rw [HP.out, hp]; rfl
        have HX : Hid (r = false) := Lib.hid (HBi.out (by rw [HA.out, hp]; simp))
        clear HA HK HP HLk HBi HSi HO HD hp
        go_wp2_with (at_lookup; refine wpList_lookup_own_ok_int _ rfl _ _ 62 rfl 9 3 .i64 lawS Tryz.underlying62 Tryz.underlying3 (zeroN _) w.heap.size i D rfl (OM.out.alloc _) _ _ rfl (key_of kp) ?_; intro c _ _)
        go_ret
        exact ⟨ret_bool HX.out.symm, B.out.alloc B.out.size _⟩
      | none =>
        have hh : Maps.has D (keyS p) = false := by rw [HP.out, hp]; rfl
        have HN := Lib.hid (HK.out hp)
        have HA2 : Hid (ra = (b1 && (if k = 3 then decide (M l = some 0) else true))) := Lib.hid (by rw [HA.out, hp]; simp)
        clear HA HK HP hp
        go_wp2_with (at_lookup; refine wpList_lookup_own_ok_int _ rfl _ _ 62 rfl 9 3 .i64 lawS Tryz.underlying62 Tryz.underlying3 (zeroN _) w.heap.size i D rfl (OM.out.alloc _) _ _ rfl (key_of kp) ?_; intro c _ _)
        refine (HO.out _).mono ?_
        rintro e w1 ⟨rfl, hb⟩
        have O1 := Lib.hid (ownsMap_below (OM.out.alloc _) hb)
        obtain ⟨k1, bb, z1⟩ := one_new (e1 := ⟨k, p, l, m, u, g0, t, us, gr, b⟩) hb
        have E1 := Lib.hid k1
        have B1 := Lib.hid (btE B.out bb)
        clear hb k1 bb c0 c1 c2 c3 c4 c5 c6 c7 c8 c9 R B HO OM hh
        obtain ⟨c0, c1, c2, c3, c4, c5, c6, c7, c8, c9⟩ := E1.out.zero
        have hsz1 := B1.out.size
        cases b1 with
        | false =>
          go_wp2_with fail
          go_ret
          exact ⟨ret_bool (HBi.out (by rw [HA2.out]; simp)).symm, B1.out⟩
        | true =>
          by_cases hk : k = 3
          · subst hk
            cases hl : M l with
            | none =>
              have hh : Maps.has D (keyS l) = false := by rw [HLk.out.1, hl]; rfl
              have HX : Hid (r = false) := Lib.hid (HBi.out (by rw [HA2.out, hl]; simp))
              clear HA2 HBi HSi HLk hl HN
              go_wp2_with (at_lookup; refine wpList_lookup_own_ok_int _ rfl _ _ 62 rfl 9 3 .i64 lawS Tryz.underlying62 Tryz.underlying3 (zeroN _) w.heap.size i D rfl O1.out _ _ rfl (key_of kl) ?_; intro c' _ _)
              go_ret
              exact ⟨ret_bool HX.out.symm, B1.out⟩
            | some x =>
              have hh : Maps.has D (keyS l) = true := by rw [HLk.out.1, hl]; rfl
              have HT := Lib.hid (HLk.out.2 x hl)
              by_cases hx : x = 0
              · subst hx
                have HS := Lib.hid (HSi.out (by rw [HA2.out, hl]; simp))
                clear HA2 HBi HSi HLk hl
                go_wp2_with (first | (at_lookup; refine wpList_lookup_own_ok_int _ rfl _ _ 62 rfl 9 3 .i64 lawS Tryz.underlying62 Tryz.underlying3 (zeroN _) w.heap.size i D rfl O1.out _ _ rfl (key_of kl) ?_; intro c' hat _; obtain rfl : c' = 0 := (by have := hat.symm.trans HT.out; simpa using this); clear hat) | (at_mapUpdate; refine wpList_mapUpdate_own _ rfl _ _ _ 62 rfl 9 3 lawS Tryz.underlying62 _ w.heap.size i D rfl O1.out (by simp only [maxLen]; omega) _ _ _ rfl rfl (key_of kp) _ [] (plainElem_int Tryz.underlying3 (by decide)) ?_; intro w2 hown2 hgrow2))
                have HM2 : Hid (MapAt w2 w.heap.size (i + 1) (kindOf (L.take (i + 1)))) := Lib.hid (by rw [HN.out]; exact ⟨_, hown2, HD.out.put p 3⟩)
                have B2 : Hid (Below w.heap.size w w2) := Lib.hid (B1.out.grown hgrow2 hsz1 (fun b hb => by cases hb; exact Nat.le_refl _))
                clear hown2 hgrow2 HN HT hh
                go_wp2_with fail
                go_roundw
                case rel => exact ⟨i + 1, by go_num, by omega, HS.out, HM2.out, B2.out⟩
                case measure => simp [intOf]; omega
              · have HX : Hid (r = false) := Lib.hid (HBi.out (by rw [HA2.out, hl]; simp [hx]))
                have hx2 : (x != 0) = true := by simpa using hx
                clear HA2 HBi HSi HLk hl HN hx
                go_wp2_with (at_lookup; refine wpList_lookup_own_ok_int _ rfl _ _ 62 rfl 9 3 .i64 lawS Tryz.underlying62 Tryz.underlying3 (zeroN _) w.heap.size i D rfl O1.out _ _ rfl (key_of kl) ?_; intro c' hat _; obtain rfl : c' = x := (by have := hat.symm.trans HT.out; simpa using this); clear hat)
                go_ret
                exact ⟨ret_bool HX.out.symm, B1.out⟩
          · have HS := Lib.hid (HSi.out (by rw [HA2.out]; simp [hk]))
            have hk2 : (k == 3) = false := by simpa using hk
            have hk3 : decide (k = 3) = false := by simpa using hk
            have hwk : (Lit.int .i64 k).wf = true := WalkArith.wf_i64 (HKd.out rfl)
            clear HA2 HBi HSi HLk hk
            go_wp2_with (first | (at_lookup; refine wpList_lookup_own_ok_int _ rfl _ _ 62 rfl 9 3 .i64 lawS Tryz.underlying62 Tryz.underlying3 (zeroN _) w.heap.size i D rfl O1.out _ _ rfl (key_of kl) ?_; intro c' _ _) | (at_mapUpdate; refine wpList_mapUpdate_own _ rfl _ _ _ 62 rfl 9 3 lawS Tryz.underlying62 _ w.heap.size i D rfl O1.out (by simp only [maxLen]; omega) _ _ _ rfl rfl (key_of kp) _ [] (plainElem_int Tryz.underlying3 hwk) ?_; intro w2 hown2 hgrow2))
            have HM2 : Hid (MapAt w2 w.heap.size (i + 1) (kindOf (L.take (i + 1)))) := Lib.hid (by rw [HN.out]; exact ⟨_, hown2, HD.out.put p k⟩)
            have B2 : Hid (Below w.heap.size w w2) := Lib.hid (B1.out.grown hgrow2 hsz1 (fun b hb => by cases hb; exact Nat.le_refl _))
            clear hown2 hgrow2 HN
            go_wp2_with fail
            go_roundw
            case rel => exact ⟨i + 1, by go_num, by omega, HS.out, HM2.out, B2.out⟩
            case measure => simp [intOf]; omega
    · obtain rfl : i = n := by omega
      have hlt2 : ¬ (i : Int) < (i : Int) := by omega
      have HFin := Lib.hid (HDone.out HR.out (by omega))
      go_wp2_with fail
      go_ret
      exact ⟨ret_bool HFin.out.symm, B.out⟩
end Go.Proofs.YtancidbbkoeokaaGreatDoor

/- Contract of impl.GetUstar. -/
namespace Go.Proofs.YtancidbbkoeokaaGreatDoor
open Go.RowKit Go.Shelf Go.ChangeShapes Go.WideShapes Go.ChangeAt

attribute [local go_sem] Oper.semAt_some

def hdY (x : Yd) : Array Value := if x.c = 0 then #[.int .i64 x.e.kind, .string x.e.path, .string x.e.link, .int .i64 x.e.mode, .int .i64 x.e.uid, .int .i64 x.e.gid, .int .i64 x.e.time, .string x.e.user, .string x.e.group, .string x.e.body, .string x.fl, .int .i64 x.z] else zHead
def errY (x : Yd) : Value := if x.c = 0 then .nilIface else .iface 58 (.agg #[.int .i64 x.c])
def preY (xs : List Yd) : List Yd := xs.dropLast
def lastY (xs : List Yd) : Int := match xs.getLast? with | some x => x.c | none => 0
theorem preY_app (xs : List Yd) (x : Yd) : preY (xs ++ [x]) = xs := by simp [preY]
theorem lastY_app (xs : List Yd) (x : Yd) : lastY (xs ++ [x]) = x.c := by simp [lastY]
/-- What a round finds: the list so far in its box, the boxes of the results as they were made. -/
def UI (n0 : Nat) (T : TypeId) (w : World) (pre : List Yd) (W : World) : Prop :=
  ((allG pre ∧ ∃ v, Boxed W (n0 + 3) 22 v ∧ W.ownsRow n0 32 10 v pre.length (entVals (entsY pre)) ∧ ∃ g n c, v = .slice (some ⟨g, 0, none⟩) n c) ∧ (Boxed W n0 22 (.slice none 0 0) ∧ Boxed W (n0 + 1) 3 (.int .i64 0) ∧ Boxed W (n0 + 5) T (.func (.func 13) #[] #[]))) ∧ (Below n0 w W ∧ n0 + 6 ≤ W.heap.size)
/-- What a round leaves that ends the call. -/
def UX (n0 : Nat) (w : World) (c : Code) (xs : List Yd) (W : World) : Prop :=
  (((c = .ret ∧ ∃ pre x, xs = pre ++ [x] ∧ ¬ x.c = 0) ∧ ∃ v, Boxed W n0 22 v ∧ W.ownsRow n0 32 10 v (preY xs).length (entVals (entsY (preY xs))) ∧ ∃ g n c, v = .slice (some ⟨g, 0, none⟩) n c) ∧ Boxed W (n0 + 1) 3 (.int .i64 (lastY xs))) ∧ Below n0 w W
theorem ui_from (n0 B : Nat) (T : TypeId) (w : World) (h1 : n0 ≤ B) (h2 : n0 ≤ w.heap.size) : OwnFrom B (UI n0 T w) :=
  OwnFrom.and (OwnFrom.and (OwnFrom.and (ownFrom_pure _ _) (Own.from (holdsRow_own n0 (n0 + 3) 22 32 10 (fun pre => pre.length) (fun pre => entVals (entsY pre)) (fun _ v => ∃ g n c, v = .slice (some ⟨g, 0, none⟩) n c)) _)) (OwnFrom.and (Own.from (boxed_own _ _ (fun _ => .slice none 0 0)) _) (OwnFrom.and (Own.from (boxed_own _ _ (fun _ => .int .i64 0)) _) (Own.from (boxed_own _ _ (fun _ => .func (.func 13) #[] #[])) _)))) (OwnFrom.and (ownFrom_below h2 (by omega)) (fun _ _ _ _ hs hg _ => Nat.le_trans hs hg.size))
theorem ux_from (n0 B : Nat) (w : World) (h1 : n0 ≤ B) (h2 : n0 ≤ w.heap.size) (c : Code) : OwnFrom B (UX n0 w c) :=
  OwnFrom.and (OwnFrom.and (OwnFrom.and (ownFrom_pure _ _) (Own.from (holdsRow_own n0 n0 22 32 10 (fun xs => (preY xs).length) (fun xs => entVals (entsY (preY xs))) (fun _ v => ∃ g n c, v = .slice (some ⟨g, 0, none⟩) n c)) _)) (Own.from (boxed_own _ _ (fun xs => .int .i64 (lastY xs))) _)) (ownFrom_below h2 (by omega))
theorem cells_newU (w : World) (e : Ent) (t : TypeId) : ∀ j u, e.cells[j]? = some u → (w.alloc (.cells e.cells.toArray t)).cell? ((⟨w.heap.size, 0, none⟩ : Addr).add j) = some u := by
  intro j u hu
  have h := World.alloc_heap_new w (.cells e.cells.toArray t)
  rw [Addr.add_lit, Nat.zero_add]
  simp only [World.cell?, h]
  simpa using hu
theorem boxZ {W wz : World} {b : Nat} {t : TypeId} {v : Value} (hbz : Below W.drew.heap.size W.drew wz) (h : Boxed W b t v) : Boxed wz b t v := (hbz.block b h.lt).trans h
theorem boxY {W wz : World} {b : Nat} {t : TypeId} {v : Value} (hbz : Below W.heap.size W wz) (h : Boxed W b t v) : Boxed wz b t v := (hbz.block b h.lt).trans h
/-- The end of the call: both results stored, the deferred calls taken. -/
theorem ust_end {w wz : World} {L : List Ent} {n gv cv D : Nat} (hn : n = L.length) (h0 : Boxed wz w.heap.size 22 (.slice none 0 0)) (h1 : Boxed wz (w.heap.size + 1) 3 (.int .i64 0))
    (hr : wz.ownsRow w.heap.size 32 10 (.slice (some ⟨gv, 0, none⟩) n cv) n (entVals L)) (hK : wz.heap[D]? = some (.deferred (some []))) (hB : Below w.heap.size w wz) (hD : w.heap.size + 2 ≤ D) (c : Int) :
    (((wz.setCell ⟨w.heap.size, 0, none⟩ (.slice (some ⟨gv, 0, none⟩) n cv)).setCell ⟨w.heap.size + 1, 0, none⟩ (.int .i64 c)).heap[D]? = some (.deferred (some []))) ∧
    OwnE (((wz.setCell ⟨w.heap.size, 0, none⟩ (.slice (some ⟨gv, 0, none⟩) n cv)).setCell ⟨w.heap.size + 1, 0, none⟩ (.int .i64 c)).putObj D (.deferred none)) w.heap.size (.slice (some ⟨gv, 0, none⟩) n cv) L ∧
    Below w.heap.size w (((wz.setCell ⟨w.heap.size, 0, none⟩ (.slice (some ⟨gv, 0, none⟩) n cv)).setCell ⟨w.heap.size + 1, 0, none⟩ (.int .i64 c)).putObj D (.deferred none)) ∧
    (((wz.setCell ⟨w.heap.size, 0, none⟩ (.slice (some ⟨gv, 0, none⟩) n cv)).setCell ⟨w.heap.size + 1, 0, none⟩ (.int .i64 c)).putObj D (.deferred none)).cell? ⟨w.heap.size, 0, none⟩ = some (.slice (some ⟨gv, 0, none⟩) n cv) ∧
    (((wz.setCell ⟨w.heap.size, 0, none⟩ (.slice (some ⟨gv, 0, none⟩) n cv)).setCell ⟨w.heap.size + 1, 0, none⟩ (.int .i64 c)).putObj D (.deferred none)).cell? ⟨w.heap.size + 1, 0, none⟩ = some (.int .i64 c) := by
  have b0' := h0.set (.slice (some ⟨gv, 0, none⟩) n cv)
  have r2 := hr.kept (grownBy_setCell' wz w.heap.size (.slice (some ⟨gv, 0, none⟩) n cv)) (.inr (h0.not_row (by decide) hr).symm)
  have b1' := h1.other (B' := w.heap.size) (by omega) (.slice (some ⟨gv, 0, none⟩) n cv)
  have r3 := r2.kept (grownBy_setCell' _ (w.heap.size + 1) (.int .i64 c)) (.inr (b1'.not_row (by decide) r2).symm)
  have b0s := b0'.other (B' := w.heap.size + 1) (by omega) (.int .i64 c)
  have b1s := b1'.set (.int .i64 c)
  have hK' := (KeepsOthers.setCell _ ⟨w.heap.size + 1, 0, none⟩ (.int .i64 c)).same D _ ((KeepsOthers.setCell wz ⟨w.heap.size, 0, none⟩ (.slice (some ⟨gv, 0, none⟩) n cv)).same D _ hK rfl) rfl
  have hBs := (hB.setCell (p := ⟨w.heap.size, 0, none⟩) (Nat.le_refl _) (.slice (some ⟨gv, 0, none⟩) n cv)).setCell (p := ⟨w.heap.size + 1, 0, none⟩) (by simp) (.int .i64 c)
  refine ⟨hK', ⟨?_, gv, cv, by rw [hn]⟩, hBs.trans (belowK_b (w := w) (Nat.le_refl _) _ D _ _ (by omega) hK' rfl rfl), ?_, ?_⟩
  · rw [← hn]; exact ownsRow_putObj r3 _ hK' rfl
  · exact cell_kept b0s.cell (grownBy_putObj' _ D (.deferred none)) (fun r e => by cases e; exact ⟨_, hK', rfl⟩)
  · exact cell_kept b1s.cell (grownBy_putObj' _ D (.deferred none)) (fun r e => by cases e; exact ⟨_, hK', rfl⟩)
/-- The boxes as they lie ahead of the loop. -/
def wU (w : World) (s : ByteArray) (T : TypeId) : World := (((((w.alloc (.cells #[.slice none 0 0] 22)).alloc (.cells #[.int .i64 0] 3)).alloc (.cells #[] 32)).alloc (.cells #[.slice (some ⟨w.heap.size + 1 + 1, 0, none⟩) 0 0] 22)).alloc (.cells #[.string s] 9)).alloc (.cells #[.func (.func 13) #[] #[]] T)
theorem push6 (h : Array Obj) (a b c d e f : Obj) (k : Nat) (o : Obj) (ho : #[a, b, c, d, e, f][k]? = some o) : ((((((h.push a).push b).push c).push d).push e).push f)[h.size + k]? = some o := by
  have e1 : ((((((h.push a).push b).push c).push d).push e).push f) = h ++ #[a, b, c, d, e, f] := by apply Array.ext'; simp
  rw [e1, Array.getElem?_append_right (by omega), show h.size + k - h.size = k from by omega]
  exact ho
theorem heapU (w : World) (s : ByteArray) (T : TypeId) : (wU w s T).heap = (((((w.heap.push (.cells #[.slice none 0 0] 22)).push (.cells #[.int .i64 0] 3)).push (.cells #[] 32)).push (.cells #[.slice (some ⟨w.heap.size + 1 + 1, 0, none⟩) 0 0] 22)).push (.cells #[.string s] 9)).push (.cells #[.func (.func 13) #[] #[]] T) := rfl
theorem wU_facts (w : World) (s : ByteArray) (T : TypeId) : (wU w s T).heap.size = w.heap.size + 6 ∧ Boxed (wU w s T) w.heap.size 22 (.slice none 0 0) ∧ Boxed (wU w s T) (w.heap.size + 1) 3 (.int .i64 0) ∧ Boxed (wU w s T) (w.heap.size + 3) 22 (.slice (some ⟨w.heap.size + 2, 0, none⟩) 0 0) ∧
    (wU w s T).ownsRow w.heap.size 32 10 (.slice (some ⟨w.heap.size + 2, 0, none⟩) 0 0) 0 [] ∧ (wU w s T).heap[w.heap.size + 4]? = some (.cells #[.string s] 9) ∧ (wU w s T).heap[w.heap.size + 5]? = some (.cells #[.func (.func 13) #[] #[]] T) ∧ Below w.heap.size w (wU w s T) := by
  refine ⟨by rw [heapU]; simp, ?_, ?_, ?_, ⟨rfl, .inr ⟨w.heap.size + 2, 0, #[], rfl, by omega, ?_, Nat.le_refl _, by simp [maxLen], rfl, rfl⟩⟩, ?_, ?_, ?_⟩
  · unfold Boxed; exact (push6 w.heap _ _ _ _ _ _ 0 _ rfl)
  · unfold Boxed; exact (push6 w.heap _ _ _ _ _ _ 1 _ rfl)
  · unfold Boxed; exact (push6 w.heap _ _ _ _ _ _ 3 _ rfl)
  · exact (push6 w.heap _ _ _ _ _ _ 2 _ rfl)
  · exact (push6 w.heap _ _ _ _ _ _ 4 _ rfl)
  · exact (push6 w.heap _ _ _ _ _ _ 5 _ rfl)
  · exact ((((((Below.refl _ w).alloc (Nat.le_refl _) _).alloc (by simp) _).alloc (by simp; omega) _).alloc (by simp; omega) _).alloc (by simp; omega) _).alloc (by simp; omega) _
set_option maxRecDepth 100000 in
set_option maxHeartbeats 1600000 in
theorem getUstar_impl (s : ByteArray) (w : World) (hs : s.size ≤ 1048576) (hT : Tabs w) (hF : FW w) (hH : Handle w) :
    Calls Tryz.prog 5 #[.string s] w fun e w' => ∃ v, e = .returned (.tuple #[v, .int .i64 (ustV s).2]) ∧ OwnE w' w.heap.size v (ustV s).1 ∧ Below w.heap.size w w' := by
  refine (callsIn_wide (n := 6)).1 ?_
  have HS := Lib.hid hs
  obtain ⟨i0, hi0, hz0, hz1, hz2⟩ := info_parts Tryz.infoE
  refine callsIn_of_wp_marks Tryz.func5 rfl trivial ?_ rfl
  simp only [Tryz.ntmps5, List.size_toArray, List.length_cons, List.length_nil, Nat.reduceAdd, Nat.reduceSub, Array.replicate_succ, Array.replicate_zero, List.push_toArray, List.append_toArray, List.nil_append, List.cons_append]
  gi_wp2_with fail
  refine ⟨trivial, (members_make _ _ _).mono ?_⟩
  rintro e w2 ⟨rfl, T, hTn, rfl⟩
  gi_wp2_with fail
  simp only [Nat.add_assoc, Nat.reduceAdd]
  obtain ⟨hs6, b0, b1, b3, hrow0, c4, c5, B6⟩ := wU_facts w s T
  change Code.wpIn _ _ _ _ _ _ (wU w s T)
  have HH := Lib.hid hH
  generalize wU w s T = w6 at hs6 b0 b1 b3 hrow0 c4 c5 B6 ⊢
  have c4' : w6.cell? ⟨w.heap.size + 4, 0, none⟩ = some (.string s) := by simp [World.cell?, c4]
  have c5' : w6.cell? ⟨w.heap.size + 5, 0, none⟩ = some (.func (.func 13) #[] #[]) := by simp [World.cell?, c5]
  have UI0 : UI w.heap.size T w [] w6 := ⟨⟨⟨fun x hx => (by cases hx), _, b3, hrow0, _, _, _, rfl⟩, b0, b1, c5⟩, B6, by omega⟩
  have hTy := Lib.hid hTn
  clear b0 b1 b3 hrow0 c4 hTn hH
  refine wpIn_rangeFunc_ownH rfl (by omega) (gf := 24) (lb := #[.pointer (some ⟨w.heap.size + 4, 0, none⟩), .pointer (some ⟨w.heap.size + 5, 0, none⟩)]) rfl trivial (enters_of Tryz.func24 (by kernel_rfl) rfl)
    (members_stops _ (w.heap.size + 4) (w.heap.size + 5) w.heap.size s w w6 HS.out hT hF rfl B6 (by omega) (by omega) c4' c5') KpU.trans (KpU.book (by omega) (by omega)) (Below.refl _ _) (fun x => encY_size x)
    (UI w.heap.size T w) (UX w.heap.size w) (ui_from _ _ _ _ (by omega) (Nat.le_refl _)) (ux_from _ _ _ (by omega) (Nat.le_refl _)) UI0
    (fun x a' W => ∃ g5, W.heap[g5]? = some (.cells (hdY x) 40 (0, 0)) ∧ a' = { tmps := #[.string s, undef, .pointer (some ⟨w.heap.size, 0, none⟩), .pointer (some ⟨w.heap.size + 1, 0, none⟩), .pointer (some ⟨w.heap.size + 3, 0, none⟩), .pointer (some ⟨g5, 0, none⟩), errY x, .slice (some ⟨w.heap.size + 2, 0, none⟩) 0 0, .string s, .func (.func 24) #[] #[.pointer (some ⟨w.heap.size + 4, 0, none⟩), .pointer (some ⟨w.heap.size + 5, 0, none⟩)], .agg (hdY x), errY x, undef, undef, undef, undef, undef, undef, undef, undef, undef, undef, undef, undef, undef, undef, undef], defers := [] }) ?hax ?assign ?body ?done ?stop
  case hax =>
    rintro x a' _ X Y row ⟨g5, h2, h3⟩ hg hr
    refine ⟨g5, (hg.block g5 (Array.getElem?_eq_some_iff.1 h2).1 (fun e => ?_)).trans h2, h3⟩
    obtain ⟨_, o, ho, hc⟩ := hr g5 e.symm
    rw [h2] at ho
    cases ho
    cases hc
  case assign =>
    intro l pre x W K hI hK
    have hsz : w.heap.size + 6 ≤ W.heap.size := hI.2.2
    have hI2 := fun o => (ui_from w.heap.size w6.heap.size T w (by omega) (Nat.le_refl _)).alloc o hI
    have hKp : ∀ o, KpU w.heap.size (w.heap.size + 5) W (W.alloc o) := fun o => ⟨(Below.refl _ _).alloc (by omega) _, Below.heap_alloc _ _ _ (by omega)⟩
    have hKf : ∀ o, KeepsFrom w6.heap.size W (W.alloc o) := fun o => (KeepsOthers.alloc W o).from _
    by_cases hc : x.c = 0
    · have e1 : encY x = #[.agg #[.int .i64 x.e.kind, .string x.e.path, .string x.e.link, .int .i64 x.e.mode, .int .i64 x.e.uid, .int .i64 x.e.gid, .int .i64 x.e.time, .string x.e.user, .string x.e.group, .string x.e.body, .string x.fl, .int .i64 x.z], .nilIface] := if_pos hc
      have e2 : hdY x = #[.int .i64 x.e.kind, .string x.e.path, .string x.e.link, .int .i64 x.e.mode, .int .i64 x.e.uid, .int .i64 x.e.gid, .int .i64 x.e.time, .string x.e.user, .string x.e.group, .string x.e.body, .string x.fl, .int .i64 x.z] := if_pos hc
      have e3 : errY x = .nilIface := if_pos hc
      rw [e1]
      gi_wp2_with fail
      refine hK _ _ (hKf _) (hKp _) (hI2 _) ⟨W.heap.size, ?_, ?_⟩
      · rw [e2]; exact World.alloc_heap_new _ _
      · rw [e2, e3]
    · have e1 : encY x = #[.agg zHead, .iface 58 (.agg #[.int .i64 x.c])] := if_neg hc
      have e2 : hdY x = zHead := if_neg hc
      have e3 : errY x = .iface 58 (.agg #[.int .i64 x.c]) := if_neg hc
      rw [e1]
      unfold zHead at e2 ⊢
      gi_wp2_with fail
      refine hK _ _ (hKf _) (hKp _) (hI2 _) ⟨W.heap.size, ?_, ?_⟩
      · rw [e2]; exact World.alloc_heap_new _ _
      · rw [e2, e3]
  case body =>
    rintro l pre x a' W hl hrec hI ⟨g5, hg5, rfl⟩ hlt
    obtain ⟨⟨⟨hall, v, hbx, hrow, gv, nv, cv, rfl⟩, hb0, hb1, hb5⟩, hB, hsz⟩ := hI
    have hcv := hbx.cell
    have hpl : pre.length ≤ 1048577 := by have := HS.out; omega
    by_cases hc : x.c = 0
    · have e2 : hdY x = #[.int .i64 x.e.kind, .string x.e.path, .string x.e.link, .int .i64 x.e.mode, .int .i64 x.e.uid, .int .i64 x.e.gid, .int .i64 x.e.time, .string x.e.user, .string x.e.group, .string x.e.body, .string x.fl, .int .i64 x.z] := if_pos hc
      have e3 : errY x = .nilIface := if_pos hc
      rw [e2] at hg5 ⊢
      rw [e3]
      have d0 : W.cell? ⟨g5, 0, none⟩ = some (.int .i64 x.e.kind) := by simp [World.cell?, hg5]
      have d1 : W.cell? ⟨g5, 1, none⟩ = some (.string x.e.path) := by simp [World.cell?, hg5]
      have d2 : W.cell? ⟨g5, 2, none⟩ = some (.string x.e.link) := by simp [World.cell?, hg5]
      have d3 : W.cell? ⟨g5, 3, none⟩ = some (.int .i64 x.e.mode) := by simp [World.cell?, hg5]
      have d4 : W.cell? ⟨g5, 4, none⟩ = some (.int .i64 x.e.uid) := by simp [World.cell?, hg5]
      have d5 : W.cell? ⟨g5, 5, none⟩ = some (.int .i64 x.e.gid) := by simp [World.cell?, hg5]
      have d6 : W.cell? ⟨g5, 6, none⟩ = some (.int .i64 x.e.time) := by simp [World.cell?, hg5]
      have d7 : W.cell? ⟨g5, 7, none⟩ = some (.string x.e.user) := by simp [World.cell?, hg5]
      have d8 : W.cell? ⟨g5, 8, none⟩ = some (.string x.e.group) := by simp [World.cell?, hg5]
      have d9 : W.cell? ⟨g5, 9, none⟩ = some (.string x.e.body) := by simp [World.cell?, hg5]
      have n0b := hb0.not_row (by decide) hrow
      have n1b := hb1.not_row (by decide) hrow
      gi_wp2_with (gi_at_builtin; refine wpListIn_append_own _ rfl _ _ 22 rfl w.heap.size 32 i0 (.agg #[.int .i64 0, .string ⟨#[]⟩, .string ⟨#[]⟩, .int .i64 0, .int .i64 0, .int .i64 0, .int .i64 0, .string ⟨#[]⟩, .string ⟨#[]⟩, .string ⟨#[]⟩]) 10 120 Tryz.underlying22 hi0 hz0 hz1 hz2 rfl (by decide) _ _ _ rfl (hrow.alloc _) ⟨W.heap.size, 0, none⟩ 1 1 x.e.cells rfl rfl ?c1 ?c2 ?c3 ?c4 ?c5 ?_)
      case c1 => exact cells_newU _ _ _
      case c2 => intro u hu; simp only [Ent.cells, List.mem_cons, List.mem_nil_iff, or_false] at hu; rcases hu with rfl | rfl | rfl | rfl | rfl | rfl | rfl | rfl | rfl | rfl <;> rfl
      case c3 => simp only [maxLen]; omega
      case c4 => omega
      case c5 => simp; omega
      intro v' w1 hown' hgrow _
      obtain ⟨g', cap', rfl⟩ : ∃ g cap, v' = .slice (some ⟨g, 0, none⟩) (pre.length + 1) cap := by
        rcases hown'.2 with ⟨_, h0⟩ | ⟨g, cap, _, h0, _⟩
        · omega
        · exact ⟨g, cap, h0⟩
      obtain ⟨hv1, hv2, hr2, hk2, hb2⟩ := hbx.appended (by decide) hrow hB.size (by omega) hown' hgrow
      have hc1 := hv1.cell
      have hf1 := hv1.frozen
      have hkeep : ∀ b u, b ≠ w.heap.size + 3 → b < W.heap.size → some b ≠ (Value.slice (some ⟨gv, 0, none⟩) nv cv).ownBlock → (w1.setCell ⟨w.heap.size + 3, 0, none⟩ u).heap[b]? = W.heap[b]? := fun b u h1 h2 h3 => by
        rw [Below.heap_setCell _ _ _ _ (by simp; omega), hgrow.block b (by simp; omega) h3, Below.heap_alloc _ _ _ h2]
      have n5b := hb5.not_row hTy.out hrow
      gi_wp2_with fail
      refine ⟨hk2.from _, ⟨hb2, hkeep _ _ (by omega) (by omega) n5b⟩, ⟨⟨allG_app hall hc, _, hv2, ?_, _, _, _, rfl⟩, (hkeep _ _ (by omega) (by omega) n0b).trans hb0, (hkeep _ _ (by omega) (by omega) n1b).trans hb1, (hkeep _ _ (by omega) (by omega) n5b).trans hb5⟩, hB.trans hb2, Nat.le_trans hsz ?_⟩
      · rw [entsY_app, entVals_app, entVals_one, List.length_append]
        exact hr2
      · have := hgrow.size
        simp at this ⊢
        omega
    · have e3 : errY x = .iface 58 (.agg #[.int .i64 x.c]) := if_neg hc
      rw [e3]
      have HCo := Lib.hid (fun w h => CallsIn.inRound l ((callsIn_wide (n := 3)).2 (codeOf_err x.c w h)))
      have hcr := hb0.cell
      have hfr := hb0.frozen
      have hcr1 := hb1.cell
      have hfr1 := hb1.frozen
      gi_wp2_with fail
      have HB := Lib.hid hB
      have HX0 := Lib.hid hb0
      have HX1 := Lib.hid hb1
      have HX3 := Lib.hid hbx
      have HRw := Lib.hid hrow
      clear hB hb0 hb1 hbx hrow hb5 hg5
      have hB9 : Below w.heap.size w W.drew := HB.out.drew
      have hH9 : Handle W.drew := HH.out.below hB9
      have hC9 := HCo.out W.drew hH9
      gi_region_with (refine ⟨trivial, hC9.mono ?_⟩; rintro e wz ⟨rfl, hbz⟩; have Z0 := Lib.hid (boxZ hbz HX0.out); have Z1 := Lib.hid (boxZ hbz HX1.out); have Z3 := Lib.hid (boxZ hbz HX3.out); have ZB := Lib.hid hbz; have z0 := Z0.out.cell; have y0 := Z0.out.frozen; have z1 := Z1.out.cell; have y1 := Z1.out.frozen; have z3 := Z3.out.cell; clear hbz)
      all_goals
        gi_wp2_with fail
        have r0 : W.drew.ownsRow w.heap.size 32 10 (.slice (some ⟨gv, 0, none⟩) nv cv) pre.length (entVals (entsY pre)) := HRw.out.drew
        have r1 := r0.kept (grown_none ZB.out) (.inr (by simp [Value.ownBlock]))
        have b0' := Z0.out.set (.slice (some ⟨gv, 0, none⟩) nv cv)
        have r2 := r1.kept (grownBy_setCell' wz w.heap.size (.slice (some ⟨gv, 0, none⟩) nv cv)) (.inr (Z0.out.not_row (by decide) r1).symm)
        have b1' := Z1.out.other (B' := w.heap.size) (by omega) (.slice (some ⟨gv, 0, none⟩) nv cv)
        have r3 := r2.kept (grownBy_setCell' _ (w.heap.size + 1) (.int .i64 x.c)) (.inr (b1'.not_row (by decide) r2).symm)
        have k1 : KeepsFrom w6.heap.size W W.drew := ⟨Nat.le_refl _, fun k o _ hk _ => hk⟩
        have B1 := hB9.trans (ZB.out.mono (by show w.heap.size ≤ W.heap.size; omega))
        refine ⟨((k1.trans (KeepsFrom.of_grownBy (grown_none ZB.out) (fun j e => by cases e))).trans ((KeepsOthers.setCell _ _ _).from _)).trans ((KeepsOthers.setCell _ _ _).from _), ⟨⟨⟨rfl, pre, x, rfl, hc⟩, _, b0'.other (by omega) _, ?_, _, _, _, rfl⟩, ?_⟩, (B1.setCell (p := ⟨w.heap.size, 0, none⟩) (Nat.le_refl _) _).setCell (p := ⟨w.heap.size + 1, 0, none⟩) (by simp) _⟩
        · rw [preY_app]; exact r3
        · rw [lastY_app]; exact b1'.set _
  case done =>
    rintro D ys W hD hdn ⟨⟨⟨hall, v, hbx, hrow, gv, nv, cv, rfl⟩, hb0, hb1, hb5⟩, hB, hsz⟩ hK
    rcases hdn with ⟨_, p, hst, hend⟩ | ⟨pre, x, rfl, hx⟩
    · have hlen := entsY_len ys
      have hO := hst.ends (by rw [hend])
      rw [hend] at hO
      simp only [true_and] at hO
      have hsm := hst.2.2.1
      have hnl : ys.length ≤ 4194304 := by have := hst.2.1; have := hst.2.2.2; have := HS.out; omega
      have hoe : OwnE W w.heap.size (.slice (some ⟨gv, 0, none⟩) ys.length cv) (entsY ys) ∧ nv = ys.length := by
        rcases hrow.2 with ⟨h0, _⟩ | ⟨g, cap, _, h0, _⟩
        · cases h0
        · cases h0
          exact ⟨⟨by rw [hlen]; exact hrow, gv, cv, by rw [hlen]⟩, rfl⟩
      obtain ⟨hoe, rfl⟩ := hoe
      obtain ⟨hre, hgl, -, -⟩ := hoe.row
      have HLo := Lib.hid (fun k => (callsIn_wide (n := k)).2 (listOk_impl (entsY ys) ys.length gv cv W hlen.symm hnl hgl hsm hre))
      have HO := Lib.hid hO
      generalize listOkv (entsY ys) = lk at HLo HO
      have hcv : W.cell? ⟨w.heap.size + 3, 0, none⟩ = some (.slice (some ⟨gv, 0, none⟩) ys.length cv) := hbx.cell
      have HX0 := Lib.hid hb0
      have HX1 := Lib.hid hb1
      have HX3 := Lib.hid hbx
      have HRw := Lib.hid hrow
      have HB := Lib.hid hB
      have HK := Lib.hid hK
      have HLn := Lib.hid hlen
      have HGl := Lib.hid hgl
      clear hb0 hb1 hbx hrow hB hK hb5 hO hst hend hoe hre hlen hall hsm hnl hgl UI0 c5 c4' c5' B6
      gi_wp2_with fail
      refine ⟨trivial, (HLo.out _).mono ?_⟩
      rintro e wz ⟨rfl, hbz⟩
      have Z0 := Lib.hid (boxY hbz HX0.out)
      have Z1 := Lib.hid (boxY hbz HX1.out)
      have Z3 := Lib.hid (boxY hbz HX3.out)
      have ZB := Lib.hid hbz
      have z0 := Z0.out.cell
      have y0 := Z0.out.frozen
      have z1 := Z1.out.cell
      have y1 := Z1.out.frozen
      have z3 : wz.cell? ⟨w.heap.size + 3, 0, none⟩ = some (.slice (some ⟨gv, 0, none⟩) ys.length cv) := Z3.out.cell
      have r1 := HRw.out.kept (grown_none ZB.out) (.inr (by simp [Value.ownBlock]))
      have b0' := Z0.out.set (.slice (some ⟨gv, 0, none⟩) ys.length cv)
      have r2 := r1.kept (grownBy_setCell' wz w.heap.size (.slice (some ⟨gv, 0, none⟩) ys.length cv)) (.inr (Z0.out.not_row (by decide) r1).symm)
      have b1' := Z1.out.other (B' := w.heap.size) (by omega) (.slice (some ⟨gv, 0, none⟩) ys.length cv)
      have hKz : wz.heap[D]? = some (.deferred (some [])) := (hbz.block D (Array.getElem?_eq_some_iff.1 HK.out).1).trans HK.out
      have B1 := HB.out.trans (hbz.mono (by omega))
      have EV := Lib.hid (ust_end (w := w) (wz := wz) (L := entsY ys) (n := ys.length) (gv := gv) (cv := cv) (D := D) HLn.out.symm Z0.out Z1.out r1 hKz B1 (by omega))
      have HDs := Lib.hid hD
      clear hbz hcv HX0 HX1 HX3 HRw r1 r2 b0' b1' HLo HK hKz B1 hD hsz
      cases lk with
      | false =>
        gi_wp2_with fail
        obtain ⟨e1, e2, e3, e4, e5⟩ := EV.out 4
        refine ⟨by simp, .inl ⟨_, _, rfl, run_takeDeferred e1, ?_⟩⟩
        refine ⟨.tuple #[.slice (some ⟨gv, 0, none⟩) ys.length cv, .int .i64 4], ?_, .slice (some ⟨gv, 0, none⟩) ys.length cv, ?_, ?_, e3⟩
        · simp [results, Tryz.f5, go_sem, e4, e5]
        · rw [HO.out]; rfl
        · rw [HO.out]; exact e2
      | true =>
        gi_wp2_with fail
        obtain ⟨e1, e2, e3, e4, e5⟩ := EV.out 0
        refine ⟨by simp, .inl ⟨_, _, rfl, run_takeDeferred e1, ?_⟩⟩
        refine ⟨.tuple #[.slice (some ⟨gv, 0, none⟩) ys.length cv, .int .i64 0], ?_, .slice (some ⟨gv, 0, none⟩) ys.length cv, ?_, ?_, e3⟩
        · simp [results, Tryz.f5, go_sem, e4, e5]
        · rw [HO.out]; rfl
        · rw [HO.out]; exact e2
    · exact absurd (hall x (by simp)) hx
  case stop =>
    rintro D c pre W hD hsp ⟨⟨⟨⟨rfl, pre', x, rfl, hx⟩, v, hb0, hrow, gv, nv, cv, rfl⟩, hb1⟩, hB⟩ hK
    obtain ⟨pre2, x2, he, hor⟩ := hsp
    obtain ⟨rfl, h2⟩ := List.append_inj' he rfl
    simp only [List.cons.injEq, and_true] at h2
    subst h2
    have hu : ustV s = (entsY pre', x.c) := by
      rcases hor with h | ⟨_, h⟩
      · exact absurd h hx
      · exact h
    rw [preY_app] at hrow
    rw [lastY_app] at hb1
    have hlen := entsY_len pre'
    obtain ⟨hf, rfl⟩ : (∃ g c, (.slice (some ⟨gv, 0, none⟩) nv cv : Value) = .slice (some ⟨g, 0, none⟩) pre'.length c) ∧ nv = pre'.length := by
      rcases hrow.2 with ⟨h0, _⟩ | ⟨g, cap, _, h0, _⟩
      · cases h0
      · cases h0
        exact ⟨⟨_, _, rfl⟩, rfl⟩
    have r3 := ownsRow_putObj hrow (.deferred none) hK rfl
    have e4 := cell_kept hb0.cell (grownBy_putObj' W D (.deferred none)) (fun r e => by cases e; exact ⟨_, hK, rfl⟩)
    have e5 := cell_kept hb1.cell (grownBy_putObj' W D (.deferred none)) (fun r e => by cases e; exact ⟨_, hK, rfl⟩)
    have e3 := hB.trans (belowK_b (w := w) (Nat.le_refl _) W D _ (.deferred none) (by omega) hK rfl rfl)
    have HK := Lib.hid hK
    clear hb0 hb1 hrow hB hK UI0 c5 c4' c5' B6 hor he hf
    gi_wp2
    refine ⟨by simp, .inl ⟨_, _, rfl, run_takeDeferred HK.out, ?_⟩⟩
    refine ⟨.tuple #[.slice (some ⟨gv, 0, none⟩) pre'.length cv, .int .i64 x.c], ?_, .slice (some ⟨gv, 0, none⟩) pre'.length cv, ?_, ?_, e3⟩
    · simp [results, Tryz.f5, go_sem, e4, e5]
    · rw [hu]
    · rw [hu]
      exact ⟨by rw [hlen]; exact r3, gv, cv, by rw [hlen]⟩
end Go.Proofs.YtancidbbkoeokaaGreatDoor

/- Contract of spec.GetUstar. -/
namespace Go.Proofs.YtancidbbkoeokaaGreatDoor
open Go.ChangeShapes Go.WideShapes Go.ChangeAt Go.RowKit

theorem retE {w w' : World} {base : Nat} {v : Value} {L : List Ent} (h : OwnE w base v L) (hb : Below w.heap.size w w') : OwnE w' base v L := h.keep hb
set_option maxHeartbeats 3200000 in
set_option maxRecDepth 8000 in
theorem getUstar_spec (s : ByteArray) (w : World) (hs : s.size ≤ 1048576) :
    Calls Tryz.prog 4 #[.string s] w fun e w' => ∃ v, e = .returned (.tuple #[v, .int .i64 (ustV s).2]) ∧ OwnE w' w.heap.size v (ustV s).1 ∧ Below w.heap.size w w' := by
  obtain ⟨i0, hi0, hz0, hz1, hz2⟩ := info_parts Tryz.infoE
  have HEnd := Lib.hid (fun (p : Nat) w hp => end_spec s p w hs hp)
  have HOne := Lib.hid (fun (p : Nat) w hp => one_spec s p w hs hp)
  have HGood := Lib.hid (oneR_good s hs)
  have S0 := Lib.hid (StU.start (oneR s) (endV s) s.size)
  rw [show outU (oneR s) (endV s) (s.size + 1) [] 0 = ustV s from rfl] at S0
  obtain ⟨z, hz⟩ : ∃ z, s.size = z := ⟨_, rfl⟩
  generalize ustV s = G at S0 ⊢
  rw [hz] at hs HGood S0 HOne
  generalize oneR s = R at HOne HGood S0
  generalize endV s = E at HEnd S0
  clear hz
  go_enter Tryz.func4, Tryz.ntmps4
  go_wp2_with fail
  have O1 : Hid (OwnE (w.alloc (.cells #[] 32)) w.heap.size (.slice (some ⟨w.heap.size, 0, none⟩) 0 0) []) := Lib.hid (OwnE.lit (Nat.le_refl _))
  have B1 : Hid (Below w.heap.size w (w.alloc (.cells #[] 32))) := Lib.hid ((Below.refl _ _).alloc (Nat.le_refl _) _)
  go_loopw [4, 5, 6, 7, 8, 9, 10] (fun v u _ _ _ _ _ wr => ∃ (Q : List Ent) (p : Nat), u = .int .i64 (p : Int) ∧ StU R E z G Q p ∧ OwnE wr w.heap.size v Q ∧ Below w.heap.size w wr) (fun _ u _ _ _ _ _ _ => z + 1 - (intOf u).toNat)
  case atStart => exact ⟨[], 0, rfl, S0.out, O1.out, B1.out⟩
  case round =>
    obtain ⟨Q, p, rfl, hst, ho, hb⟩ := hrel
    clear S0 O1 B1
    have hpz : p ≤ z := hst.2.2.2
    have HQl := Lib.hid (show Q.length ≤ p by have := hst.2.1; omega)
    have HQs := Lib.hid hst.2.2.1
    have HE2 := Lib.hid (fun w => HEnd.out p w (by omega))
    have HO2 := Lib.hid (fun w => HOne.out p w hpz)
    have HEn := Lib.hid (fun h => hst.ends h)
    have HCo := Lib.hid (fun h hc => hst.code h hc)
    have HSt := Lib.hid (fun h hc => hst.step HGood.out h hc)
    have O := Lib.hid ho
    have B := Lib.hid hb
    clear hst ho hb HEnd HOne
    rcases hEp : E p with ⟨en, ec⟩
    rcases hRp : R p with ⟨⟨ek, ep, el, em, eu, eg, et, es, er, eb⟩, nx, co⟩
    rw [hEp] at HE2 HEn HCo HSt
    rw [hRp] at HO2 HCo HSt
    simp only [Ent.cells] at HE2 HEn HO2 HCo HSt
    clear hEp hRp
    cases en with
    | true =>
      have HF := Lib.hid (HEn.out rfl)
      clear HO2 HCo HSt HEn
      by_cases hc : ec = 0
      · subst hc
        obtain ⟨gc, cc, rfl, hrc, zc, hbc, hcap, hoc⟩ := O.out.open
        have HL := Lib.hid (fun w h1 h2 => listOk_spec Q Q.length gc cc w rfl (by have := HQl.out; omega) hcap h1 HQs.out h2)
        generalize listOkv Q = lo at HL HF
        have R1 := Lib.hid hrc
        clear hrc hoc
        go_wp2_with fail
        refine (HE2.out _).mono ?_
        rintro e w2 ⟨rfl, rfl⟩
        go_wp2_with fail
        refine (HL.out _ zc R1.out).mono ?_
        rintro e w3 ⟨rfl, hb⟩
        have O3 := Lib.hid (O.out.keep hb)
        have B3 := Lib.hid (btE B.out hb)
        clear hb O B R1 HL HE2
        cases lo with
        | false =>
          go_wp2_with fail
          go_ret2
          exact ⟨_, by rw [HF.out]; rfl, by rw [HF.out]; exact O3.out, B3.out⟩
        | true =>
          go_wp2_with fail
          go_ret2
          exact ⟨_, by rw [HF.out]; rfl, by rw [HF.out]; exact O3.out, B3.out⟩
      · have e1 : (ec == 0) = false := by simpa using hc
        replace HF := Lib.hid (HF.out.trans (by rw [if_neg (fun h => hc h.1)]))
        go_wp2_with fail
        refine (HE2.out _).mono ?_
        rintro e w2 ⟨rfl, rfl⟩
        go_wp2_with fail
        go_ret2
        exact ⟨_, by rw [HF.out]; rfl, by rw [HF.out]; exact O.out, B.out⟩
    | false =>
      have HCo2 := Lib.hid (HCo.out rfl)
      have HSt2 := Lib.hid (HSt.out rfl)
      clear HEn HCo HSt
      go_wp2_with fail
      refine (HE2.out _).mono ?_
      rintro e w2 ⟨rfl, rfl⟩
      go_wp2_with fail
      refine (HO2.out _).mono ?_
      rintro e w3 ⟨rfl, hb⟩
      have O3 := Lib.hid (O.out.keep hb)
      have B3 := Lib.hid (btE B.out hb)
      clear hb O B HE2 HO2
      have NB : Below w3.heap.size w3 (w3.alloc (.cells (Ent.cells ⟨ek, ep, el, em, eu, eg, et, es, er, eb⟩).toArray 32)) := (Below.refl _ _).alloc (Nat.le_refl _) _
      have XC := Lib.hid (EntO.new w3 ⟨ek, ep, el, em, eu, eg, et, es, er, eb⟩)
      have O4 := Lib.hid (O3.out.keep NB)
      have B4 := Lib.hid (btE B3.out NB)
      clear NB O3 B3
      simp only [Ent.cells] at XC O4 B4
      have HSn := Lib.hid (run_storeVar_new (P := Tryz.prog) w3 32 #[.int .i64 0, .string ⟨#[]⟩, .string ⟨#[]⟩, .int .i64 0, .int .i64 0, .int .i64 0, .int .i64 0, .string ⟨#[]⟩, .string ⟨#[]⟩, .string ⟨#[]⟩] #[.int .i64 ek, .string ep, .string el, .int .i64 em, .int .i64 eu, .int .i64 eg, .int .i64 et, .string es, .string er, .string eb] (by rw [Tryz.sizeEntO]; rfl) rfl (by simp [Value.oneCell']))
      go_upto_region 9 with ((with_reducible refine wpList_store_eq rfl 32 _ _ rfl ⟨w3.heap.size, 0, none⟩ ?_ ?_ HSn.out ?_); rfl; rfl)
      clear HSn
      generalize w3.alloc _ = w4 at XC O4 B4 ⊢
      by_cases hc : co = 0
      · subst hc
        obtain ⟨q, hq, hpq, hst⟩ := HSt2.out rfl
        subst hq
        have hqz := hst.2.2.2
        have St2 := Lib.hid hst
        have hql := HQl.out
        have hszB := B4.out.size
        have OW := Lib.hid O4.out.1
        have HLd := Lib.hid (run_loadVar_row (P := Tryz.prog) _ _ 32 32 _ (0, 0) _ XC.out Tryz.underlying32 rfl (by rw [Tryz.sizeEntO]; rfl))
        simp only [Ent.cells] at HLd
        clear HCo2 HSt2 hst
        go_wp2_with (first | ((with_reducible refine wpList_load_eq rfl 32 _ rfl ⟨w3.heap.size, 0, none⟩ ?_ HLd.out ?_); rfl) | (at_builtin; refine wpList_append_own _ rfl _ _ 22 rfl w.heap.size 32 i0 (.agg #[.int .i64 0, .string ⟨#[]⟩, .string ⟨#[]⟩, .int .i64 0, .int .i64 0, .int .i64 0, .int .i64 0, .string ⟨#[]⟩, .string ⟨#[]⟩, .string ⟨#[]⟩]) 10 120 Tryz.underlying22 hi0 hz0 hz1 hz2 rfl (by decide) _ Q.length (entVals Q) rfl ?c0q ⟨w4.heap.size, 0, none⟩ 1 1 (entVals [⟨ek, ep, el, em, eu, eg, et, es, er, eb⟩]) rfl (entVals_len _) ?c1q ?c2q ?c3q ?c4q ?c5q ?_))
        case c0q => exact World.ownsRow.alloc OW.out _
        case c1q => first | exact ent_new _ _ _ | exact RowE.news0 (ent_new _ _ _) | (intro jj uu hu; rw [entVals_one] at hu; exact hu)
        case c2q => exact entVals_onecell _
        any_goals (first | (simp only [maxLen]; omega) | omega | (simp; omega))
        intro v' w9 hown hgrow hnil
        have O9 : Hid (OwnE w9 w.heap.size v' (Q ++ [⟨ek, ep, el, em, eu, eg, et, es, er, eb⟩])) := Lib.hid (ownE_app hown rfl rfl hnil)
        have B9 : Hid (Below w.heap.size w w9) := Lib.hid ((B4.out.alloc hszB _).grown hgrow (by simp; omega) (fun b hb => (World.ownsRow.lt OW.out b hb).1))
        clear hown hgrow hnil O4 B4 OW XC HLd
        go_wp2_with fail
        go_roundw
        case rel => exact ⟨_, q, rfl, St2.out, O9.out, B9.out⟩
        case measure => simp [intOf]; omega
      · have e1 : (co != 0) = true := by simpa using hc
        have HF := Lib.hid (HCo2.out hc)
        clear HCo2 HSt2
        go_wp2_with fail
        go_ret2
        exact ⟨_, by rw [HF.out]; rfl, by rw [HF.out]; exact O4.out, B4.out⟩
end Go.Proofs.YtancidbbkoeokaaGreatDoor

/- The test '==' of two entries, as an equation. -/
namespace Go.Proofs.YtancidbbkoeokaaGreatDoor
open Go.ChangeShapes Go.WideShapes Go.ChangeAt Go.RowKit Go.Deep

theorem tlE_inj {a b : ByteArray} : (a.toList == b.toList) = decide (a = b) := by
  by_cases h : a = b
  · subst h; simp
  · rw [decide_eq_false h]
    simp only [beq_eq_false_iff_ne, ne_eq]
    intro e
    apply h
    obtain ⟨⟨x⟩⟩ := a
    obtain ⟨⟨y⟩⟩ := b
    simpa using e
theorem run_sameE (k : Int) (p l : ByteArray) (m u g t : Int) (us gr b : ByteArray) (k' : Int) (p' l' : ByteArray) (m' u' g' t' : Int) (us' gr' b' : ByteArray) (w : World) :
    (Op.equalIn 10000 32 (.agg #[.int .i64 k, .string p, .string l, .int .i64 m, .int .i64 u, .int .i64 g, .int .i64 t, .string us, .string gr, .string b]) (.agg #[.int .i64 k', .string p', .string l', .int .i64 m', .int .i64 u', .int .i64 g', .int .i64 t', .string us', .string gr', .string b'])).run Tryz.prog w = .ok (decide ((⟨k, p, l, m, u, g, t, us, gr, b⟩ : Ent) = ⟨k', p', l', m', u', g', t', us', gr', b'⟩)) w := by
  have h1 : Tryz.prog.underlying 32 = some (.struct (Tryz.prog.fieldsOf 32)) := by kernel_rfl
  rw [show (10000 : Nat) = 9999 + 1 from rfl, run_equalIn_struct w 9999 _ _ _ h1 (by kernel_rfl)]
  simp only [Program.fieldsOf, Tryz.underlying32]
  simp [Op.eqFields, go_sem, Tryz.underlying3, Tryz.underlying9, tlE_inj]
  by_cases a0 : k = k'
  · rw [if_pos a0, decide_eq_true a0, Bool.true_and]
    by_cases a1 : p = p'
    · rw [if_pos a1, decide_eq_true a1, Bool.true_and]
      by_cases a2 : l = l'
      · rw [if_pos a2, decide_eq_true a2, Bool.true_and]
        by_cases a3 : m = m'
        · rw [if_pos a3, decide_eq_true a3, Bool.true_and]
          by_cases a4 : u = u'
          · rw [if_pos a4, decide_eq_true a4, Bool.true_and]
            by_cases a5 : g = g'
            · rw [if_pos a5, decide_eq_true a5, Bool.true_and]
              by_cases a6 : t = t'
              · rw [if_pos a6, decide_eq_true a6, Bool.true_and]
                by_cases a7 : us = us'
                · rw [if_pos a7, decide_eq_true a7, Bool.true_and]
                  by_cases a8 : gr = gr'
                  · rw [if_pos a8, decide_eq_true a8, Bool.true_and]
                    by_cases a9 : b = b'
                    · rw [if_pos a9, decide_eq_true a9]
                    · rw [if_neg a9, decide_eq_false a9]
                  · rw [if_neg a8, decide_eq_false a8, Bool.false_and]
                · rw [if_neg a7, decide_eq_false a7, Bool.false_and]
              · rw [if_neg a6, decide_eq_false a6, Bool.false_and]
            · rw [if_neg a5, decide_eq_false a5, Bool.false_and]
          · rw [if_neg a4, decide_eq_false a4, Bool.false_and]
        · rw [if_neg a3, decide_eq_false a3, Bool.false_and]
      · rw [if_neg a2, decide_eq_false a2, Bool.false_and]
    · rw [if_neg a1, decide_eq_false a1, Bool.false_and]
  · rw [if_neg a0, decide_eq_false a0, Bool.false_and]
end Go.Proofs.YtancidbbkoeokaaGreatDoor

/- Contracts of spec.Size and spec.SameList. -/
namespace Go.Proofs.YtancidbbkoeokaaGreatDoor
open Go.ChangeShapes Go.WideShapes Go.ChangeAt Go.RowKit Go.Deep

def sizev (L : List Ent) : Nat := (L.map fun e => e.body.size).sum
theorem sizev_take (L : List Ent) (i : Nat) {e : Ent} (h : L[i]? = some e) : sizev (L.take (i + 1)) = sizev (L.take i) + e.body.size := by
  have hlt : i < L.length := (List.getElem?_eq_some_iff.1 h).1
  rw [List.take_add_one, h]
  simp [sizev]
/-- All texts of a list together. -/
def totL (L : List Ent) : Nat := (L.map esz).sum
theorem sizev_le (L : List Ent) : sizev L ≤ totL L := by
  induction L with
  | nil => simp [sizev, totL]
  | cons e L ih => simp [sizev, totL, esz] at ih ⊢; omega
theorem totL_take (L : List Ent) (i : Nat) : totL (L.take i) ≤ totL L := by
  induction L generalizing i with
  | nil => simp [totL]
  | cons e L ih =>
    cases i with
    | zero => simp [totL]
    | succ i => have := ih i; simp [totL] at this ⊢; omega
end Go.Proofs.YtancidbbkoeokaaGreatDoor

/- Contracts of laws.eqEntry and laws.eqEntryS where both are the same. -/
namespace Go.Proofs.YtancidbbkoeokaaGreatDoor
open Go.ChangeShapes Go.WideShapes Go.ChangeAt Go.RowKit Go.Deep

theorem eqEntry_self (k : Int) (p l : ByteArray) (m u g t : Int) (us gr b : ByteArray) (w : World) :
    Calls Tryz.prog 16 #[.agg #[.int .i64 k, .string p, .string l, .int .i64 m, .int .i64 u, .int .i64 g, .int .i64 t, .string us, .string gr, .string b], .agg #[.int .i64 k, .string p, .string l, .int .i64 m, .int .i64 u, .int .i64 g, .int .i64 t, .string us, .string gr, .string b]] w fun e w' => e = .returned (.bool true) ∧ Below w.heap.size w w' := by
  have q1 : (p.toList == p.toList) = true := by simp
  have q2 : (l.toList == l.toList) = true := by simp
  have q3 : (us.toList == us.toList) = true := by simp
  have q4 : (gr.toList == gr.toList) = true := by simp
  have q5 : (b.toList == b.toList) = true := by simp
  go_enter Tryz.func16, Tryz.ntmps16
  go_wp2_with fail
  go_ret
  exact ⟨rfl, ((Below.refl _ w).alloc (Nat.le_refl _) _).alloc (by simp) _⟩
theorem bl_ch {w x w1 : World} (h1 : Below x.heap.size x w1) (os : x.os = w.os) (tape : x.tape = w.tape) (out : x.output = w.output) (hs : w.heap.size ≤ x.heap.size) (B : Nat) (hB : B ≤ x.heap.size) (hb : ∀ k, k < B → x.heap[k]? = w.heap[k]?) : Below B w w1 :=
  ⟨h1.os.trans os, h1.tape.trans tape, h1.output.trans out, Nat.le_trans hs h1.size, fun k hk => (h1.block k (Nat.lt_of_lt_of_le hk hB)).trans (hb k hk)⟩
theorem getE {L : List Ent} {i : Nat} (h : i < L.length) : ∃ e, L[i]? = some e := ⟨L[i], List.getElem?_eq_getElem h⟩
set_option maxHeartbeats 1600000 in
theorem eqEntryS_any (L : List Ent) (n g g2 ca cb : Nat) (w : World) (hn : n = L.length) (hm : n ≤ 4194304) (hg : g < w.heap.size) (hg2 : g2 < w.heap.size) (h1 : RowE w g L) (h2 : RowE w g2 L) :
    Calls Tryz.prog 6 #[.slice (some ⟨g, 0, none⟩) n ca, .slice (some ⟨g2, 0, none⟩) n cb] w fun e w' => e = .returned (.bool true) ∧ Below w.heap.size w w' := by
  have H1 := Lib.hid h1
  have H2 := Lib.hid h2
  have HG : Hid (∀ i, i < n → ∃ e, L[i]? = some e) := Lib.hid (fun i hi => getE (by omega))
  clear h1 h2 hn
  go_enter Tryz.func6, Tryz.ntmps6
  go_wp2_with fail
  go_loopw [5] (fun u wr => ∃ i : Nat, u = .int .i64 i ∧ i ≤ n ∧ Below w.heap.size w wr) (fun u _ => n - (intOf u).toNat)
  case atStart => exact ⟨0, rfl, Nat.zero_le _, Below.refl _ _⟩
  case round =>
    obtain ⟨i, rfl, hi, hb⟩ := hrel
    have B := Lib.hid hb
    clear hb
    by_cases hlt : i < n
    · have hlt2 : (i : Int) < (n : Int) := by omega
      obtain ⟨e, he⟩ := HG.out i hlt
      have R1 := Lib.hid (H1.out.below B.out hg)
      have R2 := Lib.hid (H2.out.below B.out hg2)
      obtain ⟨c0, c1, c2, c3, c4, c5, c6, c7, c8, c9⟩ := R1.out.ten he
      obtain ⟨d0, d1, d2, d3, d4, d5, d6, d7, d8, d9⟩ := R2.out.ten he
      clear he R1 R2
      obtain ⟨k, p, l, m, u, g0, t, us, gr, b⟩ := e
      have HQ := Lib.hid (fun w => eqEntry_self k p l m u g0 t us gr b w)
      go_wp2_with fail
      have hsz := B.out.size
      go_region_with (go_at_call 16; refine (HQ.out _).mono ?_; rintro e w1 ⟨rfl, hb1⟩; have B1 := Lib.hid (bl_ch hb1 B.out.os B.out.tape B.out.output hsz w.heap.size hsz B.out.block); clear hb1)
      all_goals
        go_wp2_with fail
        go_roundw
        case rel => exact ⟨i + 1, by go_num, by omega, B1.out.os, B1.out.tape, B1.out.output, B1.out.size, B1.out.block⟩
        case measure => simp [intOf]; omega
    · have hlt2 : ¬ (i : Int) < (n : Int) := by omega
      go_wp2_with fail
      go_ret
      exact ⟨rfl, B.out⟩
end Go.Proofs.YtancidbbkoeokaaGreatDoor

/- What the laws over slices of entries share. -/
namespace Go.Proofs.YtancidbbkoeokaaGreatDoor
open Go.ChangeShapes Go.WideShapes Go.ChangeAt Go.RowKit Go.Deep

theorem self_eqF (a : ByteArray) : (a.toList == a.toList) = true := by simp
theorem IsRowE.below {w w' : World} {a : Option Addr} {len cap : Nat} {es : List Ent} (h : IsRowE w a len cap es) (hb : Below w.heap.size w w') : IsRowE w' a len cap es := by
  rcases h with h | ⟨x, hx, hl, hm, hn, hc⟩
  · exact .inl h
  · refine .inr ⟨x, hx, hl, hm, hn, fun i hi => ⟨fun j hj => ?_, (hc i hi).2⟩⟩
    have h1 := (hc i hi).1 j hj
    have hsome : ∃ v, w.cell? (x.add (i * 10 + j)) = some v := by
      rw [h1]
      exact ⟨_, List.getElem?_eq_getElem (by show j < 10; exact hj)⟩
    obtain ⟨v, hv⟩ := hsome
    exact (hb.cell (cell_blk hv)).trans h1
theorem totE_take (es : List Ent) (n : Nat) (h : n ≤ es.length) : totE (fun i => es.getD i entD) n = totL (es.take n) := by
  induction n with
  | zero => simp [totE, totL]
  | succ n ih =>
    have ht : es.take (n + 1) = es.take n ++ [es[n]'(by omega)] := by rw [List.take_add_one, List.getElem?_eq_getElem (show n < es.length by omega)]; rfl
    rw [totE, ih (by omega), ht]
    have hx : es.getD n entD = es[n]'(by omega) := by simp [List.getD, List.getElem?_eq_getElem (show n < es.length by omega)]
    simp only [totL, List.map_append, List.sum_append, List.map_cons, List.map_nil, List.sum_cons, List.sum_nil, Nat.add_zero, hx]
theorem totL_mem {L : List Ent} {e : Ent} (h : e ∈ L) : esz e ≤ totL L := by
  induction L with
  | nil => cases h
  | cons f L ih =>
    rcases List.mem_cons.1 h with rfl | h
    · simp [totL]
    · have := ih h
      simp [totL] at this ⊢
      omega
theorem small_of_tot {L : List Ent} {n : Nat} (h : totL L ≤ n) (hn : n ≤ 4194304) : SmallL L := fun _ he => Nat.le_trans (totL_mem he) (Nat.le_trans h hn)
theorem IsRowE.take_len {w : World} {a : Option Addr} {len cap : Nat} {es : List Ent} (h : IsRowE w a len cap es) : (es.take len).length = len := by
  have := h.le
  simp; omega
theorem sz_facts {w : World} {a : Option Addr} {len cap : Nat} {es : List Ent} (h : IsRowE w a len cap es) {left r : Int} (hr : r = -1 ∨ 0 ≤ r ∧ (len : Int) + totE (fun i => es.getD i entD) len + r = left) (h0 : 0 ≤ r) : (len : Int) + totL (es.take len) + r = left := by
  rcases hr with rfl | ⟨_, h1⟩
  · omega
  · rw [totE_take _ _ h.le] at h1; exact h1
end Go.Proofs.YtancidbbkoeokaaGreatDoor

/- Contracts of laws.markEntryS and laws.heldEntryS. -/
namespace Go.Proofs.YtancidbbkoeokaaGreatDoor
open Go.ChangeShapes Go.WideShapes Go.ChangeAt Go.RowKit Go.Deep

/-- The entry that is marked from k on, and a row of such. -/
def markEnt (k : Nat) : Ent := ⟨k, markv (k + 1), markv (k + 2), (k : Int) + 3, (k : Int) + 4, (k : Int) + 5, (k : Int) + 6, markv (k + 7), markv (k + 8), markv (k + 9)⟩
def marksE (k : Nat) : Nat → List Ent
  | 0 => []
  | n + 1 => marksE k n ++ [markEnt (k + n * 10)]
theorem marksE_len (k n : Nat) : (marksE k n).length = n := by
  induction n with
  | zero => rfl
  | succ n ih => simp [marksE, ih]
theorem marksE_get (k n i : Nat) (h : i < n) : (marksE k n)[i]? = some (markEnt (k + i * 10)) := by
  induction n with
  | zero => omega
  | succ n ih =>
    rw [marksE]
    by_cases e : i = n
    · subst e
      rw [List.getElem?_append_right (by rw [marksE_len]; omega), marksE_len]
      simp
    · rw [List.getElem?_append_left (by rw [marksE_len]; omega)]
      exact ih (by omega)
/-- The first i entries of a row's cells are the marks. -/
def MarkedE (ys : List Value) (k i : Nat) : Prop := FillE ys i (fun j => markEnt (k + j * 10))
theorem MarkedE.row {w : World} {base g n cap k : Nat} {ys : List Value} (h : MarkedE ys k n) (ho : w.ownsRow base 32 10 (.slice (some ⟨g, 0, none⟩) n cap) n ys) : RowE w g (marksE k n) := by
  intro j u hu
  have hj : j < n * 10 := by
    by_cases hj : j < n * 10
    · exact hj
    · rw [List.getElem?_eq_none (by rw [entVals_len, marksE_len]; omega)] at hu; cases hu
  have h1 := h (j / 10) (by omega) (j % 10) (by omega)
  have h2 := entVals_get (marksE k n) (j / 10) (j % 10) (by omega)
  rw [marksE_get _ _ _ (by omega)] at h2
  rw [show j / 10 * 10 + j % 10 = j from by omega] at h1 h2
  rw [hu] at h2
  have h3 : ys[j]? = some u := h1.trans h2.symm
  have := World.ownsRow.cells ho (g := g) rfl j u h3
  rwa [show (⟨g, 0, none⟩ : Addr).add j = ⟨g, j, none⟩ from by unfold Addr.add; split <;> simp_all] at this
theorem own_put {w : World} {base g n cap : Nat} {ty : TypeId} {ys : List Value} (h : w.ownsRow base ty 10 (.slice (some ⟨g, 0, none⟩) n cap) n ys) (o : Nat) (e : Ent) : (setEnt w g o e).ownsRow base ty 10 (.slice (some ⟨g, 0, none⟩) n cap) n (set10 ys o e) :=
  (World.ownsRow.stored (World.ownsRow.stored (World.ownsRow.stored (World.ownsRow.stored (World.ownsRow.stored (World.ownsRow.stored (World.ownsRow.stored (World.ownsRow.stored (World.ownsRow.stored (World.ownsRow.stored h o _).1 (o + 1) _).1 (o + 2) _).1 (o + 3) _).1 (o + 4) _).1 (o + 5) _).1 (o + 6) _).1 (o + 7) _).1 (o + 8) _).1 (o + 9) _).1
theorem own_at {w : World} {base g n cap : Nat} {e : TypeId} {ys : List Value} (h : w.ownsRow base e 10 (.slice (some ⟨g, 0, none⟩) n cap) n ys) {i : Nat} (hi : i < n) (j : Nat) (hj : j < 10) : ∃ y, w.cell? ⟨g, i * 10 + j, none⟩ = some y := by
  rcases h.2 with ⟨h', _⟩ | ⟨g', cap', cur, h', _, hg, hnc, _, hcs, _⟩
  · simp at h'
  · simp only [Value.slice.injEq, Option.some.injEq, Addr.mk.injEq, and_true, true_and] at h'
    obtain ⟨rfl, rfl⟩ := h'
    have hlt : i * 10 + j < cur.size := by omega
    exact ⟨cur[i * 10 + j], by simp [World.cell?, hg, Array.getElem?_eq_getElem hlt]⟩
theorem kept_cellE {x w1 : World} {g k : Nat} {t : Value} (h1 : Below x.heap.size x w1) (hg : g < x.heap.size) (hc : x.cell? ⟨g, k, none⟩ = .some t) : w1.cell? ⟨g, k, none⟩ = .some t := (h1.cell (p := ⟨g, k, none⟩) hg).trans hc
theorem self_eqE (a : ByteArray) : (a.toList == a.toList) = true := by simp
theorem grown_set {w w' : World} {g : Nat} (h : w.grownBy w' (some g)) (o : Nat) (v : Value) : w.grownBy (w'.setCell ⟨g, o, none⟩ v) (some g) :=
  ⟨h.os, h.tape, h.output, by simpa using h.size, fun k hk hne => (Below.heap_setCell w' _ v k (fun e => hne (by rw [e]))).trans (h.block k hk hne)⟩
theorem grown_belowM {w w' w'' : World} {row : Option Nat} (h : w.grownBy w' row) (hb : Below w'.heap.size w' w'') : w.grownBy w'' row :=
  ⟨hb.os.trans h.os, hb.tape.trans h.tape, hb.output.trans h.output, Nat.le_trans h.size hb.size, fun k hk hne => (hb.block k (Nat.lt_of_lt_of_le hk h.size)).trans (h.block k hk hne)⟩
theorem own_below {w w' : World} {base : Nat} {ty : TypeId} {v : Value} {n : Nat} {xs : List Value} (h : w.ownsRow base ty 10 v n xs) (hb : Below w.heap.size w w') : w'.ownsRow base ty 10 v n xs :=
  World.ownsRow.kept h (row := none) ⟨hb.os, hb.tape, hb.output, hb.size, fun k hk _ => hb.block k hk⟩ (by cases hv : v.ownBlock <;> simp)
set_option maxHeartbeats 3200000 in
set_option maxRecDepth 8000 in
theorem markEntryS_any (n g cap k : Nat) (base : Nat) (xs : List Value) (w : World) (hk : 1 ≤ k) (hn : k + n * 10 ≤ 100000000) (h1 : w.ownsRow base 32 10 (.slice (some ⟨g, 0, none⟩) n cap) n xs) :
    Calls Tryz.prog 7 #[.slice (some ⟨g, 0, none⟩) n cap, .int .i64 k] w fun e w' => e = .returned (.int .i64 ((k + n * 10 : Nat) : Int)) ∧ (∃ ys, w'.ownsRow base 32 10 (.slice (some ⟨g, 0, none⟩) n cap) n ys) ∧ RowE w' g (marksE k n) ∧ w.grownBy w' (some g) := by
  have H1 := Lib.hid h1
  clear h1
  go_enter Tryz.func7, Tryz.ntmps7
  go_wp2_with fail
  go_loopw [1, 5] (fun x u wr => ∃ (i : Nat) (ys : List Value), i ≤ n ∧ x = .int .i64 ((k + i * 10 : Nat) : Int) ∧ u = .int .i64 i ∧ wr.ownsRow base 32 10 (.slice (some ⟨g, 0, none⟩) n cap) n ys ∧ MarkedE ys k i ∧ w.grownBy wr (some g)) (fun _ u _ => n - (intOf u).toNat)
  case atStart => exact ⟨0, xs, Nat.zero_le _, by simp, rfl, H1.out, fun i hi => by omega, ⟨rfl, rfl, rfl, Nat.le_refl _, fun _ _ _ => rfl⟩⟩
  case round =>
    obtain ⟨i, ys, hi, rfl, rfl, ho, hr, hb⟩ := hrel
    have G := Lib.hid hb
    have O := Lib.hid ho
    have HR := Lib.hid hr
    have hys : ys.length = n * 10 := ho.1
    clear hb ho hr H1
    by_cases hlt : i < n
    · have hlt2 : (i : Int) < (n : Int) := by omega
      have HS : Hid (MarkedE (set10 ys (i * 10) (markEnt (k + i * 10))) k (i + 1)) := Lib.hid (HR.out.step (by omega))
      clear HR
      have hK : k + i * 10 + 10 ≤ 100000000 := by omega
      have hK1 : 1 ≤ k + i * 10 := by omega
      generalize hKe : k + i * 10 = K at *
      have hMT := Lib.hid (fun (x : Int) (j : Nat) w (hx : x = ((K + j : Nat) : Int)) (hj : j ≤ 10) => (by rw [hx]; exact markText_any (K + j) w (by omega) (by omega) : Calls Tryz.prog 17 #[.int .i64 x] w fun e w' => e = .returned (.string (markv (K + j))) ∧ Below w.heap.size w w'))
      obtain ⟨y0, d0⟩ := own_at O.out hlt 0 (by omega)
      rw [Nat.add_zero] at d0
      have f0 := World.ownsRow.frozenAt O.out (i * 10)
      go_wp2_with fail
      refine (hMT.out _ 1 _ (by omega) (by omega)).mono ?_
      rintro e w1 ⟨rfl, hb⟩
      have O1 := Lib.hid (own_below (World.ownsRow.stored O.out (i * 10) _).1 hb)
      have G1 := Lib.hid (grown_belowM (grown_set G.out (i * 10) _) hb)
      clear hb d0 f0
      obtain ⟨y1, d1⟩ := own_at O1.out hlt 1 (by omega)
      have f1 := World.ownsRow.frozenAt O1.out (i * 10 + 1)
      go_wp2_with fail
      refine (hMT.out _ 2 _ (by omega) (by omega)).mono ?_
      rintro e w2 ⟨rfl, hb⟩
      have O2 := Lib.hid (own_below (World.ownsRow.stored O1.out (i * 10 + 1) (.string (markv (K + 1)))).1 hb)
      have G2 := Lib.hid (grown_belowM (grown_set G1.out (i * 10 + 1) (.string (markv (K + 1)))) hb)
      clear hb d1 f1
      obtain ⟨y2, d2⟩ := own_at O2.out hlt 2 (by omega)
      have f2 := World.ownsRow.frozenAt O2.out (i * 10 + 2)
      obtain ⟨y3, d3⟩ := own_at O2.out hlt 3 (by omega)
      have f3 := World.ownsRow.frozenAt O2.out (i * 10 + 3)
      obtain ⟨y4, d4⟩ := own_at O2.out hlt 4 (by omega)
      have f4 := World.ownsRow.frozenAt O2.out (i * 10 + 4)
      obtain ⟨y5, d5⟩ := own_at O2.out hlt 5 (by omega)
      have f5 := World.ownsRow.frozenAt O2.out (i * 10 + 5)
      obtain ⟨y6, d6⟩ := own_at O2.out hlt 6 (by omega)
      have f6 := World.ownsRow.frozenAt O2.out (i * 10 + 6)
      go_wp2_with fail
      refine (hMT.out _ 7 _ (by omega) (by omega)).mono ?_
      rintro e w7 ⟨rfl, hb⟩
      have O7 := Lib.hid (own_below (World.ownsRow.stored (World.ownsRow.stored (World.ownsRow.stored (World.ownsRow.stored (World.ownsRow.stored O2.out (i * 10 + 2) (.string (markv (K + 2)))).1 (i * 10 + 3) _).1 (i * 10 + 4) _).1 (i * 10 + 5) _).1 (i * 10 + 6) _).1 hb)
      have G7 := Lib.hid (grown_belowM (grown_set (grown_set (grown_set (grown_set (grown_set G2.out (i * 10 + 2) (.string (markv (K + 2)))) (i * 10 + 3) _) (i * 10 + 4) _) (i * 10 + 5) _) (i * 10 + 6) _) hb)
      clear hb d2 f2 d3 f3 d4 f4 d5 f5 d6 f6
      obtain ⟨y7, d7⟩ := own_at O7.out hlt 7 (by omega)
      have f7 := World.ownsRow.frozenAt O7.out (i * 10 + 7)
      go_wp2_with fail
      refine (hMT.out _ 8 _ (by omega) (by omega)).mono ?_
      rintro e w8 ⟨rfl, hb⟩
      have O8 := Lib.hid (own_below (World.ownsRow.stored O7.out (i * 10 + 7) (.string (markv (K + 7)))).1 hb)
      have G8 := Lib.hid (grown_belowM (grown_set G7.out (i * 10 + 7) (.string (markv (K + 7)))) hb)
      clear hb d7 f7
      obtain ⟨y8, d8⟩ := own_at O8.out hlt 8 (by omega)
      have f8 := World.ownsRow.frozenAt O8.out (i * 10 + 8)
      go_wp2_with fail
      refine (hMT.out _ 9 _ (by omega) (by omega)).mono ?_
      rintro e w9 ⟨rfl, hb⟩
      have O9 := Lib.hid (own_below (World.ownsRow.stored O8.out (i * 10 + 8) (.string (markv (K + 8)))).1 hb)
      have G9 := Lib.hid (grown_belowM (grown_set G8.out (i * 10 + 8) (.string (markv (K + 8)))) hb)
      clear hb d8 f8
      obtain ⟨y9, d9⟩ := own_at O9.out hlt 9 (by omega)
      have f9 := World.ownsRow.frozenAt O9.out (i * 10 + 9)
      go_wp2_with fail
      go_roundw
      case rel => exact ⟨i + 1, _, by omega, by go_num, by go_num, (World.ownsRow.stored O9.out (i * 10 + 9) (.string (markv (K + 9)))).1, HS.out, (grown_set G9.out (i * 10 + 9) (.string (markv (K + 9))))⟩
      case measure => simp [intOf]; omega
    · obtain rfl : i = n := by omega
      have hlt2 : ¬ (i : Int) < (i : Int) := by omega
      go_wp2_with fail
      go_ret
      exact ⟨rfl, ⟨ys, O.out⟩, HR.out.row O.out, G.out⟩
end Go.Proofs.YtancidbbkoeokaaGreatDoor

/- Contract of laws.heldEntryS. -/
namespace Go.Proofs.YtancidbbkoeokaaGreatDoor
open Go.ChangeShapes Go.WideShapes Go.ChangeAt Go.RowKit Go.Deep

set_option maxHeartbeats 3200000 in
set_option maxRecDepth 8000 in
theorem heldEntryS_any (n g cap k : Nat) (w : World) (hk : 1 ≤ k) (hn : k + n * 10 ≤ 100000000) (hg : g < w.heap.size) (h1 : RowE w g (marksE k n)) :
    Calls Tryz.prog 8 #[.slice (some ⟨g, 0, none⟩) n cap, .int .i64 k] w fun e w' => e = .returned (.int .i64 ((k + n * 10 : Nat) : Int)) ∧ Below w.heap.size w w' := by
  have H1 := Lib.hid h1
  clear h1
  go_enter Tryz.func8, Tryz.ntmps8
  go_wp2_with fail
  go_loopw [1, 5] (fun x u wr => ∃ (i : Nat), i ≤ n ∧ x = .int .i64 ((k + i * 10 : Nat) : Int) ∧ u = .int .i64 i ∧ Below w.heap.size w wr) (fun _ u _ => n - (intOf u).toNat)
  case atStart => exact ⟨0, Nat.zero_le _, by simp, rfl, Below.refl _ _⟩
  case round =>
    obtain ⟨i, hi, rfl, rfl, hb⟩ := hrel
    have B0 := Lib.hid hb
    clear hb
    by_cases hlt : i < n
    · have hlt2 : (i : Int) < (n : Int) := by omega
      have hK : k + i * 10 + 10 ≤ 100000000 := by omega
      have hK1 : 1 ≤ k + i * 10 := by omega
      have R0 := Lib.hid (H1.out.below B0.out hg)
      have HG := Lib.hid (marksE_get k n i hlt)
      generalize hKe : k + i * 10 = K at *
      have hMT := Lib.hid (fun (x : Int) (j : Nat) w (hx : x = ((K + j : Nat) : Int)) (hj : j ≤ 10) => (by rw [hx]; exact markText_any (K + j) w (by omega) (by omega) : Calls Tryz.prog 17 #[.int .i64 x] w fun e w' => e = .returned (.string (markv (K + j))) ∧ Below w.heap.size w w'))
      have q1 := self_eqE (markv (K + 1))
      have q2 := self_eqE (markv (K + 2))
      have q7 := self_eqE (markv (K + 7))
      have q8 := self_eqE (markv (K + 8))
      have q9 := self_eqE (markv (K + 9))
      have B : Hid (Below w.heap.size w wr) := B0
      have R : Hid (RowE wr g (marksE k n)) := R0
      have z : g < wr.heap.size := by have := B0.out.size; omega
      clear B0 R0
      obtain ⟨c0, c1, c2, c3, c4, c5, c6, c7, c8, c9⟩ := R.out.ten HG.out
      simp only [markEnt] at c0 c1 c2 c3 c4 c5 c6 c7 c8 c9
      go_wp2_with fail
      replace B : Hid (Below w.heap.size w wr.drew) := Lib.hid B.out.drew
      replace R : Hid (RowE wr.drew g (marksE k n)) := Lib.hid R.out
      replace z : g < wr.drew.heap.size := z
      go_region_held3 (fun w' => w'.cell? ⟨g, i * 10 + 1, none⟩ = some (.string (markv (K + 1)))) (assumption) (first | (go_at_call 17; refine (hMT.out _ 1 _ (by omega) (by omega)).mono ?_; rintro e w1 ⟨rfl, hb⟩; have d1 := kept_cellE hb z c1; replace B := Lib.hid (btE B.out hb); replace R := Lib.hid (R.out.below hb z); replace z := Nat.lt_of_lt_of_le z hb.size; clear hb))
      clear c0 c1 c2 c3 c4 c5 c6 c7 c8 c9
      obtain ⟨c0, c1, c2, c3, c4, c5, c6, c7, c8, c9⟩ := R.out.ten HG.out
      simp only [markEnt] at c0 c1 c2 c3 c4 c5 c6 c7 c8 c9
      go_wp2_with fail
      replace B : Hid (Below w.heap.size w w1.drew) := Lib.hid B.out.drew
      replace R : Hid (RowE w1.drew g (marksE k n)) := Lib.hid R.out
      replace z : g < w1.drew.heap.size := z
      go_region_held3 (fun w' => w'.cell? ⟨g, i * 10 + 2, none⟩ = some (.string (markv (K + 2)))) (assumption) (first | (go_at_call 17; refine (hMT.out _ 2 _ (by omega) (by omega)).mono ?_; rintro e w2 ⟨rfl, hb⟩; have d2 := kept_cellE hb z c2; replace B := Lib.hid (btE B.out hb); replace R := Lib.hid (R.out.below hb z); replace z := Nat.lt_of_lt_of_le z hb.size; clear hb))
      clear c0 c1 c2 c3 c4 c5 c6 c7 c8 c9
      obtain ⟨c0, c1, c2, c3, c4, c5, c6, c7, c8, c9⟩ := R.out.ten HG.out
      simp only [markEnt] at c0 c1 c2 c3 c4 c5 c6 c7 c8 c9
      go_wp2_with fail
      replace B : Hid (Below w.heap.size w w2.drew) := Lib.hid B.out.drew
      replace R : Hid (RowE w2.drew g (marksE k n)) := Lib.hid R.out
      replace z : g < w2.drew.heap.size := z
      go_region_held3 (fun w' => w'.cell? ⟨g, i * 10 + 7, none⟩ = some (.string (markv (K + 7)))) (assumption) (first | (go_at_call 17; refine (hMT.out _ 7 _ (by omega) (by omega)).mono ?_; rintro e w7 ⟨rfl, hb⟩; have d7 := kept_cellE hb z c7; replace B := Lib.hid (btE B.out hb); replace R := Lib.hid (R.out.below hb z); replace z := Nat.lt_of_lt_of_le z hb.size; clear hb))
      clear c0 c1 c2 c3 c4 c5 c6 c7 c8 c9
      obtain ⟨c0, c1, c2, c3, c4, c5, c6, c7, c8, c9⟩ := R.out.ten HG.out
      simp only [markEnt] at c0 c1 c2 c3 c4 c5 c6 c7 c8 c9
      go_wp2_with fail
      replace B : Hid (Below w.heap.size w w7.drew) := Lib.hid B.out.drew
      replace R : Hid (RowE w7.drew g (marksE k n)) := Lib.hid R.out
      replace z : g < w7.drew.heap.size := z
      go_region_held3 (fun w' => w'.cell? ⟨g, i * 10 + 8, none⟩ = some (.string (markv (K + 8)))) (assumption) (first | (go_at_call 17; refine (hMT.out _ 8 _ (by omega) (by omega)).mono ?_; rintro e w8 ⟨rfl, hb⟩; have d8 := kept_cellE hb z c8; replace B := Lib.hid (btE B.out hb); replace R := Lib.hid (R.out.below hb z); replace z := Nat.lt_of_lt_of_le z hb.size; clear hb))
      clear c0 c1 c2 c3 c4 c5 c6 c7 c8 c9
      obtain ⟨c0, c1, c2, c3, c4, c5, c6, c7, c8, c9⟩ := R.out.ten HG.out
      simp only [markEnt] at c0 c1 c2 c3 c4 c5 c6 c7 c8 c9
      go_wp2_with fail
      replace B : Hid (Below w.heap.size w w8.drew) := Lib.hid B.out.drew
      replace R : Hid (RowE w8.drew g (marksE k n)) := Lib.hid R.out
      replace z : g < w8.drew.heap.size := z
      go_region_held3 (fun w' => w'.cell? ⟨g, i * 10 + 9, none⟩ = some (.string (markv (K + 9)))) (assumption) (first | (go_at_call 17; refine (hMT.out _ 9 _ (by omega) (by omega)).mono ?_; rintro e w9 ⟨rfl, hb⟩; have d9 := kept_cellE hb z c9; replace B := Lib.hid (btE B.out hb); replace R := Lib.hid (R.out.below hb z); replace z := Nat.lt_of_lt_of_le z hb.size; clear hb))
      clear c0 c1 c2 c3 c4 c5 c6 c7 c8 c9
      go_wp2_with fail
      go_roundw
      case rel => exact ⟨i + 1, by omega, by go_num, by go_num, B.out⟩
      case measure => simp [intOf]; omega
    · obtain rfl : i = n := by omega
      have hlt2 : ¬ (i : Int) < (i : Int) := by omega
      go_wp2_with fail
      go_ret
      exact ⟨rfl, B0.out⟩
end Go.Proofs.YtancidbbkoeokaaGreatDoor

/- Contract of impl.Parts. -/
namespace Go.Proofs.YtancidbbkoeokaaGreatDoor
open Go.RowKit Go.Shelf

theorem OwnL.keep {w w' : World} {base : Nat} {v : Value} {l : List ByteArray} (h : OwnL w base v l) (hb : Below w.heap.size w w') : OwnL w' base v l := by
  obtain ⟨ho, g, cap, rfl⟩ := h
  exact ⟨OwnT.below ho hb (World.ownsRow.lt ho g rfl).2, g, cap, rfl⟩
theorem OwnT.rebase {w : World} {base g n cap : Nat} {xs : List Value} (h : OwnT w base (.slice (some ⟨g, 0, none⟩) n cap) n xs) : OwnT w g (.slice (some ⟨g, 0, none⟩) n cap) n xs := by
  refine ⟨h.1, ?_⟩
  rcases h.2 with ⟨h', _⟩ | ⟨g', cap', cur, h', _, hgg, rest⟩
  · simp at h'
  · simp only [Value.slice.injEq, Option.some.injEq, Addr.mk.injEq, and_true, true_and] at h'
    obtain ⟨rfl, rfl⟩ := h'
    exact .inr ⟨g, cap, cur, rfl, Nat.le_refl _, hgg, rest⟩

attribute [local go_sem] Oper.semAt_some

end Go.Proofs.YtancidbbkoeokaaGreatDoor

/- What a row of texts of a call's own gives, in one piece; rows of texts behind a call that writes another block. -/
namespace Go.Proofs.YtancidbbkoeokaaGreatDoor
open Go.ChangeShapes Go.WideShapes Go.ChangeAt Go.RowKit

theorem OwnL.open {w : World} {base : Nat} {v : Value} {L : List ByteArray} (h : OwnL w base v L) : ∃ g cap, v = .slice (some ⟨g, 0, none⟩) L.length cap ∧ RowF w g L.length (rowOf L) ∧ g < w.heap.size ∧ base ≤ g ∧ OwnT w g (.slice (some ⟨g, 0, none⟩) L.length cap) L.length (strVals L) := by
  obtain ⟨ho, g, cap, rfl⟩ := h
  exact ⟨g, cap, rfl, ho.rowF, (World.ownsRow.lt ho g rfl).2, (World.ownsRow.lt ho g rfl).1, ho.rebase⟩
theorem RowF.grown {w w' : World} {g n : Nat} {row : Option Nat} {R : Nat → ByteArray} (h : RowF w g n R) (hb : w.grownBy w' row) (hg : some g ≠ row) : RowF w' g n R :=
  fun i hi => hb.cell (h i hi) hg
theorem OwnT.grown {w w' : World} {base g n cap : Nat} {row : Option Nat} {xs : List Value} (h : OwnT w base (.slice (some ⟨g, 0, none⟩) n cap) n xs) (hb : w.grownBy w' row) (hg : some g ≠ row) : OwnT w' base (.slice (some ⟨g, 0, none⟩) n cap) n xs :=
  World.ownsRow.kept h hb (.inr (by simpa [Value.ownBlock] using hg))
theorem someNe {a b : Nat} (h : a ≠ b) : some a ≠ some b := fun e => h (Option.some.inj e)
end Go.Proofs.YtancidbbkoeokaaGreatDoor

/- The law laws.FnExactGetUstar returns true. -/
namespace Go.Proofs.YtancidbbkoeokaaGreatDoor
open Go.ChangeShapes Go.WideShapes Go.ChangeAt Go.RowKit Go.Deep

theorem outU_len (R : ERdr) (E : Nat → Bool × Int) : ∀ (f : Nat) (Q : List Ent) (p : Nat), (outU R E f Q p).1.length ≤ Q.length + f := by
  intro f
  induction f with
  | zero => intro Q p; exact Nat.le_refl _
  | succ f ih =>
    intro Q p
    rw [outU]
    by_cases h1 : (E p).1 = true
    · rw [if_pos h1]; exact Nat.le_add_right _ _
    rw [if_neg h1]
    by_cases h2 : ¬ (R p).2.2 = 0
    · rw [if_pos h2]; exact Nat.le_add_right _ _
    rw [if_neg h2]
    have h5 := ih (Q ++ [(R p).1]) (R p).2.1.toNat
    rw [List.length_append, List.length_singleton] at h5
    omega
theorem ustV_len (s : ByteArray) : (ustV s).1.length ≤ s.size + 1 := by
  have h2 := outU_len (oneR s) (endV s) (s.size + 1) [] 0
  rw [List.length_nil, Nat.zero_add] at h2
  exact h2
set_option maxHeartbeats 3200000 in
set_option maxRecDepth 8000 in
theorem getUstar_law (s : ByteArray) (w : World) (ht : Tabs w) (hf : FW w) (hh : Handle w) :
    Calls Tryz.prog 3 #[.string s] w fun e w' => e = .returned (.bool true) ∧ Below w.heap.size w w' := by
  by_cases hs : (1048576 : Int) < (s.size : Int)
  · go_enter Tryz.func3, Tryz.ntmps3
    go_wp2_with fail
    go_ret
    exact ⟨rfl, Below.refl _ _⟩
  have S1 := Lib.hid (fun w => getUstar_spec s w (by omega))
  have S2 := Lib.hid (fun w h hf hh => getUstar_impl s w (by omega) h hf hh)
  have HT := Lib.hid ht
  have HFw := Lib.hid hf
  have HHd := Lib.hid hh
  have hD := ustV_len s
  clear ht hf hh
  generalize (ustV s).2 = c at *
  generalize (ustV s).1 = D at *
  have qe : (c != c) = false := by simp
  have HE := Lib.hid (fun g g2 ca cb w hg hg2 h1 h2 => eqEntryS_any D D.length g g2 ca cb w rfl (by omega) hg hg2 h1 h2)
  have HM := Lib.hid (fun g ca base w h => markEntryS_any D.length g ca 1 base (entVals D) w (by omega) (by omega) h)
  have HH := Lib.hid (fun g ca w hg h => heldEntryS_any D.length g ca 1 w (by omega) (by omega) hg h)
  have qm : ¬ ((1 + D.length * 10 : Nat) : Int) < 0 := by omega
  have B : Hid (Below w.heap.size w w) := Lib.hid (Below.refl _ _)
  go_enter Tryz.func3, Tryz.ntmps3
  go_wp2_with fail
  refine (S1.out _).mono ?_
  rintro e w3 ⟨v, rfl, ho, hb⟩
  obtain ⟨gw, cw, rfl, hr, zw, hbase, _, hown⟩ := ho.open
  have Rw := Lib.hid hr
  clear ho hr hown hbase
  replace B := Lib.hid (btE B.out hb)
  clear hb
  go_wp2_with fail
  refine (S2.out _ (HT.out.below B.out) (HFw.out.below B.out) (HHd.out.below B.out)).mono ?_
  rintro e w5 ⟨v2, rfl, ho, hb⟩
  obtain ⟨gg, cg, rfl, hr, zg, hbase, _, hown⟩ := ho.open
  have Rg := Lib.hid hr
  have Og := Lib.hid hown
  have hwg : gw ≠ gg := by omega
  have hgB : w.heap.size ≤ gg := by have := B.out.size; omega
  clear ho hr hown hbase
  replace B := Lib.hid (btE B.out hb)
  replace Rw := Lib.hid (Rw.out.below hb zw)
  replace zw := Nat.lt_of_lt_of_le zw hb.size
  clear hb
  go_wp2_with fail
  refine (HE.out gg gw cg cw _ zg zw Rg.out Rw.out).mono ?_
  rintro e w10 ⟨rfl, hb⟩
  replace B := Lib.hid (btE B.out hb)
  replace Og := Lib.hid (own_below Og.out hb)
  replace Rw := Lib.hid (Rw.out.below hb zw)
  replace zw := Nat.lt_of_lt_of_le zw hb.size
  replace Rg := Lib.hid (Rg.out.below hb zg)
  replace zg := Nat.lt_of_lt_of_le zg hb.size
  clear hb
  go_wp2_with fail
  refine (HM.out gg cg _ _ Og.out).mono ?_
  rintro e w11 ⟨rfl, _, hrm, hg⟩
  replace B : Hid (Below w.heap.size w w11) := Lib.hid (B.out.grown hg B.out.size (fun k hk => by cases hk; omega))
  replace Rw := Lib.hid (Rw.out.grown hg (someNe (by omega)))
  replace zw := Nat.lt_of_lt_of_le zw hg.size
  clear Rg Og
  have Rg := Lib.hid hrm
  replace zg := Nat.lt_of_lt_of_le zg hg.size
  clear hg hrm
  go_wp2_with fail
  refine (HH.out gg cg _ zg Rg.out).mono ?_
  rintro e w12 ⟨rfl, hb⟩
  replace B := Lib.hid (btE B.out hb)
  replace Rw := Lib.hid (Rw.out.below hb zw)
  replace zw := Nat.lt_of_lt_of_le zw hb.size
  replace Rg := Lib.hid (Rg.out.below hb zg)
  replace zg := Nat.lt_of_lt_of_le zg hb.size
  clear hb
  go_wp2_with fail
  refine (S2.out _ (HT.out.below B.out) (HFw.out.below B.out) (HHd.out.below B.out)).mono ?_
  rintro e w14 ⟨v3, rfl, ho, hb⟩
  obtain ⟨gh, ch, rfl, hr, zh, hbase, _, hown⟩ := ho.open
  have Rh := Lib.hid hr
  clear ho hr hown hbase
  replace B := Lib.hid (btE B.out hb)
  replace Rw := Lib.hid (Rw.out.below hb zw)
  replace zw := Nat.lt_of_lt_of_le zw hb.size
  replace Rg := Lib.hid (Rg.out.below hb zg)
  replace zg := Nat.lt_of_lt_of_le zg hb.size
  clear hb
  go_wp2_with fail
  refine (HE.out gh gw ch cw _ zh zw Rh.out Rw.out).mono ?_
  rintro e w15 ⟨rfl, hb⟩
  replace B := Lib.hid (btE B.out hb)
  replace Rg := Lib.hid (Rg.out.below hb zg)
  replace zg := Nat.lt_of_lt_of_le zg hb.size
  clear hb Rw zw Rh zh
  go_wp2_with fail
  refine (HH.out gg cg _ zg Rg.out).mono ?_
  rintro e w16 ⟨rfl, hb⟩
  replace B := Lib.hid (btE B.out hb)
  clear hb
  go_wp2_with fail
  go_ret
  exact ⟨rfl, B.out⟩
end Go.Proofs.YtancidbbkoeokaaGreatDoor
