/- Contract of impl.PutNew. -/
import Derived.Test.YtcnmbolmgifgfaaDoorNewDig
namespace Go.Proofs.YtcnmbolmgifgfaaDoor
open Go.ChangeShapes Go.WideShapes Go.ChangeAt Go.RowKit Go.Deep

theorem numsN_of {w : World} {gh : Nat} {ino mo u1 gi cn t z0 z1 z2 z3 ps ds sm : Int} {p d : ByteArray} {ty : TypeId} (h : w.heap[gh]? = some (.cells #[.int .i64 ino, .int .i64 mo, .int .i64 u1, .int .i64 gi, .int .i64 cn, .int .i64 t, .string p, .string d, .int .i64 ds, .int .i64 z0, .int .i64 z1, .int .i64 z2, .int .i64 z3, .int .i64 ps, .int .i64 sm] ty (0, 0))) : NumsN w gh [ino, mo, u1, gi, cn, t, ds, z0, z1, z2, z3, ps, sm] := by
  intro i x hx
  simp only [World.cell?, h]
  match i, hx with
  | 0, hx => simp [offn] at hx ⊢; simp [← hx]
  | 1, hx => simp [offn] at hx ⊢; simp [← hx]
  | 2, hx => simp [offn] at hx ⊢; simp [← hx]
  | 3, hx => simp [offn] at hx ⊢; simp [← hx]
  | 4, hx => simp [offn] at hx ⊢; simp [← hx]
  | 5, hx => simp [offn] at hx ⊢; simp [← hx]
  | 6, hx => simp [offn] at hx ⊢; simp [← hx]
  | 7, hx => simp [offn] at hx ⊢; simp [← hx]
  | 8, hx => simp [offn] at hx ⊢; simp [← hx]
  | 9, hx => simp [offn] at hx ⊢; simp [← hx]
  | 10, hx => simp [offn] at hx ⊢; simp [← hx]
  | 11, hx => simp [offn] at hx ⊢; simp [← hx]
  | 12, hx => simp [offn] at hx ⊢; simp [← hx]
  | i + 13, hx => simp at hx
theorem newText_ok {c : Card} {crc : Bool} (h : hexOk (nFl c crc) = true) : newTextv c crc = mgN crc ++ hexS (nFl c crc) ++ c.Path ++ ⟨#[0]⟩ ++ nulN (pad4 (111 + c.Path.size)) ++ c.Data ++ nulN (pad4 c.Data.size) := by rw [newTextv, if_pos h]
theorem newText_no {c : Card} {crc : Bool} (h : hexOk (nFl c crc) = false) : newTextv c crc = ⟨#[]⟩ := by rw [newTextv, h]; rfl
set_option maxHeartbeats 6400000 in
set_option maxRecDepth 8000 in
theorem putNew_impl (ino mo u1 gi cn t : Int) (p d : ByteArray) (crc : Bool) (w : World) (hp : p.size ≤ 4194304) (hd : d.size ≤ 4194304) (hT : Tabs w) :
    Calls Tryd.prog 7 #[.agg #[.int .i64 ino, .int .i64 mo, .int .i64 u1, .int .i64 gi, .int .i64 cn, .int .i64 t, .string p, .string d], .bool crc] w fun e w' => e = .returned (.string (newTextv ⟨ino, mo, u1, gi, cn, t, p, d⟩ crc)) ∧ Below w.heap.size w w' := by
  have HMg := Lib.hid (fun w => magicN_any crc w)
  have hmz := mgN_size crc
  have HSm := Lib.hid (fun w => sumC_any d crc w hd)
  have HDg := Lib.hid (fun gh w hg hN hT => digitsN_any (nFl ⟨ino, mo, u1, gi, cn, t, p, d⟩ crc) gh w rfl hg hN hT)
  have HD1 := Lib.hid (digN_bad (L := nFl ⟨ino, mo, u1, gi, cn, t, p, d⟩ crc))
  have HD2 := Lib.hid (digN_ok (L := nFl ⟨ino, mo, u1, gi, cn, t, p, d⟩ crc))
  have HV1 := Lib.hid (newText_no (c := ⟨ino, mo, u1, gi, cn, t, p, d⟩) (crc := crc))
  have HV2 := Lib.hid (newText_ok (c := ⟨ino, mo, u1, gi, cn, t, p, d⟩) (crc := crc))
  have HT := Lib.hid hT
  have HHx := Lib.hid ((hexS_le (nFl ⟨ino, mo, u1, gi, cn, t, p, d⟩ crc)).1)
  have HNs : Hid (∀ (w : World) (gh : Nat), w.heap[gh]? = some (.cells #[.int .i64 ino, .int .i64 mo, .int .i64 u1, .int .i64 gi, .int .i64 cn, .int .i64 t, .string p, .string d, .int .i64 (d.size : Int), .int .i64 0, .int .i64 0, .int .i64 0, .int .i64 0, .int .i64 ((p.size : Int) + 1), .int .i64 (sumN crc d)] 38 (0, 0)) → NumsN w gh (nFl ⟨ino, mo, u1, gi, cn, t, p, d⟩ crc)) := Lib.hid (fun w gh h => numsN_of h)
  have hln : (nFl ⟨ino, mo, u1, gi, cn, t, p, d⟩ crc).length = 13 := rfl
  simp only at HV2
  generalize newTextv ⟨ino, mo, u1, gi, cn, t, p, d⟩ crc = r at HV1 HV2
  generalize digN (nFl ⟨ino, mo, u1, gi, cn, t, p, d⟩ crc) = E at HDg HD1 HD2
  generalize hexOk (nFl ⟨ino, mo, u1, gi, cn, t, p, d⟩ crc) = ok at HD1 HD2 HV1 HV2
  generalize hexS (nFl ⟨ino, mo, u1, gi, cn, t, p, d⟩ crc) = hx at HD2 HV2 HHx
  have hhx : hx.size ≤ 104 := by have := HHx.out; omega
  generalize nFl ⟨ino, mo, u1, gi, cn, t, p, d⟩ crc = L at HDg HNs HHx hln
  generalize sumN crc d = sm at HSm HNs
  generalize mgN crc = mg at HMg HV2 hmz
  have hq1 := pad4_le (111 + p.size)
  have hq2 := pad4_le d.size
  have HN1 := Lib.hid (fun w => nuls_any (111 + p.size) w (by omega))
  rw [show ((111 + p.size : Nat) : Int) = 110 + ((p.size : Int) + 1) from by omega] at HN1
  have HN2 := Lib.hid (fun w => nuls_any d.size w (by omega))
  have hz1 := nulN_size (pad4 (111 + p.size))
  have hz2 := nulN_size (pad4 d.size)
  generalize nulN (pad4 (111 + p.size)) = nu1 at *
  generalize nulN (pad4 d.size) = nu2 at *
  have y4 : nu1.size ≤ 3 := by omega
  have y5 : nu2.size ≤ 3 := by omega
  have z1 : (⟨#[0]⟩ : ByteArray).size = 1 := rfl
  clear hq1 hq2 hz1 hz2 hT HHx hln
  go_enter Tryd.func7, Tryd.ntmps7
  go_upto_region 1 with fail
  generalize hw1 : World.alloc w _ = w1
  have XC : Hid (CardO w1 w.heap.size ⟨ino, mo, u1, gi, cn, t, p, d⟩) := Lib.hid (by rw [← hw1]; exact CardO.new w ⟨ino, mo, u1, gi, cn, t, p, d⟩)
  have B1 : Hid (Below w.heap.size w w1) := Lib.hid (by rw [← hw1]; exact (Below.refl _ _).alloc (Nat.le_refl _) _)
  have hs1 : w1.heap.size = w.heap.size + 1 := by rw [← hw1]; simp
  clear hw1
  have KC : Hid (∀ w', Below w1.heap.size w1 w' → w'.cell? ⟨w.heap.size, 0, none⟩ = some (.int .i64 ino) ∧ w'.cell? ⟨w.heap.size, 1, none⟩ = some (.int .i64 mo) ∧ w'.cell? ⟨w.heap.size, 2, none⟩ = some (.int .i64 u1) ∧ w'.cell? ⟨w.heap.size, 3, none⟩ = some (.int .i64 gi) ∧ w'.cell? ⟨w.heap.size, 4, none⟩ = some (.int .i64 cn) ∧ w'.cell? ⟨w.heap.size, 5, none⟩ = some (.int .i64 t) ∧ w'.cell? ⟨w.heap.size, 6, none⟩ = some (.string p) ∧ w'.cell? ⟨w.heap.size, 7, none⟩ = some (.string d)) := Lib.hid (fun w' hb => (XC.out.below hb (by omega)).at.zero)
  refine wp_region_cut 14 (by kernel_rfl) (fun w' => Below w1.heap.size w1 w') (fun x y => Below x.heap.size x y) (vBxG 5 38 w1.heap.size #[.int .i64 0, .int .i64 0, .int .i64 0, .int .i64 0, .int .i64 0, .int .i64 0, .string ⟨#[]⟩, .string ⟨#[]⟩, .int .i64 0, .int .i64 0, .int .i64 0, .int .i64 0, .int .i64 0, .int .i64 0, .int .i64 0] (fun dq vq => match dq with | 8 => vq = .agg #[.int .i64 ino, .int .i64 mo, .int .i64 u1, .int .i64 gi, .int .i64 cn, .int .i64 t, .string p, .string d] | 9 => vq = .pointer (some ⟨w.heap.size, 7, none⟩) | 10 => vq = .string d | 11 => vq = .int .i64 (d.size : Int) | 12 => vq = .pointer (some ⟨w.heap.size, 6, none⟩) | 13 => vq = .string p | 14 => vq = .int .i64 (p.size : Int) | 15 => vq = .int .i64 ((p.size : Int) + 1) | 16 => vq = .pointer (some ⟨w.heap.size, 7, none⟩) | 17 => vq = .string d | 18 => vq = .bool crc | 19 => vq = .int .i64 sm | 20 => vq = .agg #[.int .i64 ino, .int .i64 mo, .int .i64 u1, .int .i64 gi, .int .i64 cn, .int .i64 t, .string p, .string d, .int .i64 (d.size : Int), .int .i64 0, .int .i64 0, .int .i64 0, .int .i64 0, .int .i64 ((p.size : Int) + 1), .int .i64 sm] | _ => True)) (by kernel_rfl) (by kernel_rfl) ((Below.refl _ _).drew) (vBxG_keep _ _ _ _ _) (by simp) ?hops ?hend
  case hops =>
    simp only [List.take_succ_cons, List.take_zero, List.forall_mem_cons]
    refine ⟨?o8, ?o9, ?o10, ?o11, ?o12, ?o13, ?o14, ?o15, ?o16, ?o17, ?o18, ?o19, ?o20, ?o5, fun _ h => by cases h⟩
    case o8 =>
      intro Q a w2 hC hV hI
      have e2 : a.eval (.tmp 2) = .pointer (some ⟨w.heap.size, 0, none⟩) := (hI 2 (by simp [Op.operands]) (by kernel_rfl)).trans rfl
      have f2 : a.tmps.getD 2 undef = .pointer (some ⟨w.heap.size, 0, none⟩) := e2
      have g2 : a.tmps[2]?.getD undef = .pointer (some ⟨w.heap.size, 0, none⟩) := by rw [← Array.getD_eq_getD_getElem?]; exact e2
      have hK := KC.out w2 hC
      refine op_val (.agg #[.int .i64 ino, .int .i64 mo, .int .i64 u1, .int .i64 gi, .int .i64 cn, .int .i64 t, .string p, .string d]) ?_ hC (Below.refl _ _) (by intro d hd; cases hd; exact rfl)
      (clear hV hI hC; go_simp <;> (first | rfl | simp | (rw [IntKind.wrap_i64]; omega)))
    case o9 =>
      intro Q a w2 hC hV hI
      have e2 : a.eval (.tmp 2) = .pointer (some ⟨w.heap.size, 0, none⟩) := (hI 2 (by simp [Op.operands]) (by kernel_rfl)).trans rfl
      have f2 : a.tmps.getD 2 undef = .pointer (some ⟨w.heap.size, 0, none⟩) := e2
      have g2 : a.tmps[2]?.getD undef = .pointer (some ⟨w.heap.size, 0, none⟩) := by rw [← Array.getD_eq_getD_getElem?]; exact e2
      refine op_val (.pointer (some ⟨w.heap.size, 7, none⟩)) ?_ hC (Below.refl _ _) (by intro d hd; cases hd; exact rfl)
      (clear hV hI hC; go_simp <;> (first | rfl | simp | (rw [IntKind.wrap_i64]; omega)))
    case o10 =>
      intro Q a w2 hC hV hI
      have e9 : a.eval (.tmp 9) = .pointer (some ⟨w.heap.size, 7, none⟩) := hV 9 (by simp [Op.operands]) (by kernel_rfl)
      have f9 : a.tmps.getD 9 undef = .pointer (some ⟨w.heap.size, 7, none⟩) := e9
      have g9 : a.tmps[9]?.getD undef = .pointer (some ⟨w.heap.size, 7, none⟩) := by rw [← Array.getD_eq_getD_getElem?]; exact e9
      have hK := KC.out w2 hC
      refine op_val (.string d) ?_ hC (Below.refl _ _) (by intro d hd; cases hd; exact rfl)
      (clear hV hI hC; go_simp <;> (first | rfl | simp | (rw [IntKind.wrap_i64]; omega)))
    case o11 =>
      intro Q a w2 hC hV hI
      have e10 : a.eval (.tmp 10) = .string d := hV 10 (by simp [Op.operands, Call.operands]) (by kernel_rfl)
      have f10 : a.tmps.getD 10 undef = .string d := e10
      have g10 : a.tmps[10]?.getD undef = .string d := by rw [← Array.getD_eq_getD_getElem?]; exact e10
      refine op_val (.int .i64 (d.size : Int)) ?_ hC (Below.refl _ _) (by intro d hd; cases hd; exact rfl)
      (clear hV hI hC; go_simp <;> (first | rfl | simp | (rw [IntKind.wrap_i64]; omega)))
    case o12 =>
      intro Q a w2 hC hV hI
      have e2 : a.eval (.tmp 2) = .pointer (some ⟨w.heap.size, 0, none⟩) := (hI 2 (by simp [Op.operands]) (by kernel_rfl)).trans rfl
      have f2 : a.tmps.getD 2 undef = .pointer (some ⟨w.heap.size, 0, none⟩) := e2
      have g2 : a.tmps[2]?.getD undef = .pointer (some ⟨w.heap.size, 0, none⟩) := by rw [← Array.getD_eq_getD_getElem?]; exact e2
      refine op_val (.pointer (some ⟨w.heap.size, 6, none⟩)) ?_ hC (Below.refl _ _) (by intro d hd; cases hd; exact rfl)
      (clear hV hI hC; go_simp <;> (first | rfl | simp | (rw [IntKind.wrap_i64]; omega)))
    case o13 =>
      intro Q a w2 hC hV hI
      have e12 : a.eval (.tmp 12) = .pointer (some ⟨w.heap.size, 6, none⟩) := hV 12 (by simp [Op.operands]) (by kernel_rfl)
      have f12 : a.tmps.getD 12 undef = .pointer (some ⟨w.heap.size, 6, none⟩) := e12
      have g12 : a.tmps[12]?.getD undef = .pointer (some ⟨w.heap.size, 6, none⟩) := by rw [← Array.getD_eq_getD_getElem?]; exact e12
      have hK := KC.out w2 hC
      refine op_val (.string p) ?_ hC (Below.refl _ _) (by intro d hd; cases hd; exact rfl)
      (clear hV hI hC; go_simp <;> (first | rfl | simp | (rw [IntKind.wrap_i64]; omega)))
    case o14 =>
      intro Q a w2 hC hV hI
      have e13 : a.eval (.tmp 13) = .string p := hV 13 (by simp [Op.operands, Call.operands]) (by kernel_rfl)
      have f13 : a.tmps.getD 13 undef = .string p := e13
      have g13 : a.tmps[13]?.getD undef = .string p := by rw [← Array.getD_eq_getD_getElem?]; exact e13
      refine op_val (.int .i64 (p.size : Int)) ?_ hC (Below.refl _ _) (by intro d hd; cases hd; exact rfl)
      (clear hV hI hC; go_simp <;> (first | rfl | simp | (rw [IntKind.wrap_i64]; omega)))
    case o15 =>
      intro Q a w2 hC hV hI
      have e14 : a.eval (.tmp 14) = .int .i64 (p.size : Int) := hV 14 (by simp [Op.operands]) (by kernel_rfl)
      have f14 : a.tmps.getD 14 undef = .int .i64 (p.size : Int) := e14
      have g14 : a.tmps[14]?.getD undef = .int .i64 (p.size : Int) := by rw [← Array.getD_eq_getD_getElem?]; exact e14
      have q9 := add_i64 (P := Tryd.prog) (a := (p.size : Int)) (b := 1) w2 3 (by omega) (by omega)
      refine op_val (.int .i64 ((p.size : Int) + 1)) ?_ hC (Below.refl _ _) (by intro d hd; cases hd; exact rfl)
      (clear hV hI hC; go_simp <;> (first | rfl | simp | (rw [IntKind.wrap_i64]; omega)))
    case o16 =>
      intro Q a w2 hC hV hI
      have e2 : a.eval (.tmp 2) = .pointer (some ⟨w.heap.size, 0, none⟩) := (hI 2 (by simp [Op.operands]) (by kernel_rfl)).trans rfl
      have f2 : a.tmps.getD 2 undef = .pointer (some ⟨w.heap.size, 0, none⟩) := e2
      have g2 : a.tmps[2]?.getD undef = .pointer (some ⟨w.heap.size, 0, none⟩) := by rw [← Array.getD_eq_getD_getElem?]; exact e2
      refine op_val (.pointer (some ⟨w.heap.size, 7, none⟩)) ?_ hC (Below.refl _ _) (by intro d hd; cases hd; exact rfl)
      (clear hV hI hC; go_simp <;> (first | rfl | simp | (rw [IntKind.wrap_i64]; omega)))
    case o17 =>
      intro Q a w2 hC hV hI
      have e16 : a.eval (.tmp 16) = .pointer (some ⟨w.heap.size, 7, none⟩) := hV 16 (by simp [Op.operands]) (by kernel_rfl)
      have f16 : a.tmps.getD 16 undef = .pointer (some ⟨w.heap.size, 7, none⟩) := e16
      have g16 : a.tmps[16]?.getD undef = .pointer (some ⟨w.heap.size, 7, none⟩) := by rw [← Array.getD_eq_getD_getElem?]; exact e16
      have hK := KC.out w2 hC
      refine op_val (.string d) ?_ hC (Below.refl _ _) (by intro d hd; cases hd; exact rfl)
      (clear hV hI hC; go_simp <;> (first | rfl | simp | (rw [IntKind.wrap_i64]; omega)))
    case o18 =>
      intro Q a w2 hC hV hI
      have e1 : a.eval (.tmp 1) = .bool crc := (hI 1 (by simp [Op.operands]) (by kernel_rfl)).trans rfl
      have f1 : a.tmps.getD 1 undef = .bool crc := e1
      have g1 : a.tmps[1]?.getD undef = .bool crc := by rw [← Array.getD_eq_getD_getElem?]; exact e1
      refine op_val (.bool crc) ?_ hC (Below.refl _ _) (by intro d hd; cases hd; exact rfl)
      (clear hV hI hC; go_simp <;> (first | rfl | simp | (rw [IntKind.wrap_i64]; omega)))
    case o19 =>
      intro Q a w2 hC hV hI
      have e17 : a.eval (.tmp 17) = .string d := hV 17 (by simp [Op.operands, Call.operands]) (by kernel_rfl)
      have f17 : a.tmps.getD 17 undef = .string d := e17
      have g17 : a.tmps[17]?.getD undef = .string d := by rw [← Array.getD_eq_getD_getElem?]; exact e17
      have e18 : a.eval (.tmp 18) = .bool crc := hV 18 (by simp [Op.operands, Call.operands]) (by kernel_rfl)
      have f18 : a.tmps.getD 18 undef = .bool crc := e18
      have g18 : a.tmps[18]?.getD undef = .bool crc := by rw [← Array.getD_eq_getD_getElem?]; exact e18
      refine op_call (f := 13) (args := #[.string d, .bool crc]) (R := fun v y => v = .int .i64 sm ∧ w2 = y) ?_ ((HSm.out w2).mono ?_) ?_
      · (clear hV hI hC; go_simp <;> (first | rfl | simp | (rw [IntKind.wrap_i64]; omega)))
      · rintro e y ⟨rfl, rfl⟩; exact ⟨_, rfl, rfl, rfl⟩
      · rintro v y ⟨rfl, rfl⟩; exact ⟨hC, Below.refl _ _, by intro d hd; cases hd; exact rfl⟩
    case o20 =>
      intro Q a w2 hC hV hI
      have e8 : a.eval (.tmp 8) = .agg #[.int .i64 ino, .int .i64 mo, .int .i64 u1, .int .i64 gi, .int .i64 cn, .int .i64 t, .string p, .string d] := hV 8 (by simp [Op.operands]) (by kernel_rfl)
      have f8 : a.tmps.getD 8 undef = .agg #[.int .i64 ino, .int .i64 mo, .int .i64 u1, .int .i64 gi, .int .i64 cn, .int .i64 t, .string p, .string d] := e8
      have g8 : a.tmps[8]?.getD undef = .agg #[.int .i64 ino, .int .i64 mo, .int .i64 u1, .int .i64 gi, .int .i64 cn, .int .i64 t, .string p, .string d] := by rw [← Array.getD_eq_getD_getElem?]; exact e8
      have e11 : a.eval (.tmp 11) = .int .i64 (d.size : Int) := hV 11 (by simp [Op.operands]) (by kernel_rfl)
      have f11 : a.tmps.getD 11 undef = .int .i64 (d.size : Int) := e11
      have g11 : a.tmps[11]?.getD undef = .int .i64 (d.size : Int) := by rw [← Array.getD_eq_getD_getElem?]; exact e11
      have e15 : a.eval (.tmp 15) = .int .i64 ((p.size : Int) + 1) := hV 15 (by simp [Op.operands]) (by kernel_rfl)
      have f15 : a.tmps.getD 15 undef = .int .i64 ((p.size : Int) + 1) := e15
      have g15 : a.tmps[15]?.getD undef = .int .i64 ((p.size : Int) + 1) := by rw [← Array.getD_eq_getD_getElem?]; exact e15
      have e19 : a.eval (.tmp 19) = .int .i64 sm := hV 19 (by simp [Op.operands]) (by kernel_rfl)
      have f19 : a.tmps.getD 19 undef = .int .i64 sm := e19
      have g19 : a.tmps[19]?.getD undef = .int .i64 sm := by rw [← Array.getD_eq_getD_getElem?]; exact e19
      refine op_val (.agg #[.int .i64 ino, .int .i64 mo, .int .i64 u1, .int .i64 gi, .int .i64 cn, .int .i64 t, .string p, .string d, .int .i64 (d.size : Int), .int .i64 0, .int .i64 0, .int .i64 0, .int .i64 0, .int .i64 ((p.size : Int) + 1), .int .i64 sm]) ?_ hC (Below.refl _ _) (by intro d hd; cases hd; exact rfl)
      (clear hV hI hC; go_simp <;> (first | rfl | simp | (rw [IntKind.wrap_i64]; omega)))
    case o5 =>
      intro Q a w2 hC hV hI
      refine op_val (.pointer (some ⟨w2.heap.size, 0, none⟩)) (w' := w2.alloc (.cells #[.int .i64 0, .int .i64 0, .int .i64 0, .int .i64 0, .int .i64 0, .int .i64 0, .string ⟨#[]⟩, .string ⟨#[]⟩, .int .i64 0, .int .i64 0, .int .i64 0, .int .i64 0, .int .i64 0, .int .i64 0, .int .i64 0] 38)) ?_ (hC.alloc hC.size _) ((Below.refl _ _).alloc (Nat.le_refl _) _) ?_
      · (clear hV hI hC; go_simp <;> (first | rfl | simp | (rw [IntKind.wrap_i64]; omega)))
      · intro d hd; cases hd; exact ⟨w2.heap.size, rfl, hC.size, heap_lastG _ _⟩
  case hend =>
    intro f w2 hC hall
    simp only [List.take_succ_cons, List.take_zero, List.drop_succ_cons, List.drop_zero] at hall ⊢
    simp only [List.forall_mem_cons] at hall
    obtain ⟨h8, h9, h10, h11, h12, h13, h14, h15, h16, h17, h18, h19, h20, h5, _⟩ := hall
    replace h8 : f 8 = .agg #[.int .i64 ino, .int .i64 mo, .int .i64 u1, .int .i64 gi, .int .i64 cn, .int .i64 t, .string p, .string d] := h8 8 rfl
    replace h9 : f 9 = .pointer (some ⟨w.heap.size, 7, none⟩) := h9 9 rfl
    replace h10 : f 10 = .string d := h10 10 rfl
    replace h11 : f 11 = .int .i64 (d.size : Int) := h11 11 rfl
    replace h12 : f 12 = .pointer (some ⟨w.heap.size, 6, none⟩) := h12 12 rfl
    replace h13 : f 13 = .string p := h13 13 rfl
    replace h14 : f 14 = .int .i64 (p.size : Int) := h14 14 rfl
    replace h15 : f 15 = .int .i64 ((p.size : Int) + 1) := h15 15 rfl
    replace h16 : f 16 = .pointer (some ⟨w.heap.size, 7, none⟩) := h16 16 rfl
    replace h17 : f 17 = .string d := h17 17 rfl
    replace h18 : f 18 = .bool crc := h18 18 rfl
    replace h19 : f 19 = .int .i64 sm := h19 19 rfl
    replace h20 : f 20 = .agg #[.int .i64 ino, .int .i64 mo, .int .i64 u1, .int .i64 gi, .int .i64 cn, .int .i64 t, .string p, .string d, .int .i64 (d.size : Int), .int .i64 0, .int .i64 0, .int .i64 0, .int .i64 0, .int .i64 ((p.size : Int) + 1), .int .i64 sm] := h20 20 rfl
    obtain ⟨G5, hG5, hGB5, hGO5⟩ : ∃ G, f 5 = .pointer (some ⟨G, 0, none⟩) ∧ w1.heap.size ≤ G ∧ w2.heap[G]? = some (.cells #[.int .i64 0, .int .i64 0, .int .i64 0, .int .i64 0, .int .i64 0, .int .i64 0, .string ⟨#[]⟩, .string ⟨#[]⟩, .int .i64 0, .int .i64 0, .int .i64 0, .int .i64 0, .int .i64 0, .int .i64 0, .int .i64 0] 38 (0, 0)) := h5 5 rfl
    simp only [putAll, Act.put, List.setIfInBounds_toArray, List.set_cons_succ, List.set_cons_zero, h8, h9, h10, h11, h12, h13, h14, h15, h16, h17, h18, h19, h20, hG5]
    clear h8 h9 h10 h11 h12 h13 h14 h15 h16 h17 h18 h19 h20 hG5 h5
    have d0 : w2.cell? ⟨G5, 0, none⟩ = some (.int .i64 0) := by simp [World.cell?, hGO5]
    have d1 : w2.cell? ⟨G5, 1, none⟩ = some (.int .i64 0) := by simp [World.cell?, hGO5]
    have d2 : w2.cell? ⟨G5, 2, none⟩ = some (.int .i64 0) := by simp [World.cell?, hGO5]
    have d3 : w2.cell? ⟨G5, 3, none⟩ = some (.int .i64 0) := by simp [World.cell?, hGO5]
    have d4 : w2.cell? ⟨G5, 4, none⟩ = some (.int .i64 0) := by simp [World.cell?, hGO5]
    have d5 : w2.cell? ⟨G5, 5, none⟩ = some (.int .i64 0) := by simp [World.cell?, hGO5]
    have d6 : w2.cell? ⟨G5, 6, none⟩ = some (.string ⟨#[]⟩) := by simp [World.cell?, hGO5]
    have d7 : w2.cell? ⟨G5, 7, none⟩ = some (.string ⟨#[]⟩) := by simp [World.cell?, hGO5]
    have d8 : w2.cell? ⟨G5, 8, none⟩ = some (.int .i64 0) := by simp [World.cell?, hGO5]
    have d9 : w2.cell? ⟨G5, 9, none⟩ = some (.int .i64 0) := by simp [World.cell?, hGO5]
    have d10 : w2.cell? ⟨G5, 10, none⟩ = some (.int .i64 0) := by simp [World.cell?, hGO5]
    have d11 : w2.cell? ⟨G5, 11, none⟩ = some (.int .i64 0) := by simp [World.cell?, hGO5]
    have d12 : w2.cell? ⟨G5, 12, none⟩ = some (.int .i64 0) := by simp [World.cell?, hGO5]
    have d13 : w2.cell? ⟨G5, 13, none⟩ = some (.int .i64 0) := by simp [World.cell?, hGO5]
    have d14 : w2.cell? ⟨G5, 14, none⟩ = some (.int .i64 0) := by simp [World.cell?, hGO5]
    have f0 : w2.frozen? ⟨G5, 0, none⟩ = false := by simp [World.frozen?, hGO5]
    have f1 : w2.frozen? ⟨G5, 1, none⟩ = false := by simp [World.frozen?, hGO5]
    have f2 : w2.frozen? ⟨G5, 2, none⟩ = false := by simp [World.frozen?, hGO5]
    have f3 : w2.frozen? ⟨G5, 3, none⟩ = false := by simp [World.frozen?, hGO5]
    have f4 : w2.frozen? ⟨G5, 4, none⟩ = false := by simp [World.frozen?, hGO5]
    have f5 : w2.frozen? ⟨G5, 5, none⟩ = false := by simp [World.frozen?, hGO5]
    have f6 : w2.frozen? ⟨G5, 6, none⟩ = false := by simp [World.frozen?, hGO5]
    have f7 : w2.frozen? ⟨G5, 7, none⟩ = false := by simp [World.frozen?, hGO5]
    have f8 : w2.frozen? ⟨G5, 8, none⟩ = false := by simp [World.frozen?, hGO5]
    have f9 : w2.frozen? ⟨G5, 9, none⟩ = false := by simp [World.frozen?, hGO5]
    have f10 : w2.frozen? ⟨G5, 10, none⟩ = false := by simp [World.frozen?, hGO5]
    have f11 : w2.frozen? ⟨G5, 11, none⟩ = false := by simp [World.frozen?, hGO5]
    have f12 : w2.frozen? ⟨G5, 12, none⟩ = false := by simp [World.frozen?, hGO5]
    have f13 : w2.frozen? ⟨G5, 13, none⟩ = false := by simp [World.frozen?, hGO5]
    have f14 : w2.frozen? ⟨G5, 14, none⟩ = false := by simp [World.frozen?, hGO5]
    have hR3 := (heap_setN (i := 14) (v := .int .i64 sm) (heap_setN (i := 13) (v := .int .i64 ((p.size : Int) + 1)) (heap_setN (i := 12) (v := .int .i64 0) (heap_setN (i := 11) (v := .int .i64 0) (heap_setN (i := 10) (v := .int .i64 0) (heap_setN (i := 9) (v := .int .i64 0) (heap_setN (i := 8) (v := .int .i64 (d.size : Int)) (heap_setN (i := 7) (v := .string d) (heap_setN (i := 6) (v := .string p) (heap_setN (i := 5) (v := .int .i64 t) (heap_setN (i := 4) (v := .int .i64 cn) (heap_setN (i := 3) (v := .int .i64 gi) (heap_setN (i := 2) (v := .int .i64 u1) (heap_setN (i := 1) (v := .int .i64 mo) (heap_setN (i := 0) (v := .int .i64 ino) hGO5)))))))))))))))
    have B3 := (((((((((((((((hC.setCell (p := ⟨G5, 0, none⟩) hGB5 (.int .i64 ino)).setCell (p := ⟨G5, 1, none⟩) hGB5 (.int .i64 mo)).setCell (p := ⟨G5, 2, none⟩) hGB5 (.int .i64 u1)).setCell (p := ⟨G5, 3, none⟩) hGB5 (.int .i64 gi)).setCell (p := ⟨G5, 4, none⟩) hGB5 (.int .i64 cn)).setCell (p := ⟨G5, 5, none⟩) hGB5 (.int .i64 t)).setCell (p := ⟨G5, 6, none⟩) hGB5 (.string p)).setCell (p := ⟨G5, 7, none⟩) hGB5 (.string d)).setCell (p := ⟨G5, 8, none⟩) hGB5 (.int .i64 (d.size : Int))).setCell (p := ⟨G5, 9, none⟩) hGB5 (.int .i64 0)).setCell (p := ⟨G5, 10, none⟩) hGB5 (.int .i64 0)).setCell (p := ⟨G5, 11, none⟩) hGB5 (.int .i64 0)).setCell (p := ⟨G5, 12, none⟩) hGB5 (.int .i64 0)).setCell (p := ⟨G5, 13, none⟩) hGB5 (.int .i64 ((p.size : Int) + 1))).setCell (p := ⟨G5, 14, none⟩) hGB5 (.int .i64 sm))
    clear hGO5 KC hC
    go_upto_region 2 with fail
    clear d0 f0 d1 f1 d2 f2 d3 f3 d4 f4 d5 f5 d6 f6 d7 f7 d8 f8 d9 f9 d10 f10 d11 f11 d12 f12 d13 f13 d14 f14
    generalize World.setCell _ ⟨G5, 14, none⟩ _ = w3 at hR3 B3 ⊢
    simp only [List.setIfInBounds_toArray, List.set_cons_succ, List.set_cons_zero] at hR3
    have XC3 := Lib.hid (XC.out.below B3 (by omega))
    have B4 := Lib.hid (B1.out.trans (B3.mono (by omega)))
    have HD := Lib.hid (HDg.out G5 w3 (Array.getElem?_eq_some_iff.1 hR3).1 (HNs.out w3 G5 hR3) (HT.out.below B4.out))
    have hG3 := (Array.getElem?_eq_some_iff.1 hR3).1
    have hs3 := B3.size
    have XH := Lib.hid hR3
    clear hR3 B3 XC B1 HDg HNs HT HSm
    cases ok with
    | false =>
      have HF : Hid (r = ⟨#[]⟩) := Lib.hid (HV1.out rfl)
      rw [HD1.out rfl] at HD
      clear HV1 HV2 HD1 HD2 HMg HN1 HN2 XH XC3
      go_wp2_with fail
      refine HD.out.mono ?_
      rintro e w5 ⟨rfl, hb⟩
      have B5 := Lib.hid (B4.out.trans (hb.mono B4.out.size))
      clear hb B4 HD
      go_wp2_with fail
      go_ret
      exact ⟨by rw [HF.out]; rfl, B5.out⟩
    | true =>
      have HF := Lib.hid (HV2.out rfl)
      rw [HD2.out rfl] at HD
      clear HV1 HV2 HD1 HD2
      go_wp2_with fail
      refine HD.out.mono ?_
      rintro e w5 ⟨rfl, hb⟩
      have XC5 := Lib.hid (XC3.out.below hb (by omega))
      have XH5 := Lib.hid ((hb.block G5 hG3).trans XH.out)
      have B5 := Lib.hid (B4.out.trans (hb.mono B4.out.size))
      have hs5 := hb.size
      clear hb B4 HD XC3 XH
      go_upto_region 5 with fail
      have KC : Hid (∀ w', Below w5.heap.size w5 w' → w'.cell? ⟨w.heap.size, 6, none⟩ = some (.string p) ∧ w'.cell? ⟨w.heap.size, 7, none⟩ = some (.string d) ∧ w'.cell? ⟨G5, 8, none⟩ = some (.int .i64 (d.size : Int)) ∧ w'.cell? ⟨G5, 13, none⟩ = some (.int .i64 ((p.size : Int) + 1))) := Lib.hid (fun w' hb => by
        obtain ⟨k0, k1, k2, k3, k4, k5, k6, k7⟩ := (XC5.out.below hb (by omega)).at.zero
        have h9 := (hb.block G5 (by omega)).trans XH5.out
        exact ⟨k6, k7, by simp [World.cell?, h9], by simp [World.cell?, h9]⟩)
      obtain ⟨x30, hx30⟩ : ∃ x : ByteArray, x = mg ++ hx := ⟨_, rfl⟩
      obtain ⟨x33, hx33⟩ : ∃ x : ByteArray, x = x30 ++ p := ⟨_, rfl⟩
      obtain ⟨x34, hx34⟩ : ∃ x : ByteArray, x = x33 ++ ⟨#[0]⟩ := ⟨_, rfl⟩
      obtain ⟨x39, hx39⟩ : ∃ x : ByteArray, x = x34 ++ nu1 := ⟨_, rfl⟩
      obtain ⟨x42, hx42⟩ : ∃ x : ByteArray, x = x39 ++ d := ⟨_, rfl⟩
      obtain ⟨x46, hx46⟩ : ∃ x : ByteArray, x = x42 ++ nu2 := ⟨_, rfl⟩
      have zx30 : x30.size ≤ 110 := by rw [hx30, ByteArray.size_append]; omega
      have zx33 : x33.size ≤ 4194414 := by rw [hx33, ByteArray.size_append]; omega
      have zx34 : x34.size ≤ 4194415 := by rw [hx34, ByteArray.size_append]; omega
      have zx39 : x39.size ≤ 4194418 := by rw [hx39, ByteArray.size_append]; omega
      have zx42 : x42.size ≤ 8388722 := by rw [hx42, ByteArray.size_append]; omega
      have zx46 : x46.size ≤ 8388725 := by rw [hx46, ByteArray.size_append]; omega
      have HA30 : Hid (∀ w, (Op.stringOp .add mg hx).run Tryd.prog w = .ok (.string x30) w) := Lib.hid (fun w => by rw [hx30]; exact run_string_add_sum w _ _ (by omega))
      have HA33 : Hid (∀ w, (Op.stringOp .add x30 p).run Tryd.prog w = .ok (.string x33) w) := Lib.hid (fun w => by rw [hx33]; exact run_string_add_sum w _ _ (by omega))
      have HA34 : Hid (∀ w, (Op.stringOp .add x33 ⟨#[0]⟩).run Tryd.prog w = .ok (.string x34) w) := Lib.hid (fun w => by rw [hx34]; exact run_string_add_sum w _ _ (by omega))
      have HA39 : Hid (∀ w, (Op.stringOp .add x34 nu1).run Tryd.prog w = .ok (.string x39) w) := Lib.hid (fun w => by rw [hx39]; exact run_string_add_sum w _ _ (by omega))
      have HA42 : Hid (∀ w, (Op.stringOp .add x39 d).run Tryd.prog w = .ok (.string x42) w) := Lib.hid (fun w => by rw [hx42]; exact run_string_add_sum w _ _ (by omega))
      have HA46 : Hid (∀ w, (Op.stringOp .add x42 nu2).run Tryd.prog w = .ok (.string x46) w) := Lib.hid (fun w => by rw [hx46]; exact run_string_add_sum w _ _ (by omega))
      have HX30 := Lib.hid hx30
      have HX33 := Lib.hid hx33
      have HX34 := Lib.hid hx34
      have HX39 := Lib.hid hx39
      have HX42 := Lib.hid hx42
      have HX46 := Lib.hid hx46
      clear hx30 hx33 hx34 hx39 hx42 hx46
      refine wp_region_inv (by kernel_rfl) (fun w' => Below w5.heap.size w5 w') (fun x y => Below x.heap.size x y) (fun dq vq _ => match dq with | 27 => vq = .bool crc | 28 => vq = .string mg | 29 => vq = .string hx | 30 => vq = .string x30 | 31 => vq = .pointer (some ⟨w.heap.size, 6, none⟩) | 32 => vq = .string p | 33 => vq = .string x33 | 34 => vq = .string x34 | 35 => vq = .pointer (some ⟨G5, 13, none⟩) | 36 => vq = .int .i64 ((p.size : Int) + 1) | 37 => vq = .int .i64 (110 + ((p.size : Int) + 1)) | 38 => vq = .string nu1 | 39 => vq = .string x39 | 40 => vq = .pointer (some ⟨w.heap.size, 7, none⟩) | 41 => vq = .string d | 42 => vq = .string x42 | 43 => vq = .pointer (some ⟨G5, 8, none⟩) | 44 => vq = .int .i64 (d.size : Int) | 45 => vq = .string nu2 | 46 => vq = .string x46 | 4 => vq = .string x46 | _ => True) (by kernel_rfl) ((Below.refl _ _).drew) (fun _ _ _ _ _ _ h => h) ?hops ?hend
      case hops =>
        simp only [List.forall_mem_cons]
        refine ⟨?o27, ?o28, ?o29, ?o30, ?o31, ?o32, ?o33, ?o34, ?o35, ?o36, ?o37, ?o38, ?o39, ?o40, ?o41, ?o42, ?o43, ?o44, ?o45, ?o46, ?o4, fun _ h => by cases h⟩
        case o27 =>
          intro Q a w2 hC hV hI
          have e1 : a.eval (.tmp 1) = .bool crc := (hI 1 (by simp [Op.operands]) (by kernel_rfl)).trans rfl
          have f1 : a.tmps.getD 1 undef = .bool crc := e1
          have g1 : a.tmps[1]?.getD undef = .bool crc := by rw [← Array.getD_eq_getD_getElem?]; exact e1
          refine op_val (.bool crc) ?_ hC (Below.refl _ _) (by intro d hd; cases hd; rfl)
          (clear hV hI hC; go_simp <;> (first | rfl | simp | (rw [IntKind.wrap_i64]; omega)))
        case o28 =>
          intro Q a w2 hC hV hI
          have e27 : a.eval (.tmp 27) = .bool crc := hV 27 (by simp [Op.operands, Call.operands]) (by kernel_rfl)
          have f27 : a.tmps.getD 27 undef = .bool crc := e27
          have g27 : a.tmps[27]?.getD undef = .bool crc := by rw [← Array.getD_eq_getD_getElem?]; exact e27
          refine op_call (f := 15) (args := #[.bool crc]) (R := fun v y => v = .string mg ∧ w2 = y) ?_ ((HMg.out w2).mono ?_) ?_
          · (clear hV hI hC; go_simp <;> (first | rfl | simp | (rw [IntKind.wrap_i64]; omega)))
          · rintro e y ⟨rfl, rfl⟩; exact ⟨_, rfl, rfl, rfl⟩
          · rintro v y ⟨rfl, rfl⟩; exact ⟨hC, Below.refl _ _, by intro d hd; cases hd; rfl⟩
        case o29 =>
          intro Q a w2 hC hV hI
          have e6 : a.eval (.tmp 6) = .string hx := (hI 6 (by simp [Op.operands]) (by kernel_rfl)).trans rfl
          have f6 : a.tmps.getD 6 undef = .string hx := e6
          have g6 : a.tmps[6]?.getD undef = .string hx := by rw [← Array.getD_eq_getD_getElem?]; exact e6
          refine op_val (.string hx) ?_ hC (Below.refl _ _) (by intro d hd; cases hd; rfl)
          (clear hV hI hC; go_simp <;> (first | rfl | simp | (rw [IntKind.wrap_i64]; omega)))
        case o30 =>
          intro Q a w2 hC hV hI
          have e28 : a.eval (.tmp 28) = .string mg := hV 28 (by simp [Op.operands]) (by kernel_rfl)
          have f28 : a.tmps.getD 28 undef = .string mg := e28
          have g28 : a.tmps[28]?.getD undef = .string mg := by rw [← Array.getD_eq_getD_getElem?]; exact e28
          have e29 : a.eval (.tmp 29) = .string hx := hV 29 (by simp [Op.operands]) (by kernel_rfl)
          have f29 : a.tmps.getD 29 undef = .string hx := e29
          have g29 : a.tmps[29]?.getD undef = .string hx := by rw [← Array.getD_eq_getD_getElem?]; exact e29
          refine op_val (.string x30) ?_ hC (Below.refl _ _) (by intro d hd; cases hd; rfl)
          have q := HA30.out w2
          (clear hV hI hC; go_simp <;> (first | rfl | simp | (rw [IntKind.wrap_i64]; omega)))
        case o31 =>
          intro Q a w2 hC hV hI
          have e2 : a.eval (.tmp 2) = .pointer (some ⟨w.heap.size, 0, none⟩) := (hI 2 (by simp [Op.operands]) (by kernel_rfl)).trans rfl
          have f2 : a.tmps.getD 2 undef = .pointer (some ⟨w.heap.size, 0, none⟩) := e2
          have g2 : a.tmps[2]?.getD undef = .pointer (some ⟨w.heap.size, 0, none⟩) := by rw [← Array.getD_eq_getD_getElem?]; exact e2
          refine op_val (.pointer (some ⟨w.heap.size, 6, none⟩)) ?_ hC (Below.refl _ _) (by intro d hd; cases hd; rfl)
          (clear hV hI hC; go_simp <;> (first | rfl | simp | (rw [IntKind.wrap_i64]; omega)))
        case o32 =>
          intro Q a w2 hC hV hI
          have e31 : a.eval (.tmp 31) = .pointer (some ⟨w.heap.size, 6, none⟩) := hV 31 (by simp [Op.operands]) (by kernel_rfl)
          have f31 : a.tmps.getD 31 undef = .pointer (some ⟨w.heap.size, 6, none⟩) := e31
          have g31 : a.tmps[31]?.getD undef = .pointer (some ⟨w.heap.size, 6, none⟩) := by rw [← Array.getD_eq_getD_getElem?]; exact e31
          have hK := KC.out w2 hC
          refine op_val (.string p) ?_ hC (Below.refl _ _) (by intro d hd; cases hd; rfl)
          (clear hV hI hC; go_simp <;> (first | rfl | simp | (rw [IntKind.wrap_i64]; omega)))
        case o33 =>
          intro Q a w2 hC hV hI
          have e30 : a.eval (.tmp 30) = .string x30 := hV 30 (by simp [Op.operands]) (by kernel_rfl)
          have f30 : a.tmps.getD 30 undef = .string x30 := e30
          have g30 : a.tmps[30]?.getD undef = .string x30 := by rw [← Array.getD_eq_getD_getElem?]; exact e30
          have e32 : a.eval (.tmp 32) = .string p := hV 32 (by simp [Op.operands]) (by kernel_rfl)
          have f32 : a.tmps.getD 32 undef = .string p := e32
          have g32 : a.tmps[32]?.getD undef = .string p := by rw [← Array.getD_eq_getD_getElem?]; exact e32
          refine op_val (.string x33) ?_ hC (Below.refl _ _) (by intro d hd; cases hd; rfl)
          have q := HA33.out w2
          (clear hV hI hC; go_simp <;> (first | rfl | simp | (rw [IntKind.wrap_i64]; omega)))
        case o34 =>
          intro Q a w2 hC hV hI
          have e33 : a.eval (.tmp 33) = .string x33 := hV 33 (by simp [Op.operands]) (by kernel_rfl)
          have f33 : a.tmps.getD 33 undef = .string x33 := e33
          have g33 : a.tmps[33]?.getD undef = .string x33 := by rw [← Array.getD_eq_getD_getElem?]; exact e33
          refine op_val (.string x34) ?_ hC (Below.refl _ _) (by intro d hd; cases hd; rfl)
          have q := HA34.out w2
          (clear hV hI hC; go_simp <;> (first | rfl | simp | (rw [IntKind.wrap_i64]; omega)))
        case o35 =>
          intro Q a w2 hC hV hI
          have e5 : a.eval (.tmp 5) = .pointer (some ⟨G5, 0, none⟩) := (hI 5 (by simp [Op.operands]) (by kernel_rfl)).trans rfl
          have f5 : a.tmps.getD 5 undef = .pointer (some ⟨G5, 0, none⟩) := e5
          have g5 : a.tmps[5]?.getD undef = .pointer (some ⟨G5, 0, none⟩) := by rw [← Array.getD_eq_getD_getElem?]; exact e5
          refine op_val (.pointer (some ⟨G5, 13, none⟩)) ?_ hC (Below.refl _ _) (by intro d hd; cases hd; rfl)
          (clear hV hI hC; go_simp <;> (first | rfl | simp | (rw [IntKind.wrap_i64]; omega)))
        case o36 =>
          intro Q a w2 hC hV hI
          have e35 : a.eval (.tmp 35) = .pointer (some ⟨G5, 13, none⟩) := hV 35 (by simp [Op.operands]) (by kernel_rfl)
          have f35 : a.tmps.getD 35 undef = .pointer (some ⟨G5, 13, none⟩) := e35
          have g35 : a.tmps[35]?.getD undef = .pointer (some ⟨G5, 13, none⟩) := by rw [← Array.getD_eq_getD_getElem?]; exact e35
          have hK := KC.out w2 hC
          refine op_val (.int .i64 ((p.size : Int) + 1)) ?_ hC (Below.refl _ _) (by intro d hd; cases hd; rfl)
          (clear hV hI hC; go_simp <;> (first | rfl | simp | (rw [IntKind.wrap_i64]; omega)))
        case o37 =>
          intro Q a w2 hC hV hI
          have e36 : a.eval (.tmp 36) = .int .i64 ((p.size : Int) + 1) := hV 36 (by simp [Op.operands]) (by kernel_rfl)
          have f36 : a.tmps.getD 36 undef = .int .i64 ((p.size : Int) + 1) := e36
          have g36 : a.tmps[36]?.getD undef = .int .i64 ((p.size : Int) + 1) := by rw [← Array.getD_eq_getD_getElem?]; exact e36
          have q9 := add_i64 (P := Tryd.prog) (a := 110) (b := (p.size : Int) + 1) w2 3 (by omega) (by omega)
          refine op_val (.int .i64 (110 + ((p.size : Int) + 1))) ?_ hC (Below.refl _ _) (by intro d hd; cases hd; rfl)
          (clear hV hI hC; go_simp <;> (first | rfl | simp | (rw [IntKind.wrap_i64]; omega)))
        case o38 =>
          intro Q a w2 hC hV hI
          have e37 : a.eval (.tmp 37) = .int .i64 (110 + ((p.size : Int) + 1)) := hV 37 (by simp [Op.operands, Call.operands]) (by kernel_rfl)
          have f37 : a.tmps.getD 37 undef = .int .i64 (110 + ((p.size : Int) + 1)) := e37
          have g37 : a.tmps[37]?.getD undef = .int .i64 (110 + ((p.size : Int) + 1)) := by rw [← Array.getD_eq_getD_getElem?]; exact e37
          refine op_call (f := 16) (args := #[.int .i64 (110 + ((p.size : Int) + 1))]) (R := fun v y => v = .string nu1 ∧ w2 = y) ?_ ((HN1.out w2).mono ?_) ?_
          · (clear hV hI hC; go_simp <;> (first | rfl | simp | (rw [IntKind.wrap_i64]; omega)))
          · rintro e y ⟨rfl, rfl⟩; exact ⟨_, rfl, rfl, rfl⟩
          · rintro v y ⟨rfl, rfl⟩; exact ⟨hC, Below.refl _ _, by intro d hd; cases hd; rfl⟩
        case o39 =>
          intro Q a w2 hC hV hI
          have e34 : a.eval (.tmp 34) = .string x34 := hV 34 (by simp [Op.operands]) (by kernel_rfl)
          have f34 : a.tmps.getD 34 undef = .string x34 := e34
          have g34 : a.tmps[34]?.getD undef = .string x34 := by rw [← Array.getD_eq_getD_getElem?]; exact e34
          have e38 : a.eval (.tmp 38) = .string nu1 := hV 38 (by simp [Op.operands]) (by kernel_rfl)
          have f38 : a.tmps.getD 38 undef = .string nu1 := e38
          have g38 : a.tmps[38]?.getD undef = .string nu1 := by rw [← Array.getD_eq_getD_getElem?]; exact e38
          refine op_val (.string x39) ?_ hC (Below.refl _ _) (by intro d hd; cases hd; rfl)
          have q := HA39.out w2
          (clear hV hI hC; go_simp <;> (first | rfl | simp | (rw [IntKind.wrap_i64]; omega)))
        case o40 =>
          intro Q a w2 hC hV hI
          have e2 : a.eval (.tmp 2) = .pointer (some ⟨w.heap.size, 0, none⟩) := (hI 2 (by simp [Op.operands]) (by kernel_rfl)).trans rfl
          have f2 : a.tmps.getD 2 undef = .pointer (some ⟨w.heap.size, 0, none⟩) := e2
          have g2 : a.tmps[2]?.getD undef = .pointer (some ⟨w.heap.size, 0, none⟩) := by rw [← Array.getD_eq_getD_getElem?]; exact e2
          refine op_val (.pointer (some ⟨w.heap.size, 7, none⟩)) ?_ hC (Below.refl _ _) (by intro d hd; cases hd; rfl)
          (clear hV hI hC; go_simp <;> (first | rfl | simp | (rw [IntKind.wrap_i64]; omega)))
        case o41 =>
          intro Q a w2 hC hV hI
          have e40 : a.eval (.tmp 40) = .pointer (some ⟨w.heap.size, 7, none⟩) := hV 40 (by simp [Op.operands]) (by kernel_rfl)
          have f40 : a.tmps.getD 40 undef = .pointer (some ⟨w.heap.size, 7, none⟩) := e40
          have g40 : a.tmps[40]?.getD undef = .pointer (some ⟨w.heap.size, 7, none⟩) := by rw [← Array.getD_eq_getD_getElem?]; exact e40
          have hK := KC.out w2 hC
          refine op_val (.string d) ?_ hC (Below.refl _ _) (by intro d hd; cases hd; rfl)
          (clear hV hI hC; go_simp <;> (first | rfl | simp | (rw [IntKind.wrap_i64]; omega)))
        case o42 =>
          intro Q a w2 hC hV hI
          have e39 : a.eval (.tmp 39) = .string x39 := hV 39 (by simp [Op.operands]) (by kernel_rfl)
          have f39 : a.tmps.getD 39 undef = .string x39 := e39
          have g39 : a.tmps[39]?.getD undef = .string x39 := by rw [← Array.getD_eq_getD_getElem?]; exact e39
          have e41 : a.eval (.tmp 41) = .string d := hV 41 (by simp [Op.operands]) (by kernel_rfl)
          have f41 : a.tmps.getD 41 undef = .string d := e41
          have g41 : a.tmps[41]?.getD undef = .string d := by rw [← Array.getD_eq_getD_getElem?]; exact e41
          refine op_val (.string x42) ?_ hC (Below.refl _ _) (by intro d hd; cases hd; rfl)
          have q := HA42.out w2
          (clear hV hI hC; go_simp <;> (first | rfl | simp | (rw [IntKind.wrap_i64]; omega)))
        case o43 =>
          intro Q a w2 hC hV hI
          have e5 : a.eval (.tmp 5) = .pointer (some ⟨G5, 0, none⟩) := (hI 5 (by simp [Op.operands]) (by kernel_rfl)).trans rfl
          have f5 : a.tmps.getD 5 undef = .pointer (some ⟨G5, 0, none⟩) := e5
          have g5 : a.tmps[5]?.getD undef = .pointer (some ⟨G5, 0, none⟩) := by rw [← Array.getD_eq_getD_getElem?]; exact e5
          refine op_val (.pointer (some ⟨G5, 8, none⟩)) ?_ hC (Below.refl _ _) (by intro d hd; cases hd; rfl)
          (clear hV hI hC; go_simp <;> (first | rfl | simp | (rw [IntKind.wrap_i64]; omega)))
        case o44 =>
          intro Q a w2 hC hV hI
          have e43 : a.eval (.tmp 43) = .pointer (some ⟨G5, 8, none⟩) := hV 43 (by simp [Op.operands]) (by kernel_rfl)
          have f43 : a.tmps.getD 43 undef = .pointer (some ⟨G5, 8, none⟩) := e43
          have g43 : a.tmps[43]?.getD undef = .pointer (some ⟨G5, 8, none⟩) := by rw [← Array.getD_eq_getD_getElem?]; exact e43
          have hK := KC.out w2 hC
          refine op_val (.int .i64 (d.size : Int)) ?_ hC (Below.refl _ _) (by intro d hd; cases hd; rfl)
          (clear hV hI hC; go_simp <;> (first | rfl | simp | (rw [IntKind.wrap_i64]; omega)))
        case o45 =>
          intro Q a w2 hC hV hI
          have e44 : a.eval (.tmp 44) = .int .i64 (d.size : Int) := hV 44 (by simp [Op.operands, Call.operands]) (by kernel_rfl)
          have f44 : a.tmps.getD 44 undef = .int .i64 (d.size : Int) := e44
          have g44 : a.tmps[44]?.getD undef = .int .i64 (d.size : Int) := by rw [← Array.getD_eq_getD_getElem?]; exact e44
          refine op_call (f := 16) (args := #[.int .i64 (d.size : Int)]) (R := fun v y => v = .string nu2 ∧ w2 = y) ?_ ((HN2.out w2).mono ?_) ?_
          · (clear hV hI hC; go_simp <;> (first | rfl | simp | (rw [IntKind.wrap_i64]; omega)))
          · rintro e y ⟨rfl, rfl⟩; exact ⟨_, rfl, rfl, rfl⟩
          · rintro v y ⟨rfl, rfl⟩; exact ⟨hC, Below.refl _ _, by intro d hd; cases hd; rfl⟩
        case o46 =>
          intro Q a w2 hC hV hI
          have e42 : a.eval (.tmp 42) = .string x42 := hV 42 (by simp [Op.operands]) (by kernel_rfl)
          have f42 : a.tmps.getD 42 undef = .string x42 := e42
          have g42 : a.tmps[42]?.getD undef = .string x42 := by rw [← Array.getD_eq_getD_getElem?]; exact e42
          have e45 : a.eval (.tmp 45) = .string nu2 := hV 45 (by simp [Op.operands]) (by kernel_rfl)
          have f45 : a.tmps.getD 45 undef = .string nu2 := e45
          have g45 : a.tmps[45]?.getD undef = .string nu2 := by rw [← Array.getD_eq_getD_getElem?]; exact e45
          refine op_val (.string x46) ?_ hC (Below.refl _ _) (by intro d hd; cases hd; rfl)
          have q := HA46.out w2
          (clear hV hI hC; go_simp <;> (first | rfl | simp | (rw [IntKind.wrap_i64]; omega)))
        case o4 =>
          intro Q a w2 hC hV hI
          have e46 : a.eval (.tmp 46) = .string x46 := hV 46 (by simp [Op.operands]) (by kernel_rfl)
          have f46 : a.tmps.getD 46 undef = .string x46 := e46
          have g46 : a.tmps[46]?.getD undef = .string x46 := by rw [← Array.getD_eq_getD_getElem?]; exact e46
          refine op_val (.string x46) ?_ hC (Below.refl _ _) (by intro d hd; cases hd; rfl)
          (clear hV hI hC; go_simp <;> (first | rfl | simp | (rw [IntKind.wrap_i64]; omega)))
      case hend =>
        intro f w6 hC hall
        clear HA30 HA33 HA34 HA39 HA42 HA46
        simp only [List.forall_mem_cons] at hall
        obtain ⟨h27, h28, h29, h30, h31, h32, h33, h34, h35, h36, h37, h38, h39, h40, h41, h42, h43, h44, h45, h46, h4, _⟩ := hall
        replace h27 : f 27 = .bool crc := h27 27 rfl
        replace h28 : f 28 = .string mg := h28 28 rfl
        replace h29 : f 29 = .string hx := h29 29 rfl
        replace h30 : f 30 = .string x30 := h30 30 rfl
        replace h31 : f 31 = .pointer (some ⟨w.heap.size, 6, none⟩) := h31 31 rfl
        replace h32 : f 32 = .string p := h32 32 rfl
        replace h33 : f 33 = .string x33 := h33 33 rfl
        replace h34 : f 34 = .string x34 := h34 34 rfl
        replace h35 : f 35 = .pointer (some ⟨G5, 13, none⟩) := h35 35 rfl
        replace h36 : f 36 = .int .i64 ((p.size : Int) + 1) := h36 36 rfl
        replace h37 : f 37 = .int .i64 (110 + ((p.size : Int) + 1)) := h37 37 rfl
        replace h38 : f 38 = .string nu1 := h38 38 rfl
        replace h39 : f 39 = .string x39 := h39 39 rfl
        replace h40 : f 40 = .pointer (some ⟨w.heap.size, 7, none⟩) := h40 40 rfl
        replace h41 : f 41 = .string d := h41 41 rfl
        replace h42 : f 42 = .string x42 := h42 42 rfl
        replace h43 : f 43 = .pointer (some ⟨G5, 8, none⟩) := h43 43 rfl
        replace h44 : f 44 = .int .i64 (d.size : Int) := h44 44 rfl
        replace h45 : f 45 = .string nu2 := h45 45 rfl
        replace h46 : f 46 = .string x46 := h46 46 rfl
        replace h4 : f 4 = .string x46 := h4 4 rfl
        simp only [putAll, Act.put, List.setIfInBounds_toArray, List.set_cons_succ, List.set_cons_zero, h27, h28, h29, h30, h31, h32, h33, h34, h35, h36, h37, h38, h39, h40, h41, h42, h43, h44, h45, h46, h4]
        clear h27 h28 h29 h30 h31 h32 h33 h34 h35 h36 h37 h38 h39 h40 h41 h42 h43 h44 h45 h46 h4
        have HXe : Hid (r = x46) := Lib.hid (by rw [HF.out, HX46.out, HX42.out, HX39.out, HX34.out, HX33.out, HX30.out])
        clear KC HF
        have B6 := B5.out.trans (hC.mono B5.out.size)
        go_wp2_with fail
        go_ret
        exact ⟨by rw [HXe.out]; rfl, B6⟩
end Go.Proofs.YtcnmbolmgifgfaaDoor
