/- Contract of impl.PutBin. -/
import Derived.Test.YtancidbbkoeokaaBinPW
namespace Go.Proofs.Ytancidbbkoeokaa
open Go.ChangeShapes Go.WideShapes Go.ChangeAt Go.RowKit Go.Deep

set_option maxHeartbeats 6400000 in
set_option maxRecDepth 8000 in
theorem putBin_impl (ino mo u1 gi cn t : Int) (p d : ByteArray) (hi : Bool) (w : World) (hp : p.size ≤ 4194304) (hd : d.size ≤ 4194304) :
    Calls Try.prog 13 #[.agg #[.int .i64 ino, .int .i64 mo, .int .i64 u1, .int .i64 gi, .int .i64 cn, .int .i64 t, .string p, .string d], .bool hi] w fun e w' => e = .returned (.string (binTextv ⟨ino, mo, u1, gi, cn, t, p, d⟩ hi)) ∧ Below w.heap.size w w' := by
  have HV : Hid (binTextv ⟨ino, mo, u1, gi, cn, t, p, d⟩ hi = if binOk ⟨ino, mo, u1, gi, cn, t, p, d⟩ then headB ⟨ino, mo, u1, gi, cn, t, p, d⟩ hi ++ p ++ ⟨#[0]⟩ ++ nulN (pad2 (p.size + 1)) ++ d ++ nulN (pad2 d.size) else ⟨#[]⟩) := Lib.hid rfl
  have HPs := Lib.hid (fun g gh T w hg hh hgh => pass_w g gh ⟨ino, mo, u1, gi, cn, t, p, d⟩ hi T w hg hh hgh)
  have zh := headB_size ⟨ino, mo, u1, gi, cn, t, p, d⟩ hi
  generalize binTextv ⟨ino, mo, u1, gi, cn, t, p, d⟩ hi = r at HV
  generalize binOk ⟨ino, mo, u1, gi, cn, t, p, d⟩ = ok at HV HPs
  generalize headB ⟨ino, mo, u1, gi, cn, t, p, d⟩ hi = hx at HV HPs zh
  have HN1 := Lib.hid (fun w => binPad_any (p.size + 1) w (by omega))
  rw [show ((p.size + 1 : Nat) : Int) = (p.size : Int) + 1 from by omega] at HN1
  have HN2 := Lib.hid (fun w => binPad_any d.size w (by omega))
  have hz1 := nulN_size (pad2 (p.size + 1))
  have hz2 := nulN_size (pad2 d.size)
  have hq1 := pad2_le (p.size + 1)
  have hq2 := pad2_le d.size
  generalize nulN (pad2 (p.size + 1)) = nu1 at *
  generalize nulN (pad2 d.size) = nu2 at *
  generalize pad2 (p.size + 1) = q1 at *
  generalize pad2 d.size = q2 at *
  go_enter Try.func13, Try.ntmps13
  go_upto_region 1 with fail
  generalize hw1 : World.alloc w _ = w1
  have XC : Hid (CardO w1 w.heap.size ⟨ino, mo, u1, gi, cn, t, p, d⟩) := Lib.hid (by rw [← hw1]; exact CardO.new w ⟨ino, mo, u1, gi, cn, t, p, d⟩)
  have B1 : Hid (Below w.heap.size w w1) := Lib.hid (by rw [← hw1]; exact (Below.refl _ _).alloc (Nat.le_refl _) _)
  have hs1 : w1.heap.size = w.heap.size + 1 := by rw [← hw1]; simp
  clear hw1
  obtain ⟨d0, d1, d2, d3, d4, d5, d6, d7⟩ := XC.out.at.zero
  go_upto_region 2 with fail
  clear d0 d1 d2 d3 d4 d5 d6 d7
  generalize hw2 : World.alloc w1 _ = w2
  have HB : Hid (Below w1.heap.size w1 w2) := Lib.hid (by rw [← hw2]; exact (Below.refl _ _).alloc (Nat.le_refl _) _)
  have HH : Hid (w2.heap[w.heap.size + 1]? = some (.cells #[.int .i64 ino, .int .i64 mo, .int .i64 u1, .int .i64 gi, .int .i64 cn, .int .i64 t, .string p, .string d, .int .i64 29127, .int .i64 0, .int .i64 0, .int .i64 ((p.size : Int) + 1), .int .i64 (d.size : Int)] 47 (0, 0))) := Lib.hid (by rw [← hw2, ← hs1]; exact heap_lastG _ _)
  have hs2 : w2.heap.size = w.heap.size + 2 := by rw [← hw2]; simp [hs1]
  clear hw2
  have XC2 := Lib.hid (XC.out.below HB.out (by omega))
  have B2 := Lib.hid (B1.out.trans (HB.out.mono (by omega)))
  clear HB XC B1
  go_wp2_with fail
  have NB := (Below.refl w2.heap.size w2).alloc (Nat.le_refl _) (.cells #[.bool hi, .slice none 0 0, .bool false] 53)
  have hw9 : WrO (w2.alloc (.cells #[.bool hi, .slice none 0 0, .bool false] 53)) w2.heap.size hi [] false := ⟨.slice none 0 0, heap_lastG _ _, by
    refine ⟨rfl, .inl ⟨rfl, rfl⟩⟩⟩
  rw [hs2] at hw9
  refine (HPs.out _ (w.heap.size + 1) 47 _ hw9 ((NB.block _ (by omega)).trans HH.out) (by omega)).mono ?_
  rintro e w3 ⟨rfl, hb⟩
  have XC3 := Lib.hid ((XC2.out.below NB (by omega)).below hb (by omega))
  have HH3 := Lib.hid ((hb.block (w.heap.size + 1) (by omega)).trans ((NB.block _ (by omega)).trans HH.out))
  have B3 := Lib.hid ((B2.out.trans (NB.mono (by omega))).trans (hb.mono (by omega)))
  have hcl : w.heap.size + 1 < w3.heap.size := (Array.getElem?_eq_some_iff.1 HH3.out).1
  clear NB hw9 hb HPs XC2 HH B2
  cases ok with
  | false =>
    have HF2 : Hid (r = ⟨#[]⟩) := Lib.hid (by rw [HV.out]; rfl)
    clear HV
    go_wp2_with fail
    go_ret
    exact ⟨by rw [HF2.out]; rfl, B3.out⟩
  | true =>
  replace HV : Hid (r = hx ++ p ++ ⟨#[0]⟩ ++ nu1 ++ d ++ nu2) := Lib.hid (by rw [HV.out]; rfl)
  have hne : (hx.toList == (⟨#[]⟩ : ByteArray).toList) = false := ba_ne (fun e => by rw [e] at zh; exact absurd zh (by decide))
  have hne2 : hx.toList.isEmpty = false := by
    cases h9 : hx.toList with
    | nil =>
      rw [h9] at hne
      simp at hne
    | cons a l => rfl
  rw [show (if true = true then hx else (⟨#[]⟩ : ByteArray)) = hx from rfl]
  go_upto_region 5 with fail
  clear hne hne2
  have KC : Hid (∀ w', Below w3.heap.size w3 w' → w'.cell? ⟨w.heap.size, 6, none⟩ = some (.string p) ∧ w'.cell? ⟨w.heap.size, 7, none⟩ = some (.string d) ∧ w'.cell? ⟨w.heap.size + 1, 11, none⟩ = some (.int .i64 ((p.size : Int) + 1)) ∧ w'.cell? ⟨w.heap.size + 1, 12, none⟩ = some (.int .i64 (d.size : Int))) := Lib.hid (fun w' hb => by
    have h1 := (hb.block (w.heap.size + 1) hcl).trans HH3.out
    obtain ⟨k0, k1, k2, k3, k4, k5, k6, k7⟩ := (XC3.out.below hb (by omega)).at.zero
    exact ⟨k6, k7, by simp [World.cell?, h1], by simp [World.cell?, h1]⟩)
  have z1 : (⟨#[0]⟩ : ByteArray).size = 1 := rfl
  obtain ⟨x26, hx26⟩ : ∃ x : ByteArray, x = hx ++ p := ⟨_, rfl⟩
  obtain ⟨x27, hx27⟩ : ∃ x : ByteArray, x = x26 ++ ⟨#[0]⟩ := ⟨_, rfl⟩
  obtain ⟨x31, hx31⟩ : ∃ x : ByteArray, x = x27 ++ nu1 := ⟨_, rfl⟩
  obtain ⟨x34, hx34⟩ : ∃ x : ByteArray, x = x31 ++ d := ⟨_, rfl⟩
  obtain ⟨x38, hx38⟩ : ∃ x : ByteArray, x = x34 ++ nu2 := ⟨_, rfl⟩
  have zx26 : x26.size ≤ 4194330 := by rw [hx26, ByteArray.size_append]; omega
  have zx27 : x27.size ≤ 4194331 := by rw [hx27, ByteArray.size_append]; omega
  have zx31 : x31.size ≤ 4194332 := by rw [hx31, ByteArray.size_append]; omega
  have zx34 : x34.size ≤ 8388636 := by rw [hx34, ByteArray.size_append]; omega
  have zx38 : x38.size ≤ 8388637 := by rw [hx38, ByteArray.size_append]; omega
  have HA26 : Hid (∀ w, (Op.stringOp .add hx p).run Try.prog w = .ok (.string x26) w) := Lib.hid (fun w => by rw [hx26]; exact run_string_add_sum w _ _ (by omega))
  have HA27 : Hid (∀ w, (Op.stringOp .add x26 ⟨#[0]⟩).run Try.prog w = .ok (.string x27) w) := Lib.hid (fun w => by rw [hx27]; exact run_string_add_sum w _ _ (by omega))
  have HA31 : Hid (∀ w, (Op.stringOp .add x27 nu1).run Try.prog w = .ok (.string x31) w) := Lib.hid (fun w => by rw [hx31]; exact run_string_add_sum w _ _ (by omega))
  have HA34 : Hid (∀ w, (Op.stringOp .add x31 d).run Try.prog w = .ok (.string x34) w) := Lib.hid (fun w => by rw [hx34]; exact run_string_add_sum w _ _ (by omega))
  have HA38 : Hid (∀ w, (Op.stringOp .add x34 nu2).run Try.prog w = .ok (.string x38) w) := Lib.hid (fun w => by rw [hx38]; exact run_string_add_sum w _ _ (by omega))
  have HX26 := Lib.hid hx26
  have HX27 := Lib.hid hx27
  have HX31 := Lib.hid hx31
  have HX34 := Lib.hid hx34
  have HX38 := Lib.hid hx38
  clear hx26 hx27 hx31 hx34 hx38
  refine wp_region_inv (by kernel_rfl) (fun w' => Below w3.heap.size w3 w') (fun x y => Below x.heap.size x y) (fun dq vq _ => match dq with | 23 => vq = .string hx | 24 => vq = .pointer (some ⟨w.heap.size, 6, none⟩) | 25 => vq = .string p | 26 => vq = .string x26 | 27 => vq = .string x27 | 28 => vq = .pointer (some ⟨w.heap.size + 1, 11, none⟩) | 29 => vq = .int .i64 ((p.size : Int) + 1) | 30 => vq = .string nu1 | 31 => vq = .string x31 | 32 => vq = .pointer (some ⟨w.heap.size, 7, none⟩) | 33 => vq = .string d | 34 => vq = .string x34 | 35 => vq = .pointer (some ⟨w.heap.size + 1, 12, none⟩) | 36 => vq = .int .i64 (d.size : Int) | 37 => vq = .string nu2 | 38 => vq = .string x38 | 4 => vq = .string x38 | _ => True) (by kernel_rfl) ((Below.refl _ _).drew) (fun _ _ _ _ _ _ h => h) ?hops ?hend
  case hops =>
    simp only [List.forall_mem_cons]
    refine ⟨?o23, ?o24, ?o25, ?o26, ?o27, ?o28, ?o29, ?o30, ?o31, ?o32, ?o33, ?o34, ?o35, ?o36, ?o37, ?o38, ?o4, fun _ h => by cases h⟩
    case o23 =>
      intro Q a w2 hC hV hI
      have e6 : a.eval (.tmp 6) = .string hx := (hI 6 (by simp [Op.operands]) (by kernel_rfl)).trans rfl
      have f6 : a.tmps.getD 6 undef = .string hx := e6
      have g6 : a.tmps[6]?.getD undef = .string hx := by rw [← Array.getD_eq_getD_getElem?]; exact e6
      refine op_val (.string hx) ?_ hC (Below.refl _ _) (by intro d hd; cases hd; rfl)
      (clear hV hI hC; go_simp <;> (first | rfl | simp | (rw [IntKind.wrap_i64]; omega)))
    case o24 =>
      intro Q a w2 hC hV hI
      have e2 : a.eval (.tmp 2) = .pointer (some ⟨w.heap.size, 0, none⟩) := (hI 2 (by simp [Op.operands]) (by kernel_rfl)).trans rfl
      have f2 : a.tmps.getD 2 undef = .pointer (some ⟨w.heap.size, 0, none⟩) := e2
      have g2 : a.tmps[2]?.getD undef = .pointer (some ⟨w.heap.size, 0, none⟩) := by rw [← Array.getD_eq_getD_getElem?]; exact e2
      refine op_val (.pointer (some ⟨w.heap.size, 6, none⟩)) ?_ hC (Below.refl _ _) (by intro d hd; cases hd; rfl)
      (clear hV hI hC; go_simp <;> (first | rfl | simp | (rw [IntKind.wrap_i64]; omega)))
    case o25 =>
      intro Q a w2 hC hV hI
      have e24 : a.eval (.tmp 24) = .pointer (some ⟨w.heap.size, 6, none⟩) := hV 24 (by simp [Op.operands]) (by kernel_rfl)
      have f24 : a.tmps.getD 24 undef = .pointer (some ⟨w.heap.size, 6, none⟩) := e24
      have g24 : a.tmps[24]?.getD undef = .pointer (some ⟨w.heap.size, 6, none⟩) := by rw [← Array.getD_eq_getD_getElem?]; exact e24
      have hK := KC.out w2 hC
      refine op_val (.string p) ?_ hC (Below.refl _ _) (by intro d hd; cases hd; rfl)
      (clear hV hI hC; go_simp <;> (first | rfl | simp | (rw [IntKind.wrap_i64]; omega)))
    case o26 =>
      intro Q a w2 hC hV hI
      have e23 : a.eval (.tmp 23) = .string hx := hV 23 (by simp [Op.operands]) (by kernel_rfl)
      have f23 : a.tmps.getD 23 undef = .string hx := e23
      have g23 : a.tmps[23]?.getD undef = .string hx := by rw [← Array.getD_eq_getD_getElem?]; exact e23
      have e25 : a.eval (.tmp 25) = .string p := hV 25 (by simp [Op.operands]) (by kernel_rfl)
      have f25 : a.tmps.getD 25 undef = .string p := e25
      have g25 : a.tmps[25]?.getD undef = .string p := by rw [← Array.getD_eq_getD_getElem?]; exact e25
      refine op_val (.string x26) ?_ hC (Below.refl _ _) (by intro d hd; cases hd; rfl)
      have q := HA26.out w2
      (clear hV hI hC; go_simp <;> (first | rfl | simp | (rw [IntKind.wrap_i64]; omega)))
    case o27 =>
      intro Q a w2 hC hV hI
      have e26 : a.eval (.tmp 26) = .string x26 := hV 26 (by simp [Op.operands]) (by kernel_rfl)
      have f26 : a.tmps.getD 26 undef = .string x26 := e26
      have g26 : a.tmps[26]?.getD undef = .string x26 := by rw [← Array.getD_eq_getD_getElem?]; exact e26
      refine op_val (.string x27) ?_ hC (Below.refl _ _) (by intro d hd; cases hd; rfl)
      have q := HA27.out w2
      (clear hV hI hC; go_simp <;> (first | rfl | simp | (rw [IntKind.wrap_i64]; omega)))
    case o28 =>
      intro Q a w2 hC hV hI
      have e5 : a.eval (.tmp 5) = .pointer (some ⟨w.heap.size + 1, 0, none⟩) := (hI 5 (by simp [Op.operands]) (by kernel_rfl)).trans rfl
      have f5 : a.tmps.getD 5 undef = .pointer (some ⟨w.heap.size + 1, 0, none⟩) := e5
      have g5 : a.tmps[5]?.getD undef = .pointer (some ⟨w.heap.size + 1, 0, none⟩) := by rw [← Array.getD_eq_getD_getElem?]; exact e5
      refine op_val (.pointer (some ⟨w.heap.size + 1, 11, none⟩)) ?_ hC (Below.refl _ _) (by intro d hd; cases hd; rfl)
      (clear hV hI hC; go_simp <;> (first | rfl | simp | (rw [IntKind.wrap_i64]; omega)))
    case o29 =>
      intro Q a w2 hC hV hI
      have e28 : a.eval (.tmp 28) = .pointer (some ⟨w.heap.size + 1, 11, none⟩) := hV 28 (by simp [Op.operands]) (by kernel_rfl)
      have f28 : a.tmps.getD 28 undef = .pointer (some ⟨w.heap.size + 1, 11, none⟩) := e28
      have g28 : a.tmps[28]?.getD undef = .pointer (some ⟨w.heap.size + 1, 11, none⟩) := by rw [← Array.getD_eq_getD_getElem?]; exact e28
      have hK := KC.out w2 hC
      refine op_val (.int .i64 ((p.size : Int) + 1)) ?_ hC (Below.refl _ _) (by intro d hd; cases hd; rfl)
      (clear hV hI hC; go_simp <;> (first | rfl | simp | (rw [IntKind.wrap_i64]; omega)))
    case o30 =>
      intro Q a w2 hC hV hI
      have e29 : a.eval (.tmp 29) = .int .i64 ((p.size : Int) + 1) := hV 29 (by simp [Op.operands, Call.operands]) (by kernel_rfl)
      have f29 : a.tmps.getD 29 undef = .int .i64 ((p.size : Int) + 1) := e29
      have g29 : a.tmps[29]?.getD undef = .int .i64 ((p.size : Int) + 1) := by rw [← Array.getD_eq_getD_getElem?]; exact e29
      refine op_call (f := 25) (args := #[.int .i64 ((p.size : Int) + 1)]) (R := fun v y => v = .string nu1 ∧ Below w2.heap.size w2 y) ?_ ((HN1.out w2).mono ?_) ?_
      · (clear hV hI hC; go_simp <;> (first | rfl | simp | (rw [IntKind.wrap_i64]; omega)))
      · rintro e y ⟨rfl, hb⟩; exact ⟨_, rfl, rfl, hb⟩
      · rintro v y ⟨rfl, hb⟩; exact ⟨hC.trans (hb.mono hC.size), hb, by intro d hd; cases hd; rfl⟩
    case o31 =>
      intro Q a w2 hC hV hI
      have e27 : a.eval (.tmp 27) = .string x27 := hV 27 (by simp [Op.operands]) (by kernel_rfl)
      have f27 : a.tmps.getD 27 undef = .string x27 := e27
      have g27 : a.tmps[27]?.getD undef = .string x27 := by rw [← Array.getD_eq_getD_getElem?]; exact e27
      have e30 : a.eval (.tmp 30) = .string nu1 := hV 30 (by simp [Op.operands]) (by kernel_rfl)
      have f30 : a.tmps.getD 30 undef = .string nu1 := e30
      have g30 : a.tmps[30]?.getD undef = .string nu1 := by rw [← Array.getD_eq_getD_getElem?]; exact e30
      refine op_val (.string x31) ?_ hC (Below.refl _ _) (by intro d hd; cases hd; rfl)
      have q := HA31.out w2
      (clear hV hI hC; go_simp <;> (first | rfl | simp | (rw [IntKind.wrap_i64]; omega)))
    case o32 =>
      intro Q a w2 hC hV hI
      have e2 : a.eval (.tmp 2) = .pointer (some ⟨w.heap.size, 0, none⟩) := (hI 2 (by simp [Op.operands]) (by kernel_rfl)).trans rfl
      have f2 : a.tmps.getD 2 undef = .pointer (some ⟨w.heap.size, 0, none⟩) := e2
      have g2 : a.tmps[2]?.getD undef = .pointer (some ⟨w.heap.size, 0, none⟩) := by rw [← Array.getD_eq_getD_getElem?]; exact e2
      refine op_val (.pointer (some ⟨w.heap.size, 7, none⟩)) ?_ hC (Below.refl _ _) (by intro d hd; cases hd; rfl)
      (clear hV hI hC; go_simp <;> (first | rfl | simp | (rw [IntKind.wrap_i64]; omega)))
    case o33 =>
      intro Q a w2 hC hV hI
      have e32 : a.eval (.tmp 32) = .pointer (some ⟨w.heap.size, 7, none⟩) := hV 32 (by simp [Op.operands]) (by kernel_rfl)
      have f32 : a.tmps.getD 32 undef = .pointer (some ⟨w.heap.size, 7, none⟩) := e32
      have g32 : a.tmps[32]?.getD undef = .pointer (some ⟨w.heap.size, 7, none⟩) := by rw [← Array.getD_eq_getD_getElem?]; exact e32
      have hK := KC.out w2 hC
      refine op_val (.string d) ?_ hC (Below.refl _ _) (by intro d hd; cases hd; rfl)
      (clear hV hI hC; go_simp <;> (first | rfl | simp | (rw [IntKind.wrap_i64]; omega)))
    case o34 =>
      intro Q a w2 hC hV hI
      have e31 : a.eval (.tmp 31) = .string x31 := hV 31 (by simp [Op.operands]) (by kernel_rfl)
      have f31 : a.tmps.getD 31 undef = .string x31 := e31
      have g31 : a.tmps[31]?.getD undef = .string x31 := by rw [← Array.getD_eq_getD_getElem?]; exact e31
      have e33 : a.eval (.tmp 33) = .string d := hV 33 (by simp [Op.operands]) (by kernel_rfl)
      have f33 : a.tmps.getD 33 undef = .string d := e33
      have g33 : a.tmps[33]?.getD undef = .string d := by rw [← Array.getD_eq_getD_getElem?]; exact e33
      refine op_val (.string x34) ?_ hC (Below.refl _ _) (by intro d hd; cases hd; rfl)
      have q := HA34.out w2
      (clear hV hI hC; go_simp <;> (first | rfl | simp | (rw [IntKind.wrap_i64]; omega)))
    case o35 =>
      intro Q a w2 hC hV hI
      have e5 : a.eval (.tmp 5) = .pointer (some ⟨w.heap.size + 1, 0, none⟩) := (hI 5 (by simp [Op.operands]) (by kernel_rfl)).trans rfl
      have f5 : a.tmps.getD 5 undef = .pointer (some ⟨w.heap.size + 1, 0, none⟩) := e5
      have g5 : a.tmps[5]?.getD undef = .pointer (some ⟨w.heap.size + 1, 0, none⟩) := by rw [← Array.getD_eq_getD_getElem?]; exact e5
      refine op_val (.pointer (some ⟨w.heap.size + 1, 12, none⟩)) ?_ hC (Below.refl _ _) (by intro d hd; cases hd; rfl)
      (clear hV hI hC; go_simp <;> (first | rfl | simp | (rw [IntKind.wrap_i64]; omega)))
    case o36 =>
      intro Q a w2 hC hV hI
      have e35 : a.eval (.tmp 35) = .pointer (some ⟨w.heap.size + 1, 12, none⟩) := hV 35 (by simp [Op.operands]) (by kernel_rfl)
      have f35 : a.tmps.getD 35 undef = .pointer (some ⟨w.heap.size + 1, 12, none⟩) := e35
      have g35 : a.tmps[35]?.getD undef = .pointer (some ⟨w.heap.size + 1, 12, none⟩) := by rw [← Array.getD_eq_getD_getElem?]; exact e35
      have hK := KC.out w2 hC
      refine op_val (.int .i64 (d.size : Int)) ?_ hC (Below.refl _ _) (by intro d hd; cases hd; rfl)
      (clear hV hI hC; go_simp <;> (first | rfl | simp | (rw [IntKind.wrap_i64]; omega)))
    case o37 =>
      intro Q a w2 hC hV hI
      have e36 : a.eval (.tmp 36) = .int .i64 (d.size : Int) := hV 36 (by simp [Op.operands, Call.operands]) (by kernel_rfl)
      have f36 : a.tmps.getD 36 undef = .int .i64 (d.size : Int) := e36
      have g36 : a.tmps[36]?.getD undef = .int .i64 (d.size : Int) := by rw [← Array.getD_eq_getD_getElem?]; exact e36
      refine op_call (f := 25) (args := #[.int .i64 (d.size : Int)]) (R := fun v y => v = .string nu2 ∧ Below w2.heap.size w2 y) ?_ ((HN2.out w2).mono ?_) ?_
      · (clear hV hI hC; go_simp <;> (first | rfl | simp | (rw [IntKind.wrap_i64]; omega)))
      · rintro e y ⟨rfl, hb⟩; exact ⟨_, rfl, rfl, hb⟩
      · rintro v y ⟨rfl, hb⟩; exact ⟨hC.trans (hb.mono hC.size), hb, by intro d hd; cases hd; rfl⟩
    case o38 =>
      intro Q a w2 hC hV hI
      have e34 : a.eval (.tmp 34) = .string x34 := hV 34 (by simp [Op.operands]) (by kernel_rfl)
      have f34 : a.tmps.getD 34 undef = .string x34 := e34
      have g34 : a.tmps[34]?.getD undef = .string x34 := by rw [← Array.getD_eq_getD_getElem?]; exact e34
      have e37 : a.eval (.tmp 37) = .string nu2 := hV 37 (by simp [Op.operands]) (by kernel_rfl)
      have f37 : a.tmps.getD 37 undef = .string nu2 := e37
      have g37 : a.tmps[37]?.getD undef = .string nu2 := by rw [← Array.getD_eq_getD_getElem?]; exact e37
      refine op_val (.string x38) ?_ hC (Below.refl _ _) (by intro d hd; cases hd; rfl)
      have q := HA38.out w2
      (clear hV hI hC; go_simp <;> (first | rfl | simp | (rw [IntKind.wrap_i64]; omega)))
    case o4 =>
      intro Q a w2 hC hV hI
      have e38 : a.eval (.tmp 38) = .string x38 := hV 38 (by simp [Op.operands]) (by kernel_rfl)
      have f38 : a.tmps.getD 38 undef = .string x38 := e38
      have g38 : a.tmps[38]?.getD undef = .string x38 := by rw [← Array.getD_eq_getD_getElem?]; exact e38
      refine op_val (.string x38) ?_ hC (Below.refl _ _) (by intro d hd; cases hd; rfl)
      (clear hV hI hC; go_simp <;> (first | rfl | simp | (rw [IntKind.wrap_i64]; omega)))
  case hend =>
    intro f w4 hC hall
    clear HA26 HA27 HA31 HA34 HA38
    simp only [List.forall_mem_cons] at hall
    obtain ⟨h23, h24, h25, h26, h27, h28, h29, h30, h31, h32, h33, h34, h35, h36, h37, h38, h4, _⟩ := hall
    replace h23 : f 23 = .string hx := h23 23 rfl
    replace h24 : f 24 = .pointer (some ⟨w.heap.size, 6, none⟩) := h24 24 rfl
    replace h25 : f 25 = .string p := h25 25 rfl
    replace h26 : f 26 = .string x26 := h26 26 rfl
    replace h27 : f 27 = .string x27 := h27 27 rfl
    replace h28 : f 28 = .pointer (some ⟨w.heap.size + 1, 11, none⟩) := h28 28 rfl
    replace h29 : f 29 = .int .i64 ((p.size : Int) + 1) := h29 29 rfl
    replace h30 : f 30 = .string nu1 := h30 30 rfl
    replace h31 : f 31 = .string x31 := h31 31 rfl
    replace h32 : f 32 = .pointer (some ⟨w.heap.size, 7, none⟩) := h32 32 rfl
    replace h33 : f 33 = .string d := h33 33 rfl
    replace h34 : f 34 = .string x34 := h34 34 rfl
    replace h35 : f 35 = .pointer (some ⟨w.heap.size + 1, 12, none⟩) := h35 35 rfl
    replace h36 : f 36 = .int .i64 (d.size : Int) := h36 36 rfl
    replace h37 : f 37 = .string nu2 := h37 37 rfl
    replace h38 : f 38 = .string x38 := h38 38 rfl
    replace h4 : f 4 = .string x38 := h4 4 rfl
    simp only [putAll, Act.put, List.setIfInBounds_toArray, List.set_cons_succ, List.set_cons_zero, h23, h24, h25, h26, h27, h28, h29, h30, h31, h32, h33, h34, h35, h36, h37, h38, h4]
    clear h23 h24 h25 h26 h27 h28 h29 h30 h31 h32 h33 h34 h35 h36 h37 h38 h4
    have HXe : Hid (r = x38) := Lib.hid (by rw [HV.out, HX38.out, HX34.out, HX31.out, HX27.out, HX26.out])
    have B4 := B3.out.trans (hC.mono (by omega))
    clear KC HV hC
    go_wp2_with fail
    go_ret
    exact ⟨by rw [HXe.out]; rfl, B4⟩
end Go.Proofs.Ytancidbbkoeokaa
