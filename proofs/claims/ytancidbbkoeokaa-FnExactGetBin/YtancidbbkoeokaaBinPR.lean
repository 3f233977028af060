/- The numbers of a head set by the reader: impl.passHead[int]. -/
import Derived.Test.YtancidbbkoeokaaBinR
namespace Go.Proofs.Ytancidbbkoeokaa
open Go.ChangeShapes Go.WideShapes Go.ChangeAt Go.RowKit Go.Deep

theorem RdO.below {w w' : World} {g : Nat} {s : ByteArray} {a : Int} {hi : Bool} (h : RdO w g s a hi) (hb : Below w.heap.size w w') : RdO w' g s a hi := (hb.block g (Array.getElem?_eq_some_iff.1 h).1).trans h
theorem RdO.lt {w : World} {g : Nat} {s : ByteArray} {a : Int} {hi : Bool} (h : RdO w g s a hi) : g < w.heap.size := (Array.getElem?_eq_some_iff.1 h).1
set_option maxHeartbeats 6400000 in
set_option maxRecDepth 8000 in
theorem pass_r (g gh j : Nat) (s : ByteArray) (hi : Bool) (T : TypeId) (w : World) (hs : s.size ≤ 1048576) (hj : j + 26 ≤ s.size) (hg : RdO w g s (j : Int) hi) (hh : w.heap[gh]? = some (.cells #[.int .i64 0, .int .i64 0, .int .i64 0, .int .i64 0, .int .i64 0, .int .i64 0, .string ⟨#[]⟩, .string ⟨#[]⟩, .int .i64 0, .int .i64 0, .int .i64 0, .int .i64 0, .int .i64 0] T (0, 0))) (hgh : gh < g) :
    Calls Try.prog 30 #[.pointer (some ⟨gh, 0, none⟩), .iface 58 (.pointer (some ⟨g, 0, none⟩))] w fun e w' => e = .returned (.int .i64 ((j + 26 : Nat) : Int)) ∧ w'.heap[gh]? = some (.cells #[.int .i64 (bW s j hi 2), .int .i64 (bW s j hi 3), .int .i64 (bW s j hi 4), .int .i64 (bW s j hi 5), .int .i64 (bW s j hi 6), .int .i64 (bT s j hi), .string ⟨#[]⟩, .string ⟨#[]⟩, .int .i64 (bW s j hi 0), .int .i64 (bW s j hi 1), .int .i64 (bW s j hi 7), .int .i64 (bW s j hi 10), .int .i64 (get32v s ((j + 22 : Nat) : Int) hi)] T (0, 0)) ∧ Below gh w w' := by
  have HW0 := Lib.hid hg
  have HH0 := Lib.hid hh
  have B0 : Hid (Below gh w w) := Lib.hid (Below.refl _ _)
  clear hg hh
  obtain ⟨x1, hx1⟩ : ∃ x : Int, x = get16v s ((j + 0 : Nat) : Int) hi := ⟨_, rfl⟩
  obtain ⟨x2, hx2⟩ : ∃ x : Int, x = get16v s ((j + 2 : Nat) : Int) hi := ⟨_, rfl⟩
  obtain ⟨x3, hx3⟩ : ∃ x : Int, x = get16v s ((j + 4 : Nat) : Int) hi := ⟨_, rfl⟩
  obtain ⟨x4, hx4⟩ : ∃ x : Int, x = get16v s ((j + 6 : Nat) : Int) hi := ⟨_, rfl⟩
  obtain ⟨x5, hx5⟩ : ∃ x : Int, x = get16v s ((j + 8 : Nat) : Int) hi := ⟨_, rfl⟩
  obtain ⟨x6, hx6⟩ : ∃ x : Int, x = get16v s ((j + 10 : Nat) : Int) hi := ⟨_, rfl⟩
  obtain ⟨x7, hx7⟩ : ∃ x : Int, x = get16v s ((j + 12 : Nat) : Int) hi := ⟨_, rfl⟩
  obtain ⟨x8, hx8⟩ : ∃ x : Int, x = get16v s ((j + 14 : Nat) : Int) hi := ⟨_, rfl⟩
  obtain ⟨x9, hx9⟩ : ∃ x : Int, x = get32v s ((j + 16 : Nat) : Int) hi := ⟨_, rfl⟩
  obtain ⟨x10, hx10⟩ : ∃ x : Int, x = get16v s ((j + 20 : Nat) : Int) hi := ⟨_, rfl⟩
  obtain ⟨x11, hx11⟩ : ∃ x : Int, x = get32v s ((j + 22 : Nat) : Int) hi := ⟨_, rfl⟩
  rw [show bW s j hi 2 = x3 from hx3.symm, show bW s j hi 3 = x4 from hx4.symm, show bW s j hi 4 = x5 from hx5.symm, show bW s j hi 5 = x6 from hx6.symm, show bW s j hi 6 = x7 from hx7.symm, show bT s j hi = x9 from hx9.symm, show bW s j hi 0 = x1 from hx1.symm, show bW s j hi 1 = x2 from hx2.symm, show bW s j hi 7 = x8 from hx8.symm, show bW s j hi 10 = x10 from hx10.symm, ← hx11]
  have X1 := Lib.hid hx1
  have X2 := Lib.hid hx2
  have X3 := Lib.hid hx3
  have X4 := Lib.hid hx4
  have X5 := Lib.hid hx5
  have X6 := Lib.hid hx6
  have X7 := Lib.hid hx7
  have X8 := Lib.hid hx8
  have X9 := Lib.hid hx9
  have X10 := Lib.hid hx10
  have X11 := Lib.hid hx11
  clear hx1 hx2 hx3 hx4 hx5 hx6 hx7 hx8 hx9 hx10 hx11
  go_enter Try.func30, Try.ntmps30
  obtain ⟨w0, hw0⟩ : ∃ w0, w0 = w := ⟨_, rfl⟩
  rw [← hw0] at HW0 HH0 ⊢
  replace B0 : Hid (Below gh w0 w0) := Lib.hid (Below.refl _ _)
  clear hw0
  go_upto_region 1 with fail
  refine wp_region_cut 7 (by kernel_rfl) (fun w' => Below w0.heap.size w0 w') (fun x y => Below x.heap.size x y) (fun dq vq _ => match dq with | 5 => vq = .iface 58 (.pointer (some ⟨g, 0, none⟩)) | 6 => vq = .pointer (some ⟨gh, 0, none⟩) | 7 => vq = .pointer (some ⟨gh, 0, none⟩) | 8 => vq = .pointer (some ⟨gh, 8, none⟩) | 9 => vq = .func (.method "loop.example/g00413/impl.short") #[.iface 58 (.pointer (some ⟨g, 0, none⟩))] #[] | 10 => vq = .func (.method "loop.example/g00413/impl.short") #[.iface 58 (.pointer (some ⟨g, 0, none⟩))] #[] | 11 => vq = .iface 58 (.pointer (some ⟨g, 0, none⟩)) | _ => True) (by kernel_rfl) (by kernel_rfl) ((Below.refl _ _).drew) (fun _ _ _ _ _ _ h => h) (by simp) ?hops ?hend
  case hops =>
    simp only [List.take_succ_cons, List.take_zero, List.forall_mem_cons]
    refine ⟨?o5, ?o6, ?o7, ?o8, ?o9, ?o10, ?o11, fun _ h => by cases h⟩
    case o5 =>
      intro Q a w2 hC hV hI
      have e1 : a.eval (.tmp 1) = .iface 58 (.pointer (some ⟨g, 0, none⟩)) := (hI 1 (by simp [Op.operands]) (by kernel_rfl)).trans rfl
      have f1 : a.tmps.getD 1 undef = .iface 58 (.pointer (some ⟨g, 0, none⟩)) := e1
      have g1 : a.tmps[1]?.getD undef = .iface 58 (.pointer (some ⟨g, 0, none⟩)) := by rw [← Array.getD_eq_getD_getElem?]; exact e1
      refine op_val (.iface 58 (.pointer (some ⟨g, 0, none⟩))) ?_ hC (Below.refl _ _) (by intro d hd; cases hd; rfl)
      (clear hV hI hC; go_simp <;> (first | rfl | simp | (rw [IntKind.wrap_i64]; omega)))
    case o6 =>
      intro Q a w2 hC hV hI
      have e0 : a.eval (.tmp 0) = .pointer (some ⟨gh, 0, none⟩) := (hI 0 (by simp [Op.operands]) (by kernel_rfl)).trans rfl
      have f0 : a.tmps.getD 0 undef = .pointer (some ⟨gh, 0, none⟩) := e0
      have g0 : a.tmps[0]?.getD undef = .pointer (some ⟨gh, 0, none⟩) := by rw [← Array.getD_eq_getD_getElem?]; exact e0
      refine op_val (.pointer (some ⟨gh, 0, none⟩)) ?_ hC (Below.refl _ _) (by intro d hd; cases hd; rfl)
      (clear hV hI hC; go_simp <;> (first | rfl | simp | (rw [IntKind.wrap_i64]; omega)))
    case o7 =>
      intro Q a w2 hC hV hI
      have e6 : a.eval (.tmp 6) = .pointer (some ⟨gh, 0, none⟩) := hV 6 (by simp [Op.operands]) (by kernel_rfl)
      have f6 : a.tmps.getD 6 undef = .pointer (some ⟨gh, 0, none⟩) := e6
      have g6 : a.tmps[6]?.getD undef = .pointer (some ⟨gh, 0, none⟩) := by rw [← Array.getD_eq_getD_getElem?]; exact e6
      refine op_val (.pointer (some ⟨gh, 0, none⟩)) ?_ hC (Below.refl _ _) (by intro d hd; cases hd; rfl)
      (clear hV hI hC; go_simp <;> (first | rfl | simp | (rw [IntKind.wrap_i64]; omega)))
    case o8 =>
      intro Q a w2 hC hV hI
      have e7 : a.eval (.tmp 7) = .pointer (some ⟨gh, 0, none⟩) := hV 7 (by simp [Op.operands]) (by kernel_rfl)
      have f7 : a.tmps.getD 7 undef = .pointer (some ⟨gh, 0, none⟩) := e7
      have g7 : a.tmps[7]?.getD undef = .pointer (some ⟨gh, 0, none⟩) := by rw [← Array.getD_eq_getD_getElem?]; exact e7
      refine op_val (.pointer (some ⟨gh, 8, none⟩)) ?_ hC (Below.refl _ _) (by intro d hd; cases hd; rfl)
      (clear hV hI hC; go_simp <;> (first | rfl | simp | (rw [IntKind.wrap_i64]; omega)))
    case o9 =>
      intro Q a w2 hC hV hI
      have e5 : a.eval (.tmp 5) = .iface 58 (.pointer (some ⟨g, 0, none⟩)) := hV 5 (by simp [Op.operands]) (by kernel_rfl)
      have f5 : a.tmps.getD 5 undef = .iface 58 (.pointer (some ⟨g, 0, none⟩)) := e5
      have g5 : a.tmps[5]?.getD undef = .iface 58 (.pointer (some ⟨g, 0, none⟩)) := by rw [← Array.getD_eq_getD_getElem?]; exact e5
      refine op_val (.func (.method "loop.example/g00413/impl.short") #[.iface 58 (.pointer (some ⟨g, 0, none⟩))] #[]) ?_ hC (Below.refl _ _) (by intro d hd; cases hd; rfl)
      (clear hV hI hC; go_simp <;> (first | rfl | simp | (rw [IntKind.wrap_i64]; omega)))
    case o10 =>
      intro Q a w2 hC hV hI
      have e9 : a.eval (.tmp 9) = .func (.method "loop.example/g00413/impl.short") #[.iface 58 (.pointer (some ⟨g, 0, none⟩))] #[] := hV 9 (by simp [Op.operands]) (by kernel_rfl)
      have f9 : a.tmps.getD 9 undef = .func (.method "loop.example/g00413/impl.short") #[.iface 58 (.pointer (some ⟨g, 0, none⟩))] #[] := e9
      have g9 : a.tmps[9]?.getD undef = .func (.method "loop.example/g00413/impl.short") #[.iface 58 (.pointer (some ⟨g, 0, none⟩))] #[] := by rw [← Array.getD_eq_getD_getElem?]; exact e9
      refine op_val (.func (.method "loop.example/g00413/impl.short") #[.iface 58 (.pointer (some ⟨g, 0, none⟩))] #[]) ?_ hC (Below.refl _ _) (by intro d hd; cases hd; rfl)
      (clear hV hI hC; go_simp <;> (first | rfl | simp | (rw [IntKind.wrap_i64]; omega)))
    case o11 =>
      intro Q a w2 hC hV hI
      have e5 : a.eval (.tmp 5) = .iface 58 (.pointer (some ⟨g, 0, none⟩)) := hV 5 (by simp [Op.operands]) (by kernel_rfl)
      have f5 : a.tmps.getD 5 undef = .iface 58 (.pointer (some ⟨g, 0, none⟩)) := e5
      have g5 : a.tmps[5]?.getD undef = .iface 58 (.pointer (some ⟨g, 0, none⟩)) := by rw [← Array.getD_eq_getD_getElem?]; exact e5
      refine op_val (.iface 58 (.pointer (some ⟨g, 0, none⟩))) ?_ hC (Below.refl _ _) (by intro d hd; cases hd; rfl)
      (clear hV hI hC; go_simp <;> (first | rfl | simp | (rw [IntKind.wrap_i64]; omega)))
  case hend =>
    intro f v1 hC hall
    simp only [List.take_succ_cons, List.take_zero, List.drop_succ_cons, List.drop_zero] at hall ⊢
    simp only [List.forall_mem_cons] at hall
    obtain ⟨h5, h6, h7, h8, h9, h10, h11, _⟩ := hall
    replace h5 : f 5 = .iface 58 (.pointer (some ⟨g, 0, none⟩)) := h5 5 rfl
    replace h6 : f 6 = .pointer (some ⟨gh, 0, none⟩) := h6 6 rfl
    replace h7 : f 7 = .pointer (some ⟨gh, 0, none⟩) := h7 7 rfl
    replace h8 : f 8 = .pointer (some ⟨gh, 8, none⟩) := h8 8 rfl
    replace h9 : f 9 = .func (.method "loop.example/g00413/impl.short") #[.iface 58 (.pointer (some ⟨g, 0, none⟩))] #[] := h9 9 rfl
    replace h10 : f 10 = .func (.method "loop.example/g00413/impl.short") #[.iface 58 (.pointer (some ⟨g, 0, none⟩))] #[] := h10 10 rfl
    replace h11 : f 11 = .iface 58 (.pointer (some ⟨g, 0, none⟩)) := h11 11 rfl
    simp only [putAll, Act.put, List.setIfInBounds_toArray, List.set_cons_succ, List.set_cons_zero, h5, h6, h7, h8, h9, h10, h11]
    clear h5 h6 h7 h8 h9 h10 h11
    have W1 := Lib.hid (HW0.out.below hC)
    have H1 := Lib.hid ((hC.block gh (by have := HW0.out.lt; omega)).trans HH0.out)
    have C1 := Lib.hid (B0.out.trans (hC.mono (by have := HW0.out.lt; omega)))
    clear hC HW0 HH0 B0
    have q1 := Lib.hid (short_r g gh 8 s (j : Int) hi #[.int .i64 0, .int .i64 0, .int .i64 0, .int .i64 0, .int .i64 0, .int .i64 0, .string ⟨#[]⟩, .string ⟨#[]⟩, .int .i64 0, .int .i64 0, .int .i64 0, .int .i64 0, .int .i64 0] T v1 hs (by omega) W1.out H1.out (by omega) ⟨_, rfl⟩)
    go_wp2_with fail
    refine q1.out.mono ?_
    rintro e w1 ⟨rfl, hw, hh, hb⟩
    rw [show ((j : Int) + 2) = ((j + 2 : Nat) : Int) from by omega] at hw
    simp only [List.setIfInBounds_toArray, List.set_cons_succ, List.set_cons_zero] at hh
    rw [show get16v s (j : Int) hi = x1 from X1.out.symm] at hh
    have HW1 : Hid (RdO w1 g s ((j + 2 : Nat) : Int) hi) := Lib.hid hw
    have HH1 : Hid (w1.heap[gh]? = some (.cells #[.int .i64 0, .int .i64 0, .int .i64 0, .int .i64 0, .int .i64 0, .int .i64 0, .string ⟨#[]⟩, .string ⟨#[]⟩, .int .i64 x1, .int .i64 0, .int .i64 0, .int .i64 0, .int .i64 0] T (0, 0))) := Lib.hid hh
    have B1 := Lib.hid (C1.out.trans (hb gh (by omega) (Nat.le_refl _)))
    clear hw hh hb H1 W1 C1 q1 X1
    go_upto_region 2 with fail
    refine wp_region_cut 8 (by kernel_rfl) (fun w' => Below w1.heap.size w1 w') (fun x y => Below x.heap.size x y) (fun dq vq _ => match dq with | 13 => vq = .iface 58 (.pointer (some ⟨g, 0, none⟩)) | 14 => vq = .pointer (some ⟨gh, 0, none⟩) | 15 => vq = .pointer (some ⟨gh, 0, none⟩) | 16 => vq = .pointer (some ⟨gh, 9, none⟩) | 17 => vq = .pointer (some ⟨gh, 9, none⟩) | 18 => vq = .func (.method "loop.example/g00413/impl.short") #[.iface 58 (.pointer (some ⟨g, 0, none⟩))] #[] | 19 => vq = .func (.method "loop.example/g00413/impl.short") #[.iface 58 (.pointer (some ⟨g, 0, none⟩))] #[] | 20 => vq = .iface 58 (.pointer (some ⟨g, 0, none⟩)) | _ => True) (by kernel_rfl) (by kernel_rfl) ((Below.refl _ _).drew) (fun _ _ _ _ _ _ h => h) (by simp) ?hops ?hend
    case hops =>
      simp only [List.take_succ_cons, List.take_zero, List.forall_mem_cons]
      refine ⟨?o13, ?o14, ?o15, ?o16, ?o17, ?o18, ?o19, ?o20, fun _ h => by cases h⟩
      case o13 =>
        intro Q a w2 hC hV hI
        have e1 : a.eval (.tmp 1) = .iface 58 (.pointer (some ⟨g, 0, none⟩)) := (hI 1 (by simp [Op.operands]) (by kernel_rfl)).trans rfl
        have f1 : a.tmps.getD 1 undef = .iface 58 (.pointer (some ⟨g, 0, none⟩)) := e1
        have g1 : a.tmps[1]?.getD undef = .iface 58 (.pointer (some ⟨g, 0, none⟩)) := by rw [← Array.getD_eq_getD_getElem?]; exact e1
        refine op_val (.iface 58 (.pointer (some ⟨g, 0, none⟩))) ?_ hC (Below.refl _ _) (by intro d hd; cases hd; rfl)
        (clear hV hI hC; go_simp <;> (first | rfl | simp | (rw [IntKind.wrap_i64]; omega)))
      case o14 =>
        intro Q a w2 hC hV hI
        have e0 : a.eval (.tmp 0) = .pointer (some ⟨gh, 0, none⟩) := (hI 0 (by simp [Op.operands]) (by kernel_rfl)).trans rfl
        have f0 : a.tmps.getD 0 undef = .pointer (some ⟨gh, 0, none⟩) := e0
        have g0 : a.tmps[0]?.getD undef = .pointer (some ⟨gh, 0, none⟩) := by rw [← Array.getD_eq_getD_getElem?]; exact e0
        refine op_val (.pointer (some ⟨gh, 0, none⟩)) ?_ hC (Below.refl _ _) (by intro d hd; cases hd; rfl)
        (clear hV hI hC; go_simp <;> (first | rfl | simp | (rw [IntKind.wrap_i64]; omega)))
      case o15 =>
        intro Q a w2 hC hV hI
        have e14 : a.eval (.tmp 14) = .pointer (some ⟨gh, 0, none⟩) := hV 14 (by simp [Op.operands]) (by kernel_rfl)
        have f14 : a.tmps.getD 14 undef = .pointer (some ⟨gh, 0, none⟩) := e14
        have g14 : a.tmps[14]?.getD undef = .pointer (some ⟨gh, 0, none⟩) := by rw [← Array.getD_eq_getD_getElem?]; exact e14
        refine op_val (.pointer (some ⟨gh, 0, none⟩)) ?_ hC (Below.refl _ _) (by intro d hd; cases hd; rfl)
        (clear hV hI hC; go_simp <;> (first | rfl | simp | (rw [IntKind.wrap_i64]; omega)))
      case o16 =>
        intro Q a w2 hC hV hI
        have e15 : a.eval (.tmp 15) = .pointer (some ⟨gh, 0, none⟩) := hV 15 (by simp [Op.operands]) (by kernel_rfl)
        have f15 : a.tmps.getD 15 undef = .pointer (some ⟨gh, 0, none⟩) := e15
        have g15 : a.tmps[15]?.getD undef = .pointer (some ⟨gh, 0, none⟩) := by rw [← Array.getD_eq_getD_getElem?]; exact e15
        refine op_val (.pointer (some ⟨gh, 9, none⟩)) ?_ hC (Below.refl _ _) (by intro d hd; cases hd; rfl)
        (clear hV hI hC; go_simp <;> (first | rfl | simp | (rw [IntKind.wrap_i64]; omega)))
      case o17 =>
        intro Q a w2 hC hV hI
        have e16 : a.eval (.tmp 16) = .pointer (some ⟨gh, 9, none⟩) := hV 16 (by simp [Op.operands]) (by kernel_rfl)
        have f16 : a.tmps.getD 16 undef = .pointer (some ⟨gh, 9, none⟩) := e16
        have g16 : a.tmps[16]?.getD undef = .pointer (some ⟨gh, 9, none⟩) := by rw [← Array.getD_eq_getD_getElem?]; exact e16
        refine op_val (.pointer (some ⟨gh, 9, none⟩)) ?_ hC (Below.refl _ _) (by intro d hd; cases hd; rfl)
        (clear hV hI hC; go_simp <;> (first | rfl | simp | (rw [IntKind.wrap_i64]; omega)))
      case o18 =>
        intro Q a w2 hC hV hI
        have e13 : a.eval (.tmp 13) = .iface 58 (.pointer (some ⟨g, 0, none⟩)) := hV 13 (by simp [Op.operands]) (by kernel_rfl)
        have f13 : a.tmps.getD 13 undef = .iface 58 (.pointer (some ⟨g, 0, none⟩)) := e13
        have g13 : a.tmps[13]?.getD undef = .iface 58 (.pointer (some ⟨g, 0, none⟩)) := by rw [← Array.getD_eq_getD_getElem?]; exact e13
        refine op_val (.func (.method "loop.example/g00413/impl.short") #[.iface 58 (.pointer (some ⟨g, 0, none⟩))] #[]) ?_ hC (Below.refl _ _) (by intro d hd; cases hd; rfl)
        (clear hV hI hC; go_simp <;> (first | rfl | simp | (rw [IntKind.wrap_i64]; omega)))
      case o19 =>
        intro Q a w2 hC hV hI
        have e18 : a.eval (.tmp 18) = .func (.method "loop.example/g00413/impl.short") #[.iface 58 (.pointer (some ⟨g, 0, none⟩))] #[] := hV 18 (by simp [Op.operands]) (by kernel_rfl)
        have f18 : a.tmps.getD 18 undef = .func (.method "loop.example/g00413/impl.short") #[.iface 58 (.pointer (some ⟨g, 0, none⟩))] #[] := e18
        have g18 : a.tmps[18]?.getD undef = .func (.method "loop.example/g00413/impl.short") #[.iface 58 (.pointer (some ⟨g, 0, none⟩))] #[] := by rw [← Array.getD_eq_getD_getElem?]; exact e18
        refine op_val (.func (.method "loop.example/g00413/impl.short") #[.iface 58 (.pointer (some ⟨g, 0, none⟩))] #[]) ?_ hC (Below.refl _ _) (by intro d hd; cases hd; rfl)
        (clear hV hI hC; go_simp <;> (first | rfl | simp | (rw [IntKind.wrap_i64]; omega)))
      case o20 =>
        intro Q a w2 hC hV hI
        have e13 : a.eval (.tmp 13) = .iface 58 (.pointer (some ⟨g, 0, none⟩)) := hV 13 (by simp [Op.operands]) (by kernel_rfl)
        have f13 : a.tmps.getD 13 undef = .iface 58 (.pointer (some ⟨g, 0, none⟩)) := e13
        have g13 : a.tmps[13]?.getD undef = .iface 58 (.pointer (some ⟨g, 0, none⟩)) := by rw [← Array.getD_eq_getD_getElem?]; exact e13
        refine op_val (.iface 58 (.pointer (some ⟨g, 0, none⟩))) ?_ hC (Below.refl _ _) (by intro d hd; cases hd; rfl)
        (clear hV hI hC; go_simp <;> (first | rfl | simp | (rw [IntKind.wrap_i64]; omega)))
    case hend =>
      intro f v2 hC hall
      simp only [List.take_succ_cons, List.take_zero, List.drop_succ_cons, List.drop_zero] at hall ⊢
      simp only [List.forall_mem_cons] at hall
      obtain ⟨h13, h14, h15, h16, h17, h18, h19, h20, _⟩ := hall
      replace h13 : f 13 = .iface 58 (.pointer (some ⟨g, 0, none⟩)) := h13 13 rfl
      replace h14 : f 14 = .pointer (some ⟨gh, 0, none⟩) := h14 14 rfl
      replace h15 : f 15 = .pointer (some ⟨gh, 0, none⟩) := h15 15 rfl
      replace h16 : f 16 = .pointer (some ⟨gh, 9, none⟩) := h16 16 rfl
      replace h17 : f 17 = .pointer (some ⟨gh, 9, none⟩) := h17 17 rfl
      replace h18 : f 18 = .func (.method "loop.example/g00413/impl.short") #[.iface 58 (.pointer (some ⟨g, 0, none⟩))] #[] := h18 18 rfl
      replace h19 : f 19 = .func (.method "loop.example/g00413/impl.short") #[.iface 58 (.pointer (some ⟨g, 0, none⟩))] #[] := h19 19 rfl
      replace h20 : f 20 = .iface 58 (.pointer (some ⟨g, 0, none⟩)) := h20 20 rfl
      simp only [putAll, Act.put, List.setIfInBounds_toArray, List.set_cons_succ, List.set_cons_zero, h13, h14, h15, h16, h17, h18, h19, h20]
      clear h13 h14 h15 h16 h17 h18 h19 h20
      have W2 := Lib.hid (HW1.out.below hC)
      have H2 := Lib.hid ((hC.block gh (by have := HW1.out.lt; omega)).trans HH1.out)
      have C2 := Lib.hid (B1.out.trans (hC.mono (by have := HW1.out.lt; omega)))
      clear hC HW1 HH1 B1
      have q2 := Lib.hid (short_r g gh 9 s ((j + 2 : Nat) : Int) hi #[.int .i64 0, .int .i64 0, .int .i64 0, .int .i64 0, .int .i64 0, .int .i64 0, .string ⟨#[]⟩, .string ⟨#[]⟩, .int .i64 x1, .int .i64 0, .int .i64 0, .int .i64 0, .int .i64 0] T v2 hs (by omega) W2.out H2.out (by omega) ⟨_, rfl⟩)
      go_wp2_with fail
      refine q2.out.mono ?_
      rintro e w2 ⟨rfl, hw, hh, hb⟩
      rw [show (((j + 2 : Nat) : Int) + 2) = ((j + 4 : Nat) : Int) from by omega] at hw
      simp only [List.setIfInBounds_toArray, List.set_cons_succ, List.set_cons_zero] at hh
      rw [← X2.out] at hh
      have HW2 : Hid (RdO w2 g s ((j + 4 : Nat) : Int) hi) := Lib.hid hw
      have HH2 : Hid (w2.heap[gh]? = some (.cells #[.int .i64 0, .int .i64 0, .int .i64 0, .int .i64 0, .int .i64 0, .int .i64 0, .string ⟨#[]⟩, .string ⟨#[]⟩, .int .i64 x1, .int .i64 x2, .int .i64 0, .int .i64 0, .int .i64 0] T (0, 0))) := Lib.hid hh
      have B2 := Lib.hid (C2.out.trans (hb gh (by omega) (Nat.le_refl _)))
      clear hw hh hb H2 W2 C2 q2 X2
      go_upto_region 3 with fail
      refine wp_region_cut 8 (by kernel_rfl) (fun w' => Below w2.heap.size w2 w') (fun x y => Below x.heap.size x y) (fun dq vq _ => match dq with | 22 => vq = .iface 58 (.pointer (some ⟨g, 0, none⟩)) | 23 => vq = .pointer (some ⟨gh, 0, none⟩) | 24 => vq = .pointer (some ⟨gh, 0, none⟩) | 25 => vq = .pointer (some ⟨gh, 0, none⟩) | 26 => vq = .pointer (some ⟨gh, 0, none⟩) | 27 => vq = .func (.method "loop.example/g00413/impl.short") #[.iface 58 (.pointer (some ⟨g, 0, none⟩))] #[] | 28 => vq = .func (.method "loop.example/g00413/impl.short") #[.iface 58 (.pointer (some ⟨g, 0, none⟩))] #[] | 29 => vq = .iface 58 (.pointer (some ⟨g, 0, none⟩)) | _ => True) (by kernel_rfl) (by kernel_rfl) ((Below.refl _ _).drew) (fun _ _ _ _ _ _ h => h) (by simp) ?hops ?hend
      case hops =>
        simp only [List.take_succ_cons, List.take_zero, List.forall_mem_cons]
        refine ⟨?o22, ?o23, ?o24, ?o25, ?o26, ?o27, ?o28, ?o29, fun _ h => by cases h⟩
        case o22 =>
          intro Q a w2 hC hV hI
          have e1 : a.eval (.tmp 1) = .iface 58 (.pointer (some ⟨g, 0, none⟩)) := (hI 1 (by simp [Op.operands]) (by kernel_rfl)).trans rfl
          have f1 : a.tmps.getD 1 undef = .iface 58 (.pointer (some ⟨g, 0, none⟩)) := e1
          have g1 : a.tmps[1]?.getD undef = .iface 58 (.pointer (some ⟨g, 0, none⟩)) := by rw [← Array.getD_eq_getD_getElem?]; exact e1
          refine op_val (.iface 58 (.pointer (some ⟨g, 0, none⟩))) ?_ hC (Below.refl _ _) (by intro d hd; cases hd; rfl)
          (clear hV hI hC; go_simp <;> (first | rfl | simp | (rw [IntKind.wrap_i64]; omega)))
        case o23 =>
          intro Q a w2 hC hV hI
          have e0 : a.eval (.tmp 0) = .pointer (some ⟨gh, 0, none⟩) := (hI 0 (by simp [Op.operands]) (by kernel_rfl)).trans rfl
          have f0 : a.tmps.getD 0 undef = .pointer (some ⟨gh, 0, none⟩) := e0
          have g0 : a.tmps[0]?.getD undef = .pointer (some ⟨gh, 0, none⟩) := by rw [← Array.getD_eq_getD_getElem?]; exact e0
          refine op_val (.pointer (some ⟨gh, 0, none⟩)) ?_ hC (Below.refl _ _) (by intro d hd; cases hd; rfl)
          (clear hV hI hC; go_simp <;> (first | rfl | simp | (rw [IntKind.wrap_i64]; omega)))
        case o24 =>
          intro Q a w2 hC hV hI
          have e23 : a.eval (.tmp 23) = .pointer (some ⟨gh, 0, none⟩) := hV 23 (by simp [Op.operands]) (by kernel_rfl)
          have f23 : a.tmps.getD 23 undef = .pointer (some ⟨gh, 0, none⟩) := e23
          have g23 : a.tmps[23]?.getD undef = .pointer (some ⟨gh, 0, none⟩) := by rw [← Array.getD_eq_getD_getElem?]; exact e23
          refine op_val (.pointer (some ⟨gh, 0, none⟩)) ?_ hC (Below.refl _ _) (by intro d hd; cases hd; rfl)
          (clear hV hI hC; go_simp <;> (first | rfl | simp | (rw [IntKind.wrap_i64]; omega)))
        case o25 =>
          intro Q a w2 hC hV hI
          have e24 : a.eval (.tmp 24) = .pointer (some ⟨gh, 0, none⟩) := hV 24 (by simp [Op.operands]) (by kernel_rfl)
          have f24 : a.tmps.getD 24 undef = .pointer (some ⟨gh, 0, none⟩) := e24
          have g24 : a.tmps[24]?.getD undef = .pointer (some ⟨gh, 0, none⟩) := by rw [← Array.getD_eq_getD_getElem?]; exact e24
          refine op_val (.pointer (some ⟨gh, 0, none⟩)) ?_ hC (Below.refl _ _) (by intro d hd; cases hd; rfl)
          (clear hV hI hC; go_simp <;> (first | rfl | simp | (rw [IntKind.wrap_i64]; omega)))
        case o26 =>
          intro Q a w2 hC hV hI
          have e25 : a.eval (.tmp 25) = .pointer (some ⟨gh, 0, none⟩) := hV 25 (by simp [Op.operands]) (by kernel_rfl)
          have f25 : a.tmps.getD 25 undef = .pointer (some ⟨gh, 0, none⟩) := e25
          have g25 : a.tmps[25]?.getD undef = .pointer (some ⟨gh, 0, none⟩) := by rw [← Array.getD_eq_getD_getElem?]; exact e25
          refine op_val (.pointer (some ⟨gh, 0, none⟩)) ?_ hC (Below.refl _ _) (by intro d hd; cases hd; rfl)
          (clear hV hI hC; go_simp <;> (first | rfl | simp | (rw [IntKind.wrap_i64]; omega)))
        case o27 =>
          intro Q a w2 hC hV hI
          have e22 : a.eval (.tmp 22) = .iface 58 (.pointer (some ⟨g, 0, none⟩)) := hV 22 (by simp [Op.operands]) (by kernel_rfl)
          have f22 : a.tmps.getD 22 undef = .iface 58 (.pointer (some ⟨g, 0, none⟩)) := e22
          have g22 : a.tmps[22]?.getD undef = .iface 58 (.pointer (some ⟨g, 0, none⟩)) := by rw [← Array.getD_eq_getD_getElem?]; exact e22
          refine op_val (.func (.method "loop.example/g00413/impl.short") #[.iface 58 (.pointer (some ⟨g, 0, none⟩))] #[]) ?_ hC (Below.refl _ _) (by intro d hd; cases hd; rfl)
          (clear hV hI hC; go_simp <;> (first | rfl | simp | (rw [IntKind.wrap_i64]; omega)))
        case o28 =>
          intro Q a w2 hC hV hI
          have e27 : a.eval (.tmp 27) = .func (.method "loop.example/g00413/impl.short") #[.iface 58 (.pointer (some ⟨g, 0, none⟩))] #[] := hV 27 (by simp [Op.operands]) (by kernel_rfl)
          have f27 : a.tmps.getD 27 undef = .func (.method "loop.example/g00413/impl.short") #[.iface 58 (.pointer (some ⟨g, 0, none⟩))] #[] := e27
          have g27 : a.tmps[27]?.getD undef = .func (.method "loop.example/g00413/impl.short") #[.iface 58 (.pointer (some ⟨g, 0, none⟩))] #[] := by rw [← Array.getD_eq_getD_getElem?]; exact e27
          refine op_val (.func (.method "loop.example/g00413/impl.short") #[.iface 58 (.pointer (some ⟨g, 0, none⟩))] #[]) ?_ hC (Below.refl _ _) (by intro d hd; cases hd; rfl)
          (clear hV hI hC; go_simp <;> (first | rfl | simp | (rw [IntKind.wrap_i64]; omega)))
        case o29 =>
          intro Q a w2 hC hV hI
          have e22 : a.eval (.tmp 22) = .iface 58 (.pointer (some ⟨g, 0, none⟩)) := hV 22 (by simp [Op.operands]) (by kernel_rfl)
          have f22 : a.tmps.getD 22 undef = .iface 58 (.pointer (some ⟨g, 0, none⟩)) := e22
          have g22 : a.tmps[22]?.getD undef = .iface 58 (.pointer (some ⟨g, 0, none⟩)) := by rw [← Array.getD_eq_getD_getElem?]; exact e22
          refine op_val (.iface 58 (.pointer (some ⟨g, 0, none⟩))) ?_ hC (Below.refl _ _) (by intro d hd; cases hd; rfl)
          (clear hV hI hC; go_simp <;> (first | rfl | simp | (rw [IntKind.wrap_i64]; omega)))
      case hend =>
        intro f v3 hC hall
        simp only [List.take_succ_cons, List.take_zero, List.drop_succ_cons, List.drop_zero] at hall ⊢
        simp only [List.forall_mem_cons] at hall
        obtain ⟨h22, h23, h24, h25, h26, h27, h28, h29, _⟩ := hall
        replace h22 : f 22 = .iface 58 (.pointer (some ⟨g, 0, none⟩)) := h22 22 rfl
        replace h23 : f 23 = .pointer (some ⟨gh, 0, none⟩) := h23 23 rfl
        replace h24 : f 24 = .pointer (some ⟨gh, 0, none⟩) := h24 24 rfl
        replace h25 : f 25 = .pointer (some ⟨gh, 0, none⟩) := h25 25 rfl
        replace h26 : f 26 = .pointer (some ⟨gh, 0, none⟩) := h26 26 rfl
        replace h27 : f 27 = .func (.method "loop.example/g00413/impl.short") #[.iface 58 (.pointer (some ⟨g, 0, none⟩))] #[] := h27 27 rfl
        replace h28 : f 28 = .func (.method "loop.example/g00413/impl.short") #[.iface 58 (.pointer (some ⟨g, 0, none⟩))] #[] := h28 28 rfl
        replace h29 : f 29 = .iface 58 (.pointer (some ⟨g, 0, none⟩)) := h29 29 rfl
        simp only [putAll, Act.put, List.setIfInBounds_toArray, List.set_cons_succ, List.set_cons_zero, h22, h23, h24, h25, h26, h27, h28, h29]
        clear h22 h23 h24 h25 h26 h27 h28 h29
        have W3 := Lib.hid (HW2.out.below hC)
        have H3 := Lib.hid ((hC.block gh (by have := HW2.out.lt; omega)).trans HH2.out)
        have C3 := Lib.hid (B2.out.trans (hC.mono (by have := HW2.out.lt; omega)))
        clear hC HW2 HH2 B2
        have q3 := Lib.hid (short_r g gh 0 s ((j + 4 : Nat) : Int) hi #[.int .i64 0, .int .i64 0, .int .i64 0, .int .i64 0, .int .i64 0, .int .i64 0, .string ⟨#[]⟩, .string ⟨#[]⟩, .int .i64 x1, .int .i64 x2, .int .i64 0, .int .i64 0, .int .i64 0] T v3 hs (by omega) W3.out H3.out (by omega) ⟨_, rfl⟩)
        go_wp2_with fail
        refine q3.out.mono ?_
        rintro e w3 ⟨rfl, hw, hh, hb⟩
        rw [show (((j + 4 : Nat) : Int) + 2) = ((j + 6 : Nat) : Int) from by omega] at hw
        simp only [List.setIfInBounds_toArray, List.set_cons_zero] at hh
        rw [← X3.out] at hh
        have HW3 : Hid (RdO w3 g s ((j + 6 : Nat) : Int) hi) := Lib.hid hw
        have HH3 : Hid (w3.heap[gh]? = some (.cells #[.int .i64 x3, .int .i64 0, .int .i64 0, .int .i64 0, .int .i64 0, .int .i64 0, .string ⟨#[]⟩, .string ⟨#[]⟩, .int .i64 x1, .int .i64 x2, .int .i64 0, .int .i64 0, .int .i64 0] T (0, 0))) := Lib.hid hh
        have B3 := Lib.hid (C3.out.trans (hb gh (by omega) (Nat.le_refl _)))
        clear hw hh hb H3 W3 C3 q3 X3
        go_upto_region 4 with fail
        refine wp_region_cut 8 (by kernel_rfl) (fun w' => Below w3.heap.size w3 w') (fun x y => Below x.heap.size x y) (fun dq vq _ => match dq with | 31 => vq = .iface 58 (.pointer (some ⟨g, 0, none⟩)) | 32 => vq = .pointer (some ⟨gh, 0, none⟩) | 33 => vq = .pointer (some ⟨gh, 0, none⟩) | 34 => vq = .pointer (some ⟨gh, 0, none⟩) | 35 => vq = .pointer (some ⟨gh, 1, none⟩) | 36 => vq = .func (.method "loop.example/g00413/impl.short") #[.iface 58 (.pointer (some ⟨g, 0, none⟩))] #[] | 37 => vq = .func (.method "loop.example/g00413/impl.short") #[.iface 58 (.pointer (some ⟨g, 0, none⟩))] #[] | 38 => vq = .iface 58 (.pointer (some ⟨g, 0, none⟩)) | _ => True) (by kernel_rfl) (by kernel_rfl) ((Below.refl _ _).drew) (fun _ _ _ _ _ _ h => h) (by simp) ?hops ?hend
        case hops =>
          simp only [List.take_succ_cons, List.take_zero, List.forall_mem_cons]
          refine ⟨?o31, ?o32, ?o33, ?o34, ?o35, ?o36, ?o37, ?o38, fun _ h => by cases h⟩
          case o31 =>
            intro Q a w2 hC hV hI
            have e1 : a.eval (.tmp 1) = .iface 58 (.pointer (some ⟨g, 0, none⟩)) := (hI 1 (by simp [Op.operands]) (by kernel_rfl)).trans rfl
            have f1 : a.tmps.getD 1 undef = .iface 58 (.pointer (some ⟨g, 0, none⟩)) := e1
            have g1 : a.tmps[1]?.getD undef = .iface 58 (.pointer (some ⟨g, 0, none⟩)) := by rw [← Array.getD_eq_getD_getElem?]; exact e1
            refine op_val (.iface 58 (.pointer (some ⟨g, 0, none⟩))) ?_ hC (Below.refl _ _) (by intro d hd; cases hd; rfl)
            (clear hV hI hC; go_simp <;> (first | rfl | simp | (rw [IntKind.wrap_i64]; omega)))
          case o32 =>
            intro Q a w2 hC hV hI
            have e0 : a.eval (.tmp 0) = .pointer (some ⟨gh, 0, none⟩) := (hI 0 (by simp [Op.operands]) (by kernel_rfl)).trans rfl
            have f0 : a.tmps.getD 0 undef = .pointer (some ⟨gh, 0, none⟩) := e0
            have g0 : a.tmps[0]?.getD undef = .pointer (some ⟨gh, 0, none⟩) := by rw [← Array.getD_eq_getD_getElem?]; exact e0
            refine op_val (.pointer (some ⟨gh, 0, none⟩)) ?_ hC (Below.refl _ _) (by intro d hd; cases hd; rfl)
            (clear hV hI hC; go_simp <;> (first | rfl | simp | (rw [IntKind.wrap_i64]; omega)))
          case o33 =>
            intro Q a w2 hC hV hI
            have e32 : a.eval (.tmp 32) = .pointer (some ⟨gh, 0, none⟩) := hV 32 (by simp [Op.operands]) (by kernel_rfl)
            have f32 : a.tmps.getD 32 undef = .pointer (some ⟨gh, 0, none⟩) := e32
            have g32 : a.tmps[32]?.getD undef = .pointer (some ⟨gh, 0, none⟩) := by rw [← Array.getD_eq_getD_getElem?]; exact e32
            refine op_val (.pointer (some ⟨gh, 0, none⟩)) ?_ hC (Below.refl _ _) (by intro d hd; cases hd; rfl)
            (clear hV hI hC; go_simp <;> (first | rfl | simp | (rw [IntKind.wrap_i64]; omega)))
          case o34 =>
            intro Q a w2 hC hV hI
            have e33 : a.eval (.tmp 33) = .pointer (some ⟨gh, 0, none⟩) := hV 33 (by simp [Op.operands]) (by kernel_rfl)
            have f33 : a.tmps.getD 33 undef = .pointer (some ⟨gh, 0, none⟩) := e33
            have g33 : a.tmps[33]?.getD undef = .pointer (some ⟨gh, 0, none⟩) := by rw [← Array.getD_eq_getD_getElem?]; exact e33
            refine op_val (.pointer (some ⟨gh, 0, none⟩)) ?_ hC (Below.refl _ _) (by intro d hd; cases hd; rfl)
            (clear hV hI hC; go_simp <;> (first | rfl | simp | (rw [IntKind.wrap_i64]; omega)))
          case o35 =>
            intro Q a w2 hC hV hI
            have e34 : a.eval (.tmp 34) = .pointer (some ⟨gh, 0, none⟩) := hV 34 (by simp [Op.operands]) (by kernel_rfl)
            have f34 : a.tmps.getD 34 undef = .pointer (some ⟨gh, 0, none⟩) := e34
            have g34 : a.tmps[34]?.getD undef = .pointer (some ⟨gh, 0, none⟩) := by rw [← Array.getD_eq_getD_getElem?]; exact e34
            refine op_val (.pointer (some ⟨gh, 1, none⟩)) ?_ hC (Below.refl _ _) (by intro d hd; cases hd; rfl)
            (clear hV hI hC; go_simp <;> (first | rfl | simp | (rw [IntKind.wrap_i64]; omega)))
          case o36 =>
            intro Q a w2 hC hV hI
            have e31 : a.eval (.tmp 31) = .iface 58 (.pointer (some ⟨g, 0, none⟩)) := hV 31 (by simp [Op.operands]) (by kernel_rfl)
            have f31 : a.tmps.getD 31 undef = .iface 58 (.pointer (some ⟨g, 0, none⟩)) := e31
            have g31 : a.tmps[31]?.getD undef = .iface 58 (.pointer (some ⟨g, 0, none⟩)) := by rw [← Array.getD_eq_getD_getElem?]; exact e31
            refine op_val (.func (.method "loop.example/g00413/impl.short") #[.iface 58 (.pointer (some ⟨g, 0, none⟩))] #[]) ?_ hC (Below.refl _ _) (by intro d hd; cases hd; rfl)
            (clear hV hI hC; go_simp <;> (first | rfl | simp | (rw [IntKind.wrap_i64]; omega)))
          case o37 =>
            intro Q a w2 hC hV hI
            have e36 : a.eval (.tmp 36) = .func (.method "loop.example/g00413/impl.short") #[.iface 58 (.pointer (some ⟨g, 0, none⟩))] #[] := hV 36 (by simp [Op.operands]) (by kernel_rfl)
            have f36 : a.tmps.getD 36 undef = .func (.method "loop.example/g00413/impl.short") #[.iface 58 (.pointer (some ⟨g, 0, none⟩))] #[] := e36
            have g36 : a.tmps[36]?.getD undef = .func (.method "loop.example/g00413/impl.short") #[.iface 58 (.pointer (some ⟨g, 0, none⟩))] #[] := by rw [← Array.getD_eq_getD_getElem?]; exact e36
            refine op_val (.func (.method "loop.example/g00413/impl.short") #[.iface 58 (.pointer (some ⟨g, 0, none⟩))] #[]) ?_ hC (Below.refl _ _) (by intro d hd; cases hd; rfl)
            (clear hV hI hC; go_simp <;> (first | rfl | simp | (rw [IntKind.wrap_i64]; omega)))
          case o38 =>
            intro Q a w2 hC hV hI
            have e31 : a.eval (.tmp 31) = .iface 58 (.pointer (some ⟨g, 0, none⟩)) := hV 31 (by simp [Op.operands]) (by kernel_rfl)
            have f31 : a.tmps.getD 31 undef = .iface 58 (.pointer (some ⟨g, 0, none⟩)) := e31
            have g31 : a.tmps[31]?.getD undef = .iface 58 (.pointer (some ⟨g, 0, none⟩)) := by rw [← Array.getD_eq_getD_getElem?]; exact e31
            refine op_val (.iface 58 (.pointer (some ⟨g, 0, none⟩))) ?_ hC (Below.refl _ _) (by intro d hd; cases hd; rfl)
            (clear hV hI hC; go_simp <;> (first | rfl | simp | (rw [IntKind.wrap_i64]; omega)))
        case hend =>
          intro f v4 hC hall
          simp only [List.take_succ_cons, List.take_zero, List.drop_succ_cons, List.drop_zero] at hall ⊢
          simp only [List.forall_mem_cons] at hall
          obtain ⟨h31, h32, h33, h34, h35, h36, h37, h38, _⟩ := hall
          replace h31 : f 31 = .iface 58 (.pointer (some ⟨g, 0, none⟩)) := h31 31 rfl
          replace h32 : f 32 = .pointer (some ⟨gh, 0, none⟩) := h32 32 rfl
          replace h33 : f 33 = .pointer (some ⟨gh, 0, none⟩) := h33 33 rfl
          replace h34 : f 34 = .pointer (some ⟨gh, 0, none⟩) := h34 34 rfl
          replace h35 : f 35 = .pointer (some ⟨gh, 1, none⟩) := h35 35 rfl
          replace h36 : f 36 = .func (.method "loop.example/g00413/impl.short") #[.iface 58 (.pointer (some ⟨g, 0, none⟩))] #[] := h36 36 rfl
          replace h37 : f 37 = .func (.method "loop.example/g00413/impl.short") #[.iface 58 (.pointer (some ⟨g, 0, none⟩))] #[] := h37 37 rfl
          replace h38 : f 38 = .iface 58 (.pointer (some ⟨g, 0, none⟩)) := h38 38 rfl
          simp only [putAll, Act.put, List.setIfInBounds_toArray, List.set_cons_succ, List.set_cons_zero, h31, h32, h33, h34, h35, h36, h37, h38]
          clear h31 h32 h33 h34 h35 h36 h37 h38
          have W4 := Lib.hid (HW3.out.below hC)
          have H4 := Lib.hid ((hC.block gh (by have := HW3.out.lt; omega)).trans HH3.out)
          have C4 := Lib.hid (B3.out.trans (hC.mono (by have := HW3.out.lt; omega)))
          clear hC HW3 HH3 B3
          have q4 := Lib.hid (short_r g gh 1 s ((j + 6 : Nat) : Int) hi #[.int .i64 x3, .int .i64 0, .int .i64 0, .int .i64 0, .int .i64 0, .int .i64 0, .string ⟨#[]⟩, .string ⟨#[]⟩, .int .i64 x1, .int .i64 x2, .int .i64 0, .int .i64 0, .int .i64 0] T v4 hs (by omega) W4.out H4.out (by omega) ⟨_, rfl⟩)
          go_wp2_with fail
          refine q4.out.mono ?_
          rintro e w4 ⟨rfl, hw, hh, hb⟩
          rw [show (((j + 6 : Nat) : Int) + 2) = ((j + 8 : Nat) : Int) from by omega] at hw
          simp only [List.setIfInBounds_toArray, List.set_cons_succ, List.set_cons_zero] at hh
          rw [← X4.out] at hh
          have HW4 : Hid (RdO w4 g s ((j + 8 : Nat) : Int) hi) := Lib.hid hw
          have HH4 : Hid (w4.heap[gh]? = some (.cells #[.int .i64 x3, .int .i64 x4, .int .i64 0, .int .i64 0, .int .i64 0, .int .i64 0, .string ⟨#[]⟩, .string ⟨#[]⟩, .int .i64 x1, .int .i64 x2, .int .i64 0, .int .i64 0, .int .i64 0] T (0, 0))) := Lib.hid hh
          have B4 := Lib.hid (C4.out.trans (hb gh (by omega) (Nat.le_refl _)))
          clear hw hh hb H4 W4 C4 q4 X4
          go_upto_region 5 with fail
          refine wp_region_cut 8 (by kernel_rfl) (fun w' => Below w4.heap.size w4 w') (fun x y => Below x.heap.size x y) (fun dq vq _ => match dq with | 40 => vq = .iface 58 (.pointer (some ⟨g, 0, none⟩)) | 41 => vq = .pointer (some ⟨gh, 0, none⟩) | 42 => vq = .pointer (some ⟨gh, 0, none⟩) | 43 => vq = .pointer (some ⟨gh, 0, none⟩) | 44 => vq = .pointer (some ⟨gh, 2, none⟩) | 45 => vq = .func (.method "loop.example/g00413/impl.short") #[.iface 58 (.pointer (some ⟨g, 0, none⟩))] #[] | 46 => vq = .func (.method "loop.example/g00413/impl.short") #[.iface 58 (.pointer (some ⟨g, 0, none⟩))] #[] | 47 => vq = .iface 58 (.pointer (some ⟨g, 0, none⟩)) | _ => True) (by kernel_rfl) (by kernel_rfl) ((Below.refl _ _).drew) (fun _ _ _ _ _ _ h => h) (by simp) ?hops ?hend
          case hops =>
            simp only [List.take_succ_cons, List.take_zero, List.forall_mem_cons]
            refine ⟨?o40, ?o41, ?o42, ?o43, ?o44, ?o45, ?o46, ?o47, fun _ h => by cases h⟩
            case o40 =>
              intro Q a w2 hC hV hI
              have e1 : a.eval (.tmp 1) = .iface 58 (.pointer (some ⟨g, 0, none⟩)) := (hI 1 (by simp [Op.operands]) (by kernel_rfl)).trans rfl
              have f1 : a.tmps.getD 1 undef = .iface 58 (.pointer (some ⟨g, 0, none⟩)) := e1
              have g1 : a.tmps[1]?.getD undef = .iface 58 (.pointer (some ⟨g, 0, none⟩)) := by rw [← Array.getD_eq_getD_getElem?]; exact e1
              refine op_val (.iface 58 (.pointer (some ⟨g, 0, none⟩))) ?_ hC (Below.refl _ _) (by intro d hd; cases hd; rfl)
              (clear hV hI hC; go_simp <;> (first | rfl | simp | (rw [IntKind.wrap_i64]; omega)))
            case o41 =>
              intro Q a w2 hC hV hI
              have e0 : a.eval (.tmp 0) = .pointer (some ⟨gh, 0, none⟩) := (hI 0 (by simp [Op.operands]) (by kernel_rfl)).trans rfl
              have f0 : a.tmps.getD 0 undef = .pointer (some ⟨gh, 0, none⟩) := e0
              have g0 : a.tmps[0]?.getD undef = .pointer (some ⟨gh, 0, none⟩) := by rw [← Array.getD_eq_getD_getElem?]; exact e0
              refine op_val (.pointer (some ⟨gh, 0, none⟩)) ?_ hC (Below.refl _ _) (by intro d hd; cases hd; rfl)
              (clear hV hI hC; go_simp <;> (first | rfl | simp | (rw [IntKind.wrap_i64]; omega)))
            case o42 =>
              intro Q a w2 hC hV hI
              have e41 : a.eval (.tmp 41) = .pointer (some ⟨gh, 0, none⟩) := hV 41 (by simp [Op.operands]) (by kernel_rfl)
              have f41 : a.tmps.getD 41 undef = .pointer (some ⟨gh, 0, none⟩) := e41
              have g41 : a.tmps[41]?.getD undef = .pointer (some ⟨gh, 0, none⟩) := by rw [← Array.getD_eq_getD_getElem?]; exact e41
              refine op_val (.pointer (some ⟨gh, 0, none⟩)) ?_ hC (Below.refl _ _) (by intro d hd; cases hd; rfl)
              (clear hV hI hC; go_simp <;> (first | rfl | simp | (rw [IntKind.wrap_i64]; omega)))
            case o43 =>
              intro Q a w2 hC hV hI
              have e42 : a.eval (.tmp 42) = .pointer (some ⟨gh, 0, none⟩) := hV 42 (by simp [Op.operands]) (by kernel_rfl)
              have f42 : a.tmps.getD 42 undef = .pointer (some ⟨gh, 0, none⟩) := e42
              have g42 : a.tmps[42]?.getD undef = .pointer (some ⟨gh, 0, none⟩) := by rw [← Array.getD_eq_getD_getElem?]; exact e42
              refine op_val (.pointer (some ⟨gh, 0, none⟩)) ?_ hC (Below.refl _ _) (by intro d hd; cases hd; rfl)
              (clear hV hI hC; go_simp <;> (first | rfl | simp | (rw [IntKind.wrap_i64]; omega)))
            case o44 =>
              intro Q a w2 hC hV hI
              have e43 : a.eval (.tmp 43) = .pointer (some ⟨gh, 0, none⟩) := hV 43 (by simp [Op.operands]) (by kernel_rfl)
              have f43 : a.tmps.getD 43 undef = .pointer (some ⟨gh, 0, none⟩) := e43
              have g43 : a.tmps[43]?.getD undef = .pointer (some ⟨gh, 0, none⟩) := by rw [← Array.getD_eq_getD_getElem?]; exact e43
              refine op_val (.pointer (some ⟨gh, 2, none⟩)) ?_ hC (Below.refl _ _) (by intro d hd; cases hd; rfl)
              (clear hV hI hC; go_simp <;> (first | rfl | simp | (rw [IntKind.wrap_i64]; omega)))
            case o45 =>
              intro Q a w2 hC hV hI
              have e40 : a.eval (.tmp 40) = .iface 58 (.pointer (some ⟨g, 0, none⟩)) := hV 40 (by simp [Op.operands]) (by kernel_rfl)
              have f40 : a.tmps.getD 40 undef = .iface 58 (.pointer (some ⟨g, 0, none⟩)) := e40
              have g40 : a.tmps[40]?.getD undef = .iface 58 (.pointer (some ⟨g, 0, none⟩)) := by rw [← Array.getD_eq_getD_getElem?]; exact e40
              refine op_val (.func (.method "loop.example/g00413/impl.short") #[.iface 58 (.pointer (some ⟨g, 0, none⟩))] #[]) ?_ hC (Below.refl _ _) (by intro d hd; cases hd; rfl)
              (clear hV hI hC; go_simp <;> (first | rfl | simp | (rw [IntKind.wrap_i64]; omega)))
            case o46 =>
              intro Q a w2 hC hV hI
              have e45 : a.eval (.tmp 45) = .func (.method "loop.example/g00413/impl.short") #[.iface 58 (.pointer (some ⟨g, 0, none⟩))] #[] := hV 45 (by simp [Op.operands]) (by kernel_rfl)
              have f45 : a.tmps.getD 45 undef = .func (.method "loop.example/g00413/impl.short") #[.iface 58 (.pointer (some ⟨g, 0, none⟩))] #[] := e45
              have g45 : a.tmps[45]?.getD undef = .func (.method "loop.example/g00413/impl.short") #[.iface 58 (.pointer (some ⟨g, 0, none⟩))] #[] := by rw [← Array.getD_eq_getD_getElem?]; exact e45
              refine op_val (.func (.method "loop.example/g00413/impl.short") #[.iface 58 (.pointer (some ⟨g, 0, none⟩))] #[]) ?_ hC (Below.refl _ _) (by intro d hd; cases hd; rfl)
              (clear hV hI hC; go_simp <;> (first | rfl | simp | (rw [IntKind.wrap_i64]; omega)))
            case o47 =>
              intro Q a w2 hC hV hI
              have e40 : a.eval (.tmp 40) = .iface 58 (.pointer (some ⟨g, 0, none⟩)) := hV 40 (by simp [Op.operands]) (by kernel_rfl)
              have f40 : a.tmps.getD 40 undef = .iface 58 (.pointer (some ⟨g, 0, none⟩)) := e40
              have g40 : a.tmps[40]?.getD undef = .iface 58 (.pointer (some ⟨g, 0, none⟩)) := by rw [← Array.getD_eq_getD_getElem?]; exact e40
              refine op_val (.iface 58 (.pointer (some ⟨g, 0, none⟩))) ?_ hC (Below.refl _ _) (by intro d hd; cases hd; rfl)
              (clear hV hI hC; go_simp <;> (first | rfl | simp | (rw [IntKind.wrap_i64]; omega)))
          case hend =>
            intro f v5 hC hall
            simp only [List.take_succ_cons, List.take_zero, List.drop_succ_cons, List.drop_zero] at hall ⊢
            simp only [List.forall_mem_cons] at hall
            obtain ⟨h40, h41, h42, h43, h44, h45, h46, h47, _⟩ := hall
            replace h40 : f 40 = .iface 58 (.pointer (some ⟨g, 0, none⟩)) := h40 40 rfl
            replace h41 : f 41 = .pointer (some ⟨gh, 0, none⟩) := h41 41 rfl
            replace h42 : f 42 = .pointer (some ⟨gh, 0, none⟩) := h42 42 rfl
            replace h43 : f 43 = .pointer (some ⟨gh, 0, none⟩) := h43 43 rfl
            replace h44 : f 44 = .pointer (some ⟨gh, 2, none⟩) := h44 44 rfl
            replace h45 : f 45 = .func (.method "loop.example/g00413/impl.short") #[.iface 58 (.pointer (some ⟨g, 0, none⟩))] #[] := h45 45 rfl
            replace h46 : f 46 = .func (.method "loop.example/g00413/impl.short") #[.iface 58 (.pointer (some ⟨g, 0, none⟩))] #[] := h46 46 rfl
            replace h47 : f 47 = .iface 58 (.pointer (some ⟨g, 0, none⟩)) := h47 47 rfl
            simp only [putAll, Act.put, List.setIfInBounds_toArray, List.set_cons_succ, List.set_cons_zero, h40, h41, h42, h43, h44, h45, h46, h47]
            clear h40 h41 h42 h43 h44 h45 h46 h47
            have W5 := Lib.hid (HW4.out.below hC)
            have H5 := Lib.hid ((hC.block gh (by have := HW4.out.lt; omega)).trans HH4.out)
            have C5 := Lib.hid (B4.out.trans (hC.mono (by have := HW4.out.lt; omega)))
            clear hC HW4 HH4 B4
            have q5 := Lib.hid (short_r g gh 2 s ((j + 8 : Nat) : Int) hi #[.int .i64 x3, .int .i64 x4, .int .i64 0, .int .i64 0, .int .i64 0, .int .i64 0, .string ⟨#[]⟩, .string ⟨#[]⟩, .int .i64 x1, .int .i64 x2, .int .i64 0, .int .i64 0, .int .i64 0] T v5 hs (by omega) W5.out H5.out (by omega) ⟨_, rfl⟩)
            go_wp2_with fail
            refine q5.out.mono ?_
            rintro e w5 ⟨rfl, hw, hh, hb⟩
            rw [show (((j + 8 : Nat) : Int) + 2) = ((j + 10 : Nat) : Int) from by omega] at hw
            simp only [List.setIfInBounds_toArray, List.set_cons_succ, List.set_cons_zero] at hh
            rw [← X5.out] at hh
            have HW5 : Hid (RdO w5 g s ((j + 10 : Nat) : Int) hi) := Lib.hid hw
            have HH5 : Hid (w5.heap[gh]? = some (.cells #[.int .i64 x3, .int .i64 x4, .int .i64 x5, .int .i64 0, .int .i64 0, .int .i64 0, .string ⟨#[]⟩, .string ⟨#[]⟩, .int .i64 x1, .int .i64 x2, .int .i64 0, .int .i64 0, .int .i64 0] T (0, 0))) := Lib.hid hh
            have B5 := Lib.hid (C5.out.trans (hb gh (by omega) (Nat.le_refl _)))
            clear hw hh hb H5 W5 C5 q5 X5
            go_upto_region 6 with fail
            refine wp_region_cut 8 (by kernel_rfl) (fun w' => Below w5.heap.size w5 w') (fun x y => Below x.heap.size x y) (fun dq vq _ => match dq with | 49 => vq = .iface 58 (.pointer (some ⟨g, 0, none⟩)) | 50 => vq = .pointer (some ⟨gh, 0, none⟩) | 51 => vq = .pointer (some ⟨gh, 0, none⟩) | 52 => vq = .pointer (some ⟨gh, 0, none⟩) | 53 => vq = .pointer (some ⟨gh, 3, none⟩) | 54 => vq = .func (.method "loop.example/g00413/impl.short") #[.iface 58 (.pointer (some ⟨g, 0, none⟩))] #[] | 55 => vq = .func (.method "loop.example/g00413/impl.short") #[.iface 58 (.pointer (some ⟨g, 0, none⟩))] #[] | 56 => vq = .iface 58 (.pointer (some ⟨g, 0, none⟩)) | _ => True) (by kernel_rfl) (by kernel_rfl) ((Below.refl _ _).drew) (fun _ _ _ _ _ _ h => h) (by simp) ?hops ?hend
            case hops =>
              simp only [List.take_succ_cons, List.take_zero, List.forall_mem_cons]
              refine ⟨?o49, ?o50, ?o51, ?o52, ?o53, ?o54, ?o55, ?o56, fun _ h => by cases h⟩
              case o49 =>
                intro Q a w2 hC hV hI
                have e1 : a.eval (.tmp 1) = .iface 58 (.pointer (some ⟨g, 0, none⟩)) := (hI 1 (by simp [Op.operands]) (by kernel_rfl)).trans rfl
                have f1 : a.tmps.getD 1 undef = .iface 58 (.pointer (some ⟨g, 0, none⟩)) := e1
                have g1 : a.tmps[1]?.getD undef = .iface 58 (.pointer (some ⟨g, 0, none⟩)) := by rw [← Array.getD_eq_getD_getElem?]; exact e1
                refine op_val (.iface 58 (.pointer (some ⟨g, 0, none⟩))) ?_ hC (Below.refl _ _) (by intro d hd; cases hd; rfl)
                (clear hV hI hC; go_simp <;> (first | rfl | simp | (rw [IntKind.wrap_i64]; omega)))
              case o50 =>
                intro Q a w2 hC hV hI
                have e0 : a.eval (.tmp 0) = .pointer (some ⟨gh, 0, none⟩) := (hI 0 (by simp [Op.operands]) (by kernel_rfl)).trans rfl
                have f0 : a.tmps.getD 0 undef = .pointer (some ⟨gh, 0, none⟩) := e0
                have g0 : a.tmps[0]?.getD undef = .pointer (some ⟨gh, 0, none⟩) := by rw [← Array.getD_eq_getD_getElem?]; exact e0
                refine op_val (.pointer (some ⟨gh, 0, none⟩)) ?_ hC (Below.refl _ _) (by intro d hd; cases hd; rfl)
                (clear hV hI hC; go_simp <;> (first | rfl | simp | (rw [IntKind.wrap_i64]; omega)))
              case o51 =>
                intro Q a w2 hC hV hI
                have e50 : a.eval (.tmp 50) = .pointer (some ⟨gh, 0, none⟩) := hV 50 (by simp [Op.operands]) (by kernel_rfl)
                have f50 : a.tmps.getD 50 undef = .pointer (some ⟨gh, 0, none⟩) := e50
                have g50 : a.tmps[50]?.getD undef = .pointer (some ⟨gh, 0, none⟩) := by rw [← Array.getD_eq_getD_getElem?]; exact e50
                refine op_val (.pointer (some ⟨gh, 0, none⟩)) ?_ hC (Below.refl _ _) (by intro d hd; cases hd; rfl)
                (clear hV hI hC; go_simp <;> (first | rfl | simp | (rw [IntKind.wrap_i64]; omega)))
              case o52 =>
                intro Q a w2 hC hV hI
                have e51 : a.eval (.tmp 51) = .pointer (some ⟨gh, 0, none⟩) := hV 51 (by simp [Op.operands]) (by kernel_rfl)
                have f51 : a.tmps.getD 51 undef = .pointer (some ⟨gh, 0, none⟩) := e51
                have g51 : a.tmps[51]?.getD undef = .pointer (some ⟨gh, 0, none⟩) := by rw [← Array.getD_eq_getD_getElem?]; exact e51
                refine op_val (.pointer (some ⟨gh, 0, none⟩)) ?_ hC (Below.refl _ _) (by intro d hd; cases hd; rfl)
                (clear hV hI hC; go_simp <;> (first | rfl | simp | (rw [IntKind.wrap_i64]; omega)))
              case o53 =>
                intro Q a w2 hC hV hI
                have e52 : a.eval (.tmp 52) = .pointer (some ⟨gh, 0, none⟩) := hV 52 (by simp [Op.operands]) (by kernel_rfl)
                have f52 : a.tmps.getD 52 undef = .pointer (some ⟨gh, 0, none⟩) := e52
                have g52 : a.tmps[52]?.getD undef = .pointer (some ⟨gh, 0, none⟩) := by rw [← Array.getD_eq_getD_getElem?]; exact e52
                refine op_val (.pointer (some ⟨gh, 3, none⟩)) ?_ hC (Below.refl _ _) (by intro d hd; cases hd; rfl)
                (clear hV hI hC; go_simp <;> (first | rfl | simp | (rw [IntKind.wrap_i64]; omega)))
              case o54 =>
                intro Q a w2 hC hV hI
                have e49 : a.eval (.tmp 49) = .iface 58 (.pointer (some ⟨g, 0, none⟩)) := hV 49 (by simp [Op.operands]) (by kernel_rfl)
                have f49 : a.tmps.getD 49 undef = .iface 58 (.pointer (some ⟨g, 0, none⟩)) := e49
                have g49 : a.tmps[49]?.getD undef = .iface 58 (.pointer (some ⟨g, 0, none⟩)) := by rw [← Array.getD_eq_getD_getElem?]; exact e49
                refine op_val (.func (.method "loop.example/g00413/impl.short") #[.iface 58 (.pointer (some ⟨g, 0, none⟩))] #[]) ?_ hC (Below.refl _ _) (by intro d hd; cases hd; rfl)
                (clear hV hI hC; go_simp <;> (first | rfl | simp | (rw [IntKind.wrap_i64]; omega)))
              case o55 =>
                intro Q a w2 hC hV hI
                have e54 : a.eval (.tmp 54) = .func (.method "loop.example/g00413/impl.short") #[.iface 58 (.pointer (some ⟨g, 0, none⟩))] #[] := hV 54 (by simp [Op.operands]) (by kernel_rfl)
                have f54 : a.tmps.getD 54 undef = .func (.method "loop.example/g00413/impl.short") #[.iface 58 (.pointer (some ⟨g, 0, none⟩))] #[] := e54
                have g54 : a.tmps[54]?.getD undef = .func (.method "loop.example/g00413/impl.short") #[.iface 58 (.pointer (some ⟨g, 0, none⟩))] #[] := by rw [← Array.getD_eq_getD_getElem?]; exact e54
                refine op_val (.func (.method "loop.example/g00413/impl.short") #[.iface 58 (.pointer (some ⟨g, 0, none⟩))] #[]) ?_ hC (Below.refl _ _) (by intro d hd; cases hd; rfl)
                (clear hV hI hC; go_simp <;> (first | rfl | simp | (rw [IntKind.wrap_i64]; omega)))
              case o56 =>
                intro Q a w2 hC hV hI
                have e49 : a.eval (.tmp 49) = .iface 58 (.pointer (some ⟨g, 0, none⟩)) := hV 49 (by simp [Op.operands]) (by kernel_rfl)
                have f49 : a.tmps.getD 49 undef = .iface 58 (.pointer (some ⟨g, 0, none⟩)) := e49
                have g49 : a.tmps[49]?.getD undef = .iface 58 (.pointer (some ⟨g, 0, none⟩)) := by rw [← Array.getD_eq_getD_getElem?]; exact e49
                refine op_val (.iface 58 (.pointer (some ⟨g, 0, none⟩))) ?_ hC (Below.refl _ _) (by intro d hd; cases hd; rfl)
                (clear hV hI hC; go_simp <;> (first | rfl | simp | (rw [IntKind.wrap_i64]; omega)))
            case hend =>
              intro f v6 hC hall
              simp only [List.take_succ_cons, List.take_zero, List.drop_succ_cons, List.drop_zero] at hall ⊢
              simp only [List.forall_mem_cons] at hall
              obtain ⟨h49, h50, h51, h52, h53, h54, h55, h56, _⟩ := hall
              replace h49 : f 49 = .iface 58 (.pointer (some ⟨g, 0, none⟩)) := h49 49 rfl
              replace h50 : f 50 = .pointer (some ⟨gh, 0, none⟩) := h50 50 rfl
              replace h51 : f 51 = .pointer (some ⟨gh, 0, none⟩) := h51 51 rfl
              replace h52 : f 52 = .pointer (some ⟨gh, 0, none⟩) := h52 52 rfl
              replace h53 : f 53 = .pointer (some ⟨gh, 3, none⟩) := h53 53 rfl
              replace h54 : f 54 = .func (.method "loop.example/g00413/impl.short") #[.iface 58 (.pointer (some ⟨g, 0, none⟩))] #[] := h54 54 rfl
              replace h55 : f 55 = .func (.method "loop.example/g00413/impl.short") #[.iface 58 (.pointer (some ⟨g, 0, none⟩))] #[] := h55 55 rfl
              replace h56 : f 56 = .iface 58 (.pointer (some ⟨g, 0, none⟩)) := h56 56 rfl
              simp only [putAll, Act.put, List.setIfInBounds_toArray, List.set_cons_succ, List.set_cons_zero, h49, h50, h51, h52, h53, h54, h55, h56]
              clear h49 h50 h51 h52 h53 h54 h55 h56
              have W6 := Lib.hid (HW5.out.below hC)
              have H6 := Lib.hid ((hC.block gh (by have := HW5.out.lt; omega)).trans HH5.out)
              have C6 := Lib.hid (B5.out.trans (hC.mono (by have := HW5.out.lt; omega)))
              clear hC HW5 HH5 B5
              have q6 := Lib.hid (short_r g gh 3 s ((j + 10 : Nat) : Int) hi #[.int .i64 x3, .int .i64 x4, .int .i64 x5, .int .i64 0, .int .i64 0, .int .i64 0, .string ⟨#[]⟩, .string ⟨#[]⟩, .int .i64 x1, .int .i64 x2, .int .i64 0, .int .i64 0, .int .i64 0] T v6 hs (by omega) W6.out H6.out (by omega) ⟨_, rfl⟩)
              go_wp2_with fail
              refine q6.out.mono ?_
              rintro e w6 ⟨rfl, hw, hh, hb⟩
              rw [show (((j + 10 : Nat) : Int) + 2) = ((j + 12 : Nat) : Int) from by omega] at hw
              simp only [List.setIfInBounds_toArray, List.set_cons_succ, List.set_cons_zero] at hh
              rw [← X6.out] at hh
              have HW6 : Hid (RdO w6 g s ((j + 12 : Nat) : Int) hi) := Lib.hid hw
              have HH6 : Hid (w6.heap[gh]? = some (.cells #[.int .i64 x3, .int .i64 x4, .int .i64 x5, .int .i64 x6, .int .i64 0, .int .i64 0, .string ⟨#[]⟩, .string ⟨#[]⟩, .int .i64 x1, .int .i64 x2, .int .i64 0, .int .i64 0, .int .i64 0] T (0, 0))) := Lib.hid hh
              have B6 := Lib.hid (C6.out.trans (hb gh (by omega) (Nat.le_refl _)))
              clear hw hh hb H6 W6 C6 q6 X6
              go_upto_region 7 with fail
              refine wp_region_cut 8 (by kernel_rfl) (fun w' => Below w6.heap.size w6 w') (fun x y => Below x.heap.size x y) (fun dq vq _ => match dq with | 58 => vq = .iface 58 (.pointer (some ⟨g, 0, none⟩)) | 59 => vq = .pointer (some ⟨gh, 0, none⟩) | 60 => vq = .pointer (some ⟨gh, 0, none⟩) | 61 => vq = .pointer (some ⟨gh, 0, none⟩) | 62 => vq = .pointer (some ⟨gh, 4, none⟩) | 63 => vq = .func (.method "loop.example/g00413/impl.short") #[.iface 58 (.pointer (some ⟨g, 0, none⟩))] #[] | 64 => vq = .func (.method "loop.example/g00413/impl.short") #[.iface 58 (.pointer (some ⟨g, 0, none⟩))] #[] | 65 => vq = .iface 58 (.pointer (some ⟨g, 0, none⟩)) | _ => True) (by kernel_rfl) (by kernel_rfl) ((Below.refl _ _).drew) (fun _ _ _ _ _ _ h => h) (by simp) ?hops ?hend
              case hops =>
                simp only [List.take_succ_cons, List.take_zero, List.forall_mem_cons]
                refine ⟨?o58, ?o59, ?o60, ?o61, ?o62, ?o63, ?o64, ?o65, fun _ h => by cases h⟩
                case o58 =>
                  intro Q a w2 hC hV hI
                  have e1 : a.eval (.tmp 1) = .iface 58 (.pointer (some ⟨g, 0, none⟩)) := (hI 1 (by simp [Op.operands]) (by kernel_rfl)).trans rfl
                  have f1 : a.tmps.getD 1 undef = .iface 58 (.pointer (some ⟨g, 0, none⟩)) := e1
                  have g1 : a.tmps[1]?.getD undef = .iface 58 (.pointer (some ⟨g, 0, none⟩)) := by rw [← Array.getD_eq_getD_getElem?]; exact e1
                  refine op_val (.iface 58 (.pointer (some ⟨g, 0, none⟩))) ?_ hC (Below.refl _ _) (by intro d hd; cases hd; rfl)
                  (clear hV hI hC; go_simp <;> (first | rfl | simp | (rw [IntKind.wrap_i64]; omega)))
                case o59 =>
                  intro Q a w2 hC hV hI
                  have e0 : a.eval (.tmp 0) = .pointer (some ⟨gh, 0, none⟩) := (hI 0 (by simp [Op.operands]) (by kernel_rfl)).trans rfl
                  have f0 : a.tmps.getD 0 undef = .pointer (some ⟨gh, 0, none⟩) := e0
                  have g0 : a.tmps[0]?.getD undef = .pointer (some ⟨gh, 0, none⟩) := by rw [← Array.getD_eq_getD_getElem?]; exact e0
                  refine op_val (.pointer (some ⟨gh, 0, none⟩)) ?_ hC (Below.refl _ _) (by intro d hd; cases hd; rfl)
                  (clear hV hI hC; go_simp <;> (first | rfl | simp | (rw [IntKind.wrap_i64]; omega)))
                case o60 =>
                  intro Q a w2 hC hV hI
                  have e59 : a.eval (.tmp 59) = .pointer (some ⟨gh, 0, none⟩) := hV 59 (by simp [Op.operands]) (by kernel_rfl)
                  have f59 : a.tmps.getD 59 undef = .pointer (some ⟨gh, 0, none⟩) := e59
                  have g59 : a.tmps[59]?.getD undef = .pointer (some ⟨gh, 0, none⟩) := by rw [← Array.getD_eq_getD_getElem?]; exact e59
                  refine op_val (.pointer (some ⟨gh, 0, none⟩)) ?_ hC (Below.refl _ _) (by intro d hd; cases hd; rfl)
                  (clear hV hI hC; go_simp <;> (first | rfl | simp | (rw [IntKind.wrap_i64]; omega)))
                case o61 =>
                  intro Q a w2 hC hV hI
                  have e60 : a.eval (.tmp 60) = .pointer (some ⟨gh, 0, none⟩) := hV 60 (by simp [Op.operands]) (by kernel_rfl)
                  have f60 : a.tmps.getD 60 undef = .pointer (some ⟨gh, 0, none⟩) := e60
                  have g60 : a.tmps[60]?.getD undef = .pointer (some ⟨gh, 0, none⟩) := by rw [← Array.getD_eq_getD_getElem?]; exact e60
                  refine op_val (.pointer (some ⟨gh, 0, none⟩)) ?_ hC (Below.refl _ _) (by intro d hd; cases hd; rfl)
                  (clear hV hI hC; go_simp <;> (first | rfl | simp | (rw [IntKind.wrap_i64]; omega)))
                case o62 =>
                  intro Q a w2 hC hV hI
                  have e61 : a.eval (.tmp 61) = .pointer (some ⟨gh, 0, none⟩) := hV 61 (by simp [Op.operands]) (by kernel_rfl)
                  have f61 : a.tmps.getD 61 undef = .pointer (some ⟨gh, 0, none⟩) := e61
                  have g61 : a.tmps[61]?.getD undef = .pointer (some ⟨gh, 0, none⟩) := by rw [← Array.getD_eq_getD_getElem?]; exact e61
                  refine op_val (.pointer (some ⟨gh, 4, none⟩)) ?_ hC (Below.refl _ _) (by intro d hd; cases hd; rfl)
                  (clear hV hI hC; go_simp <;> (first | rfl | simp | (rw [IntKind.wrap_i64]; omega)))
                case o63 =>
                  intro Q a w2 hC hV hI
                  have e58 : a.eval (.tmp 58) = .iface 58 (.pointer (some ⟨g, 0, none⟩)) := hV 58 (by simp [Op.operands]) (by kernel_rfl)
                  have f58 : a.tmps.getD 58 undef = .iface 58 (.pointer (some ⟨g, 0, none⟩)) := e58
                  have g58 : a.tmps[58]?.getD undef = .iface 58 (.pointer (some ⟨g, 0, none⟩)) := by rw [← Array.getD_eq_getD_getElem?]; exact e58
                  refine op_val (.func (.method "loop.example/g00413/impl.short") #[.iface 58 (.pointer (some ⟨g, 0, none⟩))] #[]) ?_ hC (Below.refl _ _) (by intro d hd; cases hd; rfl)
                  (clear hV hI hC; go_simp <;> (first | rfl | simp | (rw [IntKind.wrap_i64]; omega)))
                case o64 =>
                  intro Q a w2 hC hV hI
                  have e63 : a.eval (.tmp 63) = .func (.method "loop.example/g00413/impl.short") #[.iface 58 (.pointer (some ⟨g, 0, none⟩))] #[] := hV 63 (by simp [Op.operands]) (by kernel_rfl)
                  have f63 : a.tmps.getD 63 undef = .func (.method "loop.example/g00413/impl.short") #[.iface 58 (.pointer (some ⟨g, 0, none⟩))] #[] := e63
                  have g63 : a.tmps[63]?.getD undef = .func (.method "loop.example/g00413/impl.short") #[.iface 58 (.pointer (some ⟨g, 0, none⟩))] #[] := by rw [← Array.getD_eq_getD_getElem?]; exact e63
                  refine op_val (.func (.method "loop.example/g00413/impl.short") #[.iface 58 (.pointer (some ⟨g, 0, none⟩))] #[]) ?_ hC (Below.refl _ _) (by intro d hd; cases hd; rfl)
                  (clear hV hI hC; go_simp <;> (first | rfl | simp | (rw [IntKind.wrap_i64]; omega)))
                case o65 =>
                  intro Q a w2 hC hV hI
                  have e58 : a.eval (.tmp 58) = .iface 58 (.pointer (some ⟨g, 0, none⟩)) := hV 58 (by simp [Op.operands]) (by kernel_rfl)
                  have f58 : a.tmps.getD 58 undef = .iface 58 (.pointer (some ⟨g, 0, none⟩)) := e58
                  have g58 : a.tmps[58]?.getD undef = .iface 58 (.pointer (some ⟨g, 0, none⟩)) := by rw [← Array.getD_eq_getD_getElem?]; exact e58
                  refine op_val (.iface 58 (.pointer (some ⟨g, 0, none⟩))) ?_ hC (Below.refl _ _) (by intro d hd; cases hd; rfl)
                  (clear hV hI hC; go_simp <;> (first | rfl | simp | (rw [IntKind.wrap_i64]; omega)))
              case hend =>
                intro f v7 hC hall
                simp only [List.take_succ_cons, List.take_zero, List.drop_succ_cons, List.drop_zero] at hall ⊢
                simp only [List.forall_mem_cons] at hall
                obtain ⟨h58, h59, h60, h61, h62, h63, h64, h65, _⟩ := hall
                replace h58 : f 58 = .iface 58 (.pointer (some ⟨g, 0, none⟩)) := h58 58 rfl
                replace h59 : f 59 = .pointer (some ⟨gh, 0, none⟩) := h59 59 rfl
                replace h60 : f 60 = .pointer (some ⟨gh, 0, none⟩) := h60 60 rfl
                replace h61 : f 61 = .pointer (some ⟨gh, 0, none⟩) := h61 61 rfl
                replace h62 : f 62 = .pointer (some ⟨gh, 4, none⟩) := h62 62 rfl
                replace h63 : f 63 = .func (.method "loop.example/g00413/impl.short") #[.iface 58 (.pointer (some ⟨g, 0, none⟩))] #[] := h63 63 rfl
                replace h64 : f 64 = .func (.method "loop.example/g00413/impl.short") #[.iface 58 (.pointer (some ⟨g, 0, none⟩))] #[] := h64 64 rfl
                replace h65 : f 65 = .iface 58 (.pointer (some ⟨g, 0, none⟩)) := h65 65 rfl
                simp only [putAll, Act.put, List.setIfInBounds_toArray, List.set_cons_succ, List.set_cons_zero, h58, h59, h60, h61, h62, h63, h64, h65]
                clear h58 h59 h60 h61 h62 h63 h64 h65
                have W7 := Lib.hid (HW6.out.below hC)
                have H7 := Lib.hid ((hC.block gh (by have := HW6.out.lt; omega)).trans HH6.out)
                have C7 := Lib.hid (B6.out.trans (hC.mono (by have := HW6.out.lt; omega)))
                clear hC HW6 HH6 B6
                have q7 := Lib.hid (short_r g gh 4 s ((j + 12 : Nat) : Int) hi #[.int .i64 x3, .int .i64 x4, .int .i64 x5, .int .i64 x6, .int .i64 0, .int .i64 0, .string ⟨#[]⟩, .string ⟨#[]⟩, .int .i64 x1, .int .i64 x2, .int .i64 0, .int .i64 0, .int .i64 0] T v7 hs (by omega) W7.out H7.out (by omega) ⟨_, rfl⟩)
                go_wp2_with fail
                refine q7.out.mono ?_
                rintro e w7 ⟨rfl, hw, hh, hb⟩
                rw [show (((j + 12 : Nat) : Int) + 2) = ((j + 14 : Nat) : Int) from by omega] at hw
                simp only [List.setIfInBounds_toArray, List.set_cons_succ, List.set_cons_zero] at hh
                rw [← X7.out] at hh
                have HW7 : Hid (RdO w7 g s ((j + 14 : Nat) : Int) hi) := Lib.hid hw
                have HH7 : Hid (w7.heap[gh]? = some (.cells #[.int .i64 x3, .int .i64 x4, .int .i64 x5, .int .i64 x6, .int .i64 x7, .int .i64 0, .string ⟨#[]⟩, .string ⟨#[]⟩, .int .i64 x1, .int .i64 x2, .int .i64 0, .int .i64 0, .int .i64 0] T (0, 0))) := Lib.hid hh
                have B7 := Lib.hid (C7.out.trans (hb gh (by omega) (Nat.le_refl _)))
                clear hw hh hb H7 W7 C7 q7 X7
                go_upto_region 8 with fail
                refine wp_region_cut 8 (by kernel_rfl) (fun w' => Below w7.heap.size w7 w') (fun x y => Below x.heap.size x y) (fun dq vq _ => match dq with | 67 => vq = .iface 58 (.pointer (some ⟨g, 0, none⟩)) | 68 => vq = .pointer (some ⟨gh, 0, none⟩) | 69 => vq = .pointer (some ⟨gh, 0, none⟩) | 70 => vq = .pointer (some ⟨gh, 9, none⟩) | 71 => vq = .pointer (some ⟨gh, 10, none⟩) | 72 => vq = .func (.method "loop.example/g00413/impl.short") #[.iface 58 (.pointer (some ⟨g, 0, none⟩))] #[] | 73 => vq = .func (.method "loop.example/g00413/impl.short") #[.iface 58 (.pointer (some ⟨g, 0, none⟩))] #[] | 74 => vq = .iface 58 (.pointer (some ⟨g, 0, none⟩)) | _ => True) (by kernel_rfl) (by kernel_rfl) ((Below.refl _ _).drew) (fun _ _ _ _ _ _ h => h) (by simp) ?hops ?hend
                case hops =>
                  simp only [List.take_succ_cons, List.take_zero, List.forall_mem_cons]
                  refine ⟨?o67, ?o68, ?o69, ?o70, ?o71, ?o72, ?o73, ?o74, fun _ h => by cases h⟩
                  case o67 =>
                    intro Q a w2 hC hV hI
                    have e1 : a.eval (.tmp 1) = .iface 58 (.pointer (some ⟨g, 0, none⟩)) := (hI 1 (by simp [Op.operands]) (by kernel_rfl)).trans rfl
                    have f1 : a.tmps.getD 1 undef = .iface 58 (.pointer (some ⟨g, 0, none⟩)) := e1
                    have g1 : a.tmps[1]?.getD undef = .iface 58 (.pointer (some ⟨g, 0, none⟩)) := by rw [← Array.getD_eq_getD_getElem?]; exact e1
                    refine op_val (.iface 58 (.pointer (some ⟨g, 0, none⟩))) ?_ hC (Below.refl _ _) (by intro d hd; cases hd; rfl)
                    (clear hV hI hC; go_simp <;> (first | rfl | simp | (rw [IntKind.wrap_i64]; omega)))
                  case o68 =>
                    intro Q a w2 hC hV hI
                    have e0 : a.eval (.tmp 0) = .pointer (some ⟨gh, 0, none⟩) := (hI 0 (by simp [Op.operands]) (by kernel_rfl)).trans rfl
                    have f0 : a.tmps.getD 0 undef = .pointer (some ⟨gh, 0, none⟩) := e0
                    have g0 : a.tmps[0]?.getD undef = .pointer (some ⟨gh, 0, none⟩) := by rw [← Array.getD_eq_getD_getElem?]; exact e0
                    refine op_val (.pointer (some ⟨gh, 0, none⟩)) ?_ hC (Below.refl _ _) (by intro d hd; cases hd; rfl)
                    (clear hV hI hC; go_simp <;> (first | rfl | simp | (rw [IntKind.wrap_i64]; omega)))
                  case o69 =>
                    intro Q a w2 hC hV hI
                    have e68 : a.eval (.tmp 68) = .pointer (some ⟨gh, 0, none⟩) := hV 68 (by simp [Op.operands]) (by kernel_rfl)
                    have f68 : a.tmps.getD 68 undef = .pointer (some ⟨gh, 0, none⟩) := e68
                    have g68 : a.tmps[68]?.getD undef = .pointer (some ⟨gh, 0, none⟩) := by rw [← Array.getD_eq_getD_getElem?]; exact e68
                    refine op_val (.pointer (some ⟨gh, 0, none⟩)) ?_ hC (Below.refl _ _) (by intro d hd; cases hd; rfl)
                    (clear hV hI hC; go_simp <;> (first | rfl | simp | (rw [IntKind.wrap_i64]; omega)))
                  case o70 =>
                    intro Q a w2 hC hV hI
                    have e69 : a.eval (.tmp 69) = .pointer (some ⟨gh, 0, none⟩) := hV 69 (by simp [Op.operands]) (by kernel_rfl)
                    have f69 : a.tmps.getD 69 undef = .pointer (some ⟨gh, 0, none⟩) := e69
                    have g69 : a.tmps[69]?.getD undef = .pointer (some ⟨gh, 0, none⟩) := by rw [← Array.getD_eq_getD_getElem?]; exact e69
                    refine op_val (.pointer (some ⟨gh, 9, none⟩)) ?_ hC (Below.refl _ _) (by intro d hd; cases hd; rfl)
                    (clear hV hI hC; go_simp <;> (first | rfl | simp | (rw [IntKind.wrap_i64]; omega)))
                  case o71 =>
                    intro Q a w2 hC hV hI
                    have e70 : a.eval (.tmp 70) = .pointer (some ⟨gh, 9, none⟩) := hV 70 (by simp [Op.operands]) (by kernel_rfl)
                    have f70 : a.tmps.getD 70 undef = .pointer (some ⟨gh, 9, none⟩) := e70
                    have g70 : a.tmps[70]?.getD undef = .pointer (some ⟨gh, 9, none⟩) := by rw [← Array.getD_eq_getD_getElem?]; exact e70
                    refine op_val (.pointer (some ⟨gh, 10, none⟩)) ?_ hC (Below.refl _ _) (by intro d hd; cases hd; rfl)
                    (clear hV hI hC; go_simp <;> (first | rfl | simp | (rw [IntKind.wrap_i64]; omega)))
                  case o72 =>
                    intro Q a w2 hC hV hI
                    have e67 : a.eval (.tmp 67) = .iface 58 (.pointer (some ⟨g, 0, none⟩)) := hV 67 (by simp [Op.operands]) (by kernel_rfl)
                    have f67 : a.tmps.getD 67 undef = .iface 58 (.pointer (some ⟨g, 0, none⟩)) := e67
                    have g67 : a.tmps[67]?.getD undef = .iface 58 (.pointer (some ⟨g, 0, none⟩)) := by rw [← Array.getD_eq_getD_getElem?]; exact e67
                    refine op_val (.func (.method "loop.example/g00413/impl.short") #[.iface 58 (.pointer (some ⟨g, 0, none⟩))] #[]) ?_ hC (Below.refl _ _) (by intro d hd; cases hd; rfl)
                    (clear hV hI hC; go_simp <;> (first | rfl | simp | (rw [IntKind.wrap_i64]; omega)))
                  case o73 =>
                    intro Q a w2 hC hV hI
                    have e72 : a.eval (.tmp 72) = .func (.method "loop.example/g00413/impl.short") #[.iface 58 (.pointer (some ⟨g, 0, none⟩))] #[] := hV 72 (by simp [Op.operands]) (by kernel_rfl)
                    have f72 : a.tmps.getD 72 undef = .func (.method "loop.example/g00413/impl.short") #[.iface 58 (.pointer (some ⟨g, 0, none⟩))] #[] := e72
                    have g72 : a.tmps[72]?.getD undef = .func (.method "loop.example/g00413/impl.short") #[.iface 58 (.pointer (some ⟨g, 0, none⟩))] #[] := by rw [← Array.getD_eq_getD_getElem?]; exact e72
                    refine op_val (.func (.method "loop.example/g00413/impl.short") #[.iface 58 (.pointer (some ⟨g, 0, none⟩))] #[]) ?_ hC (Below.refl _ _) (by intro d hd; cases hd; rfl)
                    (clear hV hI hC; go_simp <;> (first | rfl | simp | (rw [IntKind.wrap_i64]; omega)))
                  case o74 =>
                    intro Q a w2 hC hV hI
                    have e67 : a.eval (.tmp 67) = .iface 58 (.pointer (some ⟨g, 0, none⟩)) := hV 67 (by simp [Op.operands]) (by kernel_rfl)
                    have f67 : a.tmps.getD 67 undef = .iface 58 (.pointer (some ⟨g, 0, none⟩)) := e67
                    have g67 : a.tmps[67]?.getD undef = .iface 58 (.pointer (some ⟨g, 0, none⟩)) := by rw [← Array.getD_eq_getD_getElem?]; exact e67
                    refine op_val (.iface 58 (.pointer (some ⟨g, 0, none⟩))) ?_ hC (Below.refl _ _) (by intro d hd; cases hd; rfl)
                    (clear hV hI hC; go_simp <;> (first | rfl | simp | (rw [IntKind.wrap_i64]; omega)))
                case hend =>
                  intro f v8 hC hall
                  simp only [List.take_succ_cons, List.take_zero, List.drop_succ_cons, List.drop_zero] at hall ⊢
                  simp only [List.forall_mem_cons] at hall
                  obtain ⟨h67, h68, h69, h70, h71, h72, h73, h74, _⟩ := hall
                  replace h67 : f 67 = .iface 58 (.pointer (some ⟨g, 0, none⟩)) := h67 67 rfl
                  replace h68 : f 68 = .pointer (some ⟨gh, 0, none⟩) := h68 68 rfl
                  replace h69 : f 69 = .pointer (some ⟨gh, 0, none⟩) := h69 69 rfl
                  replace h70 : f 70 = .pointer (some ⟨gh, 9, none⟩) := h70 70 rfl
                  replace h71 : f 71 = .pointer (some ⟨gh, 10, none⟩) := h71 71 rfl
                  replace h72 : f 72 = .func (.method "loop.example/g00413/impl.short") #[.iface 58 (.pointer (some ⟨g, 0, none⟩))] #[] := h72 72 rfl
                  replace h73 : f 73 = .func (.method "loop.example/g00413/impl.short") #[.iface 58 (.pointer (some ⟨g, 0, none⟩))] #[] := h73 73 rfl
                  replace h74 : f 74 = .iface 58 (.pointer (some ⟨g, 0, none⟩)) := h74 74 rfl
                  simp only [putAll, Act.put, List.setIfInBounds_toArray, List.set_cons_succ, List.set_cons_zero, h67, h68, h69, h70, h71, h72, h73, h74]
                  clear h67 h68 h69 h70 h71 h72 h73 h74
                  have W8 := Lib.hid (HW7.out.below hC)
                  have H8 := Lib.hid ((hC.block gh (by have := HW7.out.lt; omega)).trans HH7.out)
                  have C8 := Lib.hid (B7.out.trans (hC.mono (by have := HW7.out.lt; omega)))
                  clear hC HW7 HH7 B7
                  have q8 := Lib.hid (short_r g gh 10 s ((j + 14 : Nat) : Int) hi #[.int .i64 x3, .int .i64 x4, .int .i64 x5, .int .i64 x6, .int .i64 x7, .int .i64 0, .string ⟨#[]⟩, .string ⟨#[]⟩, .int .i64 x1, .int .i64 x2, .int .i64 0, .int .i64 0, .int .i64 0] T v8 hs (by omega) W8.out H8.out (by omega) ⟨_, rfl⟩)
                  go_wp2_with fail
                  refine q8.out.mono ?_
                  rintro e w8 ⟨rfl, hw, hh, hb⟩
                  rw [show (((j + 14 : Nat) : Int) + 2) = ((j + 16 : Nat) : Int) from by omega] at hw
                  simp only [List.setIfInBounds_toArray, List.set_cons_succ, List.set_cons_zero] at hh
                  rw [← X8.out] at hh
                  have HW8 : Hid (RdO w8 g s ((j + 16 : Nat) : Int) hi) := Lib.hid hw
                  have HH8 : Hid (w8.heap[gh]? = some (.cells #[.int .i64 x3, .int .i64 x4, .int .i64 x5, .int .i64 x6, .int .i64 x7, .int .i64 0, .string ⟨#[]⟩, .string ⟨#[]⟩, .int .i64 x1, .int .i64 x2, .int .i64 x8, .int .i64 0, .int .i64 0] T (0, 0))) := Lib.hid hh
                  have B8 := Lib.hid (C8.out.trans (hb gh (by omega) (Nat.le_refl _)))
                  clear hw hh hb H8 W8 C8 q8 X8
                  go_upto_region 9 with fail
                  refine wp_region_cut 8 (by kernel_rfl) (fun w' => Below w8.heap.size w8 w') (fun x y => Below x.heap.size x y) (fun dq vq _ => match dq with | 76 => vq = .iface 58 (.pointer (some ⟨g, 0, none⟩)) | 77 => vq = .pointer (some ⟨gh, 0, none⟩) | 78 => vq = .pointer (some ⟨gh, 0, none⟩) | 79 => vq = .pointer (some ⟨gh, 0, none⟩) | 80 => vq = .pointer (some ⟨gh, 5, none⟩) | 81 => vq = .func (.method "loop.example/g00413/impl.long") #[.iface 58 (.pointer (some ⟨g, 0, none⟩))] #[] | 82 => vq = .func (.method "loop.example/g00413/impl.long") #[.iface 58 (.pointer (some ⟨g, 0, none⟩))] #[] | 83 => vq = .iface 58 (.pointer (some ⟨g, 0, none⟩)) | _ => True) (by kernel_rfl) (by kernel_rfl) ((Below.refl _ _).drew) (fun _ _ _ _ _ _ h => h) (by simp) ?hops ?hend
                  case hops =>
                    simp only [List.take_succ_cons, List.take_zero, List.forall_mem_cons]
                    refine ⟨?o76, ?o77, ?o78, ?o79, ?o80, ?o81, ?o82, ?o83, fun _ h => by cases h⟩
                    case o76 =>
                      intro Q a w2 hC hV hI
                      have e1 : a.eval (.tmp 1) = .iface 58 (.pointer (some ⟨g, 0, none⟩)) := (hI 1 (by simp [Op.operands]) (by kernel_rfl)).trans rfl
                      have f1 : a.tmps.getD 1 undef = .iface 58 (.pointer (some ⟨g, 0, none⟩)) := e1
                      have g1 : a.tmps[1]?.getD undef = .iface 58 (.pointer (some ⟨g, 0, none⟩)) := by rw [← Array.getD_eq_getD_getElem?]; exact e1
                      refine op_val (.iface 58 (.pointer (some ⟨g, 0, none⟩))) ?_ hC (Below.refl _ _) (by intro d hd; cases hd; rfl)
                      (clear hV hI hC; go_simp <;> (first | rfl | simp | (rw [IntKind.wrap_i64]; omega)))
                    case o77 =>
                      intro Q a w2 hC hV hI
                      have e0 : a.eval (.tmp 0) = .pointer (some ⟨gh, 0, none⟩) := (hI 0 (by simp [Op.operands]) (by kernel_rfl)).trans rfl
                      have f0 : a.tmps.getD 0 undef = .pointer (some ⟨gh, 0, none⟩) := e0
                      have g0 : a.tmps[0]?.getD undef = .pointer (some ⟨gh, 0, none⟩) := by rw [← Array.getD_eq_getD_getElem?]; exact e0
                      refine op_val (.pointer (some ⟨gh, 0, none⟩)) ?_ hC (Below.refl _ _) (by intro d hd; cases hd; rfl)
                      (clear hV hI hC; go_simp <;> (first | rfl | simp | (rw [IntKind.wrap_i64]; omega)))
                    case o78 =>
                      intro Q a w2 hC hV hI
                      have e77 : a.eval (.tmp 77) = .pointer (some ⟨gh, 0, none⟩) := hV 77 (by simp [Op.operands]) (by kernel_rfl)
                      have f77 : a.tmps.getD 77 undef = .pointer (some ⟨gh, 0, none⟩) := e77
                      have g77 : a.tmps[77]?.getD undef = .pointer (some ⟨gh, 0, none⟩) := by rw [← Array.getD_eq_getD_getElem?]; exact e77
                      refine op_val (.pointer (some ⟨gh, 0, none⟩)) ?_ hC (Below.refl _ _) (by intro d hd; cases hd; rfl)
                      (clear hV hI hC; go_simp <;> (first | rfl | simp | (rw [IntKind.wrap_i64]; omega)))
                    case o79 =>
                      intro Q a w2 hC hV hI
                      have e78 : a.eval (.tmp 78) = .pointer (some ⟨gh, 0, none⟩) := hV 78 (by simp [Op.operands]) (by kernel_rfl)
                      have f78 : a.tmps.getD 78 undef = .pointer (some ⟨gh, 0, none⟩) := e78
                      have g78 : a.tmps[78]?.getD undef = .pointer (some ⟨gh, 0, none⟩) := by rw [← Array.getD_eq_getD_getElem?]; exact e78
                      refine op_val (.pointer (some ⟨gh, 0, none⟩)) ?_ hC (Below.refl _ _) (by intro d hd; cases hd; rfl)
                      (clear hV hI hC; go_simp <;> (first | rfl | simp | (rw [IntKind.wrap_i64]; omega)))
                    case o80 =>
                      intro Q a w2 hC hV hI
                      have e79 : a.eval (.tmp 79) = .pointer (some ⟨gh, 0, none⟩) := hV 79 (by simp [Op.operands]) (by kernel_rfl)
                      have f79 : a.tmps.getD 79 undef = .pointer (some ⟨gh, 0, none⟩) := e79
                      have g79 : a.tmps[79]?.getD undef = .pointer (some ⟨gh, 0, none⟩) := by rw [← Array.getD_eq_getD_getElem?]; exact e79
                      refine op_val (.pointer (some ⟨gh, 5, none⟩)) ?_ hC (Below.refl _ _) (by intro d hd; cases hd; rfl)
                      (clear hV hI hC; go_simp <;> (first | rfl | simp | (rw [IntKind.wrap_i64]; omega)))
                    case o81 =>
                      intro Q a w2 hC hV hI
                      have e76 : a.eval (.tmp 76) = .iface 58 (.pointer (some ⟨g, 0, none⟩)) := hV 76 (by simp [Op.operands]) (by kernel_rfl)
                      have f76 : a.tmps.getD 76 undef = .iface 58 (.pointer (some ⟨g, 0, none⟩)) := e76
                      have g76 : a.tmps[76]?.getD undef = .iface 58 (.pointer (some ⟨g, 0, none⟩)) := by rw [← Array.getD_eq_getD_getElem?]; exact e76
                      refine op_val (.func (.method "loop.example/g00413/impl.long") #[.iface 58 (.pointer (some ⟨g, 0, none⟩))] #[]) ?_ hC (Below.refl _ _) (by intro d hd; cases hd; rfl)
                      (clear hV hI hC; go_simp <;> (first | rfl | simp | (rw [IntKind.wrap_i64]; omega)))
                    case o82 =>
                      intro Q a w2 hC hV hI
                      have e81 : a.eval (.tmp 81) = .func (.method "loop.example/g00413/impl.long") #[.iface 58 (.pointer (some ⟨g, 0, none⟩))] #[] := hV 81 (by simp [Op.operands]) (by kernel_rfl)
                      have f81 : a.tmps.getD 81 undef = .func (.method "loop.example/g00413/impl.long") #[.iface 58 (.pointer (some ⟨g, 0, none⟩))] #[] := e81
                      have g81 : a.tmps[81]?.getD undef = .func (.method "loop.example/g00413/impl.long") #[.iface 58 (.pointer (some ⟨g, 0, none⟩))] #[] := by rw [← Array.getD_eq_getD_getElem?]; exact e81
                      refine op_val (.func (.method "loop.example/g00413/impl.long") #[.iface 58 (.pointer (some ⟨g, 0, none⟩))] #[]) ?_ hC (Below.refl _ _) (by intro d hd; cases hd; rfl)
                      (clear hV hI hC; go_simp <;> (first | rfl | simp | (rw [IntKind.wrap_i64]; omega)))
                    case o83 =>
                      intro Q a w2 hC hV hI
                      have e76 : a.eval (.tmp 76) = .iface 58 (.pointer (some ⟨g, 0, none⟩)) := hV 76 (by simp [Op.operands]) (by kernel_rfl)
                      have f76 : a.tmps.getD 76 undef = .iface 58 (.pointer (some ⟨g, 0, none⟩)) := e76
                      have g76 : a.tmps[76]?.getD undef = .iface 58 (.pointer (some ⟨g, 0, none⟩)) := by rw [← Array.getD_eq_getD_getElem?]; exact e76
                      refine op_val (.iface 58 (.pointer (some ⟨g, 0, none⟩))) ?_ hC (Below.refl _ _) (by intro d hd; cases hd; rfl)
                      (clear hV hI hC; go_simp <;> (first | rfl | simp | (rw [IntKind.wrap_i64]; omega)))
                  case hend =>
                    intro f v9 hC hall
                    simp only [List.take_succ_cons, List.take_zero, List.drop_succ_cons, List.drop_zero] at hall ⊢
                    simp only [List.forall_mem_cons] at hall
                    obtain ⟨h76, h77, h78, h79, h80, h81, h82, h83, _⟩ := hall
                    replace h76 : f 76 = .iface 58 (.pointer (some ⟨g, 0, none⟩)) := h76 76 rfl
                    replace h77 : f 77 = .pointer (some ⟨gh, 0, none⟩) := h77 77 rfl
                    replace h78 : f 78 = .pointer (some ⟨gh, 0, none⟩) := h78 78 rfl
                    replace h79 : f 79 = .pointer (some ⟨gh, 0, none⟩) := h79 79 rfl
                    replace h80 : f 80 = .pointer (some ⟨gh, 5, none⟩) := h80 80 rfl
                    replace h81 : f 81 = .func (.method "loop.example/g00413/impl.long") #[.iface 58 (.pointer (some ⟨g, 0, none⟩))] #[] := h81 81 rfl
                    replace h82 : f 82 = .func (.method "loop.example/g00413/impl.long") #[.iface 58 (.pointer (some ⟨g, 0, none⟩))] #[] := h82 82 rfl
                    replace h83 : f 83 = .iface 58 (.pointer (some ⟨g, 0, none⟩)) := h83 83 rfl
                    simp only [putAll, Act.put, List.setIfInBounds_toArray, List.set_cons_succ, List.set_cons_zero, h76, h77, h78, h79, h80, h81, h82, h83]
                    clear h76 h77 h78 h79 h80 h81 h82 h83
                    have W9 := Lib.hid (HW8.out.below hC)
                    have H9 := Lib.hid ((hC.block gh (by have := HW8.out.lt; omega)).trans HH8.out)
                    have C9 := Lib.hid (B8.out.trans (hC.mono (by have := HW8.out.lt; omega)))
                    clear hC HW8 HH8 B8
                    have q9 := Lib.hid (long_r g gh 5 s ((j + 16 : Nat) : Int) hi #[.int .i64 x3, .int .i64 x4, .int .i64 x5, .int .i64 x6, .int .i64 x7, .int .i64 0, .string ⟨#[]⟩, .string ⟨#[]⟩, .int .i64 x1, .int .i64 x2, .int .i64 x8, .int .i64 0, .int .i64 0] T v9 hs (by omega) W9.out H9.out (by omega) ⟨_, rfl⟩)
                    go_wp2_with fail
                    refine q9.out.mono ?_
                    rintro e w9 ⟨rfl, hw, hh, hb⟩
                    rw [show (((j + 16 : Nat) : Int) + 4) = ((j + 20 : Nat) : Int) from by omega] at hw
                    simp only [List.setIfInBounds_toArray, List.set_cons_succ, List.set_cons_zero] at hh
                    rw [← X9.out] at hh
                    have HW9 : Hid (RdO w9 g s ((j + 20 : Nat) : Int) hi) := Lib.hid hw
                    have HH9 : Hid (w9.heap[gh]? = some (.cells #[.int .i64 x3, .int .i64 x4, .int .i64 x5, .int .i64 x6, .int .i64 x7, .int .i64 x9, .string ⟨#[]⟩, .string ⟨#[]⟩, .int .i64 x1, .int .i64 x2, .int .i64 x8, .int .i64 0, .int .i64 0] T (0, 0))) := Lib.hid hh
                    have B9 := Lib.hid (C9.out.trans (hb gh (by omega) (Nat.le_refl _)))
                    clear hw hh hb H9 W9 C9 q9 X9
                    go_upto_region 10 with fail
                    refine wp_region_cut 7 (by kernel_rfl) (fun w' => Below w9.heap.size w9 w') (fun x y => Below x.heap.size x y) (fun dq vq _ => match dq with | 85 => vq = .iface 58 (.pointer (some ⟨g, 0, none⟩)) | 86 => vq = .pointer (some ⟨gh, 0, none⟩) | 87 => vq = .pointer (some ⟨gh, 0, none⟩) | 88 => vq = .pointer (some ⟨gh, 11, none⟩) | 89 => vq = .func (.method "loop.example/g00413/impl.short") #[.iface 58 (.pointer (some ⟨g, 0, none⟩))] #[] | 90 => vq = .func (.method "loop.example/g00413/impl.short") #[.iface 58 (.pointer (some ⟨g, 0, none⟩))] #[] | 91 => vq = .iface 58 (.pointer (some ⟨g, 0, none⟩)) | _ => True) (by kernel_rfl) (by kernel_rfl) ((Below.refl _ _).drew) (fun _ _ _ _ _ _ h => h) (by simp) ?hops ?hend
                    case hops =>
                      simp only [List.take_succ_cons, List.take_zero, List.forall_mem_cons]
                      refine ⟨?o85, ?o86, ?o87, ?o88, ?o89, ?o90, ?o91, fun _ h => by cases h⟩
                      case o85 =>
                        intro Q a w2 hC hV hI
                        have e1 : a.eval (.tmp 1) = .iface 58 (.pointer (some ⟨g, 0, none⟩)) := (hI 1 (by simp [Op.operands]) (by kernel_rfl)).trans rfl
                        have f1 : a.tmps.getD 1 undef = .iface 58 (.pointer (some ⟨g, 0, none⟩)) := e1
                        have g1 : a.tmps[1]?.getD undef = .iface 58 (.pointer (some ⟨g, 0, none⟩)) := by rw [← Array.getD_eq_getD_getElem?]; exact e1
                        refine op_val (.iface 58 (.pointer (some ⟨g, 0, none⟩))) ?_ hC (Below.refl _ _) (by intro d hd; cases hd; rfl)
                        (clear hV hI hC; go_simp <;> (first | rfl | simp | (rw [IntKind.wrap_i64]; omega)))
                      case o86 =>
                        intro Q a w2 hC hV hI
                        have e0 : a.eval (.tmp 0) = .pointer (some ⟨gh, 0, none⟩) := (hI 0 (by simp [Op.operands]) (by kernel_rfl)).trans rfl
                        have f0 : a.tmps.getD 0 undef = .pointer (some ⟨gh, 0, none⟩) := e0
                        have g0 : a.tmps[0]?.getD undef = .pointer (some ⟨gh, 0, none⟩) := by rw [← Array.getD_eq_getD_getElem?]; exact e0
                        refine op_val (.pointer (some ⟨gh, 0, none⟩)) ?_ hC (Below.refl _ _) (by intro d hd; cases hd; rfl)
                        (clear hV hI hC; go_simp <;> (first | rfl | simp | (rw [IntKind.wrap_i64]; omega)))
                      case o87 =>
                        intro Q a w2 hC hV hI
                        have e86 : a.eval (.tmp 86) = .pointer (some ⟨gh, 0, none⟩) := hV 86 (by simp [Op.operands]) (by kernel_rfl)
                        have f86 : a.tmps.getD 86 undef = .pointer (some ⟨gh, 0, none⟩) := e86
                        have g86 : a.tmps[86]?.getD undef = .pointer (some ⟨gh, 0, none⟩) := by rw [← Array.getD_eq_getD_getElem?]; exact e86
                        refine op_val (.pointer (some ⟨gh, 0, none⟩)) ?_ hC (Below.refl _ _) (by intro d hd; cases hd; rfl)
                        (clear hV hI hC; go_simp <;> (first | rfl | simp | (rw [IntKind.wrap_i64]; omega)))
                      case o88 =>
                        intro Q a w2 hC hV hI
                        have e87 : a.eval (.tmp 87) = .pointer (some ⟨gh, 0, none⟩) := hV 87 (by simp [Op.operands]) (by kernel_rfl)
                        have f87 : a.tmps.getD 87 undef = .pointer (some ⟨gh, 0, none⟩) := e87
                        have g87 : a.tmps[87]?.getD undef = .pointer (some ⟨gh, 0, none⟩) := by rw [← Array.getD_eq_getD_getElem?]; exact e87
                        refine op_val (.pointer (some ⟨gh, 11, none⟩)) ?_ hC (Below.refl _ _) (by intro d hd; cases hd; rfl)
                        (clear hV hI hC; go_simp <;> (first | rfl | simp | (rw [IntKind.wrap_i64]; omega)))
                      case o89 =>
                        intro Q a w2 hC hV hI
                        have e85 : a.eval (.tmp 85) = .iface 58 (.pointer (some ⟨g, 0, none⟩)) := hV 85 (by simp [Op.operands]) (by kernel_rfl)
                        have f85 : a.tmps.getD 85 undef = .iface 58 (.pointer (some ⟨g, 0, none⟩)) := e85
                        have g85 : a.tmps[85]?.getD undef = .iface 58 (.pointer (some ⟨g, 0, none⟩)) := by rw [← Array.getD_eq_getD_getElem?]; exact e85
                        refine op_val (.func (.method "loop.example/g00413/impl.short") #[.iface 58 (.pointer (some ⟨g, 0, none⟩))] #[]) ?_ hC (Below.refl _ _) (by intro d hd; cases hd; rfl)
                        (clear hV hI hC; go_simp <;> (first | rfl | simp | (rw [IntKind.wrap_i64]; omega)))
                      case o90 =>
                        intro Q a w2 hC hV hI
                        have e89 : a.eval (.tmp 89) = .func (.method "loop.example/g00413/impl.short") #[.iface 58 (.pointer (some ⟨g, 0, none⟩))] #[] := hV 89 (by simp [Op.operands]) (by kernel_rfl)
                        have f89 : a.tmps.getD 89 undef = .func (.method "loop.example/g00413/impl.short") #[.iface 58 (.pointer (some ⟨g, 0, none⟩))] #[] := e89
                        have g89 : a.tmps[89]?.getD undef = .func (.method "loop.example/g00413/impl.short") #[.iface 58 (.pointer (some ⟨g, 0, none⟩))] #[] := by rw [← Array.getD_eq_getD_getElem?]; exact e89
                        refine op_val (.func (.method "loop.example/g00413/impl.short") #[.iface 58 (.pointer (some ⟨g, 0, none⟩))] #[]) ?_ hC (Below.refl _ _) (by intro d hd; cases hd; rfl)
                        (clear hV hI hC; go_simp <;> (first | rfl | simp | (rw [IntKind.wrap_i64]; omega)))
                      case o91 =>
                        intro Q a w2 hC hV hI
                        have e85 : a.eval (.tmp 85) = .iface 58 (.pointer (some ⟨g, 0, none⟩)) := hV 85 (by simp [Op.operands]) (by kernel_rfl)
                        have f85 : a.tmps.getD 85 undef = .iface 58 (.pointer (some ⟨g, 0, none⟩)) := e85
                        have g85 : a.tmps[85]?.getD undef = .iface 58 (.pointer (some ⟨g, 0, none⟩)) := by rw [← Array.getD_eq_getD_getElem?]; exact e85
                        refine op_val (.iface 58 (.pointer (some ⟨g, 0, none⟩))) ?_ hC (Below.refl _ _) (by intro d hd; cases hd; rfl)
                        (clear hV hI hC; go_simp <;> (first | rfl | simp | (rw [IntKind.wrap_i64]; omega)))
                    case hend =>
                      intro f v10 hC hall
                      simp only [List.take_succ_cons, List.take_zero, List.drop_succ_cons, List.drop_zero] at hall ⊢
                      simp only [List.forall_mem_cons] at hall
                      obtain ⟨h85, h86, h87, h88, h89, h90, h91, _⟩ := hall
                      replace h85 : f 85 = .iface 58 (.pointer (some ⟨g, 0, none⟩)) := h85 85 rfl
                      replace h86 : f 86 = .pointer (some ⟨gh, 0, none⟩) := h86 86 rfl
                      replace h87 : f 87 = .pointer (some ⟨gh, 0, none⟩) := h87 87 rfl
                      replace h88 : f 88 = .pointer (some ⟨gh, 11, none⟩) := h88 88 rfl
                      replace h89 : f 89 = .func (.method "loop.example/g00413/impl.short") #[.iface 58 (.pointer (some ⟨g, 0, none⟩))] #[] := h89 89 rfl
                      replace h90 : f 90 = .func (.method "loop.example/g00413/impl.short") #[.iface 58 (.pointer (some ⟨g, 0, none⟩))] #[] := h90 90 rfl
                      replace h91 : f 91 = .iface 58 (.pointer (some ⟨g, 0, none⟩)) := h91 91 rfl
                      simp only [putAll, Act.put, List.setIfInBounds_toArray, List.set_cons_succ, List.set_cons_zero, h85, h86, h87, h88, h89, h90, h91]
                      clear h85 h86 h87 h88 h89 h90 h91
                      have W10 := Lib.hid (HW9.out.below hC)
                      have H10 := Lib.hid ((hC.block gh (by have := HW9.out.lt; omega)).trans HH9.out)
                      have C10 := Lib.hid (B9.out.trans (hC.mono (by have := HW9.out.lt; omega)))
                      clear hC HW9 HH9 B9
                      have q10 := Lib.hid (short_r g gh 11 s ((j + 20 : Nat) : Int) hi #[.int .i64 x3, .int .i64 x4, .int .i64 x5, .int .i64 x6, .int .i64 x7, .int .i64 x9, .string ⟨#[]⟩, .string ⟨#[]⟩, .int .i64 x1, .int .i64 x2, .int .i64 x8, .int .i64 0, .int .i64 0] T v10 hs (by omega) W10.out H10.out (by omega) ⟨_, rfl⟩)
                      go_wp2_with fail
                      refine q10.out.mono ?_
                      rintro e w10 ⟨rfl, hw, hh, hb⟩
                      rw [show (((j + 20 : Nat) : Int) + 2) = ((j + 22 : Nat) : Int) from by omega] at hw
                      simp only [List.setIfInBounds_toArray, List.set_cons_succ, List.set_cons_zero] at hh
                      rw [← X10.out] at hh
                      have HW10 : Hid (RdO w10 g s ((j + 22 : Nat) : Int) hi) := Lib.hid hw
                      have HH10 : Hid (w10.heap[gh]? = some (.cells #[.int .i64 x3, .int .i64 x4, .int .i64 x5, .int .i64 x6, .int .i64 x7, .int .i64 x9, .string ⟨#[]⟩, .string ⟨#[]⟩, .int .i64 x1, .int .i64 x2, .int .i64 x8, .int .i64 x10, .int .i64 0] T (0, 0))) := Lib.hid hh
                      have B10 := Lib.hid (C10.out.trans (hb gh (by omega) (Nat.le_refl _)))
                      clear hw hh hb H10 W10 C10 q10 X10
                      go_upto_region 11 with fail
                      refine wp_region_cut 7 (by kernel_rfl) (fun w' => Below w10.heap.size w10 w') (fun x y => Below x.heap.size x y) (fun dq vq _ => match dq with | 93 => vq = .iface 58 (.pointer (some ⟨g, 0, none⟩)) | 94 => vq = .pointer (some ⟨gh, 0, none⟩) | 95 => vq = .pointer (some ⟨gh, 0, none⟩) | 96 => vq = .pointer (some ⟨gh, 12, none⟩) | 97 => vq = .func (.method "loop.example/g00413/impl.long") #[.iface 58 (.pointer (some ⟨g, 0, none⟩))] #[] | 98 => vq = .func (.method "loop.example/g00413/impl.long") #[.iface 58 (.pointer (some ⟨g, 0, none⟩))] #[] | 99 => vq = .iface 58 (.pointer (some ⟨g, 0, none⟩)) | _ => True) (by kernel_rfl) (by kernel_rfl) ((Below.refl _ _).drew) (fun _ _ _ _ _ _ h => h) (by simp) ?hops ?hend
                      case hops =>
                        simp only [List.take_succ_cons, List.take_zero, List.forall_mem_cons]
                        refine ⟨?o93, ?o94, ?o95, ?o96, ?o97, ?o98, ?o99, fun _ h => by cases h⟩
                        case o93 =>
                          intro Q a w2 hC hV hI
                          have e1 : a.eval (.tmp 1) = .iface 58 (.pointer (some ⟨g, 0, none⟩)) := (hI 1 (by simp [Op.operands]) (by kernel_rfl)).trans rfl
                          have f1 : a.tmps.getD 1 undef = .iface 58 (.pointer (some ⟨g, 0, none⟩)) := e1
                          have g1 : a.tmps[1]?.getD undef = .iface 58 (.pointer (some ⟨g, 0, none⟩)) := by rw [← Array.getD_eq_getD_getElem?]; exact e1
                          refine op_val (.iface 58 (.pointer (some ⟨g, 0, none⟩))) ?_ hC (Below.refl _ _) (by intro d hd; cases hd; rfl)
                          (clear hV hI hC; go_simp <;> (first | rfl | simp | (rw [IntKind.wrap_i64]; omega)))
                        case o94 =>
                          intro Q a w2 hC hV hI
                          have e0 : a.eval (.tmp 0) = .pointer (some ⟨gh, 0, none⟩) := (hI 0 (by simp [Op.operands]) (by kernel_rfl)).trans rfl
                          have f0 : a.tmps.getD 0 undef = .pointer (some ⟨gh, 0, none⟩) := e0
                          have g0 : a.tmps[0]?.getD undef = .pointer (some ⟨gh, 0, none⟩) := by rw [← Array.getD_eq_getD_getElem?]; exact e0
                          refine op_val (.pointer (some ⟨gh, 0, none⟩)) ?_ hC (Below.refl _ _) (by intro d hd; cases hd; rfl)
                          (clear hV hI hC; go_simp <;> (first | rfl | simp | (rw [IntKind.wrap_i64]; omega)))
                        case o95 =>
                          intro Q a w2 hC hV hI
                          have e94 : a.eval (.tmp 94) = .pointer (some ⟨gh, 0, none⟩) := hV 94 (by simp [Op.operands]) (by kernel_rfl)
                          have f94 : a.tmps.getD 94 undef = .pointer (some ⟨gh, 0, none⟩) := e94
                          have g94 : a.tmps[94]?.getD undef = .pointer (some ⟨gh, 0, none⟩) := by rw [← Array.getD_eq_getD_getElem?]; exact e94
                          refine op_val (.pointer (some ⟨gh, 0, none⟩)) ?_ hC (Below.refl _ _) (by intro d hd; cases hd; rfl)
                          (clear hV hI hC; go_simp <;> (first | rfl | simp | (rw [IntKind.wrap_i64]; omega)))
                        case o96 =>
                          intro Q a w2 hC hV hI
                          have e95 : a.eval (.tmp 95) = .pointer (some ⟨gh, 0, none⟩) := hV 95 (by simp [Op.operands]) (by kernel_rfl)
                          have f95 : a.tmps.getD 95 undef = .pointer (some ⟨gh, 0, none⟩) := e95
                          have g95 : a.tmps[95]?.getD undef = .pointer (some ⟨gh, 0, none⟩) := by rw [← Array.getD_eq_getD_getElem?]; exact e95
                          refine op_val (.pointer (some ⟨gh, 12, none⟩)) ?_ hC (Below.refl _ _) (by intro d hd; cases hd; rfl)
                          (clear hV hI hC; go_simp <;> (first | rfl | simp | (rw [IntKind.wrap_i64]; omega)))
                        case o97 =>
                          intro Q a w2 hC hV hI
                          have e93 : a.eval (.tmp 93) = .iface 58 (.pointer (some ⟨g, 0, none⟩)) := hV 93 (by simp [Op.operands]) (by kernel_rfl)
                          have f93 : a.tmps.getD 93 undef = .iface 58 (.pointer (some ⟨g, 0, none⟩)) := e93
                          have g93 : a.tmps[93]?.getD undef = .iface 58 (.pointer (some ⟨g, 0, none⟩)) := by rw [← Array.getD_eq_getD_getElem?]; exact e93
                          refine op_val (.func (.method "loop.example/g00413/impl.long") #[.iface 58 (.pointer (some ⟨g, 0, none⟩))] #[]) ?_ hC (Below.refl _ _) (by intro d hd; cases hd; rfl)
                          (clear hV hI hC; go_simp <;> (first | rfl | simp | (rw [IntKind.wrap_i64]; omega)))
                        case o98 =>
                          intro Q a w2 hC hV hI
                          have e97 : a.eval (.tmp 97) = .func (.method "loop.example/g00413/impl.long") #[.iface 58 (.pointer (some ⟨g, 0, none⟩))] #[] := hV 97 (by simp [Op.operands]) (by kernel_rfl)
                          have f97 : a.tmps.getD 97 undef = .func (.method "loop.example/g00413/impl.long") #[.iface 58 (.pointer (some ⟨g, 0, none⟩))] #[] := e97
                          have g97 : a.tmps[97]?.getD undef = .func (.method "loop.example/g00413/impl.long") #[.iface 58 (.pointer (some ⟨g, 0, none⟩))] #[] := by rw [← Array.getD_eq_getD_getElem?]; exact e97
                          refine op_val (.func (.method "loop.example/g00413/impl.long") #[.iface 58 (.pointer (some ⟨g, 0, none⟩))] #[]) ?_ hC (Below.refl _ _) (by intro d hd; cases hd; rfl)
                          (clear hV hI hC; go_simp <;> (first | rfl | simp | (rw [IntKind.wrap_i64]; omega)))
                        case o99 =>
                          intro Q a w2 hC hV hI
                          have e93 : a.eval (.tmp 93) = .iface 58 (.pointer (some ⟨g, 0, none⟩)) := hV 93 (by simp [Op.operands]) (by kernel_rfl)
                          have f93 : a.tmps.getD 93 undef = .iface 58 (.pointer (some ⟨g, 0, none⟩)) := e93
                          have g93 : a.tmps[93]?.getD undef = .iface 58 (.pointer (some ⟨g, 0, none⟩)) := by rw [← Array.getD_eq_getD_getElem?]; exact e93
                          refine op_val (.iface 58 (.pointer (some ⟨g, 0, none⟩))) ?_ hC (Below.refl _ _) (by intro d hd; cases hd; rfl)
                          (clear hV hI hC; go_simp <;> (first | rfl | simp | (rw [IntKind.wrap_i64]; omega)))
                      case hend =>
                        intro f v11 hC hall
                        simp only [List.take_succ_cons, List.take_zero, List.drop_succ_cons, List.drop_zero] at hall ⊢
                        simp only [List.forall_mem_cons] at hall
                        obtain ⟨h93, h94, h95, h96, h97, h98, h99, _⟩ := hall
                        replace h93 : f 93 = .iface 58 (.pointer (some ⟨g, 0, none⟩)) := h93 93 rfl
                        replace h94 : f 94 = .pointer (some ⟨gh, 0, none⟩) := h94 94 rfl
                        replace h95 : f 95 = .pointer (some ⟨gh, 0, none⟩) := h95 95 rfl
                        replace h96 : f 96 = .pointer (some ⟨gh, 12, none⟩) := h96 96 rfl
                        replace h97 : f 97 = .func (.method "loop.example/g00413/impl.long") #[.iface 58 (.pointer (some ⟨g, 0, none⟩))] #[] := h97 97 rfl
                        replace h98 : f 98 = .func (.method "loop.example/g00413/impl.long") #[.iface 58 (.pointer (some ⟨g, 0, none⟩))] #[] := h98 98 rfl
                        replace h99 : f 99 = .iface 58 (.pointer (some ⟨g, 0, none⟩)) := h99 99 rfl
                        simp only [putAll, Act.put, List.setIfInBounds_toArray, List.set_cons_succ, List.set_cons_zero, h93, h94, h95, h96, h97, h98, h99]
                        clear h93 h94 h95 h96 h97 h98 h99
                        have W11 := Lib.hid (HW10.out.below hC)
                        have H11 := Lib.hid ((hC.block gh (by have := HW10.out.lt; omega)).trans HH10.out)
                        have C11 := Lib.hid (B10.out.trans (hC.mono (by have := HW10.out.lt; omega)))
                        clear hC HW10 HH10 B10
                        have q11 := Lib.hid (long_r g gh 12 s ((j + 22 : Nat) : Int) hi #[.int .i64 x3, .int .i64 x4, .int .i64 x5, .int .i64 x6, .int .i64 x7, .int .i64 x9, .string ⟨#[]⟩, .string ⟨#[]⟩, .int .i64 x1, .int .i64 x2, .int .i64 x8, .int .i64 x10, .int .i64 0] T v11 hs (by omega) W11.out H11.out (by omega) ⟨_, rfl⟩)
                        go_wp2_with fail
                        refine q11.out.mono ?_
                        rintro e w11 ⟨rfl, hw, hh, hb⟩
                        rw [show (((j + 22 : Nat) : Int) + 4) = ((j + 26 : Nat) : Int) from by omega] at hw
                        simp only [List.setIfInBounds_toArray, List.set_cons_succ, List.set_cons_zero] at hh
                        rw [← X11.out] at hh
                        have HW11 : Hid (RdO w11 g s ((j + 26 : Nat) : Int) hi) := Lib.hid hw
                        have HH11 : Hid (w11.heap[gh]? = some (.cells #[.int .i64 x3, .int .i64 x4, .int .i64 x5, .int .i64 x6, .int .i64 x7, .int .i64 x9, .string ⟨#[]⟩, .string ⟨#[]⟩, .int .i64 x1, .int .i64 x2, .int .i64 x8, .int .i64 x10, .int .i64 x11] T (0, 0))) := Lib.hid hh
                        have B11 := Lib.hid (C11.out.trans (hb gh (by omega) (Nat.le_refl _)))
                        clear hw hh hb H11 W11 C11 q11 X11
                        have q := Lib.hid (made_r g s ((j + 26 : Nat) : Int) hi w11 HW11.out)
                        go_wp2_with fail
                        refine q.out.mono ?_
                        rintro e wz ⟨rfl, rfl⟩
                        go_wp2_with fail
                        go_ret
                        exact ⟨rfl, HH11.out, B11.out⟩
end Go.Proofs.Ytancidbbkoeokaa
