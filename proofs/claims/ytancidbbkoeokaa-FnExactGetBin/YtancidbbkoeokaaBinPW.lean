/- The numbers of a head given to the writer: impl.passHead[string]. -/
import Derived.Test.YtancidbbkoeokaaBinW
namespace Go.Proofs.Ytancidbbkoeokaa
open Go.ChangeShapes Go.WideShapes Go.ChangeAt Go.RowKit Go.Deep

theorem WrO.below {w w' : World} {g : Nat} {hi : Bool} {l : List UInt8} {rf : Bool} (h : WrO w g hi l rf) (hb : Below w.heap.size w w') : WrO w' g hi l rf := by
  obtain ⟨v, hg, ho⟩ := h
  exact ⟨v, (hb.block g (Array.getElem?_eq_some_iff.1 hg).1).trans hg, World.ownsRow.kept ho (row := none) ⟨hb.os, hb.tape, hb.output, hb.size, fun k hk _ => hb.block k hk⟩ (by cases hv : v.ownBlock <;> simp)⟩
theorem WrO.lt {w : World} {g : Nat} {hi : Bool} {l : List UInt8} {rf : Bool} (h : WrO w g hi l rf) : g < w.heap.size := by
  obtain ⟨v, hg, _⟩ := h
  exact (Array.getElem?_eq_some_iff.1 hg).1
theorem ba_len (s : ByteArray) : s.data.toList.length = s.size := Array.length_toList
theorem head_bytes (c : Card) (hi : Bool) : (headB c hi).data.toList = [] ++ (put16v 29127 hi).data.toList ++ (put16v 0 hi).data.toList ++ (put16v c.Ino hi).data.toList ++ (put16v c.Mode hi).data.toList ++ (put16v c.Uid hi).data.toList ++ (put16v c.Gid hi).data.toList ++ (put16v c.Count hi).data.toList ++ (put16v 0 hi).data.toList ++ (put32v c.Time hi).data.toList ++ (put16v ((c.Path.size : Int) + 1) hi).data.toList ++ (put32v (c.Data.size : Int) hi).data.toList := by
  simp [headB, headA]
theorem head_ok (c : Card) : (false || !r16 29127 || !r16 0 || !r16 c.Ino || !r16 c.Mode || !r16 c.Uid || !r16 c.Gid || !r16 c.Count || !r16 0 || !r32 c.Time || !r16 ((c.Path.size : Int) + 1) || !r32 (c.Data.size : Int)) = !binOk c := by
  rw [show r16 29127 = true from by decide, show r16 0 = true from by decide, binOk]
  cases r16 c.Ino <;> cases r16 c.Mode <;> cases r16 c.Uid <;> cases r16 c.Gid <;> cases r16 c.Count <;> cases r32 c.Time <;> cases r16 ((c.Path.size : Int) + 1) <;> cases r32 (c.Data.size : Int) <;> rfl
set_option maxHeartbeats 6400000 in
set_option maxRecDepth 8000 in
theorem pass_w (g gh : Nat) (c : Card) (hi : Bool) (T : TypeId) (w : World) (hg : WrO w g hi [] false) (hh : w.heap[gh]? = some (.cells #[.int .i64 c.Ino, .int .i64 c.Mode, .int .i64 c.Uid, .int .i64 c.Gid, .int .i64 c.Count, .int .i64 c.Time, .string c.Path, .string c.Data, .int .i64 29127, .int .i64 0, .int .i64 0, .int .i64 ((c.Path.size : Int) + 1), .int .i64 (c.Data.size : Int)] T (0, 0))) (hgh : gh < g) :
    Calls Try.prog 24 #[.pointer (some ⟨gh, 0, none⟩), .iface 50 (.pointer (some ⟨g, 0, none⟩))] w fun e w' => e = .returned (.string (if binOk c then headB c hi else ⟨#[]⟩)) ∧ Below g w w' := by
  have HL := Lib.hid (head_bytes c hi)
  have HR := Lib.hid (head_ok c)
  have HW0 := Lib.hid hg
  have HH0 := Lib.hid hh
  have B0 : Hid (Below g w w) := Lib.hid (Below.refl _ _)
  generalize binOk c = ok at HR ⊢
  generalize headB c hi = hb9 at HL ⊢
  generalize hres : (if ok then hb9 else ⟨#[]⟩ : ByteArray) = res
  have HRes := Lib.hid hres
  clear hres
  clear hg hh
  obtain ⟨l0, hl0⟩ : ∃ l : List UInt8, l = [] := ⟨_, rfl⟩
  obtain ⟨r0, hr0⟩ : ∃ r : Bool, r = false := ⟨_, rfl⟩
  rw [← hl0] at HL HW0
  rw [← hr0] at HR HW0
  have z0 : l0.length = 0 := by rw [hl0]; rfl
  clear hl0 hr0
  go_enter Try.func24, Try.ntmps24
  obtain ⟨w0, hw0⟩ : ∃ w0, w0 = w := ⟨_, rfl⟩
  rw [← hw0] at HW0 HH0 ⊢
  replace B0 : Hid (Below g w0 w0) := Lib.hid (Below.refl _ _)
  clear hw0
  go_upto_region 1 with fail
  refine wp_region_cut 7 (by kernel_rfl) (fun w' => Below w0.heap.size w0 w') (fun x y => Below x.heap.size x y) (fun dq vq _ => match dq with | 5 => vq = .iface 50 (.pointer (some ⟨g, 0, none⟩)) | 6 => vq = .pointer (some ⟨gh, 0, none⟩) | 7 => vq = .pointer (some ⟨gh, 0, none⟩) | 8 => vq = .pointer (some ⟨gh, 8, none⟩) | 9 => vq = .func (.method "loop.example/g00413/impl.short") #[.iface 50 (.pointer (some ⟨g, 0, none⟩))] #[] | 10 => vq = .func (.method "loop.example/g00413/impl.short") #[.iface 50 (.pointer (some ⟨g, 0, none⟩))] #[] | 11 => vq = .iface 50 (.pointer (some ⟨g, 0, none⟩)) | _ => True) (by kernel_rfl) (by kernel_rfl) ((Below.refl _ _).drew) (fun _ _ _ _ _ _ h => h) (by simp) ?hops ?hend
  case hops =>
    simp only [List.take_succ_cons, List.take_zero, List.forall_mem_cons]
    refine ⟨?o5, ?o6, ?o7, ?o8, ?o9, ?o10, ?o11, fun _ h => by cases h⟩
    case o5 =>
      intro Q a w2 hC hV hI
      have e1 : a.eval (.tmp 1) = .iface 50 (.pointer (some ⟨g, 0, none⟩)) := (hI 1 (by simp [Op.operands]) (by kernel_rfl)).trans rfl
      have f1 : a.tmps.getD 1 undef = .iface 50 (.pointer (some ⟨g, 0, none⟩)) := e1
      have g1 : a.tmps[1]?.getD undef = .iface 50 (.pointer (some ⟨g, 0, none⟩)) := by rw [← Array.getD_eq_getD_getElem?]; exact e1
      refine op_val (.iface 50 (.pointer (some ⟨g, 0, none⟩))) ?_ hC (Below.refl _ _) (by intro d hd; cases hd; rfl)
      (clear hV hI hC; go_simp <;> (first | rfl | simp | (rw [IntKind.wrap_i64]; omega)))
    case o6 =>
      intro Q a w2 hC hV hI
      have e0 : a.eval (.tmp 0) = .pointer (some ⟨gh, 0, none⟩) := (hI 0 (by simp [Op.operands]) (by kernel_rfl)).trans rfl
      have f0 : a.tmps.getD 0 undef = .pointer (some ⟨gh, 0, none⟩) := e0
      have g0 : a.tmps[0]?.getD undef = .pointer (some ⟨gh, 0, none⟩) := by rw [← Array.getD_eq_getD_getElem?]; exact e0
      refine op_val (.pointer (some ⟨gh, 0, none⟩)) ?_ hC (Below.refl _ _) (by intro d hd; cases hd; rfl)
      (clear hV hI hC; go_simp <;> (first | rfl | simp | (rw [IntKind.wrap_i64]; omega)))
    case o7 =>
      intro Q a w2 hC hV hI
      have e6 : a.eval (.tmp 6) = .pointer (some ⟨gh, 0, none⟩) := hV 6 (by simp [Op.operands]) (by kernel_rfl)
      have f6 : a.tmps.getD 6 undef = .pointer (some ⟨gh, 0, none⟩) := e6
      have g6 : a.tmps[6]?.getD undef = .pointer (some ⟨gh, 0, none⟩) := by rw [← Array.getD_eq_getD_getElem?]; exact e6
      refine op_val (.pointer (some ⟨gh, 0, none⟩)) ?_ hC (Below.refl _ _) (by intro d hd; cases hd; rfl)
      (clear hV hI hC; go_simp <;> (first | rfl | simp | (rw [IntKind.wrap_i64]; omega)))
    case o8 =>
      intro Q a w2 hC hV hI
      have e7 : a.eval (.tmp 7) = .pointer (some ⟨gh, 0, none⟩) := hV 7 (by simp [Op.operands]) (by kernel_rfl)
      have f7 : a.tmps.getD 7 undef = .pointer (some ⟨gh, 0, none⟩) := e7
      have g7 : a.tmps[7]?.getD undef = .pointer (some ⟨gh, 0, none⟩) := by rw [← Array.getD_eq_getD_getElem?]; exact e7
      refine op_val (.pointer (some ⟨gh, 8, none⟩)) ?_ hC (Below.refl _ _) (by intro d hd; cases hd; rfl)
      (clear hV hI hC; go_simp <;> (first | rfl | simp | (rw [IntKind.wrap_i64]; omega)))
    case o9 =>
      intro Q a w2 hC hV hI
      have e5 : a.eval (.tmp 5) = .iface 50 (.pointer (some ⟨g, 0, none⟩)) := hV 5 (by simp [Op.operands]) (by kernel_rfl)
      have f5 : a.tmps.getD 5 undef = .iface 50 (.pointer (some ⟨g, 0, none⟩)) := e5
      have g5 : a.tmps[5]?.getD undef = .iface 50 (.pointer (some ⟨g, 0, none⟩)) := by rw [← Array.getD_eq_getD_getElem?]; exact e5
      refine op_val (.func (.method "loop.example/g00413/impl.short") #[.iface 50 (.pointer (some ⟨g, 0, none⟩))] #[]) ?_ hC (Below.refl _ _) (by intro d hd; cases hd; rfl)
      (clear hV hI hC; go_simp <;> (first | rfl | simp | (rw [IntKind.wrap_i64]; omega)))
    case o10 =>
      intro Q a w2 hC hV hI
      have e9 : a.eval (.tmp 9) = .func (.method "loop.example/g00413/impl.short") #[.iface 50 (.pointer (some ⟨g, 0, none⟩))] #[] := hV 9 (by simp [Op.operands]) (by kernel_rfl)
      have f9 : a.tmps.getD 9 undef = .func (.method "loop.example/g00413/impl.short") #[.iface 50 (.pointer (some ⟨g, 0, none⟩))] #[] := e9
      have g9 : a.tmps[9]?.getD undef = .func (.method "loop.example/g00413/impl.short") #[.iface 50 (.pointer (some ⟨g, 0, none⟩))] #[] := by rw [← Array.getD_eq_getD_getElem?]; exact e9
      refine op_val (.func (.method "loop.example/g00413/impl.short") #[.iface 50 (.pointer (some ⟨g, 0, none⟩))] #[]) ?_ hC (Below.refl _ _) (by intro d hd; cases hd; rfl)
      (clear hV hI hC; go_simp <;> (first | rfl | simp | (rw [IntKind.wrap_i64]; omega)))
    case o11 =>
      intro Q a w2 hC hV hI
      have e5 : a.eval (.tmp 5) = .iface 50 (.pointer (some ⟨g, 0, none⟩)) := hV 5 (by simp [Op.operands]) (by kernel_rfl)
      have f5 : a.tmps.getD 5 undef = .iface 50 (.pointer (some ⟨g, 0, none⟩)) := e5
      have g5 : a.tmps[5]?.getD undef = .iface 50 (.pointer (some ⟨g, 0, none⟩)) := by rw [← Array.getD_eq_getD_getElem?]; exact e5
      refine op_val (.iface 50 (.pointer (some ⟨g, 0, none⟩))) ?_ hC (Below.refl _ _) (by intro d hd; cases hd; rfl)
      (clear hV hI hC; go_simp <;> (first | rfl | simp | (rw [IntKind.wrap_i64]; omega)))
  case hend =>
    intro f v1 hC hall
    simp only [List.take_succ_cons, List.take_zero, List.drop_succ_cons, List.drop_zero] at hall ⊢
    simp only [List.forall_mem_cons] at hall
    obtain ⟨h5, h6, h7, h8, h9, h10, h11, _⟩ := hall
    replace h5 : f 5 = .iface 50 (.pointer (some ⟨g, 0, none⟩)) := h5 5 rfl
    replace h6 : f 6 = .pointer (some ⟨gh, 0, none⟩) := h6 6 rfl
    replace h7 : f 7 = .pointer (some ⟨gh, 0, none⟩) := h7 7 rfl
    replace h8 : f 8 = .pointer (some ⟨gh, 8, none⟩) := h8 8 rfl
    replace h9 : f 9 = .func (.method "loop.example/g00413/impl.short") #[.iface 50 (.pointer (some ⟨g, 0, none⟩))] #[] := h9 9 rfl
    replace h10 : f 10 = .func (.method "loop.example/g00413/impl.short") #[.iface 50 (.pointer (some ⟨g, 0, none⟩))] #[] := h10 10 rfl
    replace h11 : f 11 = .iface 50 (.pointer (some ⟨g, 0, none⟩)) := h11 11 rfl
    simp only [putAll, Act.put, List.setIfInBounds_toArray, List.set_cons_succ, List.set_cons_zero, h5, h6, h7, h8, h9, h10, h11]
    clear h5 h6 h7 h8 h9 h10 h11
    have W1 := Lib.hid (HW0.out.below hC)
    have H1 := Lib.hid ((hC.block gh (by have := HW0.out.lt; omega)).trans HH0.out)
    have C1 := Lib.hid (B0.out.trans (hC.mono (by have := HW0.out.lt; omega)))
    clear hC HW0 HH0 B0
    have hx1 : v1.cell? ⟨gh, 8, none⟩ = some (.int .i64 29127) := by simp [World.cell?, H1.out]
    have q1 := Lib.hid (short_w g gh 8 hi l0 r0 29127 v1 W1.out (by omega) hx1)
    clear hx1
    go_wp2_with fail
    refine q1.out.mono ?_
    rintro e w1 ⟨rfl, hw, hb⟩
    obtain ⟨l1, hl⟩ : ∃ l : List UInt8, l = l0 ++ (put16v 29127 hi).data.toList := ⟨_, rfl⟩
    obtain ⟨r1, hr⟩ : ∃ r : Bool, r = (r0 || !r16 29127) := ⟨_, rfl⟩
    have z1 : l1.length = 2 := by rw [hl, List.length_append, ba_len, put16_size]; omega
    rw [← hl] at hw HL
    rw [← hr] at hw HR
    have HW1 := Lib.hid hw
    have HH1 := Lib.hid ((hb.block gh hgh).trans H1.out)
    have B1 := Lib.hid (C1.out.trans hb)
    clear hw hb hl hr H1 W1 C1 q1 z0
    go_upto_region 2 with fail
    refine wp_region_cut 8 (by kernel_rfl) (fun w' => Below w1.heap.size w1 w') (fun x y => Below x.heap.size x y) (fun dq vq _ => match dq with | 13 => vq = .iface 50 (.pointer (some ⟨g, 0, none⟩)) | 14 => vq = .pointer (some ⟨gh, 0, none⟩) | 15 => vq = .pointer (some ⟨gh, 0, none⟩) | 16 => vq = .pointer (some ⟨gh, 9, none⟩) | 17 => vq = .pointer (some ⟨gh, 9, none⟩) | 18 => vq = .func (.method "loop.example/g00413/impl.short") #[.iface 50 (.pointer (some ⟨g, 0, none⟩))] #[] | 19 => vq = .func (.method "loop.example/g00413/impl.short") #[.iface 50 (.pointer (some ⟨g, 0, none⟩))] #[] | 20 => vq = .iface 50 (.pointer (some ⟨g, 0, none⟩)) | _ => True) (by kernel_rfl) (by kernel_rfl) ((Below.refl _ _).drew) (fun _ _ _ _ _ _ h => h) (by simp) ?hops ?hend
    case hops =>
      simp only [List.take_succ_cons, List.take_zero, List.forall_mem_cons]
      refine ⟨?o13, ?o14, ?o15, ?o16, ?o17, ?o18, ?o19, ?o20, fun _ h => by cases h⟩
      case o13 =>
        intro Q a w2 hC hV hI
        have e1 : a.eval (.tmp 1) = .iface 50 (.pointer (some ⟨g, 0, none⟩)) := (hI 1 (by simp [Op.operands]) (by kernel_rfl)).trans rfl
        have f1 : a.tmps.getD 1 undef = .iface 50 (.pointer (some ⟨g, 0, none⟩)) := e1
        have g1 : a.tmps[1]?.getD undef = .iface 50 (.pointer (some ⟨g, 0, none⟩)) := by rw [← Array.getD_eq_getD_getElem?]; exact e1
        refine op_val (.iface 50 (.pointer (some ⟨g, 0, none⟩))) ?_ hC (Below.refl _ _) (by intro d hd; cases hd; rfl)
        (clear hV hI hC; go_simp <;> (first | rfl | simp | (rw [IntKind.wrap_i64]; omega)))
      case o14 =>
        intro Q a w2 hC hV hI
        have e0 : a.eval (.tmp 0) = .pointer (some ⟨gh, 0, none⟩) := (hI 0 (by simp [Op.operands]) (by kernel_rfl)).trans rfl
        have f0 : a.tmps.getD 0 undef = .pointer (some ⟨gh, 0, none⟩) := e0
        have g0 : a.tmps[0]?.getD undef = .pointer (some ⟨gh, 0, none⟩) := by rw [← Array.getD_eq_getD_getElem?]; exact e0
        refine op_val (.pointer (some ⟨gh, 0, none⟩)) ?_ hC (Below.refl _ _) (by intro d hd; cases hd; rfl)
        (clear hV hI hC; go_simp <;> (first | rfl | simp | (rw [IntKind.wrap_i64]; omega)))
      case o15 =>
        intro Q a w2 hC hV hI
        have e14 : a.eval (.tmp 14) = .pointer (some ⟨gh, 0, none⟩) := hV 14 (by simp [Op.operands]) (by kernel_rfl)
        have f14 : a.tmps.getD 14 undef = .pointer (some ⟨gh, 0, none⟩) := e14
        have g14 : a.tmps[14]?.getD undef = .pointer (some ⟨gh, 0, none⟩) := by rw [← Array.getD_eq_getD_getElem?]; exact e14
        refine op_val (.pointer (some ⟨gh, 0, none⟩)) ?_ hC (Below.refl _ _) (by intro d hd; cases hd; rfl)
        (clear hV hI hC; go_simp <;> (first | rfl | simp | (rw [IntKind.wrap_i64]; omega)))
      case o16 =>
        intro Q a w2 hC hV hI
        have e15 : a.eval (.tmp 15) = .pointer (some ⟨gh, 0, none⟩) := hV 15 (by simp [Op.operands]) (by kernel_rfl)
        have f15 : a.tmps.getD 15 undef = .pointer (some ⟨gh, 0, none⟩) := e15
        have g15 : a.tmps[15]?.getD undef = .pointer (some ⟨gh, 0, none⟩) := by rw [← Array.getD_eq_getD_getElem?]; exact e15
        refine op_val (.pointer (some ⟨gh, 9, none⟩)) ?_ hC (Below.refl _ _) (by intro d hd; cases hd; rfl)
        (clear hV hI hC; go_simp <;> (first | rfl | simp | (rw [IntKind.wrap_i64]; omega)))
      case o17 =>
        intro Q a w2 hC hV hI
        have e16 : a.eval (.tmp 16) = .pointer (some ⟨gh, 9, none⟩) := hV 16 (by simp [Op.operands]) (by kernel_rfl)
        have f16 : a.tmps.getD 16 undef = .pointer (some ⟨gh, 9, none⟩) := e16
        have g16 : a.tmps[16]?.getD undef = .pointer (some ⟨gh, 9, none⟩) := by rw [← Array.getD_eq_getD_getElem?]; exact e16
        refine op_val (.pointer (some ⟨gh, 9, none⟩)) ?_ hC (Below.refl _ _) (by intro d hd; cases hd; rfl)
        (clear hV hI hC; go_simp <;> (first | rfl | simp | (rw [IntKind.wrap_i64]; omega)))
      case o18 =>
        intro Q a w2 hC hV hI
        have e13 : a.eval (.tmp 13) = .iface 50 (.pointer (some ⟨g, 0, none⟩)) := hV 13 (by simp [Op.operands]) (by kernel_rfl)
        have f13 : a.tmps.getD 13 undef = .iface 50 (.pointer (some ⟨g, 0, none⟩)) := e13
        have g13 : a.tmps[13]?.getD undef = .iface 50 (.pointer (some ⟨g, 0, none⟩)) := by rw [← Array.getD_eq_getD_getElem?]; exact e13
        refine op_val (.func (.method "loop.example/g00413/impl.short") #[.iface 50 (.pointer (some ⟨g, 0, none⟩))] #[]) ?_ hC (Below.refl _ _) (by intro d hd; cases hd; rfl)
        (clear hV hI hC; go_simp <;> (first | rfl | simp | (rw [IntKind.wrap_i64]; omega)))
      case o19 =>
        intro Q a w2 hC hV hI
        have e18 : a.eval (.tmp 18) = .func (.method "loop.example/g00413/impl.short") #[.iface 50 (.pointer (some ⟨g, 0, none⟩))] #[] := hV 18 (by simp [Op.operands]) (by kernel_rfl)
        have f18 : a.tmps.getD 18 undef = .func (.method "loop.example/g00413/impl.short") #[.iface 50 (.pointer (some ⟨g, 0, none⟩))] #[] := e18
        have g18 : a.tmps[18]?.getD undef = .func (.method "loop.example/g00413/impl.short") #[.iface 50 (.pointer (some ⟨g, 0, none⟩))] #[] := by rw [← Array.getD_eq_getD_getElem?]; exact e18
        refine op_val (.func (.method "loop.example/g00413/impl.short") #[.iface 50 (.pointer (some ⟨g, 0, none⟩))] #[]) ?_ hC (Below.refl _ _) (by intro d hd; cases hd; rfl)
        (clear hV hI hC; go_simp <;> (first | rfl | simp | (rw [IntKind.wrap_i64]; omega)))
      case o20 =>
        intro Q a w2 hC hV hI
        have e13 : a.eval (.tmp 13) = .iface 50 (.pointer (some ⟨g, 0, none⟩)) := hV 13 (by simp [Op.operands]) (by kernel_rfl)
        have f13 : a.tmps.getD 13 undef = .iface 50 (.pointer (some ⟨g, 0, none⟩)) := e13
        have g13 : a.tmps[13]?.getD undef = .iface 50 (.pointer (some ⟨g, 0, none⟩)) := by rw [← Array.getD_eq_getD_getElem?]; exact e13
        refine op_val (.iface 50 (.pointer (some ⟨g, 0, none⟩))) ?_ hC (Below.refl _ _) (by intro d hd; cases hd; rfl)
        (clear hV hI hC; go_simp <;> (first | rfl | simp | (rw [IntKind.wrap_i64]; omega)))
    case hend =>
      intro f v2 hC hall
      simp only [List.take_succ_cons, List.take_zero, List.drop_succ_cons, List.drop_zero] at hall ⊢
      simp only [List.forall_mem_cons] at hall
      obtain ⟨h13, h14, h15, h16, h17, h18, h19, h20, _⟩ := hall
      replace h13 : f 13 = .iface 50 (.pointer (some ⟨g, 0, none⟩)) := h13 13 rfl
      replace h14 : f 14 = .pointer (some ⟨gh, 0, none⟩) := h14 14 rfl
      replace h15 : f 15 = .pointer (some ⟨gh, 0, none⟩) := h15 15 rfl
      replace h16 : f 16 = .pointer (some ⟨gh, 9, none⟩) := h16 16 rfl
      replace h17 : f 17 = .pointer (some ⟨gh, 9, none⟩) := h17 17 rfl
      replace h18 : f 18 = .func (.method "loop.example/g00413/impl.short") #[.iface 50 (.pointer (some ⟨g, 0, none⟩))] #[] := h18 18 rfl
      replace h19 : f 19 = .func (.method "loop.example/g00413/impl.short") #[.iface 50 (.pointer (some ⟨g, 0, none⟩))] #[] := h19 19 rfl
      replace h20 : f 20 = .iface 50 (.pointer (some ⟨g, 0, none⟩)) := h20 20 rfl
      simp only [putAll, Act.put, List.setIfInBounds_toArray, List.set_cons_succ, List.set_cons_zero, h13, h14, h15, h16, h17, h18, h19, h20]
      clear h13 h14 h15 h16 h17 h18 h19 h20
      have W2 := Lib.hid (HW1.out.below hC)
      have H2 := Lib.hid ((hC.block gh (by have := HW1.out.lt; omega)).trans HH1.out)
      have C2 := Lib.hid (B1.out.trans (hC.mono (by have := HW1.out.lt; omega)))
      clear hC HW1 HH1 B1
      have hx2 : v2.cell? ⟨gh, 9, none⟩ = some (.int .i64 0) := by simp [World.cell?, H2.out]
      have q2 := Lib.hid (short_w g gh 9 hi l1 r1 0 v2 W2.out (by omega) hx2)
      clear hx2
      go_wp2_with fail
      refine q2.out.mono ?_
      rintro e w2 ⟨rfl, hw, hb⟩
      obtain ⟨l2, hl⟩ : ∃ l : List UInt8, l = l1 ++ (put16v 0 hi).data.toList := ⟨_, rfl⟩
      obtain ⟨r2, hr⟩ : ∃ r : Bool, r = (r1 || !r16 0) := ⟨_, rfl⟩
      have z2 : l2.length = 4 := by rw [hl, List.length_append, ba_len, put16_size]; omega
      rw [← hl] at hw HL
      rw [← hr] at hw HR
      have HW2 := Lib.hid hw
      have HH2 := Lib.hid ((hb.block gh hgh).trans H2.out)
      have B2 := Lib.hid (C2.out.trans hb)
      clear hw hb hl hr H2 W2 C2 q2 z1
      go_upto_region 3 with fail
      refine wp_region_cut 8 (by kernel_rfl) (fun w' => Below w2.heap.size w2 w') (fun x y => Below x.heap.size x y) (fun dq vq _ => match dq with | 22 => vq = .iface 50 (.pointer (some ⟨g, 0, none⟩)) | 23 => vq = .pointer (some ⟨gh, 0, none⟩) | 24 => vq = .pointer (some ⟨gh, 0, none⟩) | 25 => vq = .pointer (some ⟨gh, 0, none⟩) | 26 => vq = .pointer (some ⟨gh, 0, none⟩) | 27 => vq = .func (.method "loop.example/g00413/impl.short") #[.iface 50 (.pointer (some ⟨g, 0, none⟩))] #[] | 28 => vq = .func (.method "loop.example/g00413/impl.short") #[.iface 50 (.pointer (some ⟨g, 0, none⟩))] #[] | 29 => vq = .iface 50 (.pointer (some ⟨g, 0, none⟩)) | _ => True) (by kernel_rfl) (by kernel_rfl) ((Below.refl _ _).drew) (fun _ _ _ _ _ _ h => h) (by simp) ?hops ?hend
      case hops =>
        simp only [List.take_succ_cons, List.take_zero, List.forall_mem_cons]
        refine ⟨?o22, ?o23, ?o24, ?o25, ?o26, ?o27, ?o28, ?o29, fun _ h => by cases h⟩
        case o22 =>
          intro Q a w2 hC hV hI
          have e1 : a.eval (.tmp 1) = .iface 50 (.pointer (some ⟨g, 0, none⟩)) := (hI 1 (by simp [Op.operands]) (by kernel_rfl)).trans rfl
          have f1 : a.tmps.getD 1 undef = .iface 50 (.pointer (some ⟨g, 0, none⟩)) := e1
          have g1 : a.tmps[1]?.getD undef = .iface 50 (.pointer (some ⟨g, 0, none⟩)) := by rw [← Array.getD_eq_getD_getElem?]; exact e1
          refine op_val (.iface 50 (.pointer (some ⟨g, 0, none⟩))) ?_ hC (Below.refl _ _) (by intro d hd; cases hd; rfl)
          (clear hV hI hC; go_simp <;> (first | rfl | simp | (rw [IntKind.wrap_i64]; omega)))
        case o23 =>
          intro Q a w2 hC hV hI
          have e0 : a.eval (.tmp 0) = .pointer (some ⟨gh, 0, none⟩) := (hI 0 (by simp [Op.operands]) (by kernel_rfl)).trans rfl
          have f0 : a.tmps.getD 0 undef = .pointer (some ⟨gh, 0, none⟩) := e0
          have g0 : a.tmps[0]?.getD undef = .pointer (some ⟨gh, 0, none⟩) := by rw [← Array.getD_eq_getD_getElem?]; exact e0
          refine op_val (.pointer (some ⟨gh, 0, none⟩)) ?_ hC (Below.refl _ _) (by intro d hd; cases hd; rfl)
          (clear hV hI hC; go_simp <;> (first | rfl | simp | (rw [IntKind.wrap_i64]; omega)))
        case o24 =>
          intro Q a w2 hC hV hI
          have e23 : a.eval (.tmp 23) = .pointer (some ⟨gh, 0, none⟩) := hV 23 (by simp [Op.operands]) (by kernel_rfl)
          have f23 : a.tmps.getD 23 undef = .pointer (some ⟨gh, 0, none⟩) := e23
          have g23 : a.tmps[23]?.getD undef = .pointer (some ⟨gh, 0, none⟩) := by rw [← Array.getD_eq_getD_getElem?]; exact e23
          refine op_val (.pointer (some ⟨gh, 0, none⟩)) ?_ hC (Below.refl _ _) (by intro d hd; cases hd; rfl)
          (clear hV hI hC; go_simp <;> (first | rfl | simp | (rw [IntKind.wrap_i64]; omega)))
        case o25 =>
          intro Q a w2 hC hV hI
          have e24 : a.eval (.tmp 24) = .pointer (some ⟨gh, 0, none⟩) := hV 24 (by simp [Op.operands]) (by kernel_rfl)
          have f24 : a.tmps.getD 24 undef = .pointer (some ⟨gh, 0, none⟩) := e24
          have g24 : a.tmps[24]?.getD undef = .pointer (some ⟨gh, 0, none⟩) := by rw [← Array.getD_eq_getD_getElem?]; exact e24
          refine op_val (.pointer (some ⟨gh, 0, none⟩)) ?_ hC (Below.refl _ _) (by intro d hd; cases hd; rfl)
          (clear hV hI hC; go_simp <;> (first | rfl | simp | (rw [IntKind.wrap_i64]; omega)))
        case o26 =>
          intro Q a w2 hC hV hI
          have e25 : a.eval (.tmp 25) = .pointer (some ⟨gh, 0, none⟩) := hV 25 (by simp [Op.operands]) (by kernel_rfl)
          have f25 : a.tmps.getD 25 undef = .pointer (some ⟨gh, 0, none⟩) := e25
          have g25 : a.tmps[25]?.getD undef = .pointer (some ⟨gh, 0, none⟩) := by rw [← Array.getD_eq_getD_getElem?]; exact e25
          refine op_val (.pointer (some ⟨gh, 0, none⟩)) ?_ hC (Below.refl _ _) (by intro d hd; cases hd; rfl)
          (clear hV hI hC; go_simp <;> (first | rfl | simp | (rw [IntKind.wrap_i64]; omega)))
        case o27 =>
          intro Q a w2 hC hV hI
          have e22 : a.eval (.tmp 22) = .iface 50 (.pointer (some ⟨g, 0, none⟩)) := hV 22 (by simp [Op.operands]) (by kernel_rfl)
          have f22 : a.tmps.getD 22 undef = .iface 50 (.pointer (some ⟨g, 0, none⟩)) := e22
          have g22 : a.tmps[22]?.getD undef = .iface 50 (.pointer (some ⟨g, 0, none⟩)) := by rw [← Array.getD_eq_getD_getElem?]; exact e22
          refine op_val (.func (.method "loop.example/g00413/impl.short") #[.iface 50 (.pointer (some ⟨g, 0, none⟩))] #[]) ?_ hC (Below.refl _ _) (by intro d hd; cases hd; rfl)
          (clear hV hI hC; go_simp <;> (first | rfl | simp | (rw [IntKind.wrap_i64]; omega)))
        case o28 =>
          intro Q a w2 hC hV hI
          have e27 : a.eval (.tmp 27) = .func (.method "loop.example/g00413/impl.short") #[.iface 50 (.pointer (some ⟨g, 0, none⟩))] #[] := hV 27 (by simp [Op.operands]) (by kernel_rfl)
          have f27 : a.tmps.getD 27 undef = .func (.method "loop.example/g00413/impl.short") #[.iface 50 (.pointer (some ⟨g, 0, none⟩))] #[] := e27
          have g27 : a.tmps[27]?.getD undef = .func (.method "loop.example/g00413/impl.short") #[.iface 50 (.pointer (some ⟨g, 0, none⟩))] #[] := by rw [← Array.getD_eq_getD_getElem?]; exact e27
          refine op_val (.func (.method "loop.example/g00413/impl.short") #[.iface 50 (.pointer (some ⟨g, 0, none⟩))] #[]) ?_ hC (Below.refl _ _) (by intro d hd; cases hd; rfl)
          (clear hV hI hC; go_simp <;> (first | rfl | simp | (rw [IntKind.wrap_i64]; omega)))
        case o29 =>
          intro Q a w2 hC hV hI
          have e22 : a.eval (.tmp 22) = .iface 50 (.pointer (some ⟨g, 0, none⟩)) := hV 22 (by simp [Op.operands]) (by kernel_rfl)
          have f22 : a.tmps.getD 22 undef = .iface 50 (.pointer (some ⟨g, 0, none⟩)) := e22
          have g22 : a.tmps[22]?.getD undef = .iface 50 (.pointer (some ⟨g, 0, none⟩)) := by rw [← Array.getD_eq_getD_getElem?]; exact e22
          refine op_val (.iface 50 (.pointer (some ⟨g, 0, none⟩))) ?_ hC (Below.refl _ _) (by intro d hd; cases hd; rfl)
          (clear hV hI hC; go_simp <;> (first | rfl | simp | (rw [IntKind.wrap_i64]; omega)))
      case hend =>
        intro f v3 hC hall
        simp only [List.take_succ_cons, List.take_zero, List.drop_succ_cons, List.drop_zero] at hall ⊢
        simp only [List.forall_mem_cons] at hall
        obtain ⟨h22, h23, h24, h25, h26, h27, h28, h29, _⟩ := hall
        replace h22 : f 22 = .iface 50 (.pointer (some ⟨g, 0, none⟩)) := h22 22 rfl
        replace h23 : f 23 = .pointer (some ⟨gh, 0, none⟩) := h23 23 rfl
        replace h24 : f 24 = .pointer (some ⟨gh, 0, none⟩) := h24 24 rfl
        replace h25 : f 25 = .pointer (some ⟨gh, 0, none⟩) := h25 25 rfl
        replace h26 : f 26 = .pointer (some ⟨gh, 0, none⟩) := h26 26 rfl
        replace h27 : f 27 = .func (.method "loop.example/g00413/impl.short") #[.iface 50 (.pointer (some ⟨g, 0, none⟩))] #[] := h27 27 rfl
        replace h28 : f 28 = .func (.method "loop.example/g00413/impl.short") #[.iface 50 (.pointer (some ⟨g, 0, none⟩))] #[] := h28 28 rfl
        replace h29 : f 29 = .iface 50 (.pointer (some ⟨g, 0, none⟩)) := h29 29 rfl
        simp only [putAll, Act.put, List.setIfInBounds_toArray, List.set_cons_succ, List.set_cons_zero, h22, h23, h24, h25, h26, h27, h28, h29]
        clear h22 h23 h24 h25 h26 h27 h28 h29
        have W3 := Lib.hid (HW2.out.below hC)
        have H3 := Lib.hid ((hC.block gh (by have := HW2.out.lt; omega)).trans HH2.out)
        have C3 := Lib.hid (B2.out.trans (hC.mono (by have := HW2.out.lt; omega)))
        clear hC HW2 HH2 B2
        have hx3 : v3.cell? ⟨gh, 0, none⟩ = some (.int .i64 c.Ino) := by simp [World.cell?, H3.out]
        have q3 := Lib.hid (short_w g gh 0 hi l2 r2 c.Ino v3 W3.out (by omega) hx3)
        clear hx3
        go_wp2_with fail
        refine q3.out.mono ?_
        rintro e w3 ⟨rfl, hw, hb⟩
        obtain ⟨l3, hl⟩ : ∃ l : List UInt8, l = l2 ++ (put16v c.Ino hi).data.toList := ⟨_, rfl⟩
        obtain ⟨r3, hr⟩ : ∃ r : Bool, r = (r2 || !r16 c.Ino) := ⟨_, rfl⟩
        have z3 : l3.length = 6 := by rw [hl, List.length_append, ba_len, put16_size]; omega
        rw [← hl] at hw HL
        rw [← hr] at hw HR
        have HW3 := Lib.hid hw
        have HH3 := Lib.hid ((hb.block gh hgh).trans H3.out)
        have B3 := Lib.hid (C3.out.trans hb)
        clear hw hb hl hr H3 W3 C3 q3 z2
        go_upto_region 4 with fail
        refine wp_region_cut 8 (by kernel_rfl) (fun w' => Below w3.heap.size w3 w') (fun x y => Below x.heap.size x y) (fun dq vq _ => match dq with | 31 => vq = .iface 50 (.pointer (some ⟨g, 0, none⟩)) | 32 => vq = .pointer (some ⟨gh, 0, none⟩) | 33 => vq = .pointer (some ⟨gh, 0, none⟩) | 34 => vq = .pointer (some ⟨gh, 0, none⟩) | 35 => vq = .pointer (some ⟨gh, 1, none⟩) | 36 => vq = .func (.method "loop.example/g00413/impl.short") #[.iface 50 (.pointer (some ⟨g, 0, none⟩))] #[] | 37 => vq = .func (.method "loop.example/g00413/impl.short") #[.iface 50 (.pointer (some ⟨g, 0, none⟩))] #[] | 38 => vq = .iface 50 (.pointer (some ⟨g, 0, none⟩)) | _ => True) (by kernel_rfl) (by kernel_rfl) ((Below.refl _ _).drew) (fun _ _ _ _ _ _ h => h) (by simp) ?hops ?hend
        case hops =>
          simp only [List.take_succ_cons, List.take_zero, List.forall_mem_cons]
          refine ⟨?o31, ?o32, ?o33, ?o34, ?o35, ?o36, ?o37, ?o38, fun _ h => by cases h⟩
          case o31 =>
            intro Q a w2 hC hV hI
            have e1 : a.eval (.tmp 1) = .iface 50 (.pointer (some ⟨g, 0, none⟩)) := (hI 1 (by simp [Op.operands]) (by kernel_rfl)).trans rfl
            have f1 : a.tmps.getD 1 undef = .iface 50 (.pointer (some ⟨g, 0, none⟩)) := e1
            have g1 : a.tmps[1]?.getD undef = .iface 50 (.pointer (some ⟨g, 0, none⟩)) := by rw [← Array.getD_eq_getD_getElem?]; exact e1
            refine op_val (.iface 50 (.pointer (some ⟨g, 0, none⟩))) ?_ hC (Below.refl _ _) (by intro d hd; cases hd; rfl)
            (clear hV hI hC; go_simp <;> (first | rfl | simp | (rw [IntKind.wrap_i64]; omega)))
          case o32 =>
            intro Q a w2 hC hV hI
            have e0 : a.eval (.tmp 0) = .pointer (some ⟨gh, 0, none⟩) := (hI 0 (by simp [Op.operands]) (by kernel_rfl)).trans rfl
            have f0 : a.tmps.getD 0 undef = .pointer (some ⟨gh, 0, none⟩) := e0
            have g0 : a.tmps[0]?.getD undef = .pointer (some ⟨gh, 0, none⟩) := by rw [← Array.getD_eq_getD_getElem?]; exact e0
            refine op_val (.pointer (some ⟨gh, 0, none⟩)) ?_ hC (Below.refl _ _) (by intro d hd; cases hd; rfl)
            (clear hV hI hC; go_simp <;> (first | rfl | simp | (rw [IntKind.wrap_i64]; omega)))
          case o33 =>
            intro Q a w2 hC hV hI
            have e32 : a.eval (.tmp 32) = .pointer (some ⟨gh, 0, none⟩) := hV 32 (by simp [Op.operands]) (by kernel_rfl)
            have f32 : a.tmps.getD 32 undef = .pointer (some ⟨gh, 0, none⟩) := e32
            have g32 : a.tmps[32]?.getD undef = .pointer (some ⟨gh, 0, none⟩) := by rw [← Array.getD_eq_getD_getElem?]; exact e32
            refine op_val (.pointer (some ⟨gh, 0, none⟩)) ?_ hC (Below.refl _ _) (by intro d hd; cases hd; rfl)
            (clear hV hI hC; go_simp <;> (first | rfl | simp | (rw [IntKind.wrap_i64]; omega)))
          case o34 =>
            intro Q a w2 hC hV hI
            have e33 : a.eval (.tmp 33) = .pointer (some ⟨gh, 0, none⟩) := hV 33 (by simp [Op.operands]) (by kernel_rfl)
            have f33 : a.tmps.getD 33 undef = .pointer (some ⟨gh, 0, none⟩) := e33
            have g33 : a.tmps[33]?.getD undef = .pointer (some ⟨gh, 0, none⟩) := by rw [← Array.getD_eq_getD_getElem?]; exact e33
            refine op_val (.pointer (some ⟨gh, 0, none⟩)) ?_ hC (Below.refl _ _) (by intro d hd; cases hd; rfl)
            (clear hV hI hC; go_simp <;> (first | rfl | simp | (rw [IntKind.wrap_i64]; omega)))
          case o35 =>
            intro Q a w2 hC hV hI
            have e34 : a.eval (.tmp 34) = .pointer (some ⟨gh, 0, none⟩) := hV 34 (by simp [Op.operands]) (by kernel_rfl)
            have f34 : a.tmps.getD 34 undef = .pointer (some ⟨gh, 0, none⟩) := e34
            have g34 : a.tmps[34]?.getD undef = .pointer (some ⟨gh, 0, none⟩) := by rw [← Array.getD_eq_getD_getElem?]; exact e34
            refine op_val (.pointer (some ⟨gh, 1, none⟩)) ?_ hC (Below.refl _ _) (by intro d hd; cases hd; rfl)
            (clear hV hI hC; go_simp <;> (first | rfl | simp | (rw [IntKind.wrap_i64]; omega)))
          case o36 =>
            intro Q a w2 hC hV hI
            have e31 : a.eval (.tmp 31) = .iface 50 (.pointer (some ⟨g, 0, none⟩)) := hV 31 (by simp [Op.operands]) (by kernel_rfl)
            have f31 : a.tmps.getD 31 undef = .iface 50 (.pointer (some ⟨g, 0, none⟩)) := e31
            have g31 : a.tmps[31]?.getD undef = .iface 50 (.pointer (some ⟨g, 0, none⟩)) := by rw [← Array.getD_eq_getD_getElem?]; exact e31
            refine op_val (.func (.method "loop.example/g00413/impl.short") #[.iface 50 (.pointer (some ⟨g, 0, none⟩))] #[]) ?_ hC (Below.refl _ _) (by intro d hd; cases hd; rfl)
            (clear hV hI hC; go_simp <;> (first | rfl | simp | (rw [IntKind.wrap_i64]; omega)))
          case o37 =>
            intro Q a w2 hC hV hI
            have e36 : a.eval (.tmp 36) = .func (.method "loop.example/g00413/impl.short") #[.iface 50 (.pointer (some ⟨g, 0, none⟩))] #[] := hV 36 (by simp [Op.operands]) (by kernel_rfl)
            have f36 : a.tmps.getD 36 undef = .func (.method "loop.example/g00413/impl.short") #[.iface 50 (.pointer (some ⟨g, 0, none⟩))] #[] := e36
            have g36 : a.tmps[36]?.getD undef = .func (.method "loop.example/g00413/impl.short") #[.iface 50 (.pointer (some ⟨g, 0, none⟩))] #[] := by rw [← Array.getD_eq_getD_getElem?]; exact e36
            refine op_val (.func (.method "loop.example/g00413/impl.short") #[.iface 50 (.pointer (some ⟨g, 0, none⟩))] #[]) ?_ hC (Below.refl _ _) (by intro d hd; cases hd; rfl)
            (clear hV hI hC; go_simp <;> (first | rfl | simp | (rw [IntKind.wrap_i64]; omega)))
          case o38 =>
            intro Q a w2 hC hV hI
            have e31 : a.eval (.tmp 31) = .iface 50 (.pointer (some ⟨g, 0, none⟩)) := hV 31 (by simp [Op.operands]) (by kernel_rfl)
            have f31 : a.tmps.getD 31 undef = .iface 50 (.pointer (some ⟨g, 0, none⟩)) := e31
            have g31 : a.tmps[31]?.getD undef = .iface 50 (.pointer (some ⟨g, 0, none⟩)) := by rw [← Array.getD_eq_getD_getElem?]; exact e31
            refine op_val (.iface 50 (.pointer (some ⟨g, 0, none⟩))) ?_ hC (Below.refl _ _) (by intro d hd; cases hd; rfl)
            (clear hV hI hC; go_simp <;> (first | rfl | simp | (rw [IntKind.wrap_i64]; omega)))
        case hend =>
          intro f v4 hC hall
          simp only [List.take_succ_cons, List.take_zero, List.drop_succ_cons, List.drop_zero] at hall ⊢
          simp only [List.forall_mem_cons] at hall
          obtain ⟨h31, h32, h33, h34, h35, h36, h37, h38, _⟩ := hall
          replace h31 : f 31 = .iface 50 (.pointer (some ⟨g, 0, none⟩)) := h31 31 rfl
          replace h32 : f 32 = .pointer (some ⟨gh, 0, none⟩) := h32 32 rfl
          replace h33 : f 33 = .pointer (some ⟨gh, 0, none⟩) := h33 33 rfl
          replace h34 : f 34 = .pointer (some ⟨gh, 0, none⟩) := h34 34 rfl
          replace h35 : f 35 = .pointer (some ⟨gh, 1, none⟩) := h35 35 rfl
          replace h36 : f 36 = .func (.method "loop.example/g00413/impl.short") #[.iface 50 (.pointer (some ⟨g, 0, none⟩))] #[] := h36 36 rfl
          replace h37 : f 37 = .func (.method "loop.example/g00413/impl.short") #[.iface 50 (.pointer (some ⟨g, 0, none⟩))] #[] := h37 37 rfl
          replace h38 : f 38 = .iface 50 (.pointer (some ⟨g, 0, none⟩)) := h38 38 rfl
          simp only [putAll, Act.put, List.setIfInBounds_toArray, List.set_cons_succ, List.set_cons_zero, h31, h32, h33, h34, h35, h36, h37, h38]
          clear h31 h32 h33 h34 h35 h36 h37 h38
          have W4 := Lib.hid (HW3.out.below hC)
          have H4 := Lib.hid ((hC.block gh (by have := HW3.out.lt; omega)).trans HH3.out)
          have C4 := Lib.hid (B3.out.trans (hC.mono (by have := HW3.out.lt; omega)))
          clear hC HW3 HH3 B3
          have hx4 : v4.cell? ⟨gh, 1, none⟩ = some (.int .i64 c.Mode) := by simp [World.cell?, H4.out]
          have q4 := Lib.hid (short_w g gh 1 hi l3 r3 c.Mode v4 W4.out (by omega) hx4)
          clear hx4
          go_wp2_with fail
          refine q4.out.mono ?_
          rintro e w4 ⟨rfl, hw, hb⟩
          obtain ⟨l4, hl⟩ : ∃ l : List UInt8, l = l3 ++ (put16v c.Mode hi).data.toList := ⟨_, rfl⟩
          obtain ⟨r4, hr⟩ : ∃ r : Bool, r = (r3 || !r16 c.Mode) := ⟨_, rfl⟩
          have z4 : l4.length = 8 := by rw [hl, List.length_append, ba_len, put16_size]; omega
          rw [← hl] at hw HL
          rw [← hr] at hw HR
          have HW4 := Lib.hid hw
          have HH4 := Lib.hid ((hb.block gh hgh).trans H4.out)
          have B4 := Lib.hid (C4.out.trans hb)
          clear hw hb hl hr H4 W4 C4 q4 z3
          go_upto_region 5 with fail
          refine wp_region_cut 8 (by kernel_rfl) (fun w' => Below w4.heap.size w4 w') (fun x y => Below x.heap.size x y) (fun dq vq _ => match dq with | 40 => vq = .iface 50 (.pointer (some ⟨g, 0, none⟩)) | 41 => vq = .pointer (some ⟨gh, 0, none⟩) | 42 => vq = .pointer (some ⟨gh, 0, none⟩) | 43 => vq = .pointer (some ⟨gh, 0, none⟩) | 44 => vq = .pointer (some ⟨gh, 2, none⟩) | 45 => vq = .func (.method "loop.example/g00413/impl.short") #[.iface 50 (.pointer (some ⟨g, 0, none⟩))] #[] | 46 => vq = .func (.method "loop.example/g00413/impl.short") #[.iface 50 (.pointer (some ⟨g, 0, none⟩))] #[] | 47 => vq = .iface 50 (.pointer (some ⟨g, 0, none⟩)) | _ => True) (by kernel_rfl) (by kernel_rfl) ((Below.refl _ _).drew) (fun _ _ _ _ _ _ h => h) (by simp) ?hops ?hend
          case hops =>
            simp only [List.take_succ_cons, List.take_zero, List.forall_mem_cons]
            refine ⟨?o40, ?o41, ?o42, ?o43, ?o44, ?o45, ?o46, ?o47, fun _ h => by cases h⟩
            case o40 =>
              intro Q a w2 hC hV hI
              have e1 : a.eval (.tmp 1) = .iface 50 (.pointer (some ⟨g, 0, none⟩)) := (hI 1 (by simp [Op.operands]) (by kernel_rfl)).trans rfl
              have f1 : a.tmps.getD 1 undef = .iface 50 (.pointer (some ⟨g, 0, none⟩)) := e1
              have g1 : a.tmps[1]?.getD undef = .iface 50 (.pointer (some ⟨g, 0, none⟩)) := by rw [← Array.getD_eq_getD_getElem?]; exact e1
              refine op_val (.iface 50 (.pointer (some ⟨g, 0, none⟩))) ?_ hC (Below.refl _ _) (by intro d hd; cases hd; rfl)
              (clear hV hI hC; go_simp <;> (first | rfl | simp | (rw [IntKind.wrap_i64]; omega)))
            case o41 =>
              intro Q a w2 hC hV hI
              have e0 : a.eval (.tmp 0) = .pointer (some ⟨gh, 0, none⟩) := (hI 0 (by simp [Op.operands]) (by kernel_rfl)).trans rfl
              have f0 : a.tmps.getD 0 undef = .pointer (some ⟨gh, 0, none⟩) := e0
              have g0 : a.tmps[0]?.getD undef = .pointer (some ⟨gh, 0, none⟩) := by rw [← Array.getD_eq_getD_getElem?]; exact e0
              refine op_val (.pointer (some ⟨gh, 0, none⟩)) ?_ hC (Below.refl _ _) (by intro d hd; cases hd; rfl)
              (clear hV hI hC; go_simp <;> (first | rfl | simp | (rw [IntKind.wrap_i64]; omega)))
            case o42 =>
              intro Q a w2 hC hV hI
              have e41 : a.eval (.tmp 41) = .pointer (some ⟨gh, 0, none⟩) := hV 41 (by simp [Op.operands]) (by kernel_rfl)
              have f41 : a.tmps.getD 41 undef = .pointer (some ⟨gh, 0, none⟩) := e41
              have g41 : a.tmps[41]?.getD undef = .pointer (some ⟨gh, 0, none⟩) := by rw [← Array.getD_eq_getD_getElem?]; exact e41
              refine op_val (.pointer (some ⟨gh, 0, none⟩)) ?_ hC (Below.refl _ _) (by intro d hd; cases hd; rfl)
              (clear hV hI hC; go_simp <;> (first | rfl | simp | (rw [IntKind.wrap_i64]; omega)))
            case o43 =>
              intro Q a w2 hC hV hI
              have e42 : a.eval (.tmp 42) = .pointer (some ⟨gh, 0, none⟩) := hV 42 (by simp [Op.operands]) (by kernel_rfl)
              have f42 : a.tmps.getD 42 undef = .pointer (some ⟨gh, 0, none⟩) := e42
              have g42 : a.tmps[42]?.getD undef = .pointer (some ⟨gh, 0, none⟩) := by rw [← Array.getD_eq_getD_getElem?]; exact e42
              refine op_val (.pointer (some ⟨gh, 0, none⟩)) ?_ hC (Below.refl _ _) (by intro d hd; cases hd; rfl)
              (clear hV hI hC; go_simp <;> (first | rfl | simp | (rw [IntKind.wrap_i64]; omega)))
            case o44 =>
              intro Q a w2 hC hV hI
              have e43 : a.eval (.tmp 43) = .pointer (some ⟨gh, 0, none⟩) := hV 43 (by simp [Op.operands]) (by kernel_rfl)
              have f43 : a.tmps.getD 43 undef = .pointer (some ⟨gh, 0, none⟩) := e43
              have g43 : a.tmps[43]?.getD undef = .pointer (some ⟨gh, 0, none⟩) := by rw [← Array.getD_eq_getD_getElem?]; exact e43
              refine op_val (.pointer (some ⟨gh, 2, none⟩)) ?_ hC (Below.refl _ _) (by intro d hd; cases hd; rfl)
              (clear hV hI hC; go_simp <;> (first | rfl | simp | (rw [IntKind.wrap_i64]; omega)))
            case o45 =>
              intro Q a w2 hC hV hI
              have e40 : a.eval (.tmp 40) = .iface 50 (.pointer (some ⟨g, 0, none⟩)) := hV 40 (by simp [Op.operands]) (by kernel_rfl)
              have f40 : a.tmps.getD 40 undef = .iface 50 (.pointer (some ⟨g, 0, none⟩)) := e40
              have g40 : a.tmps[40]?.getD undef = .iface 50 (.pointer (some ⟨g, 0, none⟩)) := by rw [← Array.getD_eq_getD_getElem?]; exact e40
              refine op_val (.func (.method "loop.example/g00413/impl.short") #[.iface 50 (.pointer (some ⟨g, 0, none⟩))] #[]) ?_ hC (Below.refl _ _) (by intro d hd; cases hd; rfl)
              (clear hV hI hC; go_simp <;> (first | rfl | simp | (rw [IntKind.wrap_i64]; omega)))
            case o46 =>
              intro Q a w2 hC hV hI
              have e45 : a.eval (.tmp 45) = .func (.method "loop.example/g00413/impl.short") #[.iface 50 (.pointer (some ⟨g, 0, none⟩))] #[] := hV 45 (by simp [Op.operands]) (by kernel_rfl)
              have f45 : a.tmps.getD 45 undef = .func (.method "loop.example/g00413/impl.short") #[.iface 50 (.pointer (some ⟨g, 0, none⟩))] #[] := e45
              have g45 : a.tmps[45]?.getD undef = .func (.method "loop.example/g00413/impl.short") #[.iface 50 (.pointer (some ⟨g, 0, none⟩))] #[] := by rw [← Array.getD_eq_getD_getElem?]; exact e45
              refine op_val (.func (.method "loop.example/g00413/impl.short") #[.iface 50 (.pointer (some ⟨g, 0, none⟩))] #[]) ?_ hC (Below.refl _ _) (by intro d hd; cases hd; rfl)
              (clear hV hI hC; go_simp <;> (first | rfl | simp | (rw [IntKind.wrap_i64]; omega)))
            case o47 =>
              intro Q a w2 hC hV hI
              have e40 : a.eval (.tmp 40) = .iface 50 (.pointer (some ⟨g, 0, none⟩)) := hV 40 (by simp [Op.operands]) (by kernel_rfl)
              have f40 : a.tmps.getD 40 undef = .iface 50 (.pointer (some ⟨g, 0, none⟩)) := e40
              have g40 : a.tmps[40]?.getD undef = .iface 50 (.pointer (some ⟨g, 0, none⟩)) := by rw [← Array.getD_eq_getD_getElem?]; exact e40
              refine op_val (.iface 50 (.pointer (some ⟨g, 0, none⟩))) ?_ hC (Below.refl _ _) (by intro d hd; cases hd; rfl)
              (clear hV hI hC; go_simp <;> (first | rfl | simp | (rw [IntKind.wrap_i64]; omega)))
          case hend =>
            intro f v5 hC hall
            simp only [List.take_succ_cons, List.take_zero, List.drop_succ_cons, List.drop_zero] at hall ⊢
            simp only [List.forall_mem_cons] at hall
            obtain ⟨h40, h41, h42, h43, h44, h45, h46, h47, _⟩ := hall
            replace h40 : f 40 = .iface 50 (.pointer (some ⟨g, 0, none⟩)) := h40 40 rfl
            replace h41 : f 41 = .pointer (some ⟨gh, 0, none⟩) := h41 41 rfl
            replace h42 : f 42 = .pointer (some ⟨gh, 0, none⟩) := h42 42 rfl
            replace h43 : f 43 = .pointer (some ⟨gh, 0, none⟩) := h43 43 rfl
            replace h44 : f 44 = .pointer (some ⟨gh, 2, none⟩) := h44 44 rfl
            replace h45 : f 45 = .func (.method "loop.example/g00413/impl.short") #[.iface 50 (.pointer (some ⟨g, 0, none⟩))] #[] := h45 45 rfl
            replace h46 : f 46 = .func (.method "loop.example/g00413/impl.short") #[.iface 50 (.pointer (some ⟨g, 0, none⟩))] #[] := h46 46 rfl
            replace h47 : f 47 = .iface 50 (.pointer (some ⟨g, 0, none⟩)) := h47 47 rfl
            simp only [putAll, Act.put, List.setIfInBounds_toArray, List.set_cons_succ, List.set_cons_zero, h40, h41, h42, h43, h44, h45, h46, h47]
            clear h40 h41 h42 h43 h44 h45 h46 h47
            have W5 := Lib.hid (HW4.out.below hC)
            have H5 := Lib.hid ((hC.block gh (by have := HW4.out.lt; omega)).trans HH4.out)
            have C5 := Lib.hid (B4.out.trans (hC.mono (by have := HW4.out.lt; omega)))
            clear hC HW4 HH4 B4
            have hx5 : v5.cell? ⟨gh, 2, none⟩ = some (.int .i64 c.Uid) := by simp [World.cell?, H5.out]
            have q5 := Lib.hid (short_w g gh 2 hi l4 r4 c.Uid v5 W5.out (by omega) hx5)
            clear hx5
            go_wp2_with fail
            refine q5.out.mono ?_
            rintro e w5 ⟨rfl, hw, hb⟩
            obtain ⟨l5, hl⟩ : ∃ l : List UInt8, l = l4 ++ (put16v c.Uid hi).data.toList := ⟨_, rfl⟩
            obtain ⟨r5, hr⟩ : ∃ r : Bool, r = (r4 || !r16 c.Uid) := ⟨_, rfl⟩
            have z5 : l5.length = 10 := by rw [hl, List.length_append, ba_len, put16_size]; omega
            rw [← hl] at hw HL
            rw [← hr] at hw HR
            have HW5 := Lib.hid hw
            have HH5 := Lib.hid ((hb.block gh hgh).trans H5.out)
            have B5 := Lib.hid (C5.out.trans hb)
            clear hw hb hl hr H5 W5 C5 q5 z4
            go_upto_region 6 with fail
            refine wp_region_cut 8 (by kernel_rfl) (fun w' => Below w5.heap.size w5 w') (fun x y => Below x.heap.size x y) (fun dq vq _ => match dq with | 49 => vq = .iface 50 (.pointer (some ⟨g, 0, none⟩)) | 50 => vq = .pointer (some ⟨gh, 0, none⟩) | 51 => vq = .pointer (some ⟨gh, 0, none⟩) | 52 => vq = .pointer (some ⟨gh, 0, none⟩) | 53 => vq = .pointer (some ⟨gh, 3, none⟩) | 54 => vq = .func (.method "loop.example/g00413/impl.short") #[.iface 50 (.pointer (some ⟨g, 0, none⟩))] #[] | 55 => vq = .func (.method "loop.example/g00413/impl.short") #[.iface 50 (.pointer (some ⟨g, 0, none⟩))] #[] | 56 => vq = .iface 50 (.pointer (some ⟨g, 0, none⟩)) | _ => True) (by kernel_rfl) (by kernel_rfl) ((Below.refl _ _).drew) (fun _ _ _ _ _ _ h => h) (by simp) ?hops ?hend
            case hops =>
              simp only [List.take_succ_cons, List.take_zero, List.forall_mem_cons]
              refine ⟨?o49, ?o50, ?o51, ?o52, ?o53, ?o54, ?o55, ?o56, fun _ h => by cases h⟩
              case o49 =>
                intro Q a w2 hC hV hI
                have e1 : a.eval (.tmp 1) = .iface 50 (.pointer (some ⟨g, 0, none⟩)) := (hI 1 (by simp [Op.operands]) (by kernel_rfl)).trans rfl
                have f1 : a.tmps.getD 1 undef = .iface 50 (.pointer (some ⟨g, 0, none⟩)) := e1
                have g1 : a.tmps[1]?.getD undef = .iface 50 (.pointer (some ⟨g, 0, none⟩)) := by rw [← Array.getD_eq_getD_getElem?]; exact e1
                refine op_val (.iface 50 (.pointer (some ⟨g, 0, none⟩))) ?_ hC (Below.refl _ _) (by intro d hd; cases hd; rfl)
                (clear hV hI hC; go_simp <;> (first | rfl | simp | (rw [IntKind.wrap_i64]; omega)))
              case o50 =>
                intro Q a w2 hC hV hI
                have e0 : a.eval (.tmp 0) = .pointer (some ⟨gh, 0, none⟩) := (hI 0 (by simp [Op.operands]) (by kernel_rfl)).trans rfl
                have f0 : a.tmps.getD 0 undef = .pointer (some ⟨gh, 0, none⟩) := e0
                have g0 : a.tmps[0]?.getD undef = .pointer (some ⟨gh, 0, none⟩) := by rw [← Array.getD_eq_getD_getElem?]; exact e0
                refine op_val (.pointer (some ⟨gh, 0, none⟩)) ?_ hC (Below.refl _ _) (by intro d hd; cases hd; rfl)
                (clear hV hI hC; go_simp <;> (first | rfl | simp | (rw [IntKind.wrap_i64]; omega)))
              case o51 =>
                intro Q a w2 hC hV hI
                have e50 : a.eval (.tmp 50) = .pointer (some ⟨gh, 0, none⟩) := hV 50 (by simp [Op.operands]) (by kernel_rfl)
                have f50 : a.tmps.getD 50 undef = .pointer (some ⟨gh, 0, none⟩) := e50
                have g50 : a.tmps[50]?.getD undef = .pointer (some ⟨gh, 0, none⟩) := by rw [← Array.getD_eq_getD_getElem?]; exact e50
                refine op_val (.pointer (some ⟨gh, 0, none⟩)) ?_ hC (Below.refl _ _) (by intro d hd; cases hd; rfl)
                (clear hV hI hC; go_simp <;> (first | rfl | simp | (rw [IntKind.wrap_i64]; omega)))
              case o52 =>
                intro Q a w2 hC hV hI
                have e51 : a.eval (.tmp 51) = .pointer (some ⟨gh, 0, none⟩) := hV 51 (by simp [Op.operands]) (by kernel_rfl)
                have f51 : a.tmps.getD 51 undef = .pointer (some ⟨gh, 0, none⟩) := e51
                have g51 : a.tmps[51]?.getD undef = .pointer (some ⟨gh, 0, none⟩) := by rw [← Array.getD_eq_getD_getElem?]; exact e51
                refine op_val (.pointer (some ⟨gh, 0, none⟩)) ?_ hC (Below.refl _ _) (by intro d hd; cases hd; rfl)
                (clear hV hI hC; go_simp <;> (first | rfl | simp | (rw [IntKind.wrap_i64]; omega)))
              case o53 =>
                intro Q a w2 hC hV hI
                have e52 : a.eval (.tmp 52) = .pointer (some ⟨gh, 0, none⟩) := hV 52 (by simp [Op.operands]) (by kernel_rfl)
                have f52 : a.tmps.getD 52 undef = .pointer (some ⟨gh, 0, none⟩) := e52
                have g52 : a.tmps[52]?.getD undef = .pointer (some ⟨gh, 0, none⟩) := by rw [← Array.getD_eq_getD_getElem?]; exact e52
                refine op_val (.pointer (some ⟨gh, 3, none⟩)) ?_ hC (Below.refl _ _) (by intro d hd; cases hd; rfl)
                (clear hV hI hC; go_simp <;> (first | rfl | simp | (rw [IntKind.wrap_i64]; omega)))
              case o54 =>
                intro Q a w2 hC hV hI
                have e49 : a.eval (.tmp 49) = .iface 50 (.pointer (some ⟨g, 0, none⟩)) := hV 49 (by simp [Op.operands]) (by kernel_rfl)
                have f49 : a.tmps.getD 49 undef = .iface 50 (.pointer (some ⟨g, 0, none⟩)) := e49
                have g49 : a.tmps[49]?.getD undef = .iface 50 (.pointer (some ⟨g, 0, none⟩)) := by rw [← Array.getD_eq_getD_getElem?]; exact e49
                refine op_val (.func (.method "loop.example/g00413/impl.short") #[.iface 50 (.pointer (some ⟨g, 0, none⟩))] #[]) ?_ hC (Below.refl _ _) (by intro d hd; cases hd; rfl)
                (clear hV hI hC; go_simp <;> (first | rfl | simp | (rw [IntKind.wrap_i64]; omega)))
              case o55 =>
                intro Q a w2 hC hV hI
                have e54 : a.eval (.tmp 54) = .func (.method "loop.example/g00413/impl.short") #[.iface 50 (.pointer (some ⟨g, 0, none⟩))] #[] := hV 54 (by simp [Op.operands]) (by kernel_rfl)
                have f54 : a.tmps.getD 54 undef = .func (.method "loop.example/g00413/impl.short") #[.iface 50 (.pointer (some ⟨g, 0, none⟩))] #[] := e54
                have g54 : a.tmps[54]?.getD undef = .func (.method "loop.example/g00413/impl.short") #[.iface 50 (.pointer (some ⟨g, 0, none⟩))] #[] := by rw [← Array.getD_eq_getD_getElem?]; exact e54
                refine op_val (.func (.method "loop.example/g00413/impl.short") #[.iface 50 (.pointer (some ⟨g, 0, none⟩))] #[]) ?_ hC (Below.refl _ _) (by intro d hd; cases hd; rfl)
                (clear hV hI hC; go_simp <;> (first | rfl | simp | (rw [IntKind.wrap_i64]; omega)))
              case o56 =>
                intro Q a w2 hC hV hI
                have e49 : a.eval (.tmp 49) = .iface 50 (.pointer (some ⟨g, 0, none⟩)) := hV 49 (by simp [Op.operands]) (by kernel_rfl)
                have f49 : a.tmps.getD 49 undef = .iface 50 (.pointer (some ⟨g, 0, none⟩)) := e49
                have g49 : a.tmps[49]?.getD undef = .iface 50 (.pointer (some ⟨g, 0, none⟩)) := by rw [← Array.getD_eq_getD_getElem?]; exact e49
                refine op_val (.iface 50 (.pointer (some ⟨g, 0, none⟩))) ?_ hC (Below.refl _ _) (by intro d hd; cases hd; rfl)
                (clear hV hI hC; go_simp <;> (first | rfl | simp | (rw [IntKind.wrap_i64]; omega)))
            case hend =>
              intro f v6 hC hall
              simp only [List.take_succ_cons, List.take_zero, List.drop_succ_cons, List.drop_zero] at hall ⊢
              simp only [List.forall_mem_cons] at hall
              obtain ⟨h49, h50, h51, h52, h53, h54, h55, h56, _⟩ := hall
              replace h49 : f 49 = .iface 50 (.pointer (some ⟨g, 0, none⟩)) := h49 49 rfl
              replace h50 : f 50 = .pointer (some ⟨gh, 0, none⟩) := h50 50 rfl
              replace h51 : f 51 = .pointer (some ⟨gh, 0, none⟩) := h51 51 rfl
              replace h52 : f 52 = .pointer (some ⟨gh, 0, none⟩) := h52 52 rfl
              replace h53 : f 53 = .pointer (some ⟨gh, 3, none⟩) := h53 53 rfl
              replace h54 : f 54 = .func (.method "loop.example/g00413/impl.short") #[.iface 50 (.pointer (some ⟨g, 0, none⟩))] #[] := h54 54 rfl
              replace h55 : f 55 = .func (.method "loop.example/g00413/impl.short") #[.iface 50 (.pointer (some ⟨g, 0, none⟩))] #[] := h55 55 rfl
              replace h56 : f 56 = .iface 50 (.pointer (some ⟨g, 0, none⟩)) := h56 56 rfl
              simp only [putAll, Act.put, List.setIfInBounds_toArray, List.set_cons_succ, List.set_cons_zero, h49, h50, h51, h52, h53, h54, h55, h56]
              clear h49 h50 h51 h52 h53 h54 h55 h56
              have W6 := Lib.hid (HW5.out.below hC)
              have H6 := Lib.hid ((hC.block gh (by have := HW5.out.lt; omega)).trans HH5.out)
              have C6 := Lib.hid (B5.out.trans (hC.mono (by have := HW5.out.lt; omega)))
              clear hC HW5 HH5 B5
              have hx6 : v6.cell? ⟨gh, 3, none⟩ = some (.int .i64 c.Gid) := by simp [World.cell?, H6.out]
              have q6 := Lib.hid (short_w g gh 3 hi l5 r5 c.Gid v6 W6.out (by omega) hx6)
              clear hx6
              go_wp2_with fail
              refine q6.out.mono ?_
              rintro e w6 ⟨rfl, hw, hb⟩
              obtain ⟨l6, hl⟩ : ∃ l : List UInt8, l = l5 ++ (put16v c.Gid hi).data.toList := ⟨_, rfl⟩
              obtain ⟨r6, hr⟩ : ∃ r : Bool, r = (r5 || !r16 c.Gid) := ⟨_, rfl⟩
              have z6 : l6.length = 12 := by rw [hl, List.length_append, ba_len, put16_size]; omega
              rw [← hl] at hw HL
              rw [← hr] at hw HR
              have HW6 := Lib.hid hw
              have HH6 := Lib.hid ((hb.block gh hgh).trans H6.out)
              have B6 := Lib.hid (C6.out.trans hb)
              clear hw hb hl hr H6 W6 C6 q6 z5
              go_upto_region 7 with fail
              refine wp_region_cut 8 (by kernel_rfl) (fun w' => Below w6.heap.size w6 w') (fun x y => Below x.heap.size x y) (fun dq vq _ => match dq with | 58 => vq = .iface 50 (.pointer (some ⟨g, 0, none⟩)) | 59 => vq = .pointer (some ⟨gh, 0, none⟩) | 60 => vq = .pointer (some ⟨gh, 0, none⟩) | 61 => vq = .pointer (some ⟨gh, 0, none⟩) | 62 => vq = .pointer (some ⟨gh, 4, none⟩) | 63 => vq = .func (.method "loop.example/g00413/impl.short") #[.iface 50 (.pointer (some ⟨g, 0, none⟩))] #[] | 64 => vq = .func (.method "loop.example/g00413/impl.short") #[.iface 50 (.pointer (some ⟨g, 0, none⟩))] #[] | 65 => vq = .iface 50 (.pointer (some ⟨g, 0, none⟩)) | _ => True) (by kernel_rfl) (by kernel_rfl) ((Below.refl _ _).drew) (fun _ _ _ _ _ _ h => h) (by simp) ?hops ?hend
              case hops =>
                simp only [List.take_succ_cons, List.take_zero, List.forall_mem_cons]
                refine ⟨?o58, ?o59, ?o60, ?o61, ?o62, ?o63, ?o64, ?o65, fun _ h => by cases h⟩
                case o58 =>
                  intro Q a w2 hC hV hI
                  have e1 : a.eval (.tmp 1) = .iface 50 (.pointer (some ⟨g, 0, none⟩)) := (hI 1 (by simp [Op.operands]) (by kernel_rfl)).trans rfl
                  have f1 : a.tmps.getD 1 undef = .iface 50 (.pointer (some ⟨g, 0, none⟩)) := e1
                  have g1 : a.tmps[1]?.getD undef = .iface 50 (.pointer (some ⟨g, 0, none⟩)) := by rw [← Array.getD_eq_getD_getElem?]; exact e1
                  refine op_val (.iface 50 (.pointer (some ⟨g, 0, none⟩))) ?_ hC (Below.refl _ _) (by intro d hd; cases hd; rfl)
                  (clear hV hI hC; go_simp <;> (first | rfl | simp | (rw [IntKind.wrap_i64]; omega)))
                case o59 =>
                  intro Q a w2 hC hV hI
                  have e0 : a.eval (.tmp 0) = .pointer (some ⟨gh, 0, none⟩) := (hI 0 (by simp [Op.operands]) (by kernel_rfl)).trans rfl
                  have f0 : a.tmps.getD 0 undef = .pointer (some ⟨gh, 0, none⟩) := e0
                  have g0 : a.tmps[0]?.getD undef = .pointer (some ⟨gh, 0, none⟩) := by rw [← Array.getD_eq_getD_getElem?]; exact e0
                  refine op_val (.pointer (some ⟨gh, 0, none⟩)) ?_ hC (Below.refl _ _) (by intro d hd; cases hd; rfl)
                  (clear hV hI hC; go_simp <;> (first | rfl | simp | (rw [IntKind.wrap_i64]; omega)))
                case o60 =>
                  intro Q a w2 hC hV hI
                  have e59 : a.eval (.tmp 59) = .pointer (some ⟨gh, 0, none⟩) := hV 59 (by simp [Op.operands]) (by kernel_rfl)
                  have f59 : a.tmps.getD 59 undef = .pointer (some ⟨gh, 0, none⟩) := e59
                  have g59 : a.tmps[59]?.getD undef = .pointer (some ⟨gh, 0, none⟩) := by rw [← Array.getD_eq_getD_getElem?]; exact e59
                  refine op_val (.pointer (some ⟨gh, 0, none⟩)) ?_ hC (Below.refl _ _) (by intro d hd; cases hd; rfl)
                  (clear hV hI hC; go_simp <;> (first | rfl | simp | (rw [IntKind.wrap_i64]; omega)))
                case o61 =>
                  intro Q a w2 hC hV hI
                  have e60 : a.eval (.tmp 60) = .pointer (some ⟨gh, 0, none⟩) := hV 60 (by simp [Op.operands]) (by kernel_rfl)
                  have f60 : a.tmps.getD 60 undef = .pointer (some ⟨gh, 0, none⟩) := e60
                  have g60 : a.tmps[60]?.getD undef = .pointer (some ⟨gh, 0, none⟩) := by rw [← Array.getD_eq_getD_getElem?]; exact e60
                  refine op_val (.pointer (some ⟨gh, 0, none⟩)) ?_ hC (Below.refl _ _) (by intro d hd; cases hd; rfl)
                  (clear hV hI hC; go_simp <;> (first | rfl | simp | (rw [IntKind.wrap_i64]; omega)))
                case o62 =>
                  intro Q a w2 hC hV hI
                  have e61 : a.eval (.tmp 61) = .pointer (some ⟨gh, 0, none⟩) := hV 61 (by simp [Op.operands]) (by kernel_rfl)
                  have f61 : a.tmps.getD 61 undef = .pointer (some ⟨gh, 0, none⟩) := e61
                  have g61 : a.tmps[61]?.getD undef = .pointer (some ⟨gh, 0, none⟩) := by rw [← Array.getD_eq_getD_getElem?]; exact e61
                  refine op_val (.pointer (some ⟨gh, 4, none⟩)) ?_ hC (Below.refl _ _) (by intro d hd; cases hd; rfl)
                  (clear hV hI hC; go_simp <;> (first | rfl | simp | (rw [IntKind.wrap_i64]; omega)))
                case o63 =>
                  intro Q a w2 hC hV hI
                  have e58 : a.eval (.tmp 58) = .iface 50 (.pointer (some ⟨g, 0, none⟩)) := hV 58 (by simp [Op.operands]) (by kernel_rfl)
                  have f58 : a.tmps.getD 58 undef = .iface 50 (.pointer (some ⟨g, 0, none⟩)) := e58
                  have g58 : a.tmps[58]?.getD undef = .iface 50 (.pointer (some ⟨g, 0, none⟩)) := by rw [← Array.getD_eq_getD_getElem?]; exact e58
                  refine op_val (.func (.method "loop.example/g00413/impl.short") #[.iface 50 (.pointer (some ⟨g, 0, none⟩))] #[]) ?_ hC (Below.refl _ _) (by intro d hd; cases hd; rfl)
                  (clear hV hI hC; go_simp <;> (first | rfl | simp | (rw [IntKind.wrap_i64]; omega)))
                case o64 =>
                  intro Q a w2 hC hV hI
                  have e63 : a.eval (.tmp 63) = .func (.method "loop.example/g00413/impl.short") #[.iface 50 (.pointer (some ⟨g, 0, none⟩))] #[] := hV 63 (by simp [Op.operands]) (by kernel_rfl)
                  have f63 : a.tmps.getD 63 undef = .func (.method "loop.example/g00413/impl.short") #[.iface 50 (.pointer (some ⟨g, 0, none⟩))] #[] := e63
                  have g63 : a.tmps[63]?.getD undef = .func (.method "loop.example/g00413/impl.short") #[.iface 50 (.pointer (some ⟨g, 0, none⟩))] #[] := by rw [← Array.getD_eq_getD_getElem?]; exact e63
                  refine op_val (.func (.method "loop.example/g00413/impl.short") #[.iface 50 (.pointer (some ⟨g, 0, none⟩))] #[]) ?_ hC (Below.refl _ _) (by intro d hd; cases hd; rfl)
                  (clear hV hI hC; go_simp <;> (first | rfl | simp | (rw [IntKind.wrap_i64]; omega)))
                case o65 =>
                  intro Q a w2 hC hV hI
                  have e58 : a.eval (.tmp 58) = .iface 50 (.pointer (some ⟨g, 0, none⟩)) := hV 58 (by simp [Op.operands]) (by kernel_rfl)
                  have f58 : a.tmps.getD 58 undef = .iface 50 (.pointer (some ⟨g, 0, none⟩)) := e58
                  have g58 : a.tmps[58]?.getD undef = .iface 50 (.pointer (some ⟨g, 0, none⟩)) := by rw [← Array.getD_eq_getD_getElem?]; exact e58
                  refine op_val (.iface 50 (.pointer (some ⟨g, 0, none⟩))) ?_ hC (Below.refl _ _) (by intro d hd; cases hd; rfl)
                  (clear hV hI hC; go_simp <;> (first | rfl | simp | (rw [IntKind.wrap_i64]; omega)))
              case hend =>
                intro f v7 hC hall
                simp only [List.take_succ_cons, List.take_zero, List.drop_succ_cons, List.drop_zero] at hall ⊢
                simp only [List.forall_mem_cons] at hall
                obtain ⟨h58, h59, h60, h61, h62, h63, h64, h65, _⟩ := hall
                replace h58 : f 58 = .iface 50 (.pointer (some ⟨g, 0, none⟩)) := h58 58 rfl
                replace h59 : f 59 = .pointer (some ⟨gh, 0, none⟩) := h59 59 rfl
                replace h60 : f 60 = .pointer (some ⟨gh, 0, none⟩) := h60 60 rfl
                replace h61 : f 61 = .pointer (some ⟨gh, 0, none⟩) := h61 61 rfl
                replace h62 : f 62 = .pointer (some ⟨gh, 4, none⟩) := h62 62 rfl
                replace h63 : f 63 = .func (.method "loop.example/g00413/impl.short") #[.iface 50 (.pointer (some ⟨g, 0, none⟩))] #[] := h63 63 rfl
                replace h64 : f 64 = .func (.method "loop.example/g00413/impl.short") #[.iface 50 (.pointer (some ⟨g, 0, none⟩))] #[] := h64 64 rfl
                replace h65 : f 65 = .iface 50 (.pointer (some ⟨g, 0, none⟩)) := h65 65 rfl
                simp only [putAll, Act.put, List.setIfInBounds_toArray, List.set_cons_succ, List.set_cons_zero, h58, h59, h60, h61, h62, h63, h64, h65]
                clear h58 h59 h60 h61 h62 h63 h64 h65
                have W7 := Lib.hid (HW6.out.below hC)
                have H7 := Lib.hid ((hC.block gh (by have := HW6.out.lt; omega)).trans HH6.out)
                have C7 := Lib.hid (B6.out.trans (hC.mono (by have := HW6.out.lt; omega)))
                clear hC HW6 HH6 B6
                have hx7 : v7.cell? ⟨gh, 4, none⟩ = some (.int .i64 c.Count) := by simp [World.cell?, H7.out]
                have q7 := Lib.hid (short_w g gh 4 hi l6 r6 c.Count v7 W7.out (by omega) hx7)
                clear hx7
                go_wp2_with fail
                refine q7.out.mono ?_
                rintro e w7 ⟨rfl, hw, hb⟩
                obtain ⟨l7, hl⟩ : ∃ l : List UInt8, l = l6 ++ (put16v c.Count hi).data.toList := ⟨_, rfl⟩
                obtain ⟨r7, hr⟩ : ∃ r : Bool, r = (r6 || !r16 c.Count) := ⟨_, rfl⟩
                have z7 : l7.length = 14 := by rw [hl, List.length_append, ba_len, put16_size]; omega
                rw [← hl] at hw HL
                rw [← hr] at hw HR
                have HW7 := Lib.hid hw
                have HH7 := Lib.hid ((hb.block gh hgh).trans H7.out)
                have B7 := Lib.hid (C7.out.trans hb)
                clear hw hb hl hr H7 W7 C7 q7 z6
                go_upto_region 8 with fail
                refine wp_region_cut 8 (by kernel_rfl) (fun w' => Below w7.heap.size w7 w') (fun x y => Below x.heap.size x y) (fun dq vq _ => match dq with | 67 => vq = .iface 50 (.pointer (some ⟨g, 0, none⟩)) | 68 => vq = .pointer (some ⟨gh, 0, none⟩) | 69 => vq = .pointer (some ⟨gh, 0, none⟩) | 70 => vq = .pointer (some ⟨gh, 9, none⟩) | 71 => vq = .pointer (some ⟨gh, 10, none⟩) | 72 => vq = .func (.method "loop.example/g00413/impl.short") #[.iface 50 (.pointer (some ⟨g, 0, none⟩))] #[] | 73 => vq = .func (.method "loop.example/g00413/impl.short") #[.iface 50 (.pointer (some ⟨g, 0, none⟩))] #[] | 74 => vq = .iface 50 (.pointer (some ⟨g, 0, none⟩)) | _ => True) (by kernel_rfl) (by kernel_rfl) ((Below.refl _ _).drew) (fun _ _ _ _ _ _ h => h) (by simp) ?hops ?hend
                case hops =>
                  simp only [List.take_succ_cons, List.take_zero, List.forall_mem_cons]
                  refine ⟨?o67, ?o68, ?o69, ?o70, ?o71, ?o72, ?o73, ?o74, fun _ h => by cases h⟩
                  case o67 =>
                    intro Q a w2 hC hV hI
                    have e1 : a.eval (.tmp 1) = .iface 50 (.pointer (some ⟨g, 0, none⟩)) := (hI 1 (by simp [Op.operands]) (by kernel_rfl)).trans rfl
                    have f1 : a.tmps.getD 1 undef = .iface 50 (.pointer (some ⟨g, 0, none⟩)) := e1
                    have g1 : a.tmps[1]?.getD undef = .iface 50 (.pointer (some ⟨g, 0, none⟩)) := by rw [← Array.getD_eq_getD_getElem?]; exact e1
                    refine op_val (.iface 50 (.pointer (some ⟨g, 0, none⟩))) ?_ hC (Below.refl _ _) (by intro d hd; cases hd; rfl)
                    (clear hV hI hC; go_simp <;> (first | rfl | simp | (rw [IntKind.wrap_i64]; omega)))
                  case o68 =>
                    intro Q a w2 hC hV hI
                    have e0 : a.eval (.tmp 0) = .pointer (some ⟨gh, 0, none⟩) := (hI 0 (by simp [Op.operands]) (by kernel_rfl)).trans rfl
                    have f0 : a.tmps.getD 0 undef = .pointer (some ⟨gh, 0, none⟩) := e0
                    have g0 : a.tmps[0]?.getD undef = .pointer (some ⟨gh, 0, none⟩) := by rw [← Array.getD_eq_getD_getElem?]; exact e0
                    refine op_val (.pointer (some ⟨gh, 0, none⟩)) ?_ hC (Below.refl _ _) (by intro d hd; cases hd; rfl)
                    (clear hV hI hC; go_simp <;> (first | rfl | simp | (rw [IntKind.wrap_i64]; omega)))
                  case o69 =>
                    intro Q a w2 hC hV hI
                    have e68 : a.eval (.tmp 68) = .pointer (some ⟨gh, 0, none⟩) := hV 68 (by simp [Op.operands]) (by kernel_rfl)
                    have f68 : a.tmps.getD 68 undef = .pointer (some ⟨gh, 0, none⟩) := e68
                    have g68 : a.tmps[68]?.getD undef = .pointer (some ⟨gh, 0, none⟩) := by rw [← Array.getD_eq_getD_getElem?]; exact e68
                    refine op_val (.pointer (some ⟨gh, 0, none⟩)) ?_ hC (Below.refl _ _) (by intro d hd; cases hd; rfl)
                    (clear hV hI hC; go_simp <;> (first | rfl | simp | (rw [IntKind.wrap_i64]; omega)))
                  case o70 =>
                    intro Q a w2 hC hV hI
                    have e69 : a.eval (.tmp 69) = .pointer (some ⟨gh, 0, none⟩) := hV 69 (by simp [Op.operands]) (by kernel_rfl)
                    have f69 : a.tmps.getD 69 undef = .pointer (some ⟨gh, 0, none⟩) := e69
                    have g69 : a.tmps[69]?.getD undef = .pointer (some ⟨gh, 0, none⟩) := by rw [← Array.getD_eq_getD_getElem?]; exact e69
                    refine op_val (.pointer (some ⟨gh, 9, none⟩)) ?_ hC (Below.refl _ _) (by intro d hd; cases hd; rfl)
                    (clear hV hI hC; go_simp <;> (first | rfl | simp | (rw [IntKind.wrap_i64]; omega)))
                  case o71 =>
                    intro Q a w2 hC hV hI
                    have e70 : a.eval (.tmp 70) = .pointer (some ⟨gh, 9, none⟩) := hV 70 (by simp [Op.operands]) (by kernel_rfl)
                    have f70 : a.tmps.getD 70 undef = .pointer (some ⟨gh, 9, none⟩) := e70
                    have g70 : a.tmps[70]?.getD undef = .pointer (some ⟨gh, 9, none⟩) := by rw [← Array.getD_eq_getD_getElem?]; exact e70
                    refine op_val (.pointer (some ⟨gh, 10, none⟩)) ?_ hC (Below.refl _ _) (by intro d hd; cases hd; rfl)
                    (clear hV hI hC; go_simp <;> (first | rfl | simp | (rw [IntKind.wrap_i64]; omega)))
                  case o72 =>
                    intro Q a w2 hC hV hI
                    have e67 : a.eval (.tmp 67) = .iface 50 (.pointer (some ⟨g, 0, none⟩)) := hV 67 (by simp [Op.operands]) (by kernel_rfl)
                    have f67 : a.tmps.getD 67 undef = .iface 50 (.pointer (some ⟨g, 0, none⟩)) := e67
                    have g67 : a.tmps[67]?.getD undef = .iface 50 (.pointer (some ⟨g, 0, none⟩)) := by rw [← Array.getD_eq_getD_getElem?]; exact e67
                    refine op_val (.func (.method "loop.example/g00413/impl.short") #[.iface 50 (.pointer (some ⟨g, 0, none⟩))] #[]) ?_ hC (Below.refl _ _) (by intro d hd; cases hd; rfl)
                    (clear hV hI hC; go_simp <;> (first | rfl | simp | (rw [IntKind.wrap_i64]; omega)))
                  case o73 =>
                    intro Q a w2 hC hV hI
                    have e72 : a.eval (.tmp 72) = .func (.method "loop.example/g00413/impl.short") #[.iface 50 (.pointer (some ⟨g, 0, none⟩))] #[] := hV 72 (by simp [Op.operands]) (by kernel_rfl)
                    have f72 : a.tmps.getD 72 undef = .func (.method "loop.example/g00413/impl.short") #[.iface 50 (.pointer (some ⟨g, 0, none⟩))] #[] := e72
                    have g72 : a.tmps[72]?.getD undef = .func (.method "loop.example/g00413/impl.short") #[.iface 50 (.pointer (some ⟨g, 0, none⟩))] #[] := by rw [← Array.getD_eq_getD_getElem?]; exact e72
                    refine op_val (.func (.method "loop.example/g00413/impl.short") #[.iface 50 (.pointer (some ⟨g, 0, none⟩))] #[]) ?_ hC (Below.refl _ _) (by intro d hd; cases hd; rfl)
                    (clear hV hI hC; go_simp <;> (first | rfl | simp | (rw [IntKind.wrap_i64]; omega)))
                  case o74 =>
                    intro Q a w2 hC hV hI
                    have e67 : a.eval (.tmp 67) = .iface 50 (.pointer (some ⟨g, 0, none⟩)) := hV 67 (by simp [Op.operands]) (by kernel_rfl)
                    have f67 : a.tmps.getD 67 undef = .iface 50 (.pointer (some ⟨g, 0, none⟩)) := e67
                    have g67 : a.tmps[67]?.getD undef = .iface 50 (.pointer (some ⟨g, 0, none⟩)) := by rw [← Array.getD_eq_getD_getElem?]; exact e67
                    refine op_val (.iface 50 (.pointer (some ⟨g, 0, none⟩))) ?_ hC (Below.refl _ _) (by intro d hd; cases hd; rfl)
                    (clear hV hI hC; go_simp <;> (first | rfl | simp | (rw [IntKind.wrap_i64]; omega)))
                case hend =>
                  intro f v8 hC hall
                  simp only [List.take_succ_cons, List.take_zero, List.drop_succ_cons, List.drop_zero] at hall ⊢
                  simp only [List.forall_mem_cons] at hall
                  obtain ⟨h67, h68, h69, h70, h71, h72, h73, h74, _⟩ := hall
                  replace h67 : f 67 = .iface 50 (.pointer (some ⟨g, 0, none⟩)) := h67 67 rfl
                  replace h68 : f 68 = .pointer (some ⟨gh, 0, none⟩) := h68 68 rfl
                  replace h69 : f 69 = .pointer (some ⟨gh, 0, none⟩) := h69 69 rfl
                  replace h70 : f 70 = .pointer (some ⟨gh, 9, none⟩) := h70 70 rfl
                  replace h71 : f 71 = .pointer (some ⟨gh, 10, none⟩) := h71 71 rfl
                  replace h72 : f 72 = .func (.method "loop.example/g00413/impl.short") #[.iface 50 (.pointer (some ⟨g, 0, none⟩))] #[] := h72 72 rfl
                  replace h73 : f 73 = .func (.method "loop.example/g00413/impl.short") #[.iface 50 (.pointer (some ⟨g, 0, none⟩))] #[] := h73 73 rfl
                  replace h74 : f 74 = .iface 50 (.pointer (some ⟨g, 0, none⟩)) := h74 74 rfl
                  simp only [putAll, Act.put, List.setIfInBounds_toArray, List.set_cons_succ, List.set_cons_zero, h67, h68, h69, h70, h71, h72, h73, h74]
                  clear h67 h68 h69 h70 h71 h72 h73 h74
                  have W8 := Lib.hid (HW7.out.below hC)
                  have H8 := Lib.hid ((hC.block gh (by have := HW7.out.lt; omega)).trans HH7.out)
                  have C8 := Lib.hid (B7.out.trans (hC.mono (by have := HW7.out.lt; omega)))
                  clear hC HW7 HH7 B7
                  have hx8 : v8.cell? ⟨gh, 10, none⟩ = some (.int .i64 0) := by simp [World.cell?, H8.out]
                  have q8 := Lib.hid (short_w g gh 10 hi l7 r7 0 v8 W8.out (by omega) hx8)
                  clear hx8
                  go_wp2_with fail
                  refine q8.out.mono ?_
                  rintro e w8 ⟨rfl, hw, hb⟩
                  obtain ⟨l8, hl⟩ : ∃ l : List UInt8, l = l7 ++ (put16v 0 hi).data.toList := ⟨_, rfl⟩
                  obtain ⟨r8, hr⟩ : ∃ r : Bool, r = (r7 || !r16 0) := ⟨_, rfl⟩
                  have z8 : l8.length = 16 := by rw [hl, List.length_append, ba_len, put16_size]; omega
                  rw [← hl] at hw HL
                  rw [← hr] at hw HR
                  have HW8 := Lib.hid hw
                  have HH8 := Lib.hid ((hb.block gh hgh).trans H8.out)
                  have B8 := Lib.hid (C8.out.trans hb)
                  clear hw hb hl hr H8 W8 C8 q8 z7
                  go_upto_region 9 with fail
                  refine wp_region_cut 8 (by kernel_rfl) (fun w' => Below w8.heap.size w8 w') (fun x y => Below x.heap.size x y) (fun dq vq _ => match dq with | 76 => vq = .iface 50 (.pointer (some ⟨g, 0, none⟩)) | 77 => vq = .pointer (some ⟨gh, 0, none⟩) | 78 => vq = .pointer (some ⟨gh, 0, none⟩) | 79 => vq = .pointer (some ⟨gh, 0, none⟩) | 80 => vq = .pointer (some ⟨gh, 5, none⟩) | 81 => vq = .func (.method "loop.example/g00413/impl.long") #[.iface 50 (.pointer (some ⟨g, 0, none⟩))] #[] | 82 => vq = .func (.method "loop.example/g00413/impl.long") #[.iface 50 (.pointer (some ⟨g, 0, none⟩))] #[] | 83 => vq = .iface 50 (.pointer (some ⟨g, 0, none⟩)) | _ => True) (by kernel_rfl) (by kernel_rfl) ((Below.refl _ _).drew) (fun _ _ _ _ _ _ h => h) (by simp) ?hops ?hend
                  case hops =>
                    simp only [List.take_succ_cons, List.take_zero, List.forall_mem_cons]
                    refine ⟨?o76, ?o77, ?o78, ?o79, ?o80, ?o81, ?o82, ?o83, fun _ h => by cases h⟩
                    case o76 =>
                      intro Q a w2 hC hV hI
                      have e1 : a.eval (.tmp 1) = .iface 50 (.pointer (some ⟨g, 0, none⟩)) := (hI 1 (by simp [Op.operands]) (by kernel_rfl)).trans rfl
                      have f1 : a.tmps.getD 1 undef = .iface 50 (.pointer (some ⟨g, 0, none⟩)) := e1
                      have g1 : a.tmps[1]?.getD undef = .iface 50 (.pointer (some ⟨g, 0, none⟩)) := by rw [← Array.getD_eq_getD_getElem?]; exact e1
                      refine op_val (.iface 50 (.pointer (some ⟨g, 0, none⟩))) ?_ hC (Below.refl _ _) (by intro d hd; cases hd; rfl)
                      (clear hV hI hC; go_simp <;> (first | rfl | simp | (rw [IntKind.wrap_i64]; omega)))
                    case o77 =>
                      intro Q a w2 hC hV hI
                      have e0 : a.eval (.tmp 0) = .pointer (some ⟨gh, 0, none⟩) := (hI 0 (by simp [Op.operands]) (by kernel_rfl)).trans rfl
                      have f0 : a.tmps.getD 0 undef = .pointer (some ⟨gh, 0, none⟩) := e0
                      have g0 : a.tmps[0]?.getD undef = .pointer (some ⟨gh, 0, none⟩) := by rw [← Array.getD_eq_getD_getElem?]; exact e0
                      refine op_val (.pointer (some ⟨gh, 0, none⟩)) ?_ hC (Below.refl _ _) (by intro d hd; cases hd; rfl)
                      (clear hV hI hC; go_simp <;> (first | rfl | simp | (rw [IntKind.wrap_i64]; omega)))
                    case o78 =>
                      intro Q a w2 hC hV hI
                      have e77 : a.eval (.tmp 77) = .pointer (some ⟨gh, 0, none⟩) := hV 77 (by simp [Op.operands]) (by kernel_rfl)
                      have f77 : a.tmps.getD 77 undef = .pointer (some ⟨gh, 0, none⟩) := e77
                      have g77 : a.tmps[77]?.getD undef = .pointer (some ⟨gh, 0, none⟩) := by rw [← Array.getD_eq_getD_getElem?]; exact e77
                      refine op_val (.pointer (some ⟨gh, 0, none⟩)) ?_ hC (Below.refl _ _) (by intro d hd; cases hd; rfl)
                      (clear hV hI hC; go_simp <;> (first | rfl | simp | (rw [IntKind.wrap_i64]; omega)))
                    case o79 =>
                      intro Q a w2 hC hV hI
                      have e78 : a.eval (.tmp 78) = .pointer (some ⟨gh, 0, none⟩) := hV 78 (by simp [Op.operands]) (by kernel_rfl)
                      have f78 : a.tmps.getD 78 undef = .pointer (some ⟨gh, 0, none⟩) := e78
                      have g78 : a.tmps[78]?.getD undef = .pointer (some ⟨gh, 0, none⟩) := by rw [← Array.getD_eq_getD_getElem?]; exact e78
                      refine op_val (.pointer (some ⟨gh, 0, none⟩)) ?_ hC (Below.refl _ _) (by intro d hd; cases hd; rfl)
                      (clear hV hI hC; go_simp <;> (first | rfl | simp | (rw [IntKind.wrap_i64]; omega)))
                    case o80 =>
                      intro Q a w2 hC hV hI
                      have e79 : a.eval (.tmp 79) = .pointer (some ⟨gh, 0, none⟩) := hV 79 (by simp [Op.operands]) (by kernel_rfl)
                      have f79 : a.tmps.getD 79 undef = .pointer (some ⟨gh, 0, none⟩) := e79
                      have g79 : a.tmps[79]?.getD undef = .pointer (some ⟨gh, 0, none⟩) := by rw [← Array.getD_eq_getD_getElem?]; exact e79
                      refine op_val (.pointer (some ⟨gh, 5, none⟩)) ?_ hC (Below.refl _ _) (by intro d hd; cases hd; rfl)
                      (clear hV hI hC; go_simp <;> (first | rfl | simp | (rw [IntKind.wrap_i64]; omega)))
                    case o81 =>
                      intro Q a w2 hC hV hI
                      have e76 : a.eval (.tmp 76) = .iface 50 (.pointer (some ⟨g, 0, none⟩)) := hV 76 (by simp [Op.operands]) (by kernel_rfl)
                      have f76 : a.tmps.getD 76 undef = .iface 50 (.pointer (some ⟨g, 0, none⟩)) := e76
                      have g76 : a.tmps[76]?.getD undef = .iface 50 (.pointer (some ⟨g, 0, none⟩)) := by rw [← Array.getD_eq_getD_getElem?]; exact e76
                      refine op_val (.func (.method "loop.example/g00413/impl.long") #[.iface 50 (.pointer (some ⟨g, 0, none⟩))] #[]) ?_ hC (Below.refl _ _) (by intro d hd; cases hd; rfl)
                      (clear hV hI hC; go_simp <;> (first | rfl | simp | (rw [IntKind.wrap_i64]; omega)))
                    case o82 =>
                      intro Q a w2 hC hV hI
                      have e81 : a.eval (.tmp 81) = .func (.method "loop.example/g00413/impl.long") #[.iface 50 (.pointer (some ⟨g, 0, none⟩))] #[] := hV 81 (by simp [Op.operands]) (by kernel_rfl)
                      have f81 : a.tmps.getD 81 undef = .func (.method "loop.example/g00413/impl.long") #[.iface 50 (.pointer (some ⟨g, 0, none⟩))] #[] := e81
                      have g81 : a.tmps[81]?.getD undef = .func (.method "loop.example/g00413/impl.long") #[.iface 50 (.pointer (some ⟨g, 0, none⟩))] #[] := by rw [← Array.getD_eq_getD_getElem?]; exact e81
                      refine op_val (.func (.method "loop.example/g00413/impl.long") #[.iface 50 (.pointer (some ⟨g, 0, none⟩))] #[]) ?_ hC (Below.refl _ _) (by intro d hd; cases hd; rfl)
                      (clear hV hI hC; go_simp <;> (first | rfl | simp | (rw [IntKind.wrap_i64]; omega)))
                    case o83 =>
                      intro Q a w2 hC hV hI
                      have e76 : a.eval (.tmp 76) = .iface 50 (.pointer (some ⟨g, 0, none⟩)) := hV 76 (by simp [Op.operands]) (by kernel_rfl)
                      have f76 : a.tmps.getD 76 undef = .iface 50 (.pointer (some ⟨g, 0, none⟩)) := e76
                      have g76 : a.tmps[76]?.getD undef = .iface 50 (.pointer (some ⟨g, 0, none⟩)) := by rw [← Array.getD_eq_getD_getElem?]; exact e76
                      refine op_val (.iface 50 (.pointer (some ⟨g, 0, none⟩))) ?_ hC (Below.refl _ _) (by intro d hd; cases hd; rfl)
                      (clear hV hI hC; go_simp <;> (first | rfl | simp | (rw [IntKind.wrap_i64]; omega)))
                  case hend =>
                    intro f v9 hC hall
                    simp only [List.take_succ_cons, List.take_zero, List.drop_succ_cons, List.drop_zero] at hall ⊢
                    simp only [List.forall_mem_cons] at hall
                    obtain ⟨h76, h77, h78, h79, h80, h81, h82, h83, _⟩ := hall
                    replace h76 : f 76 = .iface 50 (.pointer (some ⟨g, 0, none⟩)) := h76 76 rfl
                    replace h77 : f 77 = .pointer (some ⟨gh, 0, none⟩) := h77 77 rfl
                    replace h78 : f 78 = .pointer (some ⟨gh, 0, none⟩) := h78 78 rfl
                    replace h79 : f 79 = .pointer (some ⟨gh, 0, none⟩) := h79 79 rfl
                    replace h80 : f 80 = .pointer (some ⟨gh, 5, none⟩) := h80 80 rfl
                    replace h81 : f 81 = .func (.method "loop.example/g00413/impl.long") #[.iface 50 (.pointer (some ⟨g, 0, none⟩))] #[] := h81 81 rfl
                    replace h82 : f 82 = .func (.method "loop.example/g00413/impl.long") #[.iface 50 (.pointer (some ⟨g, 0, none⟩))] #[] := h82 82 rfl
                    replace h83 : f 83 = .iface 50 (.pointer (some ⟨g, 0, none⟩)) := h83 83 rfl
                    simp only [putAll, Act.put, List.setIfInBounds_toArray, List.set_cons_succ, List.set_cons_zero, h76, h77, h78, h79, h80, h81, h82, h83]
                    clear h76 h77 h78 h79 h80 h81 h82 h83
                    have W9 := Lib.hid (HW8.out.below hC)
                    have H9 := Lib.hid ((hC.block gh (by have := HW8.out.lt; omega)).trans HH8.out)
                    have C9 := Lib.hid (B8.out.trans (hC.mono (by have := HW8.out.lt; omega)))
                    clear hC HW8 HH8 B8
                    have hx9 : v9.cell? ⟨gh, 5, none⟩ = some (.int .i64 c.Time) := by simp [World.cell?, H9.out]
                    have q9 := Lib.hid (long_w g gh 5 hi l8 r8 c.Time v9 W9.out (by omega) hx9)
                    clear hx9
                    go_wp2_with fail
                    refine q9.out.mono ?_
                    rintro e w9 ⟨rfl, hw, hb⟩
                    obtain ⟨l9, hl⟩ : ∃ l : List UInt8, l = l8 ++ (put32v c.Time hi).data.toList := ⟨_, rfl⟩
                    obtain ⟨r9, hr⟩ : ∃ r : Bool, r = (r8 || !r32 c.Time) := ⟨_, rfl⟩
                    have z9 : l9.length = 20 := by rw [hl, List.length_append, ba_len, put32_size]; omega
                    rw [← hl] at hw HL
                    rw [← hr] at hw HR
                    have HW9 := Lib.hid hw
                    have HH9 := Lib.hid ((hb.block gh hgh).trans H9.out)
                    have B9 := Lib.hid (C9.out.trans hb)
                    clear hw hb hl hr H9 W9 C9 q9 z8
                    go_upto_region 10 with fail
                    refine wp_region_cut 7 (by kernel_rfl) (fun w' => Below w9.heap.size w9 w') (fun x y => Below x.heap.size x y) (fun dq vq _ => match dq with | 85 => vq = .iface 50 (.pointer (some ⟨g, 0, none⟩)) | 86 => vq = .pointer (some ⟨gh, 0, none⟩) | 87 => vq = .pointer (some ⟨gh, 0, none⟩) | 88 => vq = .pointer (some ⟨gh, 11, none⟩) | 89 => vq = .func (.method "loop.example/g00413/impl.short") #[.iface 50 (.pointer (some ⟨g, 0, none⟩))] #[] | 90 => vq = .func (.method "loop.example/g00413/impl.short") #[.iface 50 (.pointer (some ⟨g, 0, none⟩))] #[] | 91 => vq = .iface 50 (.pointer (some ⟨g, 0, none⟩)) | _ => True) (by kernel_rfl) (by kernel_rfl) ((Below.refl _ _).drew) (fun _ _ _ _ _ _ h => h) (by simp) ?hops ?hend
                    case hops =>
                      simp only [List.take_succ_cons, List.take_zero, List.forall_mem_cons]
                      refine ⟨?o85, ?o86, ?o87, ?o88, ?o89, ?o90, ?o91, fun _ h => by cases h⟩
                      case o85 =>
                        intro Q a w2 hC hV hI
                        have e1 : a.eval (.tmp 1) = .iface 50 (.pointer (some ⟨g, 0, none⟩)) := (hI 1 (by simp [Op.operands]) (by kernel_rfl)).trans rfl
                        have f1 : a.tmps.getD 1 undef = .iface 50 (.pointer (some ⟨g, 0, none⟩)) := e1
                        have g1 : a.tmps[1]?.getD undef = .iface 50 (.pointer (some ⟨g, 0, none⟩)) := by rw [← Array.getD_eq_getD_getElem?]; exact e1
                        refine op_val (.iface 50 (.pointer (some ⟨g, 0, none⟩))) ?_ hC (Below.refl _ _) (by intro d hd; cases hd; rfl)
                        (clear hV hI hC; go_simp <;> (first | rfl | simp | (rw [IntKind.wrap_i64]; omega)))
                      case o86 =>
                        intro Q a w2 hC hV hI
                        have e0 : a.eval (.tmp 0) = .pointer (some ⟨gh, 0, none⟩) := (hI 0 (by simp [Op.operands]) (by kernel_rfl)).trans rfl
                        have f0 : a.tmps.getD 0 undef = .pointer (some ⟨gh, 0, none⟩) := e0
                        have g0 : a.tmps[0]?.getD undef = .pointer (some ⟨gh, 0, none⟩) := by rw [← Array.getD_eq_getD_getElem?]; exact e0
                        refine op_val (.pointer (some ⟨gh, 0, none⟩)) ?_ hC (Below.refl _ _) (by intro d hd; cases hd; rfl)
                        (clear hV hI hC; go_simp <;> (first | rfl | simp | (rw [IntKind.wrap_i64]; omega)))
                      case o87 =>
                        intro Q a w2 hC hV hI
                        have e86 : a.eval (.tmp 86) = .pointer (some ⟨gh, 0, none⟩) := hV 86 (by simp [Op.operands]) (by kernel_rfl)
                        have f86 : a.tmps.getD 86 undef = .pointer (some ⟨gh, 0, none⟩) := e86
                        have g86 : a.tmps[86]?.getD undef = .pointer (some ⟨gh, 0, none⟩) := by rw [← Array.getD_eq_getD_getElem?]; exact e86
                        refine op_val (.pointer (some ⟨gh, 0, none⟩)) ?_ hC (Below.refl _ _) (by intro d hd; cases hd; rfl)
                        (clear hV hI hC; go_simp <;> (first | rfl | simp | (rw [IntKind.wrap_i64]; omega)))
                      case o88 =>
                        intro Q a w2 hC hV hI
                        have e87 : a.eval (.tmp 87) = .pointer (some ⟨gh, 0, none⟩) := hV 87 (by simp [Op.operands]) (by kernel_rfl)
                        have f87 : a.tmps.getD 87 undef = .pointer (some ⟨gh, 0, none⟩) := e87
                        have g87 : a.tmps[87]?.getD undef = .pointer (some ⟨gh, 0, none⟩) := by rw [← Array.getD_eq_getD_getElem?]; exact e87
                        refine op_val (.pointer (some ⟨gh, 11, none⟩)) ?_ hC (Below.refl _ _) (by intro d hd; cases hd; rfl)
                        (clear hV hI hC; go_simp <;> (first | rfl | simp | (rw [IntKind.wrap_i64]; omega)))
                      case o89 =>
                        intro Q a w2 hC hV hI
                        have e85 : a.eval (.tmp 85) = .iface 50 (.pointer (some ⟨g, 0, none⟩)) := hV 85 (by simp [Op.operands]) (by kernel_rfl)
                        have f85 : a.tmps.getD 85 undef = .iface 50 (.pointer (some ⟨g, 0, none⟩)) := e85
                        have g85 : a.tmps[85]?.getD undef = .iface 50 (.pointer (some ⟨g, 0, none⟩)) := by rw [← Array.getD_eq_getD_getElem?]; exact e85
                        refine op_val (.func (.method "loop.example/g00413/impl.short") #[.iface 50 (.pointer (some ⟨g, 0, none⟩))] #[]) ?_ hC (Below.refl _ _) (by intro d hd; cases hd; rfl)
                        (clear hV hI hC; go_simp <;> (first | rfl | simp | (rw [IntKind.wrap_i64]; omega)))
                      case o90 =>
                        intro Q a w2 hC hV hI
                        have e89 : a.eval (.tmp 89) = .func (.method "loop.example/g00413/impl.short") #[.iface 50 (.pointer (some ⟨g, 0, none⟩))] #[] := hV 89 (by simp [Op.operands]) (by kernel_rfl)
                        have f89 : a.tmps.getD 89 undef = .func (.method "loop.example/g00413/impl.short") #[.iface 50 (.pointer (some ⟨g, 0, none⟩))] #[] := e89
                        have g89 : a.tmps[89]?.getD undef = .func (.method "loop.example/g00413/impl.short") #[.iface 50 (.pointer (some ⟨g, 0, none⟩))] #[] := by rw [← Array.getD_eq_getD_getElem?]; exact e89
                        refine op_val (.func (.method "loop.example/g00413/impl.short") #[.iface 50 (.pointer (some ⟨g, 0, none⟩))] #[]) ?_ hC (Below.refl _ _) (by intro d hd; cases hd; rfl)
                        (clear hV hI hC; go_simp <;> (first | rfl | simp | (rw [IntKind.wrap_i64]; omega)))
                      case o91 =>
                        intro Q a w2 hC hV hI
                        have e85 : a.eval (.tmp 85) = .iface 50 (.pointer (some ⟨g, 0, none⟩)) := hV 85 (by simp [Op.operands]) (by kernel_rfl)
                        have f85 : a.tmps.getD 85 undef = .iface 50 (.pointer (some ⟨g, 0, none⟩)) := e85
                        have g85 : a.tmps[85]?.getD undef = .iface 50 (.pointer (some ⟨g, 0, none⟩)) := by rw [← Array.getD_eq_getD_getElem?]; exact e85
                        refine op_val (.iface 50 (.pointer (some ⟨g, 0, none⟩))) ?_ hC (Below.refl _ _) (by intro d hd; cases hd; rfl)
                        (clear hV hI hC; go_simp <;> (first | rfl | simp | (rw [IntKind.wrap_i64]; omega)))
                    case hend =>
                      intro f v10 hC hall
                      simp only [List.take_succ_cons, List.take_zero, List.drop_succ_cons, List.drop_zero] at hall ⊢
                      simp only [List.forall_mem_cons] at hall
                      obtain ⟨h85, h86, h87, h88, h89, h90, h91, _⟩ := hall
                      replace h85 : f 85 = .iface 50 (.pointer (some ⟨g, 0, none⟩)) := h85 85 rfl
                      replace h86 : f 86 = .pointer (some ⟨gh, 0, none⟩) := h86 86 rfl
                      replace h87 : f 87 = .pointer (some ⟨gh, 0, none⟩) := h87 87 rfl
                      replace h88 : f 88 = .pointer (some ⟨gh, 11, none⟩) := h88 88 rfl
                      replace h89 : f 89 = .func (.method "loop.example/g00413/impl.short") #[.iface 50 (.pointer (some ⟨g, 0, none⟩))] #[] := h89 89 rfl
                      replace h90 : f 90 = .func (.method "loop.example/g00413/impl.short") #[.iface 50 (.pointer (some ⟨g, 0, none⟩))] #[] := h90 90 rfl
                      replace h91 : f 91 = .iface 50 (.pointer (some ⟨g, 0, none⟩)) := h91 91 rfl
                      simp only [putAll, Act.put, List.setIfInBounds_toArray, List.set_cons_succ, List.set_cons_zero, h85, h86, h87, h88, h89, h90, h91]
                      clear h85 h86 h87 h88 h89 h90 h91
                      have W10 := Lib.hid (HW9.out.below hC)
                      have H10 := Lib.hid ((hC.block gh (by have := HW9.out.lt; omega)).trans HH9.out)
                      have C10 := Lib.hid (B9.out.trans (hC.mono (by have := HW9.out.lt; omega)))
                      clear hC HW9 HH9 B9
                      have hx10 : v10.cell? ⟨gh, 11, none⟩ = some (.int .i64 ((c.Path.size : Int) + 1)) := by simp [World.cell?, H10.out]
                      have q10 := Lib.hid (short_w g gh 11 hi l9 r9 ((c.Path.size : Int) + 1) v10 W10.out (by omega) hx10)
                      clear hx10
                      go_wp2_with fail
                      refine q10.out.mono ?_
                      rintro e w10 ⟨rfl, hw, hb⟩
                      obtain ⟨l10, hl⟩ : ∃ l : List UInt8, l = l9 ++ (put16v ((c.Path.size : Int) + 1) hi).data.toList := ⟨_, rfl⟩
                      obtain ⟨r10, hr⟩ : ∃ r : Bool, r = (r9 || !r16 ((c.Path.size : Int) + 1)) := ⟨_, rfl⟩
                      have z10 : l10.length = 22 := by rw [hl, List.length_append, ba_len, put16_size]; omega
                      rw [← hl] at hw HL
                      rw [← hr] at hw HR
                      have HW10 := Lib.hid hw
                      have HH10 := Lib.hid ((hb.block gh hgh).trans H10.out)
                      have B10 := Lib.hid (C10.out.trans hb)
                      clear hw hb hl hr H10 W10 C10 q10 z9
                      go_upto_region 11 with fail
                      refine wp_region_cut 7 (by kernel_rfl) (fun w' => Below w10.heap.size w10 w') (fun x y => Below x.heap.size x y) (fun dq vq _ => match dq with | 93 => vq = .iface 50 (.pointer (some ⟨g, 0, none⟩)) | 94 => vq = .pointer (some ⟨gh, 0, none⟩) | 95 => vq = .pointer (some ⟨gh, 0, none⟩) | 96 => vq = .pointer (some ⟨gh, 12, none⟩) | 97 => vq = .func (.method "loop.example/g00413/impl.long") #[.iface 50 (.pointer (some ⟨g, 0, none⟩))] #[] | 98 => vq = .func (.method "loop.example/g00413/impl.long") #[.iface 50 (.pointer (some ⟨g, 0, none⟩))] #[] | 99 => vq = .iface 50 (.pointer (some ⟨g, 0, none⟩)) | _ => True) (by kernel_rfl) (by kernel_rfl) ((Below.refl _ _).drew) (fun _ _ _ _ _ _ h => h) (by simp) ?hops ?hend
                      case hops =>
                        simp only [List.take_succ_cons, List.take_zero, List.forall_mem_cons]
                        refine ⟨?o93, ?o94, ?o95, ?o96, ?o97, ?o98, ?o99, fun _ h => by cases h⟩
                        case o93 =>
                          intro Q a w2 hC hV hI
                          have e1 : a.eval (.tmp 1) = .iface 50 (.pointer (some ⟨g, 0, none⟩)) := (hI 1 (by simp [Op.operands]) (by kernel_rfl)).trans rfl
                          have f1 : a.tmps.getD 1 undef = .iface 50 (.pointer (some ⟨g, 0, none⟩)) := e1
                          have g1 : a.tmps[1]?.getD undef = .iface 50 (.pointer (some ⟨g, 0, none⟩)) := by rw [← Array.getD_eq_getD_getElem?]; exact e1
                          refine op_val (.iface 50 (.pointer (some ⟨g, 0, none⟩))) ?_ hC (Below.refl _ _) (by intro d hd; cases hd; rfl)
                          (clear hV hI hC; go_simp <;> (first | rfl | simp | (rw [IntKind.wrap_i64]; omega)))
                        case o94 =>
                          intro Q a w2 hC hV hI
                          have e0 : a.eval (.tmp 0) = .pointer (some ⟨gh, 0, none⟩) := (hI 0 (by simp [Op.operands]) (by kernel_rfl)).trans rfl
                          have f0 : a.tmps.getD 0 undef = .pointer (some ⟨gh, 0, none⟩) := e0
                          have g0 : a.tmps[0]?.getD undef = .pointer (some ⟨gh, 0, none⟩) := by rw [← Array.getD_eq_getD_getElem?]; exact e0
                          refine op_val (.pointer (some ⟨gh, 0, none⟩)) ?_ hC (Below.refl _ _) (by intro d hd; cases hd; rfl)
                          (clear hV hI hC; go_simp <;> (first | rfl | simp | (rw [IntKind.wrap_i64]; omega)))
                        case o95 =>
                          intro Q a w2 hC hV hI
                          have e94 : a.eval (.tmp 94) = .pointer (some ⟨gh, 0, none⟩) := hV 94 (by simp [Op.operands]) (by kernel_rfl)
                          have f94 : a.tmps.getD 94 undef = .pointer (some ⟨gh, 0, none⟩) := e94
                          have g94 : a.tmps[94]?.getD undef = .pointer (some ⟨gh, 0, none⟩) := by rw [← Array.getD_eq_getD_getElem?]; exact e94
                          refine op_val (.pointer (some ⟨gh, 0, none⟩)) ?_ hC (Below.refl _ _) (by intro d hd; cases hd; rfl)
                          (clear hV hI hC; go_simp <;> (first | rfl | simp | (rw [IntKind.wrap_i64]; omega)))
                        case o96 =>
                          intro Q a w2 hC hV hI
                          have e95 : a.eval (.tmp 95) = .pointer (some ⟨gh, 0, none⟩) := hV 95 (by simp [Op.operands]) (by kernel_rfl)
                          have f95 : a.tmps.getD 95 undef = .pointer (some ⟨gh, 0, none⟩) := e95
                          have g95 : a.tmps[95]?.getD undef = .pointer (some ⟨gh, 0, none⟩) := by rw [← Array.getD_eq_getD_getElem?]; exact e95
                          refine op_val (.pointer (some ⟨gh, 12, none⟩)) ?_ hC (Below.refl _ _) (by intro d hd; cases hd; rfl)
                          (clear hV hI hC; go_simp <;> (first | rfl | simp | (rw [IntKind.wrap_i64]; omega)))
                        case o97 =>
                          intro Q a w2 hC hV hI
                          have e93 : a.eval (.tmp 93) = .iface 50 (.pointer (some ⟨g, 0, none⟩)) := hV 93 (by simp [Op.operands]) (by kernel_rfl)
                          have f93 : a.tmps.getD 93 undef = .iface 50 (.pointer (some ⟨g, 0, none⟩)) := e93
                          have g93 : a.tmps[93]?.getD undef = .iface 50 (.pointer (some ⟨g, 0, none⟩)) := by rw [← Array.getD_eq_getD_getElem?]; exact e93
                          refine op_val (.func (.method "loop.example/g00413/impl.long") #[.iface 50 (.pointer (some ⟨g, 0, none⟩))] #[]) ?_ hC (Below.refl _ _) (by intro d hd; cases hd; rfl)
                          (clear hV hI hC; go_simp <;> (first | rfl | simp | (rw [IntKind.wrap_i64]; omega)))
                        case o98 =>
                          intro Q a w2 hC hV hI
                          have e97 : a.eval (.tmp 97) = .func (.method "loop.example/g00413/impl.long") #[.iface 50 (.pointer (some ⟨g, 0, none⟩))] #[] := hV 97 (by simp [Op.operands]) (by kernel_rfl)
                          have f97 : a.tmps.getD 97 undef = .func (.method "loop.example/g00413/impl.long") #[.iface 50 (.pointer (some ⟨g, 0, none⟩))] #[] := e97
                          have g97 : a.tmps[97]?.getD undef = .func (.method "loop.example/g00413/impl.long") #[.iface 50 (.pointer (some ⟨g, 0, none⟩))] #[] := by rw [← Array.getD_eq_getD_getElem?]; exact e97
                          refine op_val (.func (.method "loop.example/g00413/impl.long") #[.iface 50 (.pointer (some ⟨g, 0, none⟩))] #[]) ?_ hC (Below.refl _ _) (by intro d hd; cases hd; rfl)
                          (clear hV hI hC; go_simp <;> (first | rfl | simp | (rw [IntKind.wrap_i64]; omega)))
                        case o99 =>
                          intro Q a w2 hC hV hI
                          have e93 : a.eval (.tmp 93) = .iface 50 (.pointer (some ⟨g, 0, none⟩)) := hV 93 (by simp [Op.operands]) (by kernel_rfl)
                          have f93 : a.tmps.getD 93 undef = .iface 50 (.pointer (some ⟨g, 0, none⟩)) := e93
                          have g93 : a.tmps[93]?.getD undef = .iface 50 (.pointer (some ⟨g, 0, none⟩)) := by rw [← Array.getD_eq_getD_getElem?]; exact e93
                          refine op_val (.iface 50 (.pointer (some ⟨g, 0, none⟩))) ?_ hC (Below.refl _ _) (by intro d hd; cases hd; rfl)
                          (clear hV hI hC; go_simp <;> (first | rfl | simp | (rw [IntKind.wrap_i64]; omega)))
                      case hend =>
                        intro f v11 hC hall
                        simp only [List.take_succ_cons, List.take_zero, List.drop_succ_cons, List.drop_zero] at hall ⊢
                        simp only [List.forall_mem_cons] at hall
                        obtain ⟨h93, h94, h95, h96, h97, h98, h99, _⟩ := hall
                        replace h93 : f 93 = .iface 50 (.pointer (some ⟨g, 0, none⟩)) := h93 93 rfl
                        replace h94 : f 94 = .pointer (some ⟨gh, 0, none⟩) := h94 94 rfl
                        replace h95 : f 95 = .pointer (some ⟨gh, 0, none⟩) := h95 95 rfl
                        replace h96 : f 96 = .pointer (some ⟨gh, 12, none⟩) := h96 96 rfl
                        replace h97 : f 97 = .func (.method "loop.example/g00413/impl.long") #[.iface 50 (.pointer (some ⟨g, 0, none⟩))] #[] := h97 97 rfl
                        replace h98 : f 98 = .func (.method "loop.example/g00413/impl.long") #[.iface 50 (.pointer (some ⟨g, 0, none⟩))] #[] := h98 98 rfl
                        replace h99 : f 99 = .iface 50 (.pointer (some ⟨g, 0, none⟩)) := h99 99 rfl
                        simp only [putAll, Act.put, List.setIfInBounds_toArray, List.set_cons_succ, List.set_cons_zero, h93, h94, h95, h96, h97, h98, h99]
                        clear h93 h94 h95 h96 h97 h98 h99
                        have W11 := Lib.hid (HW10.out.below hC)
                        have H11 := Lib.hid ((hC.block gh (by have := HW10.out.lt; omega)).trans HH10.out)
                        have C11 := Lib.hid (B10.out.trans (hC.mono (by have := HW10.out.lt; omega)))
                        clear hC HW10 HH10 B10
                        have hx11 : v11.cell? ⟨gh, 12, none⟩ = some (.int .i64 (c.Data.size : Int)) := by simp [World.cell?, H11.out]
                        have q11 := Lib.hid (long_w g gh 12 hi l10 r10 (c.Data.size : Int) v11 W11.out (by omega) hx11)
                        clear hx11
                        go_wp2_with fail
                        refine q11.out.mono ?_
                        rintro e w11 ⟨rfl, hw, hb⟩
                        obtain ⟨l11, hl⟩ : ∃ l : List UInt8, l = l10 ++ (put32v (c.Data.size : Int) hi).data.toList := ⟨_, rfl⟩
                        obtain ⟨r11, hr⟩ : ∃ r : Bool, r = (r10 || !r32 (c.Data.size : Int)) := ⟨_, rfl⟩
                        have z11 : l11.length = 26 := by rw [hl, List.length_append, ba_len, put32_size]; omega
                        rw [← hl] at hw HL
                        rw [← hr] at hw HR
                        have HW11 := Lib.hid hw
                        have HH11 := Lib.hid ((hb.block gh hgh).trans H11.out)
                        have B11 := Lib.hid (C11.out.trans hb)
                        clear hw hb hl hr H11 W11 C11 q11 z10
                        have q := made_w g hi l11 r11 w11 HW11.out
                        rw [show (if r11 then (⟨#[]⟩ : ByteArray) else ⟨l11.toArray⟩) = res from by rw [HR.out, ← HRes.out, ← HL.out]; cases ok <;> simp] at q
                        replace q := Lib.hid q
                        go_wp2_with fail
                        refine q.out.mono ?_
                        rintro e wz ⟨rfl, rfl⟩
                        go_wp2_with fail
                        go_ret
                        exact ⟨rfl, B11.out⟩
end Go.Proofs.Ytancidbbkoeokaa
