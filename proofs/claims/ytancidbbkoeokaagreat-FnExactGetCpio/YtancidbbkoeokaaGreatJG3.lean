/- Texts joined: BinPW, PutBnI, GetBnI, RdBin, BinText, EntOkI, CpioF, BinF, BincS, FindI. -/
import Derived.Test.YtancidbbkoeokaaGreatPartMath
import Derived.Test.YtancidbbkoeokaaGreatDemand
import Derived.Deep.DeepCutAuto
import Derived.OwnWalk
import Derived.Test.YtancidbbkoeokaaGreatUserI
import Derived.Test.YtancidbbkoeokaaGreatEntAt
import Derived.Shelf.Abstract
import Derived.Test.YtancidbbkoeokaaGreatJG2
/- The numbers of a head given to the writer: impl.passHead[string]. -/
namespace Go.Proofs.YtancidbbkoeokaaGreat
open Go.ChangeShapes Go.WideShapes Go.ChangeAt Go.RowKit Go.Deep

theorem WrO.below {w w' : World} {g : Nat} {hi : Bool} {l : List UInt8} {rf : Bool} (h : WrO w g hi l rf) (hb : Below w.heap.size w w') : WrO w' g hi l rf := by
  obtain ⟨v, hg, ho⟩ := h
  exact ⟨v, (hb.block g (Array.getElem?_eq_some_iff.1 hg).1).trans hg, World.ownsRow.kept ho (row := none) ⟨hb.os, hb.tape, hb.output, hb.size, fun k hk _ => hb.block k hk⟩ (by cases hv : v.ownBlock <;> simp)⟩
theorem WrO.lt {w : World} {g : Nat} {hi : Bool} {l : List UInt8} {rf : Bool} (h : WrO w g hi l rf) : g < w.heap.size := by
  obtain ⟨v, hg, _⟩ := h
  exact (Array.getElem?_eq_some_iff.1 hg).1
theorem ba_len (s : ByteArray) : s.data.toList.length = s.size := Array.length_toList
theorem head_bytes (c : Card) (hi : Bool) : (headB c hi).data.toList = [] ++ (put16v 29127 hi).data.toList ++ (put16v 0 hi).data.toList ++ (put16v c.Ino hi).data.toList ++ (put16v c.Mode hi).data.toList ++ (put16v c.Uid hi).data.toList ++ (put16v c.Gid hi).data.toList ++ (put16v c.Count hi).data.toList ++ (put16v 0 hi).data.toList ++ (put32v c.Time hi).data.toList ++ (put16v ((c.Path.size : Int) + 1) hi).data.toList ++ (put32v (c.Data.size : Int) hi).data.toList := by
  simp [headB, headA]
theorem head_ok (c : Card) : (false || !r16 29127 || !r16 0 || !r16 c.Ino || !r16 c.Mode || !r16 c.Uid || !r16 c.Gid || !r16 c.Count || !r16 0 || !r32 c.Time || !r16 ((c.Path.size : Int) + 1) || !r32 (c.Data.size : Int)) = !binOk c := by
  rw [show r16 29127 = true from by decide, show r16 0 = true from by decide, binOk]
  cases r16 c.Ino <;> cases r16 c.Mode <;> cases r16 c.Uid <;> cases r16 c.Gid <;> cases r16 c.Count <;> cases r32 c.Time <;> cases r16 ((c.Path.size : Int) + 1) <;> cases r32 (c.Data.size : Int) <;> rfl
set_option maxHeartbeats 6400000 in
set_option maxRecDepth 8000 in
theorem pass_w (g gh : Nat) (c : Card) (hi : Bool) (T : TypeId) (w : World) (hg : WrO w g hi [] false) (hh : w.heap[gh]? = some (.cells #[.int .i64 c.Ino, .int .i64 c.Mode, .int .i64 c.Uid, .int .i64 c.Gid, .int .i64 c.Count, .int .i64 c.Time, .string c.Path, .string c.Data, .int .i64 29127, .int .i64 0, .int .i64 0, .int .i64 ((c.Path.size : Int) + 1), .int .i64 (c.Data.size : Int)] T (0, 0))) (hgh : gh < g) :
    Calls Tryz.prog 62 #[.pointer (some ⟨gh, 0, none⟩), .iface 83 (.pointer (some ⟨g, 0, none⟩))] w fun e w' => e = .returned (.string (if binOk c then headB c hi else ⟨#[]⟩)) ∧ Below g w w' := by
  have HL := Lib.hid (head_bytes c hi)
  have HR := Lib.hid (head_ok c)
  have HW0 := Lib.hid hg
  have HH0 := Lib.hid hh
  have B0 : Hid (Below g w w) := Lib.hid (Below.refl _ _)
  generalize binOk c = ok at HR ⊢
  generalize headB c hi = hb9 at HL ⊢
  generalize hres : (if ok then hb9 else ⟨#[]⟩ : ByteArray) = res
  have HRes := Lib.hid hres
  clear hres
  clear hg hh
  obtain ⟨l0, hl0⟩ : ∃ l : List UInt8, l = [] := ⟨_, rfl⟩
  obtain ⟨r0, hr0⟩ : ∃ r : Bool, r = false := ⟨_, rfl⟩
  rw [← hl0] at HL HW0
  rw [← hr0] at HR HW0
  have z0 : l0.length = 0 := by rw [hl0]; rfl
  clear hl0 hr0
  go_enter Tryz.func62, Tryz.ntmps62
  obtain ⟨w0, hw0⟩ : ∃ w0, w0 = w := ⟨_, rfl⟩
  rw [← hw0] at HW0 HH0 ⊢
  replace B0 : Hid (Below g w0 w0) := Lib.hid (Below.refl _ _)
  clear hw0
  go_upto_region 1 with fail
  refine wp_region_cut 7 (by kernel_rfl) (fun w' => Below w0.heap.size w0 w') (fun x y => Below x.heap.size x y) (fun dq vq _ => match dq with | 5 => vq = .iface 83 (.pointer (some ⟨g, 0, none⟩)) | 6 => vq = .pointer (some ⟨gh, 0, none⟩) | 7 => vq = .pointer (some ⟨gh, 0, none⟩) | 8 => vq = .pointer (some ⟨gh, 8, none⟩) | 9 => vq = .func (.method "loop.example/g00413/impl.short") #[.iface 83 (.pointer (some ⟨g, 0, none⟩))] #[] | 10 => vq = .func (.method "loop.example/g00413/impl.short") #[.iface 83 (.pointer (some ⟨g, 0, none⟩))] #[] | 11 => vq = .iface 83 (.pointer (some ⟨g, 0, none⟩)) | _ => True) (by kernel_rfl) (by kernel_rfl) ((Below.refl _ _).drew) (fun _ _ _ _ _ _ h => h) (by simp) ?hops ?hend
  case hops =>
    simp only [List.take_succ_cons, List.take_zero, List.forall_mem_cons]
    refine ⟨?o5, ?o6, ?o7, ?o8, ?o9, ?o10, ?o11, fun _ h => by cases h⟩
    case o5 =>
      intro Q a w2 hC hV hI
      have e1 : a.eval (.tmp 1) = .iface 83 (.pointer (some ⟨g, 0, none⟩)) := (hI 1 (by simp [Op.operands]) (by kernel_rfl)).trans rfl
      have f1 : a.tmps.getD 1 undef = .iface 83 (.pointer (some ⟨g, 0, none⟩)) := e1
      have g1 : a.tmps[1]?.getD undef = .iface 83 (.pointer (some ⟨g, 0, none⟩)) := by rw [← Array.getD_eq_getD_getElem?]; exact e1
      refine op_val (.iface 83 (.pointer (some ⟨g, 0, none⟩))) ?_ hC (Below.refl _ _) (by intro d hd; cases hd; rfl)
      (clear hV hI hC; go_simp <;> (first | rfl | simp | (rw [IntKind.wrap_i64]; omega)))
    case o6 =>
      intro Q a w2 hC hV hI
      have e0 : a.eval (.tmp 0) = .pointer (some ⟨gh, 0, none⟩) := (hI 0 (by simp [Op.operands]) (by kernel_rfl)).trans rfl
      have f0 : a.tmps.getD 0 undef = .pointer (some ⟨gh, 0, none⟩) := e0
      have g0 : a.tmps[0]?.getD undef = .pointer (some ⟨gh, 0, none⟩) := by rw [← Array.getD_eq_getD_getElem?]; exact e0
      refine op_val (.pointer (some ⟨gh, 0, none⟩)) ?_ hC (Below.refl _ _) (by intro d hd; cases hd; rfl)
      (clear hV hI hC; go_simp <;> (first | rfl | simp | (rw [IntKind.wrap_i64]; omega)))
    case o7 =>
      intro Q a w2 hC hV hI
      have e6 : a.eval (.tmp 6) = .pointer (some ⟨gh, 0, none⟩) := hV 6 (by simp [Op.operands]) (by kernel_rfl)
      have f6 : a.tmps.getD 6 undef = .pointer (some ⟨gh, 0, none⟩) := e6
      have g6 : a.tmps[6]?.getD undef = .pointer (some ⟨gh, 0, none⟩) := by rw [← Array.getD_eq_getD_getElem?]; exact e6
      refine op_val (.pointer (some ⟨gh, 0, none⟩)) ?_ hC (Below.refl _ _) (by intro d hd; cases hd; rfl)
      (clear hV hI hC; go_simp <;> (first | rfl | simp | (rw [IntKind.wrap_i64]; omega)))
    case o8 =>
      intro Q a w2 hC hV hI
      have e7 : a.eval (.tmp 7) = .pointer (some ⟨gh, 0, none⟩) := hV 7 (by simp [Op.operands]) (by kernel_rfl)
      have f7 : a.tmps.getD 7 undef = .pointer (some ⟨gh, 0, none⟩) := e7
      have g7 : a.tmps[7]?.getD undef = .pointer (some ⟨gh, 0, none⟩) := by rw [← Array.getD_eq_getD_getElem?]; exact e7
      refine op_val (.pointer (some ⟨gh, 8, none⟩)) ?_ hC (Below.refl _ _) (by intro d hd; cases hd; rfl)
      (clear hV hI hC; go_simp <;> (first | rfl | simp | (rw [IntKind.wrap_i64]; omega)))
    case o9 =>
      intro Q a w2 hC hV hI
      have e5 : a.eval (.tmp 5) = .iface 83 (.pointer (some ⟨g, 0, none⟩)) := hV 5 (by simp [Op.operands]) (by kernel_rfl)
      have f5 : a.tmps.getD 5 undef = .iface 83 (.pointer (some ⟨g, 0, none⟩)) := e5
      have g5 : a.tmps[5]?.getD undef = .iface 83 (.pointer (some ⟨g, 0, none⟩)) := by rw [← Array.getD_eq_getD_getElem?]; exact e5
      refine op_val (.func (.method "loop.example/g00413/impl.short") #[.iface 83 (.pointer (some ⟨g, 0, none⟩))] #[]) ?_ hC (Below.refl _ _) (by intro d hd; cases hd; rfl)
      (clear hV hI hC; go_simp <;> (first | rfl | simp | (rw [IntKind.wrap_i64]; omega)))
    case o10 =>
      intro Q a w2 hC hV hI
      have e9 : a.eval (.tmp 9) = .func (.method "loop.example/g00413/impl.short") #[.iface 83 (.pointer (some ⟨g, 0, none⟩))] #[] := hV 9 (by simp [Op.operands]) (by kernel_rfl)
      have f9 : a.tmps.getD 9 undef = .func (.method "loop.example/g00413/impl.short") #[.iface 83 (.pointer (some ⟨g, 0, none⟩))] #[] := e9
      have g9 : a.tmps[9]?.getD undef = .func (.method "loop.example/g00413/impl.short") #[.iface 83 (.pointer (some ⟨g, 0, none⟩))] #[] := by rw [← Array.getD_eq_getD_getElem?]; exact e9
      refine op_val (.func (.method "loop.example/g00413/impl.short") #[.iface 83 (.pointer (some ⟨g, 0, none⟩))] #[]) ?_ hC (Below.refl _ _) (by intro d hd; cases hd; rfl)
      (clear hV hI hC; go_simp <;> (first | rfl | simp | (rw [IntKind.wrap_i64]; omega)))
    case o11 =>
      intro Q a w2 hC hV hI
      have e5 : a.eval (.tmp 5) = .iface 83 (.pointer (some ⟨g, 0, none⟩)) := hV 5 (by simp [Op.operands]) (by kernel_rfl)
      have f5 : a.tmps.getD 5 undef = .iface 83 (.pointer (some ⟨g, 0, none⟩)) := e5
      have g5 : a.tmps[5]?.getD undef = .iface 83 (.pointer (some ⟨g, 0, none⟩)) := by rw [← Array.getD_eq_getD_getElem?]; exact e5
      refine op_val (.iface 83 (.pointer (some ⟨g, 0, none⟩))) ?_ hC (Below.refl _ _) (by intro d hd; cases hd; rfl)
      (clear hV hI hC; go_simp <;> (first | rfl | simp | (rw [IntKind.wrap_i64]; omega)))
  case hend =>
    intro f v1 hC hall
    simp only [List.take_succ_cons, List.take_zero, List.drop_succ_cons, List.drop_zero] at hall ⊢
    simp only [List.forall_mem_cons] at hall
    obtain ⟨h5, h6, h7, h8, h9, h10, h11, _⟩ := hall
    replace h5 : f 5 = .iface 83 (.pointer (some ⟨g, 0, none⟩)) := h5 5 rfl
    replace h6 : f 6 = .pointer (some ⟨gh, 0, none⟩) := h6 6 rfl
    replace h7 : f 7 = .pointer (some ⟨gh, 0, none⟩) := h7 7 rfl
    replace h8 : f 8 = .pointer (some ⟨gh, 8, none⟩) := h8 8 rfl
    replace h9 : f 9 = .func (.method "loop.example/g00413/impl.short") #[.iface 83 (.pointer (some ⟨g, 0, none⟩))] #[] := h9 9 rfl
    replace h10 : f 10 = .func (.method "loop.example/g00413/impl.short") #[.iface 83 (.pointer (some ⟨g, 0, none⟩))] #[] := h10 10 rfl
    replace h11 : f 11 = .iface 83 (.pointer (some ⟨g, 0, none⟩)) := h11 11 rfl
    simp only [putAll, Act.put, List.setIfInBounds_toArray, List.set_cons_succ, List.set_cons_zero, h5, h6, h7, h8, h9, h10, h11]
    clear h5 h6 h7 h8 h9 h10 h11
    have W1 := Lib.hid (HW0.out.below hC)
    have H1 := Lib.hid ((hC.block gh (by have := HW0.out.lt; omega)).trans HH0.out)
    have C1 := Lib.hid (B0.out.trans (hC.mono (by have := HW0.out.lt; omega)))
    clear hC HW0 HH0 B0
    have hx1 : v1.cell? ⟨gh, 8, none⟩ = some (.int .i64 29127) := by simp [World.cell?, H1.out]
    have q1 := Lib.hid (short_w g gh 8 hi l0 r0 29127 v1 W1.out (by omega) hx1)
    clear hx1
    go_wp2_with fail
    refine q1.out.mono ?_
    rintro e w1 ⟨rfl, hw, hb⟩
    obtain ⟨l1, hl⟩ : ∃ l : List UInt8, l = l0 ++ (put16v 29127 hi).data.toList := ⟨_, rfl⟩
    obtain ⟨r1, hr⟩ : ∃ r : Bool, r = (r0 || !r16 29127) := ⟨_, rfl⟩
    have z1 : l1.length = 2 := by rw [hl, List.length_append, ba_len, put16_size]; omega
    rw [← hl] at hw HL
    rw [← hr] at hw HR
    have HW1 := Lib.hid hw
    have HH1 := Lib.hid ((hb.block gh hgh).trans H1.out)
    have B1 := Lib.hid (C1.out.trans hb)
    clear hw hb hl hr H1 W1 C1 q1 z0
    go_upto_region 2 with fail
    refine wp_region_cut 8 (by kernel_rfl) (fun w' => Below w1.heap.size w1 w') (fun x y => Below x.heap.size x y) (fun dq vq _ => match dq with | 13 => vq = .iface 83 (.pointer (some ⟨g, 0, none⟩)) | 14 => vq = .pointer (some ⟨gh, 0, none⟩) | 15 => vq = .pointer (some ⟨gh, 0, none⟩) | 16 => vq = .pointer (some ⟨gh, 9, none⟩) | 17 => vq = .pointer (some ⟨gh, 9, none⟩) | 18 => vq = .func (.method "loop.example/g00413/impl.short") #[.iface 83 (.pointer (some ⟨g, 0, none⟩))] #[] | 19 => vq = .func (.method "loop.example/g00413/impl.short") #[.iface 83 (.pointer (some ⟨g, 0, none⟩))] #[] | 20 => vq = .iface 83 (.pointer (some ⟨g, 0, none⟩)) | _ => True) (by kernel_rfl) (by kernel_rfl) ((Below.refl _ _).drew) (fun _ _ _ _ _ _ h => h) (by simp) ?hops ?hend
    case hops =>
      simp only [List.take_succ_cons, List.take_zero, List.forall_mem_cons]
      refine ⟨?o13, ?o14, ?o15, ?o16, ?o17, ?o18, ?o19, ?o20, fun _ h => by cases h⟩
      case o13 =>
        intro Q a w2 hC hV hI
        have e1 : a.eval (.tmp 1) = .iface 83 (.pointer (some ⟨g, 0, none⟩)) := (hI 1 (by simp [Op.operands]) (by kernel_rfl)).trans rfl
        have f1 : a.tmps.getD 1 undef = .iface 83 (.pointer (some ⟨g, 0, none⟩)) := e1
        have g1 : a.tmps[1]?.getD undef = .iface 83 (.pointer (some ⟨g, 0, none⟩)) := by rw [← Array.getD_eq_getD_getElem?]; exact e1
        refine op_val (.iface 83 (.pointer (some ⟨g, 0, none⟩))) ?_ hC (Below.refl _ _) (by intro d hd; cases hd; rfl)
        (clear hV hI hC; go_simp <;> (first | rfl | simp | (rw [IntKind.wrap_i64]; omega)))
      case o14 =>
        intro Q a w2 hC hV hI
        have e0 : a.eval (.tmp 0) = .pointer (some ⟨gh, 0, none⟩) := (hI 0 (by simp [Op.operands]) (by kernel_rfl)).trans rfl
        have f0 : a.tmps.getD 0 undef = .pointer (some ⟨gh, 0, none⟩) := e0
        have g0 : a.tmps[0]?.getD undef = .pointer (some ⟨gh, 0, none⟩) := by rw [← Array.getD_eq_getD_getElem?]; exact e0
        refine op_val (.pointer (some ⟨gh, 0, none⟩)) ?_ hC (Below.refl _ _) (by intro d hd; cases hd; rfl)
        (clear hV hI hC; go_simp <;> (first | rfl | simp | (rw [IntKind.wrap_i64]; omega)))
      case o15 =>
        intro Q a w2 hC hV hI
        have e14 : a.eval (.tmp 14) = .pointer (some ⟨gh, 0, none⟩) := hV 14 (by simp [Op.operands]) (by kernel_rfl)
        have f14 : a.tmps.getD 14 undef = .pointer (some ⟨gh, 0, none⟩) := e14
        have g14 : a.tmps[14]?.getD undef = .pointer (some ⟨gh, 0, none⟩) := by rw [← Array.getD_eq_getD_getElem?]; exact e14
        refine op_val (.pointer (some ⟨gh, 0, none⟩)) ?_ hC (Below.refl _ _) (by intro d hd; cases hd; rfl)
        (clear hV hI hC; go_simp <;> (first | rfl | simp | (rw [IntKind.wrap_i64]; omega)))
      case o16 =>
        intro Q a w2 hC hV hI
        have e15 : a.eval (.tmp 15) = .pointer (some ⟨gh, 0, none⟩) := hV 15 (by simp [Op.operands]) (by kernel_rfl)
        have f15 : a.tmps.getD 15 undef = .pointer (some ⟨gh, 0, none⟩) := e15
        have g15 : a.tmps[15]?.getD undef = .pointer (some ⟨gh, 0, none⟩) := by rw [← Array.getD_eq_getD_getElem?]; exact e15
        refine op_val (.pointer (some ⟨gh, 9, none⟩)) ?_ hC (Below.refl _ _) (by intro d hd; cases hd; rfl)
        (clear hV hI hC; go_simp <;> (first | rfl | simp | (rw [IntKind.wrap_i64]; omega)))
      case o17 =>
        intro Q a w2 hC hV hI
        have e16 : a.eval (.tmp 16) = .pointer (some ⟨gh, 9, none⟩) := hV 16 (by simp [Op.operands]) (by kernel_rfl)
        have f16 : a.tmps.getD 16 undef = .pointer (some ⟨gh, 9, none⟩) := e16
        have g16 : a.tmps[16]?.getD undef = .pointer (some ⟨gh, 9, none⟩) := by rw [← Array.getD_eq_getD_getElem?]; exact e16
        refine op_val (.pointer (some ⟨gh, 9, none⟩)) ?_ hC (Below.refl _ _) (by intro d hd; cases hd; rfl)
        (clear hV hI hC; go_simp <;> (first | rfl | simp | (rw [IntKind.wrap_i64]; omega)))
      case o18 =>
        intro Q a w2 hC hV hI
        have e13 : a.eval (.tmp 13) = .iface 83 (.pointer (some ⟨g, 0, none⟩)) := hV 13 (by simp [Op.operands]) (by kernel_rfl)
        have f13 : a.tmps.getD 13 undef = .iface 83 (.pointer (some ⟨g, 0, none⟩)) := e13
        have g13 : a.tmps[13]?.getD undef = .iface 83 (.pointer (some ⟨g, 0, none⟩)) := by rw [← Array.getD_eq_getD_getElem?]; exact e13
        refine op_val (.func (.method "loop.example/g00413/impl.short") #[.iface 83 (.pointer (some ⟨g, 0, none⟩))] #[]) ?_ hC (Below.refl _ _) (by intro d hd; cases hd; rfl)
        (clear hV hI hC; go_simp <;> (first | rfl | simp | (rw [IntKind.wrap_i64]; omega)))
      case o19 =>
        intro Q a w2 hC hV hI
        have e18 : a.eval (.tmp 18) = .func (.method "loop.example/g00413/impl.short") #[.iface 83 (.pointer (some ⟨g, 0, none⟩))] #[] := hV 18 (by simp [Op.operands]) (by kernel_rfl)
        have f18 : a.tmps.getD 18 undef = .func (.method "loop.example/g00413/impl.short") #[.iface 83 (.pointer (some ⟨g, 0, none⟩))] #[] := e18
        have g18 : a.tmps[18]?.getD undef = .func (.method "loop.example/g00413/impl.short") #[.iface 83 (.pointer (some ⟨g, 0, none⟩))] #[] := by rw [← Array.getD_eq_getD_getElem?]; exact e18
        refine op_val (.func (.method "loop.example/g00413/impl.short") #[.iface 83 (.pointer (some ⟨g, 0, none⟩))] #[]) ?_ hC (Below.refl _ _) (by intro d hd; cases hd; rfl)
        (clear hV hI hC; go_simp <;> (first | rfl | simp | (rw [IntKind.wrap_i64]; omega)))
      case o20 =>
        intro Q a w2 hC hV hI
        have e13 : a.eval (.tmp 13) = .iface 83 (.pointer (some ⟨g, 0, none⟩)) := hV 13 (by simp [Op.operands]) (by kernel_rfl)
        have f13 : a.tmps.getD 13 undef = .iface 83 (.pointer (some ⟨g, 0, none⟩)) := e13
        have g13 : a.tmps[13]?.getD undef = .iface 83 (.pointer (some ⟨g, 0, none⟩)) := by rw [← Array.getD_eq_getD_getElem?]; exact e13
        refine op_val (.iface 83 (.pointer (some ⟨g, 0, none⟩))) ?_ hC (Below.refl _ _) (by intro d hd; cases hd; rfl)
        (clear hV hI hC; go_simp <;> (first | rfl | simp | (rw [IntKind.wrap_i64]; omega)))
    case hend =>
      intro f v2 hC hall
      simp only [List.take_succ_cons, List.take_zero, List.drop_succ_cons, List.drop_zero] at hall ⊢
      simp only [List.forall_mem_cons] at hall
      obtain ⟨h13, h14, h15, h16, h17, h18, h19, h20, _⟩ := hall
      replace h13 : f 13 = .iface 83 (.pointer (some ⟨g, 0, none⟩)) := h13 13 rfl
      replace h14 : f 14 = .pointer (some ⟨gh, 0, none⟩) := h14 14 rfl
      replace h15 : f 15 = .pointer (some ⟨gh, 0, none⟩) := h15 15 rfl
      replace h16 : f 16 = .pointer (some ⟨gh, 9, none⟩) := h16 16 rfl
      replace h17 : f 17 = .pointer (some ⟨gh, 9, none⟩) := h17 17 rfl
      replace h18 : f 18 = .func (.method "loop.example/g00413/impl.short") #[.iface 83 (.pointer (some ⟨g, 0, none⟩))] #[] := h18 18 rfl
      replace h19 : f 19 = .func (.method "loop.example/g00413/impl.short") #[.iface 83 (.pointer (some ⟨g, 0, none⟩))] #[] := h19 19 rfl
      replace h20 : f 20 = .iface 83 (.pointer (some ⟨g, 0, none⟩)) := h20 20 rfl
      simp only [putAll, Act.put, List.setIfInBounds_toArray, List.set_cons_succ, List.set_cons_zero, h13, h14, h15, h16, h17, h18, h19, h20]
      clear h13 h14 h15 h16 h17 h18 h19 h20
      have W2 := Lib.hid (HW1.out.below hC)
      have H2 := Lib.hid ((hC.block gh (by have := HW1.out.lt; omega)).trans HH1.out)
      have C2 := Lib.hid (B1.out.trans (hC.mono (by have := HW1.out.lt; omega)))
      clear hC HW1 HH1 B1
      have hx2 : v2.cell? ⟨gh, 9, none⟩ = some (.int .i64 0) := by simp [World.cell?, H2.out]
      have q2 := Lib.hid (short_w g gh 9 hi l1 r1 0 v2 W2.out (by omega) hx2)
      clear hx2
      go_wp2_with fail
      refine q2.out.mono ?_
      rintro e w2 ⟨rfl, hw, hb⟩
      obtain ⟨l2, hl⟩ : ∃ l : List UInt8, l = l1 ++ (put16v 0 hi).data.toList := ⟨_, rfl⟩
      obtain ⟨r2, hr⟩ : ∃ r : Bool, r = (r1 || !r16 0) := ⟨_, rfl⟩
      have z2 : l2.length = 4 := by rw [hl, List.length_append, ba_len, put16_size]; omega
      rw [← hl] at hw HL
      rw [← hr] at hw HR
      have HW2 := Lib.hid hw
      have HH2 := Lib.hid ((hb.block gh hgh).trans H2.out)
      have B2 := Lib.hid (C2.out.trans hb)
      clear hw hb hl hr H2 W2 C2 q2 z1
      go_upto_region 3 with fail
      refine wp_region_cut 8 (by kernel_rfl) (fun w' => Below w2.heap.size w2 w') (fun x y => Below x.heap.size x y) (fun dq vq _ => match dq with | 22 => vq = .iface 83 (.pointer (some ⟨g, 0, none⟩)) | 23 => vq = .pointer (some ⟨gh, 0, none⟩) | 24 => vq = .pointer (some ⟨gh, 0, none⟩) | 25 => vq = .pointer (some ⟨gh, 0, none⟩) | 26 => vq = .pointer (some ⟨gh, 0, none⟩) | 27 => vq = .func (.method "loop.example/g00413/impl.short") #[.iface 83 (.pointer (some ⟨g, 0, none⟩))] #[] | 28 => vq = .func (.method "loop.example/g00413/impl.short") #[.iface 83 (.pointer (some ⟨g, 0, none⟩))] #[] | 29 => vq = .iface 83 (.pointer (some ⟨g, 0, none⟩)) | _ => True) (by kernel_rfl) (by kernel_rfl) ((Below.refl _ _).drew) (fun _ _ _ _ _ _ h => h) (by simp) ?hops ?hend
      case hops =>
        simp only [List.take_succ_cons, List.take_zero, List.forall_mem_cons]
        refine ⟨?o22, ?o23, ?o24, ?o25, ?o26, ?o27, ?o28, ?o29, fun _ h => by cases h⟩
        case o22 =>
          intro Q a w2 hC hV hI
          have e1 : a.eval (.tmp 1) = .iface 83 (.pointer (some ⟨g, 0, none⟩)) := (hI 1 (by simp [Op.operands]) (by kernel_rfl)).trans rfl
          have f1 : a.tmps.getD 1 undef = .iface 83 (.pointer (some ⟨g, 0, none⟩)) := e1
          have g1 : a.tmps[1]?.getD undef = .iface 83 (.pointer (some ⟨g, 0, none⟩)) := by rw [← Array.getD_eq_getD_getElem?]; exact e1
          refine op_val (.iface 83 (.pointer (some ⟨g, 0, none⟩))) ?_ hC (Below.refl _ _) (by intro d hd; cases hd; rfl)
          (clear hV hI hC; go_simp <;> (first | rfl | simp | (rw [IntKind.wrap_i64]; omega)))
        case o23 =>
          intro Q a w2 hC hV hI
          have e0 : a.eval (.tmp 0) = .pointer (some ⟨gh, 0, none⟩) := (hI 0 (by simp [Op.operands]) (by kernel_rfl)).trans rfl
          have f0 : a.tmps.getD 0 undef = .pointer (some ⟨gh, 0, none⟩) := e0
          have g0 : a.tmps[0]?.getD undef = .pointer (some ⟨gh, 0, none⟩) := by rw [← Array.getD_eq_getD_getElem?]; exact e0
          refine op_val (.pointer (some ⟨gh, 0, none⟩)) ?_ hC (Below.refl _ _) (by intro d hd; cases hd; rfl)
          (clear hV hI hC; go_simp <;> (first | rfl | simp | (rw [IntKind.wrap_i64]; omega)))
        case o24 =>
          intro Q a w2 hC hV hI
          have e23 : a.eval (.tmp 23) = .pointer (some ⟨gh, 0, none⟩) := hV 23 (by simp [Op.operands]) (by kernel_rfl)
          have f23 : a.tmps.getD 23 undef = .pointer (some ⟨gh, 0, none⟩) := e23
          have g23 : a.tmps[23]?.getD undef = .pointer (some ⟨gh, 0, none⟩) := by rw [← Array.getD_eq_getD_getElem?]; exact e23
          refine op_val (.pointer (some ⟨gh, 0, none⟩)) ?_ hC (Below.refl _ _) (by intro d hd; cases hd; rfl)
          (clear hV hI hC; go_simp <;> (first | rfl | simp | (rw [IntKind.wrap_i64]; omega)))
        case o25 =>
          intro Q a w2 hC hV hI
          have e24 : a.eval (.tmp 24) = .pointer (some ⟨gh, 0, none⟩) := hV 24 (by simp [Op.operands]) (by kernel_rfl)
          have f24 : a.tmps.getD 24 undef = .pointer (some ⟨gh, 0, none⟩) := e24
          have g24 : a.tmps[24]?.getD undef = .pointer (some ⟨gh, 0, none⟩) := by rw [← Array.getD_eq_getD_getElem?]; exact e24
          refine op_val (.pointer (some ⟨gh, 0, none⟩)) ?_ hC (Below.refl _ _) (by intro d hd; cases hd; rfl)
          (clear hV hI hC; go_simp <;> (first | rfl | simp | (rw [IntKind.wrap_i64]; omega)))
        case o26 =>
          intro Q a w2 hC hV hI
          have e25 : a.eval (.tmp 25) = .pointer (some ⟨gh, 0, none⟩) := hV 25 (by simp [Op.operands]) (by kernel_rfl)
          have f25 : a.tmps.getD 25 undef = .pointer (some ⟨gh, 0, none⟩) := e25
          have g25 : a.tmps[25]?.getD undef = .pointer (some ⟨gh, 0, none⟩) := by rw [← Array.getD_eq_getD_getElem?]; exact e25
          refine op_val (.pointer (some ⟨gh, 0, none⟩)) ?_ hC (Below.refl _ _) (by intro d hd; cases hd; rfl)
          (clear hV hI hC; go_simp <;> (first | rfl | simp | (rw [IntKind.wrap_i64]; omega)))
        case o27 =>
          intro Q a w2 hC hV hI
          have e22 : a.eval (.tmp 22) = .iface 83 (.pointer (some ⟨g, 0, none⟩)) := hV 22 (by simp [Op.operands]) (by kernel_rfl)
          have f22 : a.tmps.getD 22 undef = .iface 83 (.pointer (some ⟨g, 0, none⟩)) := e22
          have g22 : a.tmps[22]?.getD undef = .iface 83 (.pointer (some ⟨g, 0, none⟩)) := by rw [← Array.getD_eq_getD_getElem?]; exact e22
          refine op_val (.func (.method "loop.example/g00413/impl.short") #[.iface 83 (.pointer (some ⟨g, 0, none⟩))] #[]) ?_ hC (Below.refl _ _) (by intro d hd; cases hd; rfl)
          (clear hV hI hC; go_simp <;> (first | rfl | simp | (rw [IntKind.wrap_i64]; omega)))
        case o28 =>
          intro Q a w2 hC hV hI
          have e27 : a.eval (.tmp 27) = .func (.method "loop.example/g00413/impl.short") #[.iface 83 (.pointer (some ⟨g, 0, none⟩))] #[] := hV 27 (by simp [Op.operands]) (by kernel_rfl)
          have f27 : a.tmps.getD 27 undef = .func (.method "loop.example/g00413/impl.short") #[.iface 83 (.pointer (some ⟨g, 0, none⟩))] #[] := e27
          have g27 : a.tmps[27]?.getD undef = .func (.method "loop.example/g00413/impl.short") #[.iface 83 (.pointer (some ⟨g, 0, none⟩))] #[] := by rw [← Array.getD_eq_getD_getElem?]; exact e27
          refine op_val (.func (.method "loop.example/g00413/impl.short") #[.iface 83 (.pointer (some ⟨g, 0, none⟩))] #[]) ?_ hC (Below.refl _ _) (by intro d hd; cases hd; rfl)
          (clear hV hI hC; go_simp <;> (first | rfl | simp | (rw [IntKind.wrap_i64]; omega)))
        case o29 =>
          intro Q a w2 hC hV hI
          have e22 : a.eval (.tmp 22) = .iface 83 (.pointer (some ⟨g, 0, none⟩)) := hV 22 (by simp [Op.operands]) (by kernel_rfl)
          have f22 : a.tmps.getD 22 undef = .iface 83 (.pointer (some ⟨g, 0, none⟩)) := e22
          have g22 : a.tmps[22]?.getD undef = .iface 83 (.pointer (some ⟨g, 0, none⟩)) := by rw [← Array.getD_eq_getD_getElem?]; exact e22
          refine op_val (.iface 83 (.pointer (some ⟨g, 0, none⟩))) ?_ hC (Below.refl _ _) (by intro d hd; cases hd; rfl)
          (clear hV hI hC; go_simp <;> (first | rfl | simp | (rw [IntKind.wrap_i64]; omega)))
      case hend =>
        intro f v3 hC hall
        simp only [List.take_succ_cons, List.take_zero, List.drop_succ_cons, List.drop_zero] at hall ⊢
        simp only [List.forall_mem_cons] at hall
        obtain ⟨h22, h23, h24, h25, h26, h27, h28, h29, _⟩ := hall
        replace h22 : f 22 = .iface 83 (.pointer (some ⟨g, 0, none⟩)) := h22 22 rfl
        replace h23 : f 23 = .pointer (some ⟨gh, 0, none⟩) := h23 23 rfl
        replace h24 : f 24 = .pointer (some ⟨gh, 0, none⟩) := h24 24 rfl
        replace h25 : f 25 = .pointer (some ⟨gh, 0, none⟩) := h25 25 rfl
        replace h26 : f 26 = .pointer (some ⟨gh, 0, none⟩) := h26 26 rfl
        replace h27 : f 27 = .func (.method "loop.example/g00413/impl.short") #[.iface 83 (.pointer (some ⟨g, 0, none⟩))] #[] := h27 27 rfl
        replace h28 : f 28 = .func (.method "loop.example/g00413/impl.short") #[.iface 83 (.pointer (some ⟨g, 0, none⟩))] #[] := h28 28 rfl
        replace h29 : f 29 = .iface 83 (.pointer (some ⟨g, 0, none⟩)) := h29 29 rfl
        simp only [putAll, Act.put, List.setIfInBounds_toArray, List.set_cons_succ, List.set_cons_zero, h22, h23, h24, h25, h26, h27, h28, h29]
        clear h22 h23 h24 h25 h26 h27 h28 h29
        have W3 := Lib.hid (HW2.out.below hC)
        have H3 := Lib.hid ((hC.block gh (by have := HW2.out.lt; omega)).trans HH2.out)
        have C3 := Lib.hid (B2.out.trans (hC.mono (by have := HW2.out.lt; omega)))
        clear hC HW2 HH2 B2
        have hx3 : v3.cell? ⟨gh, 0, none⟩ = some (.int .i64 c.Ino) := by simp [World.cell?, H3.out]
        have q3 := Lib.hid (short_w g gh 0 hi l2 r2 c.Ino v3 W3.out (by omega) hx3)
        clear hx3
        go_wp2_with fail
        refine q3.out.mono ?_
        rintro e w3 ⟨rfl, hw, hb⟩
        obtain ⟨l3, hl⟩ : ∃ l : List UInt8, l = l2 ++ (put16v c.Ino hi).data.toList := ⟨_, rfl⟩
        obtain ⟨r3, hr⟩ : ∃ r : Bool, r = (r2 || !r16 c.Ino) := ⟨_, rfl⟩
        have z3 : l3.length = 6 := by rw [hl, List.length_append, ba_len, put16_size]; omega
        rw [← hl] at hw HL
        rw [← hr] at hw HR
        have HW3 := Lib.hid hw
        have HH3 := Lib.hid ((hb.block gh hgh).trans H3.out)
        have B3 := Lib.hid (C3.out.trans hb)
        clear hw hb hl hr H3 W3 C3 q3 z2
        go_upto_region 4 with fail
        refine wp_region_cut 8 (by kernel_rfl) (fun w' => Below w3.heap.size w3 w') (fun x y => Below x.heap.size x y) (fun dq vq _ => match dq with | 31 => vq = .iface 83 (.pointer (some ⟨g, 0, none⟩)) | 32 => vq = .pointer (some ⟨gh, 0, none⟩) | 33 => vq = .pointer (some ⟨gh, 0, none⟩) | 34 => vq = .pointer (some ⟨gh, 0, none⟩) | 35 => vq = .pointer (some ⟨gh, 1, none⟩) | 36 => vq = .func (.method "loop.example/g00413/impl.short") #[.iface 83 (.pointer (some ⟨g, 0, none⟩))] #[] | 37 => vq = .func (.method "loop.example/g00413/impl.short") #[.iface 83 (.pointer (some ⟨g, 0, none⟩))] #[] | 38 => vq = .iface 83 (.pointer (some ⟨g, 0, none⟩)) | _ => True) (by kernel_rfl) (by kernel_rfl) ((Below.refl _ _).drew) (fun _ _ _ _ _ _ h => h) (by simp) ?hops ?hend
        case hops =>
          simp only [List.take_succ_cons, List.take_zero, List.forall_mem_cons]
          refine ⟨?o31, ?o32, ?o33, ?o34, ?o35, ?o36, ?o37, ?o38, fun _ h => by cases h⟩
          case o31 =>
            intro Q a w2 hC hV hI
            have e1 : a.eval (.tmp 1) = .iface 83 (.pointer (some ⟨g, 0, none⟩)) := (hI 1 (by simp [Op.operands]) (by kernel_rfl)).trans rfl
            have f1 : a.tmps.getD 1 undef = .iface 83 (.pointer (some ⟨g, 0, none⟩)) := e1
            have g1 : a.tmps[1]?.getD undef = .iface 83 (.pointer (some ⟨g, 0, none⟩)) := by rw [← Array.getD_eq_getD_getElem?]; exact e1
            refine op_val (.iface 83 (.pointer (some ⟨g, 0, none⟩))) ?_ hC (Below.refl _ _) (by intro d hd; cases hd; rfl)
            (clear hV hI hC; go_simp <;> (first | rfl | simp | (rw [IntKind.wrap_i64]; omega)))
          case o32 =>
            intro Q a w2 hC hV hI
            have e0 : a.eval (.tmp 0) = .pointer (some ⟨gh, 0, none⟩) := (hI 0 (by simp [Op.operands]) (by kernel_rfl)).trans rfl
            have f0 : a.tmps.getD 0 undef = .pointer (some ⟨gh, 0, none⟩) := e0
            have g0 : a.tmps[0]?.getD undef = .pointer (some ⟨gh, 0, none⟩) := by rw [← Array.getD_eq_getD_getElem?]; exact e0
            refine op_val (.pointer (some ⟨gh, 0, none⟩)) ?_ hC (Below.refl _ _) (by intro d hd; cases hd; rfl)
            (clear hV hI hC; go_simp <;> (first | rfl | simp | (rw [IntKind.wrap_i64]; omega)))
          case o33 =>
            intro Q a w2 hC hV hI
            have e32 : a.eval (.tmp 32) = .pointer (some ⟨gh, 0, none⟩) := hV 32 (by simp [Op.operands]) (by kernel_rfl)
            have f32 : a.tmps.getD 32 undef = .pointer (some ⟨gh, 0, none⟩) := e32
            have g32 : a.tmps[32]?.getD undef = .pointer (some ⟨gh, 0, none⟩) := by rw [← Array.getD_eq_getD_getElem?]; exact e32
            refine op_val (.pointer (some ⟨gh, 0, none⟩)) ?_ hC (Below.refl _ _) (by intro d hd; cases hd; rfl)
            (clear hV hI hC; go_simp <;> (first | rfl | simp | (rw [IntKind.wrap_i64]; omega)))
          case o34 =>
            intro Q a w2 hC hV hI
            have e33 : a.eval (.tmp 33) = .pointer (some ⟨gh, 0, none⟩) := hV 33 (by simp [Op.operands]) (by kernel_rfl)
            have f33 : a.tmps.getD 33 undef = .pointer (some ⟨gh, 0, none⟩) := e33
            have g33 : a.tmps[33]?.getD undef = .pointer (some ⟨gh, 0, none⟩) := by rw [← Array.getD_eq_getD_getElem?]; exact e33
            refine op_val (.pointer (some ⟨gh, 0, none⟩)) ?_ hC (Below.refl _ _) (by intro d hd; cases hd; rfl)
            (clear hV hI hC; go_simp <;> (first | rfl | simp | (rw [IntKind.wrap_i64]; omega)))
          case o35 =>
            intro Q a w2 hC hV hI
            have e34 : a.eval (.tmp 34) = .pointer (some ⟨gh, 0, none⟩) := hV 34 (by simp [Op.operands]) (by kernel_rfl)
            have f34 : a.tmps.getD 34 undef = .pointer (some ⟨gh, 0, none⟩) := e34
            have g34 : a.tmps[34]?.getD undef = .pointer (some ⟨gh, 0, none⟩) := by rw [← Array.getD_eq_getD_getElem?]; exact e34
            refine op_val (.pointer (some ⟨gh, 1, none⟩)) ?_ hC (Below.refl _ _) (by intro d hd; cases hd; rfl)
            (clear hV hI hC; go_simp <;> (first | rfl | simp | (rw [IntKind.wrap_i64]; omega)))
          case o36 =>
            intro Q a w2 hC hV hI
            have e31 : a.eval (.tmp 31) = .iface 83 (.pointer (some ⟨g, 0, none⟩)) := hV 31 (by simp [Op.operands]) (by kernel_rfl)
            have f31 : a.tmps.getD 31 undef = .iface 83 (.pointer (some ⟨g, 0, none⟩)) := e31
            have g31 : a.tmps[31]?.getD undef = .iface 83 (.pointer (some ⟨g, 0, none⟩)) := by rw [← Array.getD_eq_getD_getElem?]; exact e31
            refine op_val (.func (.method "loop.example/g00413/impl.short") #[.iface 83 (.pointer (some ⟨g, 0, none⟩))] #[]) ?_ hC (Below.refl _ _) (by intro d hd; cases hd; rfl)
            (clear hV hI hC; go_simp <;> (first | rfl | simp | (rw [IntKind.wrap_i64]; omega)))
          case o37 =>
            intro Q a w2 hC hV hI
            have e36 : a.eval (.tmp 36) = .func (.method "loop.example/g00413/impl.short") #[.iface 83 (.pointer (some ⟨g, 0, none⟩))] #[] := hV 36 (by simp [Op.operands]) (by kernel_rfl)
            have f36 : a.tmps.getD 36 undef = .func (.method "loop.example/g00413/impl.short") #[.iface 83 (.pointer (some ⟨g, 0, none⟩))] #[] := e36
            have g36 : a.tmps[36]?.getD undef = .func (.method "loop.example/g00413/impl.short") #[.iface 83 (.pointer (some ⟨g, 0, none⟩))] #[] := by rw [← Array.getD_eq_getD_getElem?]; exact e36
            refine op_val (.func (.method "loop.example/g00413/impl.short") #[.iface 83 (.pointer (some ⟨g, 0, none⟩))] #[]) ?_ hC (Below.refl _ _) (by intro d hd; cases hd; rfl)
            (clear hV hI hC; go_simp <;> (first | rfl | simp | (rw [IntKind.wrap_i64]; omega)))
          case o38 =>
            intro Q a w2 hC hV hI
            have e31 : a.eval (.tmp 31) = .iface 83 (.pointer (some ⟨g, 0, none⟩)) := hV 31 (by simp [Op.operands]) (by kernel_rfl)
            have f31 : a.tmps.getD 31 undef = .iface 83 (.pointer (some ⟨g, 0, none⟩)) := e31
            have g31 : a.tmps[31]?.getD undef = .iface 83 (.pointer (some ⟨g, 0, none⟩)) := by rw [← Array.getD_eq_getD_getElem?]; exact e31
            refine op_val (.iface 83 (.pointer (some ⟨g, 0, none⟩))) ?_ hC (Below.refl _ _) (by intro d hd; cases hd; rfl)
            (clear hV hI hC; go_simp <;> (first | rfl | simp | (rw [IntKind.wrap_i64]; omega)))
        case hend =>
          intro f v4 hC hall
          simp only [List.take_succ_cons, List.take_zero, List.drop_succ_cons, List.drop_zero] at hall ⊢
          simp only [List.forall_mem_cons] at hall
          obtain ⟨h31, h32, h33, h34, h35, h36, h37, h38, _⟩ := hall
          replace h31 : f 31 = .iface 83 (.pointer (some ⟨g, 0, none⟩)) := h31 31 rfl
          replace h32 : f 32 = .pointer (some ⟨gh, 0, none⟩) := h32 32 rfl
          replace h33 : f 33 = .pointer (some ⟨gh, 0, none⟩) := h33 33 rfl
          replace h34 : f 34 = .pointer (some ⟨gh, 0, none⟩) := h34 34 rfl
          replace h35 : f 35 = .pointer (some ⟨gh, 1, none⟩) := h35 35 rfl
          replace h36 : f 36 = .func (.method "loop.example/g00413/impl.short") #[.iface 83 (.pointer (some ⟨g, 0, none⟩))] #[] := h36 36 rfl
          replace h37 : f 37 = .func (.method "loop.example/g00413/impl.short") #[.iface 83 (.pointer (some ⟨g, 0, none⟩))] #[] := h37 37 rfl
          replace h38 : f 38 = .iface 83 (.pointer (some ⟨g, 0, none⟩)) := h38 38 rfl
          simp only [putAll, Act.put, List.setIfInBounds_toArray, List.set_cons_succ, List.set_cons_zero, h31, h32, h33, h34, h35, h36, h37, h38]
          clear h31 h32 h33 h34 h35 h36 h37 h38
          have W4 := Lib.hid (HW3.out.below hC)
          have H4 := Lib.hid ((hC.block gh (by have := HW3.out.lt; omega)).trans HH3.out)
          have C4 := Lib.hid (B3.out.trans (hC.mono (by have := HW3.out.lt; omega)))
          clear hC HW3 HH3 B3
          have hx4 : v4.cell? ⟨gh, 1, none⟩ = some (.int .i64 c.Mode) := by simp [World.cell?, H4.out]
          have q4 := Lib.hid (short_w g gh 1 hi l3 r3 c.Mode v4 W4.out (by omega) hx4)
          clear hx4
          go_wp2_with fail
          refine q4.out.mono ?_
          rintro e w4 ⟨rfl, hw, hb⟩
          obtain ⟨l4, hl⟩ : ∃ l : List UInt8, l = l3 ++ (put16v c.Mode hi).data.toList := ⟨_, rfl⟩
          obtain ⟨r4, hr⟩ : ∃ r : Bool, r = (r3 || !r16 c.Mode) := ⟨_, rfl⟩
          have z4 : l4.length = 8 := by rw [hl, List.length_append, ba_len, put16_size]; omega
          rw [← hl] at hw HL
          rw [← hr] at hw HR
          have HW4 := Lib.hid hw
          have HH4 := Lib.hid ((hb.block gh hgh).trans H4.out)
          have B4 := Lib.hid (C4.out.trans hb)
          clear hw hb hl hr H4 W4 C4 q4 z3
          go_upto_region 5 with fail
          refine wp_region_cut 8 (by kernel_rfl) (fun w' => Below w4.heap.size w4 w') (fun x y => Below x.heap.size x y) (fun dq vq _ => match dq with | 40 => vq = .iface 83 (.pointer (some ⟨g, 0, none⟩)) | 41 => vq = .pointer (some ⟨gh, 0, none⟩) | 42 => vq = .pointer (some ⟨gh, 0, none⟩) | 43 => vq = .pointer (some ⟨gh, 0, none⟩) | 44 => vq = .pointer (some ⟨gh, 2, none⟩) | 45 => vq = .func (.method "loop.example/g00413/impl.short") #[.iface 83 (.pointer (some ⟨g, 0, none⟩))] #[] | 46 => vq = .func (.method "loop.example/g00413/impl.short") #[.iface 83 (.pointer (some ⟨g, 0, none⟩))] #[] | 47 => vq = .iface 83 (.pointer (some ⟨g, 0, none⟩)) | _ => True) (by kernel_rfl) (by kernel_rfl) ((Below.refl _ _).drew) (fun _ _ _ _ _ _ h => h) (by simp) ?hops ?hend
          case hops =>
            simp only [List.take_succ_cons, List.take_zero, List.forall_mem_cons]
            refine ⟨?o40, ?o41, ?o42, ?o43, ?o44, ?o45, ?o46, ?o47, fun _ h => by cases h⟩
            case o40 =>
              intro Q a w2 hC hV hI
              have e1 : a.eval (.tmp 1) = .iface 83 (.pointer (some ⟨g, 0, none⟩)) := (hI 1 (by simp [Op.operands]) (by kernel_rfl)).trans rfl
              have f1 : a.tmps.getD 1 undef = .iface 83 (.pointer (some ⟨g, 0, none⟩)) := e1
              have g1 : a.tmps[1]?.getD undef = .iface 83 (.pointer (some ⟨g, 0, none⟩)) := by rw [← Array.getD_eq_getD_getElem?]; exact e1
              refine op_val (.iface 83 (.pointer (some ⟨g, 0, none⟩))) ?_ hC (Below.refl _ _) (by intro d hd; cases hd; rfl)
              (clear hV hI hC; go_simp <;> (first | rfl | simp | (rw [IntKind.wrap_i64]; omega)))
            case o41 =>
              intro Q a w2 hC hV hI
              have e0 : a.eval (.tmp 0) = .pointer (some ⟨gh, 0, none⟩) := (hI 0 (by simp [Op.operands]) (by kernel_rfl)).trans rfl
              have f0 : a.tmps.getD 0 undef = .pointer (some ⟨gh, 0, none⟩) := e0
              have g0 : a.tmps[0]?.getD undef = .pointer (some ⟨gh, 0, none⟩) := by rw [← Array.getD_eq_getD_getElem?]; exact e0
              refine op_val (.pointer (some ⟨gh, 0, none⟩)) ?_ hC (Below.refl _ _) (by intro d hd; cases hd; rfl)
              (clear hV hI hC; go_simp <;> (first | rfl | simp | (rw [IntKind.wrap_i64]; omega)))
            case o42 =>
              intro Q a w2 hC hV hI
              have e41 : a.eval (.tmp 41) = .pointer (some ⟨gh, 0, none⟩) := hV 41 (by simp [Op.operands]) (by kernel_rfl)
              have f41 : a.tmps.getD 41 undef = .pointer (some ⟨gh, 0, none⟩) := e41
              have g41 : a.tmps[41]?.getD undef = .pointer (some ⟨gh, 0, none⟩) := by rw [← Array.getD_eq_getD_getElem?]; exact e41
              refine op_val (.pointer (some ⟨gh, 0, none⟩)) ?_ hC (Below.refl _ _) (by intro d hd; cases hd; rfl)
              (clear hV hI hC; go_simp <;> (first | rfl | simp | (rw [IntKind.wrap_i64]; omega)))
            case o43 =>
              intro Q a w2 hC hV hI
              have e42 : a.eval (.tmp 42) = .pointer (some ⟨gh, 0, none⟩) := hV 42 (by simp [Op.operands]) (by kernel_rfl)
              have f42 : a.tmps.getD 42 undef = .pointer (some ⟨gh, 0, none⟩) := e42
              have g42 : a.tmps[42]?.getD undef = .pointer (some ⟨gh, 0, none⟩) := by rw [← Array.getD_eq_getD_getElem?]; exact e42
              refine op_val (.pointer (some ⟨gh, 0, none⟩)) ?_ hC (Below.refl _ _) (by intro d hd; cases hd; rfl)
              (clear hV hI hC; go_simp <;> (first | rfl | simp | (rw [IntKind.wrap_i64]; omega)))
            case o44 =>
              intro Q a w2 hC hV hI
              have e43 : a.eval (.tmp 43) = .pointer (some ⟨gh, 0, none⟩) := hV 43 (by simp [Op.operands]) (by kernel_rfl)
              have f43 : a.tmps.getD 43 undef = .pointer (some ⟨gh, 0, none⟩) := e43
              have g43 : a.tmps[43]?.getD undef = .pointer (some ⟨gh, 0, none⟩) := by rw [← Array.getD_eq_getD_getElem?]; exact e43
              refine op_val (.pointer (some ⟨gh, 2, none⟩)) ?_ hC (Below.refl _ _) (by intro d hd; cases hd; rfl)
              (clear hV hI hC; go_simp <;> (first | rfl | simp | (rw [IntKind.wrap_i64]; omega)))
            case o45 =>
              intro Q a w2 hC hV hI
              have e40 : a.eval (.tmp 40) = .iface 83 (.pointer (some ⟨g, 0, none⟩)) := hV 40 (by simp [Op.operands]) (by kernel_rfl)
              have f40 : a.tmps.getD 40 undef = .iface 83 (.pointer (some ⟨g, 0, none⟩)) := e40
              have g40 : a.tmps[40]?.getD undef = .iface 83 (.pointer (some ⟨g, 0, none⟩)) := by rw [← Array.getD_eq_getD_getElem?]; exact e40
              refine op_val (.func (.method "loop.example/g00413/impl.short") #[.iface 83 (.pointer (some ⟨g, 0, none⟩))] #[]) ?_ hC (Below.refl _ _) (by intro d hd; cases hd; rfl)
              (clear hV hI hC; go_simp <;> (first | rfl | simp | (rw [IntKind.wrap_i64]; omega)))
            case o46 =>
              intro Q a w2 hC hV hI
              have e45 : a.eval (.tmp 45) = .func (.method "loop.example/g00413/impl.short") #[.iface 83 (.pointer (some ⟨g, 0, none⟩))] #[] := hV 45 (by simp [Op.operands]) (by kernel_rfl)
              have f45 : a.tmps.getD 45 undef = .func (.method "loop.example/g00413/impl.short") #[.iface 83 (.pointer (some ⟨g, 0, none⟩))] #[] := e45
              have g45 : a.tmps[45]?.getD undef = .func (.method "loop.example/g00413/impl.short") #[.iface 83 (.pointer (some ⟨g, 0, none⟩))] #[] := by rw [← Array.getD_eq_getD_getElem?]; exact e45
              refine op_val (.func (.method "loop.example/g00413/impl.short") #[.iface 83 (.pointer (some ⟨g, 0, none⟩))] #[]) ?_ hC (Below.refl _ _) (by intro d hd; cases hd; rfl)
              (clear hV hI hC; go_simp <;> (first | rfl | simp | (rw [IntKind.wrap_i64]; omega)))
            case o47 =>
              intro Q a w2 hC hV hI
              have e40 : a.eval (.tmp 40) = .iface 83 (.pointer (some ⟨g, 0, none⟩)) := hV 40 (by simp [Op.operands]) (by kernel_rfl)
              have f40 : a.tmps.getD 40 undef = .iface 83 (.pointer (some ⟨g, 0, none⟩)) := e40
              have g40 : a.tmps[40]?.getD undef = .iface 83 (.pointer (some ⟨g, 0, none⟩)) := by rw [← Array.getD_eq_getD_getElem?]; exact e40
              refine op_val (.iface 83 (.pointer (some ⟨g, 0, none⟩))) ?_ hC (Below.refl _ _) (by intro d hd; cases hd; rfl)
              (clear hV hI hC; go_simp <;> (first | rfl | simp | (rw [IntKind.wrap_i64]; omega)))
          case hend =>
            intro f v5 hC hall
            simp only [List.take_succ_cons, List.take_zero, List.drop_succ_cons, List.drop_zero] at hall ⊢
            simp only [List.forall_mem_cons] at hall
            obtain ⟨h40, h41, h42, h43, h44, h45, h46, h47, _⟩ := hall
            replace h40 : f 40 = .iface 83 (.pointer (some ⟨g, 0, none⟩)) := h40 40 rfl
            replace h41 : f 41 = .pointer (some ⟨gh, 0, none⟩) := h41 41 rfl
            replace h42 : f 42 = .pointer (some ⟨gh, 0, none⟩) := h42 42 rfl
            replace h43 : f 43 = .pointer (some ⟨gh, 0, none⟩) := h43 43 rfl
            replace h44 : f 44 = .pointer (some ⟨gh, 2, none⟩) := h44 44 rfl
            replace h45 : f 45 = .func (.method "loop.example/g00413/impl.short") #[.iface 83 (.pointer (some ⟨g, 0, none⟩))] #[] := h45 45 rfl
            replace h46 : f 46 = .func (.method "loop.example/g00413/impl.short") #[.iface 83 (.pointer (some ⟨g, 0, none⟩))] #[] := h46 46 rfl
            replace h47 : f 47 = .iface 83 (.pointer (some ⟨g, 0, none⟩)) := h47 47 rfl
            simp only [putAll, Act.put, List.setIfInBounds_toArray, List.set_cons_succ, List.set_cons_zero, h40, h41, h42, h43, h44, h45, h46, h47]
            clear h40 h41 h42 h43 h44 h45 h46 h47
            have W5 := Lib.hid (HW4.out.below hC)
            have H5 := Lib.hid ((hC.block gh (by have := HW4.out.lt; omega)).trans HH4.out)
            have C5 := Lib.hid (B4.out.trans (hC.mono (by have := HW4.out.lt; omega)))
            clear hC HW4 HH4 B4
            have hx5 : v5.cell? ⟨gh, 2, none⟩ = some (.int .i64 c.Uid) := by simp [World.cell?, H5.out]
            have q5 := Lib.hid (short_w g gh 2 hi l4 r4 c.Uid v5 W5.out (by omega) hx5)
            clear hx5
            go_wp2_with fail
            refine q5.out.mono ?_
            rintro e w5 ⟨rfl, hw, hb⟩
            obtain ⟨l5, hl⟩ : ∃ l : List UInt8, l = l4 ++ (put16v c.Uid hi).data.toList := ⟨_, rfl⟩
            obtain ⟨r5, hr⟩ : ∃ r : Bool, r = (r4 || !r16 c.Uid) := ⟨_, rfl⟩
            have z5 : l5.length = 10 := by rw [hl, List.length_append, ba_len, put16_size]; omega
            rw [← hl] at hw HL
            rw [← hr] at hw HR
            have HW5 := Lib.hid hw
            have HH5 := Lib.hid ((hb.block gh hgh).trans H5.out)
            have B5 := Lib.hid (C5.out.trans hb)
            clear hw hb hl hr H5 W5 C5 q5 z4
            go_upto_region 6 with fail
            refine wp_region_cut 8 (by kernel_rfl) (fun w' => Below w5.heap.size w5 w') (fun x y => Below x.heap.size x y) (fun dq vq _ => match dq with | 49 => vq = .iface 83 (.pointer (some ⟨g, 0, none⟩)) | 50 => vq = .pointer (some ⟨gh, 0, none⟩) | 51 => vq = .pointer (some ⟨gh, 0, none⟩) | 52 => vq = .pointer (some ⟨gh, 0, none⟩) | 53 => vq = .pointer (some ⟨gh, 3, none⟩) | 54 => vq = .func (.method "loop.example/g00413/impl.short") #[.iface 83 (.pointer (some ⟨g, 0, none⟩))] #[] | 55 => vq = .func (.method "loop.example/g00413/impl.short") #[.iface 83 (.pointer (some ⟨g, 0, none⟩))] #[] | 56 => vq = .iface 83 (.pointer (some ⟨g, 0, none⟩)) | _ => True) (by kernel_rfl) (by kernel_rfl) ((Below.refl _ _).drew) (fun _ _ _ _ _ _ h => h) (by simp) ?hops ?hend
            case hops =>
              simp only [List.take_succ_cons, List.take_zero, List.forall_mem_cons]
              refine ⟨?o49, ?o50, ?o51, ?o52, ?o53, ?o54, ?o55, ?o56, fun _ h => by cases h⟩
              case o49 =>
                intro Q a w2 hC hV hI
                have e1 : a.eval (.tmp 1) = .iface 83 (.pointer (some ⟨g, 0, none⟩)) := (hI 1 (by simp [Op.operands]) (by kernel_rfl)).trans rfl
                have f1 : a.tmps.getD 1 undef = .iface 83 (.pointer (some ⟨g, 0, none⟩)) := e1
                have g1 : a.tmps[1]?.getD undef = .iface 83 (.pointer (some ⟨g, 0, none⟩)) := by rw [← Array.getD_eq_getD_getElem?]; exact e1
                refine op_val (.iface 83 (.pointer (some ⟨g, 0, none⟩))) ?_ hC (Below.refl _ _) (by intro d hd; cases hd; rfl)
                (clear hV hI hC; go_simp <;> (first | rfl | simp | (rw [IntKind.wrap_i64]; omega)))
              case o50 =>
                intro Q a w2 hC hV hI
                have e0 : a.eval (.tmp 0) = .pointer (some ⟨gh, 0, none⟩) := (hI 0 (by simp [Op.operands]) (by kernel_rfl)).trans rfl
                have f0 : a.tmps.getD 0 undef = .pointer (some ⟨gh, 0, none⟩) := e0
                have g0 : a.tmps[0]?.getD undef = .pointer (some ⟨gh, 0, none⟩) := by rw [← Array.getD_eq_getD_getElem?]; exact e0
                refine op_val (.pointer (some ⟨gh, 0, none⟩)) ?_ hC (Below.refl _ _) (by intro d hd; cases hd; rfl)
                (clear hV hI hC; go_simp <;> (first | rfl | simp | (rw [IntKind.wrap_i64]; omega)))
              case o51 =>
                intro Q a w2 hC hV hI
                have e50 : a.eval (.tmp 50) = .pointer (some ⟨gh, 0, none⟩) := hV 50 (by simp [Op.operands]) (by kernel_rfl)
                have f50 : a.tmps.getD 50 undef = .pointer (some ⟨gh, 0, none⟩) := e50
                have g50 : a.tmps[50]?.getD undef = .pointer (some ⟨gh, 0, none⟩) := by rw [← Array.getD_eq_getD_getElem?]; exact e50
                refine op_val (.pointer (some ⟨gh, 0, none⟩)) ?_ hC (Below.refl _ _) (by intro d hd; cases hd; rfl)
                (clear hV hI hC; go_simp <;> (first | rfl | simp | (rw [IntKind.wrap_i64]; omega)))
              case o52 =>
                intro Q a w2 hC hV hI
                have e51 : a.eval (.tmp 51) = .pointer (some ⟨gh, 0, none⟩) := hV 51 (by simp [Op.operands]) (by kernel_rfl)
                have f51 : a.tmps.getD 51 undef = .pointer (some ⟨gh, 0, none⟩) := e51
                have g51 : a.tmps[51]?.getD undef = .pointer (some ⟨gh, 0, none⟩) := by rw [← Array.getD_eq_getD_getElem?]; exact e51
                refine op_val (.pointer (some ⟨gh, 0, none⟩)) ?_ hC (Below.refl _ _) (by intro d hd; cases hd; rfl)
                (clear hV hI hC; go_simp <;> (first | rfl | simp | (rw [IntKind.wrap_i64]; omega)))
              case o53 =>
                intro Q a w2 hC hV hI
                have e52 : a.eval (.tmp 52) = .pointer (some ⟨gh, 0, none⟩) := hV 52 (by simp [Op.operands]) (by kernel_rfl)
                have f52 : a.tmps.getD 52 undef = .pointer (some ⟨gh, 0, none⟩) := e52
                have g52 : a.tmps[52]?.getD undef = .pointer (some ⟨gh, 0, none⟩) := by rw [← Array.getD_eq_getD_getElem?]; exact e52
                refine op_val (.pointer (some ⟨gh, 3, none⟩)) ?_ hC (Below.refl _ _) (by intro d hd; cases hd; rfl)
                (clear hV hI hC; go_simp <;> (first | rfl | simp | (rw [IntKind.wrap_i64]; omega)))
              case o54 =>
                intro Q a w2 hC hV hI
                have e49 : a.eval (.tmp 49) = .iface 83 (.pointer (some ⟨g, 0, none⟩)) := hV 49 (by simp [Op.operands]) (by kernel_rfl)
                have f49 : a.tmps.getD 49 undef = .iface 83 (.pointer (some ⟨g, 0, none⟩)) := e49
                have g49 : a.tmps[49]?.getD undef = .iface 83 (.pointer (some ⟨g, 0, none⟩)) := by rw [← Array.getD_eq_getD_getElem?]; exact e49
                refine op_val (.func (.method "loop.example/g00413/impl.short") #[.iface 83 (.pointer (some ⟨g, 0, none⟩))] #[]) ?_ hC (Below.refl _ _) (by intro d hd; cases hd; rfl)
                (clear hV hI hC; go_simp <;> (first | rfl | simp | (rw [IntKind.wrap_i64]; omega)))
              case o55 =>
                intro Q a w2 hC hV hI
                have e54 : a.eval (.tmp 54) = .func (.method "loop.example/g00413/impl.short") #[.iface 83 (.pointer (some ⟨g, 0, none⟩))] #[] := hV 54 (by simp [Op.operands]) (by kernel_rfl)
                have f54 : a.tmps.getD 54 undef = .func (.method "loop.example/g00413/impl.short") #[.iface 83 (.pointer (some ⟨g, 0, none⟩))] #[] := e54
                have g54 : a.tmps[54]?.getD undef = .func (.method "loop.example/g00413/impl.short") #[.iface 83 (.pointer (some ⟨g, 0, none⟩))] #[] := by rw [← Array.getD_eq_getD_getElem?]; exact e54
                refine op_val (.func (.method "loop.example/g00413/impl.short") #[.iface 83 (.pointer (some ⟨g, 0, none⟩))] #[]) ?_ hC (Below.refl _ _) (by intro d hd; cases hd; rfl)
                (clear hV hI hC; go_simp <;> (first | rfl | simp | (rw [IntKind.wrap_i64]; omega)))
              case o56 =>
                intro Q a w2 hC hV hI
                have e49 : a.eval (.tmp 49) = .iface 83 (.pointer (some ⟨g, 0, none⟩)) := hV 49 (by simp [Op.operands]) (by kernel_rfl)
                have f49 : a.tmps.getD 49 undef = .iface 83 (.pointer (some ⟨g, 0, none⟩)) := e49
                have g49 : a.tmps[49]?.getD undef = .iface 83 (.pointer (some ⟨g, 0, none⟩)) := by rw [← Array.getD_eq_getD_getElem?]; exact e49
                refine op_val (.iface 83 (.pointer (some ⟨g, 0, none⟩))) ?_ hC (Below.refl _ _) (by intro d hd; cases hd; rfl)
                (clear hV hI hC; go_simp <;> (first | rfl | simp | (rw [IntKind.wrap_i64]; omega)))
            case hend =>
              intro f v6 hC hall
              simp only [List.take_succ_cons, List.take_zero, List.drop_succ_cons, List.drop_zero] at hall ⊢
              simp only [List.forall_mem_cons] at hall
              obtain ⟨h49, h50, h51, h52, h53, h54, h55, h56, _⟩ := hall
              replace h49 : f 49 = .iface 83 (.pointer (some ⟨g, 0, none⟩)) := h49 49 rfl
              replace h50 : f 50 = .pointer (some ⟨gh, 0, none⟩) := h50 50 rfl
              replace h51 : f 51 = .pointer (some ⟨gh, 0, none⟩) := h51 51 rfl
              replace h52 : f 52 = .pointer (some ⟨gh, 0, none⟩) := h52 52 rfl
              replace h53 : f 53 = .pointer (some ⟨gh, 3, none⟩) := h53 53 rfl
              replace h54 : f 54 = .func (.method "loop.example/g00413/impl.short") #[.iface 83 (.pointer (some ⟨g, 0, none⟩))] #[] := h54 54 rfl
              replace h55 : f 55 = .func (.method "loop.example/g00413/impl.short") #[.iface 83 (.pointer (some ⟨g, 0, none⟩))] #[] := h55 55 rfl
              replace h56 : f 56 = .iface 83 (.pointer (some ⟨g, 0, none⟩)) := h56 56 rfl
              simp only [putAll, Act.put, List.setIfInBounds_toArray, List.set_cons_succ, List.set_cons_zero, h49, h50, h51, h52, h53, h54, h55, h56]
              clear h49 h50 h51 h52 h53 h54 h55 h56
              have W6 := Lib.hid (HW5.out.below hC)
              have H6 := Lib.hid ((hC.block gh (by have := HW5.out.lt; omega)).trans HH5.out)
              have C6 := Lib.hid (B5.out.trans (hC.mono (by have := HW5.out.lt; omega)))
              clear hC HW5 HH5 B5
              have hx6 : v6.cell? ⟨gh, 3, none⟩ = some (.int .i64 c.Gid) := by simp [World.cell?, H6.out]
              have q6 := Lib.hid (short_w g gh 3 hi l5 r5 c.Gid v6 W6.out (by omega) hx6)
              clear hx6
              go_wp2_with fail
              refine q6.out.mono ?_
              rintro e w6 ⟨rfl, hw, hb⟩
              obtain ⟨l6, hl⟩ : ∃ l : List UInt8, l = l5 ++ (put16v c.Gid hi).data.toList := ⟨_, rfl⟩
              obtain ⟨r6, hr⟩ : ∃ r : Bool, r = (r5 || !r16 c.Gid) := ⟨_, rfl⟩
              have z6 : l6.length = 12 := by rw [hl, List.length_append, ba_len, put16_size]; omega
              rw [← hl] at hw HL
              rw [← hr] at hw HR
              have HW6 := Lib.hid hw
              have HH6 := Lib.hid ((hb.block gh hgh).trans H6.out)
              have B6 := Lib.hid (C6.out.trans hb)
              clear hw hb hl hr H6 W6 C6 q6 z5
              go_upto_region 7 with fail
              refine wp_region_cut 8 (by kernel_rfl) (fun w' => Below w6.heap.size w6 w') (fun x y => Below x.heap.size x y) (fun dq vq _ => match dq with | 58 => vq = .iface 83 (.pointer (some ⟨g, 0, none⟩)) | 59 => vq = .pointer (some ⟨gh, 0, none⟩) | 60 => vq = .pointer (some ⟨gh, 0, none⟩) | 61 => vq = .pointer (some ⟨gh, 0, none⟩) | 62 => vq = .pointer (some ⟨gh, 4, none⟩) | 63 => vq = .func (.method "loop.example/g00413/impl.short") #[.iface 83 (.pointer (some ⟨g, 0, none⟩))] #[] | 64 => vq = .func (.method "loop.example/g00413/impl.short") #[.iface 83 (.pointer (some ⟨g, 0, none⟩))] #[] | 65 => vq = .iface 83 (.pointer (some ⟨g, 0, none⟩)) | _ => True) (by kernel_rfl) (by kernel_rfl) ((Below.refl _ _).drew) (fun _ _ _ _ _ _ h => h) (by simp) ?hops ?hend
              case hops =>
                simp only [List.take_succ_cons, List.take_zero, List.forall_mem_cons]
                refine ⟨?o58, ?o59, ?o60, ?o61, ?o62, ?o63, ?o64, ?o65, fun _ h => by cases h⟩
                case o58 =>
                  intro Q a w2 hC hV hI
                  have e1 : a.eval (.tmp 1) = .iface 83 (.pointer (some ⟨g, 0, none⟩)) := (hI 1 (by simp [Op.operands]) (by kernel_rfl)).trans rfl
                  have f1 : a.tmps.getD 1 undef = .iface 83 (.pointer (some ⟨g, 0, none⟩)) := e1
                  have g1 : a.tmps[1]?.getD undef = .iface 83 (.pointer (some ⟨g, 0, none⟩)) := by rw [← Array.getD_eq_getD_getElem?]; exact e1
                  refine op_val (.iface 83 (.pointer (some ⟨g, 0, none⟩))) ?_ hC (Below.refl _ _) (by intro d hd; cases hd; rfl)
                  (clear hV hI hC; go_simp <;> (first | rfl | simp | (rw [IntKind.wrap_i64]; omega)))
                case o59 =>
                  intro Q a w2 hC hV hI
                  have e0 : a.eval (.tmp 0) = .pointer (some ⟨gh, 0, none⟩) := (hI 0 (by simp [Op.operands]) (by kernel_rfl)).trans rfl
                  have f0 : a.tmps.getD 0 undef = .pointer (some ⟨gh, 0, none⟩) := e0
                  have g0 : a.tmps[0]?.getD undef = .pointer (some ⟨gh, 0, none⟩) := by rw [← Array.getD_eq_getD_getElem?]; exact e0
                  refine op_val (.pointer (some ⟨gh, 0, none⟩)) ?_ hC (Below.refl _ _) (by intro d hd; cases hd; rfl)
                  (clear hV hI hC; go_simp <;> (first | rfl | simp | (rw [IntKind.wrap_i64]; omega)))
                case o60 =>
                  intro Q a w2 hC hV hI
                  have e59 : a.eval (.tmp 59) = .pointer (some ⟨gh, 0, none⟩) := hV 59 (by simp [Op.operands]) (by kernel_rfl)
                  have f59 : a.tmps.getD 59 undef = .pointer (some ⟨gh, 0, none⟩) := e59
                  have g59 : a.tmps[59]?.getD undef = .pointer (some ⟨gh, 0, none⟩) := by rw [← Array.getD_eq_getD_getElem?]; exact e59
                  refine op_val (.pointer (some ⟨gh, 0, none⟩)) ?_ hC (Below.refl _ _) (by intro d hd; cases hd; rfl)
                  (clear hV hI hC; go_simp <;> (first | rfl | simp | (rw [IntKind.wrap_i64]; omega)))
                case o61 =>
                  intro Q a w2 hC hV hI
                  have e60 : a.eval (.tmp 60) = .pointer (some ⟨gh, 0, none⟩) := hV 60 (by simp [Op.operands]) (by kernel_rfl)
                  have f60 : a.tmps.getD 60 undef = .pointer (some ⟨gh, 0, none⟩) := e60
                  have g60 : a.tmps[60]?.getD undef = .pointer (some ⟨gh, 0, none⟩) := by rw [← Array.getD_eq_getD_getElem?]; exact e60
                  refine op_val (.pointer (some ⟨gh, 0, none⟩)) ?_ hC (Below.refl _ _) (by intro d hd; cases hd; rfl)
                  (clear hV hI hC; go_simp <;> (first | rfl | simp | (rw [IntKind.wrap_i64]; omega)))
                case o62 =>
                  intro Q a w2 hC hV hI
                  have e61 : a.eval (.tmp 61) = .pointer (some ⟨gh, 0, none⟩) := hV 61 (by simp [Op.operands]) (by kernel_rfl)
                  have f61 : a.tmps.getD 61 undef = .pointer (some ⟨gh, 0, none⟩) := e61
                  have g61 : a.tmps[61]?.getD undef = .pointer (some ⟨gh, 0, none⟩) := by rw [← Array.getD_eq_getD_getElem?]; exact e61
                  refine op_val (.pointer (some ⟨gh, 4, none⟩)) ?_ hC (Below.refl _ _) (by intro d hd; cases hd; rfl)
                  (clear hV hI hC; go_simp <;> (first | rfl | simp | (rw [IntKind.wrap_i64]; omega)))
                case o63 =>
                  intro Q a w2 hC hV hI
                  have e58 : a.eval (.tmp 58) = .iface 83 (.pointer (some ⟨g, 0, none⟩)) := hV 58 (by simp [Op.operands]) (by kernel_rfl)
                  have f58 : a.tmps.getD 58 undef = .iface 83 (.pointer (some ⟨g, 0, none⟩)) := e58
                  have g58 : a.tmps[58]?.getD undef = .iface 83 (.pointer (some ⟨g, 0, none⟩)) := by rw [← Array.getD_eq_getD_getElem?]; exact e58
                  refine op_val (.func (.method "loop.example/g00413/impl.short") #[.iface 83 (.pointer (some ⟨g, 0, none⟩))] #[]) ?_ hC (Below.refl _ _) (by intro d hd; cases hd; rfl)
                  (clear hV hI hC; go_simp <;> (first | rfl | simp | (rw [IntKind.wrap_i64]; omega)))
                case o64 =>
                  intro Q a w2 hC hV hI
                  have e63 : a.eval (.tmp 63) = .func (.method "loop.example/g00413/impl.short") #[.iface 83 (.pointer (some ⟨g, 0, none⟩))] #[] := hV 63 (by simp [Op.operands]) (by kernel_rfl)
                  have f63 : a.tmps.getD 63 undef = .func (.method "loop.example/g00413/impl.short") #[.iface 83 (.pointer (some ⟨g, 0, none⟩))] #[] := e63
                  have g63 : a.tmps[63]?.getD undef = .func (.method "loop.example/g00413/impl.short") #[.iface 83 (.pointer (some ⟨g, 0, none⟩))] #[] := by rw [← Array.getD_eq_getD_getElem?]; exact e63
                  refine op_val (.func (.method "loop.example/g00413/impl.short") #[.iface 83 (.pointer (some ⟨g, 0, none⟩))] #[]) ?_ hC (Below.refl _ _) (by intro d hd; cases hd; rfl)
                  (clear hV hI hC; go_simp <;> (first | rfl | simp | (rw [IntKind.wrap_i64]; omega)))
                case o65 =>
                  intro Q a w2 hC hV hI
                  have e58 : a.eval (.tmp 58) = .iface 83 (.pointer (some ⟨g, 0, none⟩)) := hV 58 (by simp [Op.operands]) (by kernel_rfl)
                  have f58 : a.tmps.getD 58 undef = .iface 83 (.pointer (some ⟨g, 0, none⟩)) := e58
                  have g58 : a.tmps[58]?.getD undef = .iface 83 (.pointer (some ⟨g, 0, none⟩)) := by rw [← Array.getD_eq_getD_getElem?]; exact e58
                  refine op_val (.iface 83 (.pointer (some ⟨g, 0, none⟩))) ?_ hC (Below.refl _ _) (by intro d hd; cases hd; rfl)
                  (clear hV hI hC; go_simp <;> (first | rfl | simp | (rw [IntKind.wrap_i64]; omega)))
              case hend =>
                intro f v7 hC hall
                simp only [List.take_succ_cons, List.take_zero, List.drop_succ_cons, List.drop_zero] at hall ⊢
                simp only [List.forall_mem_cons] at hall
                obtain ⟨h58, h59, h60, h61, h62, h63, h64, h65, _⟩ := hall
                replace h58 : f 58 = .iface 83 (.pointer (some ⟨g, 0, none⟩)) := h58 58 rfl
                replace h59 : f 59 = .pointer (some ⟨gh, 0, none⟩) := h59 59 rfl
                replace h60 : f 60 = .pointer (some ⟨gh, 0, none⟩) := h60 60 rfl
                replace h61 : f 61 = .pointer (some ⟨gh, 0, none⟩) := h61 61 rfl
                replace h62 : f 62 = .pointer (some ⟨gh, 4, none⟩) := h62 62 rfl
                replace h63 : f 63 = .func (.method "loop.example/g00413/impl.short") #[.iface 83 (.pointer (some ⟨g, 0, none⟩))] #[] := h63 63 rfl
                replace h64 : f 64 = .func (.method "loop.example/g00413/impl.short") #[.iface 83 (.pointer (some ⟨g, 0, none⟩))] #[] := h64 64 rfl
                replace h65 : f 65 = .iface 83 (.pointer (some ⟨g, 0, none⟩)) := h65 65 rfl
                simp only [putAll, Act.put, List.setIfInBounds_toArray, List.set_cons_succ, List.set_cons_zero, h58, h59, h60, h61, h62, h63, h64, h65]
                clear h58 h59 h60 h61 h62 h63 h64 h65
                have W7 := Lib.hid (HW6.out.below hC)
                have H7 := Lib.hid ((hC.block gh (by have := HW6.out.lt; omega)).trans HH6.out)
                have C7 := Lib.hid (B6.out.trans (hC.mono (by have := HW6.out.lt; omega)))
                clear hC HW6 HH6 B6
                have hx7 : v7.cell? ⟨gh, 4, none⟩ = some (.int .i64 c.Count) := by simp [World.cell?, H7.out]
                have q7 := Lib.hid (short_w g gh 4 hi l6 r6 c.Count v7 W7.out (by omega) hx7)
                clear hx7
                go_wp2_with fail
                refine q7.out.mono ?_
                rintro e w7 ⟨rfl, hw, hb⟩
                obtain ⟨l7, hl⟩ : ∃ l : List UInt8, l = l6 ++ (put16v c.Count hi).data.toList := ⟨_, rfl⟩
                obtain ⟨r7, hr⟩ : ∃ r : Bool, r = (r6 || !r16 c.Count) := ⟨_, rfl⟩
                have z7 : l7.length = 14 := by rw [hl, List.length_append, ba_len, put16_size]; omega
                rw [← hl] at hw HL
                rw [← hr] at hw HR
                have HW7 := Lib.hid hw
                have HH7 := Lib.hid ((hb.block gh hgh).trans H7.out)
                have B7 := Lib.hid (C7.out.trans hb)
                clear hw hb hl hr H7 W7 C7 q7 z6
                go_upto_region 8 with fail
                refine wp_region_cut 8 (by kernel_rfl) (fun w' => Below w7.heap.size w7 w') (fun x y => Below x.heap.size x y) (fun dq vq _ => match dq with | 67 => vq = .iface 83 (.pointer (some ⟨g, 0, none⟩)) | 68 => vq = .pointer (some ⟨gh, 0, none⟩) | 69 => vq = .pointer (some ⟨gh, 0, none⟩) | 70 => vq = .pointer (some ⟨gh, 9, none⟩) | 71 => vq = .pointer (some ⟨gh, 10, none⟩) | 72 => vq = .func (.method "loop.example/g00413/impl.short") #[.iface 83 (.pointer (some ⟨g, 0, none⟩))] #[] | 73 => vq = .func (.method "loop.example/g00413/impl.short") #[.iface 83 (.pointer (some ⟨g, 0, none⟩))] #[] | 74 => vq = .iface 83 (.pointer (some ⟨g, 0, none⟩)) | _ => True) (by kernel_rfl) (by kernel_rfl) ((Below.refl _ _).drew) (fun _ _ _ _ _ _ h => h) (by simp) ?hops ?hend
                case hops =>
                  simp only [List.take_succ_cons, List.take_zero, List.forall_mem_cons]
                  refine ⟨?o67, ?o68, ?o69, ?o70, ?o71, ?o72, ?o73, ?o74, fun _ h => by cases h⟩
                  case o67 =>
                    intro Q a w2 hC hV hI
                    have e1 : a.eval (.tmp 1) = .iface 83 (.pointer (some ⟨g, 0, none⟩)) := (hI 1 (by simp [Op.operands]) (by kernel_rfl)).trans rfl
                    have f1 : a.tmps.getD 1 undef = .iface 83 (.pointer (some ⟨g, 0, none⟩)) := e1
                    have g1 : a.tmps[1]?.getD undef = .iface 83 (.pointer (some ⟨g, 0, none⟩)) := by rw [← Array.getD_eq_getD_getElem?]; exact e1
                    refine op_val (.iface 83 (.pointer (some ⟨g, 0, none⟩))) ?_ hC (Below.refl _ _) (by intro d hd; cases hd; rfl)
                    (clear hV hI hC; go_simp <;> (first | rfl | simp | (rw [IntKind.wrap_i64]; omega)))
                  case o68 =>
                    intro Q a w2 hC hV hI
                    have e0 : a.eval (.tmp 0) = .pointer (some ⟨gh, 0, none⟩) := (hI 0 (by simp [Op.operands]) (by kernel_rfl)).trans rfl
                    have f0 : a.tmps.getD 0 undef = .pointer (some ⟨gh, 0, none⟩) := e0
                    have g0 : a.tmps[0]?.getD undef = .pointer (some ⟨gh, 0, none⟩) := by rw [← Array.getD_eq_getD_getElem?]; exact e0
                    refine op_val (.pointer (some ⟨gh, 0, none⟩)) ?_ hC (Below.refl _ _) (by intro d hd; cases hd; rfl)
                    (clear hV hI hC; go_simp <;> (first | rfl | simp | (rw [IntKind.wrap_i64]; omega)))
                  case o69 =>
                    intro Q a w2 hC hV hI
                    have e68 : a.eval (.tmp 68) = .pointer (some ⟨gh, 0, none⟩) := hV 68 (by simp [Op.operands]) (by kernel_rfl)
                    have f68 : a.tmps.getD 68 undef = .pointer (some ⟨gh, 0, none⟩) := e68
                    have g68 : a.tmps[68]?.getD undef = .pointer (some ⟨gh, 0, none⟩) := by rw [← Array.getD_eq_getD_getElem?]; exact e68
                    refine op_val (.pointer (some ⟨gh, 0, none⟩)) ?_ hC (Below.refl _ _) (by intro d hd; cases hd; rfl)
                    (clear hV hI hC; go_simp <;> (first | rfl | simp | (rw [IntKind.wrap_i64]; omega)))
                  case o70 =>
                    intro Q a w2 hC hV hI
                    have e69 : a.eval (.tmp 69) = .pointer (some ⟨gh, 0, none⟩) := hV 69 (by simp [Op.operands]) (by kernel_rfl)
                    have f69 : a.tmps.getD 69 undef = .pointer (some ⟨gh, 0, none⟩) := e69
                    have g69 : a.tmps[69]?.getD undef = .pointer (some ⟨gh, 0, none⟩) := by rw [← Array.getD_eq_getD_getElem?]; exact e69
                    refine op_val (.pointer (some ⟨gh, 9, none⟩)) ?_ hC (Below.refl _ _) (by intro d hd; cases hd; rfl)
                    (clear hV hI hC; go_simp <;> (first | rfl | simp | (rw [IntKind.wrap_i64]; omega)))
                  case o71 =>
                    intro Q a w2 hC hV hI
                    have e70 : a.eval (.tmp 70) = .pointer (some ⟨gh, 9, none⟩) := hV 70 (by simp [Op.operands]) (by kernel_rfl)
                    have f70 : a.tmps.getD 70 undef = .pointer (some ⟨gh, 9, none⟩) := e70
                    have g70 : a.tmps[70]?.getD undef = .pointer (some ⟨gh, 9, none⟩) := by rw [← Array.getD_eq_getD_getElem?]; exact e70
                    refine op_val (.pointer (some ⟨gh, 10, none⟩)) ?_ hC (Below.refl _ _) (by intro d hd; cases hd; rfl)
                    (clear hV hI hC; go_simp <;> (first | rfl | simp | (rw [IntKind.wrap_i64]; omega)))
                  case o72 =>
                    intro Q a w2 hC hV hI
                    have e67 : a.eval (.tmp 67) = .iface 83 (.pointer (some ⟨g, 0, none⟩)) := hV 67 (by simp [Op.operands]) (by kernel_rfl)
                    have f67 : a.tmps.getD 67 undef = .iface 83 (.pointer (some ⟨g, 0, none⟩)) := e67
                    have g67 : a.tmps[67]?.getD undef = .iface 83 (.pointer (some ⟨g, 0, none⟩)) := by rw [← Array.getD_eq_getD_getElem?]; exact e67
                    refine op_val (.func (.method "loop.example/g00413/impl.short") #[.iface 83 (.pointer (some ⟨g, 0, none⟩))] #[]) ?_ hC (Below.refl _ _) (by intro d hd; cases hd; rfl)
                    (clear hV hI hC; go_simp <;> (first | rfl | simp | (rw [IntKind.wrap_i64]; omega)))
                  case o73 =>
                    intro Q a w2 hC hV hI
                    have e72 : a.eval (.tmp 72) = .func (.method "loop.example/g00413/impl.short") #[.iface 83 (.pointer (some ⟨g, 0, none⟩))] #[] := hV 72 (by simp [Op.operands]) (by kernel_rfl)
                    have f72 : a.tmps.getD 72 undef = .func (.method "loop.example/g00413/impl.short") #[.iface 83 (.pointer (some ⟨g, 0, none⟩))] #[] := e72
                    have g72 : a.tmps[72]?.getD undef = .func (.method "loop.example/g00413/impl.short") #[.iface 83 (.pointer (some ⟨g, 0, none⟩))] #[] := by rw [← Array.getD_eq_getD_getElem?]; exact e72
                    refine op_val (.func (.method "loop.example/g00413/impl.short") #[.iface 83 (.pointer (some ⟨g, 0, none⟩))] #[]) ?_ hC (Below.refl _ _) (by intro d hd; cases hd; rfl)
                    (clear hV hI hC; go_simp <;> (first | rfl | simp | (rw [IntKind.wrap_i64]; omega)))
                  case o74 =>
                    intro Q a w2 hC hV hI
                    have e67 : a.eval (.tmp 67) = .iface 83 (.pointer (some ⟨g, 0, none⟩)) := hV 67 (by simp [Op.operands]) (by kernel_rfl)
                    have f67 : a.tmps.getD 67 undef = .iface 83 (.pointer (some ⟨g, 0, none⟩)) := e67
                    have g67 : a.tmps[67]?.getD undef = .iface 83 (.pointer (some ⟨g, 0, none⟩)) := by rw [← Array.getD_eq_getD_getElem?]; exact e67
                    refine op_val (.iface 83 (.pointer (some ⟨g, 0, none⟩))) ?_ hC (Below.refl _ _) (by intro d hd; cases hd; rfl)
                    (clear hV hI hC; go_simp <;> (first | rfl | simp | (rw [IntKind.wrap_i64]; omega)))
                case hend =>
                  intro f v8 hC hall
                  simp only [List.take_succ_cons, List.take_zero, List.drop_succ_cons, List.drop_zero] at hall ⊢
                  simp only [List.forall_mem_cons] at hall
                  obtain ⟨h67, h68, h69, h70, h71, h72, h73, h74, _⟩ := hall
                  replace h67 : f 67 = .iface 83 (.pointer (some ⟨g, 0, none⟩)) := h67 67 rfl
                  replace h68 : f 68 = .pointer (some ⟨gh, 0, none⟩) := h68 68 rfl
                  replace h69 : f 69 = .pointer (some ⟨gh, 0, none⟩) := h69 69 rfl
                  replace h70 : f 70 = .pointer (some ⟨gh, 9, none⟩) := h70 70 rfl
                  replace h71 : f 71 = .pointer (some ⟨gh, 10, none⟩) := h71 71 rfl
                  replace h72 : f 72 = .func (.method "loop.example/g00413/impl.short") #[.iface 83 (.pointer (some ⟨g, 0, none⟩))] #[] := h72 72 rfl
                  replace h73 : f 73 = .func (.method "loop.example/g00413/impl.short") #[.iface 83 (.pointer (some ⟨g, 0, none⟩))] #[] := h73 73 rfl
                  replace h74 : f 74 = .iface 83 (.pointer (some ⟨g, 0, none⟩)) := h74 74 rfl
                  simp only [putAll, Act.put, List.setIfInBounds_toArray, List.set_cons_succ, List.set_cons_zero, h67, h68, h69, h70, h71, h72, h73, h74]
                  clear h67 h68 h69 h70 h71 h72 h73 h74
                  have W8 := Lib.hid (HW7.out.below hC)
                  have H8 := Lib.hid ((hC.block gh (by have := HW7.out.lt; omega)).trans HH7.out)
                  have C8 := Lib.hid (B7.out.trans (hC.mono (by have := HW7.out.lt; omega)))
                  clear hC HW7 HH7 B7
                  have hx8 : v8.cell? ⟨gh, 10, none⟩ = some (.int .i64 0) := by simp [World.cell?, H8.out]
                  have q8 := Lib.hid (short_w g gh 10 hi l7 r7 0 v8 W8.out (by omega) hx8)
                  clear hx8
                  go_wp2_with fail
                  refine q8.out.mono ?_
                  rintro e w8 ⟨rfl, hw, hb⟩
                  obtain ⟨l8, hl⟩ : ∃ l : List UInt8, l = l7 ++ (put16v 0 hi).data.toList := ⟨_, rfl⟩
                  obtain ⟨r8, hr⟩ : ∃ r : Bool, r = (r7 || !r16 0) := ⟨_, rfl⟩
                  have z8 : l8.length = 16 := by rw [hl, List.length_append, ba_len, put16_size]; omega
                  rw [← hl] at hw HL
                  rw [← hr] at hw HR
                  have HW8 := Lib.hid hw
                  have HH8 := Lib.hid ((hb.block gh hgh).trans H8.out)
                  have B8 := Lib.hid (C8.out.trans hb)
                  clear hw hb hl hr H8 W8 C8 q8 z7
                  go_upto_region 9 with fail
                  refine wp_region_cut 8 (by kernel_rfl) (fun w' => Below w8.heap.size w8 w') (fun x y => Below x.heap.size x y) (fun dq vq _ => match dq with | 76 => vq = .iface 83 (.pointer (some ⟨g, 0, none⟩)) | 77 => vq = .pointer (some ⟨gh, 0, none⟩) | 78 => vq = .pointer (some ⟨gh, 0, none⟩) | 79 => vq = .pointer (some ⟨gh, 0, none⟩) | 80 => vq = .pointer (some ⟨gh, 5, none⟩) | 81 => vq = .func (.method "loop.example/g00413/impl.long") #[.iface 83 (.pointer (some ⟨g, 0, none⟩))] #[] | 82 => vq = .func (.method "loop.example/g00413/impl.long") #[.iface 83 (.pointer (some ⟨g, 0, none⟩))] #[] | 83 => vq = .iface 83 (.pointer (some ⟨g, 0, none⟩)) | _ => True) (by kernel_rfl) (by kernel_rfl) ((Below.refl _ _).drew) (fun _ _ _ _ _ _ h => h) (by simp) ?hops ?hend
                  case hops =>
                    simp only [List.take_succ_cons, List.take_zero, List.forall_mem_cons]
                    refine ⟨?o76, ?o77, ?o78, ?o79, ?o80, ?o81, ?o82, ?o83, fun _ h => by cases h⟩
                    case o76 =>
                      intro Q a w2 hC hV hI
                      have e1 : a.eval (.tmp 1) = .iface 83 (.pointer (some ⟨g, 0, none⟩)) := (hI 1 (by simp [Op.operands]) (by kernel_rfl)).trans rfl
                      have f1 : a.tmps.getD 1 undef = .iface 83 (.pointer (some ⟨g, 0, none⟩)) := e1
                      have g1 : a.tmps[1]?.getD undef = .iface 83 (.pointer (some ⟨g, 0, none⟩)) := by rw [← Array.getD_eq_getD_getElem?]; exact e1
                      refine op_val (.iface 83 (.pointer (some ⟨g, 0, none⟩))) ?_ hC (Below.refl _ _) (by intro d hd; cases hd; rfl)
                      (clear hV hI hC; go_simp <;> (first | rfl | simp | (rw [IntKind.wrap_i64]; omega)))
                    case o77 =>
                      intro Q a w2 hC hV hI
                      have e0 : a.eval (.tmp 0) = .pointer (some ⟨gh, 0, none⟩) := (hI 0 (by simp [Op.operands]) (by kernel_rfl)).trans rfl
                      have f0 : a.tmps.getD 0 undef = .pointer (some ⟨gh, 0, none⟩) := e0
                      have g0 : a.tmps[0]?.getD undef = .pointer (some ⟨gh, 0, none⟩) := by rw [← Array.getD_eq_getD_getElem?]; exact e0
                      refine op_val (.pointer (some ⟨gh, 0, none⟩)) ?_ hC (Below.refl _ _) (by intro d hd; cases hd; rfl)
                      (clear hV hI hC; go_simp <;> (first | rfl | simp | (rw [IntKind.wrap_i64]; omega)))
                    case o78 =>
                      intro Q a w2 hC hV hI
                      have e77 : a.eval (.tmp 77) = .pointer (some ⟨gh, 0, none⟩) := hV 77 (by simp [Op.operands]) (by kernel_rfl)
                      have f77 : a.tmps.getD 77 undef = .pointer (some ⟨gh, 0, none⟩) := e77
                      have g77 : a.tmps[77]?.getD undef = .pointer (some ⟨gh, 0, none⟩) := by rw [← Array.getD_eq_getD_getElem?]; exact e77
                      refine op_val (.pointer (some ⟨gh, 0, none⟩)) ?_ hC (Below.refl _ _) (by intro d hd; cases hd; rfl)
                      (clear hV hI hC; go_simp <;> (first | rfl | simp | (rw [IntKind.wrap_i64]; omega)))
                    case o79 =>
                      intro Q a w2 hC hV hI
                      have e78 : a.eval (.tmp 78) = .pointer (some ⟨gh, 0, none⟩) := hV 78 (by simp [Op.operands]) (by kernel_rfl)
                      have f78 : a.tmps.getD 78 undef = .pointer (some ⟨gh, 0, none⟩) := e78
                      have g78 : a.tmps[78]?.getD undef = .pointer (some ⟨gh, 0, none⟩) := by rw [← Array.getD_eq_getD_getElem?]; exact e78
                      refine op_val (.pointer (some ⟨gh, 0, none⟩)) ?_ hC (Below.refl _ _) (by intro d hd; cases hd; rfl)
                      (clear hV hI hC; go_simp <;> (first | rfl | simp | (rw [IntKind.wrap_i64]; omega)))
                    case o80 =>
                      intro Q a w2 hC hV hI
                      have e79 : a.eval (.tmp 79) = .pointer (some ⟨gh, 0, none⟩) := hV 79 (by simp [Op.operands]) (by kernel_rfl)
                      have f79 : a.tmps.getD 79 undef = .pointer (some ⟨gh, 0, none⟩) := e79
                      have g79 : a.tmps[79]?.getD undef = .pointer (some ⟨gh, 0, none⟩) := by rw [← Array.getD_eq_getD_getElem?]; exact e79
                      refine op_val (.pointer (some ⟨gh, 5, none⟩)) ?_ hC (Below.refl _ _) (by intro d hd; cases hd; rfl)
                      (clear hV hI hC; go_simp <;> (first | rfl | simp | (rw [IntKind.wrap_i64]; omega)))
                    case o81 =>
                      intro Q a w2 hC hV hI
                      have e76 : a.eval (.tmp 76) = .iface 83 (.pointer (some ⟨g, 0, none⟩)) := hV 76 (by simp [Op.operands]) (by kernel_rfl)
                      have f76 : a.tmps.getD 76 undef = .iface 83 (.pointer (some ⟨g, 0, none⟩)) := e76
                      have g76 : a.tmps[76]?.getD undef = .iface 83 (.pointer (some ⟨g, 0, none⟩)) := by rw [← Array.getD_eq_getD_getElem?]; exact e76
                      refine op_val (.func (.method "loop.example/g00413/impl.long") #[.iface 83 (.pointer (some ⟨g, 0, none⟩))] #[]) ?_ hC (Below.refl _ _) (by intro d hd; cases hd; rfl)
                      (clear hV hI hC; go_simp <;> (first | rfl | simp | (rw [IntKind.wrap_i64]; omega)))
                    case o82 =>
                      intro Q a w2 hC hV hI
                      have e81 : a.eval (.tmp 81) = .func (.method "loop.example/g00413/impl.long") #[.iface 83 (.pointer (some ⟨g, 0, none⟩))] #[] := hV 81 (by simp [Op.operands]) (by kernel_rfl)
                      have f81 : a.tmps.getD 81 undef = .func (.method "loop.example/g00413/impl.long") #[.iface 83 (.pointer (some ⟨g, 0, none⟩))] #[] := e81
                      have g81 : a.tmps[81]?.getD undef = .func (.method "loop.example/g00413/impl.long") #[.iface 83 (.pointer (some ⟨g, 0, none⟩))] #[] := by rw [← Array.getD_eq_getD_getElem?]; exact e81
                      refine op_val (.func (.method "loop.example/g00413/impl.long") #[.iface 83 (.pointer (some ⟨g, 0, none⟩))] #[]) ?_ hC (Below.refl _ _) (by intro d hd; cases hd; rfl)
                      (clear hV hI hC; go_simp <;> (first | rfl | simp | (rw [IntKind.wrap_i64]; omega)))
                    case o83 =>
                      intro Q a w2 hC hV hI
                      have e76 : a.eval (.tmp 76) = .iface 83 (.pointer (some ⟨g, 0, none⟩)) := hV 76 (by simp [Op.operands]) (by kernel_rfl)
                      have f76 : a.tmps.getD 76 undef = .iface 83 (.pointer (some ⟨g, 0, none⟩)) := e76
                      have g76 : a.tmps[76]?.getD undef = .iface 83 (.pointer (some ⟨g, 0, none⟩)) := by rw [← Array.getD_eq_getD_getElem?]; exact e76
                      refine op_val (.iface 83 (.pointer (some ⟨g, 0, none⟩))) ?_ hC (Below.refl _ _) (by intro d hd; cases hd; rfl)
                      (clear hV hI hC; go_simp <;> (first | rfl | simp | (rw [IntKind.wrap_i64]; omega)))
                  case hend =>
                    intro f v9 hC hall
                    simp only [List.take_succ_cons, List.take_zero, List.drop_succ_cons, List.drop_zero] at hall ⊢
                    simp only [List.forall_mem_cons] at hall
                    obtain ⟨h76, h77, h78, h79, h80, h81, h82, h83, _⟩ := hall
                    replace h76 : f 76 = .iface 83 (.pointer (some ⟨g, 0, none⟩)) := h76 76 rfl
                    replace h77 : f 77 = .pointer (some ⟨gh, 0, none⟩) := h77 77 rfl
                    replace h78 : f 78 = .pointer (some ⟨gh, 0, none⟩) := h78 78 rfl
                    replace h79 : f 79 = .pointer (some ⟨gh, 0, none⟩) := h79 79 rfl
                    replace h80 : f 80 = .pointer (some ⟨gh, 5, none⟩) := h80 80 rfl
                    replace h81 : f 81 = .func (.method "loop.example/g00413/impl.long") #[.iface 83 (.pointer (some ⟨g, 0, none⟩))] #[] := h81 81 rfl
                    replace h82 : f 82 = .func (.method "loop.example/g00413/impl.long") #[.iface 83 (.pointer (some ⟨g, 0, none⟩))] #[] := h82 82 rfl
                    replace h83 : f 83 = .iface 83 (.pointer (some ⟨g, 0, none⟩)) := h83 83 rfl
                    simp only [putAll, Act.put, List.setIfInBounds_toArray, List.set_cons_succ, List.set_cons_zero, h76, h77, h78, h79, h80, h81, h82, h83]
                    clear h76 h77 h78 h79 h80 h81 h82 h83
                    have W9 := Lib.hid (HW8.out.below hC)
                    have H9 := Lib.hid ((hC.block gh (by have := HW8.out.lt; omega)).trans HH8.out)
                    have C9 := Lib.hid (B8.out.trans (hC.mono (by have := HW8.out.lt; omega)))
                    clear hC HW8 HH8 B8
                    have hx9 : v9.cell? ⟨gh, 5, none⟩ = some (.int .i64 c.Time) := by simp [World.cell?, H9.out]
                    have q9 := Lib.hid (long_w g gh 5 hi l8 r8 c.Time v9 W9.out (by omega) hx9)
                    clear hx9
                    go_wp2_with fail
                    refine q9.out.mono ?_
                    rintro e w9 ⟨rfl, hw, hb⟩
                    obtain ⟨l9, hl⟩ : ∃ l : List UInt8, l = l8 ++ (put32v c.Time hi).data.toList := ⟨_, rfl⟩
                    obtain ⟨r9, hr⟩ : ∃ r : Bool, r = (r8 || !r32 c.Time) := ⟨_, rfl⟩
                    have z9 : l9.length = 20 := by rw [hl, List.length_append, ba_len, put32_size]; omega
                    rw [← hl] at hw HL
                    rw [← hr] at hw HR
                    have HW9 := Lib.hid hw
                    have HH9 := Lib.hid ((hb.block gh hgh).trans H9.out)
                    have B9 := Lib.hid (C9.out.trans hb)
                    clear hw hb hl hr H9 W9 C9 q9 z8
                    go_upto_region 10 with fail
                    refine wp_region_cut 7 (by kernel_rfl) (fun w' => Below w9.heap.size w9 w') (fun x y => Below x.heap.size x y) (fun dq vq _ => match dq with | 85 => vq = .iface 83 (.pointer (some ⟨g, 0, none⟩)) | 86 => vq = .pointer (some ⟨gh, 0, none⟩) | 87 => vq = .pointer (some ⟨gh, 0, none⟩) | 88 => vq = .pointer (some ⟨gh, 11, none⟩) | 89 => vq = .func (.method "loop.example/g00413/impl.short") #[.iface 83 (.pointer (some ⟨g, 0, none⟩))] #[] | 90 => vq = .func (.method "loop.example/g00413/impl.short") #[.iface 83 (.pointer (some ⟨g, 0, none⟩))] #[] | 91 => vq = .iface 83 (.pointer (some ⟨g, 0, none⟩)) | _ => True) (by kernel_rfl) (by kernel_rfl) ((Below.refl _ _).drew) (fun _ _ _ _ _ _ h => h) (by simp) ?hops ?hend
                    case hops =>
                      simp only [List.take_succ_cons, List.take_zero, List.forall_mem_cons]
                      refine ⟨?o85, ?o86, ?o87, ?o88, ?o89, ?o90, ?o91, fun _ h => by cases h⟩
                      case o85 =>
                        intro Q a w2 hC hV hI
                        have e1 : a.eval (.tmp 1) = .iface 83 (.pointer (some ⟨g, 0, none⟩)) := (hI 1 (by simp [Op.operands]) (by kernel_rfl)).trans rfl
                        have f1 : a.tmps.getD 1 undef = .iface 83 (.pointer (some ⟨g, 0, none⟩)) := e1
                        have g1 : a.tmps[1]?.getD undef = .iface 83 (.pointer (some ⟨g, 0, none⟩)) := by rw [← Array.getD_eq_getD_getElem?]; exact e1
                        refine op_val (.iface 83 (.pointer (some ⟨g, 0, none⟩))) ?_ hC (Below.refl _ _) (by intro d hd; cases hd; rfl)
                        (clear hV hI hC; go_simp <;> (first | rfl | simp | (rw [IntKind.wrap_i64]; omega)))
                      case o86 =>
                        intro Q a w2 hC hV hI
                        have e0 : a.eval (.tmp 0) = .pointer (some ⟨gh, 0, none⟩) := (hI 0 (by simp [Op.operands]) (by kernel_rfl)).trans rfl
                        have f0 : a.tmps.getD 0 undef = .pointer (some ⟨gh, 0, none⟩) := e0
                        have g0 : a.tmps[0]?.getD undef = .pointer (some ⟨gh, 0, none⟩) := by rw [← Array.getD_eq_getD_getElem?]; exact e0
                        refine op_val (.pointer (some ⟨gh, 0, none⟩)) ?_ hC (Below.refl _ _) (by intro d hd; cases hd; rfl)
                        (clear hV hI hC; go_simp <;> (first | rfl | simp | (rw [IntKind.wrap_i64]; omega)))
                      case o87 =>
                        intro Q a w2 hC hV hI
                        have e86 : a.eval (.tmp 86) = .pointer (some ⟨gh, 0, none⟩) := hV 86 (by simp [Op.operands]) (by kernel_rfl)
                        have f86 : a.tmps.getD 86 undef = .pointer (some ⟨gh, 0, none⟩) := e86
                        have g86 : a.tmps[86]?.getD undef = .pointer (some ⟨gh, 0, none⟩) := by rw [← Array.getD_eq_getD_getElem?]; exact e86
                        refine op_val (.pointer (some ⟨gh, 0, none⟩)) ?_ hC (Below.refl _ _) (by intro d hd; cases hd; rfl)
                        (clear hV hI hC; go_simp <;> (first | rfl | simp | (rw [IntKind.wrap_i64]; omega)))
                      case o88 =>
                        intro Q a w2 hC hV hI
                        have e87 : a.eval (.tmp 87) = .pointer (some ⟨gh, 0, none⟩) := hV 87 (by simp [Op.operands]) (by kernel_rfl)
                        have f87 : a.tmps.getD 87 undef = .pointer (some ⟨gh, 0, none⟩) := e87
                        have g87 : a.tmps[87]?.getD undef = .pointer (some ⟨gh, 0, none⟩) := by rw [← Array.getD_eq_getD_getElem?]; exact e87
                        refine op_val (.pointer (some ⟨gh, 11, none⟩)) ?_ hC (Below.refl _ _) (by intro d hd; cases hd; rfl)
                        (clear hV hI hC; go_simp <;> (first | rfl | simp | (rw [IntKind.wrap_i64]; omega)))
                      case o89 =>
                        intro Q a w2 hC hV hI
                        have e85 : a.eval (.tmp 85) = .iface 83 (.pointer (some ⟨g, 0, none⟩)) := hV 85 (by simp [Op.operands]) (by kernel_rfl)
                        have f85 : a.tmps.getD 85 undef = .iface 83 (.pointer (some ⟨g, 0, none⟩)) := e85
                        have g85 : a.tmps[85]?.getD undef = .iface 83 (.pointer (some ⟨g, 0, none⟩)) := by rw [← Array.getD_eq_getD_getElem?]; exact e85
                        refine op_val (.func (.method "loop.example/g00413/impl.short") #[.iface 83 (.pointer (some ⟨g, 0, none⟩))] #[]) ?_ hC (Below.refl _ _) (by intro d hd; cases hd; rfl)
                        (clear hV hI hC; go_simp <;> (first | rfl | simp | (rw [IntKind.wrap_i64]; omega)))
                      case o90 =>
                        intro Q a w2 hC hV hI
                        have e89 : a.eval (.tmp 89) = .func (.method "loop.example/g00413/impl.short") #[.iface 83 (.pointer (some ⟨g, 0, none⟩))] #[] := hV 89 (by simp [Op.operands]) (by kernel_rfl)
                        have f89 : a.tmps.getD 89 undef = .func (.method "loop.example/g00413/impl.short") #[.iface 83 (.pointer (some ⟨g, 0, none⟩))] #[] := e89
                        have g89 : a.tmps[89]?.getD undef = .func (.method "loop.example/g00413/impl.short") #[.iface 83 (.pointer (some ⟨g, 0, none⟩))] #[] := by rw [← Array.getD_eq_getD_getElem?]; exact e89
                        refine op_val (.func (.method "loop.example/g00413/impl.short") #[.iface 83 (.pointer (some ⟨g, 0, none⟩))] #[]) ?_ hC (Below.refl _ _) (by intro d hd; cases hd; rfl)
                        (clear hV hI hC; go_simp <;> (first | rfl | simp | (rw [IntKind.wrap_i64]; omega)))
                      case o91 =>
                        intro Q a w2 hC hV hI
                        have e85 : a.eval (.tmp 85) = .iface 83 (.pointer (some ⟨g, 0, none⟩)) := hV 85 (by simp [Op.operands]) (by kernel_rfl)
                        have f85 : a.tmps.getD 85 undef = .iface 83 (.pointer (some ⟨g, 0, none⟩)) := e85
                        have g85 : a.tmps[85]?.getD undef = .iface 83 (.pointer (some ⟨g, 0, none⟩)) := by rw [← Array.getD_eq_getD_getElem?]; exact e85
                        refine op_val (.iface 83 (.pointer (some ⟨g, 0, none⟩))) ?_ hC (Below.refl _ _) (by intro d hd; cases hd; rfl)
                        (clear hV hI hC; go_simp <;> (first | rfl | simp | (rw [IntKind.wrap_i64]; omega)))
                    case hend =>
                      intro f v10 hC hall
                      simp only [List.take_succ_cons, List.take_zero, List.drop_succ_cons, List.drop_zero] at hall ⊢
                      simp only [List.forall_mem_cons] at hall
                      obtain ⟨h85, h86, h87, h88, h89, h90, h91, _⟩ := hall
                      replace h85 : f 85 = .iface 83 (.pointer (some ⟨g, 0, none⟩)) := h85 85 rfl
                      replace h86 : f 86 = .pointer (some ⟨gh, 0, none⟩) := h86 86 rfl
                      replace h87 : f 87 = .pointer (some ⟨gh, 0, none⟩) := h87 87 rfl
                      replace h88 : f 88 = .pointer (some ⟨gh, 11, none⟩) := h88 88 rfl
                      replace h89 : f 89 = .func (.method "loop.example/g00413/impl.short") #[.iface 83 (.pointer (some ⟨g, 0, none⟩))] #[] := h89 89 rfl
                      replace h90 : f 90 = .func (.method "loop.example/g00413/impl.short") #[.iface 83 (.pointer (some ⟨g, 0, none⟩))] #[] := h90 90 rfl
                      replace h91 : f 91 = .iface 83 (.pointer (some ⟨g, 0, none⟩)) := h91 91 rfl
                      simp only [putAll, Act.put, List.setIfInBounds_toArray, List.set_cons_succ, List.set_cons_zero, h85, h86, h87, h88, h89, h90, h91]
                      clear h85 h86 h87 h88 h89 h90 h91
                      have W10 := Lib.hid (HW9.out.below hC)
                      have H10 := Lib.hid ((hC.block gh (by have := HW9.out.lt; omega)).trans HH9.out)
                      have C10 := Lib.hid (B9.out.trans (hC.mono (by have := HW9.out.lt; omega)))
                      clear hC HW9 HH9 B9
                      have hx10 : v10.cell? ⟨gh, 11, none⟩ = some (.int .i64 ((c.Path.size : Int) + 1)) := by simp [World.cell?, H10.out]
                      have q10 := Lib.hid (short_w g gh 11 hi l9 r9 ((c.Path.size : Int) + 1) v10 W10.out (by omega) hx10)
                      clear hx10
                      go_wp2_with fail
                      refine q10.out.mono ?_
                      rintro e w10 ⟨rfl, hw, hb⟩
                      obtain ⟨l10, hl⟩ : ∃ l : List UInt8, l = l9 ++ (put16v ((c.Path.size : Int) + 1) hi).data.toList := ⟨_, rfl⟩
                      obtain ⟨r10, hr⟩ : ∃ r : Bool, r = (r9 || !r16 ((c.Path.size : Int) + 1)) := ⟨_, rfl⟩
                      have z10 : l10.length = 22 := by rw [hl, List.length_append, ba_len, put16_size]; omega
                      rw [← hl] at hw HL
                      rw [← hr] at hw HR
                      have HW10 := Lib.hid hw
                      have HH10 := Lib.hid ((hb.block gh hgh).trans H10.out)
                      have B10 := Lib.hid (C10.out.trans hb)
                      clear hw hb hl hr H10 W10 C10 q10 z9
                      go_upto_region 11 with fail
                      refine wp_region_cut 7 (by kernel_rfl) (fun w' => Below w10.heap.size w10 w') (fun x y => Below x.heap.size x y) (fun dq vq _ => match dq with | 93 => vq = .iface 83 (.pointer (some ⟨g, 0, none⟩)) | 94 => vq = .pointer (some ⟨gh, 0, none⟩) | 95 => vq = .pointer (some ⟨gh, 0, none⟩) | 96 => vq = .pointer (some ⟨gh, 12, none⟩) | 97 => vq = .func (.method "loop.example/g00413/impl.long") #[.iface 83 (.pointer (some ⟨g, 0, none⟩))] #[] | 98 => vq = .func (.method "loop.example/g00413/impl.long") #[.iface 83 (.pointer (some ⟨g, 0, none⟩))] #[] | 99 => vq = .iface 83 (.pointer (some ⟨g, 0, none⟩)) | _ => True) (by kernel_rfl) (by kernel_rfl) ((Below.refl _ _).drew) (fun _ _ _ _ _ _ h => h) (by simp) ?hops ?hend
                      case hops =>
                        simp only [List.take_succ_cons, List.take_zero, List.forall_mem_cons]
                        refine ⟨?o93, ?o94, ?o95, ?o96, ?o97, ?o98, ?o99, fun _ h => by cases h⟩
                        case o93 =>
                          intro Q a w2 hC hV hI
                          have e1 : a.eval (.tmp 1) = .iface 83 (.pointer (some ⟨g, 0, none⟩)) := (hI 1 (by simp [Op.operands]) (by kernel_rfl)).trans rfl
                          have f1 : a.tmps.getD 1 undef = .iface 83 (.pointer (some ⟨g, 0, none⟩)) := e1
                          have g1 : a.tmps[1]?.getD undef = .iface 83 (.pointer (some ⟨g, 0, none⟩)) := by rw [← Array.getD_eq_getD_getElem?]; exact e1
                          refine op_val (.iface 83 (.pointer (some ⟨g, 0, none⟩))) ?_ hC (Below.refl _ _) (by intro d hd; cases hd; rfl)
                          (clear hV hI hC; go_simp <;> (first | rfl | simp | (rw [IntKind.wrap_i64]; omega)))
                        case o94 =>
                          intro Q a w2 hC hV hI
                          have e0 : a.eval (.tmp 0) = .pointer (some ⟨gh, 0, none⟩) := (hI 0 (by simp [Op.operands]) (by kernel_rfl)).trans rfl
                          have f0 : a.tmps.getD 0 undef = .pointer (some ⟨gh, 0, none⟩) := e0
                          have g0 : a.tmps[0]?.getD undef = .pointer (some ⟨gh, 0, none⟩) := by rw [← Array.getD_eq_getD_getElem?]; exact e0
                          refine op_val (.pointer (some ⟨gh, 0, none⟩)) ?_ hC (Below.refl _ _) (by intro d hd; cases hd; rfl)
                          (clear hV hI hC; go_simp <;> (first | rfl | simp | (rw [IntKind.wrap_i64]; omega)))
                        case o95 =>
                          intro Q a w2 hC hV hI
                          have e94 : a.eval (.tmp 94) = .pointer (some ⟨gh, 0, none⟩) := hV 94 (by simp [Op.operands]) (by kernel_rfl)
                          have f94 : a.tmps.getD 94 undef = .pointer (some ⟨gh, 0, none⟩) := e94
                          have g94 : a.tmps[94]?.getD undef = .pointer (some ⟨gh, 0, none⟩) := by rw [← Array.getD_eq_getD_getElem?]; exact e94
                          refine op_val (.pointer (some ⟨gh, 0, none⟩)) ?_ hC (Below.refl _ _) (by intro d hd; cases hd; rfl)
                          (clear hV hI hC; go_simp <;> (first | rfl | simp | (rw [IntKind.wrap_i64]; omega)))
                        case o96 =>
                          intro Q a w2 hC hV hI
                          have e95 : a.eval (.tmp 95) = .pointer (some ⟨gh, 0, none⟩) := hV 95 (by simp [Op.operands]) (by kernel_rfl)
                          have f95 : a.tmps.getD 95 undef = .pointer (some ⟨gh, 0, none⟩) := e95
                          have g95 : a.tmps[95]?.getD undef = .pointer (some ⟨gh, 0, none⟩) := by rw [← Array.getD_eq_getD_getElem?]; exact e95
                          refine op_val (.pointer (some ⟨gh, 12, none⟩)) ?_ hC (Below.refl _ _) (by intro d hd; cases hd; rfl)
                          (clear hV hI hC; go_simp <;> (first | rfl | simp | (rw [IntKind.wrap_i64]; omega)))
                        case o97 =>
                          intro Q a w2 hC hV hI
                          have e93 : a.eval (.tmp 93) = .iface 83 (.pointer (some ⟨g, 0, none⟩)) := hV 93 (by simp [Op.operands]) (by kernel_rfl)
                          have f93 : a.tmps.getD 93 undef = .iface 83 (.pointer (some ⟨g, 0, none⟩)) := e93
                          have g93 : a.tmps[93]?.getD undef = .iface 83 (.pointer (some ⟨g, 0, none⟩)) := by rw [← Array.getD_eq_getD_getElem?]; exact e93
                          refine op_val (.func (.method "loop.example/g00413/impl.long") #[.iface 83 (.pointer (some ⟨g, 0, none⟩))] #[]) ?_ hC (Below.refl _ _) (by intro d hd; cases hd; rfl)
                          (clear hV hI hC; go_simp <;> (first | rfl | simp | (rw [IntKind.wrap_i64]; omega)))
                        case o98 =>
                          intro Q a w2 hC hV hI
                          have e97 : a.eval (.tmp 97) = .func (.method "loop.example/g00413/impl.long") #[.iface 83 (.pointer (some ⟨g, 0, none⟩))] #[] := hV 97 (by simp [Op.operands]) (by kernel_rfl)
                          have f97 : a.tmps.getD 97 undef = .func (.method "loop.example/g00413/impl.long") #[.iface 83 (.pointer (some ⟨g, 0, none⟩))] #[] := e97
                          have g97 : a.tmps[97]?.getD undef = .func (.method "loop.example/g00413/impl.long") #[.iface 83 (.pointer (some ⟨g, 0, none⟩))] #[] := by rw [← Array.getD_eq_getD_getElem?]; exact e97
                          refine op_val (.func (.method "loop.example/g00413/impl.long") #[.iface 83 (.pointer (some ⟨g, 0, none⟩))] #[]) ?_ hC (Below.refl _ _) (by intro d hd; cases hd; rfl)
                          (clear hV hI hC; go_simp <;> (first | rfl | simp | (rw [IntKind.wrap_i64]; omega)))
                        case o99 =>
                          intro Q a w2 hC hV hI
                          have e93 : a.eval (.tmp 93) = .iface 83 (.pointer (some ⟨g, 0, none⟩)) := hV 93 (by simp [Op.operands]) (by kernel_rfl)
                          have f93 : a.tmps.getD 93 undef = .iface 83 (.pointer (some ⟨g, 0, none⟩)) := e93
                          have g93 : a.tmps[93]?.getD undef = .iface 83 (.pointer (some ⟨g, 0, none⟩)) := by rw [← Array.getD_eq_getD_getElem?]; exact e93
                          refine op_val (.iface 83 (.pointer (some ⟨g, 0, none⟩))) ?_ hC (Below.refl _ _) (by intro d hd; cases hd; rfl)
                          (clear hV hI hC; go_simp <;> (first | rfl | simp | (rw [IntKind.wrap_i64]; omega)))
                      case hend =>
                        intro f v11 hC hall
                        simp only [List.take_succ_cons, List.take_zero, List.drop_succ_cons, List.drop_zero] at hall ⊢
                        simp only [List.forall_mem_cons] at hall
                        obtain ⟨h93, h94, h95, h96, h97, h98, h99, _⟩ := hall
                        replace h93 : f 93 = .iface 83 (.pointer (some ⟨g, 0, none⟩)) := h93 93 rfl
                        replace h94 : f 94 = .pointer (some ⟨gh, 0, none⟩) := h94 94 rfl
                        replace h95 : f 95 = .pointer (some ⟨gh, 0, none⟩) := h95 95 rfl
                        replace h96 : f 96 = .pointer (some ⟨gh, 12, none⟩) := h96 96 rfl
                        replace h97 : f 97 = .func (.method "loop.example/g00413/impl.long") #[.iface 83 (.pointer (some ⟨g, 0, none⟩))] #[] := h97 97 rfl
                        replace h98 : f 98 = .func (.method "loop.example/g00413/impl.long") #[.iface 83 (.pointer (some ⟨g, 0, none⟩))] #[] := h98 98 rfl
                        replace h99 : f 99 = .iface 83 (.pointer (some ⟨g, 0, none⟩)) := h99 99 rfl
                        simp only [putAll, Act.put, List.setIfInBounds_toArray, List.set_cons_succ, List.set_cons_zero, h93, h94, h95, h96, h97, h98, h99]
                        clear h93 h94 h95 h96 h97 h98 h99
                        have W11 := Lib.hid (HW10.out.below hC)
                        have H11 := Lib.hid ((hC.block gh (by have := HW10.out.lt; omega)).trans HH10.out)
                        have C11 := Lib.hid (B10.out.trans (hC.mono (by have := HW10.out.lt; omega)))
                        clear hC HW10 HH10 B10
                        have hx11 : v11.cell? ⟨gh, 12, none⟩ = some (.int .i64 (c.Data.size : Int)) := by simp [World.cell?, H11.out]
                        have q11 := Lib.hid (long_w g gh 12 hi l10 r10 (c.Data.size : Int) v11 W11.out (by omega) hx11)
                        clear hx11
                        go_wp2_with fail
                        refine q11.out.mono ?_
                        rintro e w11 ⟨rfl, hw, hb⟩
                        obtain ⟨l11, hl⟩ : ∃ l : List UInt8, l = l10 ++ (put32v (c.Data.size : Int) hi).data.toList := ⟨_, rfl⟩
                        obtain ⟨r11, hr⟩ : ∃ r : Bool, r = (r10 || !r32 (c.Data.size : Int)) := ⟨_, rfl⟩
                        have z11 : l11.length = 26 := by rw [hl, List.length_append, ba_len, put32_size]; omega
                        rw [← hl] at hw HL
                        rw [← hr] at hw HR
                        have HW11 := Lib.hid hw
                        have HH11 := Lib.hid ((hb.block gh hgh).trans H11.out)
                        have B11 := Lib.hid (C11.out.trans hb)
                        clear hw hb hl hr H11 W11 C11 q11 z10
                        have q := made_w g hi l11 r11 w11 HW11.out
                        rw [show (if r11 then (⟨#[]⟩ : ByteArray) else ⟨l11.toArray⟩) = res from by rw [HR.out, ← HRes.out, ← HL.out]; cases ok <;> simp] at q
                        replace q := Lib.hid q
                        go_wp2_with fail
                        refine q.out.mono ?_
                        rintro e wz ⟨rfl, rfl⟩
                        go_wp2_with fail
                        go_ret
                        exact ⟨rfl, B11.out⟩
end Go.Proofs.YtancidbbkoeokaaGreat

/- Contract of impl.PutBin. -/
namespace Go.Proofs.YtancidbbkoeokaaGreat
open Go.ChangeShapes Go.WideShapes Go.ChangeAt Go.RowKit Go.Deep

set_option maxHeartbeats 6400000 in
set_option maxRecDepth 8000 in
theorem putBin_impl (ino mo u1 gi cn t : Int) (p d : ByteArray) (hi : Bool) (w : World) (hp : p.size ≤ 4194304) (hd : d.size ≤ 4194304) :
    Calls Tryz.prog 40 #[.agg #[.int .i64 ino, .int .i64 mo, .int .i64 u1, .int .i64 gi, .int .i64 cn, .int .i64 t, .string p, .string d], .bool hi] w fun e w' => e = .returned (.string (binTextv ⟨ino, mo, u1, gi, cn, t, p, d⟩ hi)) ∧ Below w.heap.size w w' := by
  have HV : Hid (binTextv ⟨ino, mo, u1, gi, cn, t, p, d⟩ hi = if binOk ⟨ino, mo, u1, gi, cn, t, p, d⟩ then headB ⟨ino, mo, u1, gi, cn, t, p, d⟩ hi ++ p ++ ⟨#[0]⟩ ++ nulN (pad2 (p.size + 1)) ++ d ++ nulN (pad2 d.size) else ⟨#[]⟩) := Lib.hid rfl
  have HPs := Lib.hid (fun g gh T w hg hh hgh => pass_w g gh ⟨ino, mo, u1, gi, cn, t, p, d⟩ hi T w hg hh hgh)
  have zh := headB_size ⟨ino, mo, u1, gi, cn, t, p, d⟩ hi
  generalize binTextv ⟨ino, mo, u1, gi, cn, t, p, d⟩ hi = r at HV
  generalize binOk ⟨ino, mo, u1, gi, cn, t, p, d⟩ = ok at HV HPs
  generalize headB ⟨ino, mo, u1, gi, cn, t, p, d⟩ hi = hx at HV HPs zh
  have HN1 := Lib.hid (fun w => binPad_any (p.size + 1) w (by omega))
  rw [show ((p.size + 1 : Nat) : Int) = (p.size : Int) + 1 from by omega] at HN1
  have HN2 := Lib.hid (fun w => binPad_any d.size w (by omega))
  have hz1 := nulN_size (pad2 (p.size + 1))
  have hz2 := nulN_size (pad2 d.size)
  have hq1 := pad2_le (p.size + 1)
  have hq2 := pad2_le d.size
  generalize nulN (pad2 (p.size + 1)) = nu1 at *
  generalize nulN (pad2 d.size) = nu2 at *
  generalize pad2 (p.size + 1) = q1 at *
  generalize pad2 d.size = q2 at *
  go_enter Tryz.func40, Tryz.ntmps40
  go_upto_region 1 with fail
  generalize hw1 : World.alloc w _ = w1
  have XC : Hid (CardO w1 w.heap.size ⟨ino, mo, u1, gi, cn, t, p, d⟩) := Lib.hid (by rw [← hw1]; exact CardO.new w ⟨ino, mo, u1, gi, cn, t, p, d⟩)
  have B1 : Hid (Below w.heap.size w w1) := Lib.hid (by rw [← hw1]; exact (Below.refl _ _).alloc (Nat.le_refl _) _)
  have hs1 : w1.heap.size = w.heap.size + 1 := by rw [← hw1]; simp
  clear hw1
  obtain ⟨d0, d1, d2, d3, d4, d5, d6, d7⟩ := XC.out.at.zero
  go_upto_region 2 with fail
  clear d0 d1 d2 d3 d4 d5 d6 d7
  generalize hw2 : World.alloc w1 _ = w2
  have HB : Hid (Below w1.heap.size w1 w2) := Lib.hid (by rw [← hw2]; exact (Below.refl _ _).alloc (Nat.le_refl _) _)
  have HH : Hid (w2.heap[w.heap.size + 1]? = some (.cells #[.int .i64 ino, .int .i64 mo, .int .i64 u1, .int .i64 gi, .int .i64 cn, .int .i64 t, .string p, .string d, .int .i64 29127, .int .i64 0, .int .i64 0, .int .i64 ((p.size : Int) + 1), .int .i64 (d.size : Int)] 80 (0, 0))) := Lib.hid (by rw [← hw2, ← hs1]; exact heap_lastG _ _)
  have hs2 : w2.heap.size = w.heap.size + 2 := by rw [← hw2]; simp [hs1]
  clear hw2
  have XC2 := Lib.hid (XC.out.below HB.out (by omega))
  have B2 := Lib.hid (B1.out.trans (HB.out.mono (by omega)))
  clear HB XC B1
  go_wp2_with fail
  have NB := (Below.refl w2.heap.size w2).alloc (Nat.le_refl _) (.cells #[.bool hi, .slice none 0 0, .bool false] 85)
  have hw9 : WrO (w2.alloc (.cells #[.bool hi, .slice none 0 0, .bool false] 85)) w2.heap.size hi [] false := ⟨.slice none 0 0, heap_lastG _ _, by
    refine ⟨rfl, .inl ⟨rfl, rfl⟩⟩⟩
  rw [hs2] at hw9
  refine (HPs.out _ (w.heap.size + 1) 80 _ hw9 ((NB.block _ (by omega)).trans HH.out) (by omega)).mono ?_
  rintro e w3 ⟨rfl, hb⟩
  have XC3 := Lib.hid ((XC2.out.below NB (by omega)).below hb (by omega))
  have HH3 := Lib.hid ((hb.block (w.heap.size + 1) (by omega)).trans ((NB.block _ (by omega)).trans HH.out))
  have B3 := Lib.hid ((B2.out.trans (NB.mono (by omega))).trans (hb.mono (by omega)))
  have hcl : w.heap.size + 1 < w3.heap.size := (Array.getElem?_eq_some_iff.1 HH3.out).1
  clear NB hw9 hb HPs XC2 HH B2
  cases ok with
  | false =>
    have HF2 : Hid (r = ⟨#[]⟩) := Lib.hid (by rw [HV.out]; rfl)
    clear HV
    go_wp2_with fail
    go_ret
    exact ⟨by rw [HF2.out]; rfl, B3.out⟩
  | true =>
  replace HV : Hid (r = hx ++ p ++ ⟨#[0]⟩ ++ nu1 ++ d ++ nu2) := Lib.hid (by rw [HV.out]; rfl)
  have hne : (hx.toList == (⟨#[]⟩ : ByteArray).toList) = false := ba_ne (fun e => by rw [e] at zh; exact absurd zh (by decide))
  have hne2 : hx.toList.isEmpty = false := by
    cases h9 : hx.toList with
    | nil =>
      rw [h9] at hne
      simp at hne
    | cons a l => rfl
  rw [show (if true = true then hx else (⟨#[]⟩ : ByteArray)) = hx from rfl]
  go_upto_region 5 with fail
  clear hne hne2
  have KC : Hid (∀ w', Below w3.heap.size w3 w' → w'.cell? ⟨w.heap.size, 6, none⟩ = some (.string p) ∧ w'.cell? ⟨w.heap.size, 7, none⟩ = some (.string d) ∧ w'.cell? ⟨w.heap.size + 1, 11, none⟩ = some (.int .i64 ((p.size : Int) + 1)) ∧ w'.cell? ⟨w.heap.size + 1, 12, none⟩ = some (.int .i64 (d.size : Int))) := Lib.hid (fun w' hb => by
    have h1 := (hb.block (w.heap.size + 1) hcl).trans HH3.out
    obtain ⟨k0, k1, k2, k3, k4, k5, k6, k7⟩ := (XC3.out.below hb (by omega)).at.zero
    exact ⟨k6, k7, by simp [World.cell?, h1], by simp [World.cell?, h1]⟩)
  have z1 : (⟨#[0]⟩ : ByteArray).size = 1 := rfl
  obtain ⟨x26, hx26⟩ : ∃ x : ByteArray, x = hx ++ p := ⟨_, rfl⟩
  obtain ⟨x27, hx27⟩ : ∃ x : ByteArray, x = x26 ++ ⟨#[0]⟩ := ⟨_, rfl⟩
  obtain ⟨x31, hx31⟩ : ∃ x : ByteArray, x = x27 ++ nu1 := ⟨_, rfl⟩
  obtain ⟨x34, hx34⟩ : ∃ x : ByteArray, x = x31 ++ d := ⟨_, rfl⟩
  obtain ⟨x38, hx38⟩ : ∃ x : ByteArray, x = x34 ++ nu2 := ⟨_, rfl⟩
  have zx26 : x26.size ≤ 4194330 := by rw [hx26, ByteArray.size_append]; omega
  have zx27 : x27.size ≤ 4194331 := by rw [hx27, ByteArray.size_append]; omega
  have zx31 : x31.size ≤ 4194332 := by rw [hx31, ByteArray.size_append]; omega
  have zx34 : x34.size ≤ 8388636 := by rw [hx34, ByteArray.size_append]; omega
  have zx38 : x38.size ≤ 8388637 := by rw [hx38, ByteArray.size_append]; omega
  have HA26 : Hid (∀ w, (Op.stringOp .add hx p).run Tryz.prog w = .ok (.string x26) w) := Lib.hid (fun w => by rw [hx26]; exact run_string_add_sum w _ _ (by omega))
  have HA27 : Hid (∀ w, (Op.stringOp .add x26 ⟨#[0]⟩).run Tryz.prog w = .ok (.string x27) w) := Lib.hid (fun w => by rw [hx27]; exact run_string_add_sum w _ _ (by omega))
  have HA31 : Hid (∀ w, (Op.stringOp .add x27 nu1).run Tryz.prog w = .ok (.string x31) w) := Lib.hid (fun w => by rw [hx31]; exact run_string_add_sum w _ _ (by omega))
  have HA34 : Hid (∀ w, (Op.stringOp .add x31 d).run Tryz.prog w = .ok (.string x34) w) := Lib.hid (fun w => by rw [hx34]; exact run_string_add_sum w _ _ (by omega))
  have HA38 : Hid (∀ w, (Op.stringOp .add x34 nu2).run Tryz.prog w = .ok (.string x38) w) := Lib.hid (fun w => by rw [hx38]; exact run_string_add_sum w _ _ (by omega))
  have HX26 := Lib.hid hx26
  have HX27 := Lib.hid hx27
  have HX31 := Lib.hid hx31
  have HX34 := Lib.hid hx34
  have HX38 := Lib.hid hx38
  clear hx26 hx27 hx31 hx34 hx38
  refine wp_region_inv (by kernel_rfl) (fun w' => Below w3.heap.size w3 w') (fun x y => Below x.heap.size x y) (fun dq vq _ => match dq with | 23 => vq = .string hx | 24 => vq = .pointer (some ⟨w.heap.size, 6, none⟩) | 25 => vq = .string p | 26 => vq = .string x26 | 27 => vq = .string x27 | 28 => vq = .pointer (some ⟨w.heap.size + 1, 11, none⟩) | 29 => vq = .int .i64 ((p.size : Int) + 1) | 30 => vq = .string nu1 | 31 => vq = .string x31 | 32 => vq = .pointer (some ⟨w.heap.size, 7, none⟩) | 33 => vq = .string d | 34 => vq = .string x34 | 35 => vq = .pointer (some ⟨w.heap.size + 1, 12, none⟩) | 36 => vq = .int .i64 (d.size : Int) | 37 => vq = .string nu2 | 38 => vq = .string x38 | 4 => vq = .string x38 | _ => True) (by kernel_rfl) ((Below.refl _ _).drew) (fun _ _ _ _ _ _ h => h) ?hops ?hend
  case hops =>
    simp only [List.forall_mem_cons]
    refine ⟨?o23, ?o24, ?o25, ?o26, ?o27, ?o28, ?o29, ?o30, ?o31, ?o32, ?o33, ?o34, ?o35, ?o36, ?o37, ?o38, ?o4, fun _ h => by cases h⟩
    case o23 =>
      intro Q a w2 hC hV hI
      have e6 : a.eval (.tmp 6) = .string hx := (hI 6 (by simp [Op.operands]) (by kernel_rfl)).trans rfl
      have f6 : a.tmps.getD 6 undef = .string hx := e6
      have g6 : a.tmps[6]?.getD undef = .string hx := by rw [← Array.getD_eq_getD_getElem?]; exact e6
      refine op_val (.string hx) ?_ hC (Below.refl _ _) (by intro d hd; cases hd; rfl)
      (clear hV hI hC; go_simp <;> (first | rfl | simp | (rw [IntKind.wrap_i64]; omega)))
    case o24 =>
      intro Q a w2 hC hV hI
      have e2 : a.eval (.tmp 2) = .pointer (some ⟨w.heap.size, 0, none⟩) := (hI 2 (by simp [Op.operands]) (by kernel_rfl)).trans rfl
      have f2 : a.tmps.getD 2 undef = .pointer (some ⟨w.heap.size, 0, none⟩) := e2
      have g2 : a.tmps[2]?.getD undef = .pointer (some ⟨w.heap.size, 0, none⟩) := by rw [← Array.getD_eq_getD_getElem?]; exact e2
      refine op_val (.pointer (some ⟨w.heap.size, 6, none⟩)) ?_ hC (Below.refl _ _) (by intro d hd; cases hd; rfl)
      (clear hV hI hC; go_simp <;> (first | rfl | simp | (rw [IntKind.wrap_i64]; omega)))
    case o25 =>
      intro Q a w2 hC hV hI
      have e24 : a.eval (.tmp 24) = .pointer (some ⟨w.heap.size, 6, none⟩) := hV 24 (by simp [Op.operands]) (by kernel_rfl)
      have f24 : a.tmps.getD 24 undef = .pointer (some ⟨w.heap.size, 6, none⟩) := e24
      have g24 : a.tmps[24]?.getD undef = .pointer (some ⟨w.heap.size, 6, none⟩) := by rw [← Array.getD_eq_getD_getElem?]; exact e24
      have hK := KC.out w2 hC
      refine op_val (.string p) ?_ hC (Below.refl _ _) (by intro d hd; cases hd; rfl)
      (clear hV hI hC; go_simp <;> (first | rfl | simp | (rw [IntKind.wrap_i64]; omega)))
    case o26 =>
      intro Q a w2 hC hV hI
      have e23 : a.eval (.tmp 23) = .string hx := hV 23 (by simp [Op.operands]) (by kernel_rfl)
      have f23 : a.tmps.getD 23 undef = .string hx := e23
      have g23 : a.tmps[23]?.getD undef = .string hx := by rw [← Array.getD_eq_getD_getElem?]; exact e23
      have e25 : a.eval (.tmp 25) = .string p := hV 25 (by simp [Op.operands]) (by kernel_rfl)
      have f25 : a.tmps.getD 25 undef = .string p := e25
      have g25 : a.tmps[25]?.getD undef = .string p := by rw [← Array.getD_eq_getD_getElem?]; exact e25
      refine op_val (.string x26) ?_ hC (Below.refl _ _) (by intro d hd; cases hd; rfl)
      have q := HA26.out w2
      (clear hV hI hC; go_simp <;> (first | rfl | simp | (rw [IntKind.wrap_i64]; omega)))
    case o27 =>
      intro Q a w2 hC hV hI
      have e26 : a.eval (.tmp 26) = .string x26 := hV 26 (by simp [Op.operands]) (by kernel_rfl)
      have f26 : a.tmps.getD 26 undef = .string x26 := e26
      have g26 : a.tmps[26]?.getD undef = .string x26 := by rw [← Array.getD_eq_getD_getElem?]; exact e26
      refine op_val (.string x27) ?_ hC (Below.refl _ _) (by intro d hd; cases hd; rfl)
      have q := HA27.out w2
      (clear hV hI hC; go_simp <;> (first | rfl | simp | (rw [IntKind.wrap_i64]; omega)))
    case o28 =>
      intro Q a w2 hC hV hI
      have e5 : a.eval (.tmp 5) = .pointer (some ⟨w.heap.size + 1, 0, none⟩) := (hI 5 (by simp [Op.operands]) (by kernel_rfl)).trans rfl
      have f5 : a.tmps.getD 5 undef = .pointer (some ⟨w.heap.size + 1, 0, none⟩) := e5
      have g5 : a.tmps[5]?.getD undef = .pointer (some ⟨w.heap.size + 1, 0, none⟩) := by rw [← Array.getD_eq_getD_getElem?]; exact e5
      refine op_val (.pointer (some ⟨w.heap.size + 1, 11, none⟩)) ?_ hC (Below.refl _ _) (by intro d hd; cases hd; rfl)
      (clear hV hI hC; go_simp <;> (first | rfl | simp | (rw [IntKind.wrap_i64]; omega)))
    case o29 =>
      intro Q a w2 hC hV hI
      have e28 : a.eval (.tmp 28) = .pointer (some ⟨w.heap.size + 1, 11, none⟩) := hV 28 (by simp [Op.operands]) (by kernel_rfl)
      have f28 : a.tmps.getD 28 undef = .pointer (some ⟨w.heap.size + 1, 11, none⟩) := e28
      have g28 : a.tmps[28]?.getD undef = .pointer (some ⟨w.heap.size + 1, 11, none⟩) := by rw [← Array.getD_eq_getD_getElem?]; exact e28
      have hK := KC.out w2 hC
      refine op_val (.int .i64 ((p.size : Int) + 1)) ?_ hC (Below.refl _ _) (by intro d hd; cases hd; rfl)
      (clear hV hI hC; go_simp <;> (first | rfl | simp | (rw [IntKind.wrap_i64]; omega)))
    case o30 =>
      intro Q a w2 hC hV hI
      have e29 : a.eval (.tmp 29) = .int .i64 ((p.size : Int) + 1) := hV 29 (by simp [Op.operands, Call.operands]) (by kernel_rfl)
      have f29 : a.tmps.getD 29 undef = .int .i64 ((p.size : Int) + 1) := e29
      have g29 : a.tmps[29]?.getD undef = .int .i64 ((p.size : Int) + 1) := by rw [← Array.getD_eq_getD_getElem?]; exact e29
      refine op_call (f := 63) (args := #[.int .i64 ((p.size : Int) + 1)]) (R := fun v y => v = .string nu1 ∧ Below w2.heap.size w2 y) ?_ ((HN1.out w2).mono ?_) ?_
      · (clear hV hI hC; go_simp <;> (first | rfl | simp | (rw [IntKind.wrap_i64]; omega)))
      · rintro e y ⟨rfl, hb⟩; exact ⟨_, rfl, rfl, hb⟩
      · rintro v y ⟨rfl, hb⟩; exact ⟨hC.trans (hb.mono hC.size), hb, by intro d hd; cases hd; rfl⟩
    case o31 =>
      intro Q a w2 hC hV hI
      have e27 : a.eval (.tmp 27) = .string x27 := hV 27 (by simp [Op.operands]) (by kernel_rfl)
      have f27 : a.tmps.getD 27 undef = .string x27 := e27
      have g27 : a.tmps[27]?.getD undef = .string x27 := by rw [← Array.getD_eq_getD_getElem?]; exact e27
      have e30 : a.eval (.tmp 30) = .string nu1 := hV 30 (by simp [Op.operands]) (by kernel_rfl)
      have f30 : a.tmps.getD 30 undef = .string nu1 := e30
      have g30 : a.tmps[30]?.getD undef = .string nu1 := by rw [← Array.getD_eq_getD_getElem?]; exact e30
      refine op_val (.string x31) ?_ hC (Below.refl _ _) (by intro d hd; cases hd; rfl)
      have q := HA31.out w2
      (clear hV hI hC; go_simp <;> (first | rfl | simp | (rw [IntKind.wrap_i64]; omega)))
    case o32 =>
      intro Q a w2 hC hV hI
      have e2 : a.eval (.tmp 2) = .pointer (some ⟨w.heap.size, 0, none⟩) := (hI 2 (by simp [Op.operands]) (by kernel_rfl)).trans rfl
      have f2 : a.tmps.getD 2 undef = .pointer (some ⟨w.heap.size, 0, none⟩) := e2
      have g2 : a.tmps[2]?.getD undef = .pointer (some ⟨w.heap.size, 0, none⟩) := by rw [← Array.getD_eq_getD_getElem?]; exact e2
      refine op_val (.pointer (some ⟨w.heap.size, 7, none⟩)) ?_ hC (Below.refl _ _) (by intro d hd; cases hd; rfl)
      (clear hV hI hC; go_simp <;> (first | rfl | simp | (rw [IntKind.wrap_i64]; omega)))
    case o33 =>
      intro Q a w2 hC hV hI
      have e32 : a.eval (.tmp 32) = .pointer (some ⟨w.heap.size, 7, none⟩) := hV 32 (by simp [Op.operands]) (by kernel_rfl)
      have f32 : a.tmps.getD 32 undef = .pointer (some ⟨w.heap.size, 7, none⟩) := e32
      have g32 : a.tmps[32]?.getD undef = .pointer (some ⟨w.heap.size, 7, none⟩) := by rw [← Array.getD_eq_getD_getElem?]; exact e32
      have hK := KC.out w2 hC
      refine op_val (.string d) ?_ hC (Below.refl _ _) (by intro d hd; cases hd; rfl)
      (clear hV hI hC; go_simp <;> (first | rfl | simp | (rw [IntKind.wrap_i64]; omega)))
    case o34 =>
      intro Q a w2 hC hV hI
      have e31 : a.eval (.tmp 31) = .string x31 := hV 31 (by simp [Op.operands]) (by kernel_rfl)
      have f31 : a.tmps.getD 31 undef = .string x31 := e31
      have g31 : a.tmps[31]?.getD undef = .string x31 := by rw [← Array.getD_eq_getD_getElem?]; exact e31
      have e33 : a.eval (.tmp 33) = .string d := hV 33 (by simp [Op.operands]) (by kernel_rfl)
      have f33 : a.tmps.getD 33 undef = .string d := e33
      have g33 : a.tmps[33]?.getD undef = .string d := by rw [← Array.getD_eq_getD_getElem?]; exact e33
      refine op_val (.string x34) ?_ hC (Below.refl _ _) (by intro d hd; cases hd; rfl)
      have q := HA34.out w2
      (clear hV hI hC; go_simp <;> (first | rfl | simp | (rw [IntKind.wrap_i64]; omega)))
    case o35 =>
      intro Q a w2 hC hV hI
      have e5 : a.eval (.tmp 5) = .pointer (some ⟨w.heap.size + 1, 0, none⟩) := (hI 5 (by simp [Op.operands]) (by kernel_rfl)).trans rfl
      have f5 : a.tmps.getD 5 undef = .pointer (some ⟨w.heap.size + 1, 0, none⟩) := e5
      have g5 : a.tmps[5]?.getD undef = .pointer (some ⟨w.heap.size + 1, 0, none⟩) := by rw [← Array.getD_eq_getD_getElem?]; exact e5
      refine op_val (.pointer (some ⟨w.heap.size + 1, 12, none⟩)) ?_ hC (Below.refl _ _) (by intro d hd; cases hd; rfl)
      (clear hV hI hC; go_simp <;> (first | rfl | simp | (rw [IntKind.wrap_i64]; omega)))
    case o36 =>
      intro Q a w2 hC hV hI
      have e35 : a.eval (.tmp 35) = .pointer (some ⟨w.heap.size + 1, 12, none⟩) := hV 35 (by simp [Op.operands]) (by kernel_rfl)
      have f35 : a.tmps.getD 35 undef = .pointer (some ⟨w.heap.size + 1, 12, none⟩) := e35
      have g35 : a.tmps[35]?.getD undef = .pointer (some ⟨w.heap.size + 1, 12, none⟩) := by rw [← Array.getD_eq_getD_getElem?]; exact e35
      have hK := KC.out w2 hC
      refine op_val (.int .i64 (d.size : Int)) ?_ hC (Below.refl _ _) (by intro d hd; cases hd; rfl)
      (clear hV hI hC; go_simp <;> (first | rfl | simp | (rw [IntKind.wrap_i64]; omega)))
    case o37 =>
      intro Q a w2 hC hV hI
      have e36 : a.eval (.tmp 36) = .int .i64 (d.size : Int) := hV 36 (by simp [Op.operands, Call.operands]) (by kernel_rfl)
      have f36 : a.tmps.getD 36 undef = .int .i64 (d.size : Int) := e36
      have g36 : a.tmps[36]?.getD undef = .int .i64 (d.size : Int) := by rw [← Array.getD_eq_getD_getElem?]; exact e36
      refine op_call (f := 63) (args := #[.int .i64 (d.size : Int)]) (R := fun v y => v = .string nu2 ∧ Below w2.heap.size w2 y) ?_ ((HN2.out w2).mono ?_) ?_
      · (clear hV hI hC; go_simp <;> (first | rfl | simp | (rw [IntKind.wrap_i64]; omega)))
      · rintro e y ⟨rfl, hb⟩; exact ⟨_, rfl, rfl, hb⟩
      · rintro v y ⟨rfl, hb⟩; exact ⟨hC.trans (hb.mono hC.size), hb, by intro d hd; cases hd; rfl⟩
    case o38 =>
      intro Q a w2 hC hV hI
      have e34 : a.eval (.tmp 34) = .string x34 := hV 34 (by simp [Op.operands]) (by kernel_rfl)
      have f34 : a.tmps.getD 34 undef = .string x34 := e34
      have g34 : a.tmps[34]?.getD undef = .string x34 := by rw [← Array.getD_eq_getD_getElem?]; exact e34
      have e37 : a.eval (.tmp 37) = .string nu2 := hV 37 (by simp [Op.operands]) (by kernel_rfl)
      have f37 : a.tmps.getD 37 undef = .string nu2 := e37
      have g37 : a.tmps[37]?.getD undef = .string nu2 := by rw [← Array.getD_eq_getD_getElem?]; exact e37
      refine op_val (.string x38) ?_ hC (Below.refl _ _) (by intro d hd; cases hd; rfl)
      have q := HA38.out w2
      (clear hV hI hC; go_simp <;> (first | rfl | simp | (rw [IntKind.wrap_i64]; omega)))
    case o4 =>
      intro Q a w2 hC hV hI
      have e38 : a.eval (.tmp 38) = .string x38 := hV 38 (by simp [Op.operands]) (by kernel_rfl)
      have f38 : a.tmps.getD 38 undef = .string x38 := e38
      have g38 : a.tmps[38]?.getD undef = .string x38 := by rw [← Array.getD_eq_getD_getElem?]; exact e38
      refine op_val (.string x38) ?_ hC (Below.refl _ _) (by intro d hd; cases hd; rfl)
      (clear hV hI hC; go_simp <;> (first | rfl | simp | (rw [IntKind.wrap_i64]; omega)))
  case hend =>
    intro f w4 hC hall
    clear HA26 HA27 HA31 HA34 HA38
    simp only [List.forall_mem_cons] at hall
    obtain ⟨h23, h24, h25, h26, h27, h28, h29, h30, h31, h32, h33, h34, h35, h36, h37, h38, h4, _⟩ := hall
    replace h23 : f 23 = .string hx := h23 23 rfl
    replace h24 : f 24 = .pointer (some ⟨w.heap.size, 6, none⟩) := h24 24 rfl
    replace h25 : f 25 = .string p := h25 25 rfl
    replace h26 : f 26 = .string x26 := h26 26 rfl
    replace h27 : f 27 = .string x27 := h27 27 rfl
    replace h28 : f 28 = .pointer (some ⟨w.heap.size + 1, 11, none⟩) := h28 28 rfl
    replace h29 : f 29 = .int .i64 ((p.size : Int) + 1) := h29 29 rfl
    replace h30 : f 30 = .string nu1 := h30 30 rfl
    replace h31 : f 31 = .string x31 := h31 31 rfl
    replace h32 : f 32 = .pointer (some ⟨w.heap.size, 7, none⟩) := h32 32 rfl
    replace h33 : f 33 = .string d := h33 33 rfl
    replace h34 : f 34 = .string x34 := h34 34 rfl
    replace h35 : f 35 = .pointer (some ⟨w.heap.size + 1, 12, none⟩) := h35 35 rfl
    replace h36 : f 36 = .int .i64 (d.size : Int) := h36 36 rfl
    replace h37 : f 37 = .string nu2 := h37 37 rfl
    replace h38 : f 38 = .string x38 := h38 38 rfl
    replace h4 : f 4 = .string x38 := h4 4 rfl
    simp only [putAll, Act.put, List.setIfInBounds_toArray, List.set_cons_succ, List.set_cons_zero, h23, h24, h25, h26, h27, h28, h29, h30, h31, h32, h33, h34, h35, h36, h37, h38, h4]
    clear h23 h24 h25 h26 h27 h28 h29 h30 h31 h32 h33 h34 h35 h36 h37 h38 h4
    have HXe : Hid (r = x38) := Lib.hid (by rw [HV.out, HX38.out, HX34.out, HX31.out, HX27.out, HX26.out])
    have B4 := B3.out.trans (hC.mono (by omega))
    clear KC HV hC
    go_wp2_with fail
    go_ret
    exact ⟨by rw [HXe.out]; rfl, B4⟩
end Go.Proofs.YtancidbbkoeokaaGreat

/- Contract of impl.GetBin. -/
namespace Go.Proofs.YtancidbbkoeokaaGreat
open Go.ChangeShapes Go.WideShapes Go.ChangeAt Go.RowKit Go.Deep

theorem run_equalIn_intB {P : Program} (w : World) (d : Nat) (t e : TypeId) (ht : P.underlying t = some (.array 2 e)) (he : P.underlying e = some (.int .i64)) (hsz : ∀ w, (sizeOf e).run P w = .ok 1 w) (a b x y : Int) :
    (Op.equalIn (d + 2) t (.agg #[.int .i64 a, .int .i64 b]) (.agg #[.int .i64 x, .int .i64 y])).run P w = .ok (decide (a = x) && decide (b = y)) w := by
  rw [Op.equalIn]
  simp only [Sem.run_bind, run_underlying ht, Result.andThen_ok, hsz, Std.Legacy.Range.forIn_eq_forIn_range', Std.Legacy.Range.size, Nat.sub_zero, Nat.add_sub_cancel, Nat.div_one]
  have p0 : ∀ w (v0 v1 : Value), (part e #[v0, v1] 0).run P w = .ok v0 w := fun w _ _ => by simp [part, isAgg, run_underlying he]
  have p1 : ∀ w (v0 v1 : Value), (part e #[v0, v1] 1).run P w = .ok v1 w := fun w _ _ => by simp [part, isAgg, run_underlying he]
  have q : ∀ w a x, (Op.equalIn (d + 1) e (.int .i64 a) (.int .i64 x)).run P w = .ok (decide (a = x)) w := fun w a x => by
    rw [run_equalIn_int _ d e .i64 .i64 _ _ he]
    rfl
  rw [show List.range' 0 2 1 = [0, 1] from rfl]
  simp only [List.forIn_cons, List.forIn_nil, Sem.run_bind, Nat.zero_mul, Nat.one_mul, p0, q, Result.andThen_ok]
  generalize decide (a = x) = u
  cases u
  · simp
  · simp only [Bool.not_true, Bool.false_eq_true, if_false, Sem.run_pure, Sem.run_bind, Result.andThen_ok, p1, q]
    generalize decide (b = y) = v
    cases v <;> simp
theorem ne_zerosB (a b : Int) (w : World) : (binOp .neq 78 (.agg #[.int .i64 a, .int .i64 b]) (.agg #[.int .i64 0, .int .i64 0])).run Tryz.prog w = .ok (.bool (!(decide (a = 0) && decide (b = 0)))) w := by
  rw [run_neq_struct, run_equalIn_intB w 9998 78 3 Tryz.underlying78 Tryz.underlying3 (fun w => by go_simp) a b 0 0]
  rfl
theorem pad2_imp (n : Nat) (hn : n ≤ 9007199254740991) (w : World) : Calls Tryz.prog 65 #[.int .i64 (n : Int), .int .i64 2] w fun e w' => e = .returned (.int .i64 (pad2 n : Int)) ∧ w = w' := by
  have h := pad_impl (n : Int) 2 w
  rw [padv2 n hn] at h
  exact h
theorem heap_newB (w : World) (o : Obj) (g : Nat) (hg : g = w.heap.size) : (w.alloc o).heap[g]? = some o := by subst hg; exact heap_lastG w o
set_option maxHeartbeats 3200000 in
set_option maxRecDepth 8000 in
theorem getBinI_short (s : ByteArray) (i : Int) (hi : Bool) (w : World) (hs : s.size ≤ 1048576) (hi1 : i ≤ 9223372036854775807) (hc : i < 0 ∨ (s.size : Int) < i + 26) :
    Calls Tryz.prog 42 #[.string s, .int .i64 i, .bool hi] w fun e w' => e = .returned (bnV s i hi) ∧ Below w.heap.size w w' := by
  have HF : Hid (bnV s i hi = bdB i 1) := Lib.hid (bn_cut hc)
  have R := Lib.hid (CardO.new w zeroC)
  have B : Hid (Below w.heap.size w (w.alloc (.cells zeroC.cells.toArray 44))) := Lib.hid ((Below.refl _ _).alloc (Nat.le_refl _) _)
  generalize bnV s i hi = r at HF
  by_cases h1 : i < 0
  · clear hc
    simp only [zeroC, Card.cells] at R B
    go_enter Tryz.func42, Tryz.ntmps42
    obtain ⟨d0, d1, d2, d3, d4, d5, d6, d7⟩ := (show CardO _ w.heap.size zeroC from R.out).at.zero
    simp only [zeroC] at d0 d1 d2 d3 d4 d5 d6 d7
    have f0 := (show CardO _ w.heap.size zeroC from R.out).fz 0
    have f1 := (show CardO _ w.heap.size zeroC from R.out).fz 1
    have f2 := (show CardO _ w.heap.size zeroC from R.out).fz 2
    have f3 := (show CardO _ w.heap.size zeroC from R.out).fz 3
    have f4 := (show CardO _ w.heap.size zeroC from R.out).fz 4
    have f5 := (show CardO _ w.heap.size zeroC from R.out).fz 5
    have f6 := (show CardO _ w.heap.size zeroC from R.out).fz 6
    have f7 := (show CardO _ w.heap.size zeroC from R.out).fz 7
    go_wp2_with fail
    refine bodyPost_ret (res_OCB rfl _ rfl R.out) rfl ?_
    exact ⟨by rw [HF.out]; rfl, B.out⟩
  · have h2 : (s.size : Int) - i < 26 := by omega
    have h3 : IntKind.i64.wrap ((s.size : Int) - i) = (s.size : Int) - i := by rw [IntKind.wrap_i64]; omega
    clear hc
    simp only [zeroC, Card.cells] at R B
    go_enter Tryz.func42, Tryz.ntmps42
    obtain ⟨d0, d1, d2, d3, d4, d5, d6, d7⟩ := (show CardO _ w.heap.size zeroC from R.out).at.zero
    simp only [zeroC] at d0 d1 d2 d3 d4 d5 d6 d7
    have f0 := (show CardO _ w.heap.size zeroC from R.out).fz 0
    have f1 := (show CardO _ w.heap.size zeroC from R.out).fz 1
    have f2 := (show CardO _ w.heap.size zeroC from R.out).fz 2
    have f3 := (show CardO _ w.heap.size zeroC from R.out).fz 3
    have f4 := (show CardO _ w.heap.size zeroC from R.out).fz 4
    have f5 := (show CardO _ w.heap.size zeroC from R.out).fz 5
    have f6 := (show CardO _ w.heap.size zeroC from R.out).fz 6
    have f7 := (show CardO _ w.heap.size zeroC from R.out).fz 7
    go_wp2_with fail
    refine bodyPost_ret (res_OCB rfl _ rfl R.out) rfl ?_
    exact ⟨by rw [HF.out]; rfl, B.out⟩
set_option maxHeartbeats 12800000 in
set_option maxRecDepth 8000 in
theorem binI_walk (s : ByteArray) (j p A D q1 q2 : Nat) (x0 x1 x2 x3 x4 x5 x6 x7 xt : Int) (hi : Bool) (V : Value) (ct dt rw : ByteArray) (w : World) (hs : s.size ≤ 1048576) (hp : j + 26 = p) (hps : p ≤ s.size) (hA : A ≤ 65535) (hD : D ≤ 4294967295) (hq1 : q1 = pad2 A) (hq2 : q2 = pad2 D)
    (hT : ∀ g gh w, RdO w g s (j : Int) hi → w.heap[gh]? = some (.cells #[.int .i64 0, .int .i64 0, .int .i64 0, .int .i64 0, .int .i64 0, .int .i64 0, .string ⟨#[]⟩, .string ⟨#[]⟩, .int .i64 0, .int .i64 0, .int .i64 0, .int .i64 0, .int .i64 0] 80 (0, 0)) → gh < g → Calls Tryz.prog 64 #[.pointer (some ⟨gh, 0, none⟩), .iface 87 (.pointer (some ⟨g, 0, none⟩))] w fun e w' => e = .returned (.int .i64 (p : Int)) ∧ w'.heap[gh]? = some (.cells #[.int .i64 x2, .int .i64 x3, .int .i64 x4, .int .i64 x5, .int .i64 x6, .int .i64 xt, .string ⟨#[]⟩, .string ⟨#[]⟩, .int .i64 x0, .int .i64 x1, .int .i64 x7, .int .i64 (A : Int), .int .i64 (D : Int)] 80 (0, 0)) ∧ Below gh w w')
    (hct : ct = cutv (s.extract p (p + A + q1))) (hdt : dt = s.extract (p + A + q1) (p + A + q1 + D))
    (hrw : rw = binTextv ⟨x2, x3, x4, x5, x6, xt, ct, dt⟩ hi)
    (h8 : ¬ x0 = 29127 → V = bdB j 4)
    (h9 : x0 = 29127 → ¬ (x1 = 0 ∧ x7 = 0) → V = bdB j 3)
    (h1 : x0 = 29127 → x1 = 0 ∧ x7 = 0 → s.size < p + A + q1 + D + q2 → V = bdB j 1)
    (h2 : x0 = 29127 → x1 = 0 ∧ x7 = 0 → ¬ s.size < p + A + q1 + D + q2 → ¬ rw = s.extract j (p + A + q1 + D + q2) → V = bdB j 4)
    (h3 : x0 = 29127 → x1 = 0 ∧ x7 = 0 → ¬ s.size < p + A + q1 + D + q2 → rw = s.extract j (p + A + q1 + D + q2) → V = .tuple #[.agg (Card.cells ⟨x2, x3, x4, x5, x6, xt, ct, dt⟩).toArray, .int .i64 ((p : Int) + (A : Int) + (q1 : Int) + (D : Int) + (q2 : Int)), .int .i64 0]) :
    Calls Tryz.prog 42 #[.string s, .int .i64 (j : Int), .bool hi] w fun e w' => e = .returned V ∧ Below w.heap.size w w' := by
  have HT := Lib.hid hT
  have HP1 := Lib.hid (fun w => pad2_imp A (by omega) w)
  have HP2 := Lib.hid (fun w => pad2_imp D (by omega) w)
  rw [← hq1] at HP1
  rw [← hq2] at HP2
  have hl1 : q1 ≤ 1 := by rw [hq1]; exact pad2_le _
  have hl2 : q2 ≤ 1 := by rw [hq2]; exact pad2_le _
  have b0 : IntKind.i64.wrap ((s.size : Int) - (j : Int)) = (s.size : Int) - (j : Int) := by rw [IntKind.wrap_i64]; omega
  have b1 : ¬ (s.size : Int) - (j : Int) < 26 := by omega
  have a1 : IntKind.i64.wrap ((p : Int) + (A : Int)) = (p : Int) + (A : Int) := by rw [IntKind.wrap_i64]; omega
  have a3 : IntKind.i64.wrap ((p : Int) + (A : Int) + (q1 : Int)) = (p : Int) + (A : Int) + (q1 : Int) := by rw [IntKind.wrap_i64]; omega
  have a4 : IntKind.i64.wrap ((p : Int) + (A : Int) + (q1 : Int) + (D : Int)) = (p : Int) + (A : Int) + (q1 : Int) + (D : Int) := by rw [IntKind.wrap_i64]; omega
  have a5 : IntKind.i64.wrap ((p : Int) + (A : Int) + (q1 : Int) + (D : Int) + (q2 : Int)) = (p : Int) + (A : Int) + (q1 : Int) + (D : Int) + (q2 : Int) := by rw [IntKind.wrap_i64]; omega
  have R := Lib.hid (CardO.new w zeroC)
  have B : Hid (Below w.heap.size w (w.alloc (.cells zeroC.cells.toArray 44))) := Lib.hid ((Below.refl _ _).alloc (Nat.le_refl _) _)
  simp only [zeroC, Card.cells] at R B
  have K8 := Lib.hid h8
  have K9 := Lib.hid h9
  have K1 := Lib.hid h1
  have K2 := Lib.hid h2
  have K3 := Lib.hid h3
  have HCt := Lib.hid hct
  have HDt := Lib.hid hdt
  have HRw := Lib.hid hrw
  have QS := Lib.hid hs
  have QP := Lib.hid hp
  have QPS := Lib.hid hps
  have QA := Lib.hid hA
  have QD := Lib.hid hD
  have QL1 := Lib.hid hl1
  have QL2 := Lib.hid hl2
  clear h1 h2 h3 h8 h9 hT hct hdt hrw hs hp hps hA hD hq1 hq2 hl1 hl2
  go_enter Tryz.func42, Tryz.ntmps42
  go_upto_region 3 with fail
  generalize World.alloc w _ = w1 at R B ⊢
  replace R : Hid (CardO w1 w.heap.size zeroC) := R
  clear b0 b1
  have hlt1 := R.out.lt
  have hs1 : w.heap.size ≤ w1.heap.size := B.out.size
  go_wp2_with fail
  have N1 := (Below.refl w1.heap.size w1).alloc (Nat.le_refl _) (.cells #[.int .i64 0, .int .i64 0, .int .i64 0, .int .i64 0, .int .i64 0, .int .i64 0, .string ⟨#[]⟩, .string ⟨#[]⟩, .int .i64 0, .int .i64 0, .int .i64 0, .int .i64 0, .int .i64 0] 80)
  have M1 := heap_lastG w1 (.cells #[.int .i64 0, .int .i64 0, .int .i64 0, .int .i64 0, .int .i64 0, .int .i64 0, .string ⟨#[]⟩, .string ⟨#[]⟩, .int .i64 0, .int .i64 0, .int .i64 0, .int .i64 0, .int .i64 0] 80)
  generalize hw2 : World.alloc w1 _ = w2 at N1 M1 ⊢
  have hs2 : w2.heap.size = w1.heap.size + 1 := by rw [← hw2]; simp
  clear hw2
  have N2 := (Below.refl w2.heap.size w2).alloc (Nat.le_refl _) (.cells #[.string s, .int .i64 (j : Int), .bool hi] 89)
  have M2 := heap_newB w2 (.cells #[.string s, .int .i64 (j : Int), .bool hi] 89) (w1.heap.size + 1) hs2.symm
  have M12 := (N2.block w1.heap.size (by omega)).trans M1
  generalize hw3 : World.alloc w2 _ = w3 at N2 M2 M12 ⊢
  clear hw3
  refine (HT.out (w1.heap.size + 1) w1.heap.size w3 M2 M12 (by omega)).mono ?_
  rintro e w4 ⟨rfl, hh, hb⟩
  have H := Lib.hid hh
  replace R : Hid (CardO w4 w.heap.size zeroC) := Lib.hid (((R.out.below N1 hlt1).below N2 (by omega)).below hb hlt1)
  replace B : Hid (Below w.heap.size w w4) := Lib.hid (((B.out.trans (N1.mono hs1)).trans (N2.mono (by omega))).trans (hb.mono hs1))
  clear hh hb N1 M1 N2 M2 M12 HT hs2
  obtain ⟨gh, hgh⟩ : ∃ gh, gh = w1.heap.size := ⟨_, rfl⟩
  rw [← hgh] at H hlt1 ⊢
  clear hgh hs1
  go_upto_region 5 with fail
  have c11 : w4.cell? ⟨gh, 11, none⟩ = some (.int .i64 (A : Int)) := by simp [World.cell?, H.out]
  go_quiet ((go_at_call 65; refine Calls.quiet_of_same ((HP1.out _).mono (fun e w' h => ⟨h.1, h.2.symm⟩))))
  obtain ⟨w5, hwq⟩ : ∃ y, y = w4.drewN nq := ⟨_, rfl⟩
  replace R : Hid (CardO w5 w.heap.size zeroC) := Lib.hid (by rw [hwq]; exact R.out)
  replace B : Hid (Below w.heap.size w w5) := Lib.hid (by rw [hwq]; exact bel_drewK B.out)
  replace H : Hid (w5.heap[gh]? = some (.cells #[.int .i64 x2, .int .i64 x3, .int .i64 x4, .int .i64 x5, .int .i64 x6, .int .i64 xt, .string ⟨#[]⟩, .string ⟨#[]⟩, .int .i64 x0, .int .i64 x1, .int .i64 x7, .int .i64 (A : Int), .int .i64 (D : Int)] 80 (0, 0))) := Lib.hid (by rw [hwq]; exact H.out)
  rw [← hwq]
  clear hwq c11 HP1
  go_upto_region 6 with fail
  have c12 : w5.cell? ⟨gh, 12, none⟩ = some (.int .i64 (D : Int)) := by simp [World.cell?, H.out]
  go_quiet ((go_at_call 65; refine Calls.quiet_of_same ((HP2.out _).mono (fun e w' h => ⟨h.1, h.2.symm⟩))))
  obtain ⟨w6, hwq⟩ : ∃ y, y = w5.drewN nq := ⟨_, rfl⟩
  replace R : Hid (CardO w6 w.heap.size zeroC) := Lib.hid (by rw [hwq]; exact R.out)
  replace B : Hid (Below w.heap.size w w6) := Lib.hid (by rw [hwq]; exact bel_drewK B.out)
  replace H : Hid (w6.heap[gh]? = some (.cells #[.int .i64 x2, .int .i64 x3, .int .i64 x4, .int .i64 x5, .int .i64 x6, .int .i64 xt, .string ⟨#[]⟩, .string ⟨#[]⟩, .int .i64 x0, .int .i64 x1, .int .i64 x7, .int .i64 (A : Int), .int .i64 (D : Int)] 80 (0, 0))) := Lib.hid (by rw [hwq]; exact H.out)
  rw [← hwq]
  clear hwq c12 HP2
  go_upto_region 7 with fail
  have c8 : w6.cell? ⟨gh, 8, none⟩ = some (.int .i64 x0) := by simp [World.cell?, H.out]
  by_cases e0 : ¬ x0 = 29127
  · have HF := Lib.hid (K8.out e0)
    have q8 : (x0 != 29127) = true := by simpa using e0
    clear K1 K2 K3 K8 K9 HCt HDt HRw e0 H
    obtain ⟨d0, d1, d2, d3, d4, d5, d6, d7⟩ := (R.out).at.zero
    simp only [zeroC] at d0 d1 d2 d3 d4 d5 d6 d7
    have f0 := (R.out).fz 0
    have f1 := (R.out).fz 1
    have f2 := (R.out).fz 2
    have f3 := (R.out).fz 3
    have f4 := (R.out).fz 4
    have f5 := (R.out).fz 5
    have f6 := (R.out).fz 6
    have f7 := (R.out).fz 7
    have R9 := (R.out).put zeroC
    have B9 := below_putOC (g := w.heap.size) (B.out) (Nat.le_refl _) zeroC
    simp only [putOC, zeroC] at R9 B9
    go_wp2_with fail
    refine bodyPost_ret (res_OCB rfl _ rfl R9) rfl ?_
    exact ⟨by rw [HF.out]; rfl, B9⟩
  have e0 : x0 = 29127 := Decidable.byContradiction e0
  replace K9 := Lib.hid (K9.out e0)
  replace K1 := Lib.hid (K1.out e0)
  replace K2 := Lib.hid (K2.out e0)
  replace K3 := Lib.hid (K3.out e0)
  subst e0
  clear K8
  go_upto_region 9 with fail
  clear c8
  have c9 : w6.cell? ⟨gh, 9, none⟩ = some (.int .i64 x1) := by simp [World.cell?, H.out]
  have c10 : w6.cell? ⟨gh, 10, none⟩ = some (.int .i64 x7) := by simp [World.cell?, H.out]
  by_cases ez : ¬ (x1 = 0 ∧ x7 = 0)
  · have HF := Lib.hid (K9.out ez)
    have q8 := fun w => ne_zerosB x1 x7 w
    rw [show (!(decide (x1 = 0) && decide (x7 = 0))) = true from by simp; omega] at q8
    clear K1 K2 K3 K9 HCt HDt HRw ez H
    obtain ⟨d0, d1, d2, d3, d4, d5, d6, d7⟩ := (R.out).at.zero
    simp only [zeroC] at d0 d1 d2 d3 d4 d5 d6 d7
    have f0 := (R.out).fz 0
    have f1 := (R.out).fz 1
    have f2 := (R.out).fz 2
    have f3 := (R.out).fz 3
    have f4 := (R.out).fz 4
    have f5 := (R.out).fz 5
    have f6 := (R.out).fz 6
    have f7 := (R.out).fz 7
    have R9 := (R.out).put zeroC
    have B9 := below_putOC (g := w.heap.size) (B.out) (Nat.le_refl _) zeroC
    simp only [putOC, zeroC] at R9 B9
    go_wp2_with fail
    refine bodyPost_ret (res_OCB rfl _ rfl R9) rfl ?_
    exact ⟨by rw [HF.out]; rfl, B9⟩
  obtain ⟨rfl, rfl⟩ : x1 = 0 ∧ x7 = 0 := Decidable.byContradiction ez
  replace K1 := Lib.hid (K1.out ⟨rfl, rfl⟩)
  replace K2 := Lib.hid (K2.out ⟨rfl, rfl⟩)
  replace K3 := Lib.hid (K3.out ⟨rfl, rfl⟩)
  have q8 := fun w => ne_zerosB 0 0 w
  rw [show (!(decide ((0 : Int) = 0) && decide ((0 : Int) = 0))) = false from rfl] at q8
  clear K9 ez
  go_upto_region 11 with fail
  clear c9 c10 q8
  by_cases hc : s.size < p + A + q1 + D + q2
  · have HF := Lib.hid (K1.out hc)
    have hcmp : (s.size : Int) < (p : Int) + (A : Int) + (q1 : Int) + (D : Int) + (q2 : Int) := by omega
    clear K1 K2 K3 HCt HDt HRw hc H
    obtain ⟨d0, d1, d2, d3, d4, d5, d6, d7⟩ := (R.out).at.zero
    simp only [zeroC] at d0 d1 d2 d3 d4 d5 d6 d7
    have f0 := (R.out).fz 0
    have f1 := (R.out).fz 1
    have f2 := (R.out).fz 2
    have f3 := (R.out).fz 3
    have f4 := (R.out).fz 4
    have f5 := (R.out).fz 5
    have f6 := (R.out).fz 6
    have f7 := (R.out).fz 7
    have R9 := (R.out).put zeroC
    have B9 := below_putOC (g := w.heap.size) (B.out) (Nat.le_refl _) zeroC
    simp only [putOC, zeroC] at R9 B9
    go_wp2_with fail
    refine bodyPost_ret (res_OCB rfl _ rfl R9) rfl ?_
    exact ⟨by rw [HF.out]; rfl, B9⟩
  have hcmp : ¬ (s.size : Int) < (p : Int) + (A : Int) + (q1 : Int) + (D : Int) + (q2 : Int) := by omega
  replace K2 := Lib.hid (K2.out hc)
  replace K3 := Lib.hid (K3.out hc)
  have hs := QS.out
  have hp := QP.out
  have hps := QPS.out
  have hA := QA.out
  have hD := QD.out
  have hl1 := QL1.out
  have hl2 := QL2.out
  have S1 := fun w => sl_atB s (p : Int) ((p : Int) + (A : Int) + (q1 : Int)) p (p + A + q1) rfl (by omega) (by omega) (by omega) w
  have S2 := fun w => sl_atB s ((p : Int) + (A : Int) + (q1 : Int)) ((p : Int) + (A : Int) + (q1 : Int) + (D : Int)) (p + A + q1) (p + A + q1 + D) (by omega) (by omega) (by omega) (by omega) w
  have HS3 := Lib.hid (fun w => sl_atB s (j : Int) ((p : Int) + (A : Int) + (q1 : Int) + (D : Int) + (q2 : Int)) j (p + A + q1 + D + q2) rfl (by omega) (by omega) (by omega) w)
  have HCu := Lib.hid (fun w => cut_impl (s.extract p (p + A + q1)) w (by rw [ByteArray.size_extract]; omega))
  have HCl := Lib.hid (fun w => clone_any (s.extract (p + A + q1) (p + A + q1 + D)) w (by rw [ByteArray.size_extract]; omega))
  rw [← HCt.out] at HCu
  rw [← HDt.out] at HCl S2
  have hdz : dt.size ≤ 1048576 := by rw [HDt.out, ByteArray.size_extract]; omega
  have hcz : ct.size ≤ 1048576 := by rw [HCt.out]; have := cutv_le (s.extract p (p + A + q1)); rw [ByteArray.size_extract] at this; omega
  have HPt := Lib.hid (fun w => putBin_impl x2 x3 x4 x5 x6 xt ct dt hi w (by omega) (by omega))
  rw [← HRw.out] at HPt
  generalize s.extract j (p + A + q1 + D + q2) = ex at *
  generalize s.extract p (p + A + q1) = nm at *
  clear K1 hc hs hp hps hA hD hl1 hl2 HCt HDt HRw hdz hcz
  go_wp2_with fail
  refine (HCu.out _).mono ?_
  rintro e w7 ⟨rfl, hb⟩
  replace H := Lib.hid ((hb.block gh (obj_ltB H.out)).trans H.out)
  replace R := Lib.hid (R.out.below hb R.out.lt)
  replace B := Lib.hid (B.out.trans (hb.mono B.out.size))
  clear hb HCu S1 hcmp
  have c6 : w7.cell? ⟨gh, 6, none⟩ = some (.string ⟨#[]⟩) := by simp [World.cell?, H.out]
  have f6 : w7.frozen? ⟨gh, 6, none⟩ = false := by simp [World.frozen?, H.out]
  go_upto_region 14 with fail
  generalize hw8 : World.setCell w7 _ _ = w8
  have hne : w.heap.size ≠ gh := by omega
  have H8 := heap_setRB (i := 6) (v := .string ct) H.out
  rw [hw8] at H8
  simp only [List.setIfInBounds_toArray, List.set_cons_succ, List.set_cons_zero] at H8
  replace H := Lib.hid H8
  replace R : Hid (CardO w8 w.heap.size zeroC) := Lib.hid (by rw [← hw8]; exact R.out.other hne)
  replace B : Hid (Below w.heap.size w w8) := Lib.hid (by rw [← hw8]; exact B.out.setCell (by simp; omega) _)
  clear hw8 c6 f6 H8
  have c12 : w8.cell? ⟨gh, 12, none⟩ = some (.int .i64 (D : Int)) := by simp [World.cell?, H.out]
  go_wp2_with fail
  refine (HCl.out _).mono ?_
  rintro e w9 ⟨rfl, hb⟩
  replace H := Lib.hid ((hb.block gh (obj_ltB H.out)).trans H.out)
  replace R := Lib.hid (R.out.below hb R.out.lt)
  replace B := Lib.hid (B.out.trans (hb.mono B.out.size))
  clear hb HCl S2 c12
  have c7 : w9.cell? ⟨gh, 7, none⟩ = some (.string ⟨#[]⟩) := by simp [World.cell?, H.out]
  have f7 : w9.frozen? ⟨gh, 7, none⟩ = false := by simp [World.frozen?, H.out]
  go_upto_region 15 with fail
  generalize hw10 : World.setCell w9 _ _ = w10
  have H8 := heap_setRB (i := 7) (v := .string dt) H.out
  rw [hw10] at H8
  simp only [List.setIfInBounds_toArray, List.set_cons_succ, List.set_cons_zero] at H8
  replace H : Hid (w10.heap[gh]? = some (.cells #[.int .i64 x2, .int .i64 x3, .int .i64 x4, .int .i64 x5, .int .i64 x6, .int .i64 xt, .string ct, .string dt, .int .i64 29127, .int .i64 0, .int .i64 0, .int .i64 (A : Int), .int .i64 (D : Int)] 80 (0, 0))) := Lib.hid H8
  replace R : Hid (CardO w10 w.heap.size zeroC) := Lib.hid (by rw [← hw10]; exact R.out.other hne)
  replace B : Hid (Below w.heap.size w w10) := Lib.hid (by rw [← hw10]; exact B.out.setCell (by simp; omega) _)
  clear hw10 c7 f7 H8
  have KC : Hid (∀ w', Below w10.heap.size w10 w' → w'.cell? ⟨gh, 0, none⟩ = some (.int .i64 x2) ∧ w'.cell? ⟨gh, 1, none⟩ = some (.int .i64 x3) ∧ w'.cell? ⟨gh, 2, none⟩ = some (.int .i64 x4) ∧ w'.cell? ⟨gh, 3, none⟩ = some (.int .i64 x5) ∧ w'.cell? ⟨gh, 4, none⟩ = some (.int .i64 x6) ∧ w'.cell? ⟨gh, 5, none⟩ = some (.int .i64 xt) ∧ w'.cell? ⟨gh, 6, none⟩ = some (.string ct) ∧ w'.cell? ⟨gh, 7, none⟩ = some (.string dt)) := Lib.hid (fun w' hb => by
    have h1 := (hb.block gh (obj_ltB H.out)).trans H.out
    refine ⟨?_, ?_, ?_, ?_, ?_, ?_, ?_, ?_⟩ <;> simp [World.cell?, h1])
  obtain ⟨bq, hbq⟩ : ∃ b : Bool, b = (rw.toList != ex.toList) := ⟨_, rfl⟩
  have HBq := Lib.hid hbq
  clear hbq
  refine wp_region_inv (by kernel_rfl) (fun w' => Below w10.heap.size w10 w') (fun x y => Below x.heap.size x y) (fun dq vq _ => match dq with | 84 => vq = .pointer (some ⟨gh, 0, none⟩) | 85 => vq = .agg #[.int .i64 x2, .int .i64 x3, .int .i64 x4, .int .i64 x5, .int .i64 x6, .int .i64 xt, .string ct, .string dt] | 86 => vq = .bool hi | 87 => vq = .string rw | 88 => vq = .string s | 89 => vq = .int .i64 (j : Int) | 90 => vq = .int .i64 ((p : Int) + (A : Int) + (q1 : Int) + (D : Int) + (q2 : Int)) | 91 => vq = .string ex | 92 => vq = .bool bq | _ => True) (by kernel_rfl) ((Below.refl _ _).drew) (fun _ _ _ _ _ _ h => h) ?hops ?hend
  case hops =>
    simp only [List.forall_mem_cons]
    refine ⟨?o84, ?o85, ?o86, ?o87, ?o88, ?o89, ?o90, ?o91, ?o92, fun _ h => by cases h⟩
    case o84 =>
      intro Q a w2 hC hV hI
      have e9 : a.eval (.tmp 9) = .pointer (some ⟨gh, 0, none⟩) := (hI 9 (by simp [Op.operands]) (by kernel_rfl)).trans rfl
      have f9 : a.tmps.getD 9 undef = .pointer (some ⟨gh, 0, none⟩) := e9
      have g9 : a.tmps[9]?.getD undef = .pointer (some ⟨gh, 0, none⟩) := by rw [← Array.getD_eq_getD_getElem?]; exact e9
      refine op_val (.pointer (some ⟨gh, 0, none⟩)) ?_ hC (Below.refl _ _) (by intro d hd; cases hd; rfl)
      (clear hV hI hC; go_simp <;> (first | rfl | simp | (rw [IntKind.wrap_i64]; omega)))
    case o85 =>
      intro Q a w2 hC hV hI
      have e84 : a.eval (.tmp 84) = .pointer (some ⟨gh, 0, none⟩) := hV 84 (by simp [Op.operands]) (by kernel_rfl)
      have f84 : a.tmps.getD 84 undef = .pointer (some ⟨gh, 0, none⟩) := e84
      have g84 : a.tmps[84]?.getD undef = .pointer (some ⟨gh, 0, none⟩) := by rw [← Array.getD_eq_getD_getElem?]; exact e84
      have hK := KC.out w2 hC
      refine op_val (.agg #[.int .i64 x2, .int .i64 x3, .int .i64 x4, .int .i64 x5, .int .i64 x6, .int .i64 xt, .string ct, .string dt]) ?_ hC (Below.refl _ _) (by intro d hd; cases hd; rfl)
      (clear hV hI hC; go_simp <;> (first | rfl | simp | (rw [IntKind.wrap_i64]; omega)))
    case o86 =>
      intro Q a w2 hC hV hI
      have e2 : a.eval (.tmp 2) = .bool hi := (hI 2 (by simp [Op.operands]) (by kernel_rfl)).trans rfl
      have f2 : a.tmps.getD 2 undef = .bool hi := e2
      have g2 : a.tmps[2]?.getD undef = .bool hi := by rw [← Array.getD_eq_getD_getElem?]; exact e2
      refine op_val (.bool hi) ?_ hC (Below.refl _ _) (by intro d hd; cases hd; rfl)
      (clear hV hI hC; go_simp <;> (first | rfl | simp | (rw [IntKind.wrap_i64]; omega)))
    case o87 =>
      intro Q a w2 hC hV hI
      have e85 : a.eval (.tmp 85) = .agg #[.int .i64 x2, .int .i64 x3, .int .i64 x4, .int .i64 x5, .int .i64 x6, .int .i64 xt, .string ct, .string dt] := hV 85 (by simp [Op.operands, Call.operands]) (by kernel_rfl)
      have f85 : a.tmps.getD 85 undef = .agg #[.int .i64 x2, .int .i64 x3, .int .i64 x4, .int .i64 x5, .int .i64 x6, .int .i64 xt, .string ct, .string dt] := e85
      have g85 : a.tmps[85]?.getD undef = .agg #[.int .i64 x2, .int .i64 x3, .int .i64 x4, .int .i64 x5, .int .i64 x6, .int .i64 xt, .string ct, .string dt] := by rw [← Array.getD_eq_getD_getElem?]; exact e85
      have e86 : a.eval (.tmp 86) = .bool hi := hV 86 (by simp [Op.operands, Call.operands]) (by kernel_rfl)
      have f86 : a.tmps.getD 86 undef = .bool hi := e86
      have g86 : a.tmps[86]?.getD undef = .bool hi := by rw [← Array.getD_eq_getD_getElem?]; exact e86
      refine op_call (f := 40) (args := #[.agg #[.int .i64 x2, .int .i64 x3, .int .i64 x4, .int .i64 x5, .int .i64 x6, .int .i64 xt, .string ct, .string dt], .bool hi]) (R := fun v y => v = .string rw ∧ Below w2.heap.size w2 y) ?_ ((HPt.out w2).mono ?_) ?_
      · (clear hV hI hC; go_simp <;> (first | rfl | simp | (rw [IntKind.wrap_i64]; omega)))
      · rintro e y ⟨rfl, hb⟩; exact ⟨_, rfl, rfl, hb⟩
      · rintro v y ⟨rfl, hb⟩; exact ⟨hC.trans (hb.mono hC.size), hb, by intro d hd; cases hd; rfl⟩
    case o88 =>
      intro Q a w2 hC hV hI
      have e0 : a.eval (.tmp 0) = .string s := (hI 0 (by simp [Op.operands]) (by kernel_rfl)).trans rfl
      have f0 : a.tmps.getD 0 undef = .string s := e0
      have g0 : a.tmps[0]?.getD undef = .string s := by rw [← Array.getD_eq_getD_getElem?]; exact e0
      refine op_val (.string s) ?_ hC (Below.refl _ _) (by intro d hd; cases hd; rfl)
      (clear hV hI hC; go_simp <;> (first | rfl | simp | (rw [IntKind.wrap_i64]; omega)))
    case o89 =>
      intro Q a w2 hC hV hI
      have e1 : a.eval (.tmp 1) = .int .i64 (j : Int) := (hI 1 (by simp [Op.operands]) (by kernel_rfl)).trans rfl
      have f1 : a.tmps.getD 1 undef = .int .i64 (j : Int) := e1
      have g1 : a.tmps[1]?.getD undef = .int .i64 (j : Int) := by rw [← Array.getD_eq_getD_getElem?]; exact e1
      refine op_val (.int .i64 (j : Int)) ?_ hC (Below.refl _ _) (by intro d hd; cases hd; rfl)
      (clear hV hI hC; go_simp <;> (first | rfl | simp | (rw [IntKind.wrap_i64]; omega)))
    case o90 =>
      intro Q a w2 hC hV hI
      have e12 : a.eval (.tmp 12) = .int .i64 ((p : Int) + (A : Int) + (q1 : Int) + (D : Int) + (q2 : Int)) := (hI 12 (by simp [Op.operands]) (by kernel_rfl)).trans rfl
      have f12 : a.tmps.getD 12 undef = .int .i64 ((p : Int) + (A : Int) + (q1 : Int) + (D : Int) + (q2 : Int)) := e12
      have g12 : a.tmps[12]?.getD undef = .int .i64 ((p : Int) + (A : Int) + (q1 : Int) + (D : Int) + (q2 : Int)) := by rw [← Array.getD_eq_getD_getElem?]; exact e12
      refine op_val (.int .i64 ((p : Int) + (A : Int) + (q1 : Int) + (D : Int) + (q2 : Int))) ?_ hC (Below.refl _ _) (by intro d hd; cases hd; rfl)
      (clear hV hI hC; go_simp <;> (first | rfl | simp | (rw [IntKind.wrap_i64]; omega)))
    case o91 =>
      intro Q a w2 hC hV hI
      have e88 : a.eval (.tmp 88) = .string s := hV 88 (by simp [Op.operands]) (by kernel_rfl)
      have f88 : a.tmps.getD 88 undef = .string s := e88
      have g88 : a.tmps[88]?.getD undef = .string s := by rw [← Array.getD_eq_getD_getElem?]; exact e88
      have e89 : a.eval (.tmp 89) = .int .i64 (j : Int) := hV 89 (by simp [Op.operands]) (by kernel_rfl)
      have f89 : a.tmps.getD 89 undef = .int .i64 (j : Int) := e89
      have g89 : a.tmps[89]?.getD undef = .int .i64 (j : Int) := by rw [← Array.getD_eq_getD_getElem?]; exact e89
      have e90 : a.eval (.tmp 90) = .int .i64 ((p : Int) + (A : Int) + (q1 : Int) + (D : Int) + (q2 : Int)) := hV 90 (by simp [Op.operands]) (by kernel_rfl)
      have f90 : a.tmps.getD 90 undef = .int .i64 ((p : Int) + (A : Int) + (q1 : Int) + (D : Int) + (q2 : Int)) := e90
      have g90 : a.tmps[90]?.getD undef = .int .i64 ((p : Int) + (A : Int) + (q1 : Int) + (D : Int) + (q2 : Int)) := by rw [← Array.getD_eq_getD_getElem?]; exact e90
      have q9 := HS3.out w2
      refine op_val (.string ex) ?_ hC (Below.refl _ _) (by intro d hd; cases hd; rfl)
      (clear hV hI hC; go_simp <;> (first | rfl | simp | (rw [IntKind.wrap_i64]; omega)))
    case o92 =>
      intro Q a w2 hC hV hI
      have e87 : a.eval (.tmp 87) = .string rw := hV 87 (by simp [Op.operands]) (by kernel_rfl)
      have f87 : a.tmps.getD 87 undef = .string rw := e87
      have g87 : a.tmps[87]?.getD undef = .string rw := by rw [← Array.getD_eq_getD_getElem?]; exact e87
      have e91 : a.eval (.tmp 91) = .string ex := hV 91 (by simp [Op.operands]) (by kernel_rfl)
      have f91 : a.tmps.getD 91 undef = .string ex := e91
      have g91 : a.tmps[91]?.getD undef = .string ex := by rw [← Array.getD_eq_getD_getElem?]; exact e91
      rw [HBq.out]
      refine op_val (.bool (rw.toList != ex.toList)) ?_ hC (Below.refl _ _) (by intro d hd; cases hd; rfl)
      (clear hV hI hC; go_simp <;> (first | rfl | simp [bne] | (rw [IntKind.wrap_i64]; omega)))
  case hend =>
    intro f w11 hC hall
    simp only [List.forall_mem_cons] at hall
    obtain ⟨h84, h85, h86, h87, h88, h89, h90, h91, h92, _⟩ := hall
    replace h84 : f 84 = .pointer (some ⟨gh, 0, none⟩) := h84 84 rfl
    replace h85 : f 85 = .agg #[.int .i64 x2, .int .i64 x3, .int .i64 x4, .int .i64 x5, .int .i64 x6, .int .i64 xt, .string ct, .string dt] := h85 85 rfl
    replace h86 : f 86 = .bool hi := h86 86 rfl
    replace h87 : f 87 = .string rw := h87 87 rfl
    replace h88 : f 88 = .string s := h88 88 rfl
    replace h89 : f 89 = .int .i64 (j : Int) := h89 89 rfl
    replace h90 : f 90 = .int .i64 ((p : Int) + (A : Int) + (q1 : Int) + (D : Int) + (q2 : Int)) := h90 90 rfl
    replace h91 : f 91 = .string ex := h91 91 rfl
    replace h92 : f 92 = .bool bq := h92 92 rfl
    simp only [putAll, Act.put, List.setIfInBounds_toArray, List.set_cons_succ, List.set_cons_zero, h84, h85, h86, h87, h88, h89, h90, h91, h92]
    clear h84 h85 h86 h87 h88 h89 h90 h91 h92
    replace H := Lib.hid ((hC.block gh (obj_ltB H.out)).trans H.out)
    replace R := Lib.hid (R.out.below hC R.out.lt)
    replace B := Lib.hid (B.out.trans (hC.mono B.out.size))
    clear KC hC HPt HS3
    by_cases e5 : ¬ rw = ex
    · have HF := Lib.hid (K2.out e5)
      obtain rfl : bq = true := by rw [HBq.out]; have := ba_ne e5; simpa using this
      clear K2 K3 HBq e5 H
      obtain ⟨d0, d1, d2, d3, d4, d5, d6, d7⟩ := (R.out).at.zero
      simp only [zeroC] at d0 d1 d2 d3 d4 d5 d6 d7
      have f0 := (R.out).fz 0
      have f1 := (R.out).fz 1
      have f2 := (R.out).fz 2
      have f3 := (R.out).fz 3
      have f4 := (R.out).fz 4
      have f5 := (R.out).fz 5
      have f6 := (R.out).fz 6
      have f7 := (R.out).fz 7
      have R9 := (R.out).put zeroC
      have B9 := below_putOC (g := w.heap.size) (B.out) (Nat.le_refl _) zeroC
      simp only [putOC, zeroC] at R9 B9
      go_wp2_with fail
      refine bodyPost_ret (res_OCB rfl _ rfl R9) rfl ?_
      exact ⟨by rw [HF.out]; rfl, B9⟩
    have e5 : rw = ex := Decidable.byContradiction e5
    have HF := Lib.hid (K3.out e5)
    obtain rfl : bq = false := by rw [HBq.out, e5]; simp
    clear K2 K3 HBq e5
    have c0 : w11.cell? ⟨gh, 0, none⟩ = some (.int .i64 x2) := by simp [World.cell?, H.out]
    have c1 : w11.cell? ⟨gh, 1, none⟩ = some (.int .i64 x3) := by simp [World.cell?, H.out]
    have c2 : w11.cell? ⟨gh, 2, none⟩ = some (.int .i64 x4) := by simp [World.cell?, H.out]
    have c3 : w11.cell? ⟨gh, 3, none⟩ = some (.int .i64 x5) := by simp [World.cell?, H.out]
    have c4 : w11.cell? ⟨gh, 4, none⟩ = some (.int .i64 x6) := by simp [World.cell?, H.out]
    have c5 : w11.cell? ⟨gh, 5, none⟩ = some (.int .i64 xt) := by simp [World.cell?, H.out]
    have c6 : w11.cell? ⟨gh, 6, none⟩ = some (.string ct) := by simp [World.cell?, H.out]
    have c7 : w11.cell? ⟨gh, 7, none⟩ = some (.string dt) := by simp [World.cell?, H.out]
    obtain ⟨d0, d1, d2, d3, d4, d5, d6, d7⟩ := (R.out).at.zero
    simp only [zeroC] at d0 d1 d2 d3 d4 d5 d6 d7
    have f0 := (R.out).fz 0
    have f1 := (R.out).fz 1
    have f2 := (R.out).fz 2
    have f3 := (R.out).fz 3
    have f4 := (R.out).fz 4
    have f5 := (R.out).fz 5
    have f6 := (R.out).fz 6
    have f7 := (R.out).fz 7
    have R9 := (R.out).put ⟨x2, x3, x4, x5, x6, xt, ct, dt⟩
    have B9 := below_putOC (g := w.heap.size) (B.out) (Nat.le_refl _) ⟨x2, x3, x4, x5, x6, xt, ct, dt⟩
    simp only [putOC] at R9 B9
    clear H R B
    go_wp2_with fail
    refine bodyPost_ret (res_OCB rfl _ rfl R9) rfl ?_
    exact ⟨by rw [HF.out]; rfl, B9⟩
theorem getBin_impl (s : ByteArray) (i : Int) (hi : Bool) (w : World) (hs : s.size ≤ 1048576) (hi1 : i ≤ 9223372036854775807) :
    Calls Tryz.prog 42 #[.string s, .int .i64 i, .bool hi] w fun e w' => e = .returned (bnV s i hi) ∧ Below w.heap.size w w' := by
  by_cases h : i < 0 ∨ (s.size : Int) < i + 26
  · exact getBinI_short s i hi w hs hi1 h
  obtain ⟨j, rfl⟩ : ∃ j : Nat, i = j := ⟨i.toNat, by omega⟩
  have hj : j + 26 ≤ s.size := by omega
  obtain ⟨z1, z2⟩ := bSz_bd (hi := hi) hj
  obtain ⟨m1, m2⟩ := bMn_bd (hi := hi) hj
  have hN : bnN s j hi = j + 26 + bSz s j hi := rfl
  have hB : bnB s j hi = bnN s j hi + pad2 (bSz s j hi) := rfl
  have hD : bnD s j hi = bnB s j hi + bMn s j hi := rfl
  have hE : bnE s j hi = bnD s j hi + pad2 (bMn s j hi) := rfl
  refine binI_walk s j (j + 26) (bSz s j hi) (bMn s j hi) (pad2 (bSz s j hi)) (pad2 (bMn s j hi)) (bW s j hi 0) (bW s j hi 1) (bW s j hi 2) (bW s j hi 3) (bW s j hi 4) (bW s j hi 5) (bW s j hi 6) (bW s j hi 7) (bT s j hi) hi _ _ _ _ w hs rfl hj z2 m2 rfl rfl (fun g gh w h1 h2 h3 => ?_) rfl rfl rfl (fun h => bn_magic hj h) (fun h h' => bn_zero hj h h') (fun h h' q => bn_short hj h h' (by omega)) (fun h h' q e => ?_) (fun h h' q e => ?_)
  · have h9 := pass_r g gh j s hi _ w hs hj h1 h2 h3
    rw [z1, m1] at h9
    exact h9
  · refine bn_name hj h h' (by omega) (Decidable.byContradiction fun b => e ((bin_back hj h h' (by omega)).2 b))
  · have hb : ¬ badB s j hi := (bin_back hj h h' (by omega)).1 e
    have hn := bin_name hb hj (by omega)
    rw [bn_good hj h h' (by omega) hb, ← hn]
    rw [show ((bnE s j hi : Nat) : Int) = ((j + 26 : Nat) : Int) + (bSz s j hi : Int) + (pad2 (bSz s j hi) : Int) + (bMn s j hi : Int) + (pad2 (bMn s j hi) : Int) from by omega]
    rfl
end Go.Proofs.YtancidbbkoeokaaGreat

/- Contract of impl.cardFormat.cards at the format with headers in words. -/
namespace Go.Proofs.YtancidbbkoeokaaGreat
open Go.ChangeShapes Go.WideShapes Go.ChangeAt Go.RowKit Go.Deep

theorem bfmt2_any (s : ByteArray) (i : Int) (crc : Bool) (gk : Nat) (w : World) (hs : s.size ≤ 1048576) (hi : i ≤ 9223372036854775807) (hck : w.heap[gk]? = some (.cells #[.bool crc] 4 (0, 0))) :
    Calls Tryz.prog 41 #[.string s, .int .i64 i, .pointer (some ⟨gk, 0, none⟩)] w fun e w' => e = .returned (bnV s i crc) ∧ Below w.heap.size w w' := by
  have HP := Lib.hid (fun w => getBin_impl s i crc w hs hi)
  have hlt := (Array.getElem?_eq_some_iff.1 hck).1
  have CK := Lib.hid hck
  have HV : Hid (bnV s i crc = .tuple #[.agg (bnCard s i crc).cells.toArray, .int .i64 (bnNext s i crc), .int .i64 (bnCode s i crc)]) := Lib.hid rfl
  rw [HV.out] at HP ⊢
  clear hck hs hi HV
  generalize bnNext s i crc = n at *
  generalize bnCode s i crc = c at *
  generalize bnCard s i crc = k at *
  obtain ⟨q0, q1, q2, q3, q4, q5, qp, qd⟩ := k
  simp only [Card.cells] at HP ⊢
  have R := Lib.hid (CardO.new w zeroC)
  have B := Lib.hid ((Below.refl w.heap.size w).alloc (Nat.le_refl _) (.cells zeroC.cells.toArray 44))
  simp only [zeroC, Card.cells] at R B
  go_enter Tryz.func41, Tryz.ntmps41
  go_upto_region 1 with fail
  generalize World.alloc w _ = w1 at R B ⊢
  replace R : Hid (CardO w1 w.heap.size zeroC) := R
  have CK1 := (B.out.block gk hlt).trans CK.out
  have ck : w1.cell? ⟨gk, 0, none⟩ = some (.bool crc) := by simp [World.cell?, CK1]
  clear CK1
  go_wp2_with fail
  refine (HP.out _).mono ?_
  rintro e w2 ⟨rfl, hb⟩
  have R2 : Hid (CardO w2 w.heap.size zeroC) := Lib.hid (R.out.below hb R.out.lt)
  have B2 : Hid (Below w.heap.size w w2) := Lib.hid (btC B.out hb)
  clear hb R B ck
  obtain ⟨d0, d1, d2, d3, d4, d5, d6, d7⟩ := R2.out.at.zero
  simp only [zeroC] at d0 d1 d2 d3 d4 d5 d6 d7
  have f0 := R2.out.fz 0
  have f1 := R2.out.fz 1
  have f2 := R2.out.fz 2
  have f3 := R2.out.fz 3
  have f4 := R2.out.fz 4
  have f5 := R2.out.fz 5
  have f6 := R2.out.fz 6
  have f7 := R2.out.fz 7
  have R9 := R2.out.put ⟨q0, q1, q2, q3, q4, q5, qp, qd⟩
  have B9 := below_putOC (g := w.heap.size) B2.out (Nat.le_refl _) ⟨q0, q1, q2, q3, q4, q5, qp, qd⟩
  simp only [putOC] at R9 B9
  have HR := Lib.hid R9
  have HB := Lib.hid B9
  clear R9 B9
  go_wp2_with fail
  refine bodyPost_ret (res_OCB rfl _ rfl HR.out) rfl ?_
  exact ⟨rfl, HB.out⟩
theorem cell_newQ (w : World) (e : Card) (t : TypeId) (ht : t = 44) : ∀ j u, e.cells[j]? = some u → (w.alloc (.cells e.cells.toArray t)).cell? ((⟨w.heap.size, 0, none⟩ : Addr).add j) = some u := by
  intro j u hu
  subst ht
  have hj : j < 8 := by
    by_cases h : j < 8
    · exact h
    · rw [List.getElem?_eq_none (by rw [cells_lenC]; omega)] at hu; cases hu
  rw [show (⟨w.heap.size, 0, none⟩ : Addr).add j = ⟨w.heap.size, 0 + j, none⟩ from by unfold Addr.add; split <;> simp_all, (CardO.new w e).at j hj]
  exact hu
theorem own_neR {w : World} {base : Nat} {e t : TypeId} {k : Nat} {v : Value} {n g : Nat} {xs : List Value} {cs : Array Value} {fr : Nat × Nat} (h : w.ownsRow base e k v n xs) (hg : w.heap[g]? = some (.cells cs t fr)) (ht : ¬ t = e) : some g ≠ v.ownBlock := by
  intro e1
  rcases h.2 with ⟨h0, _⟩ | ⟨g', cap', cur, hv, hg', hh, _⟩
  · subst h0; simp [Value.ownBlock] at e1
  · subst hv
    simp [Value.ownBlock] at e1
    subst e1
    rw [hg] at hh
    simp at hh
    exact ht hh.2.1
set_option maxHeartbeats 3200000 in
set_option maxRecDepth 8000 in
theorem cards_bin (s : ByteArray) (crc : Bool) (gk : Nat) (w : World) (hs : s.size ≤ 1048576) (hgk : gk < w.heap.size) (hck : w.heap[gk]? = some (.cells #[.bool crc] 4 (0, 0))) :
    Calls Tryz.prog 55 #[.agg #[.func (.func 38) #[] #[], .func (.func 39) #[] #[.pointer (some ⟨gk, 0, none⟩)], .func (.func 41) #[] #[.pointer (some ⟨gk, 0, none⟩)]], .string s] w fun e w' => ((binO s crc).1 = 0 → ∃ v, e = .returned v ∧ OwnNC w' w.heap.size v (binO s crc).2 ∧ (binO s crc).2.length * 26 + 26 ≤ s.size ∧ (∀ c ∈ (binO s crc).2, szC c ≤ s.size ∧ c.wf)) ∧ (¬ (binO s crc).1 = 0 → e = .panicked (panC (binO s crc).1)) ∧ Below w.heap.size w w' := by
  obtain ⟨i0, hi0, hz0, hz1, hz2⟩ := info_parts Tryz.infoC
  have HGet : Hid (∀ (p : Nat) (w' : World), p < s.size → Below w.heap.size w w' → Calls Tryz.prog 41 #[.string s, .int .i64 (p : Int), .pointer (some ⟨gk, 0, none⟩)] w' fun e w'' => e = .returned (.tuple #[.agg ((binR s crc) p).1.cells.toArray, .int .i64 ((binR s crc) p).2.1, .int .i64 ((binR s crc) p).2.2]) ∧ Below w'.heap.size w' w'') := Lib.hid (fun p w' hp hb => bfmt2_any s p crc gk w' hs (by omega) ((hb.block gk hgk).trans hck))
  have HGood := Lib.hid (binR_good s crc hs)
  have S0 := Lib.hid (StR.start (binR s crc) s.size 26)
  rw [show outc (binR s crc) s.size (s.size + 1) [] 0 = binO s crc from rfl] at S0
  obtain ⟨z, hz⟩ : ∃ z, s.size = z := ⟨_, rfl⟩
  have HZ := Lib.hid hz
  generalize binO s crc = O at S0 ⊢
  rw [hz] at hs HGood S0 HGet ⊢
  generalize binR s crc = R at HGet HGood S0
  clear hz hgk hck
  obtain ⟨oc, oq⟩ := O
  simp only
  have HPost : Hid (∀ (e : Ending) (w' : World), (∃ v, e = .returned v ∧ OwnNC w' w.heap.size v oq ∧ oq.length * 26 + 26 ≤ z ∧ (∀ c ∈ oq, szC c ≤ z ∧ c.wf)) ∧ oc = 0 → Below w.heap.size w w' → ((oc = 0 → ∃ v, e = .returned v ∧ OwnNC w' w.heap.size v oq ∧ oq.length * 26 + 26 ≤ z ∧ (∀ c ∈ oq, szC c ≤ z ∧ c.wf)) ∧ (¬ oc = 0 → e = .panicked (panC oc)) ∧ Below w.heap.size w w')) := Lib.hid (fun e w' h hb => ⟨fun _ => h.1, fun hn => absurd h.2 hn, hb⟩)
  have HPan : Hid (∀ (c : Int) (w' : World), (oc, oq) = (c, ([] : List Card)) → ¬ c = 0 → Below w.heap.size w w' → ((oc = 0 → ∃ v, Ending.panicked (panC c) = .returned v ∧ OwnNC w' w.heap.size v oq ∧ oq.length * 26 + 26 ≤ z ∧ (∀ c ∈ oq, szC c ≤ z ∧ c.wf)) ∧ (¬ oc = 0 → Ending.panicked (panC c) = .panicked (panC oc)) ∧ Below w.heap.size w w')) := Lib.hid (fun c w' h hc hb => by
    obtain ⟨rfl, rfl⟩ := Prod.mk.inj h
    exact ⟨fun h0 => absurd h0 hc, fun _ => rfl, hb⟩)
  generalize hPo : (fun (e : Ending) (w' : World) => (oc = 0 → ∃ v, e = .returned v ∧ OwnNC w' w.heap.size v oq ∧ oq.length * 26 + 26 ≤ z ∧ (∀ c ∈ oq, szC c ≤ z ∧ c.wf)) ∧ (¬ oc = 0 → e = .panicked (panC oc)) ∧ Below w.heap.size w w') = Po
  have HPost2 : Hid (∀ (e : Ending) (w' : World), (∃ v, e = .returned v ∧ OwnNC w' w.heap.size v oq ∧ oq.length * 26 + 26 ≤ z ∧ (∀ c ∈ oq, szC c ≤ z ∧ c.wf)) ∧ oc = 0 → Below w.heap.size w w' → Po e w') := Lib.hid (by rw [← hPo]; exact HPost.out)
  have HPan2 : Hid (∀ (c : Int) (w' : World), (oc, oq) = (c, ([] : List Card)) → ¬ c = 0 → Below w.heap.size w w' → Po (.panicked (panC c)) w') := Lib.hid (by rw [← hPo]; exact HPan.out)
  clear hPo HPost HPan
  go_enter Tryz.func55, Tryz.ntmps55
  go_upto_region 1 with fail
  generalize hw1 : World.alloc w _ = wb
  have BF : Hid (wb.heap[w.heap.size]? = some (.cells #[.func (.func 38) #[] #[], .func (.func 39) #[] #[.pointer (some ⟨gk, 0, none⟩)], .func (.func 41) #[] #[.pointer (some ⟨gk, 0, none⟩)]] 50 (0, 0))) := Lib.hid (by rw [← hw1]; exact heap_lastG _ _)
  have B : Hid (Below w.heap.size w wb) := Lib.hid (by rw [← hw1]; exact (Below.refl _ _).alloc (Nat.le_refl _) _)
  clear hw1
  go_wp2_with fail
  go_loopw [5, 6, 7, 8, 9] (fun v u _ _ _ wr => ∃ (Q : List Card) (p : Nat), u = .int .i64 (p : Int) ∧ StR R z 26 (oc, oq) Q p ∧ OwnNC wr w.heap.size v Q ∧ wr.heap[w.heap.size]? = some (.cells #[.func (.func 38) #[] #[], .func (.func 39) #[] #[.pointer (some ⟨gk, 0, none⟩)], .func (.func 41) #[] #[.pointer (some ⟨gk, 0, none⟩)]] 50 (0, 0)) ∧ Below w.heap.size w wr) (fun _ u _ _ _ _ => z + 1 - (intOf u).toNat)
  case atStart => exact ⟨[], 0, rfl, S0.out, OwnNC.nil _ _, BF.out, B.out⟩
  case round =>
    obtain ⟨Q, p, rfl, hst, ho, hbf, hb⟩ := hrel
    clear S0 BF B
    have St := Lib.hid hst
    have O := Lib.hid ho
    have BF := Lib.hid hbf
    have B := Lib.hid hb
    clear hst ho hbf hb
    by_cases hp : ¬ p < z
    · have hlt : ¬ (p : Int) < (s.size : Int) := by have := HZ.out; omega
      have HO := Lib.hid (St.out.over hp)
      clear St
      go_wp2_with fail
      refine (demand_no 5 _).mono ?_
      rintro e w8 ⟨rfl, rfl⟩
      exact ⟨rfl, HPan2.out 5 _ HO.out (by decide) B.out⟩
    have hp : p < z := Decidable.byContradiction hp
    have hlt : (p : Int) < (s.size : Int) := by have := HZ.out; omega
    have p2 : wr.cell? ⟨w.heap.size, 2, none⟩ = some (.func (.func 41) #[] #[.pointer (some ⟨gk, 0, none⟩)]) := by simp [World.cell?, BF.out]
    have HG2 := Lib.hid (fun w' hb => HGet.out p w' hp hb)
    have HCo := Lib.hid (fun h => St.out.code hp h)
    have HMo := Lib.hid (fun h t n => St.out.more hp h t n)
    have HLa := Lib.hid (fun h t n => St.out.last HGood.out hp h t n)
    have HStp := Lib.hid (fun h t => St.out.step HGood.out (by decide) hp h t)
    rcases hRp : R p with ⟨⟨q0, q1, q2, q3, q4, q5, qp, qd⟩, nx, co⟩
    rw [hRp] at HG2 HCo HMo HLa HStp
    simp only at HG2 HCo HMo HLa HStp
    have HQl := Lib.hid (show Q.length ≤ p by have := St.out.2.1; omega)
    clear hRp HGet HGood
    go_wp2_with fail
    refine (demand_ok 5 _).mono ?_
    rintro e w8 ⟨rfl, rfl⟩
    go_wp2_with fail
    refine (HG2.out _ B.out).mono ?_
    rintro e w2 ⟨rfl, hb⟩
    replace O := Lib.hid (O.out.below hb)
    replace BF := Lib.hid ((hb.block _ (Array.getElem?_eq_some_iff.1 BF.out).1).trans BF.out)
    replace B := Lib.hid (btC B.out hb)
    clear hb p2 HG2
    have NB : Below w2.heap.size w2 (w2.alloc (.cells (Card.cells ⟨q0, q1, q2, q3, q4, q5, qp, qd⟩).toArray 44)) := (Below.refl _ _).alloc (Nat.le_refl _) _
    have XC := Lib.hid (CardO.new w2 ⟨q0, q1, q2, q3, q4, q5, qp, qd⟩)
    replace O := Lib.hid (O.out.below NB)
    replace BF := Lib.hid ((NB.block _ (Array.getElem?_eq_some_iff.1 BF.out).1).trans BF.out)
    replace B := Lib.hid (btC B.out NB)
    clear NB
    simp only [Card.cells] at XC O BF B ⊢
    go_upto_region 5 with fail
    generalize World.alloc w2 _ = w3 at XC O BF B ⊢
    obtain ⟨d0, d1, d2, d3, d4, d5, d6, d7⟩ := XC.out.at.zero
    simp only at d0 d1 d2 d3 d4 d5 d6 d7
    by_cases hc : ¬ co = 0
    · have e1 : (co == 0) = false := by simpa using hc
      have HO := Lib.hid (HCo.out hc)
      clear HCo HMo HLa HStp
      go_wp2_with fail
      refine (demand_no co _).mono ?_
      rintro e w8 ⟨rfl, rfl⟩
      exact ⟨rfl, HPan2.out co _ HO.out hc B.out⟩
    have hc : co = 0 := Decidable.byContradiction hc
    subst hc
    have HMo2 := Lib.hid (fun t n => HMo.out rfl t n)
    have HLa2 := Lib.hid (fun t n => HLa.out rfl t n)
    have HSt2 := Lib.hid (fun t => HStp.out rfl t)
    clear HCo HMo HLa HStp
    go_wp2_with fail
    refine (demand_ok 0 _).mono ?_
    rintro e w8 ⟨rfl, rfl⟩
    cases ht : isTr qp with
    | true =>
      have e1 : (qp.toList == [84, 82, 65, 73, 76, 69, 82, 33, 33, 33]) = true := ht
      have HMo3 := Lib.hid (fun n => HMo2.out ht n)
      have HLa3 := Lib.hid (fun n => HLa2.out ht n)
      clear HMo2 HLa2 HSt2 ht
      by_cases hn : ¬ nx = (z : Int)
      · have e2 : (nx == (s.size : Int)) = false := by rw [HZ.out]; simpa using hn
        have HO := Lib.hid (HMo3.out hn)
        clear HMo3 HLa3
        go_wp2_with fail
        refine (demand_no 5 _).mono ?_
        rintro e w9 ⟨rfl, rfl⟩
        exact ⟨rfl, HPan2.out 5 _ HO.out (by decide) B.out⟩
      have hn : nx = (z : Int) := Decidable.byContradiction hn
      have e2 : (nx == (s.size : Int)) = true := by rw [HZ.out]; simpa using hn
      obtain ⟨hO, hl, hq⟩ := HLa3.out hn
      obtain ⟨rfl, rfl⟩ := Prod.mk.inj hO
      have HL := Lib.hid hl
      have HQ := Lib.hid hq
      clear HMo3 HLa3 hl hq hO hn
      go_wp2_with fail
      refine (demand_ok 5 _).mono ?_
      rintro e w9 ⟨rfl, rfl⟩
      go_wp2_with fail
      exact HPost2.out _ _ ⟨⟨_, rfl, O.out, HL.out, HQ.out⟩, by simp⟩ B.out
    | false =>
      have e1 : (qp.toList == [84, 82, 65, 73, 76, 69, 82, 33, 33, 33]) = false := ht
      obtain ⟨q, hq, hpq, hst⟩ := HSt2.out ht
      subst hq
      have hqz := hst.2.2.2
      have St2 := Lib.hid hst
      have hql := HQl.out
      have hszB := B.out.size
      clear HMo2 HLa2 HSt2 ht hst
      go_wp2_with (at_builtin; refine wpList_append_own _ rfl _ _ 38 rfl w.heap.size 44 i0 (.agg #[.int .i64 0, .int .i64 0, .int .i64 0, .int .i64 0, .int .i64 0, .int .i64 0, .string ⟨#[]⟩, .string ⟨#[]⟩]) 8 80 Tryz.underlying38 hi0 hz0 hz1 hz2 rfl (by decide) _ Q.length (valsC Q) rfl ?c0q ⟨w8.heap.size, 0, none⟩ 1 1 (valsC [⟨q0, q1, q2, q3, q4, q5, qp, qd⟩]) rfl (valsC_len _) ?c1q ?c2q ?c3q ?c4q ?c5q ?_)
      case c0q => exact World.ownsRow.alloc O.out _
      case c1q => intro jj uu hu; rw [valsC_one] at hu; exact cell_newQ _ ⟨q0, q1, q2, q3, q4, q5, qp, qd⟩ _ rfl jj uu hu
      case c2q => exact valsC_onecell _
      any_goals (first | (simp only [maxLen]; omega) | omega | (simp; omega))
      intro v' w9 hown hgrow hnil
      have NB : Below w8.heap.size w8 (w8.alloc (.cells (Card.cells ⟨q0, q1, q2, q3, q4, q5, qp, qd⟩).toArray 44)) := (Below.refl _ _).alloc (Nat.le_refl _) _
      have O9 : Hid (OwnNC w9 w.heap.size v' (Q ++ [⟨q0, q1, q2, q3, q4, q5, qp, qd⟩])) := Lib.hid (ownNC_app hown rfl rfl)
      have zb := (Array.getElem?_eq_some_iff.1 BF.out).1
      have F9 := Lib.hid ((hgrow.block _ (Nat.lt_of_lt_of_le zb NB.size) (own_neR (World.ownsRow.alloc O.out _) ((NB.block _ zb).trans BF.out) (by decide))).trans ((NB.block _ zb).trans BF.out))
      have B9 := Lib.hid ((btC B.out NB).grown hgrow (by have := NB.size; have := B.out.size; omega) (fun b hb => OwnNC.block O.out b hb))
      clear hown hgrow hnil NB O BF B XC d0 d1 d2 d3 d4 d5 d6 d7 zb
      go_wp2_with fail
      go_roundw
      case rel => exact ⟨_, q, rfl, St2.out, O9.out, F9.out, B9.out⟩
      case measure => simp [intOf]; omega
end Go.Proofs.YtancidbbkoeokaaGreat

/- The text of a card in words; contract of spec.PutBin. -/
namespace Go.Proofs.YtancidbbkoeokaaGreat
open Go.ChangeShapes Go.WideShapes Go.ChangeAt Go.RowKit Go.Deep

/-- Words one after another. -/
def wsT (hi : Bool) (L : List Int) : ByteArray := ⟨(L.flatMap fun x => (put16v x hi).data.toList).toArray⟩
theorem wsT_snoc (hi : Bool) (L : List Int) (x : Int) : wsT hi (L ++ [x]) = wsT hi L ++ put16v x hi := by
  apply ba_ext
  simp [wsT]
theorem ws_take {hi : Bool} {L : List Int} {i : Nat} {x : Int} (h : L[i]? = some x) : wsT hi (L.take (i + 1)) = wsT hi (L.take i) ++ put16v x hi := by
  rw [List.take_add_one, h]
  exact wsT_snoc _ _ _
theorem wsT_size (hi : Bool) (L : List Int) : (wsT hi L).size = 2 * L.length := by
  induction L with
  | nil => rfl
  | cons x L ih =>
    have e1 : (wsT hi (x :: L)).size = ((x :: L).flatMap fun x => (put16v x hi).data.toList).length := List.size_toArray
    have e2 : (wsT hi L).size = (L.flatMap fun x => (put16v x hi).data.toList).length := List.size_toArray
    have e3 : (put16v x hi).data.toList.length = (put16v x hi).size := Array.length_toList
    rw [e1, List.flatMap_cons, List.length_append, e3, put16_size, List.length_cons]
    omega
theorem ws_headA (c : Card) (hi : Bool) : wsT hi [29127, 0, c.Ino, c.Mode, c.Uid, c.Gid, c.Count, 0] ++ put32v c.Time hi = headA c hi := by
  apply ba_ext
  simp [wsT, headA]
theorem pad2_spec (n : Nat) (hn : n ≤ 9007199254740991) (w : World) : Calls Tryz.prog 37 #[.int .i64 (n : Int), .int .i64 2] w fun e w' => e = .returned (.int .i64 (pad2 n : Int)) ∧ w = w' := by
  have h := pad_spec (n : Int) 2 w
  rw [padv2 n hn] at h
  exact h
theorem nuls2_spec (n : Nat) (hn : n ≤ 1024) (w : World) : Calls Tryz.prog 36 #[.int .i64 (n : Int)] w fun e w' => e = .returned (.string (nulN n)) ∧ Below w.heap.size w w' := by
  have h := nulz_spec (n : Int) w (by omega)
  rw [Int.toNat_natCast] at h
  exact h
theorem and_shuf (a b c d e f g h : Bool) : ((a && (b && (c && (d && (e && g))))) && (f && h)) = (a && b && c && d && e && f && g && h) := by cases a <;> cases b <;> cases c <;> cases d <;> cases e <;> cases f <;> cases g <;> cases h <;> rfl
theorem binOk_room (c : Card) : (([29127, 0, c.Ino, c.Mode, c.Uid, c.Gid, c.Count, 0] ++ [(c.Path.size : Int) + 1]).all r16 && [c.Time, (c.Data.size : Int)].all r32) = binOk c := by
  have e1 : r16 29127 = true := by decide
  have e2 : r16 0 = true := by decide
  simp only [binOk, List.cons_append, List.nil_append, List.all_cons, List.all_nil, e1, e2, Bool.true_and, Bool.and_true]
  exact and_shuf _ _ _ _ _ _ _ _
set_option maxHeartbeats 6400000 in
set_option maxRecDepth 8000 in
theorem putBin_spec (ino mo u1 gi cn t : Int) (p d : ByteArray) (hi : Bool) (w : World) (hp : p.size ≤ 4194304) (hd : d.size ≤ 4194304) :
    Calls Tryz.prog 18 #[.agg #[.int .i64 ino, .int .i64 mo, .int .i64 u1, .int .i64 gi, .int .i64 cn, .int .i64 t, .string p, .string d], .bool hi] w fun e w' => e = .returned (.string (binTextv ⟨ino, mo, u1, gi, cn, t, p, d⟩ hi)) ∧ Below w.heap.size w w' := by
  have HG : Hid (∀ i, i < 8 → ∃ x, [29127, 0, ino, mo, u1, gi, cn, 0][i]? = some x) := Lib.hid (fun i hi => ⟨[29127, 0, ino, mo, u1, gi, cn, 0][i], List.getElem?_eq_getElem (by simpa using hi)⟩)
  have HS := Lib.hid (fun i x (h : [29127, 0, ino, mo, u1, gi, cn, 0][i]? = some x) => ws_take (hi := hi) h)
  have HZ : Hid (wsT hi ([29127, 0, ino, mo, u1, gi, cn, 0].take 0) = ⟨#[]⟩) := Lib.hid rfl
  have HLe : Hid (∀ i, (wsT hi ([29127, 0, ino, mo, u1, gi, cn, 0].take i)).size ≤ 16) := Lib.hid (fun i => by rw [wsT_size, List.length_take]; have : [29127, 0, ino, mo, u1, gi, cn, 0].length = 8 := rfl; omega)
  have HV : Hid (binTextv ⟨ino, mo, u1, gi, cn, t, p, d⟩ hi = if binOk ⟨ino, mo, u1, gi, cn, t, p, d⟩ then wsT hi [29127, 0, ino, mo, u1, gi, cn, 0] ++ put32v t hi ++ put16v ((p.size : Int) + 1) hi ++ put32v (d.size : Int) hi ++ p ++ ⟨#[0]⟩ ++ nulN (pad2 (p.size + 1)) ++ d ++ nulN (pad2 d.size) else ⟨#[]⟩) := Lib.hid (by
    show (if binOk ⟨ino, mo, u1, gi, cn, t, p, d⟩ then headB ⟨ino, mo, u1, gi, cn, t, p, d⟩ hi ++ p ++ ⟨#[0]⟩ ++ nulN (pad2 (p.size + 1)) ++ d ++ nulN (pad2 d.size) else ⟨#[]⟩) = _
    have := ws_headA ⟨ino, mo, u1, gi, cn, t, p, d⟩ hi
    simp only at this
    rw [headB, ← this])
  have HF : Hid (wsT hi ([29127, 0, ino, mo, u1, gi, cn, 0].take 8) = wsT hi [29127, 0, ino, mo, u1, gi, cn, 0] ∧ (wsT hi [29127, 0, ino, mo, u1, gi, cn, 0]).size = 16) := Lib.hid ⟨rfl, wsT_size _ _⟩
  have HR8 := Lib.hid (fun (w : World) (g : Nat) (ty : TypeId) (h : w.heap[g]? = some (.cells #[.int .i64 29127, .int .i64 0, .int .i64 ino, .int .i64 mo, .int .i64 u1, .int .i64 gi, .int .i64 cn, .int .i64 0] ty (0, 0))) => RowNB.of (l := [29127, 0, ino, mo, u1, gi, cn, 0]) h)
  have HOk : Hid ((([29127, 0, ino, mo, u1, gi, cn, 0] ++ [(p.size : Int) + 1]).all r16 && [t, (d.size : Int)].all r32) = binOk ⟨ino, mo, u1, gi, cn, t, p, d⟩) := Lib.hid (binOk_room ⟨ino, mo, u1, gi, cn, t, p, d⟩)
  generalize binTextv ⟨ino, mo, u1, gi, cn, t, p, d⟩ hi = r at HV
  generalize binOk ⟨ino, mo, u1, gi, cn, t, p, d⟩ = ok at HV HOk
  generalize wsT hi [29127, 0, ino, mo, u1, gi, cn, 0] = hx at HF HV
  have HP16 := Lib.hid (fun x w => put16_spec x hi w)
  have HP32 := Lib.hid (fun x w => put32_spec x hi w)
  have H16 := Lib.hid (fun x => put16_size x hi)
  have zt := put32_size t hi
  have zd := put32_size (d.size : Int) hi
  have zp := put16_size ((p.size : Int) + 1) hi
  have HPt := Lib.hid (fun w => put32_spec t hi w)
  have HPd := Lib.hid (fun w => put32_spec (d.size : Int) hi w)
  have HPp := Lib.hid (fun w => put16_spec ((p.size : Int) + 1) hi w)
  generalize put32v t hi = bt at *
  generalize put32v (d.size : Int) hi = bd at *
  generalize put16v ((p.size : Int) + 1) hi = bp at *
  have hq1 := pad2_le (p.size + 1)
  have hq2 := pad2_le d.size
  have HN1 := Lib.hid (fun w => nuls2_spec (pad2 (p.size + 1)) (by omega) w)
  have HN2 := Lib.hid (fun w => nuls2_spec (pad2 d.size) (by omega) w)
  have HP1 := Lib.hid (fun w => pad2_spec (p.size + 1) (by omega) w)
  rw [show ((p.size + 1 : Nat) : Int) = (p.size : Int) + 1 from by omega] at HP1
  have HP2 := Lib.hid (fun w => pad2_spec d.size (by omega) w)
  have hz1 := nulN_size (pad2 (p.size + 1))
  have hz2 := nulN_size (pad2 d.size)
  generalize nulN (pad2 (p.size + 1)) = nu1 at *
  generalize nulN (pad2 d.size) = nu2 at *
  generalize pad2 (p.size + 1) = q1 at *
  generalize pad2 d.size = q2 at *
  go_enter Tryz.func18, Tryz.ntmps18
  go_upto_region 1 with fail
  generalize hw1 : World.alloc w _ = w1
  have XC : Hid (CardO w1 w.heap.size ⟨ino, mo, u1, gi, cn, t, p, d⟩) := Lib.hid (by rw [← hw1]; exact CardO.new w ⟨ino, mo, u1, gi, cn, t, p, d⟩)
  have B1 : Hid (Below w.heap.size w w1) := Lib.hid (by rw [← hw1]; exact (Below.refl _ _).alloc (Nat.le_refl _) _)
  have hs1 : w1.heap.size = w.heap.size + 1 := by rw [← hw1]; simp
  clear hw1
  obtain ⟨d0, d1, d2, d3, d4, d5, d6, d7⟩ := XC.out.at.zero
  go_upto_region 2 with fail
  clear d0 d1 d2 d3 d4 d5 d6 d7
  generalize hwq : World.alloc w1 _ = wq
  have hsq : wq.heap.size = w1.heap.size + 1 := by rw [← hwq]; simp
  have BQ : Hid (Below w1.heap.size w1 wq) := Lib.hid (by rw [← hwq]; exact (Below.refl _ _).alloc (Nat.le_refl _) _)
  have RQ : Hid (RowNB wq (w.heap.size + 1) [29127, 0, ino, mo, u1, gi, cn, 0]) := Lib.hid (by rw [← hs1]; exact HR8.out wq w1.heap.size 3 (by rw [← hwq]; exact heap_lastG _ _))
  clear hwq HR8
  have XCq : Hid (CardO wq w.heap.size ⟨ino, mo, u1, gi, cn, t, p, d⟩) := Lib.hid (XC.out.below BQ.out (by omega))
  have KC : Hid (∀ w', Below wq.heap.size wq w' → w'.cell? ⟨w.heap.size, 0, none⟩ = some (.int .i64 ino) ∧ w'.cell? ⟨w.heap.size, 1, none⟩ = some (.int .i64 mo) ∧ w'.cell? ⟨w.heap.size, 2, none⟩ = some (.int .i64 u1) ∧ w'.cell? ⟨w.heap.size, 3, none⟩ = some (.int .i64 gi) ∧ w'.cell? ⟨w.heap.size, 4, none⟩ = some (.int .i64 cn) ∧ w'.cell? ⟨w.heap.size, 5, none⟩ = some (.int .i64 t) ∧ w'.cell? ⟨w.heap.size, 6, none⟩ = some (.string p) ∧ w'.cell? ⟨w.heap.size, 7, none⟩ = some (.string d)) := Lib.hid (fun w' hb => (XCq.out.below hb (by omega)).at.zero)
  refine wp_region_inv (by kernel_rfl) (fun w' => Below wq.heap.size wq w') (fun x y => Below x.heap.size x y) (vE 25 (appRow wq.heap.size 9 ([29127, 0, ino, mo, u1, gi, cn, 0] ++ [(p.size : Int) + 1])) (vE 31 (exRow wq.heap.size 2 #[.int .i64 t, .int .i64 (d.size : Int)] 3) (vE 24 (exRow wq.heap.size 1 #[.int .i64 ((p.size : Int) + 1)] 3) (fun dq vq _ => match dq with | 19 => vq = .slice (some ⟨w.heap.size + 1, 0, none⟩) 8 8 | 20 => vq = .pointer (some ⟨w.heap.size, 6, none⟩) | 21 => vq = .string p | 22 => vq = .int .i64 (p.size : Int) | 23 => vq = .int .i64 ((p.size : Int) + 1) | 26 => vq = .pointer (some ⟨w.heap.size, 5, none⟩) | 27 => vq = .int .i64 t | 28 => vq = .pointer (some ⟨w.heap.size, 7, none⟩) | 29 => vq = .string d | 30 => vq = .int .i64 (d.size : Int) | 32 => vq = .bool ok | 33 => vq = .bool (!ok) | _ => True)))) (by kernel_rfl) ((Below.refl _ _).drew) (vE_keep _ _ _ (appRow_keep _ _ _) (vE_keep _ _ _ (exRow_keep _ _ _ _) (vE_keep _ _ _ (exRow_keep _ _ _ _) (fun _ _ _ _ _ _ h => h)))) ?hops ?hend
  case hops =>
    simp only [List.forall_mem_cons]
    refine ⟨?o19, ?o20, ?o21, ?o22, ?o23, ?o24, ?o25, ?o26, ?o27, ?o28, ?o29, ?o30, ?o31, ?o32, ?o33, fun _ h => by cases h⟩
    case o19 =>
      intro Q a w2 hC hV hI
      have e5 : a.eval (.tmp 5) = .slice (some ⟨w.heap.size + 1, 0, none⟩) 8 8 := (hI 5 (by simp [Op.operands]) (by kernel_rfl)).trans rfl
      have f5 : a.tmps.getD 5 undef = .slice (some ⟨w.heap.size + 1, 0, none⟩) 8 8 := e5
      have g5 : a.tmps[5]?.getD undef = .slice (some ⟨w.heap.size + 1, 0, none⟩) 8 8 := by rw [← Array.getD_eq_getD_getElem?]; exact e5
      refine op_val (.slice (some ⟨w.heap.size + 1, 0, none⟩) 8 8) ?_ hC (Below.refl _ _) (by intro d hd; cases hd; exact rfl)
      (clear hV hI hC; go_simp <;> (first | rfl | simp | (rw [IntKind.wrap_i64]; omega)))
    case o20 =>
      intro Q a w2 hC hV hI
      have e2 : a.eval (.tmp 2) = .pointer (some ⟨w.heap.size, 0, none⟩) := (hI 2 (by simp [Op.operands]) (by kernel_rfl)).trans rfl
      have f2 : a.tmps.getD 2 undef = .pointer (some ⟨w.heap.size, 0, none⟩) := e2
      have g2 : a.tmps[2]?.getD undef = .pointer (some ⟨w.heap.size, 0, none⟩) := by rw [← Array.getD_eq_getD_getElem?]; exact e2
      refine op_val (.pointer (some ⟨w.heap.size, 6, none⟩)) ?_ hC (Below.refl _ _) (by intro d hd; cases hd; exact rfl)
      (clear hV hI hC; go_simp <;> (first | rfl | simp | (rw [IntKind.wrap_i64]; omega)))
    case o21 =>
      intro Q a w2 hC hV hI
      have e20 : a.eval (.tmp 20) = .pointer (some ⟨w.heap.size, 6, none⟩) := hV 20 (by simp [Op.operands]) (by kernel_rfl)
      have f20 : a.tmps.getD 20 undef = .pointer (some ⟨w.heap.size, 6, none⟩) := e20
      have g20 : a.tmps[20]?.getD undef = .pointer (some ⟨w.heap.size, 6, none⟩) := by rw [← Array.getD_eq_getD_getElem?]; exact e20
      have hK := KC.out w2 hC
      refine op_val (.string p) ?_ hC (Below.refl _ _) (by intro d hd; cases hd; exact rfl)
      (clear hV hI hC; go_simp <;> (first | rfl | simp | (rw [IntKind.wrap_i64]; omega)))
    case o22 =>
      intro Q a w2 hC hV hI
      have e21 : a.eval (.tmp 21) = .string p := hV 21 (by simp [Op.operands, Call.operands]) (by kernel_rfl)
      have f21 : a.tmps.getD 21 undef = .string p := e21
      have g21 : a.tmps[21]?.getD undef = .string p := by rw [← Array.getD_eq_getD_getElem?]; exact e21
      refine op_val (.int .i64 (p.size : Int)) ?_ hC (Below.refl _ _) (by intro d hd; cases hd; exact rfl)
      (clear hV hI hC; go_simp <;> (first | rfl | simp | (rw [IntKind.wrap_i64]; omega)))
    case o23 =>
      intro Q a w2 hC hV hI
      have e22 : a.eval (.tmp 22) = .int .i64 (p.size : Int) := hV 22 (by simp [Op.operands]) (by kernel_rfl)
      have f22 : a.tmps.getD 22 undef = .int .i64 (p.size : Int) := e22
      have g22 : a.tmps[22]?.getD undef = .int .i64 (p.size : Int) := by rw [← Array.getD_eq_getD_getElem?]; exact e22
      have q9 := add_i64 (P := Tryz.prog) (a := (p.size : Int)) (b := 1) w2 3 (by omega) (by omega)
      refine op_val (.int .i64 ((p.size : Int) + 1)) ?_ hC (Below.refl _ _) (by intro d hd; cases hd; exact rfl)
      (clear hV hI hC; go_simp <;> (first | rfl | simp | (rw [IntKind.wrap_i64]; omega)))
    case o24 =>
      intro Q a w2 hC hV hI
      have e23 : a.eval (.tmp 23) = .int .i64 ((p.size : Int) + 1) := hV 23 (by simp [Op.operands]) (by kernel_rfl)
      have f23 : a.tmps.getD 23 undef = .int .i64 ((p.size : Int) + 1) := e23
      have g23 : a.tmps[23]?.getD undef = .int .i64 ((p.size : Int) + 1) := by rw [← Array.getD_eq_getD_getElem?]; exact e23
      refine op_val (.slice (some ⟨w2.heap.size, 0, none⟩) 1 1) (w' := w2.alloc (.cells #[.int .i64 ((p.size : Int) + 1)] 3)) ?_ (hC.alloc hC.size _) ((Below.refl _ _).alloc (Nat.le_refl _) _) ?_
      · (clear hV hI hC; go_simp <;> (first | rfl | simp | (rw [IntKind.wrap_i64]; omega)))
      · intro d hd; cases hd; exact ⟨w2.heap.size, rfl, hC.size, heap_lastG _ _⟩
    case o25 =>
      intro Q a w2 hC hV hI
      have e19 : a.eval (.tmp 19) = .slice (some ⟨w.heap.size + 1, 0, none⟩) 8 8 := hV 19 (by simp [Op.operands, Call.operands]) (by kernel_rfl)
      have f19 : a.tmps.getD 19 undef = .slice (some ⟨w.heap.size + 1, 0, none⟩) 8 8 := e19
      have g19 : a.tmps[19]?.getD undef = .slice (some ⟨w.heap.size + 1, 0, none⟩) 8 8 := by rw [← Array.getD_eq_getD_getElem?]; exact e19
      obtain ⟨G24, e24, b24, o24⟩ : ∃ G, a.eval (.tmp 24) = .slice (some ⟨G, 0, none⟩) 1 1 ∧ wq.heap.size ≤ G ∧ w2.heap[G]? = some (.cells #[.int .i64 ((p.size : Int) + 1)] 3 (0, 0)) := hV 24 (by simp [Op.operands, Call.operands]) (by kernel_rfl)
      have f24 : a.tmps.getD 24 undef = .slice (some ⟨G24, 0, none⟩) 1 1 := e24
      have g24 : a.tmps[24]?.getD undef = .slice (some ⟨G24, 0, none⟩) 1 1 := by rw [← Array.getD_eq_getD_getElem?]; exact e24
      have hx1 : w2.cell? ⟨G24, 0, none⟩ = some (.int .i64 ((p.size : Int) + 1)) := by simp [World.cell?, o24]
      have hrw := RQ.out.below hC (by omega)
      obtain ⟨v9, w9, q1, q2, q3⟩ := app_full [29127, 0, ino, mo, u1, gi, cn, 0] ((p.size : Int) + 1) (w.heap.size + 1) G24 8 8 1 w2 63 rfl rfl hrw hx1 (by decide)
      refine op_app (.tmp 19) (.tmp 24) 63 rfl _ _ v9 (w' := w9) e19 e24 q1 (hC.trans (q3.mono hC.size)) q3 ?_
      intro d hd; cases hd; obtain ⟨G9, c9, r1, r2, r3, r4⟩ := q2; exact ⟨G9, c9, r1, Nat.le_trans hC.size r2, r3, r4⟩
    case o26 =>
      intro Q a w2 hC hV hI
      have e2 : a.eval (.tmp 2) = .pointer (some ⟨w.heap.size, 0, none⟩) := (hI 2 (by simp [Op.operands]) (by kernel_rfl)).trans rfl
      have f2 : a.tmps.getD 2 undef = .pointer (some ⟨w.heap.size, 0, none⟩) := e2
      have g2 : a.tmps[2]?.getD undef = .pointer (some ⟨w.heap.size, 0, none⟩) := by rw [← Array.getD_eq_getD_getElem?]; exact e2
      refine op_val (.pointer (some ⟨w.heap.size, 5, none⟩)) ?_ hC (Below.refl _ _) (by intro d hd; cases hd; exact rfl)
      (clear hV hI hC; go_simp <;> (first | rfl | simp | (rw [IntKind.wrap_i64]; omega)))
    case o27 =>
      intro Q a w2 hC hV hI
      have e26 : a.eval (.tmp 26) = .pointer (some ⟨w.heap.size, 5, none⟩) := hV 26 (by simp [Op.operands]) (by kernel_rfl)
      have f26 : a.tmps.getD 26 undef = .pointer (some ⟨w.heap.size, 5, none⟩) := e26
      have g26 : a.tmps[26]?.getD undef = .pointer (some ⟨w.heap.size, 5, none⟩) := by rw [← Array.getD_eq_getD_getElem?]; exact e26
      have hK := KC.out w2 hC
      refine op_val (.int .i64 t) ?_ hC (Below.refl _ _) (by intro d hd; cases hd; exact rfl)
      (clear hV hI hC; go_simp <;> (first | rfl | simp | (rw [IntKind.wrap_i64]; omega)))
    case o28 =>
      intro Q a w2 hC hV hI
      have e2 : a.eval (.tmp 2) = .pointer (some ⟨w.heap.size, 0, none⟩) := (hI 2 (by simp [Op.operands]) (by kernel_rfl)).trans rfl
      have f2 : a.tmps.getD 2 undef = .pointer (some ⟨w.heap.size, 0, none⟩) := e2
      have g2 : a.tmps[2]?.getD undef = .pointer (some ⟨w.heap.size, 0, none⟩) := by rw [← Array.getD_eq_getD_getElem?]; exact e2
      refine op_val (.pointer (some ⟨w.heap.size, 7, none⟩)) ?_ hC (Below.refl _ _) (by intro d hd; cases hd; exact rfl)
      (clear hV hI hC; go_simp <;> (first | rfl | simp | (rw [IntKind.wrap_i64]; omega)))
    case o29 =>
      intro Q a w2 hC hV hI
      have e28 : a.eval (.tmp 28) = .pointer (some ⟨w.heap.size, 7, none⟩) := hV 28 (by simp [Op.operands]) (by kernel_rfl)
      have f28 : a.tmps.getD 28 undef = .pointer (some ⟨w.heap.size, 7, none⟩) := e28
      have g28 : a.tmps[28]?.getD undef = .pointer (some ⟨w.heap.size, 7, none⟩) := by rw [← Array.getD_eq_getD_getElem?]; exact e28
      have hK := KC.out w2 hC
      refine op_val (.string d) ?_ hC (Below.refl _ _) (by intro d hd; cases hd; exact rfl)
      (clear hV hI hC; go_simp <;> (first | rfl | simp | (rw [IntKind.wrap_i64]; omega)))
    case o30 =>
      intro Q a w2 hC hV hI
      have e29 : a.eval (.tmp 29) = .string d := hV 29 (by simp [Op.operands, Call.operands]) (by kernel_rfl)
      have f29 : a.tmps.getD 29 undef = .string d := e29
      have g29 : a.tmps[29]?.getD undef = .string d := by rw [← Array.getD_eq_getD_getElem?]; exact e29
      refine op_val (.int .i64 (d.size : Int)) ?_ hC (Below.refl _ _) (by intro d hd; cases hd; exact rfl)
      (clear hV hI hC; go_simp <;> (first | rfl | simp | (rw [IntKind.wrap_i64]; omega)))
    case o31 =>
      intro Q a w2 hC hV hI
      have e27 : a.eval (.tmp 27) = .int .i64 t := hV 27 (by simp [Op.operands]) (by kernel_rfl)
      have f27 : a.tmps.getD 27 undef = .int .i64 t := e27
      have g27 : a.tmps[27]?.getD undef = .int .i64 t := by rw [← Array.getD_eq_getD_getElem?]; exact e27
      have e30 : a.eval (.tmp 30) = .int .i64 (d.size : Int) := hV 30 (by simp [Op.operands]) (by kernel_rfl)
      have f30 : a.tmps.getD 30 undef = .int .i64 (d.size : Int) := e30
      have g30 : a.tmps[30]?.getD undef = .int .i64 (d.size : Int) := by rw [← Array.getD_eq_getD_getElem?]; exact e30
      refine op_val (.slice (some ⟨w2.heap.size, 0, none⟩) 2 2) (w' := w2.alloc (.cells #[.int .i64 t, .int .i64 (d.size : Int)] 3)) ?_ (hC.alloc hC.size _) ((Below.refl _ _).alloc (Nat.le_refl _) _) ?_
      · (clear hV hI hC; go_simp <;> (first | rfl | simp | (rw [IntKind.wrap_i64]; omega)))
      · intro d hd; cases hd; exact ⟨w2.heap.size, rfl, hC.size, heap_lastG _ _⟩
    case o32 =>
      intro Q a w2 hC hV hI
      obtain ⟨G25, c25, e25, b25, l25, o25⟩ : ∃ G c, a.eval (.tmp 25) = .slice (some ⟨G, 0, none⟩) 9 c ∧ wq.heap.size ≤ G ∧ G < w2.heap.size ∧ RowNB w2 G ([29127, 0, ino, mo, u1, gi, cn, 0] ++ [(p.size : Int) + 1]) := hV 25 (by simp [Op.operands, Call.operands]) (by kernel_rfl)
      have f25 : a.tmps.getD 25 undef = .slice (some ⟨G25, 0, none⟩) 9 c25 := e25
      have g25 : a.tmps[25]?.getD undef = .slice (some ⟨G25, 0, none⟩) 9 c25 := by rw [← Array.getD_eq_getD_getElem?]; exact e25
      obtain ⟨G31, e31, b31, o31⟩ : ∃ G, a.eval (.tmp 31) = .slice (some ⟨G, 0, none⟩) 2 2 ∧ wq.heap.size ≤ G ∧ w2.heap[G]? = some (.cells #[.int .i64 t, .int .i64 (d.size : Int)] 3 (0, 0)) := hV 31 (by simp [Op.operands, Call.operands]) (by kernel_rfl)
      have f31 : a.tmps.getD 31 undef = .slice (some ⟨G31, 0, none⟩) 2 2 := e31
      have g31 : a.tmps[31]?.getD undef = .slice (some ⟨G31, 0, none⟩) 2 2 := by rw [← Array.getD_eq_getD_getElem?]; exact e31
      refine op_call (f := 33) (args := #[.slice (some ⟨G25, 0, none⟩) 9 c25, .slice (some ⟨G31, 0, none⟩) 2 2]) (R := fun v y => v = .bool ok ∧ w2 = y) ?_ (((by rw [← HOk.out]; exact room_any G25 G31 9 2 c25 2 ([29127, 0, ino, mo, u1, gi, cn, 0] ++ [(p.size : Int) + 1]) [t, (d.size : Int)] w2 o25 (RowNB.of (l := [t, (d.size : Int)]) o31) rfl rfl (by decide) (by decide) : Calls Tryz.prog 33 #[.slice (some ⟨G25, 0, none⟩) 9 c25, .slice (some ⟨G31, 0, none⟩) 2 2] w2 fun e w' => e = .returned (.bool ok) ∧ w2 = w')).mono ?_) ?_
      · (clear hV hI hC; go_simp <;> (first | rfl | simp | (rw [IntKind.wrap_i64]; omega)))
      · rintro e y ⟨rfl, rfl⟩; exact ⟨_, rfl, rfl, rfl⟩
      · rintro v y ⟨rfl, rfl⟩; exact ⟨hC, Below.refl _ _, by intro d hd; cases hd; exact rfl⟩
    case o33 =>
      intro Q a w2 hC hV hI
      have e32 : a.eval (.tmp 32) = .bool ok := hV 32 (by simp [Op.operands]) (by kernel_rfl)
      have f32 : a.tmps.getD 32 undef = .bool ok := e32
      have g32 : a.tmps[32]?.getD undef = .bool ok := by rw [← Array.getD_eq_getD_getElem?]; exact e32
      refine op_val (.bool (!ok)) ?_ hC (Below.refl _ _) (by intro d hd; cases hd; exact rfl)
      (clear hV hI hC; go_simp <;> (first | rfl | simp | (rw [IntKind.wrap_i64]; omega)))
  case hend =>
    intro f wz hC hall
    simp only [List.forall_mem_cons] at hall
    obtain ⟨h19, h20, h21, h22, h23, h24, h25, h26, h27, h28, h29, h30, h31, h32, h33, _⟩ := hall
    replace h19 : f 19 = .slice (some ⟨w.heap.size + 1, 0, none⟩) 8 8 := h19 19 rfl
    replace h20 : f 20 = .pointer (some ⟨w.heap.size, 6, none⟩) := h20 20 rfl
    replace h21 : f 21 = .string p := h21 21 rfl
    replace h22 : f 22 = .int .i64 (p.size : Int) := h22 22 rfl
    replace h23 : f 23 = .int .i64 ((p.size : Int) + 1) := h23 23 rfl
    obtain ⟨G24, hG24, hGB24, hGO24⟩ : ∃ G, f 24 = .slice (some ⟨G, 0, none⟩) 1 1 ∧ wq.heap.size ≤ G ∧ wz.heap[G]? = some (.cells #[.int .i64 ((p.size : Int) + 1)] 3 (0, 0)) := h24 24 rfl
    obtain ⟨G25, c25, hG25, hGB25, hGl25, hGO25⟩ : ∃ G c, f 25 = .slice (some ⟨G, 0, none⟩) 9 c ∧ wq.heap.size ≤ G ∧ G < wz.heap.size ∧ RowNB wz G ([29127, 0, ino, mo, u1, gi, cn, 0] ++ [(p.size : Int) + 1]) := h25 25 rfl
    replace h26 : f 26 = .pointer (some ⟨w.heap.size, 5, none⟩) := h26 26 rfl
    replace h27 : f 27 = .int .i64 t := h27 27 rfl
    replace h28 : f 28 = .pointer (some ⟨w.heap.size, 7, none⟩) := h28 28 rfl
    replace h29 : f 29 = .string d := h29 29 rfl
    replace h30 : f 30 = .int .i64 (d.size : Int) := h30 30 rfl
    obtain ⟨G31, hG31, hGB31, hGO31⟩ : ∃ G, f 31 = .slice (some ⟨G, 0, none⟩) 2 2 ∧ wq.heap.size ≤ G ∧ wz.heap[G]? = some (.cells #[.int .i64 t, .int .i64 (d.size : Int)] 3 (0, 0)) := h31 31 rfl
    replace h32 : f 32 = .bool ok := h32 32 rfl
    replace h33 : f 33 = .bool (!ok) := h33 33 rfl
    simp only [putAll, Act.put, List.setIfInBounds_toArray, List.set_cons_succ, List.set_cons_zero, h19, h20, h21, h22, h23, hG24, hG25, h26, h27, h28, h29, h30, hG31, h32, h33]
    clear h19 h20 h21 h22 h23 hG24 h24 hG25 h25 h26 h27 h28 h29 h30 hG31 h31 h32 h33
    have XC2 := Lib.hid (XCq.out.below hC (by omega))
    have RW := Lib.hid (RQ.out.below hC (by omega))
    have hGl : w.heap.size + 1 < wz.heap.size := by have := hC.size; omega
    have B2 := Lib.hid ((B1.out.trans (BQ.out.mono (by omega))).trans (hC.mono (by omega)))
    clear KC XC XCq B1 hGO24 hGO25 hGO31 hC RQ BQ HOk hGB24 hGB25 hGB31 hGl25
    cases ok with
    | false =>
      have HF2 : Hid (r = ⟨#[]⟩) := Lib.hid (by rw [HV.out]; rfl)
      clear HV HG HS HF
      go_wp2_with fail
      go_ret
      exact ⟨by rw [HF2.out]; rfl, B2.out⟩
    | true =>
    replace HV : Hid (r = hx ++ bt ++ bp ++ bd ++ p ++ ⟨#[0]⟩ ++ nu1 ++ d ++ nu2) := Lib.hid (by rw [HV.out]; rfl)
    generalize [29127, 0, ino, mo, u1, gi, cn, 0] = L at *
    go_wp2_with fail
    go_loopw [6, 7] (fun v u wr => ∃ i : Nat, u = .int .i64 i ∧ i ≤ 8 ∧ v = .string (wsT hi (L.take i)) ∧ RowNB wr (w.heap.size + 1) L ∧ w.heap.size + 1 < wr.heap.size ∧ CardO wr w.heap.size ⟨ino, mo, u1, gi, cn, t, p, d⟩ ∧ Below w.heap.size w wr) (fun _ u _ => 8 - (intOf u).toNat)
    case atStart => exact ⟨0, rfl, Nat.zero_le _, by rw [HZ.out], RW.out, hGl, XC2.out, B2.out⟩
    case round =>
      obtain ⟨i, rfl, hi8, rfl, hrw, hgl, hxc, hb⟩ := hrel
      clear XC2 RW B2 hGl
      have B := Lib.hid hb
      have RW := Lib.hid hrw
      have XC := Lib.hid hxc
      have hszB := B.out.size
      clear hb hrw hxc
      have hle := HLe.out i
      by_cases hlt : i < 8
      · have hlt2 : (i : Int) < 8 := by omega
        obtain ⟨x, hx9⟩ := HG.out i hlt
        have HS2 := Lib.hid (HS.out i _ hx9)
        have cN := RW.out i x hx9
        have HPx := Lib.hid (fun w => HP16.out x w)
        have hpl := H16.out x
        clear hx9 HS HG HN1 HN2 HP1 HP2
        obtain ⟨Tx, hT⟩ : ∃ Tx, wsT hi (L.take i) = Tx := ⟨_, rfl⟩
        rw [hT] at HS2 hle ⊢
        clear hT
        generalize put16v x hi = q at HS2 HPx hpl
        have HA := (fun w => run_string_add_sum (P := Tryz.prog) w Tx q (by omega))
        go_wp2_with fail
        refine (HPx.out _).mono ?_
        rintro e wp ⟨rfl, hbp⟩
        have B3 := Lib.hid (B.out.trans (hbp.mono hszB))
        have RW3 := Lib.hid (RW.out.below hbp (by omega))
        have XC3 := Lib.hid (XC.out.below hbp (by omega))
        have hgl3 : w.heap.size + 1 < wp.heap.size := by have := hbp.size; omega
        clear hbp cN
        go_wp2_with fail
        go_roundw
        case rel => exact ⟨_, _, _, _, _, _, _, _, _, _, _, _, _, _, _, _, ⟨i + 1, by go_num, by omega, by rw [HS2.out], RW3.out, hgl3, XC3.out, B3.out⟩, rfl⟩
        case measure => simp [intOf]; omega
      · obtain rfl : i = 8 := by omega
        have hlt2 : ¬ ((8 : Nat) : Int) < 8 := by omega
        have hxz := HF.out.2
        have HF9 := HF.out.1
        rw [HF9]
        clear HF9 HF HS HG HZ HLe RW HP16 H16
        have z1 : (⟨#[0]⟩ : ByteArray).size = 1 := rfl
        obtain ⟨k0, k1, k2, k3, k4, k5, k6, k7⟩ := XC.out.at.zero
        simp only at k5 k6 k7
        have hcl := XC.out.lt
        obtain ⟨w3, hw3⟩ : ∃ wo, wo = wr := ⟨_, rfl⟩
        subst hw3
        go_upto_region 9 with fail
        have KC : Hid (∀ w', Below w3.heap.size w3 w' → w'.cell? ⟨w.heap.size, 5, none⟩ = some (.int .i64 t) ∧ w'.cell? ⟨w.heap.size, 6, none⟩ = some (.string p) ∧ w'.cell? ⟨w.heap.size, 7, none⟩ = some (.string d)) := Lib.hid (fun w' hb => ⟨(hb.cell (p := ⟨w.heap.size, 5, none⟩) hcl).trans k5, (hb.cell (p := ⟨w.heap.size, 6, none⟩) hcl).trans k6, (hb.cell (p := ⟨w.heap.size, 7, none⟩) hcl).trans k7⟩)
        obtain ⟨x53, hx53⟩ : ∃ x : ByteArray, x = hx ++ bt := ⟨_, rfl⟩
        obtain ⟨x60, hx60⟩ : ∃ x : ByteArray, x = x53 ++ bp := ⟨_, rfl⟩
        obtain ⟨x66, hx66⟩ : ∃ x : ByteArray, x = x60 ++ bd := ⟨_, rfl⟩
        have zx53 : x53.size ≤ 20 := by rw [hx53, ByteArray.size_append]; omega
        have zx60 : x60.size ≤ 22 := by rw [hx60, ByteArray.size_append]; omega
        have zx66 : x66.size ≤ 26 := by rw [hx66, ByteArray.size_append]; omega
        have HA53 : Hid (∀ w, (Op.stringOp .add hx bt).run Tryz.prog w = .ok (.string x53) w) := Lib.hid (fun w => by rw [hx53]; exact run_string_add_sum w _ _ (by omega))
        have HA60 : Hid (∀ w, (Op.stringOp .add x53 bp).run Tryz.prog w = .ok (.string x60) w) := Lib.hid (fun w => by rw [hx60]; exact run_string_add_sum w _ _ (by omega))
        have HA66 : Hid (∀ w, (Op.stringOp .add x60 bd).run Tryz.prog w = .ok (.string x66) w) := Lib.hid (fun w => by rw [hx66]; exact run_string_add_sum w _ _ (by omega))
        have HX53 := Lib.hid hx53
        have HX60 := Lib.hid hx60
        have HX66 := Lib.hid hx66
        clear hx53 hx60 hx66
        refine wp_region_inv (by kernel_rfl) (fun w' => Below w3.heap.size w3 w') (fun x y => Below x.heap.size x y) (fun dq vq _ => match dq with | 48 => vq = .string hx | 49 => vq = .pointer (some ⟨w.heap.size, 5, none⟩) | 50 => vq = .int .i64 t | 51 => vq = .bool hi | 52 => vq = .string bt | 53 => vq = .string x53 | 54 => vq = .pointer (some ⟨w.heap.size, 6, none⟩) | 55 => vq = .string p | 56 => vq = .int .i64 (p.size : Int) | 57 => vq = .int .i64 ((p.size : Int) + 1) | 58 => vq = .bool hi | 59 => vq = .string bp | 60 => vq = .string x60 | 61 => vq = .pointer (some ⟨w.heap.size, 7, none⟩) | 62 => vq = .string d | 63 => vq = .int .i64 (d.size : Int) | 64 => vq = .bool hi | 65 => vq = .string bd | 66 => vq = .string x66 | 6 => vq = .string x66 | _ => True) (by kernel_rfl) ((Below.refl _ _).drew) (fun _ _ _ _ _ _ h => h) ?hops ?hend
        case hops =>
          simp only [List.forall_mem_cons]
          refine ⟨?o48, ?o49, ?o50, ?o51, ?o52, ?o53, ?o54, ?o55, ?o56, ?o57, ?o58, ?o59, ?o60, ?o61, ?o62, ?o63, ?o64, ?o65, ?o66, ?o6, fun _ h => by cases h⟩
          case o48 =>
            intro Q a w2 hC hV hI
            have e6 : a.eval (.tmp 6) = .string hx := (hI 6 (by simp [Op.operands]) (by kernel_rfl)).trans rfl
            have f6 : a.tmps.getD 6 undef = .string hx := e6
            have g6 : a.tmps[6]?.getD undef = .string hx := by rw [← Array.getD_eq_getD_getElem?]; exact e6
            refine op_val (.string hx) ?_ hC (Below.refl _ _) (by intro d hd; cases hd; rfl)
            (clear hV hI hC; go_simp <;> (first | rfl | simp | (rw [IntKind.wrap_i64]; omega)))
          case o49 =>
            intro Q a w2 hC hV hI
            have e2 : a.eval (.tmp 2) = .pointer (some ⟨w.heap.size, 0, none⟩) := (hI 2 (by simp [Op.operands]) (by kernel_rfl)).trans rfl
            have f2 : a.tmps.getD 2 undef = .pointer (some ⟨w.heap.size, 0, none⟩) := e2
            have g2 : a.tmps[2]?.getD undef = .pointer (some ⟨w.heap.size, 0, none⟩) := by rw [← Array.getD_eq_getD_getElem?]; exact e2
            refine op_val (.pointer (some ⟨w.heap.size, 5, none⟩)) ?_ hC (Below.refl _ _) (by intro d hd; cases hd; rfl)
            (clear hV hI hC; go_simp <;> (first | rfl | simp | (rw [IntKind.wrap_i64]; omega)))
          case o50 =>
            intro Q a w2 hC hV hI
            have e49 : a.eval (.tmp 49) = .pointer (some ⟨w.heap.size, 5, none⟩) := hV 49 (by simp [Op.operands]) (by kernel_rfl)
            have f49 : a.tmps.getD 49 undef = .pointer (some ⟨w.heap.size, 5, none⟩) := e49
            have g49 : a.tmps[49]?.getD undef = .pointer (some ⟨w.heap.size, 5, none⟩) := by rw [← Array.getD_eq_getD_getElem?]; exact e49
            have hK := KC.out w2 hC
            refine op_val (.int .i64 t) ?_ hC (Below.refl _ _) (by intro d hd; cases hd; rfl)
            (clear hV hI hC; go_simp <;> (first | rfl | simp | (rw [IntKind.wrap_i64]; omega)))
          case o51 =>
            intro Q a w2 hC hV hI
            have e1 : a.eval (.tmp 1) = .bool hi := (hI 1 (by simp [Op.operands]) (by kernel_rfl)).trans rfl
            have f1 : a.tmps.getD 1 undef = .bool hi := e1
            have g1 : a.tmps[1]?.getD undef = .bool hi := by rw [← Array.getD_eq_getD_getElem?]; exact e1
            refine op_val (.bool hi) ?_ hC (Below.refl _ _) (by intro d hd; cases hd; rfl)
            (clear hV hI hC; go_simp <;> (first | rfl | simp | (rw [IntKind.wrap_i64]; omega)))
          case o52 =>
            intro Q a w2 hC hV hI
            have e50 : a.eval (.tmp 50) = .int .i64 t := hV 50 (by simp [Op.operands, Call.operands]) (by kernel_rfl)
            have f50 : a.tmps.getD 50 undef = .int .i64 t := e50
            have g50 : a.tmps[50]?.getD undef = .int .i64 t := by rw [← Array.getD_eq_getD_getElem?]; exact e50
            have e51 : a.eval (.tmp 51) = .bool hi := hV 51 (by simp [Op.operands, Call.operands]) (by kernel_rfl)
            have f51 : a.tmps.getD 51 undef = .bool hi := e51
            have g51 : a.tmps[51]?.getD undef = .bool hi := by rw [← Array.getD_eq_getD_getElem?]; exact e51
            refine op_call (f := 35) (args := #[.int .i64 t, .bool hi]) (R := fun v y => v = .string bt ∧ Below w2.heap.size w2 y) ?_ ((HPt.out w2).mono ?_) ?_
            · (clear hV hI hC; go_simp <;> (first | rfl | simp | (rw [IntKind.wrap_i64]; omega)))
            · rintro e y ⟨rfl, hb⟩; exact ⟨_, rfl, rfl, hb⟩
            · rintro v y ⟨rfl, hb⟩; exact ⟨hC.trans (hb.mono hC.size), hb, by intro d hd; cases hd; rfl⟩
          case o53 =>
            intro Q a w2 hC hV hI
            have e48 : a.eval (.tmp 48) = .string hx := hV 48 (by simp [Op.operands]) (by kernel_rfl)
            have f48 : a.tmps.getD 48 undef = .string hx := e48
            have g48 : a.tmps[48]?.getD undef = .string hx := by rw [← Array.getD_eq_getD_getElem?]; exact e48
            have e52 : a.eval (.tmp 52) = .string bt := hV 52 (by simp [Op.operands]) (by kernel_rfl)
            have f52 : a.tmps.getD 52 undef = .string bt := e52
            have g52 : a.tmps[52]?.getD undef = .string bt := by rw [← Array.getD_eq_getD_getElem?]; exact e52
            refine op_val (.string x53) ?_ hC (Below.refl _ _) (by intro d hd; cases hd; rfl)
            have q := HA53.out w2
            (clear hV hI hC; go_simp <;> (first | rfl | simp | (rw [IntKind.wrap_i64]; omega)))
          case o54 =>
            intro Q a w2 hC hV hI
            have e2 : a.eval (.tmp 2) = .pointer (some ⟨w.heap.size, 0, none⟩) := (hI 2 (by simp [Op.operands]) (by kernel_rfl)).trans rfl
            have f2 : a.tmps.getD 2 undef = .pointer (some ⟨w.heap.size, 0, none⟩) := e2
            have g2 : a.tmps[2]?.getD undef = .pointer (some ⟨w.heap.size, 0, none⟩) := by rw [← Array.getD_eq_getD_getElem?]; exact e2
            refine op_val (.pointer (some ⟨w.heap.size, 6, none⟩)) ?_ hC (Below.refl _ _) (by intro d hd; cases hd; rfl)
            (clear hV hI hC; go_simp <;> (first | rfl | simp | (rw [IntKind.wrap_i64]; omega)))
          case o55 =>
            intro Q a w2 hC hV hI
            have e54 : a.eval (.tmp 54) = .pointer (some ⟨w.heap.size, 6, none⟩) := hV 54 (by simp [Op.operands]) (by kernel_rfl)
            have f54 : a.tmps.getD 54 undef = .pointer (some ⟨w.heap.size, 6, none⟩) := e54
            have g54 : a.tmps[54]?.getD undef = .pointer (some ⟨w.heap.size, 6, none⟩) := by rw [← Array.getD_eq_getD_getElem?]; exact e54
            have hK := KC.out w2 hC
            refine op_val (.string p) ?_ hC (Below.refl _ _) (by intro d hd; cases hd; rfl)
            (clear hV hI hC; go_simp <;> (first | rfl | simp | (rw [IntKind.wrap_i64]; omega)))
          case o56 =>
            intro Q a w2 hC hV hI
            have e55 : a.eval (.tmp 55) = .string p := hV 55 (by simp [Op.operands, Call.operands]) (by kernel_rfl)
            have f55 : a.tmps.getD 55 undef = .string p := e55
            have g55 : a.tmps[55]?.getD undef = .string p := by rw [← Array.getD_eq_getD_getElem?]; exact e55
            refine op_val (.int .i64 (p.size : Int)) ?_ hC (Below.refl _ _) (by intro d hd; cases hd; rfl)
            (clear hV hI hC; go_simp <;> (first | rfl | simp | (rw [IntKind.wrap_i64]; omega)))
          case o57 =>
            intro Q a w2 hC hV hI
            have e56 : a.eval (.tmp 56) = .int .i64 (p.size : Int) := hV 56 (by simp [Op.operands]) (by kernel_rfl)
            have f56 : a.tmps.getD 56 undef = .int .i64 (p.size : Int) := e56
            have g56 : a.tmps[56]?.getD undef = .int .i64 (p.size : Int) := by rw [← Array.getD_eq_getD_getElem?]; exact e56
            have q9 := add_i64 (P := Tryz.prog) (a := (p.size : Int)) (b := 1) w2 3 (by omega) (by omega)
            refine op_val (.int .i64 ((p.size : Int) + 1)) ?_ hC (Below.refl _ _) (by intro d hd; cases hd; rfl)
            (clear hV hI hC; go_simp <;> (first | rfl | simp | (rw [IntKind.wrap_i64]; omega)))
          case o58 =>
            intro Q a w2 hC hV hI
            have e1 : a.eval (.tmp 1) = .bool hi := (hI 1 (by simp [Op.operands]) (by kernel_rfl)).trans rfl
            have f1 : a.tmps.getD 1 undef = .bool hi := e1
            have g1 : a.tmps[1]?.getD undef = .bool hi := by rw [← Array.getD_eq_getD_getElem?]; exact e1
            refine op_val (.bool hi) ?_ hC (Below.refl _ _) (by intro d hd; cases hd; rfl)
            (clear hV hI hC; go_simp <;> (first | rfl | simp | (rw [IntKind.wrap_i64]; omega)))
          case o59 =>
            intro Q a w2 hC hV hI
            have e57 : a.eval (.tmp 57) = .int .i64 ((p.size : Int) + 1) := hV 57 (by simp [Op.operands, Call.operands]) (by kernel_rfl)
            have f57 : a.tmps.getD 57 undef = .int .i64 ((p.size : Int) + 1) := e57
            have g57 : a.tmps[57]?.getD undef = .int .i64 ((p.size : Int) + 1) := by rw [← Array.getD_eq_getD_getElem?]; exact e57
            have e58 : a.eval (.tmp 58) = .bool hi := hV 58 (by simp [Op.operands, Call.operands]) (by kernel_rfl)
            have f58 : a.tmps.getD 58 undef = .bool hi := e58
            have g58 : a.tmps[58]?.getD undef = .bool hi := by rw [← Array.getD_eq_getD_getElem?]; exact e58
            refine op_call (f := 34) (args := #[.int .i64 ((p.size : Int) + 1), .bool hi]) (R := fun v y => v = .string bp ∧ Below w2.heap.size w2 y) ?_ ((HPp.out w2).mono ?_) ?_
            · (clear hV hI hC; go_simp <;> (first | rfl | simp | (rw [IntKind.wrap_i64]; omega)))
            · rintro e y ⟨rfl, hb⟩; exact ⟨_, rfl, rfl, hb⟩
            · rintro v y ⟨rfl, hb⟩; exact ⟨hC.trans (hb.mono hC.size), hb, by intro d hd; cases hd; rfl⟩
          case o60 =>
            intro Q a w2 hC hV hI
            have e53 : a.eval (.tmp 53) = .string x53 := hV 53 (by simp [Op.operands]) (by kernel_rfl)
            have f53 : a.tmps.getD 53 undef = .string x53 := e53
            have g53 : a.tmps[53]?.getD undef = .string x53 := by rw [← Array.getD_eq_getD_getElem?]; exact e53
            have e59 : a.eval (.tmp 59) = .string bp := hV 59 (by simp [Op.operands]) (by kernel_rfl)
            have f59 : a.tmps.getD 59 undef = .string bp := e59
            have g59 : a.tmps[59]?.getD undef = .string bp := by rw [← Array.getD_eq_getD_getElem?]; exact e59
            refine op_val (.string x60) ?_ hC (Below.refl _ _) (by intro d hd; cases hd; rfl)
            have q := HA60.out w2
            (clear hV hI hC; go_simp <;> (first | rfl | simp | (rw [IntKind.wrap_i64]; omega)))
          case o61 =>
            intro Q a w2 hC hV hI
            have e2 : a.eval (.tmp 2) = .pointer (some ⟨w.heap.size, 0, none⟩) := (hI 2 (by simp [Op.operands]) (by kernel_rfl)).trans rfl
            have f2 : a.tmps.getD 2 undef = .pointer (some ⟨w.heap.size, 0, none⟩) := e2
            have g2 : a.tmps[2]?.getD undef = .pointer (some ⟨w.heap.size, 0, none⟩) := by rw [← Array.getD_eq_getD_getElem?]; exact e2
            refine op_val (.pointer (some ⟨w.heap.size, 7, none⟩)) ?_ hC (Below.refl _ _) (by intro d hd; cases hd; rfl)
            (clear hV hI hC; go_simp <;> (first | rfl | simp | (rw [IntKind.wrap_i64]; omega)))
          case o62 =>
            intro Q a w2 hC hV hI
            have e61 : a.eval (.tmp 61) = .pointer (some ⟨w.heap.size, 7, none⟩) := hV 61 (by simp [Op.operands]) (by kernel_rfl)
            have f61 : a.tmps.getD 61 undef = .pointer (some ⟨w.heap.size, 7, none⟩) := e61
            have g61 : a.tmps[61]?.getD undef = .pointer (some ⟨w.heap.size, 7, none⟩) := by rw [← Array.getD_eq_getD_getElem?]; exact e61
            have hK := KC.out w2 hC
            refine op_val (.string d) ?_ hC (Below.refl _ _) (by intro d hd; cases hd; rfl)
            (clear hV hI hC; go_simp <;> (first | rfl | simp | (rw [IntKind.wrap_i64]; omega)))
          case o63 =>
            intro Q a w2 hC hV hI
            have e62 : a.eval (.tmp 62) = .string d := hV 62 (by simp [Op.operands, Call.operands]) (by kernel_rfl)
            have f62 : a.tmps.getD 62 undef = .string d := e62
            have g62 : a.tmps[62]?.getD undef = .string d := by rw [← Array.getD_eq_getD_getElem?]; exact e62
            refine op_val (.int .i64 (d.size : Int)) ?_ hC (Below.refl _ _) (by intro d hd; cases hd; rfl)
            (clear hV hI hC; go_simp <;> (first | rfl | simp | (rw [IntKind.wrap_i64]; omega)))
          case o64 =>
            intro Q a w2 hC hV hI
            have e1 : a.eval (.tmp 1) = .bool hi := (hI 1 (by simp [Op.operands]) (by kernel_rfl)).trans rfl
            have f1 : a.tmps.getD 1 undef = .bool hi := e1
            have g1 : a.tmps[1]?.getD undef = .bool hi := by rw [← Array.getD_eq_getD_getElem?]; exact e1
            refine op_val (.bool hi) ?_ hC (Below.refl _ _) (by intro d hd; cases hd; rfl)
            (clear hV hI hC; go_simp <;> (first | rfl | simp | (rw [IntKind.wrap_i64]; omega)))
          case o65 =>
            intro Q a w2 hC hV hI
            have e63 : a.eval (.tmp 63) = .int .i64 (d.size : Int) := hV 63 (by simp [Op.operands, Call.operands]) (by kernel_rfl)
            have f63 : a.tmps.getD 63 undef = .int .i64 (d.size : Int) := e63
            have g63 : a.tmps[63]?.getD undef = .int .i64 (d.size : Int) := by rw [← Array.getD_eq_getD_getElem?]; exact e63
            have e64 : a.eval (.tmp 64) = .bool hi := hV 64 (by simp [Op.operands, Call.operands]) (by kernel_rfl)
            have f64 : a.tmps.getD 64 undef = .bool hi := e64
            have g64 : a.tmps[64]?.getD undef = .bool hi := by rw [← Array.getD_eq_getD_getElem?]; exact e64
            refine op_call (f := 35) (args := #[.int .i64 (d.size : Int), .bool hi]) (R := fun v y => v = .string bd ∧ Below w2.heap.size w2 y) ?_ ((HPd.out w2).mono ?_) ?_
            · (clear hV hI hC; go_simp <;> (first | rfl | simp | (rw [IntKind.wrap_i64]; omega)))
            · rintro e y ⟨rfl, hb⟩; exact ⟨_, rfl, rfl, hb⟩
            · rintro v y ⟨rfl, hb⟩; exact ⟨hC.trans (hb.mono hC.size), hb, by intro d hd; cases hd; rfl⟩
          case o66 =>
            intro Q a w2 hC hV hI
            have e60 : a.eval (.tmp 60) = .string x60 := hV 60 (by simp [Op.operands]) (by kernel_rfl)
            have f60 : a.tmps.getD 60 undef = .string x60 := e60
            have g60 : a.tmps[60]?.getD undef = .string x60 := by rw [← Array.getD_eq_getD_getElem?]; exact e60
            have e65 : a.eval (.tmp 65) = .string bd := hV 65 (by simp [Op.operands]) (by kernel_rfl)
            have f65 : a.tmps.getD 65 undef = .string bd := e65
            have g65 : a.tmps[65]?.getD undef = .string bd := by rw [← Array.getD_eq_getD_getElem?]; exact e65
            refine op_val (.string x66) ?_ hC (Below.refl _ _) (by intro d hd; cases hd; rfl)
            have q := HA66.out w2
            (clear hV hI hC; go_simp <;> (first | rfl | simp | (rw [IntKind.wrap_i64]; omega)))
          case o6 =>
            intro Q a w2 hC hV hI
            have e66 : a.eval (.tmp 66) = .string x66 := hV 66 (by simp [Op.operands]) (by kernel_rfl)
            have f66 : a.tmps.getD 66 undef = .string x66 := e66
            have g66 : a.tmps[66]?.getD undef = .string x66 := by rw [← Array.getD_eq_getD_getElem?]; exact e66
            refine op_val (.string x66) ?_ hC (Below.refl _ _) (by intro d hd; cases hd; rfl)
            (clear hV hI hC; go_simp <;> (first | rfl | simp | (rw [IntKind.wrap_i64]; omega)))
        case hend =>
          intro f w4 hC hall
          clear HA53 HA60 HA66
          simp only [List.forall_mem_cons] at hall
          obtain ⟨h48, h49, h50, h51, h52, h53, h54, h55, h56, h57, h58, h59, h60, h61, h62, h63, h64, h65, h66, h6, _⟩ := hall
          replace h48 : f 48 = .string hx := h48 48 rfl
          replace h49 : f 49 = .pointer (some ⟨w.heap.size, 5, none⟩) := h49 49 rfl
          replace h50 : f 50 = .int .i64 t := h50 50 rfl
          replace h51 : f 51 = .bool hi := h51 51 rfl
          replace h52 : f 52 = .string bt := h52 52 rfl
          replace h53 : f 53 = .string x53 := h53 53 rfl
          replace h54 : f 54 = .pointer (some ⟨w.heap.size, 6, none⟩) := h54 54 rfl
          replace h55 : f 55 = .string p := h55 55 rfl
          replace h56 : f 56 = .int .i64 (p.size : Int) := h56 56 rfl
          replace h57 : f 57 = .int .i64 ((p.size : Int) + 1) := h57 57 rfl
          replace h58 : f 58 = .bool hi := h58 58 rfl
          replace h59 : f 59 = .string bp := h59 59 rfl
          replace h60 : f 60 = .string x60 := h60 60 rfl
          replace h61 : f 61 = .pointer (some ⟨w.heap.size, 7, none⟩) := h61 61 rfl
          replace h62 : f 62 = .string d := h62 62 rfl
          replace h63 : f 63 = .int .i64 (d.size : Int) := h63 63 rfl
          replace h64 : f 64 = .bool hi := h64 64 rfl
          replace h65 : f 65 = .string bd := h65 65 rfl
          replace h66 : f 66 = .string x66 := h66 66 rfl
          replace h6 : f 6 = .string x66 := h6 6 rfl
          simp only [putAll, Act.put, List.setIfInBounds_toArray, List.set_cons_succ, List.set_cons_zero, h48, h49, h50, h51, h52, h53, h54, h55, h56, h57, h58, h59, h60, h61, h62, h63, h64, h65, h66, h6]
          clear h48 h49 h50 h51 h52 h53 h54 h55 h56 h57 h58 h59 h60 h61 h62 h63 h64 h65 h66 h6
          have HXe : Hid (r = x66 ++ p ++ ⟨#[0]⟩ ++ nu1 ++ d ++ nu2) := Lib.hid (by rw [HV.out, HX66.out, HX60.out, HX53.out])
          have B4 := Lib.hid (B.out.trans (hC.mono hszB))
          have hszB4 := B4.out.size
          replace KC : Hid (∀ w', Below w4.heap.size w4 w' → w'.cell? ⟨w.heap.size, 5, none⟩ = some (.int .i64 t) ∧ w'.cell? ⟨w.heap.size, 6, none⟩ = some (.string p) ∧ w'.cell? ⟨w.heap.size, 7, none⟩ = some (.string d)) := Lib.hid (fun w' hb => KC.out w' (hC.trans (hb.mono hC.size)))
          clear HV HX66 HX60 HX53 hC B k0 k1 k2 k3 k4 k5 k6 k7
          go_upto_region 10 with fail
          obtain ⟨x70, hx70⟩ : ∃ x : ByteArray, x = x66 ++ p := ⟨_, rfl⟩
          obtain ⟨x71, hx71⟩ : ∃ x : ByteArray, x = x70 ++ ⟨#[0]⟩ := ⟨_, rfl⟩
          obtain ⟨x78, hx78⟩ : ∃ x : ByteArray, x = x71 ++ nu1 := ⟨_, rfl⟩
          obtain ⟨x81, hx81⟩ : ∃ x : ByteArray, x = x78 ++ d := ⟨_, rfl⟩
          obtain ⟨x87, hx87⟩ : ∃ x : ByteArray, x = x81 ++ nu2 := ⟨_, rfl⟩
          have zx70 : x70.size ≤ 4194330 := by rw [hx70, ByteArray.size_append]; omega
          have zx71 : x71.size ≤ 4194331 := by rw [hx71, ByteArray.size_append]; omega
          have zx78 : x78.size ≤ 4194332 := by rw [hx78, ByteArray.size_append]; omega
          have zx81 : x81.size ≤ 8388636 := by rw [hx81, ByteArray.size_append]; omega
          have zx87 : x87.size ≤ 8388637 := by rw [hx87, ByteArray.size_append]; omega
          have HA70 : Hid (∀ w, (Op.stringOp .add x66 p).run Tryz.prog w = .ok (.string x70) w) := Lib.hid (fun w => by rw [hx70]; exact run_string_add_sum w _ _ (by omega))
          have HA71 : Hid (∀ w, (Op.stringOp .add x70 ⟨#[0]⟩).run Tryz.prog w = .ok (.string x71) w) := Lib.hid (fun w => by rw [hx71]; exact run_string_add_sum w _ _ (by omega))
          have HA78 : Hid (∀ w, (Op.stringOp .add x71 nu1).run Tryz.prog w = .ok (.string x78) w) := Lib.hid (fun w => by rw [hx78]; exact run_string_add_sum w _ _ (by omega))
          have HA81 : Hid (∀ w, (Op.stringOp .add x78 d).run Tryz.prog w = .ok (.string x81) w) := Lib.hid (fun w => by rw [hx81]; exact run_string_add_sum w _ _ (by omega))
          have HA87 : Hid (∀ w, (Op.stringOp .add x81 nu2).run Tryz.prog w = .ok (.string x87) w) := Lib.hid (fun w => by rw [hx87]; exact run_string_add_sum w _ _ (by omega))
          have HX70 := Lib.hid hx70
          have HX71 := Lib.hid hx71
          have HX78 := Lib.hid hx78
          have HX81 := Lib.hid hx81
          have HX87 := Lib.hid hx87
          clear hx70 hx71 hx78 hx81 hx87
          refine wp_region_inv (by kernel_rfl) (fun w' => Below w4.heap.size w4 w') (fun x y => Below x.heap.size x y) (fun dq vq _ => match dq with | 67 => vq = .string x66 | 68 => vq = .pointer (some ⟨w.heap.size, 6, none⟩) | 69 => vq = .string p | 70 => vq = .string x70 | 71 => vq = .string x71 | 72 => vq = .pointer (some ⟨w.heap.size, 6, none⟩) | 73 => vq = .string p | 74 => vq = .int .i64 (p.size : Int) | 75 => vq = .int .i64 ((p.size : Int) + 1) | 76 => vq = .int .i64 (q1 : Int) | 77 => vq = .string nu1 | 78 => vq = .string x78 | 79 => vq = .pointer (some ⟨w.heap.size, 7, none⟩) | 80 => vq = .string d | 81 => vq = .string x81 | 82 => vq = .pointer (some ⟨w.heap.size, 7, none⟩) | 83 => vq = .string d | 84 => vq = .int .i64 (d.size : Int) | 85 => vq = .int .i64 (q2 : Int) | 86 => vq = .string nu2 | 87 => vq = .string x87 | 4 => vq = .string x87 | _ => True) (by kernel_rfl) ((Below.refl _ _).drew) (fun _ _ _ _ _ _ h => h) ?hops ?hend
          case hops =>
            simp only [List.forall_mem_cons]
            refine ⟨?o67, ?o68, ?o69, ?o70, ?o71, ?o72, ?o73, ?o74, ?o75, ?o76, ?o77, ?o78, ?o79, ?o80, ?o81, ?o82, ?o83, ?o84, ?o85, ?o86, ?o87, ?o4, fun _ h => by cases h⟩
            case o67 =>
              intro Q a w2 hC hV hI
              have e6 : a.eval (.tmp 6) = .string x66 := (hI 6 (by simp [Op.operands]) (by kernel_rfl)).trans rfl
              have f6 : a.tmps.getD 6 undef = .string x66 := e6
              have g6 : a.tmps[6]?.getD undef = .string x66 := by rw [← Array.getD_eq_getD_getElem?]; exact e6
              refine op_val (.string x66) ?_ hC (Below.refl _ _) (by intro d hd; cases hd; rfl)
              (clear hV hI hC; go_simp <;> (first | rfl | simp | (rw [IntKind.wrap_i64]; omega)))
            case o68 =>
              intro Q a w2 hC hV hI
              have e2 : a.eval (.tmp 2) = .pointer (some ⟨w.heap.size, 0, none⟩) := (hI 2 (by simp [Op.operands]) (by kernel_rfl)).trans rfl
              have f2 : a.tmps.getD 2 undef = .pointer (some ⟨w.heap.size, 0, none⟩) := e2
              have g2 : a.tmps[2]?.getD undef = .pointer (some ⟨w.heap.size, 0, none⟩) := by rw [← Array.getD_eq_getD_getElem?]; exact e2
              refine op_val (.pointer (some ⟨w.heap.size, 6, none⟩)) ?_ hC (Below.refl _ _) (by intro d hd; cases hd; rfl)
              (clear hV hI hC; go_simp <;> (first | rfl | simp | (rw [IntKind.wrap_i64]; omega)))
            case o69 =>
              intro Q a w2 hC hV hI
              have e68 : a.eval (.tmp 68) = .pointer (some ⟨w.heap.size, 6, none⟩) := hV 68 (by simp [Op.operands]) (by kernel_rfl)
              have f68 : a.tmps.getD 68 undef = .pointer (some ⟨w.heap.size, 6, none⟩) := e68
              have g68 : a.tmps[68]?.getD undef = .pointer (some ⟨w.heap.size, 6, none⟩) := by rw [← Array.getD_eq_getD_getElem?]; exact e68
              have hK := KC.out w2 hC
              refine op_val (.string p) ?_ hC (Below.refl _ _) (by intro d hd; cases hd; rfl)
              (clear hV hI hC; go_simp <;> (first | rfl | simp | (rw [IntKind.wrap_i64]; omega)))
            case o70 =>
              intro Q a w2 hC hV hI
              have e67 : a.eval (.tmp 67) = .string x66 := hV 67 (by simp [Op.operands]) (by kernel_rfl)
              have f67 : a.tmps.getD 67 undef = .string x66 := e67
              have g67 : a.tmps[67]?.getD undef = .string x66 := by rw [← Array.getD_eq_getD_getElem?]; exact e67
              have e69 : a.eval (.tmp 69) = .string p := hV 69 (by simp [Op.operands]) (by kernel_rfl)
              have f69 : a.tmps.getD 69 undef = .string p := e69
              have g69 : a.tmps[69]?.getD undef = .string p := by rw [← Array.getD_eq_getD_getElem?]; exact e69
              refine op_val (.string x70) ?_ hC (Below.refl _ _) (by intro d hd; cases hd; rfl)
              have q := HA70.out w2
              (clear hV hI hC; go_simp <;> (first | rfl | simp | (rw [IntKind.wrap_i64]; omega)))
            case o71 =>
              intro Q a w2 hC hV hI
              have e70 : a.eval (.tmp 70) = .string x70 := hV 70 (by simp [Op.operands]) (by kernel_rfl)
              have f70 : a.tmps.getD 70 undef = .string x70 := e70
              have g70 : a.tmps[70]?.getD undef = .string x70 := by rw [← Array.getD_eq_getD_getElem?]; exact e70
              refine op_val (.string x71) ?_ hC (Below.refl _ _) (by intro d hd; cases hd; rfl)
              have q := HA71.out w2
              (clear hV hI hC; go_simp <;> (first | rfl | simp | (rw [IntKind.wrap_i64]; omega)))
            case o72 =>
              intro Q a w2 hC hV hI
              have e2 : a.eval (.tmp 2) = .pointer (some ⟨w.heap.size, 0, none⟩) := (hI 2 (by simp [Op.operands]) (by kernel_rfl)).trans rfl
              have f2 : a.tmps.getD 2 undef = .pointer (some ⟨w.heap.size, 0, none⟩) := e2
              have g2 : a.tmps[2]?.getD undef = .pointer (some ⟨w.heap.size, 0, none⟩) := by rw [← Array.getD_eq_getD_getElem?]; exact e2
              refine op_val (.pointer (some ⟨w.heap.size, 6, none⟩)) ?_ hC (Below.refl _ _) (by intro d hd; cases hd; rfl)
              (clear hV hI hC; go_simp <;> (first | rfl | simp | (rw [IntKind.wrap_i64]; omega)))
            case o73 =>
              intro Q a w2 hC hV hI
              have e72 : a.eval (.tmp 72) = .pointer (some ⟨w.heap.size, 6, none⟩) := hV 72 (by simp [Op.operands]) (by kernel_rfl)
              have f72 : a.tmps.getD 72 undef = .pointer (some ⟨w.heap.size, 6, none⟩) := e72
              have g72 : a.tmps[72]?.getD undef = .pointer (some ⟨w.heap.size, 6, none⟩) := by rw [← Array.getD_eq_getD_getElem?]; exact e72
              have hK := KC.out w2 hC
              refine op_val (.string p) ?_ hC (Below.refl _ _) (by intro d hd; cases hd; rfl)
              (clear hV hI hC; go_simp <;> (first | rfl | simp | (rw [IntKind.wrap_i64]; omega)))
            case o74 =>
              intro Q a w2 hC hV hI
              have e73 : a.eval (.tmp 73) = .string p := hV 73 (by simp [Op.operands, Call.operands]) (by kernel_rfl)
              have f73 : a.tmps.getD 73 undef = .string p := e73
              have g73 : a.tmps[73]?.getD undef = .string p := by rw [← Array.getD_eq_getD_getElem?]; exact e73
              refine op_val (.int .i64 (p.size : Int)) ?_ hC (Below.refl _ _) (by intro d hd; cases hd; rfl)
              (clear hV hI hC; go_simp <;> (first | rfl | simp | (rw [IntKind.wrap_i64]; omega)))
            case o75 =>
              intro Q a w2 hC hV hI
              have e74 : a.eval (.tmp 74) = .int .i64 (p.size : Int) := hV 74 (by simp [Op.operands]) (by kernel_rfl)
              have f74 : a.tmps.getD 74 undef = .int .i64 (p.size : Int) := e74
              have g74 : a.tmps[74]?.getD undef = .int .i64 (p.size : Int) := by rw [← Array.getD_eq_getD_getElem?]; exact e74
              have q9 := add_i64 (P := Tryz.prog) (a := (p.size : Int)) (b := 1) w2 3 (by omega) (by omega)
              refine op_val (.int .i64 ((p.size : Int) + 1)) ?_ hC (Below.refl _ _) (by intro d hd; cases hd; rfl)
              (clear hV hI hC; go_simp <;> (first | rfl | simp | (rw [IntKind.wrap_i64]; omega)))
            case o76 =>
              intro Q a w2 hC hV hI
              have e75 : a.eval (.tmp 75) = .int .i64 ((p.size : Int) + 1) := hV 75 (by simp [Op.operands, Call.operands]) (by kernel_rfl)
              have f75 : a.tmps.getD 75 undef = .int .i64 ((p.size : Int) + 1) := e75
              have g75 : a.tmps[75]?.getD undef = .int .i64 ((p.size : Int) + 1) := by rw [← Array.getD_eq_getD_getElem?]; exact e75
              refine op_call (f := 37) (args := #[.int .i64 ((p.size : Int) + 1), .int .i64 2]) (R := fun v y => v = .int .i64 (q1 : Int) ∧ w2 = y) ?_ ((HP1.out w2).mono ?_) ?_
              · (clear hV hI hC; go_simp <;> (first | rfl | simp | (rw [IntKind.wrap_i64]; omega)))
              · rintro e y ⟨rfl, rfl⟩; exact ⟨_, rfl, rfl, rfl⟩
              · rintro v y ⟨rfl, rfl⟩; exact ⟨hC, Below.refl _ _, by intro d hd; cases hd; rfl⟩
            case o77 =>
              intro Q a w2 hC hV hI
              have e76 : a.eval (.tmp 76) = .int .i64 (q1 : Int) := hV 76 (by simp [Op.operands, Call.operands]) (by kernel_rfl)
              have f76 : a.tmps.getD 76 undef = .int .i64 (q1 : Int) := e76
              have g76 : a.tmps[76]?.getD undef = .int .i64 (q1 : Int) := by rw [← Array.getD_eq_getD_getElem?]; exact e76
              refine op_call (f := 36) (args := #[.int .i64 (q1 : Int)]) (R := fun v y => v = .string nu1 ∧ Below w2.heap.size w2 y) ?_ ((HN1.out w2).mono ?_) ?_
              · (clear hV hI hC; go_simp <;> (first | rfl | simp | (rw [IntKind.wrap_i64]; omega)))
              · rintro e y ⟨rfl, hb⟩; exact ⟨_, rfl, rfl, hb⟩
              · rintro v y ⟨rfl, hb⟩; exact ⟨hC.trans (hb.mono hC.size), hb, by intro d hd; cases hd; rfl⟩
            case o78 =>
              intro Q a w2 hC hV hI
              have e71 : a.eval (.tmp 71) = .string x71 := hV 71 (by simp [Op.operands]) (by kernel_rfl)
              have f71 : a.tmps.getD 71 undef = .string x71 := e71
              have g71 : a.tmps[71]?.getD undef = .string x71 := by rw [← Array.getD_eq_getD_getElem?]; exact e71
              have e77 : a.eval (.tmp 77) = .string nu1 := hV 77 (by simp [Op.operands]) (by kernel_rfl)
              have f77 : a.tmps.getD 77 undef = .string nu1 := e77
              have g77 : a.tmps[77]?.getD undef = .string nu1 := by rw [← Array.getD_eq_getD_getElem?]; exact e77
              refine op_val (.string x78) ?_ hC (Below.refl _ _) (by intro d hd; cases hd; rfl)
              have q := HA78.out w2
              (clear hV hI hC; go_simp <;> (first | rfl | simp | (rw [IntKind.wrap_i64]; omega)))
            case o79 =>
              intro Q a w2 hC hV hI
              have e2 : a.eval (.tmp 2) = .pointer (some ⟨w.heap.size, 0, none⟩) := (hI 2 (by simp [Op.operands]) (by kernel_rfl)).trans rfl
              have f2 : a.tmps.getD 2 undef = .pointer (some ⟨w.heap.size, 0, none⟩) := e2
              have g2 : a.tmps[2]?.getD undef = .pointer (some ⟨w.heap.size, 0, none⟩) := by rw [← Array.getD_eq_getD_getElem?]; exact e2
              refine op_val (.pointer (some ⟨w.heap.size, 7, none⟩)) ?_ hC (Below.refl _ _) (by intro d hd; cases hd; rfl)
              (clear hV hI hC; go_simp <;> (first | rfl | simp | (rw [IntKind.wrap_i64]; omega)))
            case o80 =>
              intro Q a w2 hC hV hI
              have e79 : a.eval (.tmp 79) = .pointer (some ⟨w.heap.size, 7, none⟩) := hV 79 (by simp [Op.operands]) (by kernel_rfl)
              have f79 : a.tmps.getD 79 undef = .pointer (some ⟨w.heap.size, 7, none⟩) := e79
              have g79 : a.tmps[79]?.getD undef = .pointer (some ⟨w.heap.size, 7, none⟩) := by rw [← Array.getD_eq_getD_getElem?]; exact e79
              have hK := KC.out w2 hC
              refine op_val (.string d) ?_ hC (Below.refl _ _) (by intro d hd; cases hd; rfl)
              (clear hV hI hC; go_simp <;> (first | rfl | simp | (rw [IntKind.wrap_i64]; omega)))
            case o81 =>
              intro Q a w2 hC hV hI
              have e78 : a.eval (.tmp 78) = .string x78 := hV 78 (by simp [Op.operands]) (by kernel_rfl)
              have f78 : a.tmps.getD 78 undef = .string x78 := e78
              have g78 : a.tmps[78]?.getD undef = .string x78 := by rw [← Array.getD_eq_getD_getElem?]; exact e78
              have e80 : a.eval (.tmp 80) = .string d := hV 80 (by simp [Op.operands]) (by kernel_rfl)
              have f80 : a.tmps.getD 80 undef = .string d := e80
              have g80 : a.tmps[80]?.getD undef = .string d := by rw [← Array.getD_eq_getD_getElem?]; exact e80
              refine op_val (.string x81) ?_ hC (Below.refl _ _) (by intro d hd; cases hd; rfl)
              have q := HA81.out w2
              (clear hV hI hC; go_simp <;> (first | rfl | simp | (rw [IntKind.wrap_i64]; omega)))
            case o82 =>
              intro Q a w2 hC hV hI
              have e2 : a.eval (.tmp 2) = .pointer (some ⟨w.heap.size, 0, none⟩) := (hI 2 (by simp [Op.operands]) (by kernel_rfl)).trans rfl
              have f2 : a.tmps.getD 2 undef = .pointer (some ⟨w.heap.size, 0, none⟩) := e2
              have g2 : a.tmps[2]?.getD undef = .pointer (some ⟨w.heap.size, 0, none⟩) := by rw [← Array.getD_eq_getD_getElem?]; exact e2
              refine op_val (.pointer (some ⟨w.heap.size, 7, none⟩)) ?_ hC (Below.refl _ _) (by intro d hd; cases hd; rfl)
              (clear hV hI hC; go_simp <;> (first | rfl | simp | (rw [IntKind.wrap_i64]; omega)))
            case o83 =>
              intro Q a w2 hC hV hI
              have e82 : a.eval (.tmp 82) = .pointer (some ⟨w.heap.size, 7, none⟩) := hV 82 (by simp [Op.operands]) (by kernel_rfl)
              have f82 : a.tmps.getD 82 undef = .pointer (some ⟨w.heap.size, 7, none⟩) := e82
              have g82 : a.tmps[82]?.getD undef = .pointer (some ⟨w.heap.size, 7, none⟩) := by rw [← Array.getD_eq_getD_getElem?]; exact e82
              have hK := KC.out w2 hC
              refine op_val (.string d) ?_ hC (Below.refl _ _) (by intro d hd; cases hd; rfl)
              (clear hV hI hC; go_simp <;> (first | rfl | simp | (rw [IntKind.wrap_i64]; omega)))
            case o84 =>
              intro Q a w2 hC hV hI
              have e83 : a.eval (.tmp 83) = .string d := hV 83 (by simp [Op.operands, Call.operands]) (by kernel_rfl)
              have f83 : a.tmps.getD 83 undef = .string d := e83
              have g83 : a.tmps[83]?.getD undef = .string d := by rw [← Array.getD_eq_getD_getElem?]; exact e83
              refine op_val (.int .i64 (d.size : Int)) ?_ hC (Below.refl _ _) (by intro d hd; cases hd; rfl)
              (clear hV hI hC; go_simp <;> (first | rfl | simp | (rw [IntKind.wrap_i64]; omega)))
            case o85 =>
              intro Q a w2 hC hV hI
              have e84 : a.eval (.tmp 84) = .int .i64 (d.size : Int) := hV 84 (by simp [Op.operands, Call.operands]) (by kernel_rfl)
              have f84 : a.tmps.getD 84 undef = .int .i64 (d.size : Int) := e84
              have g84 : a.tmps[84]?.getD undef = .int .i64 (d.size : Int) := by rw [← Array.getD_eq_getD_getElem?]; exact e84
              refine op_call (f := 37) (args := #[.int .i64 (d.size : Int), .int .i64 2]) (R := fun v y => v = .int .i64 (q2 : Int) ∧ w2 = y) ?_ ((HP2.out w2).mono ?_) ?_
              · (clear hV hI hC; go_simp <;> (first | rfl | simp | (rw [IntKind.wrap_i64]; omega)))
              · rintro e y ⟨rfl, rfl⟩; exact ⟨_, rfl, rfl, rfl⟩
              · rintro v y ⟨rfl, rfl⟩; exact ⟨hC, Below.refl _ _, by intro d hd; cases hd; rfl⟩
            case o86 =>
              intro Q a w2 hC hV hI
              have e85 : a.eval (.tmp 85) = .int .i64 (q2 : Int) := hV 85 (by simp [Op.operands, Call.operands]) (by kernel_rfl)
              have f85 : a.tmps.getD 85 undef = .int .i64 (q2 : Int) := e85
              have g85 : a.tmps[85]?.getD undef = .int .i64 (q2 : Int) := by rw [← Array.getD_eq_getD_getElem?]; exact e85
              refine op_call (f := 36) (args := #[.int .i64 (q2 : Int)]) (R := fun v y => v = .string nu2 ∧ Below w2.heap.size w2 y) ?_ ((HN2.out w2).mono ?_) ?_
              · (clear hV hI hC; go_simp <;> (first | rfl | simp | (rw [IntKind.wrap_i64]; omega)))
              · rintro e y ⟨rfl, hb⟩; exact ⟨_, rfl, rfl, hb⟩
              · rintro v y ⟨rfl, hb⟩; exact ⟨hC.trans (hb.mono hC.size), hb, by intro d hd; cases hd; rfl⟩
            case o87 =>
              intro Q a w2 hC hV hI
              have e81 : a.eval (.tmp 81) = .string x81 := hV 81 (by simp [Op.operands]) (by kernel_rfl)
              have f81 : a.tmps.getD 81 undef = .string x81 := e81
              have g81 : a.tmps[81]?.getD undef = .string x81 := by rw [← Array.getD_eq_getD_getElem?]; exact e81
              have e86 : a.eval (.tmp 86) = .string nu2 := hV 86 (by simp [Op.operands]) (by kernel_rfl)
              have f86 : a.tmps.getD 86 undef = .string nu2 := e86
              have g86 : a.tmps[86]?.getD undef = .string nu2 := by rw [← Array.getD_eq_getD_getElem?]; exact e86
              refine op_val (.string x87) ?_ hC (Below.refl _ _) (by intro d hd; cases hd; rfl)
              have q := HA87.out w2
              (clear hV hI hC; go_simp <;> (first | rfl | simp | (rw [IntKind.wrap_i64]; omega)))
            case o4 =>
              intro Q a w2 hC hV hI
              have e87 : a.eval (.tmp 87) = .string x87 := hV 87 (by simp [Op.operands]) (by kernel_rfl)
              have f87 : a.tmps.getD 87 undef = .string x87 := e87
              have g87 : a.tmps[87]?.getD undef = .string x87 := by rw [← Array.getD_eq_getD_getElem?]; exact e87
              refine op_val (.string x87) ?_ hC (Below.refl _ _) (by intro d hd; cases hd; rfl)
              (clear hV hI hC; go_simp <;> (first | rfl | simp | (rw [IntKind.wrap_i64]; omega)))
          case hend =>
            intro f w5 hC hall
            clear HA70 HA71 HA78 HA81 HA87
            simp only [List.forall_mem_cons] at hall
            obtain ⟨h67, h68, h69, h70, h71, h72, h73, h74, h75, h76, h77, h78, h79, h80, h81, h82, h83, h84, h85, h86, h87, h4, _⟩ := hall
            replace h67 : f 67 = .string x66 := h67 67 rfl
            replace h68 : f 68 = .pointer (some ⟨w.heap.size, 6, none⟩) := h68 68 rfl
            replace h69 : f 69 = .string p := h69 69 rfl
            replace h70 : f 70 = .string x70 := h70 70 rfl
            replace h71 : f 71 = .string x71 := h71 71 rfl
            replace h72 : f 72 = .pointer (some ⟨w.heap.size, 6, none⟩) := h72 72 rfl
            replace h73 : f 73 = .string p := h73 73 rfl
            replace h74 : f 74 = .int .i64 (p.size : Int) := h74 74 rfl
            replace h75 : f 75 = .int .i64 ((p.size : Int) + 1) := h75 75 rfl
            replace h76 : f 76 = .int .i64 (q1 : Int) := h76 76 rfl
            replace h77 : f 77 = .string nu1 := h77 77 rfl
            replace h78 : f 78 = .string x78 := h78 78 rfl
            replace h79 : f 79 = .pointer (some ⟨w.heap.size, 7, none⟩) := h79 79 rfl
            replace h80 : f 80 = .string d := h80 80 rfl
            replace h81 : f 81 = .string x81 := h81 81 rfl
            replace h82 : f 82 = .pointer (some ⟨w.heap.size, 7, none⟩) := h82 82 rfl
            replace h83 : f 83 = .string d := h83 83 rfl
            replace h84 : f 84 = .int .i64 (d.size : Int) := h84 84 rfl
            replace h85 : f 85 = .int .i64 (q2 : Int) := h85 85 rfl
            replace h86 : f 86 = .string nu2 := h86 86 rfl
            replace h87 : f 87 = .string x87 := h87 87 rfl
            replace h4 : f 4 = .string x87 := h4 4 rfl
            simp only [putAll, Act.put, List.setIfInBounds_toArray, List.set_cons_succ, List.set_cons_zero, h67, h68, h69, h70, h71, h72, h73, h74, h75, h76, h77, h78, h79, h80, h81, h82, h83, h84, h85, h86, h87, h4]
            clear h67 h68 h69 h70 h71 h72 h73 h74 h75 h76 h77 h78 h79 h80 h81 h82 h83 h84 h85 h86 h87 h4
            have HXe2 : Hid (r = x87) := Lib.hid (by rw [HXe.out, HX87.out, HX81.out, HX78.out, HX71.out, HX70.out])
            clear KC HXe
            have B5 := B4.out.trans (hC.mono hszB4)
            go_wp2_with fail
            go_ret
            exact ⟨by rw [HXe2.out]; rfl, B5⟩
end Go.Proofs.YtancidbbkoeokaaGreat

/- Contract of impl.EntryOk: the four kinds and what they share. -/
namespace Go.Proofs.YtancidbbkoeokaaGreat
open Go.ChangeShapes Go.WideShapes Go.ChangeAt Go.RowKit Go.Deep

/-- What all kinds ask. -/
def fieldsv (e : Ent) : Bool := pathOkv e.path && inB e.mode 0 4095 && inB e.uid 0 4294967295 && inB e.gid 0 4294967295 && inB e.time 0 99999999999 && whov e.user && whov e.group
set_option maxHeartbeats 3200000 in
theorem fieldsOk_impl (k : Int) (p l : ByteArray) (m u g t : Int) (us gr b : ByteArray) (w : World) (hp : p.size ≤ 4194304) (hus : us.size ≤ 4194304) (hgr : gr.size ≤ 4194304) :
    Calls Tryz.prog 95 #[.agg #[.int .i64 k, .string p, .string l, .int .i64 m, .int .i64 u, .int .i64 g, .int .i64 t, .string us, .string gr, .string b]] w fun e w' => e = .returned (.bool (fieldsv ⟨k, p, l, m, u, g, t, us, gr, b⟩)) ∧ Below w.heap.size w w' := by
  have H1 := Lib.hid (fun w => pathOk_impl p w (by omega))
  have H2 := Lib.hid (fun w => upTo_any m 4095 w)
  have H3 := Lib.hid (fun w => upTo_any u 4294967295 w)
  have H4 := Lib.hid (fun w => upTo_any g 4294967295 w)
  have H5 := Lib.hid (fun w => upTo_any t 99999999999 w)
  have H6 := Lib.hid (fun w => userOk_impl us w hus)
  have H7 := Lib.hid (fun w => userOk_impl gr w hgr)
  have HE : Hid (fieldsv ⟨k, p, l, m, u, g, t, us, gr, b⟩ = (pathOkv p && inB m 0 4095 && inB u 0 4294967295 && inB g 0 4294967295 && inB t 0 99999999999 && whov us && whov gr)) := Lib.hid rfl
  generalize fieldsv ⟨k, p, l, m, u, g, t, us, gr, b⟩ = r at HE
  generalize pathOkv p = b1 at H1 HE
  generalize inB m 0 4095 = b2 at H2 HE
  generalize inB u 0 4294967295 = b3 at H3 HE
  generalize inB g 0 4294967295 = b4 at H4 HE
  generalize inB t 0 99999999999 = b5 at H5 HE
  generalize whov us = b6 at H6 HE
  generalize whov gr = b7 at H7 HE
  clear hp hus hgr
  go_enter Tryz.func95, Tryz.ntmps95
  go_wp2_with fail
  refine (H1.out _).mono ?_
  rintro e w1 ⟨rfl, hb⟩
  obtain ⟨k1, bb, z1⟩ := one_new (e1 := ⟨k, p, l, m, u, g, t, us, gr, b⟩) hb
  have E := Lib.hid k1
  have B := Lib.hid bb
  clear hb k1 bb
  obtain ⟨c0, c1, c2, c3, c4, c5, c6, c7, c8, c9⟩ := E.out.zero
  cases b1 with
  | false =>
    go_wp2_with fail
    go_ret
    exact ⟨ret_bool (by rw [HE.out]; simp), B.out⟩
  | true =>
    go_wp2_with fail
    refine (H2.out _).mono ?_
    rintro e _ ⟨rfl, rfl⟩
    cases b2 with
    | false =>
      go_wp2_with fail
      go_ret
      exact ⟨ret_bool (by rw [HE.out]; simp), B.out⟩
    | true =>
      go_wp2_with fail
      refine (H3.out _).mono ?_
      rintro e _ ⟨rfl, rfl⟩
      cases b3 with
      | false =>
        go_wp2_with fail
        go_ret
        exact ⟨ret_bool (by rw [HE.out]; simp), B.out⟩
      | true =>
        go_wp2_with fail
        refine (H4.out _).mono ?_
        rintro e _ ⟨rfl, rfl⟩
        cases b4 with
        | false =>
          go_wp2_with fail
          go_ret
          exact ⟨ret_bool (by rw [HE.out]; simp), B.out⟩
        | true =>
          go_wp2_with fail
          refine (H5.out _).mono ?_
          rintro e _ ⟨rfl, rfl⟩
          cases b5 with
          | false =>
            go_wp2_with fail
            go_ret
            exact ⟨ret_bool (by rw [HE.out]; simp), B.out⟩
          | true =>
            go_wp2_with fail
            refine (H6.out _).mono ?_
            rintro e w6 ⟨rfl, hb⟩
            replace E := Lib.hid (E.out.below hb (by omega))
            replace B := Lib.hid (btE B.out hb)
            replace z1 := Nat.le_trans z1 hb.size
            clear hb c0 c1 c2 c3 c4 c5 c6 c7 c8 c9
            obtain ⟨c0, c1, c2, c3, c4, c5, c6, c7, c8, c9⟩ := E.out.zero
            cases b6 with
            | false =>
              go_wp2_with fail
              go_ret
              exact ⟨ret_bool (by rw [HE.out]; simp), B.out⟩
            | true =>
              go_wp2_with fail
              refine (H7.out _).mono ?_
              rintro e w7 ⟨rfl, hb⟩
              replace E := Lib.hid (E.out.below hb (by omega))
              replace B := Lib.hid (btE B.out hb)
              replace z1 := Nat.le_trans z1 hb.size
              clear hb c0 c1 c2 c3 c4 c5 c6 c7 c8 c9
              obtain ⟨c0, c1, c2, c3, c4, c5, c6, c7, c8, c9⟩ := E.out.zero
              cases b7 with
              | false =>
                go_wp2_with fail
                go_ret
                exact ⟨ret_bool (by rw [HE.out]; simp), B.out⟩
              | true =>
                go_wp2_with fail
                go_ret
                exact ⟨ret_bool (by rw [HE.out]; simp), B.out⟩
set_option maxHeartbeats 3200000 in
theorem fileOk_impl (k : Int) (p l : ByteArray) (m u g t : Int) (us gr b : ByteArray) (w : World) (hp : p.size ≤ 4194304) (hus : us.size ≤ 4194304) (hgr : gr.size ≤ 4194304) :
    Calls Tryz.prog 82 #[.agg #[.int .i64 k, .string p, .string l, .int .i64 m, .int .i64 u, .int .i64 g, .int .i64 t, .string us, .string gr, .string b]] w fun e w' => e = .returned (.bool (fieldsv ⟨k, p, l, m, u, g, t, us, gr, b⟩ && (decide (l.size = 0) && decide (b.size ≤ 3000)))) ∧ Below w.heap.size w w' := by
  have H1 := Lib.hid (fun w => fieldsOk_impl k p l m u g t us gr b w hp hus hgr)
  generalize fieldsv ⟨k, p, l, m, u, g, t, us, gr, b⟩ = b1 at H1 ⊢
  go_enter Tryz.func82, Tryz.ntmps82
  go_wp2_with fail
  refine (H1.out _).mono ?_
  rintro e w1 ⟨rfl, hb⟩
  obtain ⟨k1, bb, z1⟩ := one_new (e1 := ⟨k, p, l, m, u, g, t, us, gr, b⟩) hb
  have E := Lib.hid k1
  have B := Lib.hid bb
  clear hb k1 bb
  obtain ⟨c0, c1, c2, c3, c4, c5, c6, c7, c8, c9⟩ := E.out.zero
  cases b1 with
  | false =>
    go_wp2_with fail
    go_ret
    exact ⟨ret_bool (by simp), B.out⟩
  | true =>
    by_cases ql : l.size = 0
    · have ql2 := empty_t ql
      by_cases qb : b.size ≤ 3000
      · have qb2 : (b.size : Int) ≤ 3000 := by omega
        go_wp2_with fail
        go_ret
        exact ⟨ret_bool (by simp [ql, qb]), B.out⟩
      · have qb2 : ¬ (b.size : Int) ≤ 3000 := by omega
        go_wp2_with fail
        go_ret
        exact ⟨ret_bool (by rw [decide_eq_false qb]; simp; try omega), B.out⟩
    · have ql2 := empty_f ql
      go_wp2_with fail
      go_ret
      exact ⟨ret_bool (by simp [ql]), B.out⟩
set_option maxHeartbeats 3200000 in
theorem dirOk_impl (k : Int) (p l : ByteArray) (m u g t : Int) (us gr b : ByteArray) (w : World) (hp : p.size ≤ 4194304) (hus : us.size ≤ 4194304) (hgr : gr.size ≤ 4194304) :
    Calls Tryz.prog 83 #[.agg #[.int .i64 k, .string p, .string l, .int .i64 m, .int .i64 u, .int .i64 g, .int .i64 t, .string us, .string gr, .string b]] w fun e w' => e = .returned (.bool (fieldsv ⟨k, p, l, m, u, g, t, us, gr, b⟩ && (decide (l.size = 0) && decide (b.size = 0)))) ∧ Below w.heap.size w w' := by
  have H1 := Lib.hid (fun w => fieldsOk_impl k p l m u g t us gr b w hp hus hgr)
  generalize fieldsv ⟨k, p, l, m, u, g, t, us, gr, b⟩ = b1 at H1 ⊢
  go_enter Tryz.func83, Tryz.ntmps83
  go_wp2_with fail
  refine (H1.out _).mono ?_
  rintro e w1 ⟨rfl, hb⟩
  obtain ⟨k1, bb, z1⟩ := one_new (e1 := ⟨k, p, l, m, u, g, t, us, gr, b⟩) hb
  have E := Lib.hid k1
  have B := Lib.hid bb
  clear hb k1 bb
  obtain ⟨c0, c1, c2, c3, c4, c5, c6, c7, c8, c9⟩ := E.out.zero
  cases b1 with
  | false =>
    go_wp2_with fail
    go_ret
    exact ⟨ret_bool (by simp), B.out⟩
  | true =>
    by_cases ql : l.size = 0
    · have ql2 := empty_t ql
      by_cases qb : b.size = 0
      · have qb2 := empty_t qb
        go_wp2_with fail
        go_ret
        exact ⟨ret_bool (by simp [ql, qb]), B.out⟩
      · have qb2 := empty_f qb
        go_wp2_with fail
        go_ret
        exact ⟨ret_bool (by simp [qb]), B.out⟩
    · have ql2 := empty_f ql
      go_wp2_with fail
      go_ret
      exact ⟨ret_bool (by simp [ql]), B.out⟩
set_option maxHeartbeats 3200000 in
theorem symOk_impl (k : Int) (p l : ByteArray) (m u g t : Int) (us gr b : ByteArray) (w : World) (hp : p.size ≤ 4194304) (hl : l.size ≤ 4194304) (hus : us.size ≤ 4194304) (hgr : gr.size ≤ 4194304) :
    Calls Tryz.prog 84 #[.agg #[.int .i64 k, .string p, .string l, .int .i64 m, .int .i64 u, .int .i64 g, .int .i64 t, .string us, .string gr, .string b]] w fun e w' => e = .returned (.bool (fieldsv ⟨k, p, l, m, u, g, t, us, gr, b⟩ && (inB l.size 1 150 && signv l && decide (b.size = 0)))) ∧ Below w.heap.size w w' := by
  have H1 := Lib.hid (fun w => fieldsOk_impl k p l m u g t us gr b w hp hus hgr)
  have H2 := Lib.hid (fun w => symLinkOk_impl l w hl)
  generalize (inB (l.size : Int) 1 150 && signv l) = b2 at H2 ⊢
  generalize fieldsv ⟨k, p, l, m, u, g, t, us, gr, b⟩ = b1 at H1 ⊢
  go_enter Tryz.func84, Tryz.ntmps84
  go_wp2_with fail
  refine (H1.out _).mono ?_
  rintro e w1 ⟨rfl, hb⟩
  obtain ⟨k1, bb, z1⟩ := one_new (e1 := ⟨k, p, l, m, u, g, t, us, gr, b⟩) hb
  have E := Lib.hid k1
  have B := Lib.hid bb
  clear hb k1 bb
  obtain ⟨c0, c1, c2, c3, c4, c5, c6, c7, c8, c9⟩ := E.out.zero
  cases b1 with
  | false =>
    go_wp2_with fail
    go_ret
    exact ⟨ret_bool (by simp), B.out⟩
  | true =>
    go_wp2_with fail
    refine (H2.out _).mono ?_
    rintro e w2 ⟨rfl, hb⟩
    replace E := Lib.hid (E.out.below hb (by omega))
    replace B := Lib.hid (btE B.out hb)
    replace z1 := Nat.le_trans z1 hb.size
    clear hb c0 c1 c2 c3 c4 c5 c6 c7 c8 c9
    obtain ⟨c0, c1, c2, c3, c4, c5, c6, c7, c8, c9⟩ := E.out.zero
    cases b2 with
    | false =>
      go_wp2_with fail
      go_ret
      exact ⟨ret_bool (by simp), B.out⟩
    | true =>
      by_cases qb : b.size = 0
      · have qb2 := empty_t qb
        go_wp2_with fail
        go_ret
        exact ⟨ret_bool (by simp [qb]), B.out⟩
      · have qb2 := empty_f qb
        go_wp2_with fail
        go_ret
        exact ⟨ret_bool (by simp [qb]), B.out⟩
set_option maxHeartbeats 3200000 in
theorem hardOk_impl (k : Int) (p l : ByteArray) (m u g t : Int) (us gr b : ByteArray) (w : World) (hp : p.size ≤ 4194304) (hl : l.size ≤ 4194304) (hus : us.size ≤ 4194304) (hgr : gr.size ≤ 4194304) :
    Calls Tryz.prog 85 #[.agg #[.int .i64 k, .string p, .string l, .int .i64 m, .int .i64 u, .int .i64 g, .int .i64 t, .string us, .string gr, .string b]] w fun e w' => e = .returned (.bool (fieldsv ⟨k, p, l, m, u, g, t, us, gr, b⟩ && (pathOkv l && decide (l ≠ p) && decide (b.size = 0)))) ∧ Below w.heap.size w w' := by
  have H1 := Lib.hid (fun w => fieldsOk_impl k p l m u g t us gr b w hp hus hgr)
  have H2 := Lib.hid (fun w => pathOk_impl l w (by omega))
  generalize pathOkv l = b2 at H2 ⊢
  generalize fieldsv ⟨k, p, l, m, u, g, t, us, gr, b⟩ = b1 at H1 ⊢
  go_enter Tryz.func85, Tryz.ntmps85
  go_wp2_with fail
  refine (H1.out _).mono ?_
  rintro e w1 ⟨rfl, hb⟩
  obtain ⟨k1, bb, z1⟩ := one_new (e1 := ⟨k, p, l, m, u, g, t, us, gr, b⟩) hb
  have E := Lib.hid k1
  have B := Lib.hid bb
  clear hb k1 bb
  obtain ⟨c0, c1, c2, c3, c4, c5, c6, c7, c8, c9⟩ := E.out.zero
  cases b1 with
  | false =>
    go_wp2_with fail
    go_ret
    exact ⟨ret_bool (by simp), B.out⟩
  | true =>
    go_wp2_with fail
    refine (H2.out _).mono ?_
    rintro e w2 ⟨rfl, hb⟩
    replace E := Lib.hid (E.out.below hb (by omega))
    replace B := Lib.hid (btE B.out hb)
    replace z1 := Nat.le_trans z1 hb.size
    clear hb c0 c1 c2 c3 c4 c5 c6 c7 c8 c9
    obtain ⟨c0, c1, c2, c3, c4, c5, c6, c7, c8, c9⟩ := E.out.zero
    cases b2 with
    | false =>
      go_wp2_with fail
      go_ret
      exact ⟨ret_bool (by simp), B.out⟩
    | true =>
      by_cases ql : l = p
      · have ql2 := baE_eq ql
        go_wp2_with fail
        go_ret
        exact ⟨ret_bool (by simp [ql]), B.out⟩
      · have ql2 := baE_ne ql
        by_cases qb : b.size = 0
        · have qb2 := empty_t qb
          go_wp2_with fail
          go_ret
          exact ⟨ret_bool (by simp [ql, qb]), B.out⟩
        · have qb2 := empty_f qb
          go_wp2_with fail
          go_ret
          exact ⟨ret_bool (by simp [qb]), B.out⟩
set_option maxHeartbeats 3200000 in
theorem entryOk_impl (k : Int) (p l : ByteArray) (m u g t : Int) (us gr b : ByteArray) (w : World) (hp : p.size ≤ 4194304) (hl : l.size ≤ 4194304) (hus : us.size ≤ 4194304) (hgr : gr.size ≤ 4194304) :
    Calls Tryz.prog 68 #[.agg #[.int .i64 k, .string p, .string l, .int .i64 m, .int .i64 u, .int .i64 g, .int .i64 t, .string us, .string gr, .string b]] w fun e w' => e = .returned (.bool (entOkv ⟨k, p, l, m, u, g, t, us, gr, b⟩)) ∧ Below w.heap.size w w' := by
  have H0 := Lib.hid (fun w => fileOk_impl k p l m u g t us gr b w hp hus hgr)
  have H1 := Lib.hid (fun w => dirOk_impl k p l m u g t us gr b w hp hus hgr)
  have H2 := Lib.hid (fun w => symOk_impl k p l m u g t us gr b w hp hl hus hgr)
  have H3 := Lib.hid (fun w => hardOk_impl k p l m u g t us gr b w hp hl hus hgr)
  have HE : Hid (entOkv ⟨k, p, l, m, u, g, t, us, gr, b⟩ = (fieldsv ⟨k, p, l, m, u, g, t, us, gr, b⟩ && kindOk k p l b)) := Lib.hid rfl
  have HK : Hid (kindOk k p l b = if k = 0 then decide (l.size = 0) && decide (b.size ≤ 3000) else if k = 1 then decide (l.size = 0) && decide (b.size = 0) else if k = 2 then inB l.size 1 150 && signv l && decide (b.size = 0) else if k = 3 then pathOkv l && decide (l ≠ p) && decide (b.size = 0) else false) := Lib.hid rfl
  generalize hk0 : (decide (l.size = 0) && decide (b.size ≤ 3000)) = r0 at H0 HK
  generalize hk1 : (decide (l.size = 0) && decide (b.size = 0)) = r1 at H1 HK
  generalize hk2 : (inB (l.size : Int) 1 150 && signv l && decide (b.size = 0)) = r2 at H2 HK
  generalize hk3 : (pathOkv l && decide (l ≠ p) && decide (b.size = 0)) = r3 at H3 HK
  clear hk0 hk1 hk2 hk3
  generalize kindOk k p l b = rk at HE HK
  generalize entOkv ⟨k, p, l, m, u, g, t, us, gr, b⟩ = r at HE
  generalize fieldsv ⟨k, p, l, m, u, g, t, us, gr, b⟩ = b1 at HE H0 H1 H2 H3
  clear hp hl hus hgr
  by_cases q0 : k = 0
  · have HF : Hid (r = (b1 && r0)) := Lib.hid (by rw [HE.out, HK.out]; simp [q0])
    subst q0
    clear HE HK
    go_enter Tryz.func68, Tryz.ntmps68
    go_wp2_with fail
    refine (H0.out _).mono ?_
    rintro e w1 ⟨rfl, hb⟩
    go_wp2_with fail
    go_ret
    exact ⟨ret_bool HF.out.symm, (((Below.refl _ w).alloc (Nat.le_refl _) _).alloc (by simp) _).trans (hb.mono (by simp; omega))⟩
  by_cases q1 : k = 1
  · have HF : Hid (r = (b1 && r1)) := Lib.hid (by rw [HE.out, HK.out]; simp [q1])
    subst q1
    clear HE HK
    go_enter Tryz.func68, Tryz.ntmps68
    go_wp2_with fail
    refine (H1.out _).mono ?_
    rintro e w1 ⟨rfl, hb⟩
    go_wp2_with fail
    go_ret
    exact ⟨ret_bool HF.out.symm, (((Below.refl _ w).alloc (Nat.le_refl _) _).alloc (by simp) _).trans (hb.mono (by simp; omega))⟩
  by_cases q2 : k = 2
  · have HF : Hid (r = (b1 && r2)) := Lib.hid (by rw [HE.out, HK.out]; simp [q2])
    subst q2
    clear HE HK
    go_enter Tryz.func68, Tryz.ntmps68
    go_wp2_with fail
    refine (H2.out _).mono ?_
    rintro e w1 ⟨rfl, hb⟩
    go_wp2_with fail
    go_ret
    exact ⟨ret_bool HF.out.symm, (((Below.refl _ w).alloc (Nat.le_refl _) _).alloc (by simp) _).trans (hb.mono (by simp; omega))⟩
  by_cases q3 : k = 3
  · have HF : Hid (r = (b1 && r3)) := Lib.hid (by rw [HE.out, HK.out]; simp [q3])
    subst q3
    clear HE HK
    go_enter Tryz.func68, Tryz.ntmps68
    go_wp2_with fail
    refine (H3.out _).mono ?_
    rintro e w1 ⟨rfl, hb⟩
    go_wp2_with fail
    go_ret
    exact ⟨ret_bool HF.out.symm, (((Below.refl _ w).alloc (Nat.le_refl _) _).alloc (by simp) _).trans (hb.mono (by simp; omega))⟩
  have HF : Hid (r = false) := Lib.hid (by rw [HE.out, HK.out, if_neg q0, if_neg q1, if_neg q2, if_neg q3]; simp)
  clear HE HK
  go_enter Tryz.func68, Tryz.ntmps68
  go_wp2_with fail
  go_ret
  exact ⟨ret_bool HF.out.symm, ((Below.refl _ w).alloc (Nat.le_refl _) _).alloc (by simp) _⟩
end Go.Proofs.YtancidbbkoeokaaGreat

/- Contract of impl.cpioFits: what all cpio formats ask of an entry. -/
namespace Go.Proofs.YtancidbbkoeokaaGreat
open Go.ChangeShapes Go.WideShapes Go.ChangeAt Go.RowKit Go.Deep

def isTrail (p : ByteArray) : Bool := p.toList == [84, 82, 65, 73, 76, 69, 82, 33, 33, 33]
def cpioF (e : Ent) : Bool := entOkv e && !isTrail e.path && e.user.toList.isEmpty && e.group.toList.isEmpty
set_option maxHeartbeats 3200000 in
theorem cpioF_impl (k : Int) (p l : ByteArray) (m u g t : Int) (us gr b : ByteArray) (w : World) (hp : p.size ≤ 4194304) (hl : l.size ≤ 4194304) (hus : us.size ≤ 4194304) (hgr : gr.size ≤ 4194304) :
    Calls Tryz.prog 61 #[.agg #[.int .i64 k, .string p, .string l, .int .i64 m, .int .i64 u, .int .i64 g, .int .i64 t, .string us, .string gr, .string b]] w fun e w' => e = .returned (.bool (cpioF ⟨k, p, l, m, u, g, t, us, gr, b⟩)) ∧ Below w.heap.size w w' := by
  have H2 := Lib.hid (fun w => entryOk_impl k p l m u g t us gr b w hp hl hus hgr)
  have HE : Hid (cpioF ⟨k, p, l, m, u, g, t, us, gr, b⟩ = (entOkv ⟨k, p, l, m, u, g, t, us, gr, b⟩ && !(p.toList == [84, 82, 65, 73, 76, 69, 82, 33, 33, 33]) && us.toList.isEmpty && gr.toList.isEmpty)) := Lib.hid rfl
  generalize cpioF ⟨k, p, l, m, u, g, t, us, gr, b⟩ = r at HE
  generalize entOkv ⟨k, p, l, m, u, g, t, us, gr, b⟩ = b1 at H2 HE
  clear hp hus hgr hl
  go_enter Tryz.func61, Tryz.ntmps61
  go_wp2_with fail
  refine (H2.out _).mono ?_
  rintro e w1 ⟨rfl, hb⟩
  obtain ⟨k1, bb1, z1⟩ := one_new (e1 := ⟨k, p, l, m, u, g, t, us, gr, b⟩) hb
  have E1 := Lib.hid k1
  have B1 := Lib.hid bb1
  clear hb k1 bb1
  obtain ⟨c0, c1, c2, c3, c4, c5, c6, c7, c8, c9⟩ := E1.out.zero
  cases b1 with
  | false =>
    go_wp2_with fail
    go_ret
    exact ⟨ret_bool (by rw [HE.out]; simp []), B1.out⟩
  | true =>
    cases q1 : (p.toList == [84, 82, 65, 73, 76, 69, 82, 33, 33, 33]) with
    | true =>
      have HE2 : Hid (r = false) := Lib.hid (by rw [HE.out, q1]; simp)
      clear HE
      go_wp2_with fail
      go_ret
      exact ⟨ret_bool HE2.out.symm, B1.out⟩
    | false =>
      cases q2 : us.toList.isEmpty with
      | false =>
        have HE2 : Hid (r = false) := Lib.hid (by rw [HE.out, q2]; simp)
        clear HE
        go_wp2_with fail
        go_ret
        exact ⟨ret_bool HE2.out.symm, B1.out⟩
      | true =>
        have HE2 : Hid (r = gr.toList.isEmpty) := Lib.hid (by rw [HE.out, q1, q2]; simp)
        clear HE
        go_wp2_with fail
        go_ret
        exact ⟨ret_bool HE2.out.symm, B1.out⟩
end Go.Proofs.YtancidbbkoeokaaGreat

/- Contracts of spec.BinFits and impl.BinFits. -/
namespace Go.Proofs.YtancidbbkoeokaaGreat
open Go.ChangeShapes Go.WideShapes Go.ChangeAt Go.RowKit Go.Deep

def binFits (e : Ent) : Bool := entOkv e && !isTrail e.path && e.user.toList.isEmpty && e.group.toList.isEmpty && decide (e.uid ≤ 65535) && decide (e.gid ≤ 65535) && decide (e.time ≤ 4294967295)
set_option maxHeartbeats 3200000 in
theorem binFits_spec (k : Int) (p l : ByteArray) (m u g t : Int) (us gr b : ByteArray) (w : World) (hp : p.size ≤ 4194304) (hl : l.size ≤ 4194304) (hus : us.size ≤ 4194304) (hgr : gr.size ≤ 4194304) (hbz : b.size ≤ 4194304) :
    Calls Tryz.prog 17 #[.agg #[.int .i64 k, .string p, .string l, .int .i64 m, .int .i64 u, .int .i64 g, .int .i64 t, .string us, .string gr, .string b]] w fun e w' => e = .returned (.bool (binFits ⟨k, p, l, m, u, g, t, us, gr, b⟩)) ∧ Below w.heap.size w w' := by
  have H2 := Lib.hid (fun w => entryOk_spec k p l m u g t us gr b w hp hl hus hgr hbz)
  have HE : Hid (binFits ⟨k, p, l, m, u, g, t, us, gr, b⟩ = (entOkv ⟨k, p, l, m, u, g, t, us, gr, b⟩ && !(p.toList == [84, 82, 65, 73, 76, 69, 82, 33, 33, 33]) && us.toList.isEmpty && gr.toList.isEmpty && decide (u ≤ 65535) && decide (g ≤ 65535) && decide (t ≤ 4294967295))) := Lib.hid rfl
  generalize binFits ⟨k, p, l, m, u, g, t, us, gr, b⟩ = r at HE
  generalize entOkv ⟨k, p, l, m, u, g, t, us, gr, b⟩ = b1 at H2 HE
  clear hp hus hgr hl hbz
  go_enter Tryz.func17, Tryz.ntmps17
  go_wp2_with fail
  refine (H2.out _).mono ?_
  rintro e w1 ⟨rfl, hb⟩
  obtain ⟨k1, bb1, z1⟩ := one_new (e1 := ⟨k, p, l, m, u, g, t, us, gr, b⟩) hb
  have E1 := Lib.hid k1
  have B1 := Lib.hid bb1
  clear hb k1 bb1
  obtain ⟨c0, c1, c2, c3, c4, c5, c6, c7, c8, c9⟩ := E1.out.zero
  cases b1 with
  | false =>
    go_wp2_with fail
    go_ret
    exact ⟨ret_bool (by rw [HE.out]; simp []), B1.out⟩
  | true =>
    cases q1 : (p.toList == [84, 82, 65, 73, 76, 69, 82, 33, 33, 33]) with
    | true =>
      have HE2 : Hid (r = false) := Lib.hid (by rw [HE.out, q1]; simp)
      clear HE
      go_wp2_with fail
      go_ret
      exact ⟨ret_bool HE2.out.symm, B1.out⟩
    | false =>
      cases q2 : us.toList.isEmpty with
      | false =>
        have HE2 : Hid (r = false) := Lib.hid (by rw [HE.out, q2]; simp)
        clear HE
        go_wp2_with fail
        go_ret
        exact ⟨ret_bool HE2.out.symm, B1.out⟩
      | true =>
        cases q3 : gr.toList.isEmpty with
        | false =>
          have HE2 : Hid (r = false) := Lib.hid (by rw [HE.out, q3]; simp)
          clear HE
          go_wp2_with fail
          go_ret
          exact ⟨ret_bool HE2.out.symm, B1.out⟩
        | true =>
          by_cases q4 : u ≤ 65535
          · by_cases q5 : g ≤ 65535
            · by_cases q6 : t ≤ 4294967295
              · have HE2 : Hid (r = true) := Lib.hid (by rw [HE.out, q1, q2, q3, decide_eq_true q4, decide_eq_true q5, decide_eq_true q6]; rfl)
                clear HE
                go_wp2_with fail
                go_ret
                exact ⟨ret_bool HE2.out.symm, B1.out⟩
              · have HE2 : Hid (r = false) := Lib.hid (by rw [HE.out, decide_eq_false q6]; simp)
                clear HE
                go_wp2_with fail
                go_ret
                exact ⟨ret_bool ((decide_eq_false (show ¬ t ≤ 4294967295 by omega)).trans HE2.out.symm), B1.out⟩
            · have HE2 : Hid (r = false) := Lib.hid (by rw [HE.out, decide_eq_false q5]; simp)
              clear HE
              go_wp2_with fail
              go_ret
              exact ⟨ret_bool HE2.out.symm, B1.out⟩
          · have HE2 : Hid (r = false) := Lib.hid (by rw [HE.out, decide_eq_false q4]; simp)
            clear HE
            go_wp2_with fail
            go_ret
            exact ⟨ret_bool HE2.out.symm, B1.out⟩
set_option maxHeartbeats 3200000 in
theorem binFits_impl (k : Int) (p l : ByteArray) (m u g t : Int) (us gr b : ByteArray) (w : World) (hp : p.size ≤ 4194304) (hl : l.size ≤ 4194304) (hus : us.size ≤ 4194304) (hgr : gr.size ≤ 4194304) :
    Calls Tryz.prog 38 #[.agg #[.int .i64 k, .string p, .string l, .int .i64 m, .int .i64 u, .int .i64 g, .int .i64 t, .string us, .string gr, .string b]] w fun e w' => e = .returned (.bool (binFits ⟨k, p, l, m, u, g, t, us, gr, b⟩)) ∧ Below w.heap.size w w' := by
  have H2 := Lib.hid (fun w => cpioF_impl k p l m u g t us gr b w hp hl hus hgr)
  have HE : Hid (binFits ⟨k, p, l, m, u, g, t, us, gr, b⟩ = (cpioF ⟨k, p, l, m, u, g, t, us, gr, b⟩ && decide (u ≤ 65535) && decide (g ≤ 65535) && decide (t ≤ 4294967295))) := Lib.hid rfl
  generalize binFits ⟨k, p, l, m, u, g, t, us, gr, b⟩ = r at HE
  generalize cpioF ⟨k, p, l, m, u, g, t, us, gr, b⟩ = b1 at H2 HE
  clear hp hus hgr hl
  go_enter Tryz.func38, Tryz.ntmps38
  go_wp2_with fail
  refine (H2.out _).mono ?_
  rintro e w1 ⟨rfl, hb⟩
  obtain ⟨k1, bb1, z1⟩ := one_new (e1 := ⟨k, p, l, m, u, g, t, us, gr, b⟩) hb
  have E1 := Lib.hid k1
  have B1 := Lib.hid bb1
  clear hb k1 bb1
  obtain ⟨c0, c1, c2, c3, c4, c5, c6, c7, c8, c9⟩ := E1.out.zero
  cases b1 with
  | false =>
    go_wp2_with fail
    go_ret
    exact ⟨ret_bool (by rw [HE.out]; simp []), B1.out⟩
  | true =>
    by_cases q4 : u ≤ 65535
    · by_cases q5 : g ≤ 65535
      · by_cases q6 : t ≤ 4294967295
        · have HE2 : Hid (r = true) := Lib.hid (by rw [HE.out, decide_eq_true q4, decide_eq_true q5, decide_eq_true q6]; rfl)
          clear HE
          go_wp2_with fail
          go_ret
          exact ⟨ret_bool HE2.out.symm, B1.out⟩
        · have HE2 : Hid (r = false) := Lib.hid (by rw [HE.out, decide_eq_false q6]; simp)
          clear HE
          go_wp2_with fail
          go_ret
          exact ⟨ret_bool ((decide_eq_false (show ¬ t ≤ 4294967295 by omega)).trans HE2.out.symm), B1.out⟩
      · have HE2 : Hid (r = false) := Lib.hid (by rw [HE.out, decide_eq_false q5]; simp)
        clear HE
        go_wp2_with fail
        go_ret
        exact ⟨ret_bool HE2.out.symm, B1.out⟩
    · have HE2 : Hid (r = false) := Lib.hid (by rw [HE.out, decide_eq_false q4]; simp)
      clear HE
      go_wp2_with fail
      go_ret
      exact ⟨ret_bool HE2.out.symm, B1.out⟩
end Go.Proofs.YtancidbbkoeokaaGreat

/- The text of a list in cards with words; contract of spec.PutCpio. -/
namespace Go.Proofs.YtancidbbkoeokaaGreat
open Go.ChangeShapes Go.WideShapes Go.ChangeAt Go.RowKit Go.Deep

def lastC : Card := ⟨0, 0, 0, 0, 1, 0, ⟨#[84, 82, 65, 73, 76, 69, 82, 33, 33, 33]⟩, ⟨#[]⟩⟩
def bwT (crc : Bool) (Q : List Card) : Nat → ByteArray
  | 0 => ⟨#[]⟩
  | n + 1 => bwT crc Q n ++ binTextv (Q.getD n zeroCd) crc
def putBwB (L : List Ent) : Bool := listOkv L && L.all binFits
def putBwT (L : List Ent) (crc : Bool) : ByteArray := if putBwB L then bwT crc (cardsv L) L.length ++ binTextv lastC crc else ⟨#[]⟩
theorem getD_ofQ {C : List Card} {i : Nat} {c : Card} (h : C[i]? = some c) : C.getD i zeroCd = c := by simp [List.getD, h]
theorem bwT_step {crc : Bool} {Q : List Card} {i : Nat} {c : Card} (h : Q[i]? = some c) : bwT crc Q (i + 1) = bwT crc Q i ++ binTextv c crc := by rw [bwT, getD_ofQ h]
theorem binText207 (c : Card) (crc : Bool) : (binTextv c crc).size ≤ 207 + c.Path.size + c.Data.size := by
  have := binText_le c crc
  omega
def SmallQ (Q : List Card) : Prop := ∀ c ∈ Q, c.Path.size + c.Data.size ≤ 4194304
theorem smallQ_of {L : List Ent} (h : SmallL L) : SmallQ (cardsv L) := by
  intro c hc
  by_cases hk : listOkv L = true
  · obtain ⟨i, hi⟩ := List.mem_iff_getElem?.1 hc
    have hlt : i < L.length := by
      have := (List.getElem?_eq_some_iff.1 hi).1
      rwa [cardsv_len hk] at this
    have he : L[i]? = some L[i] := List.getElem?_eq_getElem hlt
    rw [cardsv_get hk he] at hi
    obtain rfl := Option.some.inj hi
    have hz := h.get he
    unfold esz at hz
    show L[i].path.size + (datav L[i]).size ≤ 4194304
    unfold datav
    split <;> omega
  · rw [cardsv, if_neg hk] at hc
    cases hc
theorem bwT_le {crc : Bool} {Q : List Card} (h : SmallQ Q) (i : Nat) (hi : i ≤ Q.length) : (bwT crc Q i).size ≤ 4194511 * i := by
  induction i with
  | zero => exact Nat.zero_le _
  | succ i ih =>
    have hq : Q[i]? = some Q[i] := List.getElem?_eq_getElem (by omega)
    have h1 := h _ (List.mem_of_getElem? hq)
    have h2 := binText207 Q[i] crc
    rw [bwT_step hq, ByteArray.size_append]
    have := ih (by omega)
    omega
theorem putBw_no {L : List Ent} {crc : Bool} (h : listOkv L = false) : putBwB L = false ∧ putBwT L crc = ⟨#[]⟩ := by
  have hb : putBwB L = false := by rw [putBwB, h]; rfl
  exact ⟨hb, by rw [putBwT, hb]; rfl⟩
theorem putBw_bad {L : List Ent} {crc : Bool} {i : Nat} {e : Ent} (he : L[i]? = some e) (h : binFits e = false) : putBwB L = false ∧ putBwT L crc = ⟨#[]⟩ := by
  have hb : putBwB L = false := by
    rw [putBwB, show L.all binFits = false from List.all_eq_false.2 ⟨e, List.mem_of_getElem? he, by simp [h]⟩]
    simp
  exact ⟨hb, by rw [putBwT, hb]; rfl⟩
theorem putBw_yes {L : List Ent} {crc : Bool} (h : listOkv L = true) (hf : ∀ j, j < L.length → ∀ e, L[j]? = some e → binFits e = true) : putBwB L = true ∧ putBwT L crc = bwT crc (cardsv L) L.length ++ binTextv lastC crc := by
  have hb : putBwB L = true := by
    rw [putBwB, h, List.all_eq_true.2 (fun e he => by
      obtain ⟨j, hj⟩ := List.mem_iff_getElem?.1 he
      exact hf j (List.getElem?_eq_some_iff.1 hj).1 e hj)]
    rfl
  exact ⟨hb, by rw [putBwT, if_pos hb]⟩
theorem last_spec (w : World) : Calls Tryz.prog 19 #[] w fun e w' => e = .returned (.agg #[.int .i64 0, .int .i64 0, .int .i64 0, .int .i64 0, .int .i64 1, .int .i64 0, .string ⟨#[84, 82, 65, 73, 76, 69, 82, 33, 33, 33]⟩, .string ⟨#[]⟩]) ∧ Below w.heap.size w w' := by
  have R9 := CardO.new w lastC
  simp only [lastC, Card.cells] at R9
  go_enter Tryz.func19, Tryz.ntmps19
  go_wp2_with fail
  refine bodyPost_ret (res_OC1 (e := lastC) rfl _ rfl R9) rfl ?_
  exact ⟨rfl, (Below.refl _ _).alloc (Nat.le_refl _) _⟩
set_option maxHeartbeats 6400000 in
set_option maxRecDepth 8000 in
theorem putCpio_spec (L : List Ent) (n g cap : Nat) (crc : Bool) (w : World) (hn : n = L.length) (hm : n ≤ 1048576) (hcap : n ≤ cap) (hg : g < w.heap.size) (hsm : SmallL L) (h1 : RowE w g L) :
    Calls Tryz.prog 6 #[.slice (some ⟨g, 0, none⟩) n cap, .bool crc] w fun e w' => e = .returned (.tuple #[.string (putBwT L crc), .bool (putBwB L)]) ∧ Below w.heap.size w w' := by
  have H1 := Lib.hid h1
  have HK := Lib.hid (fun w (hg : g < w.heap.size) (h : RowE w g L) => listOk_spec L n g cap w hn (by omega) hcap hg hsm h)
  have HC := Lib.hid (fun w (hg : g < w.heap.size) (h : RowE w g L) => cardsOf_spec L n g cap w hn (by omega) hcap hg hsm h)
  have HG : Hid (∀ i, i < n → ∃ e, L[i]? = some e ∧ esz e ≤ 4194304) := Lib.hid (fun i hi => by obtain ⟨e, he⟩ := getE' (L := L) (i := i) (by omega); exact ⟨e, he, hsm.get he⟩)
  have HNo := Lib.hid (putBw_no (L := L) (crc := crc))
  have HBad := Lib.hid (fun i e (he : L[i]? = some e) h => putBw_bad (crc := crc) he h)
  have HYes : Hid (listOkv L = true → (∀ j, j < n → ∀ e, L[j]? = some e → binFits e = true) → putBwB L = true ∧ putBwT L crc = bwT crc (cardsv L) n ++ binTextv lastC crc) := Lib.hid (by rw [hn]; exact putBw_yes)
  have HQ : Hid (listOkv L = true → (cardsv L).length = n ∧ n ≤ 30) := Lib.hid (fun h => ⟨by rw [hn]; exact cardsv_len h, by rw [hn]; exact listOk_len h⟩)
  have HSQ := Lib.hid (smallQ_of hsm)
  have HLast := Lib.hid (binText207 lastC crc)
  generalize putBwB L = ok at HNo HBad HYes
  generalize putBwT L crc = r at HNo HBad HYes
  generalize listOkv L = lk at HK HNo HYes HQ
  generalize cardsv L = Q at HC HYes HQ HSQ
  clear h1 hsm hn
  go_enter Tryz.func6, Tryz.ntmps6
  go_wp2_with fail
  refine (HK.out _ hg H1.out).mono ?_
  rintro e w1 ⟨rfl, hb⟩
  have B := Lib.hid hb
  clear hb
  cases lk with
  | false =>
    have HF := Lib.hid (HNo.out rfl)
    go_wp2_with fail
    go_ret2
    exact ⟨by rw [HF.out.1, HF.out.2]; rfl, B.out⟩
  | true =>
    obtain ⟨hql, hn30⟩ := HQ.out rfl
    have HY := Lib.hid (HYes.out rfl)
    clear HK HNo HYes HQ
    go_wp2_with fail
    refine (HC.out _ (by have := B.out.size; omega) (H1.out.below B.out hg)).mono ?_
    rintro e w2 ⟨v, rfl, ho, hb⟩
    obtain ⟨gc, cc, rfl, hrc, zc, _, _⟩ := ho.open
    have RC := Lib.hid hrc
    replace B := Lib.hid (btE B.out hb)
    clear ho hrc hb HC
    rw [hql]
    go_wp2_with fail
    go_loopw [6, 8] (fun v u wr => ∃ i : Nat, u = .int .i64 i ∧ i ≤ n ∧ (∀ j, j < i → ∀ e, L[j]? = some e → binFits e = true) ∧ v = .string (bwT crc Q i) ∧ RowC wr gc Q ∧ gc < wr.heap.size ∧ Below w.heap.size w wr) (fun _ u _ => n - (intOf u).toNat)
    case atStart => exact ⟨0, rfl, Nat.zero_le _, fun j hj => by omega, rfl, RC.out, zc, B.out⟩
    case round =>
      obtain ⟨i, rfl, hi, hf, rfl, hrc, zc2, hb⟩ := hrel
      clear RC B
      have HFt := Lib.hid hf
      have RC := Lib.hid hrc
      have B := Lib.hid hb
      have hszB := B.out.size
      clear hf hrc hb
      have hle := bwT_le (crc := crc) HSQ.out i (by omega)
      by_cases hlt : i < n
      · have hlt2 : (i : Int) < (n : Int) := by omega
        obtain ⟨e, he, hz⟩ := HG.out i hlt
        obtain ⟨q, hq⟩ : ∃ q, Q[i]? = some q := ⟨Q[i], List.getElem?_eq_getElem (by omega)⟩
        have hqs := HSQ.out _ (List.mem_of_getElem? hq)
        have hcl := binText207 q crc
        have HSt := Lib.hid (bwT_step (crc := crc) hq)
        have HB2 := Lib.hid (HBad.out i e he)
        have HFn : Hid (binFits e = true → ∀ j, j < i + 1 → ∀ e, L[j]? = some e → binFits e = true) := Lib.hid (fun h j hj e' he' => by
          by_cases hji : j = i
          · subst hji; rw [he] at he'; obtain rfl := Option.some.inj he'; exact h
          · exact HFt.out j (by omega) e' he')
        obtain ⟨c0, c1, c2, c3, c4, c5, c6, c7, c8, c9⟩ := (H1.out.below B.out hg).ten he
        have Hq := Lib.hid hq
        clear he hq HBad HG
        obtain ⟨k, p, l, m, u1, gi, t, us, gr, b⟩ := e
        obtain ⟨hp, hl, hus, hgr, hbz⟩ := small_parts hz
        have HO := Lib.hid (fun w => binFits_spec k p l m u1 gi t us gr b w hp hl hus hgr hbz)
        clear hz hp hl hus hgr hbz
        generalize binFits ⟨k, p, l, m, u1, gi, t, us, gr, b⟩ = f at HB2 HFn HO
        go_wp2_with fail
        refine (HO.out _).mono ?_
        rintro e w3 ⟨rfl, hb⟩
        replace RC := Lib.hid (RC.out.below hb zc2)
        replace B := Lib.hid (btE B.out hb)
        have zc3 := Nat.lt_of_lt_of_le zc2 hb.size
        clear hb HO c0 c1 c2 c3 c4 c5 c6 c7 c8 c9
        cases f with
        | false =>
          have HF := Lib.hid (HB2.out rfl)
          go_wp2_with fail
          go_ret2
          exact ⟨by rw [HF.out.1, HF.out.2]; rfl, B.out⟩
        | true =>
          have HFi := Lib.hid (HFn.out rfl)
          obtain ⟨d0, d1, d2, d3, d4, d5, d6, d7⟩ := RC.out.cols Hq.out
          obtain ⟨q0, q1, q2, q3, q4, q5, qp, qd⟩ := q
          simp only at d0 d1 d2 d3 d4 d5 d6 d7 hqs hcl
          have HP := Lib.hid (fun w => putBin_spec q0 q1 q2 q3 q4 q5 qp qd crc w (by omega) (by omega))
          generalize binTextv ⟨q0, q1, q2, q3, q4, q5, qp, qd⟩ crc = x at HP HSt hcl
          obtain ⟨T, hT⟩ : ∃ T, bwT crc Q i = T := ⟨_, rfl⟩
          rw [hT] at HSt hle ⊢
          clear hT HB2 HFn
          have hA : ∀ w, (Op.stringOp .add T x).run Tryz.prog w = .ok (.string (T ++ x)) w := fun w => run_string_add_sum w _ _ (by omega)
          go_wp2_with fail
          refine (HP.out _).mono ?_
          rintro e w4 ⟨rfl, hb⟩
          replace RC := Lib.hid (RC.out.below hb zc3)
          replace B := Lib.hid (btE B.out hb)
          have zc4 := Nat.lt_of_lt_of_le zc3 hb.size
          clear hb d0 d1 d2 d3 d4 d5 d6 d7 HP
          go_wp2_with fail
          go_roundw
          case rel => exact ⟨i + 1, by go_num, by omega, HFi.out, by rw [HSt.out], RC.out, zc4, B.out⟩
          case measure => simp [intOf]; omega
      · obtain rfl : i = n := by omega
        have hlt2 : ¬ (i : Int) < (i : Int) := by omega
        have HF := Lib.hid (HY.out HFt.out)
        have hll := HLast.out
        obtain ⟨x, hx⟩ : ∃ x, binTextv lastC crc = x := ⟨_, rfl⟩
        have HP := Lib.hid (fun w => putBin_spec 0 0 0 0 1 0 ⟨#[84, 82, 65, 73, 76, 69, 82, 33, 33, 33]⟩ ⟨#[]⟩ crc w (by decide) (by decide))
        rw [show (binTextv ⟨0, 0, 0, 0, 1, 0, ⟨#[84, 82, 65, 73, 76, 69, 82, 33, 33, 33]⟩, ⟨#[]⟩⟩ crc) = x from hx] at HP
        rw [hx] at HF hll
        have hp1 : lastC.Path.size = 10 := rfl
        have hp2 : lastC.Data.size = 0 := rfl
        have hll2 : x.size ≤ 1000 := by omega
        obtain ⟨T, hT⟩ : ∃ T, bwT crc Q i = T := ⟨_, rfl⟩
        rw [hT] at HF hle ⊢
        clear hT hx hll HY
        have hA : ∀ w, (Op.stringOp .add T x).run Tryz.prog w = .ok (.string (T ++ x)) w := fun w => run_string_add_sum w _ _ (by omega)
        go_wp2_with fail
        refine (last_spec _).mono ?_
        rintro e w3 ⟨rfl, hb⟩
        replace B := Lib.hid (btE B.out hb)
        clear hb
        go_wp2_with fail
        refine (HP.out _).mono ?_
        rintro e w4 ⟨rfl, hb⟩
        replace B := Lib.hid (btE B.out hb)
        clear hb
        go_wp2_with fail
        go_ret2
        exact ⟨by rw [HF.out.1, HF.out.2]; rfl, B.out⟩
end Go.Proofs.YtancidbbkoeokaaGreat

/- Contract of impl.Find (slices.IndexFunc with a function that holds the path). -/
namespace Go.Proofs.YtancidbbkoeokaaGreat
open Go.ChangeShapes Go.WideShapes Go.ChangeAt Go.RowKit Go.Deep Go.Shelf

theorem findPred (k : Int) (q l : ByteArray) (m u g t : Int) (us gr b : ByteArray) (p : ByteArray) (B : Nat) (w : World) (hB : B < w.heap.size) (hc : w.cell? ⟨B, 0, none⟩ = some (.string p)) :
    Calls Tryz.prog 99 #[.agg #[.int .i64 k, .string q, .string l, .int .i64 m, .int .i64 u, .int .i64 g, .int .i64 t, .string us, .string gr, .string b], .pointer (some ⟨B, 0, none⟩)] w fun e w' => e = .returned (.bool (q.toList == p.toList)) ∧ Below w.heap.size w w' := by
  have hne : B ≠ w.heap.size := by omega
  go_enter Tryz.func99, Tryz.ntmps99
  go_wp2
  all_goals (go_ret; exact ⟨by simp_all, (Below.refl _ w).alloc (Nat.le_refl _) _⟩)
theorem findIndex (L : List Ent) (p : ByteArray) (n g cap B : Nat) (w : World) (hn : n = L.length) (hm : n ≤ 4194304) (hg : g < w.heap.size) (h1 : RowE w g L) (hB : B < w.heap.size) (hc : w.cell? ⟨B, 0, none⟩ = some (.string p)) :
    Calls Tryz.prog 98 #[.slice (some ⟨g, 0, none⟩) n cap, .func (.func 99) #[] #[.pointer (some ⟨B, 0, none⟩)]] w fun e w' => e = .returned (.int .i64 (findv L p)) ∧ Below w.heap.size w w' := by
  have H1 := Lib.hid h1
  have HC := Lib.hid hc
  have HP := Lib.hid (fun k q l m u g t us gr b w hB hc => findPred k q l m u g t us gr b p B w hB hc)
  have HG : Hid (∀ i, i < n → ∃ e, L[i]? = some e) := Lib.hid (fun i hi => getE' (by omega))
  have HE : Hid (∀ i, n ≤ i → findFrom (L.drop i) p i = -1) := Lib.hid (fun i hi => findFrom_end L p i (by omega))
  have HD : Hid (findv L p = findFrom (L.drop 0) p 0) := Lib.hid rfl
  have eg : ∀ args w, (callFunc 99 args).run Tryz.prog w = .ok (.enter 99 args) w := enters_of Tryz.func99 (by kernel_rfl) rfl
  generalize findv L p = r at HD
  clear h1 hn hc
  go_enter Tryz.func98, Tryz.ntmps98
  go_wp2_with fail
  go_loopw [5, 8] (fun _ u wr => ∃ i : Nat, u = .int .i64 i ∧ i ≤ n ∧ r = findFrom (L.drop i) p i ∧ Below w.heap.size w wr) (fun _ u _ => n - (intOf u).toNat)
  case atStart => exact ⟨0, rfl, Nat.zero_le _, HD.out, Below.refl _ _⟩
  case round =>
    obtain ⟨i, rfl, hi, hr, hb⟩ := hrel
    have HR := Lib.hid hr
    have B := Lib.hid hb
    clear hr hb
    by_cases hlt : i < n
    · have hlt2 : (i : Int) < (n : Int) := by omega
      obtain ⟨e, he⟩ := HG.out i hlt
      have HN := Lib.hid (findFrom_drop L p i he)
      obtain ⟨c0, c1, c2, c3, c4, c5, c6, c7, c8, c9⟩ := (H1.out.below B.out hg).ten he
      clear he
      obtain ⟨k, q, l, m, u, g0, t, us, gr, b⟩ := e
      have hcall := HP.out k q l m u g0 t us gr b wr (Nat.lt_of_lt_of_le hB B.out.size) ((B.out.cell (p := ⟨_, 0, none⟩) hB).trans HC.out)
      by_cases hq : q = p
      · rw [baE_eq hq] at hcall
        have HF : Hid (r = i) := Lib.hid (by rw [HR.out, HN.out, if_pos hq])
        clear hq HN HR
        go_wp2_with (go_at_fn 99; refine hcall.mono ?_; rintro e w' ⟨rfl, hb'⟩)
        go_ret
        exact ⟨ret_int HF.out.symm, btE B.out hb'⟩
      · rw [baE_ne hq] at hcall
        have HF : Hid (r = findFrom (L.drop (i + 1)) p (i + 1)) := Lib.hid (by rw [HR.out, HN.out, if_neg hq])
        clear hq HN HR
        go_wp2_with (go_at_fn 99; refine hcall.mono ?_; rintro e w' ⟨rfl, hb'⟩)
        go_roundw
        case rel => exact ⟨i + 1, by go_num, by omega, HF.out, btE B.out hb'⟩
        case measure => simp [intOf]; omega
    · have hlt2 : ¬ (i : Int) < (n : Int) := by omega
      have HF : Hid (r = -1) := Lib.hid (by rw [HR.out, HE.out i (by omega)])
      go_wp2_with fail
      go_ret
      exact ⟨ret_int HF.out.symm, B.out⟩
theorem find_impl (L : List Ent) (p : ByteArray) (n g cap : Nat) (w : World) (hn : n = L.length) (hm : n ≤ 4194304) (hg : g < w.heap.size) (h1 : RowE w g L) :
    Calls Tryz.prog 86 #[.slice (some ⟨g, 0, none⟩) n cap, .string p] w fun e w' => e = .returned (.int .i64 (findv L p)) ∧ Below w.heap.size w w' := by
  have b0 : Below w.heap.size w (w.alloc (.cells #[.string p] 9)) := (Below.refl _ w).alloc (Nat.le_refl _) _
  have hcon := findIndex L p n g cap w.heap.size (w.alloc (.cells #[.string p] 9)) hn hm (by simp; omega) (h1.below b0 hg) (by simp) (by simp)
  have B0 := Lib.hid b0
  clear h1 hn b0
  generalize findv L p = r at hcon
  go_enter Tryz.func86, Tryz.ntmps86
  go_wp2_with (go_at_call 98; refine hcon.mono ?_; rintro e w' ⟨rfl, hb'⟩)
  go_ret
  exact ⟨rfl, btE B0.out hb'⟩
end Go.Proofs.YtancidbbkoeokaaGreat
