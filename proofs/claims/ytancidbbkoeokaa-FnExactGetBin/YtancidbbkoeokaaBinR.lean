/- The reader of a card's head: its methods. -/
import Derived.Test.YtancidbbkoeokaaBinRoom
import Derived.Test.YtancidbbkoeokaaRegU
import Derived.Deep.DeepCutAuto
import Derived.OwnWalk
import Derived.Laws.ResultCell
import Derived.Laws.Rows
namespace Go.Proofs.Ytancidbbkoeokaa
open Go.ChangeShapes Go.WideShapes Go.ChangeAt Go.RowKit Go.Deep

/-- The reader in a block of its own: the text, the place, the order of bytes. -/
def RdO (w : World) (g : Nat) (s : ByteArray) (at_ : Int) (hi : Bool) : Prop := w.heap[g]? = some (.cells #[.string s, .int .i64 at_, .bool hi] 60 (0, 0))
theorem heap_setRB {w : World} {g i : Nat} {cs : Array Value} {t : TypeId} {v : Value} (h : w.heap[g]? = some (.cells cs t (0, 0))) : (w.setCell ⟨g, i, none⟩ v).heap[g]? = some (.cells (cs.setIfInBounds i v) t (0, 0)) := by
  have hlt : g < w.heap.size := (Array.getElem?_eq_some_iff.1 h).1
  have hg : w.heap[g] = .cells cs t (0, 0) := (Array.getElem?_eq_some_iff.1 h).2
  simp [World.setCell, hlt, Array.getElem_modify, hg]
theorem bel_drewB {B : Nat} {w w' : World} {n : Nat} (h : Below B w w') : Below B w (w'.drewN n) := ⟨h.os, h.tape, h.output, h.size, h.block⟩
set_option maxHeartbeats 1600000 in
set_option maxRecDepth 8000 in
theorem short_r (g gh i : Nat) (s : ByteArray) (at_ : Int) (hi : Bool) (cs : Array Value) (T : TypeId) (w : World) (hs : s.size ≤ 1048576) (ha : 0 ≤ at_ ∧ at_ ≤ 1048576) (h : RdO w g s at_ hi) (hh : w.heap[gh]? = some (.cells cs T (0, 0))) (hne : gh ≠ g) (hone : ∃ x, cs[i]? = some (.int .i64 x)) :
    Calls Try.prog 109 #[.pointer (some ⟨g, 0, none⟩), .pointer (some ⟨gh, i, none⟩)] w fun e w' => e = .returned (.tuple #[]) ∧ RdO w' g s (at_ + 2) hi ∧ w'.heap[gh]? = some (.cells (cs.setIfInBounds i (.int .i64 (get16v s at_ hi))) T (0, 0)) ∧ ∀ B, B ≤ g → B ≤ gh → Below B w w' := by
  have HP := Lib.hid (fun w => get16_impl s at_ hi w (by omega))
  generalize get16v s at_ hi = q at HP ⊢
  obtain ⟨x9, hone⟩ := hone
  have ew : IntKind.i64.wrap (at_ + 2) = at_ + 2 := by rw [IntKind.wrap_i64]; omega
  have hlt := (Array.getElem?_eq_some_iff.1 h).1
  have hgl := (Array.getElem?_eq_some_iff.1 hh).1
  have R := Lib.hid h
  have HH := Lib.hid hh
  have KC : Hid (∀ w', Below w.heap.size w w' → w'.cell? ⟨g, 0, none⟩ = some (.string s) ∧ w'.cell? ⟨g, 1, none⟩ = some (.int .i64 at_) ∧ w'.cell? ⟨g, 2, none⟩ = some (.bool hi)) := Lib.hid (fun w' hb => by
    have h9 := (hb.block g hlt).trans h
    exact ⟨by simp [World.cell?, h9], by simp [World.cell?, h9], by simp [World.cell?, h9]⟩)
  clear h hh
  go_enter Try.func109, Try.ntmps109
  go_upto_region 0 with fail
  refine wp_region_cut 15 (by kernel_rfl) (fun w' => Below w.heap.size w w') (fun x y => Below x.heap.size x y) (fun dq vq _ => match dq with | 4 => vq = .pointer (some ⟨gh, i, none⟩) | 5 => vq = .pointer (some ⟨g, 0, none⟩) | 6 => vq = .pointer (some ⟨g, 0, none⟩) | 7 => vq = .pointer (some ⟨g, 0, none⟩) | 8 => vq = .string s | 9 => vq = .pointer (some ⟨g, 0, none⟩) | 10 => vq = .pointer (some ⟨g, 0, none⟩) | 11 => vq = .pointer (some ⟨g, 1, none⟩) | 12 => vq = .int .i64 at_ | 13 => vq = .pointer (some ⟨g, 0, none⟩) | 14 => vq = .pointer (some ⟨g, 0, none⟩) | 15 => vq = .pointer (some ⟨g, 2, none⟩) | 16 => vq = .bool hi | 17 => vq = .int .i64 q | 18 => vq = .pointer (some ⟨gh, i, none⟩) | _ => True) (by kernel_rfl) (by kernel_rfl) ((Below.refl _ _).drew) (fun _ _ _ _ _ _ h => h) (by simp) ?hops ?hend
  case hops =>
    simp only [List.take_succ_cons, List.take_zero, List.forall_mem_cons]
    refine ⟨?o4, ?o5, ?o6, ?o7, ?o8, ?o9, ?o10, ?o11, ?o12, ?o13, ?o14, ?o15, ?o16, ?o17, ?o18, fun _ h => by cases h⟩
    case o4 =>
      intro Q a w2 hC hV hI
      have e1 : a.eval (.tmp 1) = .pointer (some ⟨gh, i, none⟩) := (hI 1 (by simp [Op.operands]) (by kernel_rfl)).trans rfl
      have f1 : a.tmps.getD 1 undef = .pointer (some ⟨gh, i, none⟩) := e1
      have g1 : a.tmps[1]?.getD undef = .pointer (some ⟨gh, i, none⟩) := by rw [← Array.getD_eq_getD_getElem?]; exact e1
      refine op_val (.pointer (some ⟨gh, i, none⟩)) ?_ hC (Below.refl _ _) (by intro d hd; cases hd; rfl)
      (clear hV hI hC; go_simp <;> (first | rfl | simp | (rw [IntKind.wrap_i64]; omega)))
    case o5 =>
      intro Q a w2 hC hV hI
      have e0 : a.eval (.tmp 0) = .pointer (some ⟨g, 0, none⟩) := (hI 0 (by simp [Op.operands]) (by kernel_rfl)).trans rfl
      have f0 : a.tmps.getD 0 undef = .pointer (some ⟨g, 0, none⟩) := e0
      have g0 : a.tmps[0]?.getD undef = .pointer (some ⟨g, 0, none⟩) := by rw [← Array.getD_eq_getD_getElem?]; exact e0
      refine op_val (.pointer (some ⟨g, 0, none⟩)) ?_ hC (Below.refl _ _) (by intro d hd; cases hd; rfl)
      (clear hV hI hC; go_simp <;> (first | rfl | simp | (rw [IntKind.wrap_i64]; omega)))
    case o6 =>
      intro Q a w2 hC hV hI
      have e5 : a.eval (.tmp 5) = .pointer (some ⟨g, 0, none⟩) := hV 5 (by simp [Op.operands]) (by kernel_rfl)
      have f5 : a.tmps.getD 5 undef = .pointer (some ⟨g, 0, none⟩) := e5
      have g5 : a.tmps[5]?.getD undef = .pointer (some ⟨g, 0, none⟩) := by rw [← Array.getD_eq_getD_getElem?]; exact e5
      refine op_val (.pointer (some ⟨g, 0, none⟩)) ?_ hC (Below.refl _ _) (by intro d hd; cases hd; rfl)
      (clear hV hI hC; go_simp <;> (first | rfl | simp | (rw [IntKind.wrap_i64]; omega)))
    case o7 =>
      intro Q a w2 hC hV hI
      have e6 : a.eval (.tmp 6) = .pointer (some ⟨g, 0, none⟩) := hV 6 (by simp [Op.operands]) (by kernel_rfl)
      have f6 : a.tmps.getD 6 undef = .pointer (some ⟨g, 0, none⟩) := e6
      have g6 : a.tmps[6]?.getD undef = .pointer (some ⟨g, 0, none⟩) := by rw [← Array.getD_eq_getD_getElem?]; exact e6
      refine op_val (.pointer (some ⟨g, 0, none⟩)) ?_ hC (Below.refl _ _) (by intro d hd; cases hd; rfl)
      (clear hV hI hC; go_simp <;> (first | rfl | simp | (rw [IntKind.wrap_i64]; omega)))
    case o8 =>
      intro Q a w2 hC hV hI
      have e7 : a.eval (.tmp 7) = .pointer (some ⟨g, 0, none⟩) := hV 7 (by simp [Op.operands]) (by kernel_rfl)
      have f7 : a.tmps.getD 7 undef = .pointer (some ⟨g, 0, none⟩) := e7
      have g7 : a.tmps[7]?.getD undef = .pointer (some ⟨g, 0, none⟩) := by rw [← Array.getD_eq_getD_getElem?]; exact e7
      have hK := KC.out w2 hC
      refine op_val (.string s) ?_ hC (Below.refl _ _) (by intro d hd; cases hd; rfl)
      (clear hV hI hC; go_simp <;> (first | rfl | simp | (rw [IntKind.wrap_i64]; omega)))
    case o9 =>
      intro Q a w2 hC hV hI
      have e0 : a.eval (.tmp 0) = .pointer (some ⟨g, 0, none⟩) := (hI 0 (by simp [Op.operands]) (by kernel_rfl)).trans rfl
      have f0 : a.tmps.getD 0 undef = .pointer (some ⟨g, 0, none⟩) := e0
      have g0 : a.tmps[0]?.getD undef = .pointer (some ⟨g, 0, none⟩) := by rw [← Array.getD_eq_getD_getElem?]; exact e0
      refine op_val (.pointer (some ⟨g, 0, none⟩)) ?_ hC (Below.refl _ _) (by intro d hd; cases hd; rfl)
      (clear hV hI hC; go_simp <;> (first | rfl | simp | (rw [IntKind.wrap_i64]; omega)))
    case o10 =>
      intro Q a w2 hC hV hI
      have e9 : a.eval (.tmp 9) = .pointer (some ⟨g, 0, none⟩) := hV 9 (by simp [Op.operands]) (by kernel_rfl)
      have f9 : a.tmps.getD 9 undef = .pointer (some ⟨g, 0, none⟩) := e9
      have g9 : a.tmps[9]?.getD undef = .pointer (some ⟨g, 0, none⟩) := by rw [← Array.getD_eq_getD_getElem?]; exact e9
      refine op_val (.pointer (some ⟨g, 0, none⟩)) ?_ hC (Below.refl _ _) (by intro d hd; cases hd; rfl)
      (clear hV hI hC; go_simp <;> (first | rfl | simp | (rw [IntKind.wrap_i64]; omega)))
    case o11 =>
      intro Q a w2 hC hV hI
      have e10 : a.eval (.tmp 10) = .pointer (some ⟨g, 0, none⟩) := hV 10 (by simp [Op.operands]) (by kernel_rfl)
      have f10 : a.tmps.getD 10 undef = .pointer (some ⟨g, 0, none⟩) := e10
      have g10 : a.tmps[10]?.getD undef = .pointer (some ⟨g, 0, none⟩) := by rw [← Array.getD_eq_getD_getElem?]; exact e10
      refine op_val (.pointer (some ⟨g, 1, none⟩)) ?_ hC (Below.refl _ _) (by intro d hd; cases hd; rfl)
      (clear hV hI hC; go_simp <;> (first | rfl | simp | (rw [IntKind.wrap_i64]; omega)))
    case o12 =>
      intro Q a w2 hC hV hI
      have e11 : a.eval (.tmp 11) = .pointer (some ⟨g, 1, none⟩) := hV 11 (by simp [Op.operands]) (by kernel_rfl)
      have f11 : a.tmps.getD 11 undef = .pointer (some ⟨g, 1, none⟩) := e11
      have g11 : a.tmps[11]?.getD undef = .pointer (some ⟨g, 1, none⟩) := by rw [← Array.getD_eq_getD_getElem?]; exact e11
      have hK := KC.out w2 hC
      refine op_val (.int .i64 at_) ?_ hC (Below.refl _ _) (by intro d hd; cases hd; rfl)
      (clear hV hI hC; go_simp <;> (first | rfl | simp | (rw [IntKind.wrap_i64]; omega)))
    case o13 =>
      intro Q a w2 hC hV hI
      have e0 : a.eval (.tmp 0) = .pointer (some ⟨g, 0, none⟩) := (hI 0 (by simp [Op.operands]) (by kernel_rfl)).trans rfl
      have f0 : a.tmps.getD 0 undef = .pointer (some ⟨g, 0, none⟩) := e0
      have g0 : a.tmps[0]?.getD undef = .pointer (some ⟨g, 0, none⟩) := by rw [← Array.getD_eq_getD_getElem?]; exact e0
      refine op_val (.pointer (some ⟨g, 0, none⟩)) ?_ hC (Below.refl _ _) (by intro d hd; cases hd; rfl)
      (clear hV hI hC; go_simp <;> (first | rfl | simp | (rw [IntKind.wrap_i64]; omega)))
    case o14 =>
      intro Q a w2 hC hV hI
      have e13 : a.eval (.tmp 13) = .pointer (some ⟨g, 0, none⟩) := hV 13 (by simp [Op.operands]) (by kernel_rfl)
      have f13 : a.tmps.getD 13 undef = .pointer (some ⟨g, 0, none⟩) := e13
      have g13 : a.tmps[13]?.getD undef = .pointer (some ⟨g, 0, none⟩) := by rw [← Array.getD_eq_getD_getElem?]; exact e13
      refine op_val (.pointer (some ⟨g, 0, none⟩)) ?_ hC (Below.refl _ _) (by intro d hd; cases hd; rfl)
      (clear hV hI hC; go_simp <;> (first | rfl | simp | (rw [IntKind.wrap_i64]; omega)))
    case o15 =>
      intro Q a w2 hC hV hI
      have e14 : a.eval (.tmp 14) = .pointer (some ⟨g, 0, none⟩) := hV 14 (by simp [Op.operands]) (by kernel_rfl)
      have f14 : a.tmps.getD 14 undef = .pointer (some ⟨g, 0, none⟩) := e14
      have g14 : a.tmps[14]?.getD undef = .pointer (some ⟨g, 0, none⟩) := by rw [← Array.getD_eq_getD_getElem?]; exact e14
      refine op_val (.pointer (some ⟨g, 2, none⟩)) ?_ hC (Below.refl _ _) (by intro d hd; cases hd; rfl)
      (clear hV hI hC; go_simp <;> (first | rfl | simp | (rw [IntKind.wrap_i64]; omega)))
    case o16 =>
      intro Q a w2 hC hV hI
      have e15 : a.eval (.tmp 15) = .pointer (some ⟨g, 2, none⟩) := hV 15 (by simp [Op.operands]) (by kernel_rfl)
      have f15 : a.tmps.getD 15 undef = .pointer (some ⟨g, 2, none⟩) := e15
      have g15 : a.tmps[15]?.getD undef = .pointer (some ⟨g, 2, none⟩) := by rw [← Array.getD_eq_getD_getElem?]; exact e15
      have hK := KC.out w2 hC
      refine op_val (.bool hi) ?_ hC (Below.refl _ _) (by intro d hd; cases hd; rfl)
      (clear hV hI hC; go_simp <;> (first | rfl | simp | (rw [IntKind.wrap_i64]; omega)))
    case o17 =>
      intro Q a w2 hC hV hI
      have e8 : a.eval (.tmp 8) = .string s := hV 8 (by simp [Op.operands, Call.operands]) (by kernel_rfl)
      have f8 : a.tmps.getD 8 undef = .string s := e8
      have g8 : a.tmps[8]?.getD undef = .string s := by rw [← Array.getD_eq_getD_getElem?]; exact e8
      have e12 : a.eval (.tmp 12) = .int .i64 at_ := hV 12 (by simp [Op.operands, Call.operands]) (by kernel_rfl)
      have f12 : a.tmps.getD 12 undef = .int .i64 at_ := e12
      have g12 : a.tmps[12]?.getD undef = .int .i64 at_ := by rw [← Array.getD_eq_getD_getElem?]; exact e12
      have e16 : a.eval (.tmp 16) = .bool hi := hV 16 (by simp [Op.operands, Call.operands]) (by kernel_rfl)
      have f16 : a.tmps.getD 16 undef = .bool hi := e16
      have g16 : a.tmps[16]?.getD undef = .bool hi := by rw [← Array.getD_eq_getD_getElem?]; exact e16
      refine op_call (f := 111) (args := #[.string s, .int .i64 at_, .bool hi]) (R := fun v y => v = .int .i64 q ∧ Below w2.heap.size w2 y) ?_ ((HP.out w2).mono ?_) ?_
      · (clear hV hI hC; go_simp <;> (first | rfl | simp | (rw [IntKind.wrap_i64]; omega)))
      · rintro e y ⟨rfl, n9, rfl⟩; exact ⟨_, rfl, rfl, bel_drewB (Below.refl _ _)⟩
      · rintro v y ⟨rfl, hb⟩; exact ⟨hC.trans (hb.mono hC.size), hb, by intro d hd; cases hd; rfl⟩
    case o18 =>
      intro Q a w2 hC hV hI
      have e4 : a.eval (.tmp 4) = .pointer (some ⟨gh, i, none⟩) := hV 4 (by simp [Op.operands]) (by kernel_rfl)
      have f4 : a.tmps.getD 4 undef = .pointer (some ⟨gh, i, none⟩) := e4
      have g4 : a.tmps[4]?.getD undef = .pointer (some ⟨gh, i, none⟩) := by rw [← Array.getD_eq_getD_getElem?]; exact e4
      refine op_val (.pointer (some ⟨gh, i, none⟩)) ?_ hC (Below.refl _ _) (by intro d hd; cases hd; rfl)
      (clear hV hI hC; go_simp <;> (first | rfl | simp | (rw [IntKind.wrap_i64]; omega)))
  case hend =>
    intro f w2 hC hall
    simp only [List.take_succ_cons, List.take_zero, List.drop_succ_cons, List.drop_zero] at hall ⊢
    simp only [List.forall_mem_cons] at hall
    obtain ⟨h4, h5, h6, h7, h8, h9, h10, h11, h12, h13, h14, h15, h16, h17, h18, _⟩ := hall
    replace h4 : f 4 = .pointer (some ⟨gh, i, none⟩) := h4 4 rfl
    replace h5 : f 5 = .pointer (some ⟨g, 0, none⟩) := h5 5 rfl
    replace h6 : f 6 = .pointer (some ⟨g, 0, none⟩) := h6 6 rfl
    replace h7 : f 7 = .pointer (some ⟨g, 0, none⟩) := h7 7 rfl
    replace h8 : f 8 = .string s := h8 8 rfl
    replace h9 : f 9 = .pointer (some ⟨g, 0, none⟩) := h9 9 rfl
    replace h10 : f 10 = .pointer (some ⟨g, 0, none⟩) := h10 10 rfl
    replace h11 : f 11 = .pointer (some ⟨g, 1, none⟩) := h11 11 rfl
    replace h12 : f 12 = .int .i64 at_ := h12 12 rfl
    replace h13 : f 13 = .pointer (some ⟨g, 0, none⟩) := h13 13 rfl
    replace h14 : f 14 = .pointer (some ⟨g, 0, none⟩) := h14 14 rfl
    replace h15 : f 15 = .pointer (some ⟨g, 2, none⟩) := h15 15 rfl
    replace h16 : f 16 = .bool hi := h16 16 rfl
    replace h17 : f 17 = .int .i64 q := h17 17 rfl
    replace h18 : f 18 = .pointer (some ⟨gh, i, none⟩) := h18 18 rfl
    simp only [putAll, Act.put, List.setIfInBounds_toArray, List.set_cons_succ, List.set_cons_zero, h4, h5, h6, h7, h8, h9, h10, h11, h12, h13, h14, h15, h16, h17, h18]
    clear h4 h5 h6 h7 h8 h9 h10 h11 h12 h13 h14 h15 h16 h17 h18
    have R2 := Lib.hid ((hC.block g hlt).trans R.out)
    have H2 := Lib.hid ((hC.block gh hgl).trans HH.out)
    have cx : w2.cell? ⟨gh, i, none⟩ = some (.int .i64 x9) := by simp [World.cell?, H2.out, hone]
    have fx : w2.frozen? ⟨gh, i, none⟩ = false := by simp [World.frozen?, H2.out]
    have B2 := Lib.hid hC
    clear KC HP hC R HH
    go_upto_region 1 with fail
    generalize hw3 : World.setCell w2 _ _ = w3
    have R3 : Hid (w3.heap[g]? = some (.cells #[.string s, .int .i64 at_, .bool hi] 60 (0, 0))) := Lib.hid (by rw [← hw3, Below.heap_setCell _ _ _ _ (by simp; omega)]; exact R2.out)
    have H3 : Hid (w3.heap[gh]? = some (.cells (cs.setIfInBounds i (.int .i64 q)) T (0, 0))) := Lib.hid (by rw [← hw3]; exact heap_setRB H2.out)
    have B3 : Hid (∀ B, B ≤ g → B ≤ gh → Below B w w3) := Lib.hid (fun B hB hB2 => by rw [← hw3]; exact (B2.out.mono (by omega)).setCell hB2 _)
    clear hw3 cx fx R2 H2 B2
    have c1 : w3.cell? ⟨g, 1, none⟩ = some (.int .i64 at_) := by simp [World.cell?, R3.out]
    have f1 : w3.frozen? ⟨g, 1, none⟩ = false := by simp [World.frozen?, R3.out]
    go_wp2_with fail
    refine bodyPost_end (results_none rfl _ _ _) rfl ?_
    have hg9 := heap_setRB (i := 1) (v := .int .i64 (at_ + 2)) R3.out
    simp only [List.setIfInBounds_toArray, List.set_cons_succ, List.set_cons_zero] at hg9
    refine ⟨rfl, hg9, ?_, fun B hB hB2 => (B3.out B hB hB2).setCell hB _⟩
    rw [Below.heap_setCell _ _ _ _ (by simp; omega)]
    exact H3.out
set_option maxHeartbeats 1600000 in
set_option maxRecDepth 8000 in
theorem long_r (g gh i : Nat) (s : ByteArray) (at_ : Int) (hi : Bool) (cs : Array Value) (T : TypeId) (w : World) (hs : s.size ≤ 1048576) (ha : 0 ≤ at_ ∧ at_ ≤ 1048576) (h : RdO w g s at_ hi) (hh : w.heap[gh]? = some (.cells cs T (0, 0))) (hne : gh ≠ g) (hone : ∃ x, cs[i]? = some (.int .i64 x)) :
    Calls Try.prog 107 #[.pointer (some ⟨g, 0, none⟩), .pointer (some ⟨gh, i, none⟩)] w fun e w' => e = .returned (.tuple #[]) ∧ RdO w' g s (at_ + 4) hi ∧ w'.heap[gh]? = some (.cells (cs.setIfInBounds i (.int .i64 (get32v s at_ hi))) T (0, 0)) ∧ ∀ B, B ≤ g → B ≤ gh → Below B w w' := by
  have HP := Lib.hid (fun w => get32_impl s at_ hi w (by omega))
  generalize get32v s at_ hi = q at HP ⊢
  obtain ⟨x9, hone⟩ := hone
  have ew : IntKind.i64.wrap (at_ + 4) = at_ + 4 := by rw [IntKind.wrap_i64]; omega
  have hlt := (Array.getElem?_eq_some_iff.1 h).1
  have hgl := (Array.getElem?_eq_some_iff.1 hh).1
  have R := Lib.hid h
  have HH := Lib.hid hh
  have KC : Hid (∀ w', Below w.heap.size w w' → w'.cell? ⟨g, 0, none⟩ = some (.string s) ∧ w'.cell? ⟨g, 1, none⟩ = some (.int .i64 at_) ∧ w'.cell? ⟨g, 2, none⟩ = some (.bool hi)) := Lib.hid (fun w' hb => by
    have h9 := (hb.block g hlt).trans h
    exact ⟨by simp [World.cell?, h9], by simp [World.cell?, h9], by simp [World.cell?, h9]⟩)
  clear h hh
  go_enter Try.func107, Try.ntmps107
  go_upto_region 0 with fail
  refine wp_region_cut 15 (by kernel_rfl) (fun w' => Below w.heap.size w w') (fun x y => Below x.heap.size x y) (fun dq vq _ => match dq with | 4 => vq = .pointer (some ⟨gh, i, none⟩) | 5 => vq = .pointer (some ⟨g, 0, none⟩) | 6 => vq = .pointer (some ⟨g, 0, none⟩) | 7 => vq = .pointer (some ⟨g, 0, none⟩) | 8 => vq = .string s | 9 => vq = .pointer (some ⟨g, 0, none⟩) | 10 => vq = .pointer (some ⟨g, 0, none⟩) | 11 => vq = .pointer (some ⟨g, 1, none⟩) | 12 => vq = .int .i64 at_ | 13 => vq = .pointer (some ⟨g, 0, none⟩) | 14 => vq = .pointer (some ⟨g, 0, none⟩) | 15 => vq = .pointer (some ⟨g, 2, none⟩) | 16 => vq = .bool hi | 17 => vq = .int .i64 q | 18 => vq = .pointer (some ⟨gh, i, none⟩) | _ => True) (by kernel_rfl) (by kernel_rfl) ((Below.refl _ _).drew) (fun _ _ _ _ _ _ h => h) (by simp) ?hops ?hend
  case hops =>
    simp only [List.take_succ_cons, List.take_zero, List.forall_mem_cons]
    refine ⟨?o4, ?o5, ?o6, ?o7, ?o8, ?o9, ?o10, ?o11, ?o12, ?o13, ?o14, ?o15, ?o16, ?o17, ?o18, fun _ h => by cases h⟩
    case o4 =>
      intro Q a w2 hC hV hI
      have e1 : a.eval (.tmp 1) = .pointer (some ⟨gh, i, none⟩) := (hI 1 (by simp [Op.operands]) (by kernel_rfl)).trans rfl
      have f1 : a.tmps.getD 1 undef = .pointer (some ⟨gh, i, none⟩) := e1
      have g1 : a.tmps[1]?.getD undef = .pointer (some ⟨gh, i, none⟩) := by rw [← Array.getD_eq_getD_getElem?]; exact e1
      refine op_val (.pointer (some ⟨gh, i, none⟩)) ?_ hC (Below.refl _ _) (by intro d hd; cases hd; rfl)
      (clear hV hI hC; go_simp <;> (first | rfl | simp | (rw [IntKind.wrap_i64]; omega)))
    case o5 =>
      intro Q a w2 hC hV hI
      have e0 : a.eval (.tmp 0) = .pointer (some ⟨g, 0, none⟩) := (hI 0 (by simp [Op.operands]) (by kernel_rfl)).trans rfl
      have f0 : a.tmps.getD 0 undef = .pointer (some ⟨g, 0, none⟩) := e0
      have g0 : a.tmps[0]?.getD undef = .pointer (some ⟨g, 0, none⟩) := by rw [← Array.getD_eq_getD_getElem?]; exact e0
      refine op_val (.pointer (some ⟨g, 0, none⟩)) ?_ hC (Below.refl _ _) (by intro d hd; cases hd; rfl)
      (clear hV hI hC; go_simp <;> (first | rfl | simp | (rw [IntKind.wrap_i64]; omega)))
    case o6 =>
      intro Q a w2 hC hV hI
      have e5 : a.eval (.tmp 5) = .pointer (some ⟨g, 0, none⟩) := hV 5 (by simp [Op.operands]) (by kernel_rfl)
      have f5 : a.tmps.getD 5 undef = .pointer (some ⟨g, 0, none⟩) := e5
      have g5 : a.tmps[5]?.getD undef = .pointer (some ⟨g, 0, none⟩) := by rw [← Array.getD_eq_getD_getElem?]; exact e5
      refine op_val (.pointer (some ⟨g, 0, none⟩)) ?_ hC (Below.refl _ _) (by intro d hd; cases hd; rfl)
      (clear hV hI hC; go_simp <;> (first | rfl | simp | (rw [IntKind.wrap_i64]; omega)))
    case o7 =>
      intro Q a w2 hC hV hI
      have e6 : a.eval (.tmp 6) = .pointer (some ⟨g, 0, none⟩) := hV 6 (by simp [Op.operands]) (by kernel_rfl)
      have f6 : a.tmps.getD 6 undef = .pointer (some ⟨g, 0, none⟩) := e6
      have g6 : a.tmps[6]?.getD undef = .pointer (some ⟨g, 0, none⟩) := by rw [← Array.getD_eq_getD_getElem?]; exact e6
      refine op_val (.pointer (some ⟨g, 0, none⟩)) ?_ hC (Below.refl _ _) (by intro d hd; cases hd; rfl)
      (clear hV hI hC; go_simp <;> (first | rfl | simp | (rw [IntKind.wrap_i64]; omega)))
    case o8 =>
      intro Q a w2 hC hV hI
      have e7 : a.eval (.tmp 7) = .pointer (some ⟨g, 0, none⟩) := hV 7 (by simp [Op.operands]) (by kernel_rfl)
      have f7 : a.tmps.getD 7 undef = .pointer (some ⟨g, 0, none⟩) := e7
      have g7 : a.tmps[7]?.getD undef = .pointer (some ⟨g, 0, none⟩) := by rw [← Array.getD_eq_getD_getElem?]; exact e7
      have hK := KC.out w2 hC
      refine op_val (.string s) ?_ hC (Below.refl _ _) (by intro d hd; cases hd; rfl)
      (clear hV hI hC; go_simp <;> (first | rfl | simp | (rw [IntKind.wrap_i64]; omega)))
    case o9 =>
      intro Q a w2 hC hV hI
      have e0 : a.eval (.tmp 0) = .pointer (some ⟨g, 0, none⟩) := (hI 0 (by simp [Op.operands]) (by kernel_rfl)).trans rfl
      have f0 : a.tmps.getD 0 undef = .pointer (some ⟨g, 0, none⟩) := e0
      have g0 : a.tmps[0]?.getD undef = .pointer (some ⟨g, 0, none⟩) := by rw [← Array.getD_eq_getD_getElem?]; exact e0
      refine op_val (.pointer (some ⟨g, 0, none⟩)) ?_ hC (Below.refl _ _) (by intro d hd; cases hd; rfl)
      (clear hV hI hC; go_simp <;> (first | rfl | simp | (rw [IntKind.wrap_i64]; omega)))
    case o10 =>
      intro Q a w2 hC hV hI
      have e9 : a.eval (.tmp 9) = .pointer (some ⟨g, 0, none⟩) := hV 9 (by simp [Op.operands]) (by kernel_rfl)
      have f9 : a.tmps.getD 9 undef = .pointer (some ⟨g, 0, none⟩) := e9
      have g9 : a.tmps[9]?.getD undef = .pointer (some ⟨g, 0, none⟩) := by rw [← Array.getD_eq_getD_getElem?]; exact e9
      refine op_val (.pointer (some ⟨g, 0, none⟩)) ?_ hC (Below.refl _ _) (by intro d hd; cases hd; rfl)
      (clear hV hI hC; go_simp <;> (first | rfl | simp | (rw [IntKind.wrap_i64]; omega)))
    case o11 =>
      intro Q a w2 hC hV hI
      have e10 : a.eval (.tmp 10) = .pointer (some ⟨g, 0, none⟩) := hV 10 (by simp [Op.operands]) (by kernel_rfl)
      have f10 : a.tmps.getD 10 undef = .pointer (some ⟨g, 0, none⟩) := e10
      have g10 : a.tmps[10]?.getD undef = .pointer (some ⟨g, 0, none⟩) := by rw [← Array.getD_eq_getD_getElem?]; exact e10
      refine op_val (.pointer (some ⟨g, 1, none⟩)) ?_ hC (Below.refl _ _) (by intro d hd; cases hd; rfl)
      (clear hV hI hC; go_simp <;> (first | rfl | simp | (rw [IntKind.wrap_i64]; omega)))
    case o12 =>
      intro Q a w2 hC hV hI
      have e11 : a.eval (.tmp 11) = .pointer (some ⟨g, 1, none⟩) := hV 11 (by simp [Op.operands]) (by kernel_rfl)
      have f11 : a.tmps.getD 11 undef = .pointer (some ⟨g, 1, none⟩) := e11
      have g11 : a.tmps[11]?.getD undef = .pointer (some ⟨g, 1, none⟩) := by rw [← Array.getD_eq_getD_getElem?]; exact e11
      have hK := KC.out w2 hC
      refine op_val (.int .i64 at_) ?_ hC (Below.refl _ _) (by intro d hd; cases hd; rfl)
      (clear hV hI hC; go_simp <;> (first | rfl | simp | (rw [IntKind.wrap_i64]; omega)))
    case o13 =>
      intro Q a w2 hC hV hI
      have e0 : a.eval (.tmp 0) = .pointer (some ⟨g, 0, none⟩) := (hI 0 (by simp [Op.operands]) (by kernel_rfl)).trans rfl
      have f0 : a.tmps.getD 0 undef = .pointer (some ⟨g, 0, none⟩) := e0
      have g0 : a.tmps[0]?.getD undef = .pointer (some ⟨g, 0, none⟩) := by rw [← Array.getD_eq_getD_getElem?]; exact e0
      refine op_val (.pointer (some ⟨g, 0, none⟩)) ?_ hC (Below.refl _ _) (by intro d hd; cases hd; rfl)
      (clear hV hI hC; go_simp <;> (first | rfl | simp | (rw [IntKind.wrap_i64]; omega)))
    case o14 =>
      intro Q a w2 hC hV hI
      have e13 : a.eval (.tmp 13) = .pointer (some ⟨g, 0, none⟩) := hV 13 (by simp [Op.operands]) (by kernel_rfl)
      have f13 : a.tmps.getD 13 undef = .pointer (some ⟨g, 0, none⟩) := e13
      have g13 : a.tmps[13]?.getD undef = .pointer (some ⟨g, 0, none⟩) := by rw [← Array.getD_eq_getD_getElem?]; exact e13
      refine op_val (.pointer (some ⟨g, 0, none⟩)) ?_ hC (Below.refl _ _) (by intro d hd; cases hd; rfl)
      (clear hV hI hC; go_simp <;> (first | rfl | simp | (rw [IntKind.wrap_i64]; omega)))
    case o15 =>
      intro Q a w2 hC hV hI
      have e14 : a.eval (.tmp 14) = .pointer (some ⟨g, 0, none⟩) := hV 14 (by simp [Op.operands]) (by kernel_rfl)
      have f14 : a.tmps.getD 14 undef = .pointer (some ⟨g, 0, none⟩) := e14
      have g14 : a.tmps[14]?.getD undef = .pointer (some ⟨g, 0, none⟩) := by rw [← Array.getD_eq_getD_getElem?]; exact e14
      refine op_val (.pointer (some ⟨g, 2, none⟩)) ?_ hC (Below.refl _ _) (by intro d hd; cases hd; rfl)
      (clear hV hI hC; go_simp <;> (first | rfl | simp | (rw [IntKind.wrap_i64]; omega)))
    case o16 =>
      intro Q a w2 hC hV hI
      have e15 : a.eval (.tmp 15) = .pointer (some ⟨g, 2, none⟩) := hV 15 (by simp [Op.operands]) (by kernel_rfl)
      have f15 : a.tmps.getD 15 undef = .pointer (some ⟨g, 2, none⟩) := e15
      have g15 : a.tmps[15]?.getD undef = .pointer (some ⟨g, 2, none⟩) := by rw [← Array.getD_eq_getD_getElem?]; exact e15
      have hK := KC.out w2 hC
      refine op_val (.bool hi) ?_ hC (Below.refl _ _) (by intro d hd; cases hd; rfl)
      (clear hV hI hC; go_simp <;> (first | rfl | simp | (rw [IntKind.wrap_i64]; omega)))
    case o17 =>
      intro Q a w2 hC hV hI
      have e8 : a.eval (.tmp 8) = .string s := hV 8 (by simp [Op.operands, Call.operands]) (by kernel_rfl)
      have f8 : a.tmps.getD 8 undef = .string s := e8
      have g8 : a.tmps[8]?.getD undef = .string s := by rw [← Array.getD_eq_getD_getElem?]; exact e8
      have e12 : a.eval (.tmp 12) = .int .i64 at_ := hV 12 (by simp [Op.operands, Call.operands]) (by kernel_rfl)
      have f12 : a.tmps.getD 12 undef = .int .i64 at_ := e12
      have g12 : a.tmps[12]?.getD undef = .int .i64 at_ := by rw [← Array.getD_eq_getD_getElem?]; exact e12
      have e16 : a.eval (.tmp 16) = .bool hi := hV 16 (by simp [Op.operands, Call.operands]) (by kernel_rfl)
      have f16 : a.tmps.getD 16 undef = .bool hi := e16
      have g16 : a.tmps[16]?.getD undef = .bool hi := by rw [← Array.getD_eq_getD_getElem?]; exact e16
      refine op_call (f := 110) (args := #[.string s, .int .i64 at_, .bool hi]) (R := fun v y => v = .int .i64 q ∧ Below w2.heap.size w2 y) ?_ ((HP.out w2).mono ?_) ?_
      · (clear hV hI hC; go_simp <;> (first | rfl | simp | (rw [IntKind.wrap_i64]; omega)))
      · rintro e y ⟨rfl, n9, rfl⟩; exact ⟨_, rfl, rfl, bel_drewB (Below.refl _ _)⟩
      · rintro v y ⟨rfl, hb⟩; exact ⟨hC.trans (hb.mono hC.size), hb, by intro d hd; cases hd; rfl⟩
    case o18 =>
      intro Q a w2 hC hV hI
      have e4 : a.eval (.tmp 4) = .pointer (some ⟨gh, i, none⟩) := hV 4 (by simp [Op.operands]) (by kernel_rfl)
      have f4 : a.tmps.getD 4 undef = .pointer (some ⟨gh, i, none⟩) := e4
      have g4 : a.tmps[4]?.getD undef = .pointer (some ⟨gh, i, none⟩) := by rw [← Array.getD_eq_getD_getElem?]; exact e4
      refine op_val (.pointer (some ⟨gh, i, none⟩)) ?_ hC (Below.refl _ _) (by intro d hd; cases hd; rfl)
      (clear hV hI hC; go_simp <;> (first | rfl | simp | (rw [IntKind.wrap_i64]; omega)))
  case hend =>
    intro f w2 hC hall
    simp only [List.take_succ_cons, List.take_zero, List.drop_succ_cons, List.drop_zero] at hall ⊢
    simp only [List.forall_mem_cons] at hall
    obtain ⟨h4, h5, h6, h7, h8, h9, h10, h11, h12, h13, h14, h15, h16, h17, h18, _⟩ := hall
    replace h4 : f 4 = .pointer (some ⟨gh, i, none⟩) := h4 4 rfl
    replace h5 : f 5 = .pointer (some ⟨g, 0, none⟩) := h5 5 rfl
    replace h6 : f 6 = .pointer (some ⟨g, 0, none⟩) := h6 6 rfl
    replace h7 : f 7 = .pointer (some ⟨g, 0, none⟩) := h7 7 rfl
    replace h8 : f 8 = .string s := h8 8 rfl
    replace h9 : f 9 = .pointer (some ⟨g, 0, none⟩) := h9 9 rfl
    replace h10 : f 10 = .pointer (some ⟨g, 0, none⟩) := h10 10 rfl
    replace h11 : f 11 = .pointer (some ⟨g, 1, none⟩) := h11 11 rfl
    replace h12 : f 12 = .int .i64 at_ := h12 12 rfl
    replace h13 : f 13 = .pointer (some ⟨g, 0, none⟩) := h13 13 rfl
    replace h14 : f 14 = .pointer (some ⟨g, 0, none⟩) := h14 14 rfl
    replace h15 : f 15 = .pointer (some ⟨g, 2, none⟩) := h15 15 rfl
    replace h16 : f 16 = .bool hi := h16 16 rfl
    replace h17 : f 17 = .int .i64 q := h17 17 rfl
    replace h18 : f 18 = .pointer (some ⟨gh, i, none⟩) := h18 18 rfl
    simp only [putAll, Act.put, List.setIfInBounds_toArray, List.set_cons_succ, List.set_cons_zero, h4, h5, h6, h7, h8, h9, h10, h11, h12, h13, h14, h15, h16, h17, h18]
    clear h4 h5 h6 h7 h8 h9 h10 h11 h12 h13 h14 h15 h16 h17 h18
    have R2 := Lib.hid ((hC.block g hlt).trans R.out)
    have H2 := Lib.hid ((hC.block gh hgl).trans HH.out)
    have cx : w2.cell? ⟨gh, i, none⟩ = some (.int .i64 x9) := by simp [World.cell?, H2.out, hone]
    have fx : w2.frozen? ⟨gh, i, none⟩ = false := by simp [World.frozen?, H2.out]
    have B2 := Lib.hid hC
    clear KC HP hC R HH
    go_upto_region 1 with fail
    generalize hw3 : World.setCell w2 _ _ = w3
    have R3 : Hid (w3.heap[g]? = some (.cells #[.string s, .int .i64 at_, .bool hi] 60 (0, 0))) := Lib.hid (by rw [← hw3, Below.heap_setCell _ _ _ _ (by simp; omega)]; exact R2.out)
    have H3 : Hid (w3.heap[gh]? = some (.cells (cs.setIfInBounds i (.int .i64 q)) T (0, 0))) := Lib.hid (by rw [← hw3]; exact heap_setRB H2.out)
    have B3 : Hid (∀ B, B ≤ g → B ≤ gh → Below B w w3) := Lib.hid (fun B hB hB2 => by rw [← hw3]; exact (B2.out.mono (by omega)).setCell hB2 _)
    clear hw3 cx fx R2 H2 B2
    have c1 : w3.cell? ⟨g, 1, none⟩ = some (.int .i64 at_) := by simp [World.cell?, R3.out]
    have f1 : w3.frozen? ⟨g, 1, none⟩ = false := by simp [World.frozen?, R3.out]
    go_wp2_with fail
    refine bodyPost_end (results_none rfl _ _ _) rfl ?_
    have hg9 := heap_setRB (i := 1) (v := .int .i64 (at_ + 4)) R3.out
    simp only [List.setIfInBounds_toArray, List.set_cons_succ, List.set_cons_zero] at hg9
    refine ⟨rfl, hg9, ?_, fun B hB hB2 => (B3.out B hB hB2).setCell hB _⟩
    rw [Below.heap_setCell _ _ _ _ (by simp; omega)]
    exact H3.out
set_option maxRecDepth 8000 in
theorem made_r (g : Nat) (s : ByteArray) (at_ : Int) (hi : Bool) (w : World) (h : RdO w g s at_ hi) :
    Calls Try.prog 108 #[.pointer (some ⟨g, 0, none⟩)] w fun e w' => e = .returned (.int .i64 at_) ∧ w' = w := by
  have c1 : w.cell? ⟨g, 1, none⟩ = some (.int .i64 at_) := by simp [World.cell?, show w.heap[g]? = _ from h]
  clear h
  go_enter Try.func108, Try.ntmps108
  go_wp2_with fail
  go_ret
  exact ⟨rfl, rfl⟩
end Go.Proofs.Ytancidbbkoeokaa
