/- Contract of impl.(*newcHead).fields: the addresses of a head's numbers, in their order. -/
import Derived.Test.YtcnmbolmgifgfaaCardO
import Derived.Test.YtcnmbolmgifgfaaRegTail
import Derived.Test.YtcnmbolmgifgfaaRegInv
import Derived.BigRegion
import Derived.Deep.DeepCutAuto
import Derived.OwnWalk
import Derived.Laws.ResultCell
import Derived.Laws.Rows
import Derived.Laws.Tables
namespace Go.Proofs.Ytcnmbolmgifgfaa
open Go.ChangeShapes Go.WideShapes Go.ChangeAt Go.RowKit Go.Deep

def offn (k : Nat) : Nat := [0, 1, 2, 3, 4, 5, 8, 9, 10, 11, 12, 13, 14].getD k 0
def ptrsN (gh : Nat) : Array Value := #[.pointer (some ⟨gh, 0, none⟩), .pointer (some ⟨gh, 1, none⟩), .pointer (some ⟨gh, 2, none⟩), .pointer (some ⟨gh, 3, none⟩), .pointer (some ⟨gh, 4, none⟩), .pointer (some ⟨gh, 5, none⟩), .pointer (some ⟨gh, 8, none⟩), .pointer (some ⟨gh, 9, none⟩), .pointer (some ⟨gh, 10, none⟩), .pointer (some ⟨gh, 11, none⟩), .pointer (some ⟨gh, 12, none⟩), .pointer (some ⟨gh, 13, none⟩), .pointer (some ⟨gh, 14, none⟩)]
theorem ptrsN_at (gh : Nat) : ∀ k, k < 13 → (ptrsN gh)[k]? = some (.pointer (some ⟨gh, offn k, none⟩)) := by
  intro k hk
  match k, hk with
  | 0, _ => rfl
  | 1, _ => rfl
  | 2, _ => rfl
  | 3, _ => rfl
  | 4, _ => rfl
  | 5, _ => rfl
  | 6, _ => rfl
  | 7, _ => rfl
  | 8, _ => rfl
  | 9, _ => rfl
  | 10, _ => rfl
  | 11, _ => rfl
  | 12, _ => rfl
  | k + 13, hk => omega
theorem Try.sizePN : (Try.prog.info? 73).map (·.size) = some 13 := by kernel_rfl
theorem heap_setN {w : World} {g i : Nat} {cs : Array Value} {t : TypeId} {v : Value} (h : w.heap[g]? = some (.cells cs t (0, 0))) : (w.setCell ⟨g, i, none⟩ v).heap[g]? = some (.cells (cs.setIfInBounds i v) t (0, 0)) := by
  have hlt : g < w.heap.size := (Array.getElem?_eq_some_iff.1 h).1
  have hg : w.heap[g] = .cells cs t (0, 0) := (Array.getElem?_eq_some_iff.1 h).2
  simp [World.setCell, hlt, Array.getElem_modify, hg]
set_option maxHeartbeats 6400000 in
set_option maxRecDepth 8000 in
theorem fieldsN_any (gh : Nat) (w : World) : Calls Try.prog 54 #[.pointer (some ⟨gh, 0, none⟩)] w fun e w' => e = .returned (.agg (ptrsN gh)) ∧ Below w.heap.size w w' := by
  go_enter Try.func54, Try.ntmps54
  go_upto_region 1 with fail
  generalize hw1 : World.alloc w _ = w1
  have XB : Hid (w1.heap[w.heap.size]? = some (.cells #[.pointer none, .pointer none, .pointer none, .pointer none, .pointer none, .pointer none, .pointer none, .pointer none, .pointer none, .pointer none, .pointer none, .pointer none, .pointer none] 73 (0, 0))) := Lib.hid (by rw [← hw1]; show (w.heap.push _)[w.heap.size]? = _; simp)
  have B : Hid (Below w.heap.size w w1) := Lib.hid (by rw [← hw1]; exact (Below.refl _ _).alloc (Nat.le_refl _) _)
  have hlt : w.heap.size < w1.heap.size := (Array.getElem?_eq_some_iff.1 XB.out).1
  clear hw1
  refine wp_region_cut 50 (by kernel_rfl) (fun w' => Below w1.heap.size w1 w') (fun x y => Below x.heap.size x y) (fun dq vq _ => match dq with | 3 => vq = .pointer (some ⟨gh, 0, none⟩) | 4 => vq = .pointer (some ⟨gh, 0, none⟩) | 5 => vq = .pointer (some ⟨gh, 0, none⟩) | 6 => vq = .pointer (some ⟨gh, 0, none⟩) | 7 => vq = .pointer (some ⟨gh, 0, none⟩) | 8 => vq = .pointer (some ⟨gh, 0, none⟩) | 9 => vq = .pointer (some ⟨gh, 0, none⟩) | 10 => vq = .pointer (some ⟨gh, 1, none⟩) | 11 => vq = .pointer (some ⟨gh, 0, none⟩) | 12 => vq = .pointer (some ⟨gh, 0, none⟩) | 13 => vq = .pointer (some ⟨gh, 0, none⟩) | 14 => vq = .pointer (some ⟨gh, 2, none⟩) | 15 => vq = .pointer (some ⟨gh, 0, none⟩) | 16 => vq = .pointer (some ⟨gh, 0, none⟩) | 17 => vq = .pointer (some ⟨gh, 0, none⟩) | 18 => vq = .pointer (some ⟨gh, 3, none⟩) | 19 => vq = .pointer (some ⟨gh, 0, none⟩) | 20 => vq = .pointer (some ⟨gh, 0, none⟩) | 21 => vq = .pointer (some ⟨gh, 0, none⟩) | 22 => vq = .pointer (some ⟨gh, 4, none⟩) | 23 => vq = .pointer (some ⟨gh, 0, none⟩) | 24 => vq = .pointer (some ⟨gh, 0, none⟩) | 25 => vq = .pointer (some ⟨gh, 0, none⟩) | 26 => vq = .pointer (some ⟨gh, 5, none⟩) | 27 => vq = .pointer (some ⟨gh, 0, none⟩) | 28 => vq = .pointer (some ⟨gh, 0, none⟩) | 29 => vq = .pointer (some ⟨gh, 8, none⟩) | 30 => vq = .pointer (some ⟨gh, 0, none⟩) | 31 => vq = .pointer (some ⟨gh, 0, none⟩) | 32 => vq = .pointer (some ⟨gh, 9, none⟩) | 33 => vq = .pointer (some ⟨gh, 9, none⟩) | 34 => vq = .pointer (some ⟨gh, 0, none⟩) | 35 => vq = .pointer (some ⟨gh, 0, none⟩) | 36 => vq = .pointer (some ⟨gh, 9, none⟩) | 37 => vq = .pointer (some ⟨gh, 10, none⟩) | 38 => vq = .pointer (some ⟨gh, 0, none⟩) | 39 => vq = .pointer (some ⟨gh, 0, none⟩) | 40 => vq = .pointer (some ⟨gh, 9, none⟩) | 41 => vq = .pointer (some ⟨gh, 11, none⟩) | 42 => vq = .pointer (some ⟨gh, 0, none⟩) | 43 => vq = .pointer (some ⟨gh, 0, none⟩) | 44 => vq = .pointer (some ⟨gh, 9, none⟩) | 45 => vq = .pointer (some ⟨gh, 12, none⟩) | 46 => vq = .pointer (some ⟨gh, 0, none⟩) | 47 => vq = .pointer (some ⟨gh, 0, none⟩) | 48 => vq = .pointer (some ⟨gh, 13, none⟩) | 49 => vq = .pointer (some ⟨gh, 0, none⟩) | 50 => vq = .pointer (some ⟨gh, 0, none⟩) | 51 => vq = .pointer (some ⟨gh, 14, none⟩) | 52 => vq = .agg #[.pointer (some ⟨gh, 0, none⟩), .pointer (some ⟨gh, 1, none⟩), .pointer (some ⟨gh, 2, none⟩), .pointer (some ⟨gh, 3, none⟩), .pointer (some ⟨gh, 4, none⟩), .pointer (some ⟨gh, 5, none⟩), .pointer (some ⟨gh, 8, none⟩), .pointer (some ⟨gh, 9, none⟩), .pointer (some ⟨gh, 10, none⟩), .pointer (some ⟨gh, 11, none⟩), .pointer (some ⟨gh, 12, none⟩), .pointer (some ⟨gh, 13, none⟩), .pointer (some ⟨gh, 14, none⟩)] | _ => True) (by kernel_rfl) (by kernel_rfl) ((Below.refl _ _).drew) (fun _ _ _ _ _ _ h => h) (by simp) ?hops ?hend
  case hops =>
    simp only [List.take_succ_cons, List.take_zero, List.forall_mem_cons]
    refine ⟨?o3, ?o4, ?o5, ?o6, ?o7, ?o8, ?o9, ?o10, ?o11, ?o12, ?o13, ?o14, ?o15, ?o16, ?o17, ?o18, ?o19, ?o20, ?o21, ?o22, ?o23, ?o24, ?o25, ?o26, ?o27, ?o28, ?o29, ?o30, ?o31, ?o32, ?o33, ?o34, ?o35, ?o36, ?o37, ?o38, ?o39, ?o40, ?o41, ?o42, ?o43, ?o44, ?o45, ?o46, ?o47, ?o48, ?o49, ?o50, ?o51, ?o52, fun _ h => by cases h⟩
    case o3 =>
      intro Q a w2 hC hV hI
      have e0 : a.eval (.tmp 0) = .pointer (some ⟨gh, 0, none⟩) := (hI 0 (by simp [Op.operands]) (by kernel_rfl)).trans rfl
      have f0 : a.tmps.getD 0 undef = .pointer (some ⟨gh, 0, none⟩) := e0
      have g0 : a.tmps[0]?.getD undef = .pointer (some ⟨gh, 0, none⟩) := by rw [← Array.getD_eq_getD_getElem?]; exact e0
      refine op_val (.pointer (some ⟨gh, 0, none⟩)) ?_ hC (Below.refl _ _) (by intro d hd; cases hd; rfl)
      (clear hV hI hC; go_simp <;> (first | rfl | simp | (rw [IntKind.wrap_i64]; omega)))
    case o4 =>
      intro Q a w2 hC hV hI
      have e3 : a.eval (.tmp 3) = .pointer (some ⟨gh, 0, none⟩) := hV 3 (by simp [Op.operands]) (by kernel_rfl)
      have f3 : a.tmps.getD 3 undef = .pointer (some ⟨gh, 0, none⟩) := e3
      have g3 : a.tmps[3]?.getD undef = .pointer (some ⟨gh, 0, none⟩) := by rw [← Array.getD_eq_getD_getElem?]; exact e3
      refine op_val (.pointer (some ⟨gh, 0, none⟩)) ?_ hC (Below.refl _ _) (by intro d hd; cases hd; rfl)
      (clear hV hI hC; go_simp <;> (first | rfl | simp | (rw [IntKind.wrap_i64]; omega)))
    case o5 =>
      intro Q a w2 hC hV hI
      have e4 : a.eval (.tmp 4) = .pointer (some ⟨gh, 0, none⟩) := hV 4 (by simp [Op.operands]) (by kernel_rfl)
      have f4 : a.tmps.getD 4 undef = .pointer (some ⟨gh, 0, none⟩) := e4
      have g4 : a.tmps[4]?.getD undef = .pointer (some ⟨gh, 0, none⟩) := by rw [← Array.getD_eq_getD_getElem?]; exact e4
      refine op_val (.pointer (some ⟨gh, 0, none⟩)) ?_ hC (Below.refl _ _) (by intro d hd; cases hd; rfl)
      (clear hV hI hC; go_simp <;> (first | rfl | simp | (rw [IntKind.wrap_i64]; omega)))
    case o6 =>
      intro Q a w2 hC hV hI
      have e5 : a.eval (.tmp 5) = .pointer (some ⟨gh, 0, none⟩) := hV 5 (by simp [Op.operands]) (by kernel_rfl)
      have f5 : a.tmps.getD 5 undef = .pointer (some ⟨gh, 0, none⟩) := e5
      have g5 : a.tmps[5]?.getD undef = .pointer (some ⟨gh, 0, none⟩) := by rw [← Array.getD_eq_getD_getElem?]; exact e5
      refine op_val (.pointer (some ⟨gh, 0, none⟩)) ?_ hC (Below.refl _ _) (by intro d hd; cases hd; rfl)
      (clear hV hI hC; go_simp <;> (first | rfl | simp | (rw [IntKind.wrap_i64]; omega)))
    case o7 =>
      intro Q a w2 hC hV hI
      have e0 : a.eval (.tmp 0) = .pointer (some ⟨gh, 0, none⟩) := (hI 0 (by simp [Op.operands]) (by kernel_rfl)).trans rfl
      have f0 : a.tmps.getD 0 undef = .pointer (some ⟨gh, 0, none⟩) := e0
      have g0 : a.tmps[0]?.getD undef = .pointer (some ⟨gh, 0, none⟩) := by rw [← Array.getD_eq_getD_getElem?]; exact e0
      refine op_val (.pointer (some ⟨gh, 0, none⟩)) ?_ hC (Below.refl _ _) (by intro d hd; cases hd; rfl)
      (clear hV hI hC; go_simp <;> (first | rfl | simp | (rw [IntKind.wrap_i64]; omega)))
    case o8 =>
      intro Q a w2 hC hV hI
      have e7 : a.eval (.tmp 7) = .pointer (some ⟨gh, 0, none⟩) := hV 7 (by simp [Op.operands]) (by kernel_rfl)
      have f7 : a.tmps.getD 7 undef = .pointer (some ⟨gh, 0, none⟩) := e7
      have g7 : a.tmps[7]?.getD undef = .pointer (some ⟨gh, 0, none⟩) := by rw [← Array.getD_eq_getD_getElem?]; exact e7
      refine op_val (.pointer (some ⟨gh, 0, none⟩)) ?_ hC (Below.refl _ _) (by intro d hd; cases hd; rfl)
      (clear hV hI hC; go_simp <;> (first | rfl | simp | (rw [IntKind.wrap_i64]; omega)))
    case o9 =>
      intro Q a w2 hC hV hI
      have e8 : a.eval (.tmp 8) = .pointer (some ⟨gh, 0, none⟩) := hV 8 (by simp [Op.operands]) (by kernel_rfl)
      have f8 : a.tmps.getD 8 undef = .pointer (some ⟨gh, 0, none⟩) := e8
      have g8 : a.tmps[8]?.getD undef = .pointer (some ⟨gh, 0, none⟩) := by rw [← Array.getD_eq_getD_getElem?]; exact e8
      refine op_val (.pointer (some ⟨gh, 0, none⟩)) ?_ hC (Below.refl _ _) (by intro d hd; cases hd; rfl)
      (clear hV hI hC; go_simp <;> (first | rfl | simp | (rw [IntKind.wrap_i64]; omega)))
    case o10 =>
      intro Q a w2 hC hV hI
      have e9 : a.eval (.tmp 9) = .pointer (some ⟨gh, 0, none⟩) := hV 9 (by simp [Op.operands]) (by kernel_rfl)
      have f9 : a.tmps.getD 9 undef = .pointer (some ⟨gh, 0, none⟩) := e9
      have g9 : a.tmps[9]?.getD undef = .pointer (some ⟨gh, 0, none⟩) := by rw [← Array.getD_eq_getD_getElem?]; exact e9
      refine op_val (.pointer (some ⟨gh, 1, none⟩)) ?_ hC (Below.refl _ _) (by intro d hd; cases hd; rfl)
      (clear hV hI hC; go_simp <;> (first | rfl | simp | (rw [IntKind.wrap_i64]; omega)))
    case o11 =>
      intro Q a w2 hC hV hI
      have e0 : a.eval (.tmp 0) = .pointer (some ⟨gh, 0, none⟩) := (hI 0 (by simp [Op.operands]) (by kernel_rfl)).trans rfl
      have f0 : a.tmps.getD 0 undef = .pointer (some ⟨gh, 0, none⟩) := e0
      have g0 : a.tmps[0]?.getD undef = .pointer (some ⟨gh, 0, none⟩) := by rw [← Array.getD_eq_getD_getElem?]; exact e0
      refine op_val (.pointer (some ⟨gh, 0, none⟩)) ?_ hC (Below.refl _ _) (by intro d hd; cases hd; rfl)
      (clear hV hI hC; go_simp <;> (first | rfl | simp | (rw [IntKind.wrap_i64]; omega)))
    case o12 =>
      intro Q a w2 hC hV hI
      have e11 : a.eval (.tmp 11) = .pointer (some ⟨gh, 0, none⟩) := hV 11 (by simp [Op.operands]) (by kernel_rfl)
      have f11 : a.tmps.getD 11 undef = .pointer (some ⟨gh, 0, none⟩) := e11
      have g11 : a.tmps[11]?.getD undef = .pointer (some ⟨gh, 0, none⟩) := by rw [← Array.getD_eq_getD_getElem?]; exact e11
      refine op_val (.pointer (some ⟨gh, 0, none⟩)) ?_ hC (Below.refl _ _) (by intro d hd; cases hd; rfl)
      (clear hV hI hC; go_simp <;> (first | rfl | simp | (rw [IntKind.wrap_i64]; omega)))
    case o13 =>
      intro Q a w2 hC hV hI
      have e12 : a.eval (.tmp 12) = .pointer (some ⟨gh, 0, none⟩) := hV 12 (by simp [Op.operands]) (by kernel_rfl)
      have f12 : a.tmps.getD 12 undef = .pointer (some ⟨gh, 0, none⟩) := e12
      have g12 : a.tmps[12]?.getD undef = .pointer (some ⟨gh, 0, none⟩) := by rw [← Array.getD_eq_getD_getElem?]; exact e12
      refine op_val (.pointer (some ⟨gh, 0, none⟩)) ?_ hC (Below.refl _ _) (by intro d hd; cases hd; rfl)
      (clear hV hI hC; go_simp <;> (first | rfl | simp | (rw [IntKind.wrap_i64]; omega)))
    case o14 =>
      intro Q a w2 hC hV hI
      have e13 : a.eval (.tmp 13) = .pointer (some ⟨gh, 0, none⟩) := hV 13 (by simp [Op.operands]) (by kernel_rfl)
      have f13 : a.tmps.getD 13 undef = .pointer (some ⟨gh, 0, none⟩) := e13
      have g13 : a.tmps[13]?.getD undef = .pointer (some ⟨gh, 0, none⟩) := by rw [← Array.getD_eq_getD_getElem?]; exact e13
      refine op_val (.pointer (some ⟨gh, 2, none⟩)) ?_ hC (Below.refl _ _) (by intro d hd; cases hd; rfl)
      (clear hV hI hC; go_simp <;> (first | rfl | simp | (rw [IntKind.wrap_i64]; omega)))
    case o15 =>
      intro Q a w2 hC hV hI
      have e0 : a.eval (.tmp 0) = .pointer (some ⟨gh, 0, none⟩) := (hI 0 (by simp [Op.operands]) (by kernel_rfl)).trans rfl
      have f0 : a.tmps.getD 0 undef = .pointer (some ⟨gh, 0, none⟩) := e0
      have g0 : a.tmps[0]?.getD undef = .pointer (some ⟨gh, 0, none⟩) := by rw [← Array.getD_eq_getD_getElem?]; exact e0
      refine op_val (.pointer (some ⟨gh, 0, none⟩)) ?_ hC (Below.refl _ _) (by intro d hd; cases hd; rfl)
      (clear hV hI hC; go_simp <;> (first | rfl | simp | (rw [IntKind.wrap_i64]; omega)))
    case o16 =>
      intro Q a w2 hC hV hI
      have e15 : a.eval (.tmp 15) = .pointer (some ⟨gh, 0, none⟩) := hV 15 (by simp [Op.operands]) (by kernel_rfl)
      have f15 : a.tmps.getD 15 undef = .pointer (some ⟨gh, 0, none⟩) := e15
      have g15 : a.tmps[15]?.getD undef = .pointer (some ⟨gh, 0, none⟩) := by rw [← Array.getD_eq_getD_getElem?]; exact e15
      refine op_val (.pointer (some ⟨gh, 0, none⟩)) ?_ hC (Below.refl _ _) (by intro d hd; cases hd; rfl)
      (clear hV hI hC; go_simp <;> (first | rfl | simp | (rw [IntKind.wrap_i64]; omega)))
    case o17 =>
      intro Q a w2 hC hV hI
      have e16 : a.eval (.tmp 16) = .pointer (some ⟨gh, 0, none⟩) := hV 16 (by simp [Op.operands]) (by kernel_rfl)
      have f16 : a.tmps.getD 16 undef = .pointer (some ⟨gh, 0, none⟩) := e16
      have g16 : a.tmps[16]?.getD undef = .pointer (some ⟨gh, 0, none⟩) := by rw [← Array.getD_eq_getD_getElem?]; exact e16
      refine op_val (.pointer (some ⟨gh, 0, none⟩)) ?_ hC (Below.refl _ _) (by intro d hd; cases hd; rfl)
      (clear hV hI hC; go_simp <;> (first | rfl | simp | (rw [IntKind.wrap_i64]; omega)))
    case o18 =>
      intro Q a w2 hC hV hI
      have e17 : a.eval (.tmp 17) = .pointer (some ⟨gh, 0, none⟩) := hV 17 (by simp [Op.operands]) (by kernel_rfl)
      have f17 : a.tmps.getD 17 undef = .pointer (some ⟨gh, 0, none⟩) := e17
      have g17 : a.tmps[17]?.getD undef = .pointer (some ⟨gh, 0, none⟩) := by rw [← Array.getD_eq_getD_getElem?]; exact e17
      refine op_val (.pointer (some ⟨gh, 3, none⟩)) ?_ hC (Below.refl _ _) (by intro d hd; cases hd; rfl)
      (clear hV hI hC; go_simp <;> (first | rfl | simp | (rw [IntKind.wrap_i64]; omega)))
    case o19 =>
      intro Q a w2 hC hV hI
      have e0 : a.eval (.tmp 0) = .pointer (some ⟨gh, 0, none⟩) := (hI 0 (by simp [Op.operands]) (by kernel_rfl)).trans rfl
      have f0 : a.tmps.getD 0 undef = .pointer (some ⟨gh, 0, none⟩) := e0
      have g0 : a.tmps[0]?.getD undef = .pointer (some ⟨gh, 0, none⟩) := by rw [← Array.getD_eq_getD_getElem?]; exact e0
      refine op_val (.pointer (some ⟨gh, 0, none⟩)) ?_ hC (Below.refl _ _) (by intro d hd; cases hd; rfl)
      (clear hV hI hC; go_simp <;> (first | rfl | simp | (rw [IntKind.wrap_i64]; omega)))
    case o20 =>
      intro Q a w2 hC hV hI
      have e19 : a.eval (.tmp 19) = .pointer (some ⟨gh, 0, none⟩) := hV 19 (by simp [Op.operands]) (by kernel_rfl)
      have f19 : a.tmps.getD 19 undef = .pointer (some ⟨gh, 0, none⟩) := e19
      have g19 : a.tmps[19]?.getD undef = .pointer (some ⟨gh, 0, none⟩) := by rw [← Array.getD_eq_getD_getElem?]; exact e19
      refine op_val (.pointer (some ⟨gh, 0, none⟩)) ?_ hC (Below.refl _ _) (by intro d hd; cases hd; rfl)
      (clear hV hI hC; go_simp <;> (first | rfl | simp | (rw [IntKind.wrap_i64]; omega)))
    case o21 =>
      intro Q a w2 hC hV hI
      have e20 : a.eval (.tmp 20) = .pointer (some ⟨gh, 0, none⟩) := hV 20 (by simp [Op.operands]) (by kernel_rfl)
      have f20 : a.tmps.getD 20 undef = .pointer (some ⟨gh, 0, none⟩) := e20
      have g20 : a.tmps[20]?.getD undef = .pointer (some ⟨gh, 0, none⟩) := by rw [← Array.getD_eq_getD_getElem?]; exact e20
      refine op_val (.pointer (some ⟨gh, 0, none⟩)) ?_ hC (Below.refl _ _) (by intro d hd; cases hd; rfl)
      (clear hV hI hC; go_simp <;> (first | rfl | simp | (rw [IntKind.wrap_i64]; omega)))
    case o22 =>
      intro Q a w2 hC hV hI
      have e21 : a.eval (.tmp 21) = .pointer (some ⟨gh, 0, none⟩) := hV 21 (by simp [Op.operands]) (by kernel_rfl)
      have f21 : a.tmps.getD 21 undef = .pointer (some ⟨gh, 0, none⟩) := e21
      have g21 : a.tmps[21]?.getD undef = .pointer (some ⟨gh, 0, none⟩) := by rw [← Array.getD_eq_getD_getElem?]; exact e21
      refine op_val (.pointer (some ⟨gh, 4, none⟩)) ?_ hC (Below.refl _ _) (by intro d hd; cases hd; rfl)
      (clear hV hI hC; go_simp <;> (first | rfl | simp | (rw [IntKind.wrap_i64]; omega)))
    case o23 =>
      intro Q a w2 hC hV hI
      have e0 : a.eval (.tmp 0) = .pointer (some ⟨gh, 0, none⟩) := (hI 0 (by simp [Op.operands]) (by kernel_rfl)).trans rfl
      have f0 : a.tmps.getD 0 undef = .pointer (some ⟨gh, 0, none⟩) := e0
      have g0 : a.tmps[0]?.getD undef = .pointer (some ⟨gh, 0, none⟩) := by rw [← Array.getD_eq_getD_getElem?]; exact e0
      refine op_val (.pointer (some ⟨gh, 0, none⟩)) ?_ hC (Below.refl _ _) (by intro d hd; cases hd; rfl)
      (clear hV hI hC; go_simp <;> (first | rfl | simp | (rw [IntKind.wrap_i64]; omega)))
    case o24 =>
      intro Q a w2 hC hV hI
      have e23 : a.eval (.tmp 23) = .pointer (some ⟨gh, 0, none⟩) := hV 23 (by simp [Op.operands]) (by kernel_rfl)
      have f23 : a.tmps.getD 23 undef = .pointer (some ⟨gh, 0, none⟩) := e23
      have g23 : a.tmps[23]?.getD undef = .pointer (some ⟨gh, 0, none⟩) := by rw [← Array.getD_eq_getD_getElem?]; exact e23
      refine op_val (.pointer (some ⟨gh, 0, none⟩)) ?_ hC (Below.refl _ _) (by intro d hd; cases hd; rfl)
      (clear hV hI hC; go_simp <;> (first | rfl | simp | (rw [IntKind.wrap_i64]; omega)))
    case o25 =>
      intro Q a w2 hC hV hI
      have e24 : a.eval (.tmp 24) = .pointer (some ⟨gh, 0, none⟩) := hV 24 (by simp [Op.operands]) (by kernel_rfl)
      have f24 : a.tmps.getD 24 undef = .pointer (some ⟨gh, 0, none⟩) := e24
      have g24 : a.tmps[24]?.getD undef = .pointer (some ⟨gh, 0, none⟩) := by rw [← Array.getD_eq_getD_getElem?]; exact e24
      refine op_val (.pointer (some ⟨gh, 0, none⟩)) ?_ hC (Below.refl _ _) (by intro d hd; cases hd; rfl)
      (clear hV hI hC; go_simp <;> (first | rfl | simp | (rw [IntKind.wrap_i64]; omega)))
    case o26 =>
      intro Q a w2 hC hV hI
      have e25 : a.eval (.tmp 25) = .pointer (some ⟨gh, 0, none⟩) := hV 25 (by simp [Op.operands]) (by kernel_rfl)
      have f25 : a.tmps.getD 25 undef = .pointer (some ⟨gh, 0, none⟩) := e25
      have g25 : a.tmps[25]?.getD undef = .pointer (some ⟨gh, 0, none⟩) := by rw [← Array.getD_eq_getD_getElem?]; exact e25
      refine op_val (.pointer (some ⟨gh, 5, none⟩)) ?_ hC (Below.refl _ _) (by intro d hd; cases hd; rfl)
      (clear hV hI hC; go_simp <;> (first | rfl | simp | (rw [IntKind.wrap_i64]; omega)))
    case o27 =>
      intro Q a w2 hC hV hI
      have e0 : a.eval (.tmp 0) = .pointer (some ⟨gh, 0, none⟩) := (hI 0 (by simp [Op.operands]) (by kernel_rfl)).trans rfl
      have f0 : a.tmps.getD 0 undef = .pointer (some ⟨gh, 0, none⟩) := e0
      have g0 : a.tmps[0]?.getD undef = .pointer (some ⟨gh, 0, none⟩) := by rw [← Array.getD_eq_getD_getElem?]; exact e0
      refine op_val (.pointer (some ⟨gh, 0, none⟩)) ?_ hC (Below.refl _ _) (by intro d hd; cases hd; rfl)
      (clear hV hI hC; go_simp <;> (first | rfl | simp | (rw [IntKind.wrap_i64]; omega)))
    case o28 =>
      intro Q a w2 hC hV hI
      have e27 : a.eval (.tmp 27) = .pointer (some ⟨gh, 0, none⟩) := hV 27 (by simp [Op.operands]) (by kernel_rfl)
      have f27 : a.tmps.getD 27 undef = .pointer (some ⟨gh, 0, none⟩) := e27
      have g27 : a.tmps[27]?.getD undef = .pointer (some ⟨gh, 0, none⟩) := by rw [← Array.getD_eq_getD_getElem?]; exact e27
      refine op_val (.pointer (some ⟨gh, 0, none⟩)) ?_ hC (Below.refl _ _) (by intro d hd; cases hd; rfl)
      (clear hV hI hC; go_simp <;> (first | rfl | simp | (rw [IntKind.wrap_i64]; omega)))
    case o29 =>
      intro Q a w2 hC hV hI
      have e28 : a.eval (.tmp 28) = .pointer (some ⟨gh, 0, none⟩) := hV 28 (by simp [Op.operands]) (by kernel_rfl)
      have f28 : a.tmps.getD 28 undef = .pointer (some ⟨gh, 0, none⟩) := e28
      have g28 : a.tmps[28]?.getD undef = .pointer (some ⟨gh, 0, none⟩) := by rw [← Array.getD_eq_getD_getElem?]; exact e28
      refine op_val (.pointer (some ⟨gh, 8, none⟩)) ?_ hC (Below.refl _ _) (by intro d hd; cases hd; rfl)
      (clear hV hI hC; go_simp <;> (first | rfl | simp | (rw [IntKind.wrap_i64]; omega)))
    case o30 =>
      intro Q a w2 hC hV hI
      have e0 : a.eval (.tmp 0) = .pointer (some ⟨gh, 0, none⟩) := (hI 0 (by simp [Op.operands]) (by kernel_rfl)).trans rfl
      have f0 : a.tmps.getD 0 undef = .pointer (some ⟨gh, 0, none⟩) := e0
      have g0 : a.tmps[0]?.getD undef = .pointer (some ⟨gh, 0, none⟩) := by rw [← Array.getD_eq_getD_getElem?]; exact e0
      refine op_val (.pointer (some ⟨gh, 0, none⟩)) ?_ hC (Below.refl _ _) (by intro d hd; cases hd; rfl)
      (clear hV hI hC; go_simp <;> (first | rfl | simp | (rw [IntKind.wrap_i64]; omega)))
    case o31 =>
      intro Q a w2 hC hV hI
      have e30 : a.eval (.tmp 30) = .pointer (some ⟨gh, 0, none⟩) := hV 30 (by simp [Op.operands]) (by kernel_rfl)
      have f30 : a.tmps.getD 30 undef = .pointer (some ⟨gh, 0, none⟩) := e30
      have g30 : a.tmps[30]?.getD undef = .pointer (some ⟨gh, 0, none⟩) := by rw [← Array.getD_eq_getD_getElem?]; exact e30
      refine op_val (.pointer (some ⟨gh, 0, none⟩)) ?_ hC (Below.refl _ _) (by intro d hd; cases hd; rfl)
      (clear hV hI hC; go_simp <;> (first | rfl | simp | (rw [IntKind.wrap_i64]; omega)))
    case o32 =>
      intro Q a w2 hC hV hI
      have e31 : a.eval (.tmp 31) = .pointer (some ⟨gh, 0, none⟩) := hV 31 (by simp [Op.operands]) (by kernel_rfl)
      have f31 : a.tmps.getD 31 undef = .pointer (some ⟨gh, 0, none⟩) := e31
      have g31 : a.tmps[31]?.getD undef = .pointer (some ⟨gh, 0, none⟩) := by rw [← Array.getD_eq_getD_getElem?]; exact e31
      refine op_val (.pointer (some ⟨gh, 9, none⟩)) ?_ hC (Below.refl _ _) (by intro d hd; cases hd; rfl)
      (clear hV hI hC; go_simp <;> (first | rfl | simp | (rw [IntKind.wrap_i64]; omega)))
    case o33 =>
      intro Q a w2 hC hV hI
      have e32 : a.eval (.tmp 32) = .pointer (some ⟨gh, 9, none⟩) := hV 32 (by simp [Op.operands]) (by kernel_rfl)
      have f32 : a.tmps.getD 32 undef = .pointer (some ⟨gh, 9, none⟩) := e32
      have g32 : a.tmps[32]?.getD undef = .pointer (some ⟨gh, 9, none⟩) := by rw [← Array.getD_eq_getD_getElem?]; exact e32
      refine op_val (.pointer (some ⟨gh, 9, none⟩)) ?_ hC (Below.refl _ _) (by intro d hd; cases hd; rfl)
      (clear hV hI hC; go_simp <;> (first | rfl | simp | (rw [IntKind.wrap_i64]; omega)))
    case o34 =>
      intro Q a w2 hC hV hI
      have e0 : a.eval (.tmp 0) = .pointer (some ⟨gh, 0, none⟩) := (hI 0 (by simp [Op.operands]) (by kernel_rfl)).trans rfl
      have f0 : a.tmps.getD 0 undef = .pointer (some ⟨gh, 0, none⟩) := e0
      have g0 : a.tmps[0]?.getD undef = .pointer (some ⟨gh, 0, none⟩) := by rw [← Array.getD_eq_getD_getElem?]; exact e0
      refine op_val (.pointer (some ⟨gh, 0, none⟩)) ?_ hC (Below.refl _ _) (by intro d hd; cases hd; rfl)
      (clear hV hI hC; go_simp <;> (first | rfl | simp | (rw [IntKind.wrap_i64]; omega)))
    case o35 =>
      intro Q a w2 hC hV hI
      have e34 : a.eval (.tmp 34) = .pointer (some ⟨gh, 0, none⟩) := hV 34 (by simp [Op.operands]) (by kernel_rfl)
      have f34 : a.tmps.getD 34 undef = .pointer (some ⟨gh, 0, none⟩) := e34
      have g34 : a.tmps[34]?.getD undef = .pointer (some ⟨gh, 0, none⟩) := by rw [← Array.getD_eq_getD_getElem?]; exact e34
      refine op_val (.pointer (some ⟨gh, 0, none⟩)) ?_ hC (Below.refl _ _) (by intro d hd; cases hd; rfl)
      (clear hV hI hC; go_simp <;> (first | rfl | simp | (rw [IntKind.wrap_i64]; omega)))
    case o36 =>
      intro Q a w2 hC hV hI
      have e35 : a.eval (.tmp 35) = .pointer (some ⟨gh, 0, none⟩) := hV 35 (by simp [Op.operands]) (by kernel_rfl)
      have f35 : a.tmps.getD 35 undef = .pointer (some ⟨gh, 0, none⟩) := e35
      have g35 : a.tmps[35]?.getD undef = .pointer (some ⟨gh, 0, none⟩) := by rw [← Array.getD_eq_getD_getElem?]; exact e35
      refine op_val (.pointer (some ⟨gh, 9, none⟩)) ?_ hC (Below.refl _ _) (by intro d hd; cases hd; rfl)
      (clear hV hI hC; go_simp <;> (first | rfl | simp | (rw [IntKind.wrap_i64]; omega)))
    case o37 =>
      intro Q a w2 hC hV hI
      have e36 : a.eval (.tmp 36) = .pointer (some ⟨gh, 9, none⟩) := hV 36 (by simp [Op.operands]) (by kernel_rfl)
      have f36 : a.tmps.getD 36 undef = .pointer (some ⟨gh, 9, none⟩) := e36
      have g36 : a.tmps[36]?.getD undef = .pointer (some ⟨gh, 9, none⟩) := by rw [← Array.getD_eq_getD_getElem?]; exact e36
      refine op_val (.pointer (some ⟨gh, 10, none⟩)) ?_ hC (Below.refl _ _) (by intro d hd; cases hd; rfl)
      (clear hV hI hC; go_simp <;> (first | rfl | simp | (rw [IntKind.wrap_i64]; omega)))
    case o38 =>
      intro Q a w2 hC hV hI
      have e0 : a.eval (.tmp 0) = .pointer (some ⟨gh, 0, none⟩) := (hI 0 (by simp [Op.operands]) (by kernel_rfl)).trans rfl
      have f0 : a.tmps.getD 0 undef = .pointer (some ⟨gh, 0, none⟩) := e0
      have g0 : a.tmps[0]?.getD undef = .pointer (some ⟨gh, 0, none⟩) := by rw [← Array.getD_eq_getD_getElem?]; exact e0
      refine op_val (.pointer (some ⟨gh, 0, none⟩)) ?_ hC (Below.refl _ _) (by intro d hd; cases hd; rfl)
      (clear hV hI hC; go_simp <;> (first | rfl | simp | (rw [IntKind.wrap_i64]; omega)))
    case o39 =>
      intro Q a w2 hC hV hI
      have e38 : a.eval (.tmp 38) = .pointer (some ⟨gh, 0, none⟩) := hV 38 (by simp [Op.operands]) (by kernel_rfl)
      have f38 : a.tmps.getD 38 undef = .pointer (some ⟨gh, 0, none⟩) := e38
      have g38 : a.tmps[38]?.getD undef = .pointer (some ⟨gh, 0, none⟩) := by rw [← Array.getD_eq_getD_getElem?]; exact e38
      refine op_val (.pointer (some ⟨gh, 0, none⟩)) ?_ hC (Below.refl _ _) (by intro d hd; cases hd; rfl)
      (clear hV hI hC; go_simp <;> (first | rfl | simp | (rw [IntKind.wrap_i64]; omega)))
    case o40 =>
      intro Q a w2 hC hV hI
      have e39 : a.eval (.tmp 39) = .pointer (some ⟨gh, 0, none⟩) := hV 39 (by simp [Op.operands]) (by kernel_rfl)
      have f39 : a.tmps.getD 39 undef = .pointer (some ⟨gh, 0, none⟩) := e39
      have g39 : a.tmps[39]?.getD undef = .pointer (some ⟨gh, 0, none⟩) := by rw [← Array.getD_eq_getD_getElem?]; exact e39
      refine op_val (.pointer (some ⟨gh, 9, none⟩)) ?_ hC (Below.refl _ _) (by intro d hd; cases hd; rfl)
      (clear hV hI hC; go_simp <;> (first | rfl | simp | (rw [IntKind.wrap_i64]; omega)))
    case o41 =>
      intro Q a w2 hC hV hI
      have e40 : a.eval (.tmp 40) = .pointer (some ⟨gh, 9, none⟩) := hV 40 (by simp [Op.operands]) (by kernel_rfl)
      have f40 : a.tmps.getD 40 undef = .pointer (some ⟨gh, 9, none⟩) := e40
      have g40 : a.tmps[40]?.getD undef = .pointer (some ⟨gh, 9, none⟩) := by rw [← Array.getD_eq_getD_getElem?]; exact e40
      refine op_val (.pointer (some ⟨gh, 11, none⟩)) ?_ hC (Below.refl _ _) (by intro d hd; cases hd; rfl)
      (clear hV hI hC; go_simp <;> (first | rfl | simp | (rw [IntKind.wrap_i64]; omega)))
    case o42 =>
      intro Q a w2 hC hV hI
      have e0 : a.eval (.tmp 0) = .pointer (some ⟨gh, 0, none⟩) := (hI 0 (by simp [Op.operands]) (by kernel_rfl)).trans rfl
      have f0 : a.tmps.getD 0 undef = .pointer (some ⟨gh, 0, none⟩) := e0
      have g0 : a.tmps[0]?.getD undef = .pointer (some ⟨gh, 0, none⟩) := by rw [← Array.getD_eq_getD_getElem?]; exact e0
      refine op_val (.pointer (some ⟨gh, 0, none⟩)) ?_ hC (Below.refl _ _) (by intro d hd; cases hd; rfl)
      (clear hV hI hC; go_simp <;> (first | rfl | simp | (rw [IntKind.wrap_i64]; omega)))
    case o43 =>
      intro Q a w2 hC hV hI
      have e42 : a.eval (.tmp 42) = .pointer (some ⟨gh, 0, none⟩) := hV 42 (by simp [Op.operands]) (by kernel_rfl)
      have f42 : a.tmps.getD 42 undef = .pointer (some ⟨gh, 0, none⟩) := e42
      have g42 : a.tmps[42]?.getD undef = .pointer (some ⟨gh, 0, none⟩) := by rw [← Array.getD_eq_getD_getElem?]; exact e42
      refine op_val (.pointer (some ⟨gh, 0, none⟩)) ?_ hC (Below.refl _ _) (by intro d hd; cases hd; rfl)
      (clear hV hI hC; go_simp <;> (first | rfl | simp | (rw [IntKind.wrap_i64]; omega)))
    case o44 =>
      intro Q a w2 hC hV hI
      have e43 : a.eval (.tmp 43) = .pointer (some ⟨gh, 0, none⟩) := hV 43 (by simp [Op.operands]) (by kernel_rfl)
      have f43 : a.tmps.getD 43 undef = .pointer (some ⟨gh, 0, none⟩) := e43
      have g43 : a.tmps[43]?.getD undef = .pointer (some ⟨gh, 0, none⟩) := by rw [← Array.getD_eq_getD_getElem?]; exact e43
      refine op_val (.pointer (some ⟨gh, 9, none⟩)) ?_ hC (Below.refl _ _) (by intro d hd; cases hd; rfl)
      (clear hV hI hC; go_simp <;> (first | rfl | simp | (rw [IntKind.wrap_i64]; omega)))
    case o45 =>
      intro Q a w2 hC hV hI
      have e44 : a.eval (.tmp 44) = .pointer (some ⟨gh, 9, none⟩) := hV 44 (by simp [Op.operands]) (by kernel_rfl)
      have f44 : a.tmps.getD 44 undef = .pointer (some ⟨gh, 9, none⟩) := e44
      have g44 : a.tmps[44]?.getD undef = .pointer (some ⟨gh, 9, none⟩) := by rw [← Array.getD_eq_getD_getElem?]; exact e44
      refine op_val (.pointer (some ⟨gh, 12, none⟩)) ?_ hC (Below.refl _ _) (by intro d hd; cases hd; rfl)
      (clear hV hI hC; go_simp <;> (first | rfl | simp | (rw [IntKind.wrap_i64]; omega)))
    case o46 =>
      intro Q a w2 hC hV hI
      have e0 : a.eval (.tmp 0) = .pointer (some ⟨gh, 0, none⟩) := (hI 0 (by simp [Op.operands]) (by kernel_rfl)).trans rfl
      have f0 : a.tmps.getD 0 undef = .pointer (some ⟨gh, 0, none⟩) := e0
      have g0 : a.tmps[0]?.getD undef = .pointer (some ⟨gh, 0, none⟩) := by rw [← Array.getD_eq_getD_getElem?]; exact e0
      refine op_val (.pointer (some ⟨gh, 0, none⟩)) ?_ hC (Below.refl _ _) (by intro d hd; cases hd; rfl)
      (clear hV hI hC; go_simp <;> (first | rfl | simp | (rw [IntKind.wrap_i64]; omega)))
    case o47 =>
      intro Q a w2 hC hV hI
      have e46 : a.eval (.tmp 46) = .pointer (some ⟨gh, 0, none⟩) := hV 46 (by simp [Op.operands]) (by kernel_rfl)
      have f46 : a.tmps.getD 46 undef = .pointer (some ⟨gh, 0, none⟩) := e46
      have g46 : a.tmps[46]?.getD undef = .pointer (some ⟨gh, 0, none⟩) := by rw [← Array.getD_eq_getD_getElem?]; exact e46
      refine op_val (.pointer (some ⟨gh, 0, none⟩)) ?_ hC (Below.refl _ _) (by intro d hd; cases hd; rfl)
      (clear hV hI hC; go_simp <;> (first | rfl | simp | (rw [IntKind.wrap_i64]; omega)))
    case o48 =>
      intro Q a w2 hC hV hI
      have e47 : a.eval (.tmp 47) = .pointer (some ⟨gh, 0, none⟩) := hV 47 (by simp [Op.operands]) (by kernel_rfl)
      have f47 : a.tmps.getD 47 undef = .pointer (some ⟨gh, 0, none⟩) := e47
      have g47 : a.tmps[47]?.getD undef = .pointer (some ⟨gh, 0, none⟩) := by rw [← Array.getD_eq_getD_getElem?]; exact e47
      refine op_val (.pointer (some ⟨gh, 13, none⟩)) ?_ hC (Below.refl _ _) (by intro d hd; cases hd; rfl)
      (clear hV hI hC; go_simp <;> (first | rfl | simp | (rw [IntKind.wrap_i64]; omega)))
    case o49 =>
      intro Q a w2 hC hV hI
      have e0 : a.eval (.tmp 0) = .pointer (some ⟨gh, 0, none⟩) := (hI 0 (by simp [Op.operands]) (by kernel_rfl)).trans rfl
      have f0 : a.tmps.getD 0 undef = .pointer (some ⟨gh, 0, none⟩) := e0
      have g0 : a.tmps[0]?.getD undef = .pointer (some ⟨gh, 0, none⟩) := by rw [← Array.getD_eq_getD_getElem?]; exact e0
      refine op_val (.pointer (some ⟨gh, 0, none⟩)) ?_ hC (Below.refl _ _) (by intro d hd; cases hd; rfl)
      (clear hV hI hC; go_simp <;> (first | rfl | simp | (rw [IntKind.wrap_i64]; omega)))
    case o50 =>
      intro Q a w2 hC hV hI
      have e49 : a.eval (.tmp 49) = .pointer (some ⟨gh, 0, none⟩) := hV 49 (by simp [Op.operands]) (by kernel_rfl)
      have f49 : a.tmps.getD 49 undef = .pointer (some ⟨gh, 0, none⟩) := e49
      have g49 : a.tmps[49]?.getD undef = .pointer (some ⟨gh, 0, none⟩) := by rw [← Array.getD_eq_getD_getElem?]; exact e49
      refine op_val (.pointer (some ⟨gh, 0, none⟩)) ?_ hC (Below.refl _ _) (by intro d hd; cases hd; rfl)
      (clear hV hI hC; go_simp <;> (first | rfl | simp | (rw [IntKind.wrap_i64]; omega)))
    case o51 =>
      intro Q a w2 hC hV hI
      have e50 : a.eval (.tmp 50) = .pointer (some ⟨gh, 0, none⟩) := hV 50 (by simp [Op.operands]) (by kernel_rfl)
      have f50 : a.tmps.getD 50 undef = .pointer (some ⟨gh, 0, none⟩) := e50
      have g50 : a.tmps[50]?.getD undef = .pointer (some ⟨gh, 0, none⟩) := by rw [← Array.getD_eq_getD_getElem?]; exact e50
      refine op_val (.pointer (some ⟨gh, 14, none⟩)) ?_ hC (Below.refl _ _) (by intro d hd; cases hd; rfl)
      (clear hV hI hC; go_simp <;> (first | rfl | simp | (rw [IntKind.wrap_i64]; omega)))
    case o52 =>
      intro Q a w2 hC hV hI
      have e6 : a.eval (.tmp 6) = .pointer (some ⟨gh, 0, none⟩) := hV 6 (by simp [Op.operands]) (by kernel_rfl)
      have f6 : a.tmps.getD 6 undef = .pointer (some ⟨gh, 0, none⟩) := e6
      have g6 : a.tmps[6]?.getD undef = .pointer (some ⟨gh, 0, none⟩) := by rw [← Array.getD_eq_getD_getElem?]; exact e6
      have e10 : a.eval (.tmp 10) = .pointer (some ⟨gh, 1, none⟩) := hV 10 (by simp [Op.operands]) (by kernel_rfl)
      have f10 : a.tmps.getD 10 undef = .pointer (some ⟨gh, 1, none⟩) := e10
      have g10 : a.tmps[10]?.getD undef = .pointer (some ⟨gh, 1, none⟩) := by rw [← Array.getD_eq_getD_getElem?]; exact e10
      have e14 : a.eval (.tmp 14) = .pointer (some ⟨gh, 2, none⟩) := hV 14 (by simp [Op.operands]) (by kernel_rfl)
      have f14 : a.tmps.getD 14 undef = .pointer (some ⟨gh, 2, none⟩) := e14
      have g14 : a.tmps[14]?.getD undef = .pointer (some ⟨gh, 2, none⟩) := by rw [← Array.getD_eq_getD_getElem?]; exact e14
      have e18 : a.eval (.tmp 18) = .pointer (some ⟨gh, 3, none⟩) := hV 18 (by simp [Op.operands]) (by kernel_rfl)
      have f18 : a.tmps.getD 18 undef = .pointer (some ⟨gh, 3, none⟩) := e18
      have g18 : a.tmps[18]?.getD undef = .pointer (some ⟨gh, 3, none⟩) := by rw [← Array.getD_eq_getD_getElem?]; exact e18
      have e22 : a.eval (.tmp 22) = .pointer (some ⟨gh, 4, none⟩) := hV 22 (by simp [Op.operands]) (by kernel_rfl)
      have f22 : a.tmps.getD 22 undef = .pointer (some ⟨gh, 4, none⟩) := e22
      have g22 : a.tmps[22]?.getD undef = .pointer (some ⟨gh, 4, none⟩) := by rw [← Array.getD_eq_getD_getElem?]; exact e22
      have e26 : a.eval (.tmp 26) = .pointer (some ⟨gh, 5, none⟩) := hV 26 (by simp [Op.operands]) (by kernel_rfl)
      have f26 : a.tmps.getD 26 undef = .pointer (some ⟨gh, 5, none⟩) := e26
      have g26 : a.tmps[26]?.getD undef = .pointer (some ⟨gh, 5, none⟩) := by rw [← Array.getD_eq_getD_getElem?]; exact e26
      have e29 : a.eval (.tmp 29) = .pointer (some ⟨gh, 8, none⟩) := hV 29 (by simp [Op.operands]) (by kernel_rfl)
      have f29 : a.tmps.getD 29 undef = .pointer (some ⟨gh, 8, none⟩) := e29
      have g29 : a.tmps[29]?.getD undef = .pointer (some ⟨gh, 8, none⟩) := by rw [← Array.getD_eq_getD_getElem?]; exact e29
      have e33 : a.eval (.tmp 33) = .pointer (some ⟨gh, 9, none⟩) := hV 33 (by simp [Op.operands]) (by kernel_rfl)
      have f33 : a.tmps.getD 33 undef = .pointer (some ⟨gh, 9, none⟩) := e33
      have g33 : a.tmps[33]?.getD undef = .pointer (some ⟨gh, 9, none⟩) := by rw [← Array.getD_eq_getD_getElem?]; exact e33
      have e37 : a.eval (.tmp 37) = .pointer (some ⟨gh, 10, none⟩) := hV 37 (by simp [Op.operands]) (by kernel_rfl)
      have f37 : a.tmps.getD 37 undef = .pointer (some ⟨gh, 10, none⟩) := e37
      have g37 : a.tmps[37]?.getD undef = .pointer (some ⟨gh, 10, none⟩) := by rw [← Array.getD_eq_getD_getElem?]; exact e37
      have e41 : a.eval (.tmp 41) = .pointer (some ⟨gh, 11, none⟩) := hV 41 (by simp [Op.operands]) (by kernel_rfl)
      have f41 : a.tmps.getD 41 undef = .pointer (some ⟨gh, 11, none⟩) := e41
      have g41 : a.tmps[41]?.getD undef = .pointer (some ⟨gh, 11, none⟩) := by rw [← Array.getD_eq_getD_getElem?]; exact e41
      have e45 : a.eval (.tmp 45) = .pointer (some ⟨gh, 12, none⟩) := hV 45 (by simp [Op.operands]) (by kernel_rfl)
      have f45 : a.tmps.getD 45 undef = .pointer (some ⟨gh, 12, none⟩) := e45
      have g45 : a.tmps[45]?.getD undef = .pointer (some ⟨gh, 12, none⟩) := by rw [← Array.getD_eq_getD_getElem?]; exact e45
      have e48 : a.eval (.tmp 48) = .pointer (some ⟨gh, 13, none⟩) := hV 48 (by simp [Op.operands]) (by kernel_rfl)
      have f48 : a.tmps.getD 48 undef = .pointer (some ⟨gh, 13, none⟩) := e48
      have g48 : a.tmps[48]?.getD undef = .pointer (some ⟨gh, 13, none⟩) := by rw [← Array.getD_eq_getD_getElem?]; exact e48
      have e51 : a.eval (.tmp 51) = .pointer (some ⟨gh, 14, none⟩) := hV 51 (by simp [Op.operands]) (by kernel_rfl)
      have f51 : a.tmps.getD 51 undef = .pointer (some ⟨gh, 14, none⟩) := e51
      have g51 : a.tmps[51]?.getD undef = .pointer (some ⟨gh, 14, none⟩) := by rw [← Array.getD_eq_getD_getElem?]; exact e51
      refine op_val (.agg #[.pointer (some ⟨gh, 0, none⟩), .pointer (some ⟨gh, 1, none⟩), .pointer (some ⟨gh, 2, none⟩), .pointer (some ⟨gh, 3, none⟩), .pointer (some ⟨gh, 4, none⟩), .pointer (some ⟨gh, 5, none⟩), .pointer (some ⟨gh, 8, none⟩), .pointer (some ⟨gh, 9, none⟩), .pointer (some ⟨gh, 10, none⟩), .pointer (some ⟨gh, 11, none⟩), .pointer (some ⟨gh, 12, none⟩), .pointer (some ⟨gh, 13, none⟩), .pointer (some ⟨gh, 14, none⟩)]) ?_ hC (Below.refl _ _) (by intro d hd; cases hd; rfl)
      (clear hV hI hC; go_simp <;> (first | rfl | simp | (rw [IntKind.wrap_i64]; omega)))
  case hend =>
    intro f w2 hC hall
    simp only [List.take_succ_cons, List.take_zero, List.drop_succ_cons, List.drop_zero] at hall ⊢
    simp only [List.forall_mem_cons] at hall
    obtain ⟨h3, h4, h5, h6, h7, h8, h9, h10, h11, h12, h13, h14, h15, h16, h17, h18, h19, h20, h21, h22, h23, h24, h25, h26, h27, h28, h29, h30, h31, h32, h33, h34, h35, h36, h37, h38, h39, h40, h41, h42, h43, h44, h45, h46, h47, h48, h49, h50, h51, h52, _⟩ := hall
    replace h3 : f 3 = .pointer (some ⟨gh, 0, none⟩) := h3 3 rfl
    replace h4 : f 4 = .pointer (some ⟨gh, 0, none⟩) := h4 4 rfl
    replace h5 : f 5 = .pointer (some ⟨gh, 0, none⟩) := h5 5 rfl
    replace h6 : f 6 = .pointer (some ⟨gh, 0, none⟩) := h6 6 rfl
    replace h7 : f 7 = .pointer (some ⟨gh, 0, none⟩) := h7 7 rfl
    replace h8 : f 8 = .pointer (some ⟨gh, 0, none⟩) := h8 8 rfl
    replace h9 : f 9 = .pointer (some ⟨gh, 0, none⟩) := h9 9 rfl
    replace h10 : f 10 = .pointer (some ⟨gh, 1, none⟩) := h10 10 rfl
    replace h11 : f 11 = .pointer (some ⟨gh, 0, none⟩) := h11 11 rfl
    replace h12 : f 12 = .pointer (some ⟨gh, 0, none⟩) := h12 12 rfl
    replace h13 : f 13 = .pointer (some ⟨gh, 0, none⟩) := h13 13 rfl
    replace h14 : f 14 = .pointer (some ⟨gh, 2, none⟩) := h14 14 rfl
    replace h15 : f 15 = .pointer (some ⟨gh, 0, none⟩) := h15 15 rfl
    replace h16 : f 16 = .pointer (some ⟨gh, 0, none⟩) := h16 16 rfl
    replace h17 : f 17 = .pointer (some ⟨gh, 0, none⟩) := h17 17 rfl
    replace h18 : f 18 = .pointer (some ⟨gh, 3, none⟩) := h18 18 rfl
    replace h19 : f 19 = .pointer (some ⟨gh, 0, none⟩) := h19 19 rfl
    replace h20 : f 20 = .pointer (some ⟨gh, 0, none⟩) := h20 20 rfl
    replace h21 : f 21 = .pointer (some ⟨gh, 0, none⟩) := h21 21 rfl
    replace h22 : f 22 = .pointer (some ⟨gh, 4, none⟩) := h22 22 rfl
    replace h23 : f 23 = .pointer (some ⟨gh, 0, none⟩) := h23 23 rfl
    replace h24 : f 24 = .pointer (some ⟨gh, 0, none⟩) := h24 24 rfl
    replace h25 : f 25 = .pointer (some ⟨gh, 0, none⟩) := h25 25 rfl
    replace h26 : f 26 = .pointer (some ⟨gh, 5, none⟩) := h26 26 rfl
    replace h27 : f 27 = .pointer (some ⟨gh, 0, none⟩) := h27 27 rfl
    replace h28 : f 28 = .pointer (some ⟨gh, 0, none⟩) := h28 28 rfl
    replace h29 : f 29 = .pointer (some ⟨gh, 8, none⟩) := h29 29 rfl
    replace h30 : f 30 = .pointer (some ⟨gh, 0, none⟩) := h30 30 rfl
    replace h31 : f 31 = .pointer (some ⟨gh, 0, none⟩) := h31 31 rfl
    replace h32 : f 32 = .pointer (some ⟨gh, 9, none⟩) := h32 32 rfl
    replace h33 : f 33 = .pointer (some ⟨gh, 9, none⟩) := h33 33 rfl
    replace h34 : f 34 = .pointer (some ⟨gh, 0, none⟩) := h34 34 rfl
    replace h35 : f 35 = .pointer (some ⟨gh, 0, none⟩) := h35 35 rfl
    replace h36 : f 36 = .pointer (some ⟨gh, 9, none⟩) := h36 36 rfl
    replace h37 : f 37 = .pointer (some ⟨gh, 10, none⟩) := h37 37 rfl
    replace h38 : f 38 = .pointer (some ⟨gh, 0, none⟩) := h38 38 rfl
    replace h39 : f 39 = .pointer (some ⟨gh, 0, none⟩) := h39 39 rfl
    replace h40 : f 40 = .pointer (some ⟨gh, 9, none⟩) := h40 40 rfl
    replace h41 : f 41 = .pointer (some ⟨gh, 11, none⟩) := h41 41 rfl
    replace h42 : f 42 = .pointer (some ⟨gh, 0, none⟩) := h42 42 rfl
    replace h43 : f 43 = .pointer (some ⟨gh, 0, none⟩) := h43 43 rfl
    replace h44 : f 44 = .pointer (some ⟨gh, 9, none⟩) := h44 44 rfl
    replace h45 : f 45 = .pointer (some ⟨gh, 12, none⟩) := h45 45 rfl
    replace h46 : f 46 = .pointer (some ⟨gh, 0, none⟩) := h46 46 rfl
    replace h47 : f 47 = .pointer (some ⟨gh, 0, none⟩) := h47 47 rfl
    replace h48 : f 48 = .pointer (some ⟨gh, 13, none⟩) := h48 48 rfl
    replace h49 : f 49 = .pointer (some ⟨gh, 0, none⟩) := h49 49 rfl
    replace h50 : f 50 = .pointer (some ⟨gh, 0, none⟩) := h50 50 rfl
    replace h51 : f 51 = .pointer (some ⟨gh, 14, none⟩) := h51 51 rfl
    replace h52 : f 52 = .agg #[.pointer (some ⟨gh, 0, none⟩), .pointer (some ⟨gh, 1, none⟩), .pointer (some ⟨gh, 2, none⟩), .pointer (some ⟨gh, 3, none⟩), .pointer (some ⟨gh, 4, none⟩), .pointer (some ⟨gh, 5, none⟩), .pointer (some ⟨gh, 8, none⟩), .pointer (some ⟨gh, 9, none⟩), .pointer (some ⟨gh, 10, none⟩), .pointer (some ⟨gh, 11, none⟩), .pointer (some ⟨gh, 12, none⟩), .pointer (some ⟨gh, 13, none⟩), .pointer (some ⟨gh, 14, none⟩)] := h52 52 rfl
    simp only [putAll, Act.put, List.setIfInBounds_toArray, List.set_cons_succ, List.set_cons_zero, h3, h4, h5, h6, h7, h8, h9, h10, h11, h12, h13, h14, h15, h16, h17, h18, h19, h20, h21, h22, h23, h24, h25, h26, h27, h28, h29, h30, h31, h32, h33, h34, h35, h36, h37, h38, h39, h40, h41, h42, h43, h44, h45, h46, h47, h48, h49, h50, h51, h52]
    clear h3 h4 h5 h6 h7 h8 h9 h10 h11 h12 h13 h14 h15 h16 h17 h18 h19 h20 h21 h22 h23 h24 h25 h26 h27 h28 h29 h30 h31 h32 h33 h34 h35 h36 h37 h38 h39 h40 h41 h42 h43 h44 h45 h46 h47 h48 h49 h50 h51 h52
    have hR : w2.heap[w.heap.size]? = some (.cells #[.pointer none, .pointer none, .pointer none, .pointer none, .pointer none, .pointer none, .pointer none, .pointer none, .pointer none, .pointer none, .pointer none, .pointer none, .pointer none] 73 (0, 0)) := (hC.block _ hlt).trans XB.out
    have B2 := B.out.trans (hC.mono B.out.size)
    clear XB B hC
    have d0 : w2.cell? ⟨w.heap.size, 0, none⟩ = some (.pointer none) := by simp [World.cell?, hR]
    have d1 : w2.cell? ⟨w.heap.size, 1, none⟩ = some (.pointer none) := by simp [World.cell?, hR]
    have d2 : w2.cell? ⟨w.heap.size, 2, none⟩ = some (.pointer none) := by simp [World.cell?, hR]
    have d3 : w2.cell? ⟨w.heap.size, 3, none⟩ = some (.pointer none) := by simp [World.cell?, hR]
    have d4 : w2.cell? ⟨w.heap.size, 4, none⟩ = some (.pointer none) := by simp [World.cell?, hR]
    have d5 : w2.cell? ⟨w.heap.size, 5, none⟩ = some (.pointer none) := by simp [World.cell?, hR]
    have d6 : w2.cell? ⟨w.heap.size, 6, none⟩ = some (.pointer none) := by simp [World.cell?, hR]
    have d7 : w2.cell? ⟨w.heap.size, 7, none⟩ = some (.pointer none) := by simp [World.cell?, hR]
    have d8 : w2.cell? ⟨w.heap.size, 8, none⟩ = some (.pointer none) := by simp [World.cell?, hR]
    have d9 : w2.cell? ⟨w.heap.size, 9, none⟩ = some (.pointer none) := by simp [World.cell?, hR]
    have d10 : w2.cell? ⟨w.heap.size, 10, none⟩ = some (.pointer none) := by simp [World.cell?, hR]
    have d11 : w2.cell? ⟨w.heap.size, 11, none⟩ = some (.pointer none) := by simp [World.cell?, hR]
    have d12 : w2.cell? ⟨w.heap.size, 12, none⟩ = some (.pointer none) := by simp [World.cell?, hR]
    have f0 : w2.frozen? ⟨w.heap.size, 0, none⟩ = false := by simp [World.frozen?, hR]
    have f1 : w2.frozen? ⟨w.heap.size, 1, none⟩ = false := by simp [World.frozen?, hR]
    have f2 : w2.frozen? ⟨w.heap.size, 2, none⟩ = false := by simp [World.frozen?, hR]
    have f3 : w2.frozen? ⟨w.heap.size, 3, none⟩ = false := by simp [World.frozen?, hR]
    have f4 : w2.frozen? ⟨w.heap.size, 4, none⟩ = false := by simp [World.frozen?, hR]
    have f5 : w2.frozen? ⟨w.heap.size, 5, none⟩ = false := by simp [World.frozen?, hR]
    have f6 : w2.frozen? ⟨w.heap.size, 6, none⟩ = false := by simp [World.frozen?, hR]
    have f7 : w2.frozen? ⟨w.heap.size, 7, none⟩ = false := by simp [World.frozen?, hR]
    have f8 : w2.frozen? ⟨w.heap.size, 8, none⟩ = false := by simp [World.frozen?, hR]
    have f9 : w2.frozen? ⟨w.heap.size, 9, none⟩ = false := by simp [World.frozen?, hR]
    have f10 : w2.frozen? ⟨w.heap.size, 10, none⟩ = false := by simp [World.frozen?, hR]
    have f11 : w2.frozen? ⟨w.heap.size, 11, none⟩ = false := by simp [World.frozen?, hR]
    have f12 : w2.frozen? ⟨w.heap.size, 12, none⟩ = false := by simp [World.frozen?, hR]
    have hR3 := (heap_setN (i := 12) (v := .pointer (some ⟨gh, 14, none⟩)) (heap_setN (i := 11) (v := .pointer (some ⟨gh, 13, none⟩)) (heap_setN (i := 10) (v := .pointer (some ⟨gh, 12, none⟩)) (heap_setN (i := 9) (v := .pointer (some ⟨gh, 11, none⟩)) (heap_setN (i := 8) (v := .pointer (some ⟨gh, 10, none⟩)) (heap_setN (i := 7) (v := .pointer (some ⟨gh, 9, none⟩)) (heap_setN (i := 6) (v := .pointer (some ⟨gh, 8, none⟩)) (heap_setN (i := 5) (v := .pointer (some ⟨gh, 5, none⟩)) (heap_setN (i := 4) (v := .pointer (some ⟨gh, 4, none⟩)) (heap_setN (i := 3) (v := .pointer (some ⟨gh, 3, none⟩)) (heap_setN (i := 2) (v := .pointer (some ⟨gh, 2, none⟩)) (heap_setN (i := 1) (v := .pointer (some ⟨gh, 1, none⟩)) (heap_setN (i := 0) (v := .pointer (some ⟨gh, 0, none⟩)) hR)))))))))))))
    have B3 := (((((((((((((B2.setCell (p := ⟨w.heap.size, 0, none⟩) (Nat.le_refl _) (.pointer (some ⟨gh, 0, none⟩))).setCell (p := ⟨w.heap.size, 1, none⟩) (Nat.le_refl _) (.pointer (some ⟨gh, 1, none⟩))).setCell (p := ⟨w.heap.size, 2, none⟩) (Nat.le_refl _) (.pointer (some ⟨gh, 2, none⟩))).setCell (p := ⟨w.heap.size, 3, none⟩) (Nat.le_refl _) (.pointer (some ⟨gh, 3, none⟩))).setCell (p := ⟨w.heap.size, 4, none⟩) (Nat.le_refl _) (.pointer (some ⟨gh, 4, none⟩))).setCell (p := ⟨w.heap.size, 5, none⟩) (Nat.le_refl _) (.pointer (some ⟨gh, 5, none⟩))).setCell (p := ⟨w.heap.size, 6, none⟩) (Nat.le_refl _) (.pointer (some ⟨gh, 8, none⟩))).setCell (p := ⟨w.heap.size, 7, none⟩) (Nat.le_refl _) (.pointer (some ⟨gh, 9, none⟩))).setCell (p := ⟨w.heap.size, 8, none⟩) (Nat.le_refl _) (.pointer (some ⟨gh, 10, none⟩))).setCell (p := ⟨w.heap.size, 9, none⟩) (Nat.le_refl _) (.pointer (some ⟨gh, 11, none⟩))).setCell (p := ⟨w.heap.size, 10, none⟩) (Nat.le_refl _) (.pointer (some ⟨gh, 12, none⟩))).setCell (p := ⟨w.heap.size, 11, none⟩) (Nat.le_refl _) (.pointer (some ⟨gh, 13, none⟩))).setCell (p := ⟨w.heap.size, 12, none⟩) (Nat.le_refl _) (.pointer (some ⟨gh, 14, none⟩)))
    clear hR B2
    go_wp2_with fail
    clear d0 f0 d1 f1 d2 f2 d3 f3 d4 f4 d5 f5 d6 f6 d7 f7 d8 f8 d9 f9 d10 f10 d11 f11 d12 f12
    generalize World.setCell _ ⟨w.heap.size, 12, none⟩ _ = w3 at hR3 B3 ⊢
    simp only [List.setIfInBounds_toArray, List.set_cons_succ, List.set_cons_zero] at hR3
    refine bodyPost_ret (results_cell_row rfl _ _ w.heap.size _ #[.pointer (some ⟨gh, 0, none⟩), .pointer (some ⟨gh, 1, none⟩), .pointer (some ⟨gh, 2, none⟩), .pointer (some ⟨gh, 3, none⟩), .pointer (some ⟨gh, 4, none⟩), .pointer (some ⟨gh, 5, none⟩), .pointer (some ⟨gh, 8, none⟩), .pointer (some ⟨gh, 9, none⟩), .pointer (some ⟨gh, 10, none⟩), .pointer (some ⟨gh, 11, none⟩), .pointer (some ⟨gh, 12, none⟩), .pointer (some ⟨gh, 13, none⟩), .pointer (some ⟨gh, 14, none⟩)] (0, 0) _ rfl hR3 Try.underlying73 rfl (by rw [Try.sizePN]; rfl)) rfl ?_
    exact ⟨rfl, B3⟩
end Go.Proofs.Ytcnmbolmgifgfaa
