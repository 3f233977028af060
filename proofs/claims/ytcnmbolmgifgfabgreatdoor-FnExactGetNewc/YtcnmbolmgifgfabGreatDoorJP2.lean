/- Texts joined: NrF, NrO, NrI, EqZ4, NrN, NrT, NrJ, NrS, GetNwJ, GetNwI, RdNew, NewText, EntOkI, CpioF, NewF, NewcS, NewDig. -/
import Derived.Test.YtcnmbolmgifgfabGreatDoorRegTail
import Derived.Test.YtcnmbolmgifgfabGreatDoorRegInv
import Derived.BigRegion
import Derived.Deep.DeepCutAuto
import Derived.OwnWalk
import Derived.Laws.ResultCell
import Derived.Laws.Rows
import Derived.Laws.Tables
import Derived.Test.YtcnmbolmgifgfabGreatDoorCutP
import Derived.Test.YtcnmbolmgifgfabGreatDoorClone
import Derived.BigQuiet
import Derived.Laws.StructEq
import Derived.Test.YtcnmbolmgifgfabGreatDoorRegU
import Derived.Test.YtcnmbolmgifgfabGreatDoorRegSl
import Derived.Deep.WholeRow
import Derived.Test.YtcnmbolmgifgfabGreatDoorDemand
import Derived.Test.YtcnmbolmgifgfabGreatDoorNewK
import Derived.Test.YtcnmbolmgifgfabGreatDoorNulS
import Derived.Test.YtcnmbolmgifgfabGreatDoorUserI
import Derived.Test.YtcnmbolmgifgfabGreatDoorOwn
import Derived.Test.YtcnmbolmgifgfabGreatDoorJP1
/- Contract of impl.(*newcHead).fields: the addresses of a head's numbers, in their order. -/
namespace Go.Proofs.YtcnmbolmgifgfabGreatDoor
open Go.ChangeShapes Go.WideShapes Go.ChangeAt Go.RowKit Go.Deep

def offn (k : Nat) : Nat := [0, 1, 2, 3, 4, 5, 8, 9, 10, 11, 12, 13, 14].getD k 0
def ptrsN (gh : Nat) : Array Value := #[.pointer (some ⟨gh, 0, none⟩), .pointer (some ⟨gh, 1, none⟩), .pointer (some ⟨gh, 2, none⟩), .pointer (some ⟨gh, 3, none⟩), .pointer (some ⟨gh, 4, none⟩), .pointer (some ⟨gh, 5, none⟩), .pointer (some ⟨gh, 8, none⟩), .pointer (some ⟨gh, 9, none⟩), .pointer (some ⟨gh, 10, none⟩), .pointer (some ⟨gh, 11, none⟩), .pointer (some ⟨gh, 12, none⟩), .pointer (some ⟨gh, 13, none⟩), .pointer (some ⟨gh, 14, none⟩)]
theorem ptrsN_at (gh : Nat) : ∀ k, k < 13 → (ptrsN gh)[k]? = some (.pointer (some ⟨gh, offn k, none⟩)) := by
  intro k hk
  match k, hk with
  | 0, _ => rfl
  | 1, _ => rfl
  | 2, _ => rfl
  | 3, _ => rfl
  | 4, _ => rfl
  | 5, _ => rfl
  | 6, _ => rfl
  | 7, _ => rfl
  | 8, _ => rfl
  | 9, _ => rfl
  | 10, _ => rfl
  | 11, _ => rfl
  | 12, _ => rfl
  | k + 13, hk => omega
theorem Tryz.sizePN : (Tryz.prog.info? 167).map (·.size) = some 13 := by kernel_rfl
theorem heap_setN {w : World} {g i : Nat} {cs : Array Value} {t : TypeId} {v : Value} (h : w.heap[g]? = some (.cells cs t (0, 0))) : (w.setCell ⟨g, i, none⟩ v).heap[g]? = some (.cells (cs.setIfInBounds i v) t (0, 0)) := by
  have hlt : g < w.heap.size := (Array.getElem?_eq_some_iff.1 h).1
  have hg : w.heap[g] = .cells cs t (0, 0) := (Array.getElem?_eq_some_iff.1 h).2
  simp [World.setCell, hlt, Array.getElem_modify, hg]
set_option maxHeartbeats 6400000 in
set_option maxRecDepth 8000 in
theorem fieldsN_any (gh : Nat) (w : World) : Calls Tryz.prog 142 #[.pointer (some ⟨gh, 0, none⟩)] w fun e w' => e = .returned (.agg (ptrsN gh)) ∧ Below w.heap.size w w' := by
  go_enter Tryz.func142, Tryz.ntmps142
  go_upto_region 1 with fail
  generalize hw1 : World.alloc w _ = w1
  have XB : Hid (w1.heap[w.heap.size]? = some (.cells #[.pointer none, .pointer none, .pointer none, .pointer none, .pointer none, .pointer none, .pointer none, .pointer none, .pointer none, .pointer none, .pointer none, .pointer none, .pointer none] 167 (0, 0))) := Lib.hid (by rw [← hw1]; show (w.heap.push _)[w.heap.size]? = _; simp)
  have B : Hid (Below w.heap.size w w1) := Lib.hid (by rw [← hw1]; exact (Below.refl _ _).alloc (Nat.le_refl _) _)
  have hlt : w.heap.size < w1.heap.size := (Array.getElem?_eq_some_iff.1 XB.out).1
  clear hw1
  refine wp_region_cut 50 (by kernel_rfl) (fun w' => Below w1.heap.size w1 w') (fun x y => Below x.heap.size x y) (fun dq vq _ => match dq with | 3 => vq = .pointer (some ⟨gh, 0, none⟩) | 4 => vq = .pointer (some ⟨gh, 0, none⟩) | 5 => vq = .pointer (some ⟨gh, 0, none⟩) | 6 => vq = .pointer (some ⟨gh, 0, none⟩) | 7 => vq = .pointer (some ⟨gh, 0, none⟩) | 8 => vq = .pointer (some ⟨gh, 0, none⟩) | 9 => vq = .pointer (some ⟨gh, 0, none⟩) | 10 => vq = .pointer (some ⟨gh, 1, none⟩) | 11 => vq = .pointer (some ⟨gh, 0, none⟩) | 12 => vq = .pointer (some ⟨gh, 0, none⟩) | 13 => vq = .pointer (some ⟨gh, 0, none⟩) | 14 => vq = .pointer (some ⟨gh, 2, none⟩) | 15 => vq = .pointer (some ⟨gh, 0, none⟩) | 16 => vq = .pointer (some ⟨gh, 0, none⟩) | 17 => vq = .pointer (some ⟨gh, 0, none⟩) | 18 => vq = .pointer (some ⟨gh, 3, none⟩) | 19 => vq = .pointer (some ⟨gh, 0, none⟩) | 20 => vq = .pointer (some ⟨gh, 0, none⟩) | 21 => vq = .pointer (some ⟨gh, 0, none⟩) | 22 => vq = .pointer (some ⟨gh, 4, none⟩) | 23 => vq = .pointer (some ⟨gh, 0, none⟩) | 24 => vq = .pointer (some ⟨gh, 0, none⟩) | 25 => vq = .pointer (some ⟨gh, 0, none⟩) | 26 => vq = .pointer (some ⟨gh, 5, none⟩) | 27 => vq = .pointer (some ⟨gh, 0, none⟩) | 28 => vq = .pointer (some ⟨gh, 0, none⟩) | 29 => vq = .pointer (some ⟨gh, 8, none⟩) | 30 => vq = .pointer (some ⟨gh, 0, none⟩) | 31 => vq = .pointer (some ⟨gh, 0, none⟩) | 32 => vq = .pointer (some ⟨gh, 9, none⟩) | 33 => vq = .pointer (some ⟨gh, 9, none⟩) | 34 => vq = .pointer (some ⟨gh, 0, none⟩) | 35 => vq = .pointer (some ⟨gh, 0, none⟩) | 36 => vq = .pointer (some ⟨gh, 9, none⟩) | 37 => vq = .pointer (some ⟨gh, 10, none⟩) | 38 => vq = .pointer (some ⟨gh, 0, none⟩) | 39 => vq = .pointer (some ⟨gh, 0, none⟩) | 40 => vq = .pointer (some ⟨gh, 9, none⟩) | 41 => vq = .pointer (some ⟨gh, 11, none⟩) | 42 => vq = .pointer (some ⟨gh, 0, none⟩) | 43 => vq = .pointer (some ⟨gh, 0, none⟩) | 44 => vq = .pointer (some ⟨gh, 9, none⟩) | 45 => vq = .pointer (some ⟨gh, 12, none⟩) | 46 => vq = .pointer (some ⟨gh, 0, none⟩) | 47 => vq = .pointer (some ⟨gh, 0, none⟩) | 48 => vq = .pointer (some ⟨gh, 13, none⟩) | 49 => vq = .pointer (some ⟨gh, 0, none⟩) | 50 => vq = .pointer (some ⟨gh, 0, none⟩) | 51 => vq = .pointer (some ⟨gh, 14, none⟩) | 52 => vq = .agg #[.pointer (some ⟨gh, 0, none⟩), .pointer (some ⟨gh, 1, none⟩), .pointer (some ⟨gh, 2, none⟩), .pointer (some ⟨gh, 3, none⟩), .pointer (some ⟨gh, 4, none⟩), .pointer (some ⟨gh, 5, none⟩), .pointer (some ⟨gh, 8, none⟩), .pointer (some ⟨gh, 9, none⟩), .pointer (some ⟨gh, 10, none⟩), .pointer (some ⟨gh, 11, none⟩), .pointer (some ⟨gh, 12, none⟩), .pointer (some ⟨gh, 13, none⟩), .pointer (some ⟨gh, 14, none⟩)] | _ => True) (by kernel_rfl) (by kernel_rfl) ((Below.refl _ _).drew) (fun _ _ _ _ _ _ h => h) (by simp) ?hops ?hend
  case hops =>
    simp only [List.take_succ_cons, List.take_zero, List.forall_mem_cons]
    refine ⟨?o3, ?o4, ?o5, ?o6, ?o7, ?o8, ?o9, ?o10, ?o11, ?o12, ?o13, ?o14, ?o15, ?o16, ?o17, ?o18, ?o19, ?o20, ?o21, ?o22, ?o23, ?o24, ?o25, ?o26, ?o27, ?o28, ?o29, ?o30, ?o31, ?o32, ?o33, ?o34, ?o35, ?o36, ?o37, ?o38, ?o39, ?o40, ?o41, ?o42, ?o43, ?o44, ?o45, ?o46, ?o47, ?o48, ?o49, ?o50, ?o51, ?o52, fun _ h => by cases h⟩
    case o3 =>
      intro Q a w2 hC hV hI
      have e0 : a.eval (.tmp 0) = .pointer (some ⟨gh, 0, none⟩) := (hI 0 (by simp [Op.operands]) (by kernel_rfl)).trans rfl
      have f0 : a.tmps.getD 0 undef = .pointer (some ⟨gh, 0, none⟩) := e0
      have g0 : a.tmps[0]?.getD undef = .pointer (some ⟨gh, 0, none⟩) := by rw [← Array.getD_eq_getD_getElem?]; exact e0
      refine op_val (.pointer (some ⟨gh, 0, none⟩)) ?_ hC (Below.refl _ _) (by intro d hd; cases hd; rfl)
      (clear hV hI hC; go_simp <;> (first | rfl | simp | (rw [IntKind.wrap_i64]; omega)))
    case o4 =>
      intro Q a w2 hC hV hI
      have e3 : a.eval (.tmp 3) = .pointer (some ⟨gh, 0, none⟩) := hV 3 (by simp [Op.operands]) (by kernel_rfl)
      have f3 : a.tmps.getD 3 undef = .pointer (some ⟨gh, 0, none⟩) := e3
      have g3 : a.tmps[3]?.getD undef = .pointer (some ⟨gh, 0, none⟩) := by rw [← Array.getD_eq_getD_getElem?]; exact e3
      refine op_val (.pointer (some ⟨gh, 0, none⟩)) ?_ hC (Below.refl _ _) (by intro d hd; cases hd; rfl)
      (clear hV hI hC; go_simp <;> (first | rfl | simp | (rw [IntKind.wrap_i64]; omega)))
    case o5 =>
      intro Q a w2 hC hV hI
      have e4 : a.eval (.tmp 4) = .pointer (some ⟨gh, 0, none⟩) := hV 4 (by simp [Op.operands]) (by kernel_rfl)
      have f4 : a.tmps.getD 4 undef = .pointer (some ⟨gh, 0, none⟩) := e4
      have g4 : a.tmps[4]?.getD undef = .pointer (some ⟨gh, 0, none⟩) := by rw [← Array.getD_eq_getD_getElem?]; exact e4
      refine op_val (.pointer (some ⟨gh, 0, none⟩)) ?_ hC (Below.refl _ _) (by intro d hd; cases hd; rfl)
      (clear hV hI hC; go_simp <;> (first | rfl | simp | (rw [IntKind.wrap_i64]; omega)))
    case o6 =>
      intro Q a w2 hC hV hI
      have e5 : a.eval (.tmp 5) = .pointer (some ⟨gh, 0, none⟩) := hV 5 (by simp [Op.operands]) (by kernel_rfl)
      have f5 : a.tmps.getD 5 undef = .pointer (some ⟨gh, 0, none⟩) := e5
      have g5 : a.tmps[5]?.getD undef = .pointer (some ⟨gh, 0, none⟩) := by rw [← Array.getD_eq_getD_getElem?]; exact e5
      refine op_val (.pointer (some ⟨gh, 0, none⟩)) ?_ hC (Below.refl _ _) (by intro d hd; cases hd; rfl)
      (clear hV hI hC; go_simp <;> (first | rfl | simp | (rw [IntKind.wrap_i64]; omega)))
    case o7 =>
      intro Q a w2 hC hV hI
      have e0 : a.eval (.tmp 0) = .pointer (some ⟨gh, 0, none⟩) := (hI 0 (by simp [Op.operands]) (by kernel_rfl)).trans rfl
      have f0 : a.tmps.getD 0 undef = .pointer (some ⟨gh, 0, none⟩) := e0
      have g0 : a.tmps[0]?.getD undef = .pointer (some ⟨gh, 0, none⟩) := by rw [← Array.getD_eq_getD_getElem?]; exact e0
      refine op_val (.pointer (some ⟨gh, 0, none⟩)) ?_ hC (Below.refl _ _) (by intro d hd; cases hd; rfl)
      (clear hV hI hC; go_simp <;> (first | rfl | simp | (rw [IntKind.wrap_i64]; omega)))
    case o8 =>
      intro Q a w2 hC hV hI
      have e7 : a.eval (.tmp 7) = .pointer (some ⟨gh, 0, none⟩) := hV 7 (by simp [Op.operands]) (by kernel_rfl)
      have f7 : a.tmps.getD 7 undef = .pointer (some ⟨gh, 0, none⟩) := e7
      have g7 : a.tmps[7]?.getD undef = .pointer (some ⟨gh, 0, none⟩) := by rw [← Array.getD_eq_getD_getElem?]; exact e7
      refine op_val (.pointer (some ⟨gh, 0, none⟩)) ?_ hC (Below.refl _ _) (by intro d hd; cases hd; rfl)
      (clear hV hI hC; go_simp <;> (first | rfl | simp | (rw [IntKind.wrap_i64]; omega)))
    case o9 =>
      intro Q a w2 hC hV hI
      have e8 : a.eval (.tmp 8) = .pointer (some ⟨gh, 0, none⟩) := hV 8 (by simp [Op.operands]) (by kernel_rfl)
      have f8 : a.tmps.getD 8 undef = .pointer (some ⟨gh, 0, none⟩) := e8
      have g8 : a.tmps[8]?.getD undef = .pointer (some ⟨gh, 0, none⟩) := by rw [← Array.getD_eq_getD_getElem?]; exact e8
      refine op_val (.pointer (some ⟨gh, 0, none⟩)) ?_ hC (Below.refl _ _) (by intro d hd; cases hd; rfl)
      (clear hV hI hC; go_simp <;> (first | rfl | simp | (rw [IntKind.wrap_i64]; omega)))
    case o10 =>
      intro Q a w2 hC hV hI
      have e9 : a.eval (.tmp 9) = .pointer (some ⟨gh, 0, none⟩) := hV 9 (by simp [Op.operands]) (by kernel_rfl)
      have f9 : a.tmps.getD 9 undef = .pointer (some ⟨gh, 0, none⟩) := e9
      have g9 : a.tmps[9]?.getD undef = .pointer (some ⟨gh, 0, none⟩) := by rw [← Array.getD_eq_getD_getElem?]; exact e9
      refine op_val (.pointer (some ⟨gh, 1, none⟩)) ?_ hC (Below.refl _ _) (by intro d hd; cases hd; rfl)
      (clear hV hI hC; go_simp <;> (first | rfl | simp | (rw [IntKind.wrap_i64]; omega)))
    case o11 =>
      intro Q a w2 hC hV hI
      have e0 : a.eval (.tmp 0) = .pointer (some ⟨gh, 0, none⟩) := (hI 0 (by simp [Op.operands]) (by kernel_rfl)).trans rfl
      have f0 : a.tmps.getD 0 undef = .pointer (some ⟨gh, 0, none⟩) := e0
      have g0 : a.tmps[0]?.getD undef = .pointer (some ⟨gh, 0, none⟩) := by rw [← Array.getD_eq_getD_getElem?]; exact e0
      refine op_val (.pointer (some ⟨gh, 0, none⟩)) ?_ hC (Below.refl _ _) (by intro d hd; cases hd; rfl)
      (clear hV hI hC; go_simp <;> (first | rfl | simp | (rw [IntKind.wrap_i64]; omega)))
    case o12 =>
      intro Q a w2 hC hV hI
      have e11 : a.eval (.tmp 11) = .pointer (some ⟨gh, 0, none⟩) := hV 11 (by simp [Op.operands]) (by kernel_rfl)
      have f11 : a.tmps.getD 11 undef = .pointer (some ⟨gh, 0, none⟩) := e11
      have g11 : a.tmps[11]?.getD undef = .pointer (some ⟨gh, 0, none⟩) := by rw [← Array.getD_eq_getD_getElem?]; exact e11
      refine op_val (.pointer (some ⟨gh, 0, none⟩)) ?_ hC (Below.refl _ _) (by intro d hd; cases hd; rfl)
      (clear hV hI hC; go_simp <;> (first | rfl | simp | (rw [IntKind.wrap_i64]; omega)))
    case o13 =>
      intro Q a w2 hC hV hI
      have e12 : a.eval (.tmp 12) = .pointer (some ⟨gh, 0, none⟩) := hV 12 (by simp [Op.operands]) (by kernel_rfl)
      have f12 : a.tmps.getD 12 undef = .pointer (some ⟨gh, 0, none⟩) := e12
      have g12 : a.tmps[12]?.getD undef = .pointer (some ⟨gh, 0, none⟩) := by rw [← Array.getD_eq_getD_getElem?]; exact e12
      refine op_val (.pointer (some ⟨gh, 0, none⟩)) ?_ hC (Below.refl _ _) (by intro d hd; cases hd; rfl)
      (clear hV hI hC; go_simp <;> (first | rfl | simp | (rw [IntKind.wrap_i64]; omega)))
    case o14 =>
      intro Q a w2 hC hV hI
      have e13 : a.eval (.tmp 13) = .pointer (some ⟨gh, 0, none⟩) := hV 13 (by simp [Op.operands]) (by kernel_rfl)
      have f13 : a.tmps.getD 13 undef = .pointer (some ⟨gh, 0, none⟩) := e13
      have g13 : a.tmps[13]?.getD undef = .pointer (some ⟨gh, 0, none⟩) := by rw [← Array.getD_eq_getD_getElem?]; exact e13
      refine op_val (.pointer (some ⟨gh, 2, none⟩)) ?_ hC (Below.refl _ _) (by intro d hd; cases hd; rfl)
      (clear hV hI hC; go_simp <;> (first | rfl | simp | (rw [IntKind.wrap_i64]; omega)))
    case o15 =>
      intro Q a w2 hC hV hI
      have e0 : a.eval (.tmp 0) = .pointer (some ⟨gh, 0, none⟩) := (hI 0 (by simp [Op.operands]) (by kernel_rfl)).trans rfl
      have f0 : a.tmps.getD 0 undef = .pointer (some ⟨gh, 0, none⟩) := e0
      have g0 : a.tmps[0]?.getD undef = .pointer (some ⟨gh, 0, none⟩) := by rw [← Array.getD_eq_getD_getElem?]; exact e0
      refine op_val (.pointer (some ⟨gh, 0, none⟩)) ?_ hC (Below.refl _ _) (by intro d hd; cases hd; rfl)
      (clear hV hI hC; go_simp <;> (first | rfl | simp | (rw [IntKind.wrap_i64]; omega)))
    case o16 =>
      intro Q a w2 hC hV hI
      have e15 : a.eval (.tmp 15) = .pointer (some ⟨gh, 0, none⟩) := hV 15 (by simp [Op.operands]) (by kernel_rfl)
      have f15 : a.tmps.getD 15 undef = .pointer (some ⟨gh, 0, none⟩) := e15
      have g15 : a.tmps[15]?.getD undef = .pointer (some ⟨gh, 0, none⟩) := by rw [← Array.getD_eq_getD_getElem?]; exact e15
      refine op_val (.pointer (some ⟨gh, 0, none⟩)) ?_ hC (Below.refl _ _) (by intro d hd; cases hd; rfl)
      (clear hV hI hC; go_simp <;> (first | rfl | simp | (rw [IntKind.wrap_i64]; omega)))
    case o17 =>
      intro Q a w2 hC hV hI
      have e16 : a.eval (.tmp 16) = .pointer (some ⟨gh, 0, none⟩) := hV 16 (by simp [Op.operands]) (by kernel_rfl)
      have f16 : a.tmps.getD 16 undef = .pointer (some ⟨gh, 0, none⟩) := e16
      have g16 : a.tmps[16]?.getD undef = .pointer (some ⟨gh, 0, none⟩) := by rw [← Array.getD_eq_getD_getElem?]; exact e16
      refine op_val (.pointer (some ⟨gh, 0, none⟩)) ?_ hC (Below.refl _ _) (by intro d hd; cases hd; rfl)
      (clear hV hI hC; go_simp <;> (first | rfl | simp | (rw [IntKind.wrap_i64]; omega)))
    case o18 =>
      intro Q a w2 hC hV hI
      have e17 : a.eval (.tmp 17) = .pointer (some ⟨gh, 0, none⟩) := hV 17 (by simp [Op.operands]) (by kernel_rfl)
      have f17 : a.tmps.getD 17 undef = .pointer (some ⟨gh, 0, none⟩) := e17
      have g17 : a.tmps[17]?.getD undef = .pointer (some ⟨gh, 0, none⟩) := by rw [← Array.getD_eq_getD_getElem?]; exact e17
      refine op_val (.pointer (some ⟨gh, 3, none⟩)) ?_ hC (Below.refl _ _) (by intro d hd; cases hd; rfl)
      (clear hV hI hC; go_simp <;> (first | rfl | simp | (rw [IntKind.wrap_i64]; omega)))
    case o19 =>
      intro Q a w2 hC hV hI
      have e0 : a.eval (.tmp 0) = .pointer (some ⟨gh, 0, none⟩) := (hI 0 (by simp [Op.operands]) (by kernel_rfl)).trans rfl
      have f0 : a.tmps.getD 0 undef = .pointer (some ⟨gh, 0, none⟩) := e0
      have g0 : a.tmps[0]?.getD undef = .pointer (some ⟨gh, 0, none⟩) := by rw [← Array.getD_eq_getD_getElem?]; exact e0
      refine op_val (.pointer (some ⟨gh, 0, none⟩)) ?_ hC (Below.refl _ _) (by intro d hd; cases hd; rfl)
      (clear hV hI hC; go_simp <;> (first | rfl | simp | (rw [IntKind.wrap_i64]; omega)))
    case o20 =>
      intro Q a w2 hC hV hI
      have e19 : a.eval (.tmp 19) = .pointer (some ⟨gh, 0, none⟩) := hV 19 (by simp [Op.operands]) (by kernel_rfl)
      have f19 : a.tmps.getD 19 undef = .pointer (some ⟨gh, 0, none⟩) := e19
      have g19 : a.tmps[19]?.getD undef = .pointer (some ⟨gh, 0, none⟩) := by rw [← Array.getD_eq_getD_getElem?]; exact e19
      refine op_val (.pointer (some ⟨gh, 0, none⟩)) ?_ hC (Below.refl _ _) (by intro d hd; cases hd; rfl)
      (clear hV hI hC; go_simp <;> (first | rfl | simp | (rw [IntKind.wrap_i64]; omega)))
    case o21 =>
      intro Q a w2 hC hV hI
      have e20 : a.eval (.tmp 20) = .pointer (some ⟨gh, 0, none⟩) := hV 20 (by simp [Op.operands]) (by kernel_rfl)
      have f20 : a.tmps.getD 20 undef = .pointer (some ⟨gh, 0, none⟩) := e20
      have g20 : a.tmps[20]?.getD undef = .pointer (some ⟨gh, 0, none⟩) := by rw [← Array.getD_eq_getD_getElem?]; exact e20
      refine op_val (.pointer (some ⟨gh, 0, none⟩)) ?_ hC (Below.refl _ _) (by intro d hd; cases hd; rfl)
      (clear hV hI hC; go_simp <;> (first | rfl | simp | (rw [IntKind.wrap_i64]; omega)))
    case o22 =>
      intro Q a w2 hC hV hI
      have e21 : a.eval (.tmp 21) = .pointer (some ⟨gh, 0, none⟩) := hV 21 (by simp [Op.operands]) (by kernel_rfl)
      have f21 : a.tmps.getD 21 undef = .pointer (some ⟨gh, 0, none⟩) := e21
      have g21 : a.tmps[21]?.getD undef = .pointer (some ⟨gh, 0, none⟩) := by rw [← Array.getD_eq_getD_getElem?]; exact e21
      refine op_val (.pointer (some ⟨gh, 4, none⟩)) ?_ hC (Below.refl _ _) (by intro d hd; cases hd; rfl)
      (clear hV hI hC; go_simp <;> (first | rfl | simp | (rw [IntKind.wrap_i64]; omega)))
    case o23 =>
      intro Q a w2 hC hV hI
      have e0 : a.eval (.tmp 0) = .pointer (some ⟨gh, 0, none⟩) := (hI 0 (by simp [Op.operands]) (by kernel_rfl)).trans rfl
      have f0 : a.tmps.getD 0 undef = .pointer (some ⟨gh, 0, none⟩) := e0
      have g0 : a.tmps[0]?.getD undef = .pointer (some ⟨gh, 0, none⟩) := by rw [← Array.getD_eq_getD_getElem?]; exact e0
      refine op_val (.pointer (some ⟨gh, 0, none⟩)) ?_ hC (Below.refl _ _) (by intro d hd; cases hd; rfl)
      (clear hV hI hC; go_simp <;> (first | rfl | simp | (rw [IntKind.wrap_i64]; omega)))
    case o24 =>
      intro Q a w2 hC hV hI
      have e23 : a.eval (.tmp 23) = .pointer (some ⟨gh, 0, none⟩) := hV 23 (by simp [Op.operands]) (by kernel_rfl)
      have f23 : a.tmps.getD 23 undef = .pointer (some ⟨gh, 0, none⟩) := e23
      have g23 : a.tmps[23]?.getD undef = .pointer (some ⟨gh, 0, none⟩) := by rw [← Array.getD_eq_getD_getElem?]; exact e23
      refine op_val (.pointer (some ⟨gh, 0, none⟩)) ?_ hC (Below.refl _ _) (by intro d hd; cases hd; rfl)
      (clear hV hI hC; go_simp <;> (first | rfl | simp | (rw [IntKind.wrap_i64]; omega)))
    case o25 =>
      intro Q a w2 hC hV hI
      have e24 : a.eval (.tmp 24) = .pointer (some ⟨gh, 0, none⟩) := hV 24 (by simp [Op.operands]) (by kernel_rfl)
      have f24 : a.tmps.getD 24 undef = .pointer (some ⟨gh, 0, none⟩) := e24
      have g24 : a.tmps[24]?.getD undef = .pointer (some ⟨gh, 0, none⟩) := by rw [← Array.getD_eq_getD_getElem?]; exact e24
      refine op_val (.pointer (some ⟨gh, 0, none⟩)) ?_ hC (Below.refl _ _) (by intro d hd; cases hd; rfl)
      (clear hV hI hC; go_simp <;> (first | rfl | simp | (rw [IntKind.wrap_i64]; omega)))
    case o26 =>
      intro Q a w2 hC hV hI
      have e25 : a.eval (.tmp 25) = .pointer (some ⟨gh, 0, none⟩) := hV 25 (by simp [Op.operands]) (by kernel_rfl)
      have f25 : a.tmps.getD 25 undef = .pointer (some ⟨gh, 0, none⟩) := e25
      have g25 : a.tmps[25]?.getD undef = .pointer (some ⟨gh, 0, none⟩) := by rw [← Array.getD_eq_getD_getElem?]; exact e25
      refine op_val (.pointer (some ⟨gh, 5, none⟩)) ?_ hC (Below.refl _ _) (by intro d hd; cases hd; rfl)
      (clear hV hI hC; go_simp <;> (first | rfl | simp | (rw [IntKind.wrap_i64]; omega)))
    case o27 =>
      intro Q a w2 hC hV hI
      have e0 : a.eval (.tmp 0) = .pointer (some ⟨gh, 0, none⟩) := (hI 0 (by simp [Op.operands]) (by kernel_rfl)).trans rfl
      have f0 : a.tmps.getD 0 undef = .pointer (some ⟨gh, 0, none⟩) := e0
      have g0 : a.tmps[0]?.getD undef = .pointer (some ⟨gh, 0, none⟩) := by rw [← Array.getD_eq_getD_getElem?]; exact e0
      refine op_val (.pointer (some ⟨gh, 0, none⟩)) ?_ hC (Below.refl _ _) (by intro d hd; cases hd; rfl)
      (clear hV hI hC; go_simp <;> (first | rfl | simp | (rw [IntKind.wrap_i64]; omega)))
    case o28 =>
      intro Q a w2 hC hV hI
      have e27 : a.eval (.tmp 27) = .pointer (some ⟨gh, 0, none⟩) := hV 27 (by simp [Op.operands]) (by kernel_rfl)
      have f27 : a.tmps.getD 27 undef = .pointer (some ⟨gh, 0, none⟩) := e27
      have g27 : a.tmps[27]?.getD undef = .pointer (some ⟨gh, 0, none⟩) := by rw [← Array.getD_eq_getD_getElem?]; exact e27
      refine op_val (.pointer (some ⟨gh, 0, none⟩)) ?_ hC (Below.refl _ _) (by intro d hd; cases hd; rfl)
      (clear hV hI hC; go_simp <;> (first | rfl | simp | (rw [IntKind.wrap_i64]; omega)))
    case o29 =>
      intro Q a w2 hC hV hI
      have e28 : a.eval (.tmp 28) = .pointer (some ⟨gh, 0, none⟩) := hV 28 (by simp [Op.operands]) (by kernel_rfl)
      have f28 : a.tmps.getD 28 undef = .pointer (some ⟨gh, 0, none⟩) := e28
      have g28 : a.tmps[28]?.getD undef = .pointer (some ⟨gh, 0, none⟩) := by rw [← Array.getD_eq_getD_getElem?]; exact e28
      refine op_val (.pointer (some ⟨gh, 8, none⟩)) ?_ hC (Below.refl _ _) (by intro d hd; cases hd; rfl)
      (clear hV hI hC; go_simp <;> (first | rfl | simp | (rw [IntKind.wrap_i64]; omega)))
    case o30 =>
      intro Q a w2 hC hV hI
      have e0 : a.eval (.tmp 0) = .pointer (some ⟨gh, 0, none⟩) := (hI 0 (by simp [Op.operands]) (by kernel_rfl)).trans rfl
      have f0 : a.tmps.getD 0 undef = .pointer (some ⟨gh, 0, none⟩) := e0
      have g0 : a.tmps[0]?.getD undef = .pointer (some ⟨gh, 0, none⟩) := by rw [← Array.getD_eq_getD_getElem?]; exact e0
      refine op_val (.pointer (some ⟨gh, 0, none⟩)) ?_ hC (Below.refl _ _) (by intro d hd; cases hd; rfl)
      (clear hV hI hC; go_simp <;> (first | rfl | simp | (rw [IntKind.wrap_i64]; omega)))
    case o31 =>
      intro Q a w2 hC hV hI
      have e30 : a.eval (.tmp 30) = .pointer (some ⟨gh, 0, none⟩) := hV 30 (by simp [Op.operands]) (by kernel_rfl)
      have f30 : a.tmps.getD 30 undef = .pointer (some ⟨gh, 0, none⟩) := e30
      have g30 : a.tmps[30]?.getD undef = .pointer (some ⟨gh, 0, none⟩) := by rw [← Array.getD_eq_getD_getElem?]; exact e30
      refine op_val (.pointer (some ⟨gh, 0, none⟩)) ?_ hC (Below.refl _ _) (by intro d hd; cases hd; rfl)
      (clear hV hI hC; go_simp <;> (first | rfl | simp | (rw [IntKind.wrap_i64]; omega)))
    case o32 =>
      intro Q a w2 hC hV hI
      have e31 : a.eval (.tmp 31) = .pointer (some ⟨gh, 0, none⟩) := hV 31 (by simp [Op.operands]) (by kernel_rfl)
      have f31 : a.tmps.getD 31 undef = .pointer (some ⟨gh, 0, none⟩) := e31
      have g31 : a.tmps[31]?.getD undef = .pointer (some ⟨gh, 0, none⟩) := by rw [← Array.getD_eq_getD_getElem?]; exact e31
      refine op_val (.pointer (some ⟨gh, 9, none⟩)) ?_ hC (Below.refl _ _) (by intro d hd; cases hd; rfl)
      (clear hV hI hC; go_simp <;> (first | rfl | simp | (rw [IntKind.wrap_i64]; omega)))
    case o33 =>
      intro Q a w2 hC hV hI
      have e32 : a.eval (.tmp 32) = .pointer (some ⟨gh, 9, none⟩) := hV 32 (by simp [Op.operands]) (by kernel_rfl)
      have f32 : a.tmps.getD 32 undef = .pointer (some ⟨gh, 9, none⟩) := e32
      have g32 : a.tmps[32]?.getD undef = .pointer (some ⟨gh, 9, none⟩) := by rw [← Array.getD_eq_getD_getElem?]; exact e32
      refine op_val (.pointer (some ⟨gh, 9, none⟩)) ?_ hC (Below.refl _ _) (by intro d hd; cases hd; rfl)
      (clear hV hI hC; go_simp <;> (first | rfl | simp | (rw [IntKind.wrap_i64]; omega)))
    case o34 =>
      intro Q a w2 hC hV hI
      have e0 : a.eval (.tmp 0) = .pointer (some ⟨gh, 0, none⟩) := (hI 0 (by simp [Op.operands]) (by kernel_rfl)).trans rfl
      have f0 : a.tmps.getD 0 undef = .pointer (some ⟨gh, 0, none⟩) := e0
      have g0 : a.tmps[0]?.getD undef = .pointer (some ⟨gh, 0, none⟩) := by rw [← Array.getD_eq_getD_getElem?]; exact e0
      refine op_val (.pointer (some ⟨gh, 0, none⟩)) ?_ hC (Below.refl _ _) (by intro d hd; cases hd; rfl)
      (clear hV hI hC; go_simp <;> (first | rfl | simp | (rw [IntKind.wrap_i64]; omega)))
    case o35 =>
      intro Q a w2 hC hV hI
      have e34 : a.eval (.tmp 34) = .pointer (some ⟨gh, 0, none⟩) := hV 34 (by simp [Op.operands]) (by kernel_rfl)
      have f34 : a.tmps.getD 34 undef = .pointer (some ⟨gh, 0, none⟩) := e34
      have g34 : a.tmps[34]?.getD undef = .pointer (some ⟨gh, 0, none⟩) := by rw [← Array.getD_eq_getD_getElem?]; exact e34
      refine op_val (.pointer (some ⟨gh, 0, none⟩)) ?_ hC (Below.refl _ _) (by intro d hd; cases hd; rfl)
      (clear hV hI hC; go_simp <;> (first | rfl | simp | (rw [IntKind.wrap_i64]; omega)))
    case o36 =>
      intro Q a w2 hC hV hI
      have e35 : a.eval (.tmp 35) = .pointer (some ⟨gh, 0, none⟩) := hV 35 (by simp [Op.operands]) (by kernel_rfl)
      have f35 : a.tmps.getD 35 undef = .pointer (some ⟨gh, 0, none⟩) := e35
      have g35 : a.tmps[35]?.getD undef = .pointer (some ⟨gh, 0, none⟩) := by rw [← Array.getD_eq_getD_getElem?]; exact e35
      refine op_val (.pointer (some ⟨gh, 9, none⟩)) ?_ hC (Below.refl _ _) (by intro d hd; cases hd; rfl)
      (clear hV hI hC; go_simp <;> (first | rfl | simp | (rw [IntKind.wrap_i64]; omega)))
    case o37 =>
      intro Q a w2 hC hV hI
      have e36 : a.eval (.tmp 36) = .pointer (some ⟨gh, 9, none⟩) := hV 36 (by simp [Op.operands]) (by kernel_rfl)
      have f36 : a.tmps.getD 36 undef = .pointer (some ⟨gh, 9, none⟩) := e36
      have g36 : a.tmps[36]?.getD undef = .pointer (some ⟨gh, 9, none⟩) := by rw [← Array.getD_eq_getD_getElem?]; exact e36
      refine op_val (.pointer (some ⟨gh, 10, none⟩)) ?_ hC (Below.refl _ _) (by intro d hd; cases hd; rfl)
      (clear hV hI hC; go_simp <;> (first | rfl | simp | (rw [IntKind.wrap_i64]; omega)))
    case o38 =>
      intro Q a w2 hC hV hI
      have e0 : a.eval (.tmp 0) = .pointer (some ⟨gh, 0, none⟩) := (hI 0 (by simp [Op.operands]) (by kernel_rfl)).trans rfl
      have f0 : a.tmps.getD 0 undef = .pointer (some ⟨gh, 0, none⟩) := e0
      have g0 : a.tmps[0]?.getD undef = .pointer (some ⟨gh, 0, none⟩) := by rw [← Array.getD_eq_getD_getElem?]; exact e0
      refine op_val (.pointer (some ⟨gh, 0, none⟩)) ?_ hC (Below.refl _ _) (by intro d hd; cases hd; rfl)
      (clear hV hI hC; go_simp <;> (first | rfl | simp | (rw [IntKind.wrap_i64]; omega)))
    case o39 =>
      intro Q a w2 hC hV hI
      have e38 : a.eval (.tmp 38) = .pointer (some ⟨gh, 0, none⟩) := hV 38 (by simp [Op.operands]) (by kernel_rfl)
      have f38 : a.tmps.getD 38 undef = .pointer (some ⟨gh, 0, none⟩) := e38
      have g38 : a.tmps[38]?.getD undef = .pointer (some ⟨gh, 0, none⟩) := by rw [← Array.getD_eq_getD_getElem?]; exact e38
      refine op_val (.pointer (some ⟨gh, 0, none⟩)) ?_ hC (Below.refl _ _) (by intro d hd; cases hd; rfl)
      (clear hV hI hC; go_simp <;> (first | rfl | simp | (rw [IntKind.wrap_i64]; omega)))
    case o40 =>
      intro Q a w2 hC hV hI
      have e39 : a.eval (.tmp 39) = .pointer (some ⟨gh, 0, none⟩) := hV 39 (by simp [Op.operands]) (by kernel_rfl)
      have f39 : a.tmps.getD 39 undef = .pointer (some ⟨gh, 0, none⟩) := e39
      have g39 : a.tmps[39]?.getD undef = .pointer (some ⟨gh, 0, none⟩) := by rw [← Array.getD_eq_getD_getElem?]; exact e39
      refine op_val (.pointer (some ⟨gh, 9, none⟩)) ?_ hC (Below.refl _ _) (by intro d hd; cases hd; rfl)
      (clear hV hI hC; go_simp <;> (first | rfl | simp | (rw [IntKind.wrap_i64]; omega)))
    case o41 =>
      intro Q a w2 hC hV hI
      have e40 : a.eval (.tmp 40) = .pointer (some ⟨gh, 9, none⟩) := hV 40 (by simp [Op.operands]) (by kernel_rfl)
      have f40 : a.tmps.getD 40 undef = .pointer (some ⟨gh, 9, none⟩) := e40
      have g40 : a.tmps[40]?.getD undef = .pointer (some ⟨gh, 9, none⟩) := by rw [← Array.getD_eq_getD_getElem?]; exact e40
      refine op_val (.pointer (some ⟨gh, 11, none⟩)) ?_ hC (Below.refl _ _) (by intro d hd; cases hd; rfl)
      (clear hV hI hC; go_simp <;> (first | rfl | simp | (rw [IntKind.wrap_i64]; omega)))
    case o42 =>
      intro Q a w2 hC hV hI
      have e0 : a.eval (.tmp 0) = .pointer (some ⟨gh, 0, none⟩) := (hI 0 (by simp [Op.operands]) (by kernel_rfl)).trans rfl
      have f0 : a.tmps.getD 0 undef = .pointer (some ⟨gh, 0, none⟩) := e0
      have g0 : a.tmps[0]?.getD undef = .pointer (some ⟨gh, 0, none⟩) := by rw [← Array.getD_eq_getD_getElem?]; exact e0
      refine op_val (.pointer (some ⟨gh, 0, none⟩)) ?_ hC (Below.refl _ _) (by intro d hd; cases hd; rfl)
      (clear hV hI hC; go_simp <;> (first | rfl | simp | (rw [IntKind.wrap_i64]; omega)))
    case o43 =>
      intro Q a w2 hC hV hI
      have e42 : a.eval (.tmp 42) = .pointer (some ⟨gh, 0, none⟩) := hV 42 (by simp [Op.operands]) (by kernel_rfl)
      have f42 : a.tmps.getD 42 undef = .pointer (some ⟨gh, 0, none⟩) := e42
      have g42 : a.tmps[42]?.getD undef = .pointer (some ⟨gh, 0, none⟩) := by rw [← Array.getD_eq_getD_getElem?]; exact e42
      refine op_val (.pointer (some ⟨gh, 0, none⟩)) ?_ hC (Below.refl _ _) (by intro d hd; cases hd; rfl)
      (clear hV hI hC; go_simp <;> (first | rfl | simp | (rw [IntKind.wrap_i64]; omega)))
    case o44 =>
      intro Q a w2 hC hV hI
      have e43 : a.eval (.tmp 43) = .pointer (some ⟨gh, 0, none⟩) := hV 43 (by simp [Op.operands]) (by kernel_rfl)
      have f43 : a.tmps.getD 43 undef = .pointer (some ⟨gh, 0, none⟩) := e43
      have g43 : a.tmps[43]?.getD undef = .pointer (some ⟨gh, 0, none⟩) := by rw [← Array.getD_eq_getD_getElem?]; exact e43
      refine op_val (.pointer (some ⟨gh, 9, none⟩)) ?_ hC (Below.refl _ _) (by intro d hd; cases hd; rfl)
      (clear hV hI hC; go_simp <;> (first | rfl | simp | (rw [IntKind.wrap_i64]; omega)))
    case o45 =>
      intro Q a w2 hC hV hI
      have e44 : a.eval (.tmp 44) = .pointer (some ⟨gh, 9, none⟩) := hV 44 (by simp [Op.operands]) (by kernel_rfl)
      have f44 : a.tmps.getD 44 undef = .pointer (some ⟨gh, 9, none⟩) := e44
      have g44 : a.tmps[44]?.getD undef = .pointer (some ⟨gh, 9, none⟩) := by rw [← Array.getD_eq_getD_getElem?]; exact e44
      refine op_val (.pointer (some ⟨gh, 12, none⟩)) ?_ hC (Below.refl _ _) (by intro d hd; cases hd; rfl)
      (clear hV hI hC; go_simp <;> (first | rfl | simp | (rw [IntKind.wrap_i64]; omega)))
    case o46 =>
      intro Q a w2 hC hV hI
      have e0 : a.eval (.tmp 0) = .pointer (some ⟨gh, 0, none⟩) := (hI 0 (by simp [Op.operands]) (by kernel_rfl)).trans rfl
      have f0 : a.tmps.getD 0 undef = .pointer (some ⟨gh, 0, none⟩) := e0
      have g0 : a.tmps[0]?.getD undef = .pointer (some ⟨gh, 0, none⟩) := by rw [← Array.getD_eq_getD_getElem?]; exact e0
      refine op_val (.pointer (some ⟨gh, 0, none⟩)) ?_ hC (Below.refl _ _) (by intro d hd; cases hd; rfl)
      (clear hV hI hC; go_simp <;> (first | rfl | simp | (rw [IntKind.wrap_i64]; omega)))
    case o47 =>
      intro Q a w2 hC hV hI
      have e46 : a.eval (.tmp 46) = .pointer (some ⟨gh, 0, none⟩) := hV 46 (by simp [Op.operands]) (by kernel_rfl)
      have f46 : a.tmps.getD 46 undef = .pointer (some ⟨gh, 0, none⟩) := e46
      have g46 : a.tmps[46]?.getD undef = .pointer (some ⟨gh, 0, none⟩) := by rw [← Array.getD_eq_getD_getElem?]; exact e46
      refine op_val (.pointer (some ⟨gh, 0, none⟩)) ?_ hC (Below.refl _ _) (by intro d hd; cases hd; rfl)
      (clear hV hI hC; go_simp <;> (first | rfl | simp | (rw [IntKind.wrap_i64]; omega)))
    case o48 =>
      intro Q a w2 hC hV hI
      have e47 : a.eval (.tmp 47) = .pointer (some ⟨gh, 0, none⟩) := hV 47 (by simp [Op.operands]) (by kernel_rfl)
      have f47 : a.tmps.getD 47 undef = .pointer (some ⟨gh, 0, none⟩) := e47
      have g47 : a.tmps[47]?.getD undef = .pointer (some ⟨gh, 0, none⟩) := by rw [← Array.getD_eq_getD_getElem?]; exact e47
      refine op_val (.pointer (some ⟨gh, 13, none⟩)) ?_ hC (Below.refl _ _) (by intro d hd; cases hd; rfl)
      (clear hV hI hC; go_simp <;> (first | rfl | simp | (rw [IntKind.wrap_i64]; omega)))
    case o49 =>
      intro Q a w2 hC hV hI
      have e0 : a.eval (.tmp 0) = .pointer (some ⟨gh, 0, none⟩) := (hI 0 (by simp [Op.operands]) (by kernel_rfl)).trans rfl
      have f0 : a.tmps.getD 0 undef = .pointer (some ⟨gh, 0, none⟩) := e0
      have g0 : a.tmps[0]?.getD undef = .pointer (some ⟨gh, 0, none⟩) := by rw [← Array.getD_eq_getD_getElem?]; exact e0
      refine op_val (.pointer (some ⟨gh, 0, none⟩)) ?_ hC (Below.refl _ _) (by intro d hd; cases hd; rfl)
      (clear hV hI hC; go_simp <;> (first | rfl | simp | (rw [IntKind.wrap_i64]; omega)))
    case o50 =>
      intro Q a w2 hC hV hI
      have e49 : a.eval (.tmp 49) = .pointer (some ⟨gh, 0, none⟩) := hV 49 (by simp [Op.operands]) (by kernel_rfl)
      have f49 : a.tmps.getD 49 undef = .pointer (some ⟨gh, 0, none⟩) := e49
      have g49 : a.tmps[49]?.getD undef = .pointer (some ⟨gh, 0, none⟩) := by rw [← Array.getD_eq_getD_getElem?]; exact e49
      refine op_val (.pointer (some ⟨gh, 0, none⟩)) ?_ hC (Below.refl _ _) (by intro d hd; cases hd; rfl)
      (clear hV hI hC; go_simp <;> (first | rfl | simp | (rw [IntKind.wrap_i64]; omega)))
    case o51 =>
      intro Q a w2 hC hV hI
      have e50 : a.eval (.tmp 50) = .pointer (some ⟨gh, 0, none⟩) := hV 50 (by simp [Op.operands]) (by kernel_rfl)
      have f50 : a.tmps.getD 50 undef = .pointer (some ⟨gh, 0, none⟩) := e50
      have g50 : a.tmps[50]?.getD undef = .pointer (some ⟨gh, 0, none⟩) := by rw [← Array.getD_eq_getD_getElem?]; exact e50
      refine op_val (.pointer (some ⟨gh, 14, none⟩)) ?_ hC (Below.refl _ _) (by intro d hd; cases hd; rfl)
      (clear hV hI hC; go_simp <;> (first | rfl | simp | (rw [IntKind.wrap_i64]; omega)))
    case o52 =>
      intro Q a w2 hC hV hI
      have e6 : a.eval (.tmp 6) = .pointer (some ⟨gh, 0, none⟩) := hV 6 (by simp [Op.operands]) (by kernel_rfl)
      have f6 : a.tmps.getD 6 undef = .pointer (some ⟨gh, 0, none⟩) := e6
      have g6 : a.tmps[6]?.getD undef = .pointer (some ⟨gh, 0, none⟩) := by rw [← Array.getD_eq_getD_getElem?]; exact e6
      have e10 : a.eval (.tmp 10) = .pointer (some ⟨gh, 1, none⟩) := hV 10 (by simp [Op.operands]) (by kernel_rfl)
      have f10 : a.tmps.getD 10 undef = .pointer (some ⟨gh, 1, none⟩) := e10
      have g10 : a.tmps[10]?.getD undef = .pointer (some ⟨gh, 1, none⟩) := by rw [← Array.getD_eq_getD_getElem?]; exact e10
      have e14 : a.eval (.tmp 14) = .pointer (some ⟨gh, 2, none⟩) := hV 14 (by simp [Op.operands]) (by kernel_rfl)
      have f14 : a.tmps.getD 14 undef = .pointer (some ⟨gh, 2, none⟩) := e14
      have g14 : a.tmps[14]?.getD undef = .pointer (some ⟨gh, 2, none⟩) := by rw [← Array.getD_eq_getD_getElem?]; exact e14
      have e18 : a.eval (.tmp 18) = .pointer (some ⟨gh, 3, none⟩) := hV 18 (by simp [Op.operands]) (by kernel_rfl)
      have f18 : a.tmps.getD 18 undef = .pointer (some ⟨gh, 3, none⟩) := e18
      have g18 : a.tmps[18]?.getD undef = .pointer (some ⟨gh, 3, none⟩) := by rw [← Array.getD_eq_getD_getElem?]; exact e18
      have e22 : a.eval (.tmp 22) = .pointer (some ⟨gh, 4, none⟩) := hV 22 (by simp [Op.operands]) (by kernel_rfl)
      have f22 : a.tmps.getD 22 undef = .pointer (some ⟨gh, 4, none⟩) := e22
      have g22 : a.tmps[22]?.getD undef = .pointer (some ⟨gh, 4, none⟩) := by rw [← Array.getD_eq_getD_getElem?]; exact e22
      have e26 : a.eval (.tmp 26) = .pointer (some ⟨gh, 5, none⟩) := hV 26 (by simp [Op.operands]) (by kernel_rfl)
      have f26 : a.tmps.getD 26 undef = .pointer (some ⟨gh, 5, none⟩) := e26
      have g26 : a.tmps[26]?.getD undef = .pointer (some ⟨gh, 5, none⟩) := by rw [← Array.getD_eq_getD_getElem?]; exact e26
      have e29 : a.eval (.tmp 29) = .pointer (some ⟨gh, 8, none⟩) := hV 29 (by simp [Op.operands]) (by kernel_rfl)
      have f29 : a.tmps.getD 29 undef = .pointer (some ⟨gh, 8, none⟩) := e29
      have g29 : a.tmps[29]?.getD undef = .pointer (some ⟨gh, 8, none⟩) := by rw [← Array.getD_eq_getD_getElem?]; exact e29
      have e33 : a.eval (.tmp 33) = .pointer (some ⟨gh, 9, none⟩) := hV 33 (by simp [Op.operands]) (by kernel_rfl)
      have f33 : a.tmps.getD 33 undef = .pointer (some ⟨gh, 9, none⟩) := e33
      have g33 : a.tmps[33]?.getD undef = .pointer (some ⟨gh, 9, none⟩) := by rw [← Array.getD_eq_getD_getElem?]; exact e33
      have e37 : a.eval (.tmp 37) = .pointer (some ⟨gh, 10, none⟩) := hV 37 (by simp [Op.operands]) (by kernel_rfl)
      have f37 : a.tmps.getD 37 undef = .pointer (some ⟨gh, 10, none⟩) := e37
      have g37 : a.tmps[37]?.getD undef = .pointer (some ⟨gh, 10, none⟩) := by rw [← Array.getD_eq_getD_getElem?]; exact e37
      have e41 : a.eval (.tmp 41) = .pointer (some ⟨gh, 11, none⟩) := hV 41 (by simp [Op.operands]) (by kernel_rfl)
      have f41 : a.tmps.getD 41 undef = .pointer (some ⟨gh, 11, none⟩) := e41
      have g41 : a.tmps[41]?.getD undef = .pointer (some ⟨gh, 11, none⟩) := by rw [← Array.getD_eq_getD_getElem?]; exact e41
      have e45 : a.eval (.tmp 45) = .pointer (some ⟨gh, 12, none⟩) := hV 45 (by simp [Op.operands]) (by kernel_rfl)
      have f45 : a.tmps.getD 45 undef = .pointer (some ⟨gh, 12, none⟩) := e45
      have g45 : a.tmps[45]?.getD undef = .pointer (some ⟨gh, 12, none⟩) := by rw [← Array.getD_eq_getD_getElem?]; exact e45
      have e48 : a.eval (.tmp 48) = .pointer (some ⟨gh, 13, none⟩) := hV 48 (by simp [Op.operands]) (by kernel_rfl)
      have f48 : a.tmps.getD 48 undef = .pointer (some ⟨gh, 13, none⟩) := e48
      have g48 : a.tmps[48]?.getD undef = .pointer (some ⟨gh, 13, none⟩) := by rw [← Array.getD_eq_getD_getElem?]; exact e48
      have e51 : a.eval (.tmp 51) = .pointer (some ⟨gh, 14, none⟩) := hV 51 (by simp [Op.operands]) (by kernel_rfl)
      have f51 : a.tmps.getD 51 undef = .pointer (some ⟨gh, 14, none⟩) := e51
      have g51 : a.tmps[51]?.getD undef = .pointer (some ⟨gh, 14, none⟩) := by rw [← Array.getD_eq_getD_getElem?]; exact e51
      refine op_val (.agg #[.pointer (some ⟨gh, 0, none⟩), .pointer (some ⟨gh, 1, none⟩), .pointer (some ⟨gh, 2, none⟩), .pointer (some ⟨gh, 3, none⟩), .pointer (some ⟨gh, 4, none⟩), .pointer (some ⟨gh, 5, none⟩), .pointer (some ⟨gh, 8, none⟩), .pointer (some ⟨gh, 9, none⟩), .pointer (some ⟨gh, 10, none⟩), .pointer (some ⟨gh, 11, none⟩), .pointer (some ⟨gh, 12, none⟩), .pointer (some ⟨gh, 13, none⟩), .pointer (some ⟨gh, 14, none⟩)]) ?_ hC (Below.refl _ _) (by intro d hd; cases hd; rfl)
      (clear hV hI hC; go_simp <;> (first | rfl | simp | (rw [IntKind.wrap_i64]; omega)))
  case hend =>
    intro f w2 hC hall
    simp only [List.take_succ_cons, List.take_zero, List.drop_succ_cons, List.drop_zero] at hall ⊢
    simp only [List.forall_mem_cons] at hall
    obtain ⟨h3, h4, h5, h6, h7, h8, h9, h10, h11, h12, h13, h14, h15, h16, h17, h18, h19, h20, h21, h22, h23, h24, h25, h26, h27, h28, h29, h30, h31, h32, h33, h34, h35, h36, h37, h38, h39, h40, h41, h42, h43, h44, h45, h46, h47, h48, h49, h50, h51, h52, _⟩ := hall
    replace h3 : f 3 = .pointer (some ⟨gh, 0, none⟩) := h3 3 rfl
    replace h4 : f 4 = .pointer (some ⟨gh, 0, none⟩) := h4 4 rfl
    replace h5 : f 5 = .pointer (some ⟨gh, 0, none⟩) := h5 5 rfl
    replace h6 : f 6 = .pointer (some ⟨gh, 0, none⟩) := h6 6 rfl
    replace h7 : f 7 = .pointer (some ⟨gh, 0, none⟩) := h7 7 rfl
    replace h8 : f 8 = .pointer (some ⟨gh, 0, none⟩) := h8 8 rfl
    replace h9 : f 9 = .pointer (some ⟨gh, 0, none⟩) := h9 9 rfl
    replace h10 : f 10 = .pointer (some ⟨gh, 1, none⟩) := h10 10 rfl
    replace h11 : f 11 = .pointer (some ⟨gh, 0, none⟩) := h11 11 rfl
    replace h12 : f 12 = .pointer (some ⟨gh, 0, none⟩) := h12 12 rfl
    replace h13 : f 13 = .pointer (some ⟨gh, 0, none⟩) := h13 13 rfl
    replace h14 : f 14 = .pointer (some ⟨gh, 2, none⟩) := h14 14 rfl
    replace h15 : f 15 = .pointer (some ⟨gh, 0, none⟩) := h15 15 rfl
    replace h16 : f 16 = .pointer (some ⟨gh, 0, none⟩) := h16 16 rfl
    replace h17 : f 17 = .pointer (some ⟨gh, 0, none⟩) := h17 17 rfl
    replace h18 : f 18 = .pointer (some ⟨gh, 3, none⟩) := h18 18 rfl
    replace h19 : f 19 = .pointer (some ⟨gh, 0, none⟩) := h19 19 rfl
    replace h20 : f 20 = .pointer (some ⟨gh, 0, none⟩) := h20 20 rfl
    replace h21 : f 21 = .pointer (some ⟨gh, 0, none⟩) := h21 21 rfl
    replace h22 : f 22 = .pointer (some ⟨gh, 4, none⟩) := h22 22 rfl
    replace h23 : f 23 = .pointer (some ⟨gh, 0, none⟩) := h23 23 rfl
    replace h24 : f 24 = .pointer (some ⟨gh, 0, none⟩) := h24 24 rfl
    replace h25 : f 25 = .pointer (some ⟨gh, 0, none⟩) := h25 25 rfl
    replace h26 : f 26 = .pointer (some ⟨gh, 5, none⟩) := h26 26 rfl
    replace h27 : f 27 = .pointer (some ⟨gh, 0, none⟩) := h27 27 rfl
    replace h28 : f 28 = .pointer (some ⟨gh, 0, none⟩) := h28 28 rfl
    replace h29 : f 29 = .pointer (some ⟨gh, 8, none⟩) := h29 29 rfl
    replace h30 : f 30 = .pointer (some ⟨gh, 0, none⟩) := h30 30 rfl
    replace h31 : f 31 = .pointer (some ⟨gh, 0, none⟩) := h31 31 rfl
    replace h32 : f 32 = .pointer (some ⟨gh, 9, none⟩) := h32 32 rfl
    replace h33 : f 33 = .pointer (some ⟨gh, 9, none⟩) := h33 33 rfl
    replace h34 : f 34 = .pointer (some ⟨gh, 0, none⟩) := h34 34 rfl
    replace h35 : f 35 = .pointer (some ⟨gh, 0, none⟩) := h35 35 rfl
    replace h36 : f 36 = .pointer (some ⟨gh, 9, none⟩) := h36 36 rfl
    replace h37 : f 37 = .pointer (some ⟨gh, 10, none⟩) := h37 37 rfl
    replace h38 : f 38 = .pointer (some ⟨gh, 0, none⟩) := h38 38 rfl
    replace h39 : f 39 = .pointer (some ⟨gh, 0, none⟩) := h39 39 rfl
    replace h40 : f 40 = .pointer (some ⟨gh, 9, none⟩) := h40 40 rfl
    replace h41 : f 41 = .pointer (some ⟨gh, 11, none⟩) := h41 41 rfl
    replace h42 : f 42 = .pointer (some ⟨gh, 0, none⟩) := h42 42 rfl
    replace h43 : f 43 = .pointer (some ⟨gh, 0, none⟩) := h43 43 rfl
    replace h44 : f 44 = .pointer (some ⟨gh, 9, none⟩) := h44 44 rfl
    replace h45 : f 45 = .pointer (some ⟨gh, 12, none⟩) := h45 45 rfl
    replace h46 : f 46 = .pointer (some ⟨gh, 0, none⟩) := h46 46 rfl
    replace h47 : f 47 = .pointer (some ⟨gh, 0, none⟩) := h47 47 rfl
    replace h48 : f 48 = .pointer (some ⟨gh, 13, none⟩) := h48 48 rfl
    replace h49 : f 49 = .pointer (some ⟨gh, 0, none⟩) := h49 49 rfl
    replace h50 : f 50 = .pointer (some ⟨gh, 0, none⟩) := h50 50 rfl
    replace h51 : f 51 = .pointer (some ⟨gh, 14, none⟩) := h51 51 rfl
    replace h52 : f 52 = .agg #[.pointer (some ⟨gh, 0, none⟩), .pointer (some ⟨gh, 1, none⟩), .pointer (some ⟨gh, 2, none⟩), .pointer (some ⟨gh, 3, none⟩), .pointer (some ⟨gh, 4, none⟩), .pointer (some ⟨gh, 5, none⟩), .pointer (some ⟨gh, 8, none⟩), .pointer (some ⟨gh, 9, none⟩), .pointer (some ⟨gh, 10, none⟩), .pointer (some ⟨gh, 11, none⟩), .pointer (some ⟨gh, 12, none⟩), .pointer (some ⟨gh, 13, none⟩), .pointer (some ⟨gh, 14, none⟩)] := h52 52 rfl
    simp only [putAll, Act.put, List.setIfInBounds_toArray, List.set_cons_succ, List.set_cons_zero, h3, h4, h5, h6, h7, h8, h9, h10, h11, h12, h13, h14, h15, h16, h17, h18, h19, h20, h21, h22, h23, h24, h25, h26, h27, h28, h29, h30, h31, h32, h33, h34, h35, h36, h37, h38, h39, h40, h41, h42, h43, h44, h45, h46, h47, h48, h49, h50, h51, h52]
    clear h3 h4 h5 h6 h7 h8 h9 h10 h11 h12 h13 h14 h15 h16 h17 h18 h19 h20 h21 h22 h23 h24 h25 h26 h27 h28 h29 h30 h31 h32 h33 h34 h35 h36 h37 h38 h39 h40 h41 h42 h43 h44 h45 h46 h47 h48 h49 h50 h51 h52
    have hR : w2.heap[w.heap.size]? = some (.cells #[.pointer none, .pointer none, .pointer none, .pointer none, .pointer none, .pointer none, .pointer none, .pointer none, .pointer none, .pointer none, .pointer none, .pointer none, .pointer none] 167 (0, 0)) := (hC.block _ hlt).trans XB.out
    have B2 := B.out.trans (hC.mono B.out.size)
    clear XB B hC
    have d0 : w2.cell? ⟨w.heap.size, 0, none⟩ = some (.pointer none) := by simp [World.cell?, hR]
    have d1 : w2.cell? ⟨w.heap.size, 1, none⟩ = some (.pointer none) := by simp [World.cell?, hR]
    have d2 : w2.cell? ⟨w.heap.size, 2, none⟩ = some (.pointer none) := by simp [World.cell?, hR]
    have d3 : w2.cell? ⟨w.heap.size, 3, none⟩ = some (.pointer none) := by simp [World.cell?, hR]
    have d4 : w2.cell? ⟨w.heap.size, 4, none⟩ = some (.pointer none) := by simp [World.cell?, hR]
    have d5 : w2.cell? ⟨w.heap.size, 5, none⟩ = some (.pointer none) := by simp [World.cell?, hR]
    have d6 : w2.cell? ⟨w.heap.size, 6, none⟩ = some (.pointer none) := by simp [World.cell?, hR]
    have d7 : w2.cell? ⟨w.heap.size, 7, none⟩ = some (.pointer none) := by simp [World.cell?, hR]
    have d8 : w2.cell? ⟨w.heap.size, 8, none⟩ = some (.pointer none) := by simp [World.cell?, hR]
    have d9 : w2.cell? ⟨w.heap.size, 9, none⟩ = some (.pointer none) := by simp [World.cell?, hR]
    have d10 : w2.cell? ⟨w.heap.size, 10, none⟩ = some (.pointer none) := by simp [World.cell?, hR]
    have d11 : w2.cell? ⟨w.heap.size, 11, none⟩ = some (.pointer none) := by simp [World.cell?, hR]
    have d12 : w2.cell? ⟨w.heap.size, 12, none⟩ = some (.pointer none) := by simp [World.cell?, hR]
    have f0 : w2.frozen? ⟨w.heap.size, 0, none⟩ = false := by simp [World.frozen?, hR]
    have f1 : w2.frozen? ⟨w.heap.size, 1, none⟩ = false := by simp [World.frozen?, hR]
    have f2 : w2.frozen? ⟨w.heap.size, 2, none⟩ = false := by simp [World.frozen?, hR]
    have f3 : w2.frozen? ⟨w.heap.size, 3, none⟩ = false := by simp [World.frozen?, hR]
    have f4 : w2.frozen? ⟨w.heap.size, 4, none⟩ = false := by simp [World.frozen?, hR]
    have f5 : w2.frozen? ⟨w.heap.size, 5, none⟩ = false := by simp [World.frozen?, hR]
    have f6 : w2.frozen? ⟨w.heap.size, 6, none⟩ = false := by simp [World.frozen?, hR]
    have f7 : w2.frozen? ⟨w.heap.size, 7, none⟩ = false := by simp [World.frozen?, hR]
    have f8 : w2.frozen? ⟨w.heap.size, 8, none⟩ = false := by simp [World.frozen?, hR]
    have f9 : w2.frozen? ⟨w.heap.size, 9, none⟩ = false := by simp [World.frozen?, hR]
    have f10 : w2.frozen? ⟨w.heap.size, 10, none⟩ = false := by simp [World.frozen?, hR]
    have f11 : w2.frozen? ⟨w.heap.size, 11, none⟩ = false := by simp [World.frozen?, hR]
    have f12 : w2.frozen? ⟨w.heap.size, 12, none⟩ = false := by simp [World.frozen?, hR]
    have hR3 := (heap_setN (i := 12) (v := .pointer (some ⟨gh, 14, none⟩)) (heap_setN (i := 11) (v := .pointer (some ⟨gh, 13, none⟩)) (heap_setN (i := 10) (v := .pointer (some ⟨gh, 12, none⟩)) (heap_setN (i := 9) (v := .pointer (some ⟨gh, 11, none⟩)) (heap_setN (i := 8) (v := .pointer (some ⟨gh, 10, none⟩)) (heap_setN (i := 7) (v := .pointer (some ⟨gh, 9, none⟩)) (heap_setN (i := 6) (v := .pointer (some ⟨gh, 8, none⟩)) (heap_setN (i := 5) (v := .pointer (some ⟨gh, 5, none⟩)) (heap_setN (i := 4) (v := .pointer (some ⟨gh, 4, none⟩)) (heap_setN (i := 3) (v := .pointer (some ⟨gh, 3, none⟩)) (heap_setN (i := 2) (v := .pointer (some ⟨gh, 2, none⟩)) (heap_setN (i := 1) (v := .pointer (some ⟨gh, 1, none⟩)) (heap_setN (i := 0) (v := .pointer (some ⟨gh, 0, none⟩)) hR)))))))))))))
    have B3 := (((((((((((((B2.setCell (p := ⟨w.heap.size, 0, none⟩) (Nat.le_refl _) (.pointer (some ⟨gh, 0, none⟩))).setCell (p := ⟨w.heap.size, 1, none⟩) (Nat.le_refl _) (.pointer (some ⟨gh, 1, none⟩))).setCell (p := ⟨w.heap.size, 2, none⟩) (Nat.le_refl _) (.pointer (some ⟨gh, 2, none⟩))).setCell (p := ⟨w.heap.size, 3, none⟩) (Nat.le_refl _) (.pointer (some ⟨gh, 3, none⟩))).setCell (p := ⟨w.heap.size, 4, none⟩) (Nat.le_refl _) (.pointer (some ⟨gh, 4, none⟩))).setCell (p := ⟨w.heap.size, 5, none⟩) (Nat.le_refl _) (.pointer (some ⟨gh, 5, none⟩))).setCell (p := ⟨w.heap.size, 6, none⟩) (Nat.le_refl _) (.pointer (some ⟨gh, 8, none⟩))).setCell (p := ⟨w.heap.size, 7, none⟩) (Nat.le_refl _) (.pointer (some ⟨gh, 9, none⟩))).setCell (p := ⟨w.heap.size, 8, none⟩) (Nat.le_refl _) (.pointer (some ⟨gh, 10, none⟩))).setCell (p := ⟨w.heap.size, 9, none⟩) (Nat.le_refl _) (.pointer (some ⟨gh, 11, none⟩))).setCell (p := ⟨w.heap.size, 10, none⟩) (Nat.le_refl _) (.pointer (some ⟨gh, 12, none⟩))).setCell (p := ⟨w.heap.size, 11, none⟩) (Nat.le_refl _) (.pointer (some ⟨gh, 13, none⟩))).setCell (p := ⟨w.heap.size, 12, none⟩) (Nat.le_refl _) (.pointer (some ⟨gh, 14, none⟩)))
    clear hR B2
    go_wp2_with fail
    clear d0 f0 d1 f1 d2 f2 d3 f3 d4 f4 d5 f5 d6 f6 d7 f7 d8 f8 d9 f9 d10 f10 d11 f11 d12 f12
    generalize World.setCell _ ⟨w.heap.size, 12, none⟩ _ = w3 at hR3 B3 ⊢
    simp only [List.setIfInBounds_toArray, List.set_cons_succ, List.set_cons_zero] at hR3
    refine bodyPost_ret (results_cell_row rfl _ _ w.heap.size _ #[.pointer (some ⟨gh, 0, none⟩), .pointer (some ⟨gh, 1, none⟩), .pointer (some ⟨gh, 2, none⟩), .pointer (some ⟨gh, 3, none⟩), .pointer (some ⟨gh, 4, none⟩), .pointer (some ⟨gh, 5, none⟩), .pointer (some ⟨gh, 8, none⟩), .pointer (some ⟨gh, 9, none⟩), .pointer (some ⟨gh, 10, none⟩), .pointer (some ⟨gh, 11, none⟩), .pointer (some ⟨gh, 12, none⟩), .pointer (some ⟨gh, 13, none⟩), .pointer (some ⟨gh, 14, none⟩)] (0, 0) _ rfl hR3 Tryz.underlying167 rfl (by rw [Tryz.sizePN]; rfl)) rfl ?_
    exact ⟨rfl, B3⟩
end Go.Proofs.YtcnmbolmgifgfabGreatDoor

/- The reader of a card with hexadecimal numbers as one object, and the small functions that its steps call. -/
namespace Go.Proofs.YtcnmbolmgifgfabGreatDoor
open Go.ChangeShapes Go.WideShapes Go.ChangeAt Go.RowKit Go.Deep

theorem ext_preN (s : ByteArray) (a n b : Nat) (h : a + n ≤ b) (_hb : b ≤ s.size) : (s.extract a b).extract 0 n = s.extract a (a + n) := by
  apply ba_ext
  simp
  omega
theorem ext_sufN (s : ByteArray) (a n b : Nat) (h : a + n ≤ b) (_hb : b ≤ s.size) : (s.extract a b).extract n (s.extract a b).size = s.extract (a + n) b := by
  apply ba_ext
  simp
  omega
structure Nr where
  n0 : Int
  n1 : Int
  n2 : Int
  n3 : Int
  n4 : Int
  n5 : Int
  pa : ByteArray
  da : ByteArray
  ds : Int
  z0 : Int
  z1 : Int
  z2 : Int
  z3 : Int
  ps : Int
  sm : Int
  crc : Bool
  rest : ByteArray
  nm : ByteArray
  np : ByteArray
  dp : ByteArray
def Nr.cells (x : Nr) : Array Value := #[.int .i64 x.n0, .int .i64 x.n1, .int .i64 x.n2, .int .i64 x.n3, .int .i64 x.n4, .int .i64 x.n5, .string x.pa, .string x.da, .int .i64 x.ds, .int .i64 x.z0, .int .i64 x.z1, .int .i64 x.z2, .int .i64 x.z3, .int .i64 x.ps, .int .i64 x.sm, .bool x.crc, .string x.rest, .string x.nm, .string x.np, .string x.dp]
def NrO (w : World) (g : Nat) (x : Nr) : Prop := w.heap[g]? = some (.cells x.cells 116 (0, 0))
section
variable {w w' : World} {g : Nat} {x y : Nr}
theorem NrO.cell (h : NrO w g x) (i : Nat) (v : Value) (hi : x.cells[i]? = some v) : w.cell? ⟨g, i, none⟩ = some v := by
  unfold NrO at h
  simp [World.cell?, h, hi]
theorem NrO.fz (h : NrO w g x) (i : Nat) : w.frozen? ⟨g, i, none⟩ = false := by
  unfold NrO at h
  simp [World.frozen?, h]
theorem NrO.set (h : NrO w g x) (i : Nat) (v : Value) (he : x.cells.setIfInBounds i v = y.cells) : NrO (w.setCell ⟨g, i, none⟩ v) g y := by
  unfold NrO at h ⊢
  rw [← he]
  exact heap_setN h
theorem NrO.lt (h : NrO w g x) : g < w.heap.size := (Array.getElem?_eq_some_iff.1 h).1
theorem NrO.below {B : Nat} (h : NrO w g x) (hb : Below B w w') (hg : g < B) : NrO w' g x := (hb.block g hg).trans h
end
theorem nr_set {g : Nat} {w w' : World} (h : Below g w w') (i : Nat) (v : Value) : Below g w (w'.setCell ⟨g, i, none⟩ v) := h.setCell (Nat.le_refl _) v
theorem bel_drew {B : Nat} {w w' : World} {n : Nat} (h : Below B w w') : Below B w (w'.drewN n) := ⟨h.os, h.tape, h.output, h.size, h.block⟩
set_option maxRecDepth 8000 in
theorem take_any (g : Nat) (x : Nr) (n : Nat) (w : World) (h : NrO w g x) (hn : n ≤ x.rest.size) :
    Calls Tryz.prog 146 #[.pointer (some ⟨g, 0, none⟩), .int .i64 (n : Int)] w fun e w' => e = .returned (.string (x.rest.extract 0 n)) ∧ NrO w' g { x with rest := x.rest.extract n x.rest.size } ∧ Below g w w' := by
  have c16 := h.cell 16 (.string x.rest) rfl
  have z16 := h.fz 16
  have HN := Lib.hid (h.set (y := { x with rest := x.rest.extract n x.rest.size }) 16 (.string (x.rest.extract n x.rest.size)) rfl)
  clear h
  generalize (⟨x.n0, x.n1, x.n2, x.n3, x.n4, x.n5, x.pa, x.da, x.ds, x.z0, x.z1, x.z2, x.z3, x.ps, x.sm, x.crc, x.rest.extract n x.rest.size, x.nm, x.np, x.dp⟩ : Nr) = y at HN ⊢
  generalize x.rest = r at *
  have hS1 : ∀ w, (Instr.slice 9 (.string r) none (some (.int .i64 (n : Int))) none).run Tryz.prog w = .ok (.string (r.extract 0 n)) w := fun w => by
    have h := run_slice_string_h (P := Tryz.prog) (w := w) (t := 9) (s := r) Tryz.underlying9 .i64 (n : Int) (by omega) (by omega)
    rw [Int.toNat_natCast] at h
    exact h
  have hS2 : ∀ w, (Instr.slice 9 (.string r) (some (.int .i64 (n : Int))) none none).run Tryz.prog w = .ok (.string (r.extract n r.size)) w := fun w => by
    have h := run_slice_string_l (P := Tryz.prog) (w := w) (t := 9) (s := r) Tryz.underlying9 .i64 (n : Int) (by omega) (by omega)
    rw [Int.toNat_natCast] at h
    exact h
  clear hn
  generalize r.extract 0 n = r1 at *
  generalize r.extract n r.size = r2 at *
  go_enter Tryz.func146, Tryz.ntmps146
  go_wp2_with fail
  go_ret
  exact ⟨rfl, HN.out, nr_set (Below.refl _ _) _ _⟩
end Go.Proofs.YtcnmbolmgifgfabGreatDoor

/- The steps of the reader of a card with hexadecimal numbers. -/
namespace Go.Proofs.YtcnmbolmgifgfabGreatDoor
open Go.ChangeShapes Go.WideShapes Go.ChangeAt Go.RowKit Go.Deep

theorem str_ne {a b : ByteArray} (h : ¬ a = b) : (a.toList == b.toList) = false := by
  simp only [beq_eq_false_iff_ne, ne_eq]
  intro e
  apply h
  rw [ba_toList, ba_toList] at e
  exact ba_ext e
set_option maxHeartbeats 1600000 in
set_option maxRecDepth 8000 in
theorem takeMagic_any (g : Nat) (x : Nr) (w : World) (h : NrO w g x) (hr : 6 ≤ x.rest.size) :
    Calls Tryz.prog 101 #[.pointer (some ⟨g, 0, none⟩)] w fun e w' => e = .returned (.int .i64 (if x.rest.extract 0 6 = mgN x.crc then 0 else 4)) ∧ NrO w' g (if x.rest.extract 0 6 = mgN x.crc then { x with rest := x.rest.extract 6 x.rest.size } else x) ∧ Below g w w' := by
  have c15 := h.cell 15 (.bool x.crc) rfl
  have c16 := h.cell 16 (.string x.rest) rfl
  have z16 := h.fz 16
  have HN := Lib.hid (fun r w' (h' : NrO w' g x) => h'.set (y := { x with rest := r }) 16 (.string r) rfl)
  have HX := Lib.hid h
  have HP := Lib.hid (fun w => cutPre_any x.rest (mgN x.crc) w (by rw [mgN_size]; omega))
  rw [mgN_size] at HP
  have HM := Lib.hid (fun w => magicN_any x.crc w)
  clear h hr
  by_cases hq : x.rest.extract 0 6 = mgN x.crc
  · rw [if_pos hq, if_pos hq]
    rw [hq, show ((mgN x.crc).toList == (mgN x.crc).toList) = true from by simp, if_pos rfl] at HP
    clear hq
    generalize mgN x.crc = mg at *
    generalize x.rest.extract 6 x.rest.size = r2 at *
    generalize x.rest = r at *
    generalize x.crc = cr at *
    go_enter Tryz.func101, Tryz.ntmps101
    go_upto_region 1 with fail
    go_quiet (first | (go_at_call 99; refine Calls.quiet_of_same ((HM.out _).mono (fun e w' h => ⟨h.1, h.2⟩))) | (go_at_call 144; refine Calls.quiet_of_same ((HP.out _).mono (fun e w' h => ⟨h.1, h.2⟩))))
    obtain ⟨wq, hwq⟩ : ∃ y, y = w.drewN nq := ⟨_, rfl⟩
    have B : Below g w wq := by rw [hwq]; exact bel_drew (Below.refl _ _)
    have X2 : NrO wq g x := by rw [hwq]; exact HX.out
    have HN2 := Lib.hid (HN.out r2 wq X2)
    replace c15 := X2.cell 15 (.bool x.crc) rfl
    replace c16 := X2.cell 16 (.string x.rest) rfl
    replace z16 := X2.fz 16
    rw [← hwq]
    clear hwq X2 HN HX HP HM
    go_wp2_with fail
    go_ret
    exact ⟨rfl, HN2.out, nr_set B _ _⟩
  · rw [if_neg hq, if_neg hq]
    rw [str_ne hq, if_neg (by simp)] at HP
    clear hq HN
    generalize mgN x.crc = mg at *
    generalize x.rest = r at *
    generalize x.crc = cr at *
    go_enter Tryz.func101, Tryz.ntmps101
    go_upto_region 1 with fail
    go_quiet (first | (go_at_call 99; refine Calls.quiet_of_same ((HM.out _).mono (fun e w' h => ⟨h.1, h.2⟩))) | (go_at_call 144; refine Calls.quiet_of_same ((HP.out _).mono (fun e w' h => ⟨h.1, h.2⟩))))
    obtain ⟨wq, hwq⟩ : ∃ y, y = w.drewN nq := ⟨_, rfl⟩
    have B : Below g w wq := by rw [hwq]; exact bel_drew (Below.refl _ _)
    have X2 : NrO wq g x := by rw [hwq]; exact HX.out
    rw [← hwq]
    clear hwq HX HP HM
    go_wp2_with fail
    go_ret
    exact ⟨rfl, X2, B⟩
end Go.Proofs.YtcnmbolmgifgfabGreatDoor

/- '==' and '!=' of two [4]int. -/
namespace Go.Proofs.YtcnmbolmgifgfabGreatDoor
theorem run_equalIn_int4 {P : Program} (w : World) (d : Nat) (t e : TypeId) (ht : P.underlying t = some (.array 4 e)) (he : P.underlying e = some (.int .i64)) (hsz : ∀ w, (sizeOf e).run P w = .ok 1 w) (a b c f x y z u : Int) :
    (Op.equalIn (d + 2) t (.agg #[.int .i64 a, .int .i64 b, .int .i64 c, .int .i64 f]) (.agg #[.int .i64 x, .int .i64 y, .int .i64 z, .int .i64 u])).run P w = .ok (decide (a = x) && (decide (b = y) && (decide (c = z) && decide (f = u)))) w := by
  rw [Op.equalIn]
  simp only [Sem.run_bind, run_underlying ht, Result.andThen_ok, hsz, Std.Legacy.Range.forIn_eq_forIn_range', Std.Legacy.Range.size, Nat.sub_zero, Nat.add_sub_cancel, Nat.div_one]
  have p0 : ∀ w (v0 v1 v2 v3 : Value), (part e #[v0, v1, v2, v3] 0).run P w = .ok v0 w := fun w _ _ _ _ => by simp [part, isAgg, run_underlying he]
  have p1 : ∀ w (v0 v1 v2 v3 : Value), (part e #[v0, v1, v2, v3] 1).run P w = .ok v1 w := fun w _ _ _ _ => by simp [part, isAgg, run_underlying he]
  have p2 : ∀ w (v0 v1 v2 v3 : Value), (part e #[v0, v1, v2, v3] 2).run P w = .ok v2 w := fun w _ _ _ _ => by simp [part, isAgg, run_underlying he]
  have p3 : ∀ w (v0 v1 v2 v3 : Value), (part e #[v0, v1, v2, v3] 3).run P w = .ok v3 w := fun w _ _ _ _ => by simp [part, isAgg, run_underlying he]
  have q : ∀ w a x, (Op.equalIn (d + 1) e (.int .i64 a) (.int .i64 x)).run P w = .ok (decide (a = x)) w := fun w a x => by
    rw [run_equalIn_int _ d e .i64 .i64 _ _ he]
    rfl
  rw [show List.range' 0 4 1 = [0, 1, 2, 3] from rfl]
  simp only [List.forIn_cons, List.forIn_nil, Sem.run_bind, Nat.mul_one, p0, q, Result.andThen_ok]
  generalize decide (a = x) = d0
  cases d0
  · simp
  · simp only [Bool.not_true, Bool.false_eq_true, if_false, Sem.run_pure, Sem.run_bind, Result.andThen_ok, p1, q]
    generalize decide (b = y) = d1
    cases d1
    · simp
    · simp only [Bool.not_true, Bool.false_eq_true, if_false, Sem.run_pure, Sem.run_bind, Result.andThen_ok, p2, q]
      generalize decide (c = z) = d2
      cases d2
      · simp
      · simp only [Bool.not_true, Bool.false_eq_true, if_false, Sem.run_pure, Sem.run_bind, Result.andThen_ok, p3, q]
        generalize decide (f = u) = d3
        cases d3 <;> simp
theorem ne_zeros4 (a b c f : Int) (w : World) : (binOp .neq 111 (.agg #[.int .i64 a, .int .i64 b, .int .i64 c, .int .i64 f]) (.agg #[.int .i64 0, .int .i64 0, .int .i64 0, .int .i64 0])).run Tryz.prog w = .ok (.bool (!(decide (a = 0) && (decide (b = 0) && (decide (c = 0) && decide (f = 0)))))) w := by
  rw [run_neq_struct, run_equalIn_int4 w 9998 111 3 Tryz.underlying111 Tryz.underlying3 (fun w => by go_simp) a b c f 0 0 0 0]
  rfl
end Go.Proofs.YtcnmbolmgifgfabGreatDoor

/- Contract of impl.(*newcReader).takeNumbers. -/
namespace Go.Proofs.YtcnmbolmgifgfabGreatDoor
open Go.ChangeShapes Go.WideShapes Go.ChangeAt Go.RowKit Go.Deep

theorem idxR13 (gh k : Nat) (hk : k < 13) (w : World) : (Instr.index 167 (.agg (ptrsN gh)) (.int .i64 (k : Int))).run Tryz.prog w = .ok (.pointer (some ⟨gh, offn k, none⟩)) w := by
  have h := ptrsN_at gh k hk
  have hk2 : (0 : Int) ≤ (k : Int) ∧ (k : Int) < 13 := by omega
  have hu := Tryz.underlying167
  have he := Tryz.underlying166
  have hsz : ∀ w, (sizeOf 166).run Tryz.prog w = .ok 1 w := fun w => by go_simp
  simp [Instr.index, run_underlying hu, asIntOf, hk2, part, isAgg, run_underlying he, hsz, go_sem, h]
  intro h9
  omega
/-- The reader when k numbers are read. -/
def nrF (N : Nat → Int) (crc : Bool) (r : ByteArray) (k : Nat) : Nr :=
  ⟨if 0 < k then N 0 else 0, if 1 < k then N 1 else 0, if 2 < k then N 2 else 0, if 3 < k then N 3 else 0, if 4 < k then N 4 else 0, if 5 < k then N 5 else 0, ⟨#[]⟩, ⟨#[]⟩, if 6 < k then N 6 else 0, if 7 < k then N 7 else 0, if 8 < k then N 8 else 0, if 9 < k then N 9 else 0, if 10 < k then N 10 else 0, if 11 < k then N 11 else 0, if 12 < k then N 12 else 0, crc, r, ⟨#[]⟩, ⟨#[]⟩, ⟨#[]⟩⟩
theorem nrF_step (N : Nat → Int) (crc : Bool) (r : ByteArray) : ∀ k, k < 13 → (nrF N crc r k).cells.setIfInBounds (offn k) (.int .i64 (N k)) = (nrF N crc r (k + 1)).cells := by
  intro k hk
  match k, hk with
  | 0, _ => simp [nrF, Nr.cells, offn]
  | 1, _ => simp [nrF, Nr.cells, offn]
  | 2, _ => simp [nrF, Nr.cells, offn]
  | 3, _ => simp [nrF, Nr.cells, offn]
  | 4, _ => simp [nrF, Nr.cells, offn]
  | 5, _ => simp [nrF, Nr.cells, offn]
  | 6, _ => simp [nrF, Nr.cells, offn]
  | 7, _ => simp [nrF, Nr.cells, offn]
  | 8, _ => simp [nrF, Nr.cells, offn]
  | 9, _ => simp [nrF, Nr.cells, offn]
  | 10, _ => simp [nrF, Nr.cells, offn]
  | 11, _ => simp [nrF, Nr.cells, offn]
  | 12, _ => simp [nrF, Nr.cells, offn]
  | k + 13, hk => omega
def nrK (s : ByteArray) (j : Nat) (crc : Bool) (k : Nat) : Nr := nrF (nN s j) crc (s.extract (j + 6 + 8 * k) s.size) k
def nrK' (s : ByteArray) (j : Nat) (crc : Bool) (k : Nat) : Nr := nrF (nN s j) crc (s.extract (j + 6 + 8 * (k + 1)) s.size) k
theorem nrK_step (s : ByteArray) (j : Nat) (crc : Bool) (k : Nat) (hk : k < 13) : (nrK' s j crc k).cells.setIfInBounds (offn k) (.int .i64 (nN s j k)) = (nrK s j crc (k + 1)).cells := nrF_step _ _ _ k hk
theorem nrK_13 (s : ByteArray) (j : Nat) (crc : Bool) : nrK s j crc 13 = ⟨nN s j 0, nN s j 1, nN s j 2, nN s j 3, nN s j 4, nN s j 5, ⟨#[]⟩, ⟨#[]⟩, nN s j 6, nN s j 7, nN s j 8, nN s j 9, nN s j 10, nN s j 11, nN s j 12, crc, s.extract (j + 110) s.size, ⟨#[]⟩, ⟨#[]⟩, ⟨#[]⟩⟩ := by simp [nrK, nrF]
theorem offn_lt : ∀ k, k < 13 → offn k < 20 := by decide
theorem NrO.some {w : World} {g : Nat} {x : Nr} (h : NrO w g x) (i : Nat) (hi : i < 20) : ∃ v, w.cell? ⟨g, i, none⟩ = some v :=
  ⟨x.cells[i]'(by show i < 20; exact hi), h.cell i _ (Array.getElem?_eq_getElem _)⟩
theorem take_nrK (s : ByteArray) (j : Nat) (crc : Bool) (k : Nat) (hk : k < 13) (hj : j + 110 ≤ s.size) (g : Nat) (w : World) (h : NrO w g (nrK s j crc k)) :
    Calls Tryz.prog 146 #[.pointer (some ⟨g, 0, none⟩), .int .i64 8] w fun e w' => e = .returned (.string (nB s j k)) ∧ NrO w' g (nrK' s j crc k) ∧ Below g w w' := by
  have hz : (nrK s j crc k).rest = s.extract (j + 6 + 8 * k) s.size := rfl
  have hzz : (s.extract (j + 6 + 8 * k) s.size).size = s.size - (j + 6 + 8 * k) := by rw [ByteArray.size_extract]; omega
  have e1 := ext_preN s (j + 6 + 8 * k) 8 s.size (by omega) (Nat.le_refl _)
  have e2 := ext_sufN s (j + 6 + 8 * k) 8 s.size (by omega) (Nat.le_refl _)
  have h9 := take_any g (nrK s j crc k) 8 w h (by rw [hz, hzz]; omega)
  rw [hz, e1, e2] at h9
  rw [show nB s j k = s.extract (j + 6 + 8 * k) (j + 6 + 8 * k + 8) from by unfold nB; rw [show j + 14 + 8 * k = j + 6 + 8 * k + 8 from by omega]]
  rw [show nrK' s j crc k = { nrK s j crc k with rest := s.extract (j + 6 + 8 * k + 8) s.size } from by unfold nrK' nrK nrF; rw [show j + 6 + 8 * (k + 1) = j + 6 + 8 * k + 8 from by omega]]
  exact h9
def tnC (s : ByteArray) (j : Nat) : Int := if allN s j = true ∧ (nN s j 7 = 0 ∧ nN s j 8 = 0 ∧ nN s j 9 = 0 ∧ nN s j 10 = 0) then 0 else 3
set_option maxHeartbeats 3200000 in
set_option maxRecDepth 8000 in
theorem takeNumbers_any (s : ByteArray) (j : Nat) (crc : Bool) (g : Nat) (w : World) (hj : j + 110 ≤ s.size) (h : NrO w g (nrK s j crc 0)) :
    Calls Tryz.prog 102 #[.pointer (some ⟨g, 0, none⟩)] w fun e w' => e = .returned (.int .i64 (tnC s j)) ∧ (tnC s j = 0 → NrO w' g (nrK s j crc 13)) ∧ Below g w w' := by
  have HTk := Lib.hid (fun k hk w h => take_nrK s j crc k hk hj g w h)
  have HGx := Lib.hid (fun k w => getHex_impl (nB s j k) w (by unfold nB; rw [ByteArray.size_extract]; omega))
  have HBad : Hid (∀ k, k < 13 → nO s j k = false → tnC s j = 3) := Lib.hid (fun k hk h => by rw [tnC, if_neg (by rw [allN_bad hk h]; simp)])
  have HZ1 : Hid ((∀ k, k < 13 → nO s j k = true) → (nN s j 7 = 0 ∧ nN s j 8 = 0 ∧ nN s j 9 = 0 ∧ nN s j 10 = 0) → tnC s j = 0) := Lib.hid (fun h hz => by rw [tnC, if_pos ⟨allN_good h, hz⟩])
  have HZ2 : Hid (¬ (nN s j 7 = 0 ∧ nN s j 8 = 0 ∧ nN s j 9 = 0 ∧ nN s j 10 = 0) → tnC s j = 3) := Lib.hid (fun hz => by rw [tnC, if_neg (fun h => hz h.2)])
  have HSt := Lib.hid (nrK_step s j crc)
  have HX0 := Lib.hid h
  have hgl := h.lt
  have HIx := Lib.hid (fun k hk w => idxR13 g k hk w)
  generalize tnC s j = C at HBad HZ1 HZ2 ⊢
  clear h hj
  go_enter Tryz.func102, Tryz.ntmps102
  go_wp2_with fail
  refine (fieldsN_any g _).mono ?_
  rintro e w1 ⟨rfl, hb⟩
  have B := Lib.hid (hb.mono (Nat.le_of_lt hgl))
  have X1 := Lib.hid (HX0.out.below hb hgl)
  clear hb HX0
  generalize ptrsN g = pt at HIx ⊢
  go_wp2_with fail
  go_loopw [4, 5, 6, 11] (fun _ _ _ u wr => ∃ k : Nat, u = .int .i64 k ∧ k ≤ 13 ∧ (∀ m, m < k → nO s j m = true) ∧ NrO wr g (nrK s j crc k) ∧ Below g w wr) (fun _ _ _ u _ => 13 - (intOf u).toNat)
  case atStart => exact ⟨0, rfl, Nat.zero_le _, fun m hm => by omega, X1.out, B.out⟩
  case round =>
    obtain ⟨k, rfl, hk, hok, hx, hb⟩ := hrel
    clear X1 B
    have B := Lib.hid hb
    have X := Lib.hid hx
    have OK := Lib.hid hok
    clear hok hx hb
    by_cases hlt : k < 13
    · have hlt2 : (k : Int) < 13 := by omega
      have hIx := HIx.out k hlt
      have HT2 := Lib.hid (HTk.out k hlt)
      have HGo := Lib.hid (HGx.out k)
      rw [show (getHexv (nB s j k).data.toList).1 = nN s j k from rfl, show (getHexv (nB s j k).data.toList).2 = nO s j k from rfl] at HGo
      have HBk := Lib.hid (HBad.out k hlt)
      have HOn : Hid (nO s j k = true → ∀ m, m < k + 1 → nO s j m = true) := Lib.hid (fun h m hm => by
        by_cases e : m = k
        · subst e; exact h
        · exact OK.out m (by omega))
      have HS2 := Lib.hid (HSt.out k hlt)
      have ho20 := offn_lt k hlt
      generalize nN s j k = x at HGo HS2
      generalize nO s j k = o at HGo HBk HOn
      generalize nB s j k = bb at HT2 HGo
      generalize offn k = oi at hIx HS2 ho20
      clear HTk HGx HBad HIx HSt
      go_wp2_with fail
      refine (HT2.out _ X.out).mono ?_
      rintro e w2 ⟨rfl, hx, hb⟩
      have X2 := Lib.hid hx
      have B2 := Lib.hid (B.out.trans hb)
      clear hx hb X B HT2 hIx
      go_wp2_with fail
      refine (HGo.out _).mono ?_
      rintro e w3 ⟨rfl, rfl⟩
      cases o with
      | false =>
        have HF : Hid (C = 3) := Lib.hid (HBk.out rfl)
        clear HBk HOn HGo
        go_wp2_with fail
        go_ret
        exact ⟨by rw [HF.out]; rfl, fun h0 => absurd (HF.out.symm.trans h0) (by decide), B2.out⟩
      | true =>
        have HOn2 := Lib.hid (HOn.out rfl)
        obtain ⟨cv, hcell⟩ := X2.out.some oi ho20
        have hfz := X2.out.fz oi
        have X3 := Lib.hid (X2.out.set (y := nrK s j crc (k + 1)) oi (.int .i64 x) HS2.out)
        have B3 := Lib.hid (nr_set B2.out oi (.int .i64 x))
        clear HBk HOn HGo X2 B2 HS2
        go_wp2_with fail
        go_roundw
        case rel => exact ⟨k + 1, by go_num, by omega, HOn2.out, X3.out, B3.out⟩
        case measure => simp [intOf]; omega
    · obtain rfl : k = 13 := by omega
      have hlt2 : ¬ ((13 : Nat) : Int) < 13 := by omega
      have X0 := X.out
      rw [nrK_13] at X0
      have c9 := X0.cell 9 (.int .i64 (nN s j 7)) rfl
      have c10 := X0.cell 10 (.int .i64 (nN s j 8)) rfl
      have c11 := X0.cell 11 (.int .i64 (nN s j 9)) rfl
      have c12 := X0.cell 12 (.int .i64 (nN s j 10)) rfl
      have HEq := fun w => ne_zeros4 (nN s j 7) (nN s j 8) (nN s j 9) (nN s j 10) w
      have HZ3 := Lib.hid (HZ1.out OK.out)
      clear HTk HGx HBad HIx HSt HZ1 OK X0
      generalize nN s j 7 = x0 at *
      generalize nN s j 8 = x1 at *
      generalize nN s j 9 = x2 at *
      generalize nN s j 10 = x3 at *
      by_cases hz : x0 = 0 ∧ x1 = 0 ∧ x2 = 0 ∧ x3 = 0
      · have hq : (decide (x0 = 0) && (decide (x1 = 0) && (decide (x2 = 0) && decide (x3 = 0)))) = true := by simpa using hz
        have HF : Hid (C = 0) := Lib.hid (HZ3.out hz)
        rw [hq] at HEq
        clear HZ2 HZ3 hz hq
        go_wp2_with fail
        go_ret
        exact ⟨by rw [HF.out]; rfl, fun _ => X.out, B.out⟩
      · have hq : (decide (x0 = 0) && (decide (x1 = 0) && (decide (x2 = 0) && decide (x3 = 0)))) = false := by
          have := hz
          cases h : (decide (x0 = 0) && (decide (x1 = 0) && (decide (x2 = 0) && decide (x3 = 0))))
          · rfl
          · exact absurd (by simpa using h) hz
        have HF : Hid (C = 3) := Lib.hid (HZ2.out hz)
        rw [hq] at HEq
        clear HZ2 HZ3 hz hq
        go_wp2_with fail
        go_ret
        exact ⟨by rw [HF.out]; rfl, fun h0 => absurd (HF.out.symm.trans h0) (by decide), B.out⟩
end Go.Proofs.YtcnmbolmgifgfabGreatDoor

/- Contract of impl.newcReader's takeTexts. -/
namespace Go.Proofs.YtcnmbolmgifgfabGreatDoor
open Go.ChangeShapes Go.WideShapes Go.ChangeAt Go.RowKit Go.Deep

theorem take_s (g : Nat) (x : Nr) (s : ByteArray) (p n : Nat) (w : World) (h : NrO w g x) (hr : x.rest = s.extract p s.size) (hn : p + n ≤ s.size) :
    Calls Tryz.prog 146 #[.pointer (some ⟨g, 0, none⟩), .int .i64 (n : Int)] w fun e w' => e = .returned (.string (s.extract p (p + n))) ∧ NrO w' g { x with rest := s.extract (p + n) s.size } ∧ Below g w w' := by
  have e1 := ext_preN s p n s.size hn (Nat.le_refl _)
  have e2 := ext_sufN s p n s.size hn (Nat.le_refl _)
  have h9 := take_any g x n w h (by rw [hr, ByteArray.size_extract]; omega)
  rw [hr, e1, e2] at h9
  exact h9
/-- The reader when name, data and padding are taken. -/
def nrT (x : Nr) (s : ByteArray) (p a q1 d q2 : Nat) : Nr :=
  { x with nm := s.extract p (p + a), np := s.extract (p + a) (p + a + q1), da := s.extract (p + a + q1) (p + a + q1 + d), dp := s.extract (p + a + q1 + d) (p + a + q1 + d + q2), rest := s.extract (p + a + q1 + d + q2) s.size }
set_option maxHeartbeats 3200000 in
set_option maxRecDepth 8000 in
theorem takeTexts_any (g : Nat) (x : Nr) (s : ByteArray) (p a d : Nat) (w : World) (h : NrO w g x) (hr : x.rest = s.extract p s.size) (hps : x.ps = (a : Int)) (hds : x.ds = (d : Int)) (hp : p ≤ s.size) (hs : s.size ≤ 1048576) (ha : a ≤ 4294967295) (hd : d ≤ 4294967295) :
    Calls Tryz.prog 103 #[.pointer (some ⟨g, 0, none⟩)] w fun e w' => e = .returned (.int .i64 (if s.size < p + a + pad4 (110 + a) + d + pad4 d then 1 else 0)) ∧ (¬ s.size < p + a + pad4 (110 + a) + d + pad4 d → NrO w' g (nrT x s p a (pad4 (110 + a)) d (pad4 d))) ∧ Below g w w' := by
  have hq1 := nulN_size (pad4 (110 + a))
  have hq2 := nulN_size (pad4 d)
  have hl1 := pad4_le (110 + a)
  have hl2 := pad4_le d
  have HN1 := Lib.hid (fun w => nuls_any (110 + a) w (by omega))
  rw [show ((110 + a : Nat) : Int) = 110 + (a : Int) from by omega] at HN1
  have HN2 := Lib.hid (fun w => nuls_any d w (by omega))
  generalize nulN (pad4 (110 + a)) = nu1 at hq1 HN1
  generalize nulN (pad4 d) = nu2 at hq2 HN2
  rw [← hq1, ← hq2]
  have hn1 : nu1.size ≤ 3 := by omega
  have hn2 : nu2.size ≤ 3 := by omega
  clear hq1 hq2 hl1 hl2
  have hgl := h.lt
  have c8 := h.cell 8 (.int .i64 x.ds) rfl
  have c13 := h.cell 13 (.int .i64 x.ps) rfl
  have c16 := h.cell 16 (.string x.rest) rfl
  rw [hds] at c8
  rw [hps] at c13
  rw [hr] at c16
  have hrz : (s.extract p s.size).size = s.size - p := by rw [ByteArray.size_extract]; omega
  have a1 : IntKind.i64.wrap (110 + (a : Int)) = 110 + (a : Int) := by rw [IntKind.wrap_i64]; omega
  have a2 : IntKind.i64.wrap ((a : Int) + (nu1.size : Int)) = (a : Int) + (nu1.size : Int) := by rw [IntKind.wrap_i64]; omega
  have a3 : IntKind.i64.wrap ((a : Int) + (nu1.size : Int) + (d : Int)) = (a : Int) + (nu1.size : Int) + (d : Int) := by rw [IntKind.wrap_i64]; omega
  have a4 : IntKind.i64.wrap ((a : Int) + (nu1.size : Int) + (d : Int) + (nu2.size : Int)) = (a : Int) + (nu1.size : Int) + (d : Int) + (nu2.size : Int) := by rw [IntKind.wrap_i64]; omega
  have HX := Lib.hid h
  have HR := Lib.hid hr
  have HD := Lib.hid hds
  by_cases hc : s.size < p + a + nu1.size + d + nu2.size
  · rw [if_pos hc]
    have hcmp : (((s.extract p s.size).size : Nat) : Int) < (a : Int) + (nu1.size : Int) + (d : Int) + (nu2.size : Int) := by omega
    have HF : Hid (∀ w', ¬ s.size < p + a + nu1.size + d + nu2.size → NrO w' g (nrT x s p a nu1.size d nu2.size)) := Lib.hid (fun _ h => absurd hc h)
    generalize (nrT x s p a nu1.size d nu2.size) = y at HF ⊢
    generalize hP : (s.size < p + a + nu1.size + d + nu2.size) = PP at HF ⊢
    clear hc hP h hr hps hds hrz ha hd hs
    generalize s.extract p s.size = r at c16 hcmp
    go_enter Tryz.func103, Tryz.ntmps103
    go_wp2_with fail
    refine (HN1.out _).mono ?_
    rintro e w1 ⟨rfl, rfl⟩
    go_wp2_with fail
    refine (HN2.out _).mono ?_
    rintro e w2 ⟨rfl, rfl⟩
    go_upto_region 3 with fail
    go_quiet (fail)
    go_wp2_with fail
    go_ret
    exact ⟨rfl, HF.out _, bel_drew (Below.refl _ _)⟩
  · rw [if_neg hc]
    have hcmp2 : ¬ (((s.extract p s.size).size : Nat) : Int) < (a : Int) + (nu1.size : Int) + (d : Int) + (nu2.size : Int) := by omega
    have HT1 := Lib.hid (fun x' w h hr => take_s g x' s p a w h hr (by omega))
    have HT2 := Lib.hid (fun x' w h hr => take_s g x' s (p + a) nu1.size w h hr (by omega))
    have HT3 := Lib.hid (fun x' w h hr => take_s g x' s (p + a + nu1.size) d w h hr (by omega))
    have HT4 := Lib.hid (fun x' w h hr => take_s g x' s (p + a + nu1.size + d) nu2.size w h hr (by omega))
    have HCl := Lib.hid (fun w => clone_any (s.extract (p + a + nu1.size) (p + a + nu1.size + d)) w (by rw [ByteArray.size_extract]; omega))
    have HY : Hid (nrT x s p a nu1.size d nu2.size = { x with nm := s.extract p (p + a), np := s.extract (p + a) (p + a + nu1.size), da := s.extract (p + a + nu1.size) (p + a + nu1.size + d), dp := s.extract (p + a + nu1.size + d) (p + a + nu1.size + d + nu2.size), rest := s.extract (p + a + nu1.size + d + nu2.size) s.size }) := Lib.hid rfl
    generalize (nrT x s p a nu1.size d nu2.size) = y at HY ⊢
    generalize hP : (¬ s.size < p + a + nu1.size + d + nu2.size) = PP
    clear hc hP h hr hps hds hrz ha hd hs hn1 hn2
    generalize s.extract (p + a + nu1.size + d + nu2.size) s.size = r4 at *
    generalize s.extract (p + a + nu1.size + d) (p + a + nu1.size + d + nu2.size) = t4 at *
    generalize s.extract (p + a + nu1.size + d) s.size = r3 at *
    generalize s.extract (p + a + nu1.size) (p + a + nu1.size + d) = t3 at *
    generalize s.extract (p + a + nu1.size) s.size = r2 at *
    generalize s.extract (p + a) (p + a + nu1.size) = t2 at *
    generalize s.extract (p + a) s.size = r1 at *
    generalize s.extract p (p + a) = t1 at *
    generalize s.extract p s.size = r at *
    go_enter Tryz.func103, Tryz.ntmps103
    go_wp2_with fail
    refine (HN1.out _).mono ?_
    rintro e w1 ⟨rfl, rfl⟩
    go_wp2_with fail
    refine (HN2.out _).mono ?_
    rintro e w2 ⟨rfl, rfl⟩
    go_upto_region 3 with fail
    go_quiet (fail)
    obtain ⟨wq, hwq⟩ : ∃ y, y = w2.drewN nq := ⟨_, rfl⟩
    have B0 : Hid (Below g w2 wq) := Lib.hid (by rw [hwq]; exact bel_drew (Below.refl _ _))
    have X0 : Hid (NrO wq g x) := Lib.hid (by rw [hwq]; exact HX.out)
    replace c13 := (show wq.cell? ⟨g, 13, none⟩ = some (.int .i64 (a : Int)) from by rw [hwq]; exact c13)
    rw [← hwq]
    clear hwq HX c8 c16 a1 a2 a3 a4
    go_upto_region 5 with fail
    clear hcmp2
    go_wp2_with fail
    refine (HT1.out x _ X0.out HR.out).mono ?_
    rintro e w3 ⟨rfl, hx, hb⟩
    have X1 := Lib.hid (NrO.set hx (y := { x with nm := t1, rest := r1 }) 17 (.string t1) rfl)
    have B1 := Lib.hid (nr_set (B0.out.trans hb) 17 (.string t1))
    have k17 := hx.cell 17 (.string x.nm) rfl
    have f17 := hx.fz 17
    clear hx hb X0 B0 c13 HT1 HR
    go_upto_region 6 with fail
    generalize World.setCell w3 _ _ = w4 at *
    clear k17 f17
    go_wp2_with fail
    refine (HT2.out _ _ X1.out rfl).mono ?_
    rintro e w5 ⟨rfl, hx, hb⟩
    have X2 := Lib.hid (NrO.set hx (y := { x with nm := t1, np := t2, rest := r2 }) 18 (.string t2) rfl)
    have B2 := Lib.hid (nr_set (B1.out.trans hb) 18 (.string t2))
    have k18 := hx.cell 18 (.string x.np) rfl
    have f18 := hx.fz 18
    clear hx hb X1 B1 HT2
    go_upto_region 7 with fail
    generalize World.setCell w5 _ _ = w6 at *
    clear k18 f18
    have k8 := X2.out.cell 8 (.int .i64 x.ds) rfl
    rw [HD.out] at k8
    go_wp2_with fail
    refine (HT3.out _ _ X2.out rfl).mono ?_
    rintro e w7 ⟨rfl, hx, hb⟩
    have X3 := Lib.hid hx
    have B3 := Lib.hid (B2.out.trans hb)
    have hg7 := hx.lt
    clear hx hb X2 B2 HT3 k8
    go_wp2_with fail
    refine (HCl.out _).mono ?_
    rintro e w8 ⟨rfl, hb⟩
    have hx := X3.out.below hb hg7
    have X4 := Lib.hid (NrO.set hx (y := { x with nm := t1, np := t2, da := t3, rest := r3 }) 7 (.string t3) rfl)
    have B4 := Lib.hid (nr_set (B3.out.trans (hb.mono (Nat.le_of_lt hg7))) 7 (.string t3))
    have k7 := hx.cell 7 (.string x.da) rfl
    have f7 := hx.fz 7
    clear hx hb X3 B3 HCl hg7
    go_upto_region 8 with fail
    generalize World.setCell w8 _ _ = w9 at *
    clear k7 f7
    go_wp2_with fail
    refine (HT4.out _ _ X4.out rfl).mono ?_
    rintro e w10 ⟨rfl, hx, hb⟩
    have X5 := Lib.hid (NrO.set hx (y := { x with nm := t1, np := t2, da := t3, dp := t4, rest := r4 }) 19 (.string t4) rfl)
    have B5 := Lib.hid (nr_set (B4.out.trans hb) 19 (.string t4))
    have k19 := hx.cell 19 (.string x.dp) rfl
    have f19 := hx.fz 19
    clear hx hb X4 B4 HT4
    go_wp2_with fail
    go_ret
    exact ⟨rfl, fun _ => by rw [HY.out]; exact X5.out, B5.out⟩
end Go.Proofs.YtcnmbolmgifgfabGreatDoor

/- Contracts of impl.newcReader's judgeTexts and judgeSum. -/
namespace Go.Proofs.YtcnmbolmgifgfabGreatDoor
open Go.ChangeShapes Go.WideShapes Go.ChangeAt Go.RowKit Go.Deep

def jOk (x : Nr) (a d : Nat) : Prop := ((cutv x.nm).size : Int) + 1 = (a : Int) ∧ x.np = nulN (pad4 (110 + a)) ∧ x.dp = nulN (pad4 d)
instance (x : Nr) (a d : Nat) : Decidable (jOk x a d) := by unfold jOk; infer_instance
set_option maxHeartbeats 3200000 in
set_option maxRecDepth 8000 in
theorem judgeTexts_any (g : Nat) (x : Nr) (a d : Nat) (w : World) (h : NrO w g x) (hps : x.ps = (a : Int)) (hds : x.ds = (d : Int)) (ha : a ≤ 4294967295) (hd : d ≤ 4294967295) (hz : x.nm.size ≤ 4294967295) :
    Calls Tryz.prog 104 #[.pointer (some ⟨g, 0, none⟩)] w fun e w' => e = .returned (.int .i64 (if jOk x a d then 0 else 4)) ∧ NrO w' g { x with pa := cutv x.nm } ∧ Below g w w' := by
  obtain ⟨m, hm⟩ : ∃ m : Int, 110 + (a : Int) = m := ⟨_, rfl⟩
  obtain ⟨F, hF⟩ : ∃ F : Int → ByteArray, ∀ v, F v = nulN (pad4 v.toNat) := ⟨_, fun _ => rfl⟩
  have HNs : Hid (∀ v w, (v = m ∨ v = (d : Int)) → Calls Tryz.prog 100 #[.int .i64 v] w fun e w' => e = .returned (.string (F v)) ∧ w' = w) := Lib.hid (fun v w h => by
    have h9 := nuls_any v.toNat w (by omega)
    rw [show ((v.toNat : Nat) : Int) = v from by omega] at h9
    rw [hF]
    exact h9)
  have e1m : nulN (pad4 (110 + a)) = F m := by rw [hF, show m.toNat = 110 + a from by omega]
  have e1d : nulN (pad4 d) = F (d : Int) := by rw [hF, Int.toNat_natCast]
  have HCu := Lib.hid (fun w => cut_impl x.nm w (by omega))
  have hcz := cutv_le x.nm
  have a2 : IntKind.i64.wrap (((cutv x.nm).size : Int) + 1) = ((cutv x.nm).size : Int) + 1 := by rw [IntKind.wrap_i64]; omega
  have a1 : IntKind.i64.wrap (110 + (a : Int)) = m := by rw [IntKind.wrap_i64]; omega
  have HJ : Hid (jOk x a d ↔ (((cutv x.nm).size : Int) + 1 = (a : Int) ∧ x.np = nulN (pad4 (110 + a)) ∧ x.dp = nulN (pad4 d))) := Lib.hid Iff.rfl
  rw [e1m, e1d] at HJ
  have hgl := h.lt
  have c17 := h.cell 17 (.string x.nm) rfl
  have HX := Lib.hid h
  have HY := Lib.hid (fun w' (h' : NrO w' g x) => h'.set (y := { x with pa := cutv x.nm }) 6 (.string (cutv x.nm)) rfl)
  have HYc := Lib.hid (fun w' (h' : NrO w' g { x with pa := cutv x.nm }) => (⟨h'.cell 6 (.string (cutv x.nm)) rfl, (h'.cell 13 (.int .i64 x.ps) rfl).trans (by rw [hps]), (h'.cell 8 (.int .i64 x.ds) rfl).trans (by rw [hds]), h'.cell 18 (.string x.np) rfl, h'.cell 19 (.string x.dp) rfl⟩ : w'.cell? ⟨g, 6, none⟩ = some (.string (cutv x.nm)) ∧ w'.cell? ⟨g, 13, none⟩ = some (.int .i64 (a : Int)) ∧ w'.cell? ⟨g, 8, none⟩ = some (.int .i64 (d : Int)) ∧ w'.cell? ⟨g, 18, none⟩ = some (.string x.np) ∧ w'.cell? ⟨g, 19, none⟩ = some (.string x.dp)))
  have HC1 : Hid (jOk x a d → (if jOk x a d then (0 : Int) else 4) = 0) := Lib.hid (fun h => if_pos h)
  have HC2 : Hid (¬ jOk x a d → (if jOk x a d then (0 : Int) else 4) = 4) := Lib.hid (fun h => if_neg h)
  generalize (if jOk x a d then (0 : Int) else 4) = C at HC1 HC2 ⊢
  generalize jOk x a d = J at HC1 HC2 HJ
  generalize ({ x with pa := cutv x.nm } : Nr) = y at HY HYc ⊢
  clear h hps hds ha hd hz hcz hm e1m e1d hF
  go_enter Tryz.func104, Tryz.ntmps104
  go_wp2_with fail
  refine (HCu.out _).mono ?_
  rintro e w1 ⟨rfl, hb⟩
  have X1 := HX.out.below hb hgl
  have k6 := X1.cell 6 (.string x.pa) rfl
  have f6 := X1.fz 6
  have X2 := Lib.hid (HY.out _ X1)
  have B2 := Lib.hid (nr_set (hb.mono (Nat.le_of_lt hgl)) 6 (.string (cutv x.nm)))
  clear hb X1 HX HY HCu c17
  go_upto_region 2 with fail
  generalize World.setCell w1 _ _ = w2 at *
  clear k6 f6
  obtain ⟨q6, q13, q8, q18, q19⟩ := HYc.out _ X2.out
  by_cases h1 : ((cutv x.nm).size : Int) + 1 = (a : Int)
  · have e1 : (((cutv x.nm).size : Int) + 1 != (a : Int)) = false := by simpa using h1
    rw [eq_true h1, true_and] at HJ
    clear h1
    generalize cutv x.nm = cn at *
    go_quiet (fail)
    obtain ⟨wq, hwq⟩ : ∃ y, y = w2.drewN nq := ⟨_, rfl⟩
    have B3 : Hid (Below g w wq) := Lib.hid (by rw [hwq]; exact bel_drew B2.out)
    have X3 : Hid (NrO wq g y) := Lib.hid (by rw [hwq]; exact X2.out)
    rw [← hwq]
    clear hwq X2 B2 q6 q13 q8 q18 q19 a2
    obtain ⟨q6, q13, q8, q18, q19⟩ := HYc.out _ X3.out
    go_upto_region 4 with fail
    generalize hdI : (d : Int) = dI at *
    clear e1
    by_cases h2 : x.np = F m
    · rw [eq_true h2, true_and] at HJ
      have e2 : (x.np.toList == (F m).toList) = true := by rw [h2]; simp
      clear h2
      by_cases h3 : x.dp = F dI
      · have HF : Hid (C = 0) := Lib.hid (HC1.out (HJ.out.2 h3))
        have e3 : (x.dp.toList == (F dI).toList) = true := by rw [h3]; simp
        clear h3 HC1 HC2 HJ HYc
        generalize x.np = np at *
        generalize x.dp = dp at *
        go_quiet ((go_at_call 100; refine Calls.quiet_of_same ((HNs.out _ _ (by first | exact .inl rfl | exact .inr rfl)).mono (fun e w' h => ⟨h.1, h.2⟩))))
        go_wp2_with fail
        go_ret
        exact ⟨by rw [HF.out]; rfl, X3.out, bel_drew B3.out⟩
      · have HF : Hid (C = 4) := Lib.hid (HC2.out (fun h => h3 (HJ.out.1 h)))
        have e3 : (x.dp.toList == (F dI).toList) = false := str_ne h3
        clear h3 HC1 HC2 HJ HYc
        generalize x.np = np at *
        generalize x.dp = dp at *
        go_quiet ((go_at_call 100; refine Calls.quiet_of_same ((HNs.out _ _ (by first | exact .inl rfl | exact .inr rfl)).mono (fun e w' h => ⟨h.1, h.2⟩))))
        go_wp2_with fail
        go_ret
        exact ⟨by rw [HF.out]; rfl, X3.out, bel_drew B3.out⟩
    · have HF : Hid (C = 4) := Lib.hid (HC2.out (fun h => h2 (HJ.out.1 h).1))
      have e2 : (x.np.toList == (F m).toList) = false := str_ne h2
      clear h2 HC1 HC2 HJ HYc
      generalize x.np = np at *
      generalize x.dp = dp at *
      go_quiet ((go_at_call 100; refine Calls.quiet_of_same ((HNs.out _ _ (by first | exact .inl rfl | exact .inr rfl)).mono (fun e w' h => ⟨h.1, h.2⟩))))
      go_wp2_with fail
      go_ret
      exact ⟨by rw [HF.out]; rfl, X3.out, bel_drew B3.out⟩
  · have HF : Hid (C = 4) := Lib.hid (HC2.out (fun h => h1 (HJ.out.1 h).1))
    have e1 : (((cutv x.nm).size : Int) + 1 != (a : Int)) = true := by simpa using h1
    clear h1 HJ HC1 HC2 HYc HNs
    generalize cutv x.nm = cn at *
    go_quiet (fail)
    go_wp2_with fail
    go_ret
    exact ⟨by rw [HF.out]; rfl, X2.out, bel_drew B2.out⟩
end Go.Proofs.YtcnmbolmgifgfabGreatDoor

/- Contract of impl.newcReader.judgeSum. -/
namespace Go.Proofs.YtcnmbolmgifgfabGreatDoor
open Go.ChangeShapes Go.WideShapes Go.ChangeAt Go.RowKit Go.Deep

set_option maxHeartbeats 3200000 in
set_option maxRecDepth 8000 in
theorem judgeSum_any (g : Nat) (x : Nr) (w : World) (h : NrO w g x) (hz : x.da.size ≤ 4194304) :
    Calls Tryz.prog 105 #[.pointer (some ⟨g, 0, none⟩)] w fun e w' => e = .returned (.int .i64 (if x.sm = sumN x.crc x.da then 0 else 2)) ∧ NrO w' g x ∧ Below g w w' := by
  have HSm := Lib.hid (fun w => sumC_any x.da x.crc w hz)
  have HX := Lib.hid h
  have c14 := h.cell 14 (.int .i64 x.sm) rfl
  have c7 := h.cell 7 (.string x.da) rfl
  have c15 := h.cell 15 (.bool x.crc) rfl
  clear h hz
  by_cases hc : x.sm = sumN x.crc x.da
  · rw [if_pos hc]
    have e1 : (x.sm != sumN x.crc x.da) = false := by simpa using hc
    clear hc
    generalize sumN x.crc x.da = sv at *
    generalize x.sm = m at *
    generalize x.da = dd at *
    generalize x.crc = cr at *
    go_enter Tryz.func105, Tryz.ntmps105
    go_upto_region 1 with fail
    go_quiet ((go_at_call 97; refine Calls.quiet_of_same ((HSm.out _).mono (fun e w' h => ⟨h.1, h.2⟩))))
    go_wp2_with fail
    go_ret
    exact ⟨rfl, HX.out, bel_drew (Below.refl _ _)⟩
  · rw [if_neg hc]
    have e1 : (x.sm != sumN x.crc x.da) = true := by simpa using hc
    clear hc
    generalize sumN x.crc x.da = sv at *
    generalize x.sm = m at *
    generalize x.da = dd at *
    generalize x.crc = cr at *
    go_enter Tryz.func105, Tryz.ntmps105
    go_upto_region 1 with fail
    go_quiet ((go_at_call 97; refine Calls.quiet_of_same ((HSm.out _).mono (fun e w' h => ⟨h.1, h.2⟩))))
    go_wp2_with fail
    go_ret
    exact ⟨rfl, HX.out, bel_drew (Below.refl _ _)⟩
end Go.Proofs.YtcnmbolmgifgfabGreatDoor

/- The walk of impl.GetNew through its five steps, for whatever they answer. -/
namespace Go.Proofs.YtcnmbolmgifgfabGreatDoor
open Go.ChangeShapes Go.WideShapes Go.ChangeAt Go.RowKit Go.Deep

theorem wpList_load_eqN {P : Program} {ops : Array Oper} {rest : List Oper} {o : Oper} {a : Act} {w : World} {Q : Exit → Act → World → Prop} (hgd : o.guard = none) (ty : TypeId) (x : Operand) (ho : o.op = .load ty x)
    (g : Addr) (hx : a.eval x = .pointer (some g)) {v : Value} (hr : (loadVar ty g).run P w = .ok v w) (h : wpList P ops Q rest (a.put o.dst v) w) : wpList P ops Q (o :: rest) a w :=
  wpList_plain hgd fun _ hK => by
    unfold Oper.wp execOp
    simp only [ho, hx, Instr.loadAt, Instr.sureAddr, Sem.run_bind, Sem.run_pure, Result.andThen_ok, hr]
    exact hK _ _ h
theorem wpList_store_eqN {P : Program} {ops : Array Oper} {rest : List Oper} {o : Oper} {a : Act} {w w' : World} {Q : Exit → Act → World → Prop} (hgd : o.guard = none) (ty : TypeId) (x y : Operand) (ho : o.op = .store ty x y)
    (g : Addr) (hx : a.eval x = .pointer (some g)) {v : Value} (hy : a.eval y = v) (hr : (storeVar ty g v).run P w = .ok () w') (h : wpList P ops Q rest (a.put o.dst undef) w') : wpList P ops Q (o :: rest) a w :=
  wpList_plain hgd fun _ hK => by
    unfold Oper.wp execOp
    simp only [ho, hx, hy, Instr.storeAt, Instr.sureAddr, Sem.run_bind, Sem.run_pure, Result.andThen_ok, hr]
    exact hK _ _ h
theorem Tryz.sizeNr : (Tryz.prog.info? 116).map (·.size) = some 20 := by kernel_rfl
def NZ20 : Array Value := #[.int .i64 0, .int .i64 0, .int .i64 0, .int .i64 0, .int .i64 0, .int .i64 0, .string ⟨#[]⟩, .string ⟨#[]⟩, .int .i64 0, .int .i64 0, .int .i64 0, .int .i64 0, .int .i64 0, .int .i64 0, .int .i64 0, .bool false, .string ⟨#[]⟩, .string ⟨#[]⟩, .string ⟨#[]⟩, .string ⟨#[]⟩]
theorem idx5 (a0 a1 a2 a3 a4 : Value) (w : World) : ((Instr.index 118 (.agg #[a0, a1, a2, a3, a4]) (.int .i64 0)).run Tryz.prog w = .ok a0 w ∧ (Instr.index 118 (.agg #[a0, a1, a2, a3, a4]) (.int .i64 1)).run Tryz.prog w = .ok a1 w) ∧ ((Instr.index 118 (.agg #[a0, a1, a2, a3, a4]) (.int .i64 2)).run Tryz.prog w = .ok a2 w ∧ (Instr.index 118 (.agg #[a0, a1, a2, a3, a4]) (.int .i64 3)).run Tryz.prog w = .ok a3 w) ∧ (Instr.index 118 (.agg #[a0, a1, a2, a3, a4]) (.int .i64 4)).run Tryz.prog w = .ok a4 w := by
  have hu := Tryz.underlying118
  have he := Tryz.underlying117
  have hsz : ∀ w, (sizeOf 117).run Tryz.prog w = .ok 1 w := fun w => by go_simp
  refine ⟨⟨?_, ?_⟩, ⟨?_, ?_⟩, ?_⟩ <;> simp [Instr.index, run_underlying hu, asIntOf, part, isAgg, run_underlying he, hsz, go_sem]
theorem Tryz.sizeF5 : (Tryz.prog.info? 118).map (·.size) = some 5 := by kernel_rfl
def fun5 (g : Nat) : Array Value := #[.func (.func 101) #[.pointer (some ⟨g, 0, none⟩)] #[], .func (.func 102) #[.pointer (some ⟨g, 0, none⟩)] #[], .func (.func 103) #[.pointer (some ⟨g, 0, none⟩)] #[], .func (.func 104) #[.pointer (some ⟨g, 0, none⟩)] #[], .func (.func 105) #[.pointer (some ⟨g, 0, none⟩)] #[]]
set_option maxHeartbeats 1600000 in
set_option maxRecDepth 8000 in
theorem getNew_walk (s : ByteArray) (j : Nat) (crc : Bool) (x1 x2 x3 x4 x5 : Nr) (c1 c2 c3 c4 c5 : Int) (V : Value) (w : World) (hs : s.size ≤ 1048576) (hj : j + 110 ≤ s.size)
    (HC1 : ∀ g w, NrO w g ⟨0, 0, 0, 0, 0, 0, ⟨#[]⟩, ⟨#[]⟩, 0, 0, 0, 0, 0, 0, 0, crc, s.extract j s.size, ⟨#[]⟩, ⟨#[]⟩, ⟨#[]⟩⟩ → Calls Tryz.prog 101 #[.pointer (some ⟨g, 0, none⟩)] w fun e w' => e = .returned (.int .i64 c1) ∧ (c1 = 0 → NrO w' g x1) ∧ Below g w w')
    (h1 : ¬ c1 = 0 → V = bdV j c1)
    (HC2 : ∀ g w, NrO w g x1 → Calls Tryz.prog 102 #[.pointer (some ⟨g, 0, none⟩)] w fun e w' => e = .returned (.int .i64 c2) ∧ (c2 = 0 → NrO w' g x2) ∧ Below g w w')
    (h2 : c1 = 0 → ¬ c2 = 0 → V = bdV j c2)
    (HC3 : ∀ g w, NrO w g x2 → Calls Tryz.prog 103 #[.pointer (some ⟨g, 0, none⟩)] w fun e w' => e = .returned (.int .i64 c3) ∧ (c3 = 0 → NrO w' g x3) ∧ Below g w w')
    (h3 : c1 = 0 → c2 = 0 → ¬ c3 = 0 → V = bdV j c3)
    (HC4 : ∀ g w, NrO w g x3 → Calls Tryz.prog 104 #[.pointer (some ⟨g, 0, none⟩)] w fun e w' => e = .returned (.int .i64 c4) ∧ (c4 = 0 → NrO w' g x4) ∧ Below g w w')
    (h4 : c1 = 0 → c2 = 0 → c3 = 0 → ¬ c4 = 0 → V = bdV j c4)
    (HC5 : ∀ g w, NrO w g x4 → Calls Tryz.prog 105 #[.pointer (some ⟨g, 0, none⟩)] w fun e w' => e = .returned (.int .i64 c5) ∧ (c5 = 0 → NrO w' g x5) ∧ Below g w w')
    (h5 : c1 = 0 → c2 = 0 → c3 = 0 → c4 = 0 → ¬ c5 = 0 → V = bdV j c5)
    (hrs : x5.rest.size ≤ 1048576)
    (h6 : c1 = 0 → c2 = 0 → c3 = 0 → c4 = 0 → c5 = 0 → V = .tuple #[.agg (Card.cells ⟨x5.n0, x5.n1, x5.n2, x5.n3, x5.n4, x5.n5, x5.pa, x5.da⟩).toArray, .int .i64 ((s.size : Int) - (x5.rest.size : Int)), .int .i64 0]) :
    Calls Tryz.prog 60 #[.string s, .int .i64 (j : Int), .bool crc] w fun e w' => e = .returned V ∧ Below w.heap.size w w' := by
  have hmf : ∀ (fn : Fn) (first cap : Array Value) (w : World), (Instr.makeFunc fn first cap).run Tryz.prog w = .ok (.func fn first cap) w := fun _ _ _ _ => rfl
  have h110 : ¬ (s.size : Int) - (j : Int) < 110 := by omega
  have hS : ∀ w, (Instr.slice 9 (.string s) (some (.int .i64 (j : Int))) none none).run Tryz.prog w = .ok (.string (s.extract j s.size)) w := fun w => by
    have h1 := run_slice_string_l (P := Tryz.prog) (w := w) (t := 9) (s := s) Tryz.underlying9 .i64 (j : Int) (by omega) (by omega)
    rw [Int.toNat_natCast] at h1
    exact h1
  replace HC1 := Lib.hid HC1
  replace h1 := Lib.hid h1
  replace HC2 := Lib.hid HC2
  replace h2 := Lib.hid h2
  replace HC3 := Lib.hid HC3
  replace h3 := Lib.hid h3
  replace HC4 := Lib.hid HC4
  replace h4 := Lib.hid h4
  replace HC5 := Lib.hid HC5
  replace h5 := Lib.hid h5
  replace h6 := Lib.hid h6
  have HRs : Hid ((s.size : Int) - (x5.rest.size : Int) ≤ 1048576 ∧ -1048576 ≤ (s.size : Int) - (x5.rest.size : Int)) := Lib.hid (by omega)
  clear hrs
  generalize s.extract j s.size = r0 at hS HC1
  go_enter Tryz.func60, Tryz.ntmps60
  go_upto_region 3 with fail
  generalize hw0 : World.alloc w _ = w0
  have R0 : Hid (CardO w0 w.heap.size zeroC) := Lib.hid (by rw [← hw0]; exact CardO.new w zeroC)
  have B0 : Hid (Below w.heap.size w w0) := Lib.hid (by rw [← hw0]; exact (Below.refl _ _).alloc (Nat.le_refl _) _)
  have HS9 : Hid (w0.heap.size = w.heap.size + 1) := Lib.hid (by rw [← hw0]; simp)
  clear hw0
  have HS0 := Lib.hid (run_storeVar_new (P := Tryz.prog) w0 116 NZ20 #[.int .i64 0, .int .i64 0, .int .i64 0, .int .i64 0, .int .i64 0, .int .i64 0, .string ⟨#[]⟩, .string ⟨#[]⟩, .int .i64 0, .int .i64 0, .int .i64 0, .int .i64 0, .int .i64 0, .int .i64 0, .int .i64 0, .bool crc, .string r0, .string ⟨#[]⟩, .string ⟨#[]⟩, .string ⟨#[]⟩] (by rw [Tryz.sizeNr]; rfl) rfl (by simp [Value.oneCell']))
  have X : Hid (NrO (w0.alloc (.cells #[.int .i64 0, .int .i64 0, .int .i64 0, .int .i64 0, .int .i64 0, .int .i64 0, .string ⟨#[]⟩, .string ⟨#[]⟩, .int .i64 0, .int .i64 0, .int .i64 0, .int .i64 0, .int .i64 0, .int .i64 0, .int .i64 0, .bool crc, .string r0, .string ⟨#[]⟩, .string ⟨#[]⟩, .string ⟨#[]⟩] 116)) w0.heap.size ⟨0, 0, 0, 0, 0, 0, ⟨#[]⟩, ⟨#[]⟩, 0, 0, 0, 0, 0, 0, 0, crc, r0, ⟨#[]⟩, ⟨#[]⟩, ⟨#[]⟩⟩) := Lib.hid (heap_lastG _ _)
  have R : Hid (CardO (w0.alloc (.cells #[.int .i64 0, .int .i64 0, .int .i64 0, .int .i64 0, .int .i64 0, .int .i64 0, .string ⟨#[]⟩, .string ⟨#[]⟩, .int .i64 0, .int .i64 0, .int .i64 0, .int .i64 0, .int .i64 0, .int .i64 0, .int .i64 0, .bool crc, .string r0, .string ⟨#[]⟩, .string ⟨#[]⟩, .string ⟨#[]⟩] 116)) w.heap.size zeroC) := Lib.hid (R0.out.below ((Below.refl w0.heap.size w0).alloc (Nat.le_refl _) _) (by have := HS9.out; omega))
  have B : Hid (Below w.heap.size w (w0.alloc (.cells #[.int .i64 0, .int .i64 0, .int .i64 0, .int .i64 0, .int .i64 0, .int .i64 0, .string ⟨#[]⟩, .string ⟨#[]⟩, .int .i64 0, .int .i64 0, .int .i64 0, .int .i64 0, .int .i64 0, .int .i64 0, .int .i64 0, .bool crc, .string r0, .string ⟨#[]⟩, .string ⟨#[]⟩, .string ⟨#[]⟩] 116))) := Lib.hid (B0.out.alloc (by have := HS9.out; omega) _)
  have HS8 : Hid ((w0.alloc (.cells #[.int .i64 0, .int .i64 0, .int .i64 0, .int .i64 0, .int .i64 0, .int .i64 0, .string ⟨#[]⟩, .string ⟨#[]⟩, .int .i64 0, .int .i64 0, .int .i64 0, .int .i64 0, .int .i64 0, .int .i64 0, .int .i64 0, .bool crc, .string r0, .string ⟨#[]⟩, .string ⟨#[]⟩, .string ⟨#[]⟩] 116)).heap.size = w0.heap.size + 1) := Lib.hid (by simp)
  clear R0 B0
  go_upto_region 4 with ((with_reducible refine wpList_store_eqN rfl 116 _ _ rfl ⟨w0.heap.size, 0, none⟩ ?_ ?_ HS0.out ?_); rfl; rfl)
  generalize w0.alloc (.cells #[.int .i64 0, .int .i64 0, .int .i64 0, .int .i64 0, .int .i64 0, .int .i64 0, .string ⟨#[]⟩, .string ⟨#[]⟩, .int .i64 0, .int .i64 0, .int .i64 0, .int .i64 0, .int .i64 0, .int .i64 0, .int .i64 0, .bool crc, .string r0, .string ⟨#[]⟩, .string ⟨#[]⟩, .string ⟨#[]⟩] 116) = w1 at HS8 X R B ⊢
  clear HS0
  have HSt := Lib.hid (run_storeVar_new (P := Tryz.prog) w1 118 #[.nilFunc, .nilFunc, .nilFunc, .nilFunc, .nilFunc] #[.func (.func 101) #[.pointer (some ⟨w0.heap.size, 0, none⟩)] #[], .func (.func 102) #[.pointer (some ⟨w0.heap.size, 0, none⟩)] #[], .func (.func 103) #[.pointer (some ⟨w0.heap.size, 0, none⟩)] #[], .func (.func 104) #[.pointer (some ⟨w0.heap.size, 0, none⟩)] #[], .func (.func 105) #[.pointer (some ⟨w0.heap.size, 0, none⟩)] #[]] (by rw [Tryz.sizeF5]; rfl) rfl (by simp [Value.oneCell']))
  have HLd := Lib.hid (run_loadVar_row (P := Tryz.prog) (w1.alloc (.cells #[.func (.func 101) #[.pointer (some ⟨w0.heap.size, 0, none⟩)] #[], .func (.func 102) #[.pointer (some ⟨w0.heap.size, 0, none⟩)] #[], .func (.func 103) #[.pointer (some ⟨w0.heap.size, 0, none⟩)] #[], .func (.func 104) #[.pointer (some ⟨w0.heap.size, 0, none⟩)] #[], .func (.func 105) #[.pointer (some ⟨w0.heap.size, 0, none⟩)] #[]] 118)) w1.heap.size 118 118 _ (0, 0) _ (heap_lastG _ _) Tryz.underlying118 rfl (by rw [Tryz.sizeF5]; rfl))
  go_wp2_with (first | ((with_reducible refine wpList_store_eqN rfl 118 _ _ rfl ⟨w1.heap.size, 0, none⟩ ?_ ?_ HSt.out ?_); rfl; rfl) | ((with_reducible refine wpList_load_eqN rfl 118 _ rfl ⟨w1.heap.size, 0, none⟩ ?_ HLd.out ?_); rfl))

  have R1 : Hid (CardO (w1.alloc (.cells #[.func (.func 101) #[.pointer (some ⟨w0.heap.size, 0, none⟩)] #[], .func (.func 102) #[.pointer (some ⟨w0.heap.size, 0, none⟩)] #[], .func (.func 103) #[.pointer (some ⟨w0.heap.size, 0, none⟩)] #[], .func (.func 104) #[.pointer (some ⟨w0.heap.size, 0, none⟩)] #[], .func (.func 105) #[.pointer (some ⟨w0.heap.size, 0, none⟩)] #[]] 118)) w.heap.size zeroC) := Lib.hid (R.out.below ((Below.refl w1.heap.size w1).alloc (Nat.le_refl _) _) (by have := HS9.out; have := HS8.out; omega))
  have X1 := Lib.hid (X.out.below ((Below.refl w1.heap.size w1).alloc (Nat.le_refl _) (.cells #[.func (.func 101) #[.pointer (some ⟨w0.heap.size, 0, none⟩)] #[], .func (.func 102) #[.pointer (some ⟨w0.heap.size, 0, none⟩)] #[], .func (.func 103) #[.pointer (some ⟨w0.heap.size, 0, none⟩)] #[], .func (.func 104) #[.pointer (some ⟨w0.heap.size, 0, none⟩)] #[], .func (.func 105) #[.pointer (some ⟨w0.heap.size, 0, none⟩)] #[]] 118)) (by have := HS8.out; omega))
  have B1 : Hid (Below w.heap.size w (w1.alloc (.cells #[.func (.func 101) #[.pointer (some ⟨w0.heap.size, 0, none⟩)] #[], .func (.func 102) #[.pointer (some ⟨w0.heap.size, 0, none⟩)] #[], .func (.func 103) #[.pointer (some ⟨w0.heap.size, 0, none⟩)] #[], .func (.func 104) #[.pointer (some ⟨w0.heap.size, 0, none⟩)] #[], .func (.func 105) #[.pointer (some ⟨w0.heap.size, 0, none⟩)] #[]] 118))) := Lib.hid (B.out.alloc (by have := HS9.out; have := HS8.out; omega) _)
  clear R X B HSt HLd
  generalize w1.alloc (.cells #[.func (.func 101) #[.pointer (some ⟨w0.heap.size, 0, none⟩)] #[], .func (.func 102) #[.pointer (some ⟨w0.heap.size, 0, none⟩)] #[], .func (.func 103) #[.pointer (some ⟨w0.heap.size, 0, none⟩)] #[], .func (.func 104) #[.pointer (some ⟨w0.heap.size, 0, none⟩)] #[], .func (.func 105) #[.pointer (some ⟨w0.heap.size, 0, none⟩)] #[]] 118) = wa0 at R1 X1 B1 ⊢
  have hIx0 := fun w => (idx5 (.func (.func 101) #[.pointer (some ⟨w0.heap.size, 0, none⟩)] #[]) (.func (.func 102) #[.pointer (some ⟨w0.heap.size, 0, none⟩)] #[]) (.func (.func 103) #[.pointer (some ⟨w0.heap.size, 0, none⟩)] #[]) (.func (.func 104) #[.pointer (some ⟨w0.heap.size, 0, none⟩)] #[]) (.func (.func 105) #[.pointer (some ⟨w0.heap.size, 0, none⟩)] #[]) w).1.1
  have hIx1 := fun w => (idx5 (.func (.func 101) #[.pointer (some ⟨w0.heap.size, 0, none⟩)] #[]) (.func (.func 102) #[.pointer (some ⟨w0.heap.size, 0, none⟩)] #[]) (.func (.func 103) #[.pointer (some ⟨w0.heap.size, 0, none⟩)] #[]) (.func (.func 104) #[.pointer (some ⟨w0.heap.size, 0, none⟩)] #[]) (.func (.func 105) #[.pointer (some ⟨w0.heap.size, 0, none⟩)] #[]) w).1.2
  have hIx2 := fun w => (idx5 (.func (.func 101) #[.pointer (some ⟨w0.heap.size, 0, none⟩)] #[]) (.func (.func 102) #[.pointer (some ⟨w0.heap.size, 0, none⟩)] #[]) (.func (.func 103) #[.pointer (some ⟨w0.heap.size, 0, none⟩)] #[]) (.func (.func 104) #[.pointer (some ⟨w0.heap.size, 0, none⟩)] #[]) (.func (.func 105) #[.pointer (some ⟨w0.heap.size, 0, none⟩)] #[]) w).2.1.1
  have hIx3 := fun w => (idx5 (.func (.func 101) #[.pointer (some ⟨w0.heap.size, 0, none⟩)] #[]) (.func (.func 102) #[.pointer (some ⟨w0.heap.size, 0, none⟩)] #[]) (.func (.func 103) #[.pointer (some ⟨w0.heap.size, 0, none⟩)] #[]) (.func (.func 104) #[.pointer (some ⟨w0.heap.size, 0, none⟩)] #[]) (.func (.func 105) #[.pointer (some ⟨w0.heap.size, 0, none⟩)] #[]) w).2.1.2
  have hIx4 := fun w => (idx5 (.func (.func 101) #[.pointer (some ⟨w0.heap.size, 0, none⟩)] #[]) (.func (.func 102) #[.pointer (some ⟨w0.heap.size, 0, none⟩)] #[]) (.func (.func 103) #[.pointer (some ⟨w0.heap.size, 0, none⟩)] #[]) (.func (.func 104) #[.pointer (some ⟨w0.heap.size, 0, none⟩)] #[]) (.func (.func 105) #[.pointer (some ⟨w0.heap.size, 0, none⟩)] #[]) w).2.2
  refine wp_loop_rounds 6 ?_
  rw [rounds_succ]
  go_wp2_with fail
  refine (HC1.out _ _ X1.out).mono ?_
  rintro e wa1 ⟨rfl, hx, hb⟩
  have R2 : Hid (CardO wa1 w.heap.size zeroC) := Lib.hid (R1.out.below hb (by have := HS9.out; omega))
  have B2 : Hid (Below w.heap.size w wa1) := Lib.hid (B1.out.trans (hb.mono (by have := HS9.out; omega)))
  clear hb HC1 R1 B1 X1
  by_cases q1 : ¬ c1 = 0
  · have HF := Lib.hid (h1.out  q1)
    have e1 : (c1 != 0) = true := by simpa using q1
    clear hx h1 h2 h3 h4 h5 h6 HC2 HC3 HC4 HC5
    obtain ⟨d0, d1, d2, d3, d4, d5, d6, d7⟩ := (R2.out).at.zero
    simp only [zeroC] at d0 d1 d2 d3 d4 d5 d6 d7
    have f0 := (R2.out).fz 0
    have f1 := (R2.out).fz 1
    have f2 := (R2.out).fz 2
    have f3 := (R2.out).fz 3
    have f4 := (R2.out).fz 4
    have f5 := (R2.out).fz 5
    have f6 := (R2.out).fz 6
    have f7 := (R2.out).fz 7
    have R9 := (R2.out).put zeroC
    have B9 := below_putOC (g := w.heap.size) (B2.out) (Nat.le_refl _) zeroC
    simp only [putOC, zeroC] at R9 B9
    go_wp2_with fail
    refine bodyPost_ret (res_OC3 rfl _ rfl R9) rfl ?_
    exact ⟨by rw [HF.out]; rfl, B9⟩
  have q1 : c1 = 0 := Decidable.byContradiction q1
  subst q1
  have X2 := Lib.hid (hx rfl)
  clear hx h1
  go_wp2_with fail
  rw [rounds_succ]
  go_wp2_with fail
  refine (HC2.out _ _ X2.out).mono ?_
  rintro e wa2 ⟨rfl, hx, hb⟩
  have R3 : Hid (CardO wa2 w.heap.size zeroC) := Lib.hid (R2.out.below hb (by have := HS9.out; omega))
  have B3 : Hid (Below w.heap.size w wa2) := Lib.hid (B2.out.trans (hb.mono (by have := HS9.out; omega)))
  clear hb HC2 R2 B2 X2
  by_cases q2 : ¬ c2 = 0
  · have HF := Lib.hid (h2.out (by simp) q2)
    have e2 : (c2 != 0) = true := by simpa using q2
    clear hx h2 h3 h4 h5 h6 HC3 HC4 HC5
    obtain ⟨d0, d1, d2, d3, d4, d5, d6, d7⟩ := (R3.out).at.zero
    simp only [zeroC] at d0 d1 d2 d3 d4 d5 d6 d7
    have f0 := (R3.out).fz 0
    have f1 := (R3.out).fz 1
    have f2 := (R3.out).fz 2
    have f3 := (R3.out).fz 3
    have f4 := (R3.out).fz 4
    have f5 := (R3.out).fz 5
    have f6 := (R3.out).fz 6
    have f7 := (R3.out).fz 7
    have R9 := (R3.out).put zeroC
    have B9 := below_putOC (g := w.heap.size) (B3.out) (Nat.le_refl _) zeroC
    simp only [putOC, zeroC] at R9 B9
    go_wp2_with fail
    refine bodyPost_ret (res_OC3 rfl _ rfl R9) rfl ?_
    exact ⟨by rw [HF.out]; rfl, B9⟩
  have q2 : c2 = 0 := Decidable.byContradiction q2
  subst q2
  have X3 := Lib.hid (hx rfl)
  clear hx h2
  go_wp2_with fail
  rw [rounds_succ]
  go_wp2_with fail
  refine (HC3.out _ _ X3.out).mono ?_
  rintro e wa3 ⟨rfl, hx, hb⟩
  have R4 : Hid (CardO wa3 w.heap.size zeroC) := Lib.hid (R3.out.below hb (by have := HS9.out; omega))
  have B4 : Hid (Below w.heap.size w wa3) := Lib.hid (B3.out.trans (hb.mono (by have := HS9.out; omega)))
  clear hb HC3 R3 B3 X3
  by_cases q3 : ¬ c3 = 0
  · have HF := Lib.hid (h3.out (by simp) (by simp) q3)
    have e3 : (c3 != 0) = true := by simpa using q3
    clear hx h3 h4 h5 h6 HC4 HC5
    obtain ⟨d0, d1, d2, d3, d4, d5, d6, d7⟩ := (R4.out).at.zero
    simp only [zeroC] at d0 d1 d2 d3 d4 d5 d6 d7
    have f0 := (R4.out).fz 0
    have f1 := (R4.out).fz 1
    have f2 := (R4.out).fz 2
    have f3 := (R4.out).fz 3
    have f4 := (R4.out).fz 4
    have f5 := (R4.out).fz 5
    have f6 := (R4.out).fz 6
    have f7 := (R4.out).fz 7
    have R9 := (R4.out).put zeroC
    have B9 := below_putOC (g := w.heap.size) (B4.out) (Nat.le_refl _) zeroC
    simp only [putOC, zeroC] at R9 B9
    go_wp2_with fail
    refine bodyPost_ret (res_OC3 rfl _ rfl R9) rfl ?_
    exact ⟨by rw [HF.out]; rfl, B9⟩
  have q3 : c3 = 0 := Decidable.byContradiction q3
  subst q3
  have X4 := Lib.hid (hx rfl)
  clear hx h3
  go_wp2_with fail
  rw [rounds_succ]
  go_wp2_with fail
  refine (HC4.out _ _ X4.out).mono ?_
  rintro e wa4 ⟨rfl, hx, hb⟩
  have R5 : Hid (CardO wa4 w.heap.size zeroC) := Lib.hid (R4.out.below hb (by have := HS9.out; omega))
  have B5 : Hid (Below w.heap.size w wa4) := Lib.hid (B4.out.trans (hb.mono (by have := HS9.out; omega)))
  clear hb HC4 R4 B4 X4
  by_cases q4 : ¬ c4 = 0
  · have HF := Lib.hid (h4.out (by simp) (by simp) (by simp) q4)
    have e4 : (c4 != 0) = true := by simpa using q4
    clear hx h4 h5 h6 HC5
    obtain ⟨d0, d1, d2, d3, d4, d5, d6, d7⟩ := (R5.out).at.zero
    simp only [zeroC] at d0 d1 d2 d3 d4 d5 d6 d7
    have f0 := (R5.out).fz 0
    have f1 := (R5.out).fz 1
    have f2 := (R5.out).fz 2
    have f3 := (R5.out).fz 3
    have f4 := (R5.out).fz 4
    have f5 := (R5.out).fz 5
    have f6 := (R5.out).fz 6
    have f7 := (R5.out).fz 7
    have R9 := (R5.out).put zeroC
    have B9 := below_putOC (g := w.heap.size) (B5.out) (Nat.le_refl _) zeroC
    simp only [putOC, zeroC] at R9 B9
    go_wp2_with fail
    refine bodyPost_ret (res_OC3 rfl _ rfl R9) rfl ?_
    exact ⟨by rw [HF.out]; rfl, B9⟩
  have q4 : c4 = 0 := Decidable.byContradiction q4
  subst q4
  have X5 := Lib.hid (hx rfl)
  clear hx h4
  go_wp2_with fail
  rw [rounds_succ]
  go_wp2_with fail
  refine (HC5.out _ _ X5.out).mono ?_
  rintro e wa5 ⟨rfl, hx, hb⟩
  have R6 : Hid (CardO wa5 w.heap.size zeroC) := Lib.hid (R5.out.below hb (by have := HS9.out; omega))
  have B6 : Hid (Below w.heap.size w wa5) := Lib.hid (B5.out.trans (hb.mono (by have := HS9.out; omega)))
  clear hb HC5 R5 B5 X5
  by_cases q5 : ¬ c5 = 0
  · have HF := Lib.hid (h5.out (by simp) (by simp) (by simp) (by simp) q5)
    have e5 : (c5 != 0) = true := by simpa using q5
    clear hx h5 h6
    obtain ⟨d0, d1, d2, d3, d4, d5, d6, d7⟩ := (R6.out).at.zero
    simp only [zeroC] at d0 d1 d2 d3 d4 d5 d6 d7
    have f0 := (R6.out).fz 0
    have f1 := (R6.out).fz 1
    have f2 := (R6.out).fz 2
    have f3 := (R6.out).fz 3
    have f4 := (R6.out).fz 4
    have f5 := (R6.out).fz 5
    have f6 := (R6.out).fz 6
    have f7 := (R6.out).fz 7
    have R9 := (R6.out).put zeroC
    have B9 := below_putOC (g := w.heap.size) (B6.out) (Nat.le_refl _) zeroC
    simp only [putOC, zeroC] at R9 B9
    go_wp2_with fail
    refine bodyPost_ret (res_OC3 rfl _ rfl R9) rfl ?_
    exact ⟨by rw [HF.out]; rfl, B9⟩
  have q5 : c5 = 0 := Decidable.byContradiction q5
  subst q5
  have X6 := Lib.hid (hx rfl)
  clear hx h5
  go_wp2_with fail
  have HF := Lib.hid (h6.out (by simp) (by simp) (by simp) (by simp) (by simp))
  clear h6
  rw [rounds_succ]
  go_upto_region 12 with fail
  obtain ⟨n0, n1, n2, n3, n4, n5, pa, da, ds, z0, z1, z2, z3, ps, sm, cr, rst, nm, np, dp⟩ := x5
  simp only at HF HRs
  obtain ⟨gr, hgr⟩ : ∃ gr, gr = w0.heap.size := ⟨_, rfl⟩
  have HGR : Hid (gr = w.heap.size + 1) := Lib.hid (hgr.trans HS9.out)
  have HWA : Hid (gr < wa5.heap.size) := Lib.hid (by rw [hgr]; exact X6.out.lt)
  rw [← hgr] at X6 ⊢
  clear HS8 HS9 hgr
  have c0 := X6.out.cell 0 (.int .i64 n0) rfl
  have c1 := X6.out.cell 1 (.int .i64 n1) rfl
  have c2 := X6.out.cell 2 (.int .i64 n2) rfl
  have c3 := X6.out.cell 3 (.int .i64 n3) rfl
  have c4 := X6.out.cell 4 (.int .i64 n4) rfl
  have c5 := X6.out.cell 5 (.int .i64 n5) rfl
  have c6 := X6.out.cell 6 (.string pa) rfl
  have c7 := X6.out.cell 7 (.string da) rfl
  have c16 := X6.out.cell 16 (.string rst) rfl
  clear X6
  have hE : (s.size : Int) - (rst.size : Int) ≤ 1048576 ∧ -1048576 ≤ (s.size : Int) - (rst.size : Int) := HRs.out
  obtain ⟨E, hE2⟩ : ∃ E : Int, (s.size : Int) - (rst.size : Int) = E := ⟨_, rfl⟩
  rw [hE2] at HF
  have KC : Hid (∀ w' : World, (w'.cell? ⟨gr, 0, none⟩ = some (.int .i64 n0) ∧ w'.cell? ⟨gr, 1, none⟩ = some (.int .i64 n1) ∧ w'.cell? ⟨gr, 2, none⟩ = some (.int .i64 n2) ∧ w'.cell? ⟨gr, 3, none⟩ = some (.int .i64 n3) ∧ w'.cell? ⟨gr, 4, none⟩ = some (.int .i64 n4) ∧ w'.cell? ⟨gr, 5, none⟩ = some (.int .i64 n5) ∧ w'.cell? ⟨gr, 6, none⟩ = some (.string pa) ∧ w'.cell? ⟨gr, 7, none⟩ = some (.string da) ∧ w'.cell? ⟨gr, 16, none⟩ = some (.string rst)) → (w'.cell? ⟨gr, 0, none⟩ = some (.int .i64 n0) ∧ w'.cell? ⟨gr, 1, none⟩ = some (.int .i64 n1) ∧ w'.cell? ⟨gr, 2, none⟩ = some (.int .i64 n2) ∧ w'.cell? ⟨gr, 3, none⟩ = some (.int .i64 n3) ∧ w'.cell? ⟨gr, 4, none⟩ = some (.int .i64 n4) ∧ w'.cell? ⟨gr, 5, none⟩ = some (.int .i64 n5) ∧ w'.cell? ⟨gr, 6, none⟩ = some (.string pa) ∧ w'.cell? ⟨gr, 7, none⟩ = some (.string da) ∧ w'.cell? ⟨gr, 16, none⟩ = some (.string rst))) := Lib.hid (fun w' h => h)
  refine wp_region_u (by kernel_rfl) (fun w' => Below w.heap.size w w' ∧ (w'.cell? ⟨gr, 0, none⟩ = some (.int .i64 n0) ∧ w'.cell? ⟨gr, 1, none⟩ = some (.int .i64 n1) ∧ w'.cell? ⟨gr, 2, none⟩ = some (.int .i64 n2) ∧ w'.cell? ⟨gr, 3, none⟩ = some (.int .i64 n3) ∧ w'.cell? ⟨gr, 4, none⟩ = some (.int .i64 n4) ∧ w'.cell? ⟨gr, 5, none⟩ = some (.int .i64 n5) ∧ w'.cell? ⟨gr, 6, none⟩ = some (.string pa) ∧ w'.cell? ⟨gr, 7, none⟩ = some (.string da) ∧ w'.cell? ⟨gr, 16, none⟩ = some (.string rst)) ∧ (w'.heap[w.heap.size]? = some (.cells zeroC.cells.toArray 48 (0, 0)) ∨ w'.heap[w.heap.size]? = some (.cells #[.int .i64 n0, .int .i64 n1, .int .i64 n2, .int .i64 n3, .int .i64 n4, .int .i64 n5, .string pa, .string da] 48 (0, 0)))) (fun x y => y.heap[w.heap.size]? = x.heap[w.heap.size]? ∨ y.heap[w.heap.size]? = some (.cells #[.int .i64 n0, .int .i64 n1, .int .i64 n2, .int .i64 n3, .int .i64 n4, .int .i64 n5, .string pa, .string da] 48 (0, 0))) (fun dq vq _ => match dq with | 48 => vq = .pointer (some ⟨gr, 0, none⟩) | 49 => vq = .pointer (some ⟨gr, 0, none⟩) | 50 => vq = .agg #[.int .i64 n0, .int .i64 n1, .int .i64 n2, .int .i64 n3, .int .i64 n4, .int .i64 n5, .string pa, .string da] | 51 => vq = .string s | 52 => vq = .int .i64 (s.size : Int) | 53 => vq = .pointer (some ⟨gr, 16, none⟩) | 54 => vq = .string rst | 55 => vq = .int .i64 (rst.size : Int) | 56 => vq = .int .i64 E | 7 => vq = .int .i64 E | 8 => vq = .int .i64 0 | _ => True) (fun o w' => o.dst = none → w'.heap[w.heap.size]? = some (.cells #[.int .i64 n0, .int .i64 n1, .int .i64 n2, .int .i64 n3, .int .i64 n4, .int .i64 n5, .string pa, .string da] 48 (0, 0))) (by kernel_rfl) ⟨B6.out.drew, ⟨c0, c1, c2, c3, c4, c5, c6, c7, c16⟩, .inl R6.out⟩ (fun _ _ _ _ _ _ h => h) (fun _ _ _ _ hs hu hd => Or.elim hs (fun h => h.trans (hu hd)) (fun h => h)) ?hops ?hend
  case hops =>
    simp only [List.forall_mem_cons]
    refine ⟨?o48, ?o49, ?o50, ?o51, ?o52, ?o53, ?o54, ?o55, ?o56, ?os9, ?o7, ?o8, fun _ h => by cases h⟩
    case o48 =>
      intro Q a w2 hC hV hI
      have e9 : a.eval (.tmp 9) = .pointer (some ⟨gr, 0, none⟩) := (hI 9 (by simp [Op.operands]) (by kernel_rfl)).trans rfl
      have f9 : a.tmps.getD 9 undef = .pointer (some ⟨gr, 0, none⟩) := e9
      have g9 : a.tmps[9]?.getD undef = .pointer (some ⟨gr, 0, none⟩) := by rw [← Array.getD_eq_getD_getElem?]; exact e9
      refine opU_val (C := fun w' => Below w.heap.size w w' ∧ (w'.cell? ⟨gr, 0, none⟩ = some (.int .i64 n0) ∧ w'.cell? ⟨gr, 1, none⟩ = some (.int .i64 n1) ∧ w'.cell? ⟨gr, 2, none⟩ = some (.int .i64 n2) ∧ w'.cell? ⟨gr, 3, none⟩ = some (.int .i64 n3) ∧ w'.cell? ⟨gr, 4, none⟩ = some (.int .i64 n4) ∧ w'.cell? ⟨gr, 5, none⟩ = some (.int .i64 n5) ∧ w'.cell? ⟨gr, 6, none⟩ = some (.string pa) ∧ w'.cell? ⟨gr, 7, none⟩ = some (.string da) ∧ w'.cell? ⟨gr, 16, none⟩ = some (.string rst)) ∧ (w'.heap[w.heap.size]? = some (.cells zeroC.cells.toArray 48 (0, 0)) ∨ w'.heap[w.heap.size]? = some (.cells #[.int .i64 n0, .int .i64 n1, .int .i64 n2, .int .i64 n3, .int .i64 n4, .int .i64 n5, .string pa, .string da] 48 (0, 0)))) (St := fun x y => y.heap[w.heap.size]? = x.heap[w.heap.size]? ∨ y.heap[w.heap.size]? = some (.cells #[.int .i64 n0, .int .i64 n1, .int .i64 n2, .int .i64 n3, .int .i64 n4, .int .i64 n5, .string pa, .string da] 48 (0, 0))) (V := fun dq vq _ => match dq with | 48 => vq = .pointer (some ⟨gr, 0, none⟩) | 49 => vq = .pointer (some ⟨gr, 0, none⟩) | 50 => vq = .agg #[.int .i64 n0, .int .i64 n1, .int .i64 n2, .int .i64 n3, .int .i64 n4, .int .i64 n5, .string pa, .string da] | 51 => vq = .string s | 52 => vq = .int .i64 (s.size : Int) | 53 => vq = .pointer (some ⟨gr, 16, none⟩) | 54 => vq = .string rst | 55 => vq = .int .i64 (rst.size : Int) | 56 => vq = .int .i64 E | 7 => vq = .int .i64 E | 8 => vq = .int .i64 0 | _ => True) (U := fun o w' => o.dst = none → w'.heap[w.heap.size]? = some (.cells #[.int .i64 n0, .int .i64 n1, .int .i64 n2, .int .i64 n3, .int .i64 n4, .int .i64 n5, .string pa, .string da] 48 (0, 0))) (w' := w2) (.pointer (some ⟨gr, 0, none⟩)) ?_ ?_ ?_ ?_ ?_
      · (clear hV hI hC; go_simp <;> (first | rfl | simp | (rw [IntKind.wrap_i64]; omega)))
      · exact hC
      · exact Or.inl rfl
      · intro d hd; cases hd; rfl
      · intro h; cases h
    case o49 =>
      intro Q a w2 hC hV hI
      have e48 : a.eval (.tmp 48) = .pointer (some ⟨gr, 0, none⟩) := hV 48 (by simp [Op.operands]) (by kernel_rfl)
      have f48 : a.tmps.getD 48 undef = .pointer (some ⟨gr, 0, none⟩) := e48
      have g48 : a.tmps[48]?.getD undef = .pointer (some ⟨gr, 0, none⟩) := by rw [← Array.getD_eq_getD_getElem?]; exact e48
      refine opU_val (C := fun w' => Below w.heap.size w w' ∧ (w'.cell? ⟨gr, 0, none⟩ = some (.int .i64 n0) ∧ w'.cell? ⟨gr, 1, none⟩ = some (.int .i64 n1) ∧ w'.cell? ⟨gr, 2, none⟩ = some (.int .i64 n2) ∧ w'.cell? ⟨gr, 3, none⟩ = some (.int .i64 n3) ∧ w'.cell? ⟨gr, 4, none⟩ = some (.int .i64 n4) ∧ w'.cell? ⟨gr, 5, none⟩ = some (.int .i64 n5) ∧ w'.cell? ⟨gr, 6, none⟩ = some (.string pa) ∧ w'.cell? ⟨gr, 7, none⟩ = some (.string da) ∧ w'.cell? ⟨gr, 16, none⟩ = some (.string rst)) ∧ (w'.heap[w.heap.size]? = some (.cells zeroC.cells.toArray 48 (0, 0)) ∨ w'.heap[w.heap.size]? = some (.cells #[.int .i64 n0, .int .i64 n1, .int .i64 n2, .int .i64 n3, .int .i64 n4, .int .i64 n5, .string pa, .string da] 48 (0, 0)))) (St := fun x y => y.heap[w.heap.size]? = x.heap[w.heap.size]? ∨ y.heap[w.heap.size]? = some (.cells #[.int .i64 n0, .int .i64 n1, .int .i64 n2, .int .i64 n3, .int .i64 n4, .int .i64 n5, .string pa, .string da] 48 (0, 0))) (V := fun dq vq _ => match dq with | 48 => vq = .pointer (some ⟨gr, 0, none⟩) | 49 => vq = .pointer (some ⟨gr, 0, none⟩) | 50 => vq = .agg #[.int .i64 n0, .int .i64 n1, .int .i64 n2, .int .i64 n3, .int .i64 n4, .int .i64 n5, .string pa, .string da] | 51 => vq = .string s | 52 => vq = .int .i64 (s.size : Int) | 53 => vq = .pointer (some ⟨gr, 16, none⟩) | 54 => vq = .string rst | 55 => vq = .int .i64 (rst.size : Int) | 56 => vq = .int .i64 E | 7 => vq = .int .i64 E | 8 => vq = .int .i64 0 | _ => True) (U := fun o w' => o.dst = none → w'.heap[w.heap.size]? = some (.cells #[.int .i64 n0, .int .i64 n1, .int .i64 n2, .int .i64 n3, .int .i64 n4, .int .i64 n5, .string pa, .string da] 48 (0, 0))) (w' := w2) (.pointer (some ⟨gr, 0, none⟩)) ?_ ?_ ?_ ?_ ?_
      · (clear hV hI hC; go_simp <;> (first | rfl | simp | (rw [IntKind.wrap_i64]; omega)))
      · exact hC
      · exact Or.inl rfl
      · intro d hd; cases hd; rfl
      · intro h; cases h
    case o50 =>
      intro Q a w2 hC hV hI
      have e49 : a.eval (.tmp 49) = .pointer (some ⟨gr, 0, none⟩) := hV 49 (by simp [Op.operands]) (by kernel_rfl)
      have f49 : a.tmps.getD 49 undef = .pointer (some ⟨gr, 0, none⟩) := e49
      have g49 : a.tmps[49]?.getD undef = .pointer (some ⟨gr, 0, none⟩) := by rw [← Array.getD_eq_getD_getElem?]; exact e49
      have hK := KC.out w2 hC.2.1
      refine opU_val (C := fun w' => Below w.heap.size w w' ∧ (w'.cell? ⟨gr, 0, none⟩ = some (.int .i64 n0) ∧ w'.cell? ⟨gr, 1, none⟩ = some (.int .i64 n1) ∧ w'.cell? ⟨gr, 2, none⟩ = some (.int .i64 n2) ∧ w'.cell? ⟨gr, 3, none⟩ = some (.int .i64 n3) ∧ w'.cell? ⟨gr, 4, none⟩ = some (.int .i64 n4) ∧ w'.cell? ⟨gr, 5, none⟩ = some (.int .i64 n5) ∧ w'.cell? ⟨gr, 6, none⟩ = some (.string pa) ∧ w'.cell? ⟨gr, 7, none⟩ = some (.string da) ∧ w'.cell? ⟨gr, 16, none⟩ = some (.string rst)) ∧ (w'.heap[w.heap.size]? = some (.cells zeroC.cells.toArray 48 (0, 0)) ∨ w'.heap[w.heap.size]? = some (.cells #[.int .i64 n0, .int .i64 n1, .int .i64 n2, .int .i64 n3, .int .i64 n4, .int .i64 n5, .string pa, .string da] 48 (0, 0)))) (St := fun x y => y.heap[w.heap.size]? = x.heap[w.heap.size]? ∨ y.heap[w.heap.size]? = some (.cells #[.int .i64 n0, .int .i64 n1, .int .i64 n2, .int .i64 n3, .int .i64 n4, .int .i64 n5, .string pa, .string da] 48 (0, 0))) (V := fun dq vq _ => match dq with | 48 => vq = .pointer (some ⟨gr, 0, none⟩) | 49 => vq = .pointer (some ⟨gr, 0, none⟩) | 50 => vq = .agg #[.int .i64 n0, .int .i64 n1, .int .i64 n2, .int .i64 n3, .int .i64 n4, .int .i64 n5, .string pa, .string da] | 51 => vq = .string s | 52 => vq = .int .i64 (s.size : Int) | 53 => vq = .pointer (some ⟨gr, 16, none⟩) | 54 => vq = .string rst | 55 => vq = .int .i64 (rst.size : Int) | 56 => vq = .int .i64 E | 7 => vq = .int .i64 E | 8 => vq = .int .i64 0 | _ => True) (U := fun o w' => o.dst = none → w'.heap[w.heap.size]? = some (.cells #[.int .i64 n0, .int .i64 n1, .int .i64 n2, .int .i64 n3, .int .i64 n4, .int .i64 n5, .string pa, .string da] 48 (0, 0))) (w' := w2) (.agg #[.int .i64 n0, .int .i64 n1, .int .i64 n2, .int .i64 n3, .int .i64 n4, .int .i64 n5, .string pa, .string da]) ?_ ?_ ?_ ?_ ?_
      · (clear hV hI hC; go_simp <;> (first | rfl | simp | (rw [IntKind.wrap_i64]; omega)))
      · exact hC
      · exact Or.inl rfl
      · intro d hd; cases hd; rfl
      · intro h; cases h
    case o51 =>
      intro Q a w2 hC hV hI
      have e0 : a.eval (.tmp 0) = .string s := (hI 0 (by simp [Op.operands]) (by kernel_rfl)).trans rfl
      have f0 : a.tmps.getD 0 undef = .string s := e0
      have g0 : a.tmps[0]?.getD undef = .string s := by rw [← Array.getD_eq_getD_getElem?]; exact e0
      refine opU_val (C := fun w' => Below w.heap.size w w' ∧ (w'.cell? ⟨gr, 0, none⟩ = some (.int .i64 n0) ∧ w'.cell? ⟨gr, 1, none⟩ = some (.int .i64 n1) ∧ w'.cell? ⟨gr, 2, none⟩ = some (.int .i64 n2) ∧ w'.cell? ⟨gr, 3, none⟩ = some (.int .i64 n3) ∧ w'.cell? ⟨gr, 4, none⟩ = some (.int .i64 n4) ∧ w'.cell? ⟨gr, 5, none⟩ = some (.int .i64 n5) ∧ w'.cell? ⟨gr, 6, none⟩ = some (.string pa) ∧ w'.cell? ⟨gr, 7, none⟩ = some (.string da) ∧ w'.cell? ⟨gr, 16, none⟩ = some (.string rst)) ∧ (w'.heap[w.heap.size]? = some (.cells zeroC.cells.toArray 48 (0, 0)) ∨ w'.heap[w.heap.size]? = some (.cells #[.int .i64 n0, .int .i64 n1, .int .i64 n2, .int .i64 n3, .int .i64 n4, .int .i64 n5, .string pa, .string da] 48 (0, 0)))) (St := fun x y => y.heap[w.heap.size]? = x.heap[w.heap.size]? ∨ y.heap[w.heap.size]? = some (.cells #[.int .i64 n0, .int .i64 n1, .int .i64 n2, .int .i64 n3, .int .i64 n4, .int .i64 n5, .string pa, .string da] 48 (0, 0))) (V := fun dq vq _ => match dq with | 48 => vq = .pointer (some ⟨gr, 0, none⟩) | 49 => vq = .pointer (some ⟨gr, 0, none⟩) | 50 => vq = .agg #[.int .i64 n0, .int .i64 n1, .int .i64 n2, .int .i64 n3, .int .i64 n4, .int .i64 n5, .string pa, .string da] | 51 => vq = .string s | 52 => vq = .int .i64 (s.size : Int) | 53 => vq = .pointer (some ⟨gr, 16, none⟩) | 54 => vq = .string rst | 55 => vq = .int .i64 (rst.size : Int) | 56 => vq = .int .i64 E | 7 => vq = .int .i64 E | 8 => vq = .int .i64 0 | _ => True) (U := fun o w' => o.dst = none → w'.heap[w.heap.size]? = some (.cells #[.int .i64 n0, .int .i64 n1, .int .i64 n2, .int .i64 n3, .int .i64 n4, .int .i64 n5, .string pa, .string da] 48 (0, 0))) (w' := w2) (.string s) ?_ ?_ ?_ ?_ ?_
      · (clear hV hI hC; go_simp <;> (first | rfl | simp | (rw [IntKind.wrap_i64]; omega)))
      · exact hC
      · exact Or.inl rfl
      · intro d hd; cases hd; rfl
      · intro h; cases h
    case o52 =>
      intro Q a w2 hC hV hI
      have e51 : a.eval (.tmp 51) = .string s := hV 51 (by simp [Op.operands, Call.operands]) (by kernel_rfl)
      have f51 : a.tmps.getD 51 undef = .string s := e51
      have g51 : a.tmps[51]?.getD undef = .string s := by rw [← Array.getD_eq_getD_getElem?]; exact e51
      refine opU_val (C := fun w' => Below w.heap.size w w' ∧ (w'.cell? ⟨gr, 0, none⟩ = some (.int .i64 n0) ∧ w'.cell? ⟨gr, 1, none⟩ = some (.int .i64 n1) ∧ w'.cell? ⟨gr, 2, none⟩ = some (.int .i64 n2) ∧ w'.cell? ⟨gr, 3, none⟩ = some (.int .i64 n3) ∧ w'.cell? ⟨gr, 4, none⟩ = some (.int .i64 n4) ∧ w'.cell? ⟨gr, 5, none⟩ = some (.int .i64 n5) ∧ w'.cell? ⟨gr, 6, none⟩ = some (.string pa) ∧ w'.cell? ⟨gr, 7, none⟩ = some (.string da) ∧ w'.cell? ⟨gr, 16, none⟩ = some (.string rst)) ∧ (w'.heap[w.heap.size]? = some (.cells zeroC.cells.toArray 48 (0, 0)) ∨ w'.heap[w.heap.size]? = some (.cells #[.int .i64 n0, .int .i64 n1, .int .i64 n2, .int .i64 n3, .int .i64 n4, .int .i64 n5, .string pa, .string da] 48 (0, 0)))) (St := fun x y => y.heap[w.heap.size]? = x.heap[w.heap.size]? ∨ y.heap[w.heap.size]? = some (.cells #[.int .i64 n0, .int .i64 n1, .int .i64 n2, .int .i64 n3, .int .i64 n4, .int .i64 n5, .string pa, .string da] 48 (0, 0))) (V := fun dq vq _ => match dq with | 48 => vq = .pointer (some ⟨gr, 0, none⟩) | 49 => vq = .pointer (some ⟨gr, 0, none⟩) | 50 => vq = .agg #[.int .i64 n0, .int .i64 n1, .int .i64 n2, .int .i64 n3, .int .i64 n4, .int .i64 n5, .string pa, .string da] | 51 => vq = .string s | 52 => vq = .int .i64 (s.size : Int) | 53 => vq = .pointer (some ⟨gr, 16, none⟩) | 54 => vq = .string rst | 55 => vq = .int .i64 (rst.size : Int) | 56 => vq = .int .i64 E | 7 => vq = .int .i64 E | 8 => vq = .int .i64 0 | _ => True) (U := fun o w' => o.dst = none → w'.heap[w.heap.size]? = some (.cells #[.int .i64 n0, .int .i64 n1, .int .i64 n2, .int .i64 n3, .int .i64 n4, .int .i64 n5, .string pa, .string da] 48 (0, 0))) (w' := w2) (.int .i64 (s.size : Int)) ?_ ?_ ?_ ?_ ?_
      · (clear hV hI hC; go_simp <;> (first | rfl | simp | (rw [IntKind.wrap_i64]; omega)))
      · exact hC
      · exact Or.inl rfl
      · intro d hd; cases hd; rfl
      · intro h; cases h
    case o53 =>
      intro Q a w2 hC hV hI
      have e9 : a.eval (.tmp 9) = .pointer (some ⟨gr, 0, none⟩) := (hI 9 (by simp [Op.operands]) (by kernel_rfl)).trans rfl
      have f9 : a.tmps.getD 9 undef = .pointer (some ⟨gr, 0, none⟩) := e9
      have g9 : a.tmps[9]?.getD undef = .pointer (some ⟨gr, 0, none⟩) := by rw [← Array.getD_eq_getD_getElem?]; exact e9
      refine opU_val (C := fun w' => Below w.heap.size w w' ∧ (w'.cell? ⟨gr, 0, none⟩ = some (.int .i64 n0) ∧ w'.cell? ⟨gr, 1, none⟩ = some (.int .i64 n1) ∧ w'.cell? ⟨gr, 2, none⟩ = some (.int .i64 n2) ∧ w'.cell? ⟨gr, 3, none⟩ = some (.int .i64 n3) ∧ w'.cell? ⟨gr, 4, none⟩ = some (.int .i64 n4) ∧ w'.cell? ⟨gr, 5, none⟩ = some (.int .i64 n5) ∧ w'.cell? ⟨gr, 6, none⟩ = some (.string pa) ∧ w'.cell? ⟨gr, 7, none⟩ = some (.string da) ∧ w'.cell? ⟨gr, 16, none⟩ = some (.string rst)) ∧ (w'.heap[w.heap.size]? = some (.cells zeroC.cells.toArray 48 (0, 0)) ∨ w'.heap[w.heap.size]? = some (.cells #[.int .i64 n0, .int .i64 n1, .int .i64 n2, .int .i64 n3, .int .i64 n4, .int .i64 n5, .string pa, .string da] 48 (0, 0)))) (St := fun x y => y.heap[w.heap.size]? = x.heap[w.heap.size]? ∨ y.heap[w.heap.size]? = some (.cells #[.int .i64 n0, .int .i64 n1, .int .i64 n2, .int .i64 n3, .int .i64 n4, .int .i64 n5, .string pa, .string da] 48 (0, 0))) (V := fun dq vq _ => match dq with | 48 => vq = .pointer (some ⟨gr, 0, none⟩) | 49 => vq = .pointer (some ⟨gr, 0, none⟩) | 50 => vq = .agg #[.int .i64 n0, .int .i64 n1, .int .i64 n2, .int .i64 n3, .int .i64 n4, .int .i64 n5, .string pa, .string da] | 51 => vq = .string s | 52 => vq = .int .i64 (s.size : Int) | 53 => vq = .pointer (some ⟨gr, 16, none⟩) | 54 => vq = .string rst | 55 => vq = .int .i64 (rst.size : Int) | 56 => vq = .int .i64 E | 7 => vq = .int .i64 E | 8 => vq = .int .i64 0 | _ => True) (U := fun o w' => o.dst = none → w'.heap[w.heap.size]? = some (.cells #[.int .i64 n0, .int .i64 n1, .int .i64 n2, .int .i64 n3, .int .i64 n4, .int .i64 n5, .string pa, .string da] 48 (0, 0))) (w' := w2) (.pointer (some ⟨gr, 16, none⟩)) ?_ ?_ ?_ ?_ ?_
      · (clear hV hI hC; go_simp <;> (first | rfl | simp | (rw [IntKind.wrap_i64]; omega)))
      · exact hC
      · exact Or.inl rfl
      · intro d hd; cases hd; rfl
      · intro h; cases h
    case o54 =>
      intro Q a w2 hC hV hI
      have e53 : a.eval (.tmp 53) = .pointer (some ⟨gr, 16, none⟩) := hV 53 (by simp [Op.operands]) (by kernel_rfl)
      have f53 : a.tmps.getD 53 undef = .pointer (some ⟨gr, 16, none⟩) := e53
      have g53 : a.tmps[53]?.getD undef = .pointer (some ⟨gr, 16, none⟩) := by rw [← Array.getD_eq_getD_getElem?]; exact e53
      have hK := KC.out w2 hC.2.1
      refine opU_val (C := fun w' => Below w.heap.size w w' ∧ (w'.cell? ⟨gr, 0, none⟩ = some (.int .i64 n0) ∧ w'.cell? ⟨gr, 1, none⟩ = some (.int .i64 n1) ∧ w'.cell? ⟨gr, 2, none⟩ = some (.int .i64 n2) ∧ w'.cell? ⟨gr, 3, none⟩ = some (.int .i64 n3) ∧ w'.cell? ⟨gr, 4, none⟩ = some (.int .i64 n4) ∧ w'.cell? ⟨gr, 5, none⟩ = some (.int .i64 n5) ∧ w'.cell? ⟨gr, 6, none⟩ = some (.string pa) ∧ w'.cell? ⟨gr, 7, none⟩ = some (.string da) ∧ w'.cell? ⟨gr, 16, none⟩ = some (.string rst)) ∧ (w'.heap[w.heap.size]? = some (.cells zeroC.cells.toArray 48 (0, 0)) ∨ w'.heap[w.heap.size]? = some (.cells #[.int .i64 n0, .int .i64 n1, .int .i64 n2, .int .i64 n3, .int .i64 n4, .int .i64 n5, .string pa, .string da] 48 (0, 0)))) (St := fun x y => y.heap[w.heap.size]? = x.heap[w.heap.size]? ∨ y.heap[w.heap.size]? = some (.cells #[.int .i64 n0, .int .i64 n1, .int .i64 n2, .int .i64 n3, .int .i64 n4, .int .i64 n5, .string pa, .string da] 48 (0, 0))) (V := fun dq vq _ => match dq with | 48 => vq = .pointer (some ⟨gr, 0, none⟩) | 49 => vq = .pointer (some ⟨gr, 0, none⟩) | 50 => vq = .agg #[.int .i64 n0, .int .i64 n1, .int .i64 n2, .int .i64 n3, .int .i64 n4, .int .i64 n5, .string pa, .string da] | 51 => vq = .string s | 52 => vq = .int .i64 (s.size : Int) | 53 => vq = .pointer (some ⟨gr, 16, none⟩) | 54 => vq = .string rst | 55 => vq = .int .i64 (rst.size : Int) | 56 => vq = .int .i64 E | 7 => vq = .int .i64 E | 8 => vq = .int .i64 0 | _ => True) (U := fun o w' => o.dst = none → w'.heap[w.heap.size]? = some (.cells #[.int .i64 n0, .int .i64 n1, .int .i64 n2, .int .i64 n3, .int .i64 n4, .int .i64 n5, .string pa, .string da] 48 (0, 0))) (w' := w2) (.string rst) ?_ ?_ ?_ ?_ ?_
      · (clear hV hI hC; go_simp <;> (first | rfl | simp | (rw [IntKind.wrap_i64]; omega)))
      · exact hC
      · exact Or.inl rfl
      · intro d hd; cases hd; rfl
      · intro h; cases h
    case o55 =>
      intro Q a w2 hC hV hI
      have e54 : a.eval (.tmp 54) = .string rst := hV 54 (by simp [Op.operands, Call.operands]) (by kernel_rfl)
      have f54 : a.tmps.getD 54 undef = .string rst := e54
      have g54 : a.tmps[54]?.getD undef = .string rst := by rw [← Array.getD_eq_getD_getElem?]; exact e54
      refine opU_val (C := fun w' => Below w.heap.size w w' ∧ (w'.cell? ⟨gr, 0, none⟩ = some (.int .i64 n0) ∧ w'.cell? ⟨gr, 1, none⟩ = some (.int .i64 n1) ∧ w'.cell? ⟨gr, 2, none⟩ = some (.int .i64 n2) ∧ w'.cell? ⟨gr, 3, none⟩ = some (.int .i64 n3) ∧ w'.cell? ⟨gr, 4, none⟩ = some (.int .i64 n4) ∧ w'.cell? ⟨gr, 5, none⟩ = some (.int .i64 n5) ∧ w'.cell? ⟨gr, 6, none⟩ = some (.string pa) ∧ w'.cell? ⟨gr, 7, none⟩ = some (.string da) ∧ w'.cell? ⟨gr, 16, none⟩ = some (.string rst)) ∧ (w'.heap[w.heap.size]? = some (.cells zeroC.cells.toArray 48 (0, 0)) ∨ w'.heap[w.heap.size]? = some (.cells #[.int .i64 n0, .int .i64 n1, .int .i64 n2, .int .i64 n3, .int .i64 n4, .int .i64 n5, .string pa, .string da] 48 (0, 0)))) (St := fun x y => y.heap[w.heap.size]? = x.heap[w.heap.size]? ∨ y.heap[w.heap.size]? = some (.cells #[.int .i64 n0, .int .i64 n1, .int .i64 n2, .int .i64 n3, .int .i64 n4, .int .i64 n5, .string pa, .string da] 48 (0, 0))) (V := fun dq vq _ => match dq with | 48 => vq = .pointer (some ⟨gr, 0, none⟩) | 49 => vq = .pointer (some ⟨gr, 0, none⟩) | 50 => vq = .agg #[.int .i64 n0, .int .i64 n1, .int .i64 n2, .int .i64 n3, .int .i64 n4, .int .i64 n5, .string pa, .string da] | 51 => vq = .string s | 52 => vq = .int .i64 (s.size : Int) | 53 => vq = .pointer (some ⟨gr, 16, none⟩) | 54 => vq = .string rst | 55 => vq = .int .i64 (rst.size : Int) | 56 => vq = .int .i64 E | 7 => vq = .int .i64 E | 8 => vq = .int .i64 0 | _ => True) (U := fun o w' => o.dst = none → w'.heap[w.heap.size]? = some (.cells #[.int .i64 n0, .int .i64 n1, .int .i64 n2, .int .i64 n3, .int .i64 n4, .int .i64 n5, .string pa, .string da] 48 (0, 0))) (w' := w2) (.int .i64 (rst.size : Int)) ?_ ?_ ?_ ?_ ?_
      · (clear hV hI hC; go_simp <;> (first | rfl | simp | (rw [IntKind.wrap_i64]; omega)))
      · exact hC
      · exact Or.inl rfl
      · intro d hd; cases hd; rfl
      · intro h; cases h
    case o56 =>
      intro Q a w2 hC hV hI
      have e52 : a.eval (.tmp 52) = .int .i64 (s.size : Int) := hV 52 (by simp [Op.operands]) (by kernel_rfl)
      have f52 : a.tmps.getD 52 undef = .int .i64 (s.size : Int) := e52
      have g52 : a.tmps[52]?.getD undef = .int .i64 (s.size : Int) := by rw [← Array.getD_eq_getD_getElem?]; exact e52
      have e55 : a.eval (.tmp 55) = .int .i64 (rst.size : Int) := hV 55 (by simp [Op.operands]) (by kernel_rfl)
      have f55 : a.tmps.getD 55 undef = .int .i64 (rst.size : Int) := e55
      have g55 : a.tmps[55]?.getD undef = .int .i64 (rst.size : Int) := by rw [← Array.getD_eq_getD_getElem?]; exact e55
      refine opU_val (C := fun w' => Below w.heap.size w w' ∧ (w'.cell? ⟨gr, 0, none⟩ = some (.int .i64 n0) ∧ w'.cell? ⟨gr, 1, none⟩ = some (.int .i64 n1) ∧ w'.cell? ⟨gr, 2, none⟩ = some (.int .i64 n2) ∧ w'.cell? ⟨gr, 3, none⟩ = some (.int .i64 n3) ∧ w'.cell? ⟨gr, 4, none⟩ = some (.int .i64 n4) ∧ w'.cell? ⟨gr, 5, none⟩ = some (.int .i64 n5) ∧ w'.cell? ⟨gr, 6, none⟩ = some (.string pa) ∧ w'.cell? ⟨gr, 7, none⟩ = some (.string da) ∧ w'.cell? ⟨gr, 16, none⟩ = some (.string rst)) ∧ (w'.heap[w.heap.size]? = some (.cells zeroC.cells.toArray 48 (0, 0)) ∨ w'.heap[w.heap.size]? = some (.cells #[.int .i64 n0, .int .i64 n1, .int .i64 n2, .int .i64 n3, .int .i64 n4, .int .i64 n5, .string pa, .string da] 48 (0, 0)))) (St := fun x y => y.heap[w.heap.size]? = x.heap[w.heap.size]? ∨ y.heap[w.heap.size]? = some (.cells #[.int .i64 n0, .int .i64 n1, .int .i64 n2, .int .i64 n3, .int .i64 n4, .int .i64 n5, .string pa, .string da] 48 (0, 0))) (V := fun dq vq _ => match dq with | 48 => vq = .pointer (some ⟨gr, 0, none⟩) | 49 => vq = .pointer (some ⟨gr, 0, none⟩) | 50 => vq = .agg #[.int .i64 n0, .int .i64 n1, .int .i64 n2, .int .i64 n3, .int .i64 n4, .int .i64 n5, .string pa, .string da] | 51 => vq = .string s | 52 => vq = .int .i64 (s.size : Int) | 53 => vq = .pointer (some ⟨gr, 16, none⟩) | 54 => vq = .string rst | 55 => vq = .int .i64 (rst.size : Int) | 56 => vq = .int .i64 E | 7 => vq = .int .i64 E | 8 => vq = .int .i64 0 | _ => True) (U := fun o w' => o.dst = none → w'.heap[w.heap.size]? = some (.cells #[.int .i64 n0, .int .i64 n1, .int .i64 n2, .int .i64 n3, .int .i64 n4, .int .i64 n5, .string pa, .string da] 48 (0, 0))) (w' := w2) (.int .i64 E) ?_ ?_ ?_ ?_ ?_
      · (clear hV hI hC; go_simp <;> (first | rfl | simp | (rw [IntKind.wrap_i64]; omega)))
      · exact hC
      · exact Or.inl rfl
      · intro d hd; cases hd; rfl
      · intro h; cases h
    case os9 =>
      intro Q a w2 hC hV hI
      have e6 : a.eval (.tmp 6) = .pointer (some ⟨w.heap.size, 0, none⟩) := (hI 6 (by simp [Op.operands]) (by kernel_rfl)).trans rfl
      have f6 : a.tmps.getD 6 undef = .pointer (some ⟨w.heap.size, 0, none⟩) := e6
      have g6 : a.tmps[6]?.getD undef = .pointer (some ⟨w.heap.size, 0, none⟩) := by rw [← Array.getD_eq_getD_getElem?]; exact e6
      have e50 : a.eval (.tmp 50) = .agg #[.int .i64 n0, .int .i64 n1, .int .i64 n2, .int .i64 n3, .int .i64 n4, .int .i64 n5, .string pa, .string da] := hV 50 (by simp [Op.operands]) (by kernel_rfl)
      have f50 : a.tmps.getD 50 undef = .agg #[.int .i64 n0, .int .i64 n1, .int .i64 n2, .int .i64 n3, .int .i64 n4, .int .i64 n5, .string pa, .string da] := e50
      have g50 : a.tmps[50]?.getD undef = .agg #[.int .i64 n0, .int .i64 n1, .int .i64 n2, .int .i64 n3, .int .i64 n4, .int .i64 n5, .string pa, .string da] := by rw [← Array.getD_eq_getD_getElem?]; exact e50
      have hS : ∀ cs : Array Value, cs.size = 8 → w2.heap[w.heap.size]? = some (.cells cs 48 (0, 0)) → _ := fun cs hc hR => run_storeVar_row (P := Tryz.prog) w2 w.heap.size 48 48 cs #[.int .i64 n0, .int .i64 n1, .int .i64 n2, .int .i64 n3, .int .i64 n4, .int .i64 n5, .string pa, .string da] hR (by rw [Tryz.sizeOC]; rfl) hc (by simp [Value.oneCell'])
      have hR2 : (w2.setRow w.heap.size #[.int .i64 n0, .int .i64 n1, .int .i64 n2, .int .i64 n3, .int .i64 n4, .int .i64 n5, .string pa, .string da]).heap[w.heap.size]? = some (.cells #[.int .i64 n0, .int .i64 n1, .int .i64 n2, .int .i64 n3, .int .i64 n4, .int .i64 n5, .string pa, .string da] 48 (0, 0)) := hC.2.2.elim (fun h => setRow_heap _ _ _ _ _ _ h) (fun h => setRow_heap _ _ _ _ _ _ h)
      have hgr : gr ≠ w.heap.size := by have := HGR.out; omega
      have hcb : (w2.setRow w.heap.size #[.int .i64 n0, .int .i64 n1, .int .i64 n2, .int .i64 n3, .int .i64 n4, .int .i64 n5, .string pa, .string da]).heap[gr]? = w2.heap[gr]? := setRow_other _ _ _ _ hgr
      have hkb : ∀ m, (w2.setRow w.heap.size #[.int .i64 n0, .int .i64 n1, .int .i64 n2, .int .i64 n3, .int .i64 n4, .int .i64 n5, .string pa, .string da]).cell? ⟨gr, m, none⟩ = w2.cell? ⟨gr, m, none⟩ := fun m => World.cell?_of_block hcb
      refine opU_store (C := fun w' => Below w.heap.size w w' ∧ (w'.cell? ⟨gr, 0, none⟩ = some (.int .i64 n0) ∧ w'.cell? ⟨gr, 1, none⟩ = some (.int .i64 n1) ∧ w'.cell? ⟨gr, 2, none⟩ = some (.int .i64 n2) ∧ w'.cell? ⟨gr, 3, none⟩ = some (.int .i64 n3) ∧ w'.cell? ⟨gr, 4, none⟩ = some (.int .i64 n4) ∧ w'.cell? ⟨gr, 5, none⟩ = some (.int .i64 n5) ∧ w'.cell? ⟨gr, 6, none⟩ = some (.string pa) ∧ w'.cell? ⟨gr, 7, none⟩ = some (.string da) ∧ w'.cell? ⟨gr, 16, none⟩ = some (.string rst)) ∧ (w'.heap[w.heap.size]? = some (.cells zeroC.cells.toArray 48 (0, 0)) ∨ w'.heap[w.heap.size]? = some (.cells #[.int .i64 n0, .int .i64 n1, .int .i64 n2, .int .i64 n3, .int .i64 n4, .int .i64 n5, .string pa, .string da] 48 (0, 0)))) (St := fun x y => y.heap[w.heap.size]? = x.heap[w.heap.size]? ∨ y.heap[w.heap.size]? = some (.cells #[.int .i64 n0, .int .i64 n1, .int .i64 n2, .int .i64 n3, .int .i64 n4, .int .i64 n5, .string pa, .string da] 48 (0, 0))) (V := fun dq vq _ => match dq with | 48 => vq = .pointer (some ⟨gr, 0, none⟩) | 49 => vq = .pointer (some ⟨gr, 0, none⟩) | 50 => vq = .agg #[.int .i64 n0, .int .i64 n1, .int .i64 n2, .int .i64 n3, .int .i64 n4, .int .i64 n5, .string pa, .string da] | 51 => vq = .string s | 52 => vq = .int .i64 (s.size : Int) | 53 => vq = .pointer (some ⟨gr, 16, none⟩) | 54 => vq = .string rst | 55 => vq = .int .i64 (rst.size : Int) | 56 => vq = .int .i64 E | 7 => vq = .int .i64 E | 8 => vq = .int .i64 0 | _ => True) (U := fun o w' => o.dst = none → w'.heap[w.heap.size]? = some (.cells #[.int .i64 n0, .int .i64 n1, .int .i64 n2, .int .i64 n3, .int .i64 n4, .int .i64 n5, .string pa, .string da] 48 (0, 0))) 48 _ _ rfl rfl ⟨w.heap.size, 0, none⟩ e6 e50 (hC.2.2.elim (fun h => hS _ rfl h) (fun h => hS _ rfl h)) ?_ ?_ ?_
      · exact ⟨hC.1.trans (below_setK (Nat.le_refl _) _), ⟨(hkb 0).trans hC.2.1.1, (hkb 1).trans hC.2.1.2.1, (hkb 2).trans hC.2.1.2.2.1, (hkb 3).trans hC.2.1.2.2.2.1, (hkb 4).trans hC.2.1.2.2.2.2.1, (hkb 5).trans hC.2.1.2.2.2.2.2.1, (hkb 6).trans hC.2.1.2.2.2.2.2.2.1, (hkb 7).trans hC.2.1.2.2.2.2.2.2.2.1, (hkb 16).trans hC.2.1.2.2.2.2.2.2.2.2⟩, Or.inr hR2⟩
      · exact Or.inr hR2
      · intro _; exact hR2
    case o7 =>
      intro Q a w2 hC hV hI
      have e56 : a.eval (.tmp 56) = .int .i64 E := hV 56 (by simp [Op.operands]) (by kernel_rfl)
      have f56 : a.tmps.getD 56 undef = .int .i64 E := e56
      have g56 : a.tmps[56]?.getD undef = .int .i64 E := by rw [← Array.getD_eq_getD_getElem?]; exact e56
      refine opU_val (C := fun w' => Below w.heap.size w w' ∧ (w'.cell? ⟨gr, 0, none⟩ = some (.int .i64 n0) ∧ w'.cell? ⟨gr, 1, none⟩ = some (.int .i64 n1) ∧ w'.cell? ⟨gr, 2, none⟩ = some (.int .i64 n2) ∧ w'.cell? ⟨gr, 3, none⟩ = some (.int .i64 n3) ∧ w'.cell? ⟨gr, 4, none⟩ = some (.int .i64 n4) ∧ w'.cell? ⟨gr, 5, none⟩ = some (.int .i64 n5) ∧ w'.cell? ⟨gr, 6, none⟩ = some (.string pa) ∧ w'.cell? ⟨gr, 7, none⟩ = some (.string da) ∧ w'.cell? ⟨gr, 16, none⟩ = some (.string rst)) ∧ (w'.heap[w.heap.size]? = some (.cells zeroC.cells.toArray 48 (0, 0)) ∨ w'.heap[w.heap.size]? = some (.cells #[.int .i64 n0, .int .i64 n1, .int .i64 n2, .int .i64 n3, .int .i64 n4, .int .i64 n5, .string pa, .string da] 48 (0, 0)))) (St := fun x y => y.heap[w.heap.size]? = x.heap[w.heap.size]? ∨ y.heap[w.heap.size]? = some (.cells #[.int .i64 n0, .int .i64 n1, .int .i64 n2, .int .i64 n3, .int .i64 n4, .int .i64 n5, .string pa, .string da] 48 (0, 0))) (V := fun dq vq _ => match dq with | 48 => vq = .pointer (some ⟨gr, 0, none⟩) | 49 => vq = .pointer (some ⟨gr, 0, none⟩) | 50 => vq = .agg #[.int .i64 n0, .int .i64 n1, .int .i64 n2, .int .i64 n3, .int .i64 n4, .int .i64 n5, .string pa, .string da] | 51 => vq = .string s | 52 => vq = .int .i64 (s.size : Int) | 53 => vq = .pointer (some ⟨gr, 16, none⟩) | 54 => vq = .string rst | 55 => vq = .int .i64 (rst.size : Int) | 56 => vq = .int .i64 E | 7 => vq = .int .i64 E | 8 => vq = .int .i64 0 | _ => True) (U := fun o w' => o.dst = none → w'.heap[w.heap.size]? = some (.cells #[.int .i64 n0, .int .i64 n1, .int .i64 n2, .int .i64 n3, .int .i64 n4, .int .i64 n5, .string pa, .string da] 48 (0, 0))) (w' := w2) (.int .i64 E) ?_ ?_ ?_ ?_ ?_
      · (clear hV hI hC; go_simp <;> (first | rfl | simp | (rw [IntKind.wrap_i64]; omega)))
      · exact hC
      · exact Or.inl rfl
      · intro d hd; cases hd; rfl
      · intro h; cases h
    case o8 =>
      intro Q a w2 hC hV hI
      refine opU_val (C := fun w' => Below w.heap.size w w' ∧ (w'.cell? ⟨gr, 0, none⟩ = some (.int .i64 n0) ∧ w'.cell? ⟨gr, 1, none⟩ = some (.int .i64 n1) ∧ w'.cell? ⟨gr, 2, none⟩ = some (.int .i64 n2) ∧ w'.cell? ⟨gr, 3, none⟩ = some (.int .i64 n3) ∧ w'.cell? ⟨gr, 4, none⟩ = some (.int .i64 n4) ∧ w'.cell? ⟨gr, 5, none⟩ = some (.int .i64 n5) ∧ w'.cell? ⟨gr, 6, none⟩ = some (.string pa) ∧ w'.cell? ⟨gr, 7, none⟩ = some (.string da) ∧ w'.cell? ⟨gr, 16, none⟩ = some (.string rst)) ∧ (w'.heap[w.heap.size]? = some (.cells zeroC.cells.toArray 48 (0, 0)) ∨ w'.heap[w.heap.size]? = some (.cells #[.int .i64 n0, .int .i64 n1, .int .i64 n2, .int .i64 n3, .int .i64 n4, .int .i64 n5, .string pa, .string da] 48 (0, 0)))) (St := fun x y => y.heap[w.heap.size]? = x.heap[w.heap.size]? ∨ y.heap[w.heap.size]? = some (.cells #[.int .i64 n0, .int .i64 n1, .int .i64 n2, .int .i64 n3, .int .i64 n4, .int .i64 n5, .string pa, .string da] 48 (0, 0))) (V := fun dq vq _ => match dq with | 48 => vq = .pointer (some ⟨gr, 0, none⟩) | 49 => vq = .pointer (some ⟨gr, 0, none⟩) | 50 => vq = .agg #[.int .i64 n0, .int .i64 n1, .int .i64 n2, .int .i64 n3, .int .i64 n4, .int .i64 n5, .string pa, .string da] | 51 => vq = .string s | 52 => vq = .int .i64 (s.size : Int) | 53 => vq = .pointer (some ⟨gr, 16, none⟩) | 54 => vq = .string rst | 55 => vq = .int .i64 (rst.size : Int) | 56 => vq = .int .i64 E | 7 => vq = .int .i64 E | 8 => vq = .int .i64 0 | _ => True) (U := fun o w' => o.dst = none → w'.heap[w.heap.size]? = some (.cells #[.int .i64 n0, .int .i64 n1, .int .i64 n2, .int .i64 n3, .int .i64 n4, .int .i64 n5, .string pa, .string da] 48 (0, 0))) (w' := w2) (.int .i64 0) ?_ ?_ ?_ ?_ ?_
      · (clear hV hI hC; go_simp <;> (first | rfl | simp | (rw [IntKind.wrap_i64]; omega)))
      · exact hC
      · exact Or.inl rfl
      · intro d hd; cases hd; rfl
      · intro h; cases h
  case hend =>
    intro f w9 hC hall huall
    simp only [List.forall_mem_cons] at hall
    obtain ⟨h48, h49, h50, h51, h52, h53, h54, h55, h56, _, h7, h8, _⟩ := hall
    simp only [List.forall_mem_cons] at huall
    obtain ⟨_, _, _, _, _, _, _, _, _, hus, _, _, _⟩ := huall
    replace h48 : f 48 = .pointer (some ⟨gr, 0, none⟩) := h48 48 rfl
    replace h49 : f 49 = .pointer (some ⟨gr, 0, none⟩) := h49 49 rfl
    replace h50 : f 50 = .agg #[.int .i64 n0, .int .i64 n1, .int .i64 n2, .int .i64 n3, .int .i64 n4, .int .i64 n5, .string pa, .string da] := h50 50 rfl
    replace h51 : f 51 = .string s := h51 51 rfl
    replace h52 : f 52 = .int .i64 (s.size : Int) := h52 52 rfl
    replace h53 : f 53 = .pointer (some ⟨gr, 16, none⟩) := h53 53 rfl
    replace h54 : f 54 = .string rst := h54 54 rfl
    replace h55 : f 55 = .int .i64 (rst.size : Int) := h55 55 rfl
    replace h56 : f 56 = .int .i64 E := h56 56 rfl
    replace h7 : f 7 = .int .i64 E := h7 7 rfl
    replace h8 : f 8 = .int .i64 0 := h8 8 rfl
    simp only [putAll, Act.put, List.setIfInBounds_toArray, List.set_cons_succ, List.set_cons_zero, h48, h49, h50, h51, h52, h53, h54, h55, h56, h7, h8]
    clear h48 h49 h50 h51 h52 h53 h54 h55 h56 h7 h8
    have R9 : CardO w9 w.heap.size ⟨n0, n1, n2, n3, n4, n5, pa, da⟩ := hus trivial
    have B9 := hC.1
    clear KC hC hus
    go_wp2_with fail
    refine bodyPost_ret (res_OC3 rfl _ rfl R9) rfl ?_
    exact ⟨by rw [HF.out]; rfl, B9⟩
end Go.Proofs.YtcnmbolmgifgfabGreatDoor

/- Contract of impl.GetNew. -/
namespace Go.Proofs.YtcnmbolmgifgfabGreatDoor
open Go.ChangeShapes Go.WideShapes Go.ChangeAt Go.RowKit Go.Deep

def nr0 (s : ByteArray) (j : Nat) (crc : Bool) : Nr := ⟨0, 0, 0, 0, 0, 0, ⟨#[]⟩, ⟨#[]⟩, 0, 0, 0, 0, 0, 0, 0, crc, s.extract j s.size, ⟨#[]⟩, ⟨#[]⟩, ⟨#[]⟩⟩
theorem nr0_K (s : ByteArray) (j : Nat) (crc : Bool) : ({ nr0 s j crc with rest := s.extract (j + 6) s.size } : Nr) = nrK s j crc 0 := by simp [nr0, nrK, nrF]
theorem takeMagic0 (s : ByteArray) (j : Nat) (crc : Bool) (g : Nat) (w : World) (h : NrO w g (nr0 s j crc)) (hj : j + 110 ≤ s.size) :
    Calls Tryz.prog 101 #[.pointer (some ⟨g, 0, none⟩)] w fun e w' => e = .returned (.int .i64 (if s.extract j (j + 6) = mgN crc then 0 else 4)) ∧ (s.extract j (j + 6) = mgN crc → NrO w' g (nrK s j crc 0)) ∧ Below g w w' := by
  have hr : (nr0 s j crc).rest = s.extract j s.size := rfl
  have e1 := ext_preN s j 6 s.size (by omega) (Nat.le_refl _)
  have e2 := ext_sufN s j 6 s.size (by omega) (Nat.le_refl _)
  have h9 := takeMagic_any g (nr0 s j crc) w h (by rw [hr, ByteArray.size_extract]; omega)
  rw [hr, e1, e2, nr0_K, show (nr0 s j crc).crc = crc from rfl] at h9
  refine h9.mono ?_
  rintro e w' ⟨h1, h2, h3⟩
  refine ⟨h1, fun hm => ?_, h3⟩
  rw [if_pos hm] at h2
  exact h2
/-- The reader behind its texts. -/
def nr3 (s : ByteArray) (j : Nat) (crc : Bool) : Nr := ⟨nN s j 0, nN s j 1, nN s j 2, nN s j 3, nN s j 4, nN s j 5, ⟨#[]⟩, dtT s j, nN s j 6, nN s j 7, nN s j 8, nN s j 9, nN s j 10, nN s j 11, nN s j 12, crc, s.extract (cdE s j) s.size, nmB s j, s.extract (nmE s j) (dtB s j), s.extract (dtE s j) (cdE s j)⟩
def nr4 (s : ByteArray) (j : Nat) (crc : Bool) : Nr := { nr3 s j crc with pa := cutv (nmB s j) }
theorem takeTexts_N (N : Nat → Int) (s : ByteArray) (p : Nat) (crc : Bool) (g : Nat) (w : World) (h : NrO w g ⟨N 0, N 1, N 2, N 3, N 4, N 5, ⟨#[]⟩, ⟨#[]⟩, N 6, N 7, N 8, N 9, N 10, N 11, N 12, crc, s.extract p s.size, ⟨#[]⟩, ⟨#[]⟩, ⟨#[]⟩⟩) (b11 : 0 ≤ N 11 ∧ N 11 ≤ 4294967295) (b6 : 0 ≤ N 6 ∧ N 6 ≤ 4294967295) (hp : p ≤ s.size) (hs : s.size ≤ 1048576) :
    Calls Tryz.prog 103 #[.pointer (some ⟨g, 0, none⟩)] w fun e w' => e = .returned (.int .i64 (if s.size < p + (N 11).toNat + pad4 (110 + (N 11).toNat) + (N 6).toNat + pad4 (N 6).toNat then 1 else 0)) ∧ (¬ s.size < p + (N 11).toNat + pad4 (110 + (N 11).toNat) + (N 6).toNat + pad4 (N 6).toNat → NrO w' g ⟨N 0, N 1, N 2, N 3, N 4, N 5, ⟨#[]⟩, s.extract (p + (N 11).toNat + pad4 (110 + (N 11).toNat)) (p + (N 11).toNat + pad4 (110 + (N 11).toNat) + (N 6).toNat), N 6, N 7, N 8, N 9, N 10, N 11, N 12, crc, s.extract (p + (N 11).toNat + pad4 (110 + (N 11).toNat) + (N 6).toNat + pad4 (N 6).toNat) s.size, s.extract p (p + (N 11).toNat), s.extract (p + (N 11).toNat) (p + (N 11).toNat + pad4 (110 + (N 11).toNat)), s.extract (p + (N 11).toNat + pad4 (110 + (N 11).toNat) + (N 6).toNat) (p + (N 11).toNat + pad4 (110 + (N 11).toNat) + (N 6).toNat + pad4 (N 6).toNat)⟩) ∧ Below g w w' :=
  takeTexts_any g _ s p (N 11).toNat (N 6).toNat w h rfl (by show N 11 = _; omega) (by show N 6 = _; omega) hp hs (by omega) (by omega)
theorem takeTexts1 (s : ByteArray) (j : Nat) (crc : Bool) (g : Nat) (w : World) (h : NrO w g (nrK s j crc 13)) (hj : j + 110 ≤ s.size) (hs : s.size ≤ 1048576) :
    Calls Tryz.prog 103 #[.pointer (some ⟨g, 0, none⟩)] w fun e w' => e = .returned (.int .i64 (if s.size < cdE s j then 1 else 0)) ∧ (¬ s.size < cdE s j → NrO w' g (nr3 s j crc)) ∧ Below g w w' := by
  have b11 := nN_bd s j 11
  have b6 := nN_bd s j 6
  rw [nrK_13] at h
  simp only [nr3, dtT, nmB, cdE, dtE, dtB, nmE]
  exact takeTexts_N (nN s j) s (j + 110) crc g w h b11 b6 (by omega) hs
theorem jOk_bad (s : ByteArray) (j : Nat) (crc : Bool) : jOk (nr3 s j crc) (nN s j 11).toNat (nN s j 6).toNat ↔ ¬ badN s j := by
  have b11 := nN_bd s j 11
  simp only [jOk, badN, nr3]
  rw [show (((nN s j 11).toNat : Nat) : Int) = nN s j 11 from by omega]
  constructor
  · rintro ⟨h1, h2, h3⟩ (h | h | h)
    · exact h h1
    · exact h h2
    · exact h h3
  · intro h
    exact ⟨Decidable.byContradiction fun q => h (.inl q), Decidable.byContradiction fun q => h (.inr (.inl q)), Decidable.byContradiction fun q => h (.inr (.inr q))⟩
theorem judgeTexts1 (s : ByteArray) (j : Nat) (crc : Bool) (g : Nat) (w : World) (h : NrO w g (nr3 s j crc)) (hs : s.size ≤ 1048576) :
    Calls Tryz.prog 104 #[.pointer (some ⟨g, 0, none⟩)] w fun e w' => e = .returned (.int .i64 (if badN s j then 4 else 0)) ∧ NrO w' g (nr4 s j crc) ∧ Below g w w' := by
  have b11 := nN_bd s j 11
  have b6 := nN_bd s j 6
  have e1 : (nr3 s j crc).ps = ((nN s j 11).toNat : Int) := by simp only [nr3]; omega
  have e2 : (nr3 s j crc).ds = ((nN s j 6).toNat : Int) := by simp only [nr3]; omega
  have e3 : (nr3 s j crc).nm.size ≤ 4294967295 := by simp only [nr3, nmB]; rw [ByteArray.size_extract]; omega
  have e4 : nr4 s j crc = { nr3 s j crc with pa := cutv (nr3 s j crc).nm } := by simp only [nr4, nr3]
  have h9 := judgeTexts_any g (nr3 s j crc) (nN s j 11).toNat (nN s j 6).toNat w h e1 e2 (by omega) (by omega) e3
  rw [show (if jOk (nr3 s j crc) (nN s j 11).toNat (nN s j 6).toNat then (0 : Int) else 4) = (if badN s j then 4 else 0) from by
    by_cases hb : badN s j
    · rw [if_pos hb, if_neg (fun q => (jOk_bad s j crc).1 q hb)]
    · rw [if_neg hb, if_pos ((jOk_bad s j crc).2 hb)]] at h9
  rw [e4]
  exact h9
theorem judgeSum1 (s : ByteArray) (j : Nat) (crc : Bool) (g : Nat) (w : World) (h : NrO w g (nr4 s j crc)) (hs : s.size ≤ 1048576) :
    Calls Tryz.prog 105 #[.pointer (some ⟨g, 0, none⟩)] w fun e w' => e = .returned (.int .i64 (if nN s j 12 = sumN crc (dtT s j) then 0 else 2)) ∧ NrO w' g (nr4 s j crc) ∧ Below g w w' := by
  have e1 : (nr4 s j crc).sm = nN s j 12 := by simp only [nr4, nr3]
  have e2 : (nr4 s j crc).crc = crc := by simp only [nr4, nr3]
  have e3 : (nr4 s j crc).da = dtT s j := by simp only [nr4, nr3]
  have h9 := judgeSum_any g (nr4 s j crc) w h (by rw [e3]; unfold dtT; rw [ByteArray.size_extract]; omega)
  rw [e1, e2, e3] at h9
  exact h9
set_option maxHeartbeats 3200000 in
set_option maxRecDepth 8000 in
theorem getNew_ishort (s : ByteArray) (i : Int) (crc : Bool) (w : World) (hs : s.size ≤ 1048576) (hi : i ≤ 9223372036854775807) (hc : i < 0 ∨ (s.size : Int) < i + 110) :
    Calls Tryz.prog 60 #[.string s, .int .i64 i, .bool crc] w fun e w' => e = .returned (ncV s i crc) ∧ Below w.heap.size w w' := by
  have HF : Hid (ncV s i crc = bdV i 1) := Lib.hid (nc_cut hc)
  have R := Lib.hid (CardO.new w zeroC)
  have B : Hid (Below w.heap.size w (w.alloc (.cells zeroC.cells.toArray 48))) := Lib.hid ((Below.refl _ _).alloc (Nat.le_refl _) _)
  generalize ncV s i crc = r at HF
  by_cases h1 : i < 0
  · clear hc
    simp only [zeroC, Card.cells] at R B
    go_enter Tryz.func60, Tryz.ntmps60
    obtain ⟨d0, d1, d2, d3, d4, d5, d6, d7⟩ := (show CardO _ w.heap.size zeroC from R.out).at.zero
    simp only [zeroC] at d0 d1 d2 d3 d4 d5 d6 d7
    have f0 := (show CardO _ w.heap.size zeroC from R.out).fz 0
    have f1 := (show CardO _ w.heap.size zeroC from R.out).fz 1
    have f2 := (show CardO _ w.heap.size zeroC from R.out).fz 2
    have f3 := (show CardO _ w.heap.size zeroC from R.out).fz 3
    have f4 := (show CardO _ w.heap.size zeroC from R.out).fz 4
    have f5 := (show CardO _ w.heap.size zeroC from R.out).fz 5
    have f6 := (show CardO _ w.heap.size zeroC from R.out).fz 6
    have f7 := (show CardO _ w.heap.size zeroC from R.out).fz 7
    go_wp2_with fail
    refine bodyPost_ret (res_OC3 rfl _ rfl R.out) rfl ?_
    exact ⟨by rw [HF.out]; rfl, B.out⟩
  · have h2 : (s.size : Int) - i < 110 := by omega
    clear hc
    simp only [zeroC, Card.cells] at R B
    go_enter Tryz.func60, Tryz.ntmps60
    obtain ⟨d0, d1, d2, d3, d4, d5, d6, d7⟩ := (show CardO _ w.heap.size zeroC from R.out).at.zero
    simp only [zeroC] at d0 d1 d2 d3 d4 d5 d6 d7
    have f0 := (show CardO _ w.heap.size zeroC from R.out).fz 0
    have f1 := (show CardO _ w.heap.size zeroC from R.out).fz 1
    have f2 := (show CardO _ w.heap.size zeroC from R.out).fz 2
    have f3 := (show CardO _ w.heap.size zeroC from R.out).fz 3
    have f4 := (show CardO _ w.heap.size zeroC from R.out).fz 4
    have f5 := (show CardO _ w.heap.size zeroC from R.out).fz 5
    have f6 := (show CardO _ w.heap.size zeroC from R.out).fz 6
    have f7 := (show CardO _ w.heap.size zeroC from R.out).fz 7
    go_wp2_with fail
    refine bodyPost_ret (res_OC3 rfl _ rfl R.out) rfl ?_
    exact ⟨by rw [HF.out]; rfl, B.out⟩
theorem if_z {P : Prop} [Decidable P] {c : Int} (hc : ¬ c = 0) (h : (if P then (0 : Int) else c) = 0) : P := Decidable.byContradiction fun q => hc (by rwa [if_neg q] at h)
theorem if_nz {P : Prop} [Decidable P] {c : Int} (hc : ¬ c = 0) (h : (if P then c else (0 : Int)) = 0) : ¬ P := fun q => hc (by rwa [if_pos q] at h)
theorem tnC_zero {s : ByteArray} {j : Nat} (h : tnC s j = 0) : (∀ k, k < 13 → nO s j k = true) ∧ (nN s j 7 = 0 ∧ nN s j 8 = 0 ∧ nN s j 9 = 0 ∧ nN s j 10 = 0) := by
  have q := if_z (by decide) h
  exact ⟨fun k hk => List.all_eq_true.1 q.1 k (List.mem_range.2 hk), q.2⟩
theorem tnC_bad {s : ByteArray} {j : Nat} {crc : Bool} (hj : j + 110 ≤ s.size) (hm : s.extract j (j + 6) = mgN crc) (h0 : ¬ tnC s j = 0) : ncV s j crc = bdV j (tnC s j) := by
  by_cases hq : allN s j = true ∧ (nN s j 7 = 0 ∧ nN s j 8 = 0 ∧ nN s j 9 = 0 ∧ nN s j 10 = 0)
  · exact absurd (by rw [tnC, if_pos hq]) h0
  · rw [show tnC s j = 3 from by rw [tnC, if_neg hq]]
    by_cases ha : allN s j = true
    · exact nc_zero hj hm (fun k hk => List.all_eq_true.1 ha k (List.mem_range.2 hk)) (fun z => hq ⟨ha, z⟩)
    · obtain ⟨k, hk, hb⟩ := List.all_eq_false.1 (show (List.range 13).all (nO s j) = false from by simpa [allN] using ha)
      exact nc_field hj hm (List.mem_range.1 hk) (by simpa using hb)
theorem nc_last {s : ByteArray} {j : Nat} {crc : Bool} (hj : j + 110 ≤ s.size) (hm : s.extract j (j + 6) = mgN crc) (h0 : tnC s j = 0) (hs : ¬ s.size < cdE s j) (hb : ¬ badN s j) (hq : nN s j 12 = sumN crc (dtT s j)) : ncV s j crc = .tuple #[.agg (Card.cells ⟨(nr4 s j crc).n0, (nr4 s j crc).n1, (nr4 s j crc).n2, (nr4 s j crc).n3, (nr4 s j crc).n4, (nr4 s j crc).n5, (nr4 s j crc).pa, (nr4 s j crc).da⟩).toArray, .int .i64 ((s.size : Int) - ((nr4 s j crc).rest.size : Int)), .int .i64 0] := by
  have e : (s.size : Int) - ((nr4 s j crc).rest.size : Int) = (cdE s j : Int) := by
    simp only [nr4, nr3]
    rw [ByteArray.size_extract]
    omega
  rw [e, nc_good hj hm (tnC_zero h0).1 (tnC_zero h0).2 hs hb hq]
  simp only [nr4, nr3]
theorem getNew_ilong (s : ByteArray) (j : Nat) (crc : Bool) (w : World) (hs : s.size ≤ 1048576) (hj : j + 110 ≤ s.size) :
    Calls Tryz.prog 60 #[.string s, .int .i64 (j : Int), .bool crc] w fun e w' => e = .returned (ncV s j crc) ∧ Below w.heap.size w w' := by
  refine getNew_walk s j crc (nrK s j crc 0) (nrK s j crc 13) (nr3 s j crc) (nr4 s j crc) (nr4 s j crc) (if s.extract j (j + 6) = mgN crc then 0 else 4) (tnC s j) (if s.size < cdE s j then 1 else 0) (if badN s j then 4 else 0) (if nN s j 12 = sumN crc (dtT s j) then 0 else 2) (ncV s j crc) w hs hj ?_ ?_ ?_ ?_ ?_ ?_ ?_ ?_ ?_ ?_ ?_ ?_
  · intro g w h
    refine (takeMagic0 s j crc g w h hj).mono ?_
    rintro e w' ⟨h1, h2, h3⟩
    exact ⟨h1, fun q => h2 (if_z (by decide) q), h3⟩
  · intro h
    have hm : ¬ s.extract j (j + 6) = mgN crc := fun q => h (if_pos q)
    rw [if_neg hm]
    exact nc_magic hj hm
  · intro g w h
    exact takeNumbers_any s j crc g w hj h
  · intro h1 h
    exact tnC_bad hj (if_z (by decide) h1) h
  · intro g w h
    refine (takeTexts1 s j crc g w h hj hs).mono ?_
    rintro e w' ⟨h1, h2, h3⟩
    exact ⟨h1, fun q => h2 (if_nz (by decide) q), h3⟩
  · intro h1 h2 h
    have q : s.size < cdE s j := Decidable.byContradiction fun q => h (if_neg q)
    rw [if_pos q]
    exact nc_short hj (if_z (by decide) h1) (tnC_zero h2).1 (tnC_zero h2).2 q
  · intro g w h
    refine (judgeTexts1 s j crc g w h hs).mono ?_
    rintro e w' ⟨h1, h2, h3⟩
    exact ⟨h1, fun _ => h2, h3⟩
  · intro h1 h2 h3 h
    have q : badN s j := Decidable.byContradiction fun q => h (if_neg q)
    rw [if_pos q]
    exact nc_name hj (if_z (by decide) h1) (tnC_zero h2).1 (tnC_zero h2).2 (if_nz (by decide) h3) q
  · intro g w h
    refine (judgeSum1 s j crc g w h hs).mono ?_
    rintro e w' ⟨h1, h2, h3⟩
    exact ⟨h1, fun _ => h2, h3⟩
  · intro h1 h2 h3 h4 h
    have q : ¬ nN s j 12 = sumN crc (dtT s j) := fun q => h (if_pos q)
    rw [if_neg q]
    exact nc_sum hj (if_z (by decide) h1) (tnC_zero h2).1 (tnC_zero h2).2 (if_nz (by decide) h3) (if_nz (by decide) h4) q
  · simp only [nr4, nr3]
    rw [ByteArray.size_extract]
    omega
  · intro h1 h2 h3 h4 h5
    exact nc_last hj (if_z (by decide) h1) h2 (if_nz (by decide) h3) (if_nz (by decide) h4) (if_z (by decide) h5)
theorem getNew_impl (s : ByteArray) (i : Int) (crc : Bool) (w : World) (hs : s.size ≤ 1048576) (hi : i ≤ 9223372036854775807) :
    Calls Tryz.prog 60 #[.string s, .int .i64 i, .bool crc] w fun e w' => e = .returned (ncV s i crc) ∧ Below w.heap.size w w' := by
  by_cases h : i < 0 ∨ (s.size : Int) < i + 110
  · exact getNew_ishort s i crc w hs hi h
  · obtain ⟨j, rfl⟩ : ∃ j : Nat, i = j := ⟨i.toNat, by omega⟩
    exact getNew_ilong s j crc w hs (by omega)
end Go.Proofs.YtcnmbolmgifgfabGreatDoor

/- Contract of impl.cardFormat.cards at the format with hexadecimal headers. -/
namespace Go.Proofs.YtcnmbolmgifgfabGreatDoor
open Go.ChangeShapes Go.WideShapes Go.ChangeAt Go.RowKit Go.Deep

theorem fmt2_any (s : ByteArray) (i : Int) (crc : Bool) (gk : Nat) (w : World) (hs : s.size ≤ 1048576) (hi : i ≤ 9223372036854775807) (hck : w.heap[gk]? = some (.cells #[.bool crc] 4 (0, 0))) :
    Calls Tryz.prog 59 #[.string s, .int .i64 i, .pointer (some ⟨gk, 0, none⟩)] w fun e w' => e = .returned (ncV s i crc) ∧ Below w.heap.size w w' := by
  have HP := Lib.hid (fun w => getNew_impl s i crc w hs hi)
  have hlt := (Array.getElem?_eq_some_iff.1 hck).1
  have CK := Lib.hid hck
  have HV : Hid (ncV s i crc = .tuple #[.agg (ncCard s i crc).cells.toArray, .int .i64 (ncNext s i crc), .int .i64 (ncCode s i crc)]) := Lib.hid rfl
  rw [HV.out] at HP ⊢
  clear hck hs hi HV
  generalize ncNext s i crc = n at *
  generalize ncCode s i crc = c at *
  generalize ncCard s i crc = k at *
  obtain ⟨q0, q1, q2, q3, q4, q5, qp, qd⟩ := k
  simp only [Card.cells] at HP ⊢
  have R := Lib.hid (CardO.new w zeroC)
  have B := Lib.hid ((Below.refl w.heap.size w).alloc (Nat.le_refl _) (.cells zeroC.cells.toArray 48))
  simp only [zeroC, Card.cells] at R B
  go_enter Tryz.func59, Tryz.ntmps59
  go_upto_region 1 with fail
  generalize World.alloc w _ = w1 at R B ⊢
  replace R : Hid (CardO w1 w.heap.size zeroC) := R
  have CK1 := (B.out.block gk hlt).trans CK.out
  have ck : w1.cell? ⟨gk, 0, none⟩ = some (.bool crc) := by simp [World.cell?, CK1]
  clear CK1
  go_wp2_with fail
  refine (HP.out _).mono ?_
  rintro e w2 ⟨rfl, hb⟩
  have R2 : Hid (CardO w2 w.heap.size zeroC) := Lib.hid (R.out.below hb R.out.lt)
  have B2 : Hid (Below w.heap.size w w2) := Lib.hid (btC B.out hb)
  clear hb R B ck
  obtain ⟨d0, d1, d2, d3, d4, d5, d6, d7⟩ := R2.out.at.zero
  simp only [zeroC] at d0 d1 d2 d3 d4 d5 d6 d7
  have f0 := R2.out.fz 0
  have f1 := R2.out.fz 1
  have f2 := R2.out.fz 2
  have f3 := R2.out.fz 3
  have f4 := R2.out.fz 4
  have f5 := R2.out.fz 5
  have f6 := R2.out.fz 6
  have f7 := R2.out.fz 7
  have R9 := R2.out.put ⟨q0, q1, q2, q3, q4, q5, qp, qd⟩
  have B9 := below_putOC (g := w.heap.size) B2.out (Nat.le_refl _) ⟨q0, q1, q2, q3, q4, q5, qp, qd⟩
  simp only [putOC] at R9 B9
  have HR := Lib.hid R9
  have HB := Lib.hid B9
  clear R9 B9
  go_wp2_with fail
  refine bodyPost_ret (res_OC3 rfl _ rfl HR.out) rfl ?_
  exact ⟨rfl, HB.out⟩
theorem cell_newR (w : World) (e : Card) (t : TypeId) (ht : t = 48) : ∀ j u, e.cells[j]? = some u → (w.alloc (.cells e.cells.toArray t)).cell? ((⟨w.heap.size, 0, none⟩ : Addr).add j) = some u := by
  intro j u hu
  subst ht
  have hj : j < 8 := by
    by_cases h : j < 8
    · exact h
    · rw [List.getElem?_eq_none (by rw [cells_lenC]; omega)] at hu; cases hu
  rw [show (⟨w.heap.size, 0, none⟩ : Addr).add j = ⟨w.heap.size, 0 + j, none⟩ from by unfold Addr.add; split <;> simp_all, (CardO.new w e).at j hj]
  exact hu
theorem own_neR {w : World} {base : Nat} {e t : TypeId} {k : Nat} {v : Value} {n g : Nat} {xs : List Value} {cs : Array Value} {fr : Nat × Nat} (h : w.ownsRow base e k v n xs) (hg : w.heap[g]? = some (.cells cs t fr)) (ht : ¬ t = e) : some g ≠ v.ownBlock := by
  intro e1
  rcases h.2 with ⟨h0, _⟩ | ⟨g', cap', cur, hv, hg', hh, _⟩
  · subst h0; simp [Value.ownBlock] at e1
  · subst hv
    simp [Value.ownBlock] at e1
    subst e1
    rw [hg] at hh
    simp at hh
    exact ht hh.2.1
set_option maxHeartbeats 3200000 in
set_option maxRecDepth 8000 in
theorem cards_new (s : ByteArray) (crc : Bool) (gk : Nat) (w : World) (hs : s.size ≤ 1048576) (hgk : gk < w.heap.size) (hck : w.heap[gk]? = some (.cells #[.bool crc] 4 (0, 0))) :
    Calls Tryz.prog 73 #[.agg #[.func (.func 56) #[] #[], .func (.func 57) #[] #[.pointer (some ⟨gk, 0, none⟩)], .func (.func 59) #[] #[.pointer (some ⟨gk, 0, none⟩)]], .string s] w fun e w' => ((newO s crc).1 = 0 → ∃ v, e = .returned v ∧ OwnNC w' w.heap.size v (newO s crc).2 ∧ (newO s crc).2.length * 110 + 110 ≤ s.size ∧ (∀ c ∈ (newO s crc).2, szC c ≤ s.size ∧ c.wf)) ∧ (¬ (newO s crc).1 = 0 → e = .panicked (panC (newO s crc).1)) ∧ Below w.heap.size w w' := by
  obtain ⟨i0, hi0, hz0, hz1, hz2⟩ := info_parts Tryz.infoC
  have HGet : Hid (∀ (p : Nat) (w' : World), p < s.size → Below w.heap.size w w' → Calls Tryz.prog 59 #[.string s, .int .i64 (p : Int), .pointer (some ⟨gk, 0, none⟩)] w' fun e w'' => e = .returned (.tuple #[.agg ((newR s crc) p).1.cells.toArray, .int .i64 ((newR s crc) p).2.1, .int .i64 ((newR s crc) p).2.2]) ∧ Below w'.heap.size w' w'') := Lib.hid (fun p w' hp hb => fmt2_any s p crc gk w' hs (by omega) ((hb.block gk hgk).trans hck))
  have HGood := Lib.hid (newR_good s crc hs)
  have S0 := Lib.hid (StR.start (newR s crc) s.size 110)
  rw [show outc (newR s crc) s.size (s.size + 1) [] 0 = newO s crc from rfl] at S0
  obtain ⟨z, hz⟩ : ∃ z, s.size = z := ⟨_, rfl⟩
  have HZ := Lib.hid hz
  generalize newO s crc = O at S0 ⊢
  rw [hz] at hs HGood S0 HGet ⊢
  generalize newR s crc = R at HGet HGood S0
  clear hz hgk hck
  obtain ⟨oc, oq⟩ := O
  simp only
  have HPost : Hid (∀ (e : Ending) (w' : World), (∃ v, e = .returned v ∧ OwnNC w' w.heap.size v oq ∧ oq.length * 110 + 110 ≤ z ∧ (∀ c ∈ oq, szC c ≤ z ∧ c.wf)) ∧ oc = 0 → Below w.heap.size w w' → ((oc = 0 → ∃ v, e = .returned v ∧ OwnNC w' w.heap.size v oq ∧ oq.length * 110 + 110 ≤ z ∧ (∀ c ∈ oq, szC c ≤ z ∧ c.wf)) ∧ (¬ oc = 0 → e = .panicked (panC oc)) ∧ Below w.heap.size w w')) := Lib.hid (fun e w' h hb => ⟨fun _ => h.1, fun hn => absurd h.2 hn, hb⟩)
  have HPan : Hid (∀ (c : Int) (w' : World), (oc, oq) = (c, ([] : List Card)) → ¬ c = 0 → Below w.heap.size w w' → ((oc = 0 → ∃ v, Ending.panicked (panC c) = .returned v ∧ OwnNC w' w.heap.size v oq ∧ oq.length * 110 + 110 ≤ z ∧ (∀ c ∈ oq, szC c ≤ z ∧ c.wf)) ∧ (¬ oc = 0 → Ending.panicked (panC c) = .panicked (panC oc)) ∧ Below w.heap.size w w')) := Lib.hid (fun c w' h hc hb => by
    obtain ⟨rfl, rfl⟩ := Prod.mk.inj h
    exact ⟨fun h0 => absurd h0 hc, fun _ => rfl, hb⟩)
  generalize hPo : (fun (e : Ending) (w' : World) => (oc = 0 → ∃ v, e = .returned v ∧ OwnNC w' w.heap.size v oq ∧ oq.length * 110 + 110 ≤ z ∧ (∀ c ∈ oq, szC c ≤ z ∧ c.wf)) ∧ (¬ oc = 0 → e = .panicked (panC oc)) ∧ Below w.heap.size w w') = Po
  have HPost2 : Hid (∀ (e : Ending) (w' : World), (∃ v, e = .returned v ∧ OwnNC w' w.heap.size v oq ∧ oq.length * 110 + 110 ≤ z ∧ (∀ c ∈ oq, szC c ≤ z ∧ c.wf)) ∧ oc = 0 → Below w.heap.size w w' → Po e w') := Lib.hid (by rw [← hPo]; exact HPost.out)
  have HPan2 : Hid (∀ (c : Int) (w' : World), (oc, oq) = (c, ([] : List Card)) → ¬ c = 0 → Below w.heap.size w w' → Po (.panicked (panC c)) w') := Lib.hid (by rw [← hPo]; exact HPan.out)
  clear hPo HPost HPan
  go_enter Tryz.func73, Tryz.ntmps73
  go_upto_region 1 with fail
  generalize hw1 : World.alloc w _ = wb
  have BF : Hid (wb.heap[w.heap.size]? = some (.cells #[.func (.func 56) #[] #[], .func (.func 57) #[] #[.pointer (some ⟨gk, 0, none⟩)], .func (.func 59) #[] #[.pointer (some ⟨gk, 0, none⟩)]] 54 (0, 0))) := Lib.hid (by rw [← hw1]; exact heap_lastG _ _)
  have B : Hid (Below w.heap.size w wb) := Lib.hid (by rw [← hw1]; exact (Below.refl _ _).alloc (Nat.le_refl _) _)
  clear hw1
  go_wp2_with fail
  go_loopw [5, 6, 7, 8, 9] (fun v u _ _ _ wr => ∃ (Q : List Card) (p : Nat), u = .int .i64 (p : Int) ∧ StR R z 110 (oc, oq) Q p ∧ OwnNC wr w.heap.size v Q ∧ wr.heap[w.heap.size]? = some (.cells #[.func (.func 56) #[] #[], .func (.func 57) #[] #[.pointer (some ⟨gk, 0, none⟩)], .func (.func 59) #[] #[.pointer (some ⟨gk, 0, none⟩)]] 54 (0, 0)) ∧ Below w.heap.size w wr) (fun _ u _ _ _ _ => z + 1 - (intOf u).toNat)
  case atStart => exact ⟨[], 0, rfl, S0.out, OwnNC.nil _ _, BF.out, B.out⟩
  case round =>
    obtain ⟨Q, p, rfl, hst, ho, hbf, hb⟩ := hrel
    clear S0 BF B
    have St := Lib.hid hst
    have O := Lib.hid ho
    have BF := Lib.hid hbf
    have B := Lib.hid hb
    clear hst ho hbf hb
    by_cases hp : ¬ p < z
    · have hlt : ¬ (p : Int) < (s.size : Int) := by have := HZ.out; omega
      have HO := Lib.hid (St.out.over hp)
      clear St
      go_wp2_with fail
      refine (demand_no 5 _).mono ?_
      rintro e w8 ⟨rfl, rfl⟩
      exact ⟨rfl, HPan2.out 5 _ HO.out (by decide) B.out⟩
    have hp : p < z := Decidable.byContradiction hp
    have hlt : (p : Int) < (s.size : Int) := by have := HZ.out; omega
    have p2 : wr.cell? ⟨w.heap.size, 2, none⟩ = some (.func (.func 59) #[] #[.pointer (some ⟨gk, 0, none⟩)]) := by simp [World.cell?, BF.out]
    have HG2 := Lib.hid (fun w' hb => HGet.out p w' hp hb)
    have HCo := Lib.hid (fun h => St.out.code hp h)
    have HMo := Lib.hid (fun h t n => St.out.more hp h t n)
    have HLa := Lib.hid (fun h t n => St.out.last HGood.out hp h t n)
    have HStp := Lib.hid (fun h t => St.out.step HGood.out (by decide) hp h t)
    rcases hRp : R p with ⟨⟨q0, q1, q2, q3, q4, q5, qp, qd⟩, nx, co⟩
    rw [hRp] at HG2 HCo HMo HLa HStp
    simp only at HG2 HCo HMo HLa HStp
    have HQl := Lib.hid (show Q.length ≤ p by have := St.out.2.1; omega)
    clear hRp HGet HGood
    go_wp2_with fail
    refine (demand_ok 5 _).mono ?_
    rintro e w8 ⟨rfl, rfl⟩
    go_wp2_with fail
    refine (HG2.out _ B.out).mono ?_
    rintro e w2 ⟨rfl, hb⟩
    replace O := Lib.hid (O.out.below hb)
    replace BF := Lib.hid ((hb.block _ (Array.getElem?_eq_some_iff.1 BF.out).1).trans BF.out)
    replace B := Lib.hid (btC B.out hb)
    clear hb p2 HG2
    have NB : Below w2.heap.size w2 (w2.alloc (.cells (Card.cells ⟨q0, q1, q2, q3, q4, q5, qp, qd⟩).toArray 48)) := (Below.refl _ _).alloc (Nat.le_refl _) _
    have XC := Lib.hid (CardO.new w2 ⟨q0, q1, q2, q3, q4, q5, qp, qd⟩)
    replace O := Lib.hid (O.out.below NB)
    replace BF := Lib.hid ((NB.block _ (Array.getElem?_eq_some_iff.1 BF.out).1).trans BF.out)
    replace B := Lib.hid (btC B.out NB)
    clear NB
    simp only [Card.cells] at XC O BF B ⊢
    go_upto_region 5 with fail
    generalize World.alloc w2 _ = w3 at XC O BF B ⊢
    obtain ⟨d0, d1, d2, d3, d4, d5, d6, d7⟩ := XC.out.at.zero
    simp only at d0 d1 d2 d3 d4 d5 d6 d7
    by_cases hc : ¬ co = 0
    · have e1 : (co == 0) = false := by simpa using hc
      have HO := Lib.hid (HCo.out hc)
      clear HCo HMo HLa HStp
      go_wp2_with fail
      refine (demand_no co _).mono ?_
      rintro e w8 ⟨rfl, rfl⟩
      exact ⟨rfl, HPan2.out co _ HO.out hc B.out⟩
    have hc : co = 0 := Decidable.byContradiction hc
    subst hc
    have HMo2 := Lib.hid (fun t n => HMo.out rfl t n)
    have HLa2 := Lib.hid (fun t n => HLa.out rfl t n)
    have HSt2 := Lib.hid (fun t => HStp.out rfl t)
    clear HCo HMo HLa HStp
    go_wp2_with fail
    refine (demand_ok 0 _).mono ?_
    rintro e w8 ⟨rfl, rfl⟩
    cases ht : isTr qp with
    | true =>
      have e1 : (qp.toList == [84, 82, 65, 73, 76, 69, 82, 33, 33, 33]) = true := ht
      have HMo3 := Lib.hid (fun n => HMo2.out ht n)
      have HLa3 := Lib.hid (fun n => HLa2.out ht n)
      clear HMo2 HLa2 HSt2 ht
      by_cases hn : ¬ nx = (z : Int)
      · have e2 : (nx == (s.size : Int)) = false := by rw [HZ.out]; simpa using hn
        have HO := Lib.hid (HMo3.out hn)
        clear HMo3 HLa3
        go_wp2_with fail
        refine (demand_no 5 _).mono ?_
        rintro e w9 ⟨rfl, rfl⟩
        exact ⟨rfl, HPan2.out 5 _ HO.out (by decide) B.out⟩
      have hn : nx = (z : Int) := Decidable.byContradiction hn
      have e2 : (nx == (s.size : Int)) = true := by rw [HZ.out]; simpa using hn
      obtain ⟨hO, hl, hq⟩ := HLa3.out hn
      obtain ⟨rfl, rfl⟩ := Prod.mk.inj hO
      have HL := Lib.hid hl
      have HQ := Lib.hid hq
      clear HMo3 HLa3 hl hq hO hn
      go_wp2_with fail
      refine (demand_ok 5 _).mono ?_
      rintro e w9 ⟨rfl, rfl⟩
      go_wp2_with fail
      exact HPost2.out _ _ ⟨⟨_, rfl, O.out, HL.out, HQ.out⟩, by simp⟩ B.out
    | false =>
      have e1 : (qp.toList == [84, 82, 65, 73, 76, 69, 82, 33, 33, 33]) = false := ht
      obtain ⟨q, hq, hpq, hst⟩ := HSt2.out ht
      subst hq
      have hqz := hst.2.2.2
      have St2 := Lib.hid hst
      have hql := HQl.out
      have hszB := B.out.size
      clear HMo2 HLa2 HSt2 ht hst
      go_wp2_with (at_builtin; refine wpList_append_own _ rfl _ _ 42 rfl w.heap.size 48 i0 (.agg #[.int .i64 0, .int .i64 0, .int .i64 0, .int .i64 0, .int .i64 0, .int .i64 0, .string ⟨#[]⟩, .string ⟨#[]⟩]) 8 80 Tryz.underlying42 hi0 hz0 hz1 hz2 rfl (by decide) _ Q.length (valsC Q) rfl ?c0q ⟨w8.heap.size, 0, none⟩ 1 1 (valsC [⟨q0, q1, q2, q3, q4, q5, qp, qd⟩]) rfl (valsC_len _) ?c1q ?c2q ?c3q ?c4q ?c5q ?_)
      case c0q => exact World.ownsRow.alloc O.out _
      case c1q => intro jj uu hu; rw [valsC_one] at hu; exact cell_newR _ ⟨q0, q1, q2, q3, q4, q5, qp, qd⟩ _ rfl jj uu hu
      case c2q => exact valsC_onecell _
      any_goals (first | (simp only [maxLen]; omega) | omega | (simp; omega))
      intro v' w9 hown hgrow hnil
      have NB : Below w8.heap.size w8 (w8.alloc (.cells (Card.cells ⟨q0, q1, q2, q3, q4, q5, qp, qd⟩).toArray 48)) := (Below.refl _ _).alloc (Nat.le_refl _) _
      have O9 : Hid (OwnNC w9 w.heap.size v' (Q ++ [⟨q0, q1, q2, q3, q4, q5, qp, qd⟩])) := Lib.hid (ownNC_app hown rfl rfl)
      have zb := (Array.getElem?_eq_some_iff.1 BF.out).1
      have F9 := Lib.hid ((hgrow.block _ (Nat.lt_of_lt_of_le zb NB.size) (own_neR (World.ownsRow.alloc O.out _) ((NB.block _ zb).trans BF.out) (by decide))).trans ((NB.block _ zb).trans BF.out))
      have B9 := Lib.hid ((btC B.out NB).grown hgrow (by have := NB.size; have := B.out.size; omega) (fun b hb => OwnNC.block O.out b hb))
      clear hown hgrow hnil NB O BF B XC d0 d1 d2 d3 d4 d5 d6 d7 zb
      go_wp2_with fail
      go_roundw
      case rel => exact ⟨_, q, rfl, St2.out, O9.out, F9.out, B9.out⟩
      case measure => simp [intOf]; omega
end Go.Proofs.YtcnmbolmgifgfabGreatDoor

/- The text of a card with hexadecimal numbers; contract of spec.PutNew. -/
namespace Go.Proofs.YtcnmbolmgifgfabGreatDoor
open Go.ChangeShapes Go.WideShapes Go.ChangeAt Go.RowKit Go.Deep

/-- The numbers of a card's head. -/
def nFl (c : Card) (crc : Bool) : List Int := [c.Ino, c.Mode, c.Uid, c.Gid, c.Count, c.Time, (c.Data.size : Int), 0, 0, 0, 0, (c.Path.size : Int) + 1, sumN crc c.Data]
def hexOk (L : List Int) : Bool := L.all fun x => (putHexv x).2
def hexB : List Int → List UInt8
  | [] => []
  | x :: L => (putHexv x).1.data.toList ++ hexB L
def hexS (L : List Int) : ByteArray := ⟨(hexB L).toArray⟩
theorem hexB_app (L M : List Int) : hexB (L ++ M) = hexB L ++ hexB M := by
  induction L with
  | nil => rfl
  | cons x L ih => simp [hexB, ih]
theorem ba_appN (a b : List UInt8) : (⟨(a ++ b).toArray⟩ : ByteArray) = ⟨a.toArray⟩ ++ ⟨b.toArray⟩ := by
  apply ba_ext
  simp
theorem ba_selfN (s : ByteArray) : (⟨s.data.toList.toArray⟩ : ByteArray) = s := by cases s; simp
theorem hexS_snoc (L : List Int) (x : Int) : hexS (L ++ [x]) = hexS L ++ (putHexv x).1 := by
  have h : hexB [x] = (putHexv x).1.data.toList := by simp [hexB]
  rw [hexS, hexB_app, ba_appN, h, ba_selfN, hexS]
theorem hexOk_take {L : List Int} {i : Nat} {x : Int} (h : L[i]? = some x) : hexOk (L.take (i + 1)) = (hexOk (L.take i) && (putHexv x).2) := by
  rw [List.take_add_one, h]
  simp [hexOk]
theorem hexOk_bad {L : List Int} {i : Nat} {x : Int} (h : L[i]? = some x) (hk : (putHexv x).2 = false) : hexOk L = false := by
  rw [hexOk, List.all_eq_false]
  exact ⟨x, List.mem_of_getElem? h, by simp [hk]⟩
theorem hex_take {L : List Int} {i : Nat} {x : Int} (h : L[i]? = some x) : hexS (L.take (i + 1)) = hexS (L.take i) ++ (putHexv x).1 := by
  rw [List.take_add_one, h]
  exact hexS_snoc _ _
theorem putHex_sz (n : Int) : (putHexv n).1.size ≤ 8 ∧ ((putHexv n).2 = true → (putHexv n).1.size = 8) := by
  unfold putHexv
  split
  · rename_i h
    have hl : (numeral 16 n.toNat).length ≤ 8 := numeral_len (by omega) (by omega) (by omega)
    have e : (⟨(ahead (numeral 16 n.toNat) 8).toArray⟩ : ByteArray).size = 8 := by
      show (ahead (numeral 16 n.toNat) 8).toArray.size = 8
      rw [List.size_toArray, ahead_len]
      omega
    exact ⟨by rw [e]; omega, fun _ => e⟩
  · exact ⟨Nat.zero_le _, fun h => by simp at h⟩
theorem hexS_le (L : List Int) : (hexS L).size ≤ 8 * L.length ∧ (hexOk L = true → (hexS L).size = 8 * L.length) := by
  induction L with
  | nil => exact ⟨Nat.zero_le _, fun _ => rfl⟩
  | cons x L ih =>
    obtain ⟨h1, h1'⟩ := putHex_sz x
    obtain ⟨i1, i2⟩ := ih
    have e1 : (hexS (x :: L)).size = (hexB (x :: L)).length := by simp [hexS, ByteArray.size]
    have e2 : (hexS L).size = (hexB L).length := by simp [hexS, ByteArray.size]
    have e3 : (putHexv x).1.data.toList.length = (putHexv x).1.size := Array.length_toList
    rw [e1, hexB, List.length_append, e3, List.length_cons]
    refine ⟨by omega, fun h => ?_⟩
    simp only [hexOk, List.all_cons, Bool.and_eq_true] at h
    have := h1' h.1
    have := i2 h.2
    omega
theorem app_nilN (a : ByteArray) : a ++ ⟨#[]⟩ = a := by
  apply ba_ext
  simp
/-- The text of a card: none where a number has no room. -/
def newTextv (c : Card) (crc : Bool) : ByteArray := if hexOk (nFl c crc) then mgN crc ++ hexS (nFl c crc) ++ c.Path ++ ⟨#[0]⟩ ++ nulN (pad4 (111 + c.Path.size)) ++ c.Data ++ nulN (pad4 c.Data.size) else ⟨#[]⟩
/-- A row of numbers. -/
def RowNN (w : World) (g : Nat) (l : List Int) : Prop := ∀ i x, l[i]? = some x → w.cell? ⟨g, i, none⟩ = some (.int .i64 x)
theorem RowNN.below {w w' : World} {g B : Nat} {l : List Int} (h : RowNN w g l) (hb : Below B w w') (hg : g < B) : RowNN w' g l := fun i x hx => (hb.cell (p := ⟨g, i, none⟩) hg).trans (h i x hx)
theorem RowNN.of {w : World} {g : Nat} {l : List Int} {ty : TypeId} (h : w.heap[g]? = some (.cells (l.map (fun x => Value.int .i64 x)).toArray ty (0, 0))) : RowNN w g l := by
  intro i x hx
  simp only [World.cell?, h]
  simp [hx]
theorem pad4_spec (n : Nat) (hn : n ≤ 9007199254740991) (w : World) : Calls Tryz.prog 55 #[.int .i64 (n : Int), .int .i64 4] w fun e w' => e = .returned (.int .i64 (pad4 n : Int)) ∧ w = w' := by
  have h := pad_spec (n : Int) 4 w
  rw [padv4 n hn] at h
  exact h
theorem nuls4_spec (n : Nat) (hn : n ≤ 1024) (w : World) : Calls Tryz.prog 54 #[.int .i64 (n : Int)] w fun e w' => e = .returned (.string (nulN n)) ∧ Below w.heap.size w w' := by
  have h := nulz_spec (n : Int) w (by omega)
  rw [Int.toNat_natCast] at h
  exact h
set_option maxHeartbeats 6400000 in
set_option maxRecDepth 8000 in
theorem putNew_spec (ino mo u1 gi cn t : Int) (p d : ByteArray) (crc : Bool) (w : World) (hp : p.size ≤ 4194304) (hd : d.size ≤ 4194304) :
    Calls Tryz.prog 27 #[.agg #[.int .i64 ino, .int .i64 mo, .int .i64 u1, .int .i64 gi, .int .i64 cn, .int .i64 t, .string p, .string d], .bool crc] w fun e w' => e = .returned (.string (newTextv ⟨ino, mo, u1, gi, cn, t, p, d⟩ crc)) ∧ Below w.heap.size w w' := by
  have HMg := Lib.hid (fun w => l08Magic_any crc w)
  have hmz := mgN_size crc
  have HSm := Lib.hid (fun w => l08Sum_any d crc w hd)
  have HG : Hid (∀ i, i < 13 → ∃ x, (nFl ⟨ino, mo, u1, gi, cn, t, p, d⟩ crc)[i]? = some x) := Lib.hid (fun i hi => ⟨(nFl ⟨ino, mo, u1, gi, cn, t, p, d⟩ crc)[i], List.getElem?_eq_getElem (by simpa [nFl] using hi)⟩)
  have HS := Lib.hid (fun i x (h : (nFl ⟨ino, mo, u1, gi, cn, t, p, d⟩ crc)[i]? = some x) => hex_take h)
  have HK := Lib.hid (fun i x (h : (nFl ⟨ino, mo, u1, gi, cn, t, p, d⟩ crc)[i]? = some x) => hexOk_take h)
  have HB := Lib.hid (fun i x (h : (nFl ⟨ino, mo, u1, gi, cn, t, p, d⟩ crc)[i]? = some x) hk => hexOk_bad h hk)
  have HZ : Hid (hexS ((nFl ⟨ino, mo, u1, gi, cn, t, p, d⟩ crc).take 0) = ⟨#[]⟩ ∧ hexOk ((nFl ⟨ino, mo, u1, gi, cn, t, p, d⟩ crc).take 0) = true) := Lib.hid ⟨rfl, rfl⟩
  have HF : Hid (hexS ((nFl ⟨ino, mo, u1, gi, cn, t, p, d⟩ crc).take 13) = hexS (nFl ⟨ino, mo, u1, gi, cn, t, p, d⟩ crc) ∧ hexOk ((nFl ⟨ino, mo, u1, gi, cn, t, p, d⟩ crc).take 13) = hexOk (nFl ⟨ino, mo, u1, gi, cn, t, p, d⟩ crc)) := Lib.hid ⟨rfl, rfl⟩
  have HLe : Hid (∀ i, (hexS ((nFl ⟨ino, mo, u1, gi, cn, t, p, d⟩ crc).take i)).size ≤ 104) := Lib.hid (fun i => by have h8 := (hexS_le ((nFl ⟨ino, mo, u1, gi, cn, t, p, d⟩ crc).take i)).1; rw [List.length_take] at h8; have : (nFl ⟨ino, mo, u1, gi, cn, t, p, d⟩ crc).length = 13 := rfl; omega)
  have HL13 : Hid (hexOk (nFl ⟨ino, mo, u1, gi, cn, t, p, d⟩ crc) = true → (hexS (nFl ⟨ino, mo, u1, gi, cn, t, p, d⟩ crc)).size = 104) := Lib.hid (fun h => (hexS_le (nFl ⟨ino, mo, u1, gi, cn, t, p, d⟩ crc)).2 h)
  have HPl := Lib.hid (fun x => (putHex_sz x).1)
  have HV : Hid (newTextv ⟨ino, mo, u1, gi, cn, t, p, d⟩ crc = if hexOk (nFl ⟨ino, mo, u1, gi, cn, t, p, d⟩ crc) then mgN crc ++ hexS (nFl ⟨ino, mo, u1, gi, cn, t, p, d⟩ crc) ++ p ++ ⟨#[0]⟩ ++ nulN (pad4 (111 + p.size)) ++ d ++ nulN (pad4 d.size) else ⟨#[]⟩) := Lib.hid rfl
  have HRw := Lib.hid (fun (w : World) (g : Nat) (ty : TypeId) (h : w.heap[g]? = some (.cells #[.int .i64 ino, .int .i64 mo, .int .i64 u1, .int .i64 gi, .int .i64 cn, .int .i64 t, .int .i64 (d.size : Int), .int .i64 0, .int .i64 0, .int .i64 0, .int .i64 0, .int .i64 ((p.size : Int) + 1), .int .i64 (sumN crc d)] ty (0, 0))) => RowNN.of (l := nFl ⟨ino, mo, u1, gi, cn, t, p, d⟩ crc) h)
  generalize newTextv ⟨ino, mo, u1, gi, cn, t, p, d⟩ crc = r at HV
  generalize hexOk (nFl ⟨ino, mo, u1, gi, cn, t, p, d⟩ crc) = ok at HF HB HV HL13
  generalize hexS (nFl ⟨ino, mo, u1, gi, cn, t, p, d⟩ crc) = hx at HF HV HL13
  generalize nFl ⟨ino, mo, u1, gi, cn, t, p, d⟩ crc = L at HG HS HK HB HZ HF HLe HRw
  generalize sumN crc d = sm at HSm HRw
  generalize mgN crc = mg at HMg HV hmz
  have hq1 := pad4_le (111 + p.size)
  have hq2 := pad4_le d.size
  have HN1 := Lib.hid (fun w => nuls4_spec (pad4 (111 + p.size)) (by omega) w)
  have HN2 := Lib.hid (fun w => nuls4_spec (pad4 d.size) (by omega) w)
  have HP1 := Lib.hid (fun w => pad4_spec (111 + p.size) (by omega) w)
  have HP2 := Lib.hid (fun w => pad4_spec d.size (by omega) w)
  have hz1 := nulN_size (pad4 (111 + p.size))
  have hz2 := nulN_size (pad4 d.size)
  generalize nulN (pad4 (111 + p.size)) = nu1 at *
  generalize nulN (pad4 d.size) = nu2 at *
  generalize pad4 (111 + p.size) = q1 at *
  generalize pad4 d.size = q2 at *
  go_enter Tryz.func27, Tryz.ntmps27
  go_wp2_with fail
  refine (HMg.out _).mono ?_
  rintro e wm ⟨rfl, rfl⟩
  go_upto_region 2 with fail
  generalize hw1 : World.alloc w _ = w1
  have XC : Hid (CardO w1 w.heap.size ⟨ino, mo, u1, gi, cn, t, p, d⟩) := Lib.hid (by rw [← hw1]; exact CardO.new w ⟨ino, mo, u1, gi, cn, t, p, d⟩)
  have B1 : Hid (Below w.heap.size w w1) := Lib.hid (by rw [← hw1]; exact (Below.refl _ _).alloc (Nat.le_refl _) _)
  have hs1 : w1.heap.size = w.heap.size + 1 := by rw [← hw1]; simp
  clear hw1
  have KC : Hid (∀ w', Below w1.heap.size w1 w' → w'.cell? ⟨w.heap.size, 0, none⟩ = some (.int .i64 ino) ∧ w'.cell? ⟨w.heap.size, 1, none⟩ = some (.int .i64 mo) ∧ w'.cell? ⟨w.heap.size, 2, none⟩ = some (.int .i64 u1) ∧ w'.cell? ⟨w.heap.size, 3, none⟩ = some (.int .i64 gi) ∧ w'.cell? ⟨w.heap.size, 4, none⟩ = some (.int .i64 cn) ∧ w'.cell? ⟨w.heap.size, 5, none⟩ = some (.int .i64 t) ∧ w'.cell? ⟨w.heap.size, 6, none⟩ = some (.string p) ∧ w'.cell? ⟨w.heap.size, 7, none⟩ = some (.string d)) := Lib.hid (fun w' hb => (XC.out.below hb (by omega)).at.zero)
  refine wp_region_cut 24 (by kernel_rfl) (fun w' => Below w1.heap.size w1 w') (fun x y => Below x.heap.size x y) (vE 35 (exRow w1.heap.size 13 #[.int .i64 ino, .int .i64 mo, .int .i64 u1, .int .i64 gi, .int .i64 cn, .int .i64 t, .int .i64 (d.size : Int), .int .i64 0, .int .i64 0, .int .i64 0, .int .i64 0, .int .i64 ((p.size : Int) + 1), .int .i64 sm] 3) (fun dq vq _ => match dq with | 12 => vq = .pointer (some ⟨w.heap.size, 0, none⟩) | 13 => vq = .int .i64 ino | 14 => vq = .pointer (some ⟨w.heap.size, 1, none⟩) | 15 => vq = .int .i64 mo | 16 => vq = .pointer (some ⟨w.heap.size, 2, none⟩) | 17 => vq = .int .i64 u1 | 18 => vq = .pointer (some ⟨w.heap.size, 3, none⟩) | 19 => vq = .int .i64 gi | 20 => vq = .pointer (some ⟨w.heap.size, 4, none⟩) | 21 => vq = .int .i64 cn | 22 => vq = .pointer (some ⟨w.heap.size, 5, none⟩) | 23 => vq = .int .i64 t | 24 => vq = .pointer (some ⟨w.heap.size, 7, none⟩) | 25 => vq = .string d | 26 => vq = .int .i64 (d.size : Int) | 27 => vq = .pointer (some ⟨w.heap.size, 6, none⟩) | 28 => vq = .string p | 29 => vq = .int .i64 (p.size : Int) | 30 => vq = .int .i64 ((p.size : Int) + 1) | 31 => vq = .pointer (some ⟨w.heap.size, 7, none⟩) | 32 => vq = .string d | 33 => vq = .bool crc | 34 => vq = .int .i64 sm | _ => True)) (by kernel_rfl) (by kernel_rfl) ((Below.refl _ _).drew) (vE_keep _ _ _ (exRow_keep _ _ _ _) (fun _ _ _ _ _ _ h => h)) (by simp) ?hops ?hend
  case hops =>
    simp only [List.take_succ_cons, List.take_zero, List.forall_mem_cons]
    refine ⟨?o12, ?o13, ?o14, ?o15, ?o16, ?o17, ?o18, ?o19, ?o20, ?o21, ?o22, ?o23, ?o24, ?o25, ?o26, ?o27, ?o28, ?o29, ?o30, ?o31, ?o32, ?o33, ?o34, ?o35, fun _ h => by cases h⟩
    case o12 =>
      intro Q a w2 hC hV hI
      have e2 : a.eval (.tmp 2) = .pointer (some ⟨w.heap.size, 0, none⟩) := (hI 2 (by simp [Op.operands]) (by kernel_rfl)).trans rfl
      have f2 : a.tmps.getD 2 undef = .pointer (some ⟨w.heap.size, 0, none⟩) := e2
      have g2 : a.tmps[2]?.getD undef = .pointer (some ⟨w.heap.size, 0, none⟩) := by rw [← Array.getD_eq_getD_getElem?]; exact e2
      refine op_val (.pointer (some ⟨w.heap.size, 0, none⟩)) ?_ hC (Below.refl _ _) (by intro d hd; cases hd; exact rfl)
      (clear hV hI hC; go_simp <;> (first | rfl | simp | (rw [IntKind.wrap_i64]; omega)))
    case o13 =>
      intro Q a w2 hC hV hI
      have e12 : a.eval (.tmp 12) = .pointer (some ⟨w.heap.size, 0, none⟩) := hV 12 (by simp [Op.operands]) (by kernel_rfl)
      have f12 : a.tmps.getD 12 undef = .pointer (some ⟨w.heap.size, 0, none⟩) := e12
      have g12 : a.tmps[12]?.getD undef = .pointer (some ⟨w.heap.size, 0, none⟩) := by rw [← Array.getD_eq_getD_getElem?]; exact e12
      have hK := KC.out w2 hC
      refine op_val (.int .i64 ino) ?_ hC (Below.refl _ _) (by intro d hd; cases hd; exact rfl)
      (clear hV hI hC; go_simp <;> (first | rfl | simp | (rw [IntKind.wrap_i64]; omega)))
    case o14 =>
      intro Q a w2 hC hV hI
      have e2 : a.eval (.tmp 2) = .pointer (some ⟨w.heap.size, 0, none⟩) := (hI 2 (by simp [Op.operands]) (by kernel_rfl)).trans rfl
      have f2 : a.tmps.getD 2 undef = .pointer (some ⟨w.heap.size, 0, none⟩) := e2
      have g2 : a.tmps[2]?.getD undef = .pointer (some ⟨w.heap.size, 0, none⟩) := by rw [← Array.getD_eq_getD_getElem?]; exact e2
      refine op_val (.pointer (some ⟨w.heap.size, 1, none⟩)) ?_ hC (Below.refl _ _) (by intro d hd; cases hd; exact rfl)
      (clear hV hI hC; go_simp <;> (first | rfl | simp | (rw [IntKind.wrap_i64]; omega)))
    case o15 =>
      intro Q a w2 hC hV hI
      have e14 : a.eval (.tmp 14) = .pointer (some ⟨w.heap.size, 1, none⟩) := hV 14 (by simp [Op.operands]) (by kernel_rfl)
      have f14 : a.tmps.getD 14 undef = .pointer (some ⟨w.heap.size, 1, none⟩) := e14
      have g14 : a.tmps[14]?.getD undef = .pointer (some ⟨w.heap.size, 1, none⟩) := by rw [← Array.getD_eq_getD_getElem?]; exact e14
      have hK := KC.out w2 hC
      refine op_val (.int .i64 mo) ?_ hC (Below.refl _ _) (by intro d hd; cases hd; exact rfl)
      (clear hV hI hC; go_simp <;> (first | rfl | simp | (rw [IntKind.wrap_i64]; omega)))
    case o16 =>
      intro Q a w2 hC hV hI
      have e2 : a.eval (.tmp 2) = .pointer (some ⟨w.heap.size, 0, none⟩) := (hI 2 (by simp [Op.operands]) (by kernel_rfl)).trans rfl
      have f2 : a.tmps.getD 2 undef = .pointer (some ⟨w.heap.size, 0, none⟩) := e2
      have g2 : a.tmps[2]?.getD undef = .pointer (some ⟨w.heap.size, 0, none⟩) := by rw [← Array.getD_eq_getD_getElem?]; exact e2
      refine op_val (.pointer (some ⟨w.heap.size, 2, none⟩)) ?_ hC (Below.refl _ _) (by intro d hd; cases hd; exact rfl)
      (clear hV hI hC; go_simp <;> (first | rfl | simp | (rw [IntKind.wrap_i64]; omega)))
    case o17 =>
      intro Q a w2 hC hV hI
      have e16 : a.eval (.tmp 16) = .pointer (some ⟨w.heap.size, 2, none⟩) := hV 16 (by simp [Op.operands]) (by kernel_rfl)
      have f16 : a.tmps.getD 16 undef = .pointer (some ⟨w.heap.size, 2, none⟩) := e16
      have g16 : a.tmps[16]?.getD undef = .pointer (some ⟨w.heap.size, 2, none⟩) := by rw [← Array.getD_eq_getD_getElem?]; exact e16
      have hK := KC.out w2 hC
      refine op_val (.int .i64 u1) ?_ hC (Below.refl _ _) (by intro d hd; cases hd; exact rfl)
      (clear hV hI hC; go_simp <;> (first | rfl | simp | (rw [IntKind.wrap_i64]; omega)))
    case o18 =>
      intro Q a w2 hC hV hI
      have e2 : a.eval (.tmp 2) = .pointer (some ⟨w.heap.size, 0, none⟩) := (hI 2 (by simp [Op.operands]) (by kernel_rfl)).trans rfl
      have f2 : a.tmps.getD 2 undef = .pointer (some ⟨w.heap.size, 0, none⟩) := e2
      have g2 : a.tmps[2]?.getD undef = .pointer (some ⟨w.heap.size, 0, none⟩) := by rw [← Array.getD_eq_getD_getElem?]; exact e2
      refine op_val (.pointer (some ⟨w.heap.size, 3, none⟩)) ?_ hC (Below.refl _ _) (by intro d hd; cases hd; exact rfl)
      (clear hV hI hC; go_simp <;> (first | rfl | simp | (rw [IntKind.wrap_i64]; omega)))
    case o19 =>
      intro Q a w2 hC hV hI
      have e18 : a.eval (.tmp 18) = .pointer (some ⟨w.heap.size, 3, none⟩) := hV 18 (by simp [Op.operands]) (by kernel_rfl)
      have f18 : a.tmps.getD 18 undef = .pointer (some ⟨w.heap.size, 3, none⟩) := e18
      have g18 : a.tmps[18]?.getD undef = .pointer (some ⟨w.heap.size, 3, none⟩) := by rw [← Array.getD_eq_getD_getElem?]; exact e18
      have hK := KC.out w2 hC
      refine op_val (.int .i64 gi) ?_ hC (Below.refl _ _) (by intro d hd; cases hd; exact rfl)
      (clear hV hI hC; go_simp <;> (first | rfl | simp | (rw [IntKind.wrap_i64]; omega)))
    case o20 =>
      intro Q a w2 hC hV hI
      have e2 : a.eval (.tmp 2) = .pointer (some ⟨w.heap.size, 0, none⟩) := (hI 2 (by simp [Op.operands]) (by kernel_rfl)).trans rfl
      have f2 : a.tmps.getD 2 undef = .pointer (some ⟨w.heap.size, 0, none⟩) := e2
      have g2 : a.tmps[2]?.getD undef = .pointer (some ⟨w.heap.size, 0, none⟩) := by rw [← Array.getD_eq_getD_getElem?]; exact e2
      refine op_val (.pointer (some ⟨w.heap.size, 4, none⟩)) ?_ hC (Below.refl _ _) (by intro d hd; cases hd; exact rfl)
      (clear hV hI hC; go_simp <;> (first | rfl | simp | (rw [IntKind.wrap_i64]; omega)))
    case o21 =>
      intro Q a w2 hC hV hI
      have e20 : a.eval (.tmp 20) = .pointer (some ⟨w.heap.size, 4, none⟩) := hV 20 (by simp [Op.operands]) (by kernel_rfl)
      have f20 : a.tmps.getD 20 undef = .pointer (some ⟨w.heap.size, 4, none⟩) := e20
      have g20 : a.tmps[20]?.getD undef = .pointer (some ⟨w.heap.size, 4, none⟩) := by rw [← Array.getD_eq_getD_getElem?]; exact e20
      have hK := KC.out w2 hC
      refine op_val (.int .i64 cn) ?_ hC (Below.refl _ _) (by intro d hd; cases hd; exact rfl)
      (clear hV hI hC; go_simp <;> (first | rfl | simp | (rw [IntKind.wrap_i64]; omega)))
    case o22 =>
      intro Q a w2 hC hV hI
      have e2 : a.eval (.tmp 2) = .pointer (some ⟨w.heap.size, 0, none⟩) := (hI 2 (by simp [Op.operands]) (by kernel_rfl)).trans rfl
      have f2 : a.tmps.getD 2 undef = .pointer (some ⟨w.heap.size, 0, none⟩) := e2
      have g2 : a.tmps[2]?.getD undef = .pointer (some ⟨w.heap.size, 0, none⟩) := by rw [← Array.getD_eq_getD_getElem?]; exact e2
      refine op_val (.pointer (some ⟨w.heap.size, 5, none⟩)) ?_ hC (Below.refl _ _) (by intro d hd; cases hd; exact rfl)
      (clear hV hI hC; go_simp <;> (first | rfl | simp | (rw [IntKind.wrap_i64]; omega)))
    case o23 =>
      intro Q a w2 hC hV hI
      have e22 : a.eval (.tmp 22) = .pointer (some ⟨w.heap.size, 5, none⟩) := hV 22 (by simp [Op.operands]) (by kernel_rfl)
      have f22 : a.tmps.getD 22 undef = .pointer (some ⟨w.heap.size, 5, none⟩) := e22
      have g22 : a.tmps[22]?.getD undef = .pointer (some ⟨w.heap.size, 5, none⟩) := by rw [← Array.getD_eq_getD_getElem?]; exact e22
      have hK := KC.out w2 hC
      refine op_val (.int .i64 t) ?_ hC (Below.refl _ _) (by intro d hd; cases hd; exact rfl)
      (clear hV hI hC; go_simp <;> (first | rfl | simp | (rw [IntKind.wrap_i64]; omega)))
    case o24 =>
      intro Q a w2 hC hV hI
      have e2 : a.eval (.tmp 2) = .pointer (some ⟨w.heap.size, 0, none⟩) := (hI 2 (by simp [Op.operands]) (by kernel_rfl)).trans rfl
      have f2 : a.tmps.getD 2 undef = .pointer (some ⟨w.heap.size, 0, none⟩) := e2
      have g2 : a.tmps[2]?.getD undef = .pointer (some ⟨w.heap.size, 0, none⟩) := by rw [← Array.getD_eq_getD_getElem?]; exact e2
      refine op_val (.pointer (some ⟨w.heap.size, 7, none⟩)) ?_ hC (Below.refl _ _) (by intro d hd; cases hd; exact rfl)
      (clear hV hI hC; go_simp <;> (first | rfl | simp | (rw [IntKind.wrap_i64]; omega)))
    case o25 =>
      intro Q a w2 hC hV hI
      have e24 : a.eval (.tmp 24) = .pointer (some ⟨w.heap.size, 7, none⟩) := hV 24 (by simp [Op.operands]) (by kernel_rfl)
      have f24 : a.tmps.getD 24 undef = .pointer (some ⟨w.heap.size, 7, none⟩) := e24
      have g24 : a.tmps[24]?.getD undef = .pointer (some ⟨w.heap.size, 7, none⟩) := by rw [← Array.getD_eq_getD_getElem?]; exact e24
      have hK := KC.out w2 hC
      refine op_val (.string d) ?_ hC (Below.refl _ _) (by intro d hd; cases hd; exact rfl)
      (clear hV hI hC; go_simp <;> (first | rfl | simp | (rw [IntKind.wrap_i64]; omega)))
    case o26 =>
      intro Q a w2 hC hV hI
      have e25 : a.eval (.tmp 25) = .string d := hV 25 (by simp [Op.operands, Call.operands]) (by kernel_rfl)
      have f25 : a.tmps.getD 25 undef = .string d := e25
      have g25 : a.tmps[25]?.getD undef = .string d := by rw [← Array.getD_eq_getD_getElem?]; exact e25
      refine op_val (.int .i64 (d.size : Int)) ?_ hC (Below.refl _ _) (by intro d hd; cases hd; exact rfl)
      (clear hV hI hC; go_simp <;> (first | rfl | simp | (rw [IntKind.wrap_i64]; omega)))
    case o27 =>
      intro Q a w2 hC hV hI
      have e2 : a.eval (.tmp 2) = .pointer (some ⟨w.heap.size, 0, none⟩) := (hI 2 (by simp [Op.operands]) (by kernel_rfl)).trans rfl
      have f2 : a.tmps.getD 2 undef = .pointer (some ⟨w.heap.size, 0, none⟩) := e2
      have g2 : a.tmps[2]?.getD undef = .pointer (some ⟨w.heap.size, 0, none⟩) := by rw [← Array.getD_eq_getD_getElem?]; exact e2
      refine op_val (.pointer (some ⟨w.heap.size, 6, none⟩)) ?_ hC (Below.refl _ _) (by intro d hd; cases hd; exact rfl)
      (clear hV hI hC; go_simp <;> (first | rfl | simp | (rw [IntKind.wrap_i64]; omega)))
    case o28 =>
      intro Q a w2 hC hV hI
      have e27 : a.eval (.tmp 27) = .pointer (some ⟨w.heap.size, 6, none⟩) := hV 27 (by simp [Op.operands]) (by kernel_rfl)
      have f27 : a.tmps.getD 27 undef = .pointer (some ⟨w.heap.size, 6, none⟩) := e27
      have g27 : a.tmps[27]?.getD undef = .pointer (some ⟨w.heap.size, 6, none⟩) := by rw [← Array.getD_eq_getD_getElem?]; exact e27
      have hK := KC.out w2 hC
      refine op_val (.string p) ?_ hC (Below.refl _ _) (by intro d hd; cases hd; exact rfl)
      (clear hV hI hC; go_simp <;> (first | rfl | simp | (rw [IntKind.wrap_i64]; omega)))
    case o29 =>
      intro Q a w2 hC hV hI
      have e28 : a.eval (.tmp 28) = .string p := hV 28 (by simp [Op.operands, Call.operands]) (by kernel_rfl)
      have f28 : a.tmps.getD 28 undef = .string p := e28
      have g28 : a.tmps[28]?.getD undef = .string p := by rw [← Array.getD_eq_getD_getElem?]; exact e28
      refine op_val (.int .i64 (p.size : Int)) ?_ hC (Below.refl _ _) (by intro d hd; cases hd; exact rfl)
      (clear hV hI hC; go_simp <;> (first | rfl | simp | (rw [IntKind.wrap_i64]; omega)))
    case o30 =>
      intro Q a w2 hC hV hI
      have e29 : a.eval (.tmp 29) = .int .i64 (p.size : Int) := hV 29 (by simp [Op.operands]) (by kernel_rfl)
      have f29 : a.tmps.getD 29 undef = .int .i64 (p.size : Int) := e29
      have g29 : a.tmps[29]?.getD undef = .int .i64 (p.size : Int) := by rw [← Array.getD_eq_getD_getElem?]; exact e29
      have q9 := add_i64 (P := Tryz.prog) (a := (p.size : Int)) (b := 1) w2 3 (by omega) (by omega)
      refine op_val (.int .i64 ((p.size : Int) + 1)) ?_ hC (Below.refl _ _) (by intro d hd; cases hd; exact rfl)
      (clear hV hI hC; go_simp <;> (first | rfl | simp | (rw [IntKind.wrap_i64]; omega)))
    case o31 =>
      intro Q a w2 hC hV hI
      have e2 : a.eval (.tmp 2) = .pointer (some ⟨w.heap.size, 0, none⟩) := (hI 2 (by simp [Op.operands]) (by kernel_rfl)).trans rfl
      have f2 : a.tmps.getD 2 undef = .pointer (some ⟨w.heap.size, 0, none⟩) := e2
      have g2 : a.tmps[2]?.getD undef = .pointer (some ⟨w.heap.size, 0, none⟩) := by rw [← Array.getD_eq_getD_getElem?]; exact e2
      refine op_val (.pointer (some ⟨w.heap.size, 7, none⟩)) ?_ hC (Below.refl _ _) (by intro d hd; cases hd; exact rfl)
      (clear hV hI hC; go_simp <;> (first | rfl | simp | (rw [IntKind.wrap_i64]; omega)))
    case o32 =>
      intro Q a w2 hC hV hI
      have e31 : a.eval (.tmp 31) = .pointer (some ⟨w.heap.size, 7, none⟩) := hV 31 (by simp [Op.operands]) (by kernel_rfl)
      have f31 : a.tmps.getD 31 undef = .pointer (some ⟨w.heap.size, 7, none⟩) := e31
      have g31 : a.tmps[31]?.getD undef = .pointer (some ⟨w.heap.size, 7, none⟩) := by rw [← Array.getD_eq_getD_getElem?]; exact e31
      have hK := KC.out w2 hC
      refine op_val (.string d) ?_ hC (Below.refl _ _) (by intro d hd; cases hd; exact rfl)
      (clear hV hI hC; go_simp <;> (first | rfl | simp | (rw [IntKind.wrap_i64]; omega)))
    case o33 =>
      intro Q a w2 hC hV hI
      have e1 : a.eval (.tmp 1) = .bool crc := (hI 1 (by simp [Op.operands]) (by kernel_rfl)).trans rfl
      have f1 : a.tmps.getD 1 undef = .bool crc := e1
      have g1 : a.tmps[1]?.getD undef = .bool crc := by rw [← Array.getD_eq_getD_getElem?]; exact e1
      refine op_val (.bool crc) ?_ hC (Below.refl _ _) (by intro d hd; cases hd; exact rfl)
      (clear hV hI hC; go_simp <;> (first | rfl | simp | (rw [IntKind.wrap_i64]; omega)))
    case o34 =>
      intro Q a w2 hC hV hI
      have e32 : a.eval (.tmp 32) = .string d := hV 32 (by simp [Op.operands, Call.operands]) (by kernel_rfl)
      have f32 : a.tmps.getD 32 undef = .string d := e32
      have g32 : a.tmps[32]?.getD undef = .string d := by rw [← Array.getD_eq_getD_getElem?]; exact e32
      have e33 : a.eval (.tmp 33) = .bool crc := hV 33 (by simp [Op.operands, Call.operands]) (by kernel_rfl)
      have f33 : a.tmps.getD 33 undef = .bool crc := e33
      have g33 : a.tmps[33]?.getD undef = .bool crc := by rw [← Array.getD_eq_getD_getElem?]; exact e33
      refine op_call (f := 52) (args := #[.string d, .bool crc]) (R := fun v y => v = .int .i64 sm ∧ w2 = y) ?_ ((HSm.out w2).mono ?_) ?_
      · (clear hV hI hC; go_simp <;> (first | rfl | simp | (rw [IntKind.wrap_i64]; omega)))
      · rintro e y ⟨rfl, rfl⟩; exact ⟨_, rfl, rfl, rfl⟩
      · rintro v y ⟨rfl, rfl⟩; exact ⟨hC, Below.refl _ _, by intro d hd; cases hd; exact rfl⟩
    case o35 =>
      intro Q a w2 hC hV hI
      have e13 : a.eval (.tmp 13) = .int .i64 ino := hV 13 (by simp [Op.operands]) (by kernel_rfl)
      have f13 : a.tmps.getD 13 undef = .int .i64 ino := e13
      have g13 : a.tmps[13]?.getD undef = .int .i64 ino := by rw [← Array.getD_eq_getD_getElem?]; exact e13
      have e15 : a.eval (.tmp 15) = .int .i64 mo := hV 15 (by simp [Op.operands]) (by kernel_rfl)
      have f15 : a.tmps.getD 15 undef = .int .i64 mo := e15
      have g15 : a.tmps[15]?.getD undef = .int .i64 mo := by rw [← Array.getD_eq_getD_getElem?]; exact e15
      have e17 : a.eval (.tmp 17) = .int .i64 u1 := hV 17 (by simp [Op.operands]) (by kernel_rfl)
      have f17 : a.tmps.getD 17 undef = .int .i64 u1 := e17
      have g17 : a.tmps[17]?.getD undef = .int .i64 u1 := by rw [← Array.getD_eq_getD_getElem?]; exact e17
      have e19 : a.eval (.tmp 19) = .int .i64 gi := hV 19 (by simp [Op.operands]) (by kernel_rfl)
      have f19 : a.tmps.getD 19 undef = .int .i64 gi := e19
      have g19 : a.tmps[19]?.getD undef = .int .i64 gi := by rw [← Array.getD_eq_getD_getElem?]; exact e19
      have e21 : a.eval (.tmp 21) = .int .i64 cn := hV 21 (by simp [Op.operands]) (by kernel_rfl)
      have f21 : a.tmps.getD 21 undef = .int .i64 cn := e21
      have g21 : a.tmps[21]?.getD undef = .int .i64 cn := by rw [← Array.getD_eq_getD_getElem?]; exact e21
      have e23 : a.eval (.tmp 23) = .int .i64 t := hV 23 (by simp [Op.operands]) (by kernel_rfl)
      have f23 : a.tmps.getD 23 undef = .int .i64 t := e23
      have g23 : a.tmps[23]?.getD undef = .int .i64 t := by rw [← Array.getD_eq_getD_getElem?]; exact e23
      have e26 : a.eval (.tmp 26) = .int .i64 (d.size : Int) := hV 26 (by simp [Op.operands]) (by kernel_rfl)
      have f26 : a.tmps.getD 26 undef = .int .i64 (d.size : Int) := e26
      have g26 : a.tmps[26]?.getD undef = .int .i64 (d.size : Int) := by rw [← Array.getD_eq_getD_getElem?]; exact e26
      have e30 : a.eval (.tmp 30) = .int .i64 ((p.size : Int) + 1) := hV 30 (by simp [Op.operands]) (by kernel_rfl)
      have f30 : a.tmps.getD 30 undef = .int .i64 ((p.size : Int) + 1) := e30
      have g30 : a.tmps[30]?.getD undef = .int .i64 ((p.size : Int) + 1) := by rw [← Array.getD_eq_getD_getElem?]; exact e30
      have e34 : a.eval (.tmp 34) = .int .i64 sm := hV 34 (by simp [Op.operands]) (by kernel_rfl)
      have f34 : a.tmps.getD 34 undef = .int .i64 sm := e34
      have g34 : a.tmps[34]?.getD undef = .int .i64 sm := by rw [← Array.getD_eq_getD_getElem?]; exact e34
      refine op_val (.slice (some ⟨w2.heap.size, 0, none⟩) 13 13) (w' := w2.alloc (.cells #[.int .i64 ino, .int .i64 mo, .int .i64 u1, .int .i64 gi, .int .i64 cn, .int .i64 t, .int .i64 (d.size : Int), .int .i64 0, .int .i64 0, .int .i64 0, .int .i64 0, .int .i64 ((p.size : Int) + 1), .int .i64 sm] 3)) ?_ (hC.alloc hC.size _) ((Below.refl _ _).alloc (Nat.le_refl _) _) ?_
      · (clear hV hI hC; go_simp <;> (first | rfl | simp | (rw [IntKind.wrap_i64]; omega)))
      · intro d hd; cases hd; exact ⟨w2.heap.size, rfl, hC.size, heap_lastG _ _⟩
  case hend =>
    intro f w2 hC hall
    simp only [List.take_succ_cons, List.take_zero, List.drop_succ_cons, List.drop_zero] at hall ⊢
    simp only [List.forall_mem_cons] at hall
    obtain ⟨h12, h13, h14, h15, h16, h17, h18, h19, h20, h21, h22, h23, h24, h25, h26, h27, h28, h29, h30, h31, h32, h33, h34, h35, _⟩ := hall
    replace h12 : f 12 = .pointer (some ⟨w.heap.size, 0, none⟩) := h12 12 rfl
    replace h13 : f 13 = .int .i64 ino := h13 13 rfl
    replace h14 : f 14 = .pointer (some ⟨w.heap.size, 1, none⟩) := h14 14 rfl
    replace h15 : f 15 = .int .i64 mo := h15 15 rfl
    replace h16 : f 16 = .pointer (some ⟨w.heap.size, 2, none⟩) := h16 16 rfl
    replace h17 : f 17 = .int .i64 u1 := h17 17 rfl
    replace h18 : f 18 = .pointer (some ⟨w.heap.size, 3, none⟩) := h18 18 rfl
    replace h19 : f 19 = .int .i64 gi := h19 19 rfl
    replace h20 : f 20 = .pointer (some ⟨w.heap.size, 4, none⟩) := h20 20 rfl
    replace h21 : f 21 = .int .i64 cn := h21 21 rfl
    replace h22 : f 22 = .pointer (some ⟨w.heap.size, 5, none⟩) := h22 22 rfl
    replace h23 : f 23 = .int .i64 t := h23 23 rfl
    replace h24 : f 24 = .pointer (some ⟨w.heap.size, 7, none⟩) := h24 24 rfl
    replace h25 : f 25 = .string d := h25 25 rfl
    replace h26 : f 26 = .int .i64 (d.size : Int) := h26 26 rfl
    replace h27 : f 27 = .pointer (some ⟨w.heap.size, 6, none⟩) := h27 27 rfl
    replace h28 : f 28 = .string p := h28 28 rfl
    replace h29 : f 29 = .int .i64 (p.size : Int) := h29 29 rfl
    replace h30 : f 30 = .int .i64 ((p.size : Int) + 1) := h30 30 rfl
    replace h31 : f 31 = .pointer (some ⟨w.heap.size, 7, none⟩) := h31 31 rfl
    replace h32 : f 32 = .string d := h32 32 rfl
    replace h33 : f 33 = .bool crc := h33 33 rfl
    replace h34 : f 34 = .int .i64 sm := h34 34 rfl
    obtain ⟨G35, hG35, hGB35, hGO35⟩ : ∃ G, f 35 = .slice (some ⟨G, 0, none⟩) 13 13 ∧ w1.heap.size ≤ G ∧ w2.heap[G]? = some (.cells #[.int .i64 ino, .int .i64 mo, .int .i64 u1, .int .i64 gi, .int .i64 cn, .int .i64 t, .int .i64 (d.size : Int), .int .i64 0, .int .i64 0, .int .i64 0, .int .i64 0, .int .i64 ((p.size : Int) + 1), .int .i64 sm] 3 (0, 0)) := h35 35 rfl
    simp only [putAll, Act.put, List.setIfInBounds_toArray, List.set_cons_succ, List.set_cons_zero, h12, h13, h14, h15, h16, h17, h18, h19, h20, h21, h22, h23, h24, h25, h26, h27, h28, h29, h30, h31, h32, h33, h34, hG35]
    clear h12 h13 h14 h15 h16 h17 h18 h19 h20 h21 h22 h23 h24 h25 h26 h27 h28 h29 h30 h31 h32 h33 h34 hG35 h35
    have XC2 := Lib.hid (XC.out.below hC (by omega))
    have RW := Lib.hid (HRw.out _ _ _ hGO35)
    have hGl := (Array.getElem?_eq_some_iff.1 hGO35).1
    have B2 := Lib.hid (B1.out.trans (hC.mono (by omega)))
    have hc1 := hC.size
    clear KC XC B1 hGO35 hC HSm HRw
    go_wp2_with fail
    go_loopw [5, 7, 8, 9] (fun v u _ _ wr => ∃ i : Nat, u = .int .i64 i ∧ i ≤ 13 ∧ hexOk (L.take i) = true ∧ v = .string (mg ++ hexS (L.take i)) ∧ RowNN wr G35 L ∧ G35 < wr.heap.size ∧ CardO wr w.heap.size ⟨ino, mo, u1, gi, cn, t, p, d⟩ ∧ Below w.heap.size w wr) (fun _ u _ _ _ => 13 - (intOf u).toNat)
    case atStart => exact ⟨0, rfl, Nat.zero_le _, HZ.out.2, by rw [HZ.out.1, app_nilN], RW.out, hGl, XC2.out, B2.out⟩
    case round =>
      obtain ⟨i, rfl, hi, hok, rfl, hrw, hgl, hxc, hb⟩ := hrel
      clear XC2 RW B2 hGl
      have B := Lib.hid hb
      have RW := Lib.hid hrw
      have XC := Lib.hid hxc
      have hszB := B.out.size
      have HOk := Lib.hid hok
      clear hb hok hrw hxc
      have hle := HLe.out i
      by_cases hlt : i < 13
      · have hlt2 : (i : Int) < 13 := by omega
        obtain ⟨x, hx9⟩ := HG.out i hlt
        have HS2 := Lib.hid (HS.out i _ hx9)
        have HK2 := Lib.hid (HK.out i _ hx9)
        have HB2 := Lib.hid (HB.out i _ hx9)
        have hpl := HPl.out x
        have cN := RW.out i x hx9
        have HPx := Lib.hid (fun w => putHex_spec x w)
        clear hx9 HS HK HB HG HN1 HN2 HP1 HP2 HL13
        obtain ⟨T, hT⟩ : ∃ T, hexS (L.take i) = T := ⟨_, rfl⟩
        rw [hT] at HS2 hle ⊢
        clear hT
        generalize (putHexv x).1 = q at HS2 hpl HPx
        generalize (putHexv x).2 = b at HB2 HK2 HPx
        have hmT : (mg ++ T).size = mg.size + T.size := ByteArray.size_append
        have HA : Hid (∀ w, (Op.stringOp .add (mg ++ T) q).run Tryz.prog w = .ok (.string (mg ++ T ++ q)) w) := Lib.hid (fun w => run_string_add_sum w _ _ (by omega))
        have HAs : Hid (mg ++ (T ++ q) = mg ++ T ++ q) := Lib.hid (by rw [ByteArray.append_assoc])
        generalize mg ++ T = mT at *
        go_wp2_with fail
        refine (HPx.out _).mono ?_
        rintro e wp ⟨rfl, rfl⟩
        cases b with
        | false =>
          have HF2 : Hid (r = ⟨#[]⟩) := Lib.hid (by rw [HV.out, HB2.out rfl]; rfl)
          clear HS2 HK2 HB2 HA HAs
          go_wp2_with fail
          go_ret
          exact ⟨by rw [HF2.out]; rfl, B.out⟩
        | true =>
          have HOk2 : Hid (hexOk (L.take (i + 1)) = true) := Lib.hid (by rw [HK2.out, HOk.out]; rfl)
          have HA' := HA.out
          clear HB2
          go_wp2_with fail
          go_roundw
          case rel => exact ⟨i + 1, by go_num, by omega, HOk2.out, by rw [HS2.out, HAs.out], RW.out, hgl, XC.out, B.out⟩
          case measure => simp [intOf]; omega
      · obtain rfl : i = 13 := by omega
        have hlt2 : ¬ ((13 : Nat) : Int) < 13 := by omega
        have HR9 := HF.out.2
        rw [HOk.out] at HR9
        have hxz := HL13.out HR9.symm
        have HF9 := HF.out.1
        rw [HF9]
        have HV9 : Hid (r = mg ++ hx ++ p ++ ⟨#[0]⟩ ++ nu1 ++ d ++ nu2) := Lib.hid (by rw [HV.out, ← HR9]; rfl)
        clear HR9 HF9 HF HV HL13 HS HK HB HG HZ HLe HOk RW
        have z1 : (⟨#[0]⟩ : ByteArray).size = 1 := rfl
        obtain ⟨x0, hx0⟩ : ∃ x : ByteArray, x = mg ++ hx := ⟨_, rfl⟩
        have y0 : x0.size = 110 := by rw [hx0, ByteArray.size_append]; omega
        obtain ⟨x1, hx1⟩ : ∃ x : ByteArray, x = x0 ++ p := ⟨_, rfl⟩
        have y1 : x1.size = 110 + p.size := by rw [hx1, ByteArray.size_append]; omega
        obtain ⟨x2, hx2⟩ : ∃ x : ByteArray, x = x1 ++ ⟨#[0]⟩ := ⟨_, rfl⟩
        have y2 : x2.size = 111 + p.size := by rw [hx2, ByteArray.size_append]; omega
        have A1 : ∀ w, (Op.stringOp .add x0 p).run Tryz.prog w = .ok (.string x1) w := fun w => by rw [hx1]; exact run_string_add_sum w _ _ (by omega)
        have A2 : ∀ w, (Op.stringOp .add x1 ⟨#[0]⟩).run Tryz.prog w = .ok (.string x2) w := fun w => by rw [hx2]; exact run_string_add_sum w _ _ (by omega)
        have HX : Hid (r = x2 ++ nu1 ++ d ++ nu2) := Lib.hid (by rw [HV9.out, hx2, hx1, hx0])
        rw [← y2] at HP1
        rw [← hx0]
        have y3 : x2.size ≤ 4194415 := by omega
        have y4 : nu1.size ≤ 3 := by omega
        have y5 : nu2.size ≤ 3 := by omega
        clear hx0 hx1 hx2 HV9
        obtain ⟨k0, k1, k2, k3, k4, k5, k6, k7⟩ := XC.out.at.zero
        simp only at k6 k7
        obtain ⟨w3, hw3⟩ : ∃ wo, wo = wr := ⟨_, rfl⟩
        subst hw3
        go_upto_region 11 with fail
        have KC : Hid (∀ w', Below w3.heap.size w3 w' → w'.cell? ⟨w.heap.size, 7, none⟩ = some (.string d)) := Lib.hid (fun w' hb => (hb.cell (p := ⟨w.heap.size, 7, none⟩) (by have := XC.out.lt; exact this)).trans k7)
        clear A1 A2
        obtain ⟨x65, hx65⟩ : ∃ x : ByteArray, x = x2 ++ nu1 := ⟨_, rfl⟩
        obtain ⟨x68, hx68⟩ : ∃ x : ByteArray, x = x65 ++ d := ⟨_, rfl⟩
        obtain ⟨x74, hx74⟩ : ∃ x : ByteArray, x = x68 ++ nu2 := ⟨_, rfl⟩
        have zx65 : x65.size ≤ 4194418 := by rw [hx65, ByteArray.size_append]; omega
        have zx68 : x68.size ≤ 8388722 := by rw [hx68, ByteArray.size_append]; omega
        have zx74 : x74.size ≤ 8388725 := by rw [hx74, ByteArray.size_append]; omega
        have HA65 : Hid (∀ w, (Op.stringOp .add x2 nu1).run Tryz.prog w = .ok (.string x65) w) := Lib.hid (fun w => by rw [hx65]; exact run_string_add_sum w _ _ (by omega))
        have HA68 : Hid (∀ w, (Op.stringOp .add x65 d).run Tryz.prog w = .ok (.string x68) w) := Lib.hid (fun w => by rw [hx68]; exact run_string_add_sum w _ _ (by omega))
        have HA74 : Hid (∀ w, (Op.stringOp .add x68 nu2).run Tryz.prog w = .ok (.string x74) w) := Lib.hid (fun w => by rw [hx74]; exact run_string_add_sum w _ _ (by omega))
        have HX65 := Lib.hid hx65
        have HX68 := Lib.hid hx68
        have HX74 := Lib.hid hx74
        clear hx65 hx68 hx74
        refine wp_region_inv (by kernel_rfl) (fun w' => Below w3.heap.size w3 w') (fun x y => Below x.heap.size x y) (fun dq vq _ => match dq with | 60 => vq = .string x2 | 61 => vq = .string x2 | 62 => vq = .int .i64 (x2.size : Int) | 63 => vq = .int .i64 (q1 : Int) | 64 => vq = .string nu1 | 65 => vq = .string x65 | 66 => vq = .pointer (some ⟨w.heap.size, 7, none⟩) | 67 => vq = .string d | 68 => vq = .string x68 | 69 => vq = .pointer (some ⟨w.heap.size, 7, none⟩) | 70 => vq = .string d | 71 => vq = .int .i64 (d.size : Int) | 72 => vq = .int .i64 (q2 : Int) | 73 => vq = .string nu2 | 74 => vq = .string x74 | 4 => vq = .string x74 | _ => True) (by kernel_rfl) ((Below.refl _ _).drew) (fun _ _ _ _ _ _ h => h) ?hops ?hend
        case hops =>
          simp only [List.forall_mem_cons]
          refine ⟨?o60, ?o61, ?o62, ?o63, ?o64, ?o65, ?o66, ?o67, ?o68, ?o69, ?o70, ?o71, ?o72, ?o73, ?o74, ?o4, fun _ h => by cases h⟩
          case o60 =>
            intro Q a w2 hC hV hI
            have e5 : a.eval (.tmp 5) = .string x2 := (hI 5 (by simp [Op.operands]) (by kernel_rfl)).trans rfl
            have f5 : a.tmps.getD 5 undef = .string x2 := e5
            have g5 : a.tmps[5]?.getD undef = .string x2 := by rw [← Array.getD_eq_getD_getElem?]; exact e5
            refine op_val (.string x2) ?_ hC (Below.refl _ _) (by intro d hd; cases hd; rfl)
            (clear hV hI hC; go_simp <;> (first | rfl | simp | (rw [IntKind.wrap_i64]; omega)))
          case o61 =>
            intro Q a w2 hC hV hI
            have e5 : a.eval (.tmp 5) = .string x2 := (hI 5 (by simp [Op.operands]) (by kernel_rfl)).trans rfl
            have f5 : a.tmps.getD 5 undef = .string x2 := e5
            have g5 : a.tmps[5]?.getD undef = .string x2 := by rw [← Array.getD_eq_getD_getElem?]; exact e5
            refine op_val (.string x2) ?_ hC (Below.refl _ _) (by intro d hd; cases hd; rfl)
            (clear hV hI hC; go_simp <;> (first | rfl | simp | (rw [IntKind.wrap_i64]; omega)))
          case o62 =>
            intro Q a w2 hC hV hI
            have e61 : a.eval (.tmp 61) = .string x2 := hV 61 (by simp [Op.operands, Call.operands]) (by kernel_rfl)
            have f61 : a.tmps.getD 61 undef = .string x2 := e61
            have g61 : a.tmps[61]?.getD undef = .string x2 := by rw [← Array.getD_eq_getD_getElem?]; exact e61
            refine op_val (.int .i64 (x2.size : Int)) ?_ hC (Below.refl _ _) (by intro d hd; cases hd; rfl)
            (clear hV hI hC; go_simp <;> (first | rfl | simp | (rw [IntKind.wrap_i64]; omega)))
          case o63 =>
            intro Q a w2 hC hV hI
            have e62 : a.eval (.tmp 62) = .int .i64 (x2.size : Int) := hV 62 (by simp [Op.operands, Call.operands]) (by kernel_rfl)
            have f62 : a.tmps.getD 62 undef = .int .i64 (x2.size : Int) := e62
            have g62 : a.tmps[62]?.getD undef = .int .i64 (x2.size : Int) := by rw [← Array.getD_eq_getD_getElem?]; exact e62
            refine op_call (f := 55) (args := #[.int .i64 (x2.size : Int), .int .i64 4]) (R := fun v y => v = .int .i64 (q1 : Int) ∧ w2 = y) ?_ ((HP1.out w2).mono ?_) ?_
            · (clear hV hI hC; go_simp <;> (first | rfl | simp | (rw [IntKind.wrap_i64]; omega)))
            · rintro e y ⟨rfl, rfl⟩; exact ⟨_, rfl, rfl, rfl⟩
            · rintro v y ⟨rfl, rfl⟩; exact ⟨hC, Below.refl _ _, by intro d hd; cases hd; rfl⟩
          case o64 =>
            intro Q a w2 hC hV hI
            have e63 : a.eval (.tmp 63) = .int .i64 (q1 : Int) := hV 63 (by simp [Op.operands, Call.operands]) (by kernel_rfl)
            have f63 : a.tmps.getD 63 undef = .int .i64 (q1 : Int) := e63
            have g63 : a.tmps[63]?.getD undef = .int .i64 (q1 : Int) := by rw [← Array.getD_eq_getD_getElem?]; exact e63
            refine op_call (f := 54) (args := #[.int .i64 (q1 : Int)]) (R := fun v y => v = .string nu1 ∧ Below w2.heap.size w2 y) ?_ ((HN1.out w2).mono ?_) ?_
            · (clear hV hI hC; go_simp <;> (first | rfl | simp | (rw [IntKind.wrap_i64]; omega)))
            · rintro e y ⟨rfl, hb⟩; exact ⟨_, rfl, rfl, hb⟩
            · rintro v y ⟨rfl, hb⟩; exact ⟨hC.trans (hb.mono hC.size), hb, by intro d hd; cases hd; rfl⟩
          case o65 =>
            intro Q a w2 hC hV hI
            have e60 : a.eval (.tmp 60) = .string x2 := hV 60 (by simp [Op.operands]) (by kernel_rfl)
            have f60 : a.tmps.getD 60 undef = .string x2 := e60
            have g60 : a.tmps[60]?.getD undef = .string x2 := by rw [← Array.getD_eq_getD_getElem?]; exact e60
            have e64 : a.eval (.tmp 64) = .string nu1 := hV 64 (by simp [Op.operands]) (by kernel_rfl)
            have f64 : a.tmps.getD 64 undef = .string nu1 := e64
            have g64 : a.tmps[64]?.getD undef = .string nu1 := by rw [← Array.getD_eq_getD_getElem?]; exact e64
            refine op_val (.string x65) ?_ hC (Below.refl _ _) (by intro d hd; cases hd; rfl)
            have q := HA65.out w2
            (clear hV hI hC; go_simp <;> (first | rfl | simp | (rw [IntKind.wrap_i64]; omega)))
          case o66 =>
            intro Q a w2 hC hV hI
            have e2 : a.eval (.tmp 2) = .pointer (some ⟨w.heap.size, 0, none⟩) := (hI 2 (by simp [Op.operands]) (by kernel_rfl)).trans rfl
            have f2 : a.tmps.getD 2 undef = .pointer (some ⟨w.heap.size, 0, none⟩) := e2
            have g2 : a.tmps[2]?.getD undef = .pointer (some ⟨w.heap.size, 0, none⟩) := by rw [← Array.getD_eq_getD_getElem?]; exact e2
            refine op_val (.pointer (some ⟨w.heap.size, 7, none⟩)) ?_ hC (Below.refl _ _) (by intro d hd; cases hd; rfl)
            (clear hV hI hC; go_simp <;> (first | rfl | simp | (rw [IntKind.wrap_i64]; omega)))
          case o67 =>
            intro Q a w2 hC hV hI
            have e66 : a.eval (.tmp 66) = .pointer (some ⟨w.heap.size, 7, none⟩) := hV 66 (by simp [Op.operands]) (by kernel_rfl)
            have f66 : a.tmps.getD 66 undef = .pointer (some ⟨w.heap.size, 7, none⟩) := e66
            have g66 : a.tmps[66]?.getD undef = .pointer (some ⟨w.heap.size, 7, none⟩) := by rw [← Array.getD_eq_getD_getElem?]; exact e66
            have hK := KC.out w2 hC
            refine op_val (.string d) ?_ hC (Below.refl _ _) (by intro d hd; cases hd; rfl)
            (clear hV hI hC; go_simp <;> (first | rfl | simp | (rw [IntKind.wrap_i64]; omega)))
          case o68 =>
            intro Q a w2 hC hV hI
            have e65 : a.eval (.tmp 65) = .string x65 := hV 65 (by simp [Op.operands]) (by kernel_rfl)
            have f65 : a.tmps.getD 65 undef = .string x65 := e65
            have g65 : a.tmps[65]?.getD undef = .string x65 := by rw [← Array.getD_eq_getD_getElem?]; exact e65
            have e67 : a.eval (.tmp 67) = .string d := hV 67 (by simp [Op.operands]) (by kernel_rfl)
            have f67 : a.tmps.getD 67 undef = .string d := e67
            have g67 : a.tmps[67]?.getD undef = .string d := by rw [← Array.getD_eq_getD_getElem?]; exact e67
            refine op_val (.string x68) ?_ hC (Below.refl _ _) (by intro d hd; cases hd; rfl)
            have q := HA68.out w2
            (clear hV hI hC; go_simp <;> (first | rfl | simp | (rw [IntKind.wrap_i64]; omega)))
          case o69 =>
            intro Q a w2 hC hV hI
            have e2 : a.eval (.tmp 2) = .pointer (some ⟨w.heap.size, 0, none⟩) := (hI 2 (by simp [Op.operands]) (by kernel_rfl)).trans rfl
            have f2 : a.tmps.getD 2 undef = .pointer (some ⟨w.heap.size, 0, none⟩) := e2
            have g2 : a.tmps[2]?.getD undef = .pointer (some ⟨w.heap.size, 0, none⟩) := by rw [← Array.getD_eq_getD_getElem?]; exact e2
            refine op_val (.pointer (some ⟨w.heap.size, 7, none⟩)) ?_ hC (Below.refl _ _) (by intro d hd; cases hd; rfl)
            (clear hV hI hC; go_simp <;> (first | rfl | simp | (rw [IntKind.wrap_i64]; omega)))
          case o70 =>
            intro Q a w2 hC hV hI
            have e69 : a.eval (.tmp 69) = .pointer (some ⟨w.heap.size, 7, none⟩) := hV 69 (by simp [Op.operands]) (by kernel_rfl)
            have f69 : a.tmps.getD 69 undef = .pointer (some ⟨w.heap.size, 7, none⟩) := e69
            have g69 : a.tmps[69]?.getD undef = .pointer (some ⟨w.heap.size, 7, none⟩) := by rw [← Array.getD_eq_getD_getElem?]; exact e69
            have hK := KC.out w2 hC
            refine op_val (.string d) ?_ hC (Below.refl _ _) (by intro d hd; cases hd; rfl)
            (clear hV hI hC; go_simp <;> (first | rfl | simp | (rw [IntKind.wrap_i64]; omega)))
          case o71 =>
            intro Q a w2 hC hV hI
            have e70 : a.eval (.tmp 70) = .string d := hV 70 (by simp [Op.operands, Call.operands]) (by kernel_rfl)
            have f70 : a.tmps.getD 70 undef = .string d := e70
            have g70 : a.tmps[70]?.getD undef = .string d := by rw [← Array.getD_eq_getD_getElem?]; exact e70
            refine op_val (.int .i64 (d.size : Int)) ?_ hC (Below.refl _ _) (by intro d hd; cases hd; rfl)
            (clear hV hI hC; go_simp <;> (first | rfl | simp | (rw [IntKind.wrap_i64]; omega)))
          case o72 =>
            intro Q a w2 hC hV hI
            have e71 : a.eval (.tmp 71) = .int .i64 (d.size : Int) := hV 71 (by simp [Op.operands, Call.operands]) (by kernel_rfl)
            have f71 : a.tmps.getD 71 undef = .int .i64 (d.size : Int) := e71
            have g71 : a.tmps[71]?.getD undef = .int .i64 (d.size : Int) := by rw [← Array.getD_eq_getD_getElem?]; exact e71
            refine op_call (f := 55) (args := #[.int .i64 (d.size : Int), .int .i64 4]) (R := fun v y => v = .int .i64 (q2 : Int) ∧ w2 = y) ?_ ((HP2.out w2).mono ?_) ?_
            · (clear hV hI hC; go_simp <;> (first | rfl | simp | (rw [IntKind.wrap_i64]; omega)))
            · rintro e y ⟨rfl, rfl⟩; exact ⟨_, rfl, rfl, rfl⟩
            · rintro v y ⟨rfl, rfl⟩; exact ⟨hC, Below.refl _ _, by intro d hd; cases hd; rfl⟩
          case o73 =>
            intro Q a w2 hC hV hI
            have e72 : a.eval (.tmp 72) = .int .i64 (q2 : Int) := hV 72 (by simp [Op.operands, Call.operands]) (by kernel_rfl)
            have f72 : a.tmps.getD 72 undef = .int .i64 (q2 : Int) := e72
            have g72 : a.tmps[72]?.getD undef = .int .i64 (q2 : Int) := by rw [← Array.getD_eq_getD_getElem?]; exact e72
            refine op_call (f := 54) (args := #[.int .i64 (q2 : Int)]) (R := fun v y => v = .string nu2 ∧ Below w2.heap.size w2 y) ?_ ((HN2.out w2).mono ?_) ?_
            · (clear hV hI hC; go_simp <;> (first | rfl | simp | (rw [IntKind.wrap_i64]; omega)))
            · rintro e y ⟨rfl, hb⟩; exact ⟨_, rfl, rfl, hb⟩
            · rintro v y ⟨rfl, hb⟩; exact ⟨hC.trans (hb.mono hC.size), hb, by intro d hd; cases hd; rfl⟩
          case o74 =>
            intro Q a w2 hC hV hI
            have e68 : a.eval (.tmp 68) = .string x68 := hV 68 (by simp [Op.operands]) (by kernel_rfl)
            have f68 : a.tmps.getD 68 undef = .string x68 := e68
            have g68 : a.tmps[68]?.getD undef = .string x68 := by rw [← Array.getD_eq_getD_getElem?]; exact e68
            have e73 : a.eval (.tmp 73) = .string nu2 := hV 73 (by simp [Op.operands]) (by kernel_rfl)
            have f73 : a.tmps.getD 73 undef = .string nu2 := e73
            have g73 : a.tmps[73]?.getD undef = .string nu2 := by rw [← Array.getD_eq_getD_getElem?]; exact e73
            refine op_val (.string x74) ?_ hC (Below.refl _ _) (by intro d hd; cases hd; rfl)
            have q := HA74.out w2
            (clear hV hI hC; go_simp <;> (first | rfl | simp | (rw [IntKind.wrap_i64]; omega)))
          case o4 =>
            intro Q a w2 hC hV hI
            have e74 : a.eval (.tmp 74) = .string x74 := hV 74 (by simp [Op.operands]) (by kernel_rfl)
            have f74 : a.tmps.getD 74 undef = .string x74 := e74
            have g74 : a.tmps[74]?.getD undef = .string x74 := by rw [← Array.getD_eq_getD_getElem?]; exact e74
            refine op_val (.string x74) ?_ hC (Below.refl _ _) (by intro d hd; cases hd; rfl)
            (clear hV hI hC; go_simp <;> (first | rfl | simp | (rw [IntKind.wrap_i64]; omega)))
        case hend =>
          intro f w4 hC hall
          clear HA65 HA68 HA74
          simp only [List.forall_mem_cons] at hall
          obtain ⟨h60, h61, h62, h63, h64, h65, h66, h67, h68, h69, h70, h71, h72, h73, h74, h4, _⟩ := hall
          replace h60 : f 60 = .string x2 := h60 60 rfl
          replace h61 : f 61 = .string x2 := h61 61 rfl
          replace h62 : f 62 = .int .i64 (x2.size : Int) := h62 62 rfl
          replace h63 : f 63 = .int .i64 (q1 : Int) := h63 63 rfl
          replace h64 : f 64 = .string nu1 := h64 64 rfl
          replace h65 : f 65 = .string x65 := h65 65 rfl
          replace h66 : f 66 = .pointer (some ⟨w.heap.size, 7, none⟩) := h66 66 rfl
          replace h67 : f 67 = .string d := h67 67 rfl
          replace h68 : f 68 = .string x68 := h68 68 rfl
          replace h69 : f 69 = .pointer (some ⟨w.heap.size, 7, none⟩) := h69 69 rfl
          replace h70 : f 70 = .string d := h70 70 rfl
          replace h71 : f 71 = .int .i64 (d.size : Int) := h71 71 rfl
          replace h72 : f 72 = .int .i64 (q2 : Int) := h72 72 rfl
          replace h73 : f 73 = .string nu2 := h73 73 rfl
          replace h74 : f 74 = .string x74 := h74 74 rfl
          replace h4 : f 4 = .string x74 := h4 4 rfl
          simp only [putAll, Act.put, List.setIfInBounds_toArray, List.set_cons_succ, List.set_cons_zero, h60, h61, h62, h63, h64, h65, h66, h67, h68, h69, h70, h71, h72, h73, h74, h4]
          clear h60 h61 h62 h63 h64 h65 h66 h67 h68 h69 h70 h71 h72 h73 h74 h4
          have HXe : Hid (r = x74) := Lib.hid (by rw [HX.out, HX74.out, HX68.out, HX65.out])
          clear KC HX
          have B4 := B.out.trans (hC.mono hszB)
          go_wp2_with fail
          go_ret
          exact ⟨by rw [HXe.out]; rfl, B4⟩
end Go.Proofs.YtcnmbolmgifgfabGreatDoor

/- Contract of impl.EntryOk: the four kinds and what they share. -/
namespace Go.Proofs.YtcnmbolmgifgfabGreatDoor
open Go.ChangeShapes Go.WideShapes Go.ChangeAt Go.RowKit Go.Deep

/-- What all kinds ask. -/
def fieldsv (e : Ent) : Bool := pathOkv e.path && inB e.mode 0 4095 && inB e.uid 0 4294967295 && inB e.gid 0 4294967295 && inB e.time 0 99999999999 && whov e.user && whov e.group
set_option maxHeartbeats 3200000 in
theorem fieldsOk_impl (k : Int) (p l : ByteArray) (m u g t : Int) (us gr b : ByteArray) (w : World) (hp : p.size ≤ 4194304) (hus : us.size ≤ 4194304) (hgr : gr.size ≤ 4194304) :
    Calls Tryz.prog 174 #[.agg #[.int .i64 k, .string p, .string l, .int .i64 m, .int .i64 u, .int .i64 g, .int .i64 t, .string us, .string gr, .string b]] w fun e w' => e = .returned (.bool (fieldsv ⟨k, p, l, m, u, g, t, us, gr, b⟩)) ∧ Below w.heap.size w w' := by
  have H1 := Lib.hid (fun w => pathOk_impl p w (by omega))
  have H2 := Lib.hid (fun w => upTo_any m 4095 w)
  have H3 := Lib.hid (fun w => upTo_any u 4294967295 w)
  have H4 := Lib.hid (fun w => upTo_any g 4294967295 w)
  have H5 := Lib.hid (fun w => upTo_any t 99999999999 w)
  have H6 := Lib.hid (fun w => userOk_impl us w hus)
  have H7 := Lib.hid (fun w => userOk_impl gr w hgr)
  have HE : Hid (fieldsv ⟨k, p, l, m, u, g, t, us, gr, b⟩ = (pathOkv p && inB m 0 4095 && inB u 0 4294967295 && inB g 0 4294967295 && inB t 0 99999999999 && whov us && whov gr)) := Lib.hid rfl
  generalize fieldsv ⟨k, p, l, m, u, g, t, us, gr, b⟩ = r at HE
  generalize pathOkv p = b1 at H1 HE
  generalize inB m 0 4095 = b2 at H2 HE
  generalize inB u 0 4294967295 = b3 at H3 HE
  generalize inB g 0 4294967295 = b4 at H4 HE
  generalize inB t 0 99999999999 = b5 at H5 HE
  generalize whov us = b6 at H6 HE
  generalize whov gr = b7 at H7 HE
  clear hp hus hgr
  go_enter Tryz.func174, Tryz.ntmps174
  go_wp2_with fail
  refine (H1.out _).mono ?_
  rintro e w1 ⟨rfl, hb⟩
  obtain ⟨k1, bb, z1⟩ := one_new (e1 := ⟨k, p, l, m, u, g, t, us, gr, b⟩) hb
  have E := Lib.hid k1
  have B := Lib.hid bb
  clear hb k1 bb
  obtain ⟨c0, c1, c2, c3, c4, c5, c6, c7, c8, c9⟩ := E.out.zero
  cases b1 with
  | false =>
    go_wp2_with fail
    go_ret
    exact ⟨ret_bool (by rw [HE.out]; simp), B.out⟩
  | true =>
    go_wp2_with fail
    refine (H2.out _).mono ?_
    rintro e _ ⟨rfl, rfl⟩
    cases b2 with
    | false =>
      go_wp2_with fail
      go_ret
      exact ⟨ret_bool (by rw [HE.out]; simp), B.out⟩
    | true =>
      go_wp2_with fail
      refine (H3.out _).mono ?_
      rintro e _ ⟨rfl, rfl⟩
      cases b3 with
      | false =>
        go_wp2_with fail
        go_ret
        exact ⟨ret_bool (by rw [HE.out]; simp), B.out⟩
      | true =>
        go_wp2_with fail
        refine (H4.out _).mono ?_
        rintro e _ ⟨rfl, rfl⟩
        cases b4 with
        | false =>
          go_wp2_with fail
          go_ret
          exact ⟨ret_bool (by rw [HE.out]; simp), B.out⟩
        | true =>
          go_wp2_with fail
          refine (H5.out _).mono ?_
          rintro e _ ⟨rfl, rfl⟩
          cases b5 with
          | false =>
            go_wp2_with fail
            go_ret
            exact ⟨ret_bool (by rw [HE.out]; simp), B.out⟩
          | true =>
            go_wp2_with fail
            refine (H6.out _).mono ?_
            rintro e w6 ⟨rfl, hb⟩
            replace E := Lib.hid (E.out.below hb (by omega))
            replace B := Lib.hid (btE B.out hb)
            replace z1 := Nat.le_trans z1 hb.size
            clear hb c0 c1 c2 c3 c4 c5 c6 c7 c8 c9
            obtain ⟨c0, c1, c2, c3, c4, c5, c6, c7, c8, c9⟩ := E.out.zero
            cases b6 with
            | false =>
              go_wp2_with fail
              go_ret
              exact ⟨ret_bool (by rw [HE.out]; simp), B.out⟩
            | true =>
              go_wp2_with fail
              refine (H7.out _).mono ?_
              rintro e w7 ⟨rfl, hb⟩
              replace E := Lib.hid (E.out.below hb (by omega))
              replace B := Lib.hid (btE B.out hb)
              replace z1 := Nat.le_trans z1 hb.size
              clear hb c0 c1 c2 c3 c4 c5 c6 c7 c8 c9
              obtain ⟨c0, c1, c2, c3, c4, c5, c6, c7, c8, c9⟩ := E.out.zero
              cases b7 with
              | false =>
                go_wp2_with fail
                go_ret
                exact ⟨ret_bool (by rw [HE.out]; simp), B.out⟩
              | true =>
                go_wp2_with fail
                go_ret
                exact ⟨ret_bool (by rw [HE.out]; simp), B.out⟩
set_option maxHeartbeats 3200000 in
theorem fileOk_impl (k : Int) (p l : ByteArray) (m u g t : Int) (us gr b : ByteArray) (w : World) (hp : p.size ≤ 4194304) (hus : us.size ≤ 4194304) (hgr : gr.size ≤ 4194304) :
    Calls Tryz.prog 135 #[.agg #[.int .i64 k, .string p, .string l, .int .i64 m, .int .i64 u, .int .i64 g, .int .i64 t, .string us, .string gr, .string b]] w fun e w' => e = .returned (.bool (fieldsv ⟨k, p, l, m, u, g, t, us, gr, b⟩ && (decide (l.size = 0) && decide (b.size ≤ 3000)))) ∧ Below w.heap.size w w' := by
  have H1 := Lib.hid (fun w => fieldsOk_impl k p l m u g t us gr b w hp hus hgr)
  generalize fieldsv ⟨k, p, l, m, u, g, t, us, gr, b⟩ = b1 at H1 ⊢
  go_enter Tryz.func135, Tryz.ntmps135
  go_wp2_with fail
  refine (H1.out _).mono ?_
  rintro e w1 ⟨rfl, hb⟩
  obtain ⟨k1, bb, z1⟩ := one_new (e1 := ⟨k, p, l, m, u, g, t, us, gr, b⟩) hb
  have E := Lib.hid k1
  have B := Lib.hid bb
  clear hb k1 bb
  obtain ⟨c0, c1, c2, c3, c4, c5, c6, c7, c8, c9⟩ := E.out.zero
  cases b1 with
  | false =>
    go_wp2_with fail
    go_ret
    exact ⟨ret_bool (by simp), B.out⟩
  | true =>
    by_cases ql : l.size = 0
    · have ql2 := empty_t ql
      by_cases qb : b.size ≤ 3000
      · have qb2 : (b.size : Int) ≤ 3000 := by omega
        go_wp2_with fail
        go_ret
        exact ⟨ret_bool (by simp [ql, qb]), B.out⟩
      · have qb2 : ¬ (b.size : Int) ≤ 3000 := by omega
        go_wp2_with fail
        go_ret
        exact ⟨ret_bool (by rw [decide_eq_false qb]; simp; try omega), B.out⟩
    · have ql2 := empty_f ql
      go_wp2_with fail
      go_ret
      exact ⟨ret_bool (by simp [ql]), B.out⟩
set_option maxHeartbeats 3200000 in
theorem dirOk_impl (k : Int) (p l : ByteArray) (m u g t : Int) (us gr b : ByteArray) (w : World) (hp : p.size ≤ 4194304) (hus : us.size ≤ 4194304) (hgr : gr.size ≤ 4194304) :
    Calls Tryz.prog 136 #[.agg #[.int .i64 k, .string p, .string l, .int .i64 m, .int .i64 u, .int .i64 g, .int .i64 t, .string us, .string gr, .string b]] w fun e w' => e = .returned (.bool (fieldsv ⟨k, p, l, m, u, g, t, us, gr, b⟩ && (decide (l.size = 0) && decide (b.size = 0)))) ∧ Below w.heap.size w w' := by
  have H1 := Lib.hid (fun w => fieldsOk_impl k p l m u g t us gr b w hp hus hgr)
  generalize fieldsv ⟨k, p, l, m, u, g, t, us, gr, b⟩ = b1 at H1 ⊢
  go_enter Tryz.func136, Tryz.ntmps136
  go_wp2_with fail
  refine (H1.out _).mono ?_
  rintro e w1 ⟨rfl, hb⟩
  obtain ⟨k1, bb, z1⟩ := one_new (e1 := ⟨k, p, l, m, u, g, t, us, gr, b⟩) hb
  have E := Lib.hid k1
  have B := Lib.hid bb
  clear hb k1 bb
  obtain ⟨c0, c1, c2, c3, c4, c5, c6, c7, c8, c9⟩ := E.out.zero
  cases b1 with
  | false =>
    go_wp2_with fail
    go_ret
    exact ⟨ret_bool (by simp), B.out⟩
  | true =>
    by_cases ql : l.size = 0
    · have ql2 := empty_t ql
      by_cases qb : b.size = 0
      · have qb2 := empty_t qb
        go_wp2_with fail
        go_ret
        exact ⟨ret_bool (by simp [ql, qb]), B.out⟩
      · have qb2 := empty_f qb
        go_wp2_with fail
        go_ret
        exact ⟨ret_bool (by simp [qb]), B.out⟩
    · have ql2 := empty_f ql
      go_wp2_with fail
      go_ret
      exact ⟨ret_bool (by simp [ql]), B.out⟩
set_option maxHeartbeats 3200000 in
theorem symOk_impl (k : Int) (p l : ByteArray) (m u g t : Int) (us gr b : ByteArray) (w : World) (hp : p.size ≤ 4194304) (hl : l.size ≤ 4194304) (hus : us.size ≤ 4194304) (hgr : gr.size ≤ 4194304) :
    Calls Tryz.prog 137 #[.agg #[.int .i64 k, .string p, .string l, .int .i64 m, .int .i64 u, .int .i64 g, .int .i64 t, .string us, .string gr, .string b]] w fun e w' => e = .returned (.bool (fieldsv ⟨k, p, l, m, u, g, t, us, gr, b⟩ && (inB l.size 1 150 && signv l && decide (b.size = 0)))) ∧ Below w.heap.size w w' := by
  have H1 := Lib.hid (fun w => fieldsOk_impl k p l m u g t us gr b w hp hus hgr)
  have H2 := Lib.hid (fun w => symLinkOk_impl l w hl)
  generalize (inB (l.size : Int) 1 150 && signv l) = b2 at H2 ⊢
  generalize fieldsv ⟨k, p, l, m, u, g, t, us, gr, b⟩ = b1 at H1 ⊢
  go_enter Tryz.func137, Tryz.ntmps137
  go_wp2_with fail
  refine (H1.out _).mono ?_
  rintro e w1 ⟨rfl, hb⟩
  obtain ⟨k1, bb, z1⟩ := one_new (e1 := ⟨k, p, l, m, u, g, t, us, gr, b⟩) hb
  have E := Lib.hid k1
  have B := Lib.hid bb
  clear hb k1 bb
  obtain ⟨c0, c1, c2, c3, c4, c5, c6, c7, c8, c9⟩ := E.out.zero
  cases b1 with
  | false =>
    go_wp2_with fail
    go_ret
    exact ⟨ret_bool (by simp), B.out⟩
  | true =>
    go_wp2_with fail
    refine (H2.out _).mono ?_
    rintro e w2 ⟨rfl, hb⟩
    replace E := Lib.hid (E.out.below hb (by omega))
    replace B := Lib.hid (btE B.out hb)
    replace z1 := Nat.le_trans z1 hb.size
    clear hb c0 c1 c2 c3 c4 c5 c6 c7 c8 c9
    obtain ⟨c0, c1, c2, c3, c4, c5, c6, c7, c8, c9⟩ := E.out.zero
    cases b2 with
    | false =>
      go_wp2_with fail
      go_ret
      exact ⟨ret_bool (by simp), B.out⟩
    | true =>
      by_cases qb : b.size = 0
      · have qb2 := empty_t qb
        go_wp2_with fail
        go_ret
        exact ⟨ret_bool (by simp [qb]), B.out⟩
      · have qb2 := empty_f qb
        go_wp2_with fail
        go_ret
        exact ⟨ret_bool (by simp [qb]), B.out⟩
set_option maxHeartbeats 3200000 in
theorem hardOk_impl (k : Int) (p l : ByteArray) (m u g t : Int) (us gr b : ByteArray) (w : World) (hp : p.size ≤ 4194304) (hl : l.size ≤ 4194304) (hus : us.size ≤ 4194304) (hgr : gr.size ≤ 4194304) :
    Calls Tryz.prog 138 #[.agg #[.int .i64 k, .string p, .string l, .int .i64 m, .int .i64 u, .int .i64 g, .int .i64 t, .string us, .string gr, .string b]] w fun e w' => e = .returned (.bool (fieldsv ⟨k, p, l, m, u, g, t, us, gr, b⟩ && (pathOkv l && decide (l ≠ p) && decide (b.size = 0)))) ∧ Below w.heap.size w w' := by
  have H1 := Lib.hid (fun w => fieldsOk_impl k p l m u g t us gr b w hp hus hgr)
  have H2 := Lib.hid (fun w => pathOk_impl l w (by omega))
  generalize pathOkv l = b2 at H2 ⊢
  generalize fieldsv ⟨k, p, l, m, u, g, t, us, gr, b⟩ = b1 at H1 ⊢
  go_enter Tryz.func138, Tryz.ntmps138
  go_wp2_with fail
  refine (H1.out _).mono ?_
  rintro e w1 ⟨rfl, hb⟩
  obtain ⟨k1, bb, z1⟩ := one_new (e1 := ⟨k, p, l, m, u, g, t, us, gr, b⟩) hb
  have E := Lib.hid k1
  have B := Lib.hid bb
  clear hb k1 bb
  obtain ⟨c0, c1, c2, c3, c4, c5, c6, c7, c8, c9⟩ := E.out.zero
  cases b1 with
  | false =>
    go_wp2_with fail
    go_ret
    exact ⟨ret_bool (by simp), B.out⟩
  | true =>
    go_wp2_with fail
    refine (H2.out _).mono ?_
    rintro e w2 ⟨rfl, hb⟩
    replace E := Lib.hid (E.out.below hb (by omega))
    replace B := Lib.hid (btE B.out hb)
    replace z1 := Nat.le_trans z1 hb.size
    clear hb c0 c1 c2 c3 c4 c5 c6 c7 c8 c9
    obtain ⟨c0, c1, c2, c3, c4, c5, c6, c7, c8, c9⟩ := E.out.zero
    cases b2 with
    | false =>
      go_wp2_with fail
      go_ret
      exact ⟨ret_bool (by simp), B.out⟩
    | true =>
      by_cases ql : l = p
      · have ql2 := baE_eq ql
        go_wp2_with fail
        go_ret
        exact ⟨ret_bool (by simp [ql]), B.out⟩
      · have ql2 := baE_ne ql
        by_cases qb : b.size = 0
        · have qb2 := empty_t qb
          go_wp2_with fail
          go_ret
          exact ⟨ret_bool (by simp [ql, qb]), B.out⟩
        · have qb2 := empty_f qb
          go_wp2_with fail
          go_ret
          exact ⟨ret_bool (by simp [qb]), B.out⟩
set_option maxHeartbeats 3200000 in
theorem entryOk_impl (k : Int) (p l : ByteArray) (m u g t : Int) (us gr b : ByteArray) (w : World) (hp : p.size ≤ 4194304) (hl : l.size ≤ 4194304) (hus : us.size ≤ 4194304) (hgr : gr.size ≤ 4194304) :
    Calls Tryz.prog 88 #[.agg #[.int .i64 k, .string p, .string l, .int .i64 m, .int .i64 u, .int .i64 g, .int .i64 t, .string us, .string gr, .string b]] w fun e w' => e = .returned (.bool (entOkv ⟨k, p, l, m, u, g, t, us, gr, b⟩)) ∧ Below w.heap.size w w' := by
  have H0 := Lib.hid (fun w => fileOk_impl k p l m u g t us gr b w hp hus hgr)
  have H1 := Lib.hid (fun w => dirOk_impl k p l m u g t us gr b w hp hus hgr)
  have H2 := Lib.hid (fun w => symOk_impl k p l m u g t us gr b w hp hl hus hgr)
  have H3 := Lib.hid (fun w => hardOk_impl k p l m u g t us gr b w hp hl hus hgr)
  have HE : Hid (entOkv ⟨k, p, l, m, u, g, t, us, gr, b⟩ = (fieldsv ⟨k, p, l, m, u, g, t, us, gr, b⟩ && kindOk k p l b)) := Lib.hid rfl
  have HK : Hid (kindOk k p l b = if k = 0 then decide (l.size = 0) && decide (b.size ≤ 3000) else if k = 1 then decide (l.size = 0) && decide (b.size = 0) else if k = 2 then inB l.size 1 150 && signv l && decide (b.size = 0) else if k = 3 then pathOkv l && decide (l ≠ p) && decide (b.size = 0) else false) := Lib.hid rfl
  generalize hk0 : (decide (l.size = 0) && decide (b.size ≤ 3000)) = r0 at H0 HK
  generalize hk1 : (decide (l.size = 0) && decide (b.size = 0)) = r1 at H1 HK
  generalize hk2 : (inB (l.size : Int) 1 150 && signv l && decide (b.size = 0)) = r2 at H2 HK
  generalize hk3 : (pathOkv l && decide (l ≠ p) && decide (b.size = 0)) = r3 at H3 HK
  clear hk0 hk1 hk2 hk3
  generalize kindOk k p l b = rk at HE HK
  generalize entOkv ⟨k, p, l, m, u, g, t, us, gr, b⟩ = r at HE
  generalize fieldsv ⟨k, p, l, m, u, g, t, us, gr, b⟩ = b1 at HE H0 H1 H2 H3
  clear hp hl hus hgr
  by_cases q0 : k = 0
  · have HF : Hid (r = (b1 && r0)) := Lib.hid (by rw [HE.out, HK.out]; simp [q0])
    subst q0
    clear HE HK
    go_enter Tryz.func88, Tryz.ntmps88
    go_wp2_with fail
    refine (H0.out _).mono ?_
    rintro e w1 ⟨rfl, hb⟩
    go_wp2_with fail
    go_ret
    exact ⟨ret_bool HF.out.symm, (((Below.refl _ w).alloc (Nat.le_refl _) _).alloc (by simp) _).trans (hb.mono (by simp; omega))⟩
  by_cases q1 : k = 1
  · have HF : Hid (r = (b1 && r1)) := Lib.hid (by rw [HE.out, HK.out]; simp [q1])
    subst q1
    clear HE HK
    go_enter Tryz.func88, Tryz.ntmps88
    go_wp2_with fail
    refine (H1.out _).mono ?_
    rintro e w1 ⟨rfl, hb⟩
    go_wp2_with fail
    go_ret
    exact ⟨ret_bool HF.out.symm, (((Below.refl _ w).alloc (Nat.le_refl _) _).alloc (by simp) _).trans (hb.mono (by simp; omega))⟩
  by_cases q2 : k = 2
  · have HF : Hid (r = (b1 && r2)) := Lib.hid (by rw [HE.out, HK.out]; simp [q2])
    subst q2
    clear HE HK
    go_enter Tryz.func88, Tryz.ntmps88
    go_wp2_with fail
    refine (H2.out _).mono ?_
    rintro e w1 ⟨rfl, hb⟩
    go_wp2_with fail
    go_ret
    exact ⟨ret_bool HF.out.symm, (((Below.refl _ w).alloc (Nat.le_refl _) _).alloc (by simp) _).trans (hb.mono (by simp; omega))⟩
  by_cases q3 : k = 3
  · have HF : Hid (r = (b1 && r3)) := Lib.hid (by rw [HE.out, HK.out]; simp [q3])
    subst q3
    clear HE HK
    go_enter Tryz.func88, Tryz.ntmps88
    go_wp2_with fail
    refine (H3.out _).mono ?_
    rintro e w1 ⟨rfl, hb⟩
    go_wp2_with fail
    go_ret
    exact ⟨ret_bool HF.out.symm, (((Below.refl _ w).alloc (Nat.le_refl _) _).alloc (by simp) _).trans (hb.mono (by simp; omega))⟩
  have HF : Hid (r = false) := Lib.hid (by rw [HE.out, HK.out, if_neg q0, if_neg q1, if_neg q2, if_neg q3]; simp)
  clear HE HK
  go_enter Tryz.func88, Tryz.ntmps88
  go_wp2_with fail
  go_ret
  exact ⟨ret_bool HF.out.symm, ((Below.refl _ w).alloc (Nat.le_refl _) _).alloc (by simp) _⟩
end Go.Proofs.YtcnmbolmgifgfabGreatDoor

/- Contract of impl.cpioFits: what all cpio formats ask of an entry. -/
namespace Go.Proofs.YtcnmbolmgifgfabGreatDoor
open Go.ChangeShapes Go.WideShapes Go.ChangeAt Go.RowKit Go.Deep

def isTrail (p : ByteArray) : Bool := p.toList == [84, 82, 65, 73, 76, 69, 82, 33, 33, 33]
def cpioF (e : Ent) : Bool := entOkv e && !isTrail e.path && e.user.toList.isEmpty && e.group.toList.isEmpty
set_option maxHeartbeats 3200000 in
theorem cpioF_impl (k : Int) (p l : ByteArray) (m u g t : Int) (us gr b : ByteArray) (w : World) (hp : p.size ≤ 4194304) (hl : l.size ≤ 4194304) (hus : us.size ≤ 4194304) (hgr : gr.size ≤ 4194304) :
    Calls Tryz.prog 96 #[.agg #[.int .i64 k, .string p, .string l, .int .i64 m, .int .i64 u, .int .i64 g, .int .i64 t, .string us, .string gr, .string b]] w fun e w' => e = .returned (.bool (cpioF ⟨k, p, l, m, u, g, t, us, gr, b⟩)) ∧ Below w.heap.size w w' := by
  have H2 := Lib.hid (fun w => entryOk_impl k p l m u g t us gr b w hp hl hus hgr)
  have HE : Hid (cpioF ⟨k, p, l, m, u, g, t, us, gr, b⟩ = (entOkv ⟨k, p, l, m, u, g, t, us, gr, b⟩ && !(p.toList == [84, 82, 65, 73, 76, 69, 82, 33, 33, 33]) && us.toList.isEmpty && gr.toList.isEmpty)) := Lib.hid rfl
  generalize cpioF ⟨k, p, l, m, u, g, t, us, gr, b⟩ = r at HE
  generalize entOkv ⟨k, p, l, m, u, g, t, us, gr, b⟩ = b1 at H2 HE
  clear hp hus hgr hl
  go_enter Tryz.func96, Tryz.ntmps96
  go_wp2_with fail
  refine (H2.out _).mono ?_
  rintro e w1 ⟨rfl, hb⟩
  obtain ⟨k1, bb1, z1⟩ := one_new (e1 := ⟨k, p, l, m, u, g, t, us, gr, b⟩) hb
  have E1 := Lib.hid k1
  have B1 := Lib.hid bb1
  clear hb k1 bb1
  obtain ⟨c0, c1, c2, c3, c4, c5, c6, c7, c8, c9⟩ := E1.out.zero
  cases b1 with
  | false =>
    go_wp2_with fail
    go_ret
    exact ⟨ret_bool (by rw [HE.out]; simp []), B1.out⟩
  | true =>
    cases q1 : (p.toList == [84, 82, 65, 73, 76, 69, 82, 33, 33, 33]) with
    | true =>
      have HE2 : Hid (r = false) := Lib.hid (by rw [HE.out, q1]; simp)
      clear HE
      go_wp2_with fail
      go_ret
      exact ⟨ret_bool HE2.out.symm, B1.out⟩
    | false =>
      cases q2 : us.toList.isEmpty with
      | false =>
        have HE2 : Hid (r = false) := Lib.hid (by rw [HE.out, q2]; simp)
        clear HE
        go_wp2_with fail
        go_ret
        exact ⟨ret_bool HE2.out.symm, B1.out⟩
      | true =>
        have HE2 : Hid (r = gr.toList.isEmpty) := Lib.hid (by rw [HE.out, q1, q2]; simp)
        clear HE
        go_wp2_with fail
        go_ret
        exact ⟨ret_bool HE2.out.symm, B1.out⟩
end Go.Proofs.YtcnmbolmgifgfabGreatDoor

/- Contracts of spec.NewFits and impl.NewFits. -/
namespace Go.Proofs.YtcnmbolmgifgfabGreatDoor
open Go.ChangeShapes Go.WideShapes Go.ChangeAt Go.RowKit Go.Deep

def newFits (e : Ent) : Bool := entOkv e && !isTrail e.path && e.user.toList.isEmpty && e.group.toList.isEmpty && decide (e.time ≤ 4294967295)
set_option maxHeartbeats 3200000 in
theorem newFits_spec (k : Int) (p l : ByteArray) (m u g t : Int) (us gr b : ByteArray) (w : World) (hp : p.size ≤ 4194304) (hl : l.size ≤ 4194304) (hus : us.size ≤ 4194304) (hgr : gr.size ≤ 4194304) (hbz : b.size ≤ 4194304) :
    Calls Tryz.prog 26 #[.agg #[.int .i64 k, .string p, .string l, .int .i64 m, .int .i64 u, .int .i64 g, .int .i64 t, .string us, .string gr, .string b]] w fun e w' => e = .returned (.bool (newFits ⟨k, p, l, m, u, g, t, us, gr, b⟩)) ∧ Below w.heap.size w w' := by
  have H2 := Lib.hid (fun w => entryOk_spec k p l m u g t us gr b w hp hl hus hgr hbz)
  have HE : Hid (newFits ⟨k, p, l, m, u, g, t, us, gr, b⟩ = (entOkv ⟨k, p, l, m, u, g, t, us, gr, b⟩ && !(p.toList == [84, 82, 65, 73, 76, 69, 82, 33, 33, 33]) && us.toList.isEmpty && gr.toList.isEmpty && decide (t ≤ 4294967295))) := Lib.hid rfl
  generalize newFits ⟨k, p, l, m, u, g, t, us, gr, b⟩ = r at HE
  generalize entOkv ⟨k, p, l, m, u, g, t, us, gr, b⟩ = b1 at H2 HE
  clear hp hus hgr hl hbz
  go_enter Tryz.func26, Tryz.ntmps26
  go_wp2_with fail
  refine (H2.out _).mono ?_
  rintro e w1 ⟨rfl, hb⟩
  obtain ⟨k1, bb1, z1⟩ := one_new (e1 := ⟨k, p, l, m, u, g, t, us, gr, b⟩) hb
  have E1 := Lib.hid k1
  have B1 := Lib.hid bb1
  clear hb k1 bb1
  obtain ⟨c0, c1, c2, c3, c4, c5, c6, c7, c8, c9⟩ := E1.out.zero
  cases b1 with
  | false =>
    go_wp2_with fail
    go_ret
    exact ⟨ret_bool (by rw [HE.out]; simp []), B1.out⟩
  | true =>
    cases q1 : (p.toList == [84, 82, 65, 73, 76, 69, 82, 33, 33, 33]) with
    | true =>
      have HE2 : Hid (r = false) := Lib.hid (by rw [HE.out, q1]; simp)
      clear HE
      go_wp2_with fail
      go_ret
      exact ⟨ret_bool HE2.out.symm, B1.out⟩
    | false =>
      cases q2 : us.toList.isEmpty with
      | false =>
        have HE2 : Hid (r = false) := Lib.hid (by rw [HE.out, q2]; simp)
        clear HE
        go_wp2_with fail
        go_ret
        exact ⟨ret_bool HE2.out.symm, B1.out⟩
      | true =>
        cases q3 : gr.toList.isEmpty with
        | false =>
          have HE2 : Hid (r = false) := Lib.hid (by rw [HE.out, q3]; simp)
          clear HE
          go_wp2_with fail
          go_ret
          exact ⟨ret_bool HE2.out.symm, B1.out⟩
        | true =>
          by_cases q4 : t ≤ 4294967295
          · have HE2 : Hid (r = true) := Lib.hid (by rw [HE.out, q1, q2, q3, decide_eq_true q4]; rfl)
            clear HE
            go_wp2_with fail
            go_ret
            exact ⟨ret_bool HE2.out.symm, B1.out⟩
          · have HE2 : Hid (r = false) := Lib.hid (by rw [HE.out, decide_eq_false q4]; simp)
            clear HE
            go_wp2_with fail
            go_ret
            exact ⟨ret_bool ((decide_eq_false (show ¬ t ≤ 4294967295 by omega)).trans HE2.out.symm), B1.out⟩
set_option maxHeartbeats 3200000 in
theorem newFits_impl (k : Int) (p l : ByteArray) (m u g t : Int) (us gr b : ByteArray) (w : World) (hp : p.size ≤ 4194304) (hl : l.size ≤ 4194304) (hus : us.size ≤ 4194304) (hgr : gr.size ≤ 4194304) :
    Calls Tryz.prog 56 #[.agg #[.int .i64 k, .string p, .string l, .int .i64 m, .int .i64 u, .int .i64 g, .int .i64 t, .string us, .string gr, .string b]] w fun e w' => e = .returned (.bool (newFits ⟨k, p, l, m, u, g, t, us, gr, b⟩)) ∧ Below w.heap.size w w' := by
  have H2 := Lib.hid (fun w => cpioF_impl k p l m u g t us gr b w hp hl hus hgr)
  have HE : Hid (newFits ⟨k, p, l, m, u, g, t, us, gr, b⟩ = (cpioF ⟨k, p, l, m, u, g, t, us, gr, b⟩ && decide (t ≤ 4294967295))) := Lib.hid rfl
  generalize newFits ⟨k, p, l, m, u, g, t, us, gr, b⟩ = r at HE
  generalize cpioF ⟨k, p, l, m, u, g, t, us, gr, b⟩ = b1 at H2 HE
  clear hp hus hgr hl
  go_enter Tryz.func56, Tryz.ntmps56
  go_wp2_with fail
  refine (H2.out _).mono ?_
  rintro e w1 ⟨rfl, hb⟩
  obtain ⟨k1, bb1, z1⟩ := one_new (e1 := ⟨k, p, l, m, u, g, t, us, gr, b⟩) hb
  have E1 := Lib.hid k1
  have B1 := Lib.hid bb1
  clear hb k1 bb1
  obtain ⟨c0, c1, c2, c3, c4, c5, c6, c7, c8, c9⟩ := E1.out.zero
  cases b1 with
  | false =>
    go_wp2_with fail
    go_ret
    exact ⟨ret_bool (by rw [HE.out]; simp []), B1.out⟩
  | true =>
    by_cases q4 : t ≤ 4294967295
    · have HE2 : Hid (r = true) := Lib.hid (by rw [HE.out, decide_eq_true q4]; rfl)
      clear HE
      go_wp2_with fail
      go_ret
      exact ⟨ret_bool HE2.out.symm, B1.out⟩
    · have HE2 : Hid (r = false) := Lib.hid (by rw [HE.out, decide_eq_false q4]; simp)
      clear HE
      go_wp2_with fail
      go_ret
      exact ⟨ret_bool ((decide_eq_false (show ¬ t ≤ 4294967295 by omega)).trans HE2.out.symm), B1.out⟩
end Go.Proofs.YtcnmbolmgifgfabGreatDoor

/- The text of a list in cards with hexadecimal numbers; contract of spec.PutNewc. -/
namespace Go.Proofs.YtcnmbolmgifgfabGreatDoor
open Go.ChangeShapes Go.WideShapes Go.ChangeAt Go.RowKit Go.Deep

def lastC : Card := ⟨0, 0, 0, 0, 1, 0, ⟨#[84, 82, 65, 73, 76, 69, 82, 33, 33, 33]⟩, ⟨#[]⟩⟩
def nwT (crc : Bool) (Q : List Card) : Nat → ByteArray
  | 0 => ⟨#[]⟩
  | n + 1 => nwT crc Q n ++ newTextv (Q.getD n zeroCd) crc
def putNwB (L : List Ent) : Bool := listOkv L && L.all newFits
def putNwT (L : List Ent) (crc : Bool) : ByteArray := if putNwB L then nwT crc (cardsv L) L.length ++ newTextv lastC crc else ⟨#[]⟩
theorem getD_ofQ {C : List Card} {i : Nat} {c : Card} (h : C[i]? = some c) : C.getD i zeroCd = c := by simp [List.getD, h]
theorem nwT_step {crc : Bool} {Q : List Card} {i : Nat} {c : Card} (h : Q[i]? = some c) : nwT crc Q (i + 1) = nwT crc Q i ++ newTextv c crc := by rw [nwT, getD_ofQ h]
theorem newText_le (c : Card) (crc : Bool) : (newTextv c crc).size ≤ 207 + c.Path.size + c.Data.size := by
  unfold newTextv
  split
  · have h := (hexS_le (nFl c crc)).1
    have hl : (nFl c crc).length = 13 := rfl
    have z6 := mgN_size crc
    have z1 : (⟨#[0]⟩ : ByteArray).size = 1 := rfl
    have p1 := pad4_le (111 + c.Path.size)
    have p2 := pad4_le c.Data.size
    simp only [ByteArray.size_append, nulN_size]
    omega
  · exact Nat.zero_le _
def SmallQ (Q : List Card) : Prop := ∀ c ∈ Q, c.Path.size + c.Data.size ≤ 4194304
theorem smallQ_of {L : List Ent} (h : SmallL L) : SmallQ (cardsv L) := by
  intro c hc
  by_cases hk : listOkv L = true
  · obtain ⟨i, hi⟩ := List.mem_iff_getElem?.1 hc
    have hlt : i < L.length := by
      have := (List.getElem?_eq_some_iff.1 hi).1
      rwa [cardsv_len hk] at this
    have he : L[i]? = some L[i] := List.getElem?_eq_getElem hlt
    rw [cardsv_get hk he] at hi
    obtain rfl := Option.some.inj hi
    have hz := h.get he
    unfold esz at hz
    show L[i].path.size + (datav L[i]).size ≤ 4194304
    unfold datav
    split <;> omega
  · rw [cardsv, if_neg hk] at hc
    cases hc
theorem nwT_le {crc : Bool} {Q : List Card} (h : SmallQ Q) (i : Nat) (hi : i ≤ Q.length) : (nwT crc Q i).size ≤ 4194511 * i := by
  induction i with
  | zero => exact Nat.zero_le _
  | succ i ih =>
    have hq : Q[i]? = some Q[i] := List.getElem?_eq_getElem (by omega)
    have h1 := h _ (List.mem_of_getElem? hq)
    have h2 := newText_le Q[i] crc
    rw [nwT_step hq, ByteArray.size_append]
    have := ih (by omega)
    omega
theorem putNw_no {L : List Ent} {crc : Bool} (h : listOkv L = false) : putNwB L = false ∧ putNwT L crc = ⟨#[]⟩ := by
  have hb : putNwB L = false := by rw [putNwB, h]; rfl
  exact ⟨hb, by rw [putNwT, hb]; rfl⟩
theorem putNw_bad {L : List Ent} {crc : Bool} {i : Nat} {e : Ent} (he : L[i]? = some e) (h : newFits e = false) : putNwB L = false ∧ putNwT L crc = ⟨#[]⟩ := by
  have hb : putNwB L = false := by
    rw [putNwB, show L.all newFits = false from List.all_eq_false.2 ⟨e, List.mem_of_getElem? he, by simp [h]⟩]
    simp
  exact ⟨hb, by rw [putNwT, hb]; rfl⟩
theorem putNw_yes {L : List Ent} {crc : Bool} (h : listOkv L = true) (hf : ∀ j, j < L.length → ∀ e, L[j]? = some e → newFits e = true) : putNwB L = true ∧ putNwT L crc = nwT crc (cardsv L) L.length ++ newTextv lastC crc := by
  have hb : putNwB L = true := by
    rw [putNwB, h, List.all_eq_true.2 (fun e he => by
      obtain ⟨j, hj⟩ := List.mem_iff_getElem?.1 he
      exact hf j (List.getElem?_eq_some_iff.1 hj).1 e hj)]
    rfl
  exact ⟨hb, by rw [putNwT, if_pos hb]⟩
theorem last_spec (w : World) : Calls Tryz.prog 28 #[] w fun e w' => e = .returned (.agg #[.int .i64 0, .int .i64 0, .int .i64 0, .int .i64 0, .int .i64 1, .int .i64 0, .string ⟨#[84, 82, 65, 73, 76, 69, 82, 33, 33, 33]⟩, .string ⟨#[]⟩]) ∧ Below w.heap.size w w' := by
  have R9 := CardO.new w lastC
  simp only [lastC, Card.cells] at R9
  go_enter Tryz.func28, Tryz.ntmps28
  go_wp2_with fail
  refine bodyPost_ret (res_OC1 (e := lastC) rfl _ rfl R9) rfl ?_
  exact ⟨rfl, (Below.refl _ _).alloc (Nat.le_refl _) _⟩
set_option maxHeartbeats 6400000 in
set_option maxRecDepth 8000 in
theorem putNewc_spec (L : List Ent) (n g cap : Nat) (crc : Bool) (w : World) (hn : n = L.length) (hm : n ≤ 1048576) (hcap : n ≤ cap) (hg : g < w.heap.size) (hsm : SmallL L) (h1 : RowE w g L) :
    Calls Tryz.prog 9 #[.slice (some ⟨g, 0, none⟩) n cap, .bool crc] w fun e w' => e = .returned (.tuple #[.string (putNwT L crc), .bool (putNwB L)]) ∧ Below w.heap.size w w' := by
  have H1 := Lib.hid h1
  have HK := Lib.hid (fun w (hg : g < w.heap.size) (h : RowE w g L) => listOk_spec L n g cap w hn (by omega) hcap hg hsm h)
  have HC := Lib.hid (fun w (hg : g < w.heap.size) (h : RowE w g L) => cardsOf_spec L n g cap w hn (by omega) hcap hg hsm h)
  have HG : Hid (∀ i, i < n → ∃ e, L[i]? = some e ∧ esz e ≤ 4194304) := Lib.hid (fun i hi => by obtain ⟨e, he⟩ := getE' (L := L) (i := i) (by omega); exact ⟨e, he, hsm.get he⟩)
  have HNo := Lib.hid (putNw_no (L := L) (crc := crc))
  have HBad := Lib.hid (fun i e (he : L[i]? = some e) h => putNw_bad (crc := crc) he h)
  have HYes : Hid (listOkv L = true → (∀ j, j < n → ∀ e, L[j]? = some e → newFits e = true) → putNwB L = true ∧ putNwT L crc = nwT crc (cardsv L) n ++ newTextv lastC crc) := Lib.hid (by rw [hn]; exact putNw_yes)
  have HQ : Hid (listOkv L = true → (cardsv L).length = n ∧ n ≤ 30) := Lib.hid (fun h => ⟨by rw [hn]; exact cardsv_len h, by rw [hn]; exact listOk_len h⟩)
  have HSQ := Lib.hid (smallQ_of hsm)
  have HLast := Lib.hid (newText_le lastC crc)
  generalize putNwB L = ok at HNo HBad HYes
  generalize putNwT L crc = r at HNo HBad HYes
  generalize listOkv L = lk at HK HNo HYes HQ
  generalize cardsv L = Q at HC HYes HQ HSQ
  clear h1 hsm hn
  go_enter Tryz.func9, Tryz.ntmps9
  go_wp2_with fail
  refine (HK.out _ hg H1.out).mono ?_
  rintro e w1 ⟨rfl, hb⟩
  have B := Lib.hid hb
  clear hb
  cases lk with
  | false =>
    have HF := Lib.hid (HNo.out rfl)
    go_wp2_with fail
    go_ret2
    exact ⟨by rw [HF.out.1, HF.out.2]; rfl, B.out⟩
  | true =>
    obtain ⟨hql, hn30⟩ := HQ.out rfl
    have HY := Lib.hid (HYes.out rfl)
    clear HK HNo HYes HQ
    go_wp2_with fail
    refine (HC.out _ (by have := B.out.size; omega) (H1.out.below B.out hg)).mono ?_
    rintro e w2 ⟨v, rfl, ho, hb⟩
    obtain ⟨gc, cc, rfl, hrc, zc, _, _⟩ := ho.open
    have RC := Lib.hid hrc
    replace B := Lib.hid (btE B.out hb)
    clear ho hrc hb HC
    rw [hql]
    go_wp2_with fail
    go_loopw [6, 8] (fun v u wr => ∃ i : Nat, u = .int .i64 i ∧ i ≤ n ∧ (∀ j, j < i → ∀ e, L[j]? = some e → newFits e = true) ∧ v = .string (nwT crc Q i) ∧ RowC wr gc Q ∧ gc < wr.heap.size ∧ Below w.heap.size w wr) (fun _ u _ => n - (intOf u).toNat)
    case atStart => exact ⟨0, rfl, Nat.zero_le _, fun j hj => by omega, rfl, RC.out, zc, B.out⟩
    case round =>
      obtain ⟨i, rfl, hi, hf, rfl, hrc, zc2, hb⟩ := hrel
      clear RC B
      have HFt := Lib.hid hf
      have RC := Lib.hid hrc
      have B := Lib.hid hb
      have hszB := B.out.size
      clear hf hrc hb
      have hle := nwT_le (crc := crc) HSQ.out i (by omega)
      by_cases hlt : i < n
      · have hlt2 : (i : Int) < (n : Int) := by omega
        obtain ⟨e, he, hz⟩ := HG.out i hlt
        obtain ⟨q, hq⟩ : ∃ q, Q[i]? = some q := ⟨Q[i], List.getElem?_eq_getElem (by omega)⟩
        have hqs := HSQ.out _ (List.mem_of_getElem? hq)
        have hcl := newText_le q crc
        have HSt := Lib.hid (nwT_step (crc := crc) hq)
        have HB2 := Lib.hid (HBad.out i e he)
        have HFn : Hid (newFits e = true → ∀ j, j < i + 1 → ∀ e, L[j]? = some e → newFits e = true) := Lib.hid (fun h j hj e' he' => by
          by_cases hji : j = i
          · subst hji; rw [he] at he'; obtain rfl := Option.some.inj he'; exact h
          · exact HFt.out j (by omega) e' he')
        obtain ⟨c0, c1, c2, c3, c4, c5, c6, c7, c8, c9⟩ := (H1.out.below B.out hg).ten he
        have Hq := Lib.hid hq
        clear he hq HBad HG
        obtain ⟨k, p, l, m, u1, gi, t, us, gr, b⟩ := e
        obtain ⟨hp, hl, hus, hgr, hbz⟩ := small_parts hz
        have HO := Lib.hid (fun w => newFits_spec k p l m u1 gi t us gr b w hp hl hus hgr hbz)
        clear hz hp hl hus hgr hbz
        generalize newFits ⟨k, p, l, m, u1, gi, t, us, gr, b⟩ = f at HB2 HFn HO
        go_wp2_with fail
        refine (HO.out _).mono ?_
        rintro e w3 ⟨rfl, hb⟩
        replace RC := Lib.hid (RC.out.below hb zc2)
        replace B := Lib.hid (btE B.out hb)
        have zc3 := Nat.lt_of_lt_of_le zc2 hb.size
        clear hb HO c0 c1 c2 c3 c4 c5 c6 c7 c8 c9
        cases f with
        | false =>
          have HF := Lib.hid (HB2.out rfl)
          go_wp2_with fail
          go_ret2
          exact ⟨by rw [HF.out.1, HF.out.2]; rfl, B.out⟩
        | true =>
          have HFi := Lib.hid (HFn.out rfl)
          obtain ⟨d0, d1, d2, d3, d4, d5, d6, d7⟩ := RC.out.cols Hq.out
          obtain ⟨q0, q1, q2, q3, q4, q5, qp, qd⟩ := q
          simp only at d0 d1 d2 d3 d4 d5 d6 d7 hqs hcl
          have HP := Lib.hid (fun w => putNew_spec q0 q1 q2 q3 q4 q5 qp qd crc w (by omega) (by omega))
          generalize newTextv ⟨q0, q1, q2, q3, q4, q5, qp, qd⟩ crc = x at HP HSt hcl
          obtain ⟨T, hT⟩ : ∃ T, nwT crc Q i = T := ⟨_, rfl⟩
          rw [hT] at HSt hle ⊢
          clear hT HB2 HFn
          have hA : ∀ w, (Op.stringOp .add T x).run Tryz.prog w = .ok (.string (T ++ x)) w := fun w => run_string_add_sum w _ _ (by omega)
          go_wp2_with fail
          refine (HP.out _).mono ?_
          rintro e w4 ⟨rfl, hb⟩
          replace RC := Lib.hid (RC.out.below hb zc3)
          replace B := Lib.hid (btE B.out hb)
          have zc4 := Nat.lt_of_lt_of_le zc3 hb.size
          clear hb d0 d1 d2 d3 d4 d5 d6 d7 HP
          go_wp2_with fail
          go_roundw
          case rel => exact ⟨i + 1, by go_num, by omega, HFi.out, by rw [HSt.out], RC.out, zc4, B.out⟩
          case measure => simp [intOf]; omega
      · obtain rfl : i = n := by omega
        have hlt2 : ¬ (i : Int) < (i : Int) := by omega
        have HF := Lib.hid (HY.out HFt.out)
        have hll := HLast.out
        obtain ⟨x, hx⟩ : ∃ x, newTextv lastC crc = x := ⟨_, rfl⟩
        have HP := Lib.hid (fun w => putNew_spec 0 0 0 0 1 0 ⟨#[84, 82, 65, 73, 76, 69, 82, 33, 33, 33]⟩ ⟨#[]⟩ crc w (by decide) (by decide))
        rw [show (newTextv ⟨0, 0, 0, 0, 1, 0, ⟨#[84, 82, 65, 73, 76, 69, 82, 33, 33, 33]⟩, ⟨#[]⟩⟩ crc) = x from hx] at HP
        rw [hx] at HF hll
        have hp1 : lastC.Path.size = 10 := rfl
        have hp2 : lastC.Data.size = 0 := rfl
        have hll2 : x.size ≤ 1000 := by omega
        obtain ⟨T, hT⟩ : ∃ T, nwT crc Q i = T := ⟨_, rfl⟩
        rw [hT] at HF hle ⊢
        clear hT hx hll HY
        have hA : ∀ w, (Op.stringOp .add T x).run Tryz.prog w = .ok (.string (T ++ x)) w := fun w => run_string_add_sum w _ _ (by omega)
        go_wp2_with fail
        refine (last_spec _).mono ?_
        rintro e w3 ⟨rfl, hb⟩
        replace B := Lib.hid (btE B.out hb)
        clear hb
        go_wp2_with fail
        refine (HP.out _).mono ?_
        rintro e w4 ⟨rfl, hb⟩
        replace B := Lib.hid (btE B.out hb)
        clear hb
        go_wp2_with fail
        go_ret2
        exact ⟨by rw [HF.out.1, HF.out.2]; rfl, B.out⟩
end Go.Proofs.YtcnmbolmgifgfabGreatDoor

/- Contract of impl.(*newcHead).digits. -/
namespace Go.Proofs.YtcnmbolmgifgfabGreatDoor
open Go.ChangeShapes Go.WideShapes Go.ChangeAt Go.RowKit Go.Deep

theorem ownB_belowN {w w' : World} {base : Nat} {v : Value} {l : List UInt8} (h : OwnB w base v l) (hb : Below w.heap.size w w') : OwnB w' base v l :=
  World.ownsRow.kept h (row := none) ⟨hb.os, hb.tape, hb.output, hb.size, fun k hk _ => hb.block k hk⟩ (by cases hv : v.ownBlock <;> simp)
theorem textN {w : World} {base n : Nat} {v : Value} {l : List UInt8} {s : ByteArray} (hn : n = l.length + s.size) (h : w.ownsRow base 5 1 v n (byteVals l ++ Lib.strCells s)) : OwnB w base v (l ++ s.data.toList) := by
  subst hn
  have e : byteVals l ++ Lib.strCells s = byteVals (l ++ s.data.toList) := by simp [byteVals, Lib.strCells]
  rw [e, show l.length + s.size = (l ++ s.data.toList).length from by simp] at h
  exact h
def NumsN (w : World) (gh : Nat) (L : List Int) : Prop := ∀ i x, L[i]? = some x → w.cell? ⟨gh, offn i, none⟩ = some (.int .i64 x)
theorem NumsN.below {w w' : World} {gh B : Nat} {L : List Int} (h : NumsN w gh L) (hb : Below B w w') (hg : gh < B) : NumsN w' gh L := fun i x hx => (hb.cell (p := ⟨gh, offn i, none⟩) hg).trans (h i x hx)
theorem idx13 (gh k : Nat) (hk : k < 13) (w : World) : (Instr.index 167 (.agg (ptrsN gh)) (.int .i64 (k : Int))).run Tryz.prog w = .ok (.pointer (some ⟨gh, offn k, none⟩)) w := by
  have h := ptrsN_at gh k hk
  have hk2 : (0 : Int) ≤ (k : Int) ∧ (k : Int) < 13 := by omega
  have hu := Tryz.underlying167
  have he := Tryz.underlying166
  have hsz : ∀ w, (sizeOf 166).run Tryz.prog w = .ok 1 w := fun w => by go_simp
  simp [Instr.index, run_underlying hu, asIntOf, hk2, part, isAgg, run_underlying he, hsz, go_sem, h]
  intro h9
  omega
def digN (L : List Int) : Ending := .returned (.tuple #[.string (if hexOk L then hexS L else ⟨#[]⟩), .bool (hexOk L)])
theorem digN_bad {L : List Int} (h : hexOk L = false) : digN L = .returned (.tuple #[.string ⟨#[]⟩, .bool false]) := by rw [digN, h]; rfl
theorem digN_ok {L : List Int} (h : hexOk L = true) : digN L = .returned (.tuple #[.string (hexS L), .bool true]) := by rw [digN, h]; rfl
set_option maxHeartbeats 6400000 in
set_option maxRecDepth 8000 in
theorem digitsN_any (L : List Int) (gh : Nat) (w : World) (hL : L.length = 13) (hg : gh < w.heap.size) (hN : NumsN w gh L) (hT : Tabs w) :
    Calls Tryz.prog 98 #[.pointer (some ⟨gh, 0, none⟩)] w fun e w' => e = digN L ∧ Below w.heap.size w w' := by
  obtain ⟨i0, hi0, hz0, hz1, hz2⟩ := info_parts Tryz.info5
  have HN := Lib.hid hN
  have HT := Lib.hid hT
  have HG : Hid (∀ i, i < 13 → ∃ x, L[i]? = some x) := Lib.hid (fun i hi => ⟨L[i], List.getElem?_eq_getElem (by omega)⟩)
  have HS := Lib.hid (fun i x (h : L[i]? = some x) => hex_take h)
  have HK := Lib.hid (fun i x (h : L[i]? = some x) => hexOk_take h)
  have HB := Lib.hid (fun i x (h : L[i]? = some x) hk => hexOk_bad h hk)
  have HZ : Hid (hexS (L.take 0) = ⟨#[]⟩ ∧ hexOk (L.take 0) = true) := Lib.hid ⟨rfl, rfl⟩
  have HF : Hid (hexS (L.take 13) = hexS L ∧ hexOk (L.take 13) = hexOk L) := Lib.hid (by rw [← hL, List.take_length]; exact ⟨rfl, rfl⟩)
  have HLe : Hid (∀ i, (hexS (L.take i)).size ≤ 104) := Lib.hid (fun i => by have h8 := (hexS_le (L.take i)).1; rw [List.length_take] at h8; omega)
  have HPl := Lib.hid (fun x => (putHex_sz x).1)
  have HE1 := Lib.hid (digN_bad (L := L))
  have HE2 := Lib.hid (digN_ok (L := L))
  generalize digN L = E at HE1 HE2
  generalize hexS L = r at HF HE2
  generalize hexOk L = ok at HF HB HE1 HE2
  have HIx := Lib.hid (fun k hk w => idx13 gh k hk w)
  clear hN hT hL
  go_enter Tryz.func98, Tryz.ntmps98
  go_wp2_with fail
  refine (fieldsN_any gh _).mono ?_
  rintro e w1 ⟨rfl, hb⟩
  have B := Lib.hid hb
  have O0 : Hid (OwnB w1 w.heap.size (.slice none 0 0) []) := Lib.hid ⟨rfl, .inl ⟨rfl, rfl⟩⟩
  clear hb
  generalize ptrsN gh = pt at HIx ⊢
  go_wp2_with fail
  go_loopw [4, 6, 7, 8, 11] (fun v _ _ _ u wr => ∃ i : Nat, u = .int .i64 i ∧ i ≤ 13 ∧ hexOk (L.take i) = true ∧ OwnB wr w.heap.size v (hexS (L.take i)).data.toList ∧ Below w.heap.size w wr) (fun _ _ _ _ u _ => 13 - (intOf u).toNat)
  case atStart => exact ⟨0, rfl, Nat.zero_le _, HZ.out.2, by rw [HZ.out.1]; exact O0.out, B.out⟩
  case round =>
    obtain ⟨i, rfl, hi, hok, ho, hb⟩ := hrel
    clear O0 B
    have B := Lib.hid hb
    have O := Lib.hid ho
    have hszB := B.out.size
    have HOk := Lib.hid hok
    clear hb hok ho
    by_cases hlt : i < 13
    · have hlt2 : (i : Int) < 13 := by omega
      obtain ⟨x, hx⟩ := HG.out i hlt
      have HS2 := Lib.hid (HS.out i _ hx)
      have HK2 := Lib.hid (HK.out i _ hx)
      have HB2 := Lib.hid (HB.out i _ hx)
      have cN := (B.out.cell (p := ⟨gh, offn i, none⟩) hg).trans (HN.out i _ hx)
      have hIx := HIx.out i hlt
      have hle := HLe.out i
      have hpl := HPl.out x
      have HPx := Lib.hid (fun w h => putHex_impl x w h)
      clear hx HS HK HB HG HN HIx
      obtain ⟨T, hTe⟩ : ∃ T, hexS (L.take i) = T := ⟨_, rfl⟩
      rw [hTe] at HS2 hle O
      clear hTe
      generalize (putHexv x).1 = q at HS2 hpl HPx
      generalize (putHexv x).2 = b at HB2 HK2 HPx
      generalize offn i = oi at cN hIx
      go_wp2_with fail
      refine (HPx.out _ (HT.out.below B.out)).mono ?_
      rintro e w7 ⟨rfl, hb⟩
      replace O := Lib.hid (ownB_belowN O.out hb)
      replace B := Lib.hid (B.out.trans (hb.mono hszB))
      have hsz7 := B.out.size
      clear hb HPx cN hIx
      cases b with
      | false =>
        have HF2 := Lib.hid (HE1.out (HB2.out rfl))
        clear HB2 HS2 HK2 O
        go_wp2_with fail
        go_ret2
        exact ⟨by rw [HF2.out]; rfl, B.out⟩
      | true =>
        have HOk2 : Hid (hexOk (L.take (i + 1)) = true) := Lib.hid (by rw [HK2.out, HOk.out]; rfl)
        clear HB2 HK2
        have zl : T.data.toList.length = T.size := Array.length_toList
        go_wp2_with (at_builtin; refine Lib.wpList_append_own_string _ rfl _ _ 82 9 rfl w.heap.size 5 i0 Tryz.underlying82 Tryz.underlying9 hi0 hz0 hz1 hz2 _ _ _ rfl O.out q rfl ?pp ?pq ?pr ?_)
        case pp => simp only [maxLen]; omega
        case pq => omega
        case pr => omega
        intro v9 w9 hown hgrow hnil
        have O9 : OwnB w9 w.heap.size v9 (T.data.toList ++ q.data.toList) := textN (by simp <;> omega) hown
        rw [show T.data.toList ++ q.data.toList = (T ++ q).data.toList from by simp] at O9
        have O10 := Lib.hid O9
        have B9 : Hid (Below w.heap.size w w9) := Lib.hid (B.out.grown hgrow (by omega) (fun b hb => (World.ownsRow.lt O.out b hb).1))
        clear hown hgrow hnil O9 O B
        go_wp2_with fail
        go_roundw
        case rel => exact ⟨i + 1, by go_num, by omega, HOk2.out, by rw [HS2.out]; exact O10.out, B9.out⟩
        case measure => simp [intOf]; omega
    · obtain rfl : i = 13 := by omega
      have hlt2 : ¬ ((13 : Nat) : Int) < 13 := by omega
      have HR9 := HF.out.2
      rw [HOk.out] at HR9
      have HO := Lib.hid (HE2.out HR9.symm)
      have HF9 := HF.out.1
      rw [HF9] at O
      clear HR9 HF9
      have hc := O.out.conv
      rw [show (⟨r.data.toList.toArray⟩ : ByteArray) = r from by simp] at hc
      go_wp2_with fail
      go_ret2
      exact ⟨by rw [HO.out]; rfl, B.out⟩
end Go.Proofs.YtcnmbolmgifgfabGreatDoor
