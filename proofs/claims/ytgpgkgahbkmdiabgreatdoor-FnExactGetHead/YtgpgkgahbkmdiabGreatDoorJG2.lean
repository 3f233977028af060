/- Texts joined: GetHdI, NumS, RegTail, ReadS. -/
import Derived.Test.YtgpgkgahbkmdiabGreatDoorEntAt
import Derived.BigRegion
import Derived.Test.YtgpgkgahbkmdiabGreatDoorHeadSum
import Derived.Maps.AppendAt
import Derived.Deep.RegionHeld3
import Derived.Test.YtgpgkgahbkmdiabGreatDoorJG1
/- Contract of impl.GetHead. -/
namespace Go.Proofs.YtgpgkgahbkmdiabGreatDoor
open Go.ChangeShapes Go.WideShapes Go.ChangeAt Go.RowKit

def zEnt : Array Value := #[.int .i64 0, .string ⟨#[]⟩, .string ⟨#[]⟩, .int .i64 0, .int .i64 0, .int .i64 0, .int .i64 0, .string ⟨#[]⟩, .string ⟨#[]⟩, .string ⟨#[]⟩]
/-- The code of a header. -/
def hdc (s : ByteArray) : Int := if s.size < 512 then 1 else if sumOkv s = false then 2 else if headOk (lOf s) = false then 3 else if againOk (lOf s) = true then 0 else 4
theorem readV_code (s : ByteArray) : (hdc s = 0 ∧ readV s = .tuple #[.agg (okCells (lOf s)), .nilIface]) ∨ (¬ hdc s = 0 ∧ readV s = badHd (hdc s)) := by
  unfold hdc readV
  split
  · exact .inr ⟨by omega, rfl⟩
  · split
    · exact .inr ⟨by omega, rfl⟩
    · split
      · exact .inr ⟨by omega, rfl⟩
      · split
        · exact .inl ⟨rfl, rfl⟩
        · exact .inr ⟨by omega, rfl⟩
def getV (s : ByteArray) : Value := if hdc s = 0 then .tuple #[.agg (entL (lOf s)).cells.toArray, .string (fW (lOf s) 7), .int .i64 (fnumv (fW (lOf s) 4)), .int .i64 0] else .tuple #[.agg zEnt, .string ⟨#[]⟩, .int .i64 0, .int .i64 (hdc s)]
theorem results_cell4 {P : Program} {fn : Func} {p u1 u2 u3 : Tmp} {ty : TypeId} (h : fn.results = #[.cell p ty, .tmp u1, .tmp u2, .tmp u3]) (tmps : Array Value) (w : World) (g : Nat) (t : TypeId) (cs : Array Value) (fr : Nat × Nat) (d : TypeDesc)
    (hp : tmps.getD p undef = .pointer (some ⟨g, 0, none⟩)) (hg : w.heap[g]? = some (.cells cs t fr))
    (hu : P.underlying ty = some d) (hd : (match d with | .struct _ | .array _ _ => true | _ => false) = true) (hi : (P.info? ty).map (·.size) = some cs.size) :
    (results fn tmps).run P w = .ok (.tuple #[.agg cs, tmps.getD u1 undef, tmps.getD u2 undef, tmps.getD u3 undef]) w := by
  have hp' : tmps[p]?.getD undef = .pointer (some ⟨g, 0, none⟩) := by simpa using hp
  simp [results, h, hp', asAddr, run_loadVar_row w g t ty cs fr d hg hu hd hi]
theorem Tryz.sizeEnt : (Tryz.prog.info? 23).map (·.size) = some 10 := by kernel_rfl

set_option maxHeartbeats 6400000 in
set_option maxRecDepth 8000 in
theorem getHead_bad (s : ByteArray) (w : World) (hs : s.size ≤ 1048576) (hc : ¬ hdc s = 0) (hT : Tabs w) (hF : FW w) (hH : Handle w) :
    Calls Tryz.prog 9 #[.string s] w fun e w' => e = .returned (getV s) ∧ Below w.heap.size w w' := by
  have H1 := Lib.hid (fun w hT hF => readHead_any s w hs hT hF)
  rw [((readV_code s).resolve_left (fun h => hc h.1)).2, badHd] at H1
  have HE : Hid (getV s = .tuple #[.agg zEnt, .string ⟨#[]⟩, .int .i64 0, .int .i64 (hdc s)]) := Lib.hid (by rw [getV, if_neg hc])
  have HCo := Lib.hid (fun w h => codeOf_err (hdc s) w h)
  generalize hdc s = cd at *
  clear hc
  have B0 := Lib.hid ((Below.refl w.heap.size w).alloc (Nat.le_refl _) (.cells zEnt 23))
  have R0 : Hid ((w.alloc (.cells zEnt 23)).heap[w.heap.size]? = some (.cells zEnt 23 (0, 0))) := Lib.hid (heap_alloc_last _ _)
  have HT0 := Lib.hid (hT.below B0.out)
  have HF0 := Lib.hid (hF.below B0.out)
  have HH := Lib.hid hH
  clear hT hF hH
  go_enter Tryz.func9, Tryz.ntmps9
  go_wp2_with fail
  refine (H1.out _ HT0.out HF0.out).mono ?_
  rintro e w1 ⟨rfl, hb1⟩
  have RO1 := Lib.hid ((hb1.block w.heap.size (by simp)).trans R0.out)
  have B1 := Lib.hid (B0.out.trans (hb1.mono (by simp)))
  clear hb1 R0 B0 H1 HT0 HF0
  have zR1 := obj_lt RO1.out
  have HSn := Lib.hid (run_storeVar_new (P := Tryz.prog) w1 37 zHead zHead (by rw [Tryz.sizeHd]; rfl) rfl (by simp [zHead, Value.oneCell']))
  go_wp2_with ((with_reducible refine wpList_store_eq rfl 37 _ _ rfl ⟨w1.heap.size, 0, none⟩ ?_ ?_ HSn.out ?_); rfl; rfl)
  have OB := heap_alloc_last w1 (.cells zHead 37)
  have BX := (Below.refl w1.heap.size w1).alloc (Nat.le_refl _) (.cells zHead 37)
  generalize w1.alloc (.cells zHead 37) = w4 at *
  have OB' := Lib.hid OB
  have RO4 := Lib.hid ((BX.block _ (obj_lt RO1.out)).trans RO1.out)
  have B4 := Lib.hid (B1.out.trans (BX.mono B1.out.size))
  clear OB BX RO1 B1 HSn
  have zR4 := obj_lt RO4.out
  have KC : Hid (∀ w' : World, w'.heap[w1.heap.size]? = some (.cells zHead 37 (0, 0)) → w'.cell? ⟨w1.heap.size, 0, none⟩ = some (.int .i64 0) ∧ w'.cell? ⟨w1.heap.size, 1, none⟩ = some (.string ⟨#[]⟩) ∧ w'.cell? ⟨w1.heap.size, 2, none⟩ = some (.string ⟨#[]⟩) ∧ w'.cell? ⟨w1.heap.size, 3, none⟩ = some (.int .i64 0) ∧ w'.cell? ⟨w1.heap.size, 4, none⟩ = some (.int .i64 0) ∧ w'.cell? ⟨w1.heap.size, 5, none⟩ = some (.int .i64 0) ∧ w'.cell? ⟨w1.heap.size, 6, none⟩ = some (.int .i64 0) ∧ w'.cell? ⟨w1.heap.size, 7, none⟩ = some (.string ⟨#[]⟩) ∧ w'.cell? ⟨w1.heap.size, 8, none⟩ = some (.string ⟨#[]⟩) ∧ w'.cell? ⟨w1.heap.size, 9, none⟩ = some (.string ⟨#[]⟩) ∧ w'.cell? ⟨w1.heap.size, 10, none⟩ = some (.string ⟨#[]⟩) ∧ w'.cell? ⟨w1.heap.size, 11, none⟩ = some (.int .i64 0)) := Lib.hid (fun w' h1 => by
    refine ⟨?_, ?_, ?_, ?_, ?_, ?_, ?_, ?_, ?_, ?_, ?_, ?_⟩
    all_goals (rw [cell_of_row _ _ _ _ _ _ h1]; rfl))
  have zRH : w.heap.size < w1.heap.size := zR1
  refine wp_region_u (by kernel_rfl) (fun w' => Below w.heap.size w w' ∧ w'.heap[w1.heap.size]? = some (.cells zHead 37 (0, 0)) ∧ (w'.heap[w.heap.size]? = some (.cells zEnt 23 (0, 0)) ∨ w'.heap[w.heap.size]? = some (.cells #[.int .i64 0, .string ⟨#[]⟩, .string ⟨#[]⟩, .int .i64 0, .int .i64 0, .int .i64 0, .int .i64 0, .string ⟨#[]⟩, .string ⟨#[]⟩, .string ⟨#[]⟩] 23 (0, 0)))) (fun x y => y.heap[w.heap.size]? = x.heap[w.heap.size]? ∨ y.heap[w.heap.size]? = some (.cells #[.int .i64 0, .string ⟨#[]⟩, .string ⟨#[]⟩, .int .i64 0, .int .i64 0, .int .i64 0, .int .i64 0, .string ⟨#[]⟩, .string ⟨#[]⟩, .string ⟨#[]⟩] 23 (0, 0))) (fun d v _ => match d with | 13 => v = .pointer (some ⟨w1.heap.size, 0, none⟩) | 14 => v = .agg #[.int .i64 0, .string ⟨#[]⟩, .string ⟨#[]⟩, .int .i64 0, .int .i64 0, .int .i64 0, .int .i64 0, .string ⟨#[]⟩, .string ⟨#[]⟩, .string ⟨#[]⟩] | 15 => v = .pointer (some ⟨w1.heap.size, 10, none⟩) | 16 => v = .string ⟨#[]⟩ | 17 => v = .pointer (some ⟨w1.heap.size, 11, none⟩) | 18 => v = .int .i64 0 | 19 => v = .iface 81 (.agg #[.int .i64 cd]) | 20 => v = .int .i64 cd | 3 => v = .string ⟨#[]⟩ | 4 => v = .int .i64 0 | 5 => v = .int .i64 cd | _ => True) (fun o w' => o.dst = none → w'.heap[w.heap.size]? = some (.cells #[.int .i64 0, .string ⟨#[]⟩, .string ⟨#[]⟩, .int .i64 0, .int .i64 0, .int .i64 0, .int .i64 0, .string ⟨#[]⟩, .string ⟨#[]⟩, .string ⟨#[]⟩] 23 (0, 0))) (by kernel_rfl) ⟨B4.out.drew, OB'.out, .inl RO4.out⟩ (fun _ _ _ _ _ _ h => h) (fun _ _ _ _ hs hu hd => Or.elim hs (fun h => h.trans (hu hd)) (fun h => h)) ?hops ?hend
  case hops =>
    simp only [List.forall_mem_cons]
    refine ⟨?o13, ?o14, ?o15, ?o16, ?o17, ?o18, ?o19, ?o20, ?os8, ?o3, ?o4, ?o5, fun _ h => by cases h⟩
    case o13 =>
      intro Q a w2 hC hV hI
      have e6 : a.eval (.tmp 6) = .pointer (some ⟨w1.heap.size, 0, none⟩) := (hI 6 (by simp [Op.operands]) (by kernel_rfl)).trans rfl
      have f6 : a.tmps.getD 6 undef = .pointer (some ⟨w1.heap.size, 0, none⟩) := e6
      have g6 : a.tmps[6]?.getD undef = .pointer (some ⟨w1.heap.size, 0, none⟩) := by rw [← Array.getD_eq_getD_getElem?]; exact e6
      refine opU_val (C := fun w' => Below w.heap.size w w' ∧ w'.heap[w1.heap.size]? = some (.cells zHead 37 (0, 0)) ∧ (w'.heap[w.heap.size]? = some (.cells zEnt 23 (0, 0)) ∨ w'.heap[w.heap.size]? = some (.cells #[.int .i64 0, .string ⟨#[]⟩, .string ⟨#[]⟩, .int .i64 0, .int .i64 0, .int .i64 0, .int .i64 0, .string ⟨#[]⟩, .string ⟨#[]⟩, .string ⟨#[]⟩] 23 (0, 0)))) (St := fun x y => y.heap[w.heap.size]? = x.heap[w.heap.size]? ∨ y.heap[w.heap.size]? = some (.cells #[.int .i64 0, .string ⟨#[]⟩, .string ⟨#[]⟩, .int .i64 0, .int .i64 0, .int .i64 0, .int .i64 0, .string ⟨#[]⟩, .string ⟨#[]⟩, .string ⟨#[]⟩] 23 (0, 0))) (V := fun d v _ => match d with | 13 => v = .pointer (some ⟨w1.heap.size, 0, none⟩) | 14 => v = .agg #[.int .i64 0, .string ⟨#[]⟩, .string ⟨#[]⟩, .int .i64 0, .int .i64 0, .int .i64 0, .int .i64 0, .string ⟨#[]⟩, .string ⟨#[]⟩, .string ⟨#[]⟩] | 15 => v = .pointer (some ⟨w1.heap.size, 10, none⟩) | 16 => v = .string ⟨#[]⟩ | 17 => v = .pointer (some ⟨w1.heap.size, 11, none⟩) | 18 => v = .int .i64 0 | 19 => v = .iface 81 (.agg #[.int .i64 cd]) | 20 => v = .int .i64 cd | 3 => v = .string ⟨#[]⟩ | 4 => v = .int .i64 0 | 5 => v = .int .i64 cd | _ => True) (U := fun o w' => o.dst = none → w'.heap[w.heap.size]? = some (.cells #[.int .i64 0, .string ⟨#[]⟩, .string ⟨#[]⟩, .int .i64 0, .int .i64 0, .int .i64 0, .int .i64 0, .string ⟨#[]⟩, .string ⟨#[]⟩, .string ⟨#[]⟩] 23 (0, 0))) (w' := w2) (.pointer (some ⟨w1.heap.size, 0, none⟩)) ?_ ?_ ?_ ?_ ?_
      · (clear hV hI hC; go_simp <;> (first | rfl | simp))
      · exact hC
      · exact Or.inl rfl
      · intro d hd; cases hd; rfl
      · intro h; cases h
    case o14 =>
      intro Q a w2 hC hV hI
      have e13 : a.eval (.tmp 13) = .pointer (some ⟨w1.heap.size, 0, none⟩) := hV 13 (by simp [Op.operands]) (by kernel_rfl)
      have f13 : a.tmps.getD 13 undef = .pointer (some ⟨w1.heap.size, 0, none⟩) := e13
      have g13 : a.tmps[13]?.getD undef = .pointer (some ⟨w1.heap.size, 0, none⟩) := by rw [← Array.getD_eq_getD_getElem?]; exact e13
      have hK := KC.out w2 hC.2.1
      refine opU_val (C := fun w' => Below w.heap.size w w' ∧ w'.heap[w1.heap.size]? = some (.cells zHead 37 (0, 0)) ∧ (w'.heap[w.heap.size]? = some (.cells zEnt 23 (0, 0)) ∨ w'.heap[w.heap.size]? = some (.cells #[.int .i64 0, .string ⟨#[]⟩, .string ⟨#[]⟩, .int .i64 0, .int .i64 0, .int .i64 0, .int .i64 0, .string ⟨#[]⟩, .string ⟨#[]⟩, .string ⟨#[]⟩] 23 (0, 0)))) (St := fun x y => y.heap[w.heap.size]? = x.heap[w.heap.size]? ∨ y.heap[w.heap.size]? = some (.cells #[.int .i64 0, .string ⟨#[]⟩, .string ⟨#[]⟩, .int .i64 0, .int .i64 0, .int .i64 0, .int .i64 0, .string ⟨#[]⟩, .string ⟨#[]⟩, .string ⟨#[]⟩] 23 (0, 0))) (V := fun d v _ => match d with | 13 => v = .pointer (some ⟨w1.heap.size, 0, none⟩) | 14 => v = .agg #[.int .i64 0, .string ⟨#[]⟩, .string ⟨#[]⟩, .int .i64 0, .int .i64 0, .int .i64 0, .int .i64 0, .string ⟨#[]⟩, .string ⟨#[]⟩, .string ⟨#[]⟩] | 15 => v = .pointer (some ⟨w1.heap.size, 10, none⟩) | 16 => v = .string ⟨#[]⟩ | 17 => v = .pointer (some ⟨w1.heap.size, 11, none⟩) | 18 => v = .int .i64 0 | 19 => v = .iface 81 (.agg #[.int .i64 cd]) | 20 => v = .int .i64 cd | 3 => v = .string ⟨#[]⟩ | 4 => v = .int .i64 0 | 5 => v = .int .i64 cd | _ => True) (U := fun o w' => o.dst = none → w'.heap[w.heap.size]? = some (.cells #[.int .i64 0, .string ⟨#[]⟩, .string ⟨#[]⟩, .int .i64 0, .int .i64 0, .int .i64 0, .int .i64 0, .string ⟨#[]⟩, .string ⟨#[]⟩, .string ⟨#[]⟩] 23 (0, 0))) (w' := w2) (.agg #[.int .i64 0, .string ⟨#[]⟩, .string ⟨#[]⟩, .int .i64 0, .int .i64 0, .int .i64 0, .int .i64 0, .string ⟨#[]⟩, .string ⟨#[]⟩, .string ⟨#[]⟩]) ?_ ?_ ?_ ?_ ?_
      · (clear hV hI hC; go_simp <;> (first | rfl | simp))
      · exact hC
      · exact Or.inl rfl
      · intro d hd; cases hd; rfl
      · intro h; cases h
    case o15 =>
      intro Q a w2 hC hV hI
      have e6 : a.eval (.tmp 6) = .pointer (some ⟨w1.heap.size, 0, none⟩) := (hI 6 (by simp [Op.operands]) (by kernel_rfl)).trans rfl
      have f6 : a.tmps.getD 6 undef = .pointer (some ⟨w1.heap.size, 0, none⟩) := e6
      have g6 : a.tmps[6]?.getD undef = .pointer (some ⟨w1.heap.size, 0, none⟩) := by rw [← Array.getD_eq_getD_getElem?]; exact e6
      refine opU_val (C := fun w' => Below w.heap.size w w' ∧ w'.heap[w1.heap.size]? = some (.cells zHead 37 (0, 0)) ∧ (w'.heap[w.heap.size]? = some (.cells zEnt 23 (0, 0)) ∨ w'.heap[w.heap.size]? = some (.cells #[.int .i64 0, .string ⟨#[]⟩, .string ⟨#[]⟩, .int .i64 0, .int .i64 0, .int .i64 0, .int .i64 0, .string ⟨#[]⟩, .string ⟨#[]⟩, .string ⟨#[]⟩] 23 (0, 0)))) (St := fun x y => y.heap[w.heap.size]? = x.heap[w.heap.size]? ∨ y.heap[w.heap.size]? = some (.cells #[.int .i64 0, .string ⟨#[]⟩, .string ⟨#[]⟩, .int .i64 0, .int .i64 0, .int .i64 0, .int .i64 0, .string ⟨#[]⟩, .string ⟨#[]⟩, .string ⟨#[]⟩] 23 (0, 0))) (V := fun d v _ => match d with | 13 => v = .pointer (some ⟨w1.heap.size, 0, none⟩) | 14 => v = .agg #[.int .i64 0, .string ⟨#[]⟩, .string ⟨#[]⟩, .int .i64 0, .int .i64 0, .int .i64 0, .int .i64 0, .string ⟨#[]⟩, .string ⟨#[]⟩, .string ⟨#[]⟩] | 15 => v = .pointer (some ⟨w1.heap.size, 10, none⟩) | 16 => v = .string ⟨#[]⟩ | 17 => v = .pointer (some ⟨w1.heap.size, 11, none⟩) | 18 => v = .int .i64 0 | 19 => v = .iface 81 (.agg #[.int .i64 cd]) | 20 => v = .int .i64 cd | 3 => v = .string ⟨#[]⟩ | 4 => v = .int .i64 0 | 5 => v = .int .i64 cd | _ => True) (U := fun o w' => o.dst = none → w'.heap[w.heap.size]? = some (.cells #[.int .i64 0, .string ⟨#[]⟩, .string ⟨#[]⟩, .int .i64 0, .int .i64 0, .int .i64 0, .int .i64 0, .string ⟨#[]⟩, .string ⟨#[]⟩, .string ⟨#[]⟩] 23 (0, 0))) (w' := w2) (.pointer (some ⟨w1.heap.size, 10, none⟩)) ?_ ?_ ?_ ?_ ?_
      · (clear hV hI hC; go_simp <;> (first | rfl | simp))
      · exact hC
      · exact Or.inl rfl
      · intro d hd; cases hd; rfl
      · intro h; cases h
    case o16 =>
      intro Q a w2 hC hV hI
      have e15 : a.eval (.tmp 15) = .pointer (some ⟨w1.heap.size, 10, none⟩) := hV 15 (by simp [Op.operands]) (by kernel_rfl)
      have f15 : a.tmps.getD 15 undef = .pointer (some ⟨w1.heap.size, 10, none⟩) := e15
      have g15 : a.tmps[15]?.getD undef = .pointer (some ⟨w1.heap.size, 10, none⟩) := by rw [← Array.getD_eq_getD_getElem?]; exact e15
      have hK := KC.out w2 hC.2.1
      refine opU_val (C := fun w' => Below w.heap.size w w' ∧ w'.heap[w1.heap.size]? = some (.cells zHead 37 (0, 0)) ∧ (w'.heap[w.heap.size]? = some (.cells zEnt 23 (0, 0)) ∨ w'.heap[w.heap.size]? = some (.cells #[.int .i64 0, .string ⟨#[]⟩, .string ⟨#[]⟩, .int .i64 0, .int .i64 0, .int .i64 0, .int .i64 0, .string ⟨#[]⟩, .string ⟨#[]⟩, .string ⟨#[]⟩] 23 (0, 0)))) (St := fun x y => y.heap[w.heap.size]? = x.heap[w.heap.size]? ∨ y.heap[w.heap.size]? = some (.cells #[.int .i64 0, .string ⟨#[]⟩, .string ⟨#[]⟩, .int .i64 0, .int .i64 0, .int .i64 0, .int .i64 0, .string ⟨#[]⟩, .string ⟨#[]⟩, .string ⟨#[]⟩] 23 (0, 0))) (V := fun d v _ => match d with | 13 => v = .pointer (some ⟨w1.heap.size, 0, none⟩) | 14 => v = .agg #[.int .i64 0, .string ⟨#[]⟩, .string ⟨#[]⟩, .int .i64 0, .int .i64 0, .int .i64 0, .int .i64 0, .string ⟨#[]⟩, .string ⟨#[]⟩, .string ⟨#[]⟩] | 15 => v = .pointer (some ⟨w1.heap.size, 10, none⟩) | 16 => v = .string ⟨#[]⟩ | 17 => v = .pointer (some ⟨w1.heap.size, 11, none⟩) | 18 => v = .int .i64 0 | 19 => v = .iface 81 (.agg #[.int .i64 cd]) | 20 => v = .int .i64 cd | 3 => v = .string ⟨#[]⟩ | 4 => v = .int .i64 0 | 5 => v = .int .i64 cd | _ => True) (U := fun o w' => o.dst = none → w'.heap[w.heap.size]? = some (.cells #[.int .i64 0, .string ⟨#[]⟩, .string ⟨#[]⟩, .int .i64 0, .int .i64 0, .int .i64 0, .int .i64 0, .string ⟨#[]⟩, .string ⟨#[]⟩, .string ⟨#[]⟩] 23 (0, 0))) (w' := w2) (.string ⟨#[]⟩) ?_ ?_ ?_ ?_ ?_
      · (clear hV hI hC; go_simp <;> (first | rfl | simp))
      · exact hC
      · exact Or.inl rfl
      · intro d hd; cases hd; rfl
      · intro h; cases h
    case o17 =>
      intro Q a w2 hC hV hI
      have e6 : a.eval (.tmp 6) = .pointer (some ⟨w1.heap.size, 0, none⟩) := (hI 6 (by simp [Op.operands]) (by kernel_rfl)).trans rfl
      have f6 : a.tmps.getD 6 undef = .pointer (some ⟨w1.heap.size, 0, none⟩) := e6
      have g6 : a.tmps[6]?.getD undef = .pointer (some ⟨w1.heap.size, 0, none⟩) := by rw [← Array.getD_eq_getD_getElem?]; exact e6
      refine opU_val (C := fun w' => Below w.heap.size w w' ∧ w'.heap[w1.heap.size]? = some (.cells zHead 37 (0, 0)) ∧ (w'.heap[w.heap.size]? = some (.cells zEnt 23 (0, 0)) ∨ w'.heap[w.heap.size]? = some (.cells #[.int .i64 0, .string ⟨#[]⟩, .string ⟨#[]⟩, .int .i64 0, .int .i64 0, .int .i64 0, .int .i64 0, .string ⟨#[]⟩, .string ⟨#[]⟩, .string ⟨#[]⟩] 23 (0, 0)))) (St := fun x y => y.heap[w.heap.size]? = x.heap[w.heap.size]? ∨ y.heap[w.heap.size]? = some (.cells #[.int .i64 0, .string ⟨#[]⟩, .string ⟨#[]⟩, .int .i64 0, .int .i64 0, .int .i64 0, .int .i64 0, .string ⟨#[]⟩, .string ⟨#[]⟩, .string ⟨#[]⟩] 23 (0, 0))) (V := fun d v _ => match d with | 13 => v = .pointer (some ⟨w1.heap.size, 0, none⟩) | 14 => v = .agg #[.int .i64 0, .string ⟨#[]⟩, .string ⟨#[]⟩, .int .i64 0, .int .i64 0, .int .i64 0, .int .i64 0, .string ⟨#[]⟩, .string ⟨#[]⟩, .string ⟨#[]⟩] | 15 => v = .pointer (some ⟨w1.heap.size, 10, none⟩) | 16 => v = .string ⟨#[]⟩ | 17 => v = .pointer (some ⟨w1.heap.size, 11, none⟩) | 18 => v = .int .i64 0 | 19 => v = .iface 81 (.agg #[.int .i64 cd]) | 20 => v = .int .i64 cd | 3 => v = .string ⟨#[]⟩ | 4 => v = .int .i64 0 | 5 => v = .int .i64 cd | _ => True) (U := fun o w' => o.dst = none → w'.heap[w.heap.size]? = some (.cells #[.int .i64 0, .string ⟨#[]⟩, .string ⟨#[]⟩, .int .i64 0, .int .i64 0, .int .i64 0, .int .i64 0, .string ⟨#[]⟩, .string ⟨#[]⟩, .string ⟨#[]⟩] 23 (0, 0))) (w' := w2) (.pointer (some ⟨w1.heap.size, 11, none⟩)) ?_ ?_ ?_ ?_ ?_
      · (clear hV hI hC; go_simp <;> (first | rfl | simp))
      · exact hC
      · exact Or.inl rfl
      · intro d hd; cases hd; rfl
      · intro h; cases h
    case o18 =>
      intro Q a w2 hC hV hI
      have e17 : a.eval (.tmp 17) = .pointer (some ⟨w1.heap.size, 11, none⟩) := hV 17 (by simp [Op.operands]) (by kernel_rfl)
      have f17 : a.tmps.getD 17 undef = .pointer (some ⟨w1.heap.size, 11, none⟩) := e17
      have g17 : a.tmps[17]?.getD undef = .pointer (some ⟨w1.heap.size, 11, none⟩) := by rw [← Array.getD_eq_getD_getElem?]; exact e17
      have hK := KC.out w2 hC.2.1
      refine opU_val (C := fun w' => Below w.heap.size w w' ∧ w'.heap[w1.heap.size]? = some (.cells zHead 37 (0, 0)) ∧ (w'.heap[w.heap.size]? = some (.cells zEnt 23 (0, 0)) ∨ w'.heap[w.heap.size]? = some (.cells #[.int .i64 0, .string ⟨#[]⟩, .string ⟨#[]⟩, .int .i64 0, .int .i64 0, .int .i64 0, .int .i64 0, .string ⟨#[]⟩, .string ⟨#[]⟩, .string ⟨#[]⟩] 23 (0, 0)))) (St := fun x y => y.heap[w.heap.size]? = x.heap[w.heap.size]? ∨ y.heap[w.heap.size]? = some (.cells #[.int .i64 0, .string ⟨#[]⟩, .string ⟨#[]⟩, .int .i64 0, .int .i64 0, .int .i64 0, .int .i64 0, .string ⟨#[]⟩, .string ⟨#[]⟩, .string ⟨#[]⟩] 23 (0, 0))) (V := fun d v _ => match d with | 13 => v = .pointer (some ⟨w1.heap.size, 0, none⟩) | 14 => v = .agg #[.int .i64 0, .string ⟨#[]⟩, .string ⟨#[]⟩, .int .i64 0, .int .i64 0, .int .i64 0, .int .i64 0, .string ⟨#[]⟩, .string ⟨#[]⟩, .string ⟨#[]⟩] | 15 => v = .pointer (some ⟨w1.heap.size, 10, none⟩) | 16 => v = .string ⟨#[]⟩ | 17 => v = .pointer (some ⟨w1.heap.size, 11, none⟩) | 18 => v = .int .i64 0 | 19 => v = .iface 81 (.agg #[.int .i64 cd]) | 20 => v = .int .i64 cd | 3 => v = .string ⟨#[]⟩ | 4 => v = .int .i64 0 | 5 => v = .int .i64 cd | _ => True) (U := fun o w' => o.dst = none → w'.heap[w.heap.size]? = some (.cells #[.int .i64 0, .string ⟨#[]⟩, .string ⟨#[]⟩, .int .i64 0, .int .i64 0, .int .i64 0, .int .i64 0, .string ⟨#[]⟩, .string ⟨#[]⟩, .string ⟨#[]⟩] 23 (0, 0))) (w' := w2) (.int .i64 0) ?_ ?_ ?_ ?_ ?_
      · (clear hV hI hC; go_simp <;> (first | rfl | simp))
      · exact hC
      · exact Or.inl rfl
      · intro d hd; cases hd; rfl
      · intro h; cases h
    case o19 =>
      intro Q a w2 hC hV hI
      have e7 : a.eval (.tmp 7) = .iface 81 (.agg #[.int .i64 cd]) := (hI 7 (by simp [Op.operands]) (by kernel_rfl)).trans rfl
      have f7 : a.tmps.getD 7 undef = .iface 81 (.agg #[.int .i64 cd]) := e7
      have g7 : a.tmps[7]?.getD undef = .iface 81 (.agg #[.int .i64 cd]) := by rw [← Array.getD_eq_getD_getElem?]; exact e7
      refine opU_val (C := fun w' => Below w.heap.size w w' ∧ w'.heap[w1.heap.size]? = some (.cells zHead 37 (0, 0)) ∧ (w'.heap[w.heap.size]? = some (.cells zEnt 23 (0, 0)) ∨ w'.heap[w.heap.size]? = some (.cells #[.int .i64 0, .string ⟨#[]⟩, .string ⟨#[]⟩, .int .i64 0, .int .i64 0, .int .i64 0, .int .i64 0, .string ⟨#[]⟩, .string ⟨#[]⟩, .string ⟨#[]⟩] 23 (0, 0)))) (St := fun x y => y.heap[w.heap.size]? = x.heap[w.heap.size]? ∨ y.heap[w.heap.size]? = some (.cells #[.int .i64 0, .string ⟨#[]⟩, .string ⟨#[]⟩, .int .i64 0, .int .i64 0, .int .i64 0, .int .i64 0, .string ⟨#[]⟩, .string ⟨#[]⟩, .string ⟨#[]⟩] 23 (0, 0))) (V := fun d v _ => match d with | 13 => v = .pointer (some ⟨w1.heap.size, 0, none⟩) | 14 => v = .agg #[.int .i64 0, .string ⟨#[]⟩, .string ⟨#[]⟩, .int .i64 0, .int .i64 0, .int .i64 0, .int .i64 0, .string ⟨#[]⟩, .string ⟨#[]⟩, .string ⟨#[]⟩] | 15 => v = .pointer (some ⟨w1.heap.size, 10, none⟩) | 16 => v = .string ⟨#[]⟩ | 17 => v = .pointer (some ⟨w1.heap.size, 11, none⟩) | 18 => v = .int .i64 0 | 19 => v = .iface 81 (.agg #[.int .i64 cd]) | 20 => v = .int .i64 cd | 3 => v = .string ⟨#[]⟩ | 4 => v = .int .i64 0 | 5 => v = .int .i64 cd | _ => True) (U := fun o w' => o.dst = none → w'.heap[w.heap.size]? = some (.cells #[.int .i64 0, .string ⟨#[]⟩, .string ⟨#[]⟩, .int .i64 0, .int .i64 0, .int .i64 0, .int .i64 0, .string ⟨#[]⟩, .string ⟨#[]⟩, .string ⟨#[]⟩] 23 (0, 0))) (w' := w2) (.iface 81 (.agg #[.int .i64 cd])) ?_ ?_ ?_ ?_ ?_
      · (clear hV hI hC; go_simp <;> (first | rfl | simp))
      · exact hC
      · exact Or.inl rfl
      · intro d hd; cases hd; rfl
      · intro h; cases h
    case o20 =>
      intro Q a w2 hC hV hI
      have e19 : a.eval (.tmp 19) = .iface 81 (.agg #[.int .i64 cd]) := hV 19 (by simp [Op.operands, Call.operands]) (by kernel_rfl)
      have f19 : a.tmps.getD 19 undef = .iface 81 (.agg #[.int .i64 cd]) := e19
      have g19 : a.tmps[19]?.getD undef = .iface 81 (.agg #[.int .i64 cd]) := by rw [← Array.getD_eq_getD_getElem?]; exact e19
      refine opU_call (C := fun w' => Below w.heap.size w w' ∧ w'.heap[w1.heap.size]? = some (.cells zHead 37 (0, 0)) ∧ (w'.heap[w.heap.size]? = some (.cells zEnt 23 (0, 0)) ∨ w'.heap[w.heap.size]? = some (.cells #[.int .i64 0, .string ⟨#[]⟩, .string ⟨#[]⟩, .int .i64 0, .int .i64 0, .int .i64 0, .int .i64 0, .string ⟨#[]⟩, .string ⟨#[]⟩, .string ⟨#[]⟩] 23 (0, 0)))) (St := fun x y => y.heap[w.heap.size]? = x.heap[w.heap.size]? ∨ y.heap[w.heap.size]? = some (.cells #[.int .i64 0, .string ⟨#[]⟩, .string ⟨#[]⟩, .int .i64 0, .int .i64 0, .int .i64 0, .int .i64 0, .string ⟨#[]⟩, .string ⟨#[]⟩, .string ⟨#[]⟩] 23 (0, 0))) (V := fun d v _ => match d with | 13 => v = .pointer (some ⟨w1.heap.size, 0, none⟩) | 14 => v = .agg #[.int .i64 0, .string ⟨#[]⟩, .string ⟨#[]⟩, .int .i64 0, .int .i64 0, .int .i64 0, .int .i64 0, .string ⟨#[]⟩, .string ⟨#[]⟩, .string ⟨#[]⟩] | 15 => v = .pointer (some ⟨w1.heap.size, 10, none⟩) | 16 => v = .string ⟨#[]⟩ | 17 => v = .pointer (some ⟨w1.heap.size, 11, none⟩) | 18 => v = .int .i64 0 | 19 => v = .iface 81 (.agg #[.int .i64 cd]) | 20 => v = .int .i64 cd | 3 => v = .string ⟨#[]⟩ | 4 => v = .int .i64 0 | 5 => v = .int .i64 cd | _ => True) (U := fun o w' => o.dst = none → w'.heap[w.heap.size]? = some (.cells #[.int .i64 0, .string ⟨#[]⟩, .string ⟨#[]⟩, .int .i64 0, .int .i64 0, .int .i64 0, .int .i64 0, .string ⟨#[]⟩, .string ⟨#[]⟩, .string ⟨#[]⟩] 23 (0, 0))) (f := 26) (args := #[.iface 81 (.agg #[.int .i64 cd])]) (R := fun v y => v = .int .i64 cd ∧ Below w2.heap.size w2 y) ?_ ((HCo.out w2 (HH.out.below hC.1)).mono ?_) ?_
      · (clear hV hI hC; go_simp <;> (first | rfl | simp))
      · rintro e y ⟨rfl, hb⟩; exact ⟨_, rfl, rfl, hb⟩
      · rintro v y ⟨rfl, hb⟩; exact ⟨⟨hC.1.trans (hb.mono hC.1.size), (hb.block _ (obj_lt hC.2.1)).trans hC.2.1, hC.2.2.imp (fun h => (hb.block _ (obj_lt h)).trans h) (fun h => (hb.block _ (obj_lt h)).trans h)⟩, .inl (hb.block _ (Nat.lt_trans zRH (obj_lt hC.2.1))), (by intro d hd; cases hd; rfl), fun h => (by cases h)⟩
    case os8 =>
      intro Q a w2 hC hV hI
      have e2 : a.eval (.tmp 2) = .pointer (some ⟨w.heap.size, 0, none⟩) := (hI 2 (by simp [Op.operands]) (by kernel_rfl)).trans rfl
      have f2 : a.tmps.getD 2 undef = .pointer (some ⟨w.heap.size, 0, none⟩) := e2
      have g2 : a.tmps[2]?.getD undef = .pointer (some ⟨w.heap.size, 0, none⟩) := by rw [← Array.getD_eq_getD_getElem?]; exact e2
      have e14 : a.eval (.tmp 14) = .agg #[.int .i64 0, .string ⟨#[]⟩, .string ⟨#[]⟩, .int .i64 0, .int .i64 0, .int .i64 0, .int .i64 0, .string ⟨#[]⟩, .string ⟨#[]⟩, .string ⟨#[]⟩] := hV 14 (by simp [Op.operands]) (by kernel_rfl)
      have f14 : a.tmps.getD 14 undef = .agg #[.int .i64 0, .string ⟨#[]⟩, .string ⟨#[]⟩, .int .i64 0, .int .i64 0, .int .i64 0, .int .i64 0, .string ⟨#[]⟩, .string ⟨#[]⟩, .string ⟨#[]⟩] := e14
      have g14 : a.tmps[14]?.getD undef = .agg #[.int .i64 0, .string ⟨#[]⟩, .string ⟨#[]⟩, .int .i64 0, .int .i64 0, .int .i64 0, .int .i64 0, .string ⟨#[]⟩, .string ⟨#[]⟩, .string ⟨#[]⟩] := by rw [← Array.getD_eq_getD_getElem?]; exact e14
      have hS : ∀ cs : Array Value, cs.size = 10 → w2.heap[w.heap.size]? = some (.cells cs 23 (0, 0)) → _ := fun cs hc hR => run_storeVar_row (P := Tryz.prog) w2 w.heap.size 23 23 cs #[.int .i64 0, .string ⟨#[]⟩, .string ⟨#[]⟩, .int .i64 0, .int .i64 0, .int .i64 0, .int .i64 0, .string ⟨#[]⟩, .string ⟨#[]⟩, .string ⟨#[]⟩] hR (by rw [Tryz.sizeEnt]; rfl) hc (by simp [Value.oneCell'])
      have hR2 : (w2.setRow w.heap.size #[.int .i64 0, .string ⟨#[]⟩, .string ⟨#[]⟩, .int .i64 0, .int .i64 0, .int .i64 0, .int .i64 0, .string ⟨#[]⟩, .string ⟨#[]⟩, .string ⟨#[]⟩]).heap[w.heap.size]? = some (.cells #[.int .i64 0, .string ⟨#[]⟩, .string ⟨#[]⟩, .int .i64 0, .int .i64 0, .int .i64 0, .int .i64 0, .string ⟨#[]⟩, .string ⟨#[]⟩, .string ⟨#[]⟩] 23 (0, 0)) := hC.2.2.elim (fun h => setRow_heap _ _ _ _ _ _ h) (fun h => setRow_heap _ _ _ _ _ _ h)
      refine opU_store (C := fun w' => Below w.heap.size w w' ∧ w'.heap[w1.heap.size]? = some (.cells zHead 37 (0, 0)) ∧ (w'.heap[w.heap.size]? = some (.cells zEnt 23 (0, 0)) ∨ w'.heap[w.heap.size]? = some (.cells #[.int .i64 0, .string ⟨#[]⟩, .string ⟨#[]⟩, .int .i64 0, .int .i64 0, .int .i64 0, .int .i64 0, .string ⟨#[]⟩, .string ⟨#[]⟩, .string ⟨#[]⟩] 23 (0, 0)))) (St := fun x y => y.heap[w.heap.size]? = x.heap[w.heap.size]? ∨ y.heap[w.heap.size]? = some (.cells #[.int .i64 0, .string ⟨#[]⟩, .string ⟨#[]⟩, .int .i64 0, .int .i64 0, .int .i64 0, .int .i64 0, .string ⟨#[]⟩, .string ⟨#[]⟩, .string ⟨#[]⟩] 23 (0, 0))) (V := fun d v _ => match d with | 13 => v = .pointer (some ⟨w1.heap.size, 0, none⟩) | 14 => v = .agg #[.int .i64 0, .string ⟨#[]⟩, .string ⟨#[]⟩, .int .i64 0, .int .i64 0, .int .i64 0, .int .i64 0, .string ⟨#[]⟩, .string ⟨#[]⟩, .string ⟨#[]⟩] | 15 => v = .pointer (some ⟨w1.heap.size, 10, none⟩) | 16 => v = .string ⟨#[]⟩ | 17 => v = .pointer (some ⟨w1.heap.size, 11, none⟩) | 18 => v = .int .i64 0 | 19 => v = .iface 81 (.agg #[.int .i64 cd]) | 20 => v = .int .i64 cd | 3 => v = .string ⟨#[]⟩ | 4 => v = .int .i64 0 | 5 => v = .int .i64 cd | _ => True) (U := fun o w' => o.dst = none → w'.heap[w.heap.size]? = some (.cells #[.int .i64 0, .string ⟨#[]⟩, .string ⟨#[]⟩, .int .i64 0, .int .i64 0, .int .i64 0, .int .i64 0, .string ⟨#[]⟩, .string ⟨#[]⟩, .string ⟨#[]⟩] 23 (0, 0))) 23 _ _ rfl rfl ⟨w.heap.size, 0, none⟩ e2 e14 (hC.2.2.elim (fun h => hS _ rfl h) (fun h => hS _ rfl h)) ?_ ?_ ?_
      · exact ⟨hC.1.trans (below_set (Nat.le_refl _) _), by rw [setRow_other _ _ _ _ (by omega)]; exact hC.2.1, Or.inr hR2⟩
      · exact Or.inr hR2
      · intro _; exact hR2
    case o3 =>
      intro Q a w2 hC hV hI
      have e16 : a.eval (.tmp 16) = .string ⟨#[]⟩ := hV 16 (by simp [Op.operands]) (by kernel_rfl)
      have f16 : a.tmps.getD 16 undef = .string ⟨#[]⟩ := e16
      have g16 : a.tmps[16]?.getD undef = .string ⟨#[]⟩ := by rw [← Array.getD_eq_getD_getElem?]; exact e16
      refine opU_val (C := fun w' => Below w.heap.size w w' ∧ w'.heap[w1.heap.size]? = some (.cells zHead 37 (0, 0)) ∧ (w'.heap[w.heap.size]? = some (.cells zEnt 23 (0, 0)) ∨ w'.heap[w.heap.size]? = some (.cells #[.int .i64 0, .string ⟨#[]⟩, .string ⟨#[]⟩, .int .i64 0, .int .i64 0, .int .i64 0, .int .i64 0, .string ⟨#[]⟩, .string ⟨#[]⟩, .string ⟨#[]⟩] 23 (0, 0)))) (St := fun x y => y.heap[w.heap.size]? = x.heap[w.heap.size]? ∨ y.heap[w.heap.size]? = some (.cells #[.int .i64 0, .string ⟨#[]⟩, .string ⟨#[]⟩, .int .i64 0, .int .i64 0, .int .i64 0, .int .i64 0, .string ⟨#[]⟩, .string ⟨#[]⟩, .string ⟨#[]⟩] 23 (0, 0))) (V := fun d v _ => match d with | 13 => v = .pointer (some ⟨w1.heap.size, 0, none⟩) | 14 => v = .agg #[.int .i64 0, .string ⟨#[]⟩, .string ⟨#[]⟩, .int .i64 0, .int .i64 0, .int .i64 0, .int .i64 0, .string ⟨#[]⟩, .string ⟨#[]⟩, .string ⟨#[]⟩] | 15 => v = .pointer (some ⟨w1.heap.size, 10, none⟩) | 16 => v = .string ⟨#[]⟩ | 17 => v = .pointer (some ⟨w1.heap.size, 11, none⟩) | 18 => v = .int .i64 0 | 19 => v = .iface 81 (.agg #[.int .i64 cd]) | 20 => v = .int .i64 cd | 3 => v = .string ⟨#[]⟩ | 4 => v = .int .i64 0 | 5 => v = .int .i64 cd | _ => True) (U := fun o w' => o.dst = none → w'.heap[w.heap.size]? = some (.cells #[.int .i64 0, .string ⟨#[]⟩, .string ⟨#[]⟩, .int .i64 0, .int .i64 0, .int .i64 0, .int .i64 0, .string ⟨#[]⟩, .string ⟨#[]⟩, .string ⟨#[]⟩] 23 (0, 0))) (w' := w2) (.string ⟨#[]⟩) ?_ ?_ ?_ ?_ ?_
      · (clear hV hI hC; go_simp <;> (first | rfl | simp))
      · exact hC
      · exact Or.inl rfl
      · intro d hd; cases hd; rfl
      · intro h; cases h
    case o4 =>
      intro Q a w2 hC hV hI
      have e18 : a.eval (.tmp 18) = .int .i64 0 := hV 18 (by simp [Op.operands]) (by kernel_rfl)
      have f18 : a.tmps.getD 18 undef = .int .i64 0 := e18
      have g18 : a.tmps[18]?.getD undef = .int .i64 0 := by rw [← Array.getD_eq_getD_getElem?]; exact e18
      refine opU_val (C := fun w' => Below w.heap.size w w' ∧ w'.heap[w1.heap.size]? = some (.cells zHead 37 (0, 0)) ∧ (w'.heap[w.heap.size]? = some (.cells zEnt 23 (0, 0)) ∨ w'.heap[w.heap.size]? = some (.cells #[.int .i64 0, .string ⟨#[]⟩, .string ⟨#[]⟩, .int .i64 0, .int .i64 0, .int .i64 0, .int .i64 0, .string ⟨#[]⟩, .string ⟨#[]⟩, .string ⟨#[]⟩] 23 (0, 0)))) (St := fun x y => y.heap[w.heap.size]? = x.heap[w.heap.size]? ∨ y.heap[w.heap.size]? = some (.cells #[.int .i64 0, .string ⟨#[]⟩, .string ⟨#[]⟩, .int .i64 0, .int .i64 0, .int .i64 0, .int .i64 0, .string ⟨#[]⟩, .string ⟨#[]⟩, .string ⟨#[]⟩] 23 (0, 0))) (V := fun d v _ => match d with | 13 => v = .pointer (some ⟨w1.heap.size, 0, none⟩) | 14 => v = .agg #[.int .i64 0, .string ⟨#[]⟩, .string ⟨#[]⟩, .int .i64 0, .int .i64 0, .int .i64 0, .int .i64 0, .string ⟨#[]⟩, .string ⟨#[]⟩, .string ⟨#[]⟩] | 15 => v = .pointer (some ⟨w1.heap.size, 10, none⟩) | 16 => v = .string ⟨#[]⟩ | 17 => v = .pointer (some ⟨w1.heap.size, 11, none⟩) | 18 => v = .int .i64 0 | 19 => v = .iface 81 (.agg #[.int .i64 cd]) | 20 => v = .int .i64 cd | 3 => v = .string ⟨#[]⟩ | 4 => v = .int .i64 0 | 5 => v = .int .i64 cd | _ => True) (U := fun o w' => o.dst = none → w'.heap[w.heap.size]? = some (.cells #[.int .i64 0, .string ⟨#[]⟩, .string ⟨#[]⟩, .int .i64 0, .int .i64 0, .int .i64 0, .int .i64 0, .string ⟨#[]⟩, .string ⟨#[]⟩, .string ⟨#[]⟩] 23 (0, 0))) (w' := w2) (.int .i64 0) ?_ ?_ ?_ ?_ ?_
      · (clear hV hI hC; go_simp <;> (first | rfl | simp))
      · exact hC
      · exact Or.inl rfl
      · intro d hd; cases hd; rfl
      · intro h; cases h
    case o5 =>
      intro Q a w2 hC hV hI
      have e20 : a.eval (.tmp 20) = .int .i64 cd := hV 20 (by simp [Op.operands]) (by kernel_rfl)
      have f20 : a.tmps.getD 20 undef = .int .i64 cd := e20
      have g20 : a.tmps[20]?.getD undef = .int .i64 cd := by rw [← Array.getD_eq_getD_getElem?]; exact e20
      refine opU_val (C := fun w' => Below w.heap.size w w' ∧ w'.heap[w1.heap.size]? = some (.cells zHead 37 (0, 0)) ∧ (w'.heap[w.heap.size]? = some (.cells zEnt 23 (0, 0)) ∨ w'.heap[w.heap.size]? = some (.cells #[.int .i64 0, .string ⟨#[]⟩, .string ⟨#[]⟩, .int .i64 0, .int .i64 0, .int .i64 0, .int .i64 0, .string ⟨#[]⟩, .string ⟨#[]⟩, .string ⟨#[]⟩] 23 (0, 0)))) (St := fun x y => y.heap[w.heap.size]? = x.heap[w.heap.size]? ∨ y.heap[w.heap.size]? = some (.cells #[.int .i64 0, .string ⟨#[]⟩, .string ⟨#[]⟩, .int .i64 0, .int .i64 0, .int .i64 0, .int .i64 0, .string ⟨#[]⟩, .string ⟨#[]⟩, .string ⟨#[]⟩] 23 (0, 0))) (V := fun d v _ => match d with | 13 => v = .pointer (some ⟨w1.heap.size, 0, none⟩) | 14 => v = .agg #[.int .i64 0, .string ⟨#[]⟩, .string ⟨#[]⟩, .int .i64 0, .int .i64 0, .int .i64 0, .int .i64 0, .string ⟨#[]⟩, .string ⟨#[]⟩, .string ⟨#[]⟩] | 15 => v = .pointer (some ⟨w1.heap.size, 10, none⟩) | 16 => v = .string ⟨#[]⟩ | 17 => v = .pointer (some ⟨w1.heap.size, 11, none⟩) | 18 => v = .int .i64 0 | 19 => v = .iface 81 (.agg #[.int .i64 cd]) | 20 => v = .int .i64 cd | 3 => v = .string ⟨#[]⟩ | 4 => v = .int .i64 0 | 5 => v = .int .i64 cd | _ => True) (U := fun o w' => o.dst = none → w'.heap[w.heap.size]? = some (.cells #[.int .i64 0, .string ⟨#[]⟩, .string ⟨#[]⟩, .int .i64 0, .int .i64 0, .int .i64 0, .int .i64 0, .string ⟨#[]⟩, .string ⟨#[]⟩, .string ⟨#[]⟩] 23 (0, 0))) (w' := w2) (.int .i64 cd) ?_ ?_ ?_ ?_ ?_
      · (clear hV hI hC; go_simp <;> (first | rfl | simp))
      · exact hC
      · exact Or.inl rfl
      · intro d hd; cases hd; rfl
      · intro h; cases h
  case hend =>
    intro f w5 hC hall huall
    simp only [List.forall_mem_cons] at hall
    obtain ⟨h13, h14, h15, h16, h17, h18, h19, h20, _, h3, h4, h5, _⟩ := hall
    simp only [List.forall_mem_cons] at huall
    obtain ⟨_, _, _, _, _, _, _, _, hus, _, _, _, _⟩ := huall
    replace h13 : f 13 = .pointer (some ⟨w1.heap.size, 0, none⟩) := h13 13 rfl
    replace h14 : f 14 = .agg #[.int .i64 0, .string ⟨#[]⟩, .string ⟨#[]⟩, .int .i64 0, .int .i64 0, .int .i64 0, .int .i64 0, .string ⟨#[]⟩, .string ⟨#[]⟩, .string ⟨#[]⟩] := h14 14 rfl
    replace h15 : f 15 = .pointer (some ⟨w1.heap.size, 10, none⟩) := h15 15 rfl
    replace h16 : f 16 = .string ⟨#[]⟩ := h16 16 rfl
    replace h17 : f 17 = .pointer (some ⟨w1.heap.size, 11, none⟩) := h17 17 rfl
    replace h18 : f 18 = .int .i64 0 := h18 18 rfl
    replace h19 : f 19 = .iface 81 (.agg #[.int .i64 cd]) := h19 19 rfl
    replace h20 : f 20 = .int .i64 cd := h20 20 rfl
    replace h3 : f 3 = .string ⟨#[]⟩ := h3 3 rfl
    replace h4 : f 4 = .int .i64 0 := h4 4 rfl
    replace h5 : f 5 = .int .i64 cd := h5 5 rfl
    simp only [putAll, Act.put, List.setIfInBounds_toArray, List.set_cons_succ, List.set_cons_zero, h13, h14, h15, h16, h17, h18, h19, h20, h3, h4, h5]
    clear h13 h14 h15 h16 h17 h18 h19 h20 h3 h4 h5
    have R5 := Lib.hid (hus trivial)
    have B5 := Lib.hid hC.1
    clear hC hus
    go_wp2
    refine bodyPost_ret (results_cell4 rfl _ _ w.heap.size _ #[.int .i64 0, .string ⟨#[]⟩, .string ⟨#[]⟩, .int .i64 0, .int .i64 0, .int .i64 0, .int .i64 0, .string ⟨#[]⟩, .string ⟨#[]⟩, .string ⟨#[]⟩] (0, 0) _ rfl R5.out Tryz.underlying23 rfl (by rw [Tryz.sizeEnt]; rfl)) rfl ?_
    rw [HE.out]
    exact ⟨rfl, B5.out⟩
set_option maxHeartbeats 6400000 in
set_option maxRecDepth 8000 in
theorem getHead_good (s : ByteArray) (w : World) (hs : s.size ≤ 1048576) (hc : hdc s = 0) (hT : Tabs w) (hF : FW w) (hH : Handle w) :
    Calls Tryz.prog 9 #[.string s] w fun e w' => e = .returned (getV s) ∧ Below w.heap.size w w' := by
  have H1 := Lib.hid (fun w hT hF => readHead_any s w hs hT hF)
  rw [((readV_code s).resolve_right (fun h => h.1 hc)).2, okCells] at H1
  have HE : Hid (getV s = .tuple #[.agg #[.int .i64 0, .string (pathL (lOf s)), .string (cutv (fW (lOf s) 8)), .int .i64 (fnumv (fW (lOf s) 1)), .int .i64 (fnumv (fW (lOf s) 2)), .int .i64 (fnumv (fW (lOf s) 3)), .int .i64 (fnumv (fW (lOf s) 5)), .string (cutv (fW (lOf s) 10)), .string (cutv (fW (lOf s) 11)), .string ⟨#[]⟩], .string (fW (lOf s) 7), .int .i64 (fnumv (fW (lOf s) 4)), .int .i64 0]) := Lib.hid (by rw [getV, if_pos hc]; rfl)
  have HCo := Lib.hid codeOf_nil
  generalize pathL (lOf s) = pth at *
  generalize cutv (fW (lOf s) 8) = lk at *
  generalize cutv (fW (lOf s) 10) = us at *
  generalize cutv (fW (lOf s) 11) = gr at *
  generalize fnumv (fW (lOf s) 1) = nm at *
  generalize fnumv (fW (lOf s) 2) = nu at *
  generalize fnumv (fW (lOf s) 3) = ng at *
  generalize fnumv (fW (lOf s) 5) = nt at *
  generalize fnumv (fW (lOf s) 4) = nz at *
  generalize fW (lOf s) 7 = fl at *
  clear hc
  have B0 := Lib.hid ((Below.refl w.heap.size w).alloc (Nat.le_refl _) (.cells zEnt 23))
  have R0 : Hid ((w.alloc (.cells zEnt 23)).heap[w.heap.size]? = some (.cells zEnt 23 (0, 0))) := Lib.hid (heap_alloc_last _ _)
  have HT0 := Lib.hid (hT.below B0.out)
  have HF0 := Lib.hid (hF.below B0.out)
  have HH := Lib.hid hH
  clear hT hF hH
  go_enter Tryz.func9, Tryz.ntmps9
  go_wp2_with fail
  refine (H1.out _ HT0.out HF0.out).mono ?_
  rintro e w1 ⟨rfl, hb1⟩
  have RO1 := Lib.hid ((hb1.block w.heap.size (by simp)).trans R0.out)
  have B1 := Lib.hid (B0.out.trans (hb1.mono (by simp)))
  clear hb1 R0 B0 H1 HT0 HF0
  have zR1 := obj_lt RO1.out
  have HSn := Lib.hid (run_storeVar_new (P := Tryz.prog) w1 37 zHead #[.int .i64 0, .string pth, .string lk, .int .i64 nm, .int .i64 nu, .int .i64 ng, .int .i64 nt, .string us, .string gr, .string ⟨#[]⟩, .string fl, .int .i64 nz] (by rw [Tryz.sizeHd]; rfl) rfl (by simp [Value.oneCell']))
  go_wp2_with ((with_reducible refine wpList_store_eq rfl 37 _ _ rfl ⟨w1.heap.size, 0, none⟩ ?_ ?_ HSn.out ?_); rfl; rfl)
  have OB := heap_alloc_last w1 (.cells #[.int .i64 0, .string pth, .string lk, .int .i64 nm, .int .i64 nu, .int .i64 ng, .int .i64 nt, .string us, .string gr, .string ⟨#[]⟩, .string fl, .int .i64 nz] 37)
  have BX := (Below.refl w1.heap.size w1).alloc (Nat.le_refl _) (.cells #[.int .i64 0, .string pth, .string lk, .int .i64 nm, .int .i64 nu, .int .i64 ng, .int .i64 nt, .string us, .string gr, .string ⟨#[]⟩, .string fl, .int .i64 nz] 37)
  generalize w1.alloc (.cells #[.int .i64 0, .string pth, .string lk, .int .i64 nm, .int .i64 nu, .int .i64 ng, .int .i64 nt, .string us, .string gr, .string ⟨#[]⟩, .string fl, .int .i64 nz] 37) = w4 at *
  have OB' := Lib.hid OB
  have RO4 := Lib.hid ((BX.block _ (obj_lt RO1.out)).trans RO1.out)
  have B4 := Lib.hid (B1.out.trans (BX.mono B1.out.size))
  clear OB BX RO1 B1 HSn
  have zR4 := obj_lt RO4.out
  have KC : Hid (∀ w' : World, w'.heap[w1.heap.size]? = some (.cells #[.int .i64 0, .string pth, .string lk, .int .i64 nm, .int .i64 nu, .int .i64 ng, .int .i64 nt, .string us, .string gr, .string ⟨#[]⟩, .string fl, .int .i64 nz] 37 (0, 0)) → w'.cell? ⟨w1.heap.size, 0, none⟩ = some (.int .i64 0) ∧ w'.cell? ⟨w1.heap.size, 1, none⟩ = some (.string pth) ∧ w'.cell? ⟨w1.heap.size, 2, none⟩ = some (.string lk) ∧ w'.cell? ⟨w1.heap.size, 3, none⟩ = some (.int .i64 nm) ∧ w'.cell? ⟨w1.heap.size, 4, none⟩ = some (.int .i64 nu) ∧ w'.cell? ⟨w1.heap.size, 5, none⟩ = some (.int .i64 ng) ∧ w'.cell? ⟨w1.heap.size, 6, none⟩ = some (.int .i64 nt) ∧ w'.cell? ⟨w1.heap.size, 7, none⟩ = some (.string us) ∧ w'.cell? ⟨w1.heap.size, 8, none⟩ = some (.string gr) ∧ w'.cell? ⟨w1.heap.size, 9, none⟩ = some (.string ⟨#[]⟩) ∧ w'.cell? ⟨w1.heap.size, 10, none⟩ = some (.string fl) ∧ w'.cell? ⟨w1.heap.size, 11, none⟩ = some (.int .i64 nz)) := Lib.hid (fun w' h1 => by
    refine ⟨?_, ?_, ?_, ?_, ?_, ?_, ?_, ?_, ?_, ?_, ?_, ?_⟩
    all_goals (rw [cell_of_row _ _ _ _ _ _ h1]; rfl))
  have zRH : w.heap.size < w1.heap.size := zR1
  refine wp_region_u (by kernel_rfl) (fun w' => Below w.heap.size w w' ∧ w'.heap[w1.heap.size]? = some (.cells #[.int .i64 0, .string pth, .string lk, .int .i64 nm, .int .i64 nu, .int .i64 ng, .int .i64 nt, .string us, .string gr, .string ⟨#[]⟩, .string fl, .int .i64 nz] 37 (0, 0)) ∧ (w'.heap[w.heap.size]? = some (.cells zEnt 23 (0, 0)) ∨ w'.heap[w.heap.size]? = some (.cells #[.int .i64 0, .string pth, .string lk, .int .i64 nm, .int .i64 nu, .int .i64 ng, .int .i64 nt, .string us, .string gr, .string ⟨#[]⟩] 23 (0, 0)))) (fun x y => y.heap[w.heap.size]? = x.heap[w.heap.size]? ∨ y.heap[w.heap.size]? = some (.cells #[.int .i64 0, .string pth, .string lk, .int .i64 nm, .int .i64 nu, .int .i64 ng, .int .i64 nt, .string us, .string gr, .string ⟨#[]⟩] 23 (0, 0))) (fun d v _ => match d with | 13 => v = .pointer (some ⟨w1.heap.size, 0, none⟩) | 14 => v = .agg #[.int .i64 0, .string pth, .string lk, .int .i64 nm, .int .i64 nu, .int .i64 ng, .int .i64 nt, .string us, .string gr, .string ⟨#[]⟩] | 15 => v = .pointer (some ⟨w1.heap.size, 10, none⟩) | 16 => v = .string fl | 17 => v = .pointer (some ⟨w1.heap.size, 11, none⟩) | 18 => v = .int .i64 nz | 19 => v = .nilIface | 20 => v = .int .i64 0 | 3 => v = .string fl | 4 => v = .int .i64 nz | 5 => v = .int .i64 0 | _ => True) (fun o w' => o.dst = none → w'.heap[w.heap.size]? = some (.cells #[.int .i64 0, .string pth, .string lk, .int .i64 nm, .int .i64 nu, .int .i64 ng, .int .i64 nt, .string us, .string gr, .string ⟨#[]⟩] 23 (0, 0))) (by kernel_rfl) ⟨B4.out.drew, OB'.out, .inl RO4.out⟩ (fun _ _ _ _ _ _ h => h) (fun _ _ _ _ hs hu hd => Or.elim hs (fun h => h.trans (hu hd)) (fun h => h)) ?hops ?hend
  case hops =>
    simp only [List.forall_mem_cons]
    refine ⟨?o13, ?o14, ?o15, ?o16, ?o17, ?o18, ?o19, ?o20, ?os8, ?o3, ?o4, ?o5, fun _ h => by cases h⟩
    case o13 =>
      intro Q a w2 hC hV hI
      have e6 : a.eval (.tmp 6) = .pointer (some ⟨w1.heap.size, 0, none⟩) := (hI 6 (by simp [Op.operands]) (by kernel_rfl)).trans rfl
      have f6 : a.tmps.getD 6 undef = .pointer (some ⟨w1.heap.size, 0, none⟩) := e6
      have g6 : a.tmps[6]?.getD undef = .pointer (some ⟨w1.heap.size, 0, none⟩) := by rw [← Array.getD_eq_getD_getElem?]; exact e6
      refine opU_val (C := fun w' => Below w.heap.size w w' ∧ w'.heap[w1.heap.size]? = some (.cells #[.int .i64 0, .string pth, .string lk, .int .i64 nm, .int .i64 nu, .int .i64 ng, .int .i64 nt, .string us, .string gr, .string ⟨#[]⟩, .string fl, .int .i64 nz] 37 (0, 0)) ∧ (w'.heap[w.heap.size]? = some (.cells zEnt 23 (0, 0)) ∨ w'.heap[w.heap.size]? = some (.cells #[.int .i64 0, .string pth, .string lk, .int .i64 nm, .int .i64 nu, .int .i64 ng, .int .i64 nt, .string us, .string gr, .string ⟨#[]⟩] 23 (0, 0)))) (St := fun x y => y.heap[w.heap.size]? = x.heap[w.heap.size]? ∨ y.heap[w.heap.size]? = some (.cells #[.int .i64 0, .string pth, .string lk, .int .i64 nm, .int .i64 nu, .int .i64 ng, .int .i64 nt, .string us, .string gr, .string ⟨#[]⟩] 23 (0, 0))) (V := fun d v _ => match d with | 13 => v = .pointer (some ⟨w1.heap.size, 0, none⟩) | 14 => v = .agg #[.int .i64 0, .string pth, .string lk, .int .i64 nm, .int .i64 nu, .int .i64 ng, .int .i64 nt, .string us, .string gr, .string ⟨#[]⟩] | 15 => v = .pointer (some ⟨w1.heap.size, 10, none⟩) | 16 => v = .string fl | 17 => v = .pointer (some ⟨w1.heap.size, 11, none⟩) | 18 => v = .int .i64 nz | 19 => v = .nilIface | 20 => v = .int .i64 0 | 3 => v = .string fl | 4 => v = .int .i64 nz | 5 => v = .int .i64 0 | _ => True) (U := fun o w' => o.dst = none → w'.heap[w.heap.size]? = some (.cells #[.int .i64 0, .string pth, .string lk, .int .i64 nm, .int .i64 nu, .int .i64 ng, .int .i64 nt, .string us, .string gr, .string ⟨#[]⟩] 23 (0, 0))) (w' := w2) (.pointer (some ⟨w1.heap.size, 0, none⟩)) ?_ ?_ ?_ ?_ ?_
      · (clear hV hI hC; go_simp <;> (first | rfl | simp))
      · exact hC
      · exact Or.inl rfl
      · intro d hd; cases hd; rfl
      · intro h; cases h
    case o14 =>
      intro Q a w2 hC hV hI
      have e13 : a.eval (.tmp 13) = .pointer (some ⟨w1.heap.size, 0, none⟩) := hV 13 (by simp [Op.operands]) (by kernel_rfl)
      have f13 : a.tmps.getD 13 undef = .pointer (some ⟨w1.heap.size, 0, none⟩) := e13
      have g13 : a.tmps[13]?.getD undef = .pointer (some ⟨w1.heap.size, 0, none⟩) := by rw [← Array.getD_eq_getD_getElem?]; exact e13
      have hK := KC.out w2 hC.2.1
      refine opU_val (C := fun w' => Below w.heap.size w w' ∧ w'.heap[w1.heap.size]? = some (.cells #[.int .i64 0, .string pth, .string lk, .int .i64 nm, .int .i64 nu, .int .i64 ng, .int .i64 nt, .string us, .string gr, .string ⟨#[]⟩, .string fl, .int .i64 nz] 37 (0, 0)) ∧ (w'.heap[w.heap.size]? = some (.cells zEnt 23 (0, 0)) ∨ w'.heap[w.heap.size]? = some (.cells #[.int .i64 0, .string pth, .string lk, .int .i64 nm, .int .i64 nu, .int .i64 ng, .int .i64 nt, .string us, .string gr, .string ⟨#[]⟩] 23 (0, 0)))) (St := fun x y => y.heap[w.heap.size]? = x.heap[w.heap.size]? ∨ y.heap[w.heap.size]? = some (.cells #[.int .i64 0, .string pth, .string lk, .int .i64 nm, .int .i64 nu, .int .i64 ng, .int .i64 nt, .string us, .string gr, .string ⟨#[]⟩] 23 (0, 0))) (V := fun d v _ => match d with | 13 => v = .pointer (some ⟨w1.heap.size, 0, none⟩) | 14 => v = .agg #[.int .i64 0, .string pth, .string lk, .int .i64 nm, .int .i64 nu, .int .i64 ng, .int .i64 nt, .string us, .string gr, .string ⟨#[]⟩] | 15 => v = .pointer (some ⟨w1.heap.size, 10, none⟩) | 16 => v = .string fl | 17 => v = .pointer (some ⟨w1.heap.size, 11, none⟩) | 18 => v = .int .i64 nz | 19 => v = .nilIface | 20 => v = .int .i64 0 | 3 => v = .string fl | 4 => v = .int .i64 nz | 5 => v = .int .i64 0 | _ => True) (U := fun o w' => o.dst = none → w'.heap[w.heap.size]? = some (.cells #[.int .i64 0, .string pth, .string lk, .int .i64 nm, .int .i64 nu, .int .i64 ng, .int .i64 nt, .string us, .string gr, .string ⟨#[]⟩] 23 (0, 0))) (w' := w2) (.agg #[.int .i64 0, .string pth, .string lk, .int .i64 nm, .int .i64 nu, .int .i64 ng, .int .i64 nt, .string us, .string gr, .string ⟨#[]⟩]) ?_ ?_ ?_ ?_ ?_
      · (clear hV hI hC; go_simp <;> (first | rfl | simp))
      · exact hC
      · exact Or.inl rfl
      · intro d hd; cases hd; rfl
      · intro h; cases h
    case o15 =>
      intro Q a w2 hC hV hI
      have e6 : a.eval (.tmp 6) = .pointer (some ⟨w1.heap.size, 0, none⟩) := (hI 6 (by simp [Op.operands]) (by kernel_rfl)).trans rfl
      have f6 : a.tmps.getD 6 undef = .pointer (some ⟨w1.heap.size, 0, none⟩) := e6
      have g6 : a.tmps[6]?.getD undef = .pointer (some ⟨w1.heap.size, 0, none⟩) := by rw [← Array.getD_eq_getD_getElem?]; exact e6
      refine opU_val (C := fun w' => Below w.heap.size w w' ∧ w'.heap[w1.heap.size]? = some (.cells #[.int .i64 0, .string pth, .string lk, .int .i64 nm, .int .i64 nu, .int .i64 ng, .int .i64 nt, .string us, .string gr, .string ⟨#[]⟩, .string fl, .int .i64 nz] 37 (0, 0)) ∧ (w'.heap[w.heap.size]? = some (.cells zEnt 23 (0, 0)) ∨ w'.heap[w.heap.size]? = some (.cells #[.int .i64 0, .string pth, .string lk, .int .i64 nm, .int .i64 nu, .int .i64 ng, .int .i64 nt, .string us, .string gr, .string ⟨#[]⟩] 23 (0, 0)))) (St := fun x y => y.heap[w.heap.size]? = x.heap[w.heap.size]? ∨ y.heap[w.heap.size]? = some (.cells #[.int .i64 0, .string pth, .string lk, .int .i64 nm, .int .i64 nu, .int .i64 ng, .int .i64 nt, .string us, .string gr, .string ⟨#[]⟩] 23 (0, 0))) (V := fun d v _ => match d with | 13 => v = .pointer (some ⟨w1.heap.size, 0, none⟩) | 14 => v = .agg #[.int .i64 0, .string pth, .string lk, .int .i64 nm, .int .i64 nu, .int .i64 ng, .int .i64 nt, .string us, .string gr, .string ⟨#[]⟩] | 15 => v = .pointer (some ⟨w1.heap.size, 10, none⟩) | 16 => v = .string fl | 17 => v = .pointer (some ⟨w1.heap.size, 11, none⟩) | 18 => v = .int .i64 nz | 19 => v = .nilIface | 20 => v = .int .i64 0 | 3 => v = .string fl | 4 => v = .int .i64 nz | 5 => v = .int .i64 0 | _ => True) (U := fun o w' => o.dst = none → w'.heap[w.heap.size]? = some (.cells #[.int .i64 0, .string pth, .string lk, .int .i64 nm, .int .i64 nu, .int .i64 ng, .int .i64 nt, .string us, .string gr, .string ⟨#[]⟩] 23 (0, 0))) (w' := w2) (.pointer (some ⟨w1.heap.size, 10, none⟩)) ?_ ?_ ?_ ?_ ?_
      · (clear hV hI hC; go_simp <;> (first | rfl | simp))
      · exact hC
      · exact Or.inl rfl
      · intro d hd; cases hd; rfl
      · intro h; cases h
    case o16 =>
      intro Q a w2 hC hV hI
      have e15 : a.eval (.tmp 15) = .pointer (some ⟨w1.heap.size, 10, none⟩) := hV 15 (by simp [Op.operands]) (by kernel_rfl)
      have f15 : a.tmps.getD 15 undef = .pointer (some ⟨w1.heap.size, 10, none⟩) := e15
      have g15 : a.tmps[15]?.getD undef = .pointer (some ⟨w1.heap.size, 10, none⟩) := by rw [← Array.getD_eq_getD_getElem?]; exact e15
      have hK := KC.out w2 hC.2.1
      refine opU_val (C := fun w' => Below w.heap.size w w' ∧ w'.heap[w1.heap.size]? = some (.cells #[.int .i64 0, .string pth, .string lk, .int .i64 nm, .int .i64 nu, .int .i64 ng, .int .i64 nt, .string us, .string gr, .string ⟨#[]⟩, .string fl, .int .i64 nz] 37 (0, 0)) ∧ (w'.heap[w.heap.size]? = some (.cells zEnt 23 (0, 0)) ∨ w'.heap[w.heap.size]? = some (.cells #[.int .i64 0, .string pth, .string lk, .int .i64 nm, .int .i64 nu, .int .i64 ng, .int .i64 nt, .string us, .string gr, .string ⟨#[]⟩] 23 (0, 0)))) (St := fun x y => y.heap[w.heap.size]? = x.heap[w.heap.size]? ∨ y.heap[w.heap.size]? = some (.cells #[.int .i64 0, .string pth, .string lk, .int .i64 nm, .int .i64 nu, .int .i64 ng, .int .i64 nt, .string us, .string gr, .string ⟨#[]⟩] 23 (0, 0))) (V := fun d v _ => match d with | 13 => v = .pointer (some ⟨w1.heap.size, 0, none⟩) | 14 => v = .agg #[.int .i64 0, .string pth, .string lk, .int .i64 nm, .int .i64 nu, .int .i64 ng, .int .i64 nt, .string us, .string gr, .string ⟨#[]⟩] | 15 => v = .pointer (some ⟨w1.heap.size, 10, none⟩) | 16 => v = .string fl | 17 => v = .pointer (some ⟨w1.heap.size, 11, none⟩) | 18 => v = .int .i64 nz | 19 => v = .nilIface | 20 => v = .int .i64 0 | 3 => v = .string fl | 4 => v = .int .i64 nz | 5 => v = .int .i64 0 | _ => True) (U := fun o w' => o.dst = none → w'.heap[w.heap.size]? = some (.cells #[.int .i64 0, .string pth, .string lk, .int .i64 nm, .int .i64 nu, .int .i64 ng, .int .i64 nt, .string us, .string gr, .string ⟨#[]⟩] 23 (0, 0))) (w' := w2) (.string fl) ?_ ?_ ?_ ?_ ?_
      · (clear hV hI hC; go_simp <;> (first | rfl | simp))
      · exact hC
      · exact Or.inl rfl
      · intro d hd; cases hd; rfl
      · intro h; cases h
    case o17 =>
      intro Q a w2 hC hV hI
      have e6 : a.eval (.tmp 6) = .pointer (some ⟨w1.heap.size, 0, none⟩) := (hI 6 (by simp [Op.operands]) (by kernel_rfl)).trans rfl
      have f6 : a.tmps.getD 6 undef = .pointer (some ⟨w1.heap.size, 0, none⟩) := e6
      have g6 : a.tmps[6]?.getD undef = .pointer (some ⟨w1.heap.size, 0, none⟩) := by rw [← Array.getD_eq_getD_getElem?]; exact e6
      refine opU_val (C := fun w' => Below w.heap.size w w' ∧ w'.heap[w1.heap.size]? = some (.cells #[.int .i64 0, .string pth, .string lk, .int .i64 nm, .int .i64 nu, .int .i64 ng, .int .i64 nt, .string us, .string gr, .string ⟨#[]⟩, .string fl, .int .i64 nz] 37 (0, 0)) ∧ (w'.heap[w.heap.size]? = some (.cells zEnt 23 (0, 0)) ∨ w'.heap[w.heap.size]? = some (.cells #[.int .i64 0, .string pth, .string lk, .int .i64 nm, .int .i64 nu, .int .i64 ng, .int .i64 nt, .string us, .string gr, .string ⟨#[]⟩] 23 (0, 0)))) (St := fun x y => y.heap[w.heap.size]? = x.heap[w.heap.size]? ∨ y.heap[w.heap.size]? = some (.cells #[.int .i64 0, .string pth, .string lk, .int .i64 nm, .int .i64 nu, .int .i64 ng, .int .i64 nt, .string us, .string gr, .string ⟨#[]⟩] 23 (0, 0))) (V := fun d v _ => match d with | 13 => v = .pointer (some ⟨w1.heap.size, 0, none⟩) | 14 => v = .agg #[.int .i64 0, .string pth, .string lk, .int .i64 nm, .int .i64 nu, .int .i64 ng, .int .i64 nt, .string us, .string gr, .string ⟨#[]⟩] | 15 => v = .pointer (some ⟨w1.heap.size, 10, none⟩) | 16 => v = .string fl | 17 => v = .pointer (some ⟨w1.heap.size, 11, none⟩) | 18 => v = .int .i64 nz | 19 => v = .nilIface | 20 => v = .int .i64 0 | 3 => v = .string fl | 4 => v = .int .i64 nz | 5 => v = .int .i64 0 | _ => True) (U := fun o w' => o.dst = none → w'.heap[w.heap.size]? = some (.cells #[.int .i64 0, .string pth, .string lk, .int .i64 nm, .int .i64 nu, .int .i64 ng, .int .i64 nt, .string us, .string gr, .string ⟨#[]⟩] 23 (0, 0))) (w' := w2) (.pointer (some ⟨w1.heap.size, 11, none⟩)) ?_ ?_ ?_ ?_ ?_
      · (clear hV hI hC; go_simp <;> (first | rfl | simp))
      · exact hC
      · exact Or.inl rfl
      · intro d hd; cases hd; rfl
      · intro h; cases h
    case o18 =>
      intro Q a w2 hC hV hI
      have e17 : a.eval (.tmp 17) = .pointer (some ⟨w1.heap.size, 11, none⟩) := hV 17 (by simp [Op.operands]) (by kernel_rfl)
      have f17 : a.tmps.getD 17 undef = .pointer (some ⟨w1.heap.size, 11, none⟩) := e17
      have g17 : a.tmps[17]?.getD undef = .pointer (some ⟨w1.heap.size, 11, none⟩) := by rw [← Array.getD_eq_getD_getElem?]; exact e17
      have hK := KC.out w2 hC.2.1
      refine opU_val (C := fun w' => Below w.heap.size w w' ∧ w'.heap[w1.heap.size]? = some (.cells #[.int .i64 0, .string pth, .string lk, .int .i64 nm, .int .i64 nu, .int .i64 ng, .int .i64 nt, .string us, .string gr, .string ⟨#[]⟩, .string fl, .int .i64 nz] 37 (0, 0)) ∧ (w'.heap[w.heap.size]? = some (.cells zEnt 23 (0, 0)) ∨ w'.heap[w.heap.size]? = some (.cells #[.int .i64 0, .string pth, .string lk, .int .i64 nm, .int .i64 nu, .int .i64 ng, .int .i64 nt, .string us, .string gr, .string ⟨#[]⟩] 23 (0, 0)))) (St := fun x y => y.heap[w.heap.size]? = x.heap[w.heap.size]? ∨ y.heap[w.heap.size]? = some (.cells #[.int .i64 0, .string pth, .string lk, .int .i64 nm, .int .i64 nu, .int .i64 ng, .int .i64 nt, .string us, .string gr, .string ⟨#[]⟩] 23 (0, 0))) (V := fun d v _ => match d with | 13 => v = .pointer (some ⟨w1.heap.size, 0, none⟩) | 14 => v = .agg #[.int .i64 0, .string pth, .string lk, .int .i64 nm, .int .i64 nu, .int .i64 ng, .int .i64 nt, .string us, .string gr, .string ⟨#[]⟩] | 15 => v = .pointer (some ⟨w1.heap.size, 10, none⟩) | 16 => v = .string fl | 17 => v = .pointer (some ⟨w1.heap.size, 11, none⟩) | 18 => v = .int .i64 nz | 19 => v = .nilIface | 20 => v = .int .i64 0 | 3 => v = .string fl | 4 => v = .int .i64 nz | 5 => v = .int .i64 0 | _ => True) (U := fun o w' => o.dst = none → w'.heap[w.heap.size]? = some (.cells #[.int .i64 0, .string pth, .string lk, .int .i64 nm, .int .i64 nu, .int .i64 ng, .int .i64 nt, .string us, .string gr, .string ⟨#[]⟩] 23 (0, 0))) (w' := w2) (.int .i64 nz) ?_ ?_ ?_ ?_ ?_
      · (clear hV hI hC; go_simp <;> (first | rfl | simp))
      · exact hC
      · exact Or.inl rfl
      · intro d hd; cases hd; rfl
      · intro h; cases h
    case o19 =>
      intro Q a w2 hC hV hI
      have e7 : a.eval (.tmp 7) = .nilIface := (hI 7 (by simp [Op.operands]) (by kernel_rfl)).trans rfl
      have f7 : a.tmps.getD 7 undef = .nilIface := e7
      have g7 : a.tmps[7]?.getD undef = .nilIface := by rw [← Array.getD_eq_getD_getElem?]; exact e7
      refine opU_val (C := fun w' => Below w.heap.size w w' ∧ w'.heap[w1.heap.size]? = some (.cells #[.int .i64 0, .string pth, .string lk, .int .i64 nm, .int .i64 nu, .int .i64 ng, .int .i64 nt, .string us, .string gr, .string ⟨#[]⟩, .string fl, .int .i64 nz] 37 (0, 0)) ∧ (w'.heap[w.heap.size]? = some (.cells zEnt 23 (0, 0)) ∨ w'.heap[w.heap.size]? = some (.cells #[.int .i64 0, .string pth, .string lk, .int .i64 nm, .int .i64 nu, .int .i64 ng, .int .i64 nt, .string us, .string gr, .string ⟨#[]⟩] 23 (0, 0)))) (St := fun x y => y.heap[w.heap.size]? = x.heap[w.heap.size]? ∨ y.heap[w.heap.size]? = some (.cells #[.int .i64 0, .string pth, .string lk, .int .i64 nm, .int .i64 nu, .int .i64 ng, .int .i64 nt, .string us, .string gr, .string ⟨#[]⟩] 23 (0, 0))) (V := fun d v _ => match d with | 13 => v = .pointer (some ⟨w1.heap.size, 0, none⟩) | 14 => v = .agg #[.int .i64 0, .string pth, .string lk, .int .i64 nm, .int .i64 nu, .int .i64 ng, .int .i64 nt, .string us, .string gr, .string ⟨#[]⟩] | 15 => v = .pointer (some ⟨w1.heap.size, 10, none⟩) | 16 => v = .string fl | 17 => v = .pointer (some ⟨w1.heap.size, 11, none⟩) | 18 => v = .int .i64 nz | 19 => v = .nilIface | 20 => v = .int .i64 0 | 3 => v = .string fl | 4 => v = .int .i64 nz | 5 => v = .int .i64 0 | _ => True) (U := fun o w' => o.dst = none → w'.heap[w.heap.size]? = some (.cells #[.int .i64 0, .string pth, .string lk, .int .i64 nm, .int .i64 nu, .int .i64 ng, .int .i64 nt, .string us, .string gr, .string ⟨#[]⟩] 23 (0, 0))) (w' := w2) (.nilIface) ?_ ?_ ?_ ?_ ?_
      · (clear hV hI hC; go_simp <;> (first | rfl | simp))
      · exact hC
      · exact Or.inl rfl
      · intro d hd; cases hd; rfl
      · intro h; cases h
    case o20 =>
      intro Q a w2 hC hV hI
      have e19 : a.eval (.tmp 19) = .nilIface := hV 19 (by simp [Op.operands, Call.operands]) (by kernel_rfl)
      have f19 : a.tmps.getD 19 undef = .nilIface := e19
      have g19 : a.tmps[19]?.getD undef = .nilIface := by rw [← Array.getD_eq_getD_getElem?]; exact e19
      refine opU_call (C := fun w' => Below w.heap.size w w' ∧ w'.heap[w1.heap.size]? = some (.cells #[.int .i64 0, .string pth, .string lk, .int .i64 nm, .int .i64 nu, .int .i64 ng, .int .i64 nt, .string us, .string gr, .string ⟨#[]⟩, .string fl, .int .i64 nz] 37 (0, 0)) ∧ (w'.heap[w.heap.size]? = some (.cells zEnt 23 (0, 0)) ∨ w'.heap[w.heap.size]? = some (.cells #[.int .i64 0, .string pth, .string lk, .int .i64 nm, .int .i64 nu, .int .i64 ng, .int .i64 nt, .string us, .string gr, .string ⟨#[]⟩] 23 (0, 0)))) (St := fun x y => y.heap[w.heap.size]? = x.heap[w.heap.size]? ∨ y.heap[w.heap.size]? = some (.cells #[.int .i64 0, .string pth, .string lk, .int .i64 nm, .int .i64 nu, .int .i64 ng, .int .i64 nt, .string us, .string gr, .string ⟨#[]⟩] 23 (0, 0))) (V := fun d v _ => match d with | 13 => v = .pointer (some ⟨w1.heap.size, 0, none⟩) | 14 => v = .agg #[.int .i64 0, .string pth, .string lk, .int .i64 nm, .int .i64 nu, .int .i64 ng, .int .i64 nt, .string us, .string gr, .string ⟨#[]⟩] | 15 => v = .pointer (some ⟨w1.heap.size, 10, none⟩) | 16 => v = .string fl | 17 => v = .pointer (some ⟨w1.heap.size, 11, none⟩) | 18 => v = .int .i64 nz | 19 => v = .nilIface | 20 => v = .int .i64 0 | 3 => v = .string fl | 4 => v = .int .i64 nz | 5 => v = .int .i64 0 | _ => True) (U := fun o w' => o.dst = none → w'.heap[w.heap.size]? = some (.cells #[.int .i64 0, .string pth, .string lk, .int .i64 nm, .int .i64 nu, .int .i64 ng, .int .i64 nt, .string us, .string gr, .string ⟨#[]⟩] 23 (0, 0))) (f := 26) (args := #[.nilIface]) (R := fun v y => v = .int .i64 0 ∧ Below w2.heap.size w2 y) ?_ ((HCo.out w2).mono ?_) ?_
      · (clear hV hI hC; go_simp <;> (first | rfl | simp))
      · rintro e y ⟨rfl, hb⟩; exact ⟨_, rfl, rfl, hb⟩
      · rintro v y ⟨rfl, hb⟩; exact ⟨⟨hC.1.trans (hb.mono hC.1.size), (hb.block _ (obj_lt hC.2.1)).trans hC.2.1, hC.2.2.imp (fun h => (hb.block _ (obj_lt h)).trans h) (fun h => (hb.block _ (obj_lt h)).trans h)⟩, .inl (hb.block _ (Nat.lt_trans zRH (obj_lt hC.2.1))), (by intro d hd; cases hd; rfl), fun h => (by cases h)⟩
    case os8 =>
      intro Q a w2 hC hV hI
      have e2 : a.eval (.tmp 2) = .pointer (some ⟨w.heap.size, 0, none⟩) := (hI 2 (by simp [Op.operands]) (by kernel_rfl)).trans rfl
      have f2 : a.tmps.getD 2 undef = .pointer (some ⟨w.heap.size, 0, none⟩) := e2
      have g2 : a.tmps[2]?.getD undef = .pointer (some ⟨w.heap.size, 0, none⟩) := by rw [← Array.getD_eq_getD_getElem?]; exact e2
      have e14 : a.eval (.tmp 14) = .agg #[.int .i64 0, .string pth, .string lk, .int .i64 nm, .int .i64 nu, .int .i64 ng, .int .i64 nt, .string us, .string gr, .string ⟨#[]⟩] := hV 14 (by simp [Op.operands]) (by kernel_rfl)
      have f14 : a.tmps.getD 14 undef = .agg #[.int .i64 0, .string pth, .string lk, .int .i64 nm, .int .i64 nu, .int .i64 ng, .int .i64 nt, .string us, .string gr, .string ⟨#[]⟩] := e14
      have g14 : a.tmps[14]?.getD undef = .agg #[.int .i64 0, .string pth, .string lk, .int .i64 nm, .int .i64 nu, .int .i64 ng, .int .i64 nt, .string us, .string gr, .string ⟨#[]⟩] := by rw [← Array.getD_eq_getD_getElem?]; exact e14
      have hS : ∀ cs : Array Value, cs.size = 10 → w2.heap[w.heap.size]? = some (.cells cs 23 (0, 0)) → _ := fun cs hc hR => run_storeVar_row (P := Tryz.prog) w2 w.heap.size 23 23 cs #[.int .i64 0, .string pth, .string lk, .int .i64 nm, .int .i64 nu, .int .i64 ng, .int .i64 nt, .string us, .string gr, .string ⟨#[]⟩] hR (by rw [Tryz.sizeEnt]; rfl) hc (by simp [Value.oneCell'])
      have hR2 : (w2.setRow w.heap.size #[.int .i64 0, .string pth, .string lk, .int .i64 nm, .int .i64 nu, .int .i64 ng, .int .i64 nt, .string us, .string gr, .string ⟨#[]⟩]).heap[w.heap.size]? = some (.cells #[.int .i64 0, .string pth, .string lk, .int .i64 nm, .int .i64 nu, .int .i64 ng, .int .i64 nt, .string us, .string gr, .string ⟨#[]⟩] 23 (0, 0)) := hC.2.2.elim (fun h => setRow_heap _ _ _ _ _ _ h) (fun h => setRow_heap _ _ _ _ _ _ h)
      refine opU_store (C := fun w' => Below w.heap.size w w' ∧ w'.heap[w1.heap.size]? = some (.cells #[.int .i64 0, .string pth, .string lk, .int .i64 nm, .int .i64 nu, .int .i64 ng, .int .i64 nt, .string us, .string gr, .string ⟨#[]⟩, .string fl, .int .i64 nz] 37 (0, 0)) ∧ (w'.heap[w.heap.size]? = some (.cells zEnt 23 (0, 0)) ∨ w'.heap[w.heap.size]? = some (.cells #[.int .i64 0, .string pth, .string lk, .int .i64 nm, .int .i64 nu, .int .i64 ng, .int .i64 nt, .string us, .string gr, .string ⟨#[]⟩] 23 (0, 0)))) (St := fun x y => y.heap[w.heap.size]? = x.heap[w.heap.size]? ∨ y.heap[w.heap.size]? = some (.cells #[.int .i64 0, .string pth, .string lk, .int .i64 nm, .int .i64 nu, .int .i64 ng, .int .i64 nt, .string us, .string gr, .string ⟨#[]⟩] 23 (0, 0))) (V := fun d v _ => match d with | 13 => v = .pointer (some ⟨w1.heap.size, 0, none⟩) | 14 => v = .agg #[.int .i64 0, .string pth, .string lk, .int .i64 nm, .int .i64 nu, .int .i64 ng, .int .i64 nt, .string us, .string gr, .string ⟨#[]⟩] | 15 => v = .pointer (some ⟨w1.heap.size, 10, none⟩) | 16 => v = .string fl | 17 => v = .pointer (some ⟨w1.heap.size, 11, none⟩) | 18 => v = .int .i64 nz | 19 => v = .nilIface | 20 => v = .int .i64 0 | 3 => v = .string fl | 4 => v = .int .i64 nz | 5 => v = .int .i64 0 | _ => True) (U := fun o w' => o.dst = none → w'.heap[w.heap.size]? = some (.cells #[.int .i64 0, .string pth, .string lk, .int .i64 nm, .int .i64 nu, .int .i64 ng, .int .i64 nt, .string us, .string gr, .string ⟨#[]⟩] 23 (0, 0))) 23 _ _ rfl rfl ⟨w.heap.size, 0, none⟩ e2 e14 (hC.2.2.elim (fun h => hS _ rfl h) (fun h => hS _ rfl h)) ?_ ?_ ?_
      · exact ⟨hC.1.trans (below_set (Nat.le_refl _) _), by rw [setRow_other _ _ _ _ (by omega)]; exact hC.2.1, Or.inr hR2⟩
      · exact Or.inr hR2
      · intro _; exact hR2
    case o3 =>
      intro Q a w2 hC hV hI
      have e16 : a.eval (.tmp 16) = .string fl := hV 16 (by simp [Op.operands]) (by kernel_rfl)
      have f16 : a.tmps.getD 16 undef = .string fl := e16
      have g16 : a.tmps[16]?.getD undef = .string fl := by rw [← Array.getD_eq_getD_getElem?]; exact e16
      refine opU_val (C := fun w' => Below w.heap.size w w' ∧ w'.heap[w1.heap.size]? = some (.cells #[.int .i64 0, .string pth, .string lk, .int .i64 nm, .int .i64 nu, .int .i64 ng, .int .i64 nt, .string us, .string gr, .string ⟨#[]⟩, .string fl, .int .i64 nz] 37 (0, 0)) ∧ (w'.heap[w.heap.size]? = some (.cells zEnt 23 (0, 0)) ∨ w'.heap[w.heap.size]? = some (.cells #[.int .i64 0, .string pth, .string lk, .int .i64 nm, .int .i64 nu, .int .i64 ng, .int .i64 nt, .string us, .string gr, .string ⟨#[]⟩] 23 (0, 0)))) (St := fun x y => y.heap[w.heap.size]? = x.heap[w.heap.size]? ∨ y.heap[w.heap.size]? = some (.cells #[.int .i64 0, .string pth, .string lk, .int .i64 nm, .int .i64 nu, .int .i64 ng, .int .i64 nt, .string us, .string gr, .string ⟨#[]⟩] 23 (0, 0))) (V := fun d v _ => match d with | 13 => v = .pointer (some ⟨w1.heap.size, 0, none⟩) | 14 => v = .agg #[.int .i64 0, .string pth, .string lk, .int .i64 nm, .int .i64 nu, .int .i64 ng, .int .i64 nt, .string us, .string gr, .string ⟨#[]⟩] | 15 => v = .pointer (some ⟨w1.heap.size, 10, none⟩) | 16 => v = .string fl | 17 => v = .pointer (some ⟨w1.heap.size, 11, none⟩) | 18 => v = .int .i64 nz | 19 => v = .nilIface | 20 => v = .int .i64 0 | 3 => v = .string fl | 4 => v = .int .i64 nz | 5 => v = .int .i64 0 | _ => True) (U := fun o w' => o.dst = none → w'.heap[w.heap.size]? = some (.cells #[.int .i64 0, .string pth, .string lk, .int .i64 nm, .int .i64 nu, .int .i64 ng, .int .i64 nt, .string us, .string gr, .string ⟨#[]⟩] 23 (0, 0))) (w' := w2) (.string fl) ?_ ?_ ?_ ?_ ?_
      · (clear hV hI hC; go_simp <;> (first | rfl | simp))
      · exact hC
      · exact Or.inl rfl
      · intro d hd; cases hd; rfl
      · intro h; cases h
    case o4 =>
      intro Q a w2 hC hV hI
      have e18 : a.eval (.tmp 18) = .int .i64 nz := hV 18 (by simp [Op.operands]) (by kernel_rfl)
      have f18 : a.tmps.getD 18 undef = .int .i64 nz := e18
      have g18 : a.tmps[18]?.getD undef = .int .i64 nz := by rw [← Array.getD_eq_getD_getElem?]; exact e18
      refine opU_val (C := fun w' => Below w.heap.size w w' ∧ w'.heap[w1.heap.size]? = some (.cells #[.int .i64 0, .string pth, .string lk, .int .i64 nm, .int .i64 nu, .int .i64 ng, .int .i64 nt, .string us, .string gr, .string ⟨#[]⟩, .string fl, .int .i64 nz] 37 (0, 0)) ∧ (w'.heap[w.heap.size]? = some (.cells zEnt 23 (0, 0)) ∨ w'.heap[w.heap.size]? = some (.cells #[.int .i64 0, .string pth, .string lk, .int .i64 nm, .int .i64 nu, .int .i64 ng, .int .i64 nt, .string us, .string gr, .string ⟨#[]⟩] 23 (0, 0)))) (St := fun x y => y.heap[w.heap.size]? = x.heap[w.heap.size]? ∨ y.heap[w.heap.size]? = some (.cells #[.int .i64 0, .string pth, .string lk, .int .i64 nm, .int .i64 nu, .int .i64 ng, .int .i64 nt, .string us, .string gr, .string ⟨#[]⟩] 23 (0, 0))) (V := fun d v _ => match d with | 13 => v = .pointer (some ⟨w1.heap.size, 0, none⟩) | 14 => v = .agg #[.int .i64 0, .string pth, .string lk, .int .i64 nm, .int .i64 nu, .int .i64 ng, .int .i64 nt, .string us, .string gr, .string ⟨#[]⟩] | 15 => v = .pointer (some ⟨w1.heap.size, 10, none⟩) | 16 => v = .string fl | 17 => v = .pointer (some ⟨w1.heap.size, 11, none⟩) | 18 => v = .int .i64 nz | 19 => v = .nilIface | 20 => v = .int .i64 0 | 3 => v = .string fl | 4 => v = .int .i64 nz | 5 => v = .int .i64 0 | _ => True) (U := fun o w' => o.dst = none → w'.heap[w.heap.size]? = some (.cells #[.int .i64 0, .string pth, .string lk, .int .i64 nm, .int .i64 nu, .int .i64 ng, .int .i64 nt, .string us, .string gr, .string ⟨#[]⟩] 23 (0, 0))) (w' := w2) (.int .i64 nz) ?_ ?_ ?_ ?_ ?_
      · (clear hV hI hC; go_simp <;> (first | rfl | simp))
      · exact hC
      · exact Or.inl rfl
      · intro d hd; cases hd; rfl
      · intro h; cases h
    case o5 =>
      intro Q a w2 hC hV hI
      have e20 : a.eval (.tmp 20) = .int .i64 0 := hV 20 (by simp [Op.operands]) (by kernel_rfl)
      have f20 : a.tmps.getD 20 undef = .int .i64 0 := e20
      have g20 : a.tmps[20]?.getD undef = .int .i64 0 := by rw [← Array.getD_eq_getD_getElem?]; exact e20
      refine opU_val (C := fun w' => Below w.heap.size w w' ∧ w'.heap[w1.heap.size]? = some (.cells #[.int .i64 0, .string pth, .string lk, .int .i64 nm, .int .i64 nu, .int .i64 ng, .int .i64 nt, .string us, .string gr, .string ⟨#[]⟩, .string fl, .int .i64 nz] 37 (0, 0)) ∧ (w'.heap[w.heap.size]? = some (.cells zEnt 23 (0, 0)) ∨ w'.heap[w.heap.size]? = some (.cells #[.int .i64 0, .string pth, .string lk, .int .i64 nm, .int .i64 nu, .int .i64 ng, .int .i64 nt, .string us, .string gr, .string ⟨#[]⟩] 23 (0, 0)))) (St := fun x y => y.heap[w.heap.size]? = x.heap[w.heap.size]? ∨ y.heap[w.heap.size]? = some (.cells #[.int .i64 0, .string pth, .string lk, .int .i64 nm, .int .i64 nu, .int .i64 ng, .int .i64 nt, .string us, .string gr, .string ⟨#[]⟩] 23 (0, 0))) (V := fun d v _ => match d with | 13 => v = .pointer (some ⟨w1.heap.size, 0, none⟩) | 14 => v = .agg #[.int .i64 0, .string pth, .string lk, .int .i64 nm, .int .i64 nu, .int .i64 ng, .int .i64 nt, .string us, .string gr, .string ⟨#[]⟩] | 15 => v = .pointer (some ⟨w1.heap.size, 10, none⟩) | 16 => v = .string fl | 17 => v = .pointer (some ⟨w1.heap.size, 11, none⟩) | 18 => v = .int .i64 nz | 19 => v = .nilIface | 20 => v = .int .i64 0 | 3 => v = .string fl | 4 => v = .int .i64 nz | 5 => v = .int .i64 0 | _ => True) (U := fun o w' => o.dst = none → w'.heap[w.heap.size]? = some (.cells #[.int .i64 0, .string pth, .string lk, .int .i64 nm, .int .i64 nu, .int .i64 ng, .int .i64 nt, .string us, .string gr, .string ⟨#[]⟩] 23 (0, 0))) (w' := w2) (.int .i64 0) ?_ ?_ ?_ ?_ ?_
      · (clear hV hI hC; go_simp <;> (first | rfl | simp))
      · exact hC
      · exact Or.inl rfl
      · intro d hd; cases hd; rfl
      · intro h; cases h
  case hend =>
    intro f w5 hC hall huall
    simp only [List.forall_mem_cons] at hall
    obtain ⟨h13, h14, h15, h16, h17, h18, h19, h20, _, h3, h4, h5, _⟩ := hall
    simp only [List.forall_mem_cons] at huall
    obtain ⟨_, _, _, _, _, _, _, _, hus, _, _, _, _⟩ := huall
    replace h13 : f 13 = .pointer (some ⟨w1.heap.size, 0, none⟩) := h13 13 rfl
    replace h14 : f 14 = .agg #[.int .i64 0, .string pth, .string lk, .int .i64 nm, .int .i64 nu, .int .i64 ng, .int .i64 nt, .string us, .string gr, .string ⟨#[]⟩] := h14 14 rfl
    replace h15 : f 15 = .pointer (some ⟨w1.heap.size, 10, none⟩) := h15 15 rfl
    replace h16 : f 16 = .string fl := h16 16 rfl
    replace h17 : f 17 = .pointer (some ⟨w1.heap.size, 11, none⟩) := h17 17 rfl
    replace h18 : f 18 = .int .i64 nz := h18 18 rfl
    replace h19 : f 19 = .nilIface := h19 19 rfl
    replace h20 : f 20 = .int .i64 0 := h20 20 rfl
    replace h3 : f 3 = .string fl := h3 3 rfl
    replace h4 : f 4 = .int .i64 nz := h4 4 rfl
    replace h5 : f 5 = .int .i64 0 := h5 5 rfl
    simp only [putAll, Act.put, List.setIfInBounds_toArray, List.set_cons_succ, List.set_cons_zero, h13, h14, h15, h16, h17, h18, h19, h20, h3, h4, h5]
    clear h13 h14 h15 h16 h17 h18 h19 h20 h3 h4 h5
    have R5 := Lib.hid (hus trivial)
    have B5 := Lib.hid hC.1
    clear hC hus
    go_wp2
    refine bodyPost_ret (results_cell4 rfl _ _ w.heap.size _ #[.int .i64 0, .string pth, .string lk, .int .i64 nm, .int .i64 nu, .int .i64 ng, .int .i64 nt, .string us, .string gr, .string ⟨#[]⟩] (0, 0) _ rfl R5.out Tryz.underlying23 rfl (by rw [Tryz.sizeEnt]; rfl)) rfl ?_
    rw [HE.out]
    exact ⟨rfl, B5.out⟩
theorem getHead_impl (s : ByteArray) (w : World) (hs : s.size ≤ 1048576) (hT : Tabs w) (hF : FW w) (hH : Handle w) :
    Calls Tryz.prog 9 #[.string s] w fun e w' => e = .returned (getV s) ∧ Below w.heap.size w w' := by
  by_cases h : hdc s = 0
  · exact getHead_good s w hs h hT hF hH
  · exact getHead_bad s w hs h hT hF hH
end Go.Proofs.YtgpgkgahbkmdiabGreatDoor

/- Contracts of spec.l04Num and spec.l04Kind. -/
namespace Go.Proofs.YtgpgkgahbkmdiabGreatDoor
open Go.ChangeShapes Go.WideShapes Go.ChangeAt Go.RowKit

theorem fnum_last {f : ByteArray} {m : Nat} (hm : f.size = m + 1) (q : m < f.size) : (decide (f.data.toList.drop (f.size - 1) = [0])) = decide (f[m] = 0) := by
  have hl : m < f.data.toList.length := by simpa using q
  rw [hm, Nat.add_sub_cancel, List.drop_eq_getElem_cons hl, List.drop_eq_nil_of_le (by simp; omega)]
  simp
  rfl
set_option maxHeartbeats 1600000 in
theorem num_spec (f : ByteArray) (w : World) (h1 : 1 ≤ f.size) (h2 : f.size ≤ 4194304) :
    Calls Tryz.prog 48 #[.string f] w fun e w' => e = .returned (.tuple #[.int .i64 (fnumv f), .bool (fnumOk f)]) ∧ Below w.heap.size w w' := by
  obtain ⟨m, hm⟩ : ∃ m, f.size = m + 1 := ⟨f.size - 1, by omega⟩
  have q : m < f.size := by omega
  have HO : Hid (fnumOk f = ((getOctv (f.extract 0 m).data.toList).2 && decide (f[m] = 0))) := Lib.hid (by rw [fnumOk, fnum_last hm q, ext0, hm, Nat.add_sub_cancel])
  have HN : Hid (fnumv f = (getOctv (f.extract 0 m).data.toList).1) := Lib.hid (by rw [fnumv, ext0, hm, Nat.add_sub_cancel])
  have H := Lib.hid (fun w => getOct_spec (f.extract 0 m) w (by rw [ByteArray.size_extract]; omega))
  generalize fnumOk f = ov at HO
  generalize fnumv f = nv at HN
  generalize getOctv (f.extract 0 m).data.toList = pr at *
  obtain ⟨n, o⟩ := pr
  simp only at HO HN H
  have c0 : (f.size : Int) - 1 = (m : Int) := by omega
  have c1 : (0 : Int) ≤ (m : Int) := by omega
  have c2 : (m : Int) ≤ (f.size : Int) := by omega
  have c3 : (m : Int) < (f.size : Int) := by omega
  have HM := Lib.hid hm
  clear hm
  cases o with
  | false =>
    go_enter Tryz.func48, Tryz.ntmps48
    go_wp2_with fail
    refine (H.out _).mono ?_
    rintro e w1 ⟨rfl, rfl⟩
    go_wp2_with fail
    go_region
    go_wp2
    go_ret2
    exact ⟨by rw [HO.out, HN.out]; rfl, ⟨rfl, rfl, rfl, Nat.le_refl _, fun _ _ => rfl⟩⟩
  | true =>
    by_cases hc : f[m] = 0
    · have hc' : (((f[m].toNat : Nat) : Int) == 0) = true := by rw [hc]; rfl
      have HO2 : Hid (ov = true) := Lib.hid (by rw [HO.out, hc]; rfl)
      clear hc HO
      go_enter Tryz.func48, Tryz.ntmps48
      go_wp2_with fail
      refine (H.out _).mono ?_
      rintro e w1 ⟨rfl, rfl⟩
      go_wp2_with fail
      go_region
      go_wp2
      go_ret2
      exact ⟨by rw [HO2.out, HN.out]; rfl, ⟨rfl, rfl, rfl, Nat.le_refl _, fun _ _ => rfl⟩⟩
    · have hc' : (((f[m].toNat : Nat) : Int) == 0) = false := byte_eq0 hc
      have HO2 : Hid (ov = false) := Lib.hid (by rw [HO.out]; simp [hc])
      clear hc HO
      go_enter Tryz.func48, Tryz.ntmps48
      go_wp2_with fail
      refine (H.out _).mono ?_
      rintro e w1 ⟨rfl, rfl⟩
      go_wp2_with fail
      go_region
      go_wp2
      go_ret2
      exact ⟨by rw [HO2.out, HN.out]; rfl, ⟨rfl, rfl, rfl, Nat.le_refl _, fun _ _ => rfl⟩⟩
set_option maxRecDepth 8000 in
theorem kindS_any (p l : ByteArray) (m u g t : Int) (us gr b fl : ByteArray) (w : World) :
    Calls Tryz.prog 24 #[.agg #[.int .i64 0, .string p, .string l, .int .i64 m, .int .i64 u, .int .i64 g, .int .i64 t, .string us, .string gr, .string b], .string fl] w fun e w' => e = .returned (.agg #[.int .i64 (if 0 ≤ kindv fl then kindv fl else 0), .string p, .string l, .int .i64 m, .int .i64 u, .int .i64 g, .int .i64 t, .string us, .string gr, .string b]) ∧ Below w.heap.size w w' := by
  have H := Lib.hid (fun w => kind_spec fl w)
  generalize kindv fl = kv at *
  have OB := two_obj w (.cells #[.int .i64 0, .string p, .string l, .int .i64 m, .int .i64 u, .int .i64 g, .int .i64 t, .string us, .string gr, .string b] 23) (.cells zEnt 23)
  have OB' := Lib.hid OB
  have BN := Lib.hid (And.intro OB.2.2.1 (show w.heap.size + 2 ≤ ((w.alloc (.cells #[.int .i64 0, .string p, .string l, .int .i64 m, .int .i64 u, .int .i64 g, .int .i64 t, .string us, .string gr, .string b] 23)).alloc (.cells zEnt 23)).heap.size by simp))
  clear OB
  by_cases hk : 0 ≤ kv
  · rw [if_pos hk]
    go_enter Tryz.func24, Tryz.ntmps24
    go_wp2_with fail
    refine (H.out _).mono ?_
    rintro e w1 ⟨rfl, hb⟩
    have E1 := (hb.block _ (obj_lt OB'.out.1)).trans OB'.out.1
    have R1 := (hb.block _ (obj_lt OB'.out.2.1)).trans OB'.out.2.1
    have B1 := Lib.hid (BN.out.1.trans (hb.mono BN.out.1.size))
    have cE : w1.cell? ⟨w.heap.size, 0, none⟩ = some (.int .i64 0) := by rw [cell_of_row _ _ _ _ _ _ E1]; rfl
    have fE : w1.frozen? ⟨w.heap.size, 0, none⟩ = false := obj_frozen E1
    have E2 : (w1.setCell ⟨w.heap.size, 0, none⟩ (.int .i64 kv)).heap[w.heap.size]? = some (.cells #[.int .i64 kv, .string p, .string l, .int .i64 m, .int .i64 u, .int .i64 g, .int .i64 t, .string us, .string gr, .string b] 23 (0, 0)) := Go.heap_setCell_same _ _ _ _ _ _ E1
    have R2 : (w1.setCell ⟨w.heap.size, 0, none⟩ (.int .i64 kv)).heap[w.heap.size + 1]? = some (.cells zEnt 23 (0, 0)) := by rw [Below.heap_setCell _ _ _ _ (by simp)]; exact R1
    have HLd := Lib.hid (run_loadVar_row (P := Tryz.prog) _ _ 23 23 _ (0, 0) _ E2 Tryz.underlying23 rfl (by rw [Tryz.sizeEnt]; rfl))
    have HSt := Lib.hid (run_storeVar_row (P := Tryz.prog) _ (w.heap.size + 1) 23 23 zEnt #[.int .i64 kv, .string p, .string l, .int .i64 m, .int .i64 u, .int .i64 g, .int .i64 t, .string us, .string gr, .string b] R2 (by rw [Tryz.sizeEnt]; rfl) rfl (by simp [Value.oneCell']))
    have HR2 := Lib.hid R2
    have B2 := Lib.hid ((B1.out.setCell (p := ⟨w.heap.size, 0, none⟩) (Nat.le_refl _) (.int .i64 kv)))
    clear hb E1 R1 E2 R2 BN OB'
    go_wp2_with (first | ((with_reducible refine wpList_load_eq rfl 23 _ rfl ⟨w.heap.size, 0, none⟩ ?_ HLd.out ?_); rfl) | ((with_reducible refine wpList_store_eq rfl 23 _ _ rfl ⟨w.heap.size + 1, 0, none⟩ ?_ ?_ HSt.out ?_); rfl; rfl))
    exact bodyPost_ret (results_cell_row rfl _ _ (w.heap.size + 1) _ #[.int .i64 kv, .string p, .string l, .int .i64 m, .int .i64 u, .int .i64 g, .int .i64 t, .string us, .string gr, .string b] (0, 0) _ rfl (setRow_heap _ _ _ _ _ _ HR2.out) Tryz.underlying23 rfl (by rw [Tryz.sizeEnt]; rfl)) rfl ⟨rfl, B2.out.trans (below_set (Nat.le_succ _) _)⟩
  · rw [if_neg hk]
    go_enter Tryz.func24, Tryz.ntmps24
    go_wp2_with fail
    refine (H.out _).mono ?_
    rintro e w1 ⟨rfl, hb⟩
    have E1 := (hb.block _ (obj_lt OB'.out.1)).trans OB'.out.1
    have R1 := (hb.block _ (obj_lt OB'.out.2.1)).trans OB'.out.2.1
    have B1 := Lib.hid (BN.out.1.trans (hb.mono BN.out.1.size))
    have HLd := Lib.hid (run_loadVar_row (P := Tryz.prog) _ _ 23 23 _ (0, 0) _ E1 Tryz.underlying23 rfl (by rw [Tryz.sizeEnt]; rfl))
    have HSt := Lib.hid (run_storeVar_row (P := Tryz.prog) _ (w.heap.size + 1) 23 23 zEnt #[.int .i64 0, .string p, .string l, .int .i64 m, .int .i64 u, .int .i64 g, .int .i64 t, .string us, .string gr, .string b] R1 (by rw [Tryz.sizeEnt]; rfl) rfl (by simp [Value.oneCell']))
    have HR2 := Lib.hid R1
    clear hb E1 R1 BN OB'
    go_wp2_with (first | ((with_reducible refine wpList_load_eq rfl 23 _ rfl ⟨w.heap.size, 0, none⟩ ?_ HLd.out ?_); rfl) | ((with_reducible refine wpList_store_eq rfl 23 _ _ rfl ⟨w.heap.size + 1, 0, none⟩ ?_ ?_ HSt.out ?_); rfl; rfl))
    exact bodyPost_ret (results_cell_row rfl _ _ (w.heap.size + 1) _ #[.int .i64 0, .string p, .string l, .int .i64 m, .int .i64 u, .int .i64 g, .int .i64 t, .string us, .string gr, .string b] (0, 0) _ rfl (setRow_heap _ _ _ _ _ _ HR2.out) Tryz.underlying23 rfl (by rw [Tryz.sizeEnt]; rfl)) rfl ⟨rfl, B1.out.trans (below_set (Nat.le_succ _) _)⟩
end Go.Proofs.YtgpgkgahbkmdiabGreatDoor

/- A statement that draws its order but for its last operations, which come behind all others in their own order. Nothing of the program is said here. -/
namespace Go.Proofs.YtgpgkgahbkmdiabGreatDoor
open Go

section
variable {P : Program} {Q : Exit → Act → World → Prop}

/-- Each operation ahead of i has one behind it, up to i, that waits for it. -/
def covB (md : Region.Mode) (ops : Array Oper) (i : Nat) : Bool :=
  (List.range i).all fun k => (List.range (i + 1)).any fun k' => decide (k < k') && (match ops[k']? with | some o => o.after.any (fun e => Region.binds md e && e.on == k) | none => false)
def tailB (md : Region.Mode) (l t : List Oper) : Bool :=
  t.all (fun o => o.guard.isNone) && (List.range t.length).all (fun j => covB md (l ++ t).toArray (l.length + j)) && (List.range t.length).all (fun j => match (l ++ t).toArray[l.length + j]? with | some o => o.after.all (fun e => !Region.binds md e || decide (e.on < l.length + j)) | none => true)
theorem cov_all {md : Region.Mode} {ops : Array Oper} {i : Nat} {o : Oper} {listed : Array Bool} (hc : covB md ops i = true) (ho : ops[i]? = some o)
    (clo : ∀ j p, ops[j]? = some p → listed.getD j false = true → ∀ e ∈ p.after, Region.binds md e = true → listed.getD e.on false = true)
    (hall : ∀ e ∈ o.after, Region.binds md e = true → listed.getD e.on false = true) : ∀ k, k < i → listed.getD k false = true := by
  have key : ∀ n k, k < i → i - k ≤ n → listed.getD k false = true := by
    intro n
    induction n with
    | zero => intro k hk hn; omega
    | succ n ih =>
      intro k hk hn
      have h1 := List.all_eq_true.1 hc k (List.mem_range.2 hk)
      obtain ⟨k', hk', h2⟩ := List.any_eq_true.1 h1
      rw [List.mem_range] at hk'
      simp only [Bool.and_eq_true, decide_eq_true_eq] at h2
      cases hp : ops[k']? with
      | none => rw [hp] at h2; simp at h2
      | some p =>
        rw [hp] at h2
        simp only [Array.any_eq_true', Bool.and_eq_true, beq_iff_eq] at h2
        obtain ⟨hlt, e, he, hb, rfl⟩ := h2
        by_cases q : k' = i
        · subst q
          rw [ho] at hp
          obtain rfl := Option.some.inj hp
          exact hall e he hb
        · exact clo k' p hp (ih k' (by omega) (by omega)) e he hb
  exact fun k hk => key (i - k) k hk (Nat.le_refl _)
theorem wp_region_tail {id : Nat} {a0 : Act} {w0 : World} (l t : List Oper) (hm : P.follows .mixedOrders = true) (C : World → Prop) (St : World → World → Prop) (V : Nat → Value → World → Prop) (hB : regB .any l.toArray a0.tmps.size = true) (hTl : tailB .any l t = true)
    (hC : C { w0 with drawn := w0.drawn + 1 }) (hV : ∀ d v w w', C w → St w w' → V d v w → V d v w') (hne : l ≠ []) (hops : ∀ o ∈ l, OpOk P l.toArray C St V a0 o)
    (hend : ∀ (f : Nat → Value) (w : World), C w → (∀ o ∈ l, ∀ d, o.dst = some d → V d (f d) w) → wpList P (l ++ t).toArray Q t (putAll f l a0) w) : (Code.region id (l ++ t).toArray true).wp P Q a0 w0 := by
  simp only [tailB, Bool.and_eq_true] at hTl
  obtain ⟨⟨hg, hcov⟩, hlt⟩ := hTl
  have hsz : (l ++ t).toArray.size = l.length + t.length := by simp
  have hleft : ∀ i o, i < l.length → ((l ++ t).toArray[i]? = some o ↔ l.toArray[i]? = some o) := by
    intro i o hi
    simp [List.getElem?_append_left hi]
  refine wp_region_any hm (wpAny_inv (fun listed a w => listed.size = (l ++ t).toArray.size ∧ (∀ j p, (l ++ t).toArray[j]? = some p → listed.getD j false = true → ∀ e ∈ p.after, Region.binds .any e = true → listed.getD e.on false = true) ∧
    ((∃ k, k ≤ t.length ∧ (∀ i, i < l.length + k → listed.getD i false = true) ∧ (∀ i, l.length + k ≤ i → listed.getD i false = false) ∧ wpList P (l ++ t).toArray Q (t.drop k) a w) ∨
     ((∃ i, i < l.length ∧ listed.getD i false = false) ∧ (∀ i, l.length ≤ i → listed.getD i false = false) ∧ C w ∧ a.defers = a0.defers ∧ a.tmps.size = a0.tmps.size ∧
      (∀ s, (∀ i o, l.toArray[i]? = some o → listed.getD i false = true → o.dst ≠ some s) → a.tmps.getD s undef = a0.tmps.getD s undef) ∧
      (∀ i o d, l.toArray[i]? = some o → listed.getD i false = true → o.dst = some d → V d (a.tmps.getD d undef) w)))) ?_ ?_ _ _ _ _ ?_ ?_)
  · rintro listed a w ⟨hs, clo, hI⟩ i hi
    obtain ⟨hun, o, ho, hall⟩ := mem_ready.1 hi
    have hil : i < listed.size := by rw [hs]; exact (Array.getElem?_eq_some_iff.1 ho).1
    have hun' : listed.getD i false = false := by simp only [Array.getD, hil, dif_pos] at hun ⊢; exact hun
    have hup : ∀ k, listed.getD k false = true → (listed.setIfInBounds i true).getD k false = true := fun k hk => by
      by_cases q : k = i
      · subst q; exact set_getD_self hil
      · rw [set_getD_ne q]; exact hk
    have clo' : ∀ j p, (l ++ t).toArray[j]? = some p → (listed.setIfInBounds i true).getD j false = true → ∀ e ∈ p.after, Region.binds .any e = true → (listed.setIfInBounds i true).getD e.on false = true := by
      intro j p hp hl e he hb
      by_cases hj : j = i
      · subst hj
        rw [ho] at hp
        obtain rfl := Option.some.inj hp
        exact hup _ (hall e he hb)
      · rw [set_getD_ne hj] at hl
        exact hup _ (clo j p hp hl e he hb)
    rcases hI with ⟨k, hk, h1, h2, hw⟩ | ⟨⟨i0, hi0, hu0⟩, hnt, hCw, hd, hts, hold, hnew⟩
    · have hik : l.length + k ≤ i := by
        by_cases q : l.length + k ≤ i
        · exact q
        · rw [h1 i (by omega)] at hun'; cases hun'
      have hit : i < l.length + t.length := by rw [← hsz]; exact (Array.getElem?_eq_some_iff.1 ho).1
      have hcv : covB .any (l ++ t).toArray i = true := by
        have := List.all_eq_true.1 hcov (i - l.length) (List.mem_range.2 (by omega))
        rwa [show l.length + (i - l.length) = i from by omega] at this
      have hbef := cov_all hcv ho clo hall
      obtain rfl : i = l.length + k := by
        by_cases q : i = l.length + k
        · exact q
        · have := hbef (l.length + k) (by omega)
          rw [h2 _ (Nat.le_refl _)] at this
          cases this
      have hkt : k < t.length := by omega
      have hot : t[k]? = some o := by
        have : (l ++ t)[l.length + k]? = some o := by simpa using ho
        rw [List.getElem?_append_right (by omega)] at this
        simpa using this
      have hgd : o.guard = none := by
        have := List.all_eq_true.1 hg o (List.mem_of_getElem? hot)
        simpa using this
      have hwant : Region.wanted o (yielded (l ++ t).toArray a.tmps) = true := by simp [Region.wanted, hgd]
      have hdrop : t.drop k = o :: t.drop (k + 1) := by
        rw [List.drop_eq_getElem_cons hkt]
        congr 1
        have := List.getElem?_eq_getElem hkt
        rw [hot] at this
        exact (Option.some.inj this).symm
      rw [hdrop, wpList, if_pos hwant] at hw
      unfold wpOp
      simp only [ho, hwant, if_true]
      refine hw.imp (Oper.wp_mono (fun a' w' h' => ?_)) (fun x => x)
      refine ⟨by simpa using hs, clo', .inl ⟨k + 1, by omega, fun j hj => ?_, fun j hj => ?_, h'⟩⟩
      · by_cases q : j = l.length + k
        · subst q; exact set_getD_self hil
        · rw [set_getD_ne q]; exact h1 j (by omega)
      · rw [set_getD_ne (by omega)]; exact h2 j (by omega)
    · have him : i < l.length := by
        by_cases q : i < l.length
        · exact q
        · have hit : i < l.length + t.length := by rw [← hsz]; exact (Array.getElem?_eq_some_iff.1 ho).1
          have hcv : covB .any (l ++ t).toArray i = true := by
            have := List.all_eq_true.1 hcov (i - l.length) (List.mem_range.2 (by omega))
            rwa [show l.length + (i - l.length) = i from by omega] at this
          have := cov_all hcv ho clo hall i0 (by omega)
          rw [hu0] at this
          cases this
      have hol := (hleft i o him).1 ho
      have hat := regB_at hB hol
      have hmem : o ∈ l := by
        have := Array.mem_of_getElem? hol
        simpa using this
      have hwant : Region.wanted o (yielded (l ++ t).toArray a.tmps) = true := by simp [Region.wanted, hat.1]
      have hrun := hops o hmem Q a w hCw (fun s hs' hin => ?_) (fun s hs' hin => ?_)
      · unfold wpOp
        simp only [ho, hwant, if_true]
        refine .inl (Oper.wp_mono (fun a' w' h' => ?_) hrun)
        obtain ⟨v, rfl, hC', hSt, hv⟩ := h'
        have hd' : (a.put o.dst v).defers = a0.defers := by cases hdst : o.dst <;> simp [Act.put, hd]
        have hts' : (a.put o.dst v).tmps.size = a0.tmps.size := by cases hdst : o.dst <;> simp [Act.put, hts]
        have hold' : ∀ s, (∀ j p, l.toArray[j]? = some p → (listed.setIfInBounds i true).getD j false = true → p.dst ≠ some s) → (a.put o.dst v).tmps.getD s undef = a0.tmps.getD s undef := by
          intro s hs'
          have hne' : o.dst ≠ some s := hs' i o hol (set_getD_self hil)
          have h1 := hold s (fun j p hp hl => hs' j p hp (hup j hl))
          rw [← h1]
          cases hdst : o.dst with
          | none => rfl
          | some d =>
            have hdt : d ≠ s := fun e => hne' (by rw [hdst, e])
            exact getD_put_ne hdt
        have hnew' : ∀ j p d, l.toArray[j]? = some p → (listed.setIfInBounds i true).getD j false = true → p.dst = some d → V d ((a.put o.dst v).tmps.getD d undef) w' := by
          intro j p d hp hl hd2
          by_cases hj : j = i
          · subst hj
            rw [hol] at hp
            obtain rfl := Option.some.inj hp
            have hdl := hat.2.1 d hd2
            have : (a.put o.dst v).tmps.getD d undef = v := by
              rw [hd2]; simp [Act.put, Array.getD, hts, hdl]
            rw [this]
            exact hv d hd2
          · have hl' : listed.getD j false = true := by rw [set_getD_ne hj] at hl; exact hl
            have hne' : o.dst ≠ some d := ((hat.2.2.2 j p d hp hd2).1).resolve_left (Ne.symm hj)
            have hold2 := hnew j p d hp hl' hd2
            have : (a.put o.dst v).tmps.getD d undef = a.tmps.getD d undef := by
              cases hdst : o.dst with
              | none => rfl
              | some d' =>
                have hdt : d' ≠ d := fun e => hne' (by rw [hdst, e])
                exact getD_put_ne hdt
            rw [this]
            exact hV d _ _ _ hCw hSt hold2
        have hnt' : ∀ j, l.length ≤ j → (listed.setIfInBounds i true).getD j false = false := fun j hj => by rw [set_getD_ne (by omega)]; exact hnt j hj
        refine ⟨by simpa using hs, clo', ?_⟩
        by_cases hfull : ∀ j, j < l.length → (listed.setIfInBounds i true).getD j false = true
        · refine .inl ⟨0, Nat.zero_le _, fun j hj => hfull j (by omega), fun j hj => hnt' j (by omega), ?_⟩
          have hput := putAll_facts (fun d => (a.put o.dst v).tmps.getD d undef) l a0
          have ha : a.put o.dst v = putAll (fun d => (a.put o.dst v).tmps.getD d undef) l a0 := by
            refine act_ext (hd'.trans hput.1.symm) (hts'.trans hput.2.1.symm) (fun s hs' => ?_)
            rw [hput.2.1] at hs'
            rw [hput.2.2 s hs']
            by_cases h : l.any (fun o => o.dst == some s) = true
            · rw [if_pos h]
            · rw [if_neg h]
              refine hold' s (fun j p hp _ hd2 => h ?_)
              rw [List.any_eq_true]
              exact ⟨p, by have := Array.mem_of_getElem? hp; simpa using this, by rw [hd2]; simp⟩
          rw [List.drop_zero, ha]
          refine hend _ w' hC' (fun p hp d hd2 => ?_)
          obtain ⟨j, hj⟩ := List.mem_iff_getElem?.1 hp
          have hj' : l.toArray[j]? = some p := by simpa using hj
          exact hnew' j p d hj' (hfull j (List.getElem?_eq_some_iff.1 hj).1) hd2
        · refine .inr ⟨?_, hnt', hC', hd', hts', hold', hnew'⟩
          obtain ⟨j, hj⟩ := Classical.not_forall.1 hfull
          obtain ⟨hj1, hj2⟩ := Classical.not_imp.1 hj
          exact ⟨j, hj1, by simpa using hj2⟩
      · obtain ⟨j, p, hp, hd2⟩ := oldB_f hin
        obtain ⟨e, he, hb, rfl⟩ := (hat.2.2.2 j p s hp hd2).2 (by simpa using hs') hin
        exact hnew e.on p s hp (hall e he hb) hd2
      · refine hold s (fun j p hp hl hd2 => ?_)
        obtain ⟨d, hod, e, he, hb, hq⟩ := oldB_t hin hp hd2
        have hjl : j < l.length := by have := (Array.getElem?_eq_some_iff.1 hp).1; simpa using this
        have hel := clo j p ((hleft j p hjl).2 hp) hl e he hb
        cases hqq : l.toArray[e.on]? with
        | none => rw [hqq] at hq; cases hq
        | some q =>
          rw [hqq] at hq
          rcases (hat.2.2.2 e.on q d hqq hq).1 with rfl | h
          · rw [hun'] at hel; cases hel
          · exact h hod
  · rintro listed a w ⟨hs, clo, hI⟩ hr
    have hal : ∀ i, i < (l ++ t).toArray.size → listed.getD i false = true := by
      intro i
      induction i using Nat.strongRecOn with
      | ind i ih =>
        intro hi
        cases h : listed.getD i false with
        | true => rfl
        | false =>
          have ho : (l ++ t).toArray[i]? = some (l ++ t).toArray[i] := Array.getElem?_eq_getElem hi
          have hmem : i ∈ Region.ready .any (l ++ t).toArray listed := by
            have hil : i < listed.size := by rw [hs]; exact hi
            refine mem_ready.2 ⟨by simp only [Array.getD, hil, dif_pos] at h ⊢; exact h, _, ho, fun e he hb => ?_⟩
            have hlt2 : e.on < i := by
              by_cases q : i < l.length
              · exact (regB_at hB ((hleft i _ q).1 ho)).2.2.1 e he hb
              · have h3 := List.all_eq_true.1 hlt (i - l.length) (List.mem_range.2 (by omega))
                rw [show l.length + (i - l.length) = i from by omega, ho] at h3
                have := Array.all_eq_true'.1 h3 e he
                simpa [hb] using this
            exact ih e.on hlt2 (by omega)
          rw [hr] at hmem
          cases hmem
    rcases hI with ⟨k, hk, h1, h2, hw⟩ | ⟨⟨i0, hi0, hu0⟩, _⟩
    · obtain rfl : k = t.length := by
        by_cases q : k = t.length
        · exact q
        · have := hal (l.length + k) (by omega)
          rw [h2 _ (Nat.le_refl _)] at this
          cases this
      rw [List.drop_length] at hw
      exact hw
    · have := hal i0 (by omega)
      rw [hu0] at this
      cases this
  · unfold openOps
    exact Nat.le_trans (List.length_filter_le _ _) (by simp)
  · have hf : ∀ i, (Array.replicate (l ++ t).toArray.size false).getD i false = false := fun i => by
      simp [Array.getD]
    have hpos : 0 < l.length := by
      cases l with
      | nil => exact absurd rfl hne
      | cons _ _ => simp
    refine ⟨by simp, ?_, .inr ⟨⟨0, hpos, hf 0⟩, fun i _ => hf i, hC, rfl, rfl, fun s _ => rfl, ?_⟩⟩
    · intro j p _ hl
      rw [hf] at hl; cases hl
    · intro i o d _ hl
      rw [hf] at hl; cases hl
theorem wp_region_cut {id : Nat} {a0 : Act} {w0 : World} {full : List Oper} (K : Nat) (hm : P.follows .mixedOrders = true) (C : World → Prop) (St : World → World → Prop) (V : Nat → Value → World → Prop) (hB : regB .any (full.take K).toArray a0.tmps.size = true) (hTl : tailB .any (full.take K) (full.drop K) = true)
    (hC : C { w0 with drawn := w0.drawn + 1 }) (hV : ∀ d v w w', C w → St w w' → V d v w → V d v w') (hne : full.take K ≠ []) (hops : ∀ o ∈ full.take K, OpOk P (full.take K).toArray C St V a0 o)
    (hend : ∀ (f : Nat → Value) (w : World), C w → (∀ o ∈ full.take K, ∀ d, o.dst = some d → V d (f d) w) → wpList P full.toArray Q (full.drop K) (putAll f (full.take K) a0) w) : (Code.region id full.toArray true).wp P Q a0 w0 := by
  have h := wp_region_tail (P := P) (Q := Q) (id := id) (a0 := a0) (w0 := w0) (full.take K) (full.drop K) hm C St V hB hTl hC hV hne hops (by rw [List.take_append_drop]; exact hend)
  rw [List.take_append_drop] at h
  exact h
end
end Go.Proofs.YtgpgkgahbkmdiabGreatDoor

/- Contract of spec.l04Read. -/
namespace Go.Proofs.YtgpgkgahbkmdiabGreatDoor
open Go.ChangeShapes Go.WideShapes Go.ChangeAt Go.RowKit

def rdc (s : ByteArray) : Int := if s.size < 512 then 1 else if sumOkv s = false then 2 else if headOk (lOf s) = false then 3 else 0
def readS (s : ByteArray) : Value := if rdc s = 0 then .tuple #[.agg (entL (lOf s)).cells.toArray, .string (fW (lOf s) 7), .int .i64 (fnumv (fW (lOf s) 4)), .int .i64 0] else .tuple #[.agg zEnt, .string ⟨#[]⟩, .int .i64 0, .int .i64 (rdc s)]
theorem readS_bad {s : ByteArray} {c : Int} (h : rdc s = c) (hc : ¬ c = 0) : readS s = .tuple #[.agg zEnt, .string ⟨#[]⟩, .int .i64 0, .int .i64 c] := by rw [readS, h, if_neg hc]
theorem Tryz.infoInt : (Tryz.prog.info? 3).map (fun i => (i.zero, i.size, i.bytes)) = some (some (.int .i64 0), 1, 8) := by kernel_rfl
theorem cell_setRow_other {w : World} {g k o : Nat} {cs : Array Value} (h : k ≠ g) : (w.setRow g cs).cell? ⟨k, o, none⟩ = w.cell? ⟨k, o, none⟩ := by
  unfold World.cell?
  rw [setRow_other _ _ _ _ h]
def vBox (B : Nat) (V : Nat → Value → Prop) (d : Nat) (v : Value) (w : World) : Prop := if d = 15 then ∃ G, v = .pointer (some ⟨G, 0, none⟩) ∧ B ≤ G ∧ w.heap[G]? = some (.cells zEnt 23 (0, 0)) else V d v
theorem vBox_keep {C : World → Prop} (B : Nat) (V : Nat → Value → Prop) : ∀ d v x y, C x → Below x.heap.size x y → vBox B V d v x → vBox B V d v y := by
  intro d v x y _ hb h
  unfold vBox at h ⊢
  split at h
  · rename_i hd
    rw [if_pos hd]
    obtain ⟨G, h1, h2, h3⟩ := h
    exact ⟨G, h1, h2, (hb.block _ (obj_lt h3)).trans h3⟩
  · rename_i hd
    rw [if_neg hd]
    exact h
/-- The first i numbers of a header. -/
def nl (l : List UInt8) (i : Nat) : List Value := (List.range i).map fun j => .int .i64 (fnumv (fW l (j + 1)))
theorem nl_len (l : List UInt8) (i : Nat) : (nl l i).length = i := by simp [nl]
theorem nl_succ (l : List UInt8) (i : Nat) : nl l (i + 1) = nl l i ++ [.int .i64 (fnumv (fW l (i + 1)))] := by simp [nl, List.range_succ]
set_option maxHeartbeats 6400000 in
set_option maxRecDepth 8000 in
theorem read_spec (s : ByteArray) (w : World) (hs : s.size ≤ 1048576) :
    Calls Tryz.prog 22 #[.string s] w fun e w' => e = .returned (readS s) ∧ Below w.heap.size w w' := by
  have B0 := Lib.hid ((Below.refl w.heap.size w).alloc (Nat.le_refl _) (.cells zEnt 23))
  have R0 : Hid ((w.alloc (.cells zEnt 23)).heap[w.heap.size]? = some (.cells zEnt 23 (0, 0))) := Lib.hid (heap_alloc_last _ _)
  have HSt0 := Lib.hid (run_storeVar_new (P := Tryz.prog) w 23 zEnt zEnt (by rw [Tryz.sizeEnt]; rfl) rfl (by simp [zEnt, Value.oneCell']))
  by_cases h5 : (s.size : Int) < 512
  · have HE := Lib.hid (readS_bad (s := s) (c := 1) (by rw [rdc, if_pos (by omega)]) (by omega))
    go_enter Tryz.func22, Tryz.ntmps22
    go_wp2_with ((with_reducible refine wpList_store_eq rfl 23 _ _ rfl ⟨w.heap.size, 0, none⟩ ?_ ?_ HSt0.out ?_); rfl; rfl)
    refine bodyPost_ret (results_cell4 rfl _ _ w.heap.size _ zEnt (0, 0) _ rfl R0.out Tryz.underlying23 rfl (by rw [Tryz.sizeEnt]; rfl)) rfl ?_
    rw [HE.out]
    exact ⟨rfl, B0.out⟩
  · have h512 : 512 ≤ s.size := by omega
    have H1 := Lib.hid (fun w => getOct_spec (s.extract 148 154) w (by rw [ByteArray.size_extract]; omega))
    have H2 := Lib.hid (fun w => headSum_spec s w hs)
    have HQ := Lib.hid (sum_iff h512)
    have HR2 : Hid (sumOkv s = false → rdc s = 2) := Lib.hid (fun h => by rw [rdc, if_neg (by omega), if_pos h])
    have HR3 : Hid (sumOkv s = true → headOk (lOf s) = false → rdc s = 3) := Lib.hid (fun h h2 => by rw [rdc, if_neg (by omega), if_neg (by rw [h]; simp), if_pos h2])
    have HR0 : Hid (sumOkv s = true → headOk (lOf s) = true → rdc s = 0) := Lib.hid (fun h h2 => by rw [rdc, if_neg (by omega), if_neg (by rw [h]; simp), if_neg (by rw [h2]; simp)])
    generalize getOctv (s.extract 148 154).data.toList = pr at *
    obtain ⟨n6, o6⟩ := pr
    simp only at H1 HQ
    have c1 : (154 : Int) ≤ (s.size : Int) := by omega
    have c2 : (156 : Int) ≤ (s.size : Int) := by omega
    have bad : ∀ w1, Below (w.alloc (.cells zEnt 23)).heap.size (w.alloc (.cells zEnt 23)) w1 → w1.heap[w.heap.size]? = some (.cells zEnt 23 (0, 0)) ∧ Below w.heap.size w w1 := fun w1 hb => ⟨(hb.block _ (obj_lt R0.out)).trans R0.out, B0.out.trans (hb.mono B0.out.size)⟩
    have BAD := Lib.hid bad
    clear bad
    cases o6 with
    | false =>
      have HE := Lib.hid (readS_bad (s := s) (c := 2) (HR2.out (by cases h : sumOkv s with | false => rfl | true => have := (HQ.out.1 h).1; cases this)) (by omega))
      go_enter Tryz.func22, Tryz.ntmps22
      go_wp2_with fail
      refine (H1.out _).mono ?_
      rintro e w1 ⟨rfl, rfl⟩
      go_wp2_with ((with_reducible refine wpList_store_eq rfl 23 _ _ rfl ⟨w.heap.size, 0, none⟩ ?_ ?_ HSt0.out ?_); rfl; rfl)
      refine bodyPost_ret (results_cell4 rfl _ _ w.heap.size _ zEnt (0, 0) _ rfl R0.out Tryz.underlying23 rfl (by rw [Tryz.sizeEnt]; rfl)) rfl ?_
      rw [HE.out]
      exact ⟨rfl, B0.out⟩
    | true =>
      by_cases h2 : s.extract 154 156 = ⟨#[0, 32]⟩
      · have q2 := lit_eq (s := s.extract 154 156) (l := [0, 32]) h2
        by_cases h3 : n6 = headSumv s
        · have hok : sumOkv s = true := HQ.out.2 ⟨rfl, h2, h3⟩
          have HS3 := Lib.hid (HR3.out hok)
          have HS0 := Lib.hid (HR0.out hok)
          subst h3
          have q3 : (headSumv s != headSumv s) = false := by simp
          clear HQ HR2 HR3 HR0 hok h2
          generalize headSumv s = hsv at *
          go_enter Tryz.func22, Tryz.ntmps22
          go_wp2_with fail
          refine (H1.out _).mono ?_
          rintro e w1 ⟨rfl, rfl⟩
          go_wp2_with fail
          refine (H2.out _).mono ?_
          rintro e w1 ⟨rfl, hb⟩
          obtain ⟨R1, B1⟩ := BAD.out w1 hb
          clear hb
          -- LOOP
          have RO1 := Lib.hid R1
          have BW1 := Lib.hid B1
          have zR := obj_lt R1
          clear R1 B1 H1 H2 BAD HSt0 R0 B0 q2 q3
          obtain ⟨i0, hi0, hz0, hz1, hz2⟩ := info_parts Tryz.infoInt
          have c148 : (148 : Int) ≤ (s.size : Int) := by omega
          go_wp2_with fail
          go_loopw [8, 10] (fun v u wr => ∃ i : Nat, u = .int .i64 i ∧ i ≤ 5 ∧ ok5 (lOf s) i = true ∧ wr.ownsRow w1.heap.size 3 1 v i (nl (lOf s) i) ∧ (∃ gb cp, v = .slice (some ⟨gb, 0, none⟩) i cp ∧ gb ≠ w1.heap.size + 1) ∧ wr.heap[w1.heap.size + 1]? = some (.cells #[.int .i64 100, .int .i64 108, .int .i64 116, .int .i64 124, .int .i64 136, .int .i64 148] 3 (0, 0)) ∧ Below w1.heap.size w1 wr) (fun _ u _ => 5 - (intOf u).toNat)
          case atStart =>
            have h0 := World.ownsRow_lit (base := w1.heap.size) (e := 3) (size := 1) w1 #[] 0 (Nat.le_refl _) (by simp) rfl
            exact ⟨0, rfl, by omega, rfl, World.ownsRow.alloc h0 _, ⟨_, _, rfl, by omega⟩, (two_obj w1 _ _).2.1, (two_obj w1 _ _).2.2.1⟩
          case round =>
            obtain ⟨i, rfl, hi, hok, ho, ⟨gb, cp, rfl, hgb⟩, hA, hD⟩ := hrel
            have O := Lib.hid ho
            have AO := Lib.hid hA
            have D := Lib.hid hD
            have OK := Lib.hid hok
            clear ho hA hD hok
            by_cases h5' : i = 5
            · subst h5'
              have n0 : wr.cell? ⟨gb, 0, none⟩ = some (.int .i64 (fnumv (fW (lOf s) 1))) := World.ownsRow.cells O.out rfl 0 _ rfl
              have n1 : wr.cell? ⟨gb, 1, none⟩ = some (.int .i64 (fnumv (fW (lOf s) 2))) := World.ownsRow.cells O.out rfl 1 _ rfl
              have n2 : wr.cell? ⟨gb, 2, none⟩ = some (.int .i64 (fnumv (fW (lOf s) 3))) := World.ownsRow.cells O.out rfl 2 _ rfl
              have n3 : wr.cell? ⟨gb, 3, none⟩ = some (.int .i64 (fnumv (fW (lOf s) 4))) := World.ownsRow.cells O.out rfl 3 _ rfl
              have n4 : wr.cell? ⟨gb, 4, none⟩ = some (.int .i64 (fnumv (fW (lOf s) 5))) := World.ownsRow.cells O.out rfl 4 _ rfl
              have RO3 := Lib.hid ((D.out.block _ zR).trans RO1.out)
              have B3 := Lib.hid (BW1.out.trans (D.out.mono BW1.out.size))
              have zgb : gb < wr.heap.size := (World.ownsRow.lt O.out gb rfl).2
              have zgR : w.heap.size < gb := Nat.lt_of_lt_of_le zR (World.ownsRow.lt O.out gb rfl).1
              by_cases hz : fnumv (fW (lOf s) 4) ≤ 3000
              · have hh : headOk (lOf s) = true := by rw [headOk, OK.out]; simpa using hz
                have HE : Hid (readS s = .tuple #[.agg #[.int .i64 0, .string (pathL (lOf s)), .string (cutv (fW (lOf s) 8)), .int .i64 (fnumv (fW (lOf s) 1)), .int .i64 (fnumv (fW (lOf s) 2)), .int .i64 (fnumv (fW (lOf s) 3)), .int .i64 (fnumv (fW (lOf s) 5)), .string (cutv (fW (lOf s) 10)), .string (cutv (fW (lOf s) 11)), .string ⟨#[]⟩], .string (fW (lOf s) 7), .int .i64 (fnumv (fW (lOf s) 4)), .int .i64 0]) := Lib.hid (by rw [readS, HS0.out hh, if_pos rfl]; rfl)
                have HP : Hid (pathL (lOf s) = if (cutv (fW (lOf s) 14)).size = 0 then cutv (fW (lOf s) 0) else cutv (fW (lOf s) 14) ++ ⟨#[47]⟩ ++ cutv (fW (lOf s) 0)) := Lib.hid rfl
                have C0 := Lib.hid (fun w => cut_spec (s.extract 0 100) w (by rw [ByteArray.size_extract]; omega))
                have C14 := Lib.hid (fun w => cut_spec (s.extract 345 500) w (by rw [ByteArray.size_extract]; omega))
                have C8 := Lib.hid (fun w => cut_spec (s.extract 157 257) w (by rw [ByteArray.size_extract]; omega))
                have C10 := Lib.hid (fun w => cut_spec (s.extract 265 297) w (by rw [ByteArray.size_extract]; omega))
                have C11 := Lib.hid (fun w => cut_spec (s.extract 297 329) w (by rw [ByteArray.size_extract]; omega))
                rw [show cutv (s.extract 0 100) = cutv (fW (lOf s) 0) from by rw [fW_ext s 0 100 (by omega) rfl]; rfl] at C0
                rw [show cutv (s.extract 345 500) = cutv (fW (lOf s) 14) from by rw [fW_ext s 14 155 (by omega) rfl]; rfl] at C14
                rw [show cutv (s.extract 157 257) = cutv (fW (lOf s) 8) from by rw [fW_ext s 8 100 (by omega) rfl]; rfl] at C8
                rw [show cutv (s.extract 265 297) = cutv (fW (lOf s) 10) from by rw [fW_ext s 10 32 (by omega) rfl]; rfl] at C10
                rw [show cutv (s.extract 297 329) = cutv (fW (lOf s) 11) from by rw [fW_ext s 11 32 (by omega) rfl]; rfl] at C11
                have z0 := fW_small (lOf s) 0
                have z14 := fW_small (lOf s) 14
                have hfl7 : fW (lOf s) 7 = s.extract 156 157 := fW_ext s 7 1 (by omega) rfl
                rw [hfl7] at HE
                generalize pathL (lOf s) = pth at *
                generalize cutv (fW (lOf s) 0) = t0 at *
                generalize cutv (fW (lOf s) 8) = t8 at *
                generalize cutv (fW (lOf s) 10) = t10 at *
                generalize cutv (fW (lOf s) 11) = t11 at *
                generalize cutv (fW (lOf s) 14) = t14 at *
                generalize fnumv (fW (lOf s) 1) = nm at *
                generalize fnumv (fW (lOf s) 2) = nu at *
                generalize fnumv (fW (lOf s) 3) = ng at *
                generalize fnumv (fW (lOf s) 4) = nz at *
                generalize fnumv (fW (lOf s) 5) = nt at *
                have d1 : (100 : Int) ≤ (s.size : Int) := by omega
                have d2 : (500 : Int) ≤ (s.size : Int) := by omega
                have d3 : (257 : Int) ≤ (s.size : Int) := by omega
                have d4 : (297 : Int) ≤ (s.size : Int) := by omega
                have d5 : (329 : Int) ≤ (s.size : Int) := by omega
                clear hh HS3 HS0 OK O AO hfl7
                go_wp2_with fail
                -- END0
                refine (C0.out _).mono ?_
                rintro e w3 ⟨rfl, rfl⟩
                go_wp2_with fail
                refine (C14.out _).mono ?_
                rintro e w3 ⟨rfl, rfl⟩
                have KC : Hid (∀ w', Below wr.heap.size wr w' → w'.cell? ⟨gb, 0, none⟩ = some (.int .i64 nm) ∧ w'.cell? ⟨gb, 1, none⟩ = some (.int .i64 nu) ∧ w'.cell? ⟨gb, 2, none⟩ = some (.int .i64 ng) ∧ w'.cell? ⟨gb, 3, none⟩ = some (.int .i64 nz) ∧ w'.cell? ⟨gb, 4, none⟩ = some (.int .i64 nt)) := Lib.hid (fun w' hb => ⟨(hb.cell (p := ⟨gb, 0, none⟩) zgb).trans n0, (hb.cell (p := ⟨gb, 1, none⟩) zgb).trans n1, (hb.cell (p := ⟨gb, 2, none⟩) zgb).trans n2, (hb.cell (p := ⟨gb, 3, none⟩) zgb).trans n3, (hb.cell (p := ⟨gb, 4, none⟩) zgb).trans n4⟩)
                clear n0 n1 n2 n3 n4
                have d6 : (157 : Int) ≤ (s.size : Int) := by omega
                by_cases hq : t14.size = 0
                · have HP2 : pth = t0 := HP.out.trans (if_pos hq)
                  have hq1 := empty_t hq
                  rw [HP2] at HE
                  clear HP HP2 C0 C14 hq
                  go_wp2_with fail
                  refine wp_region_cut 24 (by kernel_rfl) (fun w' => Below wr.heap.size wr w') (fun x y => Below x.heap.size x y) (vBox wr.heap.size (fun d v => match d with | 85 => v = .string t0 | 86 => v = .string s | 87 => v = .string (s.extract 157 257) | 88 => v = .string t8 | 89 => v = .slice (some ⟨gb, 0, none⟩) 5 cp | 90 => v = .pointer (some ⟨gb, 0, none⟩) | 91 => v = .int .i64 nm | 92 => v = .slice (some ⟨gb, 0, none⟩) 5 cp | 93 => v = .pointer (some ⟨gb, 1, none⟩) | 94 => v = .int .i64 nu | 95 => v = .slice (some ⟨gb, 0, none⟩) 5 cp | 96 => v = .pointer (some ⟨gb, 2, none⟩) | 97 => v = .int .i64 ng | 98 => v = .slice (some ⟨gb, 0, none⟩) 5 cp | 99 => v = .pointer (some ⟨gb, 4, none⟩) | 100 => v = .int .i64 nt | 101 => v = .string s | 102 => v = .string (s.extract 265 297) | 103 => v = .string t10 | 104 => v = .string s | 105 => v = .string (s.extract 297 329) | 106 => v = .string t11 | 107 => v = .agg #[.int .i64 0, .string t0, .string t8, .int .i64 nm, .int .i64 nu, .int .i64 ng, .int .i64 nt, .string t10, .string t11, .string ⟨#[]⟩] | _ => True)) (by kernel_rfl) (by kernel_rfl) ((Below.refl _ _).drew) (vBox_keep _ _) (by simp) ?hops ?hend
                  case hops =>
                    simp only [List.take_succ_cons, List.take_zero, List.forall_mem_cons]
                    refine ⟨?o85, ?o86, ?o87, ?o88, ?o89, ?o90, ?o91, ?o92, ?o93, ?o94, ?o95, ?o96, ?o97, ?o98, ?o99, ?o100, ?o101, ?o102, ?o103, ?o104, ?o105, ?o106, ?o107, ?o15, fun _ h => by cases h⟩
                    case o85 =>
                      intro Q a w2 hC hV hI
                      have e13 : a.eval (.tmp 13) = .string t0 := (hI 13 (by simp [Op.operands]) (by kernel_rfl)).trans rfl
                      have f13 : a.tmps.getD 13 undef = .string t0 := e13
                      have g13 : a.tmps[13]?.getD undef = .string t0 := by rw [← Array.getD_eq_getD_getElem?]; exact e13
                      refine op_val (.string t0) ?_ hC (Below.refl _ _) (by intro d hd; cases hd; exact rfl)
                      (clear hV hI hC; go_simp <;> (first | rfl | simp))
                    case o86 =>
                      intro Q a w2 hC hV hI
                      have e0 : a.eval (.tmp 0) = .string s := (hI 0 (by simp [Op.operands]) (by kernel_rfl)).trans rfl
                      have f0 : a.tmps.getD 0 undef = .string s := e0
                      have g0 : a.tmps[0]?.getD undef = .string s := by rw [← Array.getD_eq_getD_getElem?]; exact e0
                      refine op_val (.string s) ?_ hC (Below.refl _ _) (by intro d hd; cases hd; exact rfl)
                      (clear hV hI hC; go_simp <;> (first | rfl | simp))
                    case o87 =>
                      intro Q a w2 hC hV hI
                      have e86 : a.eval (.tmp 86) = .string s := hV 86 (by simp [Op.operands]) (by kernel_rfl)
                      have f86 : a.tmps.getD 86 undef = .string s := e86
                      have g86 : a.tmps[86]?.getD undef = .string s := by rw [← Array.getD_eq_getD_getElem?]; exact e86
                      refine op_val (.string (s.extract 157 257)) ?_ hC (Below.refl _ _) (by intro d hd; cases hd; exact rfl)
                      (clear hV hI hC; go_simp <;> (first | rfl | simp))
                    case o88 =>
                      intro Q a w2 hC hV hI
                      have e87 : a.eval (.tmp 87) = .string (s.extract 157 257) := hV 87 (by simp [Op.operands, Call.operands]) (by kernel_rfl)
                      have f87 : a.tmps.getD 87 undef = .string (s.extract 157 257) := e87
                      have g87 : a.tmps[87]?.getD undef = .string (s.extract 157 257) := by rw [← Array.getD_eq_getD_getElem?]; exact e87
                      refine op_call (f := 49) (args := #[.string (s.extract 157 257)]) (R := fun v y => v = .string t8 ∧ w2 = y) ?_ ((C8.out w2).mono ?_) ?_
                      · (clear hV hI hC; go_simp <;> (first | rfl | simp))
                      · rintro e y ⟨rfl, rfl⟩; exact ⟨_, rfl, rfl, rfl⟩
                      · rintro v y ⟨rfl, rfl⟩; exact ⟨hC, Below.refl _ _, by intro d hd; cases hd; exact rfl⟩
                    case o89 =>
                      intro Q a w2 hC hV hI
                      have e8 : a.eval (.tmp 8) = .slice (some ⟨gb, 0, none⟩) 5 cp := (hI 8 (by simp [Op.operands]) (by kernel_rfl)).trans rfl
                      have f8 : a.tmps.getD 8 undef = .slice (some ⟨gb, 0, none⟩) 5 cp := e8
                      have g8 : a.tmps[8]?.getD undef = .slice (some ⟨gb, 0, none⟩) 5 cp := by rw [← Array.getD_eq_getD_getElem?]; exact e8
                      refine op_val (.slice (some ⟨gb, 0, none⟩) 5 cp) ?_ hC (Below.refl _ _) (by intro d hd; cases hd; exact rfl)
                      (clear hV hI hC; go_simp <;> (first | rfl | simp))
                    case o90 =>
                      intro Q a w2 hC hV hI
                      have e89 : a.eval (.tmp 89) = .slice (some ⟨gb, 0, none⟩) 5 cp := hV 89 (by simp [Op.operands]) (by kernel_rfl)
                      have f89 : a.tmps.getD 89 undef = .slice (some ⟨gb, 0, none⟩) 5 cp := e89
                      have g89 : a.tmps[89]?.getD undef = .slice (some ⟨gb, 0, none⟩) 5 cp := by rw [← Array.getD_eq_getD_getElem?]; exact e89
                      refine op_val (.pointer (some ⟨gb, 0, none⟩)) ?_ hC (Below.refl _ _) (by intro d hd; cases hd; exact rfl)
                      (clear hV hI hC; go_simp <;> (first | rfl | simp))
                    case o91 =>
                      intro Q a w2 hC hV hI
                      have e90 : a.eval (.tmp 90) = .pointer (some ⟨gb, 0, none⟩) := hV 90 (by simp [Op.operands]) (by kernel_rfl)
                      have f90 : a.tmps.getD 90 undef = .pointer (some ⟨gb, 0, none⟩) := e90
                      have g90 : a.tmps[90]?.getD undef = .pointer (some ⟨gb, 0, none⟩) := by rw [← Array.getD_eq_getD_getElem?]; exact e90
                      have hK := KC.out w2 hC
                      refine op_val (.int .i64 nm) ?_ hC (Below.refl _ _) (by intro d hd; cases hd; exact rfl)
                      (clear hV hI hC; go_simp <;> (first | rfl | simp))
                    case o92 =>
                      intro Q a w2 hC hV hI
                      have e8 : a.eval (.tmp 8) = .slice (some ⟨gb, 0, none⟩) 5 cp := (hI 8 (by simp [Op.operands]) (by kernel_rfl)).trans rfl
                      have f8 : a.tmps.getD 8 undef = .slice (some ⟨gb, 0, none⟩) 5 cp := e8
                      have g8 : a.tmps[8]?.getD undef = .slice (some ⟨gb, 0, none⟩) 5 cp := by rw [← Array.getD_eq_getD_getElem?]; exact e8
                      refine op_val (.slice (some ⟨gb, 0, none⟩) 5 cp) ?_ hC (Below.refl _ _) (by intro d hd; cases hd; exact rfl)
                      (clear hV hI hC; go_simp <;> (first | rfl | simp))
                    case o93 =>
                      intro Q a w2 hC hV hI
                      have e92 : a.eval (.tmp 92) = .slice (some ⟨gb, 0, none⟩) 5 cp := hV 92 (by simp [Op.operands]) (by kernel_rfl)
                      have f92 : a.tmps.getD 92 undef = .slice (some ⟨gb, 0, none⟩) 5 cp := e92
                      have g92 : a.tmps[92]?.getD undef = .slice (some ⟨gb, 0, none⟩) 5 cp := by rw [← Array.getD_eq_getD_getElem?]; exact e92
                      refine op_val (.pointer (some ⟨gb, 1, none⟩)) ?_ hC (Below.refl _ _) (by intro d hd; cases hd; exact rfl)
                      (clear hV hI hC; go_simp <;> (first | rfl | simp))
                    case o94 =>
                      intro Q a w2 hC hV hI
                      have e93 : a.eval (.tmp 93) = .pointer (some ⟨gb, 1, none⟩) := hV 93 (by simp [Op.operands]) (by kernel_rfl)
                      have f93 : a.tmps.getD 93 undef = .pointer (some ⟨gb, 1, none⟩) := e93
                      have g93 : a.tmps[93]?.getD undef = .pointer (some ⟨gb, 1, none⟩) := by rw [← Array.getD_eq_getD_getElem?]; exact e93
                      have hK := KC.out w2 hC
                      refine op_val (.int .i64 nu) ?_ hC (Below.refl _ _) (by intro d hd; cases hd; exact rfl)
                      (clear hV hI hC; go_simp <;> (first | rfl | simp))
                    case o95 =>
                      intro Q a w2 hC hV hI
                      have e8 : a.eval (.tmp 8) = .slice (some ⟨gb, 0, none⟩) 5 cp := (hI 8 (by simp [Op.operands]) (by kernel_rfl)).trans rfl
                      have f8 : a.tmps.getD 8 undef = .slice (some ⟨gb, 0, none⟩) 5 cp := e8
                      have g8 : a.tmps[8]?.getD undef = .slice (some ⟨gb, 0, none⟩) 5 cp := by rw [← Array.getD_eq_getD_getElem?]; exact e8
                      refine op_val (.slice (some ⟨gb, 0, none⟩) 5 cp) ?_ hC (Below.refl _ _) (by intro d hd; cases hd; exact rfl)
                      (clear hV hI hC; go_simp <;> (first | rfl | simp))
                    case o96 =>
                      intro Q a w2 hC hV hI
                      have e95 : a.eval (.tmp 95) = .slice (some ⟨gb, 0, none⟩) 5 cp := hV 95 (by simp [Op.operands]) (by kernel_rfl)
                      have f95 : a.tmps.getD 95 undef = .slice (some ⟨gb, 0, none⟩) 5 cp := e95
                      have g95 : a.tmps[95]?.getD undef = .slice (some ⟨gb, 0, none⟩) 5 cp := by rw [← Array.getD_eq_getD_getElem?]; exact e95
                      refine op_val (.pointer (some ⟨gb, 2, none⟩)) ?_ hC (Below.refl _ _) (by intro d hd; cases hd; exact rfl)
                      (clear hV hI hC; go_simp <;> (first | rfl | simp))
                    case o97 =>
                      intro Q a w2 hC hV hI
                      have e96 : a.eval (.tmp 96) = .pointer (some ⟨gb, 2, none⟩) := hV 96 (by simp [Op.operands]) (by kernel_rfl)
                      have f96 : a.tmps.getD 96 undef = .pointer (some ⟨gb, 2, none⟩) := e96
                      have g96 : a.tmps[96]?.getD undef = .pointer (some ⟨gb, 2, none⟩) := by rw [← Array.getD_eq_getD_getElem?]; exact e96
                      have hK := KC.out w2 hC
                      refine op_val (.int .i64 ng) ?_ hC (Below.refl _ _) (by intro d hd; cases hd; exact rfl)
                      (clear hV hI hC; go_simp <;> (first | rfl | simp))
                    case o98 =>
                      intro Q a w2 hC hV hI
                      have e8 : a.eval (.tmp 8) = .slice (some ⟨gb, 0, none⟩) 5 cp := (hI 8 (by simp [Op.operands]) (by kernel_rfl)).trans rfl
                      have f8 : a.tmps.getD 8 undef = .slice (some ⟨gb, 0, none⟩) 5 cp := e8
                      have g8 : a.tmps[8]?.getD undef = .slice (some ⟨gb, 0, none⟩) 5 cp := by rw [← Array.getD_eq_getD_getElem?]; exact e8
                      refine op_val (.slice (some ⟨gb, 0, none⟩) 5 cp) ?_ hC (Below.refl _ _) (by intro d hd; cases hd; exact rfl)
                      (clear hV hI hC; go_simp <;> (first | rfl | simp))
                    case o99 =>
                      intro Q a w2 hC hV hI
                      have e98 : a.eval (.tmp 98) = .slice (some ⟨gb, 0, none⟩) 5 cp := hV 98 (by simp [Op.operands]) (by kernel_rfl)
                      have f98 : a.tmps.getD 98 undef = .slice (some ⟨gb, 0, none⟩) 5 cp := e98
                      have g98 : a.tmps[98]?.getD undef = .slice (some ⟨gb, 0, none⟩) 5 cp := by rw [← Array.getD_eq_getD_getElem?]; exact e98
                      refine op_val (.pointer (some ⟨gb, 4, none⟩)) ?_ hC (Below.refl _ _) (by intro d hd; cases hd; exact rfl)
                      (clear hV hI hC; go_simp <;> (first | rfl | simp))
                    case o100 =>
                      intro Q a w2 hC hV hI
                      have e99 : a.eval (.tmp 99) = .pointer (some ⟨gb, 4, none⟩) := hV 99 (by simp [Op.operands]) (by kernel_rfl)
                      have f99 : a.tmps.getD 99 undef = .pointer (some ⟨gb, 4, none⟩) := e99
                      have g99 : a.tmps[99]?.getD undef = .pointer (some ⟨gb, 4, none⟩) := by rw [← Array.getD_eq_getD_getElem?]; exact e99
                      have hK := KC.out w2 hC
                      refine op_val (.int .i64 nt) ?_ hC (Below.refl _ _) (by intro d hd; cases hd; exact rfl)
                      (clear hV hI hC; go_simp <;> (first | rfl | simp))
                    case o101 =>
                      intro Q a w2 hC hV hI
                      have e0 : a.eval (.tmp 0) = .string s := (hI 0 (by simp [Op.operands]) (by kernel_rfl)).trans rfl
                      have f0 : a.tmps.getD 0 undef = .string s := e0
                      have g0 : a.tmps[0]?.getD undef = .string s := by rw [← Array.getD_eq_getD_getElem?]; exact e0
                      refine op_val (.string s) ?_ hC (Below.refl _ _) (by intro d hd; cases hd; exact rfl)
                      (clear hV hI hC; go_simp <;> (first | rfl | simp))
                    case o102 =>
                      intro Q a w2 hC hV hI
                      have e101 : a.eval (.tmp 101) = .string s := hV 101 (by simp [Op.operands]) (by kernel_rfl)
                      have f101 : a.tmps.getD 101 undef = .string s := e101
                      have g101 : a.tmps[101]?.getD undef = .string s := by rw [← Array.getD_eq_getD_getElem?]; exact e101
                      refine op_val (.string (s.extract 265 297)) ?_ hC (Below.refl _ _) (by intro d hd; cases hd; exact rfl)
                      (clear hV hI hC; go_simp <;> (first | rfl | simp))
                    case o103 =>
                      intro Q a w2 hC hV hI
                      have e102 : a.eval (.tmp 102) = .string (s.extract 265 297) := hV 102 (by simp [Op.operands, Call.operands]) (by kernel_rfl)
                      have f102 : a.tmps.getD 102 undef = .string (s.extract 265 297) := e102
                      have g102 : a.tmps[102]?.getD undef = .string (s.extract 265 297) := by rw [← Array.getD_eq_getD_getElem?]; exact e102
                      refine op_call (f := 49) (args := #[.string (s.extract 265 297)]) (R := fun v y => v = .string t10 ∧ w2 = y) ?_ ((C10.out w2).mono ?_) ?_
                      · (clear hV hI hC; go_simp <;> (first | rfl | simp))
                      · rintro e y ⟨rfl, rfl⟩; exact ⟨_, rfl, rfl, rfl⟩
                      · rintro v y ⟨rfl, rfl⟩; exact ⟨hC, Below.refl _ _, by intro d hd; cases hd; exact rfl⟩
                    case o104 =>
                      intro Q a w2 hC hV hI
                      have e0 : a.eval (.tmp 0) = .string s := (hI 0 (by simp [Op.operands]) (by kernel_rfl)).trans rfl
                      have f0 : a.tmps.getD 0 undef = .string s := e0
                      have g0 : a.tmps[0]?.getD undef = .string s := by rw [← Array.getD_eq_getD_getElem?]; exact e0
                      refine op_val (.string s) ?_ hC (Below.refl _ _) (by intro d hd; cases hd; exact rfl)
                      (clear hV hI hC; go_simp <;> (first | rfl | simp))
                    case o105 =>
                      intro Q a w2 hC hV hI
                      have e104 : a.eval (.tmp 104) = .string s := hV 104 (by simp [Op.operands]) (by kernel_rfl)
                      have f104 : a.tmps.getD 104 undef = .string s := e104
                      have g104 : a.tmps[104]?.getD undef = .string s := by rw [← Array.getD_eq_getD_getElem?]; exact e104
                      refine op_val (.string (s.extract 297 329)) ?_ hC (Below.refl _ _) (by intro d hd; cases hd; exact rfl)
                      (clear hV hI hC; go_simp <;> (first | rfl | simp))
                    case o106 =>
                      intro Q a w2 hC hV hI
                      have e105 : a.eval (.tmp 105) = .string (s.extract 297 329) := hV 105 (by simp [Op.operands, Call.operands]) (by kernel_rfl)
                      have f105 : a.tmps.getD 105 undef = .string (s.extract 297 329) := e105
                      have g105 : a.tmps[105]?.getD undef = .string (s.extract 297 329) := by rw [← Array.getD_eq_getD_getElem?]; exact e105
                      refine op_call (f := 49) (args := #[.string (s.extract 297 329)]) (R := fun v y => v = .string t11 ∧ w2 = y) ?_ ((C11.out w2).mono ?_) ?_
                      · (clear hV hI hC; go_simp <;> (first | rfl | simp))
                      · rintro e y ⟨rfl, rfl⟩; exact ⟨_, rfl, rfl, rfl⟩
                      · rintro v y ⟨rfl, rfl⟩; exact ⟨hC, Below.refl _ _, by intro d hd; cases hd; exact rfl⟩
                    case o107 =>
                      intro Q a w2 hC hV hI
                      have e85 : a.eval (.tmp 85) = .string t0 := hV 85 (by simp [Op.operands]) (by kernel_rfl)
                      have f85 : a.tmps.getD 85 undef = .string t0 := e85
                      have g85 : a.tmps[85]?.getD undef = .string t0 := by rw [← Array.getD_eq_getD_getElem?]; exact e85
                      have e88 : a.eval (.tmp 88) = .string t8 := hV 88 (by simp [Op.operands]) (by kernel_rfl)
                      have f88 : a.tmps.getD 88 undef = .string t8 := e88
                      have g88 : a.tmps[88]?.getD undef = .string t8 := by rw [← Array.getD_eq_getD_getElem?]; exact e88
                      have e91 : a.eval (.tmp 91) = .int .i64 nm := hV 91 (by simp [Op.operands]) (by kernel_rfl)
                      have f91 : a.tmps.getD 91 undef = .int .i64 nm := e91
                      have g91 : a.tmps[91]?.getD undef = .int .i64 nm := by rw [← Array.getD_eq_getD_getElem?]; exact e91
                      have e94 : a.eval (.tmp 94) = .int .i64 nu := hV 94 (by simp [Op.operands]) (by kernel_rfl)
                      have f94 : a.tmps.getD 94 undef = .int .i64 nu := e94
                      have g94 : a.tmps[94]?.getD undef = .int .i64 nu := by rw [← Array.getD_eq_getD_getElem?]; exact e94
                      have e97 : a.eval (.tmp 97) = .int .i64 ng := hV 97 (by simp [Op.operands]) (by kernel_rfl)
                      have f97 : a.tmps.getD 97 undef = .int .i64 ng := e97
                      have g97 : a.tmps[97]?.getD undef = .int .i64 ng := by rw [← Array.getD_eq_getD_getElem?]; exact e97
                      have e100 : a.eval (.tmp 100) = .int .i64 nt := hV 100 (by simp [Op.operands]) (by kernel_rfl)
                      have f100 : a.tmps.getD 100 undef = .int .i64 nt := e100
                      have g100 : a.tmps[100]?.getD undef = .int .i64 nt := by rw [← Array.getD_eq_getD_getElem?]; exact e100
                      have e103 : a.eval (.tmp 103) = .string t10 := hV 103 (by simp [Op.operands]) (by kernel_rfl)
                      have f103 : a.tmps.getD 103 undef = .string t10 := e103
                      have g103 : a.tmps[103]?.getD undef = .string t10 := by rw [← Array.getD_eq_getD_getElem?]; exact e103
                      have e106 : a.eval (.tmp 106) = .string t11 := hV 106 (by simp [Op.operands]) (by kernel_rfl)
                      have f106 : a.tmps.getD 106 undef = .string t11 := e106
                      have g106 : a.tmps[106]?.getD undef = .string t11 := by rw [← Array.getD_eq_getD_getElem?]; exact e106
                      refine op_val (.agg #[.int .i64 0, .string t0, .string t8, .int .i64 nm, .int .i64 nu, .int .i64 ng, .int .i64 nt, .string t10, .string t11, .string ⟨#[]⟩]) ?_ hC (Below.refl _ _) (by intro d hd; cases hd; exact rfl)
                      (clear hV hI hC; go_simp <;> (first | rfl | simp))
                    case o15 =>
                      intro Q a w2 hC hV hI
                      refine op_val (.pointer (some ⟨w2.heap.size, 0, none⟩)) (w' := w2.alloc (.cells zEnt 23)) ?_ (hC.alloc hC.size _) ((Below.refl _ _).alloc (Nat.le_refl _) _) ?_
                      · (clear hV hI hC; go_simp <;> (first | rfl | simp))
                      · intro d hd; cases hd; exact ⟨w2.heap.size, rfl, hC.size, heap_alloc_last _ _⟩
                  case hend =>
                    intro f w5 hC hall
                    simp only [List.take_succ_cons, List.take_zero, List.drop_succ_cons, List.drop_zero] at hall ⊢
                    simp only [List.forall_mem_cons] at hall
                    obtain ⟨h85, h86, h87, h88, h89, h90, h91, h92, h93, h94, h95, h96, h97, h98, h99, h100, h101, h102, h103, h104, h105, h106, h107, h15, _⟩ := hall
                    replace h85 : f 85 = .string t0 := h85 85 rfl
                    replace h86 : f 86 = .string s := h86 86 rfl
                    replace h87 : f 87 = .string (s.extract 157 257) := h87 87 rfl
                    replace h88 : f 88 = .string t8 := h88 88 rfl
                    replace h89 : f 89 = .slice (some ⟨gb, 0, none⟩) 5 cp := h89 89 rfl
                    replace h90 : f 90 = .pointer (some ⟨gb, 0, none⟩) := h90 90 rfl
                    replace h91 : f 91 = .int .i64 nm := h91 91 rfl
                    replace h92 : f 92 = .slice (some ⟨gb, 0, none⟩) 5 cp := h92 92 rfl
                    replace h93 : f 93 = .pointer (some ⟨gb, 1, none⟩) := h93 93 rfl
                    replace h94 : f 94 = .int .i64 nu := h94 94 rfl
                    replace h95 : f 95 = .slice (some ⟨gb, 0, none⟩) 5 cp := h95 95 rfl
                    replace h96 : f 96 = .pointer (some ⟨gb, 2, none⟩) := h96 96 rfl
                    replace h97 : f 97 = .int .i64 ng := h97 97 rfl
                    replace h98 : f 98 = .slice (some ⟨gb, 0, none⟩) 5 cp := h98 98 rfl
                    replace h99 : f 99 = .pointer (some ⟨gb, 4, none⟩) := h99 99 rfl
                    replace h100 : f 100 = .int .i64 nt := h100 100 rfl
                    replace h101 : f 101 = .string s := h101 101 rfl
                    replace h102 : f 102 = .string (s.extract 265 297) := h102 102 rfl
                    replace h103 : f 103 = .string t10 := h103 103 rfl
                    replace h104 : f 104 = .string s := h104 104 rfl
                    replace h105 : f 105 = .string (s.extract 297 329) := h105 105 rfl
                    replace h106 : f 106 = .string t11 := h106 106 rfl
                    replace h107 : f 107 = .agg #[.int .i64 0, .string t0, .string t8, .int .i64 nm, .int .i64 nu, .int .i64 ng, .int .i64 nt, .string t10, .string t11, .string ⟨#[]⟩] := h107 107 rfl
                    obtain ⟨G, hG15, hGB, hGO⟩ : ∃ G, f 15 = .pointer (some ⟨G, 0, none⟩) ∧ wr.heap.size ≤ G ∧ w5.heap[G]? = some (.cells zEnt 23 (0, 0)) := h15 15 rfl
                    simp only [putAll, Act.put, List.setIfInBounds_toArray, List.set_cons_succ, List.set_cons_zero, h85, h86, h87, h88, h89, h90, h91, h92, h93, h94, h95, h96, h97, h98, h99, h100, h101, h102, h103, h104, h105, h106, h107, hG15]
                    clear h85 h86 h87 h88 h89 h90 h91 h92 h93 h94 h95 h96 h97 h98 h99 h100 h101 h102 h103 h104 h105 h106 h107 hG15
                    have HS1 := Lib.hid (run_storeVar_row (P := Tryz.prog) w5 G 23 23 zEnt #[.int .i64 0, .string t0, .string t8, .int .i64 nm, .int .i64 nu, .int .i64 ng, .int .i64 nt, .string t10, .string t11, .string ⟨#[]⟩] hGO (by rw [Tryz.sizeEnt]; rfl) rfl (by simp [Value.oneCell']))
                    have OG := setRow_heap _ _ _ #[.int .i64 0, .string t0, .string t8, .int .i64 nm, .int .i64 nu, .int .i64 ng, .int .i64 nt, .string t10, .string t11, .string ⟨#[]⟩] _ _ hGO
                    have BG := hC.trans (below_set (w := w5) hGB #[.int .i64 0, .string t0, .string t8, .int .i64 nm, .int .i64 nu, .int .i64 ng, .int .i64 nt, .string t10, .string t11, .string ⟨#[]⟩])
                    go_wp2_with ((with_reducible refine wpList_store_eq rfl 23 _ _ rfl ⟨G, 0, none⟩ ?_ ?_ HS1.out ?_); rfl; rfl)
                    clear HS1 hGO hC
                    generalize w5.setRow G #[.int .i64 0, .string t0, .string t8, .int .i64 nm, .int .i64 nu, .int .i64 ng, .int .i64 nt, .string t10, .string t11, .string ⟨#[]⟩] = w6 at *
                    have zG := obj_lt OG
                    have HLG : Hid (∀ w' : World, w'.heap[G]? = some (.cells #[.int .i64 0, .string t0, .string t8, .int .i64 nm, .int .i64 nu, .int .i64 ng, .int .i64 nt, .string t10, .string t11, .string ⟨#[]⟩] 23 (0, 0)) → w'.cell? ⟨G, 0, none⟩ = some (.int .i64 0) ∧ w'.cell? ⟨G, 1, none⟩ = some (.string t0) ∧ w'.cell? ⟨G, 2, none⟩ = some (.string t8) ∧ w'.cell? ⟨G, 3, none⟩ = some (.int .i64 nm) ∧ w'.cell? ⟨G, 4, none⟩ = some (.int .i64 nu) ∧ w'.cell? ⟨G, 5, none⟩ = some (.int .i64 ng) ∧ w'.cell? ⟨G, 6, none⟩ = some (.int .i64 nt) ∧ w'.cell? ⟨G, 7, none⟩ = some (.string t10) ∧ w'.cell? ⟨G, 8, none⟩ = some (.string t11) ∧ w'.cell? ⟨G, 9, none⟩ = some (.string ⟨#[]⟩)) := Lib.hid (fun w' h1 => by refine ⟨?_, ?_, ?_, ?_, ?_, ?_, ?_, ?_, ?_, ?_⟩ <;> (rw [cell_of_row _ _ _ _ _ _ h1]; rfl))
                    have N3 := Lib.hid (KC.out w6 BG).2.2.2.1
                    have RO6 := Lib.hid ((BG.block _ (obj_lt RO3.out)).trans RO3.out)
                    have B6 := Lib.hid (B3.out.trans (BG.mono B3.out.size))
                    have zRG : w.heap.size < G := Nat.lt_of_lt_of_le (obj_lt RO3.out) hGB
                    have OG6 := Lib.hid OG
                    clear BG OG KC
                    refine wp_region_u (by kernel_rfl) (fun w' => Below w.heap.size w w' ∧ w'.heap[G]? = some (.cells #[.int .i64 0, .string t0, .string t8, .int .i64 nm, .int .i64 nu, .int .i64 ng, .int .i64 nt, .string t10, .string t11, .string ⟨#[]⟩] 23 (0, 0)) ∧ w'.cell? ⟨gb, 3, none⟩ = some (.int .i64 nz) ∧ (w'.heap[w.heap.size]? = some (.cells zEnt 23 (0, 0)) ∨ w'.heap[w.heap.size]? = some (.cells #[.int .i64 0, .string t0, .string t8, .int .i64 nm, .int .i64 nu, .int .i64 ng, .int .i64 nt, .string t10, .string t11, .string ⟨#[]⟩] 23 (0, 0)))) (fun x y => y.heap[w.heap.size]? = x.heap[w.heap.size]? ∨ y.heap[w.heap.size]? = some (.cells #[.int .i64 0, .string t0, .string t8, .int .i64 nm, .int .i64 nu, .int .i64 ng, .int .i64 nt, .string t10, .string t11, .string ⟨#[]⟩] 23 (0, 0))) (fun d v _ => match d with | 108 => v = .agg #[.int .i64 0, .string t0, .string t8, .int .i64 nm, .int .i64 nu, .int .i64 ng, .int .i64 nt, .string t10, .string t11, .string ⟨#[]⟩] | 109 => v = .string s | 110 => v = .string (s.extract 156 157) | 111 => v = .slice (some ⟨gb, 0, none⟩) 5 cp | 112 => v = .pointer (some ⟨gb, 3, none⟩) | 113 => v = .int .i64 nz | 3 => v = .string (s.extract 156 157) | 4 => v = .int .i64 nz | 5 => v = .int .i64 0 | _ => True) (fun o w' => o.dst = none → w'.heap[w.heap.size]? = some (.cells #[.int .i64 0, .string t0, .string t8, .int .i64 nm, .int .i64 nu, .int .i64 ng, .int .i64 nt, .string t10, .string t11, .string ⟨#[]⟩] 23 (0, 0))) (by kernel_rfl) ⟨B6.out.drew, OG6.out, N3.out, .inl RO6.out⟩ (fun _ _ _ _ _ _ h => h) (fun _ _ _ _ hs hu hd => Or.elim hs (fun h => h.trans (hu hd)) (fun h => h)) ?hops ?hend
                    case hops =>
                      simp only [List.forall_mem_cons]
                      refine ⟨?o108, ?o109, ?o110, ?o111, ?o112, ?o113, ?os, ?o3, ?o4, ?o5, fun _ h => by cases h⟩
                      case o108 =>
                        intro Q a w2 hC hV hI
                        have e15 : a.eval (.tmp 15) = .pointer (some ⟨G, 0, none⟩) := (hI 15 (by simp [Op.operands]) (by kernel_rfl)).trans rfl
                        have f15 : a.tmps.getD 15 undef = .pointer (some ⟨G, 0, none⟩) := e15
                        have g15 : a.tmps[15]?.getD undef = .pointer (some ⟨G, 0, none⟩) := by rw [← Array.getD_eq_getD_getElem?]; exact e15
                        have hK := HLG.out w2 hC.2.1
                        refine opU_val (C := fun w' => Below w.heap.size w w' ∧ w'.heap[G]? = some (.cells #[.int .i64 0, .string t0, .string t8, .int .i64 nm, .int .i64 nu, .int .i64 ng, .int .i64 nt, .string t10, .string t11, .string ⟨#[]⟩] 23 (0, 0)) ∧ w'.cell? ⟨gb, 3, none⟩ = some (.int .i64 nz) ∧ (w'.heap[w.heap.size]? = some (.cells zEnt 23 (0, 0)) ∨ w'.heap[w.heap.size]? = some (.cells #[.int .i64 0, .string t0, .string t8, .int .i64 nm, .int .i64 nu, .int .i64 ng, .int .i64 nt, .string t10, .string t11, .string ⟨#[]⟩] 23 (0, 0)))) (St := fun x y => y.heap[w.heap.size]? = x.heap[w.heap.size]? ∨ y.heap[w.heap.size]? = some (.cells #[.int .i64 0, .string t0, .string t8, .int .i64 nm, .int .i64 nu, .int .i64 ng, .int .i64 nt, .string t10, .string t11, .string ⟨#[]⟩] 23 (0, 0))) (V := fun d v _ => match d with | 108 => v = .agg #[.int .i64 0, .string t0, .string t8, .int .i64 nm, .int .i64 nu, .int .i64 ng, .int .i64 nt, .string t10, .string t11, .string ⟨#[]⟩] | 109 => v = .string s | 110 => v = .string (s.extract 156 157) | 111 => v = .slice (some ⟨gb, 0, none⟩) 5 cp | 112 => v = .pointer (some ⟨gb, 3, none⟩) | 113 => v = .int .i64 nz | 3 => v = .string (s.extract 156 157) | 4 => v = .int .i64 nz | 5 => v = .int .i64 0 | _ => True) (U := fun o w' => o.dst = none → w'.heap[w.heap.size]? = some (.cells #[.int .i64 0, .string t0, .string t8, .int .i64 nm, .int .i64 nu, .int .i64 ng, .int .i64 nt, .string t10, .string t11, .string ⟨#[]⟩] 23 (0, 0))) (w' := w2) (.agg #[.int .i64 0, .string t0, .string t8, .int .i64 nm, .int .i64 nu, .int .i64 ng, .int .i64 nt, .string t10, .string t11, .string ⟨#[]⟩]) ?_ ?_ ?_ ?_ ?_
                        · (clear hV hI hC; go_simp <;> (first | rfl | simp))
                        · exact hC
                        · exact Or.inl rfl
                        · intro d hd; cases hd; exact rfl
                        · intro h; cases h
                      case o109 =>
                        intro Q a w2 hC hV hI
                        have e0 : a.eval (.tmp 0) = .string s := (hI 0 (by simp [Op.operands]) (by kernel_rfl)).trans rfl
                        have f0 : a.tmps.getD 0 undef = .string s := e0
                        have g0 : a.tmps[0]?.getD undef = .string s := by rw [← Array.getD_eq_getD_getElem?]; exact e0
                        refine opU_val (C := fun w' => Below w.heap.size w w' ∧ w'.heap[G]? = some (.cells #[.int .i64 0, .string t0, .string t8, .int .i64 nm, .int .i64 nu, .int .i64 ng, .int .i64 nt, .string t10, .string t11, .string ⟨#[]⟩] 23 (0, 0)) ∧ w'.cell? ⟨gb, 3, none⟩ = some (.int .i64 nz) ∧ (w'.heap[w.heap.size]? = some (.cells zEnt 23 (0, 0)) ∨ w'.heap[w.heap.size]? = some (.cells #[.int .i64 0, .string t0, .string t8, .int .i64 nm, .int .i64 nu, .int .i64 ng, .int .i64 nt, .string t10, .string t11, .string ⟨#[]⟩] 23 (0, 0)))) (St := fun x y => y.heap[w.heap.size]? = x.heap[w.heap.size]? ∨ y.heap[w.heap.size]? = some (.cells #[.int .i64 0, .string t0, .string t8, .int .i64 nm, .int .i64 nu, .int .i64 ng, .int .i64 nt, .string t10, .string t11, .string ⟨#[]⟩] 23 (0, 0))) (V := fun d v _ => match d with | 108 => v = .agg #[.int .i64 0, .string t0, .string t8, .int .i64 nm, .int .i64 nu, .int .i64 ng, .int .i64 nt, .string t10, .string t11, .string ⟨#[]⟩] | 109 => v = .string s | 110 => v = .string (s.extract 156 157) | 111 => v = .slice (some ⟨gb, 0, none⟩) 5 cp | 112 => v = .pointer (some ⟨gb, 3, none⟩) | 113 => v = .int .i64 nz | 3 => v = .string (s.extract 156 157) | 4 => v = .int .i64 nz | 5 => v = .int .i64 0 | _ => True) (U := fun o w' => o.dst = none → w'.heap[w.heap.size]? = some (.cells #[.int .i64 0, .string t0, .string t8, .int .i64 nm, .int .i64 nu, .int .i64 ng, .int .i64 nt, .string t10, .string t11, .string ⟨#[]⟩] 23 (0, 0))) (w' := w2) (.string s) ?_ ?_ ?_ ?_ ?_
                        · (clear hV hI hC; go_simp <;> (first | rfl | simp))
                        · exact hC
                        · exact Or.inl rfl
                        · intro d hd; cases hd; exact rfl
                        · intro h; cases h
                      case o110 =>
                        intro Q a w2 hC hV hI
                        have e109 : a.eval (.tmp 109) = .string s := hV 109 (by simp [Op.operands]) (by kernel_rfl)
                        have f109 : a.tmps.getD 109 undef = .string s := e109
                        have g109 : a.tmps[109]?.getD undef = .string s := by rw [← Array.getD_eq_getD_getElem?]; exact e109
                        refine opU_val (C := fun w' => Below w.heap.size w w' ∧ w'.heap[G]? = some (.cells #[.int .i64 0, .string t0, .string t8, .int .i64 nm, .int .i64 nu, .int .i64 ng, .int .i64 nt, .string t10, .string t11, .string ⟨#[]⟩] 23 (0, 0)) ∧ w'.cell? ⟨gb, 3, none⟩ = some (.int .i64 nz) ∧ (w'.heap[w.heap.size]? = some (.cells zEnt 23 (0, 0)) ∨ w'.heap[w.heap.size]? = some (.cells #[.int .i64 0, .string t0, .string t8, .int .i64 nm, .int .i64 nu, .int .i64 ng, .int .i64 nt, .string t10, .string t11, .string ⟨#[]⟩] 23 (0, 0)))) (St := fun x y => y.heap[w.heap.size]? = x.heap[w.heap.size]? ∨ y.heap[w.heap.size]? = some (.cells #[.int .i64 0, .string t0, .string t8, .int .i64 nm, .int .i64 nu, .int .i64 ng, .int .i64 nt, .string t10, .string t11, .string ⟨#[]⟩] 23 (0, 0))) (V := fun d v _ => match d with | 108 => v = .agg #[.int .i64 0, .string t0, .string t8, .int .i64 nm, .int .i64 nu, .int .i64 ng, .int .i64 nt, .string t10, .string t11, .string ⟨#[]⟩] | 109 => v = .string s | 110 => v = .string (s.extract 156 157) | 111 => v = .slice (some ⟨gb, 0, none⟩) 5 cp | 112 => v = .pointer (some ⟨gb, 3, none⟩) | 113 => v = .int .i64 nz | 3 => v = .string (s.extract 156 157) | 4 => v = .int .i64 nz | 5 => v = .int .i64 0 | _ => True) (U := fun o w' => o.dst = none → w'.heap[w.heap.size]? = some (.cells #[.int .i64 0, .string t0, .string t8, .int .i64 nm, .int .i64 nu, .int .i64 ng, .int .i64 nt, .string t10, .string t11, .string ⟨#[]⟩] 23 (0, 0))) (w' := w2) (.string (s.extract 156 157)) ?_ ?_ ?_ ?_ ?_
                        · (clear hV hI hC; go_simp <;> (first | rfl | simp))
                        · exact hC
                        · exact Or.inl rfl
                        · intro d hd; cases hd; exact rfl
                        · intro h; cases h
                      case o111 =>
                        intro Q a w2 hC hV hI
                        have e8 : a.eval (.tmp 8) = .slice (some ⟨gb, 0, none⟩) 5 cp := (hI 8 (by simp [Op.operands]) (by kernel_rfl)).trans rfl
                        have f8 : a.tmps.getD 8 undef = .slice (some ⟨gb, 0, none⟩) 5 cp := e8
                        have g8 : a.tmps[8]?.getD undef = .slice (some ⟨gb, 0, none⟩) 5 cp := by rw [← Array.getD_eq_getD_getElem?]; exact e8
                        refine opU_val (C := fun w' => Below w.heap.size w w' ∧ w'.heap[G]? = some (.cells #[.int .i64 0, .string t0, .string t8, .int .i64 nm, .int .i64 nu, .int .i64 ng, .int .i64 nt, .string t10, .string t11, .string ⟨#[]⟩] 23 (0, 0)) ∧ w'.cell? ⟨gb, 3, none⟩ = some (.int .i64 nz) ∧ (w'.heap[w.heap.size]? = some (.cells zEnt 23 (0, 0)) ∨ w'.heap[w.heap.size]? = some (.cells #[.int .i64 0, .string t0, .string t8, .int .i64 nm, .int .i64 nu, .int .i64 ng, .int .i64 nt, .string t10, .string t11, .string ⟨#[]⟩] 23 (0, 0)))) (St := fun x y => y.heap[w.heap.size]? = x.heap[w.heap.size]? ∨ y.heap[w.heap.size]? = some (.cells #[.int .i64 0, .string t0, .string t8, .int .i64 nm, .int .i64 nu, .int .i64 ng, .int .i64 nt, .string t10, .string t11, .string ⟨#[]⟩] 23 (0, 0))) (V := fun d v _ => match d with | 108 => v = .agg #[.int .i64 0, .string t0, .string t8, .int .i64 nm, .int .i64 nu, .int .i64 ng, .int .i64 nt, .string t10, .string t11, .string ⟨#[]⟩] | 109 => v = .string s | 110 => v = .string (s.extract 156 157) | 111 => v = .slice (some ⟨gb, 0, none⟩) 5 cp | 112 => v = .pointer (some ⟨gb, 3, none⟩) | 113 => v = .int .i64 nz | 3 => v = .string (s.extract 156 157) | 4 => v = .int .i64 nz | 5 => v = .int .i64 0 | _ => True) (U := fun o w' => o.dst = none → w'.heap[w.heap.size]? = some (.cells #[.int .i64 0, .string t0, .string t8, .int .i64 nm, .int .i64 nu, .int .i64 ng, .int .i64 nt, .string t10, .string t11, .string ⟨#[]⟩] 23 (0, 0))) (w' := w2) (.slice (some ⟨gb, 0, none⟩) 5 cp) ?_ ?_ ?_ ?_ ?_
                        · (clear hV hI hC; go_simp <;> (first | rfl | simp))
                        · exact hC
                        · exact Or.inl rfl
                        · intro d hd; cases hd; exact rfl
                        · intro h; cases h
                      case o112 =>
                        intro Q a w2 hC hV hI
                        have e111 : a.eval (.tmp 111) = .slice (some ⟨gb, 0, none⟩) 5 cp := hV 111 (by simp [Op.operands]) (by kernel_rfl)
                        have f111 : a.tmps.getD 111 undef = .slice (some ⟨gb, 0, none⟩) 5 cp := e111
                        have g111 : a.tmps[111]?.getD undef = .slice (some ⟨gb, 0, none⟩) 5 cp := by rw [← Array.getD_eq_getD_getElem?]; exact e111
                        refine opU_val (C := fun w' => Below w.heap.size w w' ∧ w'.heap[G]? = some (.cells #[.int .i64 0, .string t0, .string t8, .int .i64 nm, .int .i64 nu, .int .i64 ng, .int .i64 nt, .string t10, .string t11, .string ⟨#[]⟩] 23 (0, 0)) ∧ w'.cell? ⟨gb, 3, none⟩ = some (.int .i64 nz) ∧ (w'.heap[w.heap.size]? = some (.cells zEnt 23 (0, 0)) ∨ w'.heap[w.heap.size]? = some (.cells #[.int .i64 0, .string t0, .string t8, .int .i64 nm, .int .i64 nu, .int .i64 ng, .int .i64 nt, .string t10, .string t11, .string ⟨#[]⟩] 23 (0, 0)))) (St := fun x y => y.heap[w.heap.size]? = x.heap[w.heap.size]? ∨ y.heap[w.heap.size]? = some (.cells #[.int .i64 0, .string t0, .string t8, .int .i64 nm, .int .i64 nu, .int .i64 ng, .int .i64 nt, .string t10, .string t11, .string ⟨#[]⟩] 23 (0, 0))) (V := fun d v _ => match d with | 108 => v = .agg #[.int .i64 0, .string t0, .string t8, .int .i64 nm, .int .i64 nu, .int .i64 ng, .int .i64 nt, .string t10, .string t11, .string ⟨#[]⟩] | 109 => v = .string s | 110 => v = .string (s.extract 156 157) | 111 => v = .slice (some ⟨gb, 0, none⟩) 5 cp | 112 => v = .pointer (some ⟨gb, 3, none⟩) | 113 => v = .int .i64 nz | 3 => v = .string (s.extract 156 157) | 4 => v = .int .i64 nz | 5 => v = .int .i64 0 | _ => True) (U := fun o w' => o.dst = none → w'.heap[w.heap.size]? = some (.cells #[.int .i64 0, .string t0, .string t8, .int .i64 nm, .int .i64 nu, .int .i64 ng, .int .i64 nt, .string t10, .string t11, .string ⟨#[]⟩] 23 (0, 0))) (w' := w2) (.pointer (some ⟨gb, 3, none⟩)) ?_ ?_ ?_ ?_ ?_
                        · (clear hV hI hC; go_simp <;> (first | rfl | simp))
                        · exact hC
                        · exact Or.inl rfl
                        · intro d hd; cases hd; exact rfl
                        · intro h; cases h
                      case o113 =>
                        intro Q a w2 hC hV hI
                        have e112 : a.eval (.tmp 112) = .pointer (some ⟨gb, 3, none⟩) := hV 112 (by simp [Op.operands]) (by kernel_rfl)
                        have f112 : a.tmps.getD 112 undef = .pointer (some ⟨gb, 3, none⟩) := e112
                        have g112 : a.tmps[112]?.getD undef = .pointer (some ⟨gb, 3, none⟩) := by rw [← Array.getD_eq_getD_getElem?]; exact e112
                        have hK := hC.2.2.1
                        refine opU_val (C := fun w' => Below w.heap.size w w' ∧ w'.heap[G]? = some (.cells #[.int .i64 0, .string t0, .string t8, .int .i64 nm, .int .i64 nu, .int .i64 ng, .int .i64 nt, .string t10, .string t11, .string ⟨#[]⟩] 23 (0, 0)) ∧ w'.cell? ⟨gb, 3, none⟩ = some (.int .i64 nz) ∧ (w'.heap[w.heap.size]? = some (.cells zEnt 23 (0, 0)) ∨ w'.heap[w.heap.size]? = some (.cells #[.int .i64 0, .string t0, .string t8, .int .i64 nm, .int .i64 nu, .int .i64 ng, .int .i64 nt, .string t10, .string t11, .string ⟨#[]⟩] 23 (0, 0)))) (St := fun x y => y.heap[w.heap.size]? = x.heap[w.heap.size]? ∨ y.heap[w.heap.size]? = some (.cells #[.int .i64 0, .string t0, .string t8, .int .i64 nm, .int .i64 nu, .int .i64 ng, .int .i64 nt, .string t10, .string t11, .string ⟨#[]⟩] 23 (0, 0))) (V := fun d v _ => match d with | 108 => v = .agg #[.int .i64 0, .string t0, .string t8, .int .i64 nm, .int .i64 nu, .int .i64 ng, .int .i64 nt, .string t10, .string t11, .string ⟨#[]⟩] | 109 => v = .string s | 110 => v = .string (s.extract 156 157) | 111 => v = .slice (some ⟨gb, 0, none⟩) 5 cp | 112 => v = .pointer (some ⟨gb, 3, none⟩) | 113 => v = .int .i64 nz | 3 => v = .string (s.extract 156 157) | 4 => v = .int .i64 nz | 5 => v = .int .i64 0 | _ => True) (U := fun o w' => o.dst = none → w'.heap[w.heap.size]? = some (.cells #[.int .i64 0, .string t0, .string t8, .int .i64 nm, .int .i64 nu, .int .i64 ng, .int .i64 nt, .string t10, .string t11, .string ⟨#[]⟩] 23 (0, 0))) (w' := w2) (.int .i64 nz) ?_ ?_ ?_ ?_ ?_
                        · (clear hV hI hC; go_simp <;> (first | rfl | simp))
                        · exact hC
                        · exact Or.inl rfl
                        · intro d hd; cases hd; exact rfl
                        · intro h; cases h
                      case os =>
                        intro Q a w2 hC hV hI
                        have e2 : a.eval (.tmp 2) = .pointer (some ⟨w.heap.size, 0, none⟩) := (hI 2 (by simp [Op.operands]) (by kernel_rfl)).trans rfl
                        have f2 : a.tmps.getD 2 undef = .pointer (some ⟨w.heap.size, 0, none⟩) := e2
                        have g2 : a.tmps[2]?.getD undef = .pointer (some ⟨w.heap.size, 0, none⟩) := by rw [← Array.getD_eq_getD_getElem?]; exact e2
                        have e108 : a.eval (.tmp 108) = .agg #[.int .i64 0, .string t0, .string t8, .int .i64 nm, .int .i64 nu, .int .i64 ng, .int .i64 nt, .string t10, .string t11, .string ⟨#[]⟩] := hV 108 (by simp [Op.operands]) (by kernel_rfl)
                        have f108 : a.tmps.getD 108 undef = .agg #[.int .i64 0, .string t0, .string t8, .int .i64 nm, .int .i64 nu, .int .i64 ng, .int .i64 nt, .string t10, .string t11, .string ⟨#[]⟩] := e108
                        have g108 : a.tmps[108]?.getD undef = .agg #[.int .i64 0, .string t0, .string t8, .int .i64 nm, .int .i64 nu, .int .i64 ng, .int .i64 nt, .string t10, .string t11, .string ⟨#[]⟩] := by rw [← Array.getD_eq_getD_getElem?]; exact e108
                        have hS : ∀ cs : Array Value, cs.size = 10 → w2.heap[w.heap.size]? = some (.cells cs 23 (0, 0)) → _ := fun cs hc hR => run_storeVar_row (P := Tryz.prog) w2 w.heap.size 23 23 cs #[.int .i64 0, .string t0, .string t8, .int .i64 nm, .int .i64 nu, .int .i64 ng, .int .i64 nt, .string t10, .string t11, .string ⟨#[]⟩] hR (by rw [Tryz.sizeEnt]; rfl) hc (by simp [Value.oneCell'])
                        have hR2 : (w2.setRow w.heap.size #[.int .i64 0, .string t0, .string t8, .int .i64 nm, .int .i64 nu, .int .i64 ng, .int .i64 nt, .string t10, .string t11, .string ⟨#[]⟩]).heap[w.heap.size]? = some (.cells #[.int .i64 0, .string t0, .string t8, .int .i64 nm, .int .i64 nu, .int .i64 ng, .int .i64 nt, .string t10, .string t11, .string ⟨#[]⟩] 23 (0, 0)) := hC.2.2.2.elim (fun h => setRow_heap _ _ _ _ _ _ h) (fun h => setRow_heap _ _ _ _ _ _ h)
                        refine opU_store (C := fun w' => Below w.heap.size w w' ∧ w'.heap[G]? = some (.cells #[.int .i64 0, .string t0, .string t8, .int .i64 nm, .int .i64 nu, .int .i64 ng, .int .i64 nt, .string t10, .string t11, .string ⟨#[]⟩] 23 (0, 0)) ∧ w'.cell? ⟨gb, 3, none⟩ = some (.int .i64 nz) ∧ (w'.heap[w.heap.size]? = some (.cells zEnt 23 (0, 0)) ∨ w'.heap[w.heap.size]? = some (.cells #[.int .i64 0, .string t0, .string t8, .int .i64 nm, .int .i64 nu, .int .i64 ng, .int .i64 nt, .string t10, .string t11, .string ⟨#[]⟩] 23 (0, 0)))) (St := fun x y => y.heap[w.heap.size]? = x.heap[w.heap.size]? ∨ y.heap[w.heap.size]? = some (.cells #[.int .i64 0, .string t0, .string t8, .int .i64 nm, .int .i64 nu, .int .i64 ng, .int .i64 nt, .string t10, .string t11, .string ⟨#[]⟩] 23 (0, 0))) (V := fun d v _ => match d with | 108 => v = .agg #[.int .i64 0, .string t0, .string t8, .int .i64 nm, .int .i64 nu, .int .i64 ng, .int .i64 nt, .string t10, .string t11, .string ⟨#[]⟩] | 109 => v = .string s | 110 => v = .string (s.extract 156 157) | 111 => v = .slice (some ⟨gb, 0, none⟩) 5 cp | 112 => v = .pointer (some ⟨gb, 3, none⟩) | 113 => v = .int .i64 nz | 3 => v = .string (s.extract 156 157) | 4 => v = .int .i64 nz | 5 => v = .int .i64 0 | _ => True) (U := fun o w' => o.dst = none → w'.heap[w.heap.size]? = some (.cells #[.int .i64 0, .string t0, .string t8, .int .i64 nm, .int .i64 nu, .int .i64 ng, .int .i64 nt, .string t10, .string t11, .string ⟨#[]⟩] 23 (0, 0))) 23 _ _ rfl rfl ⟨w.heap.size, 0, none⟩ e2 e108 (hC.2.2.2.elim (fun h => hS _ rfl h) (fun h => hS _ rfl h)) ?_ ?_ ?_
                        · exact ⟨hC.1.trans (below_set (Nat.le_refl _) _), by rw [setRow_other _ _ _ _ (by omega)]; exact hC.2.1, (cell_setRow_other (by omega)).trans hC.2.2.1, Or.inr hR2⟩
                        · exact Or.inr hR2
                        · intro _; exact hR2
                      case o3 =>
                        intro Q a w2 hC hV hI
                        have e110 : a.eval (.tmp 110) = .string (s.extract 156 157) := hV 110 (by simp [Op.operands]) (by kernel_rfl)
                        have f110 : a.tmps.getD 110 undef = .string (s.extract 156 157) := e110
                        have g110 : a.tmps[110]?.getD undef = .string (s.extract 156 157) := by rw [← Array.getD_eq_getD_getElem?]; exact e110
                        refine opU_val (C := fun w' => Below w.heap.size w w' ∧ w'.heap[G]? = some (.cells #[.int .i64 0, .string t0, .string t8, .int .i64 nm, .int .i64 nu, .int .i64 ng, .int .i64 nt, .string t10, .string t11, .string ⟨#[]⟩] 23 (0, 0)) ∧ w'.cell? ⟨gb, 3, none⟩ = some (.int .i64 nz) ∧ (w'.heap[w.heap.size]? = some (.cells zEnt 23 (0, 0)) ∨ w'.heap[w.heap.size]? = some (.cells #[.int .i64 0, .string t0, .string t8, .int .i64 nm, .int .i64 nu, .int .i64 ng, .int .i64 nt, .string t10, .string t11, .string ⟨#[]⟩] 23 (0, 0)))) (St := fun x y => y.heap[w.heap.size]? = x.heap[w.heap.size]? ∨ y.heap[w.heap.size]? = some (.cells #[.int .i64 0, .string t0, .string t8, .int .i64 nm, .int .i64 nu, .int .i64 ng, .int .i64 nt, .string t10, .string t11, .string ⟨#[]⟩] 23 (0, 0))) (V := fun d v _ => match d with | 108 => v = .agg #[.int .i64 0, .string t0, .string t8, .int .i64 nm, .int .i64 nu, .int .i64 ng, .int .i64 nt, .string t10, .string t11, .string ⟨#[]⟩] | 109 => v = .string s | 110 => v = .string (s.extract 156 157) | 111 => v = .slice (some ⟨gb, 0, none⟩) 5 cp | 112 => v = .pointer (some ⟨gb, 3, none⟩) | 113 => v = .int .i64 nz | 3 => v = .string (s.extract 156 157) | 4 => v = .int .i64 nz | 5 => v = .int .i64 0 | _ => True) (U := fun o w' => o.dst = none → w'.heap[w.heap.size]? = some (.cells #[.int .i64 0, .string t0, .string t8, .int .i64 nm, .int .i64 nu, .int .i64 ng, .int .i64 nt, .string t10, .string t11, .string ⟨#[]⟩] 23 (0, 0))) (w' := w2) (.string (s.extract 156 157)) ?_ ?_ ?_ ?_ ?_
                        · (clear hV hI hC; go_simp <;> (first | rfl | simp))
                        · exact hC
                        · exact Or.inl rfl
                        · intro d hd; cases hd; exact rfl
                        · intro h; cases h
                      case o4 =>
                        intro Q a w2 hC hV hI
                        have e113 : a.eval (.tmp 113) = .int .i64 nz := hV 113 (by simp [Op.operands]) (by kernel_rfl)
                        have f113 : a.tmps.getD 113 undef = .int .i64 nz := e113
                        have g113 : a.tmps[113]?.getD undef = .int .i64 nz := by rw [← Array.getD_eq_getD_getElem?]; exact e113
                        refine opU_val (C := fun w' => Below w.heap.size w w' ∧ w'.heap[G]? = some (.cells #[.int .i64 0, .string t0, .string t8, .int .i64 nm, .int .i64 nu, .int .i64 ng, .int .i64 nt, .string t10, .string t11, .string ⟨#[]⟩] 23 (0, 0)) ∧ w'.cell? ⟨gb, 3, none⟩ = some (.int .i64 nz) ∧ (w'.heap[w.heap.size]? = some (.cells zEnt 23 (0, 0)) ∨ w'.heap[w.heap.size]? = some (.cells #[.int .i64 0, .string t0, .string t8, .int .i64 nm, .int .i64 nu, .int .i64 ng, .int .i64 nt, .string t10, .string t11, .string ⟨#[]⟩] 23 (0, 0)))) (St := fun x y => y.heap[w.heap.size]? = x.heap[w.heap.size]? ∨ y.heap[w.heap.size]? = some (.cells #[.int .i64 0, .string t0, .string t8, .int .i64 nm, .int .i64 nu, .int .i64 ng, .int .i64 nt, .string t10, .string t11, .string ⟨#[]⟩] 23 (0, 0))) (V := fun d v _ => match d with | 108 => v = .agg #[.int .i64 0, .string t0, .string t8, .int .i64 nm, .int .i64 nu, .int .i64 ng, .int .i64 nt, .string t10, .string t11, .string ⟨#[]⟩] | 109 => v = .string s | 110 => v = .string (s.extract 156 157) | 111 => v = .slice (some ⟨gb, 0, none⟩) 5 cp | 112 => v = .pointer (some ⟨gb, 3, none⟩) | 113 => v = .int .i64 nz | 3 => v = .string (s.extract 156 157) | 4 => v = .int .i64 nz | 5 => v = .int .i64 0 | _ => True) (U := fun o w' => o.dst = none → w'.heap[w.heap.size]? = some (.cells #[.int .i64 0, .string t0, .string t8, .int .i64 nm, .int .i64 nu, .int .i64 ng, .int .i64 nt, .string t10, .string t11, .string ⟨#[]⟩] 23 (0, 0))) (w' := w2) (.int .i64 nz) ?_ ?_ ?_ ?_ ?_
                        · (clear hV hI hC; go_simp <;> (first | rfl | simp))
                        · exact hC
                        · exact Or.inl rfl
                        · intro d hd; cases hd; exact rfl
                        · intro h; cases h
                      case o5 =>
                        intro Q a w2 hC hV hI
                        refine opU_val (C := fun w' => Below w.heap.size w w' ∧ w'.heap[G]? = some (.cells #[.int .i64 0, .string t0, .string t8, .int .i64 nm, .int .i64 nu, .int .i64 ng, .int .i64 nt, .string t10, .string t11, .string ⟨#[]⟩] 23 (0, 0)) ∧ w'.cell? ⟨gb, 3, none⟩ = some (.int .i64 nz) ∧ (w'.heap[w.heap.size]? = some (.cells zEnt 23 (0, 0)) ∨ w'.heap[w.heap.size]? = some (.cells #[.int .i64 0, .string t0, .string t8, .int .i64 nm, .int .i64 nu, .int .i64 ng, .int .i64 nt, .string t10, .string t11, .string ⟨#[]⟩] 23 (0, 0)))) (St := fun x y => y.heap[w.heap.size]? = x.heap[w.heap.size]? ∨ y.heap[w.heap.size]? = some (.cells #[.int .i64 0, .string t0, .string t8, .int .i64 nm, .int .i64 nu, .int .i64 ng, .int .i64 nt, .string t10, .string t11, .string ⟨#[]⟩] 23 (0, 0))) (V := fun d v _ => match d with | 108 => v = .agg #[.int .i64 0, .string t0, .string t8, .int .i64 nm, .int .i64 nu, .int .i64 ng, .int .i64 nt, .string t10, .string t11, .string ⟨#[]⟩] | 109 => v = .string s | 110 => v = .string (s.extract 156 157) | 111 => v = .slice (some ⟨gb, 0, none⟩) 5 cp | 112 => v = .pointer (some ⟨gb, 3, none⟩) | 113 => v = .int .i64 nz | 3 => v = .string (s.extract 156 157) | 4 => v = .int .i64 nz | 5 => v = .int .i64 0 | _ => True) (U := fun o w' => o.dst = none → w'.heap[w.heap.size]? = some (.cells #[.int .i64 0, .string t0, .string t8, .int .i64 nm, .int .i64 nu, .int .i64 ng, .int .i64 nt, .string t10, .string t11, .string ⟨#[]⟩] 23 (0, 0))) (w' := w2) (.int .i64 0) ?_ ?_ ?_ ?_ ?_
                        · (clear hV hI hC; go_simp <;> (first | rfl | simp))
                        · exact hC
                        · exact Or.inl rfl
                        · intro d hd; cases hd; exact rfl
                        · intro h; cases h
                    case hend =>
                      intro f w7 hC hall huall
                      simp only [List.forall_mem_cons] at hall
                      obtain ⟨h108, h109, h110, h111, h112, h113, _, h3, h4, h5, _⟩ := hall
                      simp only [List.forall_mem_cons] at huall
                      obtain ⟨_, _, _, _, _, _, hus, _, _, _, _⟩ := huall
                      replace h108 : f 108 = .agg #[.int .i64 0, .string t0, .string t8, .int .i64 nm, .int .i64 nu, .int .i64 ng, .int .i64 nt, .string t10, .string t11, .string ⟨#[]⟩] := h108 108 rfl
                      replace h109 : f 109 = .string s := h109 109 rfl
                      replace h110 : f 110 = .string (s.extract 156 157) := h110 110 rfl
                      replace h111 : f 111 = .slice (some ⟨gb, 0, none⟩) 5 cp := h111 111 rfl
                      replace h112 : f 112 = .pointer (some ⟨gb, 3, none⟩) := h112 112 rfl
                      replace h113 : f 113 = .int .i64 nz := h113 113 rfl
                      replace h3 : f 3 = .string (s.extract 156 157) := h3 3 rfl
                      replace h4 : f 4 = .int .i64 nz := h4 4 rfl
                      replace h5 : f 5 = .int .i64 0 := h5 5 rfl
                      simp only [putAll, Act.put, List.setIfInBounds_toArray, List.set_cons_succ, List.set_cons_zero, h108, h109, h110, h111, h112, h113, h3, h4, h5]
                      clear h108 h109 h110 h111 h112 h113 h3 h4 h5
                      have R5 := Lib.hid (hus trivial)
                      have B5 := Lib.hid hC.1
                      clear hC hus
                      go_wp2
                      refine bodyPost_ret (results_cell4 rfl _ _ w.heap.size _ #[.int .i64 0, .string t0, .string t8, .int .i64 nm, .int .i64 nu, .int .i64 ng, .int .i64 nt, .string t10, .string t11, .string ⟨#[]⟩] (0, 0) _ rfl R5.out Tryz.underlying23 rfl (by rw [Tryz.sizeEnt]; rfl)) rfl ?_
                      rw [HE.out]
                      exact ⟨rfl, B5.out⟩
                · have HP2 := HP.out.trans (if_neg hq)
                  have hq1 := empty_f hq
                  have HP3 := Lib.hid HP2
                  clear HP HP2 C0 C14 hq
                  go_wp2_with fail
                  rw [← HP3.out]
                  refine wp_region_cut 24 (by kernel_rfl) (fun w' => Below wr.heap.size wr w') (fun x y => Below x.heap.size x y) (vBox wr.heap.size (fun d v => match d with | 85 => v = .string pth | 86 => v = .string s | 87 => v = .string (s.extract 157 257) | 88 => v = .string t8 | 89 => v = .slice (some ⟨gb, 0, none⟩) 5 cp | 90 => v = .pointer (some ⟨gb, 0, none⟩) | 91 => v = .int .i64 nm | 92 => v = .slice (some ⟨gb, 0, none⟩) 5 cp | 93 => v = .pointer (some ⟨gb, 1, none⟩) | 94 => v = .int .i64 nu | 95 => v = .slice (some ⟨gb, 0, none⟩) 5 cp | 96 => v = .pointer (some ⟨gb, 2, none⟩) | 97 => v = .int .i64 ng | 98 => v = .slice (some ⟨gb, 0, none⟩) 5 cp | 99 => v = .pointer (some ⟨gb, 4, none⟩) | 100 => v = .int .i64 nt | 101 => v = .string s | 102 => v = .string (s.extract 265 297) | 103 => v = .string t10 | 104 => v = .string s | 105 => v = .string (s.extract 297 329) | 106 => v = .string t11 | 107 => v = .agg #[.int .i64 0, .string pth, .string t8, .int .i64 nm, .int .i64 nu, .int .i64 ng, .int .i64 nt, .string t10, .string t11, .string ⟨#[]⟩] | _ => True)) (by kernel_rfl) (by kernel_rfl) ((Below.refl _ _).drew) (vBox_keep _ _) (by simp) ?hops ?hend
                  case hops =>
                    simp only [List.take_succ_cons, List.take_zero, List.forall_mem_cons]
                    refine ⟨?o85, ?o86, ?o87, ?o88, ?o89, ?o90, ?o91, ?o92, ?o93, ?o94, ?o95, ?o96, ?o97, ?o98, ?o99, ?o100, ?o101, ?o102, ?o103, ?o104, ?o105, ?o106, ?o107, ?o15, fun _ h => by cases h⟩
                    case o85 =>
                      intro Q a w2 hC hV hI
                      have e13 : a.eval (.tmp 13) = .string pth := (hI 13 (by simp [Op.operands]) (by kernel_rfl)).trans rfl
                      have f13 : a.tmps.getD 13 undef = .string pth := e13
                      have g13 : a.tmps[13]?.getD undef = .string pth := by rw [← Array.getD_eq_getD_getElem?]; exact e13
                      refine op_val (.string pth) ?_ hC (Below.refl _ _) (by intro d hd; cases hd; exact rfl)
                      (clear hV hI hC; go_simp <;> (first | rfl | simp))
                    case o86 =>
                      intro Q a w2 hC hV hI
                      have e0 : a.eval (.tmp 0) = .string s := (hI 0 (by simp [Op.operands]) (by kernel_rfl)).trans rfl
                      have f0 : a.tmps.getD 0 undef = .string s := e0
                      have g0 : a.tmps[0]?.getD undef = .string s := by rw [← Array.getD_eq_getD_getElem?]; exact e0
                      refine op_val (.string s) ?_ hC (Below.refl _ _) (by intro d hd; cases hd; exact rfl)
                      (clear hV hI hC; go_simp <;> (first | rfl | simp))
                    case o87 =>
                      intro Q a w2 hC hV hI
                      have e86 : a.eval (.tmp 86) = .string s := hV 86 (by simp [Op.operands]) (by kernel_rfl)
                      have f86 : a.tmps.getD 86 undef = .string s := e86
                      have g86 : a.tmps[86]?.getD undef = .string s := by rw [← Array.getD_eq_getD_getElem?]; exact e86
                      refine op_val (.string (s.extract 157 257)) ?_ hC (Below.refl _ _) (by intro d hd; cases hd; exact rfl)
                      (clear hV hI hC; go_simp <;> (first | rfl | simp))
                    case o88 =>
                      intro Q a w2 hC hV hI
                      have e87 : a.eval (.tmp 87) = .string (s.extract 157 257) := hV 87 (by simp [Op.operands, Call.operands]) (by kernel_rfl)
                      have f87 : a.tmps.getD 87 undef = .string (s.extract 157 257) := e87
                      have g87 : a.tmps[87]?.getD undef = .string (s.extract 157 257) := by rw [← Array.getD_eq_getD_getElem?]; exact e87
                      refine op_call (f := 49) (args := #[.string (s.extract 157 257)]) (R := fun v y => v = .string t8 ∧ w2 = y) ?_ ((C8.out w2).mono ?_) ?_
                      · (clear hV hI hC; go_simp <;> (first | rfl | simp))
                      · rintro e y ⟨rfl, rfl⟩; exact ⟨_, rfl, rfl, rfl⟩
                      · rintro v y ⟨rfl, rfl⟩; exact ⟨hC, Below.refl _ _, by intro d hd; cases hd; exact rfl⟩
                    case o89 =>
                      intro Q a w2 hC hV hI
                      have e8 : a.eval (.tmp 8) = .slice (some ⟨gb, 0, none⟩) 5 cp := (hI 8 (by simp [Op.operands]) (by kernel_rfl)).trans rfl
                      have f8 : a.tmps.getD 8 undef = .slice (some ⟨gb, 0, none⟩) 5 cp := e8
                      have g8 : a.tmps[8]?.getD undef = .slice (some ⟨gb, 0, none⟩) 5 cp := by rw [← Array.getD_eq_getD_getElem?]; exact e8
                      refine op_val (.slice (some ⟨gb, 0, none⟩) 5 cp) ?_ hC (Below.refl _ _) (by intro d hd; cases hd; exact rfl)
                      (clear hV hI hC; go_simp <;> (first | rfl | simp))
                    case o90 =>
                      intro Q a w2 hC hV hI
                      have e89 : a.eval (.tmp 89) = .slice (some ⟨gb, 0, none⟩) 5 cp := hV 89 (by simp [Op.operands]) (by kernel_rfl)
                      have f89 : a.tmps.getD 89 undef = .slice (some ⟨gb, 0, none⟩) 5 cp := e89
                      have g89 : a.tmps[89]?.getD undef = .slice (some ⟨gb, 0, none⟩) 5 cp := by rw [← Array.getD_eq_getD_getElem?]; exact e89
                      refine op_val (.pointer (some ⟨gb, 0, none⟩)) ?_ hC (Below.refl _ _) (by intro d hd; cases hd; exact rfl)
                      (clear hV hI hC; go_simp <;> (first | rfl | simp))
                    case o91 =>
                      intro Q a w2 hC hV hI
                      have e90 : a.eval (.tmp 90) = .pointer (some ⟨gb, 0, none⟩) := hV 90 (by simp [Op.operands]) (by kernel_rfl)
                      have f90 : a.tmps.getD 90 undef = .pointer (some ⟨gb, 0, none⟩) := e90
                      have g90 : a.tmps[90]?.getD undef = .pointer (some ⟨gb, 0, none⟩) := by rw [← Array.getD_eq_getD_getElem?]; exact e90
                      have hK := KC.out w2 hC
                      refine op_val (.int .i64 nm) ?_ hC (Below.refl _ _) (by intro d hd; cases hd; exact rfl)
                      (clear hV hI hC; go_simp <;> (first | rfl | simp))
                    case o92 =>
                      intro Q a w2 hC hV hI
                      have e8 : a.eval (.tmp 8) = .slice (some ⟨gb, 0, none⟩) 5 cp := (hI 8 (by simp [Op.operands]) (by kernel_rfl)).trans rfl
                      have f8 : a.tmps.getD 8 undef = .slice (some ⟨gb, 0, none⟩) 5 cp := e8
                      have g8 : a.tmps[8]?.getD undef = .slice (some ⟨gb, 0, none⟩) 5 cp := by rw [← Array.getD_eq_getD_getElem?]; exact e8
                      refine op_val (.slice (some ⟨gb, 0, none⟩) 5 cp) ?_ hC (Below.refl _ _) (by intro d hd; cases hd; exact rfl)
                      (clear hV hI hC; go_simp <;> (first | rfl | simp))
                    case o93 =>
                      intro Q a w2 hC hV hI
                      have e92 : a.eval (.tmp 92) = .slice (some ⟨gb, 0, none⟩) 5 cp := hV 92 (by simp [Op.operands]) (by kernel_rfl)
                      have f92 : a.tmps.getD 92 undef = .slice (some ⟨gb, 0, none⟩) 5 cp := e92
                      have g92 : a.tmps[92]?.getD undef = .slice (some ⟨gb, 0, none⟩) 5 cp := by rw [← Array.getD_eq_getD_getElem?]; exact e92
                      refine op_val (.pointer (some ⟨gb, 1, none⟩)) ?_ hC (Below.refl _ _) (by intro d hd; cases hd; exact rfl)
                      (clear hV hI hC; go_simp <;> (first | rfl | simp))
                    case o94 =>
                      intro Q a w2 hC hV hI
                      have e93 : a.eval (.tmp 93) = .pointer (some ⟨gb, 1, none⟩) := hV 93 (by simp [Op.operands]) (by kernel_rfl)
                      have f93 : a.tmps.getD 93 undef = .pointer (some ⟨gb, 1, none⟩) := e93
                      have g93 : a.tmps[93]?.getD undef = .pointer (some ⟨gb, 1, none⟩) := by rw [← Array.getD_eq_getD_getElem?]; exact e93
                      have hK := KC.out w2 hC
                      refine op_val (.int .i64 nu) ?_ hC (Below.refl _ _) (by intro d hd; cases hd; exact rfl)
                      (clear hV hI hC; go_simp <;> (first | rfl | simp))
                    case o95 =>
                      intro Q a w2 hC hV hI
                      have e8 : a.eval (.tmp 8) = .slice (some ⟨gb, 0, none⟩) 5 cp := (hI 8 (by simp [Op.operands]) (by kernel_rfl)).trans rfl
                      have f8 : a.tmps.getD 8 undef = .slice (some ⟨gb, 0, none⟩) 5 cp := e8
                      have g8 : a.tmps[8]?.getD undef = .slice (some ⟨gb, 0, none⟩) 5 cp := by rw [← Array.getD_eq_getD_getElem?]; exact e8
                      refine op_val (.slice (some ⟨gb, 0, none⟩) 5 cp) ?_ hC (Below.refl _ _) (by intro d hd; cases hd; exact rfl)
                      (clear hV hI hC; go_simp <;> (first | rfl | simp))
                    case o96 =>
                      intro Q a w2 hC hV hI
                      have e95 : a.eval (.tmp 95) = .slice (some ⟨gb, 0, none⟩) 5 cp := hV 95 (by simp [Op.operands]) (by kernel_rfl)
                      have f95 : a.tmps.getD 95 undef = .slice (some ⟨gb, 0, none⟩) 5 cp := e95
                      have g95 : a.tmps[95]?.getD undef = .slice (some ⟨gb, 0, none⟩) 5 cp := by rw [← Array.getD_eq_getD_getElem?]; exact e95
                      refine op_val (.pointer (some ⟨gb, 2, none⟩)) ?_ hC (Below.refl _ _) (by intro d hd; cases hd; exact rfl)
                      (clear hV hI hC; go_simp <;> (first | rfl | simp))
                    case o97 =>
                      intro Q a w2 hC hV hI
                      have e96 : a.eval (.tmp 96) = .pointer (some ⟨gb, 2, none⟩) := hV 96 (by simp [Op.operands]) (by kernel_rfl)
                      have f96 : a.tmps.getD 96 undef = .pointer (some ⟨gb, 2, none⟩) := e96
                      have g96 : a.tmps[96]?.getD undef = .pointer (some ⟨gb, 2, none⟩) := by rw [← Array.getD_eq_getD_getElem?]; exact e96
                      have hK := KC.out w2 hC
                      refine op_val (.int .i64 ng) ?_ hC (Below.refl _ _) (by intro d hd; cases hd; exact rfl)
                      (clear hV hI hC; go_simp <;> (first | rfl | simp))
                    case o98 =>
                      intro Q a w2 hC hV hI
                      have e8 : a.eval (.tmp 8) = .slice (some ⟨gb, 0, none⟩) 5 cp := (hI 8 (by simp [Op.operands]) (by kernel_rfl)).trans rfl
                      have f8 : a.tmps.getD 8 undef = .slice (some ⟨gb, 0, none⟩) 5 cp := e8
                      have g8 : a.tmps[8]?.getD undef = .slice (some ⟨gb, 0, none⟩) 5 cp := by rw [← Array.getD_eq_getD_getElem?]; exact e8
                      refine op_val (.slice (some ⟨gb, 0, none⟩) 5 cp) ?_ hC (Below.refl _ _) (by intro d hd; cases hd; exact rfl)
                      (clear hV hI hC; go_simp <;> (first | rfl | simp))
                    case o99 =>
                      intro Q a w2 hC hV hI
                      have e98 : a.eval (.tmp 98) = .slice (some ⟨gb, 0, none⟩) 5 cp := hV 98 (by simp [Op.operands]) (by kernel_rfl)
                      have f98 : a.tmps.getD 98 undef = .slice (some ⟨gb, 0, none⟩) 5 cp := e98
                      have g98 : a.tmps[98]?.getD undef = .slice (some ⟨gb, 0, none⟩) 5 cp := by rw [← Array.getD_eq_getD_getElem?]; exact e98
                      refine op_val (.pointer (some ⟨gb, 4, none⟩)) ?_ hC (Below.refl _ _) (by intro d hd; cases hd; exact rfl)
                      (clear hV hI hC; go_simp <;> (first | rfl | simp))
                    case o100 =>
                      intro Q a w2 hC hV hI
                      have e99 : a.eval (.tmp 99) = .pointer (some ⟨gb, 4, none⟩) := hV 99 (by simp [Op.operands]) (by kernel_rfl)
                      have f99 : a.tmps.getD 99 undef = .pointer (some ⟨gb, 4, none⟩) := e99
                      have g99 : a.tmps[99]?.getD undef = .pointer (some ⟨gb, 4, none⟩) := by rw [← Array.getD_eq_getD_getElem?]; exact e99
                      have hK := KC.out w2 hC
                      refine op_val (.int .i64 nt) ?_ hC (Below.refl _ _) (by intro d hd; cases hd; exact rfl)
                      (clear hV hI hC; go_simp <;> (first | rfl | simp))
                    case o101 =>
                      intro Q a w2 hC hV hI
                      have e0 : a.eval (.tmp 0) = .string s := (hI 0 (by simp [Op.operands]) (by kernel_rfl)).trans rfl
                      have f0 : a.tmps.getD 0 undef = .string s := e0
                      have g0 : a.tmps[0]?.getD undef = .string s := by rw [← Array.getD_eq_getD_getElem?]; exact e0
                      refine op_val (.string s) ?_ hC (Below.refl _ _) (by intro d hd; cases hd; exact rfl)
                      (clear hV hI hC; go_simp <;> (first | rfl | simp))
                    case o102 =>
                      intro Q a w2 hC hV hI
                      have e101 : a.eval (.tmp 101) = .string s := hV 101 (by simp [Op.operands]) (by kernel_rfl)
                      have f101 : a.tmps.getD 101 undef = .string s := e101
                      have g101 : a.tmps[101]?.getD undef = .string s := by rw [← Array.getD_eq_getD_getElem?]; exact e101
                      refine op_val (.string (s.extract 265 297)) ?_ hC (Below.refl _ _) (by intro d hd; cases hd; exact rfl)
                      (clear hV hI hC; go_simp <;> (first | rfl | simp))
                    case o103 =>
                      intro Q a w2 hC hV hI
                      have e102 : a.eval (.tmp 102) = .string (s.extract 265 297) := hV 102 (by simp [Op.operands, Call.operands]) (by kernel_rfl)
                      have f102 : a.tmps.getD 102 undef = .string (s.extract 265 297) := e102
                      have g102 : a.tmps[102]?.getD undef = .string (s.extract 265 297) := by rw [← Array.getD_eq_getD_getElem?]; exact e102
                      refine op_call (f := 49) (args := #[.string (s.extract 265 297)]) (R := fun v y => v = .string t10 ∧ w2 = y) ?_ ((C10.out w2).mono ?_) ?_
                      · (clear hV hI hC; go_simp <;> (first | rfl | simp))
                      · rintro e y ⟨rfl, rfl⟩; exact ⟨_, rfl, rfl, rfl⟩
                      · rintro v y ⟨rfl, rfl⟩; exact ⟨hC, Below.refl _ _, by intro d hd; cases hd; exact rfl⟩
                    case o104 =>
                      intro Q a w2 hC hV hI
                      have e0 : a.eval (.tmp 0) = .string s := (hI 0 (by simp [Op.operands]) (by kernel_rfl)).trans rfl
                      have f0 : a.tmps.getD 0 undef = .string s := e0
                      have g0 : a.tmps[0]?.getD undef = .string s := by rw [← Array.getD_eq_getD_getElem?]; exact e0
                      refine op_val (.string s) ?_ hC (Below.refl _ _) (by intro d hd; cases hd; exact rfl)
                      (clear hV hI hC; go_simp <;> (first | rfl | simp))
                    case o105 =>
                      intro Q a w2 hC hV hI
                      have e104 : a.eval (.tmp 104) = .string s := hV 104 (by simp [Op.operands]) (by kernel_rfl)
                      have f104 : a.tmps.getD 104 undef = .string s := e104
                      have g104 : a.tmps[104]?.getD undef = .string s := by rw [← Array.getD_eq_getD_getElem?]; exact e104
                      refine op_val (.string (s.extract 297 329)) ?_ hC (Below.refl _ _) (by intro d hd; cases hd; exact rfl)
                      (clear hV hI hC; go_simp <;> (first | rfl | simp))
                    case o106 =>
                      intro Q a w2 hC hV hI
                      have e105 : a.eval (.tmp 105) = .string (s.extract 297 329) := hV 105 (by simp [Op.operands, Call.operands]) (by kernel_rfl)
                      have f105 : a.tmps.getD 105 undef = .string (s.extract 297 329) := e105
                      have g105 : a.tmps[105]?.getD undef = .string (s.extract 297 329) := by rw [← Array.getD_eq_getD_getElem?]; exact e105
                      refine op_call (f := 49) (args := #[.string (s.extract 297 329)]) (R := fun v y => v = .string t11 ∧ w2 = y) ?_ ((C11.out w2).mono ?_) ?_
                      · (clear hV hI hC; go_simp <;> (first | rfl | simp))
                      · rintro e y ⟨rfl, rfl⟩; exact ⟨_, rfl, rfl, rfl⟩
                      · rintro v y ⟨rfl, rfl⟩; exact ⟨hC, Below.refl _ _, by intro d hd; cases hd; exact rfl⟩
                    case o107 =>
                      intro Q a w2 hC hV hI
                      have e85 : a.eval (.tmp 85) = .string pth := hV 85 (by simp [Op.operands]) (by kernel_rfl)
                      have f85 : a.tmps.getD 85 undef = .string pth := e85
                      have g85 : a.tmps[85]?.getD undef = .string pth := by rw [← Array.getD_eq_getD_getElem?]; exact e85
                      have e88 : a.eval (.tmp 88) = .string t8 := hV 88 (by simp [Op.operands]) (by kernel_rfl)
                      have f88 : a.tmps.getD 88 undef = .string t8 := e88
                      have g88 : a.tmps[88]?.getD undef = .string t8 := by rw [← Array.getD_eq_getD_getElem?]; exact e88
                      have e91 : a.eval (.tmp 91) = .int .i64 nm := hV 91 (by simp [Op.operands]) (by kernel_rfl)
                      have f91 : a.tmps.getD 91 undef = .int .i64 nm := e91
                      have g91 : a.tmps[91]?.getD undef = .int .i64 nm := by rw [← Array.getD_eq_getD_getElem?]; exact e91
                      have e94 : a.eval (.tmp 94) = .int .i64 nu := hV 94 (by simp [Op.operands]) (by kernel_rfl)
                      have f94 : a.tmps.getD 94 undef = .int .i64 nu := e94
                      have g94 : a.tmps[94]?.getD undef = .int .i64 nu := by rw [← Array.getD_eq_getD_getElem?]; exact e94
                      have e97 : a.eval (.tmp 97) = .int .i64 ng := hV 97 (by simp [Op.operands]) (by kernel_rfl)
                      have f97 : a.tmps.getD 97 undef = .int .i64 ng := e97
                      have g97 : a.tmps[97]?.getD undef = .int .i64 ng := by rw [← Array.getD_eq_getD_getElem?]; exact e97
                      have e100 : a.eval (.tmp 100) = .int .i64 nt := hV 100 (by simp [Op.operands]) (by kernel_rfl)
                      have f100 : a.tmps.getD 100 undef = .int .i64 nt := e100
                      have g100 : a.tmps[100]?.getD undef = .int .i64 nt := by rw [← Array.getD_eq_getD_getElem?]; exact e100
                      have e103 : a.eval (.tmp 103) = .string t10 := hV 103 (by simp [Op.operands]) (by kernel_rfl)
                      have f103 : a.tmps.getD 103 undef = .string t10 := e103
                      have g103 : a.tmps[103]?.getD undef = .string t10 := by rw [← Array.getD_eq_getD_getElem?]; exact e103
                      have e106 : a.eval (.tmp 106) = .string t11 := hV 106 (by simp [Op.operands]) (by kernel_rfl)
                      have f106 : a.tmps.getD 106 undef = .string t11 := e106
                      have g106 : a.tmps[106]?.getD undef = .string t11 := by rw [← Array.getD_eq_getD_getElem?]; exact e106
                      refine op_val (.agg #[.int .i64 0, .string pth, .string t8, .int .i64 nm, .int .i64 nu, .int .i64 ng, .int .i64 nt, .string t10, .string t11, .string ⟨#[]⟩]) ?_ hC (Below.refl _ _) (by intro d hd; cases hd; exact rfl)
                      (clear hV hI hC; go_simp <;> (first | rfl | simp))
                    case o15 =>
                      intro Q a w2 hC hV hI
                      refine op_val (.pointer (some ⟨w2.heap.size, 0, none⟩)) (w' := w2.alloc (.cells zEnt 23)) ?_ (hC.alloc hC.size _) ((Below.refl _ _).alloc (Nat.le_refl _) _) ?_
                      · (clear hV hI hC; go_simp <;> (first | rfl | simp))
                      · intro d hd; cases hd; exact ⟨w2.heap.size, rfl, hC.size, heap_alloc_last _ _⟩
                  case hend =>
                    intro f w5 hC hall
                    simp only [List.take_succ_cons, List.take_zero, List.drop_succ_cons, List.drop_zero] at hall ⊢
                    simp only [List.forall_mem_cons] at hall
                    obtain ⟨h85, h86, h87, h88, h89, h90, h91, h92, h93, h94, h95, h96, h97, h98, h99, h100, h101, h102, h103, h104, h105, h106, h107, h15, _⟩ := hall
                    replace h85 : f 85 = .string pth := h85 85 rfl
                    replace h86 : f 86 = .string s := h86 86 rfl
                    replace h87 : f 87 = .string (s.extract 157 257) := h87 87 rfl
                    replace h88 : f 88 = .string t8 := h88 88 rfl
                    replace h89 : f 89 = .slice (some ⟨gb, 0, none⟩) 5 cp := h89 89 rfl
                    replace h90 : f 90 = .pointer (some ⟨gb, 0, none⟩) := h90 90 rfl
                    replace h91 : f 91 = .int .i64 nm := h91 91 rfl
                    replace h92 : f 92 = .slice (some ⟨gb, 0, none⟩) 5 cp := h92 92 rfl
                    replace h93 : f 93 = .pointer (some ⟨gb, 1, none⟩) := h93 93 rfl
                    replace h94 : f 94 = .int .i64 nu := h94 94 rfl
                    replace h95 : f 95 = .slice (some ⟨gb, 0, none⟩) 5 cp := h95 95 rfl
                    replace h96 : f 96 = .pointer (some ⟨gb, 2, none⟩) := h96 96 rfl
                    replace h97 : f 97 = .int .i64 ng := h97 97 rfl
                    replace h98 : f 98 = .slice (some ⟨gb, 0, none⟩) 5 cp := h98 98 rfl
                    replace h99 : f 99 = .pointer (some ⟨gb, 4, none⟩) := h99 99 rfl
                    replace h100 : f 100 = .int .i64 nt := h100 100 rfl
                    replace h101 : f 101 = .string s := h101 101 rfl
                    replace h102 : f 102 = .string (s.extract 265 297) := h102 102 rfl
                    replace h103 : f 103 = .string t10 := h103 103 rfl
                    replace h104 : f 104 = .string s := h104 104 rfl
                    replace h105 : f 105 = .string (s.extract 297 329) := h105 105 rfl
                    replace h106 : f 106 = .string t11 := h106 106 rfl
                    replace h107 : f 107 = .agg #[.int .i64 0, .string pth, .string t8, .int .i64 nm, .int .i64 nu, .int .i64 ng, .int .i64 nt, .string t10, .string t11, .string ⟨#[]⟩] := h107 107 rfl
                    obtain ⟨G, hG15, hGB, hGO⟩ : ∃ G, f 15 = .pointer (some ⟨G, 0, none⟩) ∧ wr.heap.size ≤ G ∧ w5.heap[G]? = some (.cells zEnt 23 (0, 0)) := h15 15 rfl
                    simp only [putAll, Act.put, List.setIfInBounds_toArray, List.set_cons_succ, List.set_cons_zero, h85, h86, h87, h88, h89, h90, h91, h92, h93, h94, h95, h96, h97, h98, h99, h100, h101, h102, h103, h104, h105, h106, h107, hG15]
                    clear h85 h86 h87 h88 h89 h90 h91 h92 h93 h94 h95 h96 h97 h98 h99 h100 h101 h102 h103 h104 h105 h106 h107 hG15
                    have HS1 := Lib.hid (run_storeVar_row (P := Tryz.prog) w5 G 23 23 zEnt #[.int .i64 0, .string pth, .string t8, .int .i64 nm, .int .i64 nu, .int .i64 ng, .int .i64 nt, .string t10, .string t11, .string ⟨#[]⟩] hGO (by rw [Tryz.sizeEnt]; rfl) rfl (by simp [Value.oneCell']))
                    have OG := setRow_heap _ _ _ #[.int .i64 0, .string pth, .string t8, .int .i64 nm, .int .i64 nu, .int .i64 ng, .int .i64 nt, .string t10, .string t11, .string ⟨#[]⟩] _ _ hGO
                    have BG := hC.trans (below_set (w := w5) hGB #[.int .i64 0, .string pth, .string t8, .int .i64 nm, .int .i64 nu, .int .i64 ng, .int .i64 nt, .string t10, .string t11, .string ⟨#[]⟩])
                    go_wp2_with ((with_reducible refine wpList_store_eq rfl 23 _ _ rfl ⟨G, 0, none⟩ ?_ ?_ HS1.out ?_); rfl; rfl)
                    clear HS1 hGO hC
                    generalize w5.setRow G #[.int .i64 0, .string pth, .string t8, .int .i64 nm, .int .i64 nu, .int .i64 ng, .int .i64 nt, .string t10, .string t11, .string ⟨#[]⟩] = w6 at *
                    have zG := obj_lt OG
                    have HLG : Hid (∀ w' : World, w'.heap[G]? = some (.cells #[.int .i64 0, .string pth, .string t8, .int .i64 nm, .int .i64 nu, .int .i64 ng, .int .i64 nt, .string t10, .string t11, .string ⟨#[]⟩] 23 (0, 0)) → w'.cell? ⟨G, 0, none⟩ = some (.int .i64 0) ∧ w'.cell? ⟨G, 1, none⟩ = some (.string pth) ∧ w'.cell? ⟨G, 2, none⟩ = some (.string t8) ∧ w'.cell? ⟨G, 3, none⟩ = some (.int .i64 nm) ∧ w'.cell? ⟨G, 4, none⟩ = some (.int .i64 nu) ∧ w'.cell? ⟨G, 5, none⟩ = some (.int .i64 ng) ∧ w'.cell? ⟨G, 6, none⟩ = some (.int .i64 nt) ∧ w'.cell? ⟨G, 7, none⟩ = some (.string t10) ∧ w'.cell? ⟨G, 8, none⟩ = some (.string t11) ∧ w'.cell? ⟨G, 9, none⟩ = some (.string ⟨#[]⟩)) := Lib.hid (fun w' h1 => by refine ⟨?_, ?_, ?_, ?_, ?_, ?_, ?_, ?_, ?_, ?_⟩ <;> (rw [cell_of_row _ _ _ _ _ _ h1]; rfl))
                    have N3 := Lib.hid (KC.out w6 BG).2.2.2.1
                    have RO6 := Lib.hid ((BG.block _ (obj_lt RO3.out)).trans RO3.out)
                    have B6 := Lib.hid (B3.out.trans (BG.mono B3.out.size))
                    have zRG : w.heap.size < G := Nat.lt_of_lt_of_le (obj_lt RO3.out) hGB
                    have OG6 := Lib.hid OG
                    clear BG OG KC
                    refine wp_region_u (by kernel_rfl) (fun w' => Below w.heap.size w w' ∧ w'.heap[G]? = some (.cells #[.int .i64 0, .string pth, .string t8, .int .i64 nm, .int .i64 nu, .int .i64 ng, .int .i64 nt, .string t10, .string t11, .string ⟨#[]⟩] 23 (0, 0)) ∧ w'.cell? ⟨gb, 3, none⟩ = some (.int .i64 nz) ∧ (w'.heap[w.heap.size]? = some (.cells zEnt 23 (0, 0)) ∨ w'.heap[w.heap.size]? = some (.cells #[.int .i64 0, .string pth, .string t8, .int .i64 nm, .int .i64 nu, .int .i64 ng, .int .i64 nt, .string t10, .string t11, .string ⟨#[]⟩] 23 (0, 0)))) (fun x y => y.heap[w.heap.size]? = x.heap[w.heap.size]? ∨ y.heap[w.heap.size]? = some (.cells #[.int .i64 0, .string pth, .string t8, .int .i64 nm, .int .i64 nu, .int .i64 ng, .int .i64 nt, .string t10, .string t11, .string ⟨#[]⟩] 23 (0, 0))) (fun d v _ => match d with | 108 => v = .agg #[.int .i64 0, .string pth, .string t8, .int .i64 nm, .int .i64 nu, .int .i64 ng, .int .i64 nt, .string t10, .string t11, .string ⟨#[]⟩] | 109 => v = .string s | 110 => v = .string (s.extract 156 157) | 111 => v = .slice (some ⟨gb, 0, none⟩) 5 cp | 112 => v = .pointer (some ⟨gb, 3, none⟩) | 113 => v = .int .i64 nz | 3 => v = .string (s.extract 156 157) | 4 => v = .int .i64 nz | 5 => v = .int .i64 0 | _ => True) (fun o w' => o.dst = none → w'.heap[w.heap.size]? = some (.cells #[.int .i64 0, .string pth, .string t8, .int .i64 nm, .int .i64 nu, .int .i64 ng, .int .i64 nt, .string t10, .string t11, .string ⟨#[]⟩] 23 (0, 0))) (by kernel_rfl) ⟨B6.out.drew, OG6.out, N3.out, .inl RO6.out⟩ (fun _ _ _ _ _ _ h => h) (fun _ _ _ _ hs hu hd => Or.elim hs (fun h => h.trans (hu hd)) (fun h => h)) ?hops ?hend
                    case hops =>
                      simp only [List.forall_mem_cons]
                      refine ⟨?o108, ?o109, ?o110, ?o111, ?o112, ?o113, ?os, ?o3, ?o4, ?o5, fun _ h => by cases h⟩
                      case o108 =>
                        intro Q a w2 hC hV hI
                        have e15 : a.eval (.tmp 15) = .pointer (some ⟨G, 0, none⟩) := (hI 15 (by simp [Op.operands]) (by kernel_rfl)).trans rfl
                        have f15 : a.tmps.getD 15 undef = .pointer (some ⟨G, 0, none⟩) := e15
                        have g15 : a.tmps[15]?.getD undef = .pointer (some ⟨G, 0, none⟩) := by rw [← Array.getD_eq_getD_getElem?]; exact e15
                        have hK := HLG.out w2 hC.2.1
                        refine opU_val (C := fun w' => Below w.heap.size w w' ∧ w'.heap[G]? = some (.cells #[.int .i64 0, .string pth, .string t8, .int .i64 nm, .int .i64 nu, .int .i64 ng, .int .i64 nt, .string t10, .string t11, .string ⟨#[]⟩] 23 (0, 0)) ∧ w'.cell? ⟨gb, 3, none⟩ = some (.int .i64 nz) ∧ (w'.heap[w.heap.size]? = some (.cells zEnt 23 (0, 0)) ∨ w'.heap[w.heap.size]? = some (.cells #[.int .i64 0, .string pth, .string t8, .int .i64 nm, .int .i64 nu, .int .i64 ng, .int .i64 nt, .string t10, .string t11, .string ⟨#[]⟩] 23 (0, 0)))) (St := fun x y => y.heap[w.heap.size]? = x.heap[w.heap.size]? ∨ y.heap[w.heap.size]? = some (.cells #[.int .i64 0, .string pth, .string t8, .int .i64 nm, .int .i64 nu, .int .i64 ng, .int .i64 nt, .string t10, .string t11, .string ⟨#[]⟩] 23 (0, 0))) (V := fun d v _ => match d with | 108 => v = .agg #[.int .i64 0, .string pth, .string t8, .int .i64 nm, .int .i64 nu, .int .i64 ng, .int .i64 nt, .string t10, .string t11, .string ⟨#[]⟩] | 109 => v = .string s | 110 => v = .string (s.extract 156 157) | 111 => v = .slice (some ⟨gb, 0, none⟩) 5 cp | 112 => v = .pointer (some ⟨gb, 3, none⟩) | 113 => v = .int .i64 nz | 3 => v = .string (s.extract 156 157) | 4 => v = .int .i64 nz | 5 => v = .int .i64 0 | _ => True) (U := fun o w' => o.dst = none → w'.heap[w.heap.size]? = some (.cells #[.int .i64 0, .string pth, .string t8, .int .i64 nm, .int .i64 nu, .int .i64 ng, .int .i64 nt, .string t10, .string t11, .string ⟨#[]⟩] 23 (0, 0))) (w' := w2) (.agg #[.int .i64 0, .string pth, .string t8, .int .i64 nm, .int .i64 nu, .int .i64 ng, .int .i64 nt, .string t10, .string t11, .string ⟨#[]⟩]) ?_ ?_ ?_ ?_ ?_
                        · (clear hV hI hC; go_simp <;> (first | rfl | simp))
                        · exact hC
                        · exact Or.inl rfl
                        · intro d hd; cases hd; exact rfl
                        · intro h; cases h
                      case o109 =>
                        intro Q a w2 hC hV hI
                        have e0 : a.eval (.tmp 0) = .string s := (hI 0 (by simp [Op.operands]) (by kernel_rfl)).trans rfl
                        have f0 : a.tmps.getD 0 undef = .string s := e0
                        have g0 : a.tmps[0]?.getD undef = .string s := by rw [← Array.getD_eq_getD_getElem?]; exact e0
                        refine opU_val (C := fun w' => Below w.heap.size w w' ∧ w'.heap[G]? = some (.cells #[.int .i64 0, .string pth, .string t8, .int .i64 nm, .int .i64 nu, .int .i64 ng, .int .i64 nt, .string t10, .string t11, .string ⟨#[]⟩] 23 (0, 0)) ∧ w'.cell? ⟨gb, 3, none⟩ = some (.int .i64 nz) ∧ (w'.heap[w.heap.size]? = some (.cells zEnt 23 (0, 0)) ∨ w'.heap[w.heap.size]? = some (.cells #[.int .i64 0, .string pth, .string t8, .int .i64 nm, .int .i64 nu, .int .i64 ng, .int .i64 nt, .string t10, .string t11, .string ⟨#[]⟩] 23 (0, 0)))) (St := fun x y => y.heap[w.heap.size]? = x.heap[w.heap.size]? ∨ y.heap[w.heap.size]? = some (.cells #[.int .i64 0, .string pth, .string t8, .int .i64 nm, .int .i64 nu, .int .i64 ng, .int .i64 nt, .string t10, .string t11, .string ⟨#[]⟩] 23 (0, 0))) (V := fun d v _ => match d with | 108 => v = .agg #[.int .i64 0, .string pth, .string t8, .int .i64 nm, .int .i64 nu, .int .i64 ng, .int .i64 nt, .string t10, .string t11, .string ⟨#[]⟩] | 109 => v = .string s | 110 => v = .string (s.extract 156 157) | 111 => v = .slice (some ⟨gb, 0, none⟩) 5 cp | 112 => v = .pointer (some ⟨gb, 3, none⟩) | 113 => v = .int .i64 nz | 3 => v = .string (s.extract 156 157) | 4 => v = .int .i64 nz | 5 => v = .int .i64 0 | _ => True) (U := fun o w' => o.dst = none → w'.heap[w.heap.size]? = some (.cells #[.int .i64 0, .string pth, .string t8, .int .i64 nm, .int .i64 nu, .int .i64 ng, .int .i64 nt, .string t10, .string t11, .string ⟨#[]⟩] 23 (0, 0))) (w' := w2) (.string s) ?_ ?_ ?_ ?_ ?_
                        · (clear hV hI hC; go_simp <;> (first | rfl | simp))
                        · exact hC
                        · exact Or.inl rfl
                        · intro d hd; cases hd; exact rfl
                        · intro h; cases h
                      case o110 =>
                        intro Q a w2 hC hV hI
                        have e109 : a.eval (.tmp 109) = .string s := hV 109 (by simp [Op.operands]) (by kernel_rfl)
                        have f109 : a.tmps.getD 109 undef = .string s := e109
                        have g109 : a.tmps[109]?.getD undef = .string s := by rw [← Array.getD_eq_getD_getElem?]; exact e109
                        refine opU_val (C := fun w' => Below w.heap.size w w' ∧ w'.heap[G]? = some (.cells #[.int .i64 0, .string pth, .string t8, .int .i64 nm, .int .i64 nu, .int .i64 ng, .int .i64 nt, .string t10, .string t11, .string ⟨#[]⟩] 23 (0, 0)) ∧ w'.cell? ⟨gb, 3, none⟩ = some (.int .i64 nz) ∧ (w'.heap[w.heap.size]? = some (.cells zEnt 23 (0, 0)) ∨ w'.heap[w.heap.size]? = some (.cells #[.int .i64 0, .string pth, .string t8, .int .i64 nm, .int .i64 nu, .int .i64 ng, .int .i64 nt, .string t10, .string t11, .string ⟨#[]⟩] 23 (0, 0)))) (St := fun x y => y.heap[w.heap.size]? = x.heap[w.heap.size]? ∨ y.heap[w.heap.size]? = some (.cells #[.int .i64 0, .string pth, .string t8, .int .i64 nm, .int .i64 nu, .int .i64 ng, .int .i64 nt, .string t10, .string t11, .string ⟨#[]⟩] 23 (0, 0))) (V := fun d v _ => match d with | 108 => v = .agg #[.int .i64 0, .string pth, .string t8, .int .i64 nm, .int .i64 nu, .int .i64 ng, .int .i64 nt, .string t10, .string t11, .string ⟨#[]⟩] | 109 => v = .string s | 110 => v = .string (s.extract 156 157) | 111 => v = .slice (some ⟨gb, 0, none⟩) 5 cp | 112 => v = .pointer (some ⟨gb, 3, none⟩) | 113 => v = .int .i64 nz | 3 => v = .string (s.extract 156 157) | 4 => v = .int .i64 nz | 5 => v = .int .i64 0 | _ => True) (U := fun o w' => o.dst = none → w'.heap[w.heap.size]? = some (.cells #[.int .i64 0, .string pth, .string t8, .int .i64 nm, .int .i64 nu, .int .i64 ng, .int .i64 nt, .string t10, .string t11, .string ⟨#[]⟩] 23 (0, 0))) (w' := w2) (.string (s.extract 156 157)) ?_ ?_ ?_ ?_ ?_
                        · (clear hV hI hC; go_simp <;> (first | rfl | simp))
                        · exact hC
                        · exact Or.inl rfl
                        · intro d hd; cases hd; exact rfl
                        · intro h; cases h
                      case o111 =>
                        intro Q a w2 hC hV hI
                        have e8 : a.eval (.tmp 8) = .slice (some ⟨gb, 0, none⟩) 5 cp := (hI 8 (by simp [Op.operands]) (by kernel_rfl)).trans rfl
                        have f8 : a.tmps.getD 8 undef = .slice (some ⟨gb, 0, none⟩) 5 cp := e8
                        have g8 : a.tmps[8]?.getD undef = .slice (some ⟨gb, 0, none⟩) 5 cp := by rw [← Array.getD_eq_getD_getElem?]; exact e8
                        refine opU_val (C := fun w' => Below w.heap.size w w' ∧ w'.heap[G]? = some (.cells #[.int .i64 0, .string pth, .string t8, .int .i64 nm, .int .i64 nu, .int .i64 ng, .int .i64 nt, .string t10, .string t11, .string ⟨#[]⟩] 23 (0, 0)) ∧ w'.cell? ⟨gb, 3, none⟩ = some (.int .i64 nz) ∧ (w'.heap[w.heap.size]? = some (.cells zEnt 23 (0, 0)) ∨ w'.heap[w.heap.size]? = some (.cells #[.int .i64 0, .string pth, .string t8, .int .i64 nm, .int .i64 nu, .int .i64 ng, .int .i64 nt, .string t10, .string t11, .string ⟨#[]⟩] 23 (0, 0)))) (St := fun x y => y.heap[w.heap.size]? = x.heap[w.heap.size]? ∨ y.heap[w.heap.size]? = some (.cells #[.int .i64 0, .string pth, .string t8, .int .i64 nm, .int .i64 nu, .int .i64 ng, .int .i64 nt, .string t10, .string t11, .string ⟨#[]⟩] 23 (0, 0))) (V := fun d v _ => match d with | 108 => v = .agg #[.int .i64 0, .string pth, .string t8, .int .i64 nm, .int .i64 nu, .int .i64 ng, .int .i64 nt, .string t10, .string t11, .string ⟨#[]⟩] | 109 => v = .string s | 110 => v = .string (s.extract 156 157) | 111 => v = .slice (some ⟨gb, 0, none⟩) 5 cp | 112 => v = .pointer (some ⟨gb, 3, none⟩) | 113 => v = .int .i64 nz | 3 => v = .string (s.extract 156 157) | 4 => v = .int .i64 nz | 5 => v = .int .i64 0 | _ => True) (U := fun o w' => o.dst = none → w'.heap[w.heap.size]? = some (.cells #[.int .i64 0, .string pth, .string t8, .int .i64 nm, .int .i64 nu, .int .i64 ng, .int .i64 nt, .string t10, .string t11, .string ⟨#[]⟩] 23 (0, 0))) (w' := w2) (.slice (some ⟨gb, 0, none⟩) 5 cp) ?_ ?_ ?_ ?_ ?_
                        · (clear hV hI hC; go_simp <;> (first | rfl | simp))
                        · exact hC
                        · exact Or.inl rfl
                        · intro d hd; cases hd; exact rfl
                        · intro h; cases h
                      case o112 =>
                        intro Q a w2 hC hV hI
                        have e111 : a.eval (.tmp 111) = .slice (some ⟨gb, 0, none⟩) 5 cp := hV 111 (by simp [Op.operands]) (by kernel_rfl)
                        have f111 : a.tmps.getD 111 undef = .slice (some ⟨gb, 0, none⟩) 5 cp := e111
                        have g111 : a.tmps[111]?.getD undef = .slice (some ⟨gb, 0, none⟩) 5 cp := by rw [← Array.getD_eq_getD_getElem?]; exact e111
                        refine opU_val (C := fun w' => Below w.heap.size w w' ∧ w'.heap[G]? = some (.cells #[.int .i64 0, .string pth, .string t8, .int .i64 nm, .int .i64 nu, .int .i64 ng, .int .i64 nt, .string t10, .string t11, .string ⟨#[]⟩] 23 (0, 0)) ∧ w'.cell? ⟨gb, 3, none⟩ = some (.int .i64 nz) ∧ (w'.heap[w.heap.size]? = some (.cells zEnt 23 (0, 0)) ∨ w'.heap[w.heap.size]? = some (.cells #[.int .i64 0, .string pth, .string t8, .int .i64 nm, .int .i64 nu, .int .i64 ng, .int .i64 nt, .string t10, .string t11, .string ⟨#[]⟩] 23 (0, 0)))) (St := fun x y => y.heap[w.heap.size]? = x.heap[w.heap.size]? ∨ y.heap[w.heap.size]? = some (.cells #[.int .i64 0, .string pth, .string t8, .int .i64 nm, .int .i64 nu, .int .i64 ng, .int .i64 nt, .string t10, .string t11, .string ⟨#[]⟩] 23 (0, 0))) (V := fun d v _ => match d with | 108 => v = .agg #[.int .i64 0, .string pth, .string t8, .int .i64 nm, .int .i64 nu, .int .i64 ng, .int .i64 nt, .string t10, .string t11, .string ⟨#[]⟩] | 109 => v = .string s | 110 => v = .string (s.extract 156 157) | 111 => v = .slice (some ⟨gb, 0, none⟩) 5 cp | 112 => v = .pointer (some ⟨gb, 3, none⟩) | 113 => v = .int .i64 nz | 3 => v = .string (s.extract 156 157) | 4 => v = .int .i64 nz | 5 => v = .int .i64 0 | _ => True) (U := fun o w' => o.dst = none → w'.heap[w.heap.size]? = some (.cells #[.int .i64 0, .string pth, .string t8, .int .i64 nm, .int .i64 nu, .int .i64 ng, .int .i64 nt, .string t10, .string t11, .string ⟨#[]⟩] 23 (0, 0))) (w' := w2) (.pointer (some ⟨gb, 3, none⟩)) ?_ ?_ ?_ ?_ ?_
                        · (clear hV hI hC; go_simp <;> (first | rfl | simp))
                        · exact hC
                        · exact Or.inl rfl
                        · intro d hd; cases hd; exact rfl
                        · intro h; cases h
                      case o113 =>
                        intro Q a w2 hC hV hI
                        have e112 : a.eval (.tmp 112) = .pointer (some ⟨gb, 3, none⟩) := hV 112 (by simp [Op.operands]) (by kernel_rfl)
                        have f112 : a.tmps.getD 112 undef = .pointer (some ⟨gb, 3, none⟩) := e112
                        have g112 : a.tmps[112]?.getD undef = .pointer (some ⟨gb, 3, none⟩) := by rw [← Array.getD_eq_getD_getElem?]; exact e112
                        have hK := hC.2.2.1
                        refine opU_val (C := fun w' => Below w.heap.size w w' ∧ w'.heap[G]? = some (.cells #[.int .i64 0, .string pth, .string t8, .int .i64 nm, .int .i64 nu, .int .i64 ng, .int .i64 nt, .string t10, .string t11, .string ⟨#[]⟩] 23 (0, 0)) ∧ w'.cell? ⟨gb, 3, none⟩ = some (.int .i64 nz) ∧ (w'.heap[w.heap.size]? = some (.cells zEnt 23 (0, 0)) ∨ w'.heap[w.heap.size]? = some (.cells #[.int .i64 0, .string pth, .string t8, .int .i64 nm, .int .i64 nu, .int .i64 ng, .int .i64 nt, .string t10, .string t11, .string ⟨#[]⟩] 23 (0, 0)))) (St := fun x y => y.heap[w.heap.size]? = x.heap[w.heap.size]? ∨ y.heap[w.heap.size]? = some (.cells #[.int .i64 0, .string pth, .string t8, .int .i64 nm, .int .i64 nu, .int .i64 ng, .int .i64 nt, .string t10, .string t11, .string ⟨#[]⟩] 23 (0, 0))) (V := fun d v _ => match d with | 108 => v = .agg #[.int .i64 0, .string pth, .string t8, .int .i64 nm, .int .i64 nu, .int .i64 ng, .int .i64 nt, .string t10, .string t11, .string ⟨#[]⟩] | 109 => v = .string s | 110 => v = .string (s.extract 156 157) | 111 => v = .slice (some ⟨gb, 0, none⟩) 5 cp | 112 => v = .pointer (some ⟨gb, 3, none⟩) | 113 => v = .int .i64 nz | 3 => v = .string (s.extract 156 157) | 4 => v = .int .i64 nz | 5 => v = .int .i64 0 | _ => True) (U := fun o w' => o.dst = none → w'.heap[w.heap.size]? = some (.cells #[.int .i64 0, .string pth, .string t8, .int .i64 nm, .int .i64 nu, .int .i64 ng, .int .i64 nt, .string t10, .string t11, .string ⟨#[]⟩] 23 (0, 0))) (w' := w2) (.int .i64 nz) ?_ ?_ ?_ ?_ ?_
                        · (clear hV hI hC; go_simp <;> (first | rfl | simp))
                        · exact hC
                        · exact Or.inl rfl
                        · intro d hd; cases hd; exact rfl
                        · intro h; cases h
                      case os =>
                        intro Q a w2 hC hV hI
                        have e2 : a.eval (.tmp 2) = .pointer (some ⟨w.heap.size, 0, none⟩) := (hI 2 (by simp [Op.operands]) (by kernel_rfl)).trans rfl
                        have f2 : a.tmps.getD 2 undef = .pointer (some ⟨w.heap.size, 0, none⟩) := e2
                        have g2 : a.tmps[2]?.getD undef = .pointer (some ⟨w.heap.size, 0, none⟩) := by rw [← Array.getD_eq_getD_getElem?]; exact e2
                        have e108 : a.eval (.tmp 108) = .agg #[.int .i64 0, .string pth, .string t8, .int .i64 nm, .int .i64 nu, .int .i64 ng, .int .i64 nt, .string t10, .string t11, .string ⟨#[]⟩] := hV 108 (by simp [Op.operands]) (by kernel_rfl)
                        have f108 : a.tmps.getD 108 undef = .agg #[.int .i64 0, .string pth, .string t8, .int .i64 nm, .int .i64 nu, .int .i64 ng, .int .i64 nt, .string t10, .string t11, .string ⟨#[]⟩] := e108
                        have g108 : a.tmps[108]?.getD undef = .agg #[.int .i64 0, .string pth, .string t8, .int .i64 nm, .int .i64 nu, .int .i64 ng, .int .i64 nt, .string t10, .string t11, .string ⟨#[]⟩] := by rw [← Array.getD_eq_getD_getElem?]; exact e108
                        have hS : ∀ cs : Array Value, cs.size = 10 → w2.heap[w.heap.size]? = some (.cells cs 23 (0, 0)) → _ := fun cs hc hR => run_storeVar_row (P := Tryz.prog) w2 w.heap.size 23 23 cs #[.int .i64 0, .string pth, .string t8, .int .i64 nm, .int .i64 nu, .int .i64 ng, .int .i64 nt, .string t10, .string t11, .string ⟨#[]⟩] hR (by rw [Tryz.sizeEnt]; rfl) hc (by simp [Value.oneCell'])
                        have hR2 : (w2.setRow w.heap.size #[.int .i64 0, .string pth, .string t8, .int .i64 nm, .int .i64 nu, .int .i64 ng, .int .i64 nt, .string t10, .string t11, .string ⟨#[]⟩]).heap[w.heap.size]? = some (.cells #[.int .i64 0, .string pth, .string t8, .int .i64 nm, .int .i64 nu, .int .i64 ng, .int .i64 nt, .string t10, .string t11, .string ⟨#[]⟩] 23 (0, 0)) := hC.2.2.2.elim (fun h => setRow_heap _ _ _ _ _ _ h) (fun h => setRow_heap _ _ _ _ _ _ h)
                        refine opU_store (C := fun w' => Below w.heap.size w w' ∧ w'.heap[G]? = some (.cells #[.int .i64 0, .string pth, .string t8, .int .i64 nm, .int .i64 nu, .int .i64 ng, .int .i64 nt, .string t10, .string t11, .string ⟨#[]⟩] 23 (0, 0)) ∧ w'.cell? ⟨gb, 3, none⟩ = some (.int .i64 nz) ∧ (w'.heap[w.heap.size]? = some (.cells zEnt 23 (0, 0)) ∨ w'.heap[w.heap.size]? = some (.cells #[.int .i64 0, .string pth, .string t8, .int .i64 nm, .int .i64 nu, .int .i64 ng, .int .i64 nt, .string t10, .string t11, .string ⟨#[]⟩] 23 (0, 0)))) (St := fun x y => y.heap[w.heap.size]? = x.heap[w.heap.size]? ∨ y.heap[w.heap.size]? = some (.cells #[.int .i64 0, .string pth, .string t8, .int .i64 nm, .int .i64 nu, .int .i64 ng, .int .i64 nt, .string t10, .string t11, .string ⟨#[]⟩] 23 (0, 0))) (V := fun d v _ => match d with | 108 => v = .agg #[.int .i64 0, .string pth, .string t8, .int .i64 nm, .int .i64 nu, .int .i64 ng, .int .i64 nt, .string t10, .string t11, .string ⟨#[]⟩] | 109 => v = .string s | 110 => v = .string (s.extract 156 157) | 111 => v = .slice (some ⟨gb, 0, none⟩) 5 cp | 112 => v = .pointer (some ⟨gb, 3, none⟩) | 113 => v = .int .i64 nz | 3 => v = .string (s.extract 156 157) | 4 => v = .int .i64 nz | 5 => v = .int .i64 0 | _ => True) (U := fun o w' => o.dst = none → w'.heap[w.heap.size]? = some (.cells #[.int .i64 0, .string pth, .string t8, .int .i64 nm, .int .i64 nu, .int .i64 ng, .int .i64 nt, .string t10, .string t11, .string ⟨#[]⟩] 23 (0, 0))) 23 _ _ rfl rfl ⟨w.heap.size, 0, none⟩ e2 e108 (hC.2.2.2.elim (fun h => hS _ rfl h) (fun h => hS _ rfl h)) ?_ ?_ ?_
                        · exact ⟨hC.1.trans (below_set (Nat.le_refl _) _), by rw [setRow_other _ _ _ _ (by omega)]; exact hC.2.1, (cell_setRow_other (by omega)).trans hC.2.2.1, Or.inr hR2⟩
                        · exact Or.inr hR2
                        · intro _; exact hR2
                      case o3 =>
                        intro Q a w2 hC hV hI
                        have e110 : a.eval (.tmp 110) = .string (s.extract 156 157) := hV 110 (by simp [Op.operands]) (by kernel_rfl)
                        have f110 : a.tmps.getD 110 undef = .string (s.extract 156 157) := e110
                        have g110 : a.tmps[110]?.getD undef = .string (s.extract 156 157) := by rw [← Array.getD_eq_getD_getElem?]; exact e110
                        refine opU_val (C := fun w' => Below w.heap.size w w' ∧ w'.heap[G]? = some (.cells #[.int .i64 0, .string pth, .string t8, .int .i64 nm, .int .i64 nu, .int .i64 ng, .int .i64 nt, .string t10, .string t11, .string ⟨#[]⟩] 23 (0, 0)) ∧ w'.cell? ⟨gb, 3, none⟩ = some (.int .i64 nz) ∧ (w'.heap[w.heap.size]? = some (.cells zEnt 23 (0, 0)) ∨ w'.heap[w.heap.size]? = some (.cells #[.int .i64 0, .string pth, .string t8, .int .i64 nm, .int .i64 nu, .int .i64 ng, .int .i64 nt, .string t10, .string t11, .string ⟨#[]⟩] 23 (0, 0)))) (St := fun x y => y.heap[w.heap.size]? = x.heap[w.heap.size]? ∨ y.heap[w.heap.size]? = some (.cells #[.int .i64 0, .string pth, .string t8, .int .i64 nm, .int .i64 nu, .int .i64 ng, .int .i64 nt, .string t10, .string t11, .string ⟨#[]⟩] 23 (0, 0))) (V := fun d v _ => match d with | 108 => v = .agg #[.int .i64 0, .string pth, .string t8, .int .i64 nm, .int .i64 nu, .int .i64 ng, .int .i64 nt, .string t10, .string t11, .string ⟨#[]⟩] | 109 => v = .string s | 110 => v = .string (s.extract 156 157) | 111 => v = .slice (some ⟨gb, 0, none⟩) 5 cp | 112 => v = .pointer (some ⟨gb, 3, none⟩) | 113 => v = .int .i64 nz | 3 => v = .string (s.extract 156 157) | 4 => v = .int .i64 nz | 5 => v = .int .i64 0 | _ => True) (U := fun o w' => o.dst = none → w'.heap[w.heap.size]? = some (.cells #[.int .i64 0, .string pth, .string t8, .int .i64 nm, .int .i64 nu, .int .i64 ng, .int .i64 nt, .string t10, .string t11, .string ⟨#[]⟩] 23 (0, 0))) (w' := w2) (.string (s.extract 156 157)) ?_ ?_ ?_ ?_ ?_
                        · (clear hV hI hC; go_simp <;> (first | rfl | simp))
                        · exact hC
                        · exact Or.inl rfl
                        · intro d hd; cases hd; exact rfl
                        · intro h; cases h
                      case o4 =>
                        intro Q a w2 hC hV hI
                        have e113 : a.eval (.tmp 113) = .int .i64 nz := hV 113 (by simp [Op.operands]) (by kernel_rfl)
                        have f113 : a.tmps.getD 113 undef = .int .i64 nz := e113
                        have g113 : a.tmps[113]?.getD undef = .int .i64 nz := by rw [← Array.getD_eq_getD_getElem?]; exact e113
                        refine opU_val (C := fun w' => Below w.heap.size w w' ∧ w'.heap[G]? = some (.cells #[.int .i64 0, .string pth, .string t8, .int .i64 nm, .int .i64 nu, .int .i64 ng, .int .i64 nt, .string t10, .string t11, .string ⟨#[]⟩] 23 (0, 0)) ∧ w'.cell? ⟨gb, 3, none⟩ = some (.int .i64 nz) ∧ (w'.heap[w.heap.size]? = some (.cells zEnt 23 (0, 0)) ∨ w'.heap[w.heap.size]? = some (.cells #[.int .i64 0, .string pth, .string t8, .int .i64 nm, .int .i64 nu, .int .i64 ng, .int .i64 nt, .string t10, .string t11, .string ⟨#[]⟩] 23 (0, 0)))) (St := fun x y => y.heap[w.heap.size]? = x.heap[w.heap.size]? ∨ y.heap[w.heap.size]? = some (.cells #[.int .i64 0, .string pth, .string t8, .int .i64 nm, .int .i64 nu, .int .i64 ng, .int .i64 nt, .string t10, .string t11, .string ⟨#[]⟩] 23 (0, 0))) (V := fun d v _ => match d with | 108 => v = .agg #[.int .i64 0, .string pth, .string t8, .int .i64 nm, .int .i64 nu, .int .i64 ng, .int .i64 nt, .string t10, .string t11, .string ⟨#[]⟩] | 109 => v = .string s | 110 => v = .string (s.extract 156 157) | 111 => v = .slice (some ⟨gb, 0, none⟩) 5 cp | 112 => v = .pointer (some ⟨gb, 3, none⟩) | 113 => v = .int .i64 nz | 3 => v = .string (s.extract 156 157) | 4 => v = .int .i64 nz | 5 => v = .int .i64 0 | _ => True) (U := fun o w' => o.dst = none → w'.heap[w.heap.size]? = some (.cells #[.int .i64 0, .string pth, .string t8, .int .i64 nm, .int .i64 nu, .int .i64 ng, .int .i64 nt, .string t10, .string t11, .string ⟨#[]⟩] 23 (0, 0))) (w' := w2) (.int .i64 nz) ?_ ?_ ?_ ?_ ?_
                        · (clear hV hI hC; go_simp <;> (first | rfl | simp))
                        · exact hC
                        · exact Or.inl rfl
                        · intro d hd; cases hd; exact rfl
                        · intro h; cases h
                      case o5 =>
                        intro Q a w2 hC hV hI
                        refine opU_val (C := fun w' => Below w.heap.size w w' ∧ w'.heap[G]? = some (.cells #[.int .i64 0, .string pth, .string t8, .int .i64 nm, .int .i64 nu, .int .i64 ng, .int .i64 nt, .string t10, .string t11, .string ⟨#[]⟩] 23 (0, 0)) ∧ w'.cell? ⟨gb, 3, none⟩ = some (.int .i64 nz) ∧ (w'.heap[w.heap.size]? = some (.cells zEnt 23 (0, 0)) ∨ w'.heap[w.heap.size]? = some (.cells #[.int .i64 0, .string pth, .string t8, .int .i64 nm, .int .i64 nu, .int .i64 ng, .int .i64 nt, .string t10, .string t11, .string ⟨#[]⟩] 23 (0, 0)))) (St := fun x y => y.heap[w.heap.size]? = x.heap[w.heap.size]? ∨ y.heap[w.heap.size]? = some (.cells #[.int .i64 0, .string pth, .string t8, .int .i64 nm, .int .i64 nu, .int .i64 ng, .int .i64 nt, .string t10, .string t11, .string ⟨#[]⟩] 23 (0, 0))) (V := fun d v _ => match d with | 108 => v = .agg #[.int .i64 0, .string pth, .string t8, .int .i64 nm, .int .i64 nu, .int .i64 ng, .int .i64 nt, .string t10, .string t11, .string ⟨#[]⟩] | 109 => v = .string s | 110 => v = .string (s.extract 156 157) | 111 => v = .slice (some ⟨gb, 0, none⟩) 5 cp | 112 => v = .pointer (some ⟨gb, 3, none⟩) | 113 => v = .int .i64 nz | 3 => v = .string (s.extract 156 157) | 4 => v = .int .i64 nz | 5 => v = .int .i64 0 | _ => True) (U := fun o w' => o.dst = none → w'.heap[w.heap.size]? = some (.cells #[.int .i64 0, .string pth, .string t8, .int .i64 nm, .int .i64 nu, .int .i64 ng, .int .i64 nt, .string t10, .string t11, .string ⟨#[]⟩] 23 (0, 0))) (w' := w2) (.int .i64 0) ?_ ?_ ?_ ?_ ?_
                        · (clear hV hI hC; go_simp <;> (first | rfl | simp))
                        · exact hC
                        · exact Or.inl rfl
                        · intro d hd; cases hd; exact rfl
                        · intro h; cases h
                    case hend =>
                      intro f w7 hC hall huall
                      simp only [List.forall_mem_cons] at hall
                      obtain ⟨h108, h109, h110, h111, h112, h113, _, h3, h4, h5, _⟩ := hall
                      simp only [List.forall_mem_cons] at huall
                      obtain ⟨_, _, _, _, _, _, hus, _, _, _, _⟩ := huall
                      replace h108 : f 108 = .agg #[.int .i64 0, .string pth, .string t8, .int .i64 nm, .int .i64 nu, .int .i64 ng, .int .i64 nt, .string t10, .string t11, .string ⟨#[]⟩] := h108 108 rfl
                      replace h109 : f 109 = .string s := h109 109 rfl
                      replace h110 : f 110 = .string (s.extract 156 157) := h110 110 rfl
                      replace h111 : f 111 = .slice (some ⟨gb, 0, none⟩) 5 cp := h111 111 rfl
                      replace h112 : f 112 = .pointer (some ⟨gb, 3, none⟩) := h112 112 rfl
                      replace h113 : f 113 = .int .i64 nz := h113 113 rfl
                      replace h3 : f 3 = .string (s.extract 156 157) := h3 3 rfl
                      replace h4 : f 4 = .int .i64 nz := h4 4 rfl
                      replace h5 : f 5 = .int .i64 0 := h5 5 rfl
                      simp only [putAll, Act.put, List.setIfInBounds_toArray, List.set_cons_succ, List.set_cons_zero, h108, h109, h110, h111, h112, h113, h3, h4, h5]
                      clear h108 h109 h110 h111 h112 h113 h3 h4 h5
                      have R5 := Lib.hid (hus trivial)
                      have B5 := Lib.hid hC.1
                      clear hC hus
                      go_wp2
                      refine bodyPost_ret (results_cell4 rfl _ _ w.heap.size _ #[.int .i64 0, .string pth, .string t8, .int .i64 nm, .int .i64 nu, .int .i64 ng, .int .i64 nt, .string t10, .string t11, .string ⟨#[]⟩] (0, 0) _ rfl R5.out Tryz.underlying23 rfl (by rw [Tryz.sizeEnt]; rfl)) rfl ?_
                      rw [HE.out]
                      exact ⟨rfl, B5.out⟩
              · have HE := Lib.hid (readS_bad (HS3.out (by rw [headOk]; simp [hz])) (by omega))
                have HSt := Lib.hid (run_storeVar_row (P := Tryz.prog) wr w.heap.size 23 23 zEnt zEnt RO3.out (by rw [Tryz.sizeEnt]; rfl) rfl (by simp [zEnt, Value.oneCell']))
                go_wp2_with ((with_reducible refine wpList_store_eq rfl 23 _ _ rfl ⟨w.heap.size, 0, none⟩ ?_ ?_ HSt.out ?_); rfl; rfl)
                refine bodyPost_ret (results_cell4 rfl _ _ w.heap.size _ zEnt (0, 0) _ rfl (setRow_heap _ _ _ _ _ _ RO3.out) Tryz.underlying23 rfl (by rw [Tryz.sizeEnt]; rfl)) rfl ?_
                rw [HE.out]
                exact ⟨rfl, B3.out.trans (below_set (Nat.le_refl _) _)⟩
            · rcases (show i = 0 ∨ i = 1 ∨ i = 2 ∨ i = 3 ∨ i = 4 by omega) with rfl | rfl | rfl | rfl | rfl
              · have HN := Lib.hid (fun w => num_spec (s.extract 100 108) w (by rw [ByteArray.size_extract]; omega) (by rw [ByteArray.size_extract]; omega))
                have HV : Hid (s.extract 100 108 = fW (lOf s) 1) := Lib.hid (fW_ext s 1 8 (by omega) rfl).symm
                have hfv : fnumv (s.extract 100 108) = fnumv (fW (lOf s) 1) := by rw [HV.out]
                have hfo : fnumOk (s.extract 100 108) = fnumOk (fW (lOf s) 1) := by rw [HV.out]
                rw [hfv, hfo] at HN
                have HSU := Lib.hid (nl_succ (lOf s) 0)
                generalize fnumv (fW (lOf s) 1) = nv at HN HSU
                clear hfv hfo HV
                have cb : (108 : Int) ≤ (s.size : Int) := by omega
                have hA0 : wr.cell? ⟨w1.heap.size + 1, 0, none⟩ = some (.int .i64 100) ∧ wr.cell? ⟨w1.heap.size + 1, 1, none⟩ = some (.int .i64 108) := ⟨by rw [cell_of_row _ _ _ _ _ _ AO.out]; rfl, by rw [cell_of_row _ _ _ _ _ _ AO.out]; rfl⟩
                have zA := obj_lt AO.out
                obtain ⟨ca, cb2⟩ := hA0
                rw [show ((0 : Nat) : Int) = 0 from rfl]
                go_wp2_with fail
                have hw : IntKind.i64.wrap ((0 : Int) + 1) = 1 := by decide
                have hw2 : IntKind.i64.wrap (1 : Int) = 1 := by decide
                go_region_held3 (fun w' => w'.cell? ⟨w1.heap.size + 1, 0, none⟩ = some (.int .i64 100) ∧ w'.cell? ⟨w1.heap.size + 1, 1, none⟩ = some (.int .i64 108)) (first | assumption | exact ca | exact cb2 | exact ⟨ca, cb2⟩) (first | (go_at_call 48; refine (HN.out _).mono ?_; rintro e w3 ⟨rfl, hb⟩; have d3 : w3.cell? ⟨w1.heap.size + 1, 0, none⟩ = some (.int .i64 100) ∧ w3.cell? ⟨w1.heap.size + 1, 1, none⟩ = some (.int .i64 108) := ⟨(hb.cell (p := ⟨w1.heap.size + 1, 0, none⟩) zA).trans ca, (hb.cell (p := ⟨w1.heap.size + 1, 1, none⟩) zA).trans cb2⟩; have BB := Lib.hid hb; clear hb))
                have AO3 := Lib.hid ((BB.out.block _ zA).trans AO.out)
                have D3 := Lib.hid (bl_sp BB.out D.out.os D.out.tape D.out.output D.out.size D.out.block)
                have O3 := Lib.hid (World.ownsRow.kept O.out (row := none) (show wr.grownBy w3 none from ⟨BB.out.os, BB.out.tape, BB.out.output, BB.out.size, fun k hk _ => BB.out.block k hk⟩) (by simp [Value.ownBlock]))
                have zA3 := obj_lt AO3.out
                clear BB d3 ca cb2 O AO D zA
                cases hob : fnumOk (fW (lOf s) 1) with
                | false =>
                  have HE := Lib.hid (readS_bad (HS3.out (ok5_bad (l := lOf s) (i := 0) (by omega) hob)) (by omega))
                  have RO3 := Lib.hid ((D3.out.block _ zR).trans RO1.out)
                  have HSt := Lib.hid (run_storeVar_row (P := Tryz.prog) w3 w.heap.size 23 23 zEnt zEnt RO3.out (by rw [Tryz.sizeEnt]; rfl) rfl (by simp [zEnt, Value.oneCell']))
                  have B3 := Lib.hid (BW1.out.trans (D3.out.mono BW1.out.size))
                  clear hob O3 AO3
                  go_wp2_with ((with_reducible refine wpList_store_eq rfl 23 _ _ rfl ⟨w.heap.size, 0, none⟩ ?_ ?_ HSt.out ?_); rfl; rfl)
                  refine bodyPost_ret (results_cell4 rfl _ _ w.heap.size _ zEnt (0, 0) _ rfl (setRow_heap _ _ _ _ _ _ RO3.out) Tryz.underlying23 rfl (by rw [Tryz.sizeEnt]; rfl)) rfl ?_
                  rw [HE.out]
                  exact ⟨rfl, B3.out.trans (below_set (Nat.le_refl _) _)⟩
                | true =>
                  have HK : Hid (ok5 (lOf s) 1 = true) := Lib.hid (by rw [ok5, OK.out, hob]; rfl)
                  have sD := D3.out.size
                  clear hob
                  go_wp2_with (at_builtin; refine wpList_append_own_at _ rfl _ _ 68 rfl w1.heap.size 3 i0 (.int .i64 0) 1 8 Tryz.underlying68 hi0 hz0 hz1 hz2 rfl (by decide) _ _ _ rfl (World.ownsRow.alloc O3.out _) ⟨w3.heap.size, 0, none⟩ 1 1 [.int .i64 nv] rfl rfl ?c1 ?c2 ?c3 ?c4 ?c5 ?_)
                  case c1 => exact cell_one_new _ _ _
                  case c2 => intro u hu; simp at hu; subst hu; rfl
                  case c3 => simp only [maxLen]; omega
                  case c4 => omega
                  case c5 => simp; omega
                  · intro v4 w4 hown4 hgrow4 _ hob4
                    have O4 : Hid (w4.ownsRow w1.heap.size 3 1 v4 1 (nl (lOf s) 1)) := Lib.hid (by rw [HSU.out]; exact hown4)
                    have V4 : Hid (∃ gb cp, v4 = .slice (some ⟨gb, 0, none⟩) 1 cp ∧ gb ≠ w1.heap.size + 1) := Lib.hid (by
                      rcases hown4.2 with ⟨_, hn⟩ | ⟨g', cap', cur, rfl, _⟩
                      · omega
                      · refine ⟨g', cap', rfl, ?_⟩
                        rcases hob4 with h | h
                        · simp only [Value.ownBlock, Option.some.injEq] at h; omega
                        · simp only [Value.ownBlock, Option.some.injEq] at h; omega)
                    have A4 : Hid (w4.heap[w1.heap.size + 1]? = some (.cells #[.int .i64 100, .int .i64 108, .int .i64 116, .int .i64 124, .int .i64 136, .int .i64 148] 3 (0, 0))) := Lib.hid (by
                      rw [hgrow4.block _ (by simp; omega) (by simp [Value.ownBlock]; omega), ((Below.refl w3.heap.size w3).alloc (Nat.le_refl _) _).block _ zA3]
                      exact AO3.out)
                    have D4 : Hid (Below w1.heap.size w1 w4) := Lib.hid ((D3.out.alloc sD _).grown hgrow4 (by simp; omega) (fun b hb => (World.ownsRow.lt O3.out b hb).1))
                    clear hown4 hgrow4 hob4 O3 AO3 D3
                    go_wp2_with fail
                    go_roundw
                    case rel => exact ⟨1, by go_num, by omega, HK.out, O4.out, V4.out, A4.out, D4.out⟩
                    case measure => simp [intOf]
              · have HN := Lib.hid (fun w => num_spec (s.extract 108 116) w (by rw [ByteArray.size_extract]; omega) (by rw [ByteArray.size_extract]; omega))
                have HV : Hid (s.extract 108 116 = fW (lOf s) 2) := Lib.hid (fW_ext s 2 8 (by omega) rfl).symm
                have hfv : fnumv (s.extract 108 116) = fnumv (fW (lOf s) 2) := by rw [HV.out]
                have hfo : fnumOk (s.extract 108 116) = fnumOk (fW (lOf s) 2) := by rw [HV.out]
                rw [hfv, hfo] at HN
                have HSU := Lib.hid (nl_succ (lOf s) 1)
                generalize fnumv (fW (lOf s) 2) = nv at HN HSU
                clear hfv hfo HV
                have cb : (116 : Int) ≤ (s.size : Int) := by omega
                have hA0 : wr.cell? ⟨w1.heap.size + 1, 1, none⟩ = some (.int .i64 108) ∧ wr.cell? ⟨w1.heap.size + 1, 2, none⟩ = some (.int .i64 116) := ⟨by rw [cell_of_row _ _ _ _ _ _ AO.out]; rfl, by rw [cell_of_row _ _ _ _ _ _ AO.out]; rfl⟩
                have zA := obj_lt AO.out
                obtain ⟨ca, cb2⟩ := hA0
                rw [show ((1 : Nat) : Int) = 1 from rfl]
                go_wp2_with fail
                have hw : IntKind.i64.wrap ((1 : Int) + 1) = 2 := by decide
                have hw2 : IntKind.i64.wrap (2 : Int) = 2 := by decide
                go_region_held3 (fun w' => w'.cell? ⟨w1.heap.size + 1, 1, none⟩ = some (.int .i64 108) ∧ w'.cell? ⟨w1.heap.size + 1, 2, none⟩ = some (.int .i64 116)) (first | assumption | exact ca | exact cb2 | exact ⟨ca, cb2⟩) (first | (go_at_call 48; refine (HN.out _).mono ?_; rintro e w3 ⟨rfl, hb⟩; have d3 : w3.cell? ⟨w1.heap.size + 1, 1, none⟩ = some (.int .i64 108) ∧ w3.cell? ⟨w1.heap.size + 1, 2, none⟩ = some (.int .i64 116) := ⟨(hb.cell (p := ⟨w1.heap.size + 1, 1, none⟩) zA).trans ca, (hb.cell (p := ⟨w1.heap.size + 1, 2, none⟩) zA).trans cb2⟩; have BB := Lib.hid hb; clear hb))
                have AO3 := Lib.hid ((BB.out.block _ zA).trans AO.out)
                have D3 := Lib.hid (bl_sp BB.out D.out.os D.out.tape D.out.output D.out.size D.out.block)
                have O3 := Lib.hid (World.ownsRow.kept O.out (row := none) (show wr.grownBy w3 none from ⟨BB.out.os, BB.out.tape, BB.out.output, BB.out.size, fun k hk _ => BB.out.block k hk⟩) (by simp [Value.ownBlock]))
                have zA3 := obj_lt AO3.out
                clear BB d3 ca cb2 O AO D zA
                cases hob : fnumOk (fW (lOf s) 2) with
                | false =>
                  have HE := Lib.hid (readS_bad (HS3.out (ok5_bad (l := lOf s) (i := 1) (by omega) hob)) (by omega))
                  have RO3 := Lib.hid ((D3.out.block _ zR).trans RO1.out)
                  have HSt := Lib.hid (run_storeVar_row (P := Tryz.prog) w3 w.heap.size 23 23 zEnt zEnt RO3.out (by rw [Tryz.sizeEnt]; rfl) rfl (by simp [zEnt, Value.oneCell']))
                  have B3 := Lib.hid (BW1.out.trans (D3.out.mono BW1.out.size))
                  clear hob O3 AO3
                  go_wp2_with ((with_reducible refine wpList_store_eq rfl 23 _ _ rfl ⟨w.heap.size, 0, none⟩ ?_ ?_ HSt.out ?_); rfl; rfl)
                  refine bodyPost_ret (results_cell4 rfl _ _ w.heap.size _ zEnt (0, 0) _ rfl (setRow_heap _ _ _ _ _ _ RO3.out) Tryz.underlying23 rfl (by rw [Tryz.sizeEnt]; rfl)) rfl ?_
                  rw [HE.out]
                  exact ⟨rfl, B3.out.trans (below_set (Nat.le_refl _) _)⟩
                | true =>
                  have HK : Hid (ok5 (lOf s) 2 = true) := Lib.hid (by rw [ok5, OK.out, hob]; rfl)
                  have sD := D3.out.size
                  clear hob
                  go_wp2_with (at_builtin; refine wpList_append_own_at _ rfl _ _ 68 rfl w1.heap.size 3 i0 (.int .i64 0) 1 8 Tryz.underlying68 hi0 hz0 hz1 hz2 rfl (by decide) _ _ _ rfl (World.ownsRow.alloc O3.out _) ⟨w3.heap.size, 0, none⟩ 1 1 [.int .i64 nv] rfl rfl ?c1 ?c2 ?c3 ?c4 ?c5 ?_)
                  case c1 => exact cell_one_new _ _ _
                  case c2 => intro u hu; simp at hu; subst hu; rfl
                  case c3 => simp only [maxLen]; omega
                  case c4 => omega
                  case c5 => simp; omega
                  · intro v4 w4 hown4 hgrow4 _ hob4
                    have O4 : Hid (w4.ownsRow w1.heap.size 3 1 v4 2 (nl (lOf s) 2)) := Lib.hid (by rw [HSU.out]; exact hown4)
                    have V4 : Hid (∃ gb cp, v4 = .slice (some ⟨gb, 0, none⟩) 2 cp ∧ gb ≠ w1.heap.size + 1) := Lib.hid (by
                      rcases hown4.2 with ⟨_, hn⟩ | ⟨g', cap', cur, rfl, _⟩
                      · omega
                      · refine ⟨g', cap', rfl, ?_⟩
                        rcases hob4 with h | h
                        · simp only [Value.ownBlock, Option.some.injEq] at h; omega
                        · simp only [Value.ownBlock, Option.some.injEq] at h; omega)
                    have A4 : Hid (w4.heap[w1.heap.size + 1]? = some (.cells #[.int .i64 100, .int .i64 108, .int .i64 116, .int .i64 124, .int .i64 136, .int .i64 148] 3 (0, 0))) := Lib.hid (by
                      rw [hgrow4.block _ (by simp; omega) (by simp [Value.ownBlock]; omega), ((Below.refl w3.heap.size w3).alloc (Nat.le_refl _) _).block _ zA3]
                      exact AO3.out)
                    have D4 : Hid (Below w1.heap.size w1 w4) := Lib.hid ((D3.out.alloc sD _).grown hgrow4 (by simp; omega) (fun b hb => (World.ownsRow.lt O3.out b hb).1))
                    clear hown4 hgrow4 hob4 O3 AO3 D3
                    go_wp2_with fail
                    go_roundw
                    case rel => exact ⟨2, by go_num, by omega, HK.out, O4.out, V4.out, A4.out, D4.out⟩
                    case measure => simp [intOf]
              · have HN := Lib.hid (fun w => num_spec (s.extract 116 124) w (by rw [ByteArray.size_extract]; omega) (by rw [ByteArray.size_extract]; omega))
                have HV : Hid (s.extract 116 124 = fW (lOf s) 3) := Lib.hid (fW_ext s 3 8 (by omega) rfl).symm
                have hfv : fnumv (s.extract 116 124) = fnumv (fW (lOf s) 3) := by rw [HV.out]
                have hfo : fnumOk (s.extract 116 124) = fnumOk (fW (lOf s) 3) := by rw [HV.out]
                rw [hfv, hfo] at HN
                have HSU := Lib.hid (nl_succ (lOf s) 2)
                generalize fnumv (fW (lOf s) 3) = nv at HN HSU
                clear hfv hfo HV
                have cb : (124 : Int) ≤ (s.size : Int) := by omega
                have hA0 : wr.cell? ⟨w1.heap.size + 1, 2, none⟩ = some (.int .i64 116) ∧ wr.cell? ⟨w1.heap.size + 1, 3, none⟩ = some (.int .i64 124) := ⟨by rw [cell_of_row _ _ _ _ _ _ AO.out]; rfl, by rw [cell_of_row _ _ _ _ _ _ AO.out]; rfl⟩
                have zA := obj_lt AO.out
                obtain ⟨ca, cb2⟩ := hA0
                rw [show ((2 : Nat) : Int) = 2 from rfl]
                go_wp2_with fail
                have hw : IntKind.i64.wrap ((2 : Int) + 1) = 3 := by decide
                have hw2 : IntKind.i64.wrap (3 : Int) = 3 := by decide
                go_region_held3 (fun w' => w'.cell? ⟨w1.heap.size + 1, 2, none⟩ = some (.int .i64 116) ∧ w'.cell? ⟨w1.heap.size + 1, 3, none⟩ = some (.int .i64 124)) (first | assumption | exact ca | exact cb2 | exact ⟨ca, cb2⟩) (first | (go_at_call 48; refine (HN.out _).mono ?_; rintro e w3 ⟨rfl, hb⟩; have d3 : w3.cell? ⟨w1.heap.size + 1, 2, none⟩ = some (.int .i64 116) ∧ w3.cell? ⟨w1.heap.size + 1, 3, none⟩ = some (.int .i64 124) := ⟨(hb.cell (p := ⟨w1.heap.size + 1, 2, none⟩) zA).trans ca, (hb.cell (p := ⟨w1.heap.size + 1, 3, none⟩) zA).trans cb2⟩; have BB := Lib.hid hb; clear hb))
                have AO3 := Lib.hid ((BB.out.block _ zA).trans AO.out)
                have D3 := Lib.hid (bl_sp BB.out D.out.os D.out.tape D.out.output D.out.size D.out.block)
                have O3 := Lib.hid (World.ownsRow.kept O.out (row := none) (show wr.grownBy w3 none from ⟨BB.out.os, BB.out.tape, BB.out.output, BB.out.size, fun k hk _ => BB.out.block k hk⟩) (by simp [Value.ownBlock]))
                have zA3 := obj_lt AO3.out
                clear BB d3 ca cb2 O AO D zA
                cases hob : fnumOk (fW (lOf s) 3) with
                | false =>
                  have HE := Lib.hid (readS_bad (HS3.out (ok5_bad (l := lOf s) (i := 2) (by omega) hob)) (by omega))
                  have RO3 := Lib.hid ((D3.out.block _ zR).trans RO1.out)
                  have HSt := Lib.hid (run_storeVar_row (P := Tryz.prog) w3 w.heap.size 23 23 zEnt zEnt RO3.out (by rw [Tryz.sizeEnt]; rfl) rfl (by simp [zEnt, Value.oneCell']))
                  have B3 := Lib.hid (BW1.out.trans (D3.out.mono BW1.out.size))
                  clear hob O3 AO3
                  go_wp2_with ((with_reducible refine wpList_store_eq rfl 23 _ _ rfl ⟨w.heap.size, 0, none⟩ ?_ ?_ HSt.out ?_); rfl; rfl)
                  refine bodyPost_ret (results_cell4 rfl _ _ w.heap.size _ zEnt (0, 0) _ rfl (setRow_heap _ _ _ _ _ _ RO3.out) Tryz.underlying23 rfl (by rw [Tryz.sizeEnt]; rfl)) rfl ?_
                  rw [HE.out]
                  exact ⟨rfl, B3.out.trans (below_set (Nat.le_refl _) _)⟩
                | true =>
                  have HK : Hid (ok5 (lOf s) 3 = true) := Lib.hid (by rw [ok5, OK.out, hob]; rfl)
                  have sD := D3.out.size
                  clear hob
                  go_wp2_with (at_builtin; refine wpList_append_own_at _ rfl _ _ 68 rfl w1.heap.size 3 i0 (.int .i64 0) 1 8 Tryz.underlying68 hi0 hz0 hz1 hz2 rfl (by decide) _ _ _ rfl (World.ownsRow.alloc O3.out _) ⟨w3.heap.size, 0, none⟩ 1 1 [.int .i64 nv] rfl rfl ?c1 ?c2 ?c3 ?c4 ?c5 ?_)
                  case c1 => exact cell_one_new _ _ _
                  case c2 => intro u hu; simp at hu; subst hu; rfl
                  case c3 => simp only [maxLen]; omega
                  case c4 => omega
                  case c5 => simp; omega
                  · intro v4 w4 hown4 hgrow4 _ hob4
                    have O4 : Hid (w4.ownsRow w1.heap.size 3 1 v4 3 (nl (lOf s) 3)) := Lib.hid (by rw [HSU.out]; exact hown4)
                    have V4 : Hid (∃ gb cp, v4 = .slice (some ⟨gb, 0, none⟩) 3 cp ∧ gb ≠ w1.heap.size + 1) := Lib.hid (by
                      rcases hown4.2 with ⟨_, hn⟩ | ⟨g', cap', cur, rfl, _⟩
                      · omega
                      · refine ⟨g', cap', rfl, ?_⟩
                        rcases hob4 with h | h
                        · simp only [Value.ownBlock, Option.some.injEq] at h; omega
                        · simp only [Value.ownBlock, Option.some.injEq] at h; omega)
                    have A4 : Hid (w4.heap[w1.heap.size + 1]? = some (.cells #[.int .i64 100, .int .i64 108, .int .i64 116, .int .i64 124, .int .i64 136, .int .i64 148] 3 (0, 0))) := Lib.hid (by
                      rw [hgrow4.block _ (by simp; omega) (by simp [Value.ownBlock]; omega), ((Below.refl w3.heap.size w3).alloc (Nat.le_refl _) _).block _ zA3]
                      exact AO3.out)
                    have D4 : Hid (Below w1.heap.size w1 w4) := Lib.hid ((D3.out.alloc sD _).grown hgrow4 (by simp; omega) (fun b hb => (World.ownsRow.lt O3.out b hb).1))
                    clear hown4 hgrow4 hob4 O3 AO3 D3
                    go_wp2_with fail
                    go_roundw
                    case rel => exact ⟨3, by go_num, by omega, HK.out, O4.out, V4.out, A4.out, D4.out⟩
                    case measure => simp [intOf]
              · have HN := Lib.hid (fun w => num_spec (s.extract 124 136) w (by rw [ByteArray.size_extract]; omega) (by rw [ByteArray.size_extract]; omega))
                have HV : Hid (s.extract 124 136 = fW (lOf s) 4) := Lib.hid (fW_ext s 4 12 (by omega) rfl).symm
                have hfv : fnumv (s.extract 124 136) = fnumv (fW (lOf s) 4) := by rw [HV.out]
                have hfo : fnumOk (s.extract 124 136) = fnumOk (fW (lOf s) 4) := by rw [HV.out]
                rw [hfv, hfo] at HN
                have HSU := Lib.hid (nl_succ (lOf s) 3)
                generalize fnumv (fW (lOf s) 4) = nv at HN HSU
                clear hfv hfo HV
                have cb : (136 : Int) ≤ (s.size : Int) := by omega
                have hA0 : wr.cell? ⟨w1.heap.size + 1, 3, none⟩ = some (.int .i64 124) ∧ wr.cell? ⟨w1.heap.size + 1, 4, none⟩ = some (.int .i64 136) := ⟨by rw [cell_of_row _ _ _ _ _ _ AO.out]; rfl, by rw [cell_of_row _ _ _ _ _ _ AO.out]; rfl⟩
                have zA := obj_lt AO.out
                obtain ⟨ca, cb2⟩ := hA0
                rw [show ((3 : Nat) : Int) = 3 from rfl]
                go_wp2_with fail
                have hw : IntKind.i64.wrap ((3 : Int) + 1) = 4 := by decide
                have hw2 : IntKind.i64.wrap (4 : Int) = 4 := by decide
                go_region_held3 (fun w' => w'.cell? ⟨w1.heap.size + 1, 3, none⟩ = some (.int .i64 124) ∧ w'.cell? ⟨w1.heap.size + 1, 4, none⟩ = some (.int .i64 136)) (first | assumption | exact ca | exact cb2 | exact ⟨ca, cb2⟩) (first | (go_at_call 48; refine (HN.out _).mono ?_; rintro e w3 ⟨rfl, hb⟩; have d3 : w3.cell? ⟨w1.heap.size + 1, 3, none⟩ = some (.int .i64 124) ∧ w3.cell? ⟨w1.heap.size + 1, 4, none⟩ = some (.int .i64 136) := ⟨(hb.cell (p := ⟨w1.heap.size + 1, 3, none⟩) zA).trans ca, (hb.cell (p := ⟨w1.heap.size + 1, 4, none⟩) zA).trans cb2⟩; have BB := Lib.hid hb; clear hb))
                have AO3 := Lib.hid ((BB.out.block _ zA).trans AO.out)
                have D3 := Lib.hid (bl_sp BB.out D.out.os D.out.tape D.out.output D.out.size D.out.block)
                have O3 := Lib.hid (World.ownsRow.kept O.out (row := none) (show wr.grownBy w3 none from ⟨BB.out.os, BB.out.tape, BB.out.output, BB.out.size, fun k hk _ => BB.out.block k hk⟩) (by simp [Value.ownBlock]))
                have zA3 := obj_lt AO3.out
                clear BB d3 ca cb2 O AO D zA
                cases hob : fnumOk (fW (lOf s) 4) with
                | false =>
                  have HE := Lib.hid (readS_bad (HS3.out (ok5_bad (l := lOf s) (i := 3) (by omega) hob)) (by omega))
                  have RO3 := Lib.hid ((D3.out.block _ zR).trans RO1.out)
                  have HSt := Lib.hid (run_storeVar_row (P := Tryz.prog) w3 w.heap.size 23 23 zEnt zEnt RO3.out (by rw [Tryz.sizeEnt]; rfl) rfl (by simp [zEnt, Value.oneCell']))
                  have B3 := Lib.hid (BW1.out.trans (D3.out.mono BW1.out.size))
                  clear hob O3 AO3
                  go_wp2_with ((with_reducible refine wpList_store_eq rfl 23 _ _ rfl ⟨w.heap.size, 0, none⟩ ?_ ?_ HSt.out ?_); rfl; rfl)
                  refine bodyPost_ret (results_cell4 rfl _ _ w.heap.size _ zEnt (0, 0) _ rfl (setRow_heap _ _ _ _ _ _ RO3.out) Tryz.underlying23 rfl (by rw [Tryz.sizeEnt]; rfl)) rfl ?_
                  rw [HE.out]
                  exact ⟨rfl, B3.out.trans (below_set (Nat.le_refl _) _)⟩
                | true =>
                  have HK : Hid (ok5 (lOf s) 4 = true) := Lib.hid (by rw [ok5, OK.out, hob]; rfl)
                  have sD := D3.out.size
                  clear hob
                  go_wp2_with (at_builtin; refine wpList_append_own_at _ rfl _ _ 68 rfl w1.heap.size 3 i0 (.int .i64 0) 1 8 Tryz.underlying68 hi0 hz0 hz1 hz2 rfl (by decide) _ _ _ rfl (World.ownsRow.alloc O3.out _) ⟨w3.heap.size, 0, none⟩ 1 1 [.int .i64 nv] rfl rfl ?c1 ?c2 ?c3 ?c4 ?c5 ?_)
                  case c1 => exact cell_one_new _ _ _
                  case c2 => intro u hu; simp at hu; subst hu; rfl
                  case c3 => simp only [maxLen]; omega
                  case c4 => omega
                  case c5 => simp; omega
                  · intro v4 w4 hown4 hgrow4 _ hob4
                    have O4 : Hid (w4.ownsRow w1.heap.size 3 1 v4 4 (nl (lOf s) 4)) := Lib.hid (by rw [HSU.out]; exact hown4)
                    have V4 : Hid (∃ gb cp, v4 = .slice (some ⟨gb, 0, none⟩) 4 cp ∧ gb ≠ w1.heap.size + 1) := Lib.hid (by
                      rcases hown4.2 with ⟨_, hn⟩ | ⟨g', cap', cur, rfl, _⟩
                      · omega
                      · refine ⟨g', cap', rfl, ?_⟩
                        rcases hob4 with h | h
                        · simp only [Value.ownBlock, Option.some.injEq] at h; omega
                        · simp only [Value.ownBlock, Option.some.injEq] at h; omega)
                    have A4 : Hid (w4.heap[w1.heap.size + 1]? = some (.cells #[.int .i64 100, .int .i64 108, .int .i64 116, .int .i64 124, .int .i64 136, .int .i64 148] 3 (0, 0))) := Lib.hid (by
                      rw [hgrow4.block _ (by simp; omega) (by simp [Value.ownBlock]; omega), ((Below.refl w3.heap.size w3).alloc (Nat.le_refl _) _).block _ zA3]
                      exact AO3.out)
                    have D4 : Hid (Below w1.heap.size w1 w4) := Lib.hid ((D3.out.alloc sD _).grown hgrow4 (by simp; omega) (fun b hb => (World.ownsRow.lt O3.out b hb).1))
                    clear hown4 hgrow4 hob4 O3 AO3 D3
                    go_wp2_with fail
                    go_roundw
                    case rel => exact ⟨4, by go_num, by omega, HK.out, O4.out, V4.out, A4.out, D4.out⟩
                    case measure => simp [intOf]
              · have HN := Lib.hid (fun w => num_spec (s.extract 136 148) w (by rw [ByteArray.size_extract]; omega) (by rw [ByteArray.size_extract]; omega))
                have HV : Hid (s.extract 136 148 = fW (lOf s) 5) := Lib.hid (fW_ext s 5 12 (by omega) rfl).symm
                have hfv : fnumv (s.extract 136 148) = fnumv (fW (lOf s) 5) := by rw [HV.out]
                have hfo : fnumOk (s.extract 136 148) = fnumOk (fW (lOf s) 5) := by rw [HV.out]
                rw [hfv, hfo] at HN
                have HSU := Lib.hid (nl_succ (lOf s) 4)
                generalize fnumv (fW (lOf s) 5) = nv at HN HSU
                clear hfv hfo HV
                have cb : (148 : Int) ≤ (s.size : Int) := by omega
                have hA0 : wr.cell? ⟨w1.heap.size + 1, 4, none⟩ = some (.int .i64 136) ∧ wr.cell? ⟨w1.heap.size + 1, 5, none⟩ = some (.int .i64 148) := ⟨by rw [cell_of_row _ _ _ _ _ _ AO.out]; rfl, by rw [cell_of_row _ _ _ _ _ _ AO.out]; rfl⟩
                have zA := obj_lt AO.out
                obtain ⟨ca, cb2⟩ := hA0
                rw [show ((4 : Nat) : Int) = 4 from rfl]
                go_wp2_with fail
                have hw : IntKind.i64.wrap ((4 : Int) + 1) = 5 := by decide
                have hw2 : IntKind.i64.wrap (5 : Int) = 5 := by decide
                go_region_held3 (fun w' => w'.cell? ⟨w1.heap.size + 1, 4, none⟩ = some (.int .i64 136) ∧ w'.cell? ⟨w1.heap.size + 1, 5, none⟩ = some (.int .i64 148)) (first | assumption | exact ca | exact cb2 | exact ⟨ca, cb2⟩) (first | (go_at_call 48; refine (HN.out _).mono ?_; rintro e w3 ⟨rfl, hb⟩; have d3 : w3.cell? ⟨w1.heap.size + 1, 4, none⟩ = some (.int .i64 136) ∧ w3.cell? ⟨w1.heap.size + 1, 5, none⟩ = some (.int .i64 148) := ⟨(hb.cell (p := ⟨w1.heap.size + 1, 4, none⟩) zA).trans ca, (hb.cell (p := ⟨w1.heap.size + 1, 5, none⟩) zA).trans cb2⟩; have BB := Lib.hid hb; clear hb))
                have AO3 := Lib.hid ((BB.out.block _ zA).trans AO.out)
                have D3 := Lib.hid (bl_sp BB.out D.out.os D.out.tape D.out.output D.out.size D.out.block)
                have O3 := Lib.hid (World.ownsRow.kept O.out (row := none) (show wr.grownBy w3 none from ⟨BB.out.os, BB.out.tape, BB.out.output, BB.out.size, fun k hk _ => BB.out.block k hk⟩) (by simp [Value.ownBlock]))
                have zA3 := obj_lt AO3.out
                clear BB d3 ca cb2 O AO D zA
                cases hob : fnumOk (fW (lOf s) 5) with
                | false =>
                  have HE := Lib.hid (readS_bad (HS3.out (ok5_bad (l := lOf s) (i := 4) (by omega) hob)) (by omega))
                  have RO3 := Lib.hid ((D3.out.block _ zR).trans RO1.out)
                  have HSt := Lib.hid (run_storeVar_row (P := Tryz.prog) w3 w.heap.size 23 23 zEnt zEnt RO3.out (by rw [Tryz.sizeEnt]; rfl) rfl (by simp [zEnt, Value.oneCell']))
                  have B3 := Lib.hid (BW1.out.trans (D3.out.mono BW1.out.size))
                  clear hob O3 AO3
                  go_wp2_with ((with_reducible refine wpList_store_eq rfl 23 _ _ rfl ⟨w.heap.size, 0, none⟩ ?_ ?_ HSt.out ?_); rfl; rfl)
                  refine bodyPost_ret (results_cell4 rfl _ _ w.heap.size _ zEnt (0, 0) _ rfl (setRow_heap _ _ _ _ _ _ RO3.out) Tryz.underlying23 rfl (by rw [Tryz.sizeEnt]; rfl)) rfl ?_
                  rw [HE.out]
                  exact ⟨rfl, B3.out.trans (below_set (Nat.le_refl _) _)⟩
                | true =>
                  have HK : Hid (ok5 (lOf s) 5 = true) := Lib.hid (by rw [ok5, OK.out, hob]; rfl)
                  have sD := D3.out.size
                  clear hob
                  go_wp2_with (at_builtin; refine wpList_append_own_at _ rfl _ _ 68 rfl w1.heap.size 3 i0 (.int .i64 0) 1 8 Tryz.underlying68 hi0 hz0 hz1 hz2 rfl (by decide) _ _ _ rfl (World.ownsRow.alloc O3.out _) ⟨w3.heap.size, 0, none⟩ 1 1 [.int .i64 nv] rfl rfl ?c1 ?c2 ?c3 ?c4 ?c5 ?_)
                  case c1 => exact cell_one_new _ _ _
                  case c2 => intro u hu; simp at hu; subst hu; rfl
                  case c3 => simp only [maxLen]; omega
                  case c4 => omega
                  case c5 => simp; omega
                  · intro v4 w4 hown4 hgrow4 _ hob4
                    have O4 : Hid (w4.ownsRow w1.heap.size 3 1 v4 5 (nl (lOf s) 5)) := Lib.hid (by rw [HSU.out]; exact hown4)
                    have V4 : Hid (∃ gb cp, v4 = .slice (some ⟨gb, 0, none⟩) 5 cp ∧ gb ≠ w1.heap.size + 1) := Lib.hid (by
                      rcases hown4.2 with ⟨_, hn⟩ | ⟨g', cap', cur, rfl, _⟩
                      · omega
                      · refine ⟨g', cap', rfl, ?_⟩
                        rcases hob4 with h | h
                        · simp only [Value.ownBlock, Option.some.injEq] at h; omega
                        · simp only [Value.ownBlock, Option.some.injEq] at h; omega)
                    have A4 : Hid (w4.heap[w1.heap.size + 1]? = some (.cells #[.int .i64 100, .int .i64 108, .int .i64 116, .int .i64 124, .int .i64 136, .int .i64 148] 3 (0, 0))) := Lib.hid (by
                      rw [hgrow4.block _ (by simp; omega) (by simp [Value.ownBlock]; omega), ((Below.refl w3.heap.size w3).alloc (Nat.le_refl _) _).block _ zA3]
                      exact AO3.out)
                    have D4 : Hid (Below w1.heap.size w1 w4) := Lib.hid ((D3.out.alloc sD _).grown hgrow4 (by simp; omega) (fun b hb => (World.ownsRow.lt O3.out b hb).1))
                    clear hown4 hgrow4 hob4 O3 AO3 D3
                    go_wp2_with fail
                    go_roundw
                    case rel => exact ⟨5, by go_num, by omega, HK.out, O4.out, V4.out, A4.out, D4.out⟩
                    case measure => simp [intOf]
        · have HE := Lib.hid (readS_bad (s := s) (c := 2) (HR2.out (by cases h : sumOkv s with | false => rfl | true => exact absurd (HQ.out.1 h).2.2 h3)) (by omega))
          have q3 : (n6 != headSumv s) = true := by simp [h3]
          clear HQ HR2 HR3 HR0 h2 h3
          generalize headSumv s = hsv at *
          go_enter Tryz.func22, Tryz.ntmps22
          go_wp2_with fail
          refine (H1.out _).mono ?_
          rintro e w1 ⟨rfl, rfl⟩
          go_wp2_with fail
          refine (H2.out _).mono ?_
          rintro e w1 ⟨rfl, hb⟩
          obtain ⟨R1, B1⟩ := BAD.out w1 hb
          have HSt := Lib.hid (run_storeVar_row (P := Tryz.prog) w1 w.heap.size 23 23 zEnt zEnt R1 (by rw [Tryz.sizeEnt]; rfl) rfl (by simp [zEnt, Value.oneCell']))
          clear hb
          go_wp2_with ((with_reducible refine wpList_store_eq rfl 23 _ _ rfl ⟨w.heap.size, 0, none⟩ ?_ ?_ HSt.out ?_); rfl; rfl)
          refine bodyPost_ret (results_cell4 rfl _ _ w.heap.size _ zEnt (0, 0) _ rfl (setRow_heap _ _ _ _ _ _ R1) Tryz.underlying23 rfl (by rw [Tryz.sizeEnt]; rfl)) rfl ?_
          rw [HE.out]
          exact ⟨rfl, B1.trans (below_set (Nat.le_refl _) _)⟩
      · have HE := Lib.hid (readS_bad (s := s) (c := 2) (HR2.out (by cases h : sumOkv s with | false => rfl | true => exact absurd (HQ.out.1 h).2.1 h2)) (by omega))
        have q2 := lit_ne (s := s.extract 154 156) (l := [0, 32]) h2
        clear HQ HR2 HR3 HR0 h2
        go_enter Tryz.func22, Tryz.ntmps22
        go_wp2_with fail
        refine (H1.out _).mono ?_
        rintro e w1 ⟨rfl, rfl⟩
        go_wp2_with ((with_reducible refine wpList_store_eq rfl 23 _ _ rfl ⟨w.heap.size, 0, none⟩ ?_ ?_ HSt0.out ?_); rfl; rfl)
        refine bodyPost_ret (results_cell4 rfl _ _ w.heap.size _ zEnt (0, 0) _ rfl R0.out Tryz.underlying23 rfl (by rw [Tryz.sizeEnt]; rfl)) rfl ?_
        rw [HE.out]
        exact ⟨rfl, B0.out⟩
end Go.Proofs.YtgpgkgahbkmdiabGreatDoor
