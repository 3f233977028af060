/- The deferred function of impl.GetCard: what it does for a frame that panics with a code, and for one that returns. -/
import Derived.Test.YtcnmbolmgifgfaaDemand
import Derived.Test.YtcnmbolmgifgfaaCardO
import Derived.Defers
import Derived.Recover
namespace Go.Proofs.Ytcnmbolmgifgfaa
open Go.ChangeShapes Go.WideShapes Go.ChangeAt Go.RowKit

theorem get_catch (gc gi gk gn : Nat) (c i y0 y1 : Int) (x : Card) (w : World) (hc : ¬ c = 0) (h1 : gc ≠ gk) (h2 : gc ≠ gn) (h3 : gk ≠ gn) (h4 : gi ≠ gc) (h5 : gi ≠ gk)
    (hgc : w.heap[gc]? = some (.cells #[.int .i64 y0] 3 (0, 0))) (hgi : w.heap[gi]? = some (.cells #[.int .i64 i] 3 (0, 0))) (hgn : w.heap[gn]? = some (.cells #[.int .i64 y1] 3 (0, 0))) (hgk : CardO w gk x) :
    CallsD Try.prog 24 #[.pointer (some ⟨gc, 0, none⟩), .pointer (some ⟨gi, 0, none⟩), .pointer (some ⟨gk, 0, none⟩), .pointer (some ⟨gn, 0, none⟩)] (.panicking [{ v := .iface 59 (.agg #[.int .i64 c]), recovered := false }]) w fun e u' w' =>
      e = .returned (.tuple #[]) ∧ u' = .panicking [{ v := .iface 59 (.agg #[.int .i64 c]), recovered := true }] ∧ ∃ w1, Below w.heap.size w w1 ∧ w' = (putOC (w1.setCell ⟨gc, 0, none⟩ (.int .i64 c)) gk zeroC).setCell ⟨gn, 0, none⟩ (.int .i64 i) := by
  have lc := (Array.getElem?_eq_some_iff.1 hgc).1
  have li := (Array.getElem?_eq_some_iff.1 hgi).1
  have ln := (Array.getElem?_eq_some_iff.1 hgn).1
  have lk := hgk.lt
  refine callsD_of_wpS Try.func24 rfl fun c₀ cs hu => ?_
  apply wpS_seq
  apply wpS_region
  simp [wpOpsS, go_sem, recoverD, hu, Try.ntmps24, Exit.thenS]
  refine (cardCode_some c _).mono ?_
  rintro e w1 ⟨rfl, hb⟩
  have bc := (hb.block gc lc).trans hgc
  have bi := (hb.block gi li).trans hgi
  have bn := (hb.block gn ln).trans hgn
  have bk : CardO w1 gk x := (hb.block gk lk).trans hgk
  have hx1 : w1.cell? ⟨gc, 0, none⟩ = some (.int .i64 y0) := by simp [World.cell?, bc]
  have hz1 : w1.frozen? ⟨gc, 0, none⟩ = false := by simp [World.frozen?, bc]
  simp [go_sem, hx1, hz1]
  generalize hwA : w1.setCell ⟨gc, 0, none⟩ (.int .i64 c) = wA
  have ac : wA.cell? ⟨gc, 0, none⟩ = some (.int .i64 c) := by rw [← hwA]; first | exact World.cell?_setCell_same _ _ _ hx1 | simp [go_sem, hx1]
  have ai : wA.cell? ⟨gi, 0, none⟩ = some (.int .i64 i) := by
    have h10 := Below.heap_setCell w1 ⟨gc, 0, none⟩ (.int .i64 c) gi (by simpa using h4)
    rw [hwA, bi] at h10
    simp [World.cell?, h10]
  have hn : wA.heap[gn]? = some (.cells #[.int .i64 y1] 3 (0, 0)) := by rw [← hwA, Below.heap_setCell _ _ _ _ (by simp; omega)]; exact bn
  have hk : CardO wA gk x := by rw [← hwA]; exact bk.other (by omega)
  have an : wA.cell? ⟨gn, 0, none⟩ = some (.int .i64 y1) := by simp [World.cell?, hn]
  have fn : wA.frozen? ⟨gn, 0, none⟩ = false := by simp [World.frozen?, hn]
  have k0 := hk.at 0 (by decide)
  have k1 := hk.at 1 (by decide)
  have k2 := hk.at 2 (by decide)
  have k3 := hk.at 3 (by decide)
  have k4 := hk.at 4 (by decide)
  have k5 := hk.at 5 (by decide)
  have k6 := hk.at 6 (by decide)
  have k7 := hk.at 7 (by decide)
  simp [Card.cells] at k0 k1 k2 k3 k4 k5 k6 k7
  have f0 := hk.fz 0
  have f1 := hk.fz 1
  have f2 := hk.fz 2
  have f3 := hk.fz 3
  have f4 := hk.fz 4
  have f5 := hk.fz 5
  have f6 := hk.fz 6
  have f7 := hk.fz 7
  apply wpS_seq
  apply wpS_region
  simp [wpOpsS, go_sem, ac, Exit.thenS]
  refine wpS_cond (t := true) (by simp [Act.eval, Array.replicate, hc]) ?_
  simp only [if_true]
  apply wpS_region
  simp [wpOpsS, go_sem, ai, an, fn, k0, k1, k2, k3, k4, k5, k6, k7, f0, f1, f2, f3, f4, f5, f6, f7, bodyPostS, results, Try.results24]
  rw [← hwA]
  exact ⟨w1, hb, rfl⟩
theorem get_idle (gc gi gk gn : Nat) (y0 : Int) (w : World) (hgc : w.heap[gc]? = some (.cells #[.int .i64 y0] 3 (0, 0))) :
    CallsD Try.prog 24 #[.pointer (some ⟨gc, 0, none⟩), .pointer (some ⟨gi, 0, none⟩), .pointer (some ⟨gk, 0, none⟩), .pointer (some ⟨gn, 0, none⟩)] .returning w fun e u' w' =>
      e = .returned (.tuple #[]) ∧ u' = .returning ∧ ∃ w1, Below w.heap.size w w1 ∧ w' = w1.setCell ⟨gc, 0, none⟩ (.int .i64 0) := by
  have lc := (Array.getElem?_eq_some_iff.1 hgc).1
  refine callsD_of_wpS Try.func24 rfl fun c₀ cs hu => ?_
  apply wpS_seq
  apply wpS_region
  simp [wpOpsS, go_sem, recoverD, hu, Try.ntmps24, Exit.thenS]
  refine (cardCode_nil _).mono ?_
  rintro e w1 ⟨rfl, hb⟩
  have bc := (hb.block gc lc).trans hgc
  have hx1 : w1.cell? ⟨gc, 0, none⟩ = some (.int .i64 y0) := by simp [World.cell?, bc]
  have hz1 : w1.frozen? ⟨gc, 0, none⟩ = false := by simp [World.frozen?, bc]
  simp [go_sem, hx1, hz1]
  generalize hwA : w1.setCell ⟨gc, 0, none⟩ (.int .i64 0) = wA
  have ac : wA.cell? ⟨gc, 0, none⟩ = some (.int .i64 0) := by rw [← hwA]; first | exact World.cell?_setCell_same _ _ _ hx1 | simp [go_sem, hx1]
  apply wpS_seq
  apply wpS_region
  simp [wpOpsS, go_sem, ac, Exit.thenS]
  refine wpS_cond (t := false) (by simp [Act.eval, Array.replicate]) ?_
  simp only [Bool.false_eq_true, if_false]
  refine wpS_of_wp (wp_skip ?_)
  cases c₀
  simp_all [bodyPostS, results, Try.results24]
  exact ⟨w1, hb, hwA.symm⟩
end Go.Proofs.Ytcnmbolmgifgfaa
