/- Entries in memory: ten cells in a row. -/
import Derived.Test.YtancidbbkoeokaaGreatEntW
import Derived.Laws.NewBlocks
namespace Go.Proofs.YtancidbbkoeokaaGreat
open Go.ChangeShapes Go.WideShapes Go.ChangeAt Go.RowKit

def EntAt (w : World) (b o : Nat) (e : Ent) : Prop := ∀ i, i < 10 → w.cell? ⟨b, o + i, none⟩ = e.cells[i]?
theorem EntAt.below {w w' : World} {b o B : Nat} {e : Ent} (h : EntAt w b o e) (hb : Below B w w') (hg : b < B) : EntAt w' b o e := fun i hi => (hb.cell (p := ⟨b, o + i, none⟩) hg).trans (h i hi)
theorem EntAt.zero {w : World} {b : Nat} {e : Ent} (h : EntAt w b 0 e) : w.cell? ⟨b, 0, none⟩ = some (.int .i64 e.kind) ∧ w.cell? ⟨b, 1, none⟩ = some (.string e.path) ∧ w.cell? ⟨b, 2, none⟩ = some (.string e.link) ∧ w.cell? ⟨b, 3, none⟩ = some (.int .i64 e.mode) ∧ w.cell? ⟨b, 4, none⟩ = some (.int .i64 e.uid) ∧ w.cell? ⟨b, 5, none⟩ = some (.int .i64 e.gid) ∧ w.cell? ⟨b, 6, none⟩ = some (.int .i64 e.time) ∧ w.cell? ⟨b, 7, none⟩ = some (.string e.user) ∧ w.cell? ⟨b, 8, none⟩ = some (.string e.group) ∧ w.cell? ⟨b, 9, none⟩ = some (.string e.body) :=
  ⟨h 0 (by omega), h 1 (by omega), h 2 (by omega), h 3 (by omega), h 4 (by omega), h 5 (by omega), h 6 (by omega), h 7 (by omega), h 8 (by omega), h 9 (by omega)⟩
theorem btE {x y z : World} (h : Below x.heap.size x y) (k : Below y.heap.size y z) : Below x.heap.size x z := h.trans (k.mono h.size)
theorem EntAt.new (w : World) (e : Ent) (t : TypeId) : EntAt (w.alloc (.cells e.cells.toArray t)) w.heap.size 0 e := fun i _ => by
  rw [World.cell?_alloc_at _ _ _ _ rfl]
  simp
/-- Two entries laid behind one another, and what a call keeps of them. -/
theorem two_new {w w1 : World} {e1 e2 : Ent} {t1 t2 : TypeId} (h : Below ((w.alloc (.cells e1.cells.toArray t1)).alloc (.cells e2.cells.toArray t2)).heap.size ((w.alloc (.cells e1.cells.toArray t1)).alloc (.cells e2.cells.toArray t2)) w1) :
    EntAt w1 w.heap.size 0 e1 ∧ EntAt w1 (w.heap.size + 1) 0 e2 ∧ Below w.heap.size w w1 ∧ w.heap.size + 2 ≤ w1.heap.size := by
  have hs : ((w.alloc (.cells e1.cells.toArray t1)).alloc (.cells e2.cells.toArray t2)).heap.size = w.heap.size + 2 := by simp
  have n1 : EntAt ((w.alloc (.cells e1.cells.toArray t1)).alloc (.cells e2.cells.toArray t2)) w.heap.size 0 e1 := fun i hi => by
    rw [World.cell?_alloc_past _ _ _ (by simp)]
    exact EntAt.new w e1 t1 i hi
  have n2 : EntAt ((w.alloc (.cells e1.cells.toArray t1)).alloc (.cells e2.cells.toArray t2)) (w.heap.size + 1) 0 e2 := by
    have := EntAt.new (w.alloc (.cells e1.cells.toArray t1)) e2 t2
    simpa using this
  exact ⟨n1.below h (by omega), n2.below h (by omega), (((Below.refl _ w).alloc (Nat.le_refl _) _).alloc (by simp) _).trans (h.mono (by omega)), by have := h.size; omega⟩
/-- One entry laid. -/
theorem one_new {w w1 : World} {e1 : Ent} {t1 : TypeId} (h : Below (w.alloc (.cells e1.cells.toArray t1)).heap.size (w.alloc (.cells e1.cells.toArray t1)) w1) :
    EntAt w1 w.heap.size 0 e1 ∧ Below w.heap.size w w1 ∧ w.heap.size + 1 ≤ w1.heap.size := by
  have hs : (w.alloc (.cells e1.cells.toArray t1)).heap.size = w.heap.size + 1 := by simp
  exact ⟨(EntAt.new w e1 t1).below h (by omega), ((Below.refl _ w).alloc (Nat.le_refl _) _).trans (h.mono (by omega)), by have := h.size; omega⟩
end Go.Proofs.YtancidbbkoeokaaGreat
