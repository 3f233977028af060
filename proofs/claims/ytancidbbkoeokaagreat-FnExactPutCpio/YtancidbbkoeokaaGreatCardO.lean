/- A struct Card in a block of its own that may be written. -/
import Derived.Test.YtancidbbkoeokaaGreatCardL
import Derived.Laws.ResultCell
import Derived.Laws.Rows
import Derived.Laws.Tables
namespace Go.Proofs.YtancidbbkoeokaaGreat
open Go.ChangeShapes Go.WideShapes Go.ChangeAt Go.RowKit Go.Deep

def CardO (w : World) (g : Nat) (e : Card) : Prop := w.heap[g]? = some (.cells e.cells.toArray 44 (0, 0))
theorem CardO.new (w : World) (e : Card) : CardO (w.alloc (.cells e.cells.toArray 44)) w.heap.size e := by
  show (w.heap.push _)[w.heap.size]? = _
  simp
theorem CardO.newAt (w : World) (e : Card) (g : Nat) (hg : g = w.heap.size) : CardO (w.alloc (.cells e.cells.toArray 44)) g e := by subst hg; exact CardO.new w e
theorem CardO.below {w w' : World} {g B : Nat} {e : Card} (h : CardO w g e) (hb : Below B w w') (hg : g < B) : CardO w' g e := (hb.block g hg).trans h
theorem CardO.lt {w : World} {g : Nat} {e : Card} (h : CardO w g e) : g < w.heap.size := (Array.getElem?_eq_some_iff.1 h).1
theorem CardO.at {w : World} {g : Nat} {e : Card} (h : CardO w g e) : CardAt w g 0 e := fun i hi => by
  unfold CardO at h
  simp [World.cell?, h]
theorem CardO.fz {w : World} {g : Nat} {e : Card} (h : CardO w g e) (i : Nat) : w.frozen? ⟨g, i, none⟩ = false := by
  unfold CardO at h
  simp [World.frozen?, h]
theorem CardO.grown {w w' : World} {g : Nat} {row : Option Nat} {e : Card} (h : CardO w g e) (hb : w.grownBy w' row) (hg : some g ≠ row) : CardO w' g e := (hb.block g h.lt hg).trans h
theorem CardO.set {w : World} {g : Nat} {e e' : Card} (h : CardO w g e) (i : Nat) (v : Value) (he : e.cells.toArray.setIfInBounds i v = e'.cells.toArray) : CardO (w.setCell ⟨g, i, none⟩ v) g e' := by
  have hlt := h.lt
  unfold CardO at h ⊢
  have hg : w.heap[g] = .cells e.cells.toArray 44 (0, 0) := (Array.getElem?_eq_some_iff.1 h).2
  simp [World.setCell, hlt, Array.getElem_modify, hg, he]
theorem CardO.other {w : World} {g b i : Nat} {e : Card} {v : Value} (h : CardO w g e) (hne : g ≠ b) : CardO (w.setCell ⟨b, i, none⟩ v) g e := by
  unfold CardO
  rw [Below.heap_setCell _ _ _ g (fun e => hne e)]
  exact h
theorem grownOC (w : World) (row : Option Nat) : w.grownBy w row := ⟨rfl, rfl, rfl, Nat.le_refl _, fun _ _ _ => rfl⟩
theorem grown_setC {w w' : World} {g : Nat} (h : w.grownBy w' (some g)) (o : Nat) (v : Value) : w.grownBy (w'.setCell ⟨g, o, none⟩ v) (some g) :=
  ⟨h.os, h.tape, h.output, by simpa using h.size, fun k hk hne => (Below.heap_setCell w' _ v k (fun e => hne (by rw [e]))).trans (h.block k hk hne)⟩
/-- A whole one stored, cell by cell. -/
def putOC (w : World) (g : Nat) (y : Card) : World := ((((((((w.setCell ⟨g, 0, none⟩ (.int .i64 y.Ino)).setCell ⟨g, 1, none⟩ (.int .i64 y.Mode)).setCell ⟨g, 2, none⟩ (.int .i64 y.Uid)).setCell ⟨g, 3, none⟩ (.int .i64 y.Gid)).setCell ⟨g, 4, none⟩ (.int .i64 y.Count)).setCell ⟨g, 5, none⟩ (.int .i64 y.Time)).setCell ⟨g, 6, none⟩ (.string y.Path)).setCell ⟨g, 7, none⟩ (.string y.Data))
theorem CardO.put {w : World} {g : Nat} {x : Card} (h : CardO w g x) (y : Card) : CardO (putOC w g y) g y := (CardO.set (e' := ⟨y.Ino, y.Mode, y.Uid, y.Gid, y.Count, y.Time, y.Path, y.Data⟩) ((CardO.set (e' := ⟨y.Ino, y.Mode, y.Uid, y.Gid, y.Count, y.Time, y.Path, x.Data⟩) ((CardO.set (e' := ⟨y.Ino, y.Mode, y.Uid, y.Gid, y.Count, y.Time, x.Path, x.Data⟩) ((CardO.set (e' := ⟨y.Ino, y.Mode, y.Uid, y.Gid, y.Count, x.Time, x.Path, x.Data⟩) ((CardO.set (e' := ⟨y.Ino, y.Mode, y.Uid, y.Gid, x.Count, x.Time, x.Path, x.Data⟩) ((CardO.set (e' := ⟨y.Ino, y.Mode, y.Uid, x.Gid, x.Count, x.Time, x.Path, x.Data⟩) ((CardO.set (e' := ⟨y.Ino, y.Mode, x.Uid, x.Gid, x.Count, x.Time, x.Path, x.Data⟩) ((CardO.set (e' := ⟨y.Ino, x.Mode, x.Uid, x.Gid, x.Count, x.Time, x.Path, x.Data⟩) (h) 0 (.int .i64 y.Ino) rfl)) 1 (.int .i64 y.Mode) rfl)) 2 (.int .i64 y.Uid) rfl)) 3 (.int .i64 y.Gid) rfl)) 4 (.int .i64 y.Count) rfl)) 5 (.int .i64 y.Time) rfl)) 6 (.string y.Path) rfl)) 7 (.string y.Data) rfl)
theorem below_putOC {w w' : World} {B g : Nat} (h : Below B w w') (hg : B ≤ g) (y : Card) : Below B w (putOC w' g y) := ((((((((h.setCell (p := ⟨g, 0, none⟩) hg _).setCell (p := ⟨g, 1, none⟩) hg _).setCell (p := ⟨g, 2, none⟩) hg _).setCell (p := ⟨g, 3, none⟩) hg _).setCell (p := ⟨g, 4, none⟩) hg _).setCell (p := ⟨g, 5, none⟩) hg _).setCell (p := ⟨g, 6, none⟩) hg _).setCell (p := ⟨g, 7, none⟩) hg _)
theorem putOC_other {w : World} {b g : Nat} {y : Card} (hne : b ≠ g) : (putOC w g y).heap[b]? = w.heap[b]? := by
  unfold putOC
  repeat rw [Below.heap_setCell _ _ _ b (fun e => hne e)]
theorem grown_putOC (w : World) (g : Nat) (y : Card) : w.grownBy (putOC w g y) (some g) := (grown_setC (grown_setC (grown_setC (grown_setC (grown_setC (grown_setC (grown_setC (grown_setC (grownOC w (some g)) 0 _) 1 _) 2 _) 3 _) 4 _) 5 _) 6 _) 7 _)
theorem Tryz.sizeOC : (Tryz.prog.info? 44).map (·.size) = some 8 := by kernel_rfl
theorem load_OC {w : World} {g : Nat} {e : Card} (hg : CardO w g e) : (loadVar 44 ⟨g, 0, none⟩).run Tryz.prog w = .ok (.agg e.cells.toArray) w :=
  run_loadVar_row w g 44 44 e.cells.toArray (0, 0) _ hg Tryz.underlying44 rfl (by rw [Tryz.sizeOC]; rfl)
theorem res_OC1 {fn : Func} {p : Tmp} (h : fn.results = #[.cell p 44]) (tmps : Array Value) {w : World} {g : Nat} {e : Card}
    (hp : tmps.getD p undef = .pointer (some ⟨g, 0, none⟩)) (hg : CardO w g e) :
    (results fn tmps).run Tryz.prog w = .ok (.agg e.cells.toArray) w :=
  results_cell_row h _ _ g _ e.cells.toArray (0, 0) _ hp hg Tryz.underlying44 rfl (by rw [Tryz.sizeOC]; rfl)
end Go.Proofs.YtancidbbkoeokaaGreat
