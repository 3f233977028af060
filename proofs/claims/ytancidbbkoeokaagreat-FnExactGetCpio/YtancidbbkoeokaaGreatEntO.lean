/- An entry in a block of its own that may be written. -/
import Derived.Test.YtancidbbkoeokaaGreatEntAt
import Derived.Laws.ResultCell
import Derived.Laws.Rows
import Derived.Laws.Tables
namespace Go.Proofs.YtancidbbkoeokaaGreat
open Go.ChangeShapes Go.WideShapes Go.ChangeAt Go.RowKit Go.Deep

def EntO (w : World) (g : Nat) (e : Ent) : Prop := w.heap[g]? = some (.cells e.cells.toArray 41 (0, 0))
theorem EntO.new (w : World) (e : Ent) : EntO (w.alloc (.cells e.cells.toArray 41)) w.heap.size e := by
  show (w.heap.push _)[w.heap.size]? = _
  simp
theorem EntO.below {w w' : World} {g B : Nat} {e : Ent} (h : EntO w g e) (hb : Below B w w') (hg : g < B) : EntO w' g e := (hb.block g hg).trans h
theorem EntO.lt {w : World} {g : Nat} {e : Ent} (h : EntO w g e) : g < w.heap.size := (Array.getElem?_eq_some_iff.1 h).1
theorem EntO.at {w : World} {g : Nat} {e : Ent} (h : EntO w g e) : EntAt w g 0 e := fun i hi => by
  unfold EntO at h
  simp [World.cell?, h]
theorem EntO.fz {w : World} {g : Nat} {e : Ent} (h : EntO w g e) (i : Nat) : w.frozen? ⟨g, i, none⟩ = false := by
  unfold EntO at h
  simp [World.frozen?, h]
theorem EntO.grown {w w' : World} {g : Nat} {row : Option Nat} {e : Ent} (h : EntO w g e) (hb : w.grownBy w' row) (hg : some g ≠ row) : EntO w' g e := (hb.block g h.lt hg).trans h
theorem EntO.set {w : World} {g : Nat} {e e' : Ent} (h : EntO w g e) (i : Nat) (v : Value) (he : e.cells.toArray.setIfInBounds i v = e'.cells.toArray) : EntO (w.setCell ⟨g, i, none⟩ v) g e' := by
  have hlt := h.lt
  unfold EntO at h ⊢
  have hg : w.heap[g] = .cells e.cells.toArray 41 (0, 0) := (Array.getElem?_eq_some_iff.1 h).2
  simp [World.setCell, hlt, Array.getElem_modify, hg, he]
theorem EntO.other {w : World} {g b i : Nat} {e : Ent} {v : Value} (h : EntO w g e) (hne : g ≠ b) : EntO (w.setCell ⟨b, i, none⟩ v) g e := by
  unfold EntO
  rw [Below.heap_setCell _ _ _ g (fun e => hne e)]
  exact h
/-- A whole entry stored. -/
def putE (w : World) (g : Nat) (y : Ent) : World := ((((((((((w.setCell ⟨g, 0, none⟩ (.int .i64 y.kind)).setCell ⟨g, 1, none⟩ (.string y.path)).setCell ⟨g, 2, none⟩ (.string y.link)).setCell ⟨g, 3, none⟩ (.int .i64 y.mode)).setCell ⟨g, 4, none⟩ (.int .i64 y.uid)).setCell ⟨g, 5, none⟩ (.int .i64 y.gid)).setCell ⟨g, 6, none⟩ (.int .i64 y.time)).setCell ⟨g, 7, none⟩ (.string y.user)).setCell ⟨g, 8, none⟩ (.string y.group)).setCell ⟨g, 9, none⟩ (.string y.body))
theorem EntO.put {w : World} {g : Nat} {x : Ent} (h : EntO w g x) (y : Ent) : EntO (putE w g y) g y := (EntO.set (e' := ⟨y.kind, y.path, y.link, y.mode, y.uid, y.gid, y.time, y.user, y.group, y.body⟩) (EntO.set (e' := ⟨y.kind, y.path, y.link, y.mode, y.uid, y.gid, y.time, y.user, y.group, x.body⟩) (EntO.set (e' := ⟨y.kind, y.path, y.link, y.mode, y.uid, y.gid, y.time, y.user, x.group, x.body⟩) (EntO.set (e' := ⟨y.kind, y.path, y.link, y.mode, y.uid, y.gid, y.time, x.user, x.group, x.body⟩) (EntO.set (e' := ⟨y.kind, y.path, y.link, y.mode, y.uid, y.gid, x.time, x.user, x.group, x.body⟩) (EntO.set (e' := ⟨y.kind, y.path, y.link, y.mode, y.uid, x.gid, x.time, x.user, x.group, x.body⟩) (EntO.set (e' := ⟨y.kind, y.path, y.link, y.mode, x.uid, x.gid, x.time, x.user, x.group, x.body⟩) (EntO.set (e' := ⟨y.kind, y.path, y.link, x.mode, x.uid, x.gid, x.time, x.user, x.group, x.body⟩) (EntO.set (e' := ⟨y.kind, y.path, x.link, x.mode, x.uid, x.gid, x.time, x.user, x.group, x.body⟩) (EntO.set (e' := ⟨y.kind, x.path, x.link, x.mode, x.uid, x.gid, x.time, x.user, x.group, x.body⟩) h 0 (.int .i64 y.kind) rfl) 1 (.string y.path) rfl) 2 (.string y.link) rfl) 3 (.int .i64 y.mode) rfl) 4 (.int .i64 y.uid) rfl) 5 (.int .i64 y.gid) rfl) 6 (.int .i64 y.time) rfl) 7 (.string y.user) rfl) 8 (.string y.group) rfl) 9 (.string y.body) rfl)
theorem below_putE {w w' : World} {B g : Nat} (h : Below B w w') (hg : B ≤ g) (y : Ent) : Below B w (putE w' g y) := ((((((((((h.setCell (p := ⟨g, 0, none⟩) hg _).setCell (p := ⟨g, 1, none⟩) hg _).setCell (p := ⟨g, 2, none⟩) hg _).setCell (p := ⟨g, 3, none⟩) hg _).setCell (p := ⟨g, 4, none⟩) hg _).setCell (p := ⟨g, 5, none⟩) hg _).setCell (p := ⟨g, 6, none⟩) hg _).setCell (p := ⟨g, 7, none⟩) hg _).setCell (p := ⟨g, 8, none⟩) hg _).setCell (p := ⟨g, 9, none⟩) hg _)
theorem putE_other {w : World} {b g : Nat} {y : Ent} (hne : b ≠ g) : (putE w g y).heap[b]? = w.heap[b]? := by
  unfold putE
  repeat rw [Below.heap_setCell _ _ _ b (fun e => hne e)]
theorem grown_reflO (w : World) (row : Option Nat) : w.grownBy w row := ⟨rfl, rfl, rfl, Nat.le_refl _, fun _ _ _ => rfl⟩
theorem grown_setO {w w' : World} {g : Nat} (h : w.grownBy w' (some g)) (o : Nat) (v : Value) : w.grownBy (w'.setCell ⟨g, o, none⟩ v) (some g) :=
  ⟨h.os, h.tape, h.output, by simpa using h.size, fun k hk hne => (Below.heap_setCell w' _ v k (fun e => hne (by rw [e]))).trans (h.block k hk hne)⟩
theorem grown_putE (w : World) (g : Nat) (y : Ent) : w.grownBy (putE w g y) (some g) := (grown_setO (grown_setO (grown_setO (grown_setO (grown_setO (grown_setO (grown_setO (grown_setO (grown_setO (grown_setO (grown_reflO w (some g)) 0 _) 1 _) 2 _) 3 _) 4 _) 5 _) 6 _) 7 _) 8 _) 9 _)
theorem Tryz.sizeEntO : (Tryz.prog.info? 41).map (·.size) = some 10 := by kernel_rfl
theorem res_ent2 {fn : Func} {p u : Tmp} (h : fn.results = #[.cell p 41, .tmp u]) (tmps : Array Value) {w : World} {g : Nat} {e : Ent}
    (hp : tmps.getD p undef = .pointer (some ⟨g, 0, none⟩)) (hg : EntO w g e) :
    (results fn tmps).run Tryz.prog w = .ok (.tuple #[.agg e.cells.toArray, tmps.getD u undef]) w := by
  rw [results_cell_tmp h, hp]
  simp [asAddr, run_loadVar_row w g 41 41 e.cells.toArray (0, 0) _ hg Tryz.underlying41 rfl (by rw [Tryz.sizeEntO]; rfl), Result.andThen]
theorem res_ent1 {fn : Func} {p : Tmp} (h : fn.results = #[.cell p 41]) (tmps : Array Value) {w : World} {g : Nat} {e : Ent}
    (hp : tmps.getD p undef = .pointer (some ⟨g, 0, none⟩)) (hg : EntO w g e) :
    (results fn tmps).run Tryz.prog w = .ok (.agg e.cells.toArray) w :=
  results_cell_row h _ _ g _ e.cells.toArray (0, 0) _ hp hg Tryz.underlying41 rfl (by rw [Tryz.sizeEntO]; rfl)
end Go.Proofs.YtancidbbkoeokaaGreat
