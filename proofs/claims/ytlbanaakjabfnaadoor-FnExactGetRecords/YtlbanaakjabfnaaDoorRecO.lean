/- A record in a block of its own that may be written; a result that lies in one. -/
import Derived.Test.YtlbanaakjabfnaaDoorRecL
import Derived.Laws.ResultCell
import Derived.Laws.Rows
import Derived.Laws.Tables
namespace Go.Proofs.YtlbanaakjabfnaaDoor
open Go.ChangeShapes Go.WideShapes Go.ChangeAt Go.RowKit Go.Deep

def RecO (w : World) (g : Nat) (k v : ByteArray) : Prop := w.heap[g]? = some (.cells #[.string k, .string v] 26 (0, 0))
theorem RecO.new (w : World) (k v : ByteArray) : RecO (w.alloc (.cells #[.string k, .string v] 26)) w.heap.size k v := by
  show (w.heap.push _)[w.heap.size]? = _
  simp
theorem RecO.below {w w' : World} {g B : Nat} {k v : ByteArray} (h : RecO w g k v) (hb : Below B w w') (hg : g < B) : RecO w' g k v := (hb.block g hg).trans h
theorem RecO.lt {w : World} {g : Nat} {k v : ByteArray} (h : RecO w g k v) : g < w.heap.size := (Array.getElem?_eq_some_iff.1 h).1
theorem RecO.cells {w : World} {g : Nat} {k v : ByteArray} (h : RecO w g k v) : w.cell? ⟨g, 0, none⟩ = some (.string k) ∧ w.cell? ⟨g, 1, none⟩ = some (.string v) ∧ w.frozen? ⟨g, 0, none⟩ = false ∧ w.frozen? ⟨g, 1, none⟩ = false := by
  unfold RecO at h
  simp [World.cell?, World.frozen?, h]
theorem RecO.put {w : World} {g : Nat} {k v : ByteArray} (h : RecO w g k v) (x y : ByteArray) : RecO ((w.setCell ⟨g, 0, none⟩ (.string x)).setCell ⟨g, 1, none⟩ (.string y)) g x y := by
  have hlt := h.lt
  unfold RecO at h ⊢
  have hg : w.heap[g] = .cells #[.string k, .string v] 26 (0, 0) := (Array.getElem?_eq_some_iff.1 h).2
  simp [World.setCell, hlt, Array.getElem_modify, hg]
theorem below_two {w w' : World} {B g : Nat} (h : Below B w w') (hg : B ≤ g) (x y : Value) : Below B w ((w'.setCell ⟨g, 0, none⟩ x).setCell ⟨g, 1, none⟩ y) :=
  (h.setCell (p := ⟨g, 0, none⟩) hg _).setCell (p := ⟨g, 1, none⟩) hg _
theorem two_other {w : World} {g b : Nat} (h : b ≠ g) (x y : Value) : ((w.setCell ⟨g, 0, none⟩ x).setCell ⟨g, 1, none⟩ y).heap[b]? = w.heap[b]? := by
  rw [Below.heap_setCell _ _ _ b (fun e => h e), Below.heap_setCell _ _ _ b (fun e => h e)]
theorem Tryd.sizeRec : (Tryd.prog.info? 26).map (·.size) = some 2 := by kernel_rfl
theorem res_rec2 {fn : Func} {p u : Tmp} (h : fn.results = #[.cell p 26, .tmp u]) (tmps : Array Value) {w : World} {g : Nat} {k v : ByteArray}
    (hp : tmps.getD p undef = .pointer (some ⟨g, 0, none⟩)) (hg : RecO w g k v) :
    (results fn tmps).run Tryd.prog w = .ok (.tuple #[.agg #[.string k, .string v], tmps.getD u undef]) w := by
  rw [results_cell_tmp h, hp]
  simp [asAddr, run_loadVar_row w g 26 26 #[.string k, .string v] (0, 0) _ hg Tryd.underlying26 rfl (by rw [Tryd.sizeRec]; rfl), Result.andThen]
end Go.Proofs.YtlbanaakjabfnaaDoor
