/- Contract of laws.toEntryS. -/
import Derived.Test.YtancidbbkoeokaaEntRow
import Derived.OwnWalk
namespace Go.Proofs.Ytancidbbkoeokaa
open Go.ChangeShapes Go.WideShapes Go.ChangeAt Go.RowKit Go.Deep

theorem Try.infoE : (Try.prog.info? 26).map (fun i => (i.zero, i.size, i.bytes)) = some (some (.agg #[.int .i64 0, .string ⟨#[]⟩, .string ⟨#[]⟩, .int .i64 0, .int .i64 0, .int .i64 0, .int .i64 0, .string ⟨#[]⟩, .string ⟨#[]⟩, .string ⟨#[]⟩]), 10, 120) := by kernel_rfl
/-- The ten cells of an entry, as a load of it asks for them. -/
theorem ten_at {w : World} {x : Addr} {n : Nat} {e : Ent} (h : ∀ j, j < 10 → w.cell? (x.add (n + j)) = e.cells[j]?) : w.cell? (x.add n) = some (.int .i64 e.kind) ∧ w.cell? ⟨(x.add n).block, (x.add n).off + 1, none⟩ = some (.string e.path) ∧ w.cell? ⟨(x.add n).block, (x.add n).off + 2, none⟩ = some (.string e.link) ∧ w.cell? ⟨(x.add n).block, (x.add n).off + 3, none⟩ = some (.int .i64 e.mode) ∧ w.cell? ⟨(x.add n).block, (x.add n).off + 4, none⟩ = some (.int .i64 e.uid) ∧ w.cell? ⟨(x.add n).block, (x.add n).off + 5, none⟩ = some (.int .i64 e.gid) ∧ w.cell? ⟨(x.add n).block, (x.add n).off + 6, none⟩ = some (.int .i64 e.time) ∧ w.cell? ⟨(x.add n).block, (x.add n).off + 7, none⟩ = some (.string e.user) ∧ w.cell? ⟨(x.add n).block, (x.add n).off + 8, none⟩ = some (.string e.group) ∧ w.cell? ⟨(x.add n).block, (x.add n).off + 9, none⟩ = some (.string e.body) := by
  refine ⟨h 0 (by omega), ?_, ?_, ?_, ?_, ?_, ?_, ?_, ?_, ?_⟩
  · exact (congrArg w.cell? (add_add x n 1)).trans (h 1 (by omega))
  · exact (congrArg w.cell? (add_add x n 2)).trans (h 2 (by omega))
  · exact (congrArg w.cell? (add_add x n 3)).trans (h 3 (by omega))
  · exact (congrArg w.cell? (add_add x n 4)).trans (h 4 (by omega))
  · exact (congrArg w.cell? (add_add x n 5)).trans (h 5 (by omega))
  · exact (congrArg w.cell? (add_add x n 6)).trans (h 6 (by omega))
  · exact (congrArg w.cell? (add_add x n 7)).trans (h 7 (by omega))
  · exact (congrArg w.cell? (add_add x n 8)).trans (h 8 (by omega))
  · exact (congrArg w.cell? (add_add x n 9)).trans (h 9 (by omega))
def entD : Ent := ⟨0, ⟨#[]⟩, ⟨#[]⟩, 0, 0, 0, 0, ⟨#[]⟩, ⟨#[]⟩, ⟨#[]⟩⟩
def set10 (ys : List Value) (o : Nat) (e : Ent) : List Value := (((((((((ys.set o (.int .i64 e.kind)).set (o + 1) (.string e.path)).set (o + 2) (.string e.link)).set (o + 3) (.int .i64 e.mode)).set (o + 4) (.int .i64 e.uid)).set (o + 5) (.int .i64 e.gid)).set (o + 6) (.int .i64 e.time)).set (o + 7) (.string e.user)).set (o + 8) (.string e.group)).set (o + 9) (.string e.body)
/-- The first n entries of a row stand in its cells. -/
def FillE (ys : List Value) (n : Nat) (E : Nat → Ent) : Prop := ∀ k, k < n → ∀ j, j < 10 → ys[k * 10 + j]? = (E k).cells[j]?
theorem set10_in (ys : List Value) (o : Nat) (e : Ent) (h : o + 10 ≤ ys.length) (j : Nat) (hj : j < 10) : (set10 ys o e)[o + j]? = e.cells[j]? := by
  match j, hj with
  | 0, _ => simp [set10, Ent.cells, List.getElem?_set]; try omega
  | 1, _ => simp [set10, Ent.cells, List.getElem?_set]; try omega
  | 2, _ => simp [set10, Ent.cells, List.getElem?_set]; try omega
  | 3, _ => simp [set10, Ent.cells, List.getElem?_set]; try omega
  | 4, _ => simp [set10, Ent.cells, List.getElem?_set]; try omega
  | 5, _ => simp [set10, Ent.cells, List.getElem?_set]; try omega
  | 6, _ => simp [set10, Ent.cells, List.getElem?_set]; try omega
  | 7, _ => simp [set10, Ent.cells, List.getElem?_set]; try omega
  | 8, _ => simp [set10, Ent.cells, List.getElem?_set]; try omega
  | 9, _ => simp [set10, Ent.cells, List.getElem?_set]; try omega
theorem set10_out (ys : List Value) (o : Nat) (e : Ent) (m : Nat) (hm : m < o) : (set10 ys o e)[m]? = ys[m]? := by
  simp only [set10]
  rw [List.getElem?_set_ne (by omega), List.getElem?_set_ne (by omega), List.getElem?_set_ne (by omega), List.getElem?_set_ne (by omega), List.getElem?_set_ne (by omega), List.getElem?_set_ne (by omega), List.getElem?_set_ne (by omega), List.getElem?_set_ne (by omega), List.getElem?_set_ne (by omega), List.getElem?_set_ne (by omega)]
theorem FillE.step {ys : List Value} {i : Nat} {E : Nat → Ent} (h : FillE ys i E) (hl : i * 10 + 10 ≤ ys.length) : FillE (set10 ys (i * 10) (E i)) (i + 1) E := by
  intro k hk j hj
  by_cases e : k = i
  · subst e; exact set10_in ys _ _ hl j hj
  · rw [set10_out _ _ _ _ (by omega)]; exact h k (by omega) j hj
def setEnt (w : World) (g o : Nat) (e : Ent) : World := ((((((((((w).setCell ⟨g, o, none⟩ (.int .i64 e.kind)).setCell ⟨g, o + 1, none⟩ (.string e.path)).setCell ⟨g, o + 2, none⟩ (.string e.link)).setCell ⟨g, o + 3, none⟩ (.int .i64 e.mode)).setCell ⟨g, o + 4, none⟩ (.int .i64 e.uid)).setCell ⟨g, o + 5, none⟩ (.int .i64 e.gid)).setCell ⟨g, o + 6, none⟩ (.int .i64 e.time)).setCell ⟨g, o + 7, none⟩ (.string e.user)).setCell ⟨g, o + 8, none⟩ (.string e.group)).setCell ⟨g, o + 9, none⟩ (.string e.body)
theorem own_setEnt {w : World} {base g n : Nat} {ty : TypeId} {ys : List Value} (h : w.ownsRow base ty 10 (.slice (some ⟨g, 0, none⟩) n n) n ys) (o : Nat) (e : Ent) : (setEnt w g o e).ownsRow base ty 10 (.slice (some ⟨g, 0, none⟩) n n) n (set10 ys o e) :=
  (World.ownsRow.stored (World.ownsRow.stored (World.ownsRow.stored (World.ownsRow.stored (World.ownsRow.stored (World.ownsRow.stored (World.ownsRow.stored (World.ownsRow.stored (World.ownsRow.stored (World.ownsRow.stored h o _).1 (o + 1) _).1 (o + 2) _).1 (o + 3) _).1 (o + 4) _).1 (o + 5) _).1 (o + 6) _).1 (o + 7) _).1 (o + 8) _).1 (o + 9) _).1
theorem below_setEnt {w w' : World} {B g : Nat} (h : Below B w w') (hg : B ≤ g) (o : Nat) (e : Ent) : Below B w (setEnt w' g o e) :=
  ((((((((((h).setCell (p := ⟨g, o, none⟩) hg _).setCell (p := ⟨g, o + 1, none⟩) hg _).setCell (p := ⟨g, o + 2, none⟩) hg _).setCell (p := ⟨g, o + 3, none⟩) hg _).setCell (p := ⟨g, o + 4, none⟩) hg _).setCell (p := ⟨g, o + 5, none⟩) hg _).setCell (p := ⟨g, o + 6, none⟩) hg _).setCell (p := ⟨g, o + 7, none⟩) hg _).setCell (p := ⟨g, o + 8, none⟩) hg _).setCell (p := ⟨g, o + 9, none⟩) hg _
theorem own_cell {w : World} {base g n : Nat} {e : TypeId} {ys : List Value} (h : w.ownsRow base e 10 (.slice (some ⟨g, 0, none⟩) n n) n ys) {i : Nat} (hi : i < n) (j : Nat) (hj : j < 10) : ∃ y, w.cell? ⟨g, i * 10 + j, none⟩ = some y := by
  rcases h.2 with ⟨h', _⟩ | ⟨g', cap', cur, h', _, hg, _, _, hcs, _⟩
  · simp at h'
  · simp only [Value.slice.injEq, Option.some.injEq, Addr.mk.injEq, and_true, true_and] at h'
    obtain ⟨rfl, rfl⟩ := h'
    have hlt : i * 10 + j < cur.size := by omega
    exact ⟨cur[i * 10 + j], by simp [World.cell?, hg, Array.getElem?_eq_getElem hlt]⟩
theorem cell_blk {w : World} {a : Addr} {v : Value} (h : w.cell? a = some v) : a.block < w.heap.size := by
  by_cases hb : a.block < w.heap.size
  · exact hb
  · exfalso
    unfold World.cell? at h
    rw [Array.getElem?_eq_none (by omega)] at h
    cases a.spot <;> simp_all
end Go.Proofs.Ytancidbbkoeokaa
