/- Slices of Card: laws.toCardS, laws.szCardS; rows of them in memory as lists (RowC, OwnC). -/
import Derived.Test.YtancidbbkoeokaaGreatCardA
import Derived.OwnWalk
import Derived.Maps.AppendAt
namespace Go.Proofs.YtancidbbkoeokaaGreat
open Go.ChangeShapes Go.WideShapes Go.ChangeAt Go.RowKit Go.Deep

theorem Tryz.infoC : (Tryz.prog.info? 44).map (fun i => (i.zero, i.size, i.bytes)) = some (some (.agg #[.int .i64 0, .int .i64 0, .int .i64 0, .int .i64 0, .int .i64 0, .int .i64 0, .string ⟨#[]⟩, .string ⟨#[]⟩]), 8, 80) := by kernel_rfl
theorem atC {w : World} {x : Addr} {n : Nat} {e : Card} (h : ∀ j, j < 8 → w.cell? (x.add (n + j)) = e.cells[j]?) : w.cell? (x.add n) = some (.int .i64 e.Ino) ∧ w.cell? ⟨(x.add n).block, (x.add n).off + 1, none⟩ = some (.int .i64 e.Mode) ∧ w.cell? ⟨(x.add n).block, (x.add n).off + 2, none⟩ = some (.int .i64 e.Uid) ∧ w.cell? ⟨(x.add n).block, (x.add n).off + 3, none⟩ = some (.int .i64 e.Gid) ∧ w.cell? ⟨(x.add n).block, (x.add n).off + 4, none⟩ = some (.int .i64 e.Count) ∧ w.cell? ⟨(x.add n).block, (x.add n).off + 5, none⟩ = some (.int .i64 e.Time) ∧ w.cell? ⟨(x.add n).block, (x.add n).off + 6, none⟩ = some (.string e.Path) ∧ w.cell? ⟨(x.add n).block, (x.add n).off + 7, none⟩ = some (.string e.Data) := by
  refine ⟨h 0 (by omega), ?_, ?_, ?_, ?_, ?_, ?_, ?_⟩
  · exact (congrArg w.cell? (add_add x n 1)).trans (h 1 (by omega))
  · exact (congrArg w.cell? (add_add x n 2)).trans (h 2 (by omega))
  · exact (congrArg w.cell? (add_add x n 3)).trans (h 3 (by omega))
  · exact (congrArg w.cell? (add_add x n 4)).trans (h 4 (by omega))
  · exact (congrArg w.cell? (add_add x n 5)).trans (h 5 (by omega))
  · exact (congrArg w.cell? (add_add x n 6)).trans (h 6 (by omega))
  · exact (congrArg w.cell? (add_add x n 7)).trans (h 7 (by omega))
def zeroC : Card := ⟨0, 0, 0, 0, 0, 0, ⟨#[]⟩, ⟨#[]⟩⟩
def setC (ys : List Value) (o : Nat) (e : Card) : List Value := ((((((((ys.set o (.int .i64 e.Ino)).set (o + 1) (.int .i64 e.Mode)).set (o + 2) (.int .i64 e.Uid)).set (o + 3) (.int .i64 e.Gid)).set (o + 4) (.int .i64 e.Count)).set (o + 5) (.int .i64 e.Time)).set (o + 6) (.string e.Path)).set (o + 7) (.string e.Data))
def FillC (ys : List Value) (n : Nat) (E : Nat → Card) : Prop := ∀ k, k < n → ∀ j, j < 8 → ys[k * 8 + j]? = (E k).cells[j]?
theorem setC_in (ys : List Value) (o : Nat) (e : Card) (h : o + 8 ≤ ys.length) (j : Nat) (hj : j < 8) : (setC ys o e)[o + j]? = e.cells[j]? := by
  match j, hj with
  | 0, _ => simp [setC, Card.cells, List.getElem?_set]; try omega
  | 1, _ => simp [setC, Card.cells, List.getElem?_set]; try omega
  | 2, _ => simp [setC, Card.cells, List.getElem?_set]; try omega
  | 3, _ => simp [setC, Card.cells, List.getElem?_set]; try omega
  | 4, _ => simp [setC, Card.cells, List.getElem?_set]; try omega
  | 5, _ => simp [setC, Card.cells, List.getElem?_set]; try omega
  | 6, _ => simp [setC, Card.cells, List.getElem?_set]; try omega
  | 7, _ => simp [setC, Card.cells, List.getElem?_set]; try omega
theorem setC_out (ys : List Value) (o : Nat) (e : Card) (m : Nat) (hm : m < o) : (setC ys o e)[m]? = ys[m]? := by
  simp only [setC]
  rw [List.getElem?_set_ne (by omega), List.getElem?_set_ne (by omega), List.getElem?_set_ne (by omega), List.getElem?_set_ne (by omega), List.getElem?_set_ne (by omega), List.getElem?_set_ne (by omega), List.getElem?_set_ne (by omega), List.getElem?_set_ne (by omega)]
theorem FillC.step {ys : List Value} {i : Nat} {E : Nat → Card} (h : FillC ys i E) (hl : i * 8 + 8 ≤ ys.length) : FillC (setC ys (i * 8) (E i)) (i + 1) E := by
  intro k hk j hj
  by_cases e : k = i
  · subst e; exact setC_in ys _ _ hl j hj
  · rw [setC_out _ _ _ _ (by omega)]; exact h k (by omega) j hj
def putC (w : World) (g o : Nat) (e : Card) : World := ((((((((w.setCell ⟨g, o, none⟩ (.int .i64 e.Ino)).setCell ⟨g, o + 1, none⟩ (.int .i64 e.Mode)).setCell ⟨g, o + 2, none⟩ (.int .i64 e.Uid)).setCell ⟨g, o + 3, none⟩ (.int .i64 e.Gid)).setCell ⟨g, o + 4, none⟩ (.int .i64 e.Count)).setCell ⟨g, o + 5, none⟩ (.int .i64 e.Time)).setCell ⟨g, o + 6, none⟩ (.string e.Path)).setCell ⟨g, o + 7, none⟩ (.string e.Data))
theorem own_putC {w : World} {base g n cap : Nat} {ty : TypeId} {ys : List Value} (h : w.ownsRow base ty 8 (.slice (some ⟨g, 0, none⟩) n cap) n ys) (o : Nat) (e : Card) : (putC w g o e).ownsRow base ty 8 (.slice (some ⟨g, 0, none⟩) n cap) n (setC ys o e) :=
  (World.ownsRow.stored (World.ownsRow.stored (World.ownsRow.stored (World.ownsRow.stored (World.ownsRow.stored (World.ownsRow.stored (World.ownsRow.stored (World.ownsRow.stored h o _).1 (o + 1) _).1 (o + 2) _).1 (o + 3) _).1 (o + 4) _).1 (o + 5) _).1 (o + 6) _).1 (o + 7) _).1
theorem below_putC {w w' : World} {B g : Nat} (h : Below B w w') (hg : B ≤ g) (o : Nat) (e : Card) : Below B w (putC w' g o e) :=
  ((((((((h.setCell (p := ⟨g, o, none⟩) hg _).setCell (p := ⟨g, o + 1, none⟩) hg _).setCell (p := ⟨g, o + 2, none⟩) hg _).setCell (p := ⟨g, o + 3, none⟩) hg _).setCell (p := ⟨g, o + 4, none⟩) hg _).setCell (p := ⟨g, o + 5, none⟩) hg _).setCell (p := ⟨g, o + 6, none⟩) hg _).setCell (p := ⟨g, o + 7, none⟩) hg _)
theorem own_cellC {w : World} {base g n cap : Nat} {e : TypeId} {ys : List Value} (h : w.ownsRow base e 8 (.slice (some ⟨g, 0, none⟩) n cap) n ys) {i : Nat} (hi : i < n) (j : Nat) (hj : j < 8) : ∃ y, w.cell? ⟨g, i * 8 + j, none⟩ = some y := by
  rcases h.2 with ⟨h', _⟩ | ⟨g', cap', cur, h', _, hg, hnc, _, hcs, _⟩
  · simp at h'
  · simp only [Value.slice.injEq, Option.some.injEq, Addr.mk.injEq, and_true, true_and] at h'
    obtain ⟨rfl, rfl⟩ := h'
    have hlt : i * 8 + j < cur.size := by omega
    exact ⟨cur[i * 8 + j], by simp [World.cell?, hg, Array.getElem?_eq_getElem hlt]⟩
theorem cell_blkC {w : World} {a : Addr} {v : Value} (h : w.cell? a = some v) : a.block < w.heap.size := by
  by_cases hb : a.block < w.heap.size
  · exact hb
  · exfalso
    unfold World.cell? at h
    rw [Array.getElem?_eq_none (by omega)] at h
    cases a.spot <;> simp_all
/-- The letters of its texts. -/
def szC (e : Card) : Nat := e.Path.size + e.Data.size
def totCf (E : Nat → Card) : Nat → Nat
  | 0 => 0
  | n + 1 => totCf E n + szC (E n)
theorem szvC_eq (x0 : Int) (x1 : Int) (x2 : Int) (x3 : Int) (x4 : Int) (x5 : Int) (x6 : ByteArray) (x7 : ByteArray) (left : Int) : szvC x6 x7 left = if left < (szC ⟨x0, x1, x2, x3, x4, x5, x6, x7⟩ : Int) then -1 else left - (szC ⟨x0, x1, x2, x3, x4, x5, x6, x7⟩ : Int) := by
  have : (szC ⟨x0, x1, x2, x3, x4, x5, x6, x7⟩ : Int) = (x6.size : Int) + (x7.size : Int) := by simp [szC]
  rw [this]; rfl
def SzSC (E : Nat → Card) (len : Nat) (left : Int) (w : World) (e : Ending) (w' : World) : Prop :=
  (∃ r : Int, e = .returned (.int .i64 r) ∧ (r = -1 ∨ 0 ≤ r ∧ (len : Int) + totCf E len + r = left)) ∧ Below w.heap.size w w'
def valsC (L : List Card) : List Value := L.flatMap Card.cells
theorem cells_lenC (e : Card) : e.cells.length = 8 := rfl
theorem valsC_len (L : List Card) : (valsC L).length = L.length * 8 := by
  induction L with
  | nil => rfl
  | cons e L ih => simp only [valsC, List.flatMap_cons, List.length_append, cells_lenC, List.length_cons] at ih ⊢; omega
theorem valsC_app (L M : List Card) : valsC (L ++ M) = valsC L ++ valsC M := by simp [valsC]
theorem valsC_one (e : Card) : valsC [e] = e.cells := by simp [valsC]
theorem valsC_get (L : List Card) (i j : Nat) (hj : j < 8) : (valsC L)[i * 8 + j]? = L[i]?.bind (fun e => e.cells[j]?) := by
  induction L generalizing i with
  | nil => simp [valsC]
  | cons e L ih =>
    simp only [valsC, List.flatMap_cons] at ih ⊢
    cases i with
    | zero =>
      rw [List.getElem?_append_left (by rw [cells_lenC]; omega)]
      simp
    | succ i =>
      rw [List.getElem?_append_right (by rw [cells_lenC]; omega), cells_lenC, show (i + 1) * 8 + j - 8 = i * 8 + j from by omega, ih]
      simp
theorem valsC_onecell (L : List Card) : ∀ u ∈ valsC L, u.oneCell' = true := by
  intro u hu
  simp only [valsC, List.mem_flatMap] at hu
  obtain ⟨e, _, he⟩ := hu
  simp only [Card.cells, List.mem_cons, List.not_mem_nil, or_false] at he
  rcases he with rfl | rfl | rfl | rfl | rfl | rfl | rfl | rfl <;> rfl
/-- The cells of block g, from its first on, are the list. -/
def RowC (w : World) (g : Nat) (L : List Card) : Prop := ∀ k u, (valsC L)[k]? = some u → w.cell? ⟨g, k, none⟩ = some u
theorem RowC.below {w w' : World} {g B : Nat} {L : List Card} (h : RowC w g L) (hb : Below B w w') (hg : g < B) : RowC w' g L :=
  fun k u hu => (hb.cell (p := ⟨g, k, none⟩) hg).trans (h k u hu)
theorem RowC.grown {w w' : World} {g : Nat} {row : Option Nat} {L : List Card} (h : RowC w g L) (hb : w.grownBy w' row) (hg : some g ≠ row) : RowC w' g L :=
  fun k u hu => hb.cell (h k u hu) hg
theorem RowC.cols {w : World} {g : Nat} {L : List Card} (h : RowC w g L) {i : Nat} {e : Card} (hi : L[i]? = some e) : w.cell? ⟨g, i * 8, none⟩ = some (.int .i64 e.Ino) ∧ w.cell? ⟨g, i * 8 + 1, none⟩ = some (.int .i64 e.Mode) ∧ w.cell? ⟨g, i * 8 + 2, none⟩ = some (.int .i64 e.Uid) ∧ w.cell? ⟨g, i * 8 + 3, none⟩ = some (.int .i64 e.Gid) ∧ w.cell? ⟨g, i * 8 + 4, none⟩ = some (.int .i64 e.Count) ∧ w.cell? ⟨g, i * 8 + 5, none⟩ = some (.int .i64 e.Time) ∧ w.cell? ⟨g, i * 8 + 6, none⟩ = some (.string e.Path) ∧ w.cell? ⟨g, i * 8 + 7, none⟩ = some (.string e.Data) := by
  have H : ∀ j u, j < 8 → e.cells[j]? = some u → w.cell? ⟨g, i * 8 + j, none⟩ = some u := fun j u hj hu => h _ u (by rw [valsC_get _ _ _ hj, hi]; exact hu)
  exact ⟨H 0 _ (by omega) rfl, H 1 _ (by omega) rfl, H 2 _ (by omega) rfl, H 3 _ (by omega) rfl, H 4 _ (by omega) rfl, H 5 _ (by omega) rfl, H 6 _ (by omega) rfl, H 7 _ (by omega) rfl⟩
/-- A row of the call's own that is not nil. -/
def OwnC (w : World) (base : Nat) (v : Value) (L : List Card) : Prop := w.ownsRow base 44 8 v L.length (valsC L) ∧ ∃ g cap, v = .slice (some ⟨g, 0, none⟩) L.length cap
theorem OwnC.row {w : World} {base g n cap : Nat} {L : List Card} (h : OwnC w base (.slice (some ⟨g, 0, none⟩) n cap) L) : RowC w g L ∧ g < w.heap.size ∧ base ≤ g ∧ n = L.length := by
  refine ⟨fun k u hu => ?_, (World.ownsRow.lt h.1 g rfl).2, (World.ownsRow.lt h.1 g rfl).1, ?_⟩
  · have := World.ownsRow.cells h.1 (g := g) rfl k u hu
    rwa [show (⟨g, 0, none⟩ : Addr).add k = ⟨g, k, none⟩ from by unfold Addr.add; split <;> simp_all] at this
  · obtain ⟨g', cap', e⟩ := h.2
    simp at e
    exact e.2.1
theorem OwnC.open {w : World} {base : Nat} {v : Value} {L : List Card} (h : OwnC w base v L) : ∃ g cap, v = .slice (some ⟨g, 0, none⟩) L.length cap ∧ RowC w g L ∧ g < w.heap.size ∧ base ≤ g ∧ w.ownsRow base 44 8 (.slice (some ⟨g, 0, none⟩) L.length cap) L.length (valsC L) := by
  obtain ⟨ho, g, cap, rfl⟩ := h
  have hr := OwnC.row (w := w) ⟨ho, g, cap, rfl⟩
  exact ⟨g, cap, rfl, hr.1, hr.2.1, hr.2.2.1, ho⟩
theorem OwnC.keep {w w' : World} {base : Nat} {v : Value} {L : List Card} (h : OwnC w base v L) (hb : Below w.heap.size w w') : OwnC w' base v L := by
  obtain ⟨ho, g, cap, rfl⟩ := h
  exact ⟨World.ownsRow.kept ho (w' := w') (row := none) ⟨hb.os, hb.tape, hb.output, hb.size, fun k hk _ => hb.block k hk⟩ (.inr (by simp [Value.ownBlock])), g, cap, rfl⟩
theorem OwnC.kept {w w' : World} {base g n cap : Nat} {row : Option Nat} {L : List Card} (h : OwnC w base (.slice (some ⟨g, 0, none⟩) n cap) L) (hb : w.grownBy w' row) (hg : some g ≠ row) : OwnC w' base (.slice (some ⟨g, 0, none⟩) n cap) L :=
  ⟨World.ownsRow.kept h.1 hb (.inr (by simpa [Value.ownBlock] using hg)), h.2⟩
theorem OwnC.weak {w : World} {base base' : Nat} {v : Value} {L : List Card} (h : OwnC w base v L) (hb : base' ≤ base) : OwnC w base' v L := by
  refine ⟨⟨h.1.1, ?_⟩, h.2⟩
  rcases h.1.2 with h' | ⟨g', cap', cur, h', hx, rest⟩
  · exact .inl h'
  · exact .inr ⟨g', cap', cur, h', Nat.le_trans hb hx, rest⟩
theorem OwnC.lit {w : World} {base : Nat} (hb : base ≤ w.heap.size) : OwnC (w.alloc (.cells #[] 44)) base (.slice (some ⟨w.heap.size, 0, none⟩) 0 0) [] :=
  ⟨World.ownsRow_lit w #[] 0 hb (by simp) rfl, _, _, rfl⟩
theorem own_appC {w1 : World} {base : Nat} {v' : Value} {D M : List Card} {n m : Nat} (h : w1.ownsRow base 44 8 v' (n + m) (valsC D ++ valsC M)) (hn : n = D.length) (hm : m = M.length) (hnil : ¬ v' = .slice none 0 0) : OwnC w1 base v' (D ++ M) := by
  subst hn; subst hm
  rw [← valsC_app, show D.length + M.length = (D ++ M).length from by simp] at h
  refine ⟨h, ?_⟩
  obtain ⟨_, ⟨rfl, _⟩ | ⟨g', cap', cur, rfl, _⟩⟩ := h
  · exact absurd rfl hnil
  · exact ⟨g', cap', rfl⟩
theorem RowC.news0 {w : World} {g : Nat} {L : List Card} (h : RowC w g L) : ∀ j u, (valsC L)[j]? = some u → w.cell? ((⟨g, 0, none⟩ : Addr).add j) = some u := by
  intro j u hu
  rw [show (⟨g, 0, none⟩ : Addr).add j = ⟨g, j, none⟩ from by unfold Addr.add; split <;> simp_all]
  exact h _ u hu
theorem newC (w : World) (e : Card) (t : TypeId) : ∀ j u, (valsC [e])[j]? = some u → (w.alloc (.cells e.cells.toArray t)).cell? ((⟨w.heap.size, 0, none⟩ : Addr).add j) = some u := by
  intro j u hu
  rw [valsC_one] at hu
  have hj : j < 8 := by
    by_cases h : j < 8
    · exact h
    · rw [List.getElem?_eq_none (by rw [cells_lenC]; omega)] at hu; cases hu
  rw [show (⟨w.heap.size, 0, none⟩ : Addr).add j = ⟨w.heap.size, 0 + j, none⟩ from by unfold Addr.add; split <;> simp_all, CardAt.new w e t j hj]
  exact hu
theorem fillC_vals {ys : List Value} {n : Nat} {E : Nat → Card} (h : FillC ys n E) (hl : ys.length = n * 8) : ys = valsC ((List.range n).map E) := by
  apply List.ext_getElem?
  intro k
  by_cases hk : k < n * 8
  · have h1 := h (k / 8) (by omega) (k % 8) (by omega)
    have h2 := valsC_get ((List.range n).map E) (k / 8) (k % 8) (by omega)
    rw [show k / 8 * 8 + k % 8 = k from by omega] at h1 h2
    rw [h1, h2, List.getElem?_map, List.getElem?_range (by omega)]
    rfl
  · rw [List.getElem?_eq_none (by omega), List.getElem?_eq_none (by rw [valsC_len]; simp; omega)]
theorem range_takeC {es : List Card} {n : Nat} (h : n ≤ es.length) : (List.range n).map (fun i => es.getD i zeroC) = es.take n := by
  apply List.ext_getElem?
  intro k
  by_cases hk : k < n
  · rw [List.getElem?_map, List.getElem?_range hk, List.getElem?_take, if_pos hk]
    simp [List.getD, List.getElem?_eq_getElem (show k < es.length by omega)]
  · rw [List.getElem?_eq_none (by simp; omega), List.getElem?_take, if_neg hk]
theorem IsRowC.le {w : World} {a : Option Addr} {len cap : Nat} {es : List Card} (h : IsRowC w a len cap es) : len ≤ es.length := by
  rcases h with ⟨_, rfl, _, rfl⟩ | ⟨x, _, hl, _, hn, _⟩
  · simp
  · omega
theorem IsRowC.take_len {w : World} {a : Option Addr} {len cap : Nat} {es : List Card} (h : IsRowC w a len cap es) : (es.take len).length = len := by
  have := h.le
  simp; omega
theorem IsRowC.below {w w' : World} {a : Option Addr} {len cap : Nat} {es : List Card} (h : IsRowC w a len cap es) (hb : Below w.heap.size w w') : IsRowC w' a len cap es := by
  rcases h with h | ⟨x, hx, hl, hm, hn, hc⟩
  · exact .inl h
  · refine .inr ⟨x, hx, hl, hm, hn, fun i hi => ⟨fun j hj => ?_, (hc i hi).2⟩⟩
    have h1 := (hc i hi).1 j hj
    have hsome : ∃ v, w.cell? (x.add (i * 8 + j)) = some v := by
      rw [h1]
      exact ⟨_, List.getElem?_eq_getElem (by show j < 8; exact hj)⟩
    obtain ⟨v, hv⟩ := hsome
    exact (hb.cell (cell_blkC hv)).trans h1
/-- The letters of a list of them. -/
def totC (L : List Card) : Nat := (L.map szC).sum
theorem totC_take (es : List Card) (n : Nat) (h : n ≤ es.length) : totCf (fun i => es.getD i zeroC) n = totC (es.take n) := by
  induction n with
  | zero => simp [totCf, totC]
  | succ n ih =>
    have ht : es.take (n + 1) = es.take n ++ [es[n]'(by omega)] := by rw [List.take_add_one, List.getElem?_eq_getElem (show n < es.length by omega)]; rfl
    rw [totCf, ih (by omega), ht]
    have hx : es.getD n zeroC = es[n]'(by omega) := by simp [List.getD, List.getElem?_eq_getElem (show n < es.length by omega)]
    simp only [totC, List.map_append, List.sum_append, List.map_cons, List.map_nil, List.sum_cons, List.sum_nil, Nat.add_zero, hx]
theorem totC_mem {L : List Card} {e : Card} (h : e ∈ L) : szC e ≤ totC L := by
  induction L with
  | nil => cases h
  | cons f L ih =>
    rcases List.mem_cons.1 h with rfl | h
    · simp [totC]
    · have := ih h
      simp [totC] at this ⊢
      omega
theorem sz_factsC {w : World} {a : Option Addr} {len cap : Nat} {es : List Card} (h : IsRowC w a len cap es) {left r : Int} (hr : r = -1 ∨ 0 ≤ r ∧ (len : Int) + totCf (fun i => es.getD i zeroC) len + r = left) (h0 : 0 ≤ r) : (len : Int) + totC (es.take len) + r = left := by
  rcases hr with rfl | ⟨_, h1⟩
  · omega
  · rw [totC_take _ _ h.le] at h1; exact h1
end Go.Proofs.YtancidbbkoeokaaGreat
