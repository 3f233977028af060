/- Rows of entries in memory, as lists: RowE (its cells), OwnE (a row that a call made itself), and laws.toEntryS in these words. -/
import Derived.Test.YtancidbbkoeokaaGreatEntZ
import Derived.Maps.AppendAt
namespace Go.Proofs.YtancidbbkoeokaaGreat
open Go.ChangeShapes Go.WideShapes Go.ChangeAt Go.RowKit Go.Deep

def entVals (L : List Ent) : List Value := L.flatMap Ent.cells
theorem cells_len (e : Ent) : e.cells.length = 10 := rfl
theorem entVals_len (L : List Ent) : (entVals L).length = L.length * 10 := by
  induction L with
  | nil => rfl
  | cons e L ih => simp only [entVals, List.flatMap_cons, List.length_append, cells_len, List.length_cons] at ih ⊢; omega
theorem entVals_app (L M : List Ent) : entVals (L ++ M) = entVals L ++ entVals M := by simp [entVals]
theorem entVals_one (e : Ent) : entVals [e] = e.cells := by simp [entVals]
theorem entVals_nil : entVals [] = [] := rfl
theorem entVals_get (L : List Ent) (i j : Nat) (hj : j < 10) : (entVals L)[i * 10 + j]? = L[i]?.bind (fun e => e.cells[j]?) := by
  induction L generalizing i with
  | nil => simp [entVals]
  | cons e L ih =>
    simp only [entVals, List.flatMap_cons] at ih ⊢
    cases i with
    | zero =>
      rw [List.getElem?_append_left (by rw [cells_len]; omega)]
      simp
    | succ i =>
      rw [List.getElem?_append_right (by rw [cells_len]; omega), cells_len, show (i + 1) * 10 + j - 10 = i * 10 + j from by omega, ih]
      simp
theorem entVals_drop (L : List Ent) (k : Nat) : entVals (L.drop k) = (entVals L).drop (k * 10) := by
  induction L generalizing k with
  | nil => simp [entVals]
  | cons e L ih =>
    cases k with
    | zero => simp
    | succ k =>
      rw [List.drop_succ_cons, ih]
      simp only [entVals, List.flatMap_cons]
      have hc : e.cells.drop ((k + 1) * 10) = [] := List.drop_eq_nil_of_le (by rw [cells_len]; omega)
      rw [List.drop_append, cells_len, show (k + 1) * 10 - 10 = k * 10 from by omega, hc, List.nil_append]
theorem entVals_take (L : List Ent) (k : Nat) : entVals (L.take k) = (entVals L).take (k * 10) := by
  induction L generalizing k with
  | nil => simp [entVals]
  | cons e L ih =>
    cases k with
    | zero => simp [entVals]
    | succ k =>
      rw [List.take_succ_cons]
      have h := ih k
      simp only [entVals, List.flatMap_cons] at h ⊢
      rw [List.take_append, cells_len, show (k + 1) * 10 - 10 = k * 10 from by omega, List.take_of_length_le (l := e.cells) (by rw [cells_len]; omega), h]
theorem entVals_onecell (L : List Ent) : ∀ u ∈ entVals L, u.oneCell' = true := by
  intro u hu
  simp only [entVals, List.mem_flatMap] at hu
  obtain ⟨e, _, he⟩ := hu
  simp only [Ent.cells, List.mem_cons, List.not_mem_nil, or_false] at he
  rcases he with rfl | rfl | rfl | rfl | rfl | rfl | rfl | rfl | rfl | rfl <;> rfl
/-- The cells of block g, from its first on, are the entries L. -/
def RowE (w : World) (g : Nat) (L : List Ent) : Prop := ∀ k u, (entVals L)[k]? = some u → w.cell? ⟨g, k, none⟩ = some u
theorem RowE.below {w w' : World} {g B : Nat} {L : List Ent} (h : RowE w g L) (hb : Below B w w') (hg : g < B) : RowE w' g L :=
  fun k u hu => (hb.cell (p := ⟨g, k, none⟩) hg).trans (h k u hu)
theorem RowE.grown {w w' : World} {g : Nat} {row : Option Nat} {L : List Ent} (h : RowE w g L) (hb : w.grownBy w' row) (hg : some g ≠ row) : RowE w' g L :=
  fun k u hu => hb.cell (h k u hu) hg
theorem RowE.take {w : World} {g : Nat} {L : List Ent} (h : RowE w g L) (k : Nat) : RowE w g (L.take k) := fun j u hu => h j u (by
  rw [entVals_take, List.getElem?_take] at hu
  split at hu
  · exact hu
  · cases hu)
/-- The ten cells of its i-th entry. -/
theorem RowE.ten {w : World} {g : Nat} {L : List Ent} (h : RowE w g L) {i : Nat} {e : Ent} (hi : L[i]? = some e) : w.cell? ⟨g, i * 10, none⟩ = some (.int .i64 e.kind) ∧ w.cell? ⟨g, i * 10 + 1, none⟩ = some (.string e.path) ∧ w.cell? ⟨g, i * 10 + 2, none⟩ = some (.string e.link) ∧ w.cell? ⟨g, i * 10 + 3, none⟩ = some (.int .i64 e.mode) ∧ w.cell? ⟨g, i * 10 + 4, none⟩ = some (.int .i64 e.uid) ∧ w.cell? ⟨g, i * 10 + 5, none⟩ = some (.int .i64 e.gid) ∧ w.cell? ⟨g, i * 10 + 6, none⟩ = some (.int .i64 e.time) ∧ w.cell? ⟨g, i * 10 + 7, none⟩ = some (.string e.user) ∧ w.cell? ⟨g, i * 10 + 8, none⟩ = some (.string e.group) ∧ w.cell? ⟨g, i * 10 + 9, none⟩ = some (.string e.body) := by
  have H : ∀ j u, j < 10 → e.cells[j]? = some u → w.cell? ⟨g, i * 10 + j, none⟩ = some u := fun j u hj hu => h _ u (by rw [entVals_get _ _ _ hj, hi]; exact hu)
  exact ⟨H 0 _ (by omega) rfl, H 1 _ (by omega) rfl, H 2 _ (by omega) rfl, H 3 _ (by omega) rfl, H 4 _ (by omega) rfl, H 5 _ (by omega) rfl, H 6 _ (by omega) rfl, H 7 _ (by omega) rfl, H 8 _ (by omega) rfl, H 9 _ (by omega) rfl⟩
/-- A row of entries of the call's own that is not nil. -/
def OwnE (w : World) (base : Nat) (v : Value) (L : List Ent) : Prop := w.ownsRow base 41 10 v L.length (entVals L) ∧ ∃ g cap, v = .slice (some ⟨g, 0, none⟩) L.length cap
theorem OwnE.row {w : World} {base g n cap : Nat} {L : List Ent} (h : OwnE w base (.slice (some ⟨g, 0, none⟩) n cap) L) : RowE w g L ∧ g < w.heap.size ∧ base ≤ g ∧ n = L.length := by
  refine ⟨fun k u hu => ?_, (World.ownsRow.lt h.1 g rfl).2, (World.ownsRow.lt h.1 g rfl).1, ?_⟩
  · have := World.ownsRow.cells h.1 (g := g) rfl k u hu
    rwa [show (⟨g, 0, none⟩ : Addr).add k = ⟨g, k, none⟩ from by unfold Addr.add; split <;> simp_all] at this
  · obtain ⟨g', cap', e⟩ := h.2
    simp at e
    exact e.2.1
theorem OwnE.keep {w w' : World} {base : Nat} {v : Value} {L : List Ent} (h : OwnE w base v L) (hb : Below w.heap.size w w') : OwnE w' base v L := by
  obtain ⟨ho, g, cap, rfl⟩ := h
  exact ⟨World.ownsRow.kept ho (w' := w') (row := none) ⟨hb.os, hb.tape, hb.output, hb.size, fun k hk _ => hb.block k hk⟩ (.inr (by simp [Value.ownBlock])), g, cap, rfl⟩
theorem OwnE.kept {w w' : World} {base g n cap : Nat} {row : Option Nat} {L : List Ent} (h : OwnE w base (.slice (some ⟨g, 0, none⟩) n cap) L) (hb : w.grownBy w' row) (hg : some g ≠ row) : OwnE w' base (.slice (some ⟨g, 0, none⟩) n cap) L :=
  ⟨World.ownsRow.kept h.1 hb (.inr (by simpa [Value.ownBlock] using hg)), h.2⟩
theorem OwnE.weak {w : World} {base base' : Nat} {v : Value} {L : List Ent} (h : OwnE w base v L) (hb : base' ≤ base) : OwnE w base' v L := by
  refine ⟨⟨h.1.1, ?_⟩, h.2⟩
  rcases h.1.2 with h' | ⟨g', cap', cur, h', hx, rest⟩
  · exact .inl h'
  · exact .inr ⟨g', cap', cur, h', Nat.le_trans hb hx, rest⟩
theorem OwnE.lit {w : World} {base : Nat} (hb : base ≤ w.heap.size) : OwnE (w.alloc (.cells #[] 41)) base (.slice (some ⟨w.heap.size, 0, none⟩) 0 0) [] :=
  ⟨World.ownsRow_lit w #[] 0 hb (by simp) rfl, _, _, rfl⟩
theorem ownE_app {w1 : World} {base : Nat} {v' : Value} {D M : List Ent} {n m : Nat} (h : w1.ownsRow base 41 10 v' (n + m) (entVals D ++ entVals M)) (hn : n = D.length) (hm : m = M.length) (hnil : ¬ v' = .slice none 0 0) : OwnE w1 base v' (D ++ M) := by
  subst hn; subst hm
  rw [← entVals_app, show D.length + M.length = (D ++ M).length from by simp] at h
  refine ⟨h, ?_⟩
  obtain ⟨_, ⟨rfl, _⟩ | ⟨g', cap', cur, rfl, _⟩⟩ := h
  · exact absurd rfl hnil
  · exact ⟨g', cap', rfl⟩
/-- What an append of a part of a row asks for: its cells. -/
theorem RowE.news {w : World} {g : Nat} {L : List Ent} (h : RowE w g L) (k : Nat) : ∀ j u, (entVals (L.drop k))[j]? = some u → w.cell? ((⟨g, k * 10, none⟩ : Addr).add j) = some u := by
  intro j u hu
  rw [entVals_drop, List.getElem?_drop] at hu
  rw [show (⟨g, k * 10, none⟩ : Addr).add j = ⟨g, k * 10 + j, none⟩ from by unfold Addr.add; split <;> simp_all]
  exact h _ u hu
theorem RowE.news0 {w : World} {g : Nat} {L : List Ent} (h : RowE w g L) : ∀ j u, (entVals L)[j]? = some u → w.cell? ((⟨g, 0, none⟩ : Addr).add j) = some u := by
  intro j u hu
  rw [show (⟨g, 0, none⟩ : Addr).add j = ⟨g, j, none⟩ from by unfold Addr.add; split <;> simp_all]
  exact h _ u hu
/-- One entry laid in a block of its own. -/
theorem ent_new (w : World) (e : Ent) (t : TypeId) : ∀ j u, (entVals [e])[j]? = some u → (w.alloc (.cells e.cells.toArray t)).cell? ((⟨w.heap.size, 0, none⟩ : Addr).add j) = some u := by
  intro j u hu
  rw [entVals_one] at hu
  have hj : j < 10 := by
    by_cases h : j < 10
    · exact h
    · rw [List.getElem?_eq_none (by rw [cells_len]; omega)] at hu; cases hu
  rw [show (⟨w.heap.size, 0, none⟩ : Addr).add j = ⟨w.heap.size, 0 + j, none⟩ from by unfold Addr.add; split <;> simp_all, EntAt.new w e t j hj]
  exact hu
theorem fill_vals {ys : List Value} {n : Nat} {E : Nat → Ent} (h : FillE ys n E) (hl : ys.length = n * 10) : ys = entVals ((List.range n).map E) := by
  apply List.ext_getElem?
  intro k
  by_cases hk : k < n * 10
  · have h1 := h (k / 10) (by omega) (k % 10) (by omega)
    have h2 := entVals_get ((List.range n).map E) (k / 10) (k % 10) (by omega)
    rw [show k / 10 * 10 + k % 10 = k from by omega] at h1 h2
    rw [h1, h2, List.getElem?_map, List.getElem?_range (by omega)]
    rfl
  · rw [List.getElem?_eq_none (by omega), List.getElem?_eq_none (by rw [entVals_len]; simp; omega)]
theorem range_take {es : List Ent} {n : Nat} (h : n ≤ es.length) : (List.range n).map (fun i => es.getD i entD) = es.take n := by
  apply List.ext_getElem?
  intro k
  by_cases hk : k < n
  · rw [List.getElem?_map, List.getElem?_range hk, List.getElem?_take, if_pos hk]
    simp [List.getD, List.getElem?_eq_getElem (show k < es.length by omega)]
  · rw [List.getElem?_eq_none (by simp; omega), List.getElem?_take, if_neg hk]
theorem IsRowE.le {w : World} {a : Option Addr} {len cap : Nat} {es : List Ent} (h : IsRowE w a len cap es) : len ≤ es.length := by
  rcases h with ⟨_, rfl, _, rfl⟩ | ⟨x, _, hl, _, hn, _⟩
  · simp
  · omega
/-- laws.toEntryS: a copy, in a block of its own. -/
theorem toEntryS_own (a : Option Addr) (len cap : Nat) (es : List Ent) (w : World) (hR : IsRowE w a len cap es) (hlen : len ≤ 1048576) :
    Calls Tryz.prog 7 #[.slice a len cap] w fun e w' => e = .returned (.slice (some ⟨w.heap.size, 0, none⟩) len len) ∧ OwnE w' w.heap.size (.slice (some ⟨w.heap.size, 0, none⟩) len len) (es.take len) ∧ Below w.heap.size w w' := by
  refine (toEntryS_any a len cap es w hR hlen).mono ?_
  rintro e w' ⟨ys, rfl, ho, hf, hb⟩
  have hle := hR.le
  have hlen' : (es.take len).length = len := by simp; omega
  refine ⟨rfl, ⟨?_, _, _, by rw [hlen']⟩, hb⟩
  rw [hlen', ← range_take hle, ← fill_vals hf ho.1]
  exact ho
end Go.Proofs.YtancidbbkoeokaaGreat
