/- Contract of laws.toEntryS. -/
import Derived.Test.YtancidbbkoeokaaGreatEntRow
import Derived.OwnWalk
namespace Go.Proofs.YtancidbbkoeokaaGreat
open Go.ChangeShapes Go.WideShapes Go.ChangeAt Go.RowKit Go.Deep

theorem Tryz.infoE : (Tryz.prog.info? 41).map (fun i => (i.zero, i.size, i.bytes)) = some (some (.agg #[.int .i64 0, .string ⟨#[]⟩, .string ⟨#[]⟩, .int .i64 0, .int .i64 0, .int .i64 0, .int .i64 0, .string ⟨#[]⟩, .string ⟨#[]⟩, .string ⟨#[]⟩]), 10, 120) := by kernel_rfl
/-- The ten cells of an entry, as a load of it asks for them. -/
theorem ten_at {w : World} {x : Addr} {n : Nat} {e : Ent} (h : ∀ j, j < 10 → w.cell? (x.add (n + j)) = e.cells[j]?) : w.cell? (x.add n) = some (.int .i64 e.kind) ∧ w.cell? ⟨(x.add n).block, (x.add n).off + 1, none⟩ = some (.string e.path) ∧ w.cell? ⟨(x.add n).block, (x.add n).off + 2, none⟩ = some (.string e.link) ∧ w.cell? ⟨(x.add n).block, (x.add n).off + 3, none⟩ = some (.int .i64 e.mode) ∧ w.cell? ⟨(x.add n).block, (x.add n).off + 4, none⟩ = some (.int .i64 e.uid) ∧ w.cell? ⟨(x.add n).block, (x.add n).off + 5, none⟩ = some (.int .i64 e.gid) ∧ w.cell? ⟨(x.add n).block, (x.add n).off + 6, none⟩ = some (.int .i64 e.time) ∧ w.cell? ⟨(x.add n).block, (x.add n).off + 7, none⟩ = some (.string e.user) ∧ w.cell? ⟨(x.add n).block, (x.add n).off + 8, none⟩ = some (.string e.group) ∧ w.cell? ⟨(x.add n).block, (x.add n).off + 9, none⟩ = some (.string e.body) := by
  refine ⟨h 0 (by omega), ?_, ?_, ?_, ?_, ?_, ?_, ?_, ?_, ?_⟩
  · exact (congrArg w.cell? (add_add x n 1)).trans (h 1 (by omega))
  · exact (congrArg w.cell? (add_add x n 2)).trans (h 2 (by omega))
  · exact (congrArg w.cell? (add_add x n 3)).trans (h 3 (by omega))
  · exact (congrArg w.cell? (add_add x n 4)).trans (h 4 (by omega))
  · exact (congrArg w.cell? (add_add x n 5)).trans (h 5 (by omega))
  · exact (congrArg w.cell? (add_add x n 6)).trans (h 6 (by omega))
  · exact (congrArg w.cell? (add_add x n 7)).trans (h 7 (by omega))
  · exact (congrArg w.cell? (add_add x n 8)).trans (h 8 (by omega))
  · exact (congrArg w.cell? (add_add x n 9)).trans (h 9 (by omega))
def entD : Ent := ⟨0, ⟨#[]⟩, ⟨#[]⟩, 0, 0, 0, 0, ⟨#[]⟩, ⟨#[]⟩, ⟨#[]⟩⟩
def set10 (ys : List Value) (o : Nat) (e : Ent) : List Value := (((((((((ys.set o (.int .i64 e.kind)).set (o + 1) (.string e.path)).set (o + 2) (.string e.link)).set (o + 3) (.int .i64 e.mode)).set (o + 4) (.int .i64 e.uid)).set (o + 5) (.int .i64 e.gid)).set (o + 6) (.int .i64 e.time)).set (o + 7) (.string e.user)).set (o + 8) (.string e.group)).set (o + 9) (.string e.body)
/-- The first n entries of a row stand in its cells. -/
def FillE (ys : List Value) (n : Nat) (E : Nat → Ent) : Prop := ∀ k, k < n → ∀ j, j < 10 → ys[k * 10 + j]? = (E k).cells[j]?
theorem set10_in (ys : List Value) (o : Nat) (e : Ent) (h : o + 10 ≤ ys.length) (j : Nat) (hj : j < 10) : (set10 ys o e)[o + j]? = e.cells[j]? := by
  match j, hj with
  | 0, _ => simp [set10, Ent.cells, List.getElem?_set]; try omega
  | 1, _ => simp [set10, Ent.cells, List.getElem?_set]; try omega
  | 2, _ => simp [set10, Ent.cells, List.getElem?_set]; try omega
  | 3, _ => simp [set10, Ent.cells, List.getElem?_set]; try omega
  | 4, _ => simp [set10, Ent.cells, List.getElem?_set]; try omega
  | 5, _ => simp [set10, Ent.cells, List.getElem?_set]; try omega
  | 6, _ => simp [set10, Ent.cells, List.getElem?_set]; try omega
  | 7, _ => simp [set10, Ent.cells, List.getElem?_set]; try omega
  | 8, _ => simp [set10, Ent.cells, List.getElem?_set]; try omega
  | 9, _ => simp [set10, Ent.cells, List.getElem?_set]; try omega
theorem set10_out (ys : List Value) (o : Nat) (e : Ent) (m : Nat) (hm : m < o) : (set10 ys o e)[m]? = ys[m]? := by
  simp only [set10]
  rw [List.getElem?_set_ne (by omega), List.getElem?_set_ne (by omega), List.getElem?_set_ne (by omega), List.getElem?_set_ne (by omega), List.getElem?_set_ne (by omega), List.getElem?_set_ne (by omega), List.getElem?_set_ne (by omega), List.getElem?_set_ne (by omega), List.getElem?_set_ne (by omega), List.getElem?_set_ne (by omega)]
theorem FillE.step {ys : List Value} {i : Nat} {E : Nat → Ent} (h : FillE ys i E) (hl : i * 10 + 10 ≤ ys.length) : FillE (set10 ys (i * 10) (E i)) (i + 1) E := by
  intro k hk j hj
  by_cases e : k = i
  · subst e; exact set10_in ys _ _ hl j hj
  · rw [set10_out _ _ _ _ (by omega)]; exact h k (by omega) j hj
def setEnt (w : World) (g o : Nat) (e : Ent) : World := ((((((((((w).setCell ⟨g, o, none⟩ (.int .i64 e.kind)).setCell ⟨g, o + 1, none⟩ (.string e.path)).setCell ⟨g, o + 2, none⟩ (.string e.link)).setCell ⟨g, o + 3, none⟩ (.int .i64 e.mode)).setCell ⟨g, o + 4, none⟩ (.int .i64 e.uid)).setCell ⟨g, o + 5, none⟩ (.int .i64 e.gid)).setCell ⟨g, o + 6, none⟩ (.int .i64 e.time)).setCell ⟨g, o + 7, none⟩ (.string e.user)).setCell ⟨g, o + 8, none⟩ (.string e.group)).setCell ⟨g, o + 9, none⟩ (.string e.body)
theorem own_setEnt {w : World} {base g n : Nat} {ty : TypeId} {ys : List Value} (h : w.ownsRow base ty 10 (.slice (some ⟨g, 0, none⟩) n n) n ys) (o : Nat) (e : Ent) : (setEnt w g o e).ownsRow base ty 10 (.slice (some ⟨g, 0, none⟩) n n) n (set10 ys o e) :=
  (World.ownsRow.stored (World.ownsRow.stored (World.ownsRow.stored (World.ownsRow.stored (World.ownsRow.stored (World.ownsRow.stored (World.ownsRow.stored (World.ownsRow.stored (World.ownsRow.stored (World.ownsRow.stored h o _).1 (o + 1) _).1 (o + 2) _).1 (o + 3) _).1 (o + 4) _).1 (o + 5) _).1 (o + 6) _).1 (o + 7) _).1 (o + 8) _).1 (o + 9) _).1
theorem below_setEnt {w w' : World} {B g : Nat} (h : Below B w w') (hg : B ≤ g) (o : Nat) (e : Ent) : Below B w (setEnt w' g o e) :=
  ((((((((((h).setCell (p := ⟨g, o, none⟩) hg _).setCell (p := ⟨g, o + 1, none⟩) hg _).setCell (p := ⟨g, o + 2, none⟩) hg _).setCell (p := ⟨g, o + 3, none⟩) hg _).setCell (p := ⟨g, o + 4, none⟩) hg _).setCell (p := ⟨g, o + 5, none⟩) hg _).setCell (p := ⟨g, o + 6, none⟩) hg _).setCell (p := ⟨g, o + 7, none⟩) hg _).setCell (p := ⟨g, o + 8, none⟩) hg _).setCell (p := ⟨g, o + 9, none⟩) hg _
theorem own_cell {w : World} {base g n : Nat} {e : TypeId} {ys : List Value} (h : w.ownsRow base e 10 (.slice (some ⟨g, 0, none⟩) n n) n ys) {i : Nat} (hi : i < n) (j : Nat) (hj : j < 10) : ∃ y, w.cell? ⟨g, i * 10 + j, none⟩ = some y := by
  rcases h.2 with ⟨h', _⟩ | ⟨g', cap', cur, h', _, hg, _, _, hcs, _⟩
  · simp at h'
  · simp only [Value.slice.injEq, Option.some.injEq, Addr.mk.injEq, and_true, true_and] at h'
    obtain ⟨rfl, rfl⟩ := h'
    have hlt : i * 10 + j < cur.size := by omega
    exact ⟨cur[i * 10 + j], by simp [World.cell?, hg, Array.getElem?_eq_getElem hlt]⟩
theorem cell_blk {w : World} {a : Addr} {v : Value} (h : w.cell? a = some v) : a.block < w.heap.size := by
  by_cases hb : a.block < w.heap.size
  · exact hb
  · exfalso
    unfold World.cell? at h
    rw [Array.getElem?_eq_none (by omega)] at h
    cases a.spot <;> simp_all
theorem toEntryS_some (x : Addr) (len cap : Nat) (es : List Ent) (w : World) (hR : IsRowE w (some x) len cap es) (hlen : len ≤ 1048576) :
    Calls Tryz.prog 7 #[.slice (some x) len cap] w fun e w' => ∃ ys, e = .returned (.slice (some ⟨w.heap.size, 0, none⟩) len len) ∧ w'.ownsRow w.heap.size 41 10 (.slice (some ⟨w.heap.size, 0, none⟩) len len) len ys ∧ FillE ys len (fun i => es.getD i entD) ∧ Below w.heap.size w w' := by
  have HE : Hid (∀ i, i < len → ∀ j, j < 10 → w.cell? (x.add (i * 10 + j)) = ((fun i => es.getD i entD) i).cells[j]? ∧ (x.add (i * 10 + j)).block < w.heap.size) := Lib.hid (by
    rcases hR with ⟨h, _⟩ | ⟨y, hy, hl, _, hn, hc⟩
    · cases h
    · obtain rfl : x = y := by simpa using hy
      intro i hi
      have hi' : i < es.length := by omega
      show ∀ j, j < 10 → w.cell? (x.add (i * 10 + j)) = (es.getD i entD).cells[j]? ∧ _
      rw [show es.getD i entD = es[i] by simp [List.getD, List.getElem?_eq_getElem hi']]
      refine fun j hj => ⟨(hc i hi').1 j hj, ?_⟩
      have h1 := (hc i hi').1 j hj
      have hsome : ∃ v, w.cell? (x.add (i * 10 + j)) = some v := by
        rw [h1]
        exact ⟨_, List.getElem?_eq_getElem (by show j < 10; exact hj)⟩
      obtain ⟨v, hv⟩ := hsome
      exact cell_blk hv)
  clear hR
  generalize (fun i => es.getD i entD) = E at *
  obtain ⟨i0, hi0, hz0, hz1, hz2⟩ := info_parts Tryz.infoE
  go_enter Tryz.func7, Tryz.ntmps7
  go_wp2_with (at_make; refine wpList_make_full _ rfl _ _ 26 rfl w.heap.size 41 i0 _ 10 Tryz.underlying26 hi0 hz0 hz1 .i64 .i64 (len : Int) (len : Int) len rfl rfl rfl rfl (by rw [hz2]; omega) (by simp only [maxLen]; omega) (Nat.le_refl _) ?_)
  intro w0 hown0 hg0
  have O0 := Lib.hid hown0
  have B0 : Hid (Below w.heap.size w w0) := Lib.hid ((Below.refl _ _).grown hg0 (Nat.le_refl _) (fun b hb => by cases hb))
  clear hown0 hg0
  go_wp2_with fail
  go_loopw [4] (fun u wr => ∃ (i : Nat) (ys : List Value), u = .int .i64 i ∧ i ≤ len ∧ wr.ownsRow w.heap.size 41 10 (.slice (some ⟨w.heap.size, 0, none⟩) len len) len ys ∧ FillE ys i E ∧ Below w.heap.size w wr) (fun u _ => len - (intOf u).toNat)
  case atStart => exact ⟨0, _, rfl, Nat.zero_le _, O0.out, fun k hk => by omega, B0.out⟩
  case round =>
    obtain ⟨i, ys, rfl, hi, ho, hf, hb⟩ := hrel
    have HF := Lib.hid hf
    have HO := Lib.hid ho
    have HB := Lib.hid hb
    clear ho hb hf O0 B0
    by_cases hlt : i < len
    · have hlt2 : (i : Int) < (len : Int) := by omega
      have he := HE.out i hlt
      have HS := Lib.hid (HF.out.step (by rw [HO.out.1]; omega))
      have hsz := HO.out.1
      clear HF
      generalize E i = e at he HS
      have c0 := ten_at (fun j hj => (HB.out.cell (he j hj).2).trans (he j hj).1)
      obtain ⟨c0, c1, c2, c3, c4, c5, c6, c7, c8, c9⟩ := c0
      clear he
      obtain ⟨k, p, l, m, u, g, t, us, gr, b⟩ := e
      go_wp2_with fail
      refine (toEntry_any _ _ _ _ _ _ _ _ _ _ _).mono ?_
      rintro e w2 ⟨rfl, hb2⟩
      have HO2 := Lib.hid (World.ownsRow.kept HO.out (w' := w2) (row := none) ⟨hb2.os, hb2.tape, hb2.output, hb2.size, fun k hk _ => hb2.block k hk⟩ (.inr (by simp [Value.ownBlock])))
      have HB2 := Lib.hid (HB.out.trans (hb2.mono HB.out.size))
      clear hb2 HO HB c0 c1 c2 c3 c4 c5 c6 c7 c8 c9
      have f0 := World.ownsRow.frozenAt HO2.out (i * 10)
      have f1 := World.ownsRow.frozenAt HO2.out (i * 10 + 1)
      have f2 := World.ownsRow.frozenAt HO2.out (i * 10 + 2)
      have f3 := World.ownsRow.frozenAt HO2.out (i * 10 + 3)
      have f4 := World.ownsRow.frozenAt HO2.out (i * 10 + 4)
      have f5 := World.ownsRow.frozenAt HO2.out (i * 10 + 5)
      have f6 := World.ownsRow.frozenAt HO2.out (i * 10 + 6)
      have f7 := World.ownsRow.frozenAt HO2.out (i * 10 + 7)
      have f8 := World.ownsRow.frozenAt HO2.out (i * 10 + 8)
      have f9 := World.ownsRow.frozenAt HO2.out (i * 10 + 9)
      obtain ⟨y0, d0⟩ := own_cell HO2.out hlt 0 (by omega)
      rw [Nat.add_zero] at d0
      obtain ⟨y1, d1⟩ := own_cell HO2.out hlt 1 (by omega)
      obtain ⟨y2, d2⟩ := own_cell HO2.out hlt 2 (by omega)
      obtain ⟨y3, d3⟩ := own_cell HO2.out hlt 3 (by omega)
      obtain ⟨y4, d4⟩ := own_cell HO2.out hlt 4 (by omega)
      obtain ⟨y5, d5⟩ := own_cell HO2.out hlt 5 (by omega)
      obtain ⟨y6, d6⟩ := own_cell HO2.out hlt 6 (by omega)
      obtain ⟨y7, d7⟩ := own_cell HO2.out hlt 7 (by omega)
      obtain ⟨y8, d8⟩ := own_cell HO2.out hlt 8 (by omega)
      obtain ⟨y9, d9⟩ := own_cell HO2.out hlt 9 (by omega)
      go_wp2_with fail
      go_roundw
      case rel => exact ⟨i + 1, _, by go_num, by omega, own_setEnt HO2.out (i * 10) ⟨k, p, l, m, u, g, t, us, gr, b⟩, HS.out, below_setEnt HB2.out (Nat.le_refl _) (i * 10) ⟨k, p, l, m, u, g, t, us, gr, b⟩⟩
      case measure => simp [intOf]; omega
    · obtain rfl : i = len := by omega
      have hlt2 : ¬ (i : Int) < (i : Int) := by omega
      go_wp2_with fail
      go_ret
      exact ⟨rfl, ys, HO.out, HF.out, HB.out⟩
theorem toEntryS_nil (w : World) :
    Calls Tryz.prog 7 #[.slice none 0 0] w fun e w' => ∃ ys, e = .returned (.slice (some ⟨w.heap.size, 0, none⟩) 0 0) ∧ w'.ownsRow w.heap.size 41 10 (.slice (some ⟨w.heap.size, 0, none⟩) 0 0) 0 ys ∧ Below w.heap.size w w' := by
  obtain ⟨i0, hi0, hz0, hz1, hz2⟩ := info_parts Tryz.infoE
  go_enter Tryz.func7, Tryz.ntmps7
  go_wp2_with (at_make; refine wpList_make_full _ rfl _ _ 26 rfl w.heap.size 41 i0 _ 10 Tryz.underlying26 hi0 hz0 hz1 .i64 .i64 0 0 0 rfl rfl rfl rfl (by omega) (Nat.zero_le _) (Nat.le_refl _) ?_)
  intro w0 hown0 hg0
  have O0 := Lib.hid hown0
  have B0 : Hid (Below w.heap.size w w0) := Lib.hid ((Below.refl _ _).grown hg0 (Nat.le_refl _) (fun b hb => by cases hb))
  clear hown0 hg0
  go_wp2_with fail
  go_loopw [4] (fun u wr => u = .int .i64 0 ∧ wr = w0) (fun _ _ => 0)
  case atStart => exact ⟨rfl, rfl⟩
  case round =>
    obtain ⟨rfl, rfl⟩ := hrel
    go_wp2_with fail
    go_ret
    exact ⟨_, rfl, O0.out, B0.out⟩
/-- Every slice of entries that came in, copied. -/
theorem toEntryS_any (a : Option Addr) (len cap : Nat) (es : List Ent) (w : World) (hR : IsRowE w a len cap es) (hlen : len ≤ 1048576) :
    Calls Tryz.prog 7 #[.slice a len cap] w fun e w' => ∃ ys, e = .returned (.slice (some ⟨w.heap.size, 0, none⟩) len len) ∧ w'.ownsRow w.heap.size 41 10 (.slice (some ⟨w.heap.size, 0, none⟩) len len) len ys ∧ FillE ys len (fun i => es.getD i entD) ∧ Below w.heap.size w w' := by
  cases a with
  | some x => exact toEntryS_some x len cap es w hR hlen
  | none =>
    rcases hR with ⟨_, rfl, rfl, rfl⟩ | ⟨y, hy, _⟩
    · refine (toEntryS_nil w).mono ?_
      rintro e w' ⟨ys, rfl, ho, hb⟩
      exact ⟨ys, rfl, ho, fun k hk => by omega, hb⟩
    · cases hy
end Go.Proofs.YtancidbbkoeokaaGreat
