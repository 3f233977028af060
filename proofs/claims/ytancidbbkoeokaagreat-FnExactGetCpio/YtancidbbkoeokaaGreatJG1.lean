/- Texts joined: EntS, EntZ, EntL, EntOk, FindE, ListOk, CardMath, CardL, CardO, CardsS, EqE, SizeE, EqC, MergeE, EntriesS, OutM, Clone, Cut, Word, Put16, Put32, Get16, Get32, Pad, Sum, NewK, BinMath. -/
import Derived.Test.YtancidbbkoeokaaGreatEntRow
import Derived.OwnWalk
import Derived.Maps.AppendAt
import Derived.Test.YtancidbbkoeokaaGreatWhoS
import Derived.Test.YtancidbbkoeokaaGreatPathOk
import Derived.Deep.RegionWith
import Derived.Deep.RegionHeld3
import Derived.Test.YtancidbbkoeokaaGreatCardA
import Derived.Laws.ResultCell
import Derived.Laws.Rows
import Derived.Laws.Tables
import Derived.Test.YtancidbbkoeokaaGreatEntO
import Derived.Test.YtancidbbkoeokaaGreatRegSl
import Derived.Deep.DeepCutAuto
import Derived.Laws.StructEq
import Derived.Test.YtancidbbkoeokaaGreatEntAt
import Derived.Test.YtancidbbkoeokaaGreatBitK
import Derived.Test.YtancidbbkoeokaaGreatCom
import Derived.Test.YtancidbbkoeokaaGreatShelf
import Derived.WalkSmall
import Derived.IntWalk
import Derived.LoopN
import Derived.Laws.BytesArg
import Derived.Test.YtancidbbkoeokaaGreatBit
import Derived.Test.YtancidbbkoeokaaGreatIn
import Derived.Test.YtancidbbkoeokaaGreatPartMath
/- Contract of laws.toEntryS. -/
namespace Go.Proofs.YtancidbbkoeokaaGreat
open Go.ChangeShapes Go.WideShapes Go.ChangeAt Go.RowKit Go.Deep

theorem Tryz.infoE : (Tryz.prog.info? 41).map (fun i => (i.zero, i.size, i.bytes)) = some (some (.agg #[.int .i64 0, .string ⟨#[]⟩, .string ⟨#[]⟩, .int .i64 0, .int .i64 0, .int .i64 0, .int .i64 0, .string ⟨#[]⟩, .string ⟨#[]⟩, .string ⟨#[]⟩]), 10, 120) := by kernel_rfl
def entD : Ent := ⟨0, ⟨#[]⟩, ⟨#[]⟩, 0, 0, 0, 0, ⟨#[]⟩, ⟨#[]⟩, ⟨#[]⟩⟩
def set10 (ys : List Value) (o : Nat) (e : Ent) : List Value := (((((((((ys.set o (.int .i64 e.kind)).set (o + 1) (.string e.path)).set (o + 2) (.string e.link)).set (o + 3) (.int .i64 e.mode)).set (o + 4) (.int .i64 e.uid)).set (o + 5) (.int .i64 e.gid)).set (o + 6) (.int .i64 e.time)).set (o + 7) (.string e.user)).set (o + 8) (.string e.group)).set (o + 9) (.string e.body)
/-- The first n entries of a row stand in its cells. -/
def FillE (ys : List Value) (n : Nat) (E : Nat → Ent) : Prop := ∀ k, k < n → ∀ j, j < 10 → ys[k * 10 + j]? = (E k).cells[j]?
theorem set10_in (ys : List Value) (o : Nat) (e : Ent) (h : o + 10 ≤ ys.length) (j : Nat) (hj : j < 10) : (set10 ys o e)[o + j]? = e.cells[j]? := by
  match j, hj with
  | 0, _ => simp [set10, Ent.cells, List.getElem?_set]; try omega
  | 1, _ => simp [set10, Ent.cells, List.getElem?_set]; try omega
  | 2, _ => simp [set10, Ent.cells, List.getElem?_set]; try omega
  | 3, _ => simp [set10, Ent.cells, List.getElem?_set]; try omega
  | 4, _ => simp [set10, Ent.cells, List.getElem?_set]; try omega
  | 5, _ => simp [set10, Ent.cells, List.getElem?_set]; try omega
  | 6, _ => simp [set10, Ent.cells, List.getElem?_set]; try omega
  | 7, _ => simp [set10, Ent.cells, List.getElem?_set]; try omega
  | 8, _ => simp [set10, Ent.cells, List.getElem?_set]; try omega
  | 9, _ => simp [set10, Ent.cells, List.getElem?_set]; try omega
theorem set10_out (ys : List Value) (o : Nat) (e : Ent) (m : Nat) (hm : m < o) : (set10 ys o e)[m]? = ys[m]? := by
  simp only [set10]
  rw [List.getElem?_set_ne (by omega), List.getElem?_set_ne (by omega), List.getElem?_set_ne (by omega), List.getElem?_set_ne (by omega), List.getElem?_set_ne (by omega), List.getElem?_set_ne (by omega), List.getElem?_set_ne (by omega), List.getElem?_set_ne (by omega), List.getElem?_set_ne (by omega), List.getElem?_set_ne (by omega)]
theorem FillE.step {ys : List Value} {i : Nat} {E : Nat → Ent} (h : FillE ys i E) (hl : i * 10 + 10 ≤ ys.length) : FillE (set10 ys (i * 10) (E i)) (i + 1) E := by
  intro k hk j hj
  by_cases e : k = i
  · subst e; exact set10_in ys _ _ hl j hj
  · rw [set10_out _ _ _ _ (by omega)]; exact h k (by omega) j hj
def setEnt (w : World) (g o : Nat) (e : Ent) : World := ((((((((((w).setCell ⟨g, o, none⟩ (.int .i64 e.kind)).setCell ⟨g, o + 1, none⟩ (.string e.path)).setCell ⟨g, o + 2, none⟩ (.string e.link)).setCell ⟨g, o + 3, none⟩ (.int .i64 e.mode)).setCell ⟨g, o + 4, none⟩ (.int .i64 e.uid)).setCell ⟨g, o + 5, none⟩ (.int .i64 e.gid)).setCell ⟨g, o + 6, none⟩ (.int .i64 e.time)).setCell ⟨g, o + 7, none⟩ (.string e.user)).setCell ⟨g, o + 8, none⟩ (.string e.group)).setCell ⟨g, o + 9, none⟩ (.string e.body)
theorem cell_blk {w : World} {a : Addr} {v : Value} (h : w.cell? a = some v) : a.block < w.heap.size := by
  by_cases hb : a.block < w.heap.size
  · exact hb
  · exfalso
    unfold World.cell? at h
    rw [Array.getElem?_eq_none (by omega)] at h
    cases a.spot <;> simp_all
end Go.Proofs.YtancidbbkoeokaaGreat

/- Contract of laws.szEntryS. -/
namespace Go.Proofs.YtancidbbkoeokaaGreat
open Go.ChangeShapes Go.WideShapes Go.ChangeAt Go.RowKit Go.Deep

/-- The letters of an entry's texts. -/
def esz (e : Ent) : Nat := e.path.size + e.link.size + e.user.size + e.group.size + e.body.size
def totE (E : Nat → Ent) : Nat → Nat
  | 0 => 0
  | n + 1 => totE E n + esz (E n)
/-- What is left of a bound behind a slice of entries: less than none, or each entry and each letter counted. -/
def SzS (E : Nat → Ent) (len : Nat) (left : Int) (w : World) (e : Ending) (w' : World) : Prop :=
  (∃ r : Int, e = .returned (.int .i64 r) ∧ (r = -1 ∨ 0 ≤ r ∧ (len : Int) + totE E len + r = left)) ∧ Below w.heap.size w w'
end Go.Proofs.YtancidbbkoeokaaGreat

/- Rows of entries in memory, as lists: RowE (its cells), OwnE (a row that a call made itself), and laws.toEntryS in these words. -/
namespace Go.Proofs.YtancidbbkoeokaaGreat
open Go.ChangeShapes Go.WideShapes Go.ChangeAt Go.RowKit Go.Deep

def entVals (L : List Ent) : List Value := L.flatMap Ent.cells
theorem cells_len (e : Ent) : e.cells.length = 10 := rfl
theorem entVals_len (L : List Ent) : (entVals L).length = L.length * 10 := by
  induction L with
  | nil => rfl
  | cons e L ih => simp only [entVals, List.flatMap_cons, List.length_append, cells_len, List.length_cons] at ih ⊢; omega
theorem entVals_app (L M : List Ent) : entVals (L ++ M) = entVals L ++ entVals M := by simp [entVals]
theorem entVals_one (e : Ent) : entVals [e] = e.cells := by simp [entVals]
theorem entVals_get (L : List Ent) (i j : Nat) (hj : j < 10) : (entVals L)[i * 10 + j]? = L[i]?.bind (fun e => e.cells[j]?) := by
  induction L generalizing i with
  | nil => simp [entVals]
  | cons e L ih =>
    simp only [entVals, List.flatMap_cons] at ih ⊢
    cases i with
    | zero =>
      rw [List.getElem?_append_left (by rw [cells_len]; omega)]
      simp
    | succ i =>
      rw [List.getElem?_append_right (by rw [cells_len]; omega), cells_len, show (i + 1) * 10 + j - 10 = i * 10 + j from by omega, ih]
      simp
theorem entVals_take (L : List Ent) (k : Nat) : entVals (L.take k) = (entVals L).take (k * 10) := by
  induction L generalizing k with
  | nil => simp [entVals]
  | cons e L ih =>
    cases k with
    | zero => simp [entVals]
    | succ k =>
      rw [List.take_succ_cons]
      have h := ih k
      simp only [entVals, List.flatMap_cons] at h ⊢
      rw [List.take_append, cells_len, show (k + 1) * 10 - 10 = k * 10 from by omega, List.take_of_length_le (l := e.cells) (by rw [cells_len]; omega), h]
theorem entVals_onecell (L : List Ent) : ∀ u ∈ entVals L, u.oneCell' = true := by
  intro u hu
  simp only [entVals, List.mem_flatMap] at hu
  obtain ⟨e, _, he⟩ := hu
  simp only [Ent.cells, List.mem_cons, List.not_mem_nil, or_false] at he
  rcases he with rfl | rfl | rfl | rfl | rfl | rfl | rfl | rfl | rfl | rfl <;> rfl
/-- The cells of block g, from its first on, are the entries L. -/
def RowE (w : World) (g : Nat) (L : List Ent) : Prop := ∀ k u, (entVals L)[k]? = some u → w.cell? ⟨g, k, none⟩ = some u
theorem RowE.below {w w' : World} {g B : Nat} {L : List Ent} (h : RowE w g L) (hb : Below B w w') (hg : g < B) : RowE w' g L :=
  fun k u hu => (hb.cell (p := ⟨g, k, none⟩) hg).trans (h k u hu)
theorem RowE.grown {w w' : World} {g : Nat} {row : Option Nat} {L : List Ent} (h : RowE w g L) (hb : w.grownBy w' row) (hg : some g ≠ row) : RowE w' g L :=
  fun k u hu => hb.cell (h k u hu) hg
theorem RowE.take {w : World} {g : Nat} {L : List Ent} (h : RowE w g L) (k : Nat) : RowE w g (L.take k) := fun j u hu => h j u (by
  rw [entVals_take, List.getElem?_take] at hu
  split at hu
  · exact hu
  · cases hu)
/-- The ten cells of its i-th entry. -/
theorem RowE.ten {w : World} {g : Nat} {L : List Ent} (h : RowE w g L) {i : Nat} {e : Ent} (hi : L[i]? = some e) : w.cell? ⟨g, i * 10, none⟩ = some (.int .i64 e.kind) ∧ w.cell? ⟨g, i * 10 + 1, none⟩ = some (.string e.path) ∧ w.cell? ⟨g, i * 10 + 2, none⟩ = some (.string e.link) ∧ w.cell? ⟨g, i * 10 + 3, none⟩ = some (.int .i64 e.mode) ∧ w.cell? ⟨g, i * 10 + 4, none⟩ = some (.int .i64 e.uid) ∧ w.cell? ⟨g, i * 10 + 5, none⟩ = some (.int .i64 e.gid) ∧ w.cell? ⟨g, i * 10 + 6, none⟩ = some (.int .i64 e.time) ∧ w.cell? ⟨g, i * 10 + 7, none⟩ = some (.string e.user) ∧ w.cell? ⟨g, i * 10 + 8, none⟩ = some (.string e.group) ∧ w.cell? ⟨g, i * 10 + 9, none⟩ = some (.string e.body) := by
  have H : ∀ j u, j < 10 → e.cells[j]? = some u → w.cell? ⟨g, i * 10 + j, none⟩ = some u := fun j u hj hu => h _ u (by rw [entVals_get _ _ _ hj, hi]; exact hu)
  exact ⟨H 0 _ (by omega) rfl, H 1 _ (by omega) rfl, H 2 _ (by omega) rfl, H 3 _ (by omega) rfl, H 4 _ (by omega) rfl, H 5 _ (by omega) rfl, H 6 _ (by omega) rfl, H 7 _ (by omega) rfl, H 8 _ (by omega) rfl, H 9 _ (by omega) rfl⟩
/-- A row of entries of the call's own that is not nil. -/
def OwnE (w : World) (base : Nat) (v : Value) (L : List Ent) : Prop := w.ownsRow base 41 10 v L.length (entVals L) ∧ ∃ g cap, v = .slice (some ⟨g, 0, none⟩) L.length cap
theorem OwnE.row {w : World} {base g n cap : Nat} {L : List Ent} (h : OwnE w base (.slice (some ⟨g, 0, none⟩) n cap) L) : RowE w g L ∧ g < w.heap.size ∧ base ≤ g ∧ n = L.length := by
  refine ⟨fun k u hu => ?_, (World.ownsRow.lt h.1 g rfl).2, (World.ownsRow.lt h.1 g rfl).1, ?_⟩
  · have := World.ownsRow.cells h.1 (g := g) rfl k u hu
    rwa [show (⟨g, 0, none⟩ : Addr).add k = ⟨g, k, none⟩ from by unfold Addr.add; split <;> simp_all] at this
  · obtain ⟨g', cap', e⟩ := h.2
    simp at e
    exact e.2.1
theorem OwnE.keep {w w' : World} {base : Nat} {v : Value} {L : List Ent} (h : OwnE w base v L) (hb : Below w.heap.size w w') : OwnE w' base v L := by
  obtain ⟨ho, g, cap, rfl⟩ := h
  exact ⟨World.ownsRow.kept ho (w' := w') (row := none) ⟨hb.os, hb.tape, hb.output, hb.size, fun k hk _ => hb.block k hk⟩ (.inr (by simp [Value.ownBlock])), g, cap, rfl⟩
theorem OwnE.kept {w w' : World} {base g n cap : Nat} {row : Option Nat} {L : List Ent} (h : OwnE w base (.slice (some ⟨g, 0, none⟩) n cap) L) (hb : w.grownBy w' row) (hg : some g ≠ row) : OwnE w' base (.slice (some ⟨g, 0, none⟩) n cap) L :=
  ⟨World.ownsRow.kept h.1 hb (.inr (by simpa [Value.ownBlock] using hg)), h.2⟩
theorem OwnE.weak {w : World} {base base' : Nat} {v : Value} {L : List Ent} (h : OwnE w base v L) (hb : base' ≤ base) : OwnE w base' v L := by
  refine ⟨⟨h.1.1, ?_⟩, h.2⟩
  rcases h.1.2 with h' | ⟨g', cap', cur, h', hx, rest⟩
  · exact .inl h'
  · exact .inr ⟨g', cap', cur, h', Nat.le_trans hb hx, rest⟩
theorem OwnE.lit {w : World} {base : Nat} (hb : base ≤ w.heap.size) : OwnE (w.alloc (.cells #[] 41)) base (.slice (some ⟨w.heap.size, 0, none⟩) 0 0) [] :=
  ⟨World.ownsRow_lit w #[] 0 hb (by simp) rfl, _, _, rfl⟩
theorem ownE_app {w1 : World} {base : Nat} {v' : Value} {D M : List Ent} {n m : Nat} (h : w1.ownsRow base 41 10 v' (n + m) (entVals D ++ entVals M)) (hn : n = D.length) (hm : m = M.length) (hnil : ¬ v' = .slice none 0 0) : OwnE w1 base v' (D ++ M) := by
  subst hn; subst hm
  rw [← entVals_app, show D.length + M.length = (D ++ M).length from by simp] at h
  refine ⟨h, ?_⟩
  obtain ⟨_, ⟨rfl, _⟩ | ⟨g', cap', cur, rfl, _⟩⟩ := h
  · exact absurd rfl hnil
  · exact ⟨g', cap', rfl⟩
theorem RowE.news0 {w : World} {g : Nat} {L : List Ent} (h : RowE w g L) : ∀ j u, (entVals L)[j]? = some u → w.cell? ((⟨g, 0, none⟩ : Addr).add j) = some u := by
  intro j u hu
  rw [show (⟨g, 0, none⟩ : Addr).add j = ⟨g, j, none⟩ from by unfold Addr.add; split <;> simp_all]
  exact h _ u hu
/-- One entry laid in a block of its own. -/
theorem ent_new (w : World) (e : Ent) (t : TypeId) : ∀ j u, (entVals [e])[j]? = some u → (w.alloc (.cells e.cells.toArray t)).cell? ((⟨w.heap.size, 0, none⟩ : Addr).add j) = some u := by
  intro j u hu
  rw [entVals_one] at hu
  have hj : j < 10 := by
    by_cases h : j < 10
    · exact h
    · rw [List.getElem?_eq_none (by rw [cells_len]; omega)] at hu; cases hu
  rw [show (⟨w.heap.size, 0, none⟩ : Addr).add j = ⟨w.heap.size, 0 + j, none⟩ from by unfold Addr.add; split <;> simp_all, EntAt.new w e t j hj]
  exact hu
end Go.Proofs.YtancidbbkoeokaaGreat

/- Contract of spec.EntryOk. -/
namespace Go.Proofs.YtancidbbkoeokaaGreat
open Go.ChangeShapes Go.WideShapes Go.ChangeAt Go.RowKit Go.Deep

/-- What the kind of an entry asks of its link and body. -/
def kindOk (k : Int) (p l b : ByteArray) : Bool :=
  if k = 0 then decide (l.size = 0) && decide (b.size ≤ 3000)
  else if k = 1 then decide (l.size = 0) && decide (b.size = 0)
  else if k = 2 then inB l.size 1 150 && signv l && decide (b.size = 0)
  else if k = 3 then pathOkv l && decide (l ≠ p) && decide (b.size = 0)
  else false
def entOkv (e : Ent) : Bool := pathOkv e.path && inB e.mode 0 4095 && inB e.uid 0 4294967295 && inB e.gid 0 4294967295 && inB e.time 0 99999999999 && whov e.user && whov e.group && kindOk e.kind e.path e.link e.body
theorem empty_t {l : ByteArray} (h : l.size = 0) : l.toList.isEmpty = true := by
  rw [ba_toList]
  have : l.data.toList = [] := List.eq_nil_of_length_eq_zero (by simpa using h)
  rw [this]; rfl
theorem empty_f {l : ByteArray} (h : ¬ l.size = 0) : l.toList.isEmpty = false := by
  rw [ba_toList]
  cases hd : l.data.toList with
  | nil => exact absurd (by have := congrArg List.length hd; simpa using this) h
  | cons a b => rfl
set_option maxHeartbeats 3200000 in
theorem entryOk_spec (k : Int) (p l : ByteArray) (m u g t : Int) (us gr b : ByteArray) (w : World) (hp : p.size ≤ 4194304) (hl : l.size ≤ 4194304) (hus : us.size ≤ 4194304) (hgr : gr.size ≤ 4194304) (hbz : b.size ≤ 4194304) :
    Calls Tryz.prog 30 #[.agg #[.int .i64 k, .string p, .string l, .int .i64 m, .int .i64 u, .int .i64 g, .int .i64 t, .string us, .string gr, .string b]] w fun e w' => e = .returned (.bool (entOkv ⟨k, p, l, m, u, g, t, us, gr, b⟩)) ∧ Below w.heap.size w w' := by
  have H1 := Lib.hid (fun w => pathOk_spec p w hp)
  have HL := Lib.hid (fun w => pathOk_spec l w hl)
  have H2 := Lib.hid (fun w => in_any m 0 4095 w)
  have H3 := Lib.hid (fun w => in_any u 0 4294967295 w)
  have H4 := Lib.hid (fun w => in_any g 0 4294967295 w)
  have H5 := Lib.hid (fun w => in_any t 0 99999999999 w)
  have H6 := Lib.hid (fun w => who_spec us w hus)
  have H7 := Lib.hid (fun w => who_spec gr w hgr)
  have HS := Lib.hid (fun w => sign_spec l w hl)
  have HZ := Lib.hid (fun w => in_any (l.size : Int) 1 150 w)
  have HE : Hid (entOkv ⟨k, p, l, m, u, g, t, us, gr, b⟩ = (pathOkv p && inB m 0 4095 && inB u 0 4294967295 && inB g 0 4294967295 && inB t 0 99999999999 && whov us && whov gr && kindOk k p l b)) := Lib.hid rfl
  have HK : Hid (kindOk k p l b = if k = 0 then decide (l.size = 0) && decide (b.size ≤ 3000) else if k = 1 then decide (l.size = 0) && decide (b.size = 0) else if k = 2 then inB l.size 1 150 && signv l && decide (b.size = 0) else if k = 3 then pathOkv l && decide (l ≠ p) && decide (b.size = 0) else false) := Lib.hid rfl
  generalize entOkv ⟨k, p, l, m, u, g, t, us, gr, b⟩ = r at HE
  generalize kindOk k p l b = r2 at HE HK
  generalize pathOkv p = b1 at H1 HE
  generalize inB m 0 4095 = b2 at H2 HE
  generalize inB u 0 4294967295 = b3 at H3 HE
  generalize inB g 0 4294967295 = b4 at H4 HE
  generalize inB t 0 99999999999 = b5 at H5 HE
  generalize whov us = b6 at H6 HE
  generalize whov gr = b7 at H7 HE
  generalize pathOkv l = bl at HL HK
  generalize signv l = bs at HS HK
  generalize inB (l.size : Int) 1 150 = bz at HZ HK
  clear hp hus hgr
  go_enter Tryz.func30, Tryz.ntmps30

  go_wp2_with fail
  refine (H1.out _).mono ?_
  rintro e w1 ⟨rfl, hb⟩
  obtain ⟨k1, b1, z1⟩ := one_new (e1 := ⟨k, p, l, m, u, g, t, us, gr, b⟩) hb
  have E1 := Lib.hid k1
  have B1 := Lib.hid b1
  clear hb k1 b1
  obtain ⟨c0, c1, c2, c3, c4, c5, c6, c7, c8, c9⟩ := E1.out.zero
  cases b1 with
  | false =>
    go_wp2_with fail
    go_ret
    exact ⟨ret_bool (by rw [HE.out]; simp), B1.out⟩
  | true =>
    go_wp2_with fail
    refine (H2.out _).mono ?_
    rintro e _ ⟨rfl, rfl⟩
    cases b2 with
    | false =>
      go_wp2_with fail
      go_ret
      exact ⟨ret_bool (by rw [HE.out]; simp), B1.out⟩
    | true =>
      go_wp2_with fail
      refine (H3.out _).mono ?_
      rintro e _ ⟨rfl, rfl⟩
      cases b3 with
      | false =>
        go_wp2_with fail
        go_ret
        exact ⟨ret_bool (by rw [HE.out]; simp), B1.out⟩
      | true =>
        go_wp2_with fail
        refine (H4.out _).mono ?_
        rintro e _ ⟨rfl, rfl⟩
        cases b4 with
        | false =>
          go_wp2_with fail
          go_ret
          exact ⟨ret_bool (by rw [HE.out]; simp), B1.out⟩
        | true =>
          go_wp2_with fail
          refine (H5.out _).mono ?_
          rintro e _ ⟨rfl, rfl⟩
          cases b5 with
          | false =>
            go_wp2_with fail
            go_ret
            exact ⟨ret_bool (by rw [HE.out]; simp), B1.out⟩
          | true =>
            go_wp2_with fail
            refine (H6.out _).mono ?_
            rintro e w2 ⟨rfl, hb⟩
            have E2 := Lib.hid (E1.out.below hb (by omega))
            have B2 := Lib.hid (btE B1.out hb)
            have z2 := Nat.le_trans z1 hb.size
            clear hb E1 B1 c0 c1 c2 c3 c4 c5 c6 c7 c8 c9
            obtain ⟨c0, c1, c2, c3, c4, c5, c6, c7, c8, c9⟩ := E2.out.zero
            cases b6 with
            | false =>
              go_wp2_with fail
              go_ret
              exact ⟨ret_bool (by rw [HE.out]; simp), B2.out⟩
            | true =>
              go_wp2_with fail
              refine (H7.out _).mono ?_
              rintro e w3 ⟨rfl, hb⟩
              have E3 := Lib.hid (E2.out.below hb (by omega))
              have B3 := Lib.hid (btE B2.out hb)
              have z3 := Nat.le_trans z2 hb.size
              clear hb E2 B2 c0 c1 c2 c3 c4 c5 c6 c7 c8 c9
              obtain ⟨c0, c1, c2, c3, c4, c5, c6, c7, c8, c9⟩ := E3.out.zero
              cases b7 with
              | false =>
                go_wp2_with fail
                go_ret
                exact ⟨ret_bool (by rw [HE.out]; simp), B3.out⟩
              | true =>
                have HR : Hid (r = r2) := Lib.hid (by rw [HE.out]; simp)
                clear HE
                by_cases k0 : k = 0
                · subst k0
                  by_cases hl0 : l.size = 0
                  · have q := empty_t hl0
                    by_cases hb0 : (b.size : Int) ≤ 3000
                    · have hb1 : b.size ≤ 3000 := by omega
                      go_wp2_with fail
                      go_ret
                      exact ⟨ret_bool (by rw [HR.out, HK.out]; simp [hl0, hb1]; try omega), B3.out⟩
                    · have hb1 : ¬ b.size ≤ 3000 := by omega
                      go_wp2_with fail
                      go_ret
                      exact ⟨ret_bool (by rw [HR.out, HK.out]; simp [hl0, hb1]; try omega), B3.out⟩
                  · have q := empty_f hl0
                    go_wp2_with fail
                    go_ret
                    exact ⟨ret_bool (by rw [HR.out, HK.out]; simp [hl0]), B3.out⟩
                · by_cases k1 : k = 1
                  · subst k1
                    by_cases hl0 : l.size = 0
                    · have q := empty_t hl0
                      by_cases hb0 : b.size = 0
                      · have q2 := empty_t hb0
                        go_wp2_with fail
                        go_ret
                        exact ⟨ret_bool (by rw [HR.out, HK.out]; simp [hl0, hb0]), B3.out⟩
                      · have q2 := empty_f hb0
                        go_wp2_with fail
                        go_ret
                        exact ⟨ret_bool (by rw [HR.out, HK.out]; simp [hl0, hb0]), B3.out⟩
                    · have q := empty_f hl0
                      go_wp2_with fail
                      go_ret
                      exact ⟨ret_bool (by rw [HR.out, HK.out]; simp [hl0]), B3.out⟩
                  · by_cases k2 : k = 2
                    · subst k2
                      go_wp2_with fail
                      refine (HZ.out _).mono ?_
                      rintro e _ ⟨rfl, rfl⟩
                      cases bz with
                      | false =>
                        go_wp2_with fail
                        go_ret
                        exact ⟨ret_bool (by rw [HR.out, HK.out]; simp), B3.out⟩
                      | true =>
                        go_wp2_with fail
                        refine (HS.out _).mono ?_
                        rintro e w4 ⟨rfl, hb⟩
                        have E4 := Lib.hid (E3.out.below hb (by omega))
                        have B4 := Lib.hid (btE B3.out hb)
                        have z4 := Nat.le_trans z3 hb.size
                        clear hb E3 B3 c0 c1 c2 c3 c4 c5 c6 c7 c8 c9
                        obtain ⟨c0, c1, c2, c3, c4, c5, c6, c7, c8, c9⟩ := E4.out.zero
                        cases bs with
                        | false =>
                          go_wp2_with fail
                          go_ret
                          exact ⟨ret_bool (by rw [HR.out, HK.out]; simp), B4.out⟩
                        | true =>
                          by_cases hb0 : b.size = 0
                          · have q2 := empty_t hb0
                            go_wp2_with fail
                            go_ret
                            exact ⟨ret_bool (by rw [HR.out, HK.out]; simp [hb0]), B4.out⟩
                          · have q2 := empty_f hb0
                            go_wp2_with fail
                            go_ret
                            exact ⟨ret_bool (by rw [HR.out, HK.out]; simp [hb0]), B4.out⟩
                    · by_cases k3 : k = 3
                      · subst k3
                        go_wp2_with fail
                        refine (HL.out _).mono ?_
                        rintro e w4 ⟨rfl, hb⟩
                        have E4 := Lib.hid (E3.out.below hb (by omega))
                        have B4 := Lib.hid (btE B3.out hb)
                        have z4 := Nat.le_trans z3 hb.size
                        clear hb E3 B3 c0 c1 c2 c3 c4 c5 c6 c7 c8 c9
                        obtain ⟨c0, c1, c2, c3, c4, c5, c6, c7, c8, c9⟩ := E4.out.zero
                        cases bl with
                        | false =>
                          go_wp2_with fail
                          go_ret
                          exact ⟨ret_bool (by rw [HR.out, HK.out]; simp), B4.out⟩
                        | true =>
                          by_cases hlp : l = p
                          · have q := ba_eq hlp
                            go_wp2_with fail
                            go_ret
                            exact ⟨ret_bool (by rw [HR.out, HK.out]; simp [hlp]), B4.out⟩
                          · have q := ba_ne hlp
                            by_cases hb0 : b.size = 0
                            · have q2 := empty_t hb0
                              go_wp2_with fail
                              go_ret
                              exact ⟨ret_bool (by rw [HR.out, HK.out]; simp [hlp, hb0]), B4.out⟩
                            · have q2 := empty_f hb0
                              go_wp2_with fail
                              go_ret
                              exact ⟨ret_bool (by rw [HR.out, HK.out]; simp [hlp, hb0]), B4.out⟩
                      · have k9 := k3
                        go_wp2_with fail
                        go_ret
                        exact ⟨ret_bool (by rw [HR.out, HK.out]; simp [k0, k1, k2, k3]), B3.out⟩
end Go.Proofs.YtancidbbkoeokaaGreat

/- Contracts of spec.Find and impl.Find. -/
namespace Go.Proofs.YtancidbbkoeokaaGreat
open Go.ChangeShapes Go.WideShapes Go.ChangeAt Go.RowKit Go.Deep

/-- The place of the first entry with a path, among the entries from i on; or none. -/
def findFrom (L : List Ent) (p : ByteArray) (i : Nat) : Int :=
  match L with
  | [] => -1
  | e :: L => if e.path = p then i else findFrom L p (i + 1)
def findv (L : List Ent) (p : ByteArray) : Int := findFrom L p 0
theorem findFrom_drop (L : List Ent) (p : ByteArray) (i : Nat) {e : Ent} (h : L[i]? = some e) : findFrom (L.drop i) p i = if e.path = p then (i : Int) else findFrom (L.drop (i + 1)) p (i + 1) := by
  have hlt : i < L.length := (List.getElem?_eq_some_iff.1 h).1
  rw [List.drop_eq_getElem_cons hlt, (List.getElem?_eq_some_iff.1 h).2, findFrom]
theorem findFrom_end (L : List Ent) (p : ByteArray) (i : Nat) (h : L.length ≤ i) : findFrom (L.drop i) p i = -1 := by
  rw [List.drop_eq_nil_of_le h, findFrom]
theorem getE' {L : List Ent} {i : Nat} (h : i < L.length) : ∃ e, L[i]? = some e := ⟨L[i], List.getElem?_eq_getElem h⟩
theorem baE_eq {a b : ByteArray} (h : a = b) : (a.toList == b.toList) = true := by rw [h]; simp
theorem baE_ne {a b : ByteArray} (h : ¬ a = b) : (a.toList == b.toList) = false := by
  simp only [beq_eq_false_iff_ne, ne_eq]
  intro e
  apply h
  obtain ⟨⟨x⟩⟩ := a
  obtain ⟨⟨y⟩⟩ := b
  simpa using e

theorem find_spec (L : List Ent) (p : ByteArray) (n g cap : Nat) (w : World) (hn : n = L.length) (hm : n ≤ 4194304) (hg : g < w.heap.size) (h1 : RowE w g L) :
    Calls Tryz.prog 31 #[.slice (some ⟨g, 0, none⟩) n cap, .string p] w fun e w' => e = .returned (.int .i64 (findv L p)) ∧ Below w.heap.size w w' := by
  have H1 := Lib.hid h1
  have HG : Hid (∀ i, i < n → ∃ e, L[i]? = some e) := Lib.hid (fun i hi => getE' (by omega))
  have HE : Hid (∀ i, n ≤ i → findFrom (L.drop i) p i = -1) := Lib.hid (fun i hi => findFrom_end L p i (by omega))
  have HD : Hid (findv L p = findFrom (L.drop 0) p 0) := Lib.hid rfl
  generalize findv L p = r at HD
  clear h1 hn
  go_enter Tryz.func31, Tryz.ntmps31
  go_wp2_with fail
  go_loopw [5] (fun u wr => ∃ i : Nat, u = .int .i64 i ∧ i ≤ n ∧ r = findFrom (L.drop i) p i ∧ Below w.heap.size w wr) (fun u _ => n - (intOf u).toNat)
  case atStart => exact ⟨0, rfl, Nat.zero_le _, HD.out, Below.refl _ _⟩
  case round =>
    obtain ⟨i, rfl, hi, hr, hb⟩ := hrel
    have HR := Lib.hid hr
    have B := Lib.hid hb
    clear hr hb
    by_cases hlt : i < n
    · have hlt2 : (i : Int) < (n : Int) := by omega
      obtain ⟨e, he⟩ := HG.out i hlt
      have HN := Lib.hid (findFrom_drop L p i he)
      obtain ⟨c0, c1, c2, c3, c4, c5, c6, c7, c8, c9⟩ := (H1.out.below B.out hg).ten he
      clear he c0 c2 c3 c4 c5 c6 c7 c8 c9
      obtain ⟨k, q, l, m, u, g0, t, us, gr, b⟩ := e
      by_cases hq : q = p
      · have hq2 := baE_eq hq
        have HF : Hid (r = i) := Lib.hid (by rw [HR.out, HN.out, if_pos hq])
        clear hq HN HR
        go_wp2_with fail
        go_ret
        exact ⟨ret_int HF.out.symm, B.out⟩
      · have hq2 := baE_ne hq
        have HF : Hid (r = findFrom (L.drop (i + 1)) p (i + 1)) := Lib.hid (by rw [HR.out, HN.out, if_neg hq])
        clear hq HN HR
        go_wp2_with fail
        go_roundw
        case rel => exact ⟨i + 1, by go_num, by omega, HF.out, B.out⟩
        case measure => simp [intOf]; omega
    · have hlt2 : ¬ (i : Int) < (n : Int) := by omega
      have HF : Hid (r = -1) := Lib.hid (by rw [HR.out, HE.out i (by omega)])
      go_wp2_with fail
      go_ret
      exact ⟨ret_int HF.out.symm, B.out⟩
end Go.Proofs.YtancidbbkoeokaaGreat

/- Contract of spec.ListOk. -/
namespace Go.Proofs.YtancidbbkoeokaaGreat
open Go.ChangeShapes Go.WideShapes Go.ChangeAt Go.RowKit Go.Deep

/-- No entry's texts are longer than a bound that no argument comes near. -/
def SmallL (L : List Ent) : Prop := ∀ e ∈ L, esz e ≤ 4194304
theorem findFrom_cases (L : List Ent) (p : ByteArray) (i : Nat) : findFrom L p i = -1 ∨ ∃ (a : Nat) (e : Ent), findFrom L p i = ((i + a : Nat) : Int) ∧ L[a]? = some e ∧ e.path = p := by
  induction L generalizing i with
  | nil => exact .inl rfl
  | cons e L ih =>
    rw [findFrom]
    by_cases h : e.path = p
    · rw [if_pos h]
      exact .inr ⟨0, e, by simp, rfl, h⟩
    · rw [if_neg h]
      rcases ih (i + 1) with h1 | ⟨a, e', h1, h2, h3⟩
      · exact .inl h1
      · exact .inr ⟨a + 1, e', by rw [h1]; congr 1; omega, by simpa using h2, h3⟩
theorem find_cases (L : List Ent) (p : ByteArray) : findv L p = -1 ∨ ∃ (a : Nat) (e : Ent), findv L p = ((a : Nat) : Int) ∧ L[a]? = some e ∧ e.path = p := by
  rcases findFrom_cases L p 0 with h | ⟨a, e, h, h1, h2⟩
  · exact .inl h
  · exact .inr ⟨a, e, by rw [findv, h]; simp, h1, h2⟩
/-- The file that a hard link among the entries behind L asks for. -/
def fileIn (L : List Ent) (p : ByteArray) : Bool := L.any fun e => decide (e.path = p) && decide (e.kind = 0)
def fileAt (L : List Ent) (p : ByteArray) : Bool := if findv L p < 0 then false else decide ((L.getD (findv L p).toNat entD).kind = 0)
theorem fileAt_none {L : List Ent} {p : ByteArray} (h : findv L p = -1) : fileAt L p = false := by simp [fileAt, h]
theorem fileAt_some {L : List Ent} {p : ByteArray} {a : Nat} {e : Ent} (h : findv L p = (a : Int)) (he : L[a]? = some e) : fileAt L p = decide (e.kind = 0) := by
  rw [fileAt, h, if_neg (by omega)]
  simp [List.getD, he]
/-- What the i-th entry e of L must be. -/
def entAtOk (L : List Ent) (i : Nat) (e : Ent) : Bool := entOkv e && decide (findv L e.path = (i : Int)) && (if e.kind = 3 then fileAt (L.take i) e.link else true)
def listOkv (L : List Ent) : Bool := ((List.range L.length).all fun i => entAtOk L i (L.getD i entD)) && decide (L.length ≤ 30)
def OksTo (L : List Ent) (i : Nat) : Prop := ∀ j, j < i → entAtOk L j (L.getD j entD) = true
theorem OksTo.step {L : List Ent} {i : Nat} {e : Ent} (h : OksTo L i) (he : L[i]? = some e) (hk : entAtOk L i e = true) : OksTo L (i + 1) := by
  intro j hj
  by_cases e1 : j = i
  · subst e1; simpa [List.getD, he] using hk
  · exact h j (by omega)
theorem listOk_bad {L : List Ent} {i : Nat} {e : Ent} (he : L[i]? = some e) (hk : entAtOk L i e = false) : listOkv L = false := by
  have hlt : i < L.length := (List.getElem?_eq_some_iff.1 he).1
  cases h : listOkv L with
  | false => rfl
  | true =>
    simp only [listOkv, Bool.and_eq_true, List.all_eq_true] at h
    have := h.1 i (List.mem_range.2 hlt)
    simp only [List.getD, he, Option.getD_some] at this
    rw [hk] at this; cases this
theorem listOk_done {L : List Ent} (h : OksTo L L.length) : listOkv L = decide (L.length ≤ 30) := by
  have : ((List.range L.length).all fun i => entAtOk L i (L.getD i entD)) = true := List.all_eq_true.2 (fun i hi => h i (List.mem_range.1 hi))
  rw [listOkv, this]; simp
theorem small_parts {e : Ent} (h : esz e ≤ 4194304) : e.path.size ≤ 4194304 ∧ e.link.size ≤ 4194304 ∧ e.user.size ≤ 4194304 ∧ e.group.size ≤ 4194304 ∧ e.body.size ≤ 4194304 := by
  simp only [esz] at h
  omega
theorem SmallL.get {L : List Ent} (h : SmallL L) {i : Nat} {e : Ent} (he : L[i]? = some e) : esz e ≤ 4194304 := h e (List.mem_of_getElem? he)
theorem kept_cellF {x w1 : World} {g k : Nat} {t : Value} (h1 : Below x.heap.size x w1) (hg : g + 1 ≤ x.heap.size) (hc : x.cell? ⟨g, k, none⟩ = .some t) : w1.cell? ⟨g, k, none⟩ = .some t := (h1.cell (p := ⟨g, k, none⟩) hg).trans hc
set_option maxHeartbeats 1600000 in
theorem listOk_spec (L : List Ent) (n g cap : Nat) (w : World) (hn : n = L.length) (hm : n ≤ 4194304) (hcap : n ≤ cap) (hg : g < w.heap.size) (hsm : SmallL L) (h1 : RowE w g L) :
    Calls Tryz.prog 15 #[.slice (some ⟨g, 0, none⟩) n cap] w fun e w' => e = .returned (.bool (listOkv L)) ∧ Below w.heap.size w w' := by
  have H1 := Lib.hid h1
  have HG : Hid (∀ i, i < n → ∃ e, L[i]? = some e ∧ esz e ≤ 4194304) := Lib.hid (fun i hi => by obtain ⟨e, he⟩ := getE' (L := L) (i := i) (by omega); exact ⟨e, he, hsm.get he⟩)
  have HBad : Hid (∀ i e, L[i]? = some e → entAtOk L i e = false → listOkv L = false) := Lib.hid (fun i e he hk => listOk_bad he hk)
  have HDone : Hid (OksTo L n → listOkv L = decide (n ≤ 30)) := Lib.hid (by rw [hn]; exact listOk_done)
  have HF := Lib.hid (fun p w (hg : g < w.heap.size) (h : RowE w g L) => find_spec L p n g cap w hn hm hg h)
  have HFt := Lib.hid (fun i p w (hi : i ≤ n) (hg : g < w.heap.size) (h : RowE w g L) => find_spec (L.take i) p i g cap w (by simp; omega) (by omega) hg (h.take i))
  generalize listOkv L = r at HBad HDone
  clear h1 hn hsm
  go_enter Tryz.func15, Tryz.ntmps15
  go_wp2_with fail
  go_loopw [3] (fun u wr => ∃ i : Nat, u = .int .i64 i ∧ i ≤ n ∧ OksTo L i ∧ Below w.heap.size w wr) (fun u _ => n - (intOf u).toNat)
  case atStart => exact ⟨0, rfl, Nat.zero_le _, fun j hj => by omega, Below.refl _ _⟩
  case round =>
    obtain ⟨i, rfl, hi, hr, hb⟩ := hrel
    have HR := Lib.hid hr
    have B := Lib.hid hb
    clear hr hb
    by_cases hlt : i < n
    · have hlt2 : (i : Int) < (n : Int) := by omega
      obtain ⟨e, he, hz⟩ := HG.out i hlt
      have R := Lib.hid (H1.out.below B.out hg)
      obtain ⟨c0, c1, c2, c3, c4, c5, c6, c7, c8, c9⟩ := R.out.ten he
      have HBi := Lib.hid (HBad.out i e he)
      have HSi := Lib.hid (fun hk => HR.out.step he hk)
      clear he HBad HG
      have hsz := small_parts hz
      obtain ⟨k, p, l, m, u, g0, t, us, gr, b⟩ := e
      have HO := Lib.hid (fun w => entryOk_spec k p l m u g0 t us gr b w hsz.1 hsz.2.1 hsz.2.2.1 hsz.2.2.2.1 hsz.2.2.2.2)
      have HA : Hid (entAtOk L i ⟨k, p, l, m, u, g0, t, us, gr, b⟩ = (entOkv ⟨k, p, l, m, u, g0, t, us, gr, b⟩ && decide (findv L p = (i : Int)) && (if k = 3 then fileAt (L.take i) l else true))) := Lib.hid rfl
      generalize entAtOk L i ⟨k, p, l, m, u, g0, t, us, gr, b⟩ = ra at HA HBi HSi
      generalize entOkv ⟨k, p, l, m, u, g0, t, us, gr, b⟩ = b1 at HA HO
      have HFi := Lib.hid (HF.out p)
      have HFl := Lib.hid (fun w => HFt.out i l w hi)
      have HFc := Lib.hid (find_cases (L.take i) l)
      have HTk : Hid (∀ a e, (L.take i)[a]? = some e → a < i ∧ L[a]? = some e) := Lib.hid (fun a e h => by
        rw [List.getElem?_take] at h
        split at h
        · exact ⟨by assumption, h⟩
        · cases h)
      have HA1 : Hid (findv (L.take i) l = -1 → fileAt (L.take i) l = false) := Lib.hid fileAt_none
      have HA2 : Hid (∀ (a : Nat) e, findv (L.take i) l = (a : Int) → (L.take i)[a]? = some e → fileAt (L.take i) l = decide (e.kind = 0)) := Lib.hid (fun a e h he => fileAt_some h he)
      generalize findv L p = f1 at HA HFi
      generalize findv (L.take i) l = f2 at HFl HFc HA1 HA2
      generalize fileAt (L.take i) l = rf at HA HA1 HA2
      have zr : g < wr.heap.size := by have := B.out.size; omega
      go_wp2_with fail
      refine (HO.out _).mono ?_
      rintro e w1 ⟨rfl, hb⟩
      obtain ⟨k1, bb, z1⟩ := one_new (e1 := ⟨k, p, l, m, u, g0, t, us, gr, b⟩) hb
      have E1 := Lib.hid k1
      have R1 := Lib.hid (R.out.below bb zr)
      have B1 := Lib.hid (btE B.out bb)
      clear hb k1 bb c0 c1 c2 c3 c4 c5 c6 c7 c8 c9 R B HO
      obtain ⟨c0, c1, c2, c3, c4, c5, c6, c7, c8, c9⟩ := E1.out.zero
      cases b1 with
      | false =>
        go_wp2_with fail
        go_ret
        exact ⟨ret_bool (HBi.out (by rw [HA.out]; simp)).symm, B1.out⟩
      | true =>
        go_wp2_with fail
        refine (HFi.out _ (by omega) R1.out).mono ?_
        rintro e w2 ⟨rfl, hb⟩
        have E2 := Lib.hid (E1.out.below hb (by omega))
        have R2 := Lib.hid (R1.out.below hb (by omega))
        have B2 := Lib.hid (btE B1.out hb)
        have z2 := Nat.le_trans z1 hb.size
        clear hb c0 c1 c2 c3 c4 c5 c6 c7 c8 c9 E1 R1 B1 HFi
        obtain ⟨c0, c1, c2, c3, c4, c5, c6, c7, c8, c9⟩ := E2.out.zero
        by_cases hf : f1 = (i : Int)
        · by_cases hk : k = 3
          · subst hk
            have hic : (i : Int) ≤ (cap : Int) := by omega
            go_wp2_with fail
            have R3 : Hid (RowE w2.drew g L) := Lib.hid R2.out
            have B3 : Hid (Below w.heap.size w w2.drew) := Lib.hid B2.out.drew
            have z3 : wr.heap.size + 1 ≤ w2.drew.heap.size := z2
            have zg : g < w2.drew.heap.size := by omega
            clear R2 B2 z2
            go_region_held3 (fun w' => w'.cell? ⟨wr.heap.size, 2, none⟩ = some (.string l)) (assumption) (first | (go_at_call 31; refine (HFl.out _ zg R3.out).mono ?_; rintro e w3 ⟨rfl, hb⟩; have d2 := kept_cellF hb z3 c2; replace R3 := Lib.hid (R3.out.below hb zg); replace B3 := Lib.hid (btE B3.out hb); replace z3 := Nat.le_trans z3 hb.size; replace zg := Nat.lt_of_lt_of_le zg hb.size; clear hb))
            clear c0 c1 c2 c3 c4 c5 c6 c7 c8 c9 E2 HFl
            rcases HFc.out with h | ⟨a, e, h, he, _⟩
            · have HX : Hid (r = false) := Lib.hid (HBi.out (by rw [HA.out, HA1.out h]; simp))
              subst h
              clear HA HBi HSi HA1 HA2 HFc HTk
              go_wp2_with fail
              go_ret
              exact ⟨ret_bool HX.out.symm, B3.out⟩
            · subst h
              obtain ⟨ha, hLa⟩ := HTk.out a e he
              have HQ := Lib.hid (HA2.out a e rfl he)
              have ha2 : (a : Int) < (n : Int) := by omega
              obtain ⟨d0, _⟩ := R3.out.ten hLa
              clear he hLa
              generalize e.kind = ek at d0 HQ
              by_cases hek : ek = 0
              · subst hek
                have HS := Lib.hid (HSi.out (by rw [HA.out, HQ.out]; simp [hf]))
                clear HA HBi HSi HA1 HA2 HFc HTk HQ
                go_wp2_with fail
                go_roundw
                case rel => exact ⟨i + 1, by go_num, by omega, HS.out, B3.out⟩
                case measure => simp [intOf]; omega
              · have HX : Hid (r = false) := Lib.hid (HBi.out (by rw [HA.out, HQ.out]; simp [hek]))
                have hek2 : (ek != 0) = true := by simpa using hek
                clear HA HBi HSi HA1 HA2 HFc HTk HQ hek
                go_wp2_with fail
                go_ret
                exact ⟨ret_bool HX.out.symm, B3.out⟩
          · have HS := Lib.hid (HSi.out (by rw [HA.out]; simp [hf, hk]))
            clear HA HBi HSi HA1 HA2 HFc HTk
            go_wp2_with fail
            go_roundw
            case rel => exact ⟨i + 1, by go_num, by omega, HS.out, B2.out⟩
            case measure => simp [intOf]; omega
        · have HX : Hid (r = false) := Lib.hid (HBi.out (by rw [HA.out]; simp [hf]))
          clear HA HBi HSi HA1 HA2 HFc HTk
          go_wp2_with fail
          go_ret
          exact ⟨ret_bool HX.out.symm, B2.out⟩
    · obtain rfl : i = n := by omega
      have hlt2 : ¬ (i : Int) < (i : Int) := by omega
      have HFin := Lib.hid (HDone.out HR.out)
      go_wp2_with fail
      go_ret
      exact ⟨ret_bool (by rw [HFin.out]; simp; try omega), B.out⟩
end Go.Proofs.YtancidbbkoeokaaGreat

/- The cards of a list of entries and the entries of a list of cards: plain mathematics. -/
namespace Go.Proofs.YtancidbbkoeokaaGreat
open Go.RowKit

/-- The inode of an entry e that stands at i. -/
def inov (L : List Ent) (i : Nat) (e : Ent) : Int := if e.kind = 3 then findv L e.link + 1 else (i : Int) + 1
def inoAt (L : List Ent) (i : Nat) : Int := inov L i (L.getD i entD)
def modev (k : Int) : Int := if k = 1 then 16384 else if k = 2 then 40960 else 32768
def datav (e : Ent) : ByteArray := if e.kind = 2 then e.link else e.body
/-- How many of the first n entries have the inode x. -/
def countTo (L : List Ent) (x : Int) : Nat → Nat
  | 0 => 0
  | n + 1 => countTo L x n + if inoAt L n = x then 1 else 0
theorem countTo_le (L : List Ent) (x : Int) (n : Nat) : countTo L x n ≤ n := by
  induction n with
  | zero => exact Nat.le_refl _
  | succ n ih => rw [countTo]; split <;> omega
def cardv (L : List Ent) (i : Nat) (e : Ent) : Card := ⟨inov L i e, e.mode + modev e.kind, e.uid, e.gid, if e.kind = 1 then 2 else (countTo L (inov L i e) L.length : Nat), e.time, e.path, datav e⟩
def cardsTo (L : List Ent) : Nat → List Card
  | 0 => []
  | n + 1 => cardsTo L n ++ [cardv L n (L.getD n entD)]
def cardsv (L : List Ent) : List Card := if listOkv L then cardsTo L L.length else []
theorem cardsTo_len (L : List Ent) (n : Nat) : (cardsTo L n).length = n := by
  induction n with
  | zero => rfl
  | succ n ih => simp [cardsTo, ih]
theorem cardsTo_get (L : List Ent) (n i : Nat) (h : i < n) : (cardsTo L n)[i]? = some (cardv L i (L.getD i entD)) := by
  induction n with
  | zero => omega
  | succ n ih =>
    rw [cardsTo]
    by_cases e : i = n
    · subst e
      rw [List.getElem?_append_right (by rw [cardsTo_len]; omega), cardsTo_len]
      simp
    · rw [List.getElem?_append_left (by rw [cardsTo_len]; omega)]
      exact ih (by omega)
def zeroCd : Card := ⟨0, 0, 0, 0, 0, 0, ⟨#[]⟩, ⟨#[]⟩⟩
theorem getD_of {L : List Ent} {i : Nat} {e : Ent} (h : L[i]? = some e) : L.getD i entD = e := by simp [List.getD, h]
theorem inoAt_of {L : List Ent} {i : Nat} {e : Ent} (h : L[i]? = some e) : inoAt L i = inov L i e := by rw [inoAt, getD_of h]
/-- What a list that is in order says of its i-th entry. -/
theorem listOk_at {L : List Ent} (h : listOkv L = true) {i : Nat} {e : Ent} (he : L[i]? = some e) : entOkv e = true ∧ findv L e.path = (i : Int) ∧ (e.kind = 3 → fileAt (L.take i) e.link = true) := by
  have hlt : i < L.length := (List.getElem?_eq_some_iff.1 he).1
  simp only [listOkv, Bool.and_eq_true, List.all_eq_true] at h
  have h1 := h.1 i (List.mem_range.2 hlt)
  rw [getD_of he] at h1
  simp only [entAtOk, Bool.and_eq_true, decide_eq_true_eq] at h1
  refine ⟨h1.1.1, h1.1.2, fun hk => ?_⟩
  have h2 := h1.2
  rwa [if_pos hk] at h2
theorem listOk_len {L : List Ent} (h : listOkv L = true) : L.length ≤ 30 := by
  simp only [listOkv, Bool.and_eq_true, decide_eq_true_eq] at h
  exact h.2
theorem entOk_facts {e : Ent} (h : entOkv e = true) : (0 ≤ e.mode ∧ e.mode ≤ 4095) ∧ (0 ≤ e.uid ∧ e.uid ≤ 4294967295) ∧ (0 ≤ e.gid ∧ e.gid ≤ 4294967295) ∧ (0 ≤ e.time ∧ e.time ≤ 99999999999) ∧ kindOk e.kind e.path e.link e.body = true := by
  simp only [entOkv, Bool.and_eq_true, inB, decide_eq_true_eq] at h
  obtain ⟨⟨⟨⟨⟨⟨⟨_, hm⟩, hu⟩, hg⟩, ht⟩, _⟩, _⟩, hk⟩ := h
  exact ⟨hm, hu, hg, ht, hk⟩
theorem kind_facts {k : Int} {p l b : ByteArray} (h : kindOk k p l b = true) : (k = 0 ∧ l.size = 0) ∨ (k = 1 ∧ l.size = 0 ∧ b.size = 0) ∨ (k = 2 ∧ b.size = 0) ∨ (k = 3 ∧ b.size = 0) := by
  unfold kindOk at h
  split at h
  · simp only [Bool.and_eq_true, decide_eq_true_eq] at h; exact .inl ⟨by assumption, h.1⟩
  · split at h
    · simp only [Bool.and_eq_true, decide_eq_true_eq] at h; exact .inr (.inl ⟨by assumption, h.1, h.2⟩)
    · split at h
      · simp only [Bool.and_eq_true, decide_eq_true_eq] at h; exact .inr (.inr (.inl ⟨by assumption, h.2⟩))
      · split at h
        · simp only [Bool.and_eq_true, decide_eq_true_eq] at h; exact .inr (.inr (.inr ⟨by assumption, h.2⟩))
        · cases h
theorem ba_nil {b : ByteArray} (h : b.size = 0) : b = ⟨#[]⟩ := by
  obtain ⟨⟨l⟩⟩ := b
  cases l with
  | nil => rfl
  | cons x xs => simp [ByteArray.size] at h
/-- The file that a hard link of a list in order leads to. -/
theorem hard_at {L : List Ent} (h : listOkv L = true) {i : Nat} {e : Ent} (he : L[i]? = some e) (hk : e.kind = 3) : ∃ (j : Nat) (f : Ent), j < i ∧ L[j]? = some f ∧ findv L e.link = (j : Int) ∧ f.kind = 0 ∧ f.path = e.link := by
  have h1 := (listOk_at h he).2.2 hk
  rcases find_cases (L.take i) e.link with h2 | ⟨a, f, h2, h3, h4⟩
  · rw [fileAt_none h2] at h1; cases h1
  · rw [fileAt_some h2 h3, decide_eq_true_eq] at h1
    have ha : a < i := by
      have := (List.getElem?_eq_some_iff.1 h3).1
      simp at this
      omega
    have hf : L[a]? = some f := by rw [List.getElem?_take_of_lt ha] at h3; exact h3
    exact ⟨a, f, ha, hf, by rw [← h4]; exact (listOk_at h hf).2.1, h1, h4⟩
/-- An inode is one of a place no later than its own. -/
theorem ino_bounds {L : List Ent} (h : listOkv L = true) {i : Nat} {e : Ent} (he : L[i]? = some e) : 1 ≤ inov L i e ∧ inov L i e ≤ i + 1 ∧ (e.kind = 3 → inov L i e ≤ i) := by
  unfold inov
  by_cases hk : e.kind = 3
  · obtain ⟨j, f, hj, _, h1, _⟩ := hard_at h he hk
    rw [if_pos hk, h1]
    omega
  · rw [if_neg hk]
    omega
theorem ino_plain {L : List Ent} {i : Nat} {e : Ent} (hk : ¬ e.kind = 3) : inov L i e = i + 1 := by rw [inov, if_neg hk]
/-- The entry of a card, by those ahead of it: the model's way. -/
def modeOf (m : Int) : Int := m % 4096
def entS (A : List Card) (c : Card) : Ent :=
  if c.Mode - modeOf c.Mode = 16384 then ⟨1, c.Path, ⟨#[]⟩, modeOf c.Mode, c.Uid, c.Gid, c.Time, ⟨#[]⟩, ⟨#[]⟩, ⟨#[]⟩⟩
  else if c.Mode - modeOf c.Mode = 40960 then ⟨2, c.Path, c.Data, modeOf c.Mode, c.Uid, c.Gid, c.Time, ⟨#[]⟩, ⟨#[]⟩, ⟨#[]⟩⟩
  else match A.find? (fun a => decide (a.Ino = c.Ino)) with
    | some a => ⟨3, c.Path, a.Path, modeOf c.Mode, c.Uid, c.Gid, c.Time, ⟨#[]⟩, ⟨#[]⟩, ⟨#[]⟩⟩
    | none => ⟨0, c.Path, ⟨#[]⟩, modeOf c.Mode, c.Uid, c.Gid, c.Time, ⟨#[]⟩, ⟨#[]⟩, c.Data⟩
/-- The entry of a card by its place: the program's way. -/
def pathOfIno (C : List Card) (n : Int) : ByteArray := if n < 1 ∨ (C.length : Int) < n then ⟨#[]⟩ else (C.getD (n - 1).toNat zeroCd).Path
def entI (C : List Card) (i : Nat) (c : Card) : Ent :=
  if c.Mode - modeOf c.Mode = 16384 then ⟨1, c.Path, ⟨#[]⟩, modeOf c.Mode, c.Uid, c.Gid, c.Time, ⟨#[]⟩, ⟨#[]⟩, ⟨#[]⟩⟩
  else if c.Mode - modeOf c.Mode = 40960 then ⟨2, c.Path, c.Data, modeOf c.Mode, c.Uid, c.Gid, c.Time, ⟨#[]⟩, ⟨#[]⟩, ⟨#[]⟩⟩
  else if c.Ino = (i : Int) + 1 then ⟨0, c.Path, ⟨#[]⟩, modeOf c.Mode, c.Uid, c.Gid, c.Time, ⟨#[]⟩, ⟨#[]⟩, c.Data⟩
  else ⟨3, c.Path, pathOfIno C c.Ino, modeOf c.Mode, c.Uid, c.Gid, c.Time, ⟨#[]⟩, ⟨#[]⟩, ⟨#[]⟩⟩
def entsS (C : List Card) : Nat → List Ent
  | 0 => []
  | n + 1 => entsS C n ++ [entS (C.take n) (C.getD n zeroCd)]
def entsI (C : List Card) : Nat → List Ent
  | 0 => []
  | n + 1 => entsI C n ++ [entI C n (C.getD n zeroCd)]
theorem entsS_len (C : List Card) (n : Nat) : (entsS C n).length = n := by
  induction n with
  | zero => rfl
  | succ n ih => simp [entsS, ih]
theorem entsI_len (C : List Card) (n : Nat) : (entsI C n).length = n := by
  induction n with
  | zero => rfl
  | succ n ih => simp [entsI, ih]
theorem entsS_get (C : List Card) (n i : Nat) (h : i < n) : (entsS C n)[i]? = some (entS (C.take i) (C.getD i zeroCd)) := by
  induction n with
  | zero => omega
  | succ n ih =>
    rw [entsS]
    by_cases e : i = n
    · subst e
      rw [List.getElem?_append_right (by rw [entsS_len]; omega), entsS_len]
      simp
    · rw [List.getElem?_append_left (by rw [entsS_len]; omega)]
      exact ih (by omega)
theorem entsI_get (C : List Card) (n i : Nat) (h : i < n) : (entsI C n)[i]? = some (entI C i (C.getD i zeroCd)) := by
  induction n with
  | zero => omega
  | succ n ih =>
    rw [entsI]
    by_cases e : i = n
    · subst e
      rw [List.getElem?_append_right (by rw [entsI_len]; omega), entsI_len]
      simp
    · rw [List.getElem?_append_left (by rw [entsI_len]; omega)]
      exact ih (by omega)
/-- No user and no group. -/
def bareE (e : Ent) : Prop := e.user = ⟨#[]⟩ ∧ e.group = ⟨#[]⟩
theorem bareS (A : List Card) (c : Card) : bareE (entS A c) := by
  unfold entS
  split
  · exact ⟨rfl, rfl⟩
  · split
    · exact ⟨rfl, rfl⟩
    · split <;> exact ⟨rfl, rfl⟩
theorem bareI (C : List Card) (i : Nat) (c : Card) : bareE (entI C i c) := by
  unfold entI
  split
  · exact ⟨rfl, rfl⟩
  · split
    · exact ⟨rfl, rfl⟩
    · split <;> exact ⟨rfl, rfl⟩
theorem cardsv_ok {L : List Ent} (h : listOkv L = true) : cardsv L = cardsTo L L.length := by rw [cardsv, if_pos h]
theorem cardsv_get {L : List Ent} (h : listOkv L = true) {i : Nat} {e : Ent} (he : L[i]? = some e) : (cardsv L)[i]? = some (cardv L i e) := by
  rw [cardsv_ok h, cardsTo_get _ _ _ (List.getElem?_eq_some_iff.1 he).1, getD_of he]
theorem cardsv_len {L : List Ent} (h : listOkv L = true) : (cardsv L).length = L.length := by rw [cardsv_ok h, cardsTo_len]
theorem mode_parts {m k : Int} (h0 : 0 ≤ m) (h1 : m ≤ 4095) : modeOf (m + modev k) = m ∧ m + modev k - m = modev k := by
  unfold modeOf modev
  constructor
  · split
    · omega
    · split <;> omega
  · omega
theorem modev_cases {k : Int} : (k = 1 → modev k = 16384) ∧ (k = 2 → modev k = 40960) ∧ (¬ k = 1 → ¬ k = 2 → modev k = 32768) := by
  refine ⟨fun h => by rw [modev, if_pos h], fun h => by rw [modev, if_neg (by omega), if_pos h], fun h1 h2 => by rw [modev, if_neg h1, if_neg h2]⟩
theorem find_first {L : List Ent} (h : listOkv L = true) {i j : Nat} {f : Ent} (hj : j < i) (hf : L[j]? = some f) (hk : f.kind = 0) (hi : i ≤ L.length) : ((cardsv L).take i).find? (fun a => decide (a.Ino = (j : Int) + 1)) = some (cardv L j f) := by
  have hg := cardsv_get h hf
  have hlen := cardsv_len h
  rw [List.find?_eq_some_iff_getElem]
  refine ⟨by simp [cardv, ino_plain (L := L) (i := j) (e := f) (by omega)], j, by simp; omega, ?_, ?_⟩
  · rw [List.getElem_take]
    have := (List.getElem?_eq_some_iff.1 hg)
    obtain ⟨_, hq⟩ := this
    exact hq
  · intro k hk'
    rw [List.getElem_take]
    have hkl : k < L.length := by omega
    have he : L[k]? = some L[k] := List.getElem?_eq_getElem hkl
    have hc := cardsv_get h he
    obtain ⟨_, hq⟩ := List.getElem?_eq_some_iff.1 hc
    rw [hq]
    have hb := ino_bounds h he
    show (!decide (inov L k L[k] = (j : Int) + 1)) = true
    rw [decide_eq_false (by omega)]
    rfl
theorem find_none {L : List Ent} (h : listOkv L = true) {i : Nat} (hi : i ≤ L.length) : ((cardsv L).take i).find? (fun a => decide (a.Ino = (i : Int) + 1)) = none := by
  rw [List.find?_eq_none]
  intro c hc
  obtain ⟨k, hk⟩ := List.mem_iff_getElem?.1 hc
  have hki : k < i := by
    have := (List.getElem?_eq_some_iff.1 hk).1
    simp at this
    omega
  rw [List.getElem?_take_of_lt hki] at hk
  have he : L[k]? = some L[k] := List.getElem?_eq_getElem (by omega)
  rw [cardsv_get h he] at hk
  obtain rfl := Option.some.inj hk
  have hb := ino_bounds h he
  show ¬ decide (inov L k L[k] = (i : Int) + 1) = true
  rw [decide_eq_false (by omega)]
  simp
theorem ent_eta (e : Ent) (h : bareE e) : e = ⟨e.kind, e.path, e.link, e.mode, e.uid, e.gid, e.time, ⟨#[]⟩, ⟨#[]⟩, e.body⟩ := by
  obtain ⟨k, p, l, m, u, g, t, us, gr, b⟩ := e
  obtain ⟨rfl, rfl⟩ := h
  rfl
theorem back_S {L : List Ent} (h : listOkv L = true) {i : Nat} {e : Ent} (he : L[i]? = some e) (hb : bareE e) : entS ((cardsv L).take i) (cardv L i e) = e := by
  obtain ⟨hm, hu, hg, ht, hk⟩ := entOk_facts (listOk_at h he).1
  have hlt : i < L.length := (List.getElem?_eq_some_iff.1 he).1
  obtain ⟨q1, q2⟩ := mode_parts (k := e.kind) hm.1 hm.2
  conv => rhs; rw [ent_eta e hb]
  unfold entS
  simp only [cardv, q1, q2]
  rcases kind_facts hk with ⟨k0, hl⟩ | ⟨k0, hl, hbd⟩ | ⟨k0, hbd⟩ | ⟨k0, hbd⟩
  · rw [modev_cases.2.2 (by omega) (by omega), if_neg (by decide), if_neg (by decide)]
    simp only [inov, k0, if_neg (show ¬ (0 : Int) = 3 by decide), find_none h (Nat.le_of_lt hlt)]
    simp [datav, k0, ba_nil hl]
  · rw [modev_cases.1 k0, if_pos rfl]
    simp [k0, ba_nil hl, ba_nil hbd]
  · rw [modev_cases.2.1 k0, if_neg (by decide), if_pos rfl]
    simp [datav, k0, ba_nil hbd]
  · obtain ⟨j, f, hj, hf, h1, h2, h3⟩ := hard_at h he k0
    rw [modev_cases.2.2 (by omega) (by omega), if_neg (by decide), if_neg (by decide)]
    simp only [inov, k0, if_true, h1, find_first h hj hf h2 (Nat.le_of_lt hlt)]
    simp [cardv, h3, ba_nil hbd]
theorem back_I {L : List Ent} (h : listOkv L = true) {i : Nat} {e : Ent} (he : L[i]? = some e) (hb : bareE e) : entI (cardsv L) i (cardv L i e) = e := by
  obtain ⟨hm, hu, hg, ht, hk⟩ := entOk_facts (listOk_at h he).1
  have hlt : i < L.length := (List.getElem?_eq_some_iff.1 he).1
  obtain ⟨q1, q2⟩ := mode_parts (k := e.kind) hm.1 hm.2
  conv => rhs; rw [ent_eta e hb]
  unfold entI
  simp only [cardv, q1, q2]
  rcases kind_facts hk with ⟨k0, hl⟩ | ⟨k0, hl, hbd⟩ | ⟨k0, hbd⟩ | ⟨k0, hbd⟩
  · rw [modev_cases.2.2 (by omega) (by omega), if_neg (by decide), if_neg (by decide), ino_plain (by omega), if_pos rfl]
    simp [datav, k0, ba_nil hl]
  · rw [modev_cases.1 k0, if_pos rfl]
    simp [k0, ba_nil hl, ba_nil hbd]
  · rw [modev_cases.2.1 k0, if_neg (by decide), if_pos rfl]
    simp [datav, k0, ba_nil hbd]
  · obtain ⟨j, f, hj, hf, h1, h2, h3⟩ := hard_at h he k0
    have hi : inov L i e = (j : Int) + 1 := by rw [inov, if_pos k0, h1]
    have hc := cardsv_get h hf
    rw [modev_cases.2.2 (by omega) (by omega), if_neg (by decide), if_neg (by decide), hi, if_neg (by omega)]
    have hp : pathOfIno (cardsv L) ((j : Int) + 1) = e.link := by
      rw [pathOfIno, if_neg (by rw [cardsv_len h]; omega), show ((j : Int) + 1 - 1).toNat = j from by omega]
      simp [List.getD, hc, cardv, h3]
    rw [hp]
    simp [k0, ba_nil hbd]
theorem entsS_back {L : List Ent} (h : listOkv L = true) (hb : ∀ e ∈ L, bareE e) : entsS (cardsv L) (cardsv L).length = L := by
  apply List.ext_getElem?
  intro i
  rw [cardsv_len h]
  by_cases hlt : i < L.length
  · have he : L[i]? = some L[i] := List.getElem?_eq_getElem hlt
    rw [entsS_get _ _ _ hlt, he]
    have hc := cardsv_get h he
    rw [show (cardsv L).getD i zeroCd = cardv L i L[i] from by simp [List.getD, hc]]
    rw [back_S h he (hb _ (List.mem_of_getElem? he))]
  · rw [List.getElem?_eq_none (by rw [entsS_len]; omega), List.getElem?_eq_none (by omega)]
theorem entsI_back {L : List Ent} (h : listOkv L = true) (hb : ∀ e ∈ L, bareE e) : entsI (cardsv L) (cardsv L).length = L := by
  apply List.ext_getElem?
  intro i
  rw [cardsv_len h]
  by_cases hlt : i < L.length
  · have he : L[i]? = some L[i] := List.getElem?_eq_getElem hlt
    rw [entsI_get _ _ _ hlt, he]
    have hc := cardsv_get h he
    rw [show (cardsv L).getD i zeroCd = cardv L i L[i] from by simp [List.getD, hc]]
    rw [back_I h he (hb _ (List.mem_of_getElem? he))]
  · rw [List.getElem?_eq_none (by rw [entsI_len]; omega), List.getElem?_eq_none (by omega)]
theorem entsS_bare (C : List Card) (n : Nat) : ∀ e ∈ entsS C n, bareE e := by
  induction n with
  | zero => intro e he; cases he
  | succ n ih =>
    intro e he
    rw [entsS, List.mem_append] at he
    rcases he with h | h
    · exact ih e h
    · rw [List.mem_singleton] at h; subst h; exact bareS _ _
theorem entsI_bare (C : List Card) (n : Nat) : ∀ e ∈ entsI C n, bareE e := by
  induction n with
  | zero => intro e he; cases he
  | succ n ih =>
    intro e he
    rw [entsI, List.mem_append] at he
    rcases he with h | h
    · exact ih e h
    · rw [List.mem_singleton] at h; subst h; exact bareI _ _ _
/-- Both ways accept the same cards, and read the same entries of them. -/
def okS (C : List Card) : Bool := listOkv (entsS C C.length) && decide (cardsv (entsS C C.length) = C)
def okI (C : List Card) : Bool := decide (cardsv (entsI C C.length) = C)
theorem entries_same (C : List Card) (h : okS C = true ∨ okI C = true) : okS C = true ∧ okI C = true ∧ entsI C C.length = entsS C C.length := by
  have key : ∀ L : List Ent, listOkv L = true → (∀ e ∈ L, bareE e) → cardsv L = C → okS C = true ∧ okI C = true ∧ entsI C C.length = entsS C C.length := by
    intro L h1 h2 h3
    have s := entsS_back h1 h2
    have i := entsI_back h1 h2
    rw [h3] at s i
    exact ⟨by simp [okS, s, h1, h3], by simp [okI, i, h3], by rw [s, i]⟩
  rcases h with h | h
  · simp only [okS, Bool.and_eq_true, decide_eq_true_eq] at h
    exact key _ h.1 (entsS_bare _ _) h.2
  · simp only [okI, decide_eq_true_eq] at h
    by_cases hk : listOkv (entsI C C.length) = true
    · exact key _ hk (entsI_bare _ _) h
    · have h0 : C = [] := by rw [← h, cardsv, if_neg hk]
      subst h0
      exact ⟨rfl, rfl, rfl⟩
def entriesv (C : List Card) : List Ent := if okS C then entsS C C.length else []
theorem okI_eq (C : List Card) : okI C = okS C := by
  cases h1 : okS C with
  | true => exact (entries_same C (.inl h1)).2.1
  | false =>
    cases h2 : okI C with
    | false => rfl
    | true => rw [(entries_same C (.inr h2)).1] at h1; cases h1
theorem cardsv_le (L : List Ent) : (cardsv L).length ≤ L.length := by
  unfold cardsv
  split
  · rw [cardsTo_len]; exact Nat.le_refl _
  · exact Nat.zero_le _
theorem entriesv_le (C : List Card) : (entriesv C).length ≤ C.length := by
  unfold entriesv
  split
  · rw [entsS_len]; exact Nat.le_refl _
  · exact Nat.zero_le _
end Go.Proofs.YtancidbbkoeokaaGreat

/- Slices of Card: laws.toCardS, laws.szCardS; rows of them in memory as lists (RowC, OwnC). -/
namespace Go.Proofs.YtancidbbkoeokaaGreat
open Go.ChangeShapes Go.WideShapes Go.ChangeAt Go.RowKit Go.Deep

theorem Tryz.infoC : (Tryz.prog.info? 44).map (fun i => (i.zero, i.size, i.bytes)) = some (some (.agg #[.int .i64 0, .int .i64 0, .int .i64 0, .int .i64 0, .int .i64 0, .int .i64 0, .string ⟨#[]⟩, .string ⟨#[]⟩]), 8, 80) := by kernel_rfl
def zeroC : Card := ⟨0, 0, 0, 0, 0, 0, ⟨#[]⟩, ⟨#[]⟩⟩
def setC (ys : List Value) (o : Nat) (e : Card) : List Value := ((((((((ys.set o (.int .i64 e.Ino)).set (o + 1) (.int .i64 e.Mode)).set (o + 2) (.int .i64 e.Uid)).set (o + 3) (.int .i64 e.Gid)).set (o + 4) (.int .i64 e.Count)).set (o + 5) (.int .i64 e.Time)).set (o + 6) (.string e.Path)).set (o + 7) (.string e.Data))
def FillC (ys : List Value) (n : Nat) (E : Nat → Card) : Prop := ∀ k, k < n → ∀ j, j < 8 → ys[k * 8 + j]? = (E k).cells[j]?
theorem setC_in (ys : List Value) (o : Nat) (e : Card) (h : o + 8 ≤ ys.length) (j : Nat) (hj : j < 8) : (setC ys o e)[o + j]? = e.cells[j]? := by
  match j, hj with
  | 0, _ => simp [setC, Card.cells, List.getElem?_set]; try omega
  | 1, _ => simp [setC, Card.cells, List.getElem?_set]; try omega
  | 2, _ => simp [setC, Card.cells, List.getElem?_set]; try omega
  | 3, _ => simp [setC, Card.cells, List.getElem?_set]; try omega
  | 4, _ => simp [setC, Card.cells, List.getElem?_set]; try omega
  | 5, _ => simp [setC, Card.cells, List.getElem?_set]; try omega
  | 6, _ => simp [setC, Card.cells, List.getElem?_set]; try omega
  | 7, _ => simp [setC, Card.cells, List.getElem?_set]; try omega
theorem setC_out (ys : List Value) (o : Nat) (e : Card) (m : Nat) (hm : m < o) : (setC ys o e)[m]? = ys[m]? := by
  simp only [setC]
  rw [List.getElem?_set_ne (by omega), List.getElem?_set_ne (by omega), List.getElem?_set_ne (by omega), List.getElem?_set_ne (by omega), List.getElem?_set_ne (by omega), List.getElem?_set_ne (by omega), List.getElem?_set_ne (by omega), List.getElem?_set_ne (by omega)]
theorem FillC.step {ys : List Value} {i : Nat} {E : Nat → Card} (h : FillC ys i E) (hl : i * 8 + 8 ≤ ys.length) : FillC (setC ys (i * 8) (E i)) (i + 1) E := by
  intro k hk j hj
  by_cases e : k = i
  · subst e; exact setC_in ys _ _ hl j hj
  · rw [setC_out _ _ _ _ (by omega)]; exact h k (by omega) j hj
def putC (w : World) (g o : Nat) (e : Card) : World := ((((((((w.setCell ⟨g, o, none⟩ (.int .i64 e.Ino)).setCell ⟨g, o + 1, none⟩ (.int .i64 e.Mode)).setCell ⟨g, o + 2, none⟩ (.int .i64 e.Uid)).setCell ⟨g, o + 3, none⟩ (.int .i64 e.Gid)).setCell ⟨g, o + 4, none⟩ (.int .i64 e.Count)).setCell ⟨g, o + 5, none⟩ (.int .i64 e.Time)).setCell ⟨g, o + 6, none⟩ (.string e.Path)).setCell ⟨g, o + 7, none⟩ (.string e.Data))
theorem cell_blkC {w : World} {a : Addr} {v : Value} (h : w.cell? a = some v) : a.block < w.heap.size := by
  by_cases hb : a.block < w.heap.size
  · exact hb
  · exfalso
    unfold World.cell? at h
    rw [Array.getElem?_eq_none (by omega)] at h
    cases a.spot <;> simp_all
/-- The letters of its texts. -/
def szC (e : Card) : Nat := e.Path.size + e.Data.size
def totCf (E : Nat → Card) : Nat → Nat
  | 0 => 0
  | n + 1 => totCf E n + szC (E n)
def SzSC (E : Nat → Card) (len : Nat) (left : Int) (w : World) (e : Ending) (w' : World) : Prop :=
  (∃ r : Int, e = .returned (.int .i64 r) ∧ (r = -1 ∨ 0 ≤ r ∧ (len : Int) + totCf E len + r = left)) ∧ Below w.heap.size w w'
def valsC (L : List Card) : List Value := L.flatMap Card.cells
theorem cells_lenC (e : Card) : e.cells.length = 8 := rfl
theorem valsC_len (L : List Card) : (valsC L).length = L.length * 8 := by
  induction L with
  | nil => rfl
  | cons e L ih => simp only [valsC, List.flatMap_cons, List.length_append, cells_lenC, List.length_cons] at ih ⊢; omega
theorem valsC_app (L M : List Card) : valsC (L ++ M) = valsC L ++ valsC M := by simp [valsC]
theorem valsC_one (e : Card) : valsC [e] = e.cells := by simp [valsC]
theorem valsC_get (L : List Card) (i j : Nat) (hj : j < 8) : (valsC L)[i * 8 + j]? = L[i]?.bind (fun e => e.cells[j]?) := by
  induction L generalizing i with
  | nil => simp [valsC]
  | cons e L ih =>
    simp only [valsC, List.flatMap_cons] at ih ⊢
    cases i with
    | zero =>
      rw [List.getElem?_append_left (by rw [cells_lenC]; omega)]
      simp
    | succ i =>
      rw [List.getElem?_append_right (by rw [cells_lenC]; omega), cells_lenC, show (i + 1) * 8 + j - 8 = i * 8 + j from by omega, ih]
      simp
theorem valsC_onecell (L : List Card) : ∀ u ∈ valsC L, u.oneCell' = true := by
  intro u hu
  simp only [valsC, List.mem_flatMap] at hu
  obtain ⟨e, _, he⟩ := hu
  simp only [Card.cells, List.mem_cons, List.not_mem_nil, or_false] at he
  rcases he with rfl | rfl | rfl | rfl | rfl | rfl | rfl | rfl <;> rfl
/-- The cells of block g, from its first on, are the list. -/
def RowC (w : World) (g : Nat) (L : List Card) : Prop := ∀ k u, (valsC L)[k]? = some u → w.cell? ⟨g, k, none⟩ = some u
theorem RowC.below {w w' : World} {g B : Nat} {L : List Card} (h : RowC w g L) (hb : Below B w w') (hg : g < B) : RowC w' g L :=
  fun k u hu => (hb.cell (p := ⟨g, k, none⟩) hg).trans (h k u hu)
theorem RowC.grown {w w' : World} {g : Nat} {row : Option Nat} {L : List Card} (h : RowC w g L) (hb : w.grownBy w' row) (hg : some g ≠ row) : RowC w' g L :=
  fun k u hu => hb.cell (h k u hu) hg
theorem RowC.cols {w : World} {g : Nat} {L : List Card} (h : RowC w g L) {i : Nat} {e : Card} (hi : L[i]? = some e) : w.cell? ⟨g, i * 8, none⟩ = some (.int .i64 e.Ino) ∧ w.cell? ⟨g, i * 8 + 1, none⟩ = some (.int .i64 e.Mode) ∧ w.cell? ⟨g, i * 8 + 2, none⟩ = some (.int .i64 e.Uid) ∧ w.cell? ⟨g, i * 8 + 3, none⟩ = some (.int .i64 e.Gid) ∧ w.cell? ⟨g, i * 8 + 4, none⟩ = some (.int .i64 e.Count) ∧ w.cell? ⟨g, i * 8 + 5, none⟩ = some (.int .i64 e.Time) ∧ w.cell? ⟨g, i * 8 + 6, none⟩ = some (.string e.Path) ∧ w.cell? ⟨g, i * 8 + 7, none⟩ = some (.string e.Data) := by
  have H : ∀ j u, j < 8 → e.cells[j]? = some u → w.cell? ⟨g, i * 8 + j, none⟩ = some u := fun j u hj hu => h _ u (by rw [valsC_get _ _ _ hj, hi]; exact hu)
  exact ⟨H 0 _ (by omega) rfl, H 1 _ (by omega) rfl, H 2 _ (by omega) rfl, H 3 _ (by omega) rfl, H 4 _ (by omega) rfl, H 5 _ (by omega) rfl, H 6 _ (by omega) rfl, H 7 _ (by omega) rfl⟩
/-- A row of the call's own that is not nil. -/
def OwnC (w : World) (base : Nat) (v : Value) (L : List Card) : Prop := w.ownsRow base 44 8 v L.length (valsC L) ∧ ∃ g cap, v = .slice (some ⟨g, 0, none⟩) L.length cap
theorem OwnC.row {w : World} {base g n cap : Nat} {L : List Card} (h : OwnC w base (.slice (some ⟨g, 0, none⟩) n cap) L) : RowC w g L ∧ g < w.heap.size ∧ base ≤ g ∧ n = L.length := by
  refine ⟨fun k u hu => ?_, (World.ownsRow.lt h.1 g rfl).2, (World.ownsRow.lt h.1 g rfl).1, ?_⟩
  · have := World.ownsRow.cells h.1 (g := g) rfl k u hu
    rwa [show (⟨g, 0, none⟩ : Addr).add k = ⟨g, k, none⟩ from by unfold Addr.add; split <;> simp_all] at this
  · obtain ⟨g', cap', e⟩ := h.2
    simp at e
    exact e.2.1
theorem OwnC.open {w : World} {base : Nat} {v : Value} {L : List Card} (h : OwnC w base v L) : ∃ g cap, v = .slice (some ⟨g, 0, none⟩) L.length cap ∧ RowC w g L ∧ g < w.heap.size ∧ base ≤ g ∧ w.ownsRow base 44 8 (.slice (some ⟨g, 0, none⟩) L.length cap) L.length (valsC L) := by
  obtain ⟨ho, g, cap, rfl⟩ := h
  have hr := OwnC.row (w := w) ⟨ho, g, cap, rfl⟩
  exact ⟨g, cap, rfl, hr.1, hr.2.1, hr.2.2.1, ho⟩
theorem OwnC.keep {w w' : World} {base : Nat} {v : Value} {L : List Card} (h : OwnC w base v L) (hb : Below w.heap.size w w') : OwnC w' base v L := by
  obtain ⟨ho, g, cap, rfl⟩ := h
  exact ⟨World.ownsRow.kept ho (w' := w') (row := none) ⟨hb.os, hb.tape, hb.output, hb.size, fun k hk _ => hb.block k hk⟩ (.inr (by simp [Value.ownBlock])), g, cap, rfl⟩
theorem OwnC.kept {w w' : World} {base g n cap : Nat} {row : Option Nat} {L : List Card} (h : OwnC w base (.slice (some ⟨g, 0, none⟩) n cap) L) (hb : w.grownBy w' row) (hg : some g ≠ row) : OwnC w' base (.slice (some ⟨g, 0, none⟩) n cap) L :=
  ⟨World.ownsRow.kept h.1 hb (.inr (by simpa [Value.ownBlock] using hg)), h.2⟩
theorem OwnC.weak {w : World} {base base' : Nat} {v : Value} {L : List Card} (h : OwnC w base v L) (hb : base' ≤ base) : OwnC w base' v L := by
  refine ⟨⟨h.1.1, ?_⟩, h.2⟩
  rcases h.1.2 with h' | ⟨g', cap', cur, h', hx, rest⟩
  · exact .inl h'
  · exact .inr ⟨g', cap', cur, h', Nat.le_trans hb hx, rest⟩
theorem OwnC.lit {w : World} {base : Nat} (hb : base ≤ w.heap.size) : OwnC (w.alloc (.cells #[] 44)) base (.slice (some ⟨w.heap.size, 0, none⟩) 0 0) [] :=
  ⟨World.ownsRow_lit w #[] 0 hb (by simp) rfl, _, _, rfl⟩
theorem own_appC {w1 : World} {base : Nat} {v' : Value} {D M : List Card} {n m : Nat} (h : w1.ownsRow base 44 8 v' (n + m) (valsC D ++ valsC M)) (hn : n = D.length) (hm : m = M.length) (hnil : ¬ v' = .slice none 0 0) : OwnC w1 base v' (D ++ M) := by
  subst hn; subst hm
  rw [← valsC_app, show D.length + M.length = (D ++ M).length from by simp] at h
  refine ⟨h, ?_⟩
  obtain ⟨_, ⟨rfl, _⟩ | ⟨g', cap', cur, rfl, _⟩⟩ := h
  · exact absurd rfl hnil
  · exact ⟨g', cap', rfl⟩
theorem RowC.news0 {w : World} {g : Nat} {L : List Card} (h : RowC w g L) : ∀ j u, (valsC L)[j]? = some u → w.cell? ((⟨g, 0, none⟩ : Addr).add j) = some u := by
  intro j u hu
  rw [show (⟨g, 0, none⟩ : Addr).add j = ⟨g, j, none⟩ from by unfold Addr.add; split <;> simp_all]
  exact h _ u hu
theorem IsRowC.below {w w' : World} {a : Option Addr} {len cap : Nat} {es : List Card} (h : IsRowC w a len cap es) (hb : Below w.heap.size w w') : IsRowC w' a len cap es := by
  rcases h with h | ⟨x, hx, hl, hm, hn, hc⟩
  · exact .inl h
  · refine .inr ⟨x, hx, hl, hm, hn, fun i hi => ⟨fun j hj => ?_, (hc i hi).2⟩⟩
    have h1 := (hc i hi).1 j hj
    have hsome : ∃ v, w.cell? (x.add (i * 8 + j)) = some v := by
      rw [h1]
      exact ⟨_, List.getElem?_eq_getElem (by show j < 8; exact hj)⟩
    obtain ⟨v, hv⟩ := hsome
    exact (hb.cell (cell_blkC hv)).trans h1
/-- The letters of a list of them. -/
def totC (L : List Card) : Nat := (L.map szC).sum
end Go.Proofs.YtancidbbkoeokaaGreat

/- A struct Card in a block of its own that may be written. -/
namespace Go.Proofs.YtancidbbkoeokaaGreat
open Go.ChangeShapes Go.WideShapes Go.ChangeAt Go.RowKit Go.Deep

def CardO (w : World) (g : Nat) (e : Card) : Prop := w.heap[g]? = some (.cells e.cells.toArray 44 (0, 0))
theorem CardO.new (w : World) (e : Card) : CardO (w.alloc (.cells e.cells.toArray 44)) w.heap.size e := by
  show (w.heap.push _)[w.heap.size]? = _
  simp
theorem CardO.newAt (w : World) (e : Card) (g : Nat) (hg : g = w.heap.size) : CardO (w.alloc (.cells e.cells.toArray 44)) g e := by subst hg; exact CardO.new w e
theorem CardO.below {w w' : World} {g B : Nat} {e : Card} (h : CardO w g e) (hb : Below B w w') (hg : g < B) : CardO w' g e := (hb.block g hg).trans h
theorem CardO.lt {w : World} {g : Nat} {e : Card} (h : CardO w g e) : g < w.heap.size := (Array.getElem?_eq_some_iff.1 h).1
theorem CardO.at {w : World} {g : Nat} {e : Card} (h : CardO w g e) : CardAt w g 0 e := fun i hi => by
  unfold CardO at h
  simp [World.cell?, h]
theorem CardO.fz {w : World} {g : Nat} {e : Card} (h : CardO w g e) (i : Nat) : w.frozen? ⟨g, i, none⟩ = false := by
  unfold CardO at h
  simp [World.frozen?, h]
theorem CardO.grown {w w' : World} {g : Nat} {row : Option Nat} {e : Card} (h : CardO w g e) (hb : w.grownBy w' row) (hg : some g ≠ row) : CardO w' g e := (hb.block g h.lt hg).trans h
theorem CardO.set {w : World} {g : Nat} {e e' : Card} (h : CardO w g e) (i : Nat) (v : Value) (he : e.cells.toArray.setIfInBounds i v = e'.cells.toArray) : CardO (w.setCell ⟨g, i, none⟩ v) g e' := by
  have hlt := h.lt
  unfold CardO at h ⊢
  have hg : w.heap[g] = .cells e.cells.toArray 44 (0, 0) := (Array.getElem?_eq_some_iff.1 h).2
  simp [World.setCell, hlt, Array.getElem_modify, hg, he]
theorem CardO.other {w : World} {g b i : Nat} {e : Card} {v : Value} (h : CardO w g e) (hne : g ≠ b) : CardO (w.setCell ⟨b, i, none⟩ v) g e := by
  unfold CardO
  rw [Below.heap_setCell _ _ _ g (fun e => hne e)]
  exact h
theorem grownOC (w : World) (row : Option Nat) : w.grownBy w row := ⟨rfl, rfl, rfl, Nat.le_refl _, fun _ _ _ => rfl⟩
theorem grown_setC {w w' : World} {g : Nat} (h : w.grownBy w' (some g)) (o : Nat) (v : Value) : w.grownBy (w'.setCell ⟨g, o, none⟩ v) (some g) :=
  ⟨h.os, h.tape, h.output, by simpa using h.size, fun k hk hne => (Below.heap_setCell w' _ v k (fun e => hne (by rw [e]))).trans (h.block k hk hne)⟩
/-- A whole one stored, cell by cell. -/
def putOC (w : World) (g : Nat) (y : Card) : World := ((((((((w.setCell ⟨g, 0, none⟩ (.int .i64 y.Ino)).setCell ⟨g, 1, none⟩ (.int .i64 y.Mode)).setCell ⟨g, 2, none⟩ (.int .i64 y.Uid)).setCell ⟨g, 3, none⟩ (.int .i64 y.Gid)).setCell ⟨g, 4, none⟩ (.int .i64 y.Count)).setCell ⟨g, 5, none⟩ (.int .i64 y.Time)).setCell ⟨g, 6, none⟩ (.string y.Path)).setCell ⟨g, 7, none⟩ (.string y.Data))
theorem CardO.put {w : World} {g : Nat} {x : Card} (h : CardO w g x) (y : Card) : CardO (putOC w g y) g y := (CardO.set (e' := ⟨y.Ino, y.Mode, y.Uid, y.Gid, y.Count, y.Time, y.Path, y.Data⟩) ((CardO.set (e' := ⟨y.Ino, y.Mode, y.Uid, y.Gid, y.Count, y.Time, y.Path, x.Data⟩) ((CardO.set (e' := ⟨y.Ino, y.Mode, y.Uid, y.Gid, y.Count, y.Time, x.Path, x.Data⟩) ((CardO.set (e' := ⟨y.Ino, y.Mode, y.Uid, y.Gid, y.Count, x.Time, x.Path, x.Data⟩) ((CardO.set (e' := ⟨y.Ino, y.Mode, y.Uid, y.Gid, x.Count, x.Time, x.Path, x.Data⟩) ((CardO.set (e' := ⟨y.Ino, y.Mode, y.Uid, x.Gid, x.Count, x.Time, x.Path, x.Data⟩) ((CardO.set (e' := ⟨y.Ino, y.Mode, x.Uid, x.Gid, x.Count, x.Time, x.Path, x.Data⟩) ((CardO.set (e' := ⟨y.Ino, x.Mode, x.Uid, x.Gid, x.Count, x.Time, x.Path, x.Data⟩) (h) 0 (.int .i64 y.Ino) rfl)) 1 (.int .i64 y.Mode) rfl)) 2 (.int .i64 y.Uid) rfl)) 3 (.int .i64 y.Gid) rfl)) 4 (.int .i64 y.Count) rfl)) 5 (.int .i64 y.Time) rfl)) 6 (.string y.Path) rfl)) 7 (.string y.Data) rfl)
theorem below_putOC {w w' : World} {B g : Nat} (h : Below B w w') (hg : B ≤ g) (y : Card) : Below B w (putOC w' g y) := ((((((((h.setCell (p := ⟨g, 0, none⟩) hg _).setCell (p := ⟨g, 1, none⟩) hg _).setCell (p := ⟨g, 2, none⟩) hg _).setCell (p := ⟨g, 3, none⟩) hg _).setCell (p := ⟨g, 4, none⟩) hg _).setCell (p := ⟨g, 5, none⟩) hg _).setCell (p := ⟨g, 6, none⟩) hg _).setCell (p := ⟨g, 7, none⟩) hg _)
theorem putOC_other {w : World} {b g : Nat} {y : Card} (hne : b ≠ g) : (putOC w g y).heap[b]? = w.heap[b]? := by
  unfold putOC
  repeat rw [Below.heap_setCell _ _ _ b (fun e => hne e)]
theorem grown_putOC (w : World) (g : Nat) (y : Card) : w.grownBy (putOC w g y) (some g) := (grown_setC (grown_setC (grown_setC (grown_setC (grown_setC (grown_setC (grown_setC (grown_setC (grownOC w (some g)) 0 _) 1 _) 2 _) 3 _) 4 _) 5 _) 6 _) 7 _)
theorem Tryz.sizeOC : (Tryz.prog.info? 44).map (·.size) = some 8 := by kernel_rfl
theorem res_OC1 {fn : Func} {p : Tmp} (h : fn.results = #[.cell p 44]) (tmps : Array Value) {w : World} {g : Nat} {e : Card}
    (hp : tmps.getD p undef = .pointer (some ⟨g, 0, none⟩)) (hg : CardO w g e) :
    (results fn tmps).run Tryz.prog w = .ok (.agg e.cells.toArray) w :=
  results_cell_row h _ _ g _ e.cells.toArray (0, 0) _ hp hg Tryz.underlying44 rfl (by rw [Tryz.sizeOC]; rfl)
end Go.Proofs.YtancidbbkoeokaaGreat

/- Contracts of spec.l07Ino and spec.CardsOf. -/
namespace Go.Proofs.YtancidbbkoeokaaGreat
open Go.ChangeShapes Go.WideShapes Go.ChangeAt Go.RowKit Go.Deep

theorem find_bds (L : List Ent) (p : ByteArray) : -1 ≤ findv L p ∧ findv L p ≤ L.length := by
  rcases find_cases L p with h | ⟨a, e, h, he, _⟩
  · omega
  · have := (List.getElem?_eq_some_iff.1 he).1
    omega
set_option maxHeartbeats 1600000 in
theorem ino_spec (L : List Ent) (i : Nat) (e : Ent) (n g cap : Nat) (w : World) (he : L[i]? = some e) (hn : n = L.length) (hm : n ≤ 4194304) (hg : g < w.heap.size) (h1 : RowE w g L) :
    Calls Tryz.prog 32 #[.slice (some ⟨g, 0, none⟩) n cap, .int .i64 i] w fun e' w' => e' = .returned (.int .i64 (inov L i e)) ∧ Below w.heap.size w w' := by
  have hlt : i < n := by rw [hn]; exact (List.getElem?_eq_some_iff.1 he).1
  have hlt2 : (i : Int) < (n : Int) := by omega
  have H1 := Lib.hid (find_spec L e.link n g cap w hn hm hg h1)
  have HB := find_bds L e.link
  have HI : Hid (inov L i e = if e.kind = 3 then findv L e.link + 1 else (i : Int) + 1) := Lib.hid rfl
  obtain ⟨c0, c1, c2, c3, c4, c5, c6, c7, c8, c9⟩ := h1.ten he
  generalize inov L i e = r at HI
  generalize findv L e.link = f at H1 HI HB
  clear h1 he c1 c3 c4 c5 c6 c7 c8 c9
  obtain ⟨k, p, l, m, u, g0, t, us, gr, b⟩ := e
  by_cases hk : k = 3
  · subst hk
    have HF : Hid (r = f + 1) := Lib.hid (by rw [HI.out, if_pos rfl])
    have hb0 : f ≤ 4194304 := by omega
    have hb1 : -1 ≤ f := by omega
    clear HI HB hn
    go_enter Tryz.func32, Tryz.ntmps32
    go_wp2_with fail
    refine H1.out.mono ?_
    rintro e w1 ⟨rfl, hb⟩
    have B := Lib.hid hb
    clear hb
    go_wp2_with fail
    go_ret
    exact ⟨by rw [HF.out]; go_num, B.out⟩
  · have hk2 : (k == 3) = false := by simpa using hk
    have HF : Hid (r = (i : Int) + 1) := Lib.hid (by rw [HI.out, if_neg hk])
    clear HI HB hk hn
    go_enter Tryz.func32, Tryz.ntmps32
    go_wp2_with fail
    go_ret
    exact ⟨by rw [HF.out]; go_num, Below.refl _ _⟩
theorem row_card {w : World} {G : Nat} {ty : TypeId} {c : Card} (h : w.heap[G]? = some (.cells c.cells.toArray ty (0, 0))) : ∀ j u, (valsC [c])[j]? = some u → w.cell? ⟨G, j, none⟩ = some u := by
  intro j u hu
  rw [valsC_one] at hu
  simp only [World.cell?, h]
  simpa using hu
set_option maxHeartbeats 6400000 in
set_option maxRecDepth 8000 in
theorem cardsOf_spec (L : List Ent) (n g cap : Nat) (w : World) (hn : n = L.length) (hm : n ≤ 4194304) (hcap : n ≤ cap) (hg : g < w.heap.size) (hsm : SmallL L) (h1 : RowE w g L) :
    Calls Tryz.prog 16 #[.slice (some ⟨g, 0, none⟩) n cap] w fun e w' => ∃ v, e = .returned v ∧ OwnC w' w.heap.size v (cardsv L) ∧ Below w.heap.size w w' := by
  obtain ⟨i0, hi0, hz0, hz1, hz2⟩ := info_parts Tryz.infoC
  have H1 := Lib.hid h1
  have HK := Lib.hid (fun w (hg : g < w.heap.size) (h : RowE w g L) => listOk_spec L n g cap w hn hm hcap hg hsm h)
  have HI := Lib.hid (fun (i : Nat) (e : Ent) w he (hg : g < w.heap.size) (h : RowE w g L) => ino_spec L i e n g cap w he hn hm hg h)
  have HV : Hid (cardsv L = if listOkv L then cardsTo L n else []) := Lib.hid (by rw [hn]; rfl)
  have HE : Hid (listOkv L = true → ∀ i, i < n → ∃ e, L[i]? = some e ∧ (0 ≤ e.mode ∧ e.mode ≤ 4095) ∧ (e.kind = 0 ∨ e.kind = 1 ∨ e.kind = 2 ∨ e.kind = 3)) := Lib.hid (fun hL i hi => by
    obtain ⟨e, he⟩ := getE' (L := L) (i := i) (by omega)
    obtain ⟨hM, _, _, _, hk⟩ := entOk_facts (listOk_at hL he).1
    refine ⟨e, he, hM, ?_⟩
    rcases kind_facts hk with h | h | h | h
    · exact .inl h.1
    · exact .inr (.inl h.1)
    · exact .inr (.inr (.inl h.1))
    · exact .inr (.inr (.inr h.1)))
  have HN : Hid (listOkv L = true → n ≤ 30) := Lib.hid (fun h => by rw [hn]; exact listOk_len h)
  have HC : Hid (∀ i e, L[i]? = some e → cardsTo L (i + 1) = cardsTo L i ++ [⟨inov L i e, e.mode + modev e.kind, e.uid, e.gid, if e.kind = 1 then 2 else (countTo L (inov L i e) n : Nat), e.time, e.path, datav e⟩]) := Lib.hid (fun i e he => by rw [cardsTo, getD_of he, cardv, hn])
  have HL := Lib.hid (fun i => cardsTo_len L i)
  have HQ : Hid (∀ x i e, L[i]? = some e → countTo L x (i + 1) = countTo L x i + if inov L i e = x then 1 else 0) := Lib.hid (fun x i e he => by rw [countTo, inoAt_of he])
  have HCl := Lib.hid (fun x i => countTo_le L x i)
  generalize cardsv L = r at HV
  generalize listOkv L = ok at HK HV HE HN
  clear h1 hsm hn
  go_enter Tryz.func16, Tryz.ntmps16
  go_wp2_with fail
  refine (HK.out _ (by simp; omega) (H1.out.below ((Below.refl _ _).alloc (Nat.le_refl _) _) hg)).mono ?_
  rintro e w1 ⟨rfl, hb⟩
  have B0 : Below w.heap.size w (w.alloc (.cells #[] 44)) := (Below.refl _ _).alloc (Nat.le_refl _) _
  have B := Lib.hid (btE B0 hb)
  have O := Lib.hid ((OwnC.lit (w := w) (base := w.heap.size) (Nat.le_refl _)).keep hb)
  clear hb B0
  cases ok with
  | false =>
    have HF : Hid (r = []) := Lib.hid (by rw [HV.out]; rfl)
    go_wp2_with fail
    go_ret
    exact ⟨_, rfl, by rw [HF.out]; exact O.out, B.out⟩
  | true =>
    have HF : Hid (r = cardsTo L n) := Lib.hid (by rw [HV.out]; rfl)
    have hn30 := HN.out rfl
    have HE2 := Lib.hid (HE.out rfl)
    clear HV HE HN HK
    go_wp2_with fail
    go_loopw [3, 4, 5, 6, 7, 8, 9] (fun v u _ _ _ _ _ wr => ∃ i : Nat, u = .int .i64 i ∧ i ≤ n ∧ OwnC wr w.heap.size v (cardsTo L i) ∧ Below w.heap.size w wr) (fun _ u _ _ _ _ _ _ => n - (intOf u).toNat)
    case atStart => exact ⟨0, rfl, Nat.zero_le _, O.out, B.out⟩
    case round =>
      obtain ⟨i, rfl, hi, ho, hb⟩ := hrel
      obtain ⟨wo, hwo⟩ : ∃ wo, wo = wr := ⟨_, rfl⟩
      subst hwo
      clear O B
      have O := Lib.hid ho
      have B := Lib.hid hb
      clear ho hb
      by_cases hlt : i < n
      · have hlt2 : (i : Int) < (n : Int) := by omega
        obtain ⟨e, he, hmd, hkd⟩ := HE2.out i hlt
        have HI2 := Lib.hid (fun w hg h => HI.out i e w he hg h)
        have HC2 := Lib.hid (HC.out i e he)
        have HL2 := HL.out i
        have R := Lib.hid (H1.out.below B.out hg)
        have hsz := B.out.size
        have zg : g < wo.heap.size := by omega
        obtain ⟨c0, c1, c2, c3, c4, c5, c6, c7, c8, c9⟩ := R.out.ten he
        clear he R HC
        obtain ⟨go, co, rfl, _, zo, hbo, _⟩ := O.out.open
        generalize inov L i e = x at HI2 HC2
        obtain ⟨D, hD⟩ : ∃ D, cardsTo L i = D := ⟨_, rfl⟩
        rw [hD] at HC2 O HL2 ⊢
        have hDl : D.length ≤ 30 := by omega
        clear hD HL2
        obtain ⟨k, p, l, m, u1, gi, t, us, gr, b⟩ := e
        have NB : Below wo.heap.size wo (wo.alloc (.cells (Ent.cells ⟨k, p, l, m, u1, gi, t, us, gr, b⟩).toArray 41)) := (Below.refl _ _).alloc (Nat.le_refl _) _
        have XE := Lib.hid (EntO.new wo ⟨k, p, l, m, u1, gi, t, us, gr, b⟩)
        have O1 := Lib.hid (O.out.keep NB)
        have B1 := Lib.hid (btE B.out NB)
        simp only [Ent.cells] at XE O1 B1
        simp only at hmd hkd HC2
        clear NB
        go_wp2_with fail
        go_loopw [6, 7] (fun v u w2 => ∃ j : Nat, u = .int .i64 j ∧ j ≤ n ∧ v = .int .i64 ((countTo L x j : Nat) : Int) ∧ OwnC w2 w.heap.size (.slice (some ⟨go, 0, none⟩) D.length co) D ∧ EntO w2 wo.heap.size ⟨k, p, l, m, u1, gi, t, us, gr, b⟩ ∧ Below w.heap.size w w2) (fun _ u _ => n - (intOf u).toNat)
        case atStart => exact ⟨0, rfl, Nat.zero_le _, rfl, O1.out, XE.out, B1.out⟩
        case round =>
          obtain ⟨j, rfl, hj, rfl, ho, hx, hb⟩ := hrel
          clear O1 XE B1 O B
          have O := Lib.hid ho
          have X := Lib.hid hx
          have B := Lib.hid hb
          clear ho hx hb
          have R := Lib.hid (H1.out.below B.out hg)
          have hsz2 := B.out.size
          have zX := X.out.lt
          by_cases hltj : j < n
          · have hltj2 : (j : Int) < (n : Int) := by omega
            obtain ⟨e2, he2, _, _⟩ := HE2.out j hltj
            have HJ := Lib.hid (fun w hg h => HI.out j e2 w he2 hg h)
            have HQ2 := Lib.hid (HQ.out x j e2 he2)
            have hcb := HCl.out x j
            generalize inov L j e2 = y at HJ HQ2
            obtain ⟨cj, hcj⟩ : ∃ c, countTo L x j = c := ⟨_, rfl⟩
            rw [hcj] at HQ2 hcb ⊢
            clear hcj he2
            go_wp2_with fail
            refine (HJ.out _ (by omega) R.out).mono ?_
            rintro e w3 ⟨rfl, hb⟩
            replace O := Lib.hid (O.out.keep hb)
            replace X := Lib.hid (X.out.below hb zX)
            replace B := Lib.hid (btE B.out hb)
            replace R := Lib.hid (R.out.below hb (by omega))
            replace zX := Nat.lt_of_lt_of_le zX hb.size
            have hsz3 := B.out.size
            clear hb
            go_wp2_with fail
            refine (HI2.out _ (by omega) R.out).mono ?_
            rintro e w4 ⟨rfl, hb⟩
            replace O := Lib.hid (O.out.keep hb)
            replace X := Lib.hid (X.out.below hb zX)
            replace B := Lib.hid (btE B.out hb)
            clear hb
            by_cases hyx : y = x
            · have HQ3 : Hid (countTo L x (j + 1) = cj + 1) := Lib.hid (by rw [HQ2.out, if_pos hyx])
              have q : (y == x) = true := by simpa using hyx
              clear hyx HQ2
              go_wp2_with fail
              go_roundw
              case rel => exact ⟨j + 1, by go_num, by omega, by rw [HQ3.out]; go_num, O.out, X.out, B.out⟩
              case measure => simp [intOf]; omega
            · have HQ3 : Hid (countTo L x (j + 1) = cj) := Lib.hid (by rw [HQ2.out, if_neg hyx]; rfl)
              have q : (y == x) = false := by simpa using hyx
              clear hyx HQ2
              go_wp2_with fail
              go_roundw
              case rel => exact ⟨j + 1, by go_num, by omega, by rw [HQ3.out], O.out, X.out, B.out⟩
              case measure => simp [intOf]; omega
          · obtain rfl : j = n := by omega
            have hltj2 : ¬ (j : Int) < (j : Int) := by omega
            have hcn := HCl.out x j
            obtain ⟨cn, hcn2⟩ : ∃ c, countTo L x j = c := ⟨_, rfl⟩
            rw [hcn2] at HC2 hcn ⊢
            clear hcn2 HQ HI HCl
            obtain ⟨d0, d1, d2, d3, d4, d5, d6, d7, d8, d9⟩ := X.out.at.zero
            rcases hkd with h | h | h | h
            · subst h
              have HC3 : Hid (cardsTo L (i + 1) = D ++ [⟨x, m + 32768, u1, gi, (cn : Int), t, p, b⟩]) := Lib.hid (by rw [HC2.out]; rfl)
              clear HC2
              go_upto_region 20 with fail
              generalize hw5 : World.alloc wr _ = w5
              have NB : Below wr.heap.size wr w5 := by rw [← hw5]; exact (Below.refl _ _).alloc (Nat.le_refl _) _
              clear hw5 d0 d1 d2 d3 d4 d5 d6 d7 d8 d9
              replace O := Lib.hid (O.out.keep NB)
              replace X := Lib.hid (X.out.below NB zX)
              replace R := Lib.hid (R.out.below NB (by omega))
              replace B := Lib.hid (btE B.out NB)
              have hsz5 := B.out.size
              have zX5 := X.out.lt
              have zg5 : g < w5.heap.size := by omega
              clear NB
              have KC : Hid (∀ w', Below w5.heap.size w5 w' → w'.cell? ⟨wo.heap.size, 1, none⟩ = some (.string p) ∧ w'.cell? ⟨wo.heap.size, 3, none⟩ = some (.int .i64 m) ∧ w'.cell? ⟨wo.heap.size, 4, none⟩ = some (.int .i64 u1) ∧ w'.cell? ⟨wo.heap.size, 5, none⟩ = some (.int .i64 gi) ∧ w'.cell? ⟨wo.heap.size, 6, none⟩ = some (.int .i64 t)) := Lib.hid (fun w' hb => by
                obtain ⟨d0, d1, d2, d3, d4, d5, d6, d7, d8, d9⟩ := (X.out.below hb zX5).at.zero
                exact ⟨d1, d3, d4, d5, d6⟩)
              have HI3 := Lib.hid (fun w' (hb : Below w5.heap.size w5 w') => HI2.out w' (Nat.lt_of_lt_of_le zg5 hb.size) (R.out.below hb zg5))
              clear HI2
              refine wp_region_cut 20 (by kernel_rfl) (fun w' => Below w5.heap.size w5 w') (fun x y => Below x.heap.size x y) (vSlG 74 44 w5.heap.size #[.int .i64 x, .int .i64 (m + 32768), .int .i64 u1, .int .i64 gi, .int .i64 (cn : Int), .int .i64 t, .string p, .string b] (fun d v => match d with | 55 => v = .slice (some ⟨go, 0, none⟩) D.length co | 56 => v = .slice (some ⟨g, 0, none⟩) j cap | 57 => v = .int .i64 (i : Int) | 58 => v = .int .i64 x | 59 => v = .pointer (some ⟨wo.heap.size, 3, none⟩) | 60 => v = .int .i64 m | 61 => v = .int .i64 32768 | 62 => v = .int .i64 (m + 32768) | 63 => v = .pointer (some ⟨wo.heap.size, 4, none⟩) | 64 => v = .int .i64 u1 | 65 => v = .pointer (some ⟨wo.heap.size, 5, none⟩) | 66 => v = .int .i64 gi | 67 => v = .int .i64 (cn : Int) | 68 => v = .pointer (some ⟨wo.heap.size, 6, none⟩) | 69 => v = .int .i64 t | 70 => v = .pointer (some ⟨wo.heap.size, 1, none⟩) | 71 => v = .string p | 72 => v = .string b | 73 => v = .agg #[.int .i64 x, .int .i64 (m + 32768), .int .i64 u1, .int .i64 gi, .int .i64 (cn : Int), .int .i64 t, .string p, .string b] | _ => True)) (by kernel_rfl) (by kernel_rfl) ((Below.refl _ _).drew) (vSlG_keep _ _ _ _ _) (by simp) ?hops ?hend
              case hops =>
                simp only [List.take_succ_cons, List.take_zero, List.forall_mem_cons]
                refine ⟨?o55, ?o56, ?o57, ?o58, ?o59, ?o60, ?o61, ?o62, ?o63, ?o64, ?o65, ?o66, ?o67, ?o68, ?o69, ?o70, ?o71, ?o72, ?o73, ?o74, fun _ h => by cases h⟩
                case o55 =>
                  intro Q a w2 hC hV hI
                  have e3 : a.eval (.tmp 3) = .slice (some ⟨go, 0, none⟩) D.length co := (hI 3 (by simp [Op.operands]) (by kernel_rfl)).trans rfl
                  have f3 : a.tmps.getD 3 undef = .slice (some ⟨go, 0, none⟩) D.length co := e3
                  have g3 : a.tmps[3]?.getD undef = .slice (some ⟨go, 0, none⟩) D.length co := by rw [← Array.getD_eq_getD_getElem?]; exact e3
                  refine op_val (.slice (some ⟨go, 0, none⟩) D.length co) ?_ hC (Below.refl _ _) (by intro d hd; cases hd; exact rfl)
                  (clear hV hI hC; go_simp <;> (first | rfl | simp | (rw [IntKind.wrap_i64]; omega)))
                case o56 =>
                  intro Q a w2 hC hV hI
                  have e0 : a.eval (.tmp 0) = .slice (some ⟨g, 0, none⟩) j cap := (hI 0 (by simp [Op.operands]) (by kernel_rfl)).trans rfl
                  have f0 : a.tmps.getD 0 undef = .slice (some ⟨g, 0, none⟩) j cap := e0
                  have g0 : a.tmps[0]?.getD undef = .slice (some ⟨g, 0, none⟩) j cap := by rw [← Array.getD_eq_getD_getElem?]; exact e0
                  refine op_val (.slice (some ⟨g, 0, none⟩) j cap) ?_ hC (Below.refl _ _) (by intro d hd; cases hd; exact rfl)
                  (clear hV hI hC; go_simp <;> (first | rfl | simp | (rw [IntKind.wrap_i64]; omega)))
                case o57 =>
                  intro Q a w2 hC hV hI
                  have e4 : a.eval (.tmp 4) = .int .i64 (i : Int) := (hI 4 (by simp [Op.operands]) (by kernel_rfl)).trans rfl
                  have f4 : a.tmps.getD 4 undef = .int .i64 (i : Int) := e4
                  have g4 : a.tmps[4]?.getD undef = .int .i64 (i : Int) := by rw [← Array.getD_eq_getD_getElem?]; exact e4
                  refine op_val (.int .i64 (i : Int)) ?_ hC (Below.refl _ _) (by intro d hd; cases hd; exact rfl)
                  (clear hV hI hC; go_simp <;> (first | rfl | simp | (rw [IntKind.wrap_i64]; omega)))
                case o58 =>
                  intro Q a w2 hC hV hI
                  have e56 : a.eval (.tmp 56) = .slice (some ⟨g, 0, none⟩) j cap := hV 56 (by simp [Op.operands, Call.operands]) (by kernel_rfl)
                  have f56 : a.tmps.getD 56 undef = .slice (some ⟨g, 0, none⟩) j cap := e56
                  have g56 : a.tmps[56]?.getD undef = .slice (some ⟨g, 0, none⟩) j cap := by rw [← Array.getD_eq_getD_getElem?]; exact e56
                  have e57 : a.eval (.tmp 57) = .int .i64 (i : Int) := hV 57 (by simp [Op.operands, Call.operands]) (by kernel_rfl)
                  have f57 : a.tmps.getD 57 undef = .int .i64 (i : Int) := e57
                  have g57 : a.tmps[57]?.getD undef = .int .i64 (i : Int) := by rw [← Array.getD_eq_getD_getElem?]; exact e57
                  refine op_call (f := 32) (args := #[.slice (some ⟨g, 0, none⟩) j cap, .int .i64 (i : Int)]) (R := fun v y => v = .int .i64 x ∧ Below w2.heap.size w2 y) ?_ ((HI3.out w2 hC).mono ?_) ?_
                  · (clear hV hI hC; go_simp <;> (first | rfl | simp | (rw [IntKind.wrap_i64]; omega)))
                  · rintro e y ⟨rfl, hb⟩; exact ⟨_, rfl, rfl, hb⟩
                  · rintro v y ⟨rfl, hb⟩; exact ⟨hC.trans (hb.mono hC.size), hb, by intro d hd; cases hd; exact rfl⟩
                case o59 =>
                  intro Q a w2 hC hV hI
                  have e5 : a.eval (.tmp 5) = .pointer (some ⟨wo.heap.size, 0, none⟩) := (hI 5 (by simp [Op.operands]) (by kernel_rfl)).trans rfl
                  have f5 : a.tmps.getD 5 undef = .pointer (some ⟨wo.heap.size, 0, none⟩) := e5
                  have g5 : a.tmps[5]?.getD undef = .pointer (some ⟨wo.heap.size, 0, none⟩) := by rw [← Array.getD_eq_getD_getElem?]; exact e5
                  refine op_val (.pointer (some ⟨wo.heap.size, 3, none⟩)) ?_ hC (Below.refl _ _) (by intro d hd; cases hd; exact rfl)
                  (clear hV hI hC; go_simp <;> (first | rfl | simp | (rw [IntKind.wrap_i64]; omega)))
                case o60 =>
                  intro Q a w2 hC hV hI
                  have e59 : a.eval (.tmp 59) = .pointer (some ⟨wo.heap.size, 3, none⟩) := hV 59 (by simp [Op.operands]) (by kernel_rfl)
                  have f59 : a.tmps.getD 59 undef = .pointer (some ⟨wo.heap.size, 3, none⟩) := e59
                  have g59 : a.tmps[59]?.getD undef = .pointer (some ⟨wo.heap.size, 3, none⟩) := by rw [← Array.getD_eq_getD_getElem?]; exact e59
                  have hK := KC.out w2 hC
                  refine op_val (.int .i64 m) ?_ hC (Below.refl _ _) (by intro d hd; cases hd; exact rfl)
                  (clear hV hI hC; go_simp <;> (first | rfl | simp | (rw [IntKind.wrap_i64]; omega)))
                case o61 =>
                  intro Q a w2 hC hV hI
                  have e9 : a.eval (.tmp 9) = .int .i64 32768 := (hI 9 (by simp [Op.operands]) (by kernel_rfl)).trans rfl
                  have f9 : a.tmps.getD 9 undef = .int .i64 32768 := e9
                  have g9 : a.tmps[9]?.getD undef = .int .i64 32768 := by rw [← Array.getD_eq_getD_getElem?]; exact e9
                  refine op_val (.int .i64 32768) ?_ hC (Below.refl _ _) (by intro d hd; cases hd; exact rfl)
                  (clear hV hI hC; go_simp <;> (first | rfl | simp | (rw [IntKind.wrap_i64]; omega)))
                case o62 =>
                  intro Q a w2 hC hV hI
                  have e60 : a.eval (.tmp 60) = .int .i64 m := hV 60 (by simp [Op.operands]) (by kernel_rfl)
                  have f60 : a.tmps.getD 60 undef = .int .i64 m := e60
                  have g60 : a.tmps[60]?.getD undef = .int .i64 m := by rw [← Array.getD_eq_getD_getElem?]; exact e60
                  have e61 : a.eval (.tmp 61) = .int .i64 32768 := hV 61 (by simp [Op.operands]) (by kernel_rfl)
                  have f61 : a.tmps.getD 61 undef = .int .i64 32768 := e61
                  have g61 : a.tmps[61]?.getD undef = .int .i64 32768 := by rw [← Array.getD_eq_getD_getElem?]; exact e61
                  have q9 := add_i64 (P := Tryz.prog) (a := m) (b := 32768) w2 3 (by omega) (by omega)
                  refine op_val (.int .i64 (m + 32768)) ?_ hC (Below.refl _ _) (by intro d hd; cases hd; exact rfl)
                  (clear hV hI hC; go_simp <;> (first | rfl | simp | (rw [IntKind.wrap_i64]; omega)))
                case o63 =>
                  intro Q a w2 hC hV hI
                  have e5 : a.eval (.tmp 5) = .pointer (some ⟨wo.heap.size, 0, none⟩) := (hI 5 (by simp [Op.operands]) (by kernel_rfl)).trans rfl
                  have f5 : a.tmps.getD 5 undef = .pointer (some ⟨wo.heap.size, 0, none⟩) := e5
                  have g5 : a.tmps[5]?.getD undef = .pointer (some ⟨wo.heap.size, 0, none⟩) := by rw [← Array.getD_eq_getD_getElem?]; exact e5
                  refine op_val (.pointer (some ⟨wo.heap.size, 4, none⟩)) ?_ hC (Below.refl _ _) (by intro d hd; cases hd; exact rfl)
                  (clear hV hI hC; go_simp <;> (first | rfl | simp | (rw [IntKind.wrap_i64]; omega)))
                case o64 =>
                  intro Q a w2 hC hV hI
                  have e63 : a.eval (.tmp 63) = .pointer (some ⟨wo.heap.size, 4, none⟩) := hV 63 (by simp [Op.operands]) (by kernel_rfl)
                  have f63 : a.tmps.getD 63 undef = .pointer (some ⟨wo.heap.size, 4, none⟩) := e63
                  have g63 : a.tmps[63]?.getD undef = .pointer (some ⟨wo.heap.size, 4, none⟩) := by rw [← Array.getD_eq_getD_getElem?]; exact e63
                  have hK := KC.out w2 hC
                  refine op_val (.int .i64 u1) ?_ hC (Below.refl _ _) (by intro d hd; cases hd; exact rfl)
                  (clear hV hI hC; go_simp <;> (first | rfl | simp | (rw [IntKind.wrap_i64]; omega)))
                case o65 =>
                  intro Q a w2 hC hV hI
                  have e5 : a.eval (.tmp 5) = .pointer (some ⟨wo.heap.size, 0, none⟩) := (hI 5 (by simp [Op.operands]) (by kernel_rfl)).trans rfl
                  have f5 : a.tmps.getD 5 undef = .pointer (some ⟨wo.heap.size, 0, none⟩) := e5
                  have g5 : a.tmps[5]?.getD undef = .pointer (some ⟨wo.heap.size, 0, none⟩) := by rw [← Array.getD_eq_getD_getElem?]; exact e5
                  refine op_val (.pointer (some ⟨wo.heap.size, 5, none⟩)) ?_ hC (Below.refl _ _) (by intro d hd; cases hd; exact rfl)
                  (clear hV hI hC; go_simp <;> (first | rfl | simp | (rw [IntKind.wrap_i64]; omega)))
                case o66 =>
                  intro Q a w2 hC hV hI
                  have e65 : a.eval (.tmp 65) = .pointer (some ⟨wo.heap.size, 5, none⟩) := hV 65 (by simp [Op.operands]) (by kernel_rfl)
                  have f65 : a.tmps.getD 65 undef = .pointer (some ⟨wo.heap.size, 5, none⟩) := e65
                  have g65 : a.tmps[65]?.getD undef = .pointer (some ⟨wo.heap.size, 5, none⟩) := by rw [← Array.getD_eq_getD_getElem?]; exact e65
                  have hK := KC.out w2 hC
                  refine op_val (.int .i64 gi) ?_ hC (Below.refl _ _) (by intro d hd; cases hd; exact rfl)
                  (clear hV hI hC; go_simp <;> (first | rfl | simp | (rw [IntKind.wrap_i64]; omega)))
                case o67 =>
                  intro Q a w2 hC hV hI
                  have e6 : a.eval (.tmp 6) = .int .i64 (cn : Int) := (hI 6 (by simp [Op.operands]) (by kernel_rfl)).trans rfl
                  have f6 : a.tmps.getD 6 undef = .int .i64 (cn : Int) := e6
                  have g6 : a.tmps[6]?.getD undef = .int .i64 (cn : Int) := by rw [← Array.getD_eq_getD_getElem?]; exact e6
                  refine op_val (.int .i64 (cn : Int)) ?_ hC (Below.refl _ _) (by intro d hd; cases hd; exact rfl)
                  (clear hV hI hC; go_simp <;> (first | rfl | simp | (rw [IntKind.wrap_i64]; omega)))
                case o68 =>
                  intro Q a w2 hC hV hI
                  have e5 : a.eval (.tmp 5) = .pointer (some ⟨wo.heap.size, 0, none⟩) := (hI 5 (by simp [Op.operands]) (by kernel_rfl)).trans rfl
                  have f5 : a.tmps.getD 5 undef = .pointer (some ⟨wo.heap.size, 0, none⟩) := e5
                  have g5 : a.tmps[5]?.getD undef = .pointer (some ⟨wo.heap.size, 0, none⟩) := by rw [← Array.getD_eq_getD_getElem?]; exact e5
                  refine op_val (.pointer (some ⟨wo.heap.size, 6, none⟩)) ?_ hC (Below.refl _ _) (by intro d hd; cases hd; exact rfl)
                  (clear hV hI hC; go_simp <;> (first | rfl | simp | (rw [IntKind.wrap_i64]; omega)))
                case o69 =>
                  intro Q a w2 hC hV hI
                  have e68 : a.eval (.tmp 68) = .pointer (some ⟨wo.heap.size, 6, none⟩) := hV 68 (by simp [Op.operands]) (by kernel_rfl)
                  have f68 : a.tmps.getD 68 undef = .pointer (some ⟨wo.heap.size, 6, none⟩) := e68
                  have g68 : a.tmps[68]?.getD undef = .pointer (some ⟨wo.heap.size, 6, none⟩) := by rw [← Array.getD_eq_getD_getElem?]; exact e68
                  have hK := KC.out w2 hC
                  refine op_val (.int .i64 t) ?_ hC (Below.refl _ _) (by intro d hd; cases hd; exact rfl)
                  (clear hV hI hC; go_simp <;> (first | rfl | simp | (rw [IntKind.wrap_i64]; omega)))
                case o70 =>
                  intro Q a w2 hC hV hI
                  have e5 : a.eval (.tmp 5) = .pointer (some ⟨wo.heap.size, 0, none⟩) := (hI 5 (by simp [Op.operands]) (by kernel_rfl)).trans rfl
                  have f5 : a.tmps.getD 5 undef = .pointer (some ⟨wo.heap.size, 0, none⟩) := e5
                  have g5 : a.tmps[5]?.getD undef = .pointer (some ⟨wo.heap.size, 0, none⟩) := by rw [← Array.getD_eq_getD_getElem?]; exact e5
                  refine op_val (.pointer (some ⟨wo.heap.size, 1, none⟩)) ?_ hC (Below.refl _ _) (by intro d hd; cases hd; exact rfl)
                  (clear hV hI hC; go_simp <;> (first | rfl | simp | (rw [IntKind.wrap_i64]; omega)))
                case o71 =>
                  intro Q a w2 hC hV hI
                  have e70 : a.eval (.tmp 70) = .pointer (some ⟨wo.heap.size, 1, none⟩) := hV 70 (by simp [Op.operands]) (by kernel_rfl)
                  have f70 : a.tmps.getD 70 undef = .pointer (some ⟨wo.heap.size, 1, none⟩) := e70
                  have g70 : a.tmps[70]?.getD undef = .pointer (some ⟨wo.heap.size, 1, none⟩) := by rw [← Array.getD_eq_getD_getElem?]; exact e70
                  have hK := KC.out w2 hC
                  refine op_val (.string p) ?_ hC (Below.refl _ _) (by intro d hd; cases hd; exact rfl)
                  (clear hV hI hC; go_simp <;> (first | rfl | simp | (rw [IntKind.wrap_i64]; omega)))
                case o72 =>
                  intro Q a w2 hC hV hI
                  have e8 : a.eval (.tmp 8) = .string b := (hI 8 (by simp [Op.operands]) (by kernel_rfl)).trans rfl
                  have f8 : a.tmps.getD 8 undef = .string b := e8
                  have g8 : a.tmps[8]?.getD undef = .string b := by rw [← Array.getD_eq_getD_getElem?]; exact e8
                  refine op_val (.string b) ?_ hC (Below.refl _ _) (by intro d hd; cases hd; exact rfl)
                  (clear hV hI hC; go_simp <;> (first | rfl | simp | (rw [IntKind.wrap_i64]; omega)))
                case o73 =>
                  intro Q a w2 hC hV hI
                  have e58 : a.eval (.tmp 58) = .int .i64 x := hV 58 (by simp [Op.operands]) (by kernel_rfl)
                  have f58 : a.tmps.getD 58 undef = .int .i64 x := e58
                  have g58 : a.tmps[58]?.getD undef = .int .i64 x := by rw [← Array.getD_eq_getD_getElem?]; exact e58
                  have e62 : a.eval (.tmp 62) = .int .i64 (m + 32768) := hV 62 (by simp [Op.operands]) (by kernel_rfl)
                  have f62 : a.tmps.getD 62 undef = .int .i64 (m + 32768) := e62
                  have g62 : a.tmps[62]?.getD undef = .int .i64 (m + 32768) := by rw [← Array.getD_eq_getD_getElem?]; exact e62
                  have e64 : a.eval (.tmp 64) = .int .i64 u1 := hV 64 (by simp [Op.operands]) (by kernel_rfl)
                  have f64 : a.tmps.getD 64 undef = .int .i64 u1 := e64
                  have g64 : a.tmps[64]?.getD undef = .int .i64 u1 := by rw [← Array.getD_eq_getD_getElem?]; exact e64
                  have e66 : a.eval (.tmp 66) = .int .i64 gi := hV 66 (by simp [Op.operands]) (by kernel_rfl)
                  have f66 : a.tmps.getD 66 undef = .int .i64 gi := e66
                  have g66 : a.tmps[66]?.getD undef = .int .i64 gi := by rw [← Array.getD_eq_getD_getElem?]; exact e66
                  have e67 : a.eval (.tmp 67) = .int .i64 (cn : Int) := hV 67 (by simp [Op.operands]) (by kernel_rfl)
                  have f67 : a.tmps.getD 67 undef = .int .i64 (cn : Int) := e67
                  have g67 : a.tmps[67]?.getD undef = .int .i64 (cn : Int) := by rw [← Array.getD_eq_getD_getElem?]; exact e67
                  have e69 : a.eval (.tmp 69) = .int .i64 t := hV 69 (by simp [Op.operands]) (by kernel_rfl)
                  have f69 : a.tmps.getD 69 undef = .int .i64 t := e69
                  have g69 : a.tmps[69]?.getD undef = .int .i64 t := by rw [← Array.getD_eq_getD_getElem?]; exact e69
                  have e71 : a.eval (.tmp 71) = .string p := hV 71 (by simp [Op.operands]) (by kernel_rfl)
                  have f71 : a.tmps.getD 71 undef = .string p := e71
                  have g71 : a.tmps[71]?.getD undef = .string p := by rw [← Array.getD_eq_getD_getElem?]; exact e71
                  have e72 : a.eval (.tmp 72) = .string b := hV 72 (by simp [Op.operands]) (by kernel_rfl)
                  have f72 : a.tmps.getD 72 undef = .string b := e72
                  have g72 : a.tmps[72]?.getD undef = .string b := by rw [← Array.getD_eq_getD_getElem?]; exact e72
                  refine op_val (.agg #[.int .i64 x, .int .i64 (m + 32768), .int .i64 u1, .int .i64 gi, .int .i64 (cn : Int), .int .i64 t, .string p, .string b]) ?_ hC (Below.refl _ _) (by intro d hd; cases hd; exact rfl)
                  (clear hV hI hC; go_simp <;> (first | rfl | simp | (rw [IntKind.wrap_i64]; omega)))
                case o74 =>
                  intro Q a w2 hC hV hI
                  have e73 : a.eval (.tmp 73) = .agg #[.int .i64 x, .int .i64 (m + 32768), .int .i64 u1, .int .i64 gi, .int .i64 (cn : Int), .int .i64 t, .string p, .string b] := hV 73 (by simp [Op.operands]) (by kernel_rfl)
                  have f73 : a.tmps.getD 73 undef = .agg #[.int .i64 x, .int .i64 (m + 32768), .int .i64 u1, .int .i64 gi, .int .i64 (cn : Int), .int .i64 t, .string p, .string b] := e73
                  have g73 : a.tmps[73]?.getD undef = .agg #[.int .i64 x, .int .i64 (m + 32768), .int .i64 u1, .int .i64 gi, .int .i64 (cn : Int), .int .i64 t, .string p, .string b] := by rw [← Array.getD_eq_getD_getElem?]; exact e73
                  refine op_val (.slice (some ⟨w2.heap.size, 0, none⟩) 1 1) (w' := w2.alloc (.cells #[.int .i64 x, .int .i64 (m + 32768), .int .i64 u1, .int .i64 gi, .int .i64 (cn : Int), .int .i64 t, .string p, .string b] 44)) ?_ (hC.alloc hC.size _) ((Below.refl _ _).alloc (Nat.le_refl _) _) ?_
                  · (clear hV hI hC; go_simp <;> (first | rfl | simp | (rw [IntKind.wrap_i64]; omega)))
                  · intro d hd; cases hd; exact ⟨w2.heap.size, rfl, hC.size, heap_lastG _ _⟩
              case hend =>
                intro f w6 hC hall
                simp only [List.take_succ_cons, List.take_zero, List.drop_succ_cons, List.drop_zero] at hall ⊢
                simp only [List.forall_mem_cons] at hall
                obtain ⟨h55, h56, h57, h58, h59, h60, h61, h62, h63, h64, h65, h66, h67, h68, h69, h70, h71, h72, h73, h74, _⟩ := hall
                replace h55 : f 55 = .slice (some ⟨go, 0, none⟩) D.length co := h55 55 rfl
                replace h56 : f 56 = .slice (some ⟨g, 0, none⟩) j cap := h56 56 rfl
                replace h57 : f 57 = .int .i64 (i : Int) := h57 57 rfl
                replace h58 : f 58 = .int .i64 x := h58 58 rfl
                replace h59 : f 59 = .pointer (some ⟨wo.heap.size, 3, none⟩) := h59 59 rfl
                replace h60 : f 60 = .int .i64 m := h60 60 rfl
                replace h61 : f 61 = .int .i64 32768 := h61 61 rfl
                replace h62 : f 62 = .int .i64 (m + 32768) := h62 62 rfl
                replace h63 : f 63 = .pointer (some ⟨wo.heap.size, 4, none⟩) := h63 63 rfl
                replace h64 : f 64 = .int .i64 u1 := h64 64 rfl
                replace h65 : f 65 = .pointer (some ⟨wo.heap.size, 5, none⟩) := h65 65 rfl
                replace h66 : f 66 = .int .i64 gi := h66 66 rfl
                replace h67 : f 67 = .int .i64 (cn : Int) := h67 67 rfl
                replace h68 : f 68 = .pointer (some ⟨wo.heap.size, 6, none⟩) := h68 68 rfl
                replace h69 : f 69 = .int .i64 t := h69 69 rfl
                replace h70 : f 70 = .pointer (some ⟨wo.heap.size, 1, none⟩) := h70 70 rfl
                replace h71 : f 71 = .string p := h71 71 rfl
                replace h72 : f 72 = .string b := h72 72 rfl
                replace h73 : f 73 = .agg #[.int .i64 x, .int .i64 (m + 32768), .int .i64 u1, .int .i64 gi, .int .i64 (cn : Int), .int .i64 t, .string p, .string b] := h73 73 rfl
                obtain ⟨G74, hG74, hGB74, hGO74⟩ : ∃ G, f 74 = .slice (some ⟨G, 0, none⟩) 1 1 ∧ w5.heap.size ≤ G ∧ w6.heap[G]? = some (.cells #[.int .i64 x, .int .i64 (m + 32768), .int .i64 u1, .int .i64 gi, .int .i64 (cn : Int), .int .i64 t, .string p, .string b] 44 (0, 0)) := h74 74 rfl
                simp only [putAll, Act.put, List.setIfInBounds_toArray, List.set_cons_succ, List.set_cons_zero, h55, h56, h57, h58, h59, h60, h61, h62, h63, h64, h65, h66, h67, h68, h69, h70, h71, h72, h73, hG74]
                clear h55 h56 h57 h58 h59 h60 h61 h62 h63 h64 h65 h66 h67 h68 h69 h70 h71 h72 h73 hG74 h74
                replace O := Lib.hid (O.out.keep hC)
                replace B := Lib.hid (btE B.out hC)
                have OW := Lib.hid O.out.1
                have hsz6 := B.out.size
                go_wp2_with (at_builtin; refine wpList_append_own _ rfl _ _ 38 rfl w.heap.size 44 i0 (.agg #[.int .i64 0, .int .i64 0, .int .i64 0, .int .i64 0, .int .i64 0, .int .i64 0, .string ⟨#[]⟩, .string ⟨#[]⟩]) 8 80 Tryz.underlying38 hi0 hz0 hz1 hz2 rfl (by decide) _ D.length (valsC D) rfl ?c0k0 ⟨G74, 0, none⟩ 1 1 (valsC [⟨x, m + 32768, u1, gi, (cn : Int), t, p, b⟩]) rfl (valsC_len _) ?c1k0 ?c2k0 ?c3k0 ?c4k0 ?c5k0 ?_)
                case c0k0 => exact OW.out
                case c1k0 => exact row_card hGO74
                case c2k0 => exact valsC_onecell _
                any_goals (first | (simp only [maxLen]; omega) | omega | (simp; omega))
                intro v' w7 hown hgrow hnil
                have O7 : Hid (OwnC w7 w.heap.size v' (cardsTo L (i + 1))) := Lib.hid (by rw [HC3.out]; exact own_appC hown rfl rfl hnil)
                have B7 : Hid (Below w.heap.size w w7) := Lib.hid (B.out.grown hgrow B.out.size (fun b hb => (World.ownsRow.lt OW.out b hb).1))
                clear hown hgrow hnil O B OW KC HI3 X R hC
                go_wp2_with fail
                go_roundw
                case rel => exact ⟨i + 1, by go_num, by omega, O7.out, B7.out⟩
                case measure => simp [intOf]; omega
            · subst h
              have HC3 : Hid (cardsTo L (i + 1) = D ++ [⟨x, m + 16384, u1, gi, 2, t, p, b⟩]) := Lib.hid (by rw [HC2.out]; rfl)
              clear HC2
              go_upto_region 20 with fail
              generalize hw5 : World.alloc wr _ = w5
              have NB : Below wr.heap.size wr w5 := by rw [← hw5]; exact (Below.refl _ _).alloc (Nat.le_refl _) _
              clear hw5 d0 d1 d2 d3 d4 d5 d6 d7 d8 d9
              replace O := Lib.hid (O.out.keep NB)
              replace X := Lib.hid (X.out.below NB zX)
              replace R := Lib.hid (R.out.below NB (by omega))
              replace B := Lib.hid (btE B.out NB)
              have hsz5 := B.out.size
              have zX5 := X.out.lt
              have zg5 : g < w5.heap.size := by omega
              clear NB
              have KC : Hid (∀ w', Below w5.heap.size w5 w' → w'.cell? ⟨wo.heap.size, 1, none⟩ = some (.string p) ∧ w'.cell? ⟨wo.heap.size, 3, none⟩ = some (.int .i64 m) ∧ w'.cell? ⟨wo.heap.size, 4, none⟩ = some (.int .i64 u1) ∧ w'.cell? ⟨wo.heap.size, 5, none⟩ = some (.int .i64 gi) ∧ w'.cell? ⟨wo.heap.size, 6, none⟩ = some (.int .i64 t)) := Lib.hid (fun w' hb => by
                obtain ⟨d0, d1, d2, d3, d4, d5, d6, d7, d8, d9⟩ := (X.out.below hb zX5).at.zero
                exact ⟨d1, d3, d4, d5, d6⟩)
              have HI3 := Lib.hid (fun w' (hb : Below w5.heap.size w5 w') => HI2.out w' (Nat.lt_of_lt_of_le zg5 hb.size) (R.out.below hb zg5))
              clear HI2
              refine wp_region_cut 20 (by kernel_rfl) (fun w' => Below w5.heap.size w5 w') (fun x y => Below x.heap.size x y) (vSlG 74 44 w5.heap.size #[.int .i64 x, .int .i64 (m + 16384), .int .i64 u1, .int .i64 gi, .int .i64 2, .int .i64 t, .string p, .string b] (fun d v => match d with | 55 => v = .slice (some ⟨go, 0, none⟩) D.length co | 56 => v = .slice (some ⟨g, 0, none⟩) j cap | 57 => v = .int .i64 (i : Int) | 58 => v = .int .i64 x | 59 => v = .pointer (some ⟨wo.heap.size, 3, none⟩) | 60 => v = .int .i64 m | 61 => v = .int .i64 16384 | 62 => v = .int .i64 (m + 16384) | 63 => v = .pointer (some ⟨wo.heap.size, 4, none⟩) | 64 => v = .int .i64 u1 | 65 => v = .pointer (some ⟨wo.heap.size, 5, none⟩) | 66 => v = .int .i64 gi | 67 => v = .int .i64 2 | 68 => v = .pointer (some ⟨wo.heap.size, 6, none⟩) | 69 => v = .int .i64 t | 70 => v = .pointer (some ⟨wo.heap.size, 1, none⟩) | 71 => v = .string p | 72 => v = .string b | 73 => v = .agg #[.int .i64 x, .int .i64 (m + 16384), .int .i64 u1, .int .i64 gi, .int .i64 2, .int .i64 t, .string p, .string b] | _ => True)) (by kernel_rfl) (by kernel_rfl) ((Below.refl _ _).drew) (vSlG_keep _ _ _ _ _) (by simp) ?hops ?hend
              case hops =>
                simp only [List.take_succ_cons, List.take_zero, List.forall_mem_cons]
                refine ⟨?o55, ?o56, ?o57, ?o58, ?o59, ?o60, ?o61, ?o62, ?o63, ?o64, ?o65, ?o66, ?o67, ?o68, ?o69, ?o70, ?o71, ?o72, ?o73, ?o74, fun _ h => by cases h⟩
                case o55 =>
                  intro Q a w2 hC hV hI
                  have e3 : a.eval (.tmp 3) = .slice (some ⟨go, 0, none⟩) D.length co := (hI 3 (by simp [Op.operands]) (by kernel_rfl)).trans rfl
                  have f3 : a.tmps.getD 3 undef = .slice (some ⟨go, 0, none⟩) D.length co := e3
                  have g3 : a.tmps[3]?.getD undef = .slice (some ⟨go, 0, none⟩) D.length co := by rw [← Array.getD_eq_getD_getElem?]; exact e3
                  refine op_val (.slice (some ⟨go, 0, none⟩) D.length co) ?_ hC (Below.refl _ _) (by intro d hd; cases hd; exact rfl)
                  (clear hV hI hC; go_simp <;> (first | rfl | simp | (rw [IntKind.wrap_i64]; omega)))
                case o56 =>
                  intro Q a w2 hC hV hI
                  have e0 : a.eval (.tmp 0) = .slice (some ⟨g, 0, none⟩) j cap := (hI 0 (by simp [Op.operands]) (by kernel_rfl)).trans rfl
                  have f0 : a.tmps.getD 0 undef = .slice (some ⟨g, 0, none⟩) j cap := e0
                  have g0 : a.tmps[0]?.getD undef = .slice (some ⟨g, 0, none⟩) j cap := by rw [← Array.getD_eq_getD_getElem?]; exact e0
                  refine op_val (.slice (some ⟨g, 0, none⟩) j cap) ?_ hC (Below.refl _ _) (by intro d hd; cases hd; exact rfl)
                  (clear hV hI hC; go_simp <;> (first | rfl | simp | (rw [IntKind.wrap_i64]; omega)))
                case o57 =>
                  intro Q a w2 hC hV hI
                  have e4 : a.eval (.tmp 4) = .int .i64 (i : Int) := (hI 4 (by simp [Op.operands]) (by kernel_rfl)).trans rfl
                  have f4 : a.tmps.getD 4 undef = .int .i64 (i : Int) := e4
                  have g4 : a.tmps[4]?.getD undef = .int .i64 (i : Int) := by rw [← Array.getD_eq_getD_getElem?]; exact e4
                  refine op_val (.int .i64 (i : Int)) ?_ hC (Below.refl _ _) (by intro d hd; cases hd; exact rfl)
                  (clear hV hI hC; go_simp <;> (first | rfl | simp | (rw [IntKind.wrap_i64]; omega)))
                case o58 =>
                  intro Q a w2 hC hV hI
                  have e56 : a.eval (.tmp 56) = .slice (some ⟨g, 0, none⟩) j cap := hV 56 (by simp [Op.operands, Call.operands]) (by kernel_rfl)
                  have f56 : a.tmps.getD 56 undef = .slice (some ⟨g, 0, none⟩) j cap := e56
                  have g56 : a.tmps[56]?.getD undef = .slice (some ⟨g, 0, none⟩) j cap := by rw [← Array.getD_eq_getD_getElem?]; exact e56
                  have e57 : a.eval (.tmp 57) = .int .i64 (i : Int) := hV 57 (by simp [Op.operands, Call.operands]) (by kernel_rfl)
                  have f57 : a.tmps.getD 57 undef = .int .i64 (i : Int) := e57
                  have g57 : a.tmps[57]?.getD undef = .int .i64 (i : Int) := by rw [← Array.getD_eq_getD_getElem?]; exact e57
                  refine op_call (f := 32) (args := #[.slice (some ⟨g, 0, none⟩) j cap, .int .i64 (i : Int)]) (R := fun v y => v = .int .i64 x ∧ Below w2.heap.size w2 y) ?_ ((HI3.out w2 hC).mono ?_) ?_
                  · (clear hV hI hC; go_simp <;> (first | rfl | simp | (rw [IntKind.wrap_i64]; omega)))
                  · rintro e y ⟨rfl, hb⟩; exact ⟨_, rfl, rfl, hb⟩
                  · rintro v y ⟨rfl, hb⟩; exact ⟨hC.trans (hb.mono hC.size), hb, by intro d hd; cases hd; exact rfl⟩
                case o59 =>
                  intro Q a w2 hC hV hI
                  have e5 : a.eval (.tmp 5) = .pointer (some ⟨wo.heap.size, 0, none⟩) := (hI 5 (by simp [Op.operands]) (by kernel_rfl)).trans rfl
                  have f5 : a.tmps.getD 5 undef = .pointer (some ⟨wo.heap.size, 0, none⟩) := e5
                  have g5 : a.tmps[5]?.getD undef = .pointer (some ⟨wo.heap.size, 0, none⟩) := by rw [← Array.getD_eq_getD_getElem?]; exact e5
                  refine op_val (.pointer (some ⟨wo.heap.size, 3, none⟩)) ?_ hC (Below.refl _ _) (by intro d hd; cases hd; exact rfl)
                  (clear hV hI hC; go_simp <;> (first | rfl | simp | (rw [IntKind.wrap_i64]; omega)))
                case o60 =>
                  intro Q a w2 hC hV hI
                  have e59 : a.eval (.tmp 59) = .pointer (some ⟨wo.heap.size, 3, none⟩) := hV 59 (by simp [Op.operands]) (by kernel_rfl)
                  have f59 : a.tmps.getD 59 undef = .pointer (some ⟨wo.heap.size, 3, none⟩) := e59
                  have g59 : a.tmps[59]?.getD undef = .pointer (some ⟨wo.heap.size, 3, none⟩) := by rw [← Array.getD_eq_getD_getElem?]; exact e59
                  have hK := KC.out w2 hC
                  refine op_val (.int .i64 m) ?_ hC (Below.refl _ _) (by intro d hd; cases hd; exact rfl)
                  (clear hV hI hC; go_simp <;> (first | rfl | simp | (rw [IntKind.wrap_i64]; omega)))
                case o61 =>
                  intro Q a w2 hC hV hI
                  have e9 : a.eval (.tmp 9) = .int .i64 16384 := (hI 9 (by simp [Op.operands]) (by kernel_rfl)).trans rfl
                  have f9 : a.tmps.getD 9 undef = .int .i64 16384 := e9
                  have g9 : a.tmps[9]?.getD undef = .int .i64 16384 := by rw [← Array.getD_eq_getD_getElem?]; exact e9
                  refine op_val (.int .i64 16384) ?_ hC (Below.refl _ _) (by intro d hd; cases hd; exact rfl)
                  (clear hV hI hC; go_simp <;> (first | rfl | simp | (rw [IntKind.wrap_i64]; omega)))
                case o62 =>
                  intro Q a w2 hC hV hI
                  have e60 : a.eval (.tmp 60) = .int .i64 m := hV 60 (by simp [Op.operands]) (by kernel_rfl)
                  have f60 : a.tmps.getD 60 undef = .int .i64 m := e60
                  have g60 : a.tmps[60]?.getD undef = .int .i64 m := by rw [← Array.getD_eq_getD_getElem?]; exact e60
                  have e61 : a.eval (.tmp 61) = .int .i64 16384 := hV 61 (by simp [Op.operands]) (by kernel_rfl)
                  have f61 : a.tmps.getD 61 undef = .int .i64 16384 := e61
                  have g61 : a.tmps[61]?.getD undef = .int .i64 16384 := by rw [← Array.getD_eq_getD_getElem?]; exact e61
                  have q9 := add_i64 (P := Tryz.prog) (a := m) (b := 16384) w2 3 (by omega) (by omega)
                  refine op_val (.int .i64 (m + 16384)) ?_ hC (Below.refl _ _) (by intro d hd; cases hd; exact rfl)
                  (clear hV hI hC; go_simp <;> (first | rfl | simp | (rw [IntKind.wrap_i64]; omega)))
                case o63 =>
                  intro Q a w2 hC hV hI
                  have e5 : a.eval (.tmp 5) = .pointer (some ⟨wo.heap.size, 0, none⟩) := (hI 5 (by simp [Op.operands]) (by kernel_rfl)).trans rfl
                  have f5 : a.tmps.getD 5 undef = .pointer (some ⟨wo.heap.size, 0, none⟩) := e5
                  have g5 : a.tmps[5]?.getD undef = .pointer (some ⟨wo.heap.size, 0, none⟩) := by rw [← Array.getD_eq_getD_getElem?]; exact e5
                  refine op_val (.pointer (some ⟨wo.heap.size, 4, none⟩)) ?_ hC (Below.refl _ _) (by intro d hd; cases hd; exact rfl)
                  (clear hV hI hC; go_simp <;> (first | rfl | simp | (rw [IntKind.wrap_i64]; omega)))
                case o64 =>
                  intro Q a w2 hC hV hI
                  have e63 : a.eval (.tmp 63) = .pointer (some ⟨wo.heap.size, 4, none⟩) := hV 63 (by simp [Op.operands]) (by kernel_rfl)
                  have f63 : a.tmps.getD 63 undef = .pointer (some ⟨wo.heap.size, 4, none⟩) := e63
                  have g63 : a.tmps[63]?.getD undef = .pointer (some ⟨wo.heap.size, 4, none⟩) := by rw [← Array.getD_eq_getD_getElem?]; exact e63
                  have hK := KC.out w2 hC
                  refine op_val (.int .i64 u1) ?_ hC (Below.refl _ _) (by intro d hd; cases hd; exact rfl)
                  (clear hV hI hC; go_simp <;> (first | rfl | simp | (rw [IntKind.wrap_i64]; omega)))
                case o65 =>
                  intro Q a w2 hC hV hI
                  have e5 : a.eval (.tmp 5) = .pointer (some ⟨wo.heap.size, 0, none⟩) := (hI 5 (by simp [Op.operands]) (by kernel_rfl)).trans rfl
                  have f5 : a.tmps.getD 5 undef = .pointer (some ⟨wo.heap.size, 0, none⟩) := e5
                  have g5 : a.tmps[5]?.getD undef = .pointer (some ⟨wo.heap.size, 0, none⟩) := by rw [← Array.getD_eq_getD_getElem?]; exact e5
                  refine op_val (.pointer (some ⟨wo.heap.size, 5, none⟩)) ?_ hC (Below.refl _ _) (by intro d hd; cases hd; exact rfl)
                  (clear hV hI hC; go_simp <;> (first | rfl | simp | (rw [IntKind.wrap_i64]; omega)))
                case o66 =>
                  intro Q a w2 hC hV hI
                  have e65 : a.eval (.tmp 65) = .pointer (some ⟨wo.heap.size, 5, none⟩) := hV 65 (by simp [Op.operands]) (by kernel_rfl)
                  have f65 : a.tmps.getD 65 undef = .pointer (some ⟨wo.heap.size, 5, none⟩) := e65
                  have g65 : a.tmps[65]?.getD undef = .pointer (some ⟨wo.heap.size, 5, none⟩) := by rw [← Array.getD_eq_getD_getElem?]; exact e65
                  have hK := KC.out w2 hC
                  refine op_val (.int .i64 gi) ?_ hC (Below.refl _ _) (by intro d hd; cases hd; exact rfl)
                  (clear hV hI hC; go_simp <;> (first | rfl | simp | (rw [IntKind.wrap_i64]; omega)))
                case o67 =>
                  intro Q a w2 hC hV hI
                  have e6 : a.eval (.tmp 6) = .int .i64 2 := (hI 6 (by simp [Op.operands]) (by kernel_rfl)).trans rfl
                  have f6 : a.tmps.getD 6 undef = .int .i64 2 := e6
                  have g6 : a.tmps[6]?.getD undef = .int .i64 2 := by rw [← Array.getD_eq_getD_getElem?]; exact e6
                  refine op_val (.int .i64 2) ?_ hC (Below.refl _ _) (by intro d hd; cases hd; exact rfl)
                  (clear hV hI hC; go_simp <;> (first | rfl | simp | (rw [IntKind.wrap_i64]; omega)))
                case o68 =>
                  intro Q a w2 hC hV hI
                  have e5 : a.eval (.tmp 5) = .pointer (some ⟨wo.heap.size, 0, none⟩) := (hI 5 (by simp [Op.operands]) (by kernel_rfl)).trans rfl
                  have f5 : a.tmps.getD 5 undef = .pointer (some ⟨wo.heap.size, 0, none⟩) := e5
                  have g5 : a.tmps[5]?.getD undef = .pointer (some ⟨wo.heap.size, 0, none⟩) := by rw [← Array.getD_eq_getD_getElem?]; exact e5
                  refine op_val (.pointer (some ⟨wo.heap.size, 6, none⟩)) ?_ hC (Below.refl _ _) (by intro d hd; cases hd; exact rfl)
                  (clear hV hI hC; go_simp <;> (first | rfl | simp | (rw [IntKind.wrap_i64]; omega)))
                case o69 =>
                  intro Q a w2 hC hV hI
                  have e68 : a.eval (.tmp 68) = .pointer (some ⟨wo.heap.size, 6, none⟩) := hV 68 (by simp [Op.operands]) (by kernel_rfl)
                  have f68 : a.tmps.getD 68 undef = .pointer (some ⟨wo.heap.size, 6, none⟩) := e68
                  have g68 : a.tmps[68]?.getD undef = .pointer (some ⟨wo.heap.size, 6, none⟩) := by rw [← Array.getD_eq_getD_getElem?]; exact e68
                  have hK := KC.out w2 hC
                  refine op_val (.int .i64 t) ?_ hC (Below.refl _ _) (by intro d hd; cases hd; exact rfl)
                  (clear hV hI hC; go_simp <;> (first | rfl | simp | (rw [IntKind.wrap_i64]; omega)))
                case o70 =>
                  intro Q a w2 hC hV hI
                  have e5 : a.eval (.tmp 5) = .pointer (some ⟨wo.heap.size, 0, none⟩) := (hI 5 (by simp [Op.operands]) (by kernel_rfl)).trans rfl
                  have f5 : a.tmps.getD 5 undef = .pointer (some ⟨wo.heap.size, 0, none⟩) := e5
                  have g5 : a.tmps[5]?.getD undef = .pointer (some ⟨wo.heap.size, 0, none⟩) := by rw [← Array.getD_eq_getD_getElem?]; exact e5
                  refine op_val (.pointer (some ⟨wo.heap.size, 1, none⟩)) ?_ hC (Below.refl _ _) (by intro d hd; cases hd; exact rfl)
                  (clear hV hI hC; go_simp <;> (first | rfl | simp | (rw [IntKind.wrap_i64]; omega)))
                case o71 =>
                  intro Q a w2 hC hV hI
                  have e70 : a.eval (.tmp 70) = .pointer (some ⟨wo.heap.size, 1, none⟩) := hV 70 (by simp [Op.operands]) (by kernel_rfl)
                  have f70 : a.tmps.getD 70 undef = .pointer (some ⟨wo.heap.size, 1, none⟩) := e70
                  have g70 : a.tmps[70]?.getD undef = .pointer (some ⟨wo.heap.size, 1, none⟩) := by rw [← Array.getD_eq_getD_getElem?]; exact e70
                  have hK := KC.out w2 hC
                  refine op_val (.string p) ?_ hC (Below.refl _ _) (by intro d hd; cases hd; exact rfl)
                  (clear hV hI hC; go_simp <;> (first | rfl | simp | (rw [IntKind.wrap_i64]; omega)))
                case o72 =>
                  intro Q a w2 hC hV hI
                  have e8 : a.eval (.tmp 8) = .string b := (hI 8 (by simp [Op.operands]) (by kernel_rfl)).trans rfl
                  have f8 : a.tmps.getD 8 undef = .string b := e8
                  have g8 : a.tmps[8]?.getD undef = .string b := by rw [← Array.getD_eq_getD_getElem?]; exact e8
                  refine op_val (.string b) ?_ hC (Below.refl _ _) (by intro d hd; cases hd; exact rfl)
                  (clear hV hI hC; go_simp <;> (first | rfl | simp | (rw [IntKind.wrap_i64]; omega)))
                case o73 =>
                  intro Q a w2 hC hV hI
                  have e58 : a.eval (.tmp 58) = .int .i64 x := hV 58 (by simp [Op.operands]) (by kernel_rfl)
                  have f58 : a.tmps.getD 58 undef = .int .i64 x := e58
                  have g58 : a.tmps[58]?.getD undef = .int .i64 x := by rw [← Array.getD_eq_getD_getElem?]; exact e58
                  have e62 : a.eval (.tmp 62) = .int .i64 (m + 16384) := hV 62 (by simp [Op.operands]) (by kernel_rfl)
                  have f62 : a.tmps.getD 62 undef = .int .i64 (m + 16384) := e62
                  have g62 : a.tmps[62]?.getD undef = .int .i64 (m + 16384) := by rw [← Array.getD_eq_getD_getElem?]; exact e62
                  have e64 : a.eval (.tmp 64) = .int .i64 u1 := hV 64 (by simp [Op.operands]) (by kernel_rfl)
                  have f64 : a.tmps.getD 64 undef = .int .i64 u1 := e64
                  have g64 : a.tmps[64]?.getD undef = .int .i64 u1 := by rw [← Array.getD_eq_getD_getElem?]; exact e64
                  have e66 : a.eval (.tmp 66) = .int .i64 gi := hV 66 (by simp [Op.operands]) (by kernel_rfl)
                  have f66 : a.tmps.getD 66 undef = .int .i64 gi := e66
                  have g66 : a.tmps[66]?.getD undef = .int .i64 gi := by rw [← Array.getD_eq_getD_getElem?]; exact e66
                  have e67 : a.eval (.tmp 67) = .int .i64 2 := hV 67 (by simp [Op.operands]) (by kernel_rfl)
                  have f67 : a.tmps.getD 67 undef = .int .i64 2 := e67
                  have g67 : a.tmps[67]?.getD undef = .int .i64 2 := by rw [← Array.getD_eq_getD_getElem?]; exact e67
                  have e69 : a.eval (.tmp 69) = .int .i64 t := hV 69 (by simp [Op.operands]) (by kernel_rfl)
                  have f69 : a.tmps.getD 69 undef = .int .i64 t := e69
                  have g69 : a.tmps[69]?.getD undef = .int .i64 t := by rw [← Array.getD_eq_getD_getElem?]; exact e69
                  have e71 : a.eval (.tmp 71) = .string p := hV 71 (by simp [Op.operands]) (by kernel_rfl)
                  have f71 : a.tmps.getD 71 undef = .string p := e71
                  have g71 : a.tmps[71]?.getD undef = .string p := by rw [← Array.getD_eq_getD_getElem?]; exact e71
                  have e72 : a.eval (.tmp 72) = .string b := hV 72 (by simp [Op.operands]) (by kernel_rfl)
                  have f72 : a.tmps.getD 72 undef = .string b := e72
                  have g72 : a.tmps[72]?.getD undef = .string b := by rw [← Array.getD_eq_getD_getElem?]; exact e72
                  refine op_val (.agg #[.int .i64 x, .int .i64 (m + 16384), .int .i64 u1, .int .i64 gi, .int .i64 2, .int .i64 t, .string p, .string b]) ?_ hC (Below.refl _ _) (by intro d hd; cases hd; exact rfl)
                  (clear hV hI hC; go_simp <;> (first | rfl | simp | (rw [IntKind.wrap_i64]; omega)))
                case o74 =>
                  intro Q a w2 hC hV hI
                  have e73 : a.eval (.tmp 73) = .agg #[.int .i64 x, .int .i64 (m + 16384), .int .i64 u1, .int .i64 gi, .int .i64 2, .int .i64 t, .string p, .string b] := hV 73 (by simp [Op.operands]) (by kernel_rfl)
                  have f73 : a.tmps.getD 73 undef = .agg #[.int .i64 x, .int .i64 (m + 16384), .int .i64 u1, .int .i64 gi, .int .i64 2, .int .i64 t, .string p, .string b] := e73
                  have g73 : a.tmps[73]?.getD undef = .agg #[.int .i64 x, .int .i64 (m + 16384), .int .i64 u1, .int .i64 gi, .int .i64 2, .int .i64 t, .string p, .string b] := by rw [← Array.getD_eq_getD_getElem?]; exact e73
                  refine op_val (.slice (some ⟨w2.heap.size, 0, none⟩) 1 1) (w' := w2.alloc (.cells #[.int .i64 x, .int .i64 (m + 16384), .int .i64 u1, .int .i64 gi, .int .i64 2, .int .i64 t, .string p, .string b] 44)) ?_ (hC.alloc hC.size _) ((Below.refl _ _).alloc (Nat.le_refl _) _) ?_
                  · (clear hV hI hC; go_simp <;> (first | rfl | simp | (rw [IntKind.wrap_i64]; omega)))
                  · intro d hd; cases hd; exact ⟨w2.heap.size, rfl, hC.size, heap_lastG _ _⟩
              case hend =>
                intro f w6 hC hall
                simp only [List.take_succ_cons, List.take_zero, List.drop_succ_cons, List.drop_zero] at hall ⊢
                simp only [List.forall_mem_cons] at hall
                obtain ⟨h55, h56, h57, h58, h59, h60, h61, h62, h63, h64, h65, h66, h67, h68, h69, h70, h71, h72, h73, h74, _⟩ := hall
                replace h55 : f 55 = .slice (some ⟨go, 0, none⟩) D.length co := h55 55 rfl
                replace h56 : f 56 = .slice (some ⟨g, 0, none⟩) j cap := h56 56 rfl
                replace h57 : f 57 = .int .i64 (i : Int) := h57 57 rfl
                replace h58 : f 58 = .int .i64 x := h58 58 rfl
                replace h59 : f 59 = .pointer (some ⟨wo.heap.size, 3, none⟩) := h59 59 rfl
                replace h60 : f 60 = .int .i64 m := h60 60 rfl
                replace h61 : f 61 = .int .i64 16384 := h61 61 rfl
                replace h62 : f 62 = .int .i64 (m + 16384) := h62 62 rfl
                replace h63 : f 63 = .pointer (some ⟨wo.heap.size, 4, none⟩) := h63 63 rfl
                replace h64 : f 64 = .int .i64 u1 := h64 64 rfl
                replace h65 : f 65 = .pointer (some ⟨wo.heap.size, 5, none⟩) := h65 65 rfl
                replace h66 : f 66 = .int .i64 gi := h66 66 rfl
                replace h67 : f 67 = .int .i64 2 := h67 67 rfl
                replace h68 : f 68 = .pointer (some ⟨wo.heap.size, 6, none⟩) := h68 68 rfl
                replace h69 : f 69 = .int .i64 t := h69 69 rfl
                replace h70 : f 70 = .pointer (some ⟨wo.heap.size, 1, none⟩) := h70 70 rfl
                replace h71 : f 71 = .string p := h71 71 rfl
                replace h72 : f 72 = .string b := h72 72 rfl
                replace h73 : f 73 = .agg #[.int .i64 x, .int .i64 (m + 16384), .int .i64 u1, .int .i64 gi, .int .i64 2, .int .i64 t, .string p, .string b] := h73 73 rfl
                obtain ⟨G74, hG74, hGB74, hGO74⟩ : ∃ G, f 74 = .slice (some ⟨G, 0, none⟩) 1 1 ∧ w5.heap.size ≤ G ∧ w6.heap[G]? = some (.cells #[.int .i64 x, .int .i64 (m + 16384), .int .i64 u1, .int .i64 gi, .int .i64 2, .int .i64 t, .string p, .string b] 44 (0, 0)) := h74 74 rfl
                simp only [putAll, Act.put, List.setIfInBounds_toArray, List.set_cons_succ, List.set_cons_zero, h55, h56, h57, h58, h59, h60, h61, h62, h63, h64, h65, h66, h67, h68, h69, h70, h71, h72, h73, hG74]
                clear h55 h56 h57 h58 h59 h60 h61 h62 h63 h64 h65 h66 h67 h68 h69 h70 h71 h72 h73 hG74 h74
                replace O := Lib.hid (O.out.keep hC)
                replace B := Lib.hid (btE B.out hC)
                have OW := Lib.hid O.out.1
                have hsz6 := B.out.size
                go_wp2_with (at_builtin; refine wpList_append_own _ rfl _ _ 38 rfl w.heap.size 44 i0 (.agg #[.int .i64 0, .int .i64 0, .int .i64 0, .int .i64 0, .int .i64 0, .int .i64 0, .string ⟨#[]⟩, .string ⟨#[]⟩]) 8 80 Tryz.underlying38 hi0 hz0 hz1 hz2 rfl (by decide) _ D.length (valsC D) rfl ?c0k1 ⟨G74, 0, none⟩ 1 1 (valsC [⟨x, m + 16384, u1, gi, 2, t, p, b⟩]) rfl (valsC_len _) ?c1k1 ?c2k1 ?c3k1 ?c4k1 ?c5k1 ?_)
                case c0k1 => exact OW.out
                case c1k1 => exact row_card hGO74
                case c2k1 => exact valsC_onecell _
                any_goals (first | (simp only [maxLen]; omega) | omega | (simp; omega))
                intro v' w7 hown hgrow hnil
                have O7 : Hid (OwnC w7 w.heap.size v' (cardsTo L (i + 1))) := Lib.hid (by rw [HC3.out]; exact own_appC hown rfl rfl hnil)
                have B7 : Hid (Below w.heap.size w w7) := Lib.hid (B.out.grown hgrow B.out.size (fun b hb => (World.ownsRow.lt OW.out b hb).1))
                clear hown hgrow hnil O B OW KC HI3 X R hC
                go_wp2_with fail
                go_roundw
                case rel => exact ⟨i + 1, by go_num, by omega, O7.out, B7.out⟩
                case measure => simp [intOf]; omega
            · subst h
              have HC3 : Hid (cardsTo L (i + 1) = D ++ [⟨x, m + 40960, u1, gi, (cn : Int), t, p, l⟩]) := Lib.hid (by rw [HC2.out]; rfl)
              clear HC2
              go_upto_region 20 with fail
              generalize hw5 : World.alloc wr _ = w5
              have NB : Below wr.heap.size wr w5 := by rw [← hw5]; exact (Below.refl _ _).alloc (Nat.le_refl _) _
              clear hw5 d0 d1 d2 d3 d4 d5 d6 d7 d8 d9
              replace O := Lib.hid (O.out.keep NB)
              replace X := Lib.hid (X.out.below NB zX)
              replace R := Lib.hid (R.out.below NB (by omega))
              replace B := Lib.hid (btE B.out NB)
              have hsz5 := B.out.size
              have zX5 := X.out.lt
              have zg5 : g < w5.heap.size := by omega
              clear NB
              have KC : Hid (∀ w', Below w5.heap.size w5 w' → w'.cell? ⟨wo.heap.size, 1, none⟩ = some (.string p) ∧ w'.cell? ⟨wo.heap.size, 3, none⟩ = some (.int .i64 m) ∧ w'.cell? ⟨wo.heap.size, 4, none⟩ = some (.int .i64 u1) ∧ w'.cell? ⟨wo.heap.size, 5, none⟩ = some (.int .i64 gi) ∧ w'.cell? ⟨wo.heap.size, 6, none⟩ = some (.int .i64 t)) := Lib.hid (fun w' hb => by
                obtain ⟨d0, d1, d2, d3, d4, d5, d6, d7, d8, d9⟩ := (X.out.below hb zX5).at.zero
                exact ⟨d1, d3, d4, d5, d6⟩)
              have HI3 := Lib.hid (fun w' (hb : Below w5.heap.size w5 w') => HI2.out w' (Nat.lt_of_lt_of_le zg5 hb.size) (R.out.below hb zg5))
              clear HI2
              refine wp_region_cut 20 (by kernel_rfl) (fun w' => Below w5.heap.size w5 w') (fun x y => Below x.heap.size x y) (vSlG 74 44 w5.heap.size #[.int .i64 x, .int .i64 (m + 40960), .int .i64 u1, .int .i64 gi, .int .i64 (cn : Int), .int .i64 t, .string p, .string l] (fun d v => match d with | 55 => v = .slice (some ⟨go, 0, none⟩) D.length co | 56 => v = .slice (some ⟨g, 0, none⟩) j cap | 57 => v = .int .i64 (i : Int) | 58 => v = .int .i64 x | 59 => v = .pointer (some ⟨wo.heap.size, 3, none⟩) | 60 => v = .int .i64 m | 61 => v = .int .i64 40960 | 62 => v = .int .i64 (m + 40960) | 63 => v = .pointer (some ⟨wo.heap.size, 4, none⟩) | 64 => v = .int .i64 u1 | 65 => v = .pointer (some ⟨wo.heap.size, 5, none⟩) | 66 => v = .int .i64 gi | 67 => v = .int .i64 (cn : Int) | 68 => v = .pointer (some ⟨wo.heap.size, 6, none⟩) | 69 => v = .int .i64 t | 70 => v = .pointer (some ⟨wo.heap.size, 1, none⟩) | 71 => v = .string p | 72 => v = .string l | 73 => v = .agg #[.int .i64 x, .int .i64 (m + 40960), .int .i64 u1, .int .i64 gi, .int .i64 (cn : Int), .int .i64 t, .string p, .string l] | _ => True)) (by kernel_rfl) (by kernel_rfl) ((Below.refl _ _).drew) (vSlG_keep _ _ _ _ _) (by simp) ?hops ?hend
              case hops =>
                simp only [List.take_succ_cons, List.take_zero, List.forall_mem_cons]
                refine ⟨?o55, ?o56, ?o57, ?o58, ?o59, ?o60, ?o61, ?o62, ?o63, ?o64, ?o65, ?o66, ?o67, ?o68, ?o69, ?o70, ?o71, ?o72, ?o73, ?o74, fun _ h => by cases h⟩
                case o55 =>
                  intro Q a w2 hC hV hI
                  have e3 : a.eval (.tmp 3) = .slice (some ⟨go, 0, none⟩) D.length co := (hI 3 (by simp [Op.operands]) (by kernel_rfl)).trans rfl
                  have f3 : a.tmps.getD 3 undef = .slice (some ⟨go, 0, none⟩) D.length co := e3
                  have g3 : a.tmps[3]?.getD undef = .slice (some ⟨go, 0, none⟩) D.length co := by rw [← Array.getD_eq_getD_getElem?]; exact e3
                  refine op_val (.slice (some ⟨go, 0, none⟩) D.length co) ?_ hC (Below.refl _ _) (by intro d hd; cases hd; exact rfl)
                  (clear hV hI hC; go_simp <;> (first | rfl | simp | (rw [IntKind.wrap_i64]; omega)))
                case o56 =>
                  intro Q a w2 hC hV hI
                  have e0 : a.eval (.tmp 0) = .slice (some ⟨g, 0, none⟩) j cap := (hI 0 (by simp [Op.operands]) (by kernel_rfl)).trans rfl
                  have f0 : a.tmps.getD 0 undef = .slice (some ⟨g, 0, none⟩) j cap := e0
                  have g0 : a.tmps[0]?.getD undef = .slice (some ⟨g, 0, none⟩) j cap := by rw [← Array.getD_eq_getD_getElem?]; exact e0
                  refine op_val (.slice (some ⟨g, 0, none⟩) j cap) ?_ hC (Below.refl _ _) (by intro d hd; cases hd; exact rfl)
                  (clear hV hI hC; go_simp <;> (first | rfl | simp | (rw [IntKind.wrap_i64]; omega)))
                case o57 =>
                  intro Q a w2 hC hV hI
                  have e4 : a.eval (.tmp 4) = .int .i64 (i : Int) := (hI 4 (by simp [Op.operands]) (by kernel_rfl)).trans rfl
                  have f4 : a.tmps.getD 4 undef = .int .i64 (i : Int) := e4
                  have g4 : a.tmps[4]?.getD undef = .int .i64 (i : Int) := by rw [← Array.getD_eq_getD_getElem?]; exact e4
                  refine op_val (.int .i64 (i : Int)) ?_ hC (Below.refl _ _) (by intro d hd; cases hd; exact rfl)
                  (clear hV hI hC; go_simp <;> (first | rfl | simp | (rw [IntKind.wrap_i64]; omega)))
                case o58 =>
                  intro Q a w2 hC hV hI
                  have e56 : a.eval (.tmp 56) = .slice (some ⟨g, 0, none⟩) j cap := hV 56 (by simp [Op.operands, Call.operands]) (by kernel_rfl)
                  have f56 : a.tmps.getD 56 undef = .slice (some ⟨g, 0, none⟩) j cap := e56
                  have g56 : a.tmps[56]?.getD undef = .slice (some ⟨g, 0, none⟩) j cap := by rw [← Array.getD_eq_getD_getElem?]; exact e56
                  have e57 : a.eval (.tmp 57) = .int .i64 (i : Int) := hV 57 (by simp [Op.operands, Call.operands]) (by kernel_rfl)
                  have f57 : a.tmps.getD 57 undef = .int .i64 (i : Int) := e57
                  have g57 : a.tmps[57]?.getD undef = .int .i64 (i : Int) := by rw [← Array.getD_eq_getD_getElem?]; exact e57
                  refine op_call (f := 32) (args := #[.slice (some ⟨g, 0, none⟩) j cap, .int .i64 (i : Int)]) (R := fun v y => v = .int .i64 x ∧ Below w2.heap.size w2 y) ?_ ((HI3.out w2 hC).mono ?_) ?_
                  · (clear hV hI hC; go_simp <;> (first | rfl | simp | (rw [IntKind.wrap_i64]; omega)))
                  · rintro e y ⟨rfl, hb⟩; exact ⟨_, rfl, rfl, hb⟩
                  · rintro v y ⟨rfl, hb⟩; exact ⟨hC.trans (hb.mono hC.size), hb, by intro d hd; cases hd; exact rfl⟩
                case o59 =>
                  intro Q a w2 hC hV hI
                  have e5 : a.eval (.tmp 5) = .pointer (some ⟨wo.heap.size, 0, none⟩) := (hI 5 (by simp [Op.operands]) (by kernel_rfl)).trans rfl
                  have f5 : a.tmps.getD 5 undef = .pointer (some ⟨wo.heap.size, 0, none⟩) := e5
                  have g5 : a.tmps[5]?.getD undef = .pointer (some ⟨wo.heap.size, 0, none⟩) := by rw [← Array.getD_eq_getD_getElem?]; exact e5
                  refine op_val (.pointer (some ⟨wo.heap.size, 3, none⟩)) ?_ hC (Below.refl _ _) (by intro d hd; cases hd; exact rfl)
                  (clear hV hI hC; go_simp <;> (first | rfl | simp | (rw [IntKind.wrap_i64]; omega)))
                case o60 =>
                  intro Q a w2 hC hV hI
                  have e59 : a.eval (.tmp 59) = .pointer (some ⟨wo.heap.size, 3, none⟩) := hV 59 (by simp [Op.operands]) (by kernel_rfl)
                  have f59 : a.tmps.getD 59 undef = .pointer (some ⟨wo.heap.size, 3, none⟩) := e59
                  have g59 : a.tmps[59]?.getD undef = .pointer (some ⟨wo.heap.size, 3, none⟩) := by rw [← Array.getD_eq_getD_getElem?]; exact e59
                  have hK := KC.out w2 hC
                  refine op_val (.int .i64 m) ?_ hC (Below.refl _ _) (by intro d hd; cases hd; exact rfl)
                  (clear hV hI hC; go_simp <;> (first | rfl | simp | (rw [IntKind.wrap_i64]; omega)))
                case o61 =>
                  intro Q a w2 hC hV hI
                  have e9 : a.eval (.tmp 9) = .int .i64 40960 := (hI 9 (by simp [Op.operands]) (by kernel_rfl)).trans rfl
                  have f9 : a.tmps.getD 9 undef = .int .i64 40960 := e9
                  have g9 : a.tmps[9]?.getD undef = .int .i64 40960 := by rw [← Array.getD_eq_getD_getElem?]; exact e9
                  refine op_val (.int .i64 40960) ?_ hC (Below.refl _ _) (by intro d hd; cases hd; exact rfl)
                  (clear hV hI hC; go_simp <;> (first | rfl | simp | (rw [IntKind.wrap_i64]; omega)))
                case o62 =>
                  intro Q a w2 hC hV hI
                  have e60 : a.eval (.tmp 60) = .int .i64 m := hV 60 (by simp [Op.operands]) (by kernel_rfl)
                  have f60 : a.tmps.getD 60 undef = .int .i64 m := e60
                  have g60 : a.tmps[60]?.getD undef = .int .i64 m := by rw [← Array.getD_eq_getD_getElem?]; exact e60
                  have e61 : a.eval (.tmp 61) = .int .i64 40960 := hV 61 (by simp [Op.operands]) (by kernel_rfl)
                  have f61 : a.tmps.getD 61 undef = .int .i64 40960 := e61
                  have g61 : a.tmps[61]?.getD undef = .int .i64 40960 := by rw [← Array.getD_eq_getD_getElem?]; exact e61
                  have q9 := add_i64 (P := Tryz.prog) (a := m) (b := 40960) w2 3 (by omega) (by omega)
                  refine op_val (.int .i64 (m + 40960)) ?_ hC (Below.refl _ _) (by intro d hd; cases hd; exact rfl)
                  (clear hV hI hC; go_simp <;> (first | rfl | simp | (rw [IntKind.wrap_i64]; omega)))
                case o63 =>
                  intro Q a w2 hC hV hI
                  have e5 : a.eval (.tmp 5) = .pointer (some ⟨wo.heap.size, 0, none⟩) := (hI 5 (by simp [Op.operands]) (by kernel_rfl)).trans rfl
                  have f5 : a.tmps.getD 5 undef = .pointer (some ⟨wo.heap.size, 0, none⟩) := e5
                  have g5 : a.tmps[5]?.getD undef = .pointer (some ⟨wo.heap.size, 0, none⟩) := by rw [← Array.getD_eq_getD_getElem?]; exact e5
                  refine op_val (.pointer (some ⟨wo.heap.size, 4, none⟩)) ?_ hC (Below.refl _ _) (by intro d hd; cases hd; exact rfl)
                  (clear hV hI hC; go_simp <;> (first | rfl | simp | (rw [IntKind.wrap_i64]; omega)))
                case o64 =>
                  intro Q a w2 hC hV hI
                  have e63 : a.eval (.tmp 63) = .pointer (some ⟨wo.heap.size, 4, none⟩) := hV 63 (by simp [Op.operands]) (by kernel_rfl)
                  have f63 : a.tmps.getD 63 undef = .pointer (some ⟨wo.heap.size, 4, none⟩) := e63
                  have g63 : a.tmps[63]?.getD undef = .pointer (some ⟨wo.heap.size, 4, none⟩) := by rw [← Array.getD_eq_getD_getElem?]; exact e63
                  have hK := KC.out w2 hC
                  refine op_val (.int .i64 u1) ?_ hC (Below.refl _ _) (by intro d hd; cases hd; exact rfl)
                  (clear hV hI hC; go_simp <;> (first | rfl | simp | (rw [IntKind.wrap_i64]; omega)))
                case o65 =>
                  intro Q a w2 hC hV hI
                  have e5 : a.eval (.tmp 5) = .pointer (some ⟨wo.heap.size, 0, none⟩) := (hI 5 (by simp [Op.operands]) (by kernel_rfl)).trans rfl
                  have f5 : a.tmps.getD 5 undef = .pointer (some ⟨wo.heap.size, 0, none⟩) := e5
                  have g5 : a.tmps[5]?.getD undef = .pointer (some ⟨wo.heap.size, 0, none⟩) := by rw [← Array.getD_eq_getD_getElem?]; exact e5
                  refine op_val (.pointer (some ⟨wo.heap.size, 5, none⟩)) ?_ hC (Below.refl _ _) (by intro d hd; cases hd; exact rfl)
                  (clear hV hI hC; go_simp <;> (first | rfl | simp | (rw [IntKind.wrap_i64]; omega)))
                case o66 =>
                  intro Q a w2 hC hV hI
                  have e65 : a.eval (.tmp 65) = .pointer (some ⟨wo.heap.size, 5, none⟩) := hV 65 (by simp [Op.operands]) (by kernel_rfl)
                  have f65 : a.tmps.getD 65 undef = .pointer (some ⟨wo.heap.size, 5, none⟩) := e65
                  have g65 : a.tmps[65]?.getD undef = .pointer (some ⟨wo.heap.size, 5, none⟩) := by rw [← Array.getD_eq_getD_getElem?]; exact e65
                  have hK := KC.out w2 hC
                  refine op_val (.int .i64 gi) ?_ hC (Below.refl _ _) (by intro d hd; cases hd; exact rfl)
                  (clear hV hI hC; go_simp <;> (first | rfl | simp | (rw [IntKind.wrap_i64]; omega)))
                case o67 =>
                  intro Q a w2 hC hV hI
                  have e6 : a.eval (.tmp 6) = .int .i64 (cn : Int) := (hI 6 (by simp [Op.operands]) (by kernel_rfl)).trans rfl
                  have f6 : a.tmps.getD 6 undef = .int .i64 (cn : Int) := e6
                  have g6 : a.tmps[6]?.getD undef = .int .i64 (cn : Int) := by rw [← Array.getD_eq_getD_getElem?]; exact e6
                  refine op_val (.int .i64 (cn : Int)) ?_ hC (Below.refl _ _) (by intro d hd; cases hd; exact rfl)
                  (clear hV hI hC; go_simp <;> (first | rfl | simp | (rw [IntKind.wrap_i64]; omega)))
                case o68 =>
                  intro Q a w2 hC hV hI
                  have e5 : a.eval (.tmp 5) = .pointer (some ⟨wo.heap.size, 0, none⟩) := (hI 5 (by simp [Op.operands]) (by kernel_rfl)).trans rfl
                  have f5 : a.tmps.getD 5 undef = .pointer (some ⟨wo.heap.size, 0, none⟩) := e5
                  have g5 : a.tmps[5]?.getD undef = .pointer (some ⟨wo.heap.size, 0, none⟩) := by rw [← Array.getD_eq_getD_getElem?]; exact e5
                  refine op_val (.pointer (some ⟨wo.heap.size, 6, none⟩)) ?_ hC (Below.refl _ _) (by intro d hd; cases hd; exact rfl)
                  (clear hV hI hC; go_simp <;> (first | rfl | simp | (rw [IntKind.wrap_i64]; omega)))
                case o69 =>
                  intro Q a w2 hC hV hI
                  have e68 : a.eval (.tmp 68) = .pointer (some ⟨wo.heap.size, 6, none⟩) := hV 68 (by simp [Op.operands]) (by kernel_rfl)
                  have f68 : a.tmps.getD 68 undef = .pointer (some ⟨wo.heap.size, 6, none⟩) := e68
                  have g68 : a.tmps[68]?.getD undef = .pointer (some ⟨wo.heap.size, 6, none⟩) := by rw [← Array.getD_eq_getD_getElem?]; exact e68
                  have hK := KC.out w2 hC
                  refine op_val (.int .i64 t) ?_ hC (Below.refl _ _) (by intro d hd; cases hd; exact rfl)
                  (clear hV hI hC; go_simp <;> (first | rfl | simp | (rw [IntKind.wrap_i64]; omega)))
                case o70 =>
                  intro Q a w2 hC hV hI
                  have e5 : a.eval (.tmp 5) = .pointer (some ⟨wo.heap.size, 0, none⟩) := (hI 5 (by simp [Op.operands]) (by kernel_rfl)).trans rfl
                  have f5 : a.tmps.getD 5 undef = .pointer (some ⟨wo.heap.size, 0, none⟩) := e5
                  have g5 : a.tmps[5]?.getD undef = .pointer (some ⟨wo.heap.size, 0, none⟩) := by rw [← Array.getD_eq_getD_getElem?]; exact e5
                  refine op_val (.pointer (some ⟨wo.heap.size, 1, none⟩)) ?_ hC (Below.refl _ _) (by intro d hd; cases hd; exact rfl)
                  (clear hV hI hC; go_simp <;> (first | rfl | simp | (rw [IntKind.wrap_i64]; omega)))
                case o71 =>
                  intro Q a w2 hC hV hI
                  have e70 : a.eval (.tmp 70) = .pointer (some ⟨wo.heap.size, 1, none⟩) := hV 70 (by simp [Op.operands]) (by kernel_rfl)
                  have f70 : a.tmps.getD 70 undef = .pointer (some ⟨wo.heap.size, 1, none⟩) := e70
                  have g70 : a.tmps[70]?.getD undef = .pointer (some ⟨wo.heap.size, 1, none⟩) := by rw [← Array.getD_eq_getD_getElem?]; exact e70
                  have hK := KC.out w2 hC
                  refine op_val (.string p) ?_ hC (Below.refl _ _) (by intro d hd; cases hd; exact rfl)
                  (clear hV hI hC; go_simp <;> (first | rfl | simp | (rw [IntKind.wrap_i64]; omega)))
                case o72 =>
                  intro Q a w2 hC hV hI
                  have e8 : a.eval (.tmp 8) = .string l := (hI 8 (by simp [Op.operands]) (by kernel_rfl)).trans rfl
                  have f8 : a.tmps.getD 8 undef = .string l := e8
                  have g8 : a.tmps[8]?.getD undef = .string l := by rw [← Array.getD_eq_getD_getElem?]; exact e8
                  refine op_val (.string l) ?_ hC (Below.refl _ _) (by intro d hd; cases hd; exact rfl)
                  (clear hV hI hC; go_simp <;> (first | rfl | simp | (rw [IntKind.wrap_i64]; omega)))
                case o73 =>
                  intro Q a w2 hC hV hI
                  have e58 : a.eval (.tmp 58) = .int .i64 x := hV 58 (by simp [Op.operands]) (by kernel_rfl)
                  have f58 : a.tmps.getD 58 undef = .int .i64 x := e58
                  have g58 : a.tmps[58]?.getD undef = .int .i64 x := by rw [← Array.getD_eq_getD_getElem?]; exact e58
                  have e62 : a.eval (.tmp 62) = .int .i64 (m + 40960) := hV 62 (by simp [Op.operands]) (by kernel_rfl)
                  have f62 : a.tmps.getD 62 undef = .int .i64 (m + 40960) := e62
                  have g62 : a.tmps[62]?.getD undef = .int .i64 (m + 40960) := by rw [← Array.getD_eq_getD_getElem?]; exact e62
                  have e64 : a.eval (.tmp 64) = .int .i64 u1 := hV 64 (by simp [Op.operands]) (by kernel_rfl)
                  have f64 : a.tmps.getD 64 undef = .int .i64 u1 := e64
                  have g64 : a.tmps[64]?.getD undef = .int .i64 u1 := by rw [← Array.getD_eq_getD_getElem?]; exact e64
                  have e66 : a.eval (.tmp 66) = .int .i64 gi := hV 66 (by simp [Op.operands]) (by kernel_rfl)
                  have f66 : a.tmps.getD 66 undef = .int .i64 gi := e66
                  have g66 : a.tmps[66]?.getD undef = .int .i64 gi := by rw [← Array.getD_eq_getD_getElem?]; exact e66
                  have e67 : a.eval (.tmp 67) = .int .i64 (cn : Int) := hV 67 (by simp [Op.operands]) (by kernel_rfl)
                  have f67 : a.tmps.getD 67 undef = .int .i64 (cn : Int) := e67
                  have g67 : a.tmps[67]?.getD undef = .int .i64 (cn : Int) := by rw [← Array.getD_eq_getD_getElem?]; exact e67
                  have e69 : a.eval (.tmp 69) = .int .i64 t := hV 69 (by simp [Op.operands]) (by kernel_rfl)
                  have f69 : a.tmps.getD 69 undef = .int .i64 t := e69
                  have g69 : a.tmps[69]?.getD undef = .int .i64 t := by rw [← Array.getD_eq_getD_getElem?]; exact e69
                  have e71 : a.eval (.tmp 71) = .string p := hV 71 (by simp [Op.operands]) (by kernel_rfl)
                  have f71 : a.tmps.getD 71 undef = .string p := e71
                  have g71 : a.tmps[71]?.getD undef = .string p := by rw [← Array.getD_eq_getD_getElem?]; exact e71
                  have e72 : a.eval (.tmp 72) = .string l := hV 72 (by simp [Op.operands]) (by kernel_rfl)
                  have f72 : a.tmps.getD 72 undef = .string l := e72
                  have g72 : a.tmps[72]?.getD undef = .string l := by rw [← Array.getD_eq_getD_getElem?]; exact e72
                  refine op_val (.agg #[.int .i64 x, .int .i64 (m + 40960), .int .i64 u1, .int .i64 gi, .int .i64 (cn : Int), .int .i64 t, .string p, .string l]) ?_ hC (Below.refl _ _) (by intro d hd; cases hd; exact rfl)
                  (clear hV hI hC; go_simp <;> (first | rfl | simp | (rw [IntKind.wrap_i64]; omega)))
                case o74 =>
                  intro Q a w2 hC hV hI
                  have e73 : a.eval (.tmp 73) = .agg #[.int .i64 x, .int .i64 (m + 40960), .int .i64 u1, .int .i64 gi, .int .i64 (cn : Int), .int .i64 t, .string p, .string l] := hV 73 (by simp [Op.operands]) (by kernel_rfl)
                  have f73 : a.tmps.getD 73 undef = .agg #[.int .i64 x, .int .i64 (m + 40960), .int .i64 u1, .int .i64 gi, .int .i64 (cn : Int), .int .i64 t, .string p, .string l] := e73
                  have g73 : a.tmps[73]?.getD undef = .agg #[.int .i64 x, .int .i64 (m + 40960), .int .i64 u1, .int .i64 gi, .int .i64 (cn : Int), .int .i64 t, .string p, .string l] := by rw [← Array.getD_eq_getD_getElem?]; exact e73
                  refine op_val (.slice (some ⟨w2.heap.size, 0, none⟩) 1 1) (w' := w2.alloc (.cells #[.int .i64 x, .int .i64 (m + 40960), .int .i64 u1, .int .i64 gi, .int .i64 (cn : Int), .int .i64 t, .string p, .string l] 44)) ?_ (hC.alloc hC.size _) ((Below.refl _ _).alloc (Nat.le_refl _) _) ?_
                  · (clear hV hI hC; go_simp <;> (first | rfl | simp | (rw [IntKind.wrap_i64]; omega)))
                  · intro d hd; cases hd; exact ⟨w2.heap.size, rfl, hC.size, heap_lastG _ _⟩
              case hend =>
                intro f w6 hC hall
                simp only [List.take_succ_cons, List.take_zero, List.drop_succ_cons, List.drop_zero] at hall ⊢
                simp only [List.forall_mem_cons] at hall
                obtain ⟨h55, h56, h57, h58, h59, h60, h61, h62, h63, h64, h65, h66, h67, h68, h69, h70, h71, h72, h73, h74, _⟩ := hall
                replace h55 : f 55 = .slice (some ⟨go, 0, none⟩) D.length co := h55 55 rfl
                replace h56 : f 56 = .slice (some ⟨g, 0, none⟩) j cap := h56 56 rfl
                replace h57 : f 57 = .int .i64 (i : Int) := h57 57 rfl
                replace h58 : f 58 = .int .i64 x := h58 58 rfl
                replace h59 : f 59 = .pointer (some ⟨wo.heap.size, 3, none⟩) := h59 59 rfl
                replace h60 : f 60 = .int .i64 m := h60 60 rfl
                replace h61 : f 61 = .int .i64 40960 := h61 61 rfl
                replace h62 : f 62 = .int .i64 (m + 40960) := h62 62 rfl
                replace h63 : f 63 = .pointer (some ⟨wo.heap.size, 4, none⟩) := h63 63 rfl
                replace h64 : f 64 = .int .i64 u1 := h64 64 rfl
                replace h65 : f 65 = .pointer (some ⟨wo.heap.size, 5, none⟩) := h65 65 rfl
                replace h66 : f 66 = .int .i64 gi := h66 66 rfl
                replace h67 : f 67 = .int .i64 (cn : Int) := h67 67 rfl
                replace h68 : f 68 = .pointer (some ⟨wo.heap.size, 6, none⟩) := h68 68 rfl
                replace h69 : f 69 = .int .i64 t := h69 69 rfl
                replace h70 : f 70 = .pointer (some ⟨wo.heap.size, 1, none⟩) := h70 70 rfl
                replace h71 : f 71 = .string p := h71 71 rfl
                replace h72 : f 72 = .string l := h72 72 rfl
                replace h73 : f 73 = .agg #[.int .i64 x, .int .i64 (m + 40960), .int .i64 u1, .int .i64 gi, .int .i64 (cn : Int), .int .i64 t, .string p, .string l] := h73 73 rfl
                obtain ⟨G74, hG74, hGB74, hGO74⟩ : ∃ G, f 74 = .slice (some ⟨G, 0, none⟩) 1 1 ∧ w5.heap.size ≤ G ∧ w6.heap[G]? = some (.cells #[.int .i64 x, .int .i64 (m + 40960), .int .i64 u1, .int .i64 gi, .int .i64 (cn : Int), .int .i64 t, .string p, .string l] 44 (0, 0)) := h74 74 rfl
                simp only [putAll, Act.put, List.setIfInBounds_toArray, List.set_cons_succ, List.set_cons_zero, h55, h56, h57, h58, h59, h60, h61, h62, h63, h64, h65, h66, h67, h68, h69, h70, h71, h72, h73, hG74]
                clear h55 h56 h57 h58 h59 h60 h61 h62 h63 h64 h65 h66 h67 h68 h69 h70 h71 h72 h73 hG74 h74
                replace O := Lib.hid (O.out.keep hC)
                replace B := Lib.hid (btE B.out hC)
                have OW := Lib.hid O.out.1
                have hsz6 := B.out.size
                go_wp2_with (at_builtin; refine wpList_append_own _ rfl _ _ 38 rfl w.heap.size 44 i0 (.agg #[.int .i64 0, .int .i64 0, .int .i64 0, .int .i64 0, .int .i64 0, .int .i64 0, .string ⟨#[]⟩, .string ⟨#[]⟩]) 8 80 Tryz.underlying38 hi0 hz0 hz1 hz2 rfl (by decide) _ D.length (valsC D) rfl ?c0k2 ⟨G74, 0, none⟩ 1 1 (valsC [⟨x, m + 40960, u1, gi, (cn : Int), t, p, l⟩]) rfl (valsC_len _) ?c1k2 ?c2k2 ?c3k2 ?c4k2 ?c5k2 ?_)
                case c0k2 => exact OW.out
                case c1k2 => exact row_card hGO74
                case c2k2 => exact valsC_onecell _
                any_goals (first | (simp only [maxLen]; omega) | omega | (simp; omega))
                intro v' w7 hown hgrow hnil
                have O7 : Hid (OwnC w7 w.heap.size v' (cardsTo L (i + 1))) := Lib.hid (by rw [HC3.out]; exact own_appC hown rfl rfl hnil)
                have B7 : Hid (Below w.heap.size w w7) := Lib.hid (B.out.grown hgrow B.out.size (fun b hb => (World.ownsRow.lt OW.out b hb).1))
                clear hown hgrow hnil O B OW KC HI3 X R hC
                go_wp2_with fail
                go_roundw
                case rel => exact ⟨i + 1, by go_num, by omega, O7.out, B7.out⟩
                case measure => simp [intOf]; omega
            · subst h
              have HC3 : Hid (cardsTo L (i + 1) = D ++ [⟨x, m + 32768, u1, gi, (cn : Int), t, p, b⟩]) := Lib.hid (by rw [HC2.out]; rfl)
              clear HC2
              go_upto_region 20 with fail
              generalize hw5 : World.alloc wr _ = w5
              have NB : Below wr.heap.size wr w5 := by rw [← hw5]; exact (Below.refl _ _).alloc (Nat.le_refl _) _
              clear hw5 d0 d1 d2 d3 d4 d5 d6 d7 d8 d9
              replace O := Lib.hid (O.out.keep NB)
              replace X := Lib.hid (X.out.below NB zX)
              replace R := Lib.hid (R.out.below NB (by omega))
              replace B := Lib.hid (btE B.out NB)
              have hsz5 := B.out.size
              have zX5 := X.out.lt
              have zg5 : g < w5.heap.size := by omega
              clear NB
              have KC : Hid (∀ w', Below w5.heap.size w5 w' → w'.cell? ⟨wo.heap.size, 1, none⟩ = some (.string p) ∧ w'.cell? ⟨wo.heap.size, 3, none⟩ = some (.int .i64 m) ∧ w'.cell? ⟨wo.heap.size, 4, none⟩ = some (.int .i64 u1) ∧ w'.cell? ⟨wo.heap.size, 5, none⟩ = some (.int .i64 gi) ∧ w'.cell? ⟨wo.heap.size, 6, none⟩ = some (.int .i64 t)) := Lib.hid (fun w' hb => by
                obtain ⟨d0, d1, d2, d3, d4, d5, d6, d7, d8, d9⟩ := (X.out.below hb zX5).at.zero
                exact ⟨d1, d3, d4, d5, d6⟩)
              have HI3 := Lib.hid (fun w' (hb : Below w5.heap.size w5 w') => HI2.out w' (Nat.lt_of_lt_of_le zg5 hb.size) (R.out.below hb zg5))
              clear HI2
              refine wp_region_cut 20 (by kernel_rfl) (fun w' => Below w5.heap.size w5 w') (fun x y => Below x.heap.size x y) (vSlG 74 44 w5.heap.size #[.int .i64 x, .int .i64 (m + 32768), .int .i64 u1, .int .i64 gi, .int .i64 (cn : Int), .int .i64 t, .string p, .string b] (fun d v => match d with | 55 => v = .slice (some ⟨go, 0, none⟩) D.length co | 56 => v = .slice (some ⟨g, 0, none⟩) j cap | 57 => v = .int .i64 (i : Int) | 58 => v = .int .i64 x | 59 => v = .pointer (some ⟨wo.heap.size, 3, none⟩) | 60 => v = .int .i64 m | 61 => v = .int .i64 32768 | 62 => v = .int .i64 (m + 32768) | 63 => v = .pointer (some ⟨wo.heap.size, 4, none⟩) | 64 => v = .int .i64 u1 | 65 => v = .pointer (some ⟨wo.heap.size, 5, none⟩) | 66 => v = .int .i64 gi | 67 => v = .int .i64 (cn : Int) | 68 => v = .pointer (some ⟨wo.heap.size, 6, none⟩) | 69 => v = .int .i64 t | 70 => v = .pointer (some ⟨wo.heap.size, 1, none⟩) | 71 => v = .string p | 72 => v = .string b | 73 => v = .agg #[.int .i64 x, .int .i64 (m + 32768), .int .i64 u1, .int .i64 gi, .int .i64 (cn : Int), .int .i64 t, .string p, .string b] | _ => True)) (by kernel_rfl) (by kernel_rfl) ((Below.refl _ _).drew) (vSlG_keep _ _ _ _ _) (by simp) ?hops ?hend
              case hops =>
                simp only [List.take_succ_cons, List.take_zero, List.forall_mem_cons]
                refine ⟨?o55, ?o56, ?o57, ?o58, ?o59, ?o60, ?o61, ?o62, ?o63, ?o64, ?o65, ?o66, ?o67, ?o68, ?o69, ?o70, ?o71, ?o72, ?o73, ?o74, fun _ h => by cases h⟩
                case o55 =>
                  intro Q a w2 hC hV hI
                  have e3 : a.eval (.tmp 3) = .slice (some ⟨go, 0, none⟩) D.length co := (hI 3 (by simp [Op.operands]) (by kernel_rfl)).trans rfl
                  have f3 : a.tmps.getD 3 undef = .slice (some ⟨go, 0, none⟩) D.length co := e3
                  have g3 : a.tmps[3]?.getD undef = .slice (some ⟨go, 0, none⟩) D.length co := by rw [← Array.getD_eq_getD_getElem?]; exact e3
                  refine op_val (.slice (some ⟨go, 0, none⟩) D.length co) ?_ hC (Below.refl _ _) (by intro d hd; cases hd; exact rfl)
                  (clear hV hI hC; go_simp <;> (first | rfl | simp | (rw [IntKind.wrap_i64]; omega)))
                case o56 =>
                  intro Q a w2 hC hV hI
                  have e0 : a.eval (.tmp 0) = .slice (some ⟨g, 0, none⟩) j cap := (hI 0 (by simp [Op.operands]) (by kernel_rfl)).trans rfl
                  have f0 : a.tmps.getD 0 undef = .slice (some ⟨g, 0, none⟩) j cap := e0
                  have g0 : a.tmps[0]?.getD undef = .slice (some ⟨g, 0, none⟩) j cap := by rw [← Array.getD_eq_getD_getElem?]; exact e0
                  refine op_val (.slice (some ⟨g, 0, none⟩) j cap) ?_ hC (Below.refl _ _) (by intro d hd; cases hd; exact rfl)
                  (clear hV hI hC; go_simp <;> (first | rfl | simp | (rw [IntKind.wrap_i64]; omega)))
                case o57 =>
                  intro Q a w2 hC hV hI
                  have e4 : a.eval (.tmp 4) = .int .i64 (i : Int) := (hI 4 (by simp [Op.operands]) (by kernel_rfl)).trans rfl
                  have f4 : a.tmps.getD 4 undef = .int .i64 (i : Int) := e4
                  have g4 : a.tmps[4]?.getD undef = .int .i64 (i : Int) := by rw [← Array.getD_eq_getD_getElem?]; exact e4
                  refine op_val (.int .i64 (i : Int)) ?_ hC (Below.refl _ _) (by intro d hd; cases hd; exact rfl)
                  (clear hV hI hC; go_simp <;> (first | rfl | simp | (rw [IntKind.wrap_i64]; omega)))
                case o58 =>
                  intro Q a w2 hC hV hI
                  have e56 : a.eval (.tmp 56) = .slice (some ⟨g, 0, none⟩) j cap := hV 56 (by simp [Op.operands, Call.operands]) (by kernel_rfl)
                  have f56 : a.tmps.getD 56 undef = .slice (some ⟨g, 0, none⟩) j cap := e56
                  have g56 : a.tmps[56]?.getD undef = .slice (some ⟨g, 0, none⟩) j cap := by rw [← Array.getD_eq_getD_getElem?]; exact e56
                  have e57 : a.eval (.tmp 57) = .int .i64 (i : Int) := hV 57 (by simp [Op.operands, Call.operands]) (by kernel_rfl)
                  have f57 : a.tmps.getD 57 undef = .int .i64 (i : Int) := e57
                  have g57 : a.tmps[57]?.getD undef = .int .i64 (i : Int) := by rw [← Array.getD_eq_getD_getElem?]; exact e57
                  refine op_call (f := 32) (args := #[.slice (some ⟨g, 0, none⟩) j cap, .int .i64 (i : Int)]) (R := fun v y => v = .int .i64 x ∧ Below w2.heap.size w2 y) ?_ ((HI3.out w2 hC).mono ?_) ?_
                  · (clear hV hI hC; go_simp <;> (first | rfl | simp | (rw [IntKind.wrap_i64]; omega)))
                  · rintro e y ⟨rfl, hb⟩; exact ⟨_, rfl, rfl, hb⟩
                  · rintro v y ⟨rfl, hb⟩; exact ⟨hC.trans (hb.mono hC.size), hb, by intro d hd; cases hd; exact rfl⟩
                case o59 =>
                  intro Q a w2 hC hV hI
                  have e5 : a.eval (.tmp 5) = .pointer (some ⟨wo.heap.size, 0, none⟩) := (hI 5 (by simp [Op.operands]) (by kernel_rfl)).trans rfl
                  have f5 : a.tmps.getD 5 undef = .pointer (some ⟨wo.heap.size, 0, none⟩) := e5
                  have g5 : a.tmps[5]?.getD undef = .pointer (some ⟨wo.heap.size, 0, none⟩) := by rw [← Array.getD_eq_getD_getElem?]; exact e5
                  refine op_val (.pointer (some ⟨wo.heap.size, 3, none⟩)) ?_ hC (Below.refl _ _) (by intro d hd; cases hd; exact rfl)
                  (clear hV hI hC; go_simp <;> (first | rfl | simp | (rw [IntKind.wrap_i64]; omega)))
                case o60 =>
                  intro Q a w2 hC hV hI
                  have e59 : a.eval (.tmp 59) = .pointer (some ⟨wo.heap.size, 3, none⟩) := hV 59 (by simp [Op.operands]) (by kernel_rfl)
                  have f59 : a.tmps.getD 59 undef = .pointer (some ⟨wo.heap.size, 3, none⟩) := e59
                  have g59 : a.tmps[59]?.getD undef = .pointer (some ⟨wo.heap.size, 3, none⟩) := by rw [← Array.getD_eq_getD_getElem?]; exact e59
                  have hK := KC.out w2 hC
                  refine op_val (.int .i64 m) ?_ hC (Below.refl _ _) (by intro d hd; cases hd; exact rfl)
                  (clear hV hI hC; go_simp <;> (first | rfl | simp | (rw [IntKind.wrap_i64]; omega)))
                case o61 =>
                  intro Q a w2 hC hV hI
                  have e9 : a.eval (.tmp 9) = .int .i64 32768 := (hI 9 (by simp [Op.operands]) (by kernel_rfl)).trans rfl
                  have f9 : a.tmps.getD 9 undef = .int .i64 32768 := e9
                  have g9 : a.tmps[9]?.getD undef = .int .i64 32768 := by rw [← Array.getD_eq_getD_getElem?]; exact e9
                  refine op_val (.int .i64 32768) ?_ hC (Below.refl _ _) (by intro d hd; cases hd; exact rfl)
                  (clear hV hI hC; go_simp <;> (first | rfl | simp | (rw [IntKind.wrap_i64]; omega)))
                case o62 =>
                  intro Q a w2 hC hV hI
                  have e60 : a.eval (.tmp 60) = .int .i64 m := hV 60 (by simp [Op.operands]) (by kernel_rfl)
                  have f60 : a.tmps.getD 60 undef = .int .i64 m := e60
                  have g60 : a.tmps[60]?.getD undef = .int .i64 m := by rw [← Array.getD_eq_getD_getElem?]; exact e60
                  have e61 : a.eval (.tmp 61) = .int .i64 32768 := hV 61 (by simp [Op.operands]) (by kernel_rfl)
                  have f61 : a.tmps.getD 61 undef = .int .i64 32768 := e61
                  have g61 : a.tmps[61]?.getD undef = .int .i64 32768 := by rw [← Array.getD_eq_getD_getElem?]; exact e61
                  have q9 := add_i64 (P := Tryz.prog) (a := m) (b := 32768) w2 3 (by omega) (by omega)
                  refine op_val (.int .i64 (m + 32768)) ?_ hC (Below.refl _ _) (by intro d hd; cases hd; exact rfl)
                  (clear hV hI hC; go_simp <;> (first | rfl | simp | (rw [IntKind.wrap_i64]; omega)))
                case o63 =>
                  intro Q a w2 hC hV hI
                  have e5 : a.eval (.tmp 5) = .pointer (some ⟨wo.heap.size, 0, none⟩) := (hI 5 (by simp [Op.operands]) (by kernel_rfl)).trans rfl
                  have f5 : a.tmps.getD 5 undef = .pointer (some ⟨wo.heap.size, 0, none⟩) := e5
                  have g5 : a.tmps[5]?.getD undef = .pointer (some ⟨wo.heap.size, 0, none⟩) := by rw [← Array.getD_eq_getD_getElem?]; exact e5
                  refine op_val (.pointer (some ⟨wo.heap.size, 4, none⟩)) ?_ hC (Below.refl _ _) (by intro d hd; cases hd; exact rfl)
                  (clear hV hI hC; go_simp <;> (first | rfl | simp | (rw [IntKind.wrap_i64]; omega)))
                case o64 =>
                  intro Q a w2 hC hV hI
                  have e63 : a.eval (.tmp 63) = .pointer (some ⟨wo.heap.size, 4, none⟩) := hV 63 (by simp [Op.operands]) (by kernel_rfl)
                  have f63 : a.tmps.getD 63 undef = .pointer (some ⟨wo.heap.size, 4, none⟩) := e63
                  have g63 : a.tmps[63]?.getD undef = .pointer (some ⟨wo.heap.size, 4, none⟩) := by rw [← Array.getD_eq_getD_getElem?]; exact e63
                  have hK := KC.out w2 hC
                  refine op_val (.int .i64 u1) ?_ hC (Below.refl _ _) (by intro d hd; cases hd; exact rfl)
                  (clear hV hI hC; go_simp <;> (first | rfl | simp | (rw [IntKind.wrap_i64]; omega)))
                case o65 =>
                  intro Q a w2 hC hV hI
                  have e5 : a.eval (.tmp 5) = .pointer (some ⟨wo.heap.size, 0, none⟩) := (hI 5 (by simp [Op.operands]) (by kernel_rfl)).trans rfl
                  have f5 : a.tmps.getD 5 undef = .pointer (some ⟨wo.heap.size, 0, none⟩) := e5
                  have g5 : a.tmps[5]?.getD undef = .pointer (some ⟨wo.heap.size, 0, none⟩) := by rw [← Array.getD_eq_getD_getElem?]; exact e5
                  refine op_val (.pointer (some ⟨wo.heap.size, 5, none⟩)) ?_ hC (Below.refl _ _) (by intro d hd; cases hd; exact rfl)
                  (clear hV hI hC; go_simp <;> (first | rfl | simp | (rw [IntKind.wrap_i64]; omega)))
                case o66 =>
                  intro Q a w2 hC hV hI
                  have e65 : a.eval (.tmp 65) = .pointer (some ⟨wo.heap.size, 5, none⟩) := hV 65 (by simp [Op.operands]) (by kernel_rfl)
                  have f65 : a.tmps.getD 65 undef = .pointer (some ⟨wo.heap.size, 5, none⟩) := e65
                  have g65 : a.tmps[65]?.getD undef = .pointer (some ⟨wo.heap.size, 5, none⟩) := by rw [← Array.getD_eq_getD_getElem?]; exact e65
                  have hK := KC.out w2 hC
                  refine op_val (.int .i64 gi) ?_ hC (Below.refl _ _) (by intro d hd; cases hd; exact rfl)
                  (clear hV hI hC; go_simp <;> (first | rfl | simp | (rw [IntKind.wrap_i64]; omega)))
                case o67 =>
                  intro Q a w2 hC hV hI
                  have e6 : a.eval (.tmp 6) = .int .i64 (cn : Int) := (hI 6 (by simp [Op.operands]) (by kernel_rfl)).trans rfl
                  have f6 : a.tmps.getD 6 undef = .int .i64 (cn : Int) := e6
                  have g6 : a.tmps[6]?.getD undef = .int .i64 (cn : Int) := by rw [← Array.getD_eq_getD_getElem?]; exact e6
                  refine op_val (.int .i64 (cn : Int)) ?_ hC (Below.refl _ _) (by intro d hd; cases hd; exact rfl)
                  (clear hV hI hC; go_simp <;> (first | rfl | simp | (rw [IntKind.wrap_i64]; omega)))
                case o68 =>
                  intro Q a w2 hC hV hI
                  have e5 : a.eval (.tmp 5) = .pointer (some ⟨wo.heap.size, 0, none⟩) := (hI 5 (by simp [Op.operands]) (by kernel_rfl)).trans rfl
                  have f5 : a.tmps.getD 5 undef = .pointer (some ⟨wo.heap.size, 0, none⟩) := e5
                  have g5 : a.tmps[5]?.getD undef = .pointer (some ⟨wo.heap.size, 0, none⟩) := by rw [← Array.getD_eq_getD_getElem?]; exact e5
                  refine op_val (.pointer (some ⟨wo.heap.size, 6, none⟩)) ?_ hC (Below.refl _ _) (by intro d hd; cases hd; exact rfl)
                  (clear hV hI hC; go_simp <;> (first | rfl | simp | (rw [IntKind.wrap_i64]; omega)))
                case o69 =>
                  intro Q a w2 hC hV hI
                  have e68 : a.eval (.tmp 68) = .pointer (some ⟨wo.heap.size, 6, none⟩) := hV 68 (by simp [Op.operands]) (by kernel_rfl)
                  have f68 : a.tmps.getD 68 undef = .pointer (some ⟨wo.heap.size, 6, none⟩) := e68
                  have g68 : a.tmps[68]?.getD undef = .pointer (some ⟨wo.heap.size, 6, none⟩) := by rw [← Array.getD_eq_getD_getElem?]; exact e68
                  have hK := KC.out w2 hC
                  refine op_val (.int .i64 t) ?_ hC (Below.refl _ _) (by intro d hd; cases hd; exact rfl)
                  (clear hV hI hC; go_simp <;> (first | rfl | simp | (rw [IntKind.wrap_i64]; omega)))
                case o70 =>
                  intro Q a w2 hC hV hI
                  have e5 : a.eval (.tmp 5) = .pointer (some ⟨wo.heap.size, 0, none⟩) := (hI 5 (by simp [Op.operands]) (by kernel_rfl)).trans rfl
                  have f5 : a.tmps.getD 5 undef = .pointer (some ⟨wo.heap.size, 0, none⟩) := e5
                  have g5 : a.tmps[5]?.getD undef = .pointer (some ⟨wo.heap.size, 0, none⟩) := by rw [← Array.getD_eq_getD_getElem?]; exact e5
                  refine op_val (.pointer (some ⟨wo.heap.size, 1, none⟩)) ?_ hC (Below.refl _ _) (by intro d hd; cases hd; exact rfl)
                  (clear hV hI hC; go_simp <;> (first | rfl | simp | (rw [IntKind.wrap_i64]; omega)))
                case o71 =>
                  intro Q a w2 hC hV hI
                  have e70 : a.eval (.tmp 70) = .pointer (some ⟨wo.heap.size, 1, none⟩) := hV 70 (by simp [Op.operands]) (by kernel_rfl)
                  have f70 : a.tmps.getD 70 undef = .pointer (some ⟨wo.heap.size, 1, none⟩) := e70
                  have g70 : a.tmps[70]?.getD undef = .pointer (some ⟨wo.heap.size, 1, none⟩) := by rw [← Array.getD_eq_getD_getElem?]; exact e70
                  have hK := KC.out w2 hC
                  refine op_val (.string p) ?_ hC (Below.refl _ _) (by intro d hd; cases hd; exact rfl)
                  (clear hV hI hC; go_simp <;> (first | rfl | simp | (rw [IntKind.wrap_i64]; omega)))
                case o72 =>
                  intro Q a w2 hC hV hI
                  have e8 : a.eval (.tmp 8) = .string b := (hI 8 (by simp [Op.operands]) (by kernel_rfl)).trans rfl
                  have f8 : a.tmps.getD 8 undef = .string b := e8
                  have g8 : a.tmps[8]?.getD undef = .string b := by rw [← Array.getD_eq_getD_getElem?]; exact e8
                  refine op_val (.string b) ?_ hC (Below.refl _ _) (by intro d hd; cases hd; exact rfl)
                  (clear hV hI hC; go_simp <;> (first | rfl | simp | (rw [IntKind.wrap_i64]; omega)))
                case o73 =>
                  intro Q a w2 hC hV hI
                  have e58 : a.eval (.tmp 58) = .int .i64 x := hV 58 (by simp [Op.operands]) (by kernel_rfl)
                  have f58 : a.tmps.getD 58 undef = .int .i64 x := e58
                  have g58 : a.tmps[58]?.getD undef = .int .i64 x := by rw [← Array.getD_eq_getD_getElem?]; exact e58
                  have e62 : a.eval (.tmp 62) = .int .i64 (m + 32768) := hV 62 (by simp [Op.operands]) (by kernel_rfl)
                  have f62 : a.tmps.getD 62 undef = .int .i64 (m + 32768) := e62
                  have g62 : a.tmps[62]?.getD undef = .int .i64 (m + 32768) := by rw [← Array.getD_eq_getD_getElem?]; exact e62
                  have e64 : a.eval (.tmp 64) = .int .i64 u1 := hV 64 (by simp [Op.operands]) (by kernel_rfl)
                  have f64 : a.tmps.getD 64 undef = .int .i64 u1 := e64
                  have g64 : a.tmps[64]?.getD undef = .int .i64 u1 := by rw [← Array.getD_eq_getD_getElem?]; exact e64
                  have e66 : a.eval (.tmp 66) = .int .i64 gi := hV 66 (by simp [Op.operands]) (by kernel_rfl)
                  have f66 : a.tmps.getD 66 undef = .int .i64 gi := e66
                  have g66 : a.tmps[66]?.getD undef = .int .i64 gi := by rw [← Array.getD_eq_getD_getElem?]; exact e66
                  have e67 : a.eval (.tmp 67) = .int .i64 (cn : Int) := hV 67 (by simp [Op.operands]) (by kernel_rfl)
                  have f67 : a.tmps.getD 67 undef = .int .i64 (cn : Int) := e67
                  have g67 : a.tmps[67]?.getD undef = .int .i64 (cn : Int) := by rw [← Array.getD_eq_getD_getElem?]; exact e67
                  have e69 : a.eval (.tmp 69) = .int .i64 t := hV 69 (by simp [Op.operands]) (by kernel_rfl)
                  have f69 : a.tmps.getD 69 undef = .int .i64 t := e69
                  have g69 : a.tmps[69]?.getD undef = .int .i64 t := by rw [← Array.getD_eq_getD_getElem?]; exact e69
                  have e71 : a.eval (.tmp 71) = .string p := hV 71 (by simp [Op.operands]) (by kernel_rfl)
                  have f71 : a.tmps.getD 71 undef = .string p := e71
                  have g71 : a.tmps[71]?.getD undef = .string p := by rw [← Array.getD_eq_getD_getElem?]; exact e71
                  have e72 : a.eval (.tmp 72) = .string b := hV 72 (by simp [Op.operands]) (by kernel_rfl)
                  have f72 : a.tmps.getD 72 undef = .string b := e72
                  have g72 : a.tmps[72]?.getD undef = .string b := by rw [← Array.getD_eq_getD_getElem?]; exact e72
                  refine op_val (.agg #[.int .i64 x, .int .i64 (m + 32768), .int .i64 u1, .int .i64 gi, .int .i64 (cn : Int), .int .i64 t, .string p, .string b]) ?_ hC (Below.refl _ _) (by intro d hd; cases hd; exact rfl)
                  (clear hV hI hC; go_simp <;> (first | rfl | simp | (rw [IntKind.wrap_i64]; omega)))
                case o74 =>
                  intro Q a w2 hC hV hI
                  have e73 : a.eval (.tmp 73) = .agg #[.int .i64 x, .int .i64 (m + 32768), .int .i64 u1, .int .i64 gi, .int .i64 (cn : Int), .int .i64 t, .string p, .string b] := hV 73 (by simp [Op.operands]) (by kernel_rfl)
                  have f73 : a.tmps.getD 73 undef = .agg #[.int .i64 x, .int .i64 (m + 32768), .int .i64 u1, .int .i64 gi, .int .i64 (cn : Int), .int .i64 t, .string p, .string b] := e73
                  have g73 : a.tmps[73]?.getD undef = .agg #[.int .i64 x, .int .i64 (m + 32768), .int .i64 u1, .int .i64 gi, .int .i64 (cn : Int), .int .i64 t, .string p, .string b] := by rw [← Array.getD_eq_getD_getElem?]; exact e73
                  refine op_val (.slice (some ⟨w2.heap.size, 0, none⟩) 1 1) (w' := w2.alloc (.cells #[.int .i64 x, .int .i64 (m + 32768), .int .i64 u1, .int .i64 gi, .int .i64 (cn : Int), .int .i64 t, .string p, .string b] 44)) ?_ (hC.alloc hC.size _) ((Below.refl _ _).alloc (Nat.le_refl _) _) ?_
                  · (clear hV hI hC; go_simp <;> (first | rfl | simp | (rw [IntKind.wrap_i64]; omega)))
                  · intro d hd; cases hd; exact ⟨w2.heap.size, rfl, hC.size, heap_lastG _ _⟩
              case hend =>
                intro f w6 hC hall
                simp only [List.take_succ_cons, List.take_zero, List.drop_succ_cons, List.drop_zero] at hall ⊢
                simp only [List.forall_mem_cons] at hall
                obtain ⟨h55, h56, h57, h58, h59, h60, h61, h62, h63, h64, h65, h66, h67, h68, h69, h70, h71, h72, h73, h74, _⟩ := hall
                replace h55 : f 55 = .slice (some ⟨go, 0, none⟩) D.length co := h55 55 rfl
                replace h56 : f 56 = .slice (some ⟨g, 0, none⟩) j cap := h56 56 rfl
                replace h57 : f 57 = .int .i64 (i : Int) := h57 57 rfl
                replace h58 : f 58 = .int .i64 x := h58 58 rfl
                replace h59 : f 59 = .pointer (some ⟨wo.heap.size, 3, none⟩) := h59 59 rfl
                replace h60 : f 60 = .int .i64 m := h60 60 rfl
                replace h61 : f 61 = .int .i64 32768 := h61 61 rfl
                replace h62 : f 62 = .int .i64 (m + 32768) := h62 62 rfl
                replace h63 : f 63 = .pointer (some ⟨wo.heap.size, 4, none⟩) := h63 63 rfl
                replace h64 : f 64 = .int .i64 u1 := h64 64 rfl
                replace h65 : f 65 = .pointer (some ⟨wo.heap.size, 5, none⟩) := h65 65 rfl
                replace h66 : f 66 = .int .i64 gi := h66 66 rfl
                replace h67 : f 67 = .int .i64 (cn : Int) := h67 67 rfl
                replace h68 : f 68 = .pointer (some ⟨wo.heap.size, 6, none⟩) := h68 68 rfl
                replace h69 : f 69 = .int .i64 t := h69 69 rfl
                replace h70 : f 70 = .pointer (some ⟨wo.heap.size, 1, none⟩) := h70 70 rfl
                replace h71 : f 71 = .string p := h71 71 rfl
                replace h72 : f 72 = .string b := h72 72 rfl
                replace h73 : f 73 = .agg #[.int .i64 x, .int .i64 (m + 32768), .int .i64 u1, .int .i64 gi, .int .i64 (cn : Int), .int .i64 t, .string p, .string b] := h73 73 rfl
                obtain ⟨G74, hG74, hGB74, hGO74⟩ : ∃ G, f 74 = .slice (some ⟨G, 0, none⟩) 1 1 ∧ w5.heap.size ≤ G ∧ w6.heap[G]? = some (.cells #[.int .i64 x, .int .i64 (m + 32768), .int .i64 u1, .int .i64 gi, .int .i64 (cn : Int), .int .i64 t, .string p, .string b] 44 (0, 0)) := h74 74 rfl
                simp only [putAll, Act.put, List.setIfInBounds_toArray, List.set_cons_succ, List.set_cons_zero, h55, h56, h57, h58, h59, h60, h61, h62, h63, h64, h65, h66, h67, h68, h69, h70, h71, h72, h73, hG74]
                clear h55 h56 h57 h58 h59 h60 h61 h62 h63 h64 h65 h66 h67 h68 h69 h70 h71 h72 h73 hG74 h74
                replace O := Lib.hid (O.out.keep hC)
                replace B := Lib.hid (btE B.out hC)
                have OW := Lib.hid O.out.1
                have hsz6 := B.out.size
                go_wp2_with (at_builtin; refine wpList_append_own _ rfl _ _ 38 rfl w.heap.size 44 i0 (.agg #[.int .i64 0, .int .i64 0, .int .i64 0, .int .i64 0, .int .i64 0, .int .i64 0, .string ⟨#[]⟩, .string ⟨#[]⟩]) 8 80 Tryz.underlying38 hi0 hz0 hz1 hz2 rfl (by decide) _ D.length (valsC D) rfl ?c0k3 ⟨G74, 0, none⟩ 1 1 (valsC [⟨x, m + 32768, u1, gi, (cn : Int), t, p, b⟩]) rfl (valsC_len _) ?c1k3 ?c2k3 ?c3k3 ?c4k3 ?c5k3 ?_)
                case c0k3 => exact OW.out
                case c1k3 => exact row_card hGO74
                case c2k3 => exact valsC_onecell _
                any_goals (first | (simp only [maxLen]; omega) | omega | (simp; omega))
                intro v' w7 hown hgrow hnil
                have O7 : Hid (OwnC w7 w.heap.size v' (cardsTo L (i + 1))) := Lib.hid (by rw [HC3.out]; exact own_appC hown rfl rfl hnil)
                have B7 : Hid (Below w.heap.size w w7) := Lib.hid (B.out.grown hgrow B.out.size (fun b hb => (World.ownsRow.lt OW.out b hb).1))
                clear hown hgrow hnil O B OW KC HI3 X R hC
                go_wp2_with fail
                go_roundw
                case rel => exact ⟨i + 1, by go_num, by omega, O7.out, B7.out⟩
                case measure => simp [intOf]; omega
      · obtain rfl : i = n := by omega
        have hlt2 : ¬ (i : Int) < (i : Int) := by omega
        rw [← HF.out] at O
        go_wp2_with fail
        go_ret
        exact ⟨_, rfl, O.out, B.out⟩
end Go.Proofs.YtancidbbkoeokaaGreat

/- The test '==' of two entries, as an equation. -/
namespace Go.Proofs.YtancidbbkoeokaaGreat
open Go.ChangeShapes Go.WideShapes Go.ChangeAt Go.RowKit Go.Deep

theorem tlE_inj {a b : ByteArray} : (a.toList == b.toList) = decide (a = b) := by
  by_cases h : a = b
  · subst h; simp
  · rw [decide_eq_false h]
    simp only [beq_eq_false_iff_ne, ne_eq]
    intro e
    apply h
    obtain ⟨⟨x⟩⟩ := a
    obtain ⟨⟨y⟩⟩ := b
    simpa using e
end Go.Proofs.YtancidbbkoeokaaGreat

/- Contracts of spec.Size and spec.SameList. -/
namespace Go.Proofs.YtancidbbkoeokaaGreat
open Go.ChangeShapes Go.WideShapes Go.ChangeAt Go.RowKit Go.Deep

def sizev (L : List Ent) : Nat := (L.map fun e => e.body.size).sum
/-- All texts of a list together. -/
def totL (L : List Ent) : Nat := (L.map esz).sum
end Go.Proofs.YtancidbbkoeokaaGreat

/- The test '==' of two cards, as an equation; contracts of slices.Equal and spec.l07Same over cards. -/
namespace Go.Proofs.YtancidbbkoeokaaGreat
open Go.ChangeShapes Go.WideShapes Go.ChangeAt Go.RowKit Go.Deep

theorem run_sameC (x0 x1 x2 x3 x4 x5 : Int) (x6 x7 : ByteArray) (y0 y1 y2 y3 y4 y5 : Int) (y6 y7 : ByteArray) (w : World) :
    (Op.equalIn 10000 44 (.agg #[.int .i64 x0, .int .i64 x1, .int .i64 x2, .int .i64 x3, .int .i64 x4, .int .i64 x5, .string x6, .string x7]) (.agg #[.int .i64 y0, .int .i64 y1, .int .i64 y2, .int .i64 y3, .int .i64 y4, .int .i64 y5, .string y6, .string y7])).run Tryz.prog w = .ok (decide ((⟨x0, x1, x2, x3, x4, x5, x6, x7⟩ : Card) = ⟨y0, y1, y2, y3, y4, y5, y6, y7⟩)) w := by
  have h1 : Tryz.prog.underlying 44 = some (.struct (Tryz.prog.fieldsOf 44)) := by kernel_rfl
  rw [show (10000 : Nat) = 9999 + 1 from rfl, run_equalIn_struct w 9999 _ _ _ h1 (by kernel_rfl)]
  simp only [Program.fieldsOf, Tryz.underlying44]
  simp [Op.eqFields, go_sem, Tryz.underlying3, Tryz.underlying9, tlE_inj]
  by_cases a0 : x0 = y0
  · rw [if_pos a0, decide_eq_true a0, Bool.true_and]
    by_cases a1 : x1 = y1
    · rw [if_pos a1, decide_eq_true a1, Bool.true_and]
      by_cases a2 : x2 = y2
      · rw [if_pos a2, decide_eq_true a2, Bool.true_and]
        by_cases a3 : x3 = y3
        · rw [if_pos a3, decide_eq_true a3, Bool.true_and]
          by_cases a4 : x4 = y4
          · rw [if_pos a4, decide_eq_true a4, Bool.true_and]
            by_cases a5 : x5 = y5
            · rw [if_pos a5, decide_eq_true a5, Bool.true_and]
              by_cases a6 : x6 = y6
              · rw [if_pos a6, decide_eq_true a6, Bool.true_and]
                by_cases a7 : x7 = y7
                · rw [if_pos a7, decide_eq_true a7]
                · rw [if_neg a7, decide_eq_false a7]
              · rw [if_neg a6, decide_eq_false a6, Bool.false_and]
            · rw [if_neg a5, decide_eq_false a5, Bool.false_and]
          · rw [if_neg a4, decide_eq_false a4, Bool.false_and]
        · rw [if_neg a3, decide_eq_false a3, Bool.false_and]
      · rw [if_neg a2, decide_eq_false a2, Bool.false_and]
    · rw [if_neg a1, decide_eq_false a1, Bool.false_and]
  · rw [if_neg a0, decide_eq_false a0, Bool.false_and]
theorem getC' {L : List Card} {i : Nat} (h : i < L.length) : ∃ e, L[i]? = some e := ⟨L[i], List.getElem?_eq_getElem h⟩
set_option maxHeartbeats 1600000 in
theorem equal_libC (L M : List Card) (n g ca n2 g2 cb : Nat) (w : World) (hn : n = L.length) (hn2 : n2 = M.length) (hm : n ≤ 4194304) (hm2 : n2 ≤ 4194304) (hg : g < w.heap.size) (hg2 : g2 < w.heap.size) (h1 : RowC w g L) (h2 : RowC w g2 M) :
    Calls Tryz.prog 76 #[.slice (some ⟨g, 0, none⟩) n ca, .slice (some ⟨g2, 0, none⟩) n2 cb] w fun e w' => e = .returned (.bool (decide (L = M))) ∧ Below w.heap.size w w' := by
  by_cases hl : n = n2
  · subst hl
    have H1 := Lib.hid h1
    have H2 := Lib.hid h2
    have HG : Hid (∀ i, i < n → ∃ e, L[i]? = some e) := Lib.hid (fun i hi => getC' (by omega))
    have HM : Hid (∀ i, i < n → ∃ e, M[i]? = some e) := Lib.hid (fun i hi => getC' (by omega))
    have HB : Hid (∀ (i : Nat) (e f : Card), L[i]? = some e → M[i]? = some f → ¬ e = f → decide (L = M) = false) := Lib.hid (fun i e f h h' hne => decide_eq_false (fun q => hne (by rw [q, h'] at h; exact (Option.some.inj h).symm)))
    have HD : Hid ((∀ j, j < n → L[j]? = M[j]?) → decide (L = M) = true) := Lib.hid (fun h => decide_eq_true (List.ext_getElem? (fun j => by
      by_cases hj : j < n
      · exact h j hj
      · rw [List.getElem?_eq_none (by omega), List.getElem?_eq_none (by omega)])))
    generalize decide (L = M) = r at HB HD
    clear h1 h2 hn hn2
    go_enter Tryz.func76, Tryz.ntmps76
    go_wp2_with fail
    go_loopw [5, 13] (fun _ u wr => ∃ i : Nat, u = .int .i64 i ∧ i ≤ n ∧ (∀ j, j < i → L[j]? = M[j]?) ∧ Below w.heap.size w wr) (fun _ u _ => n - (intOf u).toNat)
    case atStart => exact ⟨0, rfl, Nat.zero_le _, fun j hj => by omega, Below.refl _ _⟩
    case round =>
      obtain ⟨i, rfl, hi, hr, hb⟩ := hrel
      have HR := Lib.hid hr
      have B := Lib.hid hb
      clear hr hb
      by_cases hlt : i < n
      · have hlt2 : (i : Int) < (n : Int) := by omega
        obtain ⟨e, he⟩ := HG.out i hlt
        obtain ⟨f, hf⟩ := HM.out i hlt
        obtain ⟨c0, c1, c2, c3, c4, c5, c6, c7⟩ := (H1.out.below B.out hg).cols he
        obtain ⟨d0, d1, d2, d3, d4, d5, d6, d7⟩ := (H2.out.below B.out hg2).cols hf
        have HBi := Lib.hid (HB.out i e f he hf)
        have HSi : Hid (e = f → ∀ j, j < i + 1 → L[j]? = M[j]?) := Lib.hid (fun q j hj => by
          by_cases hj' : j = i
          · subst hj'; rw [he, hf, q]
          · exact HR.out j (by omega))
        clear he hf HB
        obtain ⟨x0, x1, x2, x3, x4, x5, x6, x7⟩ := e
        obtain ⟨y0, y1, y2, y3, y4, y5, y6, y7⟩ := f
        by_cases hef : (⟨x0, x1, x2, x3, x4, x5, x6, x7⟩ : Card) = ⟨y0, y1, y2, y3, y4, y5, y6, y7⟩
        · have HS := Lib.hid (HSi.out hef)
          have hq := fun w => (run_sameC x0 x1 x2 x3 x4 x5 x6 x7 y0 y1 y2 y3 y4 y5 y6 y7 w).trans (by rw [decide_eq_true hef])
          clear HSi HBi hef
          go_wp2_with fail
          go_quiet (fail)
          go_wp2_with fail
          go_roundw
          case rel => exact ⟨i + 1, by go_num, by omega, HS.out, B.out.os, B.out.tape, B.out.output, B.out.size, B.out.block⟩
          case measure => simp [intOf]; omega
        · have HF := Lib.hid (HBi.out hef)
          have hq := fun w => (run_sameC x0 x1 x2 x3 x4 x5 x6 x7 y0 y1 y2 y3 y4 y5 y6 y7 w).trans (by rw [decide_eq_false hef])
          clear HSi HBi hef
          go_wp2_with fail
          go_quiet (fail)
          go_wp2_with fail
          go_ret
          exact ⟨ret_bool HF.out.symm, B.out.os, B.out.tape, B.out.output, B.out.size, B.out.block⟩
      · obtain rfl : i = n := by omega
        have hlt2 : ¬ (i : Int) < (i : Int) := by omega
        have HF := Lib.hid (HD.out HR.out)
        go_wp2_with fail
        go_ret
        exact ⟨ret_bool HF.out.symm, B.out⟩
  · have hq : ¬ (n : Int) = (n2 : Int) := by omega
    have HF : Hid (decide (L = M) = false) := Lib.hid (decide_eq_false (fun q => hl (by rw [hn, hn2, q])))
    generalize decide (L = M) = r at HF
    go_enter Tryz.func76, Tryz.ntmps76
    go_wp2_with fail
    go_ret
    exact ⟨ret_bool HF.out.symm, Below.refl _ _⟩
set_option maxHeartbeats 1600000 in
theorem same_specC (L M : List Card) (n g ca n2 g2 cb : Nat) (w : World) (hn : n = L.length) (hn2 : n2 = M.length) (hm : n ≤ 4194304) (hm2 : n2 ≤ 4194304) (hg : g < w.heap.size) (hg2 : g2 < w.heap.size) (h1 : RowC w g L) (h2 : RowC w g2 M) :
    Calls Tryz.prog 73 #[.slice (some ⟨g, 0, none⟩) n ca, .slice (some ⟨g2, 0, none⟩) n2 cb] w fun e w' => e = .returned (.bool (decide (L = M))) ∧ Below w.heap.size w w' := by
  by_cases hl : n = n2
  · subst hl
    have H1 := Lib.hid h1
    have H2 := Lib.hid h2
    have HG : Hid (∀ i, i < n → ∃ e, L[i]? = some e) := Lib.hid (fun i hi => getC' (by omega))
    have HM : Hid (∀ i, i < n → ∃ e, M[i]? = some e) := Lib.hid (fun i hi => getC' (by omega))
    have HB : Hid (∀ (i : Nat) (e f : Card), L[i]? = some e → M[i]? = some f → ¬ e = f → decide (L = M) = false) := Lib.hid (fun i e f h h' hne => decide_eq_false (fun q => hne (by rw [q, h'] at h; exact (Option.some.inj h).symm)))
    have HD : Hid ((∀ j, j < n → L[j]? = M[j]?) → decide (L = M) = true) := Lib.hid (fun h => decide_eq_true (List.ext_getElem? (fun j => by
      by_cases hj : j < n
      · exact h j hj
      · rw [List.getElem?_eq_none (by omega), List.getElem?_eq_none (by omega)])))
    generalize decide (L = M) = r at HB HD
    clear h1 h2 hn hn2
    go_enter Tryz.func73, Tryz.ntmps73
    go_wp2_with fail
    go_loopw [5] (fun u wr => ∃ i : Nat, u = .int .i64 i ∧ i ≤ n ∧ (∀ j, j < i → L[j]? = M[j]?) ∧ Below w.heap.size w wr) (fun u _ => n - (intOf u).toNat)
    case atStart => exact ⟨0, rfl, Nat.zero_le _, fun j hj => by omega, Below.refl _ _⟩
    case round =>
      obtain ⟨i, rfl, hi, hr, hb⟩ := hrel
      have HR := Lib.hid hr
      have B := Lib.hid hb
      clear hr hb
      by_cases hlt : i < n
      · have hlt2 : (i : Int) < (n : Int) := by omega
        obtain ⟨e, he⟩ := HG.out i hlt
        obtain ⟨f, hf⟩ := HM.out i hlt
        obtain ⟨c0, c1, c2, c3, c4, c5, c6, c7⟩ := (H1.out.below B.out hg).cols he
        obtain ⟨d0, d1, d2, d3, d4, d5, d6, d7⟩ := (H2.out.below B.out hg2).cols hf
        have HBi := Lib.hid (HB.out i e f he hf)
        have HSi : Hid (e = f → ∀ j, j < i + 1 → L[j]? = M[j]?) := Lib.hid (fun q j hj => by
          by_cases hj' : j = i
          · subst hj'; rw [he, hf, q]
          · exact HR.out j (by omega))
        clear he hf HB
        obtain ⟨x0, x1, x2, x3, x4, x5, x6, x7⟩ := e
        obtain ⟨y0, y1, y2, y3, y4, y5, y6, y7⟩ := f
        by_cases hef : (⟨x0, x1, x2, x3, x4, x5, x6, x7⟩ : Card) = ⟨y0, y1, y2, y3, y4, y5, y6, y7⟩
        · have HS := Lib.hid (HSi.out hef)
          have hq := fun w => (run_sameC x0 x1 x2 x3 x4 x5 x6 x7 y0 y1 y2 y3 y4 y5 y6 y7 w).trans (by rw [decide_eq_true hef])
          clear HSi HBi hef
          go_wp2_with fail
          go_quiet (fail)
          go_wp2_with fail
          go_roundw
          case rel => exact ⟨i + 1, by go_num, by omega, HS.out, B.out.os, B.out.tape, B.out.output, B.out.size, B.out.block⟩
          case measure => simp [intOf]; omega
        · have HF := Lib.hid (HBi.out hef)
          have hq := fun w => (run_sameC x0 x1 x2 x3 x4 x5 x6 x7 y0 y1 y2 y3 y4 y5 y6 y7 w).trans (by rw [decide_eq_false hef])
          clear HSi HBi hef
          go_wp2_with fail
          go_quiet (fail)
          go_wp2_with fail
          go_ret
          exact ⟨ret_bool HF.out.symm, B.out.os, B.out.tape, B.out.output, B.out.size, B.out.block⟩
      · obtain rfl : i = n := by omega
        have hlt2 : ¬ (i : Int) < (i : Int) := by omega
        have HF := Lib.hid (HD.out HR.out)
        go_wp2_with fail
        go_ret
        exact ⟨ret_bool HF.out.symm, B.out⟩
  · have hq : ¬ (n : Int) = (n2 : Int) := by omega
    have HF : Hid (decide (L = M) = false) := Lib.hid (decide_eq_false (fun q => hl (by rw [hn, hn2, q])))
    generalize decide (L = M) = r at HF
    go_enter Tryz.func73, Tryz.ntmps73
    go_wp2_with fail
    go_ret
    exact ⟨ret_bool HF.out.symm, Below.refl _ _⟩

end Go.Proofs.YtancidbbkoeokaaGreat

/- Contract of spec.Merge. -/
namespace Go.Proofs.YtancidbbkoeokaaGreat
open Go.ChangeShapes Go.WideShapes Go.ChangeAt Go.RowKit Go.Deep

theorem OwnE.open {w : World} {base : Nat} {v : Value} {L : List Ent} (h : OwnE w base v L) : ∃ g cap, v = .slice (some ⟨g, 0, none⟩) L.length cap ∧ RowE w g L ∧ g < w.heap.size ∧ base ≤ g ∧ L.length ≤ cap ∧ w.ownsRow base 41 10 (.slice (some ⟨g, 0, none⟩) L.length cap) L.length (entVals L) := by
  obtain ⟨ho, g, cap, rfl⟩ := h
  have hr := OwnE.row (n := L.length) ⟨ho, g, cap, rfl⟩
  refine ⟨g, cap, rfl, hr.1, hr.2.1, hr.2.2.1, ?_, ho⟩
  rcases ho.2 with ⟨h', _⟩ | ⟨g', cap', cur, h', _, _, hnc, _⟩
  · simp at h'
  · simp at h'
    obtain ⟨_, rfl⟩ := h'
    exact hnc
/-- The entries of L, as far as i, whose path is none of M's. -/
def mergeTo (L M : List Ent) : Nat → List Ent
  | 0 => []
  | i + 1 => if findv M (L.getD i entD).path < 0 then mergeTo L M i ++ [L.getD i entD] else mergeTo L M i
def mergev (L M : List Ent) : List Ent := if listOkv (mergeTo L M L.length ++ M) = true then mergeTo L M L.length ++ M else L
end Go.Proofs.YtancidbbkoeokaaGreat

/- Contracts of spec.l07Entry and spec.EntriesOf. -/
namespace Go.Proofs.YtancidbbkoeokaaGreat
open Go.ChangeShapes Go.WideShapes Go.ChangeAt Go.RowKit Go.Deep

def SmallC (L : List Card) : Prop := ∀ c ∈ L, szC c ≤ 2097152
theorem RowC.take {w : World} {g : Nat} {L : List Card} (h : RowC w g L) (i : Nat) : RowC w g (L.take i) := by
  intro k u hu
  apply h
  have hlt := (List.getElem?_eq_some_iff.1 hu).1
  rw [← List.take_append_drop i L, valsC_app, List.getElem?_append_left hlt]
  exact hu
theorem entO_newAt (w : World) (e : Ent) (g : Nat) (hg : g = w.heap.size) : EntO (w.alloc (.cells e.cells.toArray 41)) g e := by subst hg; exact EntO.new w e
theorem ino_hit {A : List Card} {i : Nat} {a : Card} {x : Int} (h : ∀ j b, j < i → A[j]? = some b → ¬ b.Ino = x) (ha : A[i]? = some a) (hx : a.Ino = x) : A.find? (fun a => decide (a.Ino = x)) = some a := by
  obtain ⟨hi, hq⟩ := List.getElem?_eq_some_iff.1 ha
  rw [List.find?_eq_some_iff_getElem]
  refine ⟨by simpa using hx, i, hi, hq, fun j hj => ?_⟩
  simpa using h j _ hj (List.getElem?_eq_getElem (by omega))
theorem ino_miss {A : List Card} {x : Int} (h : ∀ j b, j < A.length → A[j]? = some b → ¬ b.Ino = x) : A.find? (fun a => decide (a.Ino = x)) = none := by
  rw [List.find?_eq_none]
  intro b hb
  obtain ⟨j, hj⟩ := List.mem_iff_getElem?.1 hb
  simpa using h j b (List.getElem?_eq_some_iff.1 hj).1 hj
set_option maxHeartbeats 6400000 in
set_option maxRecDepth 8000 in
theorem entry_spec (A : List Card) (ino mo u1 gi cn t : Int) (p d : ByteArray) (n g cap : Nat) (w : World) (hn : n = A.length) (hm : n ≤ 4194304) (hg : g < w.heap.size) (hm0 : -9223372036854775808 ≤ mo) (hm1 : mo ≤ 9223372036854775807) (h1 : RowC w g A) :
    Calls Tryz.prog 72 #[.slice (some ⟨g, 0, none⟩) n cap, .agg #[.int .i64 ino, .int .i64 mo, .int .i64 u1, .int .i64 gi, .int .i64 cn, .int .i64 t, .string p, .string d]] w fun e w' => e = .returned (.agg (entS A ⟨ino, mo, u1, gi, cn, t, p, d⟩).cells.toArray) ∧ Below w.heap.size w w' := by
  have H1 := Lib.hid h1
  have HG : Hid (∀ i, i < n → ∃ a, A[i]? = some a) := Lib.hid (fun i hi => getC' (by omega))
  have hb := i64_and4095 mo
  obtain ⟨md, hmd⟩ : ∃ x, mo % 4096 = x := ⟨_, rfl⟩
  have HR : Hid (entS A ⟨ino, mo, u1, gi, cn, t, p, d⟩ = if mo - md = 16384 then ⟨1, p, ⟨#[]⟩, md, u1, gi, t, ⟨#[]⟩, ⟨#[]⟩, ⟨#[]⟩⟩ else if mo - md = 40960 then ⟨2, p, d, md, u1, gi, t, ⟨#[]⟩, ⟨#[]⟩, ⟨#[]⟩⟩ else match A.find? (fun a => decide (a.Ino = ino)) with | some a => ⟨3, p, a.Path, md, u1, gi, t, ⟨#[]⟩, ⟨#[]⟩, ⟨#[]⟩⟩ | none => ⟨0, p, ⟨#[]⟩, md, u1, gi, t, ⟨#[]⟩, ⟨#[]⟩, d⟩) := Lib.hid (by subst hmd; rfl)
  have HH : Hid (∀ (i : Nat) (a : Card), (∀ (j : Nat) (b : Card), j < i → A[j]? = some b → ¬ b.Ino = ino) → A[i]? = some a → a.Ino = ino → A.find? (fun a => decide (a.Ino = ino)) = some a) := Lib.hid (fun i a h ha hx => ino_hit h ha hx)
  have HM : Hid ((∀ (j : Nat) (b : Card), j < n → A[j]? = some b → ¬ b.Ino = ino) → A.find? (fun a => decide (a.Ino = ino)) = none) := Lib.hid (fun h => ino_miss (by rw [← hn]; exact h))
  have hd0 : -9223372036854775808 ≤ mo - mo % 4096 := by omega
  have hd1 : mo - mo % 4096 ≤ 9223372036854775807 := by omega
  rw [hmd] at hb hd0 hd1
  generalize entS A ⟨ino, mo, u1, gi, cn, t, p, d⟩ = r at HR
  clear h1 hn hmd
  go_enter Tryz.func72, Tryz.ntmps72
  go_upto_region 1 with fail
  generalize hw1 : World.alloc (World.alloc w _) _ = w1
  have XC : Hid (CardO w1 w.heap.size ⟨ino, mo, u1, gi, cn, t, p, d⟩) := Lib.hid (by rw [← hw1]; exact (CardO.new w ⟨ino, mo, u1, gi, cn, t, p, d⟩).below (B := w.heap.size + 1) ((Below.refl _ _).alloc (by simp) _) (by omega))
  have XR : Hid (EntO w1 (w.heap.size + 1) ⟨0, ⟨#[]⟩, ⟨#[]⟩, 0, 0, 0, 0, ⟨#[]⟩, ⟨#[]⟩, ⟨#[]⟩⟩) := Lib.hid (by rw [← hw1]; exact entO_newAt (w.alloc (.cells (Card.cells ⟨ino, mo, u1, gi, cn, t, p, d⟩).toArray 44)) ⟨0, ⟨#[]⟩, ⟨#[]⟩, 0, 0, 0, 0, ⟨#[]⟩, ⟨#[]⟩, ⟨#[]⟩⟩ _ (by simp))
  have B1 : Hid (Below w.heap.size w w1) := Lib.hid (by rw [← hw1]; exact ((Below.refl _ _).alloc (Nat.le_refl _) _).alloc (by simp) _)
  have hs1 : w1.heap.size = w.heap.size + 2 := by rw [← hw1]; simp
  clear hw1
  obtain ⟨k0, k1, k2, k3, k4, k5, k6, k7⟩ := XC.out.at.zero
  have XP := EntO.new w1 ⟨0, p, ⟨#[]⟩, md, u1, gi, t, ⟨#[]⟩, ⟨#[]⟩, ⟨#[]⟩⟩
  have N1 : Below w1.heap.size w1 (w1.alloc (.cells (Ent.cells ⟨0, p, ⟨#[]⟩, md, u1, gi, t, ⟨#[]⟩, ⟨#[]⟩, ⟨#[]⟩⟩).toArray 41)) := (Below.refl _ _).alloc (Nat.le_refl _) _
  have CP := XC.out.below N1 (by omega)
  have RP := XR.out.below N1 (by omega)
  have BP := btE B1.out N1
  simp only [Ent.cells] at XP CP RP BP
  clear XC XR N1
  go_upto_region 2 with fail
  obtain ⟨w3, hw3⟩ : ∃ y, y = (w1.alloc (.cells #[.int .i64 0, .string p, .string ⟨#[]⟩, .int .i64 md, .int .i64 u1, .int .i64 gi, .int .i64 t, .string ⟨#[]⟩, .string ⟨#[]⟩, .string ⟨#[]⟩] 41)) := ⟨_, rfl⟩
  simp only [List.toArray] at XP CP RP BP
  rw [← hw3] at XP CP RP BP ⊢
  have hs3 : w3.heap.size = w.heap.size + 3 := by rw [hw3]; simp; omega
  rw [hs1] at XP
  clear hw3 k0 k1 k2 k3 k4 k5 k6 k7 B1
  obtain ⟨k0, k1, k2, k3, k4, k5, k6, k7⟩ := CP.at.zero
  obtain ⟨d0, d1, d2, d3, d4, d5, d6, d7, d8, d9⟩ := XP.at.zero
  have hn0 : ¬ w.heap.size = w.heap.size + 2 := by omega
  have hn1 : ¬ w.heap.size + 1 = w.heap.size + 2 := by omega
  have hw1 : w.heap.size ≤ w.heap.size + 2 := by omega
  by_cases q1 : mo - md = 16384
  · have q1b : (mo - md == 16384) = true := by simpa using q1
    have HF : Hid (r = ⟨1, p, ⟨#[]⟩, md, u1, gi, t, ⟨#[]⟩, ⟨#[]⟩, ⟨#[]⟩⟩) := Lib.hid (by rw [HR.out, if_pos q1])
    clear HR HH HM HG q1
    have f0 := XP.fz 0
    have XQ := XP.set (e' := ⟨1, p, ⟨#[]⟩, md, u1, gi, t, ⟨#[]⟩, ⟨#[]⟩, ⟨#[]⟩⟩) 0 (.int .i64 1) rfl
    have RQ : EntO (w3.setCell ⟨w.heap.size + 2, 0, none⟩ (.int .i64 1)) (w.heap.size + 1) ⟨0, ⟨#[]⟩, ⟨#[]⟩, 0, 0, 0, 0, ⟨#[]⟩, ⟨#[]⟩, ⟨#[]⟩⟩ := RP.other hn1
    have CQ : CardO (w3.setCell ⟨w.heap.size + 2, 0, none⟩ (.int .i64 1)) w.heap.size ⟨ino, mo, u1, gi, cn, t, p, d⟩ := CP.other hn0
    have BQ := BP.setCell (p := ⟨w.heap.size + 2, 0, none⟩) hw1 (.int .i64 1)
    go_upto_region 5 with fail
    obtain ⟨w4, hnw⟩ : ∃ y, y = w3.setCell ⟨w.heap.size + 2, 0, none⟩ (.int .i64 1) := ⟨_, rfl⟩
    rw [← hnw] at XQ RQ CQ BQ ⊢
    clear hnw f0 XP RP CP BP d0 d1 d2 d3 d4 d5 d6 d7 d8 d9
    have XP := XQ
    have RP := RQ
    have CP := CQ
    have BP := BQ
    clear XQ RQ CQ BQ
    obtain ⟨d0, d1, d2, d3, d4, d5, d6, d7, d8, d9⟩ := XP.at.zero
    clear d0 d1 d2 d3 d4 d5 d6 d7 d8 d9
    obtain ⟨d0, d1, d2, d3, d4, d5, d6, d7, d8, d9⟩ := XP.at.zero
    obtain ⟨z0, z1, z2, z3, z4, z5, z6, z7, z8, z9⟩ := RP.at.zero
    have f0 := RP.fz 0
    have f1 := RP.fz 1
    have f2 := RP.fz 2
    have f3 := RP.fz 3
    have f4 := RP.fz 4
    have f5 := RP.fz 5
    have f6 := RP.fz 6
    have f7 := RP.fz 7
    have f8 := RP.fz 8
    have f9 := RP.fz 9
    have R9 := RP.put ⟨1, p, ⟨#[]⟩, md, u1, gi, t, ⟨#[]⟩, ⟨#[]⟩, ⟨#[]⟩⟩
    have B9 := below_putE (g := w.heap.size + 1) BP (by omega) ⟨1, p, ⟨#[]⟩, md, u1, gi, t, ⟨#[]⟩, ⟨#[]⟩, ⟨#[]⟩⟩
    simp only [putE] at R9 B9
    go_wp2_with fail
    refine bodyPost_ret (res_ent1 rfl _ rfl R9) rfl ?_
    exact ⟨by rw [HF.out], B9⟩
  have q1b : (mo - md == 16384) = false := by simpa using q1
  by_cases q2 : mo - md = 40960
  · have q2b : (mo - md == 40960) = true := by simpa using q2
    have HF : Hid (r = ⟨2, p, d, md, u1, gi, t, ⟨#[]⟩, ⟨#[]⟩, ⟨#[]⟩⟩) := Lib.hid (by rw [HR.out, if_neg q1, if_pos q2])
    clear HR HH HM HG q1 q2
    have f0 := XP.fz 0
    have XQ := XP.set (e' := ⟨2, p, ⟨#[]⟩, md, u1, gi, t, ⟨#[]⟩, ⟨#[]⟩, ⟨#[]⟩⟩) 0 (.int .i64 2) rfl
    have RQ : EntO (w3.setCell ⟨w.heap.size + 2, 0, none⟩ (.int .i64 2)) (w.heap.size + 1) ⟨0, ⟨#[]⟩, ⟨#[]⟩, 0, 0, 0, 0, ⟨#[]⟩, ⟨#[]⟩, ⟨#[]⟩⟩ := RP.other hn1
    have CQ : CardO (w3.setCell ⟨w.heap.size + 2, 0, none⟩ (.int .i64 2)) w.heap.size ⟨ino, mo, u1, gi, cn, t, p, d⟩ := CP.other hn0
    have BQ := BP.setCell (p := ⟨w.heap.size + 2, 0, none⟩) hw1 (.int .i64 2)
    go_upto_region 8 with fail
    obtain ⟨w4, hnw⟩ : ∃ y, y = w3.setCell ⟨w.heap.size + 2, 0, none⟩ (.int .i64 2) := ⟨_, rfl⟩
    rw [← hnw] at XQ RQ CQ BQ ⊢
    clear hnw f0 XP RP CP BP d0 d1 d2 d3 d4 d5 d6 d7 d8 d9
    have XP := XQ
    have RP := RQ
    have CP := CQ
    have BP := BQ
    clear XQ RQ CQ BQ
    obtain ⟨d0, d1, d2, d3, d4, d5, d6, d7, d8, d9⟩ := XP.at.zero
    clear k0 k1 k2 k3 k4 k5 k6 k7
    obtain ⟨k0, k1, k2, k3, k4, k5, k6, k7⟩ := CP.at.zero
    have f2 := XP.fz 2
    have XQ := XP.set (e' := ⟨2, p, d, md, u1, gi, t, ⟨#[]⟩, ⟨#[]⟩, ⟨#[]⟩⟩) 2 (.string d) rfl
    have RQ : EntO (w4.setCell ⟨w.heap.size + 2, 2, none⟩ (.string d)) (w.heap.size + 1) ⟨0, ⟨#[]⟩, ⟨#[]⟩, 0, 0, 0, 0, ⟨#[]⟩, ⟨#[]⟩, ⟨#[]⟩⟩ := RP.other hn1
    have CQ : CardO (w4.setCell ⟨w.heap.size + 2, 2, none⟩ (.string d)) w.heap.size ⟨ino, mo, u1, gi, cn, t, p, d⟩ := CP.other hn0
    have BQ := BP.setCell (p := ⟨w.heap.size + 2, 2, none⟩) hw1 (.string d)
    go_upto_region 9 with fail
    obtain ⟨w5, hnw⟩ : ∃ y, y = w4.setCell ⟨w.heap.size + 2, 2, none⟩ (.string d) := ⟨_, rfl⟩
    rw [← hnw] at XQ RQ CQ BQ ⊢
    clear hnw f2 XP RP CP BP d0 d1 d2 d3 d4 d5 d6 d7 d8 d9
    have XP := XQ
    have RP := RQ
    have CP := CQ
    have BP := BQ
    clear XQ RQ CQ BQ
    obtain ⟨d0, d1, d2, d3, d4, d5, d6, d7, d8, d9⟩ := XP.at.zero
    clear d0 d1 d2 d3 d4 d5 d6 d7 d8 d9
    obtain ⟨d0, d1, d2, d3, d4, d5, d6, d7, d8, d9⟩ := XP.at.zero
    obtain ⟨z0, z1, z2, z3, z4, z5, z6, z7, z8, z9⟩ := RP.at.zero
    have f0 := RP.fz 0
    have f1 := RP.fz 1
    have f2 := RP.fz 2
    have f3 := RP.fz 3
    have f4 := RP.fz 4
    have f5 := RP.fz 5
    have f6 := RP.fz 6
    have f7 := RP.fz 7
    have f8 := RP.fz 8
    have f9 := RP.fz 9
    have R9 := RP.put ⟨2, p, d, md, u1, gi, t, ⟨#[]⟩, ⟨#[]⟩, ⟨#[]⟩⟩
    have B9 := below_putE (g := w.heap.size + 1) BP (by omega) ⟨2, p, d, md, u1, gi, t, ⟨#[]⟩, ⟨#[]⟩, ⟨#[]⟩⟩
    simp only [putE] at R9 B9
    go_wp2_with fail
    refine bodyPost_ret (res_ent1 rfl _ rfl R9) rfl ?_
    exact ⟨by rw [HF.out], B9⟩
  have q2b : (mo - md == 40960) = false := by simpa using q2
  have HR2 : Hid (r = match A.find? (fun a => decide (a.Ino = ino)) with | some a => ⟨3, p, a.Path, md, u1, gi, t, ⟨#[]⟩, ⟨#[]⟩, ⟨#[]⟩⟩ | none => ⟨0, p, ⟨#[]⟩, md, u1, gi, t, ⟨#[]⟩, ⟨#[]⟩, d⟩) := Lib.hid (by rw [HR.out, if_neg q1, if_neg q2])
  clear HR q1 q2 d0 d1 d2 d3 d4 d5 d6 d7 d8 d9 k0 k1 k2 k3 k4 k5 k6 k7
  have HRow := Lib.hid (H1.out.below BP hg)
  have XP3 := Lib.hid XP
  have CP3 := Lib.hid CP
  have RP3 := Lib.hid RP
  have BP3 := Lib.hid BP
  have zg3 : g < w3.heap.size := by omega
  clear XP CP RP BP
  obtain ⟨d0, d1, d2, d3, d4, d5, d6, d7, d8, d9⟩ := XP3.out.at.zero
  obtain ⟨k0, k1, k2, k3, k4, k5, k6, k7⟩ := CP3.out.at.zero
  go_wp2_with fail
  clear d0 d1 d2 d3 d4 d5 d6 d7 d8 d9 k0 k1 k2 k3 k4 k5 k6 k7
  go_loopw [6] (fun u wr => ∃ i : Nat, u = .int .i64 i ∧ i ≤ n ∧ (∀ j b, j < i → A[j]? = some b → ¬ b.Ino = ino) ∧ Below w3.heap.size w3 wr) (fun u _ => n - (intOf u).toNat)
  case atStart => exact ⟨0, rfl, Nat.zero_le _, fun j b hj => by omega, Below.refl _ _⟩
  case round =>
    obtain ⟨i, rfl, hi, hr, hb⟩ := hrel
    have XP := XP3.out.below hb (by omega)
    have CP := CP3.out.below hb (by omega)
    have RP := RP3.out.below hb (by omega)
    have BP := btE BP3.out hb
    have HRi := HRow.out.below hb zg3
    have HB := Lib.hid hb
    have HU := Lib.hid hr
    have hszr := hb.size
    clear hb hr
    by_cases hlt : i < n
    · have hlt2 : (i : Int) < (n : Int) := by omega
      obtain ⟨a, ha⟩ := HG.out i hlt
      obtain ⟨c0, c1, c2, c3, c4, c5, c6, c7⟩ := HRi.cols ha
      obtain ⟨k0, k1, k2, k3, k4, k5, k6, k7⟩ := CP.at.zero
      have HHi := Lib.hid (HH.out i a HU.out ha)
      have HUs : Hid (¬ a.Ino = ino → ∀ j b, j < i + 1 → A[j]? = some b → ¬ b.Ino = ino) := Lib.hid (fun hq j b hj hbj => by
        by_cases e : j = i
        · subst e; rw [ha] at hbj; obtain rfl := Option.some.inj hbj; exact hq
        · exact HU.out j b (by omega) hbj)
      have HA9 := Lib.hid ha
      clear ha HH HU
      obtain ⟨ai, am, au, ag, ac, at', ap, ad⟩ := a
      simp only at HHi HUs c0 c1 c2 c3 c4 c5 c6 c7
      by_cases hq : ai = ino
      · have q3 : (ai == ino) = true := by simpa using hq
        have HF : Hid (r = ⟨3, p, ap, md, u1, gi, t, ⟨#[]⟩, ⟨#[]⟩, ⟨#[]⟩⟩) := Lib.hid (by rw [HR2.out, HHi.out hq])
        clear HUs HHi HR2 hq HM
        go_wp2_with fail
        go_quiet (fail)
        go_upto_region 14 with fail
        obtain ⟨wq, hwq⟩ : ∃ y, y = wr.drewN nq := ⟨_, rfl⟩
        replace XP : EntO wq (w.heap.size + 2) ⟨0, p, ⟨#[]⟩, md, u1, gi, t, ⟨#[]⟩, ⟨#[]⟩, ⟨#[]⟩⟩ := by rw [hwq]; exact XP
        replace CP : CardO wq w.heap.size ⟨ino, mo, u1, gi, cn, t, p, d⟩ := by rw [hwq]; exact CP
        replace RP : EntO wq (w.heap.size + 1) ⟨0, ⟨#[]⟩, ⟨#[]⟩, 0, 0, 0, 0, ⟨#[]⟩, ⟨#[]⟩, ⟨#[]⟩⟩ := by rw [hwq]; exact RP
        replace BP : Below w.heap.size w wq := by rw [hwq]; exact ⟨BP.os, BP.tape, BP.output, BP.size, BP.block⟩
        rw [← hwq]
        clear hwq k0 k1 k2 k3 k4 k5 k6 k7 c0 c1 c2 c3 c4 c5 c6 c7
        obtain ⟨d0, d1, d2, d3, d4, d5, d6, d7, d8, d9⟩ := XP.at.zero
        have f0 := XP.fz 0
        have XQ := XP.set (e' := ⟨3, p, ⟨#[]⟩, md, u1, gi, t, ⟨#[]⟩, ⟨#[]⟩, ⟨#[]⟩⟩) 0 (.int .i64 3) rfl
        have RQ : EntO (wq.setCell ⟨w.heap.size + 2, 0, none⟩ (.int .i64 3)) (w.heap.size + 1) ⟨0, ⟨#[]⟩, ⟨#[]⟩, 0, 0, 0, 0, ⟨#[]⟩, ⟨#[]⟩, ⟨#[]⟩⟩ := RP.other hn1
        have CQ : CardO (wq.setCell ⟨w.heap.size + 2, 0, none⟩ (.int .i64 3)) w.heap.size ⟨ino, mo, u1, gi, cn, t, p, d⟩ := CP.other hn0
        have BQ := BP.setCell (p := ⟨w.heap.size + 2, 0, none⟩) hw1 (.int .i64 3)
        go_upto_region 15 with fail
        obtain ⟨w4, hnw⟩ : ∃ y, y = wq.setCell ⟨w.heap.size + 2, 0, none⟩ (.int .i64 3) := ⟨_, rfl⟩
        rw [← hnw] at XQ RQ CQ BQ ⊢
        clear hnw f0 XP RP CP BP d0 d1 d2 d3 d4 d5 d6 d7 d8 d9
        have XP := XQ
        have RP := RQ
        have CP := CQ
        have BP := BQ
        clear XQ RQ CQ BQ
        obtain ⟨d0, d1, d2, d3, d4, d5, d6, d7, d8, d9⟩ := XP.at.zero
        obtain ⟨c0, c1, c2, c3, c4, c5, c6, c7⟩ := (H1.out.below BP hg).cols HA9.out
        simp only at c0 c1 c2 c3 c4 c5 c6 c7
        have f2 := XP.fz 2
        have XQ := XP.set (e' := ⟨3, p, ap, md, u1, gi, t, ⟨#[]⟩, ⟨#[]⟩, ⟨#[]⟩⟩) 2 (.string ap) rfl
        have RQ : EntO (w4.setCell ⟨w.heap.size + 2, 2, none⟩ (.string ap)) (w.heap.size + 1) ⟨0, ⟨#[]⟩, ⟨#[]⟩, 0, 0, 0, 0, ⟨#[]⟩, ⟨#[]⟩, ⟨#[]⟩⟩ := RP.other hn1
        have CQ : CardO (w4.setCell ⟨w.heap.size + 2, 2, none⟩ (.string ap)) w.heap.size ⟨ino, mo, u1, gi, cn, t, p, d⟩ := CP.other hn0
        have BQ := BP.setCell (p := ⟨w.heap.size + 2, 2, none⟩) hw1 (.string ap)
        go_upto_region 16 with fail
        obtain ⟨w5, hnw⟩ : ∃ y, y = w4.setCell ⟨w.heap.size + 2, 2, none⟩ (.string ap) := ⟨_, rfl⟩
        rw [← hnw] at XQ RQ CQ BQ ⊢
        clear hnw f2 XP RP CP BP d0 d1 d2 d3 d4 d5 d6 d7 d8 d9
        have XP := XQ
        have RP := RQ
        have CP := CQ
        have BP := BQ
        clear XQ RQ CQ BQ
        obtain ⟨d0, d1, d2, d3, d4, d5, d6, d7, d8, d9⟩ := XP.at.zero
        clear d0 d1 d2 d3 d4 d5 d6 d7 d8 d9 c0 c1 c2 c3 c4 c5 c6 c7
        obtain ⟨d0, d1, d2, d3, d4, d5, d6, d7, d8, d9⟩ := XP.at.zero
        obtain ⟨z0, z1, z2, z3, z4, z5, z6, z7, z8, z9⟩ := RP.at.zero
        have f0 := RP.fz 0
        have f1 := RP.fz 1
        have f2 := RP.fz 2
        have f3 := RP.fz 3
        have f4 := RP.fz 4
        have f5 := RP.fz 5
        have f6 := RP.fz 6
        have f7 := RP.fz 7
        have f8 := RP.fz 8
        have f9 := RP.fz 9
        have R9 := RP.put ⟨3, p, ap, md, u1, gi, t, ⟨#[]⟩, ⟨#[]⟩, ⟨#[]⟩⟩
        have B9 := below_putE (g := w.heap.size + 1) BP (by omega) ⟨3, p, ap, md, u1, gi, t, ⟨#[]⟩, ⟨#[]⟩, ⟨#[]⟩⟩
        simp only [putE] at R9 B9
        go_wp2_with fail
        refine bodyPost_ret (res_ent1 rfl _ rfl R9) rfl ?_
        exact ⟨by rw [HF.out], B9⟩
      · have q3 : (ai == ino) = false := by simpa using hq
        have HUn := Lib.hid (HUs.out hq)
        clear HUs HHi hq
        go_wp2_with fail
        go_quiet (fail)
        go_wp2_with fail
        go_roundw
        case rel => exact ⟨i + 1, by go_num, by omega, HUn.out, HB.out.os, HB.out.tape, HB.out.output, HB.out.size, HB.out.block⟩
        case measure => simp [intOf]; omega
    · obtain rfl : i = n := by omega
      have hlt2 : ¬ (i : Int) < (i : Int) := by omega
      have HF : Hid (r = ⟨0, p, ⟨#[]⟩, md, u1, gi, t, ⟨#[]⟩, ⟨#[]⟩, d⟩) := Lib.hid (by rw [HR2.out, HM.out HU.out])
      clear HR2 HM HU HH
      obtain ⟨k0, k1, k2, k3, k4, k5, k6, k7⟩ := CP.at.zero
      obtain ⟨d0, d1, d2, d3, d4, d5, d6, d7, d8, d9⟩ := XP.at.zero
      have f9 := XP.fz 9
      have XQ := XP.set (e' := ⟨0, p, ⟨#[]⟩, md, u1, gi, t, ⟨#[]⟩, ⟨#[]⟩, d⟩) 9 (.string d) rfl
      have RQ : EntO (wr.setCell ⟨w.heap.size + 2, 9, none⟩ (.string d)) (w.heap.size + 1) ⟨0, ⟨#[]⟩, ⟨#[]⟩, 0, 0, 0, 0, ⟨#[]⟩, ⟨#[]⟩, ⟨#[]⟩⟩ := RP.other hn1
      have CQ : CardO (wr.setCell ⟨w.heap.size + 2, 9, none⟩ (.string d)) w.heap.size ⟨ino, mo, u1, gi, cn, t, p, d⟩ := CP.other hn0
      have BQ := BP.setCell (p := ⟨w.heap.size + 2, 9, none⟩) hw1 (.string d)
      go_upto_region 18 with fail
      obtain ⟨w5, hnw⟩ : ∃ y, y = wr.setCell ⟨w.heap.size + 2, 9, none⟩ (.string d) := ⟨_, rfl⟩
      rw [← hnw] at XQ RQ CQ BQ ⊢
      clear hnw f9 XP RP CP BP d0 d1 d2 d3 d4 d5 d6 d7 d8 d9
      have XP := XQ
      have RP := RQ
      have CP := CQ
      have BP := BQ
      clear XQ RQ CQ BQ
      obtain ⟨d0, d1, d2, d3, d4, d5, d6, d7, d8, d9⟩ := XP.at.zero
      clear d0 d1 d2 d3 d4 d5 d6 d7 d8 d9
      obtain ⟨d0, d1, d2, d3, d4, d5, d6, d7, d8, d9⟩ := XP.at.zero
      obtain ⟨z0, z1, z2, z3, z4, z5, z6, z7, z8, z9⟩ := RP.at.zero
      have f0 := RP.fz 0
      have f1 := RP.fz 1
      have f2 := RP.fz 2
      have f3 := RP.fz 3
      have f4 := RP.fz 4
      have f5 := RP.fz 5
      have f6 := RP.fz 6
      have f7 := RP.fz 7
      have f8 := RP.fz 8
      have f9 := RP.fz 9
      have R9 := RP.put ⟨0, p, ⟨#[]⟩, md, u1, gi, t, ⟨#[]⟩, ⟨#[]⟩, d⟩
      have B9 := below_putE (g := w.heap.size + 1) BP (by omega) ⟨0, p, ⟨#[]⟩, md, u1, gi, t, ⟨#[]⟩, ⟨#[]⟩, d⟩
      simp only [putE] at R9 B9
      go_wp2_with fail
      refine bodyPost_ret (res_ent1 rfl _ rfl R9) rfl ?_
      exact ⟨by rw [HF.out], B9⟩
theorem row_ent {w : World} {G : Nat} {ty : TypeId} {c : Ent} (h : w.heap[G]? = some (.cells c.cells.toArray ty (0, 0))) : ∀ j u, (entVals [c])[j]? = some u → w.cell? ⟨G, j, none⟩ = some u := by
  intro j u hu
  rw [entVals_one] at hu
  simp only [World.cell?, h]
  simpa using hu
theorem small_entS {A : List Card} {c : Card} (hA : SmallC A) (hc : szC c ≤ 2097152) : esz (entS A c) ≤ 4194304 := by
  unfold szC at hc
  have h0 : (⟨#[]⟩ : ByteArray).size = 0 := rfl
  unfold entS
  split
  · simp only [esz]; omega
  · split
    · simp only [esz]; omega
    · split
      · rename_i a ha
        have h := hA a (List.mem_of_find?_eq_some ha)
        unfold szC at h
        simp only [esz]; omega
      · simp only [esz]; omega
theorem smallC_take {A : List Card} (hA : SmallC A) (n : Nat) : SmallC (A.take n) := fun c hc => hA c (List.mem_of_mem_take hc)
theorem getD_ofC {C : List Card} {i : Nat} {c : Card} (h : C[i]? = some c) : C.getD i zeroCd = c := by simp [List.getD, h]
theorem small_entsS {C : List Card} (hC : SmallC C) (n : Nat) (hn : n ≤ C.length) : SmallL (entsS C n) := by
  intro e he
  obtain ⟨i, hi⟩ := List.mem_iff_getElem?.1 he
  have hlt : i < n := by
    have := (List.getElem?_eq_some_iff.1 hi).1
    rw [entsS_len] at this
    exact this
  rw [entsS_get _ _ _ hlt] at hi
  obtain rfl := Option.some.inj hi
  have hc : C[i]? = some C[i] := List.getElem?_eq_getElem (by omega)
  rw [getD_ofC hc]
  exact small_entS (smallC_take hC i) (hC _ (List.mem_of_getElem? hc))
set_option maxHeartbeats 6400000 in
set_option maxRecDepth 8000 in
theorem entriesOf_spec (C : List Card) (n g cap : Nat) (w : World) (hn : n = C.length) (hm : n ≤ 1048576) (hcap : n ≤ cap) (hg : g < w.heap.size) (hsm : SmallC C) (hwf : ∀ c ∈ C, c.wf) (h1 : RowC w g C) :
    Calls Tryz.prog 49 #[.slice (some ⟨g, 0, none⟩) n cap] w fun e w' => ∃ v, e = .returned (.tuple #[v, .bool (okS C)]) ∧ OwnE w' w.heap.size v (entriesv C) ∧ Below w.heap.size w w' := by
  obtain ⟨i0, hi0, hz0, hz1, hz2⟩ := info_parts Tryz.infoE
  have H1 := Lib.hid h1
  have HG : Hid (∀ i, i < n → ∃ c, C[i]? = some c ∧ c.wf) := Lib.hid (fun i hi => by obtain ⟨c, hc⟩ := getC' (L := C) (i := i) (by omega); exact ⟨c, hc, hwf c (List.mem_of_getElem? hc)⟩)
  have HS : Hid (∀ i c, C[i]? = some c → entsS C (i + 1) = entsS C i ++ [entS (C.take i) c]) := Lib.hid (fun i c hc => by rw [entsS, getD_ofC hc])
  have HE := Lib.hid (fun (i : Nat) (hi : i ≤ n) (ino mo u1 gi cn t : Int) (p d : ByteArray) (hm0 : -9223372036854775808 ≤ mo) (hm1 : mo ≤ 9223372036854775807) w (hg : g < w.heap.size) (h : RowC w g C) => entry_spec (C.take i) ino mo u1 gi cn t p d i g cap w (by simp; omega) (by omega) hg hm0 hm1 (h.take i))
  have HLn := Lib.hid (fun i => entsS_len C i)
  have HK := Lib.hid (fun g2 c2 w (hc : n ≤ c2) (hg : g2 < w.heap.size) (h : RowE w g2 (entsS C n)) => listOk_spec (entsS C n) n g2 c2 w (entsS_len C n).symm (by omega) hc hg (small_entsS hsm n (by omega)) h)
  have HQ := Lib.hid (fun g2 c2 w (hc : n ≤ c2) (hg : g2 < w.heap.size) (h : RowE w g2 (entsS C n)) => cardsOf_spec (entsS C n) n g2 c2 w (entsS_len C n).symm (by omega) hc hg (small_entsS hsm n (by omega)) h)
  have hql : (cardsv (entsS C n)).length ≤ n := by have := cardsv_le (entsS C n); rw [entsS_len] at this; exact this
  have HM := Lib.hid (fun M (m g2 c2 : Nat) w (hM : m = M.length) (hl : m ≤ 4194304) (hg2 : g2 < w.heap.size) (hg : g < w.heap.size) (h2 : RowC w g2 M) (h : RowC w g C) => same_specC M C m g2 c2 n g cap w hM hn hl (by omega) hg2 hg h2 h)
  have HO : Hid (okS C = (listOkv (entsS C n) && decide (cardsv (entsS C n) = C))) := Lib.hid (by rw [hn]; rfl)
  have HV : Hid (entriesv C = if okS C then entsS C n else []) := Lib.hid (by rw [hn]; rfl)
  have HZ : Hid (entsS C 0 = []) := Lib.hid rfl
  generalize okS C = ok at HO HV
  generalize entriesv C = r at HV
  clear h1 hn hsm hwf
  go_enter Tryz.func49, Tryz.ntmps49
  go_wp2_with fail
  go_loopw [4, 5] (fun v u wr => ∃ i : Nat, u = .int .i64 i ∧ i ≤ n ∧ OwnE wr w.heap.size v (entsS C i) ∧ Below w.heap.size w wr) (fun _ u _ => n - (intOf u).toNat)
  case atStart => exact ⟨0, rfl, Nat.zero_le _, by rw [HZ.out]; exact OwnE.lit (Nat.le_refl _), (Below.refl _ _).alloc (Nat.le_refl _) _⟩
  case round =>
    obtain ⟨i, rfl, hi, ho, hb⟩ := hrel
    obtain ⟨w5, hw5⟩ : ∃ wo, wo = wr := ⟨_, rfl⟩
    subst hw5
    have O := Lib.hid ho
    have B := Lib.hid hb
    have hszB := B.out.size
    have R := Lib.hid (H1.out.below B.out hg)
    have zg5 : g < w5.heap.size := by omega
    clear ho hb
    by_cases hlt : i < n
    · have hlt2 : (i : Int) < (n : Int) := by omega
      obtain ⟨c, hc, hcw⟩ := HG.out i hlt
      have HS2 := Lib.hid (HS.out i c hc)
      have HL2 := HLn.out i
      have hcols := Lib.hid (fun w' (hb : Below w5.heap.size w5 w') => (R.out.below hb zg5).cols hc)
      clear hc HS
      obtain ⟨go, co, rfl, _, zo, hbo, _, _⟩ := O.out.open
      obtain ⟨D, hD⟩ : ∃ D, entsS C i = D := ⟨_, rfl⟩
      rw [hD] at HS2 O HL2 ⊢
      have hDl : D.length ≤ 1048576 := by omega
      clear hD HL2
      obtain ⟨ino, mo, u1, gi, cn, t, p, d⟩ := c
      obtain ⟨_, ⟨hm0, hm1⟩, _⟩ := hcw
      simp only at hm0 hm1
      have HE2 := Lib.hid (fun w' (hb : Below w5.heap.size w5 w') => HE.out i hi ino mo u1 gi cn t p d hm0 hm1 w' (Nat.lt_of_lt_of_le zg5 hb.size) (R.out.below hb zg5))
      generalize entS (C.take i) ⟨ino, mo, u1, gi, cn, t, p, d⟩ = f at HS2 HE2
      obtain ⟨ek, ep, el, em, eu, eg, et, es, er, eb⟩ := f
      simp only [Ent.cells] at HE2
      have KC : Hid (∀ w', Below w5.heap.size w5 w' → w'.cell? ⟨g, i * 8, none⟩ = some (.int .i64 ino) ∧ w'.cell? ⟨g, i * 8 + 1, none⟩ = some (.int .i64 mo) ∧ w'.cell? ⟨g, i * 8 + 2, none⟩ = some (.int .i64 u1) ∧ w'.cell? ⟨g, i * 8 + 3, none⟩ = some (.int .i64 gi) ∧ w'.cell? ⟨g, i * 8 + 4, none⟩ = some (.int .i64 cn) ∧ w'.cell? ⟨g, i * 8 + 5, none⟩ = some (.int .i64 t) ∧ w'.cell? ⟨g, i * 8 + 6, none⟩ = some (.string p) ∧ w'.cell? ⟨g, i * 8 + 7, none⟩ = some (.string d)) := Lib.hid (fun w' hb => hcols.out w' hb)
      have hic : i ≤ cap := by omega
      have hic2 : (i : Int) ≤ (cap : Int) := by omega
      clear hcols HE HG
      go_upto_region 5 with fail
      refine wp_region_cut 10 (by kernel_rfl) (fun w' => Below w5.heap.size w5 w') (fun x y => Below x.heap.size x y) (vSlG 22 41 w5.heap.size #[.int .i64 ek, .string ep, .string el, .int .i64 em, .int .i64 eu, .int .i64 eg, .int .i64 et, .string es, .string er, .string eb] (fun dq vq => match dq with | 13 => vq = .slice (some ⟨go, 0, none⟩) D.length co | 14 => vq = .slice (some ⟨g, 0, none⟩) n cap | 15 => vq = .int .i64 (i : Int) | 16 => vq = .slice (some ⟨g, 0, none⟩) i cap | 17 => vq = .slice (some ⟨g, 0, none⟩) n cap | 18 => vq = .int .i64 (i : Int) | 19 => vq = .pointer (some ⟨g, i * 8, none⟩) | 20 => vq = .agg #[.int .i64 ino, .int .i64 mo, .int .i64 u1, .int .i64 gi, .int .i64 cn, .int .i64 t, .string p, .string d] | 21 => vq = .agg #[.int .i64 ek, .string ep, .string el, .int .i64 em, .int .i64 eu, .int .i64 eg, .int .i64 et, .string es, .string er, .string eb] | _ => True)) (by kernel_rfl) (by kernel_rfl) ((Below.refl _ _).drew) (vSlG_keep _ _ _ _ _) (by simp) ?hops ?hend
      case hops =>
        simp only [List.take_succ_cons, List.take_zero, List.forall_mem_cons]
        refine ⟨?o13, ?o14, ?o15, ?o16, ?o17, ?o18, ?o19, ?o20, ?o21, ?o22, fun _ h => by cases h⟩
        case o13 =>
          intro Q a w2 hC hV hI
          have e4 : a.eval (.tmp 4) = .slice (some ⟨go, 0, none⟩) D.length co := (hI 4 (by simp [Op.operands]) (by kernel_rfl)).trans rfl
          have f4 : a.tmps.getD 4 undef = .slice (some ⟨go, 0, none⟩) D.length co := e4
          have g4 : a.tmps[4]?.getD undef = .slice (some ⟨go, 0, none⟩) D.length co := by rw [← Array.getD_eq_getD_getElem?]; exact e4
          refine op_val (.slice (some ⟨go, 0, none⟩) D.length co) ?_ hC (Below.refl _ _) (by intro d hd; cases hd; exact rfl)
          (clear hV hI hC; go_simp <;> (first | rfl | simp | (rw [IntKind.wrap_i64]; omega)))
        case o14 =>
          intro Q a w2 hC hV hI
          have e0 : a.eval (.tmp 0) = .slice (some ⟨g, 0, none⟩) n cap := (hI 0 (by simp [Op.operands]) (by kernel_rfl)).trans rfl
          have f0 : a.tmps.getD 0 undef = .slice (some ⟨g, 0, none⟩) n cap := e0
          have g0 : a.tmps[0]?.getD undef = .slice (some ⟨g, 0, none⟩) n cap := by rw [← Array.getD_eq_getD_getElem?]; exact e0
          refine op_val (.slice (some ⟨g, 0, none⟩) n cap) ?_ hC (Below.refl _ _) (by intro d hd; cases hd; exact rfl)
          (clear hV hI hC; go_simp <;> (first | rfl | simp | (rw [IntKind.wrap_i64]; omega)))
        case o15 =>
          intro Q a w2 hC hV hI
          have e5 : a.eval (.tmp 5) = .int .i64 (i : Int) := (hI 5 (by simp [Op.operands]) (by kernel_rfl)).trans rfl
          have f5 : a.tmps.getD 5 undef = .int .i64 (i : Int) := e5
          have g5 : a.tmps[5]?.getD undef = .int .i64 (i : Int) := by rw [← Array.getD_eq_getD_getElem?]; exact e5
          refine op_val (.int .i64 (i : Int)) ?_ hC (Below.refl _ _) (by intro d hd; cases hd; exact rfl)
          (clear hV hI hC; go_simp <;> (first | rfl | simp | (rw [IntKind.wrap_i64]; omega)))
        case o16 =>
          intro Q a w2 hC hV hI
          have e14 : a.eval (.tmp 14) = .slice (some ⟨g, 0, none⟩) n cap := hV 14 (by simp [Op.operands]) (by kernel_rfl)
          have f14 : a.tmps.getD 14 undef = .slice (some ⟨g, 0, none⟩) n cap := e14
          have g14 : a.tmps[14]?.getD undef = .slice (some ⟨g, 0, none⟩) n cap := by rw [← Array.getD_eq_getD_getElem?]; exact e14
          have e15 : a.eval (.tmp 15) = .int .i64 (i : Int) := hV 15 (by simp [Op.operands]) (by kernel_rfl)
          have f15 : a.tmps.getD 15 undef = .int .i64 (i : Int) := e15
          have g15 : a.tmps[15]?.getD undef = .int .i64 (i : Int) := by rw [← Array.getD_eq_getD_getElem?]; exact e15
          refine op_val (.slice (some ⟨g, 0, none⟩) i cap) ?_ hC (Below.refl _ _) (by intro d hd; cases hd; exact rfl)
          (clear hV hI hC; go_simp <;> (first | rfl | simp | (rw [IntKind.wrap_i64]; omega)))
        case o17 =>
          intro Q a w2 hC hV hI
          have e0 : a.eval (.tmp 0) = .slice (some ⟨g, 0, none⟩) n cap := (hI 0 (by simp [Op.operands]) (by kernel_rfl)).trans rfl
          have f0 : a.tmps.getD 0 undef = .slice (some ⟨g, 0, none⟩) n cap := e0
          have g0 : a.tmps[0]?.getD undef = .slice (some ⟨g, 0, none⟩) n cap := by rw [← Array.getD_eq_getD_getElem?]; exact e0
          refine op_val (.slice (some ⟨g, 0, none⟩) n cap) ?_ hC (Below.refl _ _) (by intro d hd; cases hd; exact rfl)
          (clear hV hI hC; go_simp <;> (first | rfl | simp | (rw [IntKind.wrap_i64]; omega)))
        case o18 =>
          intro Q a w2 hC hV hI
          have e5 : a.eval (.tmp 5) = .int .i64 (i : Int) := (hI 5 (by simp [Op.operands]) (by kernel_rfl)).trans rfl
          have f5 : a.tmps.getD 5 undef = .int .i64 (i : Int) := e5
          have g5 : a.tmps[5]?.getD undef = .int .i64 (i : Int) := by rw [← Array.getD_eq_getD_getElem?]; exact e5
          refine op_val (.int .i64 (i : Int)) ?_ hC (Below.refl _ _) (by intro d hd; cases hd; exact rfl)
          (clear hV hI hC; go_simp <;> (first | rfl | simp | (rw [IntKind.wrap_i64]; omega)))
        case o19 =>
          intro Q a w2 hC hV hI
          have e17 : a.eval (.tmp 17) = .slice (some ⟨g, 0, none⟩) n cap := hV 17 (by simp [Op.operands]) (by kernel_rfl)
          have f17 : a.tmps.getD 17 undef = .slice (some ⟨g, 0, none⟩) n cap := e17
          have g17 : a.tmps[17]?.getD undef = .slice (some ⟨g, 0, none⟩) n cap := by rw [← Array.getD_eq_getD_getElem?]; exact e17
          have e18 : a.eval (.tmp 18) = .int .i64 (i : Int) := hV 18 (by simp [Op.operands]) (by kernel_rfl)
          have f18 : a.tmps.getD 18 undef = .int .i64 (i : Int) := e18
          have g18 : a.tmps[18]?.getD undef = .int .i64 (i : Int) := by rw [← Array.getD_eq_getD_getElem?]; exact e18
          refine op_val (.pointer (some ⟨g, i * 8, none⟩)) ?_ hC (Below.refl _ _) (by intro d hd; cases hd; exact rfl)
          (clear hV hI hC; go_simp <;> (first | rfl | simp | (rw [IntKind.wrap_i64]; omega)))
        case o20 =>
          intro Q a w2 hC hV hI
          have e19 : a.eval (.tmp 19) = .pointer (some ⟨g, i * 8, none⟩) := hV 19 (by simp [Op.operands]) (by kernel_rfl)
          have f19 : a.tmps.getD 19 undef = .pointer (some ⟨g, i * 8, none⟩) := e19
          have g19 : a.tmps[19]?.getD undef = .pointer (some ⟨g, i * 8, none⟩) := by rw [← Array.getD_eq_getD_getElem?]; exact e19
          have hK := KC.out w2 hC
          refine op_val (.agg #[.int .i64 ino, .int .i64 mo, .int .i64 u1, .int .i64 gi, .int .i64 cn, .int .i64 t, .string p, .string d]) ?_ hC (Below.refl _ _) (by intro d hd; cases hd; exact rfl)
          (clear hV hI hC; go_simp <;> (first | rfl | simp | (rw [IntKind.wrap_i64]; omega)))
        case o21 =>
          intro Q a w2 hC hV hI
          have e16 : a.eval (.tmp 16) = .slice (some ⟨g, 0, none⟩) i cap := hV 16 (by simp [Op.operands, Call.operands]) (by kernel_rfl)
          have f16 : a.tmps.getD 16 undef = .slice (some ⟨g, 0, none⟩) i cap := e16
          have g16 : a.tmps[16]?.getD undef = .slice (some ⟨g, 0, none⟩) i cap := by rw [← Array.getD_eq_getD_getElem?]; exact e16
          have e20 : a.eval (.tmp 20) = .agg #[.int .i64 ino, .int .i64 mo, .int .i64 u1, .int .i64 gi, .int .i64 cn, .int .i64 t, .string p, .string d] := hV 20 (by simp [Op.operands, Call.operands]) (by kernel_rfl)
          have f20 : a.tmps.getD 20 undef = .agg #[.int .i64 ino, .int .i64 mo, .int .i64 u1, .int .i64 gi, .int .i64 cn, .int .i64 t, .string p, .string d] := e20
          have g20 : a.tmps[20]?.getD undef = .agg #[.int .i64 ino, .int .i64 mo, .int .i64 u1, .int .i64 gi, .int .i64 cn, .int .i64 t, .string p, .string d] := by rw [← Array.getD_eq_getD_getElem?]; exact e20
          refine op_call (f := 72) (args := #[.slice (some ⟨g, 0, none⟩) i cap, .agg #[.int .i64 ino, .int .i64 mo, .int .i64 u1, .int .i64 gi, .int .i64 cn, .int .i64 t, .string p, .string d]]) (R := fun v y => v = .agg #[.int .i64 ek, .string ep, .string el, .int .i64 em, .int .i64 eu, .int .i64 eg, .int .i64 et, .string es, .string er, .string eb] ∧ Below w2.heap.size w2 y) ?_ ((HE2.out w2 hC).mono ?_) ?_
          · (clear hV hI hC; go_simp <;> (first | rfl | simp | (rw [IntKind.wrap_i64]; omega)))
          · rintro e y ⟨rfl, hb⟩; exact ⟨_, rfl, rfl, hb⟩
          · rintro v y ⟨rfl, hb⟩; exact ⟨hC.trans (hb.mono hC.size), hb, by intro d hd; cases hd; exact rfl⟩
        case o22 =>
          intro Q a w2 hC hV hI
          have e21 : a.eval (.tmp 21) = .agg #[.int .i64 ek, .string ep, .string el, .int .i64 em, .int .i64 eu, .int .i64 eg, .int .i64 et, .string es, .string er, .string eb] := hV 21 (by simp [Op.operands]) (by kernel_rfl)
          have f21 : a.tmps.getD 21 undef = .agg #[.int .i64 ek, .string ep, .string el, .int .i64 em, .int .i64 eu, .int .i64 eg, .int .i64 et, .string es, .string er, .string eb] := e21
          have g21 : a.tmps[21]?.getD undef = .agg #[.int .i64 ek, .string ep, .string el, .int .i64 em, .int .i64 eu, .int .i64 eg, .int .i64 et, .string es, .string er, .string eb] := by rw [← Array.getD_eq_getD_getElem?]; exact e21
          refine op_val (.slice (some ⟨w2.heap.size, 0, none⟩) 1 1) (w' := w2.alloc (.cells #[.int .i64 ek, .string ep, .string el, .int .i64 em, .int .i64 eu, .int .i64 eg, .int .i64 et, .string es, .string er, .string eb] 41)) ?_ (hC.alloc hC.size _) ((Below.refl _ _).alloc (Nat.le_refl _) _) ?_
          · (clear hV hI hC; go_simp <;> (first | rfl | simp | (rw [IntKind.wrap_i64]; omega)))
          · intro d hd; cases hd; exact ⟨w2.heap.size, rfl, hC.size, heap_lastG _ _⟩
      case hend =>
        intro f w6 hC hall
        simp only [List.take_succ_cons, List.take_zero, List.drop_succ_cons, List.drop_zero] at hall ⊢
        simp only [List.forall_mem_cons] at hall
        obtain ⟨h13, h14, h15, h16, h17, h18, h19, h20, h21, h22, _⟩ := hall
        replace h13 : f 13 = .slice (some ⟨go, 0, none⟩) D.length co := h13 13 rfl
        replace h14 : f 14 = .slice (some ⟨g, 0, none⟩) n cap := h14 14 rfl
        replace h15 : f 15 = .int .i64 (i : Int) := h15 15 rfl
        replace h16 : f 16 = .slice (some ⟨g, 0, none⟩) i cap := h16 16 rfl
        replace h17 : f 17 = .slice (some ⟨g, 0, none⟩) n cap := h17 17 rfl
        replace h18 : f 18 = .int .i64 (i : Int) := h18 18 rfl
        replace h19 : f 19 = .pointer (some ⟨g, i * 8, none⟩) := h19 19 rfl
        replace h20 : f 20 = .agg #[.int .i64 ino, .int .i64 mo, .int .i64 u1, .int .i64 gi, .int .i64 cn, .int .i64 t, .string p, .string d] := h20 20 rfl
        replace h21 : f 21 = .agg #[.int .i64 ek, .string ep, .string el, .int .i64 em, .int .i64 eu, .int .i64 eg, .int .i64 et, .string es, .string er, .string eb] := h21 21 rfl
        obtain ⟨G22, hG22, hGB22, hGO22⟩ : ∃ G, f 22 = .slice (some ⟨G, 0, none⟩) 1 1 ∧ w5.heap.size ≤ G ∧ w6.heap[G]? = some (.cells #[.int .i64 ek, .string ep, .string el, .int .i64 em, .int .i64 eu, .int .i64 eg, .int .i64 et, .string es, .string er, .string eb] 41 (0, 0)) := h22 22 rfl
        simp only [putAll, Act.put, List.setIfInBounds_toArray, List.set_cons_succ, List.set_cons_zero, h13, h14, h15, h16, h17, h18, h19, h20, h21, hG22]
        clear h13 h14 h15 h16 h17 h18 h19 h20 h21 hG22 h22
        clear KC HE2 R
        replace O := Lib.hid (O.out.keep hC)
        replace B := Lib.hid (btE B.out hC)
        have OW := Lib.hid O.out.1
        have hsz6 := B.out.size
        go_wp2_with (at_builtin; refine wpList_append_own _ rfl _ _ 26 rfl w.heap.size 41 i0 (.agg #[.int .i64 0, .string ⟨#[]⟩, .string ⟨#[]⟩, .int .i64 0, .int .i64 0, .int .i64 0, .int .i64 0, .string ⟨#[]⟩, .string ⟨#[]⟩, .string ⟨#[]⟩]) 10 120 Tryz.underlying26 hi0 hz0 hz1 hz2 rfl (by decide) _ D.length (entVals D) rfl ?c0q ⟨G22, 0, none⟩ 1 1 (entVals [⟨ek, ep, el, em, eu, eg, et, es, er, eb⟩]) rfl (entVals_len _) ?c1q ?c2q ?c3q ?c4q ?c5q ?_)
        case c0q => exact OW.out
        case c1q => exact row_ent hGO22
        case c2q => exact entVals_onecell _
        any_goals (first | (simp only [maxLen]; omega) | omega | (simp; omega))
        intro v' w7 hown hgrow hnil
        have O7 : Hid (OwnE w7 w.heap.size v' (entsS C (i + 1))) := Lib.hid (by rw [HS2.out]; exact ownE_app hown rfl rfl hnil)
        have B7 : Hid (Below w.heap.size w w7) := Lib.hid (B.out.grown hgrow B.out.size (fun b hb => (World.ownsRow.lt OW.out b hb).1))
        clear hown hgrow hnil O B OW hC
        go_wp2_with fail
        go_roundw
        case rel => exact ⟨i + 1, by go_num, by omega, O7.out, B7.out⟩
        case measure => simp [intOf]; omega
    · obtain rfl : i = n := by omega
      have hlt2 : ¬ (i : Int) < (i : Int) := by omega
      have HLi := HLn.out i
      obtain ⟨go, co, rfl, hro, zo, hbo, hcap2, _⟩ := O.out.open
      rw [HLi] at hcap2
      have RO := Lib.hid hro
      have HKi := Lib.hid (fun w hg h => HK.out go co w hcap2 hg h)
      have HQi := Lib.hid (fun w hg h => HQ.out go co w hcap2 hg h)
      generalize entsS C i = D at *
      subst HLi
      clear hro HK HQ HS HE HG HZ HLn
      generalize listOkv D = b1 at HKi HO
      go_wp2_with fail
      refine (HKi.out _ zo RO.out).mono ?_
      rintro e w6 ⟨rfl, hb⟩
      replace O := Lib.hid (O.out.keep hb)
      replace RO := Lib.hid (RO.out.below hb zo)
      replace R := Lib.hid (R.out.below hb zg5)
      replace B := Lib.hid (btE B.out hb)
      replace zo := Nat.lt_of_lt_of_le zo hb.size
      have zg6 := Nat.lt_of_lt_of_le zg5 hb.size
      clear hb
      cases b1 with
      | false =>
        have HF : Hid (ok = false) := Lib.hid (by rw [HO.out]; rfl)
        have HF2 : Hid (r = []) := Lib.hid (by rw [HV.out, HF.out]; rfl)
        go_wp2_with fail
        go_ret2
        exact ⟨_, by rw [HF.out]; rfl, by rw [HF2.out]; exact OwnE.lit B.out.size, B.out.alloc B.out.size _⟩
      | true =>
        generalize cardsv D = Q at HQi HO hql
        go_wp2_with fail
        refine (HQi.out _ zo RO.out).mono ?_
        rintro e w7 ⟨v, rfl, hq, hb⟩
        obtain ⟨gq, cq, rfl, hrq, zq, _, _⟩ := hq.open
        have RQ := Lib.hid hrq
        replace O := Lib.hid (O.out.keep hb)
        replace R := Lib.hid (R.out.below hb zg6)
        replace B := Lib.hid (btE B.out hb)
        have zg7 := Nat.lt_of_lt_of_le zg6 hb.size
        clear hb hq hrq
        have HMi := Lib.hid (HM.out Q Q.length gq cq _ rfl (by omega) zq zg7 RQ.out R.out)
        clear HM
        generalize decide (Q = C) = b2 at HMi HO
        go_wp2_with fail
        refine HMi.out.mono ?_
        rintro e w8 ⟨rfl, hb⟩
        replace O := Lib.hid (O.out.keep hb)
        replace B := Lib.hid (btE B.out hb)
        clear hb
        cases b2 with
        | false =>
          have HF : Hid (ok = false) := Lib.hid (by rw [HO.out]; rfl)
          have HF2 : Hid (r = []) := Lib.hid (by rw [HV.out, HF.out]; rfl)
          go_wp2_with fail
          go_ret2
          exact ⟨_, by rw [HF.out]; rfl, by rw [HF2.out]; exact OwnE.lit B.out.size, B.out.alloc B.out.size _⟩
        | true =>
          have HF : Hid (ok = true) := Lib.hid (by rw [HO.out]; rfl)
          have HF2 : Hid (r = D) := Lib.hid (by rw [HV.out, HF.out]; rfl)
          go_wp2_with fail
          go_ret2
          exact ⟨_, by rw [HF.out]; rfl, by rw [HF2.out]; exact O.out, B.out⟩
end Go.Proofs.YtancidbbkoeokaaGreat

/- What reading cards one after another comes to: plain mathematics. -/
namespace Go.Proofs.YtancidbbkoeokaaGreat
open Go.ChangeShapes Go.WideShapes Go.ChangeAt Go.RowKit Go.Deep

abbrev Rdr := Nat → Card × Int × Int
def isTr (p : ByteArray) : Bool := p.toList == [84, 82, 65, 73, 76, 69, 82, 33, 33, 33]
/-- The code and the cards where z bytes are read by R from p on, Q read before. -/
def outc (R : Rdr) (z : Nat) : Nat → List Card → Nat → Int × List Card
  | 0, _, _ => (5, [])
  | f + 1, Q, p => if ¬ p < z then (5, []) else if ¬ (R p).2.2 = 0 then ((R p).2.2, []) else if isTr (R p).1.Path = true then (if (R p).2.1 = (z : Int) then (0, Q) else (5, [])) else outc R z f (Q ++ [(R p).1]) (R p).2.1.toNat
/-- A reader that goes on by h bytes or more. -/
def GoodR (R : Rdr) (z h : Nat) : Prop := ∀ p, (R p).2.2 = 0 → ((p : Int) + h ≤ (R p).2.1 ∧ (R p).2.1 ≤ z) ∧ szC (R p).1 ≤ z ∧ (R p).1.wf
def StR (R : Rdr) (z h : Nat) (O : Int × List Card) (Q : List Card) (p : Nat) : Prop :=
  (∃ f, z < p + f ∧ outc R z f Q p = O) ∧ Q.length * h ≤ p ∧ (∀ c ∈ Q, szC c ≤ z ∧ c.wf) ∧ p ≤ z
section
variable {R : Rdr} {z h : Nat} {O : Int × List Card} {Q : List Card} {p : Nat}
theorem StR.start (R : Rdr) (z h : Nat) : StR R z h (outc R z (z + 1) [] 0) [] 0 := ⟨⟨z + 1, by omega, rfl⟩, by simp, fun c hc => (by cases hc), by omega⟩
theorem StR.fuel (s : StR R z h O Q p) : ∃ f, z < p + (f + 1) ∧ outc R z (f + 1) Q p = O := by
  obtain ⟨⟨f, hf, ho⟩, _, _, hp⟩ := s
  cases f with
  | zero => omega
  | succ f => exact ⟨f, hf, ho⟩
theorem StR.over (s : StR R z h O Q p) (hp : ¬ p < z) : O = (5, []) := by
  obtain ⟨f, _, ho⟩ := s.fuel
  rw [outc, if_pos hp] at ho
  exact ho.symm
theorem StR.code (s : StR R z h O Q p) (hp : p < z) (hc : ¬ (R p).2.2 = 0) : O = ((R p).2.2, []) := by
  obtain ⟨f, _, ho⟩ := s.fuel
  rw [outc, if_neg (by omega), if_pos hc] at ho
  exact ho.symm
theorem StR.more (s : StR R z h O Q p) (hp : p < z) (hc : (R p).2.2 = 0) (ht : isTr (R p).1.Path = true) (hn : ¬ (R p).2.1 = (z : Int)) : O = (5, []) := by
  obtain ⟨f, _, ho⟩ := s.fuel
  rw [outc, if_neg (by omega), if_neg (by omega), if_pos ht, if_neg hn] at ho
  exact ho.symm
theorem StR.last (s : StR R z h O Q p) (g : GoodR R z h) (hp : p < z) (hc : (R p).2.2 = 0) (ht : isTr (R p).1.Path = true) (hn : (R p).2.1 = (z : Int)) : O = (0, Q) ∧ Q.length * h + h ≤ z ∧ (∀ c ∈ Q, szC c ≤ z ∧ c.wf) := by
  obtain ⟨f, _, ho⟩ := s.fuel
  rw [outc, if_neg (by omega), if_neg (by omega), if_pos ht, if_pos hn] at ho
  have h1 := (g p hc).1.1
  have h2 := s.2.1
  exact ⟨ho.symm, by omega, s.2.2.1⟩
theorem StR.step (s : StR R z h O Q p) (g : GoodR R z h) (hh : 0 < h) (hp : p < z) (hc : (R p).2.2 = 0) (ht : isTr (R p).1.Path = false) : ∃ q : Nat, (R p).2.1 = (q : Int) ∧ p + h ≤ q ∧ StR R z h O (Q ++ [(R p).1]) q := by
  obtain ⟨f, hf, ho⟩ := s.fuel
  rw [outc, if_neg (by omega), if_neg (by omega), if_neg (by simp [ht])] at ho
  obtain ⟨⟨h1, h2⟩, h3, h4⟩ := g p hc
  obtain ⟨q, hq⟩ := Int.eq_ofNat_of_zero_le (show 0 ≤ (R p).2.1 by omega)
  refine ⟨q, hq, by omega, ⟨f, by omega, ?_⟩, ?_, ?_, by omega⟩
  · rw [hq, Int.toNat_natCast] at ho
    exact ho
  · have h5 := s.2.1
    rw [List.length_append, List.length_singleton, Nat.add_mul, Nat.one_mul]
    omega
  · intro c hcm
    rcases List.mem_append.1 hcm with hm | hm
    · exact s.2.2.1 c hm
    · rw [List.mem_singleton] at hm
      subst hm
      exact ⟨h3, h4⟩
end
/-- A row of cards of the call's own, perhaps nil. -/
def OwnNC (w : World) (base : Nat) (v : Value) (L : List Card) : Prop := w.ownsRow base 44 8 v L.length (valsC L)
theorem OwnNC.nil (w : World) (base : Nat) : OwnNC w base (.slice none 0 0) [] := ⟨rfl, .inl ⟨rfl, rfl⟩⟩
theorem OwnNC.cases {w : World} {base : Nat} {v : Value} {L : List Card} (h : OwnNC w base v L) : (v = .slice none 0 0 ∧ L = []) ∨ OwnC w base v L := by
  rcases h.2 with ⟨rfl, hn⟩ | ⟨g, cap, cur, rfl, _⟩
  · exact .inl ⟨rfl, List.eq_nil_of_length_eq_zero hn⟩
  · exact .inr ⟨h, g, cap, rfl⟩
theorem OwnNC.block {w : World} {base : Nat} {v : Value} {L : List Card} (h : OwnNC w base v L) : ∀ b, v.ownBlock = some b → base ≤ b := by
  intro b hb
  rcases h.2 with ⟨rfl, _⟩ | ⟨g, cap, cur, rfl, hg, _⟩
  · simp [Value.ownBlock] at hb
  · simp only [Value.ownBlock, Option.some.injEq] at hb; omega
theorem ownNC_app {w1 : World} {base : Nat} {v' : Value} {D M : List Card} {n m : Nat} (h : w1.ownsRow base 44 8 v' (n + m) (valsC D ++ valsC M)) (hn : n = D.length) (hm : m = M.length) : OwnNC w1 base v' (D ++ M) := by
  subst hn; subst hm
  rw [← valsC_app, show D.length + M.length = (D ++ M).length from by simp] at h
  exact h
theorem OwnNC.below {w w' : World} {base : Nat} {v : Value} {L : List Card} (h : OwnNC w base v L) (hb : Below w.heap.size w w') : OwnNC w' base v L :=
  World.ownsRow.kept h (row := none) ⟨hb.os, hb.tape, hb.output, hb.size, fun k hk _ => hb.block k hk⟩ (by cases hv : v.ownBlock <;> simp)
end Go.Proofs.YtancidbbkoeokaaGreat

/- Contract of strings.Clone: the same bytes. -/
namespace Go.Proofs.YtancidbbkoeokaaGreat
open Go.ChangeShapes Go.WideShapes Go.ChangeAt Go.RowKit

theorem clone_any (s : ByteArray) (w : World) (hs : s.size ≤ 281474976710656) :
    Calls Tryz.prog 67 #[.string s] w fun e w' => e = .returned (.string s) ∧ Below w.heap.size w w' := by
  go_enter Tryz.func67, Tryz.ntmps67
  go_wp2_with (go_at_call 81; refine (Tryz.stringslite_Clone _ _ hs).mono ?_; rintro e w' ⟨rfl, hb⟩)
  go_ret
  exact ⟨rfl, hb⟩
end Go.Proofs.YtancidbbkoeokaaGreat

/- Contracts of spec.Cut, impl.Cut and the law laws.FnExactCut: the bytes before the first NUL. -/
namespace Go.Proofs.YtancidbbkoeokaaGreat
open Go.ChangeShapes Go.WideShapes Go.ChangeAt Go.RowKit

def nulFree (l : List UInt8) : List UInt8 := l.takeWhile (· != 0)
def cutv (s : ByteArray) : ByteArray := ⟨(nulFree s.data.toList).toArray⟩
def Nz (l : List UInt8) : Prop := ∀ c ∈ l, c ≠ 0

theorem nz_snoc {l : List UInt8} {c : UInt8} (h : Nz l) (hc : c ≠ 0) : Nz (l ++ [c]) := by
  intro d hd
  rcases List.mem_append.1 hd with hd | hd
  · exact h d hd
  · simp at hd; exact hd ▸ hc
theorem nulFree_append {a b : List UInt8} (h : Nz a) : nulFree (a ++ b) = a ++ nulFree b :=
  List.takeWhile_append_of_pos (by intro c hc; simpa using h c hc)
theorem nulFree_self {a : List UInt8} (h : Nz a) : nulFree a = a := by
  have := nulFree_append (a := a) (b := []) h
  simpa [nulFree] using this
theorem nulFree_at (l : List UInt8) (k : Nat) (hk : k < l.length) (h : Nz (l.take k)) (h0 : l[k] = 0) : nulFree l = l.take k := by
  have e : l = l.take k ++ (l[k] :: l.drop (k + 1)) := by simp
  have h1 : nulFree (l.take k ++ (l[k] :: l.drop (k + 1))) = l.take k := by
    rw [nulFree_append h, h0]; simp [nulFree]
  rw [← e] at h1
  exact h1
theorem nulFree_index (l : List UInt8) : (Lib.indexByte l 0 = -1 → nulFree l = l) ∧ (0 ≤ Lib.indexByte l 0 → nulFree l = l.take (Lib.indexByte l 0).toNat ∧ Lib.indexByte l 0 < l.length) := by
  induction l with
  | nil => simp [Lib.indexByte, nulFree]
  | cons c l ih =>
    by_cases hc : c = 0
    · subst hc; simp [Lib.indexByte, nulFree]
    · have hn : nulFree (c :: l) = c :: nulFree l := by simp [nulFree, hc]
      have hi : Lib.indexByte (c :: l) 0 = if Lib.indexByte l 0 == -1 then -1 else Lib.indexByte l 0 + 1 := by simp [Lib.indexByte, hc]
      have hge := Lib.indexByte_ge l 0
      rw [hn, hi]
      by_cases hm : Lib.indexByte l 0 = -1
      · simp [hm, ih.1 hm]
      · obtain ⟨h1, h2⟩ := ih.2 (by omega)
        have hb : (Lib.indexByte l 0 == -1) = false := by simp [hm]
        rw [hb]
        have e : (Lib.indexByte l 0 + 1).toNat = (Lib.indexByte l 0).toNat + 1 := by omega
        simp [e, h1]
        omega

theorem cut_spec (s : ByteArray) (w : World) (hs : s.size ≤ 9223372036854775807) :
    Calls Tryz.prog 47 #[.string s] w fun e w' => e = .returned (.string (cutv s)) ∧ w = w' := by
  go_enter Tryz.func47, Tryz.ntmps47
  go_wp2
  go_loop [3] (fun i => ∃ k : Nat, k ≤ s.size ∧ i = .int .i64 k ∧ Nz (s.data.toList.take k)) (fun i => s.size - (intOf i).toNat)
  case atStart => exact ⟨0, Nat.zero_le _, rfl, by intro c hc; simp at hc⟩
  case round =>
    obtain ⟨k, hk, rfl, hnz⟩ := hrel
    have HZ := Lib.hid hnz
    clear hnz
    by_cases hlt : k < s.size
    · by_cases hc : s[k] = 0
      · have hb : (((s[k].toNat : Nat) : Int) == 0) = true := by simp [hc]
        go_wp2
        go_ret
        refine ⟨ret_str (ba_ext ?_), rfl⟩
        rw [Lib.extract_data]
        have hl : k < s.data.toList.length := by simpa using hlt
        simp only [cutv, nulFree_at s.data.toList k hl HZ.out hc, List.drop_zero, Nat.sub_zero]
      · have hb : (((s[k].toNat : Nat) : Int) == 0) = false := byte_eq0 hc
        have HN := Lib.hid (show Nz (s.data.toList.take (k + 1)) by rw [take_snoc s k hlt]; exact nz_snoc HZ.out hc)
        clear hc
        go_wp2
        go_round
        case rel => exact ⟨k + 1, by omega, by go_num, HN.out⟩
        case measure => simp [intOf]; omega
    · go_wp2
      go_ret
      refine ⟨ret_str (ba_ext ?_), rfl⟩
      have e : s.data.toList.take k = s.data.toList := List.take_of_length_le (by simp; omega)
      have hz := HZ.out
      rw [e] at hz
      simp only [cutv, nulFree_self hz]


/-- strings.Cut at a NUL: what stands before it. -/
def CutPost (s : ByteArray) (w : World) (e : Ending) (w' : World) : Prop := ∃ r f, e = .returned (.tuple #[.string (cutv s), .string r, .bool f]) ∧ ∃ n, w' = w.drewN n

theorem lcut_any (s : ByteArray) (w : World) (hs : s.size ≤ 1099511627776) :
    Calls Tryz.prog 94 #[.string s, .string ⟨#[0]⟩] w (CutPost s w) := by
  have hi := nulFree_index s.data.toList
  have hge := Lib.indexByte_ge s.data.toList 0
  have hsz : s.data.toList.length = s.size := by simp
  by_cases hm : Lib.indexByte s.data.toList 0 = -1
  · have H1 := Lib.hid (hi.1 hm)
    have HM := Lib.hid hm
    have hlt : decide (0 ≤ Lib.indexByte s.data.toList 0) = false := by simp [hm]
    have hneg : Lib.indexByte s.data.toList 0 < 0 := by omega
    clear hi hm
    go_enter Tryz.func94, Tryz.ntmps94
    go_wp2_with (go_at_call 104; refine (Tryz.stringslite_Index_one _ _ _).mono ?_; rintro e w' ⟨rfl, rfl⟩)
    go_ret3
    refine ⟨⟨#[]⟩, false, ?_, 0, rfl⟩
    rw [show cutv s = s from ba_ext (by simp [cutv, H1.out])]
    rfl
  · obtain ⟨h1, h2⟩ := hi.2 (by omega)
    obtain ⟨k, hk⟩ := Int.eq_ofNat_of_zero_le (show 0 ≤ Lib.indexByte s.data.toList 0 by omega)
    rw [hk] at h1 h2
    simp only [Int.toNat_natCast] at h1
    have hks : k < s.size := by omega
    have hks1 : (k : Int) + 1 ≤ (s.size : Int) := by omega
    have e1 : IntKind.i64.wrap ((k : Int) + 1) = (k : Int) + 1 := IntWalk.i64_in _ (by omega)
    have e2 : (0 : Int) ≤ (k : Int) + 1 := by omega
    have e3 : ((k : Int) + 1).toNat = k + 1 := by omega
    have hks2 : (k : Int) ≤ (s.size : Int) := by omega
    have hks3 : k ≤ s.size := by omega
    have hks4 : k + 1 ≤ s.size := by omega
    have H1 := Lib.hid h1
    have hc := fun w => Tryz.stringslite_Index_one s 0 w
    rw [hk] at hc
    have HC := Lib.hid hc
    clear h1 h2 hi hm hge hk hc hsz
    go_enter Tryz.func94, Tryz.ntmps94
    go_wp2_with (go_at_call 104; refine (HC.out _).mono ?_; rintro e w' ⟨rfl, rfl⟩)
    go_quiet (fail)
    go_wp2
    go_ret3
    refine ⟨s.extract (k + 1) s.size, true, ?_, nq, rfl⟩
    rw [show cutv s = s.extract 0 k from ba_ext (by rw [Lib.extract_data]; simp [cutv, H1.out])]
    rfl

theorem scut_any (s : ByteArray) (w : World) (hs : s.size ≤ 1099511627776) :
    Calls Tryz.prog 80 #[.string s, .string ⟨#[0]⟩] w (CutPost s w) := by
  go_enter Tryz.func80, Tryz.ntmps80
  go_wp2_with (go_at_call 94; refine (lcut_any _ _ hs).mono ?_; rintro e w' ⟨r, f, rfl, n, rfl⟩)
  go_ret3
  exact ⟨r, f, rfl, n, rfl⟩

theorem cutv_le (s : ByteArray) : (cutv s).size ≤ s.size := by
  have h : (nulFree s.data.toList).length ≤ s.data.toList.length := by
    have := List.takeWhile_prefix (l := s.data.toList) (· != 0)
    exact this.length_le
  have e : (cutv s).size = (nulFree s.data.toList).length := by simp [cutv, ByteArray.size]
  rw [e]; simpa using h

theorem cut_impl (s : ByteArray) (w : World) (hs : s.size ≤ 1099511627776) :
    Calls Tryz.prog 66 #[.string s] w fun e w' => e = .returned (.string (cutv s)) ∧ Below w.heap.size w w' := by
  have hle := cutv_le s
  go_enter Tryz.func66, Tryz.ntmps66
  go_wp2_with fail
  refine (scut_any _ _ hs).mono ?_
  rintro e w' ⟨r, f, rfl, n, rfl⟩
  go_wp2_with fail
  refine (clone_any _ _ (by omega)).mono ?_
  rintro e w' ⟨rfl, hb⟩
  go_wp2_with fail
  go_ret
  exact ⟨rfl, (below_drewN (Below.refl _ _) n).trans hb⟩

end Go.Proofs.YtancidbbkoeokaaGreat

/- Contracts of impl.wordSize at both widths (they return 2 and 4), the world unchanged. -/
namespace Go.Proofs.YtancidbbkoeokaaGreat
open Go.ChangeShapes Go.WideShapes Go.ChangeAt Go.RowKit

set_option maxRecDepth 100000 in
theorem len32_16 (w : World) : Calls Tryz.prog 87 #[.int .u32 65535] w fun e w' => e = .returned (.int .i64 16) ∧ w = w' := by
  go_enter Tryz.func87, Tryz.ntmps87
  go_wp2
  go_ret
  exact ⟨by kernel_rfl, rfl⟩

set_option maxRecDepth 100000 in
theorem len32_32 (w : World) : Calls Tryz.prog 87 #[.int .u32 4294967295] w fun e w' => e = .returned (.int .i64 32) ∧ w = w' := by
  go_enter Tryz.func87, Tryz.ntmps87
  go_wp2
  go_ret
  exact ⟨by kernel_rfl, rfl⟩

theorem size16 (w : World) : Calls Tryz.prog 74 #[] w fun e w' => e = .returned (.int .i64 2) ∧ w = w' := by
  go_enter Tryz.func74, Tryz.ntmps74
  go_wp2_with (go_at_call 87; refine (len32_16 _).mono ?_; rintro e w' ⟨rfl, rfl⟩)
  go_ret
  exact ⟨rfl, rfl⟩

theorem size32 (w : World) : Calls Tryz.prog 142 #[] w fun e w' => e = .returned (.int .i64 4) ∧ w = w' := by
  go_enter Tryz.func142, Tryz.ntmps142
  go_wp2_with (go_at_call 87; refine (len32_32 _).mono ?_; rintro e w' ⟨rfl, rfl⟩)
  go_ret
  exact ⟨rfl, rfl⟩
end Go.Proofs.YtancidbbkoeokaaGreat

/- Contracts of spec.Put16, impl.putWord[uint16], impl.Put16 and the law laws.FnExactPut16: for every int and both byte orders. -/
namespace Go.Proofs.YtancidbbkoeokaaGreat
open Go.ChangeShapes Go.WideShapes Go.ChangeAt Go.RowKit

theorem i64_and65535 (n : Int) : bits .and .i64 n 65535 = n % 65536 := by
  have h : (BitVec.ofInt 64 65535).toNat = 2 ^ 16 - 1 := by decide
  have key : (BitVec.ofInt 64 n &&& BitVec.ofInt 64 65535).toNat = (n % ((2 ^ 64 : Nat) : Int)).toNat % 2 ^ 16 := by
    rw [BitVec.toNat_and, BitVec.toNat_ofInt, h, Nat.and_two_pow_sub_one_eq_mod]
  show IntKind.i64.wrap ((BitVec.ofInt 64 n &&& BitVec.ofInt 64 65535).toNat : Nat) = n % 65536
  rw [key, IntKind.wrap_i64]
  omega

def put16l (n : Int) (high : Bool) : List Int := if high then [n / 256 % 256, n % 256] else [n % 256, n / 256 % 256]
def put16v (n : Int) (high : Bool) : ByteArray := strOfNums (put16l n high)

theorem conv2 (w : World) (x y : Int) : (convert 66 9 (.slice (some ⟨w.heap.size, 0, none⟩) 2 2)).run Tryz.prog (w.alloc (.cells #[.int .u8 x, .int .u8 y] 5)) = .ok (.string (strOfNums [x, y])) (w.alloc (.cells #[.int .u8 x, .int .u8 y] 5)) :=
  run_convert_bytes_arg _ 66 5 Tryz.underlying66 Tryz.underlying5 w.heap.size 0 2 2 [x, y] rfl (fun i hi => by
    match i, hi with
    | 0, _ => simp
    | 1, _ => simp) 9 Tryz.underlying9
theorem conv2b (w : World) (x y : Int) (o : Obj) : (convert 66 9 (.slice (some ⟨w.heap.size, 0, none⟩) 2 2)).run Tryz.prog ((w.alloc (.cells #[.int .u8 x, .int .u8 y] 5)).alloc o) = .ok (.string (strOfNums [x, y])) ((w.alloc (.cells #[.int .u8 x, .int .u8 y] 5)).alloc o) :=
  run_convert_bytes_arg _ 66 5 Tryz.underlying66 Tryz.underlying5 w.heap.size 0 2 2 [x, y] rfl (fun i hi => by
    match i, hi with
    | 0, _ => simp
    | 1, _ => simp) 9 Tryz.underlying9

theorem put16_spec (n : Int) (high : Bool) (w : World) :
    Calls Tryz.prog 34 #[.int .i64 n, .bool high] w fun e w' => e = .returned (.string (put16v n high)) ∧ Below w.heap.size w w' := by
  have hcv := conv2 w
  have hm : bits BinOp.and IntKind.i64 n 65535 = n % 65536 := i64_and65535 n
  have h0 : 0 ≤ n % 65536 := by omega
  have h1 : n % 65536 < 65536 := by omega
  cases high
  · go_enter Tryz.func34, Tryz.ntmps34
    go_wp2
    go_ret
    refine ⟨ret_str ?_, (Below.refl _ _).alloc (Nat.le_refl _) _⟩
    simp only [put16v, put16l]
    congr 1
    simp; omega
  · go_enter Tryz.func34, Tryz.ntmps34
    go_wp2
    go_ret
    refine ⟨ret_str ?_, (Below.refl _ _).alloc (Nat.le_refl _) _⟩
    simp only [put16v, put16l]
    congr 1
    simp; omega

theorem word16_put (n : Int) (high : Bool) (w : World) (h0 : 0 ≤ n) (h1 : n ≤ 65535) :
    Calls Tryz.prog 51 #[.int .u16 n, .bool high] w fun e w' => e = .returned (.string (put16v n high)) ∧ Below w.heap.size w w' := by
  have hmk : ∀ w, (Instr.makeSlice 66 (.int .i64 0) (.int .i64 2)).run Tryz.prog w = .ok (.slice (some ⟨w.heap.size, 0, none⟩) 0 2) (w.alloc (.cells #[.int .u8 0, .int .u8 0] 5)) := fun _ => by kernel_rfl
  have hcv := conv2b w
  cases high
  all_goals
    go_enter Tryz.func51, Tryz.ntmps51
    go_wp2_with (go_at_call 74; refine (size16 _).mono ?_; rintro e w' ⟨rfl, rfl⟩)
    refine wp_loop_rounds 2 ?_
    rw [rounds_succ]
    go_wp2
    rw [rounds_succ]
    go_wp2
    go_ret
    refine ⟨ret_str ?_, ((Below.refl _ _).alloc (Nat.le_refl _) _).alloc (by simp) _⟩
    simp only [put16v, put16l]
    congr 1
    simp; omega

theorem put16_impl (n : Int) (high : Bool) (w : World) :
    Calls Tryz.prog 27 #[.int .i64 n, .bool high] w fun e w' => e = .returned (.string (put16v n high)) ∧ Below w.heap.size w w' := by
  have e : put16v (n % 65536) high = put16v n high := by
    simp only [put16v]; congr 1; cases high <;> (simp [put16l]; omega)
  rw [← e]
  have HE := Lib.hid e
  clear e
  have hw : IntKind.u16.wrap n = n % 65536 := IntKind.wrap_u16 n
  go_enter Tryz.func27, Tryz.ntmps27
  go_wp2_with fail
  refine (word16_put _ _ _ (by omega) (by omega)).mono ?_
  rintro e w' ⟨rfl, hb⟩
  go_wp2_with fail
  go_ret
  exact ⟨rfl, hb⟩

end Go.Proofs.YtancidbbkoeokaaGreat

/- Contracts of spec.Put32, impl.putWord[uint32], impl.Put32 and the law laws.FnExactPut32: for every int and both byte orders. -/
namespace Go.Proofs.YtancidbbkoeokaaGreat
open Go.ChangeShapes Go.WideShapes Go.ChangeAt Go.RowKit

def put32v (n : Int) (high : Bool) : ByteArray := strOfNums (put16l (n / 65536) high ++ put16l n high)
theorem strOfNums_append (a b : List Int) : strOfNums a ++ strOfNums b = strOfNums (a ++ b) := by
  apply ByteArray.ext
  simp [strOfNums]

theorem conv4c (w : World) (a b c d : Int) (o p : Obj) : (convert 66 9 (.slice (some ⟨w.heap.size, 0, none⟩) 4 4)).run Tryz.prog (((w.alloc (.cells #[.int .u8 a, .int .u8 b, .int .u8 c, .int .u8 d] 5)).alloc o).alloc p) = .ok (.string (strOfNums [a, b, c, d])) (((w.alloc (.cells #[.int .u8 a, .int .u8 b, .int .u8 c, .int .u8 d] 5)).alloc o).alloc p) :=
  run_convert_bytes_arg _ 66 5 Tryz.underlying66 Tryz.underlying5 w.heap.size 0 4 4 [a, b, c, d] rfl (fun i hi => by
    match i, hi with
    | 0, _ => go_simp
    | 1, _ => go_simp
    | 2, _ => go_simp
    | 3, _ => go_simp) 9 Tryz.underlying9

theorem word32_put (n : Int) (high : Bool) (w : World) (h0 : 0 ≤ n) (h1 : n ≤ 4294967295) :
    Calls Tryz.prog 141 #[.int .u32 n, .bool high] w fun e w' => e = .returned (.string (put32v n high)) ∧ Below w.heap.size w w' := by
  have hmk : ∀ w, (Instr.makeSlice 66 (.int .i64 0) (.int .i64 4)).run Tryz.prog w = .ok (.slice (some ⟨w.heap.size, 0, none⟩) 0 4) (w.alloc (.cells #[.int .u8 0, .int .u8 0, .int .u8 0, .int .u8 0] 5)) := fun _ => by kernel_rfl
  have hcv := conv4c w
  cases high
  all_goals
    go_enter Tryz.func141, Tryz.ntmps141
    go_wp2_with (go_at_call 142; refine (size32 _).mono ?_; rintro e w' ⟨rfl, rfl⟩)
    refine wp_loop_rounds 3 ?_
    rw [rounds_succ]
    go_wp2
    rw [rounds_succ]
    go_wp2
    rw [rounds_succ]
    go_wp2
    go_ret
    refine ⟨ret_str ?_, (((Below.refl _ _).alloc (Nat.le_refl _) _).alloc (by simp) _).alloc (by simp; omega) _⟩
    simp only [put32v, put16l]
    congr 1
    simp; omega

theorem put32_impl (n : Int) (high : Bool) (w : World) :
    Calls Tryz.prog 140 #[.int .i64 n, .bool high] w fun e w' => e = .returned (.string (put32v n high)) ∧ Below w.heap.size w w' := by
  have e : put32v (n % 4294967296) high = put32v n high := by
    simp only [put32v]; congr 1; cases high <;> (simp [put16l]; omega)
  rw [← e]
  have HE := Lib.hid e
  clear e
  have hw : IntKind.u32.wrap n = n % 4294967296 := IntKind.wrap_u32 n
  go_enter Tryz.func140, Tryz.ntmps140
  go_wp2_with fail
  refine (word32_put _ _ _ (by omega) (by omega)).mono ?_
  rintro e w' ⟨rfl, hb⟩
  go_wp2_with fail
  go_ret
  exact ⟨rfl, hb⟩

theorem put16v_size (n : Int) (high : Bool) : (put16v n high).size ≤ 2 := by
  rw [put16v, strOfNums_size]; cases high <;> simp [put16l]

theorem put32_spec (n : Int) (high : Bool) (w : World) :
    Calls Tryz.prog 35 #[.int .i64 n, .bool high] w fun e w' => e = .returned (.string (put32v n high)) ∧ Below w.heap.size w w' := by
  have hs1 := put16v_size (n / 65536) high
  have hs2 := put16v_size n high
  go_enter Tryz.func35, Tryz.ntmps35
  go_wp2_with fail
  refine (put16_spec _ _ _).mono ?_
  rintro e w1 ⟨rfl, b1⟩
  go_wp2_with fail
  refine (put16_spec _ _ _).mono ?_
  rintro e w2 ⟨rfl, b2⟩
  go_wp2_with fail
  go_ret
  refine ⟨ret_str ?_, b1.trans (b2.mono b1.size)⟩
  exact strOfNums_append _ _

end Go.Proofs.YtancidbbkoeokaaGreat

/- Contracts of spec.Get16, impl.getWord[uint16], impl.Get16 and the law laws.FnExactGet16: for every string, index and byte order. -/
namespace Go.Proofs.YtancidbbkoeokaaGreat
open Go.ChangeShapes Go.WideShapes Go.ChangeAt Go.RowKit

def byteAt (s : ByteArray) (k : Nat) : Int := ((s.data.toList.getD k 0).toNat : Int)
theorem byteAt_eq (s : ByteArray) (k : Nat) (h : k < s.size) : (s[k].toNat : Int) = byteAt s k := by
  have h' : k < s.data.toList.length := by simpa using h
  rw [byteAt, List.getD_eq_getElem?_getD, List.getElem?_eq_getElem h']; rfl
theorem byteAt_bd (s : ByteArray) (k : Nat) : 0 ≤ byteAt s k ∧ byteAt s k ≤ 255 := by
  have := UInt8.toNat_lt (s.data.toList.getD k 0)
  unfold byteAt; omega

def get16v (s : ByteArray) (i : Int) (high : Bool) : Int :=
  if i < 0 ∨ (s.size : Int) - 2 < i then -1 else if high then 256 * byteAt s i.toNat + byteAt s (i.toNat + 1) else 256 * byteAt s (i.toNat + 1) + byteAt s i.toNat

theorem get16_spec (s : ByteArray) (i : Int) (high : Bool) (w : World) (hs : s.size ≤ 9223372036854775807) :
    Calls Tryz.prog 45 #[.string s, .int .i64 i, .bool high] w fun e w' => e = .returned (.int .i64 (get16v s i high)) ∧ ∃ n, w' = w.drewN n := by
  by_cases h0 : i < 0
  · go_enter Tryz.func45, Tryz.ntmps45
    go_wp2
    go_ret
    exact ⟨ret_int (by simp [get16v, h0]), 0, rfl⟩
  · by_cases h1 : (s.size : Int) - 2 < i
    · go_enter Tryz.func45, Tryz.ntmps45
      go_wp2
      go_ret
      exact ⟨ret_int (by simp [get16v, h1]), 0, rfl⟩
    · obtain ⟨k, rfl⟩ := Int.eq_ofNat_of_zero_le (by omega : 0 ≤ i)
      have hk : k + 1 < s.size := by omega
      have hk0 : k < s.size := by omega
      have hki0 : (k : Int) < (s.size : Int) := by omega
      have hki : (k : Int) + 1 < (s.size : Int) := by omega
      have e1 : IntKind.i64.wrap ((k : Int) + 1) = (k : Int) + 1 := IntWalk.i64_in _ (by omega)
      have e2 : (0 : Int) ≤ (k : Int) + 1 := by omega
      have e3 : ((k : Int) + 1).toNat = k + 1 := by omega
      cases high
      all_goals
        go_enter Tryz.func45, Tryz.ntmps45
        go_wp2
        go_quiet (fail)
        go_wp2
        go_ret
        refine ⟨ret_int ?_, nq, rfl⟩
        rw [get16v, if_neg (by omega)]
        have c0 := UInt8.toNat_lt s[k]
        have c1 := UInt8.toNat_lt s[k + 1]
        simp only [Int.toNat_natCast, ← byteAt_eq s k hk0, ← byteAt_eq s (k + 1) hk, if_true]
        simp [wrap64]
        omega

theorem word16_get (s : ByteArray) (i : Int) (high : Bool) (w : World) (hs : s.size ≤ 9223372036854775807) :
    Calls Tryz.prog 149 #[.string s, .int .i64 i, .bool high] w fun e w' => e = .returned (.int .i64 (get16v s i high)) ∧ ∃ n, w' = w.drewN n := by
  by_cases h0 : i < 0
  · go_enter Tryz.func149, Tryz.ntmps149
    go_wp2_with (go_at_call 74; refine (size16 _).mono ?_; rintro e w' ⟨rfl, rfl⟩)
    go_ret
    exact ⟨ret_int (by simp [get16v, h0]), 0, rfl⟩
  · by_cases h1 : (s.size : Int) - 2 < i
    · go_enter Tryz.func149, Tryz.ntmps149
      go_wp2_with (go_at_call 74; refine (size16 _).mono ?_; rintro e w' ⟨rfl, rfl⟩)
      go_ret
      exact ⟨ret_int (by simp [get16v, h1]), 0, rfl⟩
    · obtain ⟨k, rfl⟩ := Int.eq_ofNat_of_zero_le (by omega : 0 ≤ i)
      have hk : k + 1 < s.size := by omega
      have hk0 : k < s.size := by omega
      have hki0 : (k : Int) < (s.size : Int) := by omega
      have hki : (k : Int) + 1 < (s.size : Int) := by omega
      have e1 : IntKind.i64.wrap ((k : Int) + 1) = (k : Int) + 1 := IntWalk.i64_in _ (by omega)
      have e2 : (0 : Int) ≤ (k : Int) + 1 := by omega
      have e3 : ((k : Int) + 1).toNat = k + 1 := by omega
      cases high
      all_goals
        go_enter Tryz.func149, Tryz.ntmps149
        go_wp2_with (go_at_call 74; refine (size16 _).mono ?_; rintro e w' ⟨rfl, rfl⟩)
        refine wp_loop_rounds 2 ?_
        rw [rounds_succ]
        go_wp2
        go_quiet (fail)
        go_wp2
        rw [rounds_succ]
        go_wp2
        go_ret
        refine ⟨ret_int ?_, nq, rfl⟩
        rw [get16v, if_neg (by omega)]
        have c0 := UInt8.toNat_lt s[k]
        have c1 := UInt8.toNat_lt s[k + 1]
        simp only [Int.toNat_natCast, ← byteAt_eq s k hk0, ← byteAt_eq s (k + 1) hk, if_true]
        exact join16 _ _ (by omega) (by omega)

theorem get16_impl (s : ByteArray) (i : Int) (high : Bool) (w : World) (hs : s.size ≤ 9223372036854775807) :
    Calls Tryz.prog 147 #[.string s, .int .i64 i, .bool high] w fun e w' => e = .returned (.int .i64 (get16v s i high)) ∧ ∃ n, w' = w.drewN n := by
  go_enter Tryz.func147, Tryz.ntmps147
  go_wp2_with fail
  refine (word16_get _ _ _ _ hs).mono ?_
  rintro e w' ⟨rfl, n, rfl⟩
  go_wp2_with fail
  go_ret
  exact ⟨rfl, n, rfl⟩

end Go.Proofs.YtancidbbkoeokaaGreat

/- Contracts of spec.Get32, impl.getWord[uint32], impl.Get32 and the law laws.FnExactGet32: for every string, index and byte order. -/
namespace Go.Proofs.YtancidbbkoeokaaGreat
open Go.ChangeShapes Go.WideShapes Go.ChangeAt Go.RowKit

def get32v (s : ByteArray) (i : Int) (high : Bool) : Int :=
  if i < 0 ∨ (s.size : Int) - 4 < i then -1 else 65536 * get16v s i high + get16v s (i + 2) high

theorem get16v_bd (s : ByteArray) (i : Int) (high : Bool) : -1 ≤ get16v s i high ∧ get16v s i high ≤ 65535 := by
  have a := byteAt_bd s i.toNat
  have b := byteAt_bd s (i.toNat + 1)
  unfold get16v
  split
  · omega
  · split <;> omega

theorem get32_spec (s : ByteArray) (i : Int) (high : Bool) (w : World) (hs : s.size ≤ 9223372036854775807) :
    Calls Tryz.prog 46 #[.string s, .int .i64 i, .bool high] w fun e w' => e = .returned (.int .i64 (get32v s i high)) ∧ ∃ n, w' = w.drewN n := by
  by_cases h0 : i < 0
  · go_enter Tryz.func46, Tryz.ntmps46
    go_wp2
    go_ret
    exact ⟨ret_int (by simp [get32v, h0]), 0, rfl⟩
  · by_cases h1 : (s.size : Int) - 4 < i
    · go_enter Tryz.func46, Tryz.ntmps46
      go_wp2
      go_ret
      exact ⟨ret_int (by simp [get32v, h1]), 0, rfl⟩
    · have b1 := get16v_bd s i high
      have b2 := get16v_bd s (i + 2) high
      go_enter Tryz.func46, Tryz.ntmps46
      go_wp2_with fail
      refine (get16_spec _ _ _ _ hs).mono ?_
      rintro e w' ⟨rfl, n, rfl⟩
      go_wp2_with fail
      refine (get16_spec _ _ _ _ hs).mono ?_
      rintro e w' ⟨rfl, m, rfl⟩
      go_wp2_with fail
      go_ret
      exact ⟨ret_int (by rw [get32v, if_neg (by omega)]), _, rfl⟩

theorem get16v_at (s : ByteArray) (k : Nat) (high : Bool) (h : k + 1 < s.size) : get16v s k high = if high then 256 * byteAt s k + byteAt s (k + 1) else 256 * byteAt s (k + 1) + byteAt s k := by
  have hn : ¬ ((k : Int) < 0 ∨ (s.size : Int) - 2 < (k : Int)) := by omega
  rw [get16v, if_neg hn, Int.toNat_natCast]
theorem get32v_at (s : ByteArray) (k : Nat) (high : Bool) (h : k + 3 < s.size) : get32v s k high = 65536 * get16v s k high + get16v s ((k + 2 : Nat) : Int) high := by
  have hn : ¬ ((k : Int) < 0 ∨ (s.size : Int) - 4 < (k : Int)) := by omega
  rw [get32v, if_neg hn]; rfl
theorem get32v_high (s : ByteArray) (k : Nat) (h : k + 3 < s.size) : get32v s k true = 65536 * (256 * (s[k].toNat : Int) + s[k + 1].toNat) + (256 * (s[k + 2].toNat : Int) + s[k + 3].toNat) := by
  rw [byteAt_eq s k (by omega), byteAt_eq s (k + 1) (by omega), byteAt_eq s (k + 2) (by omega), byteAt_eq s (k + 3) h, get32v_at s k _ h, get16v_at s k _ (by omega), get16v_at s (k + 2) _ (by omega)]
  rfl
theorem get32v_low (s : ByteArray) (k : Nat) (h : k + 3 < s.size) : get32v s k false = 65536 * (256 * (s[k + 1].toNat : Int) + s[k].toNat) + (256 * (s[k + 3].toNat : Int) + s[k + 2].toNat) := by
  rw [byteAt_eq s k (by omega), byteAt_eq s (k + 1) (by omega), byteAt_eq s (k + 2) (by omega), byteAt_eq s (k + 3) h, get32v_at s k _ h, get16v_at s k _ (by omega), get16v_at s (k + 2) _ (by omega)]
  rfl

theorem word32_get (s : ByteArray) (i : Int) (high : Bool) (w : World) (hs : s.size ≤ 9223372036854775807) :
    Calls Tryz.prog 148 #[.string s, .int .i64 i, .bool high] w fun e w' => e = .returned (.int .i64 (get32v s i high)) ∧ ∃ n, w' = w.drewN n := by
  by_cases h0 : i < 0
  · go_enter Tryz.func148, Tryz.ntmps148
    go_wp2_with (go_at_call 142; refine (size32 _).mono ?_; rintro e w' ⟨rfl, rfl⟩)
    go_ret
    exact ⟨ret_int (by simp [get32v, h0]), 0, rfl⟩
  · by_cases h1 : (s.size : Int) - 4 < i
    · go_enter Tryz.func148, Tryz.ntmps148
      go_wp2_with (go_at_call 142; refine (size32 _).mono ?_; rintro e w' ⟨rfl, rfl⟩)
      go_ret
      exact ⟨ret_int (by simp [get32v, h1]), 0, rfl⟩
    · obtain ⟨k, rfl⟩ := Int.eq_ofNat_of_zero_le (by omega : 0 ≤ i)
      have hk3 : k + 3 < s.size := by omega
      have hk2 : k + 2 < s.size := by omega
      have hk : k + 1 < s.size := by omega
      have hk0 : k < s.size := by omega
      have hki0 : (k : Int) < (s.size : Int) := by omega
      have hki : (k : Int) + 1 < (s.size : Int) := by omega
      have hki2 : (k : Int) + 2 < (s.size : Int) := by omega
      have hki3 : (k : Int) + 2 + 1 < (s.size : Int) := by omega
      have e1 : IntKind.i64.wrap ((k : Int) + 1) = (k : Int) + 1 := IntWalk.i64_in _ (by omega)
      have e2 : (0 : Int) ≤ (k : Int) + 1 := by omega
      have e3 : ((k : Int) + 1).toNat = k + 1 := by omega
      have e4 : IntKind.i64.wrap ((k : Int) + 2 + 1) = (k : Int) + 2 + 1 := IntWalk.i64_in _ (by omega)
      have e5 : (0 : Int) ≤ (k : Int) + 2 + 1 := by omega
      have e6 : ((k : Int) + 2 + 1).toNat = k + 3 := by omega
      have e7 : (0 : Int) ≤ (k : Int) + 2 := by omega
      have e8 : ((k : Int) + 2).toNat = k + 2 := by omega
      cases high
      all_goals
        go_enter Tryz.func148, Tryz.ntmps148
        go_wp2_with (go_at_call 142; refine (size32 _).mono ?_; rintro e w' ⟨rfl, rfl⟩)
        refine wp_loop_rounds 3 ?_
        rw [rounds_succ]
        go_wp2
        go_quiet (fail)
        go_wp2
        rw [rounds_succ]
        go_wp2
        go_quiet (fail)
        go_wp2
        rw [rounds_succ]
        go_wp2
        go_ret
        refine ⟨ret_int ?_, _, rfl⟩
        have c0 := UInt8.toNat_lt s[k]
        have c1 := UInt8.toNat_lt s[k + 1]
        have c2 := UInt8.toNat_lt s[k + 2]
        have c3 := UInt8.toNat_lt s[k + 3]
        first | rw [get32v_high s k hk3] | rw [get32v_low s k hk3]
        exact join32 _ _ _ _ (by omega) (by omega) (by omega) (by omega)

theorem get32_impl (s : ByteArray) (i : Int) (high : Bool) (w : World) (hs : s.size ≤ 9223372036854775807) :
    Calls Tryz.prog 146 #[.string s, .int .i64 i, .bool high] w fun e w' => e = .returned (.int .i64 (get32v s i high)) ∧ ∃ n, w' = w.drewN n := by
  go_enter Tryz.func146, Tryz.ntmps146
  go_wp2_with fail
  refine (word32_get _ _ _ _ hs).mono ?_
  rintro e w' ⟨rfl, n, rfl⟩
  go_wp2_with fail
  go_ret
  exact ⟨rfl, n, rfl⟩

end Go.Proofs.YtancidbbkoeokaaGreat

/- Contracts of spec.Pad, impl.Pad and the law laws.FnExactPad: what each returns for every argument, the world unchanged. -/
namespace Go.Proofs.YtancidbbkoeokaaGreat
open Go.ChangeShapes Go.WideShapes Go.ChangeAt Go.RowKit

def padv (n u : Int) : Int := if 0 ≤ n ∧ n ≤ 9007199254740991 ∧ 1 ≤ u ∧ u ≤ 512 then (u - n % u) % u else 0

theorem pad_impl (n u : Int) (w : World) : Calls Tryz.prog 65 #[.int .i64 n, .int .i64 u] w fun e w' => e = .returned (.int .i64 (padv n u)) ∧ w = w' := by
  by_cases h1 : 0 ≤ n
  · by_cases h2 : n ≤ 9007199254740991
    · by_cases h3 : 1 ≤ u
      · by_cases h4 : u ≤ 512
        · have hm := Int.emod_nonneg n (show u ≠ 0 by omega)
          have hl := Int.emod_lt_of_pos n (show 0 < u by omega)
          go_enter Tryz.func65, Tryz.ntmps65
          go_wp2
          go_ret
          exact ⟨ret_int (by simp [padv, *]), rfl⟩
        · go_enter Tryz.func65, Tryz.ntmps65
          go_wp2
          go_ret
          exact ⟨ret_int (by simp [padv]; omega), rfl⟩
      · go_enter Tryz.func65, Tryz.ntmps65
        go_wp2
        go_ret
        exact ⟨ret_int (by simp [padv]; omega), rfl⟩
    · go_enter Tryz.func65, Tryz.ntmps65
      go_wp2
      go_ret
      exact ⟨ret_int (by simp [padv]; omega), rfl⟩
  · go_enter Tryz.func65, Tryz.ntmps65
    go_wp2
    go_ret
    exact ⟨ret_int (by simp [padv]; omega), rfl⟩


theorem pad_spec (n u : Int) (w : World) : Calls Tryz.prog 37 #[.int .i64 n, .int .i64 u] w fun e w' => e = .returned (.int .i64 (padv n u)) ∧ w = w' := by
  by_cases h1 : 0 ≤ n ∧ n ≤ 9007199254740991
  · have i1 := inB_t h1
    by_cases h2 : 1 ≤ u ∧ u ≤ 512
    · have i2 := inB_t h2
      have hm := Int.emod_nonneg n (show u ≠ 0 by omega)
      have hl := Int.emod_lt_of_pos n (show 0 < u by omega)
      by_cases h3 : n % u = 0
      · have hz : (n % u == 0) = true := by simp [h3]
        have H := Lib.hid h3
        clear h3
        go_enter Tryz.func37, Tryz.ntmps37
        go_wp2_with (go_at_call 58; refine (in_any _ _ _ _).mono ?_; rintro e w' ⟨rfl, rfl⟩)
        go_ret
        exact ⟨ret_int (by simp [padv, H.out]), rfl⟩
      · have hz : (n % u == 0) = false := by simp [h3]
        go_enter Tryz.func37, Tryz.ntmps37
        go_wp2_with (go_at_call 58; refine (in_any _ _ _ _).mono ?_; rintro e w' ⟨rfl, rfl⟩)
        go_ret
        refine ⟨ret_int ?_, rfl⟩
        rw [padv, if_pos (by omega)]
        exact (Int.emod_eq_of_lt (a := u - n % u) (by omega) (by omega)).symm
    · have i2 := inB_f h2
      go_enter Tryz.func37, Tryz.ntmps37
      go_wp2_with (go_at_call 58; refine (in_any _ _ _ _).mono ?_; rintro e w' ⟨rfl, rfl⟩)
      go_ret
      exact ⟨ret_int (by simp [padv]; omega), rfl⟩
  · have i1 := inB_f h1
    go_enter Tryz.func37, Tryz.ntmps37
    go_wp2_with (go_at_call 58; refine (in_any _ _ _ _).mono ?_; rintro e w' ⟨rfl, rfl⟩)
    go_ret
    exact ⟨ret_int (by simp [padv]; omega), rfl⟩

end Go.Proofs.YtancidbbkoeokaaGreat

/- Contracts of spec.SumOf, impl.SumOf (on strings of at most 2^20 bytes) and the law laws.FnExactSumOf: what each returns, the world unchanged. -/
namespace Go.Proofs.YtancidbbkoeokaaGreat
open Go.ChangeShapes Go.WideShapes Go.ChangeAt Go.RowKit

def sumv (l : List UInt8) : Int := (l.map fun c => (c.toNat : Int)).sum
theorem sumv_snoc (l : List UInt8) (c : UInt8) : sumv (l ++ [c]) = sumv l + (c.toNat : Int) := by simp [sumv]
theorem sumv_bd (l : List UInt8) : 0 ≤ sumv l ∧ sumv l ≤ 255 * l.length := by
  induction l with
  | nil => simp [sumv]
  | cons c l ih =>
    have h : sumv (c :: l) = (c.toNat : Int) + sumv l := by simp [sumv]
    have := UInt8.toNat_lt c
    rw [h]; simp only [List.length_cons]; omega

theorem sum_spec (s : ByteArray) (w : World) (hs : s.size ≤ 1048576) :
    Calls Tryz.prog 71 #[.string s] w fun e w' => e = .returned (.int .i64 (sumv s.data.toList)) ∧ w = w' := by
  go_enter Tryz.func71, Tryz.ntmps71
  go_wp2
  go_loop [3, 4] (fun n i => ∃ k : Nat, k ≤ s.size ∧ i = .int .i64 k ∧ n = .int .i64 (sumv (s.data.toList.take k))) (fun _ i => s.size - (intOf i).toNat)
  case atStart => exact ⟨0, Nat.zero_le _, rfl, rfl⟩
  case round =>
    obtain ⟨k, hk, rfl, rfl⟩ := hrel
    have hd := sumv_bd (s.data.toList.take k)
    have hl : (s.data.toList.take k).length ≤ k := List.length_take_le _ _
    by_cases hlt : k < s.size
    · have HS := Lib.hid (show sumv (s.data.toList.take (k + 1)) = sumv (s.data.toList.take k) + (s[k].toNat : Int) by rw [take_snoc s k hlt]; exact sumv_snoc _ _)
      have hc := UInt8.toNat_lt s[k]
      go_wp2
      go_round
      case rel => exact ⟨k + 1, by omega, by go_num, by rw [HS.out]⟩
      case measure => simp [intOf]; omega
    · go_wp2
      go_ret
      exact ⟨ret_int (by rw [List.take_of_length_le (by simp; omega)]), rfl⟩

end Go.Proofs.YtancidbbkoeokaaGreat

/- Small functions of cards with hexadecimal numbers: magic, padding, sums. -/
namespace Go.Proofs.YtancidbbkoeokaaGreat
open Go.ChangeShapes Go.WideShapes Go.ChangeAt Go.RowKit

def mgN (crc : Bool) : ByteArray := if crc then ⟨#[48, 55, 48, 55, 48, 50]⟩ else ⟨#[48, 55, 48, 55, 48, 49]⟩
def pad4 (n : Nat) : Nat := (4 - n % 4) % 4
def nulN (n : Nat) : ByteArray := ⟨(List.replicate n 0).toArray⟩
theorem nulN_size (n : Nat) : (nulN n).size = n := by
  show (List.replicate n (0 : UInt8)).toArray.size = n
  rw [List.size_toArray, List.length_replicate]
theorem sumv_zero : ∀ (l : List UInt8), sumv l = 0 ↔ l = List.replicate l.length 0 := by
  intro l
  induction l with
  | nil => exact ⟨fun _ => rfl, fun _ => rfl⟩
  | cons c l ih =>
    have h1 := sumv_bd l
    have e : sumv (c :: l) = (c.toNat : Int) + sumv l := by simp [sumv]
    rw [e, List.length_cons, List.replicate_succ]
    constructor
    · intro h
      have hc : c.toNat = 0 := by omega
      have hl : sumv l = 0 := by omega
      have hc0 : c = 0 := UInt8.toNat_inj.1 hc
      rw [hc0, ← ih.1 hl]
    · intro h
      injection h with h2 h3
      rw [ih.2 h3, h2]
      rfl
def isNul (s : ByteArray) : Bool := decide (sumv s.data.toList = 0)
theorem nulN_list (n : Nat) : (nulN n).data.toList = List.replicate n 0 := rfl
theorem isNul_iff (s : ByteArray) : isNul s = true ↔ s = nulN s.size := by
  have hz : s.data.toList.length = s.size := Array.length_toList
  unfold isNul
  rw [decide_eq_true_iff, sumv_zero, hz]
  constructor
  · intro h
    exact ba_ext (h.trans (nulN_list s.size).symm)
  · intro h
    have h2 := congrArg (fun b : ByteArray => b.data.toList) h
    exact h2.trans (nulN_list s.size)
def sumN (crc : Bool) (d : ByteArray) : Int := if crc then sumv d.data.toList else 0
end Go.Proofs.YtancidbbkoeokaaGreat

/- Words read and put again; what a card read is put as: plain mathematics. -/
namespace Go.Proofs.YtancidbbkoeokaaGreat
open Go.ChangeShapes Go.WideShapes Go.ChangeAt Go.RowKit

theorem ext_list (s : ByteArray) (a b : Nat) : (s.extract a b).data.toList = (s.data.toList.drop a).take (b - a) := by
  simp [ByteArray.data_extract, Array.toList_extract, List.extract]
theorem ext_cat {s : ByteArray} {a b c : Nat} (h1 : a ≤ b) (h2 : b ≤ c) : s.extract a c = s.extract a b ++ s.extract b c := by
  apply ba_ext
  have e : c - a = (b - a) + (c - b) := by omega
  simp only [ByteArray.data_append, Array.toList_append, ext_list]
  rw [e, List.take_add, List.drop_drop, show a + (b - a) = b from by omega]
theorem ext_two (s : ByteArray) (k : Nat) (h : k + 2 ≤ s.size) : (s.extract k (k + 2)).data.toList = [s.data.toList.getD k 0, s.data.toList.getD (k + 1) 0] := by
  have hl : s.data.toList.length = s.size := by simp
  rw [ext_list, show k + 2 - k = 2 from by omega]
  rw [List.drop_eq_getElem_cons (by omega), List.drop_eq_getElem_cons (by omega)]
  simp only [List.take_succ_cons, List.take_zero]
  rw [List.getD_eq_getElem?_getD, List.getD_eq_getElem?_getD, List.getElem?_eq_getElem (by omega), List.getElem?_eq_getElem (by omega)]
  rfl
theorem nums_at (c : UInt8) : UInt8.ofNat ((c.toNat : Int)).toNat = c := by simp
theorem byte_bd (c : UInt8) : (c.toNat : Int) ≤ 255 ∧ 0 ≤ (c.toNat : Int) := by have := c.toNat_lt; omega
theorem put_get16 (s : ByteArray) (k : Nat) (hi : Bool) (h : k + 2 ≤ s.size) : put16v (get16v s k hi) hi = s.extract k (k + 2) := by
  apply ba_ext
  rw [ext_two s k h]
  obtain ⟨a1, a0⟩ := byte_bd (s.data.toList.getD k 0)
  obtain ⟨b1, b0⟩ := byte_bd (s.data.toList.getD (k + 1) 0)
  have ha := nums_at (s.data.toList.getD k 0)
  have hb := nums_at (s.data.toList.getD (k + 1) 0)
  rw [get16v, if_neg (by omega), Int.toNat_natCast]
  unfold byteAt
  generalize s.data.toList.getD k 0 = x at *
  generalize s.data.toList.getD (k + 1) 0 = y at *
  generalize hX : (x.toNat : Int) = X at *
  generalize hY : (y.toNat : Int) = Y at *
  cases hi
  · have e1 : (256 * Y + X) % 256 = X := by omega
    have e2 : (256 * Y + X) / 256 % 256 = Y := by omega
    simp [put16v, put16l, strOfNums, e1, e2, ha, hb]
  · have e1 : (256 * X + Y) % 256 = Y := by omega
    have e2 : (256 * X + Y) / 256 % 256 = X := by omega
    simp [put16v, put16l, strOfNums, e1, e2, ha, hb]
theorem get16_bd {s : ByteArray} {k : Nat} (hi : Bool) (h : k + 2 ≤ s.size) : 0 ≤ get16v s k hi ∧ get16v s k hi ≤ 65535 := by
  obtain ⟨a1, a0⟩ := byte_bd (s.data.toList.getD k 0)
  obtain ⟨b1, b0⟩ := byte_bd (s.data.toList.getD (k + 1) 0)
  rw [get16v, if_neg (by omega), Int.toNat_natCast]
  unfold byteAt
  split <;> omega
theorem get32_bd {s : ByteArray} {k : Nat} (hi : Bool) (h : k + 4 ≤ s.size) : 0 ≤ get32v s k hi ∧ get32v s k hi ≤ 4294967295 := by
  have h1 := get16_bd (s := s) (k := k) hi (by omega)
  have h2 := get16_bd (s := s) (k := k + 2) hi (by omega)
  rw [get32v, if_neg (by omega), show ((k : Nat) : Int) + 2 = ((k + 2 : Nat) : Int) from by omega]
  omega
theorem strOf_app (a b : List Int) : strOfNums (a ++ b) = strOfNums a ++ strOfNums b := by
  apply ba_ext
  simp [strOfNums]
theorem put16l_mod (a b : Int) (hi : Bool) (h : a % 65536 = b % 65536) : put16l a hi = put16l b hi := by
  have e1 : a % 256 = b % 256 := by omega
  have e2 : a / 256 % 256 = b / 256 % 256 := by omega
  unfold put16l
  rw [e1, e2]
theorem put_get32 (s : ByteArray) (k : Nat) (hi : Bool) (h : k + 4 ≤ s.size) : put32v (get32v s k hi) hi = s.extract k (k + 4) := by
  have h1 := get16_bd (s := s) (k := k) hi (by omega)
  have h2 := get16_bd (s := s) (k := k + 2) hi (by omega)
  have p1 := put_get16 s k hi (by omega)
  have p2 := put_get16 s (k + 2) hi (by omega)
  rw [get32v, if_neg (by omega), show ((k : Nat) : Int) + 2 = ((k + 2 : Nat) : Int) from by omega, put32v, strOf_app]
  generalize get16v s k hi = x at *
  generalize get16v s ((k + 2 : Nat) : Int) hi = y at *
  have e1 : put16l ((65536 * x + y) / 65536) hi = put16l x hi := put16l_mod _ _ _ (by omega)
  have e2 : put16l (65536 * x + y) hi = put16l y hi := put16l_mod _ _ _ (by omega)
  rw [e1, e2]
  show put16v x hi ++ put16v y hi = _
  rw [p1, p2]
  exact (ext_cat (by omega) (by omega)).symm
theorem put16_size (n : Int) (hi : Bool) : (put16v n hi).size = 2 := by cases hi <;> rfl
theorem put32_size (n : Int) (hi : Bool) : (put32v n hi).size = 4 := by cases hi <;> rfl
theorem put16_inj {a b : Int} {hi : Bool} (ha : 0 ≤ a ∧ a ≤ 65535) (hb : 0 ≤ b ∧ b ≤ 65535) (h : put16v a hi = put16v b hi) : a = b := by
  have hl := congrArg (fun b : ByteArray => b.data.toList) h
  have u8 : ∀ x y : Int, 0 ≤ x → x < 256 → 0 ≤ y → y < 256 → UInt8.ofNat x.toNat = UInt8.ofNat y.toNat → x = y := by
    intro x y h1 h2 h3 h4 h5
    have := congrArg UInt8.toNat h5
    simp at this
    omega
  cases hi <;> simp [put16v, put16l, strOfNums] at hl <;> obtain ⟨h1, h2⟩ := hl
  · have := u8 _ _ (by omega) (by omega) (by omega) (by omega) h1
    have := u8 _ _ (by omega) (by omega) (by omega) (by omega) h2
    omega
  · have := u8 _ _ (by omega) (by omega) (by omega) (by omega) h1
    have := u8 _ _ (by omega) (by omega) (by omega) (by omega) h2
    omega
theorem app_inj {a b c d : ByteArray} (h : a ++ b = c ++ d) (hs : a.size = c.size) : a = c ∧ b = d := by
  have h1 := congrArg (fun b : ByteArray => b.data.toList) h
  simp only [ByteArray.data_append, Array.toList_append] at h1
  obtain ⟨h2, h3⟩ := List.append_inj h1 (by simpa using hs)
  exact ⟨ba_ext h2, ba_ext h3⟩
theorem nz_free (l : List UInt8) : Nz (nulFree l) := by
  induction l with
  | nil => intro c hc; simp [nulFree] at hc
  | cons x l ih =>
    intro c hc
    by_cases hx : x = 0
    · subst hx; simp [nulFree] at hc
    · have e : nulFree (x :: l) = x :: nulFree l := by simp [nulFree, hx]
      rw [e, List.mem_cons] at hc
      rcases hc with rfl | hc
      · exact hx
      · exact ih c hc
theorem free_app_zero {a b : List UInt8} (h : Nz a) : nulFree (a ++ 0 :: b) = a := by
  rw [nulFree_append h]
  simp [nulFree]
/-- A text of which the first NUL is the last byte. -/
theorem free_last {l : List UInt8} (h : (nulFree l).length + 1 = l.length) : l = nulFree l ++ [0] := by
  have e : l = nulFree l ++ l.dropWhile (· != 0) := (List.takeWhile_append_dropWhile).symm
  have hl : (l.dropWhile (· != 0)).length = 1 := by
    have := congrArg List.length e
    rw [List.length_append] at this
    omega
  match hd : l.dropWhile (· != 0), hl with
  | [c], _ =>
    have hc : c = 0 := by
      have h9 : ¬ (c != 0) = true := by
        have := List.head_dropWhile_not (p := (· != (0 : UInt8))) (l := l) (by rw [hd]; simp)
        simp only [hd, List.head_cons] at this
        simpa using this
      simpa using h9
    rw [hc] at hd
    rw [hd] at e
    exact e
theorem cut_zero {p : ByteArray} {t : ByteArray} (h : Nz p.data.toList) : cutv (p ++ ⟨#[0]⟩ ++ t) = p := by
  apply ba_ext
  have e : (p ++ (⟨#[0]⟩ : ByteArray) ++ t).data.toList = p.data.toList ++ 0 :: t.data.toList := by simp
  simp only [cutv, e]
  exact free_app_zero h
theorem cut_nz (s : ByteArray) : Nz (cutv s).data.toList := by
  have : (cutv s).data.toList = nulFree s.data.toList := rfl
  rw [this]
  exact nz_free _
theorem cut_last {s : ByteArray} (h : (cutv s).size + 1 = s.size) : s = cutv s ++ ⟨#[0]⟩ := by
  apply ba_ext
  have h1 : (cutv s).size = (nulFree s.data.toList).length := by simp [cutv, ByteArray.size]
  have h2 : s.data.toList.length = s.size := by simp
  have := free_last (l := s.data.toList) (by omega)
  rw [this]
  simp [cutv]
/-- What a card read is put as again is what it was read from, just where its name ends with its only NUL and its gaps are NULs. -/
theorem bin_texts {nm gp d t A D : ByteArray} {hi : Bool} {sz g2 q2 : Nat} (hsz : nm.size = sz) (h16 : sz ≤ 65535) (hgp : gp.size = g2) (hg2 : g2 = sz % 2) (ht : t.size = q2) :
    ((cutv (nm ++ gp)).size + 1 ≤ 65535 ∧ A ++ put16v (((cutv (nm ++ gp)).size : Int) + 1) hi ++ D ++ cutv (nm ++ gp) ++ ⟨#[0]⟩ ++ nulN (((cutv (nm ++ gp)).size + 1) % 2) ++ d ++ nulN q2 = A ++ put16v (sz : Int) hi ++ D ++ nm ++ gp ++ d ++ t) ↔ ((cutv nm).size + 1 = sz ∧ gp = nulN g2 ∧ t = nulN q2) := by
  have nsz : ∀ n, (nulN n).size = n := fun n => by show (List.replicate n (0 : UInt8)).toArray.size = n; rw [List.size_toArray, List.length_replicate]
  constructor
  · rintro ⟨h1, h⟩
    simp only [ByteArray.append_assoc] at h
    obtain ⟨_, h⟩ := app_inj h rfl
    obtain ⟨e1, h⟩ := app_inj h (by rw [put16_size, put16_size])
    have e2 : (cutv (nm ++ gp)).size + 1 = sz := by
      have := put16_inj (by omega) (by omega) e1
      omega
    obtain ⟨_, h⟩ := app_inj h rfl
    have hh : (cutv (nm ++ gp) ++ ⟨#[0]⟩) ++ (nulN (((cutv (nm ++ gp)).size + 1) % 2) ++ (d ++ nulN q2)) = nm ++ (gp ++ (d ++ t)) := by
      rw [ByteArray.append_assoc]; exact h
    have z1 : (⟨#[0]⟩ : ByteArray).size = 1 := rfl
    obtain ⟨e3, h4⟩ := app_inj hh (by rw [ByteArray.size_append]; omega)
    rw [e2, ← hg2] at h4
    obtain ⟨e4, h5⟩ := app_inj h4 (by rw [nsz, hgp])
    obtain ⟨_, h6⟩ := app_inj h5 rfl
    refine ⟨?_, e4.symm, h6.symm⟩
    rw [← e3]
    have e5 : cutv (nm ++ gp) ++ ⟨#[0]⟩ = cutv (nm ++ gp) ++ ⟨#[0]⟩ ++ (⟨#[]⟩ : ByteArray) := by apply ba_ext; simp
    rw [e5, cut_zero (cut_nz _)]
    exact e2
  · rintro ⟨h1, rfl, rfl⟩
    have e1 := cut_last (s := nm) (by omega)
    have e2 : cutv (nm ++ nulN g2) = cutv nm := by
      conv => lhs; rw [e1]
      exact cut_zero (cut_nz _)
    rw [e2]
    refine ⟨by omega, ?_⟩
    rw [show (((cutv nm).size : Int) + 1) = (sz : Int) from by omega, h1, ← hg2]
    conv => rhs; rw [e1]
    simp only [ByteArray.append_assoc]
theorem bin_path {nm gp : ByteArray} {sz : Nat} (hsz : nm.size = sz) (h : (cutv nm).size + 1 = sz) : cutv (nm ++ gp) = cutv nm := by
  have e1 := cut_last (s := nm) (by omega)
  conv => lhs; rw [e1]
  exact cut_zero (cut_nz _)
end Go.Proofs.YtancidbbkoeokaaGreat
