/- Texts joined: EntL, EntOk, FindE, ListOk, EqE, SizeE, EntEq, LawE, Dig, DigSl, PutBase, FmtPow, FmtArr, FmtBits, FmtInt, DecText, Field, PutOH, Blk. -/
import Derived.Maps.AppendAt
import Derived.Deep.RegionWith
import Derived.Deep.RegionHeld3
import Derived.Laws.StructEq
import Derived.Lib.ItoaNum
import Derived.Test.YtancidbbkoeokabGreatDoorShelf
import Derived.Lib.Repeat
import Derived.Lib.LaidTab
import Derived.Lib.AppendIntMem
import Derived.Lib.ItoaLen
import Derived.Lib.BufferWrite
import Derived.Laws.Tables
import Derived.Laws.AppendOwn
import Derived.Test.YtancidbbkoeokabGreatDoorJB1
/- Rows of entries in memory, as lists: RowE (its cells), OwnE (a row that a call made itself), and laws.toEntryS in these words. -/
namespace Go.Proofs.YtancidbbkoeokabGreatDoor
open Go.ChangeShapes Go.WideShapes Go.ChangeAt Go.RowKit Go.Deep

def entVals (L : List Ent) : List Value := L.flatMap Ent.cells
theorem cells_len (e : Ent) : e.cells.length = 10 := rfl
theorem entVals_len (L : List Ent) : (entVals L).length = L.length * 10 := by
  induction L with
  | nil => rfl
  | cons e L ih => simp only [entVals, List.flatMap_cons, List.length_append, cells_len, List.length_cons] at ih ⊢; omega
theorem entVals_app (L M : List Ent) : entVals (L ++ M) = entVals L ++ entVals M := by simp [entVals]
theorem entVals_one (e : Ent) : entVals [e] = e.cells := by simp [entVals]
theorem entVals_nil : entVals [] = [] := rfl
theorem entVals_get (L : List Ent) (i j : Nat) (hj : j < 10) : (entVals L)[i * 10 + j]? = L[i]?.bind (fun e => e.cells[j]?) := by
  induction L generalizing i with
  | nil => simp [entVals]
  | cons e L ih =>
    simp only [entVals, List.flatMap_cons] at ih ⊢
    cases i with
    | zero =>
      rw [List.getElem?_append_left (by rw [cells_len]; omega)]
      simp
    | succ i =>
      rw [List.getElem?_append_right (by rw [cells_len]; omega), cells_len, show (i + 1) * 10 + j - 10 = i * 10 + j from by omega, ih]
      simp
theorem entVals_drop (L : List Ent) (k : Nat) : entVals (L.drop k) = (entVals L).drop (k * 10) := by
  induction L generalizing k with
  | nil => simp [entVals]
  | cons e L ih =>
    cases k with
    | zero => simp
    | succ k =>
      rw [List.drop_succ_cons, ih]
      simp only [entVals, List.flatMap_cons]
      have hc : e.cells.drop ((k + 1) * 10) = [] := List.drop_eq_nil_of_le (by rw [cells_len]; omega)
      rw [List.drop_append, cells_len, show (k + 1) * 10 - 10 = k * 10 from by omega, hc, List.nil_append]
theorem entVals_take (L : List Ent) (k : Nat) : entVals (L.take k) = (entVals L).take (k * 10) := by
  induction L generalizing k with
  | nil => simp [entVals]
  | cons e L ih =>
    cases k with
    | zero => simp [entVals]
    | succ k =>
      rw [List.take_succ_cons]
      have h := ih k
      simp only [entVals, List.flatMap_cons] at h ⊢
      rw [List.take_append, cells_len, show (k + 1) * 10 - 10 = k * 10 from by omega, List.take_of_length_le (l := e.cells) (by rw [cells_len]; omega), h]
theorem entVals_onecell (L : List Ent) : ∀ u ∈ entVals L, u.oneCell' = true := by
  intro u hu
  simp only [entVals, List.mem_flatMap] at hu
  obtain ⟨e, _, he⟩ := hu
  simp only [Ent.cells, List.mem_cons, List.not_mem_nil, or_false] at he
  rcases he with rfl | rfl | rfl | rfl | rfl | rfl | rfl | rfl | rfl | rfl <;> rfl
/-- The cells of block g, from its first on, are the entries L. -/
def RowE (w : World) (g : Nat) (L : List Ent) : Prop := ∀ k u, (entVals L)[k]? = some u → w.cell? ⟨g, k, none⟩ = some u
theorem RowE.below {w w' : World} {g B : Nat} {L : List Ent} (h : RowE w g L) (hb : Below B w w') (hg : g < B) : RowE w' g L :=
  fun k u hu => (hb.cell (p := ⟨g, k, none⟩) hg).trans (h k u hu)
theorem RowE.grown {w w' : World} {g : Nat} {row : Option Nat} {L : List Ent} (h : RowE w g L) (hb : w.grownBy w' row) (hg : some g ≠ row) : RowE w' g L :=
  fun k u hu => hb.cell (h k u hu) hg
theorem RowE.take {w : World} {g : Nat} {L : List Ent} (h : RowE w g L) (k : Nat) : RowE w g (L.take k) := fun j u hu => h j u (by
  rw [entVals_take, List.getElem?_take] at hu
  split at hu
  · exact hu
  · cases hu)
/-- The ten cells of its i-th entry. -/
theorem RowE.ten {w : World} {g : Nat} {L : List Ent} (h : RowE w g L) {i : Nat} {e : Ent} (hi : L[i]? = some e) : w.cell? ⟨g, i * 10, none⟩ = some (.int .i64 e.kind) ∧ w.cell? ⟨g, i * 10 + 1, none⟩ = some (.string e.path) ∧ w.cell? ⟨g, i * 10 + 2, none⟩ = some (.string e.link) ∧ w.cell? ⟨g, i * 10 + 3, none⟩ = some (.int .i64 e.mode) ∧ w.cell? ⟨g, i * 10 + 4, none⟩ = some (.int .i64 e.uid) ∧ w.cell? ⟨g, i * 10 + 5, none⟩ = some (.int .i64 e.gid) ∧ w.cell? ⟨g, i * 10 + 6, none⟩ = some (.int .i64 e.time) ∧ w.cell? ⟨g, i * 10 + 7, none⟩ = some (.string e.user) ∧ w.cell? ⟨g, i * 10 + 8, none⟩ = some (.string e.group) ∧ w.cell? ⟨g, i * 10 + 9, none⟩ = some (.string e.body) := by
  have H : ∀ j u, j < 10 → e.cells[j]? = some u → w.cell? ⟨g, i * 10 + j, none⟩ = some u := fun j u hj hu => h _ u (by rw [entVals_get _ _ _ hj, hi]; exact hu)
  exact ⟨H 0 _ (by omega) rfl, H 1 _ (by omega) rfl, H 2 _ (by omega) rfl, H 3 _ (by omega) rfl, H 4 _ (by omega) rfl, H 5 _ (by omega) rfl, H 6 _ (by omega) rfl, H 7 _ (by omega) rfl, H 8 _ (by omega) rfl, H 9 _ (by omega) rfl⟩
/-- A row of entries of the call's own that is not nil. -/
def OwnE (w : World) (base : Nat) (v : Value) (L : List Ent) : Prop := w.ownsRow base 44 10 v L.length (entVals L) ∧ ∃ g cap, v = .slice (some ⟨g, 0, none⟩) L.length cap
theorem OwnE.row {w : World} {base g n cap : Nat} {L : List Ent} (h : OwnE w base (.slice (some ⟨g, 0, none⟩) n cap) L) : RowE w g L ∧ g < w.heap.size ∧ base ≤ g ∧ n = L.length := by
  refine ⟨fun k u hu => ?_, (World.ownsRow.lt h.1 g rfl).2, (World.ownsRow.lt h.1 g rfl).1, ?_⟩
  · have := World.ownsRow.cells h.1 (g := g) rfl k u hu
    rwa [show (⟨g, 0, none⟩ : Addr).add k = ⟨g, k, none⟩ from by unfold Addr.add; split <;> simp_all] at this
  · obtain ⟨g', cap', e⟩ := h.2
    simp at e
    exact e.2.1
theorem OwnE.keep {w w' : World} {base : Nat} {v : Value} {L : List Ent} (h : OwnE w base v L) (hb : Below w.heap.size w w') : OwnE w' base v L := by
  obtain ⟨ho, g, cap, rfl⟩ := h
  exact ⟨World.ownsRow.kept ho (w' := w') (row := none) ⟨hb.os, hb.tape, hb.output, hb.size, fun k hk _ => hb.block k hk⟩ (.inr (by simp [Value.ownBlock])), g, cap, rfl⟩
theorem OwnE.kept {w w' : World} {base g n cap : Nat} {row : Option Nat} {L : List Ent} (h : OwnE w base (.slice (some ⟨g, 0, none⟩) n cap) L) (hb : w.grownBy w' row) (hg : some g ≠ row) : OwnE w' base (.slice (some ⟨g, 0, none⟩) n cap) L :=
  ⟨World.ownsRow.kept h.1 hb (.inr (by simpa [Value.ownBlock] using hg)), h.2⟩
theorem OwnE.weak {w : World} {base base' : Nat} {v : Value} {L : List Ent} (h : OwnE w base v L) (hb : base' ≤ base) : OwnE w base' v L := by
  refine ⟨⟨h.1.1, ?_⟩, h.2⟩
  rcases h.1.2 with h' | ⟨g', cap', cur, h', hx, rest⟩
  · exact .inl h'
  · exact .inr ⟨g', cap', cur, h', Nat.le_trans hb hx, rest⟩
theorem OwnE.lit {w : World} {base : Nat} (hb : base ≤ w.heap.size) : OwnE (w.alloc (.cells #[] 44)) base (.slice (some ⟨w.heap.size, 0, none⟩) 0 0) [] :=
  ⟨World.ownsRow_lit w #[] 0 hb (by simp) rfl, _, _, rfl⟩
theorem ownE_app {w1 : World} {base : Nat} {v' : Value} {D M : List Ent} {n m : Nat} (h : w1.ownsRow base 44 10 v' (n + m) (entVals D ++ entVals M)) (hn : n = D.length) (hm : m = M.length) (hnil : ¬ v' = .slice none 0 0) : OwnE w1 base v' (D ++ M) := by
  subst hn; subst hm
  rw [← entVals_app, show D.length + M.length = (D ++ M).length from by simp] at h
  refine ⟨h, ?_⟩
  obtain ⟨_, ⟨rfl, _⟩ | ⟨g', cap', cur, rfl, _⟩⟩ := h
  · exact absurd rfl hnil
  · exact ⟨g', cap', rfl⟩
/-- What an append of a part of a row asks for: its cells. -/
theorem RowE.news {w : World} {g : Nat} {L : List Ent} (h : RowE w g L) (k : Nat) : ∀ j u, (entVals (L.drop k))[j]? = some u → w.cell? ((⟨g, k * 10, none⟩ : Addr).add j) = some u := by
  intro j u hu
  rw [entVals_drop, List.getElem?_drop] at hu
  rw [show (⟨g, k * 10, none⟩ : Addr).add j = ⟨g, k * 10 + j, none⟩ from by unfold Addr.add; split <;> simp_all]
  exact h _ u hu
theorem RowE.news0 {w : World} {g : Nat} {L : List Ent} (h : RowE w g L) : ∀ j u, (entVals L)[j]? = some u → w.cell? ((⟨g, 0, none⟩ : Addr).add j) = some u := by
  intro j u hu
  rw [show (⟨g, 0, none⟩ : Addr).add j = ⟨g, j, none⟩ from by unfold Addr.add; split <;> simp_all]
  exact h _ u hu
/-- One entry laid in a block of its own. -/
theorem ent_new (w : World) (e : Ent) (t : TypeId) : ∀ j u, (entVals [e])[j]? = some u → (w.alloc (.cells e.cells.toArray t)).cell? ((⟨w.heap.size, 0, none⟩ : Addr).add j) = some u := by
  intro j u hu
  rw [entVals_one] at hu
  have hj : j < 10 := by
    by_cases h : j < 10
    · exact h
    · rw [List.getElem?_eq_none (by rw [cells_len]; omega)] at hu; cases hu
  rw [show (⟨w.heap.size, 0, none⟩ : Addr).add j = ⟨w.heap.size, 0 + j, none⟩ from by unfold Addr.add; split <;> simp_all, EntAt.new w e t j hj]
  exact hu
theorem fill_vals {ys : List Value} {n : Nat} {E : Nat → Ent} (h : FillE ys n E) (hl : ys.length = n * 10) : ys = entVals ((List.range n).map E) := by
  apply List.ext_getElem?
  intro k
  by_cases hk : k < n * 10
  · have h1 := h (k / 10) (by omega) (k % 10) (by omega)
    have h2 := entVals_get ((List.range n).map E) (k / 10) (k % 10) (by omega)
    rw [show k / 10 * 10 + k % 10 = k from by omega] at h1 h2
    rw [h1, h2, List.getElem?_map, List.getElem?_range (by omega)]
    rfl
  · rw [List.getElem?_eq_none (by omega), List.getElem?_eq_none (by rw [entVals_len]; simp; omega)]
theorem range_take {es : List Ent} {n : Nat} (h : n ≤ es.length) : (List.range n).map (fun i => es.getD i entD) = es.take n := by
  apply List.ext_getElem?
  intro k
  by_cases hk : k < n
  · rw [List.getElem?_map, List.getElem?_range hk, List.getElem?_take, if_pos hk]
    simp [List.getD, List.getElem?_eq_getElem (show k < es.length by omega)]
  · rw [List.getElem?_eq_none (by simp; omega), List.getElem?_take, if_neg hk]
theorem IsRowE.le {w : World} {a : Option Addr} {len cap : Nat} {es : List Ent} (h : IsRowE w a len cap es) : len ≤ es.length := by
  rcases h with ⟨_, rfl, _, rfl⟩ | ⟨x, _, hl, _, hn, _⟩
  · simp
  · omega
/-- laws.toEntryS: a copy, in a block of its own. -/
theorem toEntryS_own (a : Option Addr) (len cap : Nat) (es : List Ent) (w : World) (hR : IsRowE w a len cap es) (hlen : len ≤ 1048576) :
    Calls Tryz.prog 18 #[.slice a len cap] w fun e w' => e = .returned (.slice (some ⟨w.heap.size, 0, none⟩) len len) ∧ OwnE w' w.heap.size (.slice (some ⟨w.heap.size, 0, none⟩) len len) (es.take len) ∧ Below w.heap.size w w' := by
  refine (toEntryS_any a len cap es w hR hlen).mono ?_
  rintro e w' ⟨ys, rfl, ho, hf, hb⟩
  have hle := hR.le
  have hlen' : (es.take len).length = len := by simp; omega
  refine ⟨rfl, ⟨?_, _, _, by rw [hlen']⟩, hb⟩
  rw [hlen', ← range_take hle, ← fill_vals hf ho.1]
  exact ho
end Go.Proofs.YtancidbbkoeokabGreatDoor

/- Contract of spec.EntryOk. -/
namespace Go.Proofs.YtancidbbkoeokabGreatDoor
open Go.ChangeShapes Go.WideShapes Go.ChangeAt Go.RowKit Go.Deep

/-- What the kind of an entry asks of its link and body. -/
def kindOk (k : Int) (p l b : ByteArray) : Bool :=
  if k = 0 then decide (l.size = 0) && decide (b.size ≤ 3000)
  else if k = 1 then decide (l.size = 0) && decide (b.size = 0)
  else if k = 2 then inB l.size 1 150 && signv l && decide (b.size = 0)
  else if k = 3 then pathOkv l && decide (l ≠ p) && decide (b.size = 0)
  else false
def entOkv (e : Ent) : Bool := pathOkv e.path && inB e.mode 0 4095 && inB e.uid 0 4294967295 && inB e.gid 0 4294967295 && inB e.time 0 99999999999 && whov e.user && whov e.group && kindOk e.kind e.path e.link e.body
theorem empty_t {l : ByteArray} (h : l.size = 0) : l.toList.isEmpty = true := by
  rw [ba_toList]
  have : l.data.toList = [] := List.eq_nil_of_length_eq_zero (by simpa using h)
  rw [this]; rfl
theorem empty_f {l : ByteArray} (h : ¬ l.size = 0) : l.toList.isEmpty = false := by
  rw [ba_toList]
  cases hd : l.data.toList with
  | nil => exact absurd (by have := congrArg List.length hd; simpa using this) h
  | cons a b => rfl
set_option maxHeartbeats 3200000 in
theorem entryOk_spec (k : Int) (p l : ByteArray) (m u g t : Int) (us gr b : ByteArray) (w : World) (hp : p.size ≤ 4194304) (hl : l.size ≤ 4194304) (hus : us.size ≤ 4194304) (hgr : gr.size ≤ 4194304) (hbz : b.size ≤ 4194304) :
    Calls Tryz.prog 98 #[.agg #[.int .i64 k, .string p, .string l, .int .i64 m, .int .i64 u, .int .i64 g, .int .i64 t, .string us, .string gr, .string b]] w fun e w' => e = .returned (.bool (entOkv ⟨k, p, l, m, u, g, t, us, gr, b⟩)) ∧ Below w.heap.size w w' := by
  have H1 := Lib.hid (fun w => pathOk_spec p w hp)
  have HL := Lib.hid (fun w => pathOk_spec l w hl)
  have H2 := Lib.hid (fun w => in_any m 0 4095 w)
  have H3 := Lib.hid (fun w => in_any u 0 4294967295 w)
  have H4 := Lib.hid (fun w => in_any g 0 4294967295 w)
  have H5 := Lib.hid (fun w => in_any t 0 99999999999 w)
  have H6 := Lib.hid (fun w => who_spec us w hus)
  have H7 := Lib.hid (fun w => who_spec gr w hgr)
  have HS := Lib.hid (fun w => sign_spec l w hl)
  have HZ := Lib.hid (fun w => in_any (l.size : Int) 1 150 w)
  have HE : Hid (entOkv ⟨k, p, l, m, u, g, t, us, gr, b⟩ = (pathOkv p && inB m 0 4095 && inB u 0 4294967295 && inB g 0 4294967295 && inB t 0 99999999999 && whov us && whov gr && kindOk k p l b)) := Lib.hid rfl
  have HK : Hid (kindOk k p l b = if k = 0 then decide (l.size = 0) && decide (b.size ≤ 3000) else if k = 1 then decide (l.size = 0) && decide (b.size = 0) else if k = 2 then inB l.size 1 150 && signv l && decide (b.size = 0) else if k = 3 then pathOkv l && decide (l ≠ p) && decide (b.size = 0) else false) := Lib.hid rfl
  generalize entOkv ⟨k, p, l, m, u, g, t, us, gr, b⟩ = r at HE
  generalize kindOk k p l b = r2 at HE HK
  generalize pathOkv p = b1 at H1 HE
  generalize inB m 0 4095 = b2 at H2 HE
  generalize inB u 0 4294967295 = b3 at H3 HE
  generalize inB g 0 4294967295 = b4 at H4 HE
  generalize inB t 0 99999999999 = b5 at H5 HE
  generalize whov us = b6 at H6 HE
  generalize whov gr = b7 at H7 HE
  generalize pathOkv l = bl at HL HK
  generalize signv l = bs at HS HK
  generalize inB (l.size : Int) 1 150 = bz at HZ HK
  clear hp hus hgr
  go_enter Tryz.func98, Tryz.ntmps98

  go_wp2_with fail
  refine (H1.out _).mono ?_
  rintro e w1 ⟨rfl, hb⟩
  obtain ⟨k1, b1, z1⟩ := one_new (e1 := ⟨k, p, l, m, u, g, t, us, gr, b⟩) hb
  have E1 := Lib.hid k1
  have B1 := Lib.hid b1
  clear hb k1 b1
  obtain ⟨c0, c1, c2, c3, c4, c5, c6, c7, c8, c9⟩ := E1.out.zero
  cases b1 with
  | false =>
    go_wp2_with fail
    go_ret
    exact ⟨ret_bool (by rw [HE.out]; simp), B1.out⟩
  | true =>
    go_wp2_with fail
    refine (H2.out _).mono ?_
    rintro e _ ⟨rfl, rfl⟩
    cases b2 with
    | false =>
      go_wp2_with fail
      go_ret
      exact ⟨ret_bool (by rw [HE.out]; simp), B1.out⟩
    | true =>
      go_wp2_with fail
      refine (H3.out _).mono ?_
      rintro e _ ⟨rfl, rfl⟩
      cases b3 with
      | false =>
        go_wp2_with fail
        go_ret
        exact ⟨ret_bool (by rw [HE.out]; simp), B1.out⟩
      | true =>
        go_wp2_with fail
        refine (H4.out _).mono ?_
        rintro e _ ⟨rfl, rfl⟩
        cases b4 with
        | false =>
          go_wp2_with fail
          go_ret
          exact ⟨ret_bool (by rw [HE.out]; simp), B1.out⟩
        | true =>
          go_wp2_with fail
          refine (H5.out _).mono ?_
          rintro e _ ⟨rfl, rfl⟩
          cases b5 with
          | false =>
            go_wp2_with fail
            go_ret
            exact ⟨ret_bool (by rw [HE.out]; simp), B1.out⟩
          | true =>
            go_wp2_with fail
            refine (H6.out _).mono ?_
            rintro e w2 ⟨rfl, hb⟩
            have E2 := Lib.hid (E1.out.below hb (by omega))
            have B2 := Lib.hid (btE B1.out hb)
            have z2 := Nat.le_trans z1 hb.size
            clear hb E1 B1 c0 c1 c2 c3 c4 c5 c6 c7 c8 c9
            obtain ⟨c0, c1, c2, c3, c4, c5, c6, c7, c8, c9⟩ := E2.out.zero
            cases b6 with
            | false =>
              go_wp2_with fail
              go_ret
              exact ⟨ret_bool (by rw [HE.out]; simp), B2.out⟩
            | true =>
              go_wp2_with fail
              refine (H7.out _).mono ?_
              rintro e w3 ⟨rfl, hb⟩
              have E3 := Lib.hid (E2.out.below hb (by omega))
              have B3 := Lib.hid (btE B2.out hb)
              have z3 := Nat.le_trans z2 hb.size
              clear hb E2 B2 c0 c1 c2 c3 c4 c5 c6 c7 c8 c9
              obtain ⟨c0, c1, c2, c3, c4, c5, c6, c7, c8, c9⟩ := E3.out.zero
              cases b7 with
              | false =>
                go_wp2_with fail
                go_ret
                exact ⟨ret_bool (by rw [HE.out]; simp), B3.out⟩
              | true =>
                have HR : Hid (r = r2) := Lib.hid (by rw [HE.out]; simp)
                clear HE
                by_cases k0 : k = 0
                · subst k0
                  by_cases hl0 : l.size = 0
                  · have q := empty_t hl0
                    by_cases hb0 : (b.size : Int) ≤ 3000
                    · have hb1 : b.size ≤ 3000 := by omega
                      go_wp2_with fail
                      go_ret
                      exact ⟨ret_bool (by rw [HR.out, HK.out]; simp [hl0, hb1]; try omega), B3.out⟩
                    · have hb1 : ¬ b.size ≤ 3000 := by omega
                      go_wp2_with fail
                      go_ret
                      exact ⟨ret_bool (by rw [HR.out, HK.out]; simp [hl0, hb1]; try omega), B3.out⟩
                  · have q := empty_f hl0
                    go_wp2_with fail
                    go_ret
                    exact ⟨ret_bool (by rw [HR.out, HK.out]; simp [hl0]), B3.out⟩
                · by_cases k1 : k = 1
                  · subst k1
                    by_cases hl0 : l.size = 0
                    · have q := empty_t hl0
                      by_cases hb0 : b.size = 0
                      · have q2 := empty_t hb0
                        go_wp2_with fail
                        go_ret
                        exact ⟨ret_bool (by rw [HR.out, HK.out]; simp [hl0, hb0]), B3.out⟩
                      · have q2 := empty_f hb0
                        go_wp2_with fail
                        go_ret
                        exact ⟨ret_bool (by rw [HR.out, HK.out]; simp [hl0, hb0]), B3.out⟩
                    · have q := empty_f hl0
                      go_wp2_with fail
                      go_ret
                      exact ⟨ret_bool (by rw [HR.out, HK.out]; simp [hl0]), B3.out⟩
                  · by_cases k2 : k = 2
                    · subst k2
                      go_wp2_with fail
                      refine (HZ.out _).mono ?_
                      rintro e _ ⟨rfl, rfl⟩
                      cases bz with
                      | false =>
                        go_wp2_with fail
                        go_ret
                        exact ⟨ret_bool (by rw [HR.out, HK.out]; simp), B3.out⟩
                      | true =>
                        go_wp2_with fail
                        refine (HS.out _).mono ?_
                        rintro e w4 ⟨rfl, hb⟩
                        have E4 := Lib.hid (E3.out.below hb (by omega))
                        have B4 := Lib.hid (btE B3.out hb)
                        have z4 := Nat.le_trans z3 hb.size
                        clear hb E3 B3 c0 c1 c2 c3 c4 c5 c6 c7 c8 c9
                        obtain ⟨c0, c1, c2, c3, c4, c5, c6, c7, c8, c9⟩ := E4.out.zero
                        cases bs with
                        | false =>
                          go_wp2_with fail
                          go_ret
                          exact ⟨ret_bool (by rw [HR.out, HK.out]; simp), B4.out⟩
                        | true =>
                          by_cases hb0 : b.size = 0
                          · have q2 := empty_t hb0
                            go_wp2_with fail
                            go_ret
                            exact ⟨ret_bool (by rw [HR.out, HK.out]; simp [hb0]), B4.out⟩
                          · have q2 := empty_f hb0
                            go_wp2_with fail
                            go_ret
                            exact ⟨ret_bool (by rw [HR.out, HK.out]; simp [hb0]), B4.out⟩
                    · by_cases k3 : k = 3
                      · subst k3
                        go_wp2_with fail
                        refine (HL.out _).mono ?_
                        rintro e w4 ⟨rfl, hb⟩
                        have E4 := Lib.hid (E3.out.below hb (by omega))
                        have B4 := Lib.hid (btE B3.out hb)
                        have z4 := Nat.le_trans z3 hb.size
                        clear hb E3 B3 c0 c1 c2 c3 c4 c5 c6 c7 c8 c9
                        obtain ⟨c0, c1, c2, c3, c4, c5, c6, c7, c8, c9⟩ := E4.out.zero
                        cases bl with
                        | false =>
                          go_wp2_with fail
                          go_ret
                          exact ⟨ret_bool (by rw [HR.out, HK.out]; simp), B4.out⟩
                        | true =>
                          by_cases hlp : l = p
                          · have q := ba_eq hlp
                            go_wp2_with fail
                            go_ret
                            exact ⟨ret_bool (by rw [HR.out, HK.out]; simp [hlp]), B4.out⟩
                          · have q := ba_ne hlp
                            by_cases hb0 : b.size = 0
                            · have q2 := empty_t hb0
                              go_wp2_with fail
                              go_ret
                              exact ⟨ret_bool (by rw [HR.out, HK.out]; simp [hlp, hb0]), B4.out⟩
                            · have q2 := empty_f hb0
                              go_wp2_with fail
                              go_ret
                              exact ⟨ret_bool (by rw [HR.out, HK.out]; simp [hlp, hb0]), B4.out⟩
                      · have k9 := k3
                        go_wp2_with fail
                        go_ret
                        exact ⟨ret_bool (by rw [HR.out, HK.out]; simp [k0, k1, k2, k3]), B3.out⟩
end Go.Proofs.YtancidbbkoeokabGreatDoor

/- Contracts of spec.Find and impl.Find. -/
namespace Go.Proofs.YtancidbbkoeokabGreatDoor
open Go.ChangeShapes Go.WideShapes Go.ChangeAt Go.RowKit Go.Deep

/-- The place of the first entry with a path, among the entries from i on; or none. -/
def findFrom (L : List Ent) (p : ByteArray) (i : Nat) : Int :=
  match L with
  | [] => -1
  | e :: L => if e.path = p then i else findFrom L p (i + 1)
def findv (L : List Ent) (p : ByteArray) : Int := findFrom L p 0
theorem findFrom_drop (L : List Ent) (p : ByteArray) (i : Nat) {e : Ent} (h : L[i]? = some e) : findFrom (L.drop i) p i = if e.path = p then (i : Int) else findFrom (L.drop (i + 1)) p (i + 1) := by
  have hlt : i < L.length := (List.getElem?_eq_some_iff.1 h).1
  rw [List.drop_eq_getElem_cons hlt, (List.getElem?_eq_some_iff.1 h).2, findFrom]
theorem findFrom_end (L : List Ent) (p : ByteArray) (i : Nat) (h : L.length ≤ i) : findFrom (L.drop i) p i = -1 := by
  rw [List.drop_eq_nil_of_le h, findFrom]
theorem getE' {L : List Ent} {i : Nat} (h : i < L.length) : ∃ e, L[i]? = some e := ⟨L[i], List.getElem?_eq_getElem h⟩
theorem baE_eq {a b : ByteArray} (h : a = b) : (a.toList == b.toList) = true := by rw [h]; simp
theorem baE_ne {a b : ByteArray} (h : ¬ a = b) : (a.toList == b.toList) = false := by
  simp only [beq_eq_false_iff_ne, ne_eq]
  intro e
  apply h
  obtain ⟨⟨x⟩⟩ := a
  obtain ⟨⟨y⟩⟩ := b
  simpa using e

theorem find_spec (L : List Ent) (p : ByteArray) (n g cap : Nat) (w : World) (hn : n = L.length) (hm : n ≤ 4194304) (hg : g < w.heap.size) (h1 : RowE w g L) :
    Calls Tryz.prog 99 #[.slice (some ⟨g, 0, none⟩) n cap, .string p] w fun e w' => e = .returned (.int .i64 (findv L p)) ∧ Below w.heap.size w w' := by
  have H1 := Lib.hid h1
  have HG : Hid (∀ i, i < n → ∃ e, L[i]? = some e) := Lib.hid (fun i hi => getE' (by omega))
  have HE : Hid (∀ i, n ≤ i → findFrom (L.drop i) p i = -1) := Lib.hid (fun i hi => findFrom_end L p i (by omega))
  have HD : Hid (findv L p = findFrom (L.drop 0) p 0) := Lib.hid rfl
  generalize findv L p = r at HD
  clear h1 hn
  go_enter Tryz.func99, Tryz.ntmps99
  go_wp2_with fail
  go_loopw [5] (fun u wr => ∃ i : Nat, u = .int .i64 i ∧ i ≤ n ∧ r = findFrom (L.drop i) p i ∧ Below w.heap.size w wr) (fun u _ => n - (intOf u).toNat)
  case atStart => exact ⟨0, rfl, Nat.zero_le _, HD.out, Below.refl _ _⟩
  case round =>
    obtain ⟨i, rfl, hi, hr, hb⟩ := hrel
    have HR := Lib.hid hr
    have B := Lib.hid hb
    clear hr hb
    by_cases hlt : i < n
    · have hlt2 : (i : Int) < (n : Int) := by omega
      obtain ⟨e, he⟩ := HG.out i hlt
      have HN := Lib.hid (findFrom_drop L p i he)
      obtain ⟨c0, c1, c2, c3, c4, c5, c6, c7, c8, c9⟩ := (H1.out.below B.out hg).ten he
      clear he c0 c2 c3 c4 c5 c6 c7 c8 c9
      obtain ⟨k, q, l, m, u, g0, t, us, gr, b⟩ := e
      by_cases hq : q = p
      · have hq2 := baE_eq hq
        have HF : Hid (r = i) := Lib.hid (by rw [HR.out, HN.out, if_pos hq])
        clear hq HN HR
        go_wp2_with fail
        go_ret
        exact ⟨ret_int HF.out.symm, B.out⟩
      · have hq2 := baE_ne hq
        have HF : Hid (r = findFrom (L.drop (i + 1)) p (i + 1)) := Lib.hid (by rw [HR.out, HN.out, if_neg hq])
        clear hq HN HR
        go_wp2_with fail
        go_roundw
        case rel => exact ⟨i + 1, by go_num, by omega, HF.out, B.out⟩
        case measure => simp [intOf]; omega
    · have hlt2 : ¬ (i : Int) < (n : Int) := by omega
      have HF : Hid (r = -1) := Lib.hid (by rw [HR.out, HE.out i (by omega)])
      go_wp2_with fail
      go_ret
      exact ⟨ret_int HF.out.symm, B.out⟩
end Go.Proofs.YtancidbbkoeokabGreatDoor

/- Contract of spec.ListOk. -/
namespace Go.Proofs.YtancidbbkoeokabGreatDoor
open Go.ChangeShapes Go.WideShapes Go.ChangeAt Go.RowKit Go.Deep

/-- No entry's texts are longer than a bound that no argument comes near. -/
def SmallL (L : List Ent) : Prop := ∀ e ∈ L, esz e ≤ 4194304
theorem findFrom_cases (L : List Ent) (p : ByteArray) (i : Nat) : findFrom L p i = -1 ∨ ∃ (a : Nat) (e : Ent), findFrom L p i = ((i + a : Nat) : Int) ∧ L[a]? = some e ∧ e.path = p := by
  induction L generalizing i with
  | nil => exact .inl rfl
  | cons e L ih =>
    rw [findFrom]
    by_cases h : e.path = p
    · rw [if_pos h]
      exact .inr ⟨0, e, by simp, rfl, h⟩
    · rw [if_neg h]
      rcases ih (i + 1) with h1 | ⟨a, e', h1, h2, h3⟩
      · exact .inl h1
      · exact .inr ⟨a + 1, e', by rw [h1]; congr 1; omega, by simpa using h2, h3⟩
theorem find_cases (L : List Ent) (p : ByteArray) : findv L p = -1 ∨ ∃ (a : Nat) (e : Ent), findv L p = ((a : Nat) : Int) ∧ L[a]? = some e ∧ e.path = p := by
  rcases findFrom_cases L p 0 with h | ⟨a, e, h, h1, h2⟩
  · exact .inl h
  · exact .inr ⟨a, e, by rw [findv, h]; simp, h1, h2⟩
/-- The file that a hard link among the entries behind L asks for. -/
def fileIn (L : List Ent) (p : ByteArray) : Bool := L.any fun e => decide (e.path = p) && decide (e.kind = 0)
def fileAt (L : List Ent) (p : ByteArray) : Bool := if findv L p < 0 then false else decide ((L.getD (findv L p).toNat entD).kind = 0)
theorem fileAt_none {L : List Ent} {p : ByteArray} (h : findv L p = -1) : fileAt L p = false := by simp [fileAt, h]
theorem fileAt_some {L : List Ent} {p : ByteArray} {a : Nat} {e : Ent} (h : findv L p = (a : Int)) (he : L[a]? = some e) : fileAt L p = decide (e.kind = 0) := by
  rw [fileAt, h, if_neg (by omega)]
  simp [List.getD, he]
/-- What the i-th entry e of L must be. -/
def entAtOk (L : List Ent) (i : Nat) (e : Ent) : Bool := entOkv e && decide (findv L e.path = (i : Int)) && (if e.kind = 3 then fileAt (L.take i) e.link else true)
def listOkv (L : List Ent) : Bool := ((List.range L.length).all fun i => entAtOk L i (L.getD i entD)) && decide (L.length ≤ 30)
def OksTo (L : List Ent) (i : Nat) : Prop := ∀ j, j < i → entAtOk L j (L.getD j entD) = true
theorem OksTo.step {L : List Ent} {i : Nat} {e : Ent} (h : OksTo L i) (he : L[i]? = some e) (hk : entAtOk L i e = true) : OksTo L (i + 1) := by
  intro j hj
  by_cases e1 : j = i
  · subst e1; simpa [List.getD, he] using hk
  · exact h j (by omega)
theorem listOk_bad {L : List Ent} {i : Nat} {e : Ent} (he : L[i]? = some e) (hk : entAtOk L i e = false) : listOkv L = false := by
  have hlt : i < L.length := (List.getElem?_eq_some_iff.1 he).1
  cases h : listOkv L with
  | false => rfl
  | true =>
    simp only [listOkv, Bool.and_eq_true, List.all_eq_true] at h
    have := h.1 i (List.mem_range.2 hlt)
    simp only [List.getD, he, Option.getD_some] at this
    rw [hk] at this; cases this
theorem listOk_done {L : List Ent} (h : OksTo L L.length) : listOkv L = decide (L.length ≤ 30) := by
  have : ((List.range L.length).all fun i => entAtOk L i (L.getD i entD)) = true := List.all_eq_true.2 (fun i hi => h i (List.mem_range.1 hi))
  rw [listOkv, this]; simp
theorem small_parts {e : Ent} (h : esz e ≤ 4194304) : e.path.size ≤ 4194304 ∧ e.link.size ≤ 4194304 ∧ e.user.size ≤ 4194304 ∧ e.group.size ≤ 4194304 ∧ e.body.size ≤ 4194304 := by
  simp only [esz] at h
  omega
theorem SmallL.get {L : List Ent} (h : SmallL L) {i : Nat} {e : Ent} (he : L[i]? = some e) : esz e ≤ 4194304 := h e (List.mem_of_getElem? he)
theorem kept_cellF {x w1 : World} {g k : Nat} {t : Value} (h1 : Below x.heap.size x w1) (hg : g + 1 ≤ x.heap.size) (hc : x.cell? ⟨g, k, none⟩ = .some t) : w1.cell? ⟨g, k, none⟩ = .some t := (h1.cell (p := ⟨g, k, none⟩) hg).trans hc
set_option maxHeartbeats 1600000 in
theorem listOk_spec (L : List Ent) (n g cap : Nat) (w : World) (hn : n = L.length) (hm : n ≤ 4194304) (hcap : n ≤ cap) (hg : g < w.heap.size) (hsm : SmallL L) (h1 : RowE w g L) :
    Calls Tryz.prog 46 #[.slice (some ⟨g, 0, none⟩) n cap] w fun e w' => e = .returned (.bool (listOkv L)) ∧ Below w.heap.size w w' := by
  have H1 := Lib.hid h1
  have HG : Hid (∀ i, i < n → ∃ e, L[i]? = some e ∧ esz e ≤ 4194304) := Lib.hid (fun i hi => by obtain ⟨e, he⟩ := getE' (L := L) (i := i) (by omega); exact ⟨e, he, hsm.get he⟩)
  have HBad : Hid (∀ i e, L[i]? = some e → entAtOk L i e = false → listOkv L = false) := Lib.hid (fun i e he hk => listOk_bad he hk)
  have HDone : Hid (OksTo L n → listOkv L = decide (n ≤ 30)) := Lib.hid (by rw [hn]; exact listOk_done)
  have HF := Lib.hid (fun p w (hg : g < w.heap.size) (h : RowE w g L) => find_spec L p n g cap w hn hm hg h)
  have HFt := Lib.hid (fun i p w (hi : i ≤ n) (hg : g < w.heap.size) (h : RowE w g L) => find_spec (L.take i) p i g cap w (by simp; omega) (by omega) hg (h.take i))
  generalize listOkv L = r at HBad HDone
  clear h1 hn hsm
  go_enter Tryz.func46, Tryz.ntmps46
  go_wp2_with fail
  go_loopw [3] (fun u wr => ∃ i : Nat, u = .int .i64 i ∧ i ≤ n ∧ OksTo L i ∧ Below w.heap.size w wr) (fun u _ => n - (intOf u).toNat)
  case atStart => exact ⟨0, rfl, Nat.zero_le _, fun j hj => by omega, Below.refl _ _⟩
  case round =>
    obtain ⟨i, rfl, hi, hr, hb⟩ := hrel
    have HR := Lib.hid hr
    have B := Lib.hid hb
    clear hr hb
    by_cases hlt : i < n
    · have hlt2 : (i : Int) < (n : Int) := by omega
      obtain ⟨e, he, hz⟩ := HG.out i hlt
      have R := Lib.hid (H1.out.below B.out hg)
      obtain ⟨c0, c1, c2, c3, c4, c5, c6, c7, c8, c9⟩ := R.out.ten he
      have HBi := Lib.hid (HBad.out i e he)
      have HSi := Lib.hid (fun hk => HR.out.step he hk)
      clear he HBad HG
      have hsz := small_parts hz
      obtain ⟨k, p, l, m, u, g0, t, us, gr, b⟩ := e
      have HO := Lib.hid (fun w => entryOk_spec k p l m u g0 t us gr b w hsz.1 hsz.2.1 hsz.2.2.1 hsz.2.2.2.1 hsz.2.2.2.2)
      have HA : Hid (entAtOk L i ⟨k, p, l, m, u, g0, t, us, gr, b⟩ = (entOkv ⟨k, p, l, m, u, g0, t, us, gr, b⟩ && decide (findv L p = (i : Int)) && (if k = 3 then fileAt (L.take i) l else true))) := Lib.hid rfl
      generalize entAtOk L i ⟨k, p, l, m, u, g0, t, us, gr, b⟩ = ra at HA HBi HSi
      generalize entOkv ⟨k, p, l, m, u, g0, t, us, gr, b⟩ = b1 at HA HO
      have HFi := Lib.hid (HF.out p)
      have HFl := Lib.hid (fun w => HFt.out i l w hi)
      have HFc := Lib.hid (find_cases (L.take i) l)
      have HTk : Hid (∀ a e, (L.take i)[a]? = some e → a < i ∧ L[a]? = some e) := Lib.hid (fun a e h => by
        rw [List.getElem?_take] at h
        split at h
        · exact ⟨by assumption, h⟩
        · cases h)
      have HA1 : Hid (findv (L.take i) l = -1 → fileAt (L.take i) l = false) := Lib.hid fileAt_none
      have HA2 : Hid (∀ (a : Nat) e, findv (L.take i) l = (a : Int) → (L.take i)[a]? = some e → fileAt (L.take i) l = decide (e.kind = 0)) := Lib.hid (fun a e h he => fileAt_some h he)
      generalize findv L p = f1 at HA HFi
      generalize findv (L.take i) l = f2 at HFl HFc HA1 HA2
      generalize fileAt (L.take i) l = rf at HA HA1 HA2
      have zr : g < wr.heap.size := by have := B.out.size; omega
      go_wp2_with fail
      refine (HO.out _).mono ?_
      rintro e w1 ⟨rfl, hb⟩
      obtain ⟨k1, bb, z1⟩ := one_new (e1 := ⟨k, p, l, m, u, g0, t, us, gr, b⟩) hb
      have E1 := Lib.hid k1
      have R1 := Lib.hid (R.out.below bb zr)
      have B1 := Lib.hid (btE B.out bb)
      clear hb k1 bb c0 c1 c2 c3 c4 c5 c6 c7 c8 c9 R B HO
      obtain ⟨c0, c1, c2, c3, c4, c5, c6, c7, c8, c9⟩ := E1.out.zero
      cases b1 with
      | false =>
        go_wp2_with fail
        go_ret
        exact ⟨ret_bool (HBi.out (by rw [HA.out]; simp)).symm, B1.out⟩
      | true =>
        go_wp2_with fail
        refine (HFi.out _ (by omega) R1.out).mono ?_
        rintro e w2 ⟨rfl, hb⟩
        have E2 := Lib.hid (E1.out.below hb (by omega))
        have R2 := Lib.hid (R1.out.below hb (by omega))
        have B2 := Lib.hid (btE B1.out hb)
        have z2 := Nat.le_trans z1 hb.size
        clear hb c0 c1 c2 c3 c4 c5 c6 c7 c8 c9 E1 R1 B1 HFi
        obtain ⟨c0, c1, c2, c3, c4, c5, c6, c7, c8, c9⟩ := E2.out.zero
        by_cases hf : f1 = (i : Int)
        · by_cases hk : k = 3
          · subst hk
            have hic : (i : Int) ≤ (cap : Int) := by omega
            go_wp2_with fail
            have R3 : Hid (RowE w2.drew g L) := Lib.hid R2.out
            have B3 : Hid (Below w.heap.size w w2.drew) := Lib.hid B2.out.drew
            have z3 : wr.heap.size + 1 ≤ w2.drew.heap.size := z2
            have zg : g < w2.drew.heap.size := by omega
            clear R2 B2 z2
            go_region_held3 (fun w' => w'.cell? ⟨wr.heap.size, 2, none⟩ = some (.string l)) (assumption) (first | (go_at_call 99; refine (HFl.out _ zg R3.out).mono ?_; rintro e w3 ⟨rfl, hb⟩; have d2 := kept_cellF hb z3 c2; replace R3 := Lib.hid (R3.out.below hb zg); replace B3 := Lib.hid (btE B3.out hb); replace z3 := Nat.le_trans z3 hb.size; replace zg := Nat.lt_of_lt_of_le zg hb.size; clear hb))
            clear c0 c1 c2 c3 c4 c5 c6 c7 c8 c9 E2 HFl
            rcases HFc.out with h | ⟨a, e, h, he, _⟩
            · have HX : Hid (r = false) := Lib.hid (HBi.out (by rw [HA.out, HA1.out h]; simp))
              subst h
              clear HA HBi HSi HA1 HA2 HFc HTk
              go_wp2_with fail
              go_ret
              exact ⟨ret_bool HX.out.symm, B3.out⟩
            · subst h
              obtain ⟨ha, hLa⟩ := HTk.out a e he
              have HQ := Lib.hid (HA2.out a e rfl he)
              have ha2 : (a : Int) < (n : Int) := by omega
              obtain ⟨d0, _⟩ := R3.out.ten hLa
              clear he hLa
              generalize e.kind = ek at d0 HQ
              by_cases hek : ek = 0
              · subst hek
                have HS := Lib.hid (HSi.out (by rw [HA.out, HQ.out]; simp [hf]))
                clear HA HBi HSi HA1 HA2 HFc HTk HQ
                go_wp2_with fail
                go_roundw
                case rel => exact ⟨i + 1, by go_num, by omega, HS.out, B3.out⟩
                case measure => simp [intOf]; omega
              · have HX : Hid (r = false) := Lib.hid (HBi.out (by rw [HA.out, HQ.out]; simp [hek]))
                have hek2 : (ek != 0) = true := by simpa using hek
                clear HA HBi HSi HA1 HA2 HFc HTk HQ hek
                go_wp2_with fail
                go_ret
                exact ⟨ret_bool HX.out.symm, B3.out⟩
          · have HS := Lib.hid (HSi.out (by rw [HA.out]; simp [hf, hk]))
            clear HA HBi HSi HA1 HA2 HFc HTk
            go_wp2_with fail
            go_roundw
            case rel => exact ⟨i + 1, by go_num, by omega, HS.out, B2.out⟩
            case measure => simp [intOf]; omega
        · have HX : Hid (r = false) := Lib.hid (HBi.out (by rw [HA.out]; simp [hf]))
          clear HA HBi HSi HA1 HA2 HFc HTk
          go_wp2_with fail
          go_ret
          exact ⟨ret_bool HX.out.symm, B2.out⟩
    · obtain rfl : i = n := by omega
      have hlt2 : ¬ (i : Int) < (i : Int) := by omega
      have HFin := Lib.hid (HDone.out HR.out)
      go_wp2_with fail
      go_ret
      exact ⟨ret_bool (by rw [HFin.out]; simp; try omega), B.out⟩
end Go.Proofs.YtancidbbkoeokabGreatDoor

/- The test '==' of two entries, as an equation. -/
namespace Go.Proofs.YtancidbbkoeokabGreatDoor
open Go.ChangeShapes Go.WideShapes Go.ChangeAt Go.RowKit Go.Deep

theorem tlE_inj {a b : ByteArray} : (a.toList == b.toList) = decide (a = b) := by
  by_cases h : a = b
  · subst h; simp
  · rw [decide_eq_false h]
    simp only [beq_eq_false_iff_ne, ne_eq]
    intro e
    apply h
    obtain ⟨⟨x⟩⟩ := a
    obtain ⟨⟨y⟩⟩ := b
    simpa using e
theorem run_sameE (k : Int) (p l : ByteArray) (m u g t : Int) (us gr b : ByteArray) (k' : Int) (p' l' : ByteArray) (m' u' g' t' : Int) (us' gr' b' : ByteArray) (w : World) :
    (Op.equalIn 10000 44 (.agg #[.int .i64 k, .string p, .string l, .int .i64 m, .int .i64 u, .int .i64 g, .int .i64 t, .string us, .string gr, .string b]) (.agg #[.int .i64 k', .string p', .string l', .int .i64 m', .int .i64 u', .int .i64 g', .int .i64 t', .string us', .string gr', .string b'])).run Tryz.prog w = .ok (decide ((⟨k, p, l, m, u, g, t, us, gr, b⟩ : Ent) = ⟨k', p', l', m', u', g', t', us', gr', b'⟩)) w := by
  have h1 : Tryz.prog.underlying 44 = some (.struct (Tryz.prog.fieldsOf 44)) := by kernel_rfl
  rw [show (10000 : Nat) = 9999 + 1 from rfl, run_equalIn_struct w 9999 _ _ _ h1 (by kernel_rfl)]
  simp only [Program.fieldsOf, Tryz.underlying44]
  simp [Op.eqFields, go_sem, Tryz.underlying3, Tryz.underlying9, tlE_inj]
  by_cases a0 : k = k'
  · rw [if_pos a0, decide_eq_true a0, Bool.true_and]
    by_cases a1 : p = p'
    · rw [if_pos a1, decide_eq_true a1, Bool.true_and]
      by_cases a2 : l = l'
      · rw [if_pos a2, decide_eq_true a2, Bool.true_and]
        by_cases a3 : m = m'
        · rw [if_pos a3, decide_eq_true a3, Bool.true_and]
          by_cases a4 : u = u'
          · rw [if_pos a4, decide_eq_true a4, Bool.true_and]
            by_cases a5 : g = g'
            · rw [if_pos a5, decide_eq_true a5, Bool.true_and]
              by_cases a6 : t = t'
              · rw [if_pos a6, decide_eq_true a6, Bool.true_and]
                by_cases a7 : us = us'
                · rw [if_pos a7, decide_eq_true a7, Bool.true_and]
                  by_cases a8 : gr = gr'
                  · rw [if_pos a8, decide_eq_true a8, Bool.true_and]
                    by_cases a9 : b = b'
                    · rw [if_pos a9, decide_eq_true a9]
                    · rw [if_neg a9, decide_eq_false a9]
                  · rw [if_neg a8, decide_eq_false a8, Bool.false_and]
                · rw [if_neg a7, decide_eq_false a7, Bool.false_and]
              · rw [if_neg a6, decide_eq_false a6, Bool.false_and]
            · rw [if_neg a5, decide_eq_false a5, Bool.false_and]
          · rw [if_neg a4, decide_eq_false a4, Bool.false_and]
        · rw [if_neg a3, decide_eq_false a3, Bool.false_and]
      · rw [if_neg a2, decide_eq_false a2, Bool.false_and]
    · rw [if_neg a1, decide_eq_false a1, Bool.false_and]
  · rw [if_neg a0, decide_eq_false a0, Bool.false_and]
end Go.Proofs.YtancidbbkoeokabGreatDoor

/- Contracts of spec.Size and spec.SameList. -/
namespace Go.Proofs.YtancidbbkoeokabGreatDoor
open Go.ChangeShapes Go.WideShapes Go.ChangeAt Go.RowKit Go.Deep

def sizev (L : List Ent) : Nat := (L.map fun e => e.body.size).sum
theorem sizev_take (L : List Ent) (i : Nat) {e : Ent} (h : L[i]? = some e) : sizev (L.take (i + 1)) = sizev (L.take i) + e.body.size := by
  have hlt : i < L.length := (List.getElem?_eq_some_iff.1 h).1
  rw [List.take_add_one, h]
  simp [sizev]
/-- All texts of a list together. -/
def totL (L : List Ent) : Nat := (L.map esz).sum
theorem sizev_le (L : List Ent) : sizev L ≤ totL L := by
  induction L with
  | nil => simp [sizev, totL]
  | cons e L ih => simp [sizev, totL, esz] at ih ⊢; omega
theorem totL_take (L : List Ent) (i : Nat) : totL (L.take i) ≤ totL L := by
  induction L generalizing i with
  | nil => simp [totL]
  | cons e L ih =>
    cases i with
    | zero => simp [totL]
    | succ i => have := ih i; simp [totL] at this ⊢; omega
end Go.Proofs.YtancidbbkoeokabGreatDoor

/- Contracts of laws.eqEntry and laws.eqEntryS where both are the same. -/
namespace Go.Proofs.YtancidbbkoeokabGreatDoor
open Go.ChangeShapes Go.WideShapes Go.ChangeAt Go.RowKit Go.Deep

theorem eqEntry_self (k : Int) (p l : ByteArray) (m u g t : Int) (us gr b : ByteArray) (w : World) :
    Calls Tryz.prog 28 #[.agg #[.int .i64 k, .string p, .string l, .int .i64 m, .int .i64 u, .int .i64 g, .int .i64 t, .string us, .string gr, .string b], .agg #[.int .i64 k, .string p, .string l, .int .i64 m, .int .i64 u, .int .i64 g, .int .i64 t, .string us, .string gr, .string b]] w fun e w' => e = .returned (.bool true) ∧ Below w.heap.size w w' := by
  have q1 : (p.toList == p.toList) = true := by simp
  have q2 : (l.toList == l.toList) = true := by simp
  have q3 : (us.toList == us.toList) = true := by simp
  have q4 : (gr.toList == gr.toList) = true := by simp
  have q5 : (b.toList == b.toList) = true := by simp
  go_enter Tryz.func28, Tryz.ntmps28
  go_wp2_with fail
  go_ret
  exact ⟨rfl, ((Below.refl _ w).alloc (Nat.le_refl _) _).alloc (by simp) _⟩
theorem bl_ch {w x w1 : World} (h1 : Below x.heap.size x w1) (os : x.os = w.os) (tape : x.tape = w.tape) (out : x.output = w.output) (hs : w.heap.size ≤ x.heap.size) (B : Nat) (hB : B ≤ x.heap.size) (hb : ∀ k, k < B → x.heap[k]? = w.heap[k]?) : Below B w w1 :=
  ⟨h1.os.trans os, h1.tape.trans tape, h1.output.trans out, Nat.le_trans hs h1.size, fun k hk => (h1.block k (Nat.lt_of_lt_of_le hk hB)).trans (hb k hk)⟩
theorem getE {L : List Ent} {i : Nat} (h : i < L.length) : ∃ e, L[i]? = some e := ⟨L[i], List.getElem?_eq_getElem h⟩
set_option maxHeartbeats 1600000 in
theorem eqEntryS_any (L : List Ent) (n g g2 ca cb : Nat) (w : World) (hn : n = L.length) (hm : n ≤ 4194304) (hg : g < w.heap.size) (hg2 : g2 < w.heap.size) (h1 : RowE w g L) (h2 : RowE w g2 L) :
    Calls Tryz.prog 9 #[.slice (some ⟨g, 0, none⟩) n ca, .slice (some ⟨g2, 0, none⟩) n cb] w fun e w' => e = .returned (.bool true) ∧ Below w.heap.size w w' := by
  have H1 := Lib.hid h1
  have H2 := Lib.hid h2
  have HG : Hid (∀ i, i < n → ∃ e, L[i]? = some e) := Lib.hid (fun i hi => getE (by omega))
  clear h1 h2 hn
  go_enter Tryz.func9, Tryz.ntmps9
  go_wp2_with fail
  go_loopw [5] (fun u wr => ∃ i : Nat, u = .int .i64 i ∧ i ≤ n ∧ Below w.heap.size w wr) (fun u _ => n - (intOf u).toNat)
  case atStart => exact ⟨0, rfl, Nat.zero_le _, Below.refl _ _⟩
  case round =>
    obtain ⟨i, rfl, hi, hb⟩ := hrel
    have B := Lib.hid hb
    clear hb
    by_cases hlt : i < n
    · have hlt2 : (i : Int) < (n : Int) := by omega
      obtain ⟨e, he⟩ := HG.out i hlt
      have R1 := Lib.hid (H1.out.below B.out hg)
      have R2 := Lib.hid (H2.out.below B.out hg2)
      obtain ⟨c0, c1, c2, c3, c4, c5, c6, c7, c8, c9⟩ := R1.out.ten he
      obtain ⟨d0, d1, d2, d3, d4, d5, d6, d7, d8, d9⟩ := R2.out.ten he
      clear he R1 R2
      obtain ⟨k, p, l, m, u, g0, t, us, gr, b⟩ := e
      have HQ := Lib.hid (fun w => eqEntry_self k p l m u g0 t us gr b w)
      go_wp2_with fail
      have hsz := B.out.size
      go_region_with (go_at_call 28; refine (HQ.out _).mono ?_; rintro e w1 ⟨rfl, hb1⟩; have B1 := Lib.hid (bl_ch hb1 B.out.os B.out.tape B.out.output hsz w.heap.size hsz B.out.block); clear hb1)
      all_goals
        go_wp2_with fail
        go_roundw
        case rel => exact ⟨i + 1, by go_num, by omega, B1.out.os, B1.out.tape, B1.out.output, B1.out.size, B1.out.block⟩
        case measure => simp [intOf]; omega
    · have hlt2 : ¬ (i : Int) < (n : Int) := by omega
      go_wp2_with fail
      go_ret
      exact ⟨rfl, B.out⟩
end Go.Proofs.YtancidbbkoeokabGreatDoor

/- What the laws over slices of entries share. -/
namespace Go.Proofs.YtancidbbkoeokabGreatDoor
open Go.ChangeShapes Go.WideShapes Go.ChangeAt Go.RowKit Go.Deep

theorem self_eqF (a : ByteArray) : (a.toList == a.toList) = true := by simp
theorem IsRowE.below {w w' : World} {a : Option Addr} {len cap : Nat} {es : List Ent} (h : IsRowE w a len cap es) (hb : Below w.heap.size w w') : IsRowE w' a len cap es := by
  rcases h with h | ⟨x, hx, hl, hm, hn, hc⟩
  · exact .inl h
  · refine .inr ⟨x, hx, hl, hm, hn, fun i hi => ⟨fun j hj => ?_, (hc i hi).2⟩⟩
    have h1 := (hc i hi).1 j hj
    have hsome : ∃ v, w.cell? (x.add (i * 10 + j)) = some v := by
      rw [h1]
      exact ⟨_, List.getElem?_eq_getElem (by show j < 10; exact hj)⟩
    obtain ⟨v, hv⟩ := hsome
    exact (hb.cell (cell_blk hv)).trans h1
theorem totE_take (es : List Ent) (n : Nat) (h : n ≤ es.length) : totE (fun i => es.getD i entD) n = totL (es.take n) := by
  induction n with
  | zero => simp [totE, totL]
  | succ n ih =>
    have ht : es.take (n + 1) = es.take n ++ [es[n]'(by omega)] := by rw [List.take_add_one, List.getElem?_eq_getElem (show n < es.length by omega)]; rfl
    rw [totE, ih (by omega), ht]
    have hx : es.getD n entD = es[n]'(by omega) := by simp [List.getD, List.getElem?_eq_getElem (show n < es.length by omega)]
    simp only [totL, List.map_append, List.sum_append, List.map_cons, List.map_nil, List.sum_cons, List.sum_nil, Nat.add_zero, hx]
theorem totL_mem {L : List Ent} {e : Ent} (h : e ∈ L) : esz e ≤ totL L := by
  induction L with
  | nil => cases h
  | cons f L ih =>
    rcases List.mem_cons.1 h with rfl | h
    · simp [totL]
    · have := ih h
      simp [totL] at this ⊢
      omega
theorem small_of_tot {L : List Ent} {n : Nat} (h : totL L ≤ n) (hn : n ≤ 4194304) : SmallL L := fun _ he => Nat.le_trans (totL_mem he) (Nat.le_trans h hn)
theorem IsRowE.take_len {w : World} {a : Option Addr} {len cap : Nat} {es : List Ent} (h : IsRowE w a len cap es) : (es.take len).length = len := by
  have := h.le
  simp; omega
theorem sz_facts {w : World} {a : Option Addr} {len cap : Nat} {es : List Ent} (h : IsRowE w a len cap es) {left r : Int} (hr : r = -1 ∨ 0 ≤ r ∧ (len : Int) + totE (fun i => es.getD i entD) len + r = left) (h0 : 0 ≤ r) : (len : Int) + totL (es.take len) + r = left := by
  rcases hr with rfl | ⟨_, h1⟩
  · omega
  · rw [totE_take _ _ h.le] at h1; exact h1
end Go.Proofs.YtancidbbkoeokabGreatDoor

/- Plain mathematics of a number's digits in a base; nothing of the program is said here. -/
namespace Go.Proofs.YtancidbbkoeokabGreatDoor

def dch (d : Nat) : UInt8 := if d < 10 then UInt8.ofNat (48 + d) else UInt8.ofNat (87 + d)
/-- The digits of u in base b, none for 0. -/
def digs (b u : Nat) : List UInt8 :=
  if _h : u = 0 ∨ b < 2 then [] else digs b (u / b) ++ [dch (u % b)]
termination_by u
decreasing_by exact Nat.div_lt_self (by omega) (by omega)
def numeral (b u : Nat) : List UInt8 := if u = 0 then [48] else digs b u

theorem digs_zero (b : Nat) : digs b 0 = [] := by rw [digs, dif_pos (.inl rfl)]
theorem digs_pos {b u : Nat} (hb : 2 ≤ b) (hu : 0 < u) : digs b u = digs b (u / b) ++ [dch (u % b)] := by rw [digs, dif_neg (by omega)]
theorem digs_len {b : Nat} (hb : 2 ≤ b) : ∀ (k u : Nat), u < b ^ k → (digs b u).length ≤ k
  | 0, u, h => by have : u = 0 := by simpa using h
                  subst this; simp [digs_zero]
  | k + 1, u, h => by
    by_cases hu : u = 0
    · subst hu; simp [digs_zero]
    · rw [digs_pos hb (by omega)]
      have := digs_len hb k (u / b) (by rw [Nat.div_lt_iff_lt_mul (by omega)]; rw [Nat.pow_succ] at h; exact h)
      simp; omega
theorem digs_ne {b u : Nat} (hb : 2 ≤ b) (hu : 0 < u) : digs b u ≠ [] := by rw [digs_pos hb hu]; simp
theorem decDigits_eq (u : Nat) : Lib.decDigits u = numeral 10 u := by
  have key : ∀ n u, u ≤ n → 0 < u → Lib.decDigits u = digs 10 u := by
    intro n
    induction n with
    | zero => intro u h h'; omega
    | succ n ih =>
      intro u h h'
      rw [Lib.decDigits, digs_pos (by omega) h']
      by_cases hu : u < 10
      · have e : u / 10 = 0 := by omega
        have e2 : u % 10 = u := by omega
        rw [dif_pos hu, e, e2, digs_zero, dch, if_pos hu]; rfl
      · rw [dif_neg hu, ih (u / 10) (by omega) (by omega), dch, if_pos (by omega)]
  by_cases hu : u = 0
  · subst hu; rw [Lib.decDigits]; rfl
  · rw [numeral, if_neg hu]; exact key u u (Nat.le_refl _) (by omega)

theorem hexAt (d : Nat) (h : d < 16) : (⟨#[48, 49, 50, 51, 52, 53, 54, 55, 56, 57, 97, 98, 99, 100, 101, 102]⟩ : ByteArray).extract d (d + 1) = ⟨#[dch d]⟩ := by
  match d, h with
  | 0, _ => rfl
  | 1, _ => rfl
  | 2, _ => rfl
  | 3, _ => rfl
  | 4, _ => rfl
  | 5, _ => rfl
  | 6, _ => rfl
  | 7, _ => rfl
  | 8, _ => rfl
  | 9, _ => rfl
  | 10, _ => rfl
  | 11, _ => rfl
  | 12, _ => rfl
  | 13, _ => rfl
  | 14, _ => rfl
  | 15, _ => rfl
  | n + 16, h => exact absurd h (by omega)
theorem decAt (d : Nat) (h : d < 10) : (⟨#[48, 49, 50, 51, 52, 53, 54, 55, 56, 57]⟩ : ByteArray).extract d (d + 1) = ⟨#[dch d]⟩ := by
  match d, h with
  | 0, _ => rfl
  | 1, _ => rfl
  | 2, _ => rfl
  | 3, _ => rfl
  | 4, _ => rfl
  | 5, _ => rfl
  | 6, _ => rfl
  | 7, _ => rfl
  | 8, _ => rfl
  | 9, _ => rfl
  | n + 10, h => exact absurd h (by omega)
theorem cons_str (c : UInt8) (l : List UInt8) : (⟨#[c]⟩ : ByteArray) ++ ⟨l.toArray⟩ = ⟨(c :: l).toArray⟩ := by
  apply ByteArray.ext; simp
/-- m is what is left of the number u, l the digits made so far. -/
def DigFrom (b u m : Nat) (l : List UInt8) : Prop := digs b u = digs b m ++ l
theorem DigFrom.start (b u : Nat) : DigFrom b u u [] := by simp [DigFrom]
theorem DigFrom.more {b u m : Nat} {l : List UInt8} (hb : 2 ≤ b) (hm : 0 < m) (h : DigFrom b u m l) : DigFrom b u (m / b) (dch (m % b) :: l) := by
  unfold DigFrom at *
  rw [h, digs_pos hb hm]; simp
theorem DigFrom.done {b u : Nat} {l : List UInt8} (h : DigFrom b u 0 l) : l = digs b u := by
  unfold DigFrom at h
  rw [h, digs_zero]; rfl
theorem DigFrom.len {b u m k : Nat} {l : List UInt8} (hb : 2 ≤ b) (h : DigFrom b u m l) (hu : u < b ^ k) : l.length ≤ k := by
  have h1 := digs_len hb k u hu
  unfold DigFrom at h
  rw [h] at h1
  simp at h1; omega
end Go.Proofs.YtancidbbkoeokabGreatDoor

/- One digit cut out of the strings of digits, as the program does it. -/
namespace Go.Proofs.YtancidbbkoeokabGreatDoor
theorem slice_dec (d : Int) (h0 : 0 ≤ d) (h : d < 10) (w : World) :
    (Instr.slice 9 (.string ⟨#[48, 49, 50, 51, 52, 53, 54, 55, 56, 57]⟩) (some (.int .i64 d)) (some (.int .i64 (d + 1))) none).run Tryz.prog w = .ok (.string ⟨#[dch d.toNat]⟩) w := by
  rw [run_slice_string (P := Tryz.prog) w 9 _ .i64 .i64 d (d + 1) Tryz.underlying9 h0 (by omega) (by show d + 1 ≤ 10; omega),
    show (d + 1).toNat = d.toNat + 1 by omega, decAt d.toNat (by omega)]
theorem slice_hex (d : Int) (h0 : 0 ≤ d) (h : d < 16) (w : World) :
    (Instr.slice 9 (.string ⟨#[48, 49, 50, 51, 52, 53, 54, 55, 56, 57, 97, 98, 99, 100, 101, 102]⟩) (some (.int .i64 d)) (some (.int .i64 (d + 1))) none).run Tryz.prog w = .ok (.string ⟨#[dch d.toNat]⟩) w := by
  rw [run_slice_string (P := Tryz.prog) w 9 _ .i64 .i64 d (d + 1) Tryz.underlying9 h0 (by omega) (by show d + 1 ≤ 16; omega),
    show (d + 1).toNat = d.toNat + 1 by omega, hexAt d.toNat (by omega)]
end Go.Proofs.YtancidbbkoeokabGreatDoor

/- Contracts of spec.l01Digits (bases 8, 10, 16), spec.l01Ahead with the sign 0, and strings.Repeat of one byte. -/
namespace Go.Proofs.YtancidbbkoeokabGreatDoor
open Go.ChangeShapes Go.WideShapes Go.ChangeAt Go.RowKit

def numv (b : Nat) (n : Int) : ByteArray := ⟨(numeral b n.toNat).toArray⟩
theorem numeral_len {b u k : Nat} (hb : 2 ≤ b) (hk : 1 ≤ k) (hu : u < b ^ k) : (numeral b u).length ≤ k := by
  unfold numeral; split
  · simpa using hk
  · exact digs_len hb k u hu
theorem numeral_pos {b u : Nat} (hb : 2 ≤ b) : 1 ≤ (numeral b u).length := by
  unfold numeral; split
  · simp
  · rw [digs_pos hb (by omega)]; simp
theorem ba_size (l : List UInt8) : (⟨l.toArray⟩ : ByteArray).size = l.length := by simp [ByteArray.size]
theorem ba_app (a b : List UInt8) : (⟨a.toArray⟩ : ByteArray) ++ ⟨b.toArray⟩ = ⟨(a ++ b).toArray⟩ := by apply ByteArray.ext; simp
def strLen : Value → Nat
  | .string s => s.size
  | _ => 0

theorem digits_8 (n : Int) (h0 : 0 ≤ n) (h1 : n ≤ 9007199254740991) (w : World) :
    Calls Tryz.prog 193 #[.int .i64 n, .int .i64 8] w fun e w' => e = .returned (.string (numv 8 n)) ∧ w = w' := by
  by_cases hz : n = 0
  · subst hz
    go_enter Tryz.func193, Tryz.ntmps193
    go_wp2
    go_ret
    exact ⟨rfl, rfl⟩
  · have hzb : (n == 0) = false := by simp [hz]
    go_enter Tryz.func193, Tryz.ntmps193
    go_wp2
    go_loop [0, 5] (fun m o => ∃ (x : Int) (l : List UInt8), 0 ≤ x ∧ x ≤ 9007199254740991 ∧ m = .int .i64 x ∧ o = .string ⟨l.toArray⟩ ∧ DigFrom 8 n.toNat x.toNat l) (fun m _ => (intOf m).toNat)
    case atStart => exact ⟨n, [], by omega, by omega, rfl, rfl, DigFrom.start _ _⟩
    case round =>
      obtain ⟨x, l, hx0, hx1, rfl, rfl, hD⟩ := hrel
      have hlen : l.length ≤ 20 := hD.len (by omega) (by omega)
      have HD := Lib.hid hD
      clear hD
      by_cases hx : x = 0
      · subst hx
        go_wp2
        go_ret
        refine ⟨ret_str ?_, rfl⟩
        rw [HD.out.done, numv, numeral, if_neg (by omega)]
      · have hxb : 0 < x := by omega
        have hsl := slice_hex (x % 8) (by omega) (by omega) w
        have HN := Lib.hid (show DigFrom 8 n.toNat (x / 8).toNat (dch (x % 8).toNat :: l) by
          have := HD.out.more (by omega) (by omega)
          rw [show (x / 8).toNat = x.toNat / 8 by omega, show (x % 8).toNat = x.toNat % 8 by omega]
          exact this)
        clear hx
        go_wp2
        go_round
        case rel => exact ⟨x / 8, _, by omega, by omega, rfl, by rw [cons_str], HN.out⟩
        case measure => simp [intOf]; omega

theorem digits_10 (n : Int) (h0 : 0 ≤ n) (h1 : n ≤ 9007199254740991) (w : World) :
    Calls Tryz.prog 193 #[.int .i64 n, .int .i64 10] w fun e w' => e = .returned (.string (numv 10 n)) ∧ w = w' := by
  by_cases hz : n = 0
  · subst hz
    go_enter Tryz.func193, Tryz.ntmps193
    go_wp2
    go_ret
    exact ⟨rfl, rfl⟩
  · have hzb : (n == 0) = false := by simp [hz]
    go_enter Tryz.func193, Tryz.ntmps193
    go_wp2
    go_loop [0, 5] (fun m o => ∃ (x : Int) (l : List UInt8), 0 ≤ x ∧ x ≤ 9007199254740991 ∧ m = .int .i64 x ∧ o = .string ⟨l.toArray⟩ ∧ DigFrom 10 n.toNat x.toNat l) (fun m _ => (intOf m).toNat)
    case atStart => exact ⟨n, [], by omega, by omega, rfl, rfl, DigFrom.start _ _⟩
    case round =>
      obtain ⟨x, l, hx0, hx1, rfl, rfl, hD⟩ := hrel
      have hlen : l.length ≤ 20 := hD.len (by omega) (by omega)
      have HD := Lib.hid hD
      clear hD
      by_cases hx : x = 0
      · subst hx
        go_wp2
        go_ret
        refine ⟨ret_str ?_, rfl⟩
        rw [HD.out.done, numv, numeral, if_neg (by omega)]
      · have hxb : 0 < x := by omega
        have hsl := slice_hex (x % 10) (by omega) (by omega) w
        have HN := Lib.hid (show DigFrom 10 n.toNat (x / 10).toNat (dch (x % 10).toNat :: l) by
          have := HD.out.more (by omega) (by omega)
          rw [show (x / 10).toNat = x.toNat / 10 by omega, show (x % 10).toNat = x.toNat % 10 by omega]
          exact this)
        clear hx
        go_wp2
        go_round
        case rel => exact ⟨x / 10, _, by omega, by omega, rfl, by rw [cons_str], HN.out⟩
        case measure => simp [intOf]; omega

theorem digits_16 (n : Int) (h0 : 0 ≤ n) (h1 : n ≤ 9007199254740991) (w : World) :
    Calls Tryz.prog 193 #[.int .i64 n, .int .i64 16] w fun e w' => e = .returned (.string (numv 16 n)) ∧ w = w' := by
  by_cases hz : n = 0
  · subst hz
    go_enter Tryz.func193, Tryz.ntmps193
    go_wp2
    go_ret
    exact ⟨rfl, rfl⟩
  · have hzb : (n == 0) = false := by simp [hz]
    go_enter Tryz.func193, Tryz.ntmps193
    go_wp2
    go_loop [0, 5] (fun m o => ∃ (x : Int) (l : List UInt8), 0 ≤ x ∧ x ≤ 9007199254740991 ∧ m = .int .i64 x ∧ o = .string ⟨l.toArray⟩ ∧ DigFrom 16 n.toNat x.toNat l) (fun m _ => (intOf m).toNat)
    case atStart => exact ⟨n, [], by omega, by omega, rfl, rfl, DigFrom.start _ _⟩
    case round =>
      obtain ⟨x, l, hx0, hx1, rfl, rfl, hD⟩ := hrel
      have hlen : l.length ≤ 20 := hD.len (by omega) (by omega)
      have HD := Lib.hid hD
      clear hD
      by_cases hx : x = 0
      · subst hx
        go_wp2
        go_ret
        refine ⟨ret_str ?_, rfl⟩
        rw [HD.out.done, numv, numeral, if_neg (by omega)]
      · have hxb : 0 < x := by omega
        have hsl := slice_hex (x % 16) (by omega) (by omega) w
        have HN := Lib.hid (show DigFrom 16 n.toNat (x / 16).toNat (dch (x % 16).toNat :: l) by
          have := HD.out.more (by omega) (by omega)
          rw [show (x / 16).toNat = x.toNat / 16 by omega, show (x % 16).toNat = x.toNat % 16 by omega]
          exact this)
        clear hx
        go_wp2
        go_round
        case rel => exact ⟨x / 16, _, by omega, by omega, rfl, by rw [cons_str], HN.out⟩
        case measure => simp [intOf]; omega

def ahead (l : List UInt8) (width : Int) : List UInt8 := List.replicate (width.toNat - l.length) 48 ++ l
theorem ahead_any (l : List UInt8) (width : Int) (w : World) (hl : l.length ≤ 40) (hw : width ≤ 40) :
    Calls Tryz.prog 192 #[.string ⟨l.toArray⟩, .int .i64 width, .string ⟨#[48]⟩] w fun e w' => e = .returned (.string ⟨(ahead l width).toArray⟩) ∧ w = w' := by
  go_enter Tryz.func192, Tryz.ntmps192
  go_wp2
  go_loop [0] (fun o => ∃ (r : List UInt8) (k : Nat), o = .string ⟨r.toArray⟩ ∧ Hid (r = List.replicate k 48 ++ l) ∧ r.length ≤ 80 ∧ k ≤ width.toNat - l.length ∧ Hid (r.length = k + l.length)) (fun o => width.toNat - strLen o)
  case atStart => exact ⟨l, 0, rfl, Lib.hid (by simp), by omega, by omega, Lib.hid (by omega)⟩
  case round =>
    obtain ⟨r, k, rfl, HR, hr, hk, HK⟩ := hrel
    by_cases hlt : (r.length : Int) < width
    · go_wp2
      go_round
      case rel => exact ⟨48 :: r, k + 1, by rw [cons_str], Lib.hid (by rw [HR.out]; rfl), by have := HK.out; simp only [List.length_cons]; omega, by have := HK.out; omega, Lib.hid (by have := HK.out; simp only [List.length_cons]; omega)⟩
      case measure => simp [strLen, ba_size]; omega
    · go_wp2
      go_ret
      refine ⟨ret_str ?_, rfl⟩
      have := HK.out
      rw [HR.out, ahead, show width.toNat - l.length = k by omega]

theorem repeatL_one (c : UInt8) (n : Nat) : Lib.repeatL [c] n = List.replicate n c := by
  induction n with
  | zero => rfl
  | succ n ih => rw [Lib.repeatL, ih]; simp [List.replicate_succ]
theorem repeat_one (c : UInt8) (k : Nat) (w : World) (hk : k ≤ 100) :
    Calls Tryz.prog 159 #[.string ⟨#[c]⟩, .int .i64 (k : Int)] w fun e w' => e = .returned (.string ⟨(List.replicate k c).toArray⟩) ∧ Below w.heap.size w w' := by
  have hr := Tryz.strings_Repeat ⟨#[c]⟩ k w (by omega) (by simp [ByteArray.size]; omega)
  have e1 : (⟨(Lib.repeatL (⟨#[c]⟩ : ByteArray).data.toList k).toArray⟩ : ByteArray) = ⟨(List.replicate k c).toArray⟩ := by rw [show (⟨#[c]⟩ : ByteArray).data.toList = [c] from rfl, repeatL_one]
  rw [e1] at hr
  exact hr
end Go.Proofs.YtancidbbkoeokabGreatDoor

/- Contracts of internal/strconv.formatBits and strconv.FormatInt at the bases 8 and 16, for numbers of 0 to 2^53 - 1. -/
namespace Go.Proofs.YtancidbbkoeokabGreatDoor
open Go.ChangeShapes Go.WideShapes Go.ChangeAt Go.RowKit

theorem tz64_8 (w : World) (hc : w.cell? ⟨5, 7, none⟩ = some (.int .u8 3)) :
    Calls Tryz.prog 237 #[.int .u64 8] w fun e w' => e = .returned (.int .i64 3) ∧ w = w' := by
  have e0 : IntKind.u64.wrap (bits BinOp.and IntKind.u64 8 (IntKind.u64.wrap (-8)) * 285870213051353865) / 288230376151711744 = 7 := by decide +kernel
  go_enter Tryz.func237, Tryz.ntmps237
  go_wp2
  go_ret
  exact ⟨rfl, rfl⟩
theorem tz_8 (w : World) (hc : w.cell? ⟨5, 7, none⟩ = some (.int .u8 3)) :
    Calls Tryz.prog 231 #[.int .u64 8] w fun e w' => e = .returned (.int .i64 3) ∧ w = w' := by
  go_enter Tryz.func231, Tryz.ntmps231
  go_wp2_with (go_at_call 237; refine (tz64_8 _ hc).mono ?_; rintro e w' ⟨rfl, rfl⟩)
  go_ret
  exact ⟨rfl, rfl⟩
theorem pow_8 (w : World) : Calls Tryz.prog 230 #[.int .i64 8] w fun e w' => e = .returned (.bool true) ∧ w = w' := by
  have e0 : (bits BinOp.and IntKind.i64 8 7 == 0) = true := by decide +kernel
  go_enter Tryz.func230, Tryz.ntmps230
  go_wp2
  go_ret
  exact ⟨rfl, rfl⟩

theorem tz64_16 (w : World) (hc : w.cell? ⟨5, 15, none⟩ = some (.int .u8 4)) :
    Calls Tryz.prog 237 #[.int .u64 16] w fun e w' => e = .returned (.int .i64 4) ∧ w = w' := by
  have e0 : IntKind.u64.wrap (bits BinOp.and IntKind.u64 16 (IntKind.u64.wrap (-16)) * 285870213051353865) / 288230376151711744 = 15 := by decide +kernel
  go_enter Tryz.func237, Tryz.ntmps237
  go_wp2
  go_ret
  exact ⟨rfl, rfl⟩
theorem tz_16 (w : World) (hc : w.cell? ⟨5, 15, none⟩ = some (.int .u8 4)) :
    Calls Tryz.prog 231 #[.int .u64 16] w fun e w' => e = .returned (.int .i64 4) ∧ w = w' := by
  go_enter Tryz.func231, Tryz.ntmps231
  go_wp2_with (go_at_call 237; refine (tz64_16 _ hc).mono ?_; rintro e w' ⟨rfl, rfl⟩)
  go_ret
  exact ⟨rfl, rfl⟩
theorem pow_16 (w : World) : Calls Tryz.prog 230 #[.int .i64 16] w fun e w' => e = .returned (.bool true) ∧ w = w' := by
  have e0 : (bits BinOp.and IntKind.i64 16 15 == 0) = true := by decide +kernel
  go_enter Tryz.func230, Tryz.ntmps230
  go_wp2
  go_ret
  exact ⟨rfl, rfl⟩

end Go.Proofs.YtancidbbkoeokabGreatDoor

/- Contract of internal/strconv.formatBits at the bases 8 and 16. -/
namespace Go.Proofs.YtancidbbkoeokabGreatDoor
open Go.ChangeShapes Go.WideShapes Go.ChangeAt Go.RowKit

theorem dig36_size : (⟨#[48, 49, 50, 51, 52, 53, 54, 55, 56, 57, 97, 98, 99, 100, 101, 102, 103, 104, 105, 106, 107, 108, 109, 110, 111, 112, 113, 114, 115, 116, 117, 118, 119, 120, 121, 122]⟩ : ByteArray).size = 36 := rfl
theorem dig36_at (d : Nat) (h : d < 16) : ((⟨#[48, 49, 50, 51, 52, 53, 54, 55, 56, 57, 97, 98, 99, 100, 101, 102, 103, 104, 105, 106, 107, 108, 109, 110, 111, 112, 113, 114, 115, 116, 117, 118, 119, 120, 121, 122]⟩ : ByteArray)[d]'(by rw [dig36_size]; omega)) = dch d := by
  match d, h with
  | 0, _ => rfl
  | 1, _ => rfl
  | 2, _ => rfl
  | 3, _ => rfl
  | 4, _ => rfl
  | 5, _ => rfl
  | 6, _ => rfl
  | 7, _ => rfl
  | 8, _ => rfl
  | 9, _ => rfl
  | 10, _ => rfl
  | 11, _ => rfl
  | 12, _ => rfl
  | 13, _ => rfl
  | 14, _ => rfl
  | 15, _ => rfl
  | n + 16, h => exact absurd h (by omega)
theorem index36 (d : Int) (h0 : 0 ≤ d) (h : d < 16) (w : World) :
    (Instr.index 9 (.string ⟨#[48, 49, 50, 51, 52, 53, 54, 55, 56, 57, 97, 98, 99, 100, 101, 102, 103, 104, 105, 106, 107, 108, 109, 110, 111, 112, 113, 114, 115, 116, 117, 118, 119, 120, 121, 122]⟩) (.int .u64 d)).run Tryz.prog w = .ok (.int .u8 ((dch d.toNat).toNat : Int)) w := by
  obtain ⟨k, rfl⟩ := Int.eq_ofNat_of_zero_le h0
  have hk : k < 16 := by omega
  have hd : k < 36 := by omega
  rw [run_index_string _ _ _ _ _ Tryz.underlying9]
  have e := dig36_at k hk
  simp only [dig36_size]
  rw [dif_pos (by omega)]
  simp only [Int.toNat_natCast]
  rw [e]

/-- The array of 65 bytes in block b holds the bytes l from place p on. -/
def ArrIs (w : World) (b p : Nat) (l : List UInt8) : Prop := ∃ cur, w.heap[b]? = some (.cells cur 228 (0, 0)) ∧ cur.size = 65 ∧ cur.toList.drop p = byteVals l
theorem ArrIs.new (w : World) : ArrIs (w.alloc (.cells Tryz.zeroCells228 228)) w.heap.size 65 [] :=
  ⟨Tryz.zeroCells228, heap_alloc_new w _, rfl, rfl⟩
theorem ArrIs.cell {w : World} {b p : Nat} {l : List UInt8} (h : ArrIs w b p l) (q : Nat) (hq : q < 65) : (∃ v, w.cell? ⟨b, q, none⟩ = some v) ∧ w.frozen? ⟨b, q, none⟩ = false := by
  obtain ⟨cur, hb, hs, _⟩ := h
  exact ⟨⟨_, (cell_of_row w b q cur _ _ hb).trans (Array.getElem?_eq_getElem (by omega))⟩, frozen_of_row w b q cur _ hb⟩
theorem ArrIs.store {w : World} {b q : Nat} {l : List UInt8} (h : ArrIs w b (q + 1) l) (hq : q < 65) (c : UInt8) : ArrIs (w.setCell ⟨b, q, none⟩ (.int .u8 (c.toNat : Int))) b q (c :: l) := by
  obtain ⟨cur, hb, hs, hd⟩ := h
  refine ⟨_, heap_setCell_same w b q cur _ _ hb, by simpa using hs, ?_⟩
  rw [Array.toList_setIfInBounds]
  have hl : q < cur.toList.length := by simpa [hs] using hq
  rw [List.drop_eq_getElem_cons (by simpa using hl)]
  simp [byteVals, List.drop_set_of_lt, hd]
theorem ArrIs.len {w : World} {b p : Nat} {l : List UInt8} (h : ArrIs w b p l) : l.length = 65 - p := by
  obtain ⟨cur, _, hs, hd⟩ := h
  have := congrArg List.length hd
  simp [byteVals, hs] at this
  omega
theorem ArrIs.conv {w : World} {b p : Nat} {l : List UInt8} (h : ArrIs w b p l) (cap : Nat) :
    (convert 95 9 (.slice (some ⟨b, p, none⟩) (65 - p) cap)).run Tryz.prog w = .ok (.string ⟨l.toArray⟩) w := by
  have hl := h.len
  rw [← hl]
  refine run_convert_bytes_back (P := Tryz.prog) w 95 9 5 ⟨b, p, none⟩ cap l Tryz.underlying95 Tryz.underlying5 Tryz.underlying9 ?_
  intro j hj
  obtain ⟨cur, hb, hs, hd⟩ := h
  have e : (⟨b, p, none⟩ : Addr).add j = ⟨b, p + j, none⟩ := by unfold Addr.add; split <;> simp_all
  rw [e, cell_of_row w b (p + j) cur _ _ hb]
  have h1 : (cur.toList.drop p)[j]? = (byteVals l)[j]? := by rw [hd]
  rw [List.getElem?_drop] at h1
  simp [byteVals, List.getElem?_eq_getElem hj] at h1
  rw [← h1]

theorem tab_lt {w : World} {g i : Nat} {v : Value} (h : w.cell? ⟨g, i, none⟩ = some v) : g < w.heap.size := by
  rcases Nat.lt_or_ge g w.heap.size with h' | h'
  · exact h'
  · simp [World.cell?, Array.getElem?_eq_none h'] at h
end Go.Proofs.YtancidbbkoeokabGreatDoor

/- Contract of internal/strconv.formatBits at the bases 8 and 16, for numbers of 0 to 2^53 - 1: the numeral. -/
namespace Go.Proofs.YtancidbbkoeokabGreatDoor
open Go.ChangeShapes Go.WideShapes Go.ChangeAt Go.RowKit

theorem slice65 (b p : Nat) (W : World) (hp : p < 65) : (Instr.sliceAt 228 (.pointer (some ⟨b, 0, none⟩)) (some (.int .i64 (p : Int))) none none).run Tryz.prog W = .ok (.slice (some ⟨b, p, none⟩) (65 - p) (65 - p)) W := by
  have hal : Tryz.prog.arrayLen 228 = 65 := by kernel_rfl
  have hel : Tryz.prog.elem 228 = 5 := by kernel_rfl
  have hsz : (sizeOf 5).run Tryz.prog W = .ok 1 W := by kernel_rfl
  rw [run_sliceAt_array_l W 228 ⟨b, 0, none⟩ (by kernel_rfl) .i64 (p : Int) (by omega) (by rw [hal]; omega), hal, hel, hsz]
  simp only [Result.andThen, slicedAt, Int.toNat_natCast]
  rw [if_neg (by omega)]
  have e : (⟨b, 0, none⟩ : Addr).add (p * 1) = ⟨b, p, none⟩ := by unfold Addr.add; split <;> simp_all
  rw [e]
theorem wraps_u63 (n : Int) (h₀ : 0 ≤ n) (h₁ : n < 2 ^ 63) : IntKind.u64.wrap n = n := by rw [IntKind.wrap_u64]; omega
theorem numeral_step {b u : Nat} {x : Nat} {l : List UInt8} (hb : 2 ≤ b) (hx : x < b) (h : DigFrom b u x l) (h0 : u = 0 → l = []) (h1 : 0 < u → 0 < x) : dch x :: l = numeral b u := by
  by_cases hu : u = 0
  · subst hu
    have hl := h0 rfl
    subst hl
    have : x = 0 := by
      have h2 : digs b 0 = digs b x ++ [] := h
      rcases Nat.eq_zero_or_pos x with h3 | h3
      · exact h3
      · rw [digs_zero, List.append_nil] at h2
        exact absurd h2.symm (digs_ne hb h3)
    subst this
    rfl
  · have h2 := h.more hb (h1 (by omega))
    rw [Nat.div_eq_of_lt hx, Nat.mod_eq_of_lt hx] at h2
    rw [numeral, if_neg hu, h2.done]

theorem and_7 (x : Int) (h₀ : 0 ≤ x) (h₁ : x ≤ 9007199254740991) : bits BinOp.and IntKind.u64 x 7 = x % 8 :=
  bits_mask .u64 63 (by decide) wraps_u63 3 (by decide) x h₀ (by omega)

set_option maxRecDepth 100000 in
set_option maxHeartbeats 800000 in
theorem bits_8 (u : Int) (w : World) (h0 : 0 ≤ u) (h1 : u ≤ 9007199254740991) (hc : w.cell? ⟨5, 7, none⟩ = some (.int .u8 3)) :
    Calls Tryz.prog 223 #[.slice none 0 0, .int .u64 u, .int .i64 8, .bool false, .bool false] w fun e w' => e = .returned (.tuple #[.slice none 0 0, .string ⟨(numeral 8 u.toNat).toArray⟩]) ∧ Below w.heap.size w w' := by
  have hc2 : ∀ o, (w.alloc o).cell? ⟨5, 7, none⟩ = some (.int .u8 3) := fun o => by
    rw [World.cell?_of_block (w := w) (Below.heap_alloc w o _ (tab_lt hc))]; exact hc
  have HC := Lib.hid hc2
  have hsl : ∀ (p : Nat) (W : World), p < 65 → (Instr.sliceAt 228 (.pointer (some ⟨w.heap.size, 0, none⟩)) (some (.int .i64 (p : Int))) none none).run Tryz.prog W = .ok (.slice (some ⟨w.heap.size, p, none⟩) (65 - p) (65 - p)) W := fun p W hp => slice65 w.heap.size p W hp
  have HSL := Lib.hid hsl
  clear hc2 hc hsl
  go_enter Tryz.func223, Tryz.ntmps223
  go_wp2_with (first | (go_at_call 230; refine (pow_8 _).mono ?_; rintro e w' ⟨rfl, rfl⟩) | (go_at_call 231; refine (tz_8 _ (HC.out _)).mono ?_; rintro e w' ⟨rfl, rfl⟩))
  go_loopw [1, 13] (fun m i wr => ∃ (x : Int) (p : Nat) (l : List UInt8), 0 ≤ x ∧ x ≤ 9007199254740991 ∧ p ≤ 65 ∧ 65 ≤ p + 18 ∧ m = .int .u64 x ∧ i = .int .i64 (p : Int) ∧ Hid (ArrIs wr w.heap.size p l) ∧ Hid (DigFrom 8 u.toNat x.toNat l) ∧ Hid ((u = 0 → l = []) ∧ (0 < u → 0 < x)) ∧ Below w.heap.size w wr) (fun m _ _ => (intOf m).toNat)
  case atStart => exact ⟨u, 65, [], h0, h1, by omega, by omega, rfl, rfl, Lib.hid (ArrIs.new w), Lib.hid (DigFrom.start _ _), Lib.hid ⟨fun _ => rfl, fun h => h⟩, (Below.refl _ _).alloc (Nat.le_refl _) _⟩
  case round =>
    obtain ⟨x, p, l, hx0, hx1, hp0, hp1, rfl, rfl, HA, HD, HZ, hb⟩ := hrel
    have HB := Lib.hid hb
    clear hb
    have hlen : l.length ≤ 18 := HD.out.len (k := 18) (by omega) (by omega)
    have hpl := HA.out.len
    have hp2 : 65 ≤ p + 18 := by omega
    clear hpl hlen
    obtain ⟨q, rfl⟩ : ∃ q, p = q + 1 := ⟨p - 1, by omega⟩
    obtain ⟨⟨cv, hcv⟩, hfr⟩ := HA.out.cell q (by omega)
    have hand := and_7 x hx0 hx1
    by_cases hlt : x < 8
    · have hix := index36 x hx0 (by omega) wr
      have HA2 := Lib.hid (HA.out.store (by omega) (dch x.toNat))
      have hsl := HSL.out q (wr.setCell ⟨w.heap.size, q, none⟩ (.int .u8 ((dch x.toNat).toNat : Int))) (by omega)
      have hcon := HA2.out.conv (65 - q)
      have HN := Lib.hid (numeral_step (b := 8) (by omega) (by omega) HD.out (fun h => HZ.out.1 (by omega)) (fun h => by have := HZ.out.2 (by omega); omega))
      go_wp2
      go_ret2
      refine ⟨?_, HB.out.setCell (Nat.le_refl _) _⟩
      rw [← HN.out]; rfl
    · have hix := index36 (x % 8) (by omega) (by omega) wr
      have HA2 := Lib.hid (HA.out.store (by omega) (dch (x % 8).toNat))
      have HB2 := Lib.hid (HB.out.setCell (p := ⟨w.heap.size, q, none⟩) (Nat.le_refl _) (.int .u8 ((dch (x % 8).toNat).toNat : Int)))
      have HD2 := Lib.hid (show DigFrom 8 u.toNat (x / 8).toNat (dch (x % 8).toNat :: l) by
        have := HD.out.more (by omega) (by omega)
        rw [show (x / 8).toNat = x.toNat / 8 by omega, show (x % 8).toNat = x.toNat % 8 by omega]
        exact this)
      have hq : 65 ≤ q + 18 := by
        have h2 := HD2.out.len (k := 18) (by omega) (by omega)
        have h3 := HA2.out.len
        omega
      have HZ2 := Lib.hid (show (u = 0 → dch (x % 8).toNat :: l = []) ∧ (0 < u → 0 < x / 8) from ⟨fun h => by
        have h3 := HD.out
        rw [DigFrom, h, show (0 : Int).toNat = 0 from rfl, digs_zero] at h3
        have h4 := digs_ne (b := 8) (u := x.toNat) (by omega) (by omega)
        cases hdd : digs 8 x.toNat with
        | nil => exact absurd hdd h4
        | cons a t => rw [hdd] at h3; simp at h3, fun _ => by omega⟩)
      go_wp2
      go_roundw
      case rel => exact ⟨x / 8, q, _, by omega, by omega, by omega, hq, rfl, by go_num, HA2, HD2, HZ2, HB2.out⟩
      case measure => simp [intOf]; omega

theorem and_15 (x : Int) (h₀ : 0 ≤ x) (h₁ : x ≤ 9007199254740991) : bits BinOp.and IntKind.u64 x 15 = x % 16 :=
  bits_mask .u64 63 (by decide) wraps_u63 4 (by decide) x h₀ (by omega)

set_option maxRecDepth 100000 in
set_option maxHeartbeats 800000 in
theorem bits_16 (u : Int) (w : World) (h0 : 0 ≤ u) (h1 : u ≤ 9007199254740991) (hc : w.cell? ⟨5, 15, none⟩ = some (.int .u8 4)) :
    Calls Tryz.prog 223 #[.slice none 0 0, .int .u64 u, .int .i64 16, .bool false, .bool false] w fun e w' => e = .returned (.tuple #[.slice none 0 0, .string ⟨(numeral 16 u.toNat).toArray⟩]) ∧ Below w.heap.size w w' := by
  have hc2 : ∀ o, (w.alloc o).cell? ⟨5, 15, none⟩ = some (.int .u8 4) := fun o => by
    rw [World.cell?_of_block (w := w) (Below.heap_alloc w o _ (tab_lt hc))]; exact hc
  have HC := Lib.hid hc2
  have hsl : ∀ (p : Nat) (W : World), p < 65 → (Instr.sliceAt 228 (.pointer (some ⟨w.heap.size, 0, none⟩)) (some (.int .i64 (p : Int))) none none).run Tryz.prog W = .ok (.slice (some ⟨w.heap.size, p, none⟩) (65 - p) (65 - p)) W := fun p W hp => slice65 w.heap.size p W hp
  have HSL := Lib.hid hsl
  clear hc2 hc hsl
  go_enter Tryz.func223, Tryz.ntmps223
  go_wp2_with (first | (go_at_call 230; refine (pow_16 _).mono ?_; rintro e w' ⟨rfl, rfl⟩) | (go_at_call 231; refine (tz_16 _ (HC.out _)).mono ?_; rintro e w' ⟨rfl, rfl⟩))
  go_loopw [1, 13] (fun m i wr => ∃ (x : Int) (p : Nat) (l : List UInt8), 0 ≤ x ∧ x ≤ 9007199254740991 ∧ p ≤ 65 ∧ 65 ≤ p + 14 ∧ m = .int .u64 x ∧ i = .int .i64 (p : Int) ∧ Hid (ArrIs wr w.heap.size p l) ∧ Hid (DigFrom 16 u.toNat x.toNat l) ∧ Hid ((u = 0 → l = []) ∧ (0 < u → 0 < x)) ∧ Below w.heap.size w wr) (fun m _ _ => (intOf m).toNat)
  case atStart => exact ⟨u, 65, [], h0, h1, by omega, by omega, rfl, rfl, Lib.hid (ArrIs.new w), Lib.hid (DigFrom.start _ _), Lib.hid ⟨fun _ => rfl, fun h => h⟩, (Below.refl _ _).alloc (Nat.le_refl _) _⟩
  case round =>
    obtain ⟨x, p, l, hx0, hx1, hp0, hp1, rfl, rfl, HA, HD, HZ, hb⟩ := hrel
    have HB := Lib.hid hb
    clear hb
    have hlen : l.length ≤ 14 := HD.out.len (k := 14) (by omega) (by omega)
    have hpl := HA.out.len
    have hp2 : 65 ≤ p + 14 := by omega
    clear hpl hlen
    obtain ⟨q, rfl⟩ : ∃ q, p = q + 1 := ⟨p - 1, by omega⟩
    obtain ⟨⟨cv, hcv⟩, hfr⟩ := HA.out.cell q (by omega)
    have hand := and_15 x hx0 hx1
    by_cases hlt : x < 16
    · have hix := index36 x hx0 (by omega) wr
      have HA2 := Lib.hid (HA.out.store (by omega) (dch x.toNat))
      have hsl := HSL.out q (wr.setCell ⟨w.heap.size, q, none⟩ (.int .u8 ((dch x.toNat).toNat : Int))) (by omega)
      have hcon := HA2.out.conv (65 - q)
      have HN := Lib.hid (numeral_step (b := 16) (by omega) (by omega) HD.out (fun h => HZ.out.1 (by omega)) (fun h => by have := HZ.out.2 (by omega); omega))
      go_wp2
      go_ret2
      refine ⟨?_, HB.out.setCell (Nat.le_refl _) _⟩
      rw [← HN.out]; rfl
    · have hix := index36 (x % 16) (by omega) (by omega) wr
      have HA2 := Lib.hid (HA.out.store (by omega) (dch (x % 16).toNat))
      have HB2 := Lib.hid (HB.out.setCell (p := ⟨w.heap.size, q, none⟩) (Nat.le_refl _) (.int .u8 ((dch (x % 16).toNat).toNat : Int)))
      have HD2 := Lib.hid (show DigFrom 16 u.toNat (x / 16).toNat (dch (x % 16).toNat :: l) by
        have := HD.out.more (by omega) (by omega)
        rw [show (x / 16).toNat = x.toNat / 16 by omega, show (x % 16).toNat = x.toNat % 16 by omega]
        exact this)
      have hq : 65 ≤ q + 14 := by
        have h2 := HD2.out.len (k := 14) (by omega) (by omega)
        have h3 := HA2.out.len
        omega
      have HZ2 := Lib.hid (show (u = 0 → dch (x % 16).toNat :: l = []) ∧ (0 < u → 0 < x / 16) from ⟨fun h => by
        have h3 := HD.out
        rw [DigFrom, h, show (0 : Int).toNat = 0 from rfl, digs_zero] at h3
        have h4 := digs_ne (b := 16) (u := x.toNat) (by omega) (by omega)
        cases hdd : digs 16 x.toNat with
        | nil => exact absurd hdd h4
        | cons a t => rw [hdd] at h3; simp at h3, fun _ => by omega⟩)
      go_wp2
      go_roundw
      case rel => exact ⟨x / 16, q, _, by omega, by omega, by omega, hq, rfl, by go_num, HA2, HD2, HZ2, HB2.out⟩
      case measure => simp [intOf]; omega

end Go.Proofs.YtancidbbkoeokabGreatDoor

/- Contracts of internal/strconv.FormatInt and strconv.FormatInt at the bases 8 and 16, for numbers of 0 to 2^53 - 1: the numeral. -/
namespace Go.Proofs.YtancidbbkoeokabGreatDoor
open Go.ChangeShapes Go.WideShapes Go.ChangeAt Go.RowKit

theorem ifmt_8 (u : Int) (w : World) (h0 : 0 ≤ u) (h1 : u ≤ 9007199254740991) (hc : w.cell? ⟨5, 7, none⟩ = some (.int .u8 3)) :
    Calls Tryz.prog 214 #[.int .i64 u, .int .i64 8] w fun e w' => e = .returned (.string ⟨(numeral 8 u.toNat).toArray⟩) ∧ Below w.heap.size w w' := by
  have hw : IntKind.u64.wrap u = u := wraps_u63 u h0 (by omega)
  have hd : decide (u < 0) = false := by simp; omega
  go_enter Tryz.func214, Tryz.ntmps214
  go_wp2_with fail
  refine (bits_8 u _ h0 h1 hc).mono ?_
  rintro e w' ⟨rfl, hb⟩
  go_wp2_with fail
  go_ret
  exact ⟨rfl, hb⟩
theorem fmt_8 (u : Int) (w : World) (h0 : 0 ≤ u) (h1 : u ≤ 9007199254740991) (hc : w.cell? ⟨5, 7, none⟩ = some (.int .u8 3)) :
    Calls Tryz.prog 203 #[.int .i64 u, .int .i64 8] w fun e w' => e = .returned (.string ⟨(numeral 8 u.toNat).toArray⟩) ∧ Below w.heap.size w w' := by
  go_enter Tryz.func203, Tryz.ntmps203
  go_wp2_with fail
  refine (ifmt_8 u _ h0 h1 hc).mono ?_
  rintro e w' ⟨rfl, hb⟩
  go_wp2_with fail
  go_ret
  exact ⟨rfl, hb⟩

theorem ifmt_16 (u : Int) (w : World) (h0 : 0 ≤ u) (h1 : u ≤ 9007199254740991) (hc : w.cell? ⟨5, 15, none⟩ = some (.int .u8 4)) :
    Calls Tryz.prog 214 #[.int .i64 u, .int .i64 16] w fun e w' => e = .returned (.string ⟨(numeral 16 u.toNat).toArray⟩) ∧ Below w.heap.size w w' := by
  have hw : IntKind.u64.wrap u = u := wraps_u63 u h0 (by omega)
  have hd : decide (u < 0) = false := by simp; omega
  go_enter Tryz.func214, Tryz.ntmps214
  go_wp2_with fail
  refine (bits_16 u _ h0 h1 hc).mono ?_
  rintro e w' ⟨rfl, hb⟩
  go_wp2_with fail
  go_ret
  exact ⟨rfl, hb⟩
theorem fmt_16 (u : Int) (w : World) (h0 : 0 ≤ u) (h1 : u ≤ 9007199254740991) (hc : w.cell? ⟨5, 15, none⟩ = some (.int .u8 4)) :
    Calls Tryz.prog 203 #[.int .i64 u, .int .i64 16] w fun e w' => e = .returned (.string ⟨(numeral 16 u.toNat).toArray⟩) ∧ Below w.heap.size w w' := by
  go_enter Tryz.func203, Tryz.ntmps203
  go_wp2_with fail
  refine (ifmt_16 u _ h0 h1 hc).mono ?_
  rintro e w' ⟨rfl, hb⟩
  go_wp2_with fail
  go_ret
  exact ⟨rfl, hb⟩

end Go.Proofs.YtancidbbkoeokabGreatDoor

/- Contracts of spec.DecText, impl.DecText and the law laws.FnExactDecText, for every int. -/
namespace Go.Proofs.YtancidbbkoeokabGreatDoor
open Go.ChangeShapes Go.WideShapes Go.ChangeAt Go.RowKit

theorem below_grow (w : World) (q : Nat) (os : Array Obj) : Below w.heap.size w (Sort.grow (w.drewN q) os) :=
  ⟨rfl, rfl, rfl, by simp [Sort.grow, World.drewN], fun k hk => by simp [Sort.grow, World.drewN, Array.getElem?_append, hk]⟩

def decText (n : Int) : List UInt8 := if n < 0 then 45 :: numeral 10 n.natAbs else numeral 10 n.toNat
def decTextv (n : Int) : ByteArray := ⟨(decText n).toArray⟩
theorem itoa_eq (n : Int) : Lib.itoa n = decText n := by
  unfold Lib.itoa decText; rw [decDigits_eq, decDigits_eq]

set_option maxRecDepth 4000 in
theorem decText_spec (n : Int) (h0 : -9223372036854775808 ≤ n) (h1 : n ≤ 9223372036854775807) (w : World) :
    Calls Tryz.prog 123 #[.int .i64 n] w fun e w' => e = .returned (.string (decTextv n)) ∧ w = w' := by
  by_cases hz : n = 0
  · subst hz
    go_enter Tryz.func123, Tryz.ntmps123
    go_wp2
    go_ret
    exact ⟨rfl, rfl⟩
  · have hzb : (n == 0) = false := by simp [hz]
    by_cases hp : 0 < n
    · go_enter Tryz.func123, Tryz.ntmps123
      go_wp2
      go_loop [3, 4] (fun o m => ∃ (x : Int) (l : List UInt8), 0 ≤ x ∧ x ≤ 9223372036854775807 ∧ m = .int .i64 x ∧ o = .string ⟨l.toArray⟩ ∧ DigFrom 10 n.toNat x.toNat l) (fun _ m => (intOf m).toNat)
      case atStart => exact ⟨n, [], by omega, by omega, rfl, rfl, DigFrom.start _ _⟩
      case round =>
        obtain ⟨x, l, hx0, hx1, rfl, rfl, hD⟩ := hrel
        have hlen : l.length ≤ 20 := hD.len (by omega) (by omega)
        have HD := Lib.hid hD
        clear hD
        by_cases hx : x = 0
        · subst hx
          go_wp2
          go_ret
          refine ⟨ret_str ?_, rfl⟩
          rw [HD.out.done, decTextv, decText, if_neg (by omega), numeral, if_neg (by omega)]
        · have hxb : (x != 0) = true := by simp [hx]
          have hsl := slice_dec (x % 10) (by omega) (by omega) w
          have HN := Lib.hid (show DigFrom 10 n.toNat (x / 10).toNat (dch (x % 10).toNat :: l) by
            have := HD.out.more (by omega) (by omega)
            rw [show (x / 10).toNat = x.toNat / 10 by omega, show (x % 10).toNat = x.toNat % 10 by omega]
            exact this)
          go_wp2
          go_round
          case rel => exact ⟨x / 10, _, by omega, by omega, rfl, by rw [cons_str], HN.out⟩
          case measure => simp [intOf]; omega
    · go_enter Tryz.func123, Tryz.ntmps123
      go_wp2
      go_loop [3, 4] (fun o m => ∃ (x : Int) (l : List UInt8), -9223372036854775808 ≤ x ∧ x ≤ 0 ∧ m = .int .i64 x ∧ o = .string ⟨l.toArray⟩ ∧ DigFrom 10 n.natAbs x.natAbs l) (fun _ m => (intOf m).natAbs)
      case atStart => exact ⟨n, [], by omega, by omega, rfl, rfl, DigFrom.start _ _⟩
      case round =>
        obtain ⟨x, l, hx0, hx1, rfl, rfl, hD⟩ := hrel
        have hlen : l.length ≤ 20 := hD.len (by omega) (by omega)
        have HD := Lib.hid hD
        clear hD
        by_cases hx : x = 0
        · subst hx
          have hn : n < 0 := by omega
          go_wp2
          go_ret
          refine ⟨ret_str ?_, rfl⟩
          rw [cons_str, HD.out.done, decTextv, decText, if_pos hn, numeral, if_neg (by omega)]
        · have hxb : (x != 0) = true := by simp [hx]
          obtain ⟨y, hy⟩ : ∃ y, y = -x := ⟨_, rfl⟩
          obtain rfl : x = -y := by omega
          clear hy
          have hy0 : 0 < y := by omega
          have e1 : (-y).tmod 10 = -(y % 10) := by rw [Int.neg_tmod, Int.tmod_eq_emod_of_nonneg (by omega)]
          have e2 : (-y).tdiv 10 = -(y / 10) := by rw [Int.neg_tdiv, Int.tdiv_eq_ediv_of_nonneg (by omega)]
          have HN := Lib.hid (show DigFrom 10 n.natAbs (-(y / 10)).natAbs (dch (y % 10).toNat :: l) by
            have := HD.out.more (by omega) (by omega)
            rw [show (-(y / 10)).natAbs = (-y).natAbs / 10 by omega, show (y % 10).toNat = (-y).natAbs % 10 by omega]
            exact this)
          by_cases hr : y % 10 = 0
          · have HR := Lib.hid hr
            have e3 : (-y).tmod 10 = 0 := by rw [e1, hr]; rfl
            have hsl := slice_dec 0 (by omega) (by omega) w
            rw [show (0 : Int) + 1 = 1 from rfl] at hsl
            clear e1 hr
            go_wp2
            go_round
            case rel => exact ⟨-(y / 10), dch (y % 10).toNat :: l, by omega, by omega, rfl, by rw [HR.out, ← cons_str]; rfl, HN.out⟩
            case measure => simp [intOf]; omega
          · have hr0 : 0 < y % 10 := by omega
            have hsl := slice_dec (y % 10) (by omega) (by omega) w
            clear hr
            go_wp2
            go_round
            case rel => exact ⟨-(y / 10), _, by omega, by omega, rfl, by rw [cons_str], HN.out⟩
            case measure => simp [intOf]; omega

theorem decText_impl (n : Int) (h0 : -9223372036854775808 ≤ n) (h1 : n ≤ 9223372036854775807) (w : World) (ht : Lib.TabIs Tryz.prog w "internal/strconv.uint64pow10" .u64 Lib.pow10Tab) :
    Calls Tryz.prog 91 #[.int .i64 n] w fun e w' => e = .returned (.string (decTextv n)) ∧ Below w.heap.size w w' := by
  have hc := Tryz.strconv_Itoa n h0 h1 w ht
  rw [itoa_eq] at hc
  have HC := Lib.hid hc
  have HT := Lib.hid ht
  clear hc ht
  go_enter Tryz.func91, Tryz.ntmps91
  go_wp2_with (go_at_call 145; refine HC.out.mono ?_; rintro e w' ⟨rfl, k, os, rfl⟩)
  go_ret
  exact ⟨rfl, below_grow _ _ _⟩

end Go.Proofs.YtancidbbkoeokabGreatDoor

/- The tables that strconv reads, carried from world to world; strconv.FormatInt at the bases 8, 10 and 16; impl.fieldDigits and impl.zeros. -/
namespace Go.Proofs.YtancidbbkoeokabGreatDoor
open Go.ChangeShapes Go.WideShapes Go.ChangeAt Go.RowKit

/-- What the walks ask of the library's tables. -/
def Tabs (w : World) : Prop := w.cell? ⟨5, 7, none⟩ = some (.int .u8 3) ∧ w.cell? ⟨5, 15, none⟩ = some (.int .u8 4) ∧ Lib.TabIs Tryz.prog w "internal/strconv.uint64pow10" .u64 Lib.pow10Tab
theorem Tabs.below {w w' : World} (h : Tabs w) (hb : Below w.heap.size w w') : Tabs w' :=
  ⟨(hb.cell (p := ⟨5, 7, none⟩) (tab_lt h.1)).trans h.1, (hb.cell (p := ⟨5, 15, none⟩) (tab_lt h.1)).trans h.2.1, Lib.tabBelow_of_tabIs h.2.2 w' hb⟩

theorem fmtInt_8 (n : Int) (w : World) (h0 : 0 ≤ n) (h1 : n ≤ 9007199254740991) (ht : Tabs w) :
    Calls Tryz.prog 203 #[.int .i64 n, .int .i64 8] w fun e w' => e = .returned (.string (numv 8 n)) ∧ Below w.heap.size w w' := fmt_8 n w h0 h1 ht.1
theorem fmtInt_16 (n : Int) (w : World) (h0 : 0 ≤ n) (h1 : n ≤ 9007199254740991) (ht : Tabs w) :
    Calls Tryz.prog 203 #[.int .i64 n, .int .i64 16] w fun e w' => e = .returned (.string (numv 16 n)) ∧ Below w.heap.size w w' := fmt_16 n w h0 h1 ht.2.1
theorem fmtInt_10 (n : Int) (w : World) (h0 : 0 ≤ n) (h1 : n ≤ 9007199254740991) (ht : Tabs w) :
    Calls Tryz.prog 203 #[.int .i64 n, .int .i64 10] w fun e w' => e = .returned (.string (numv 10 n)) ∧ Below w.heap.size w w' := by
  refine (Tryz.strconv_FormatInt_10 n (by omega) (by omega) w ht.2.2).mono ?_
  rintro e w' ⟨rfl, k, os, rfl⟩
  refine ⟨?_, below_grow _ _ _⟩
  rw [itoa_eq, decText, if_neg (by omega)]; rfl

theorem numv_size (b : Nat) (n : Int) : (numv b n).size = (numeral b n.toNat).length := ba_size _
def Valid (n width : Int) : Prop := 0 ≤ n ∧ n ≤ 9007199254740991 ∧ 1 ≤ width ∧ width ≤ 20

theorem field_no_8 (n width : Int) (w : World) (h : ¬ Valid n width) :
    Calls Tryz.prog 163 #[.int .i64 n, .int .i64 width, .int .i64 8] w fun e w' => e = .returned (.tuple #[.string ⟨#[]⟩, .bool false]) ∧ w = w' := by
  have HV := Lib.hid h
  clear h
  by_cases a1 : n < 0
  · go_enter Tryz.func163, Tryz.ntmps163
    go_wp2_with fail
    go_ret2
    exact ⟨rfl, rfl⟩
  · by_cases a2 : 9007199254740991 < n
    · go_enter Tryz.func163, Tryz.ntmps163
      go_wp2_with fail
      go_ret2
      exact ⟨rfl, rfl⟩
    · by_cases a3 : width < 1
      · go_enter Tryz.func163, Tryz.ntmps163
        go_wp2_with fail
        go_ret2
        exact ⟨rfl, rfl⟩
      · have a4 : 20 < width := by have := HV.out; unfold Valid at this; omega
        go_enter Tryz.func163, Tryz.ntmps163
        go_wp2_with fail
        go_ret2
        exact ⟨rfl, rfl⟩
theorem field_8 (n width : Int) (w : World) (h : Valid n width) (ht : Tabs w) :
    Calls Tryz.prog 163 #[.int .i64 n, .int .i64 width, .int .i64 8] w fun e w' => e = .returned (.tuple #[.string (numv 8 n), .bool (decide (((numv 8 n).size : Int) ≤ width))]) ∧ Below w.heap.size w w' := by
  obtain ⟨a1, a2, a3, a4⟩ := h
  have HT := Lib.hid ht
  clear ht
  have HC := Lib.hid (fmtInt_8 n w a1 a2 HT.out)
  have hs : ((numv 8 n).size : Int) ≤ 20 := by rw [numv_size]; have := numeral_len (b := 8) (u := n.toNat) (k := 20) (by omega) (by omega) (by omega); omega
  generalize numv 8 n = r at HC hs
  by_cases hle : (r.size : Int) ≤ width
  · have hd : decide ((r.size : Int) ≤ width) = true := by simpa using hle
    go_enter Tryz.func163, Tryz.ntmps163
    go_wp2_with (go_at_call 203; refine HC.out.mono ?_; rintro e w' ⟨rfl, hb⟩)
    go_ret2
    exact ⟨by rw [hd]; rfl, by assumption⟩
  · have hd : decide ((r.size : Int) ≤ width) = false := by simpa using hle
    go_enter Tryz.func163, Tryz.ntmps163
    go_wp2_with (go_at_call 203; refine HC.out.mono ?_; rintro e w' ⟨rfl, hb⟩)
    go_ret2
    exact ⟨by rw [hd]; rfl, by assumption⟩

theorem field_no_10 (n width : Int) (w : World) (h : ¬ Valid n width) :
    Calls Tryz.prog 163 #[.int .i64 n, .int .i64 width, .int .i64 10] w fun e w' => e = .returned (.tuple #[.string ⟨#[]⟩, .bool false]) ∧ w = w' := by
  have HV := Lib.hid h
  clear h
  by_cases a1 : n < 0
  · go_enter Tryz.func163, Tryz.ntmps163
    go_wp2_with fail
    go_ret2
    exact ⟨rfl, rfl⟩
  · by_cases a2 : 9007199254740991 < n
    · go_enter Tryz.func163, Tryz.ntmps163
      go_wp2_with fail
      go_ret2
      exact ⟨rfl, rfl⟩
    · by_cases a3 : width < 1
      · go_enter Tryz.func163, Tryz.ntmps163
        go_wp2_with fail
        go_ret2
        exact ⟨rfl, rfl⟩
      · have a4 : 20 < width := by have := HV.out; unfold Valid at this; omega
        go_enter Tryz.func163, Tryz.ntmps163
        go_wp2_with fail
        go_ret2
        exact ⟨rfl, rfl⟩
theorem field_10 (n width : Int) (w : World) (h : Valid n width) (ht : Tabs w) :
    Calls Tryz.prog 163 #[.int .i64 n, .int .i64 width, .int .i64 10] w fun e w' => e = .returned (.tuple #[.string (numv 10 n), .bool (decide (((numv 10 n).size : Int) ≤ width))]) ∧ Below w.heap.size w w' := by
  obtain ⟨a1, a2, a3, a4⟩ := h
  have HT := Lib.hid ht
  clear ht
  have HC := Lib.hid (fmtInt_10 n w a1 a2 HT.out)
  have hs : ((numv 10 n).size : Int) ≤ 20 := by rw [numv_size]; have := numeral_len (b := 10) (u := n.toNat) (k := 20) (by omega) (by omega) (by omega); omega
  generalize numv 10 n = r at HC hs
  by_cases hle : (r.size : Int) ≤ width
  · have hd : decide ((r.size : Int) ≤ width) = true := by simpa using hle
    go_enter Tryz.func163, Tryz.ntmps163
    go_wp2_with (go_at_call 203; refine HC.out.mono ?_; rintro e w' ⟨rfl, hb⟩)
    go_ret2
    exact ⟨by rw [hd]; rfl, by assumption⟩
  · have hd : decide ((r.size : Int) ≤ width) = false := by simpa using hle
    go_enter Tryz.func163, Tryz.ntmps163
    go_wp2_with (go_at_call 203; refine HC.out.mono ?_; rintro e w' ⟨rfl, hb⟩)
    go_ret2
    exact ⟨by rw [hd]; rfl, by assumption⟩

theorem zeros_any (l : List UInt8) (width : Int) (w : World) (h : (l.length : Int) ≤ width) (hw : width ≤ 40) :
    Calls Tryz.prog 164 #[.string ⟨l.toArray⟩, .int .i64 width] w fun e w' => e = .returned (.string ⟨(ahead l width).toArray⟩) ∧ Below w.heap.size w w' := by
  obtain ⟨k, hk⟩ := Int.eq_ofNat_of_zero_le (show 0 ≤ width - (l.length : Int) by omega)
  obtain rfl : width = (l.length : Int) + k := by omega
  have hl : l.length ≤ 40 := by omega
  have hk2 : k ≤ 40 := by omega
  have hr : (List.replicate k (48 : UInt8)).length ≤ 40 := by simpa using hk2
  have HC := Lib.hid (repeat_one 48 k w (by omega))
  generalize hR : List.replicate k (48 : UInt8) = R at HC hr
  have HR := Lib.hid hR
  clear hk hR
  go_enter Tryz.func164, Tryz.ntmps164
  go_wp2_with fail
  rw [show (l.length : Int) + k - l.length = (k : Int) from by omega]
  refine HC.out.mono ?_
  rintro e w' ⟨rfl, hb⟩
  go_wp2_with fail
  go_ret
  refine ⟨ret_str ?_, hb⟩
  rw [ba_app, ahead, show ((l.length : Int) + k).toNat - l.length = k from by omega, HR.out]
end Go.Proofs.YtancidbbkoeokabGreatDoor

/- Contracts of spec.PutOct, impl.PutOct, spec.PutHex, impl.PutHex, spec.PutDec, impl.PutDec, for all arguments. -/
namespace Go.Proofs.YtancidbbkoeokabGreatDoor
open Go.ChangeShapes Go.WideShapes Go.ChangeAt Go.RowKit

theorem ret_sb {a c : ByteArray} {b d : Bool} {r : ByteArray × Bool} (h : r = (a, b)) (h1 : c = a) (h2 : d = b) : Ending.returned (.tuple #[.string c, .bool d]) = .returned (.tuple #[.string r.1, .bool r.2]) := by
  subst h h1 h2; rfl
instance (n width : Int) : Decidable (Valid n width) := by unfold Valid; infer_instance
def putOctv (n width : Int) : ByteArray × Bool :=
  if Valid n width ∧ ((numeral 8 n.toNat).length : Int) ≤ width then (⟨(ahead (numeral 8 n.toNat) width).toArray⟩, true) else (⟨#[]⟩, false)
def putHexv (n : Int) : ByteArray × Bool :=
  if 0 ≤ n ∧ n ≤ 4294967295 then (⟨(ahead (numeral 16 n.toNat) 8).toArray⟩, true) else (⟨#[]⟩, false)
def decl (n width : Int) : List UInt8 := numeral 10 n.toNat ++ List.replicate (width.toNat - (numeral 10 n.toNat).length) 32
def putDecv (n width : Int) : ByteArray × Bool :=
  if Valid n width ∧ ((numeral 10 n.toNat).length : Int) ≤ width then (⟨(decl n width).toArray⟩, true) else (⟨#[]⟩, false)
theorem ahead_len (l : List UInt8) (width : Int) : (ahead l width).length = max width.toNat l.length := by simp [ahead]; omega

theorem putOct_spec (n width : Int) (w : World) :
    Calls Tryz.prog 155 #[.int .i64 n, .int .i64 width] w fun e w' => e = .returned (.tuple #[.string (putOctv n width).1, .bool (putOctv n width).2]) ∧ w = w' := by
  by_cases h1 : 0 ≤ n ∧ n ≤ 9007199254740991
  · have i1 := inB_t h1
    by_cases h2 : 1 ≤ width ∧ width ≤ 20
    · have i2 := inB_t h2
      have HC := Lib.hid (fun w => digits_8 n h1.1 h1.2 w)
      have hlen : (numeral 8 n.toNat).length ≤ 20 := numeral_len (by omega) (by omega) (by omega)
      have hv : Valid n width := ⟨h1.1, h1.2, h2.1, h2.2⟩
      have hal := ahead_len (numeral 8 n.toNat) width
      have HA := Lib.hid (fun w => ahead_any (numeral 8 n.toNat) width w (by omega) (by omega))
      have hp : putOctv n width = if ((numeral 8 n.toNat).length : Int) ≤ width then (⟨(ahead (numeral 8 n.toNat) width).toArray⟩, true) else (⟨#[]⟩, false) := by
        rw [putOctv]; by_cases hq : ((numeral 8 n.toNat).length : Int) ≤ width
        · rw [if_pos ⟨hv, hq⟩, if_pos hq]
        · rw [if_neg (fun k => hq k.2), if_neg hq]
      have HP := Lib.hid hp
      clear hp hv
      simp only [numv] at HC
      generalize numeral 8 n.toNat = l at HC hlen hal HA HP
      generalize ahead l width = r at hal HA HP
      by_cases hq : (l.length : Int) ≤ width
      · have hr : (r.length : Int) ≤ width := by omega
        have HH := Lib.hid hal
        clear hal
        go_enter Tryz.func155, Tryz.ntmps155
        go_wp2_with (first | (go_at_call 100; refine (in_any _ _ _ _).mono ?_; rintro e w' ⟨rfl, rfl⟩) | (go_at_call 193; refine (HC.out _).mono ?_; rintro e w' ⟨rfl, rfl⟩) | (go_at_call 192; refine (HA.out _).mono ?_; rintro e w' ⟨rfl, rfl⟩))
        go_ret2
        exact ⟨ret_sb (by rw [HP.out, if_pos hq]) rfl rfl, rfl⟩
      · have hr : width < (r.length : Int) := by omega
        have HH := Lib.hid hal
        clear hal
        go_enter Tryz.func155, Tryz.ntmps155
        go_wp2_with (first | (go_at_call 100; refine (in_any _ _ _ _).mono ?_; rintro e w' ⟨rfl, rfl⟩) | (go_at_call 193; refine (HC.out _).mono ?_; rintro e w' ⟨rfl, rfl⟩) | (go_at_call 192; refine (HA.out _).mono ?_; rintro e w' ⟨rfl, rfl⟩))
        go_ret2
        exact ⟨ret_sb (by rw [HP.out, if_neg (by omega)]) rfl rfl, rfl⟩
    · have i2 := inB_f h2
      go_enter Tryz.func155, Tryz.ntmps155
      go_wp2_with (go_at_call 100; refine (in_any _ _ _ _).mono ?_; rintro e w' ⟨rfl, rfl⟩)
      go_ret2
      exact ⟨ret_sb (by rw [putOctv, if_neg (fun k => h2 ⟨k.1.2.2.1, k.1.2.2.2⟩)]) rfl rfl, rfl⟩
  · have i1 := inB_f h1
    go_enter Tryz.func155, Tryz.ntmps155
    go_wp2_with (go_at_call 100; refine (in_any _ _ _ _).mono ?_; rintro e w' ⟨rfl, rfl⟩)
    go_ret2
    exact ⟨ret_sb (by rw [putOctv, if_neg (fun k => h1 ⟨k.1.1, k.1.2.1⟩)]) rfl rfl, rfl⟩

theorem putOct_impl (n width : Int) (w : World) (ht : Tabs w) :
    Calls Tryz.prog 110 #[.int .i64 n, .int .i64 width] w fun e w' => e = .returned (.tuple #[.string (putOctv n width).1, .bool (putOctv n width).2]) ∧ Below w.heap.size w w' := by
  by_cases hv : Valid n width
  · have HC := Lib.hid (field_8 n width w hv ht)
    have HV := Lib.hid hv
    obtain ⟨_, _, _, h20⟩ := hv
    by_cases hq : ((numeral 8 n.toNat).length : Int) ≤ width
    · have hd : decide (((numv 8 n).size : Int) ≤ width) = true := by rw [numv_size]; simpa using hq
      rw [hd] at HC
      have HZ := Lib.hid (fun w => zeros_any (numeral 8 n.toNat) width w hq (by omega))
      have HP := Lib.hid (show putOctv n width = (⟨(ahead (numeral 8 n.toNat) width).toArray⟩, true) by rw [putOctv, if_pos ⟨HV.out, hq⟩])
      clear hd hq ht
      simp only [numv] at HC
      generalize numeral 8 n.toNat = l at HC HZ HP
      go_enter Tryz.func110, Tryz.ntmps110
      go_wp2_with fail
      refine HC.out.mono ?_
      rintro e w1 ⟨rfl, b1⟩
      go_wp2_with fail
      refine (HZ.out _).mono ?_
      rintro e w2 ⟨rfl, b2⟩
      go_wp2_with fail
      go_ret2
      exact ⟨ret_sb HP.out rfl rfl, b1.trans (b2.mono b1.size)⟩
    · have hd : decide (((numv 8 n).size : Int) ≤ width) = false := by rw [numv_size]; simpa using hq
      rw [hd] at HC
      have HP := Lib.hid (show putOctv n width = (⟨#[]⟩, false) by rw [putOctv, if_neg (fun k => hq k.2)])
      clear hd hq ht
      go_enter Tryz.func110, Tryz.ntmps110
      go_wp2_with fail
      refine HC.out.mono ?_
      rintro e w1 ⟨rfl, b1⟩
      go_wp2_with fail
      go_ret2
      exact ⟨ret_sb HP.out rfl rfl, b1⟩
  · have HC := Lib.hid (field_no_8 n width w hv)
    have HP := Lib.hid (show putOctv n width = (⟨#[]⟩, false) by rw [putOctv, if_neg (fun k => hv k.1)])
    clear hv ht
    go_enter Tryz.func110, Tryz.ntmps110
    go_wp2_with fail
    refine HC.out.mono ?_
    rintro e w1 ⟨rfl, rfl⟩
    go_wp2_with fail
    go_ret2
    exact ⟨ret_sb HP.out rfl rfl, Below.refl _ _⟩

end Go.Proofs.YtancidbbkoeokabGreatDoor

/- A block of 512 bytes in memory, and the place of each field of a header in it. -/
namespace Go.Proofs.YtancidbbkoeokabGreatDoor
open Go.ChangeShapes Go.WideShapes Go.ChangeAt Go.RowKit

def Blk (w : World) (g : Nat) (l : List UInt8) : Prop := l.length = 512 ∧ w.heap[g]? = some (.cells (Lib.byteCells l).toArray 123 (0, 0))
def widths : List Nat := [100, 8, 8, 8, 12, 12, 8, 1, 100, 8, 32, 32, 8, 8, 155]
def offs (k : Nat) : Nat := (widths.take k).sum
def FW (w : World) : Prop := ∀ i x, widths[i]? = some x → w.cell? ⟨0, i, none⟩ = some (.int .i64 (x : Nat))
theorem widths_at {k : Nat} (h : k < 15) : ∃ x, widths[k]? = some x ∧ 1 ≤ x ∧ x ≤ 155 ∧ offs (k + 1) = offs k + x ∧ offs k + x ≤ 500 := by
  match k, h with
  | 0, _ => exact ⟨100, by decide⟩
  | 1, _ => exact ⟨8, by decide⟩
  | 2, _ => exact ⟨8, by decide⟩
  | 3, _ => exact ⟨8, by decide⟩
  | 4, _ => exact ⟨12, by decide⟩
  | 5, _ => exact ⟨12, by decide⟩
  | 6, _ => exact ⟨8, by decide⟩
  | 7, _ => exact ⟨1, by decide⟩
  | 8, _ => exact ⟨100, by decide⟩
  | 9, _ => exact ⟨8, by decide⟩
  | 10, _ => exact ⟨32, by decide⟩
  | 11, _ => exact ⟨32, by decide⟩
  | 12, _ => exact ⟨8, by decide⟩
  | 13, _ => exact ⟨8, by decide⟩
  | 14, _ => exact ⟨155, by decide⟩
theorem field_any (g k x : Nat) (w : World) (hk : k < 15) (hx : widths[k]? = some x) (hF : FW w) :
    Calls Tryz.prog 106 #[.pointer (some ⟨g, 0, none⟩), .int .i64 k] w fun e w' => e = .returned (.slice (some ⟨g, offs k, none⟩) x x) ∧ w' = w := by
  have HF := Lib.hid hF
  clear hF
  go_enter Tryz.func106, Tryz.ntmps106
  go_wp2
  go_loop [5, 9] (fun f i => ∃ j : Nat, j ≤ k ∧ i = .int .i64 j ∧ f = .int .i64 (offs j : Nat)) (fun _ i => k - (intOf i).toNat)
  case atStart => exact ⟨0, Nat.zero_le _, rfl, rfl⟩
  case round =>
    obtain ⟨j, hj, rfl, rfl⟩ := hrel
    obtain ⟨y, hy, y1, y2, y3, y4⟩ := widths_at (show j < 15 by omega)
    have hc := HF.out j y hy
    by_cases hlt : (j : Int) < (k : Int)
    · have HY := Lib.hid y3
      clear y3 hy
      generalize offs j = o at *
      have i1 : (j : Int) < 15 := by omega
      go_wp2
      go_round
      case rel => exact ⟨j + 1, by omega, by go_num, by rw [HY.out]; go_num⟩
      case measure => simp [intOf]; omega
    · obtain rfl : j = k := by omega
      obtain rfl : y = x := by rw [hy] at hx; exact Option.some.inj hx
      obtain ⟨o, ho⟩ : ∃ o, offs j = o := ⟨_, rfl⟩
      rw [ho] at y4
      rw [ho]
      have HO := Lib.hid ho
      clear y3 hy hx ho
      have i1 : (j : Int) < 15 := by omega
      have i2 : (0 : Int) ≤ (o : Int) := by omega
      have i3 : (o : Int) ≤ (o : Int) + (y : Int) := by omega
      have i4 : (o : Int) + (y : Int) ≤ 512 := by omega
      go_wp2
      go_ret
      exact ⟨by rw [HO.out]; rfl, rfl⟩
theorem Tryz.sizeB : (Tryz.prog.info? 5).map (·.size) = some 1 := by kernel_rfl
/-- The bytes s laid over those of l from o on. -/
def over (l : List UInt8) (o : Nat) (s : List UInt8) : List UInt8 := l.take o ++ s ++ l.drop (o + s.length)
theorem over_len {l s : List UInt8} {o : Nat} (h : o + s.length ≤ l.length) : (over l o s).length = l.length := by simp [over]; omega
theorem bc_take (l : List UInt8) (o : Nat) : (Lib.byteCells l).take o = Lib.byteCells (l.take o) := by simp [Lib.byteCells]
theorem bc_drop (l : List UInt8) (o : Nat) : (Lib.byteCells l).drop o = Lib.byteCells (l.drop o) := by simp [Lib.byteCells]
theorem bc_app (l m : List UInt8) : Lib.byteCells (l ++ m) = Lib.byteCells l ++ Lib.byteCells m := by simp [Lib.byteCells]
theorem Blk.set {w : World} {g o : Nat} {l s : List UInt8} (h : Blk w g l) (hs : o + s.length ≤ 512) : Blk (w.setRow g (Lib.byteCells (over l o s)).toArray) g (over l o s) :=
  ⟨by rw [over_len (by rw [h.1]; exact hs)]; exact h.1, setRow_heap _ _ _ _ _ _ h.2⟩
theorem below_set {B g : Nat} {w : World} (hB : B ≤ g) (cs : Array Value) : Below B w (w.setRow g cs) :=
  ⟨rfl, rfl, rfl, by simp, fun k hk => setRow_other _ _ _ _ (by omega)⟩
theorem grown_setRow (w : World) (g : Nat) (cs : Array Value) : w.grownBy (w.setRow g cs) (some g) :=
  ⟨rfl, rfl, rfl, by simp, fun k _ hne => setRow_other _ _ _ _ (fun e => hne (by rw [e]))⟩
theorem grown_below {w w' : World} {g B : Nat} (h : w.grownBy w' (some g)) (hB : B ≤ g) (hg : g < w.heap.size) : Below B w w' :=
  ⟨h.os, h.tape, h.output, h.size, fun k hk => h.block k (by omega) (fun e => by cases e; omega)⟩
theorem grown_of_below {w w' : World} {row : Option Nat} (h : Below w.heap.size w w') : w.grownBy w' row :=
  ⟨h.os, h.tape, h.output, h.size, fun k hk _ => h.block k hk⟩
theorem grown_after {w w1 w2 : World} {g : Nat} (h1 : w.grownBy w1 (some g)) (h2 : w1.grownBy w2 (some g)) : w.grownBy w2 (some g) :=
  ⟨h2.os.trans h1.os, h2.tape.trans h1.tape, h2.output.trans h1.output, Nat.le_trans h1.size h2.size, fun k hk hne => (h2.block k (Nat.lt_of_lt_of_le hk h1.size) hne).trans (h1.block k hk hne)⟩
theorem put_anyG (g k x : Nat) (l : List UInt8) (s : ByteArray) (w : World) (hk : k < 15) (hx : widths[k]? = some x) (hs : s.size ≤ x) (hF : FW w) (hB : Blk w g l) :
    Calls Tryz.prog 165 #[.pointer (some ⟨g, 0, none⟩), .int .i64 k, .string s] w fun e w' => e = .returned (.tuple #[]) ∧ Blk w' g (over l (offs k) s.data.toList) ∧ w'.heap.size = w.heap.size ∧ w.grownBy w' (some g) := by
  have H1 := Lib.hid (fun w h => field_any g k x w hk hx h)
  obtain ⟨y, hy, y1, y2, y3, y4⟩ := widths_at hk
  obtain rfl : y = x := by rw [hy] at hx; exact Option.some.inj hx
  have hsz : s.data.toList.length = s.size := by simp
  have hr := Lib.run_copy_row_string (P := Tryz.prog) w 95 9 3 5 g (offs k) y y s (Lib.byteCells l).toArray 123 Tryz.underlying95 Tryz.sizeB hB.2 hs (by simp [Lib.byteCells_length, hB.1]; omega)
  have hset : ((Lib.byteCells l).toArray.toList.take (offs k) ++ Lib.byteCells s.data.toList ++ (Lib.byteCells l).toArray.toList.drop (offs k + s.size)).toArray = (Lib.byteCells (over l (offs k) s.data.toList)).toArray := by
    simp only [over, bc_app, bc_take, bc_drop, hsz]
  rw [hset] at hr
  have HB := Lib.hid (Blk.set (o := offs k) (s := s.data.toList) hB (by rw [hsz]; omega))
  have HR := Lib.hid hr
  have HF := Lib.hid hF
  clear hr hset hB hF hx hy y3
  generalize over l (offs k) s.data.toList = m at *
  go_enter Tryz.func165, Tryz.ntmps165
  go_wp2_with fail
  refine (H1.out _ HF.out).mono ?_
  rintro e w1 ⟨rfl, rfl⟩
  have hr := HR.out
  go_wp2
  refine bodyPost_end (results_none rfl _ _ _) rfl ?_
  exact ⟨rfl, HB.out, by simp, grown_setRow _ _ _⟩
theorem put_any (g k x : Nat) (l : List UInt8) (s : ByteArray) (w : World) (hk : k < 15) (hx : widths[k]? = some x) (hs : s.size ≤ x) (hF : FW w) (hB : Blk w g l) :
    Calls Tryz.prog 165 #[.pointer (some ⟨g, 0, none⟩), .int .i64 k, .string s] w fun e w' => e = .returned (.tuple #[]) ∧ Blk w' g (over l (offs k) s.data.toList) ∧ w'.heap.size = w.heap.size ∧ ∀ B, B ≤ g → Below B w w' := by
  refine (put_anyG g k x l s w hk hx hs hF hB).mono ?_
  rintro e w' ⟨h1, h2, h3, h4⟩
  exact ⟨h1, h2, h3, fun B hb => grown_below h4 hb (Array.getElem?_eq_some_iff.1 hB.2).1⟩
end Go.Proofs.YtancidbbkoeokabGreatDoor
