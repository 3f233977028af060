/- Texts joined: RecA, RecL, DirBase, Base1M, AnyCh, RecOk, Lead, Value, ReadDecC, RecMath, PutRec, RecQ, PutRecs, PaxMath. -/
import Derived.Test.YtgpgkgahbkmdiaaGreatDoorProg
import Derived.WalkKit
import Derived.ProofKit
import Derived.OpenShut
import Derived.Below
import Derived.Deep.Fields
import Derived.Deep.Slices
import Derived.Lib.Hide
import Derived.Laws.NewBlocks
import Derived.OwnWalk
import Derived.Maps.AppendAt
import Derived.Lib.LastIndexByte
import Derived.Laws.RangeAny
import Derived.Laws.Runes
import Derived.Lib.OthersKept
import Derived.Lib.IndexAny
import Derived.Deep.RegionWith
import Derived.WalkMore
import Derived.Deep.RegionHeld3
import Derived.Lib.AppendStr
import Derived.Test.YtgpgkgahbkmdiaaGreatDoorMP4
/- Structs Record as they come in: 2 fields, each of one cell; laws.toRecord, laws.szRecord; such structs in memory. -/
namespace Go.Proofs.YtgpgkgahbkmdiaaGreatDoor
open Go.ChangeShapes Go.WideShapes Go.ChangeAt Go.RowKit Go.Deep

structure Rec where
  key : ByteArray
  value : ByteArray
deriving DecidableEq
def Rec.cells (e : Rec) : List Value := [.string e.key, .string e.value]
def I64R (n : Int) : Prop := -9223372036854775808 ≤ n ∧ n ≤ 9223372036854775807
def Rec.wf (e : Rec) : Prop := e.key.size ≤ maxLen ∧ e.value.size ≤ maxLen
section
variable {H : Type} {enc : TypeId × Value → H} {P : Program} {w : World} {base : Nat} {spare : Nat → Bool} {held : Bool}
theorem cell_ofR {t T : TypeId} {fs : Array Field} {fuel : Nat} {cs : List Value} {x : DataW H × List MemPlace} (he : P.underlying t = some (.struct fs)) (hone : oneCellFields P fs = true) (hC : P.cellsOf t = fs.size)
    (h : DataW.trod enc P w base spare held fuel t cs = some x) (j : Nat) (hT : (fs.toList.map (·.type))[j]? = some T) : ∃ c n y, cs[j]? = some c ∧ DataW.trod enc P w base spare held n T [c] = some y := by
  obtain ⟨xs, n, _, _, hl, hlen, hf⟩ := DataW.trod_struct he h
  rw [List.getElem?_map] at hT
  cases hfj : fs.toList[j]? with
  | none => rw [hfj] at hT; cases hT
  | some f =>
    rw [hfj] at hT
    obtain rfl : f.type = T := by simpa using hT
    have hj : fs[j]? = some f := by simpa using hfj
    obtain ⟨ho, hk⟩ := hone_of hone j f hj
    have hlt : j < fs.size := (Array.getElem?_eq_some_iff.1 hj).1
    have h1 := hf j f hj
    rw [ho, hk] at h1
    have hjl : j < cs.length := by omega
    have hone' : (cs.drop j).take 1 = [cs[j]] := by
      rw [List.drop_eq_getElem_cons hjl]
      rfl
    rw [hone'] at h1
    have hx : j < xs.length := by omega
    rw [List.getElem?_eq_getElem hx] at h1
    exact ⟨cs[j], n, xs[j], List.getElem?_eq_getElem hjl, h1⟩
theorem openR {t ts : TypeId} {fs : Array Field} {fuel : Nat} {cs : List Value} {x : DataW H × List MemPlace} (he : P.underlying t = some (.struct fs)) (hone : oneCellFields P fs = true) (hC : P.cellsOf t = fs.size)
    (hty : fs.toList.map (·.type) = [ts, ts]) (hs : P.underlying ts = some .string)
    (h : DataW.trod enc P w base spare held fuel t cs = some x) : ∃ e : Rec, cs = e.cells ∧ e.wf := by
  have hlen : cs.length = 2 := by
    obtain ⟨xs, n, _, _, hl, _, _⟩ := DataW.trod_struct he h
    have := congrArg List.length hty
    simp at this
    omega
  have S : ∀ j : Nat, (fs.toList.map (·.type))[j]? = some ts → ∃ s : ByteArray, cs[j]? = some (Value.string s) ∧ s.size ≤ maxLen := by
    intro j hj
    obtain ⟨c, n, y, hc, hy⟩ := cell_ofR he hone hC h j hj
    obtain ⟨s, hm, _, hw⟩ := DataW.trod_string hs hy
    obtain rfl : c = Value.string s := by simpa using hm
    exact ⟨s, hc, hw⟩
  rw [hty] at S
  obtain ⟨x0, c0, w0⟩ := S 0 rfl
  obtain ⟨x1, c1, w1⟩ := S 1 rfl
  refine ⟨⟨x0, x1⟩, ?_, w0, w1⟩
  match cs, hlen with
  | [d0, d1], _ =>
    simp only [List.getElem?_cons_zero, List.getElem?_cons_succ, Option.some.injEq] at c0 c1
    rw [c0, c1]
    rfl
end
def szvR (x0 : ByteArray) (x1 : ByteArray) (left : Int) : Int := if left < (x0.size : Int) + (x1.size : Int) then -1 else left - ((x0.size : Int) + (x1.size : Int))
def RecAt (w : World) (b o : Nat) (e : Rec) : Prop := ∀ i, i < 2 → w.cell? ⟨b, o + i, none⟩ = e.cells[i]?
theorem RecAt.below {w w' : World} {b o B : Nat} {e : Rec} (h : RecAt w b o e) (hb : Below B w w') (hg : b < B) : RecAt w' b o e := fun i hi => (hb.cell (p := ⟨b, o + i, none⟩) hg).trans (h i hi)
theorem RecAt.zero {w : World} {b : Nat} {e : Rec} (h : RecAt w b 0 e) : w.cell? ⟨b, 0, none⟩ = some (.string e.key) ∧ w.cell? ⟨b, 1, none⟩ = some (.string e.value) :=
  ⟨h 0 (by omega), h 1 (by omega)⟩
theorem RecAt.new (w : World) (e : Rec) (t : TypeId) : RecAt (w.alloc (.cells e.cells.toArray t)) w.heap.size 0 e := fun i _ => by
  rw [World.cell?_alloc_at _ _ _ _ rfl]
  simp
theorem btR {x y z : World} (h : Below x.heap.size x y) (k : Below y.heap.size y z) : Below x.heap.size x z := h.trans (k.mono h.size)
theorem one_newR {w w1 : World} {e1 : Rec} {t1 : TypeId} (h : Below (w.alloc (.cells e1.cells.toArray t1)).heap.size (w.alloc (.cells e1.cells.toArray t1)) w1) :
    RecAt w1 w.heap.size 0 e1 ∧ Below w.heap.size w w1 ∧ w.heap.size + 1 ≤ w1.heap.size := by
  have hs : (w.alloc (.cells e1.cells.toArray t1)).heap.size = w.heap.size + 1 := by simp
  exact ⟨(RecAt.new w e1 t1).below h (by omega), ((Below.refl _ w).alloc (Nat.le_refl _) _).trans (h.mono (by omega)), by have := h.size; omega⟩
/-- What a walk is told of a slice of them that came in: it is nil, or it leads to a row of cap of them. -/
def IsRowR (w : World) (a : Option Addr) (len cap : Nat) (es : List Rec) : Prop :=
  (a = none ∧ len = 0 ∧ cap = 0 ∧ es = []) ∨
  ∃ x, a = some x ∧ len ≤ cap ∧ cap ≤ maxLen ∧ es.length = cap ∧ ∀ i, (h : i < es.length) → (∀ j, j < 2 → w.cell? (x.add (i * 2 + j)) = es[i].cells[j]?) ∧ es[i].wf
section
variable {H : Type} {enc : TypeId × Value → H} {P : Program} {w : World} {base : Nat} {held : Bool}
theorem opensR {t el ts : TypeId} {fs : Array Field} {fuel : Nat} {a : Option Addr} {len cap : Nat} {x : DataW H × List MemPlace} (ht : P.underlying t = some (.slice el)) (he : P.underlying el = some (.struct fs)) (hone : oneCellFields P fs = true) (hC : P.cellsOf el = fs.size)
    (hty : fs.toList.map (·.type) = [ts, ts]) (hs : P.underlying ts = some .string)
    (h : DataW.trod enc P w base (fun _ => true) held fuel t [.slice a len cap] = some x) : ∃ es, IsRowR w a len cap es := by
  have hten : fs.size = 2 := by
    have := congrArg List.length hty
    simpa using this
  rcases open_slice ht h with ⟨hcs, _⟩ | ⟨y, l, c, m, n, D, Pl, hcs, _, hl, hm, hmm, _, hel⟩
  · simp at hcs
    obtain ⟨rfl, rfl, rfl⟩ := hcs
    exact ⟨[], .inl ⟨rfl, rfl, rfl, rfl⟩⟩
  · simp at hcs
    obtain ⟨rfl, rfl, rfl⟩ := hcs
    simp at hmm
    subst hmm
    have hex : ∀ i : Nat, ∃ e : Rec, i < m → (∀ j, j < 2 → w.cell? (y.add (i * 2 + j)) = e.cells[j]?) ∧ e.wf := by
      intro i
      by_cases him : i < m
      · obtain ⟨cs', hc, ht'⟩ := hel i him
        obtain ⟨e, rfl, hw⟩ := openR he hone hC hty hs ht'
        obtain ⟨_, _, hat⟩ := World.cells?_some hc
        rw [hC, hten] at hat
        refine ⟨e, fun _ => ⟨fun j hj => ?_, hw⟩⟩
        rw [← Go.Deep.add_add]
        exact hat j hj
      · exact ⟨⟨⟨#[]⟩, ⟨#[]⟩⟩, fun h => absurd h him⟩
    refine ⟨(List.range m).map fun i => Classical.choose (hex i), .inr ⟨y, rfl, hl, hm, by simp, fun i hi => ?_⟩⟩
    have hi' : i < m := by simpa using hi
    have := Classical.choose_spec (hex i) hi'
    simpa using this
end
end Go.Proofs.YtgpgkgahbkmdiaaGreatDoor

/- Slices of Record: laws.toRecordS, laws.szRecordS; rows of them in memory as lists (RowR, OwnR). -/
namespace Go.Proofs.YtgpgkgahbkmdiaaGreatDoor
open Go.ChangeShapes Go.WideShapes Go.ChangeAt Go.RowKit Go.Deep

theorem Tryz.infoR : (Tryz.prog.info? 47).map (fun i => (i.zero, i.size, i.bytes)) = some (some (.agg #[.string ⟨#[]⟩, .string ⟨#[]⟩]), 2, 32) := by kernel_rfl
theorem atR {w : World} {x : Addr} {n : Nat} {e : Rec} (h : ∀ j, j < 2 → w.cell? (x.add (n + j)) = e.cells[j]?) : w.cell? (x.add n) = some (.string e.key) ∧ w.cell? ⟨(x.add n).block, (x.add n).off + 1, none⟩ = some (.string e.value) := by
  refine ⟨h 0 (by omega), ?_⟩
  · exact (congrArg w.cell? (add_add x n 1)).trans (h 1 (by omega))
def zeroR : Rec := ⟨⟨#[]⟩, ⟨#[]⟩⟩
def setR (ys : List Value) (o : Nat) (e : Rec) : List Value := ((ys.set o (.string e.key)).set (o + 1) (.string e.value))
def FillR (ys : List Value) (n : Nat) (E : Nat → Rec) : Prop := ∀ k, k < n → ∀ j, j < 2 → ys[k * 2 + j]? = (E k).cells[j]?
theorem setR_in (ys : List Value) (o : Nat) (e : Rec) (h : o + 2 ≤ ys.length) (j : Nat) (hj : j < 2) : (setR ys o e)[o + j]? = e.cells[j]? := by
  match j, hj with
  | 0, _ => simp [setR, Rec.cells, List.getElem?_set]; try omega
  | 1, _ => simp [setR, Rec.cells, List.getElem?_set]; try omega
theorem setR_out (ys : List Value) (o : Nat) (e : Rec) (m : Nat) (hm : m < o) : (setR ys o e)[m]? = ys[m]? := by
  simp only [setR]
  rw [List.getElem?_set_ne (by omega), List.getElem?_set_ne (by omega)]
theorem FillR.step {ys : List Value} {i : Nat} {E : Nat → Rec} (h : FillR ys i E) (hl : i * 2 + 2 ≤ ys.length) : FillR (setR ys (i * 2) (E i)) (i + 1) E := by
  intro k hk j hj
  by_cases e : k = i
  · subst e; exact setR_in ys _ _ hl j hj
  · rw [setR_out _ _ _ _ (by omega)]; exact h k (by omega) j hj
def putR (w : World) (g o : Nat) (e : Rec) : World := ((w.setCell ⟨g, o, none⟩ (.string e.key)).setCell ⟨g, o + 1, none⟩ (.string e.value))
theorem own_putR {w : World} {base g n cap : Nat} {ty : TypeId} {ys : List Value} (h : w.ownsRow base ty 2 (.slice (some ⟨g, 0, none⟩) n cap) n ys) (o : Nat) (e : Rec) : (putR w g o e).ownsRow base ty 2 (.slice (some ⟨g, 0, none⟩) n cap) n (setR ys o e) :=
  (World.ownsRow.stored (World.ownsRow.stored h o _).1 (o + 1) _).1
theorem below_putR {w w' : World} {B g : Nat} (h : Below B w w') (hg : B ≤ g) (o : Nat) (e : Rec) : Below B w (putR w' g o e) :=
  ((h.setCell (p := ⟨g, o, none⟩) hg _).setCell (p := ⟨g, o + 1, none⟩) hg _)
theorem own_cellR {w : World} {base g n cap : Nat} {e : TypeId} {ys : List Value} (h : w.ownsRow base e 2 (.slice (some ⟨g, 0, none⟩) n cap) n ys) {i : Nat} (hi : i < n) (j : Nat) (hj : j < 2) : ∃ y, w.cell? ⟨g, i * 2 + j, none⟩ = some y := by
  rcases h.2 with ⟨h', _⟩ | ⟨g', cap', cur, h', _, hg, hnc, _, hcs, _⟩
  · simp at h'
  · simp only [Value.slice.injEq, Option.some.injEq, Addr.mk.injEq, and_true, true_and] at h'
    obtain ⟨rfl, rfl⟩ := h'
    have hlt : i * 2 + j < cur.size := by omega
    exact ⟨cur[i * 2 + j], by simp [World.cell?, hg, Array.getElem?_eq_getElem hlt]⟩
theorem cell_blkR {w : World} {a : Addr} {v : Value} (h : w.cell? a = some v) : a.block < w.heap.size := by
  by_cases hb : a.block < w.heap.size
  · exact hb
  · exfalso
    unfold World.cell? at h
    rw [Array.getElem?_eq_none (by omega)] at h
    cases a.spot <;> simp_all
/-- The letters of its texts. -/
def szR (e : Rec) : Nat := e.key.size + e.value.size
def totRf (E : Nat → Rec) : Nat → Nat
  | 0 => 0
  | n + 1 => totRf E n + szR (E n)
theorem szvR_eq (x0 : ByteArray) (x1 : ByteArray) (left : Int) : szvR x0 x1 left = if left < (szR ⟨x0, x1⟩ : Int) then -1 else left - (szR ⟨x0, x1⟩ : Int) := by
  have : (szR ⟨x0, x1⟩ : Int) = (x0.size : Int) + (x1.size : Int) := by simp [szR]
  rw [this]; rfl
def SzSR (E : Nat → Rec) (len : Nat) (left : Int) (w : World) (e : Ending) (w' : World) : Prop :=
  (∃ r : Int, e = .returned (.int .i64 r) ∧ (r = -1 ∨ 0 ≤ r ∧ (len : Int) + totRf E len + r = left)) ∧ Below w.heap.size w w'
def valsR (L : List Rec) : List Value := L.flatMap Rec.cells
theorem cells_lenR (e : Rec) : e.cells.length = 2 := rfl
theorem valsR_len (L : List Rec) : (valsR L).length = L.length * 2 := by
  induction L with
  | nil => rfl
  | cons e L ih => simp only [valsR, List.flatMap_cons, List.length_append, cells_lenR, List.length_cons] at ih ⊢; omega
theorem valsR_app (L M : List Rec) : valsR (L ++ M) = valsR L ++ valsR M := by simp [valsR]
theorem valsR_one (e : Rec) : valsR [e] = e.cells := by simp [valsR]
theorem valsR_get (L : List Rec) (i j : Nat) (hj : j < 2) : (valsR L)[i * 2 + j]? = L[i]?.bind (fun e => e.cells[j]?) := by
  induction L generalizing i with
  | nil => simp [valsR]
  | cons e L ih =>
    simp only [valsR, List.flatMap_cons] at ih ⊢
    cases i with
    | zero =>
      rw [List.getElem?_append_left (by rw [cells_lenR]; omega)]
      simp
    | succ i =>
      rw [List.getElem?_append_right (by rw [cells_lenR]; omega), cells_lenR, show (i + 1) * 2 + j - 2 = i * 2 + j from by omega, ih]
      simp
theorem valsR_onecell (L : List Rec) : ∀ u ∈ valsR L, u.oneCell' = true := by
  intro u hu
  simp only [valsR, List.mem_flatMap] at hu
  obtain ⟨e, _, he⟩ := hu
  simp only [Rec.cells, List.mem_cons, List.not_mem_nil, or_false] at he
  rcases he with rfl | rfl <;> rfl
/-- The cells of block g, from its first on, are the list. -/
def RowR (w : World) (g : Nat) (L : List Rec) : Prop := ∀ k u, (valsR L)[k]? = some u → w.cell? ⟨g, k, none⟩ = some u
theorem RowR.below {w w' : World} {g B : Nat} {L : List Rec} (h : RowR w g L) (hb : Below B w w') (hg : g < B) : RowR w' g L :=
  fun k u hu => (hb.cell (p := ⟨g, k, none⟩) hg).trans (h k u hu)
theorem RowR.grown {w w' : World} {g : Nat} {row : Option Nat} {L : List Rec} (h : RowR w g L) (hb : w.grownBy w' row) (hg : some g ≠ row) : RowR w' g L :=
  fun k u hu => hb.cell (h k u hu) hg
theorem RowR.cols {w : World} {g : Nat} {L : List Rec} (h : RowR w g L) {i : Nat} {e : Rec} (hi : L[i]? = some e) : w.cell? ⟨g, i * 2, none⟩ = some (.string e.key) ∧ w.cell? ⟨g, i * 2 + 1, none⟩ = some (.string e.value) := by
  have H : ∀ j u, j < 2 → e.cells[j]? = some u → w.cell? ⟨g, i * 2 + j, none⟩ = some u := fun j u hj hu => h _ u (by rw [valsR_get _ _ _ hj, hi]; exact hu)
  exact ⟨H 0 _ (by omega) rfl, H 1 _ (by omega) rfl⟩
/-- A row of the call's own that is not nil. -/
def OwnR (w : World) (base : Nat) (v : Value) (L : List Rec) : Prop := w.ownsRow base 47 2 v L.length (valsR L) ∧ ∃ g cap, v = .slice (some ⟨g, 0, none⟩) L.length cap
theorem OwnR.row {w : World} {base g n cap : Nat} {L : List Rec} (h : OwnR w base (.slice (some ⟨g, 0, none⟩) n cap) L) : RowR w g L ∧ g < w.heap.size ∧ base ≤ g ∧ n = L.length := by
  refine ⟨fun k u hu => ?_, (World.ownsRow.lt h.1 g rfl).2, (World.ownsRow.lt h.1 g rfl).1, ?_⟩
  · have := World.ownsRow.cells h.1 (g := g) rfl k u hu
    rwa [show (⟨g, 0, none⟩ : Addr).add k = ⟨g, k, none⟩ from by unfold Addr.add; split <;> simp_all] at this
  · obtain ⟨g', cap', e⟩ := h.2
    simp at e
    exact e.2.1
theorem OwnR.open {w : World} {base : Nat} {v : Value} {L : List Rec} (h : OwnR w base v L) : ∃ g cap, v = .slice (some ⟨g, 0, none⟩) L.length cap ∧ RowR w g L ∧ g < w.heap.size ∧ base ≤ g ∧ w.ownsRow base 47 2 (.slice (some ⟨g, 0, none⟩) L.length cap) L.length (valsR L) := by
  obtain ⟨ho, g, cap, rfl⟩ := h
  have hr := OwnR.row (w := w) ⟨ho, g, cap, rfl⟩
  exact ⟨g, cap, rfl, hr.1, hr.2.1, hr.2.2.1, ho⟩
theorem OwnR.keep {w w' : World} {base : Nat} {v : Value} {L : List Rec} (h : OwnR w base v L) (hb : Below w.heap.size w w') : OwnR w' base v L := by
  obtain ⟨ho, g, cap, rfl⟩ := h
  exact ⟨World.ownsRow.kept ho (w' := w') (row := none) ⟨hb.os, hb.tape, hb.output, hb.size, fun k hk _ => hb.block k hk⟩ (.inr (by simp [Value.ownBlock])), g, cap, rfl⟩
theorem OwnR.kept {w w' : World} {base g n cap : Nat} {row : Option Nat} {L : List Rec} (h : OwnR w base (.slice (some ⟨g, 0, none⟩) n cap) L) (hb : w.grownBy w' row) (hg : some g ≠ row) : OwnR w' base (.slice (some ⟨g, 0, none⟩) n cap) L :=
  ⟨World.ownsRow.kept h.1 hb (.inr (by simpa [Value.ownBlock] using hg)), h.2⟩
theorem OwnR.weak {w : World} {base base' : Nat} {v : Value} {L : List Rec} (h : OwnR w base v L) (hb : base' ≤ base) : OwnR w base' v L := by
  refine ⟨⟨h.1.1, ?_⟩, h.2⟩
  rcases h.1.2 with h' | ⟨g', cap', cur, h', hx, rest⟩
  · exact .inl h'
  · exact .inr ⟨g', cap', cur, h', Nat.le_trans hb hx, rest⟩
theorem OwnR.lit {w : World} {base : Nat} (hb : base ≤ w.heap.size) : OwnR (w.alloc (.cells #[] 47)) base (.slice (some ⟨w.heap.size, 0, none⟩) 0 0) [] :=
  ⟨World.ownsRow_lit w #[] 0 hb (by simp) rfl, _, _, rfl⟩
theorem own_appR {w1 : World} {base : Nat} {v' : Value} {D M : List Rec} {n m : Nat} (h : w1.ownsRow base 47 2 v' (n + m) (valsR D ++ valsR M)) (hn : n = D.length) (hm : m = M.length) (hnil : ¬ v' = .slice none 0 0) : OwnR w1 base v' (D ++ M) := by
  subst hn; subst hm
  rw [← valsR_app, show D.length + M.length = (D ++ M).length from by simp] at h
  refine ⟨h, ?_⟩
  obtain ⟨_, ⟨rfl, _⟩ | ⟨g', cap', cur, rfl, _⟩⟩ := h
  · exact absurd rfl hnil
  · exact ⟨g', cap', rfl⟩
theorem RowR.news0 {w : World} {g : Nat} {L : List Rec} (h : RowR w g L) : ∀ j u, (valsR L)[j]? = some u → w.cell? ((⟨g, 0, none⟩ : Addr).add j) = some u := by
  intro j u hu
  rw [show (⟨g, 0, none⟩ : Addr).add j = ⟨g, j, none⟩ from by unfold Addr.add; split <;> simp_all]
  exact h _ u hu
theorem newR (w : World) (e : Rec) (t : TypeId) : ∀ j u, (valsR [e])[j]? = some u → (w.alloc (.cells e.cells.toArray t)).cell? ((⟨w.heap.size, 0, none⟩ : Addr).add j) = some u := by
  intro j u hu
  rw [valsR_one] at hu
  have hj : j < 2 := by
    by_cases h : j < 2
    · exact h
    · rw [List.getElem?_eq_none (by rw [cells_lenR]; omega)] at hu; cases hu
  rw [show (⟨w.heap.size, 0, none⟩ : Addr).add j = ⟨w.heap.size, 0 + j, none⟩ from by unfold Addr.add; split <;> simp_all, RecAt.new w e t j hj]
  exact hu
theorem fillR_vals {ys : List Value} {n : Nat} {E : Nat → Rec} (h : FillR ys n E) (hl : ys.length = n * 2) : ys = valsR ((List.range n).map E) := by
  apply List.ext_getElem?
  intro k
  by_cases hk : k < n * 2
  · have h1 := h (k / 2) (by omega) (k % 2) (by omega)
    have h2 := valsR_get ((List.range n).map E) (k / 2) (k % 2) (by omega)
    rw [show k / 2 * 2 + k % 2 = k from by omega] at h1 h2
    rw [h1, h2, List.getElem?_map, List.getElem?_range (by omega)]
    rfl
  · rw [List.getElem?_eq_none (by omega), List.getElem?_eq_none (by rw [valsR_len]; simp; omega)]
theorem range_takeR {es : List Rec} {n : Nat} (h : n ≤ es.length) : (List.range n).map (fun i => es.getD i zeroR) = es.take n := by
  apply List.ext_getElem?
  intro k
  by_cases hk : k < n
  · rw [List.getElem?_map, List.getElem?_range hk, List.getElem?_take, if_pos hk]
    simp [List.getD, List.getElem?_eq_getElem (show k < es.length by omega)]
  · rw [List.getElem?_eq_none (by simp; omega), List.getElem?_take, if_neg hk]
theorem IsRowR.le {w : World} {a : Option Addr} {len cap : Nat} {es : List Rec} (h : IsRowR w a len cap es) : len ≤ es.length := by
  rcases h with ⟨_, rfl, _, rfl⟩ | ⟨x, _, hl, _, hn, _⟩
  · simp
  · omega
theorem IsRowR.take_len {w : World} {a : Option Addr} {len cap : Nat} {es : List Rec} (h : IsRowR w a len cap es) : (es.take len).length = len := by
  have := h.le
  simp; omega
theorem IsRowR.below {w w' : World} {a : Option Addr} {len cap : Nat} {es : List Rec} (h : IsRowR w a len cap es) (hb : Below w.heap.size w w') : IsRowR w' a len cap es := by
  rcases h with h | ⟨x, hx, hl, hm, hn, hc⟩
  · exact .inl h
  · refine .inr ⟨x, hx, hl, hm, hn, fun i hi => ⟨fun j hj => ?_, (hc i hi).2⟩⟩
    have h1 := (hc i hi).1 j hj
    have hsome : ∃ v, w.cell? (x.add (i * 2 + j)) = some v := by
      rw [h1]
      exact ⟨_, List.getElem?_eq_getElem (by show j < 2; exact hj)⟩
    obtain ⟨v, hv⟩ := hsome
    exact (hb.cell (cell_blkR hv)).trans h1
/-- The letters of a list of them. -/
def totR (L : List Rec) : Nat := (L.map szR).sum
theorem totR_take (es : List Rec) (n : Nat) (h : n ≤ es.length) : totRf (fun i => es.getD i zeroR) n = totR (es.take n) := by
  induction n with
  | zero => simp [totRf, totR]
  | succ n ih =>
    have ht : es.take (n + 1) = es.take n ++ [es[n]'(by omega)] := by rw [List.take_add_one, List.getElem?_eq_getElem (show n < es.length by omega)]; rfl
    rw [totRf, ih (by omega), ht]
    have hx : es.getD n zeroR = es[n]'(by omega) := by simp [List.getD, List.getElem?_eq_getElem (show n < es.length by omega)]
    simp only [totR, List.map_append, List.sum_append, List.map_cons, List.map_nil, List.sum_cons, List.sum_nil, Nat.add_zero, hx]
theorem totR_mem {L : List Rec} {e : Rec} (h : e ∈ L) : szR e ≤ totR L := by
  induction L with
  | nil => cases h
  | cons f L ih =>
    rcases List.mem_cons.1 h with rfl | h
    · simp [totR]
    · have := ih h
      simp [totR] at this ⊢
      omega
theorem sz_factsR {w : World} {a : Option Addr} {len cap : Nat} {es : List Rec} (h : IsRowR w a len cap es) {left r : Int} (hr : r = -1 ∨ 0 ≤ r ∧ (len : Int) + totRf (fun i => es.getD i zeroR) len + r = left) (h0 : 0 ≤ r) : (len : Int) + totR (es.take len) + r = left := by
  rcases hr with rfl | ⟨_, h1⟩
  · omega
  · rw [totR_take _ _ h.le] at h1; exact h1
end Go.Proofs.YtgpgkgahbkmdiaaGreatDoor

/- Contracts of spec.l02Last, spec.Dir, impl.Dir, spec.Base, impl.Base. -/
namespace Go.Proofs.YtgpgkgahbkmdiaaGreatDoor
open Go.ChangeShapes Go.WideShapes Go.ChangeAt Go.RowKit

def lastv (s : ByteArray) : Int := Lib.lastIndexByte s 47
theorem lastv_cases (s : ByteArray) : lastv s = -1 ∨ ∃ i : Nat, i < s.size ∧ lastv s = i := by
  rcases Lib.lastIndexByte_spec s 47 with ⟨h, _⟩ | ⟨i, hi, h, _⟩
  · exact .inl h
  · exact .inr ⟨i, hi, h⟩
theorem bang (s : ByteArray) (k : Nat) (h : k < s.size) : s.data[k]! = s[k] := by
  have : k < s.data.size := h
  rw [getElem!_pos s.data k this]; rfl
theorem last_hit {s : ByteArray} {k : Nat} (h : k < s.size) (hc : (s[k].toNat : Int) = 47) (hl : Lib.lastIdx s 47 (k + 1) = lastv s) : lastv s = k := by
  rw [← hl, Lib.lastIdx_hit s 47 k (by rw [bang s k h]; exact hc)]
theorem last_miss {s : ByteArray} {k : Nat} (h : k < s.size) (hc : ¬ (s[k].toNat : Int) = 47) (hl : Lib.lastIdx s 47 (k + 1) = lastv s) : Lib.lastIdx s 47 k = lastv s := by
  rw [← hl, Lib.lastIdx_miss s 47 k (by rw [bang s k h]; exact hc)]

theorem last_spec (s : ByteArray) (w : World) (hs : s.size ≤ 9223372036854775807) :
    Calls Tryz.prog 83 #[.string s] w fun e w' => e = .returned (.int .i64 (lastv s)) ∧ w = w' := by
  go_enter Tryz.func83, Tryz.ntmps83
  go_wp2
  go_loop [3] (fun u => ∃ (k : Nat), k ≤ s.size ∧ u = .int .i64 ((k : Int) - 1) ∧ Lib.lastIdx s 47 k = lastv s) (fun u => (intOf u + 1).toNat)
  case atStart => exact ⟨s.size, Nat.le_refl _, by go_num, rfl⟩
  case round =>
    obtain ⟨k, hk, rfl, ho⟩ := hrel
    have HO := Lib.hid ho
    clear ho
    by_cases hlt : 0 < k
    · obtain ⟨j, rfl⟩ : ∃ j, k = j + 1 := ⟨k - 1, by omega⟩
      have hj : j < s.size := by omega
      have ej : (((j + 1 : Nat) : Int) - 1) = (j : Int) := by omega
      rw [ej]
      clear ej
      by_cases d2 : (s[j].toNat : Int) = 47
      · have HB := Lib.hid (last_hit hj d2 HO.out)
        have hq : ((s[j].toNat : Int) == 47) = true := by simp [d2]
        clear d2
        go_wp2
        go_ret
        exact ⟨ret_int HB.out.symm, rfl⟩
      · have HB := Lib.hid (last_miss hj d2 HO.out)
        have hq : ((s[j].toNat : Int) == 47) = false := by simpa using d2
        clear d2
        go_wp2
        go_round
        case rel => exact ⟨j, by omega, by go_num, HB.out⟩
        case measure => simp [intOf]
    · obtain rfl : k = 0 := by omega
      go_wp2
      go_ret
      exact ⟨ret_int (by rw [← HO.out]; rfl), rfl⟩

def dirv (s : ByteArray) : ByteArray := if lastv s < 0 then ⟨#[]⟩ else s.extract 0 (lastv s).toNat
def basev (s : ByteArray) : ByteArray := s.extract (lastv s + 1).toNat s.size

theorem base_spec (s : ByteArray) (w : World) (hs : s.size ≤ 9223372036854775807) :
    Calls Tryz.prog 56 #[.string s] w fun e w' => e = .returned (.string (basev s)) ∧ w = w' := by
  have H := Lib.hid (fun w => last_spec s w hs)
  obtain ⟨j, hj, hl, hz⟩ : ∃ j : Nat, j ≤ s.size ∧ lastv s = (j : Int) - 1 ∧ (lastv s + 1).toNat = j := by
    rcases lastv_cases s with hl | ⟨i, hi, hl⟩
    · exact ⟨0, Nat.zero_le _, by omega, by omega⟩
    · exact ⟨i + 1, by omega, by omega, by omega⟩
  have HE : Hid (basev s = s.extract j s.size) := Lib.hid (by rw [basev, hz])
  rw [hl] at H
  clear hl hz
  go_enter Tryz.func56, Tryz.ntmps56
  go_wp2_with fail
  refine (H.out _).mono ?_
  rintro e w' ⟨rfl, rfl⟩
  go_wp2_with fail
  go_ret
  exact ⟨ret_str HE.out.symm, rfl⟩

theorem base_impl (s : ByteArray) (w : World) (hs : s.size ≤ 281474976710656) :
    Calls Tryz.prog 60 #[.string s] w fun e w' => e = .returned (.string (basev s)) ∧ Below w.heap.size w w' := by
  have H := Lib.hid (fun w => Tryz.strings_LastIndexByte s 47 (by omega) w)
  rw [show Lib.lastIndexByte s 47 = lastv s from rfl] at H
  obtain ⟨j, hj, hl, hz⟩ : ∃ j : Nat, j ≤ s.size ∧ lastv s = (j : Int) - 1 ∧ (lastv s + 1).toNat = j := by
    rcases lastv_cases s with hl | ⟨i, hi, hl⟩
    · exact ⟨0, Nat.zero_le _, by omega, by omega⟩
    · exact ⟨i + 1, by omega, by omega, by omega⟩
  have HE : Hid (basev s = s.extract j s.size) := Lib.hid (by rw [basev, hz])
  have HC := Lib.hid (fun w => clone_any (s.extract j s.size) w (by simp; omega))
  rw [hl] at H
  clear hl hz
  go_enter Tryz.func60, Tryz.ntmps60
  go_wp2_with fail
  refine (H.out _).mono ?_
  rintro e w' ⟨rfl, rfl⟩
  go_wp2_with fail
  refine (HC.out _).mono ?_
  rintro e w' ⟨rfl, hb⟩
  go_wp2_with fail
  go_ret
  exact ⟨ret_str HE.out.symm, hb⟩
end Go.Proofs.YtgpgkgahbkmdiaaGreatDoor

/- What Base1 splits an entry into, in plain Lean. -/
namespace Go.Proofs.YtgpgkgahbkmdiaaGreatDoor
open Go.ChangeShapes Go.WideShapes Go.ChangeAt Go.RowKit Go.Deep

def kPath : ByteArray := ⟨#[112, 97, 116, 104]⟩
def kLink : ByteArray := ⟨#[108, 105, 110, 107, 112, 97, 116, 104]⟩
def kUid : ByteArray := ⟨#[117, 105, 100]⟩
def kGid : ByteArray := ⟨#[103, 105, 100]⟩
def kTime : ByteArray := ⟨#[109, 116, 105, 109, 101]⟩
/-- What of a link stands in a header. -/
def shortv (k : Int) (p l : ByteArray) : ByteArray := if k ≠ 3 then l.extract 0 100 else if basev l ≠ p then basev l else if p ≠ ⟨#[120]⟩ then ⟨#[120]⟩ else ⟨#[121]⟩
def b1p (p : ByteArray) : ByteArray := if splitOk p then p else basev p
def b1L (p : ByteArray) : List Rec := if splitOk p then [] else [⟨kPath, p⟩]
def b2c (k : Int) (p1 l : ByteArray) : Bool := decide (100 < l.size) || (decide (k = 3) && decide (l = p1))
def b2l (k : Int) (p1 l : ByteArray) : ByteArray := if b2c k p1 l then shortv k p1 l else l
def b2L (k : Int) (p1 l : ByteArray) (L : List Rec) : List Rec := if b2c k p1 l then L ++ [⟨kLink, l⟩] else L
def bn (lim n : Int) : Int := if lim < n then 0 else n
def bnL (key : ByteArray) (lim n : Int) (L : List Rec) : List Rec := if lim < n then L ++ [⟨key, decTextv n⟩] else L
def base1E (e : Ent) : Ent := if entOkv e then ⟨e.kind, b1p e.path, b2l e.kind (b1p e.path) e.link, e.mode, bn 2097151 e.uid, bn 2097151 e.gid, bn 8589934591 e.time, e.user, e.group, e.body⟩ else ⟨0, ⟨#[]⟩, ⟨#[]⟩, 0, 0, 0, 0, ⟨#[]⟩, ⟨#[]⟩, ⟨#[]⟩⟩
def base1L (e : Ent) : List Rec := if entOkv e then bnL kTime 8589934591 e.time (bnL kGid 2097151 e.gid (bnL kUid 2097151 e.uid (b2L e.kind (b1p e.path) e.link (b1L e.path)))) else []
theorem b1L_len (p : ByteArray) : (b1L p).length ≤ 1 := by unfold b1L; split <;> simp
theorem b2L_len (k : Int) (p1 l : ByteArray) (L : List Rec) : (b2L k p1 l L).length ≤ L.length + 1 := by unfold b2L; split <;> simp
theorem bnL_len (key : ByteArray) (lim n : Int) (L : List Rec) : (bnL key lim n L).length ≤ L.length + 1 := by unfold bnL; split <;> simp
theorem three_new {w w1 : World} {e z : Ent} (h : Below (((w.alloc (.cells e.cells.toArray 34)).alloc (.cells z.cells.toArray 34)).alloc (.cells #[] 47)).heap.size (((w.alloc (.cells e.cells.toArray 34)).alloc (.cells z.cells.toArray 34)).alloc (.cells #[] 47)) w1) :
    EntO w1 w.heap.size e ∧ EntO w1 (w.heap.size + 1) z ∧ OwnR w1 w.heap.size (.slice (some ⟨w.heap.size + 2, 0, none⟩) 0 0) [] ∧ Below w.heap.size w w1 ∧ w.heap.size + 3 ≤ w1.heap.size := by
  have hs : (((w.alloc (.cells e.cells.toArray 34)).alloc (.cells z.cells.toArray 34)).alloc (.cells #[] 47)).heap.size = w.heap.size + 3 := by simp
  have hs1 : (w.alloc (.cells e.cells.toArray 34)).heap.size = w.heap.size + 1 := by simp
  have hs2 : ((w.alloc (.cells e.cells.toArray 34)).alloc (.cells z.cells.toArray 34)).heap.size = w.heap.size + 2 := by simp
  have a1 := EntO.new w e
  have a2 : EntO ((w.alloc (.cells e.cells.toArray 34)).alloc (.cells z.cells.toArray 34)) w.heap.size e := a1.below ((Below.refl _ _).alloc (Nat.le_refl _) _) (by omega)
  have a3 := a2.below ((Below.refl _ _).alloc (o := .cells #[] 47) (Nat.le_refl _)) (by omega)
  have b2 := EntO.new (w.alloc (.cells e.cells.toArray 34)) z
  rw [hs1] at b2
  have b3 := b2.below ((Below.refl _ _).alloc (o := .cells #[] 47) (Nat.le_refl _)) (by omega)
  have c3 := OwnR.lit (w := (w.alloc (.cells e.cells.toArray 34)).alloc (.cells z.cells.toArray 34)) (base := w.heap.size) (by omega)
  rw [hs2] at c3
  refine ⟨a3.below h (by omega), b3.below h (by omega), c3.keep h, ?_, by have := h.size; omega⟩
  exact ((((Below.refl _ w).alloc (Nat.le_refl _) _).alloc (by omega) _).alloc (by omega) _).trans (h.mono (by omega))
end Go.Proofs.YtgpgkgahbkmdiaaGreatDoor

/- strings.ContainsAny at the two bytes newline and NUL, for every string: also one that is no UTF-8. -/
namespace Go.Proofs.YtgpgkgahbkmdiaaGreatDoor
open Go.ChangeShapes Go.WideShapes Go.ChangeAt Go.RowKit

theorem get_data (s : ByteArray) (j : Nat) (h : j < s.size) : s.data.toList[j]? = some (s.get! j) := by
  have : s.get! j = s[j] := by simpa using get_at s j h
  rw [this]
  exact List.getElem?_eq_getElem (by simpa using h)
theorem dec_hi (s : ByteArray) (i : Nat) (h : i < s.size) (ha : 128 ≤ (s[i]'h).toNat) : (128 ≤ (Utf8.decode s i).1 ∧ (Utf8.decode s i).1 ≤ 1114111) ∧ 1 ≤ (Utf8.decode s i).2 ∧ i + (Utf8.decode s i).2 ≤ s.size ∧ ∀ j c, i ≤ j → j < i + (Utf8.decode s i).2 → s.data.toList[j]? = some c → 128 ≤ c.toNat := by
  have hd := decode_high s i h ha
  have hb : ∀ k, (s.get! (i + k)).toNat < 256 := fun k => (s.get! (i + k)).toNat_lt
  have h0 := hb 0; have h1 := hb 1; have h2 := hb 2; have h3 := hb 3
  have e0 : s.get! (i + 0) = s[i] := get_at s i h
  have g0 : 128 ≤ (s.get! (i + 0)).toNat := by rw [e0]; exact ha
  have key : ∀ n : Nat, (∀ k, k < n → 128 ≤ (s.get! (i + k)).toNat) → i + n ≤ s.size → ∀ j c, i ≤ j → j < i + n → s.data.toList[j]? = some c → 128 ≤ c.toNat := by
    intro n hn hs j c hij hj hc
    rw [get_data s j (by omega)] at hc
    obtain rfl : s.get! j = c := by simpa using hc
    have := hn (j - i) (by omega)
    rwa [show i + (j - i) = j from by omega] at this
  have one1 : ∀ k, k < 1 → 128 ≤ (s.get! (i + k)).toNat := by
    intro k hk
    obtain rfl : k = 0 := by omega
    exact g0
  have one : ∀ j c, i ≤ j → j < i + 1 → s.data.toList[j]? = some c → 128 ≤ c.toNat := key 1 one1 (by omega)
  refine ⟨⟨hd.1, ?_⟩, hd.2, ?_⟩
  · simp only [Utf8.decode]
    repeat' split
    all_goals simp_all [Utf8.runeError, Utf8.valid]
    all_goals omega
  · simp only [Utf8.decode]
    split
    · omega
    · split
      · rename_i hc
        simp only [Bool.and_eq_true, beq_iff_eq, decide_eq_true_eq] at hc
        split
        · exact ⟨by simp only []; omega, key 2 (fun k hk => by
            rcases (by omega : k = 0 ∨ k = 1) with rfl | rfl
            · exact g0
            · omega) (by omega)⟩
        · exact ⟨by simp only []; omega, one⟩
      · split
        · rename_i hc
          simp only [Bool.and_eq_true, beq_iff_eq, decide_eq_true_eq] at hc
          split
          · exact ⟨by simp only []; omega, key 3 (fun k hk => by
              rcases (by omega : k = 0 ∨ k = 1 ∨ k = 2) with rfl | rfl | rfl
              · exact g0
              · omega
              · omega) (by omega)⟩
          · exact ⟨by simp only []; omega, one⟩
        · split
          · rename_i hc
            simp only [Bool.and_eq_true, beq_iff_eq, decide_eq_true_eq] at hc
            split
            · exact ⟨by simp only []; omega, key 4 (fun k hk => by
                rcases (by omega : k = 0 ∨ k = 1 ∨ k = 2 ∨ k = 3) with rfl | rfl | rfl | rfl
                · exact g0
                · omega
                · omega
                · omega) (by omega)⟩
            · exact ⟨by simp only []; omega, one⟩
          · exact ⟨by simp only []; omega, one⟩
def nlNul : ByteArray := ⟨#[10, 0]⟩
theorem encode_hi (r : Int) (h0 : 128 ≤ r) (h1 : r ≤ 1114111) (hv : Utf8.valid r = true) : (∃ a b : UInt8, Utf8.encode r = ⟨#[a, b]⟩ ∧ 128 ≤ b.toNat) ∨ (∃ a b c : UInt8, Utf8.encode r = ⟨#[a, b, c]⟩) ∨ (∃ a b c d : UInt8, Utf8.encode r = ⟨#[a, b, c, d]⟩) := by
  obtain ⟨u, rfl⟩ := Int.eq_ofNat_of_zero_le (show 0 ≤ r by omega)
  simp only [Utf8.encode, hv, if_true, Int.toNat_natCast]
  rw [if_neg (by omega)]
  split
  · exact .inl ⟨_, _, rfl, by rw [UInt8.toNat_ofNat']; omega⟩
  · split
    · exact .inr (.inl ⟨_, _, _, rfl⟩)
    · exact .inr (.inr ⟨_, _, _, _, rfl⟩)
set_option maxRecDepth 100000 in
set_option maxHeartbeats 1600000 in
theorem indexRune_hi (r : Int) (w : World) (h0 : 128 ≤ r) (h1 : r ≤ 1114111) :
    Calls Tryz.prog 142 #[.string ⟨#[10, 0]⟩, .int .i32 r] w fun e w' => e = .returned (.int .i64 (-1)) ∧ Below w.heap.size w w' := by
  have HV := Lib.hid (Tryz.utf8_ValidRune r)
  by_cases hr : r = 65533
  · subst hr
    have n0 := fun ty => run_next_ascii (P := Tryz.prog) w ⟨#[10, 0]⟩ 0 ty (by decide) (by decide)
    have n1 := fun ty => run_next_ascii (P := Tryz.prog) w ⟨#[10, 0]⟩ 1 ty (by decide) (by decide)
    have n2 := fun ty => run_next_end (P := Tryz.prog) w ⟨#[10, 0]⟩ 2 ty (by decide)
    go_enter Tryz.func142, Tryz.ntmps142
    go_wp2_with fail
    refine wp_loop_rounds 3 ?_
    rw [rounds_succ]
    go_wp2_with fail
    rw [rounds_succ]
    go_wp2_with fail
    rw [rounds_succ]
    go_wp2_with fail
    go_ret
    exact ⟨rfl, (Below.refl _ _).alloc (Nat.le_refl _) _⟩
  · have hq : (r == 65533) = false := by simpa using hr
    cases hv : Lib.validRune r with
    | false =>
      rw [hv] at HV
      go_enter Tryz.func142, Tryz.ntmps142
      go_wp2_with fail
      refine (HV.out _).mono ?_
      rintro e _ ⟨rfl, rfl⟩
      go_wp2_with fail
      go_ret
      exact ⟨rfl, Below.refl _ _⟩
    | true =>
      rw [hv] at HV
      have hv2 : Utf8.valid r = true := by
        simp only [Lib.validRune, decide_eq_true_eq] at hv
        simp [Utf8.valid]
        omega
      have hcv := fun w => run_convert_int_string (P := Tryz.prog) w 21 9 .i32 r (by rw [Tryz.underlying21]; rfl) Tryz.underlying9
      rcases encode_hi r h0 h1 hv2 with ⟨a, b, hE, hb⟩ | ⟨a, b, c, hE⟩ | ⟨a, b, c, d, hE⟩
      · have HIB := Lib.hid (Tryz.strings_IndexByte ⟨#[]⟩)
        have hne : ((((⟨#[10, 0]⟩ : ByteArray)[1]'(by decide)).toNat : Int) != (((⟨#[a, b]⟩ : ByteArray)[1]'(by show 1 < 2; decide)).toNat : Int)) = true := by
          show ((0 : Int) != ((b.toNat : Nat) : Int)) = true
          simp; omega
        have h8 := b.toNat_lt
        rw [hE] at hcv
        go_enter Tryz.func142, Tryz.ntmps142
        go_wp2_with fail
        refine (HV.out _).mono ?_
        rintro e _ ⟨rfl, rfl⟩
        go_wp2_with fail
        go_step3
        go_wp2_with fail
        refine wp_loop_rounds 1 ?_
        rw [rounds_succ]
        go_wp2_with fail
        go_step3
        go_wp2_with fail
        go_region
        all_goals (go_wp2_with fail)
        all_goals (go_region_with (go_at_call 82; refine (HIB.out _ _).mono ?_; rintro e _ ⟨rfl, rfl⟩))
        all_goals (go_wp2_with fail)
        all_goals (rw [Exit.noGoto_ret]; simp only [Exit.inBlock, Exit.then]; rw [Exit.noGoto_ret])

        all_goals (go_ret; exact ⟨rfl, (Below.refl _ _).drew.drew⟩)
      · have hv3 := hv
        rw [hE] at hcv
        go_enter Tryz.func142, Tryz.ntmps142
        go_wp2_with fail
        refine (HV.out _).mono ?_
        rintro e _ ⟨rfl, rfl⟩
        go_wp2_with fail
        go_step3
        go_wp2_with fail
        refine wp_loop_rounds 1 ?_
        rw [rounds_succ]
        go_wp2_with fail
        rw [Exit.noGoto_ret]
        go_ret
        exact ⟨rfl, Below.refl _ _⟩
      · have hv3 := hv
        rw [hE] at hcv
        go_enter Tryz.func142, Tryz.ntmps142
        go_wp2_with fail
        refine (HV.out _).mono ?_
        rintro e _ ⟨rfl, rfl⟩
        go_wp2_with fail
        go_step3
        go_wp2_with fail
        refine wp_loop_rounds 1 ?_
        rw [rounds_succ]
        go_wp2_with fail
        rw [Exit.noGoto_ret]
        go_ret
        exact ⟨rfl, Below.refl _ _⟩
/-- A byte of a record's value: neither NUL nor newline. -/
def valb (c : UInt8) : Bool := c != 0 && c != 10
theorem valb_hi {c : UInt8} (h : 128 ≤ c.toNat) : valb c = true := by
  have h0 : c ≠ 0 := by rintro rfl; simp at h
  have h1 : c ≠ 10 := by rintro rfl; simp at h
  simp [valb, h0, h1]
theorem noAny_iff (s : ByteArray) : Lib.containsAny s.data.toList [10, 0] = !(s.data.toList.all valb) := by
  unfold Lib.containsAny
  cases h : s.data.toList.all valb with
  | true =>
    rw [Lib.indexAny_none (fun j y hj hy => by
      have := List.all_eq_true.1 h y (List.mem_of_getElem? hy)
      simp only [valb, Bool.and_eq_true, bne_iff_ne, ne_eq] at this
      simp [this.1, this.2])]
    rfl
  | false =>
    have hge := Lib.indexAny_ge [10, 0] s.data.toList
    by_cases h1 : Lib.indexAny s.data.toList [10, 0] = -1
    · exfalso
      obtain ⟨x, hx, hv⟩ := List.all_eq_false.1 h
      obtain ⟨k, hk⟩ := List.mem_iff_getElem?.1 hx
      have : ∀ (l : List UInt8) (k : Nat), l[k]? = some x → Lib.indexAny l [10, 0] ≠ -1 := by
        intro l
        induction l with
        | nil => intro k hk; simp at hk
        | cons b l ih =>
          intro k hk
          unfold Lib.indexAny
          have hxc : ([10, 0] : List UInt8).contains x = true := by
            simp only [valb, Bool.and_eq_true, bne_iff_ne, ne_eq, not_and, Classical.not_not] at hv
            by_cases hx0 : x = 0
            · simp [hx0]
            · simp [hv hx0]
          cases k with
          | zero =>
            simp at hk
            subst hk
            rw [if_pos hxc]; omega
          | succ k =>
            have := ih k (by simpa using hk)
            have hg := Lib.indexAny_ge [10, 0] l
            split
            · omega
            · rw [if_neg (by simpa using this)]; omega
      exact this _ k hk h1
    · simp; omega
set_option maxRecDepth 100000 in
set_option maxHeartbeats 1600000 in
theorem indexAny_short (s : ByteArray) (w : World) (h8 : s.size ≤ 8) :
    Calls Tryz.prog 135 #[.string s, .string ⟨#[10, 0]⟩] w fun e w' => (∃ n : Int, e = .returned (.int .i64 n) ∧ (decide (0 ≤ n)) = !(s.data.toList.all valb)) ∧ Below w.heap.size w w' := by
  have HU := Lib.hid (Tryz.strings_shouldUseASCIISet (s.size : Int))
  have h8z : decide ((8 : Int) < (s.size : Int)) = false := decide_eq_false (by omega)
  rw [h8z] at HU
  have HA := Lib.hid (fun r w => Tryz.strings_IndexRune_ascii ⟨#[10, 0]⟩ r w)
  have HH := Lib.hid (fun r w => indexRune_hi r w)
  have HB : Hid (∀ k, (h : k < s.size) → valb s[k] = false → s.data.toList.all valb = false) := Lib.hid (fun k h hc => allB_bad h hc)
  have HD : Hid (AllB valb s s.size → s.data.toList.all valb = true) := Lib.hid (fun h => h.done)
  generalize s.data.toList.all valb = r at HB HD
  go_enter Tryz.func135, Tryz.ntmps135
  go_wp2_with fail
  refine (HU.out _).mono ?_
  rintro e w1 ⟨rfl, hw1⟩
  obtain rfl : w = w1 := hw1.symm
  go_wp2_with fail
  go_loopg [9, 10] s.size (fun g _ _ wr => ∃ i : Nat, i + g = s.size ∧ wr.heap[w.heap.size]? = some (.stringIter s i) ∧ AllB valb s i ∧ Below w.heap.size w wr)
  case atStart => exact ⟨0, by omega, World.iter_heap _ _ _, AllB.start _ _, (Below.refl _ _).alloc (Nat.le_refl _) _⟩
  case round =>
    obtain ⟨i, hig, hit, ha, hb⟩ := hrel
    have A := Lib.hid ha
    have B := Lib.hid hb
    clear ha hb
    by_cases hlt : i < s.size
    · have hi8 := (s[i]).toNat_lt
      by_cases hc : (s[i]).toNat < 128
      · have hnx := fun ty => Lib.run_next_ascii_at (P := Tryz.prog) wr w.heap.size s i ty hit hlt hc
        have IT := Lib.hid (Lib.iterAt_heap wr w.heap.size s i (i + 1) hit)
        have B2 : Hid (Below w.heap.size w (wr.iterAt w.heap.size s (i + 1))) := Lib.hid ⟨B.out.os, B.out.tape, B.out.output, by simpa [World.iterAt] using B.out.size, fun k hk => by rw [← B.out.block k hk]; simp [World.iterAt, Array.getElem?_setIfInBounds]; intro h; omega⟩
        cases hv : valb s[i] with
        | true =>
          have A2 := Lib.hid (A.out.step hlt hv)
          have hneg : ¬ (0 : Int) ≤ Lib.indexByte [10, 0] (s[i]) := by
            simp only [valb, Bool.and_eq_true, bne_iff_ne, ne_eq] at hv
            have h1 : ¬ (10 : UInt8) = s[i] := fun e => hv.2 e.symm
            have h2 : ¬ (0 : UInt8) = s[i] := fun e => hv.1 e.symm
            simp [Lib.indexByte, h1, h2]
          clear hv hit A
          generalize wr.iterAt w.heap.size s (i + 1) = w1 at *
          go_wp2_with fail
          refine (HA.out _ _ (by omega) (by omega)).mono ?_
          rintro e _ ⟨rfl, rfl⟩
          have hback : (((s[i].toNat : Nat) : Int)).toNat.toUInt8 = s[i] := by simp
          rw [hback]
          go_wp2_with fail
          go_roundg (s.size - (i + 1))
          case rel => exact ⟨i + 1, by omega, IT.out, A2.out, B2.out⟩
          case measure => omega
        | false =>
          have HF : Hid (r = false) := Lib.hid (HB.out i hlt hv)
          have hpos : (0 : Int) ≤ Lib.indexByte [10, 0] (s[i]) := by
            have hg := Lib.indexByte_ge [10, 0] s[i]
            by_cases h1 : Lib.indexByte [10, 0] s[i] = -1
            · exfalso
              have n0 := Lib.indexByte_none h1 0
              have n1 := Lib.indexByte_none h1 1
              simp at n0 n1
              simp [valb] at hv
              by_cases h0 : s[i] = 0
              · exact n1 h0.symm
              · exact n0 (hv h0).symm
            · omega
          clear hv hit A
          generalize wr.iterAt w.heap.size s (i + 1) = w1 at *
          go_wp2_with fail
          refine (HA.out _ _ (by omega) (by omega)).mono ?_
          rintro e _ ⟨rfl, rfl⟩
          have hback : (((s[i].toNat : Nat) : Int)).toNat.toUInt8 = s[i] := by simp
          rw [hback]
          go_wp2_with fail
          go_ret
          exact ⟨⟨_, rfl, by rw [HF.out]; simp⟩, B2.out⟩
      · have hnx := fun ty => Lib.run_next_any_at (P := Tryz.prog) wr w.heap.size s i ty hit hlt
        obtain ⟨⟨d0, d1⟩, d2, d3, d4⟩ := dec_hi s i hlt (by omega)
        have IT := Lib.hid (Lib.iterAt_heap wr w.heap.size s i (i + (Utf8.decode s i).2) hit)
        have B2 : Hid (Below w.heap.size w (wr.iterAt w.heap.size s (i + (Utf8.decode s i).2))) := Lib.hid ⟨B.out.os, B.out.tape, B.out.output, by simpa [World.iterAt] using B.out.size, fun k hk => by rw [← B.out.block k hk]; simp [World.iterAt, Array.getElem?_setIfInBounds]; intro h; omega⟩
        have hsz : w.heap.size < (wr.iterAt w.heap.size s (i + (Utf8.decode s i).2)).heap.size := (Array.getElem?_eq_some_iff.1 IT.out).1
        have A2 : Hid (AllB valb s (i + (Utf8.decode s i).2)) := Lib.hid (by
          have hA := A.out
          unfold AllB at hA ⊢
          rw [List.all_eq_true] at hA ⊢
          intro x hx
          obtain ⟨j, hj⟩ := List.mem_iff_getElem?.1 hx
          rw [List.getElem?_take] at hj
          split at hj
          · rename_i hjl
            by_cases hji : j < i
            · exact hA x (List.mem_iff_getElem?.2 ⟨j, by rw [List.getElem?_take, if_pos hji]; exact hj⟩)
            · exact valb_hi (d4 j x (by omega) hjl hj)
          · cases hj)
        clear d4 hit A
        generalize wr.iterAt w.heap.size s (i + (Utf8.decode s i).2) = w1 at *
        generalize (Utf8.decode s i).2 = dn at *
        generalize (Utf8.decode s i).1 = dc at *
        go_wp2_with fail
        refine (HH.out _ _ (by omega) (by omega)).mono ?_
        rintro e w2 ⟨rfl, hb⟩
        have IT2 := Lib.hid ((hb.block w.heap.size hsz).trans IT.out)
        have B3 := Lib.hid (B2.out.trans (hb.mono B2.out.size))
        clear hb
        go_wp2_with fail
        go_roundg (s.size - (i + dn))
        case rel => exact ⟨i + dn, by omega, IT2.out, A2.out, B3.out⟩
        case measure => omega
    · obtain rfl : i = s.size := by omega
      have hnx := fun ty => Lib.run_next_end_at (P := Tryz.prog) wr w.heap.size s s.size ty hit (by omega)
      have HF : Hid (r = true) := Lib.hid (HD.out A.out)
      go_wp2_with fail
      go_ret
      exact ⟨⟨_, rfl, by rw [HF.out]; rfl⟩, B.out⟩
theorem containsAny_nl (s : ByteArray) (w : World) (hs : s.size ≤ 4294967280) :
    Calls Tryz.prog 125 #[.string s, .string ⟨#[10, 0]⟩] w fun e w' => e = .returned (.bool (!(s.data.toList.all valb))) ∧ Below w.heap.size w w' := by
  have HC : Hid (∀ w, Calls Tryz.prog 135 #[.string s, .string ⟨#[10, 0]⟩] w fun e w' => (∃ n : Int, e = .returned (.int .i64 n) ∧ (decide (0 ≤ n)) = !(s.data.toList.all valb)) ∧ Below w.heap.size w w') := Lib.hid (by
    intro w
    by_cases h8 : s.size ≤ 8
    · exact indexAny_short s w h8
    · refine (Tryz.strings_IndexAny_long (fun w => by kernel_rfl) s ⟨#[10, 0]⟩ w (by decide) (by omega) (by omega) (by decide) (by
        intro j b hb
        have : j < 2 := (List.getElem?_eq_some_iff.1 hb).1
        rcases (by omega : j = 0 ∨ j = 1) with rfl | rfl
        · simp at hb; subst hb; decide
        · simp at hb; subst hb; decide)).mono ?_
      rintro e w' ⟨rfl, rfl⟩
      exact ⟨⟨_, rfl, noAny_iff s⟩, (((Below.refl _ w).alloc (Nat.le_refl _) _).alloc (by simp) _)⟩)
  generalize s.data.toList.all valb = r at HC
  go_enter Tryz.func125, Tryz.ntmps125
  go_wp2_with fail
  refine (HC.out _).mono ?_
  rintro e w1 ⟨⟨n, rfl, hn⟩, hb⟩
  go_wp2_with fail
  go_ret
  exact ⟨ret_bool (by rw [← hn]), hb⟩
end Go.Proofs.YtgpgkgahbkmdiaaGreatDoor

/- Contracts of spec.RecordOk and impl.RecordOk. -/
namespace Go.Proofs.YtgpgkgahbkmdiaaGreatDoor
open Go.ChangeShapes Go.WideShapes Go.ChangeAt Go.RowKit

def keyb (c : UInt8) : Bool := c != 61
/-- What a record is. -/
def recOkv (k v : ByteArray) : Bool := inB k.size 1 30 && signv k && k.data.toList.all keyb && decide (v.size ≤ 250) && v.data.toList.all valb
theorem keyb_i (c : UInt8) : keyb c = !(((c.toNat : Nat) : Int) == 61) := by
  unfold keyb
  by_cases h : c = 61
  · subst h; rfl
  · have h2 : ¬ ((c.toNat : Nat) : Int) = 61 := fun e => h (UInt8.toNat_inj.1 (by simp; omega))
    have h3 : (c != 61) = true := by simpa using h
    rw [h3, beq_eq_false_iff_ne.2 h2]; rfl
theorem valb_i (c : UInt8) : valb c = (!(((c.toNat : Nat) : Int) == 0) && !(((c.toNat : Nat) : Int) == 10)) := by
  unfold valb
  have h0 : (c != 0) = !(((c.toNat : Nat) : Int) == 0) := by
    by_cases h : c = 0
    · subst h; rfl
    · have h2 : ¬ ((c.toNat : Nat) : Int) = 0 := fun e => h (UInt8.toNat_inj.1 (by simp; omega))
      have h3 : (c != 0) = true := by simpa using h
      rw [h3, beq_eq_false_iff_ne.2 h2]; rfl
  have h1 : (c != 10) = !(((c.toNat : Nat) : Int) == 10) := by
    by_cases h : c = 10
    · subst h; rfl
    · have h2 : ¬ ((c.toNat : Nat) : Int) = 10 := fun e => h (UInt8.toNat_inj.1 (by simp; omega))
      have h3 : (c != 10) = true := by simpa using h
      rw [h3, beq_eq_false_iff_ne.2 h2]; rfl
  rw [h0, h1]
set_option maxHeartbeats 1600000 in
theorem recordOk_spec (k v : ByteArray) (w : World) (hk : k.size ≤ 4194304) (hv : v.size ≤ 4194304) :
    Calls Tryz.prog 54 #[.agg #[.string k, .string v]] w fun e w' => e = .returned (.bool (recOkv k v)) ∧ Below w.heap.size w w' := by
  have HR : Hid (recOkv k v = (inB k.size 1 30 && signv k && k.data.toList.all keyb && decide (v.size ≤ 250) && v.data.toList.all valb)) := Lib.hid rfl
  have K1 : Hid (∀ i, (h : i < k.size) → keyb k[i] = false → k.data.toList.all keyb = false) := Lib.hid (fun i h hc => allB_bad h hc)
  have K2 : Hid (AllB keyb k k.size → k.data.toList.all keyb = true) := Lib.hid (fun h => h.done)
  have V1 : Hid (∀ i, (h : i < v.size) → valb v[i] = false → v.data.toList.all valb = false) := Lib.hid (fun i h hc => allB_bad h hc)
  have V2 : Hid (AllB valb v v.size → v.data.toList.all valb = true) := Lib.hid (fun h => h.done)
  have HI := Lib.hid (fun w => in_any (k.size : Int) 1 30 w)
  have HS := Lib.hid (fun w => sign_spec k w hk)
  generalize recOkv k v = r at HR
  generalize k.data.toList.all keyb = r1 at HR K1 K2
  generalize v.data.toList.all valb = r2 at HR V1 V2
  generalize inB (k.size : Int) 1 30 = r3 at HR HI
  generalize signv k = r4 at HR HS
  go_enter Tryz.func54, Tryz.ntmps54
  go_wp2_with fail
  go_loopw [3] (fun u wr => ∃ i : Nat, u = .int .i64 i ∧ i ≤ k.size ∧ AllB keyb k i ∧ RecAt wr w.heap.size 0 ⟨k, v⟩ ∧ Below w.heap.size w wr ∧ w.heap.size + 1 ≤ wr.heap.size) (fun u _ => k.size - (intOf u).toNat)
  case atStart => exact ⟨0, rfl, Nat.zero_le _, AllB.start _ _, RecAt.new w ⟨k, v⟩ _, (Below.refl _ _).alloc (Nat.le_refl _) _, by simp⟩
  case round =>
    obtain ⟨i, rfl, hi, ha, hr, hb, hz⟩ := hrel
    have A := Lib.hid ha
    have R := Lib.hid hr
    have B := Lib.hid hb
    clear ha hr hb
    obtain ⟨c0, c1⟩ := R.out.zero
    by_cases hlt : i < k.size
    · have hlt2 : (i : Int) < (k.size : Int) := by omega
      cases hc : keyb k[i] with
      | false =>
        have hq : (((k[i].toNat : Nat) : Int) == 61) = true := by rw [keyb_i] at hc; simpa using hc
        have HF : Hid (r = false) := Lib.hid (by rw [HR.out, K1.out i hlt hc]; simp)
        clear hc HR K1 K2 V1 V2
        go_wp2_with fail
        go_ret
        exact ⟨ret_bool HF.out.symm, B.out⟩
      | true =>
        have hq : (((k[i].toNat : Nat) : Int) == 61) = false := by rw [keyb_i] at hc; simpa using hc
        have A2 := Lib.hid (A.out.step hlt hc)
        clear hc A
        go_wp2_with fail
        go_roundw
        case rel => exact ⟨i + 1, by go_num, by omega, A2.out, R.out, B.out, hz⟩
        case measure => simp [intOf]; omega
    · obtain rfl : i = k.size := by omega
      have hlt2 : ¬ (k.size : Int) < (k.size : Int) := by omega
      have HK : Hid (r1 = true) := Lib.hid (K2.out A.out)
      clear A K1 K2
      go_wp2_with fail
      go_loopw [4] (fun u wr => ∃ i : Nat, u = .int .i64 i ∧ i ≤ v.size ∧ AllB valb v i ∧ RecAt wr w.heap.size 0 ⟨k, v⟩ ∧ Below w.heap.size w wr ∧ w.heap.size + 1 ≤ wr.heap.size) (fun u _ => v.size - (intOf u).toNat)
      case atStart => exact ⟨0, rfl, Nat.zero_le _, AllB.start _ _, R.out, B.out, hz⟩
      case round =>
        clear R B hz c0 c1
        obtain ⟨i, rfl, hi, ha, hr, hb, hz⟩ := hrel
        have A := Lib.hid ha
        have R := Lib.hid hr
        have B := Lib.hid hb
        clear ha hr hb
        obtain ⟨c0, c1⟩ := R.out.zero
        by_cases hlt : i < v.size
        · have hlt2 : (i : Int) < (v.size : Int) := by omega
          cases hc : valb v[i] with
          | false =>
            have HF : Hid (r = false) := Lib.hid (by rw [HR.out, V1.out i hlt hc]; simp)
            rw [valb_i] at hc
            cases hq : (((v[i].toNat : Nat) : Int) == 0) with
            | true =>
              clear hc HR V1 V2
              go_wp2_with fail
              go_ret
              exact ⟨ret_bool HF.out.symm, B.out⟩
            | false =>
              have hq2 : (((v[i].toNat : Nat) : Int) == 10) = true := by rw [hq] at hc; simpa using hc
              clear hc HR V1 V2
              go_wp2_with fail
              go_ret
              exact ⟨ret_bool HF.out.symm, B.out⟩
          | true =>
            have A2 := Lib.hid (A.out.step hlt hc)
            rw [valb_i] at hc
            have hq : (((v[i].toNat : Nat) : Int) == 0) = false := by revert hc; cases (((v[i].toNat : Nat) : Int) == 0) <;> simp
            have hq2 : (((v[i].toNat : Nat) : Int) == 10) = false := by revert hc; cases (((v[i].toNat : Nat) : Int) == 10) <;> simp
            clear hc A
            go_wp2_with fail
            go_roundw
            case rel => exact ⟨i + 1, by go_num, by omega, A2.out, R.out, B.out, hz⟩
            case measure => simp [intOf]; omega
        · obtain rfl : i = v.size := by omega
          have hlt2 : ¬ (v.size : Int) < (v.size : Int) := by omega
          have HV : Hid (r2 = true) := Lib.hid (V2.out A.out)
          clear A V1 V2
          go_wp2_with fail
          refine (HI.out _).mono ?_
          rintro e _ ⟨rfl, rfl⟩
          cases r3 with
          | false =>
            go_wp2_with fail
            go_ret
            exact ⟨ret_bool (by rw [HR.out]; simp), B.out⟩
          | true =>
            go_wp2_with fail
            refine (HS.out _).mono ?_
            rintro e w1 ⟨rfl, hb⟩
            replace R := Lib.hid (R.out.below hb (by omega))
            replace B := Lib.hid (btR B.out hb)
            clear hb c0 c1
            obtain ⟨c0, c1⟩ := R.out.zero
            cases r4 with
            | false =>
              go_wp2_with fail
              go_ret
              exact ⟨ret_bool (by rw [HR.out]; simp), B.out⟩
            | true =>
              by_cases hz : (v.size : Int) ≤ 250
              · have hz2 : v.size ≤ 250 := by omega
                go_wp2_with fail
                go_ret
                exact ⟨ret_bool (by rw [HR.out, HK.out, HV.out]; simp [hz2]; try omega), B.out⟩
              · have hz2 : ¬ v.size ≤ 250 := by omega
                go_wp2_with fail
                go_ret
                exact ⟨ret_bool (by rw [HR.out]; simp [hz2]; try omega), B.out⟩
theorem keyb_has (k : ByteArray) : k.data.toList.all keyb = !hasB 61 k := by rw [hasB_all, Bool.not_not]; rfl
set_option maxHeartbeats 1600000 in
theorem recordOk_impl (k v : ByteArray) (w : World) (hk : k.size ≤ 4194304) (hv : v.size ≤ 4194304) :
    Calls Tryz.prog 107 #[.agg #[.string k, .string v]] w fun e w' => e = .returned (.bool (recOkv k v)) ∧ Below w.heap.size w w' := by
  have HR : Hid (recOkv k v = (inB k.size 1 30 && signv k && !hasB 61 k && decide (v.size ≤ 250) && v.data.toList.all valb)) := Lib.hid (by rw [← keyb_has]; rfl)
  have H1 := Lib.hid (fun w => visible_impl k w (by omega))
  have H2 := Lib.hid (contains_any k 61)
  have H3 := Lib.hid (fun w => containsAny_nl v w (by omega))
  generalize recOkv k v = r at HR
  generalize signv k = r1 at HR H1
  generalize hasB 61 k = r2 at HR H2
  generalize v.data.toList.all valb = r3 at HR H3
  by_cases a1 : (1 : Int) ≤ (k.size : Int)
  · by_cases a2 : (k.size : Int) ≤ 30
    · have HQ : Hid (inB (k.size : Int) 1 30 = true) := Lib.hid (inB_t ⟨a1, a2⟩)
      have R0 := Lib.hid (RecAt.new w ⟨k, v⟩ 47)
      have c00 := R0.out.zero
      obtain ⟨c0, c1⟩ := c00
      go_enter Tryz.func107, Tryz.ntmps107
      go_wp2_with fail
      refine (H1.out _).mono ?_
      rintro e _ ⟨rfl, rfl⟩
      cases r1 with
      | false =>
        go_wp2_with fail
        go_ret
        exact ⟨ret_bool (by rw [HR.out]; simp), (Below.refl _ _).alloc (Nat.le_refl _) _⟩
      | true =>
        go_wp2_with fail
        refine (H2.out _).mono ?_
        rintro e _ ⟨rfl, rfl⟩
        cases r2 with
        | true =>
          go_wp2_with fail
          go_ret
          exact ⟨ret_bool (by rw [HR.out]; simp), (Below.refl _ _).alloc (Nat.le_refl _) _⟩
        | false =>
          by_cases hz : (v.size : Int) ≤ 250
          · have hz2 : v.size ≤ 250 := by omega
            go_wp2_with fail
            refine (H3.out _).mono ?_
            rintro e w1 ⟨rfl, hb⟩
            have B := Lib.hid (one_newR (e1 := ⟨k, v⟩) hb).2.1
            clear hb
            go_wp2_with fail
            go_ret
            exact ⟨ret_bool (by rw [HR.out, HQ.out]; simp [hz2]; try omega), B.out⟩
          · have hz2 : ¬ v.size ≤ 250 := by omega
            go_wp2_with fail
            go_ret
            exact ⟨ret_bool (by rw [HR.out]; simp [hz2]; try omega), (Below.refl _ _).alloc (Nat.le_refl _) _⟩
    · have HQ : Hid (inB (k.size : Int) 1 30 = false) := Lib.hid (inB_f (by omega))
      go_enter Tryz.func107, Tryz.ntmps107
      go_wp2_with fail
      go_ret
      exact ⟨ret_bool (by rw [HR.out, HQ.out]; simp), (Below.refl _ _).alloc (Nat.le_refl _) _⟩
  · have HQ : Hid (inB (k.size : Int) 1 30 = false) := Lib.hid (inB_f (by omega))
    go_enter Tryz.func107, Tryz.ntmps107
    go_wp2_with fail
    go_ret
    exact ⟨ret_bool (by rw [HR.out, HQ.out]; simp), (Below.refl _ _).alloc (Nat.le_refl _) _⟩
end Go.Proofs.YtgpgkgahbkmdiaaGreatDoor

/- Contract of impl.leadNumber at the bases 8, 10 and 16: the number at the start of a string and how many digits it has. -/
namespace Go.Proofs.YtgpgkgahbkmdiaaGreatDoor
open Go.ChangeShapes Go.WideShapes Go.ChangeAt Go.RowKit

theorem ret_pair {a b c d : Int} (h : a = b) (h' : c = d) : Ending.returned (.tuple #[.int .i64 a, .int .i64 c]) = .returned (.tuple #[.int .i64 b, .int .i64 d]) := by rw [h, h']

end Go.Proofs.YtgpgkgahbkmdiaaGreatDoor

/- Contract of spec.l01Value at the bases 8, 10 and 16: the number that a string's digits tell, or -1. -/
namespace Go.Proofs.YtgpgkgahbkmdiaaGreatDoor
open Go.ChangeShapes Go.WideShapes Go.ChangeAt Go.RowKit

end Go.Proofs.YtgpgkgahbkmdiaaGreatDoor

/- Contracts of spec.ReadDec and impl.ReadDec, for every string, in a dump without GetDec (ReadDecB.t again, where PartMath.t and PutBase.t are there). -/
namespace Go.Proofs.YtgpgkgahbkmdiaaGreatDoor
open Go.ChangeShapes Go.WideShapes Go.ChangeAt Go.RowKit

def cand2 (l : List UInt8) : Int := (lead 10 0 l).1
def readDecv (s : ByteArray) : Int := if cand2 s.data.toList ≤ 999999 ∧ decTextv (cand2 s.data.toList) = s then cand2 s.data.toList else -1
theorem decText_lead {c : Int} {s : ByteArray} (h0 : 0 ≤ c) (h1 : c ≤ 9007199254740991) (h : decTextv c = s) : cand2 s.data.toList = c ∧ vals 10 0 s.data.toList = c := by
  obtain ⟨u, rfl⟩ := Int.eq_ofNat_of_zero_le h0
  have hn : lead (10 : Int) 0 (numeral 10 u) = ((u : Int), (numeral 10 u).length) := lead_numeral 10 (by omega) (by omega) u h1
  have hs : s.data.toList = numeral 10 u := by
    rw [← h, decTextv, decText, if_neg (by omega)]; rfl
  rw [cand2, hs, vals_lead 10 (by omega) 0 _ (by omega), hn]
  simp
theorem vals_bd (b : Int) (hb : 0 ≤ b) (l : List UInt8) : -1 ≤ vals b 0 l ∧ vals b 0 l ≤ 9007199254740991 := by
  have := lead_bd b hb 0 l (by omega) (by omega)
  rw [vals_lead b hb 0 l (by omega)]
  split <;> omega
theorem decTextv_size (c : Int) (h0 : 0 ≤ c) : (decTextv c).size = (numeral 10 c.toNat).length := by
  rw [decTextv, ba_size, decText, if_neg (by omega)]
theorem readDec_eq (s : ByteArray) : (if s.size = 0 ∨ 6 < s.size ∨ ¬ decTextv (vals 10 0 s.data.toList) = s then -1 else vals 10 0 s.data.toList) = readDecv s := by
  have hb := vals_bd 10 (by omega) s.data.toList
  have hl := lead_bd 10 (by omega) 0 s.data.toList (by omega) (by omega)
  unfold readDecv
  by_cases hacc : cand2 s.data.toList ≤ 999999 ∧ decTextv (cand2 s.data.toList) = s
  · obtain ⟨h1, h2⟩ := hacc
    have h3 := (decText_lead hl.1 hl.2 h2).2
    have h4 := decTextv_size (cand2 s.data.toList) hl.1
    rw [h2] at h4
    have h5 := numeral_len (b := 10) (u := (cand2 s.data.toList).toNat) (k := 6) (by omega) (by omega) (by omega)
    have h6 := numeral_pos (b := 10) (u := (cand2 s.data.toList).toNat) (by omega)
    have h3' : vals 10 0 s.data.toList = cand2 s.data.toList := h3
    have hnr : ¬ (s.size = 0 ∨ 6 < s.size ∨ ¬ decTextv (vals 10 0 s.data.toList) = s) := by
      rw [h3']
      rintro (h | h | h)
      · omega
      · omega
      · exact h h2
    rw [if_neg hnr, if_pos ⟨h1, h2⟩]
    exact h3'
  · rw [if_neg hacc]
    by_cases hr : s.size = 0 ∨ 6 < s.size ∨ ¬ decTextv (vals 10 0 s.data.toList) = s
    · rw [if_pos hr]
    · rw [if_neg hr]
      have hr1 : s.size ≤ 6 := by omega
      have hr2 : decTextv (vals 10 0 s.data.toList) = s := by
        rcases Classical.em (decTextv (vals 10 0 s.data.toList) = s) with h | h
        · exact h
        · exact absurd (.inr (.inr h)) hr
      by_cases hv : 0 ≤ vals 10 0 s.data.toList
      · have h3 := (decText_lead hv hb.2 hr2).1
        have h4 := decTextv_size _ hv
        rw [hr2] at h4
        have h5 := numeral_lt (b := 10) (by omega) 6 (vals 10 0 s.data.toList).toNat (by omega)
        exact absurd ⟨by rw [h3]; omega, by rw [h3]; exact hr2⟩ hacc
      · omega

end Go.Proofs.YtgpgkgahbkmdiaaGreatDoor

/- Records as texts, in plain Lean: what PutRecord writes, and what GetRecord reads. -/
namespace Go.Proofs.YtgpgkgahbkmdiaaGreatDoor
open Go.ChangeShapes Go.WideShapes Go.ChangeAt Go.RowKit

def recRest (k v : ByteArray) : ByteArray := ⟨#[32]⟩ ++ k ++ ⟨#[61]⟩ ++ v ++ ⟨#[10]⟩
/-- The length of a record whose text without its digits has m bytes. -/
def recLen (m : Nat) : Nat := if m ≤ 8 then m + 1 else if m ≤ 97 then m + 2 else m + 3
def recText (k v : ByteArray) : ByteArray := decTextv (recLen (recRest k v).size : Nat) ++ recRest k v
def putRecv (k v : ByteArray) : ByteArray := if recOkv k v then recText k v else ⟨#[]⟩
theorem dec_len {n : Nat} (h : n < 1000) : (decTextv (n : Int)).size = if n < 10 then 1 else if n < 100 then 2 else 3 := by
  rw [decTextv_size _ (by omega), Int.toNat_natCast]
  have h3 := numeral_len (b := 10) (u := n) (k := 3) (by omega) (by omega) (by omega)
  have h0 := numeral_pos (b := 10) (u := n) (by omega)
  have hl := fun k => numeral_lt (b := 10) (by omega) k n
  split
  · have := numeral_len (b := 10) (u := n) (k := 1) (by omega) (by omega) (by omega); omega
  · split
    · have := numeral_len (b := 10) (u := n) (k := 2) (by omega) (by omega) (by omega)
      by_cases h1 : (numeral 10 n).length ≤ 1
      · have := hl 1 h1; omega
      · omega
    · by_cases h1 : (numeral 10 n).length ≤ 2
      · have := hl 2 h1; omega
      · omega
theorem dec_le3 {n : Nat} (h : n < 1000) : (decTextv (n : Int)).size ≤ 3 := by
  rw [dec_len h]; split <;> (try split) <;> omega
theorem len_lt {m n : Nat} (h0 : m + 1 ≤ n) (h1 : n < recLen m) (hm : m ≤ 500) : n < (decTextv (n : Int)).size + m := by
  unfold recLen at h1
  rw [dec_len (by split at h1 <;> (try split at h1) <;> omega)]
  split at h1
  · omega
  · split at h1
    · split
      · omega
      · split <;> omega
    · split
      · omega
      · split <;> omega
theorem len_eq {m : Nat} (hm : m ≤ 500) : (decTextv (recLen m : Int)).size + m = recLen m := by
  have hb : recLen m < 1000 := by unfold recLen; split <;> (try split) <;> omega
  rw [dec_len hb]
  unfold recLen
  split
  · rw [if_pos (by omega)]; omega
  · split
    · rw [if_neg (by omega), if_pos (by omega)]; omega
    · rw [if_neg (by omega), if_neg (by omega)]; omega
theorem recLen_bd (m : Nat) : m + 1 ≤ recLen m ∧ recLen m ≤ m + 3 := by
  unfold recLen; split <;> (try split) <;> omega
theorem recRest_size (k v : ByteArray) : (recRest k v).size = k.size + v.size + 3 := by
  simp [recRest, ByteArray.size_append]
  show 1 + k.size + 1 + v.size + 1 = _
  omega
theorem recRest_list (k v : ByteArray) : (recRest k v).data.toList = 32 :: (k.data.toList ++ 61 :: (v.data.toList ++ [10])) := by
  simp [recRest]
theorem recOk_facts {k v : ByteArray} (h : recOkv k v = true) : 1 ≤ k.size ∧ k.size ≤ 30 ∧ v.size ≤ 250 ∧ (∀ c ∈ k.data.toList, c ≠ 61 ∧ c ≠ 32 ∧ c ≠ 10) ∧ ∀ c ∈ v.data.toList, c ≠ 0 ∧ c ≠ 10 := by
  simp only [recOkv, Bool.and_eq_true, decide_eq_true_eq, inB, signv, List.all_eq_true] at h
  obtain ⟨⟨⟨⟨h1, h2⟩, h3⟩, h4⟩, h5⟩ := h
  refine ⟨by omega, by omega, h4, fun c hc => ?_, fun c hc => ?_⟩
  · have a := h2 c hc
    have b := h3 c hc
    simp only [signb, Bool.and_eq_true, decide_eq_true_eq] at a
    refine ⟨by simpa [keyb] using b, ?_, ?_⟩
    · rintro rfl; simp at a
    · rintro rfl; simp at a
  · simpa [valb] using h5 c hc
theorem putRec_size {k v : ByteArray} (h : recOkv k v = true) : (putRecv k v).size = recLen (k.size + v.size + 3) ∧ recLen (k.size + v.size + 3) ≤ 286 := by
  obtain ⟨h1, h2, h3, _⟩ := recOk_facts h
  have hb := recLen_bd (k.size + v.size + 3)
  rw [putRecv, if_pos h, recText, ByteArray.size_append, recRest_size]
  have := len_eq (m := k.size + v.size + 3) (by omega)
  omega
theorem putRec_le (k v : ByteArray) : (putRecv k v).size ≤ 286 := by
  by_cases h : recOkv k v = true
  · have := putRec_size h; omega
  · rw [putRecv, if_neg h]; exact Nat.zero_le _
theorem putRec_empty (k v : ByteArray) : (putRecv k v).size = 0 ↔ recOkv k v = false := by
  constructor
  · intro h
    cases hr : recOkv k v with
    | false => rfl
    | true => have := putRec_size hr; have := recLen_bd (k.size + v.size + 3); omega
  · intro h; rw [putRecv, h]; rfl
end Go.Proofs.YtgpgkgahbkmdiaaGreatDoor

/- Contracts of spec.PutRecord and impl.PutRecord. -/
namespace Go.Proofs.YtgpgkgahbkmdiaaGreatDoor
open Go.ChangeShapes Go.WideShapes Go.ChangeAt Go.RowKit

set_option maxHeartbeats 1600000 in
theorem putRecord_spec (k v : ByteArray) (w : World) (hk : k.size ≤ 4194304) (hv : v.size ≤ 4194304) :
    Calls Tryz.prog 35 #[.agg #[.string k, .string v]] w fun e w' => e = .returned (.string (putRecv k v)) ∧ Below w.heap.size w w' := by
  have H1 := Lib.hid (fun w => recordOk_spec k v w hk hv)
  cases hr : recOkv k v with
  | false =>
    have HP : Hid (putRecv k v = ⟨#[]⟩) := Lib.hid (by rw [putRecv, hr]; rfl)
    rw [hr] at H1
    clear hr
    go_enter Tryz.func35, Tryz.ntmps35
    go_wp2_with fail
    refine (H1.out _).mono ?_
    rintro e w1 ⟨rfl, hb⟩
    have B := Lib.hid (one_newR (e1 := ⟨k, v⟩) hb).2.1
    clear hb
    go_wp2_with fail
    go_ret
    exact ⟨ret_str HP.out.symm, B.out⟩
  | true =>
    have HP : Hid (putRecv k v = decTextv (recLen (recRest k v).size : Nat) ++ recRest k v) := Lib.hid (by rw [putRecv, hr]; rfl)
    have hm : (recRest k v).size ≤ 500 := by have := recOk_facts hr; rw [recRest_size]; omega
    have hbd := recLen_bd (recRest k v).size
    have hsz := recRest_size k v
    have HL : Hid (∀ n : Nat, (recRest k v).size + 1 ≤ n → n < recLen (recRest k v).size → n < (decTextv (n : Int)).size + (recRest k v).size) := Lib.hid (fun n h0 h1 => len_lt h0 h1 hm)
    have HE : Hid ((decTextv (recLen (recRest k v).size : Int)).size + (recRest k v).size = recLen (recRest k v).size) := Lib.hid (len_eq hm)
    have HD := Lib.hid (fun (n : Nat) w (hn : n ≤ 600) => decText_spec (n : Int) (by omega) (by omega) w)
    have HRr : Hid (recRest k v = ⟨#[32]⟩ ++ k ++ ⟨#[61]⟩ ++ v ++ ⟨#[10]⟩) := Lib.hid rfl
    generalize putRecv k v = r at HP
    rw [hr] at H1
    clear hr
    go_enter Tryz.func35, Tryz.ntmps35
    go_wp2_with fail
    refine (H1.out _).mono ?_
    rintro e w1 ⟨rfl, hb⟩
    obtain ⟨r1, b1, z1⟩ := one_newR (e1 := ⟨k, v⟩) hb
    have B := Lib.hid b1
    obtain ⟨c0, c1⟩ := r1.zero
    clear hb r1 b1
    go_wp2_with fail
    rw [← HRr.out]
    generalize recRest k v = R at *
    clear HRr c0 c1
    go_loopw [4] (fun u wr => ∃ n : Nat, u = .int .i64 n ∧ R.size + 1 ≤ n ∧ n ≤ recLen R.size ∧ Below w.heap.size w wr) (fun u _ => recLen R.size - (intOf u).toNat)
    case atStart => exact ⟨R.size + 1, by go_num, Nat.le_refl _, hbd.1, B.out⟩
    case round =>
      obtain ⟨n, rfl, hn0, hn1, hb⟩ := hrel
      replace B := Lib.hid hb
      clear hb
      by_cases hlt : n < recLen R.size
      · have hq := HL.out n hn0 hlt
        have hd3 := dec_le3 (n := n) (by omega)
        have HDn := Lib.hid (fun w => HD.out n w (by omega))
        generalize decTextv (n : Int) = d at hq HDn hd3
        have hq1 : ((n : Int) == (d.size : Int) + (R.size : Int)) = false := by simp; omega
        have hq2 : (n : Int) < (d.size : Int) + (R.size : Int) := by omega
        go_wp2_with fail
        refine (HDn.out _).mono ?_
        rintro e _ ⟨rfl, rfl⟩
        go_wp2_with fail
        go_roundw
        case rel => exact ⟨n + 1, by go_num, by omega, by omega, B.out⟩
        case measure => simp [intOf]; omega
      · obtain rfl : n = recLen R.size := by omega
        have hq := HE.out
        have hd3 := dec_le3 (n := recLen R.size) (by omega)
        have HDn := Lib.hid (fun w => HD.out (recLen R.size) w (by omega))
        clear HL HE
        generalize recLen R.size = n at *
        generalize decTextv (n : Int) = d at hq HDn HP hd3
        have hq1 : ((n : Int) == (d.size : Int) + (R.size : Int)) = true := by simp; omega
        have hq2 : ¬ (n : Int) < (d.size : Int) + (R.size : Int) := by omega
        go_wp2_with fail
        refine (HDn.out _).mono ?_
        rintro e _ ⟨rfl, rfl⟩
        go_wp2_with fail
        refine (HDn.out _).mono ?_
        rintro e _ ⟨rfl, rfl⟩
        go_wp2_with fail
        go_ret
        exact ⟨ret_str HP.out.symm, B.out⟩

set_option maxHeartbeats 1600000 in
theorem putRecord_impl (k v : ByteArray) (w : World) (hk : k.size ≤ 4194304) (hv : v.size ≤ 4194304) (ht : Lib.TabIs Tryz.prog w "internal/strconv.uint64pow10" .u64 Lib.pow10Tab) :
    Calls Tryz.prog 84 #[.agg #[.string k, .string v]] w fun e w' => e = .returned (.string (putRecv k v)) ∧ Below w.heap.size w w' := by
  have H1 := Lib.hid (fun w => recordOk_impl k v w hk hv)
  cases hr : recOkv k v with
  | false =>
    have HP : Hid (putRecv k v = ⟨#[]⟩) := Lib.hid (by rw [putRecv, hr]; rfl)
    rw [hr] at H1
    clear hr
    go_enter Tryz.func84, Tryz.ntmps84
    go_wp2_with fail
    refine (H1.out _).mono ?_
    rintro e w1 ⟨rfl, hb⟩
    have B := Lib.hid (one_newR (e1 := ⟨k, v⟩) hb).2.1
    clear hb
    go_wp2_with fail
    go_ret
    exact ⟨ret_str HP.out.symm, B.out⟩
  | true =>
    have HP : Hid (putRecv k v = decTextv (recLen (recRest k v).size : Nat) ++ recRest k v) := Lib.hid (by rw [putRecv, hr]; rfl)
    have hm : (recRest k v).size ≤ 500 := by have := recOk_facts hr; rw [recRest_size]; omega
    have hbd := recLen_bd (recRest k v).size
    have hsz := recRest_size k v
    have HL : Hid (∀ n : Nat, (recRest k v).size + 1 ≤ n → n < recLen (recRest k v).size → n < (decTextv (n : Int)).size + (recRest k v).size) := Lib.hid (fun n h0 h1 => len_lt h0 h1 hm)
    have HE : Hid ((decTextv (recLen (recRest k v).size : Int)).size + (recRest k v).size = recLen (recRest k v).size) := Lib.hid (len_eq hm)
    have HD := Lib.hid (fun (n : Nat) w (hn : n ≤ 600) (h : Lib.TabIs Tryz.prog w "internal/strconv.uint64pow10" .u64 Lib.pow10Tab) => decText_impl (n : Int) (by omega) (by omega) w h)
    have HT := Lib.hid ht
    clear ht
    have HRr : Hid (recRest k v = ⟨#[32]⟩ ++ k ++ ⟨#[61]⟩ ++ v ++ ⟨#[10]⟩) := Lib.hid rfl
    generalize putRecv k v = r at HP
    rw [hr] at H1
    clear hr
    go_enter Tryz.func84, Tryz.ntmps84
    go_wp2_with fail
    refine (H1.out _).mono ?_
    rintro e w1 ⟨rfl, hb⟩
    obtain ⟨r1, b1, z1⟩ := one_newR (e1 := ⟨k, v⟩) hb
    have B := Lib.hid b1
    obtain ⟨c0, c1⟩ := r1.zero
    clear hb r1 b1
    go_wp2_with fail
    rw [← HRr.out]
    generalize recRest k v = R at *
    clear HRr c0 c1
    go_loopw [4] (fun u wr => ∃ n : Nat, u = .int .i64 n ∧ R.size + 1 ≤ n ∧ n ≤ recLen R.size ∧ Below w.heap.size w wr) (fun u _ => recLen R.size - (intOf u).toNat)
    case atStart => exact ⟨R.size + 1, by go_num, Nat.le_refl _, hbd.1, B.out⟩
    case round =>
      obtain ⟨n, rfl, hn0, hn1, hb⟩ := hrel
      replace B := Lib.hid hb
      clear hb
      by_cases hlt : n < recLen R.size
      · have hq := HL.out n hn0 hlt
        have hd3 := dec_le3 (n := n) (by omega)
        have HDn := Lib.hid (fun w => HD.out n w (by omega))
        generalize decTextv (n : Int) = d at hq HDn hd3
        have hq1 : ((n : Int) == (d.size : Int) + (R.size : Int)) = false := by simp; omega
        have hq2 : (n : Int) < (d.size : Int) + (R.size : Int) := by omega
        go_wp2_with fail
        refine (HDn.out _ (Lib.tabBelow_of_tabIs HT.out _ B.out)).mono ?_
        rintro e w2 ⟨rfl, hb⟩
        replace B := Lib.hid (btR B.out hb)
        clear hb
        go_wp2_with fail
        go_roundw
        case rel => exact ⟨n + 1, by go_num, by omega, by omega, B.out⟩
        case measure => simp [intOf]; omega
      · obtain rfl : n = recLen R.size := by omega
        have hq := HE.out
        have hd3 := dec_le3 (n := recLen R.size) (by omega)
        have HDn := Lib.hid (fun w => HD.out (recLen R.size) w (by omega))
        clear HL HE
        generalize recLen R.size = n at *
        generalize decTextv (n : Int) = d at hq HDn HP hd3
        have hq1 : ((n : Int) == (d.size : Int) + (R.size : Int)) = true := by simp; omega
        have hq2 : ¬ (n : Int) < (d.size : Int) + (R.size : Int) := by omega
        go_wp2_with fail
        refine (HDn.out _ (Lib.tabBelow_of_tabIs HT.out _ B.out)).mono ?_
        rintro e w2 ⟨rfl, hb⟩
        replace B := Lib.hid (btR B.out hb)
        clear hb
        go_wp2_with fail
        refine (HDn.out _ (Lib.tabBelow_of_tabIs HT.out _ B.out)).mono ?_
        rintro e w3 ⟨rfl, hb⟩
        replace B := Lib.hid (btR B.out hb)
        clear hb
        go_wp2_with fail
        go_ret
        exact ⟨ret_str HP.out.symm, B.out⟩
end Go.Proofs.YtgpgkgahbkmdiaaGreatDoor

/- Contracts of laws.eqRecord and laws.eqRecordS where both are the same. -/
namespace Go.Proofs.YtgpgkgahbkmdiaaGreatDoor
open Go.ChangeShapes Go.WideShapes Go.ChangeAt Go.RowKit Go.Deep

theorem bl_chR {w x w1 : World} (h1 : Below x.heap.size x w1) (os : x.os = w.os) (tape : x.tape = w.tape) (out : x.output = w.output) (hs : w.heap.size ≤ x.heap.size) (B : Nat) (hB : B ≤ x.heap.size) (hb : ∀ k, k < B → x.heap[k]? = w.heap[k]?) : Below B w w1 :=
  ⟨h1.os.trans os, h1.tape.trans tape, h1.output.trans out, Nat.le_trans hs h1.size, fun k hk => (h1.block k (Nat.lt_of_lt_of_le hk hB)).trans (hb k hk)⟩
theorem getR {L : List Rec} {i : Nat} (h : i < L.length) : ∃ e, L[i]? = some e := ⟨L[i], List.getElem?_eq_getElem h⟩
end Go.Proofs.YtgpgkgahbkmdiaaGreatDoor

/- Contracts of spec.PutRecords and impl.PutRecords. -/
namespace Go.Proofs.YtgpgkgahbkmdiaaGreatDoor
open Go.ChangeShapes Go.WideShapes Go.ChangeAt Go.RowKit Go.Deep

/-- The records' texts, one behind the other; nothing if one is none. -/
def recsText : List Rec → ByteArray
  | [] => ⟨#[]⟩
  | r :: L => putRecv r.key r.value ++ recsText L
def allOk (L : List Rec) : Bool := L.all (fun r => recOkv r.key r.value)
def putRecsv (L : List Rec) : ByteArray := if allOk L && decide (L.length ≤ 20) then recsText L else ⟨#[]⟩
theorem recsText_snoc (L : List Rec) (r : Rec) : recsText (L ++ [r]) = recsText L ++ putRecv r.key r.value := by
  induction L with
  | nil =>
    apply ba_ext
    simp [recsText]
  | cons a L ih => simp only [List.cons_append, recsText, ih, ByteArray.append_assoc]
theorem recsText_le (L : List Rec) : (recsText L).size ≤ L.length * 286 := by
  induction L with
  | nil => exact Nat.zero_le _
  | cons a L ih =>
    simp only [recsText, ByteArray.size_append, List.length_cons]
    have := putRec_le a.key a.value
    omega
theorem take_snocR {L : List Rec} {i : Nat} {e : Rec} (he : L[i]? = some e) : L.take (i + 1) = L.take i ++ [e] := by
  rw [List.take_add_one, he]; rfl
theorem allOk_bad {L : List Rec} {i : Nat} {e : Rec} (he : L[i]? = some e) (hb : recOkv e.key e.value = false) : putRecsv L = ⟨#[]⟩ := by
  have : allOk L = false := by
    cases h : allOk L with
    | false => rfl
    | true =>
      have := List.all_eq_true.1 h e (List.mem_of_getElem? he)
      rw [hb] at this; cases this
  rw [putRecsv, this]; rfl
theorem allOk_snoc {L : List Rec} {i : Nat} {e : Rec} (he : L[i]? = some e) (h : allOk (L.take i) = true) (hb : recOkv e.key e.value = true) : allOk (L.take (i + 1)) = true := by
  rw [take_snocR he]
  simp only [allOk, List.all_append, List.all_cons, List.all_nil, Bool.and_true, Bool.and_eq_true]
  exact ⟨h, hb⟩
/-- The texts of records are small. -/
def SmallR (L : List Rec) : Prop := ∀ e ∈ L, e.key.size ≤ 4194304 ∧ e.value.size ≤ 4194304

set_option maxHeartbeats 3200000 in
theorem putRecords_spec (L : List Rec) (n g cap : Nat) (w : World) (hn : n = L.length) (hm : n ≤ 4194304) (hg : g < w.heap.size) (hsm : SmallR L) (h1 : RowR w g L) :
    Calls Tryz.prog 37 #[.slice (some ⟨g, 0, none⟩) n cap] w fun e w' => e = .returned (.string (putRecsv L)) ∧ Below w.heap.size w w' := by
  have H1 := Lib.hid h1
  have HG : Hid (∀ i, i < n → ∃ e, L[i]? = some e ∧ e.key.size ≤ 4194304 ∧ e.value.size ≤ 4194304) := Lib.hid (fun i hi => by obtain ⟨e, he⟩ := getR (L := L) (i := i) (by omega); exact ⟨e, he, hsm e (List.mem_of_getElem? he)⟩)
  have HD : Hid (allOk (L.take n) = true → n ≤ 20 → putRecsv L = recsText (L.take n)) := Lib.hid (fun h h2 => by rw [hn, List.take_length] at h ⊢; rw [putRecsv, h, decide_eq_true (by omega)]; rfl)
  have H0 : Hid (n = 0 → putRecsv L = ⟨#[]⟩) := Lib.hid (fun h => by have : L = [] := List.eq_nil_of_length_eq_zero (by omega); subst this; rfl)
  have HX : Hid (20 < n → putRecsv L = ⟨#[]⟩) := Lib.hid (fun h => by rw [putRecsv, decide_eq_false (by omega : ¬ L.length ≤ 20)]; simp)
  have HA : Hid (∀ (i : Nat) (e : Rec), L[i]? = some e → recOkv e.key e.value = false → putRecsv L = ⟨#[]⟩) := Lib.hid (fun i e he hb => allOk_bad he hb)
  clear h1 hn hsm
  generalize putRecsv L = r at HD H0 HX HA
  go_enter Tryz.func37, Tryz.ntmps37
  go_wp2_with fail
  go_loopw [3, 4] (fun v u wr => ∃ i : Nat, u = .int .i64 i ∧ i ≤ n ∧ (0 < i → n ≤ 20) ∧ allOk (L.take i) = true ∧ v = .string (recsText (L.take i)) ∧ Below w.heap.size w wr) (fun _ u _ => n - (intOf u).toNat)
  case atStart => exact ⟨0, rfl, Nat.zero_le _, fun h => by omega, by simp [allOk], by simp [recsText], Below.refl _ _⟩
  case round =>
    obtain ⟨i, rfl, hi, h20, ha, rfl, hb⟩ := hrel
    have A := Lib.hid ha
    have B := Lib.hid hb
    clear ha hb
    by_cases hlt : i < n
    · have hlt2 : (i : Int) < (n : Int) := by omega
      obtain ⟨e, he, hk, hv⟩ := HG.out i hlt
      have R := Lib.hid (H1.out.below B.out hg)
      obtain ⟨c0, c1⟩ := R.out.cols he
      have A2 := Lib.hid (allOk_snoc he A.out)
      have T2 := Lib.hid (show recsText (L.take (i + 1)) = recsText (L.take i) ++ putRecv e.key e.value by rw [take_snocR he, recsText_snoc])
      have X2 := Lib.hid (HA.out i e he)
      have tl := recsText_le (L.take i)
      have tn : (L.take i).length ≤ i := by simp; omega
      have HE := Lib.hid he
      clear he
      obtain ⟨k, v⟩ := e
      have P0 := Lib.hid (fun w => recordOk_spec k v w hk hv)
      have P1 := Lib.hid (fun w => putRecord_spec k v w hk hv)
      have pl := putRec_le k v
      dsimp only at A2 T2 X2 hk hv c0 c1
      generalize recsText (L.take i) = tx at *
      generalize putRecv k v = pt at *
      cases hr : recOkv k v with
      | false =>
        have HF : Hid (r = ⟨#[]⟩) := Lib.hid (X2.out hr)
        rw [hr] at P0
        clear hr X2 A2
        go_wp2_with fail
        refine (P0.out _).mono ?_
        rintro e w1 ⟨rfl, hb⟩
        replace B := Lib.hid (btR B.out hb)
        clear hb
        go_wp2_with fail
        go_ret
        exact ⟨ret_str HF.out.symm, B.out⟩
      | true =>
        rw [hr] at P0
        have A3 := Lib.hid (A2.out hr)
        clear hr X2 A2
        by_cases hx : (20 : Int) < (n : Int)
        · have HF : Hid (r = ⟨#[]⟩) := Lib.hid (HX.out (by omega))
          go_wp2_with fail
          refine (P0.out _).mono ?_
          rintro e w1 ⟨rfl, hb⟩
          replace B := Lib.hid (btR B.out hb)
          clear hb
          go_wp2_with fail
          go_ret
          exact ⟨ret_str HF.out.symm, B.out⟩
        · go_wp2_with fail
          refine (P0.out _).mono ?_
          rintro e w1 ⟨rfl, hb⟩
          replace B := Lib.hid (btR B.out hb)
          clear hb
          replace R := Lib.hid (H1.out.below B.out hg)
          clear c0 c1
          obtain ⟨c0, c1⟩ := R.out.cols HE.out
          dsimp only at c0 c1
          go_wp2_with fail
          refine (P1.out _).mono ?_
          rintro e w2 ⟨rfl, hb⟩
          replace B := Lib.hid (btR B.out hb)
          clear hb c0 c1
          go_wp2_with fail
          go_roundw
          case rel => exact ⟨i + 1, by go_num, by omega, fun _ => by omega, A3.out, by rw [T2.out], B.out⟩
          case measure => simp [intOf]; omega
    · obtain rfl : i = n := by omega
      have hlt2 : ¬ (i : Int) < (i : Int) := by omega
      have HF : Hid (r = recsText (L.take i)) := Lib.hid (by
        by_cases h0 : i = 0
        · rw [H0.out h0, h0]; simp [recsText]
        · exact HD.out A.out (h20 (by omega)))
      go_wp2_with fail
      go_ret
      exact ⟨ret_str HF.out.symm, B.out⟩

theorem textR {w : World} {base n : Nat} {v : Value} {l : List UInt8} {s : ByteArray} (hn : n = l.length + s.size) (h : w.ownsRow base 5 1 v n (byteVals l ++ Lib.strCells s)) : OwnB w base v (l ++ s.data.toList) := by
  subst hn
  have e : byteVals l ++ Lib.strCells s = byteVals (l ++ s.data.toList) := by simp [byteVals, Lib.strCells]
  rw [e, show l.length + s.size = (l ++ s.data.toList).length from by simp] at h
  exact h
theorem ownB_belowR {w w' : World} {base : Nat} {v : Value} {l : List UInt8} (h : OwnB w base v l) (hb : Below w.heap.size w w') : OwnB w' base v l :=
  World.ownsRow.kept h (row := none) ⟨hb.os, hb.tape, hb.output, hb.size, fun k hk _ => hb.block k hk⟩ (by cases hv : v.ownBlock <;> simp)
theorem emptR {l : ByteArray} (h : l.size = 0) : l.toList.isEmpty = true := by
  rw [ba_toList]
  have : l.data.toList = [] := List.eq_nil_of_length_eq_zero (by simpa using h)
  rw [this]; rfl
theorem fullR {l : ByteArray} (h : ¬ l.size = 0) : l.toList.isEmpty = false := by
  rw [ba_toList]
  cases hd : l.data.toList with
  | nil => exact absurd (by have := congrArg List.length hd; simpa using this) h
  | cons a b => rfl
set_option maxHeartbeats 3200000 in
theorem putRecords_impl (L : List Rec) (n g cap : Nat) (w : World) (hn : n = L.length) (hm : n ≤ 4194304) (hg : g < w.heap.size) (hsm : SmallR L) (h1 : RowR w g L) (ht : Lib.TabIs Tryz.prog w "internal/strconv.uint64pow10" .u64 Lib.pow10Tab) :
    Calls Tryz.prog 58 #[.slice (some ⟨g, 0, none⟩) n cap] w fun e w' => e = .returned (.string (putRecsv L)) ∧ Below w.heap.size w w' := by
  obtain ⟨i0, hi0, hz0, hz1, hz2⟩ := info_parts Tryz.info5
  have H1 := Lib.hid h1
  have HT := Lib.hid ht
  have HG : Hid (∀ i, i < n → ∃ e, L[i]? = some e ∧ e.key.size ≤ 4194304 ∧ e.value.size ≤ 4194304) := Lib.hid (fun i hi => by obtain ⟨e, he⟩ := getR (L := L) (i := i) (by omega); exact ⟨e, he, hsm e (List.mem_of_getElem? he)⟩)
  have HD : Hid (allOk (L.take n) = true → n ≤ 20 → putRecsv L = recsText (L.take n)) := Lib.hid (fun h h2 => by rw [hn, List.take_length] at h ⊢; rw [putRecsv, h, decide_eq_true (by omega)]; rfl)
  have HX : Hid (20 < n → putRecsv L = ⟨#[]⟩) := Lib.hid (fun h => by rw [putRecsv, decide_eq_false (by omega : ¬ L.length ≤ 20)]; simp)
  have HA : Hid (∀ (i : Nat) (e : Rec), L[i]? = some e → recOkv e.key e.value = false → putRecsv L = ⟨#[]⟩) := Lib.hid (fun i e he hb => allOk_bad he hb)
  clear h1 hn hsm ht
  generalize putRecsv L = r at HD HX HA
  by_cases hx : (20 : Int) < (n : Int)
  · have HF : Hid (r = ⟨#[]⟩) := Lib.hid (HX.out (by omega))
    go_enter Tryz.func58, Tryz.ntmps58
    go_wp2_with fail
    go_ret
    exact ⟨ret_str HF.out.symm, Below.refl _ _⟩
  have hx2 : n ≤ 20 := by omega
  have O0 : Hid (OwnB w w.heap.size (.slice none 0 0) []) := Lib.hid ⟨rfl, .inl ⟨rfl, rfl⟩⟩
  go_enter Tryz.func58, Tryz.ntmps58
  go_wp2_with fail
  go_loopw [3, 12] (fun v u wr => ∃ i : Nat, u = .int .i64 i ∧ i ≤ n ∧ allOk (L.take i) = true ∧ OwnB wr w.heap.size v (recsText (L.take i)).data.toList ∧ Below w.heap.size w wr) (fun _ u _ => n - (intOf u).toNat)
  case atStart => exact ⟨0, rfl, Nat.zero_le _, by simp [allOk], O0.out, Below.refl _ _⟩
  case round =>
    obtain ⟨i, rfl, hi, ha, ho, hb⟩ := hrel
    have A := Lib.hid ha
    have B := Lib.hid hb
    have O := Lib.hid ho
    clear ha hb ho O0
    by_cases hlt : i < n
    · have hlt2 : (i : Int) < (n : Int) := by omega
      obtain ⟨e, he, hk, hv⟩ := HG.out i hlt
      have R := Lib.hid (H1.out.below B.out hg)
      obtain ⟨c0, c1⟩ := R.out.cols he
      have A2 := Lib.hid (allOk_snoc he A.out)
      have T2 := Lib.hid (show recsText (L.take (i + 1)) = recsText (L.take i) ++ putRecv e.key e.value by rw [take_snocR he, recsText_snoc])
      have X2 := Lib.hid (HA.out i e he)
      have tl := recsText_le (L.take i)
      have tn : (L.take i).length ≤ i := by simp; omega
      clear he
      obtain ⟨k, v⟩ := e
      have P1 := Lib.hid (fun w h => putRecord_impl k v w hk hv h)
      have pl := putRec_le k v
      have PE := Lib.hid (putRec_empty k v)
      dsimp only at A2 T2 X2 hk hv c0 c1
      generalize recsText (L.take i) = tx at *
      generalize putRecv k v = pt at *
      go_wp2_with fail
      refine (P1.out _ (Lib.tabBelow_of_tabIs HT.out _ (B.out.alloc B.out.size _))).mono ?_
      rintro e w1 ⟨rfl, hb⟩
      replace O := Lib.hid (ownB_belowR (World.ownsRow.alloc O.out _) hb)
      replace B := Lib.hid (btR B.out (one_newR (e1 := ⟨k, v⟩) hb).2.1)
      clear hb c0 c1
      cases hr : recOkv k v with
      | false =>
        have HF : Hid (r = ⟨#[]⟩) := Lib.hid (X2.out hr)
        have q := emptR (PE.out.2 hr)
        clear hr X2 A2
        go_wp2_with fail
        go_ret
        exact ⟨ret_str HF.out.symm, B.out⟩
      | true =>
        have A3 := Lib.hid (A2.out hr)
        have q := fullR (fun h => by rw [PE.out.1 h] at hr; cases hr)
        clear hr X2 A2
        have zT : tx.data.toList.length = tx.size := by simp
        have s3 := B.out.size
        go_wp2_with (at_builtin; refine Lib.wpList_append_own_string _ rfl _ _ 40 9 rfl w.heap.size 5 i0 Tryz.underlying40 Tryz.underlying9 hi0 hz0 hz1 hz2 _ _ _ rfl O.out pt rfl ?d3 ?d4 ?d5 ?_)
        case d3 => simp only [maxLen]; omega
        case d4 => omega
        case d5 => omega
        · intro v4 w4 hown4 hgrow4 _
          have O4 : OwnB w4 w.heap.size v4 (tx.data.toList ++ pt.data.toList) := textR (by simp <;> omega) hown4
          rw [show tx.data.toList ++ pt.data.toList = (tx ++ pt).data.toList from by simp] at O4
          have O5 := Lib.hid O4
          have B4 : Hid (Below w.heap.size w w4) := Lib.hid (B.out.grown hgrow4 (by omega) (fun b hb => (World.ownsRow.lt O.out b hb).1))
          clear hown4 hgrow4 O4
          go_wp2_with fail
          go_roundw
          case rel => exact ⟨i + 1, by go_num, by omega, A3.out, by rw [T2.out]; exact O5.out, B4.out⟩
          case measure => simp [intOf]; omega
    · obtain rfl : i = n := by omega
      have hlt2 : ¬ (i : Int) < (i : Int) := by omega
      have HF : Hid (r = recsText (L.take i)) := Lib.hid (HD.out A.out hx2)
      have hc := O.out.conv
      rw [show (⟨(recsText (L.take i)).data.toList.toArray⟩ : ByteArray) = recsText (L.take i) from by simp] at hc
      go_wp2_with fail
      go_ret
      exact ⟨ret_str HF.out.symm, B.out⟩
end Go.Proofs.YtgpgkgahbkmdiaaGreatDoor

/- The bytes of a pax archive: plain lists only. -/
namespace Go.Proofs.YtgpgkgahbkmdiaaGreatDoor
open Go.ChangeShapes Go.WideShapes Go.ChangeAt Go.RowKit

def extrav (fl path body : ByteArray) : ByteArray := putHeadv ⟨0, path, ⟨#[]⟩, 420, 0, 0, 0, ⟨#[]⟩, ⟨#[]⟩, ⟨#[]⟩⟩ fl body.size ++ bodyP body
theorem extra_mem (fl path body : ByteArray) : memv ⟨0, path, ⟨#[]⟩, 420, 0, 0, 0, ⟨#[]⟩, ⟨#[]⟩, body⟩ fl = extrav fl path body := by
  rw [memv, extrav]
  congr 1
  show putHeadv ⟨0, path, ⟨#[]⟩, 420, 0, 0, 0, ⟨#[]⟩, ⟨#[]⟩, body⟩ fl body.size = putHeadv ⟨0, path, ⟨#[]⟩, 420, 0, 0, 0, ⟨#[]⟩, ⟨#[]⟩, ⟨#[]⟩⟩ fl body.size
  by_cases hb : body.size ≤ 3000
  · have e : fitsv ⟨0, path, ⟨#[]⟩, 420, 0, 0, 0, ⟨#[]⟩, ⟨#[]⟩, body⟩ = fitsv ⟨0, path, ⟨#[]⟩, 420, 0, 0, 0, ⟨#[]⟩, ⟨#[]⟩, ⟨#[]⟩⟩ := by
      have h0 : (⟨#[]⟩ : ByteArray).size = 0 := rfl
      simp [fitsv, entOkv, kindOk, hb, h0]
    rw [putHeadv, putHeadv, e]
    rfl
  · rw [putHead_no (fun h => hb (by have := h.2.2.2; omega)), putHead_no (fun h => hb (by have := h.2.2.2; omega))]
theorem extra_le (fl path body : ByteArray) : (extrav fl path body).size ≤ body.size + 1023 := by
  have h1 := putHead_le ⟨0, path, ⟨#[]⟩, 420, 0, 0, 0, ⟨#[]⟩, ⟨#[]⟩, ⟨#[]⟩⟩ fl body.size
  have h2 := body_size body
  rw [extrav, ByteArray.size_append]
  omega
def flX : ByteArray := ⟨#[120]⟩
def flG : ByteArray := ⟨#[103]⟩
def paxX : ByteArray := ⟨#[112, 97, 120, 95, 120]⟩
def paxG : ByteArray := ⟨#[112, 97, 120, 95, 103, 108, 111, 98, 97, 108]⟩
def recC : Rec := ⟨⟨#[99, 111, 109, 109, 101, 110, 116]⟩, ⟨#[99, 114, 97, 116, 101, 115]⟩⟩
theorem recC_ok : recOkv recC.key recC.value = true := by decide +kernel
theorem recC_text : putRecsv [recC] = putRecv recC.key recC.value := by
  have h : allOk [recC] = true := by simp [allOk, recC_ok]
  rw [putRecsv, h]
  apply ba_ext
  simp [recsText]
def paxHead : ByteArray := extrav flG paxG (putRecv recC.key recC.value)
theorem paxHead_le : paxHead.size ≤ 1400 := by
  have h1 := extra_le flG paxG (putRecv recC.key recC.value)
  have h2 := putRec_le recC.key recC.value
  unfold paxHead
  omega
def paxA (T : ByteArray) (e : Ent) : ByteArray := if 0 < (base1L e).length then T ++ extrav flX paxX (putRecsv (base1L e)) else T
def paxTo (L : List Ent) : Nat → ByteArray
  | 0 => paxHead
  | i + 1 => paxA (paxTo L i) (L.getD i entD) ++ putHeadv (base1E (L.getD i entD)) (flagv (base1E (L.getD i entD)).kind) (base1E (L.getD i entD)).body.size ++ bodyP (base1E (L.getD i entD)).body
theorem pax_step {L : List Ent} {i : Nat} {e : Ent} (h : L[i]? = some e) : paxTo L (i + 1) = paxA (paxTo L i) e ++ putHeadv (base1E e) (flagv (base1E e).kind) (base1E e).body.size ++ bodyP (base1E e).body := by
  rw [paxTo, show L.getD i entD = e from by simp [List.getD, h]]
theorem pax_stepM {L : List Ent} {i : Nat} {e : Ent} (h : L[i]? = some e) : paxTo L (i + 1) = paxA (paxTo L i) e ++ memv (base1E e) (flagv (base1E e).kind) := by
  rw [pax_step h, memv]
  apply ba_ext
  simp
theorem paxA_yes {T : ByteArray} {e : Ent} (h : (0 : Int) < ((base1L e).length : Int)) : paxA T e = T ++ extrav flX paxX (putRecsv (base1L e)) := by rw [paxA, if_pos (by omega)]
theorem paxA_no {T : ByteArray} {e : Ent} (h : ¬ (0 : Int) < ((base1L e).length : Int)) : paxA T e = T := by rw [paxA, if_neg (by omega)]
theorem base1L_five (e : Ent) : (base1L e).length ≤ 5 := by
  unfold base1L
  split
  · have h1 := b1L_len e.path
    have h2 := b2L_len e.kind (b1p e.path) e.link (b1L e.path)
    have h3 := bnL_len kUid 2097151 e.uid (b2L e.kind (b1p e.path) e.link (b1L e.path))
    have h4 := bnL_len kGid 2097151 e.gid (bnL kUid 2097151 e.uid (b2L e.kind (b1p e.path) e.link (b1L e.path)))
    have h5 := bnL_len kTime 8589934591 e.time (bnL kGid 2097151 e.gid (bnL kUid 2097151 e.uid (b2L e.kind (b1p e.path) e.link (b1L e.path))))
    omega
  · simp
theorem putRecs_le (L : List Rec) (h : L.length ≤ 5) : (putRecsv L).size ≤ 1430 := by
  unfold putRecsv
  split
  · have := recsText_le L; omega
  · decide
theorem paxA_size (T : ByteArray) (e : Ent) : (paxA T e).size ≤ T.size + 2453 := by
  unfold paxA
  split
  · have h1 := extra_le flX paxX (putRecsv (base1L e))
    have h2 := putRecs_le (base1L e) (base1L_five e)
    rw [ByteArray.size_append]; omega
  · omega
theorem base_le (s : ByteArray) : (basev s).size ≤ s.size := by
  rw [basev, ByteArray.size_extract]; omega
theorem entOk_texts {e : Ent} (h : entOkv e = true) : e.path.size ≤ 200 ∧ e.link.size ≤ 200 ∧ e.user.size ≤ 32 ∧ e.group.size ≤ 32 ∧ e.body.size ≤ 3000 ∧ (0 ≤ e.uid ∧ e.uid ≤ 4294967295) ∧ (0 ≤ e.gid ∧ e.gid ≤ 4294967295) ∧ (0 ≤ e.time ∧ e.time ≤ 99999999999) := by
  have h' := h
  simp only [entOkv, Bool.and_eq_true, decide_eq_true_eq, inB, whov] at h
  refine ⟨path_200 h.1.1.1.1.1.1.1, ?_, by omega, by omega, (entOk_kb h').2, by omega, by omega, by omega⟩
  have hk := h.2
  unfold kindOk at hk
  split at hk
  · simp only [Bool.and_eq_true, decide_eq_true_eq] at hk; omega
  · split at hk
    · simp only [Bool.and_eq_true, decide_eq_true_eq] at hk; omega
    · split at hk
      · simp only [Bool.and_eq_true, decide_eq_true_eq, inB] at hk; omega
      · split at hk
        · simp only [Bool.and_eq_true] at hk; exact path_200 hk.1.1
        · cases hk
theorem base1E_texts {e : Ent} (h : entOkv e = true) : (base1E e).path.size ≤ 200 ∧ (base1E e).link.size ≤ 200 ∧ (base1E e).user.size ≤ 32 ∧ (base1E e).group.size ≤ 32 ∧ (base1E e).body.size ≤ 3000 := by
  obtain ⟨h1, h2, h3, h4, h5, _⟩ := entOk_texts h
  rw [base1E, if_pos h]
  refine ⟨?_, ?_, h3, h4, h5⟩
  · show (b1p e.path).size ≤ 200
    unfold b1p
    split
    · exact h1
    · exact Nat.le_trans (base_le _) h1
  · show (b2l e.kind (b1p e.path) e.link).size ≤ 200
    unfold b2l shortv
    have hb := base_le e.link
    have hx : (⟨#[120]⟩ : ByteArray).size = 1 := rfl
    have hy : (⟨#[121]⟩ : ByteArray).size = 1 := rfl
    split
    · split
      · rw [ByteArray.size_extract]; omega
      · split
        · omega
        · split <;> omega
    · exact h2
theorem decText_len {n : Int} (h0 : 0 ≤ n) (h1 : n ≤ 99999999999) : (decTextv n).size ≤ 4194304 := by
  rw [decTextv, decText, if_neg (by omega)]
  have h3 : n.toNat < 10 ^ 11 := by
    have : (10 : Nat) ^ 11 = 100000000000 := by decide
    omega
  have h2 := numeral_len (b := 10) (k := 11) (u := n.toNat) (by omega) (by omega) h3
  rw [ba_size]
  omega
theorem smallR_bn {key : ByteArray} {lim n : Int} {L : List Rec} (hk : key.size ≤ 4194304) (h0 : 0 ≤ n) (h1 : n ≤ 99999999999) (h : SmallR L) : SmallR (bnL key lim n L) := by
  intro r hr
  unfold bnL at hr
  split at hr
  · rcases List.mem_append.1 hr with h2 | h2
    · exact h r h2
    · rw [List.mem_singleton.1 h2]; exact ⟨hk, decText_len h0 h1⟩
  · exact h r hr
theorem base1L_small {e : Ent} (h : entOkv e = true) : SmallR (base1L e) := by
  obtain ⟨h1, h2, _, _, _, h6, h7, h8⟩ := entOk_texts h
  rw [base1L, if_pos h]
  have k1 : kPath.size = 4 := rfl
  have k2 : kLink.size = 8 := rfl
  have k3 : kUid.size = 3 := rfl
  have k4 : kGid.size = 3 := rfl
  have k5 : kTime.size = 5 := rfl
  refine smallR_bn (by omega) h8.1 h8.2 (smallR_bn (by omega) h7.1 (by omega) (smallR_bn (by omega) h6.1 (by omega) ?_))
  have hs : SmallR (b1L e.path) := by
    intro r hr
    unfold b1L at hr
    split at hr
    · cases hr
    · rw [List.mem_singleton.1 hr]; exact ⟨by show kPath.size ≤ _; omega, by show e.path.size ≤ _; omega⟩
  intro r hr
  unfold b2L at hr
  split at hr
  · rcases List.mem_append.1 hr with h3 | h3
    · exact hs r h3
    · rw [List.mem_singleton.1 h3]; exact ⟨by show kLink.size ≤ _; omega, by show e.link.size ≤ _; omega⟩
  · exact hs r hr
def putPaxv (L : List Ent) : ByteArray × Bool := if listOkv L = true then (paxTo L L.length ++ nulv 1024, true) else (⟨#[]⟩, false)
theorem pax_yes {L : List Ent} (h : listOkv L = true) : putPaxv L = (paxTo L L.length ++ nulv 1024, true) := by rw [putPaxv, if_pos h]
theorem pax_bad {L : List Ent} (h : listOkv L = false) : putPaxv L = (⟨#[]⟩, false) := by rw [putPaxv, if_neg (by simp [h])]
theorem pax_size {L : List Ent} (h : listOkv L = true) (i : Nat) (hi : i ≤ L.length) : (paxTo L i).size ≤ 1400 + 6600 * i := by
  induction i with
  | zero => exact paxHead_le
  | succ i ih =>
    have he : L[i]? = some L[i] := List.getElem?_eq_getElem (by omega)
    have hok := listOk_ent h he
    have hb := body_size (base1E L[i]).body
    have hk := (base1E_texts hok).2.2.2.2
    have h5 := putHead_le (base1E L[i]) (flagv (base1E L[i]).kind) (base1E L[i]).body.size
    have h6 := paxA_size (paxTo L i) L[i]
    rw [pax_step he, ByteArray.size_append, ByteArray.size_append]
    have := ih (by omega)
    omega
end Go.Proofs.YtgpgkgahbkmdiaaGreatDoor
