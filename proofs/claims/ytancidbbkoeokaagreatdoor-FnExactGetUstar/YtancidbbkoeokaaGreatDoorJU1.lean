/- Texts joined: EntW, EntAt, EntRow, EntS, EntZ, EntL, EntOk, FindE, EntOkI, Fits, Cut, Fill, HeadMath, PutBig, NumZ, PutF, EntO, HdO, HeadTextI, PutHeadI, FlagK, RdMath, FieldRd, AsErr, HeadRd, RegInv, ReadBy. -/
import Derived.Test.YtancidbbkoeokaaGreatDoorEnt
import Derived.Test.YtancidbbkoeokaaGreatDoorCom
import Derived.Lib.Hide
import Derived.Laws.NewBlocks
import Derived.OwnWalk
import Derived.Maps.AppendAt
import Derived.Test.YtancidbbkoeokaaGreatDoorWhoS
import Derived.Test.YtancidbbkoeokaaGreatDoorPathOk
import Derived.Test.YtancidbbkoeokaaGreatDoorUserI
import Derived.Test.YtancidbbkoeokaaGreatDoorSplit
import Derived.Test.YtancidbbkoeokaaGreatDoorShelf
import Derived.Test.YtancidbbkoeokaaGreatDoorClone
import Derived.WalkSmall
import Derived.IntWalk
import Derived.Test.YtancidbbkoeokaaGreatDoorOwn
import Derived.Lib.Repeat
import Derived.Test.YtancidbbkoeokaaGreatDoorPutOH
import Derived.Test.YtancidbbkoeokaaGreatDoorHeadSum
import Derived.Test.YtancidbbkoeokaaGreatDoorIn
import Derived.Test.YtancidbbkoeokaaGreatDoorBack
import Derived.Laws.ResultCell
import Derived.Laws.Rows
import Derived.Laws.Tables
import Derived.Deep.MidRow
import Derived.Test.YtancidbbkoeokaaGreatDoorPartMath
import Derived.Lib.Bytealg
import Derived.Test.YtancidbbkoeokaaGreatDoorOctMath
import Derived.LaidEql
import Derived.Stop.Asserts
import Derived.RowKitTokens
import Derived.BigRegion
import Derived.Orders
import Derived.Below
import Derived.WalkKit
/- Contracts of laws.toEntry and laws.szEntry. -/
namespace Go.Proofs.YtancidbbkoeokaaGreatDoor
open Go.ChangeShapes Go.WideShapes Go.ChangeAt Go.RowKit

/-- What is left of a bound behind an entry's texts, or -1. -/
def szv (p l us gr b : ByteArray) (left : Int) : Int := if left < (p.size : Int) + l.size + us.size + gr.size + b.size then -1 else left - ((p.size : Int) + l.size + us.size + gr.size + b.size)
end Go.Proofs.YtancidbbkoeokaaGreatDoor

/- Entries in memory: ten cells in a row. -/
namespace Go.Proofs.YtancidbbkoeokaaGreatDoor
open Go.ChangeShapes Go.WideShapes Go.ChangeAt Go.RowKit

def EntAt (w : World) (b o : Nat) (e : Ent) : Prop := ∀ i, i < 10 → w.cell? ⟨b, o + i, none⟩ = e.cells[i]?
theorem EntAt.below {w w' : World} {b o B : Nat} {e : Ent} (h : EntAt w b o e) (hb : Below B w w') (hg : b < B) : EntAt w' b o e := fun i hi => (hb.cell (p := ⟨b, o + i, none⟩) hg).trans (h i hi)
theorem EntAt.zero {w : World} {b : Nat} {e : Ent} (h : EntAt w b 0 e) : w.cell? ⟨b, 0, none⟩ = some (.int .i64 e.kind) ∧ w.cell? ⟨b, 1, none⟩ = some (.string e.path) ∧ w.cell? ⟨b, 2, none⟩ = some (.string e.link) ∧ w.cell? ⟨b, 3, none⟩ = some (.int .i64 e.mode) ∧ w.cell? ⟨b, 4, none⟩ = some (.int .i64 e.uid) ∧ w.cell? ⟨b, 5, none⟩ = some (.int .i64 e.gid) ∧ w.cell? ⟨b, 6, none⟩ = some (.int .i64 e.time) ∧ w.cell? ⟨b, 7, none⟩ = some (.string e.user) ∧ w.cell? ⟨b, 8, none⟩ = some (.string e.group) ∧ w.cell? ⟨b, 9, none⟩ = some (.string e.body) :=
  ⟨h 0 (by omega), h 1 (by omega), h 2 (by omega), h 3 (by omega), h 4 (by omega), h 5 (by omega), h 6 (by omega), h 7 (by omega), h 8 (by omega), h 9 (by omega)⟩
theorem btE {x y z : World} (h : Below x.heap.size x y) (k : Below y.heap.size y z) : Below x.heap.size x z := h.trans (k.mono h.size)
theorem EntAt.new (w : World) (e : Ent) (t : TypeId) : EntAt (w.alloc (.cells e.cells.toArray t)) w.heap.size 0 e := fun i _ => by
  rw [World.cell?_alloc_at _ _ _ _ rfl]
  simp
/-- Two entries laid behind one another, and what a call keeps of them. -/
theorem two_new {w w1 : World} {e1 e2 : Ent} {t1 t2 : TypeId} (h : Below ((w.alloc (.cells e1.cells.toArray t1)).alloc (.cells e2.cells.toArray t2)).heap.size ((w.alloc (.cells e1.cells.toArray t1)).alloc (.cells e2.cells.toArray t2)) w1) :
    EntAt w1 w.heap.size 0 e1 ∧ EntAt w1 (w.heap.size + 1) 0 e2 ∧ Below w.heap.size w w1 ∧ w.heap.size + 2 ≤ w1.heap.size := by
  have hs : ((w.alloc (.cells e1.cells.toArray t1)).alloc (.cells e2.cells.toArray t2)).heap.size = w.heap.size + 2 := by simp
  have n1 : EntAt ((w.alloc (.cells e1.cells.toArray t1)).alloc (.cells e2.cells.toArray t2)) w.heap.size 0 e1 := fun i hi => by
    rw [World.cell?_alloc_past _ _ _ (by simp)]
    exact EntAt.new w e1 t1 i hi
  have n2 : EntAt ((w.alloc (.cells e1.cells.toArray t1)).alloc (.cells e2.cells.toArray t2)) (w.heap.size + 1) 0 e2 := by
    have := EntAt.new (w.alloc (.cells e1.cells.toArray t1)) e2 t2
    simpa using this
  exact ⟨n1.below h (by omega), n2.below h (by omega), (((Below.refl _ w).alloc (Nat.le_refl _) _).alloc (by simp) _).trans (h.mono (by omega)), by have := h.size; omega⟩
/-- One entry laid. -/
theorem one_new {w w1 : World} {e1 : Ent} {t1 : TypeId} (h : Below (w.alloc (.cells e1.cells.toArray t1)).heap.size (w.alloc (.cells e1.cells.toArray t1)) w1) :
    EntAt w1 w.heap.size 0 e1 ∧ Below w.heap.size w w1 ∧ w.heap.size + 1 ≤ w1.heap.size := by
  have hs : (w.alloc (.cells e1.cells.toArray t1)).heap.size = w.heap.size + 1 := by simp
  exact ⟨(EntAt.new w e1 t1).below h (by omega), ((Below.refl _ w).alloc (Nat.le_refl _) _).trans (h.mono (by omega)), by have := h.size; omega⟩
end Go.Proofs.YtancidbbkoeokaaGreatDoor

/- A slice of entries as it comes in. -/
namespace Go.Proofs.YtancidbbkoeokaaGreatDoor
open Go.ChangeShapes Go.WideShapes Go.ChangeAt Go.RowKit Go.Deep

/-- What a walk is told of a slice of entries that came in: it is nil, or it leads to a row of cap entries. -/
def IsRowE (w : World) (a : Option Addr) (len cap : Nat) (es : List Ent) : Prop :=
  (a = none ∧ len = 0 ∧ cap = 0 ∧ es = []) ∨
  ∃ x, a = some x ∧ len ≤ cap ∧ cap ≤ maxLen ∧ es.length = cap ∧ ∀ i, (h : i < es.length) → (∀ j, j < 10 → w.cell? (x.add (i * 10 + j)) = es[i].cells[j]?) ∧ es[i].wf
section
variable {H : Type} {enc : TypeId × Value → H} {P : Program} {w : World} {base : Nat} {held : Bool}
theorem ents_open {t el ti ts : TypeId} {fs : Array Field} {fuel : Nat} {a : Option Addr} {len cap : Nat} {x : DataW H × List MemPlace} (ht : P.underlying t = some (.slice el)) (he : P.underlying el = some (.struct fs)) (hone : oneCellFields P fs = true) (hC : P.cellsOf el = fs.size)
    (hty : fs.toList.map (·.type) = [ti, ts, ts, ti, ti, ti, ti, ts, ts, ts]) (hi : P.underlying ti = some (.int .i64)) (hs : P.underlying ts = some .string)
    (h : DataW.trod enc P w base (fun _ => true) held fuel t [.slice a len cap] = some x) : ∃ es, IsRowE w a len cap es := by
  have hten : fs.size = 10 := by
    have := congrArg List.length hty
    simpa using this
  rcases open_slice ht h with ⟨hcs, _⟩ | ⟨y, l, c, m, n, D, Pl, hcs, _, hl, hm, hmm, _, hel⟩
  · simp at hcs
    obtain ⟨rfl, rfl, rfl⟩ := hcs
    exact ⟨[], .inl ⟨rfl, rfl, rfl, rfl⟩⟩
  · simp at hcs
    obtain ⟨rfl, rfl, rfl⟩ := hcs
    simp at hmm
    subst hmm
    have hex : ∀ i : Nat, ∃ e : Ent, i < m → (∀ j, j < 10 → w.cell? (y.add (i * 10 + j)) = e.cells[j]?) ∧ e.wf := by
      intro i
      by_cases him : i < m
      · obtain ⟨cs', hc, ht'⟩ := hel i him
        obtain ⟨e, rfl, hw⟩ := ent_open he hone hC hty hi hs ht'
        obtain ⟨_, _, hat⟩ := World.cells?_some hc
        rw [hC, hten] at hat
        refine ⟨e, fun _ => ⟨fun j hj => ?_, hw⟩⟩
        rw [← Go.Deep.add_add]
        exact hat j hj
      · exact ⟨⟨0, ⟨#[]⟩, ⟨#[]⟩, 0, 0, 0, 0, ⟨#[]⟩, ⟨#[]⟩, ⟨#[]⟩⟩, fun h => absurd h him⟩
    refine ⟨(List.range m).map fun i => Classical.choose (hex i), .inr ⟨y, rfl, hl, hm, by simp, fun i hi => ?_⟩⟩
    have hi' : i < m := by simpa using hi
    have := Classical.choose_spec (hex i) hi'
    simpa using this
end
end Go.Proofs.YtancidbbkoeokaaGreatDoor

/- Contract of laws.toEntryS. -/
namespace Go.Proofs.YtancidbbkoeokaaGreatDoor
open Go.ChangeShapes Go.WideShapes Go.ChangeAt Go.RowKit Go.Deep

theorem Tryz.infoE : (Tryz.prog.info? 32).map (fun i => (i.zero, i.size, i.bytes)) = some (some (.agg #[.int .i64 0, .string ⟨#[]⟩, .string ⟨#[]⟩, .int .i64 0, .int .i64 0, .int .i64 0, .int .i64 0, .string ⟨#[]⟩, .string ⟨#[]⟩, .string ⟨#[]⟩]), 10, 120) := by kernel_rfl
/-- The ten cells of an entry, as a load of it asks for them. -/
theorem ten_at {w : World} {x : Addr} {n : Nat} {e : Ent} (h : ∀ j, j < 10 → w.cell? (x.add (n + j)) = e.cells[j]?) : w.cell? (x.add n) = some (.int .i64 e.kind) ∧ w.cell? ⟨(x.add n).block, (x.add n).off + 1, none⟩ = some (.string e.path) ∧ w.cell? ⟨(x.add n).block, (x.add n).off + 2, none⟩ = some (.string e.link) ∧ w.cell? ⟨(x.add n).block, (x.add n).off + 3, none⟩ = some (.int .i64 e.mode) ∧ w.cell? ⟨(x.add n).block, (x.add n).off + 4, none⟩ = some (.int .i64 e.uid) ∧ w.cell? ⟨(x.add n).block, (x.add n).off + 5, none⟩ = some (.int .i64 e.gid) ∧ w.cell? ⟨(x.add n).block, (x.add n).off + 6, none⟩ = some (.int .i64 e.time) ∧ w.cell? ⟨(x.add n).block, (x.add n).off + 7, none⟩ = some (.string e.user) ∧ w.cell? ⟨(x.add n).block, (x.add n).off + 8, none⟩ = some (.string e.group) ∧ w.cell? ⟨(x.add n).block, (x.add n).off + 9, none⟩ = some (.string e.body) := by
  refine ⟨h 0 (by omega), ?_, ?_, ?_, ?_, ?_, ?_, ?_, ?_, ?_⟩
  · exact (congrArg w.cell? (add_add x n 1)).trans (h 1 (by omega))
  · exact (congrArg w.cell? (add_add x n 2)).trans (h 2 (by omega))
  · exact (congrArg w.cell? (add_add x n 3)).trans (h 3 (by omega))
  · exact (congrArg w.cell? (add_add x n 4)).trans (h 4 (by omega))
  · exact (congrArg w.cell? (add_add x n 5)).trans (h 5 (by omega))
  · exact (congrArg w.cell? (add_add x n 6)).trans (h 6 (by omega))
  · exact (congrArg w.cell? (add_add x n 7)).trans (h 7 (by omega))
  · exact (congrArg w.cell? (add_add x n 8)).trans (h 8 (by omega))
  · exact (congrArg w.cell? (add_add x n 9)).trans (h 9 (by omega))
def entD : Ent := ⟨0, ⟨#[]⟩, ⟨#[]⟩, 0, 0, 0, 0, ⟨#[]⟩, ⟨#[]⟩, ⟨#[]⟩⟩
def set10 (ys : List Value) (o : Nat) (e : Ent) : List Value := (((((((((ys.set o (.int .i64 e.kind)).set (o + 1) (.string e.path)).set (o + 2) (.string e.link)).set (o + 3) (.int .i64 e.mode)).set (o + 4) (.int .i64 e.uid)).set (o + 5) (.int .i64 e.gid)).set (o + 6) (.int .i64 e.time)).set (o + 7) (.string e.user)).set (o + 8) (.string e.group)).set (o + 9) (.string e.body)
/-- The first n entries of a row stand in its cells. -/
def FillE (ys : List Value) (n : Nat) (E : Nat → Ent) : Prop := ∀ k, k < n → ∀ j, j < 10 → ys[k * 10 + j]? = (E k).cells[j]?
theorem set10_in (ys : List Value) (o : Nat) (e : Ent) (h : o + 10 ≤ ys.length) (j : Nat) (hj : j < 10) : (set10 ys o e)[o + j]? = e.cells[j]? := by
  match j, hj with
  | 0, _ => simp [set10, Ent.cells, List.getElem?_set]; try omega
  | 1, _ => simp [set10, Ent.cells, List.getElem?_set]; try omega
  | 2, _ => simp [set10, Ent.cells, List.getElem?_set]; try omega
  | 3, _ => simp [set10, Ent.cells, List.getElem?_set]; try omega
  | 4, _ => simp [set10, Ent.cells, List.getElem?_set]; try omega
  | 5, _ => simp [set10, Ent.cells, List.getElem?_set]; try omega
  | 6, _ => simp [set10, Ent.cells, List.getElem?_set]; try omega
  | 7, _ => simp [set10, Ent.cells, List.getElem?_set]; try omega
  | 8, _ => simp [set10, Ent.cells, List.getElem?_set]; try omega
  | 9, _ => simp [set10, Ent.cells, List.getElem?_set]; try omega
theorem set10_out (ys : List Value) (o : Nat) (e : Ent) (m : Nat) (hm : m < o) : (set10 ys o e)[m]? = ys[m]? := by
  simp only [set10]
  rw [List.getElem?_set_ne (by omega), List.getElem?_set_ne (by omega), List.getElem?_set_ne (by omega), List.getElem?_set_ne (by omega), List.getElem?_set_ne (by omega), List.getElem?_set_ne (by omega), List.getElem?_set_ne (by omega), List.getElem?_set_ne (by omega), List.getElem?_set_ne (by omega), List.getElem?_set_ne (by omega)]
theorem FillE.step {ys : List Value} {i : Nat} {E : Nat → Ent} (h : FillE ys i E) (hl : i * 10 + 10 ≤ ys.length) : FillE (set10 ys (i * 10) (E i)) (i + 1) E := by
  intro k hk j hj
  by_cases e : k = i
  · subst e; exact set10_in ys _ _ hl j hj
  · rw [set10_out _ _ _ _ (by omega)]; exact h k (by omega) j hj
def setEnt (w : World) (g o : Nat) (e : Ent) : World := ((((((((((w).setCell ⟨g, o, none⟩ (.int .i64 e.kind)).setCell ⟨g, o + 1, none⟩ (.string e.path)).setCell ⟨g, o + 2, none⟩ (.string e.link)).setCell ⟨g, o + 3, none⟩ (.int .i64 e.mode)).setCell ⟨g, o + 4, none⟩ (.int .i64 e.uid)).setCell ⟨g, o + 5, none⟩ (.int .i64 e.gid)).setCell ⟨g, o + 6, none⟩ (.int .i64 e.time)).setCell ⟨g, o + 7, none⟩ (.string e.user)).setCell ⟨g, o + 8, none⟩ (.string e.group)).setCell ⟨g, o + 9, none⟩ (.string e.body)
theorem own_setEnt {w : World} {base g n : Nat} {ty : TypeId} {ys : List Value} (h : w.ownsRow base ty 10 (.slice (some ⟨g, 0, none⟩) n n) n ys) (o : Nat) (e : Ent) : (setEnt w g o e).ownsRow base ty 10 (.slice (some ⟨g, 0, none⟩) n n) n (set10 ys o e) :=
  (World.ownsRow.stored (World.ownsRow.stored (World.ownsRow.stored (World.ownsRow.stored (World.ownsRow.stored (World.ownsRow.stored (World.ownsRow.stored (World.ownsRow.stored (World.ownsRow.stored (World.ownsRow.stored h o _).1 (o + 1) _).1 (o + 2) _).1 (o + 3) _).1 (o + 4) _).1 (o + 5) _).1 (o + 6) _).1 (o + 7) _).1 (o + 8) _).1 (o + 9) _).1
theorem below_setEnt {w w' : World} {B g : Nat} (h : Below B w w') (hg : B ≤ g) (o : Nat) (e : Ent) : Below B w (setEnt w' g o e) :=
  ((((((((((h).setCell (p := ⟨g, o, none⟩) hg _).setCell (p := ⟨g, o + 1, none⟩) hg _).setCell (p := ⟨g, o + 2, none⟩) hg _).setCell (p := ⟨g, o + 3, none⟩) hg _).setCell (p := ⟨g, o + 4, none⟩) hg _).setCell (p := ⟨g, o + 5, none⟩) hg _).setCell (p := ⟨g, o + 6, none⟩) hg _).setCell (p := ⟨g, o + 7, none⟩) hg _).setCell (p := ⟨g, o + 8, none⟩) hg _).setCell (p := ⟨g, o + 9, none⟩) hg _
theorem own_cell {w : World} {base g n : Nat} {e : TypeId} {ys : List Value} (h : w.ownsRow base e 10 (.slice (some ⟨g, 0, none⟩) n n) n ys) {i : Nat} (hi : i < n) (j : Nat) (hj : j < 10) : ∃ y, w.cell? ⟨g, i * 10 + j, none⟩ = some y := by
  rcases h.2 with ⟨h', _⟩ | ⟨g', cap', cur, h', _, hg, _, _, hcs, _⟩
  · simp at h'
  · simp only [Value.slice.injEq, Option.some.injEq, Addr.mk.injEq, and_true, true_and] at h'
    obtain ⟨rfl, rfl⟩ := h'
    have hlt : i * 10 + j < cur.size := by omega
    exact ⟨cur[i * 10 + j], by simp [World.cell?, hg, Array.getElem?_eq_getElem hlt]⟩
theorem cell_blk {w : World} {a : Addr} {v : Value} (h : w.cell? a = some v) : a.block < w.heap.size := by
  by_cases hb : a.block < w.heap.size
  · exact hb
  · exfalso
    unfold World.cell? at h
    rw [Array.getElem?_eq_none (by omega)] at h
    cases a.spot <;> simp_all
end Go.Proofs.YtancidbbkoeokaaGreatDoor

/- Contract of laws.szEntryS. -/
namespace Go.Proofs.YtancidbbkoeokaaGreatDoor
open Go.ChangeShapes Go.WideShapes Go.ChangeAt Go.RowKit Go.Deep

/-- The letters of an entry's texts. -/
def esz (e : Ent) : Nat := e.path.size + e.link.size + e.user.size + e.group.size + e.body.size
def totE (E : Nat → Ent) : Nat → Nat
  | 0 => 0
  | n + 1 => totE E n + esz (E n)
theorem szv_esz (k : Int) (p l : ByteArray) (m u g t : Int) (us gr b : ByteArray) (left : Int) : szv p l us gr b left = if left < (esz ⟨k, p, l, m, u, g, t, us, gr, b⟩ : Int) then -1 else left - (esz ⟨k, p, l, m, u, g, t, us, gr, b⟩ : Int) := by
  have : (esz ⟨k, p, l, m, u, g, t, us, gr, b⟩ : Int) = (p.size : Int) + l.size + us.size + gr.size + b.size := by simp [esz]
  rw [this]; rfl
/-- What is left of a bound behind a slice of entries: less than none, or each entry and each letter counted. -/
def SzS (E : Nat → Ent) (len : Nat) (left : Int) (w : World) (e : Ending) (w' : World) : Prop :=
  (∃ r : Int, e = .returned (.int .i64 r) ∧ (r = -1 ∨ 0 ≤ r ∧ (len : Int) + totE E len + r = left)) ∧ Below w.heap.size w w'
end Go.Proofs.YtancidbbkoeokaaGreatDoor

/- Rows of entries in memory, as lists: RowE (its cells), OwnE (a row that a call made itself), and laws.toEntryS in these words. -/
namespace Go.Proofs.YtancidbbkoeokaaGreatDoor
open Go.ChangeShapes Go.WideShapes Go.ChangeAt Go.RowKit Go.Deep

def entVals (L : List Ent) : List Value := L.flatMap Ent.cells
theorem cells_len (e : Ent) : e.cells.length = 10 := rfl
theorem entVals_len (L : List Ent) : (entVals L).length = L.length * 10 := by
  induction L with
  | nil => rfl
  | cons e L ih => simp only [entVals, List.flatMap_cons, List.length_append, cells_len, List.length_cons] at ih ⊢; omega
theorem entVals_app (L M : List Ent) : entVals (L ++ M) = entVals L ++ entVals M := by simp [entVals]
theorem entVals_one (e : Ent) : entVals [e] = e.cells := by simp [entVals]
theorem entVals_nil : entVals [] = [] := rfl
theorem entVals_get (L : List Ent) (i j : Nat) (hj : j < 10) : (entVals L)[i * 10 + j]? = L[i]?.bind (fun e => e.cells[j]?) := by
  induction L generalizing i with
  | nil => simp [entVals]
  | cons e L ih =>
    simp only [entVals, List.flatMap_cons] at ih ⊢
    cases i with
    | zero =>
      rw [List.getElem?_append_left (by rw [cells_len]; omega)]
      simp
    | succ i =>
      rw [List.getElem?_append_right (by rw [cells_len]; omega), cells_len, show (i + 1) * 10 + j - 10 = i * 10 + j from by omega, ih]
      simp
theorem entVals_drop (L : List Ent) (k : Nat) : entVals (L.drop k) = (entVals L).drop (k * 10) := by
  induction L generalizing k with
  | nil => simp [entVals]
  | cons e L ih =>
    cases k with
    | zero => simp
    | succ k =>
      rw [List.drop_succ_cons, ih]
      simp only [entVals, List.flatMap_cons]
      have hc : e.cells.drop ((k + 1) * 10) = [] := List.drop_eq_nil_of_le (by rw [cells_len]; omega)
      rw [List.drop_append, cells_len, show (k + 1) * 10 - 10 = k * 10 from by omega, hc, List.nil_append]
theorem entVals_take (L : List Ent) (k : Nat) : entVals (L.take k) = (entVals L).take (k * 10) := by
  induction L generalizing k with
  | nil => simp [entVals]
  | cons e L ih =>
    cases k with
    | zero => simp [entVals]
    | succ k =>
      rw [List.take_succ_cons]
      have h := ih k
      simp only [entVals, List.flatMap_cons] at h ⊢
      rw [List.take_append, cells_len, show (k + 1) * 10 - 10 = k * 10 from by omega, List.take_of_length_le (l := e.cells) (by rw [cells_len]; omega), h]
theorem entVals_onecell (L : List Ent) : ∀ u ∈ entVals L, u.oneCell' = true := by
  intro u hu
  simp only [entVals, List.mem_flatMap] at hu
  obtain ⟨e, _, he⟩ := hu
  simp only [Ent.cells, List.mem_cons, List.not_mem_nil, or_false] at he
  rcases he with rfl | rfl | rfl | rfl | rfl | rfl | rfl | rfl | rfl | rfl <;> rfl
/-- The cells of block g, from its first on, are the entries L. -/
def RowE (w : World) (g : Nat) (L : List Ent) : Prop := ∀ k u, (entVals L)[k]? = some u → w.cell? ⟨g, k, none⟩ = some u
theorem RowE.below {w w' : World} {g B : Nat} {L : List Ent} (h : RowE w g L) (hb : Below B w w') (hg : g < B) : RowE w' g L :=
  fun k u hu => (hb.cell (p := ⟨g, k, none⟩) hg).trans (h k u hu)
theorem RowE.grown {w w' : World} {g : Nat} {row : Option Nat} {L : List Ent} (h : RowE w g L) (hb : w.grownBy w' row) (hg : some g ≠ row) : RowE w' g L :=
  fun k u hu => hb.cell (h k u hu) hg
theorem RowE.take {w : World} {g : Nat} {L : List Ent} (h : RowE w g L) (k : Nat) : RowE w g (L.take k) := fun j u hu => h j u (by
  rw [entVals_take, List.getElem?_take] at hu
  split at hu
  · exact hu
  · cases hu)
/-- The ten cells of its i-th entry. -/
theorem RowE.ten {w : World} {g : Nat} {L : List Ent} (h : RowE w g L) {i : Nat} {e : Ent} (hi : L[i]? = some e) : w.cell? ⟨g, i * 10, none⟩ = some (.int .i64 e.kind) ∧ w.cell? ⟨g, i * 10 + 1, none⟩ = some (.string e.path) ∧ w.cell? ⟨g, i * 10 + 2, none⟩ = some (.string e.link) ∧ w.cell? ⟨g, i * 10 + 3, none⟩ = some (.int .i64 e.mode) ∧ w.cell? ⟨g, i * 10 + 4, none⟩ = some (.int .i64 e.uid) ∧ w.cell? ⟨g, i * 10 + 5, none⟩ = some (.int .i64 e.gid) ∧ w.cell? ⟨g, i * 10 + 6, none⟩ = some (.int .i64 e.time) ∧ w.cell? ⟨g, i * 10 + 7, none⟩ = some (.string e.user) ∧ w.cell? ⟨g, i * 10 + 8, none⟩ = some (.string e.group) ∧ w.cell? ⟨g, i * 10 + 9, none⟩ = some (.string e.body) := by
  have H : ∀ j u, j < 10 → e.cells[j]? = some u → w.cell? ⟨g, i * 10 + j, none⟩ = some u := fun j u hj hu => h _ u (by rw [entVals_get _ _ _ hj, hi]; exact hu)
  exact ⟨H 0 _ (by omega) rfl, H 1 _ (by omega) rfl, H 2 _ (by omega) rfl, H 3 _ (by omega) rfl, H 4 _ (by omega) rfl, H 5 _ (by omega) rfl, H 6 _ (by omega) rfl, H 7 _ (by omega) rfl, H 8 _ (by omega) rfl, H 9 _ (by omega) rfl⟩
/-- A row of entries of the call's own that is not nil. -/
def OwnE (w : World) (base : Nat) (v : Value) (L : List Ent) : Prop := w.ownsRow base 32 10 v L.length (entVals L) ∧ ∃ g cap, v = .slice (some ⟨g, 0, none⟩) L.length cap
theorem OwnE.row {w : World} {base g n cap : Nat} {L : List Ent} (h : OwnE w base (.slice (some ⟨g, 0, none⟩) n cap) L) : RowE w g L ∧ g < w.heap.size ∧ base ≤ g ∧ n = L.length := by
  refine ⟨fun k u hu => ?_, (World.ownsRow.lt h.1 g rfl).2, (World.ownsRow.lt h.1 g rfl).1, ?_⟩
  · have := World.ownsRow.cells h.1 (g := g) rfl k u hu
    rwa [show (⟨g, 0, none⟩ : Addr).add k = ⟨g, k, none⟩ from by unfold Addr.add; split <;> simp_all] at this
  · obtain ⟨g', cap', e⟩ := h.2
    simp at e
    exact e.2.1
theorem OwnE.keep {w w' : World} {base : Nat} {v : Value} {L : List Ent} (h : OwnE w base v L) (hb : Below w.heap.size w w') : OwnE w' base v L := by
  obtain ⟨ho, g, cap, rfl⟩ := h
  exact ⟨World.ownsRow.kept ho (w' := w') (row := none) ⟨hb.os, hb.tape, hb.output, hb.size, fun k hk _ => hb.block k hk⟩ (.inr (by simp [Value.ownBlock])), g, cap, rfl⟩
theorem OwnE.kept {w w' : World} {base g n cap : Nat} {row : Option Nat} {L : List Ent} (h : OwnE w base (.slice (some ⟨g, 0, none⟩) n cap) L) (hb : w.grownBy w' row) (hg : some g ≠ row) : OwnE w' base (.slice (some ⟨g, 0, none⟩) n cap) L :=
  ⟨World.ownsRow.kept h.1 hb (.inr (by simpa [Value.ownBlock] using hg)), h.2⟩
theorem OwnE.weak {w : World} {base base' : Nat} {v : Value} {L : List Ent} (h : OwnE w base v L) (hb : base' ≤ base) : OwnE w base' v L := by
  refine ⟨⟨h.1.1, ?_⟩, h.2⟩
  rcases h.1.2 with h' | ⟨g', cap', cur, h', hx, rest⟩
  · exact .inl h'
  · exact .inr ⟨g', cap', cur, h', Nat.le_trans hb hx, rest⟩
theorem OwnE.lit {w : World} {base : Nat} (hb : base ≤ w.heap.size) : OwnE (w.alloc (.cells #[] 32)) base (.slice (some ⟨w.heap.size, 0, none⟩) 0 0) [] :=
  ⟨World.ownsRow_lit w #[] 0 hb (by simp) rfl, _, _, rfl⟩
theorem ownE_app {w1 : World} {base : Nat} {v' : Value} {D M : List Ent} {n m : Nat} (h : w1.ownsRow base 32 10 v' (n + m) (entVals D ++ entVals M)) (hn : n = D.length) (hm : m = M.length) (hnil : ¬ v' = .slice none 0 0) : OwnE w1 base v' (D ++ M) := by
  subst hn; subst hm
  rw [← entVals_app, show D.length + M.length = (D ++ M).length from by simp] at h
  refine ⟨h, ?_⟩
  obtain ⟨_, ⟨rfl, _⟩ | ⟨g', cap', cur, rfl, _⟩⟩ := h
  · exact absurd rfl hnil
  · exact ⟨g', cap', rfl⟩
/-- What an append of a part of a row asks for: its cells. -/
theorem RowE.news {w : World} {g : Nat} {L : List Ent} (h : RowE w g L) (k : Nat) : ∀ j u, (entVals (L.drop k))[j]? = some u → w.cell? ((⟨g, k * 10, none⟩ : Addr).add j) = some u := by
  intro j u hu
  rw [entVals_drop, List.getElem?_drop] at hu
  rw [show (⟨g, k * 10, none⟩ : Addr).add j = ⟨g, k * 10 + j, none⟩ from by unfold Addr.add; split <;> simp_all]
  exact h _ u hu
theorem RowE.news0 {w : World} {g : Nat} {L : List Ent} (h : RowE w g L) : ∀ j u, (entVals L)[j]? = some u → w.cell? ((⟨g, 0, none⟩ : Addr).add j) = some u := by
  intro j u hu
  rw [show (⟨g, 0, none⟩ : Addr).add j = ⟨g, j, none⟩ from by unfold Addr.add; split <;> simp_all]
  exact h _ u hu
/-- One entry laid in a block of its own. -/
theorem ent_new (w : World) (e : Ent) (t : TypeId) : ∀ j u, (entVals [e])[j]? = some u → (w.alloc (.cells e.cells.toArray t)).cell? ((⟨w.heap.size, 0, none⟩ : Addr).add j) = some u := by
  intro j u hu
  rw [entVals_one] at hu
  have hj : j < 10 := by
    by_cases h : j < 10
    · exact h
    · rw [List.getElem?_eq_none (by rw [cells_len]; omega)] at hu; cases hu
  rw [show (⟨w.heap.size, 0, none⟩ : Addr).add j = ⟨w.heap.size, 0 + j, none⟩ from by unfold Addr.add; split <;> simp_all, EntAt.new w e t j hj]
  exact hu
theorem fill_vals {ys : List Value} {n : Nat} {E : Nat → Ent} (h : FillE ys n E) (hl : ys.length = n * 10) : ys = entVals ((List.range n).map E) := by
  apply List.ext_getElem?
  intro k
  by_cases hk : k < n * 10
  · have h1 := h (k / 10) (by omega) (k % 10) (by omega)
    have h2 := entVals_get ((List.range n).map E) (k / 10) (k % 10) (by omega)
    rw [show k / 10 * 10 + k % 10 = k from by omega] at h1 h2
    rw [h1, h2, List.getElem?_map, List.getElem?_range (by omega)]
    rfl
  · rw [List.getElem?_eq_none (by omega), List.getElem?_eq_none (by rw [entVals_len]; simp; omega)]
theorem range_take {es : List Ent} {n : Nat} (h : n ≤ es.length) : (List.range n).map (fun i => es.getD i entD) = es.take n := by
  apply List.ext_getElem?
  intro k
  by_cases hk : k < n
  · rw [List.getElem?_map, List.getElem?_range hk, List.getElem?_take, if_pos hk]
    simp [List.getD, List.getElem?_eq_getElem (show k < es.length by omega)]
  · rw [List.getElem?_eq_none (by simp; omega), List.getElem?_take, if_neg hk]
theorem IsRowE.le {w : World} {a : Option Addr} {len cap : Nat} {es : List Ent} (h : IsRowE w a len cap es) : len ≤ es.length := by
  rcases h with ⟨_, rfl, _, rfl⟩ | ⟨x, _, hl, _, hn, _⟩
  · simp
  · omega
end Go.Proofs.YtancidbbkoeokaaGreatDoor

/- Contract of spec.EntryOk. -/
namespace Go.Proofs.YtancidbbkoeokaaGreatDoor
open Go.ChangeShapes Go.WideShapes Go.ChangeAt Go.RowKit Go.Deep

/-- What the kind of an entry asks of its link and body. -/
def kindOk (k : Int) (p l b : ByteArray) : Bool :=
  if k = 0 then decide (l.size = 0) && decide (b.size ≤ 3000)
  else if k = 1 then decide (l.size = 0) && decide (b.size = 0)
  else if k = 2 then inB l.size 1 150 && signv l && decide (b.size = 0)
  else if k = 3 then pathOkv l && decide (l ≠ p) && decide (b.size = 0)
  else false
def entOkv (e : Ent) : Bool := pathOkv e.path && inB e.mode 0 4095 && inB e.uid 0 4294967295 && inB e.gid 0 4294967295 && inB e.time 0 99999999999 && whov e.user && whov e.group && kindOk e.kind e.path e.link e.body
theorem empty_t {l : ByteArray} (h : l.size = 0) : l.toList.isEmpty = true := by
  rw [ba_toList]
  have : l.data.toList = [] := List.eq_nil_of_length_eq_zero (by simpa using h)
  rw [this]; rfl
theorem empty_f {l : ByteArray} (h : ¬ l.size = 0) : l.toList.isEmpty = false := by
  rw [ba_toList]
  cases hd : l.data.toList with
  | nil => exact absurd (by have := congrArg List.length hd; simpa using this) h
  | cons a b => rfl
set_option maxHeartbeats 3200000 in
theorem entryOk_spec (k : Int) (p l : ByteArray) (m u g t : Int) (us gr b : ByteArray) (w : World) (hp : p.size ≤ 4194304) (hl : l.size ≤ 4194304) (hus : us.size ≤ 4194304) (hgr : gr.size ≤ 4194304) (hbz : b.size ≤ 4194304) :
    Calls Tryz.prog 19 #[.agg #[.int .i64 k, .string p, .string l, .int .i64 m, .int .i64 u, .int .i64 g, .int .i64 t, .string us, .string gr, .string b]] w fun e w' => e = .returned (.bool (entOkv ⟨k, p, l, m, u, g, t, us, gr, b⟩)) ∧ Below w.heap.size w w' := by
  have H1 := Lib.hid (fun w => pathOk_spec p w hp)
  have HL := Lib.hid (fun w => pathOk_spec l w hl)
  have H2 := Lib.hid (fun w => in_any m 0 4095 w)
  have H3 := Lib.hid (fun w => in_any u 0 4294967295 w)
  have H4 := Lib.hid (fun w => in_any g 0 4294967295 w)
  have H5 := Lib.hid (fun w => in_any t 0 99999999999 w)
  have H6 := Lib.hid (fun w => who_spec us w hus)
  have H7 := Lib.hid (fun w => who_spec gr w hgr)
  have HS := Lib.hid (fun w => sign_spec l w hl)
  have HZ := Lib.hid (fun w => in_any (l.size : Int) 1 150 w)
  have HE : Hid (entOkv ⟨k, p, l, m, u, g, t, us, gr, b⟩ = (pathOkv p && inB m 0 4095 && inB u 0 4294967295 && inB g 0 4294967295 && inB t 0 99999999999 && whov us && whov gr && kindOk k p l b)) := Lib.hid rfl
  have HK : Hid (kindOk k p l b = if k = 0 then decide (l.size = 0) && decide (b.size ≤ 3000) else if k = 1 then decide (l.size = 0) && decide (b.size = 0) else if k = 2 then inB l.size 1 150 && signv l && decide (b.size = 0) else if k = 3 then pathOkv l && decide (l ≠ p) && decide (b.size = 0) else false) := Lib.hid rfl
  generalize entOkv ⟨k, p, l, m, u, g, t, us, gr, b⟩ = r at HE
  generalize kindOk k p l b = r2 at HE HK
  generalize pathOkv p = b1 at H1 HE
  generalize inB m 0 4095 = b2 at H2 HE
  generalize inB u 0 4294967295 = b3 at H3 HE
  generalize inB g 0 4294967295 = b4 at H4 HE
  generalize inB t 0 99999999999 = b5 at H5 HE
  generalize whov us = b6 at H6 HE
  generalize whov gr = b7 at H7 HE
  generalize pathOkv l = bl at HL HK
  generalize signv l = bs at HS HK
  generalize inB (l.size : Int) 1 150 = bz at HZ HK
  clear hp hus hgr
  go_enter Tryz.func19, Tryz.ntmps19

  go_wp2_with fail
  refine (H1.out _).mono ?_
  rintro e w1 ⟨rfl, hb⟩
  obtain ⟨k1, b1, z1⟩ := one_new (e1 := ⟨k, p, l, m, u, g, t, us, gr, b⟩) hb
  have E1 := Lib.hid k1
  have B1 := Lib.hid b1
  clear hb k1 b1
  obtain ⟨c0, c1, c2, c3, c4, c5, c6, c7, c8, c9⟩ := E1.out.zero
  cases b1 with
  | false =>
    go_wp2_with fail
    go_ret
    exact ⟨ret_bool (by rw [HE.out]; simp), B1.out⟩
  | true =>
    go_wp2_with fail
    refine (H2.out _).mono ?_
    rintro e _ ⟨rfl, rfl⟩
    cases b2 with
    | false =>
      go_wp2_with fail
      go_ret
      exact ⟨ret_bool (by rw [HE.out]; simp), B1.out⟩
    | true =>
      go_wp2_with fail
      refine (H3.out _).mono ?_
      rintro e _ ⟨rfl, rfl⟩
      cases b3 with
      | false =>
        go_wp2_with fail
        go_ret
        exact ⟨ret_bool (by rw [HE.out]; simp), B1.out⟩
      | true =>
        go_wp2_with fail
        refine (H4.out _).mono ?_
        rintro e _ ⟨rfl, rfl⟩
        cases b4 with
        | false =>
          go_wp2_with fail
          go_ret
          exact ⟨ret_bool (by rw [HE.out]; simp), B1.out⟩
        | true =>
          go_wp2_with fail
          refine (H5.out _).mono ?_
          rintro e _ ⟨rfl, rfl⟩
          cases b5 with
          | false =>
            go_wp2_with fail
            go_ret
            exact ⟨ret_bool (by rw [HE.out]; simp), B1.out⟩
          | true =>
            go_wp2_with fail
            refine (H6.out _).mono ?_
            rintro e w2 ⟨rfl, hb⟩
            have E2 := Lib.hid (E1.out.below hb (by omega))
            have B2 := Lib.hid (btE B1.out hb)
            have z2 := Nat.le_trans z1 hb.size
            clear hb E1 B1 c0 c1 c2 c3 c4 c5 c6 c7 c8 c9
            obtain ⟨c0, c1, c2, c3, c4, c5, c6, c7, c8, c9⟩ := E2.out.zero
            cases b6 with
            | false =>
              go_wp2_with fail
              go_ret
              exact ⟨ret_bool (by rw [HE.out]; simp), B2.out⟩
            | true =>
              go_wp2_with fail
              refine (H7.out _).mono ?_
              rintro e w3 ⟨rfl, hb⟩
              have E3 := Lib.hid (E2.out.below hb (by omega))
              have B3 := Lib.hid (btE B2.out hb)
              have z3 := Nat.le_trans z2 hb.size
              clear hb E2 B2 c0 c1 c2 c3 c4 c5 c6 c7 c8 c9
              obtain ⟨c0, c1, c2, c3, c4, c5, c6, c7, c8, c9⟩ := E3.out.zero
              cases b7 with
              | false =>
                go_wp2_with fail
                go_ret
                exact ⟨ret_bool (by rw [HE.out]; simp), B3.out⟩
              | true =>
                have HR : Hid (r = r2) := Lib.hid (by rw [HE.out]; simp)
                clear HE
                by_cases k0 : k = 0
                · subst k0
                  by_cases hl0 : l.size = 0
                  · have q := empty_t hl0
                    by_cases hb0 : (b.size : Int) ≤ 3000
                    · have hb1 : b.size ≤ 3000 := by omega
                      go_wp2_with fail
                      go_ret
                      exact ⟨ret_bool (by rw [HR.out, HK.out]; simp [hl0, hb1]; try omega), B3.out⟩
                    · have hb1 : ¬ b.size ≤ 3000 := by omega
                      go_wp2_with fail
                      go_ret
                      exact ⟨ret_bool (by rw [HR.out, HK.out]; simp [hl0, hb1]; try omega), B3.out⟩
                  · have q := empty_f hl0
                    go_wp2_with fail
                    go_ret
                    exact ⟨ret_bool (by rw [HR.out, HK.out]; simp [hl0]), B3.out⟩
                · by_cases k1 : k = 1
                  · subst k1
                    by_cases hl0 : l.size = 0
                    · have q := empty_t hl0
                      by_cases hb0 : b.size = 0
                      · have q2 := empty_t hb0
                        go_wp2_with fail
                        go_ret
                        exact ⟨ret_bool (by rw [HR.out, HK.out]; simp [hl0, hb0]), B3.out⟩
                      · have q2 := empty_f hb0
                        go_wp2_with fail
                        go_ret
                        exact ⟨ret_bool (by rw [HR.out, HK.out]; simp [hl0, hb0]), B3.out⟩
                    · have q := empty_f hl0
                      go_wp2_with fail
                      go_ret
                      exact ⟨ret_bool (by rw [HR.out, HK.out]; simp [hl0]), B3.out⟩
                  · by_cases k2 : k = 2
                    · subst k2
                      go_wp2_with fail
                      refine (HZ.out _).mono ?_
                      rintro e _ ⟨rfl, rfl⟩
                      cases bz with
                      | false =>
                        go_wp2_with fail
                        go_ret
                        exact ⟨ret_bool (by rw [HR.out, HK.out]; simp), B3.out⟩
                      | true =>
                        go_wp2_with fail
                        refine (HS.out _).mono ?_
                        rintro e w4 ⟨rfl, hb⟩
                        have E4 := Lib.hid (E3.out.below hb (by omega))
                        have B4 := Lib.hid (btE B3.out hb)
                        have z4 := Nat.le_trans z3 hb.size
                        clear hb E3 B3 c0 c1 c2 c3 c4 c5 c6 c7 c8 c9
                        obtain ⟨c0, c1, c2, c3, c4, c5, c6, c7, c8, c9⟩ := E4.out.zero
                        cases bs with
                        | false =>
                          go_wp2_with fail
                          go_ret
                          exact ⟨ret_bool (by rw [HR.out, HK.out]; simp), B4.out⟩
                        | true =>
                          by_cases hb0 : b.size = 0
                          · have q2 := empty_t hb0
                            go_wp2_with fail
                            go_ret
                            exact ⟨ret_bool (by rw [HR.out, HK.out]; simp [hb0]), B4.out⟩
                          · have q2 := empty_f hb0
                            go_wp2_with fail
                            go_ret
                            exact ⟨ret_bool (by rw [HR.out, HK.out]; simp [hb0]), B4.out⟩
                    · by_cases k3 : k = 3
                      · subst k3
                        go_wp2_with fail
                        refine (HL.out _).mono ?_
                        rintro e w4 ⟨rfl, hb⟩
                        have E4 := Lib.hid (E3.out.below hb (by omega))
                        have B4 := Lib.hid (btE B3.out hb)
                        have z4 := Nat.le_trans z3 hb.size
                        clear hb E3 B3 c0 c1 c2 c3 c4 c5 c6 c7 c8 c9
                        obtain ⟨c0, c1, c2, c3, c4, c5, c6, c7, c8, c9⟩ := E4.out.zero
                        cases bl with
                        | false =>
                          go_wp2_with fail
                          go_ret
                          exact ⟨ret_bool (by rw [HR.out, HK.out]; simp), B4.out⟩
                        | true =>
                          by_cases hlp : l = p
                          · have q := ba_eq hlp
                            go_wp2_with fail
                            go_ret
                            exact ⟨ret_bool (by rw [HR.out, HK.out]; simp [hlp]), B4.out⟩
                          · have q := ba_ne hlp
                            by_cases hb0 : b.size = 0
                            · have q2 := empty_t hb0
                              go_wp2_with fail
                              go_ret
                              exact ⟨ret_bool (by rw [HR.out, HK.out]; simp [hlp, hb0]), B4.out⟩
                            · have q2 := empty_f hb0
                              go_wp2_with fail
                              go_ret
                              exact ⟨ret_bool (by rw [HR.out, HK.out]; simp [hlp, hb0]), B4.out⟩
                      · have k9 := k3
                        go_wp2_with fail
                        go_ret
                        exact ⟨ret_bool (by rw [HR.out, HK.out]; simp [k0, k1, k2, k3]), B3.out⟩
end Go.Proofs.YtancidbbkoeokaaGreatDoor

/- Contracts of spec.Find and impl.Find. -/
namespace Go.Proofs.YtancidbbkoeokaaGreatDoor
open Go.ChangeShapes Go.WideShapes Go.ChangeAt Go.RowKit Go.Deep

/-- The place of the first entry with a path, among the entries from i on; or none. -/
def findFrom (L : List Ent) (p : ByteArray) (i : Nat) : Int :=
  match L with
  | [] => -1
  | e :: L => if e.path = p then i else findFrom L p (i + 1)
def findv (L : List Ent) (p : ByteArray) : Int := findFrom L p 0
theorem findFrom_drop (L : List Ent) (p : ByteArray) (i : Nat) {e : Ent} (h : L[i]? = some e) : findFrom (L.drop i) p i = if e.path = p then (i : Int) else findFrom (L.drop (i + 1)) p (i + 1) := by
  have hlt : i < L.length := (List.getElem?_eq_some_iff.1 h).1
  rw [List.drop_eq_getElem_cons hlt, (List.getElem?_eq_some_iff.1 h).2, findFrom]
theorem findFrom_end (L : List Ent) (p : ByteArray) (i : Nat) (h : L.length ≤ i) : findFrom (L.drop i) p i = -1 := by
  rw [List.drop_eq_nil_of_le h, findFrom]
theorem getE' {L : List Ent} {i : Nat} (h : i < L.length) : ∃ e, L[i]? = some e := ⟨L[i], List.getElem?_eq_getElem h⟩
theorem baE_eq {a b : ByteArray} (h : a = b) : (a.toList == b.toList) = true := by rw [h]; simp
theorem baE_ne {a b : ByteArray} (h : ¬ a = b) : (a.toList == b.toList) = false := by
  simp only [beq_eq_false_iff_ne, ne_eq]
  intro e
  apply h
  obtain ⟨⟨x⟩⟩ := a
  obtain ⟨⟨y⟩⟩ := b
  simpa using e

theorem find_spec (L : List Ent) (p : ByteArray) (n g cap : Nat) (w : World) (hn : n = L.length) (hm : n ≤ 4194304) (hg : g < w.heap.size) (h1 : RowE w g L) :
    Calls Tryz.prog 20 #[.slice (some ⟨g, 0, none⟩) n cap, .string p] w fun e w' => e = .returned (.int .i64 (findv L p)) ∧ Below w.heap.size w w' := by
  have H1 := Lib.hid h1
  have HG : Hid (∀ i, i < n → ∃ e, L[i]? = some e) := Lib.hid (fun i hi => getE' (by omega))
  have HE : Hid (∀ i, n ≤ i → findFrom (L.drop i) p i = -1) := Lib.hid (fun i hi => findFrom_end L p i (by omega))
  have HD : Hid (findv L p = findFrom (L.drop 0) p 0) := Lib.hid rfl
  generalize findv L p = r at HD
  clear h1 hn
  go_enter Tryz.func20, Tryz.ntmps20
  go_wp2_with fail
  go_loopw [5] (fun u wr => ∃ i : Nat, u = .int .i64 i ∧ i ≤ n ∧ r = findFrom (L.drop i) p i ∧ Below w.heap.size w wr) (fun u _ => n - (intOf u).toNat)
  case atStart => exact ⟨0, rfl, Nat.zero_le _, HD.out, Below.refl _ _⟩
  case round =>
    obtain ⟨i, rfl, hi, hr, hb⟩ := hrel
    have HR := Lib.hid hr
    have B := Lib.hid hb
    clear hr hb
    by_cases hlt : i < n
    · have hlt2 : (i : Int) < (n : Int) := by omega
      obtain ⟨e, he⟩ := HG.out i hlt
      have HN := Lib.hid (findFrom_drop L p i he)
      obtain ⟨c0, c1, c2, c3, c4, c5, c6, c7, c8, c9⟩ := (H1.out.below B.out hg).ten he
      clear he c0 c2 c3 c4 c5 c6 c7 c8 c9
      obtain ⟨k, q, l, m, u, g0, t, us, gr, b⟩ := e
      by_cases hq : q = p
      · have hq2 := baE_eq hq
        have HF : Hid (r = i) := Lib.hid (by rw [HR.out, HN.out, if_pos hq])
        clear hq HN HR
        go_wp2_with fail
        go_ret
        exact ⟨ret_int HF.out.symm, B.out⟩
      · have hq2 := baE_ne hq
        have HF : Hid (r = findFrom (L.drop (i + 1)) p (i + 1)) := Lib.hid (by rw [HR.out, HN.out, if_neg hq])
        clear hq HN HR
        go_wp2_with fail
        go_roundw
        case rel => exact ⟨i + 1, by go_num, by omega, HF.out, B.out⟩
        case measure => simp [intOf]; omega
    · have hlt2 : ¬ (i : Int) < (n : Int) := by omega
      have HF : Hid (r = -1) := Lib.hid (by rw [HR.out, HE.out i (by omega)])
      go_wp2_with fail
      go_ret
      exact ⟨ret_int HF.out.symm, B.out⟩
end Go.Proofs.YtancidbbkoeokaaGreatDoor

/- Contract of impl.EntryOk: the four kinds and what they share. -/
namespace Go.Proofs.YtancidbbkoeokaaGreatDoor
open Go.ChangeShapes Go.WideShapes Go.ChangeAt Go.RowKit Go.Deep

/-- What all kinds ask. -/
def fieldsv (e : Ent) : Bool := pathOkv e.path && inB e.mode 0 4095 && inB e.uid 0 4294967295 && inB e.gid 0 4294967295 && inB e.time 0 99999999999 && whov e.user && whov e.group
set_option maxHeartbeats 3200000 in
theorem fieldsOk_impl (k : Int) (p l : ByteArray) (m u g t : Int) (us gr b : ByteArray) (w : World) (hp : p.size ≤ 4194304) (hus : us.size ≤ 4194304) (hgr : gr.size ≤ 4194304) :
    Calls Tryz.prog 85 #[.agg #[.int .i64 k, .string p, .string l, .int .i64 m, .int .i64 u, .int .i64 g, .int .i64 t, .string us, .string gr, .string b]] w fun e w' => e = .returned (.bool (fieldsv ⟨k, p, l, m, u, g, t, us, gr, b⟩)) ∧ Below w.heap.size w w' := by
  have H1 := Lib.hid (fun w => pathOk_impl p w (by omega))
  have H2 := Lib.hid (fun w => upTo_any m 4095 w)
  have H3 := Lib.hid (fun w => upTo_any u 4294967295 w)
  have H4 := Lib.hid (fun w => upTo_any g 4294967295 w)
  have H5 := Lib.hid (fun w => upTo_any t 99999999999 w)
  have H6 := Lib.hid (fun w => userOk_impl us w hus)
  have H7 := Lib.hid (fun w => userOk_impl gr w hgr)
  have HE : Hid (fieldsv ⟨k, p, l, m, u, g, t, us, gr, b⟩ = (pathOkv p && inB m 0 4095 && inB u 0 4294967295 && inB g 0 4294967295 && inB t 0 99999999999 && whov us && whov gr)) := Lib.hid rfl
  generalize fieldsv ⟨k, p, l, m, u, g, t, us, gr, b⟩ = r at HE
  generalize pathOkv p = b1 at H1 HE
  generalize inB m 0 4095 = b2 at H2 HE
  generalize inB u 0 4294967295 = b3 at H3 HE
  generalize inB g 0 4294967295 = b4 at H4 HE
  generalize inB t 0 99999999999 = b5 at H5 HE
  generalize whov us = b6 at H6 HE
  generalize whov gr = b7 at H7 HE
  clear hp hus hgr
  go_enter Tryz.func85, Tryz.ntmps85
  go_wp2_with fail
  refine (H1.out _).mono ?_
  rintro e w1 ⟨rfl, hb⟩
  obtain ⟨k1, bb, z1⟩ := one_new (e1 := ⟨k, p, l, m, u, g, t, us, gr, b⟩) hb
  have E := Lib.hid k1
  have B := Lib.hid bb
  clear hb k1 bb
  obtain ⟨c0, c1, c2, c3, c4, c5, c6, c7, c8, c9⟩ := E.out.zero
  cases b1 with
  | false =>
    go_wp2_with fail
    go_ret
    exact ⟨ret_bool (by rw [HE.out]; simp), B.out⟩
  | true =>
    go_wp2_with fail
    refine (H2.out _).mono ?_
    rintro e _ ⟨rfl, rfl⟩
    cases b2 with
    | false =>
      go_wp2_with fail
      go_ret
      exact ⟨ret_bool (by rw [HE.out]; simp), B.out⟩
    | true =>
      go_wp2_with fail
      refine (H3.out _).mono ?_
      rintro e _ ⟨rfl, rfl⟩
      cases b3 with
      | false =>
        go_wp2_with fail
        go_ret
        exact ⟨ret_bool (by rw [HE.out]; simp), B.out⟩
      | true =>
        go_wp2_with fail
        refine (H4.out _).mono ?_
        rintro e _ ⟨rfl, rfl⟩
        cases b4 with
        | false =>
          go_wp2_with fail
          go_ret
          exact ⟨ret_bool (by rw [HE.out]; simp), B.out⟩
        | true =>
          go_wp2_with fail
          refine (H5.out _).mono ?_
          rintro e _ ⟨rfl, rfl⟩
          cases b5 with
          | false =>
            go_wp2_with fail
            go_ret
            exact ⟨ret_bool (by rw [HE.out]; simp), B.out⟩
          | true =>
            go_wp2_with fail
            refine (H6.out _).mono ?_
            rintro e w6 ⟨rfl, hb⟩
            replace E := Lib.hid (E.out.below hb (by omega))
            replace B := Lib.hid (btE B.out hb)
            replace z1 := Nat.le_trans z1 hb.size
            clear hb c0 c1 c2 c3 c4 c5 c6 c7 c8 c9
            obtain ⟨c0, c1, c2, c3, c4, c5, c6, c7, c8, c9⟩ := E.out.zero
            cases b6 with
            | false =>
              go_wp2_with fail
              go_ret
              exact ⟨ret_bool (by rw [HE.out]; simp), B.out⟩
            | true =>
              go_wp2_with fail
              refine (H7.out _).mono ?_
              rintro e w7 ⟨rfl, hb⟩
              replace E := Lib.hid (E.out.below hb (by omega))
              replace B := Lib.hid (btE B.out hb)
              replace z1 := Nat.le_trans z1 hb.size
              clear hb c0 c1 c2 c3 c4 c5 c6 c7 c8 c9
              obtain ⟨c0, c1, c2, c3, c4, c5, c6, c7, c8, c9⟩ := E.out.zero
              cases b7 with
              | false =>
                go_wp2_with fail
                go_ret
                exact ⟨ret_bool (by rw [HE.out]; simp), B.out⟩
              | true =>
                go_wp2_with fail
                go_ret
                exact ⟨ret_bool (by rw [HE.out]; simp), B.out⟩
set_option maxHeartbeats 3200000 in
theorem fileOk_impl (k : Int) (p l : ByteArray) (m u g t : Int) (us gr b : ByteArray) (w : World) (hp : p.size ≤ 4194304) (hus : us.size ≤ 4194304) (hgr : gr.size ≤ 4194304) :
    Calls Tryz.prog 56 #[.agg #[.int .i64 k, .string p, .string l, .int .i64 m, .int .i64 u, .int .i64 g, .int .i64 t, .string us, .string gr, .string b]] w fun e w' => e = .returned (.bool (fieldsv ⟨k, p, l, m, u, g, t, us, gr, b⟩ && (decide (l.size = 0) && decide (b.size ≤ 3000)))) ∧ Below w.heap.size w w' := by
  have H1 := Lib.hid (fun w => fieldsOk_impl k p l m u g t us gr b w hp hus hgr)
  generalize fieldsv ⟨k, p, l, m, u, g, t, us, gr, b⟩ = b1 at H1 ⊢
  go_enter Tryz.func56, Tryz.ntmps56
  go_wp2_with fail
  refine (H1.out _).mono ?_
  rintro e w1 ⟨rfl, hb⟩
  obtain ⟨k1, bb, z1⟩ := one_new (e1 := ⟨k, p, l, m, u, g, t, us, gr, b⟩) hb
  have E := Lib.hid k1
  have B := Lib.hid bb
  clear hb k1 bb
  obtain ⟨c0, c1, c2, c3, c4, c5, c6, c7, c8, c9⟩ := E.out.zero
  cases b1 with
  | false =>
    go_wp2_with fail
    go_ret
    exact ⟨ret_bool (by simp), B.out⟩
  | true =>
    by_cases ql : l.size = 0
    · have ql2 := empty_t ql
      by_cases qb : b.size ≤ 3000
      · have qb2 : (b.size : Int) ≤ 3000 := by omega
        go_wp2_with fail
        go_ret
        exact ⟨ret_bool (by simp [ql, qb]), B.out⟩
      · have qb2 : ¬ (b.size : Int) ≤ 3000 := by omega
        go_wp2_with fail
        go_ret
        exact ⟨ret_bool (by rw [decide_eq_false qb]; simp; try omega), B.out⟩
    · have ql2 := empty_f ql
      go_wp2_with fail
      go_ret
      exact ⟨ret_bool (by simp [ql]), B.out⟩
set_option maxHeartbeats 3200000 in
theorem dirOk_impl (k : Int) (p l : ByteArray) (m u g t : Int) (us gr b : ByteArray) (w : World) (hp : p.size ≤ 4194304) (hus : us.size ≤ 4194304) (hgr : gr.size ≤ 4194304) :
    Calls Tryz.prog 57 #[.agg #[.int .i64 k, .string p, .string l, .int .i64 m, .int .i64 u, .int .i64 g, .int .i64 t, .string us, .string gr, .string b]] w fun e w' => e = .returned (.bool (fieldsv ⟨k, p, l, m, u, g, t, us, gr, b⟩ && (decide (l.size = 0) && decide (b.size = 0)))) ∧ Below w.heap.size w w' := by
  have H1 := Lib.hid (fun w => fieldsOk_impl k p l m u g t us gr b w hp hus hgr)
  generalize fieldsv ⟨k, p, l, m, u, g, t, us, gr, b⟩ = b1 at H1 ⊢
  go_enter Tryz.func57, Tryz.ntmps57
  go_wp2_with fail
  refine (H1.out _).mono ?_
  rintro e w1 ⟨rfl, hb⟩
  obtain ⟨k1, bb, z1⟩ := one_new (e1 := ⟨k, p, l, m, u, g, t, us, gr, b⟩) hb
  have E := Lib.hid k1
  have B := Lib.hid bb
  clear hb k1 bb
  obtain ⟨c0, c1, c2, c3, c4, c5, c6, c7, c8, c9⟩ := E.out.zero
  cases b1 with
  | false =>
    go_wp2_with fail
    go_ret
    exact ⟨ret_bool (by simp), B.out⟩
  | true =>
    by_cases ql : l.size = 0
    · have ql2 := empty_t ql
      by_cases qb : b.size = 0
      · have qb2 := empty_t qb
        go_wp2_with fail
        go_ret
        exact ⟨ret_bool (by simp [ql, qb]), B.out⟩
      · have qb2 := empty_f qb
        go_wp2_with fail
        go_ret
        exact ⟨ret_bool (by simp [qb]), B.out⟩
    · have ql2 := empty_f ql
      go_wp2_with fail
      go_ret
      exact ⟨ret_bool (by simp [ql]), B.out⟩
set_option maxHeartbeats 3200000 in
theorem symOk_impl (k : Int) (p l : ByteArray) (m u g t : Int) (us gr b : ByteArray) (w : World) (hp : p.size ≤ 4194304) (hl : l.size ≤ 4194304) (hus : us.size ≤ 4194304) (hgr : gr.size ≤ 4194304) :
    Calls Tryz.prog 58 #[.agg #[.int .i64 k, .string p, .string l, .int .i64 m, .int .i64 u, .int .i64 g, .int .i64 t, .string us, .string gr, .string b]] w fun e w' => e = .returned (.bool (fieldsv ⟨k, p, l, m, u, g, t, us, gr, b⟩ && (inB l.size 1 150 && signv l && decide (b.size = 0)))) ∧ Below w.heap.size w w' := by
  have H1 := Lib.hid (fun w => fieldsOk_impl k p l m u g t us gr b w hp hus hgr)
  have H2 := Lib.hid (fun w => symLinkOk_impl l w hl)
  generalize (inB (l.size : Int) 1 150 && signv l) = b2 at H2 ⊢
  generalize fieldsv ⟨k, p, l, m, u, g, t, us, gr, b⟩ = b1 at H1 ⊢
  go_enter Tryz.func58, Tryz.ntmps58
  go_wp2_with fail
  refine (H1.out _).mono ?_
  rintro e w1 ⟨rfl, hb⟩
  obtain ⟨k1, bb, z1⟩ := one_new (e1 := ⟨k, p, l, m, u, g, t, us, gr, b⟩) hb
  have E := Lib.hid k1
  have B := Lib.hid bb
  clear hb k1 bb
  obtain ⟨c0, c1, c2, c3, c4, c5, c6, c7, c8, c9⟩ := E.out.zero
  cases b1 with
  | false =>
    go_wp2_with fail
    go_ret
    exact ⟨ret_bool (by simp), B.out⟩
  | true =>
    go_wp2_with fail
    refine (H2.out _).mono ?_
    rintro e w2 ⟨rfl, hb⟩
    replace E := Lib.hid (E.out.below hb (by omega))
    replace B := Lib.hid (btE B.out hb)
    replace z1 := Nat.le_trans z1 hb.size
    clear hb c0 c1 c2 c3 c4 c5 c6 c7 c8 c9
    obtain ⟨c0, c1, c2, c3, c4, c5, c6, c7, c8, c9⟩ := E.out.zero
    cases b2 with
    | false =>
      go_wp2_with fail
      go_ret
      exact ⟨ret_bool (by simp), B.out⟩
    | true =>
      by_cases qb : b.size = 0
      · have qb2 := empty_t qb
        go_wp2_with fail
        go_ret
        exact ⟨ret_bool (by simp [qb]), B.out⟩
      · have qb2 := empty_f qb
        go_wp2_with fail
        go_ret
        exact ⟨ret_bool (by simp [qb]), B.out⟩
set_option maxHeartbeats 3200000 in
theorem hardOk_impl (k : Int) (p l : ByteArray) (m u g t : Int) (us gr b : ByteArray) (w : World) (hp : p.size ≤ 4194304) (hl : l.size ≤ 4194304) (hus : us.size ≤ 4194304) (hgr : gr.size ≤ 4194304) :
    Calls Tryz.prog 59 #[.agg #[.int .i64 k, .string p, .string l, .int .i64 m, .int .i64 u, .int .i64 g, .int .i64 t, .string us, .string gr, .string b]] w fun e w' => e = .returned (.bool (fieldsv ⟨k, p, l, m, u, g, t, us, gr, b⟩ && (pathOkv l && decide (l ≠ p) && decide (b.size = 0)))) ∧ Below w.heap.size w w' := by
  have H1 := Lib.hid (fun w => fieldsOk_impl k p l m u g t us gr b w hp hus hgr)
  have H2 := Lib.hid (fun w => pathOk_impl l w (by omega))
  generalize pathOkv l = b2 at H2 ⊢
  generalize fieldsv ⟨k, p, l, m, u, g, t, us, gr, b⟩ = b1 at H1 ⊢
  go_enter Tryz.func59, Tryz.ntmps59
  go_wp2_with fail
  refine (H1.out _).mono ?_
  rintro e w1 ⟨rfl, hb⟩
  obtain ⟨k1, bb, z1⟩ := one_new (e1 := ⟨k, p, l, m, u, g, t, us, gr, b⟩) hb
  have E := Lib.hid k1
  have B := Lib.hid bb
  clear hb k1 bb
  obtain ⟨c0, c1, c2, c3, c4, c5, c6, c7, c8, c9⟩ := E.out.zero
  cases b1 with
  | false =>
    go_wp2_with fail
    go_ret
    exact ⟨ret_bool (by simp), B.out⟩
  | true =>
    go_wp2_with fail
    refine (H2.out _).mono ?_
    rintro e w2 ⟨rfl, hb⟩
    replace E := Lib.hid (E.out.below hb (by omega))
    replace B := Lib.hid (btE B.out hb)
    replace z1 := Nat.le_trans z1 hb.size
    clear hb c0 c1 c2 c3 c4 c5 c6 c7 c8 c9
    obtain ⟨c0, c1, c2, c3, c4, c5, c6, c7, c8, c9⟩ := E.out.zero
    cases b2 with
    | false =>
      go_wp2_with fail
      go_ret
      exact ⟨ret_bool (by simp), B.out⟩
    | true =>
      by_cases ql : l = p
      · have ql2 := baE_eq ql
        go_wp2_with fail
        go_ret
        exact ⟨ret_bool (by simp [ql]), B.out⟩
      · have ql2 := baE_ne ql
        by_cases qb : b.size = 0
        · have qb2 := empty_t qb
          go_wp2_with fail
          go_ret
          exact ⟨ret_bool (by simp [ql, qb]), B.out⟩
        · have qb2 := empty_f qb
          go_wp2_with fail
          go_ret
          exact ⟨ret_bool (by simp [qb]), B.out⟩
theorem entOkv_eq (e : Ent) : entOkv e = (fieldsv e && kindOk e.kind e.path e.link e.body) := rfl
set_option maxHeartbeats 3200000 in
theorem entryOk_impl (k : Int) (p l : ByteArray) (m u g t : Int) (us gr b : ByteArray) (w : World) (hp : p.size ≤ 4194304) (hl : l.size ≤ 4194304) (hus : us.size ≤ 4194304) (hgr : gr.size ≤ 4194304) :
    Calls Tryz.prog 31 #[.agg #[.int .i64 k, .string p, .string l, .int .i64 m, .int .i64 u, .int .i64 g, .int .i64 t, .string us, .string gr, .string b]] w fun e w' => e = .returned (.bool (entOkv ⟨k, p, l, m, u, g, t, us, gr, b⟩)) ∧ Below w.heap.size w w' := by
  have H0 := Lib.hid (fun w => fileOk_impl k p l m u g t us gr b w hp hus hgr)
  have H1 := Lib.hid (fun w => dirOk_impl k p l m u g t us gr b w hp hus hgr)
  have H2 := Lib.hid (fun w => symOk_impl k p l m u g t us gr b w hp hl hus hgr)
  have H3 := Lib.hid (fun w => hardOk_impl k p l m u g t us gr b w hp hl hus hgr)
  have HE : Hid (entOkv ⟨k, p, l, m, u, g, t, us, gr, b⟩ = (fieldsv ⟨k, p, l, m, u, g, t, us, gr, b⟩ && kindOk k p l b)) := Lib.hid rfl
  have HK : Hid (kindOk k p l b = if k = 0 then decide (l.size = 0) && decide (b.size ≤ 3000) else if k = 1 then decide (l.size = 0) && decide (b.size = 0) else if k = 2 then inB l.size 1 150 && signv l && decide (b.size = 0) else if k = 3 then pathOkv l && decide (l ≠ p) && decide (b.size = 0) else false) := Lib.hid rfl
  generalize hk0 : (decide (l.size = 0) && decide (b.size ≤ 3000)) = r0 at H0 HK
  generalize hk1 : (decide (l.size = 0) && decide (b.size = 0)) = r1 at H1 HK
  generalize hk2 : (inB (l.size : Int) 1 150 && signv l && decide (b.size = 0)) = r2 at H2 HK
  generalize hk3 : (pathOkv l && decide (l ≠ p) && decide (b.size = 0)) = r3 at H3 HK
  clear hk0 hk1 hk2 hk3
  generalize kindOk k p l b = rk at HE HK
  generalize entOkv ⟨k, p, l, m, u, g, t, us, gr, b⟩ = r at HE
  generalize fieldsv ⟨k, p, l, m, u, g, t, us, gr, b⟩ = b1 at HE H0 H1 H2 H3
  clear hp hl hus hgr
  by_cases q0 : k = 0
  · have HF : Hid (r = (b1 && r0)) := Lib.hid (by rw [HE.out, HK.out]; simp [q0])
    subst q0
    clear HE HK
    go_enter Tryz.func31, Tryz.ntmps31
    go_wp2_with fail
    refine (H0.out _).mono ?_
    rintro e w1 ⟨rfl, hb⟩
    go_wp2_with fail
    go_ret
    exact ⟨ret_bool HF.out.symm, (((Below.refl _ w).alloc (Nat.le_refl _) _).alloc (by simp) _).trans (hb.mono (by simp; omega))⟩
  by_cases q1 : k = 1
  · have HF : Hid (r = (b1 && r1)) := Lib.hid (by rw [HE.out, HK.out]; simp [q1])
    subst q1
    clear HE HK
    go_enter Tryz.func31, Tryz.ntmps31
    go_wp2_with fail
    refine (H1.out _).mono ?_
    rintro e w1 ⟨rfl, hb⟩
    go_wp2_with fail
    go_ret
    exact ⟨ret_bool HF.out.symm, (((Below.refl _ w).alloc (Nat.le_refl _) _).alloc (by simp) _).trans (hb.mono (by simp; omega))⟩
  by_cases q2 : k = 2
  · have HF : Hid (r = (b1 && r2)) := Lib.hid (by rw [HE.out, HK.out]; simp [q2])
    subst q2
    clear HE HK
    go_enter Tryz.func31, Tryz.ntmps31
    go_wp2_with fail
    refine (H2.out _).mono ?_
    rintro e w1 ⟨rfl, hb⟩
    go_wp2_with fail
    go_ret
    exact ⟨ret_bool HF.out.symm, (((Below.refl _ w).alloc (Nat.le_refl _) _).alloc (by simp) _).trans (hb.mono (by simp; omega))⟩
  by_cases q3 : k = 3
  · have HF : Hid (r = (b1 && r3)) := Lib.hid (by rw [HE.out, HK.out]; simp [q3])
    subst q3
    clear HE HK
    go_enter Tryz.func31, Tryz.ntmps31
    go_wp2_with fail
    refine (H3.out _).mono ?_
    rintro e w1 ⟨rfl, hb⟩
    go_wp2_with fail
    go_ret
    exact ⟨ret_bool HF.out.symm, (((Below.refl _ w).alloc (Nat.le_refl _) _).alloc (by simp) _).trans (hb.mono (by simp; omega))⟩
  have HF : Hid (r = false) := Lib.hid (by rw [HE.out, HK.out, if_neg q0, if_neg q1, if_neg q2, if_neg q3]; simp)
  clear HE HK
  go_enter Tryz.func31, Tryz.ntmps31
  go_wp2_with fail
  go_ret
  exact ⟨ret_bool HF.out.symm, ((Below.refl _ w).alloc (Nat.le_refl _) _).alloc (by simp) _⟩
end Go.Proofs.YtancidbbkoeokaaGreatDoor

/- Contracts of spec.UstarFits and impl.UstarFits. -/
namespace Go.Proofs.YtancidbbkoeokaaGreatDoor
open Go.ChangeShapes Go.WideShapes Go.ChangeAt Go.RowKit Go.Deep

def fitsv (e : Ent) : Bool := entOkv e && splitOk e.path && decide ((e.link.size : Int) ≤ 100) && decide (e.uid ≤ 2097151) && decide (e.gid ≤ 2097151) && decide (e.time ≤ 8589934591)
set_option maxHeartbeats 3200000 in
theorem fits_spec (k : Int) (p l : ByteArray) (m u g t : Int) (us gr b : ByteArray) (w : World) (hp : p.size ≤ 4194304) (hl : l.size ≤ 4194304) (hus : us.size ≤ 4194304) (hgr : gr.size ≤ 4194304) (hbz : b.size ≤ 4194304) :
    Calls Tryz.prog 66 #[.agg #[.int .i64 k, .string p, .string l, .int .i64 m, .int .i64 u, .int .i64 g, .int .i64 t, .string us, .string gr, .string b]] w fun e w' => e = .returned (.bool (fitsv ⟨k, p, l, m, u, g, t, us, gr, b⟩)) ∧ Below w.heap.size w w' := by
  have H1 := Lib.hid (fun w => split_spec p w hp)
  have H2 := Lib.hid (fun w => entryOk_spec k p l m u g t us gr b w hp hl hus hgr hbz)
  have HE : Hid (fitsv ⟨k, p, l, m, u, g, t, us, gr, b⟩ = (entOkv ⟨k, p, l, m, u, g, t, us, gr, b⟩ && splitOk p && decide ((l.size : Int) ≤ 100) && decide (u ≤ 2097151) && decide (g ≤ 2097151) && decide (t ≤ 8589934591))) := Lib.hid rfl
  generalize fitsv ⟨k, p, l, m, u, g, t, us, gr, b⟩ = r at HE
  generalize entOkv ⟨k, p, l, m, u, g, t, us, gr, b⟩ = b1 at H2 HE
  generalize splitOk p = b2 at H1 HE
  generalize splitP p = sp at H1
  generalize splitN p = sn at H1
  clear hp hus hgr
  go_enter Tryz.func66, Tryz.ntmps66
  go_wp2_with fail
  refine (H1.out _).mono ?_
  rintro e w1 ⟨rfl, hb⟩
  obtain ⟨k1, bb1, z1⟩ := one_new (e1 := ⟨k, p, l, m, u, g, t, us, gr, b⟩) hb
  have E1 := Lib.hid k1
  have B1 := Lib.hid bb1
  clear hb k1 bb1
  obtain ⟨c0, c1, c2, c3, c4, c5, c6, c7, c8, c9⟩ := E1.out.zero
  go_wp2_with fail
  refine (H2.out _).mono ?_
  rintro e w2 ⟨rfl, hb⟩
  have E2 := Lib.hid (E1.out.below hb (by omega))
  have B2 := Lib.hid (btE B1.out hb)
  clear hb E1 B1 c0 c1 c2 c3 c4 c5 c6 c7 c8 c9
  obtain ⟨c0, c1, c2, c3, c4, c5, c6, c7, c8, c9⟩ := E2.out.zero
  cases b1 with
  | false =>
    go_wp2_with fail
    go_ret
    exact ⟨ret_bool (by rw [HE.out]; simp), B2.out⟩
  | true =>
    cases b2 with
    | false =>
      go_wp2_with fail
      go_ret
      exact ⟨ret_bool (by rw [HE.out]; simp), B2.out⟩
    | true =>
      by_cases q1 : (l.size : Int) ≤ 100
      · by_cases q2 : u ≤ 2097151
        · by_cases q3 : g ≤ 2097151
          · by_cases q4 : t ≤ 8589934591
            · go_wp2_with fail
              go_ret
              exact ⟨ret_bool (by rw [HE.out]; simp [q1, q2, q3, q4]), B2.out⟩
            · go_wp2_with fail
              go_ret
              exact ⟨ret_bool (by rw [HE.out]; simp; omega), B2.out⟩
          · go_wp2_with fail
            go_ret
            exact ⟨ret_bool (by rw [HE.out]; simp; omega), B2.out⟩
        · go_wp2_with fail
          go_ret
          exact ⟨ret_bool (by rw [HE.out]; simp; omega), B2.out⟩
      · go_wp2_with fail
        go_ret
        exact ⟨ret_bool (by rw [HE.out]; simp; omega), B2.out⟩
set_option maxHeartbeats 3200000 in
theorem fits_impl (k : Int) (p l : ByteArray) (m u g t : Int) (us gr b : ByteArray) (w : World) (hp : p.size ≤ 4194304) (hl : l.size ≤ 4194304) (hus : us.size ≤ 4194304) (hgr : gr.size ≤ 4194304) :
    Calls Tryz.prog 77 #[.agg #[.int .i64 k, .string p, .string l, .int .i64 m, .int .i64 u, .int .i64 g, .int .i64 t, .string us, .string gr, .string b]] w fun e w' => e = .returned (.bool (fitsv ⟨k, p, l, m, u, g, t, us, gr, b⟩)) ∧ Below w.heap.size w w' := by
  have H1 := Lib.hid (fun w => split_impl p w hp)
  have H2 := Lib.hid (fun w => entryOk_impl k p l m u g t us gr b w hp hl hus hgr)
  have HE : Hid (fitsv ⟨k, p, l, m, u, g, t, us, gr, b⟩ = (entOkv ⟨k, p, l, m, u, g, t, us, gr, b⟩ && splitOk p && decide ((l.size : Int) ≤ 100) && decide (u ≤ 2097151) && decide (g ≤ 2097151) && decide (t ≤ 8589934591))) := Lib.hid rfl
  generalize fitsv ⟨k, p, l, m, u, g, t, us, gr, b⟩ = r at HE
  generalize entOkv ⟨k, p, l, m, u, g, t, us, gr, b⟩ = b1 at H2 HE
  generalize splitOk p = b2 at H1 HE
  generalize splitP p = sp at H1
  generalize splitN p = sn at H1
  clear hp hus hgr
  go_enter Tryz.func77, Tryz.ntmps77
  go_wp2_with fail
  refine (H1.out _).mono ?_
  rintro e w1 ⟨rfl, hb⟩
  obtain ⟨k1, bb1, z1⟩ := one_new (e1 := ⟨k, p, l, m, u, g, t, us, gr, b⟩) hb
  have E1 := Lib.hid k1
  have B1 := Lib.hid bb1
  clear hb k1 bb1
  obtain ⟨c0, c1, c2, c3, c4, c5, c6, c7, c8, c9⟩ := E1.out.zero
  cases b2 with
  | false =>
    go_wp2_with fail
    go_ret
    exact ⟨ret_bool (by rw [HE.out]; simp), B1.out⟩
  | true =>
    go_wp2_with fail
    refine (H2.out _).mono ?_
    rintro e w2 ⟨rfl, hb⟩
    have E2 := Lib.hid (E1.out.below hb (by omega))
    have B2 := Lib.hid (btE B1.out hb)
    clear hb E1 B1 c0 c1 c2 c3 c4 c5 c6 c7 c8 c9
    obtain ⟨c0, c1, c2, c3, c4, c5, c6, c7, c8, c9⟩ := E2.out.zero
    cases b1 with
    | false =>
      go_wp2_with fail
      go_ret
      exact ⟨ret_bool (by rw [HE.out]; simp), B2.out⟩
    | true =>
      by_cases q1 : (l.size : Int) ≤ 100
      · by_cases q2 : u ≤ 2097151
        · by_cases q3 : g ≤ 2097151
          · by_cases q4 : t ≤ 8589934591
            · go_wp2_with fail
              go_ret
              exact ⟨ret_bool (by rw [HE.out]; simp [q1, q2, q3, q4]), B2.out⟩
            · go_wp2_with fail
              go_ret
              exact ⟨ret_bool (by rw [HE.out]; simp; omega), B2.out⟩
          · go_wp2_with fail
            go_ret
            exact ⟨ret_bool (by rw [HE.out]; simp; omega), B2.out⟩
        · go_wp2_with fail
          go_ret
          exact ⟨ret_bool (by rw [HE.out]; simp; omega), B2.out⟩
      · go_wp2_with fail
        go_ret
        exact ⟨ret_bool (by rw [HE.out]; simp; omega), B2.out⟩
end Go.Proofs.YtancidbbkoeokaaGreatDoor

/- Contracts of spec.Cut, impl.Cut and the law laws.FnExactCut: the bytes before the first NUL. -/
namespace Go.Proofs.YtancidbbkoeokaaGreatDoor
open Go.ChangeShapes Go.WideShapes Go.ChangeAt Go.RowKit

def nulFree (l : List UInt8) : List UInt8 := l.takeWhile (· != 0)
def cutv (s : ByteArray) : ByteArray := ⟨(nulFree s.data.toList).toArray⟩
def Nz (l : List UInt8) : Prop := ∀ c ∈ l, c ≠ 0

theorem nz_snoc {l : List UInt8} {c : UInt8} (h : Nz l) (hc : c ≠ 0) : Nz (l ++ [c]) := by
  intro d hd
  rcases List.mem_append.1 hd with hd | hd
  · exact h d hd
  · simp at hd; exact hd ▸ hc
theorem nulFree_append {a b : List UInt8} (h : Nz a) : nulFree (a ++ b) = a ++ nulFree b :=
  List.takeWhile_append_of_pos (by intro c hc; simpa using h c hc)
theorem nulFree_self {a : List UInt8} (h : Nz a) : nulFree a = a := by
  have := nulFree_append (a := a) (b := []) h
  simpa [nulFree] using this
theorem nulFree_at (l : List UInt8) (k : Nat) (hk : k < l.length) (h : Nz (l.take k)) (h0 : l[k] = 0) : nulFree l = l.take k := by
  have e : l = l.take k ++ (l[k] :: l.drop (k + 1)) := by simp
  have h1 : nulFree (l.take k ++ (l[k] :: l.drop (k + 1))) = l.take k := by
    rw [nulFree_append h, h0]; simp [nulFree]
  rw [← e] at h1
  exact h1
theorem nulFree_index (l : List UInt8) : (Lib.indexByte l 0 = -1 → nulFree l = l) ∧ (0 ≤ Lib.indexByte l 0 → nulFree l = l.take (Lib.indexByte l 0).toNat ∧ Lib.indexByte l 0 < l.length) := by
  induction l with
  | nil => simp [Lib.indexByte, nulFree]
  | cons c l ih =>
    by_cases hc : c = 0
    · subst hc; simp [Lib.indexByte, nulFree]
    · have hn : nulFree (c :: l) = c :: nulFree l := by simp [nulFree, hc]
      have hi : Lib.indexByte (c :: l) 0 = if Lib.indexByte l 0 == -1 then -1 else Lib.indexByte l 0 + 1 := by simp [Lib.indexByte, hc]
      have hge := Lib.indexByte_ge l 0
      rw [hn, hi]
      by_cases hm : Lib.indexByte l 0 = -1
      · simp [hm, ih.1 hm]
      · obtain ⟨h1, h2⟩ := ih.2 (by omega)
        have hb : (Lib.indexByte l 0 == -1) = false := by simp [hm]
        rw [hb]
        have e : (Lib.indexByte l 0 + 1).toNat = (Lib.indexByte l 0).toNat + 1 := by omega
        simp [e, h1]
        omega

theorem cut_spec (s : ByteArray) (w : World) (hs : s.size ≤ 9223372036854775807) :
    Calls Tryz.prog 65 #[.string s] w fun e w' => e = .returned (.string (cutv s)) ∧ w = w' := by
  go_enter Tryz.func65, Tryz.ntmps65
  go_wp2
  go_loop [3] (fun i => ∃ k : Nat, k ≤ s.size ∧ i = .int .i64 k ∧ Nz (s.data.toList.take k)) (fun i => s.size - (intOf i).toNat)
  case atStart => exact ⟨0, Nat.zero_le _, rfl, by intro c hc; simp at hc⟩
  case round =>
    obtain ⟨k, hk, rfl, hnz⟩ := hrel
    have HZ := Lib.hid hnz
    clear hnz
    by_cases hlt : k < s.size
    · by_cases hc : s[k] = 0
      · have hb : (((s[k].toNat : Nat) : Int) == 0) = true := by simp [hc]
        go_wp2
        go_ret
        refine ⟨ret_str (ba_ext ?_), rfl⟩
        rw [Lib.extract_data]
        have hl : k < s.data.toList.length := by simpa using hlt
        simp only [cutv, nulFree_at s.data.toList k hl HZ.out hc, List.drop_zero, Nat.sub_zero]
      · have hb : (((s[k].toNat : Nat) : Int) == 0) = false := byte_eq0 hc
        have HN := Lib.hid (show Nz (s.data.toList.take (k + 1)) by rw [take_snoc s k hlt]; exact nz_snoc HZ.out hc)
        clear hc
        go_wp2
        go_round
        case rel => exact ⟨k + 1, by omega, by go_num, HN.out⟩
        case measure => simp [intOf]; omega
    · go_wp2
      go_ret
      refine ⟨ret_str (ba_ext ?_), rfl⟩
      have e : s.data.toList.take k = s.data.toList := List.take_of_length_le (by simp; omega)
      have hz := HZ.out
      rw [e] at hz
      simp only [cutv, nulFree_self hz]


/-- strings.Cut at a NUL: what stands before it. -/
def CutPost (s : ByteArray) (w : World) (e : Ending) (w' : World) : Prop := ∃ r f, e = .returned (.tuple #[.string (cutv s), .string r, .bool f]) ∧ ∃ n, w' = w.drewN n

theorem lcut_any (s : ByteArray) (w : World) (hs : s.size ≤ 1099511627776) :
    Calls Tryz.prog 136 #[.string s, .string ⟨#[0]⟩] w (CutPost s w) := by
  have hi := nulFree_index s.data.toList
  have hge := Lib.indexByte_ge s.data.toList 0
  have hsz : s.data.toList.length = s.size := by simp
  by_cases hm : Lib.indexByte s.data.toList 0 = -1
  · have H1 := Lib.hid (hi.1 hm)
    have HM := Lib.hid hm
    have hlt : decide (0 ≤ Lib.indexByte s.data.toList 0) = false := by simp [hm]
    have hneg : Lib.indexByte s.data.toList 0 < 0 := by omega
    clear hi hm
    go_enter Tryz.func136, Tryz.ntmps136
    go_wp2_with (go_at_call 81; refine (Tryz.stringslite_Index_one _ _ _).mono ?_; rintro e w' ⟨rfl, rfl⟩)
    go_ret3
    refine ⟨⟨#[]⟩, false, ?_, 0, rfl⟩
    rw [show cutv s = s from ba_ext (by simp [cutv, H1.out])]
    rfl
  · obtain ⟨h1, h2⟩ := hi.2 (by omega)
    obtain ⟨k, hk⟩ := Int.eq_ofNat_of_zero_le (show 0 ≤ Lib.indexByte s.data.toList 0 by omega)
    rw [hk] at h1 h2
    simp only [Int.toNat_natCast] at h1
    have hks : k < s.size := by omega
    have hks1 : (k : Int) + 1 ≤ (s.size : Int) := by omega
    have e1 : IntKind.i64.wrap ((k : Int) + 1) = (k : Int) + 1 := IntWalk.i64_in _ (by omega)
    have e2 : (0 : Int) ≤ (k : Int) + 1 := by omega
    have e3 : ((k : Int) + 1).toNat = k + 1 := by omega
    have hks2 : (k : Int) ≤ (s.size : Int) := by omega
    have hks3 : k ≤ s.size := by omega
    have hks4 : k + 1 ≤ s.size := by omega
    have H1 := Lib.hid h1
    have hc := fun w => Tryz.stringslite_Index_one s 0 w
    rw [hk] at hc
    have HC := Lib.hid hc
    clear h1 h2 hi hm hge hk hc hsz
    go_enter Tryz.func136, Tryz.ntmps136
    go_wp2_with (go_at_call 81; refine (HC.out _).mono ?_; rintro e w' ⟨rfl, rfl⟩)
    go_quiet (fail)
    go_wp2
    go_ret3
    refine ⟨s.extract (k + 1) s.size, true, ?_, nq, rfl⟩
    rw [show cutv s = s.extract 0 k from ba_ext (by rw [Lib.extract_data]; simp [cutv, H1.out])]
    rfl

theorem scut_any (s : ByteArray) (w : World) (hs : s.size ≤ 1099511627776) :
    Calls Tryz.prog 131 #[.string s, .string ⟨#[0]⟩] w (CutPost s w) := by
  go_enter Tryz.func131, Tryz.ntmps131
  go_wp2_with (go_at_call 136; refine (lcut_any _ _ hs).mono ?_; rintro e w' ⟨r, f, rfl, n, rfl⟩)
  go_ret3
  exact ⟨r, f, rfl, n, rfl⟩

theorem cutv_le (s : ByteArray) : (cutv s).size ≤ s.size := by
  have h : (nulFree s.data.toList).length ≤ s.data.toList.length := by
    have := List.takeWhile_prefix (l := s.data.toList) (· != 0)
    exact this.length_le
  have e : (cutv s).size = (nulFree s.data.toList).length := by simp [cutv, ByteArray.size]
  rw [e]; simpa using h

theorem cut_impl (s : ByteArray) (w : World) (hs : s.size ≤ 1099511627776) :
    Calls Tryz.prog 124 #[.string s] w fun e w' => e = .returned (.string (cutv s)) ∧ Below w.heap.size w w' := by
  have hle := cutv_le s
  go_enter Tryz.func124, Tryz.ntmps124
  go_wp2_with fail
  refine (scut_any _ _ hs).mono ?_
  rintro e w' ⟨r, f, rfl, n, rfl⟩
  go_wp2_with fail
  refine (clone_any _ _ (by omega)).mono ?_
  rintro e w' ⟨rfl, hb⟩
  go_wp2_with fail
  go_ret
  exact ⟨rfl, (below_drewN (Below.refl _ _) n).trans hb⟩

end Go.Proofs.YtancidbbkoeokaaGreatDoor

/- Contracts of spec.l01Nuls, spec.Fill, impl.Fill and the law laws.FnExactFill. -/
namespace Go.Proofs.YtancidbbkoeokaaGreatDoor
open Go.ChangeShapes Go.WideShapes Go.ChangeAt Go.RowKit

def nuls (n : Nat) : List UInt8 := List.replicate n 0
theorem nuls_succ (n : Nat) : nuls n ++ [0] = nuls (n + 1) := by simp [nuls, List.replicate_succ']
theorem nuls_len (n : Nat) : (nuls n).length = n := by simp [nuls]
def nulv (n : Nat) : ByteArray := ⟨(nuls n).toArray⟩

theorem nuls_spec (n : Int) (w : World) (hn : n ≤ 1024) :
    Calls Tryz.prog 91 #[.int .i64 n] w fun e w' => e = .returned (.string (nulv n.toNat)) ∧ Below w.heap.size w w' := by
  obtain ⟨i0, hi, hz0, hz1, hz2⟩ := info_parts Tryz.info5
  go_enter Tryz.func91, Tryz.ntmps91
  go_wp2
  go_loopw [3, 4] (fun v i wr => ∃ k : Nat, k ≤ n.toNat ∧ i = .int .i64 k ∧ OwnB wr w.heap.size v (nuls k) ∧ Below w.heap.size w wr) (fun _ i _ => n.toNat - (intOf i).toNat)
  case atStart => exact ⟨0, Nat.zero_le _, rfl, OwnB.lit (Nat.le_refl _), (Below.refl _ _).alloc (Nat.le_refl _) _⟩
  case round =>
    obtain ⟨k, hk, rfl, hown, hb⟩ := hrel
    have HO := Lib.hid hown
    have HB := Lib.hid hb
    clear hown hb
    by_cases hlt : (k : Int) < n
    · have hsz := HB.out.size
      go_wp2_with (at_builtin; refine wpList_append_own _ rfl _ _ 64 rfl w.heap.size 5 i0 (.int .u8 0) 1 1 Tryz.underlying64 hi hz0 hz1 hz2 rfl (by decide) _ _ _ rfl (HO.out.alloc _) ⟨wr.heap.size, 0, none⟩ 1 1 [.int .u8 0] rfl rfl ?c1 ?c2 ?c3 ?c4 ?c5 ?_)
      case c1 =>
        intro j u hj
        match j, hj with
        | 0, hj => simp at hj; subst hj; simp [Addr.add]
      case c2 => intro u hu; simp at hu; subst hu; rfl
      case c3 => simp only [nuls_len, maxLen]; omega
      case c4 => simp only [nuls_len]; omega
      case c5 => simp; omega
      · intro v' w1 hown' hgrow _
        have hO : OwnB w1 w.heap.size v' (nuls (k + 1)) := by
          have e : byteVals (nuls k) ++ [.int .u8 0] = byteVals (nuls (k + 1)) := by rw [← nuls_succ, ← byteVals_snoc]; rfl
          rw [e] at hown'
          have e2 : (nuls k).length + 1 = (nuls (k + 1)).length := by simp [nuls_len]
          rw [e2] at hown'
          exact hown'
        have hBl : Below w.heap.size w w1 := (HB.out.alloc hsz _).grown hgrow (by simp; omega) (fun b hb => (HO.out.lt b hb).1)
        clear hown' hgrow
        go_wp2
        go_roundw
        case rel => exact ⟨k + 1, by omega, by go_num, hO, hBl⟩
        case measure => simp [intOf]; omega
    · have hc := HO.out.conv
      go_wp2
      go_ret
      have e : k = n.toNat := by omega
      subst e
      exact ⟨rfl, HB.out⟩

def fillv (s : ByteArray) (width : Int) : ByteArray := if 1024 < width ∨ width ≤ s.size then s else s ++ nulv (width - s.size).toNat
theorem nulv_size (n : Nat) : (nulv n).size = n := by simp [nulv, nuls, ByteArray.size]

theorem fill_spec (s : ByteArray) (width : Int) (w : World) (hs : s.size ≤ 9223372036854775807) :
    Calls Tryz.prog 89 #[.string s, .int .i64 width] w fun e w' => e = .returned (.string (fillv s width)) ∧ Below w.heap.size w w' := by
  by_cases h1 : 1024 < width
  · go_enter Tryz.func89, Tryz.ntmps89
    go_wp2
    go_ret
    exact ⟨ret_str (by rw [fillv, if_pos (.inl h1)]), Below.refl _ _⟩
  · by_cases h2 : width ≤ (s.size : Int)
    · go_enter Tryz.func89, Tryz.ntmps89
      go_wp2
      go_ret
      exact ⟨ret_str (by rw [fillv, if_pos (.inr h2)]), Below.refl _ _⟩
    · have hn : (nulv (width.toNat - s.size)).size ≤ 1024 := by rw [nulv_size]; omega
      go_enter Tryz.func89, Tryz.ntmps89
      go_wp2_with fail
      refine (nuls_spec _ _ (by omega)).mono ?_
      rintro e w' ⟨rfl, hb⟩
      go_wp2_with fail
      go_ret
      exact ⟨ret_str (by rw [fillv, if_neg (by omega), show (width - (s.size : Int)).toNat = width.toNat - s.size from by omega]), hb⟩

theorem repeatL_nul (n : Nat) : Lib.repeatL [0] n = nuls n := by
  induction n with
  | zero => rfl
  | succ n ih => rw [Lib.repeatL, ih]; simp [nuls, List.replicate_succ]

theorem fill_impl (s : ByteArray) (width : Int) (w : World) (hs : s.size ≤ 1099511627776) :
    Calls Tryz.prog 43 #[.string s, .int .i64 width] w fun e w' => e = .returned (.string (fillv s width)) ∧ Below w.heap.size w w' := by
  by_cases h2 : width ≤ (s.size : Int)
  · go_enter Tryz.func43, Tryz.ntmps43
    go_wp2_with (go_at_call 46; refine (clone_any _ _ (by omega)).mono ?_; rintro e w' ⟨rfl, hb⟩)
    go_ret
    exact ⟨ret_str (by rw [fillv, if_pos (.inr h2)]), by assumption⟩
  · by_cases h1 : 1024 < width
    · go_enter Tryz.func43, Tryz.ntmps43
      go_wp2_with (go_at_call 46; refine (clone_any _ _ (by omega)).mono ?_; rintro e w' ⟨rfl, hb⟩)
      go_ret
      exact ⟨ret_str (by rw [fillv, if_pos (.inl h1)]), by assumption⟩
    · obtain ⟨k, hk⟩ := Int.eq_ofNat_of_zero_le (show 0 ≤ width - (s.size : Int) by omega)
      obtain rfl : width = (s.size : Int) + k := by omega
      have hn : (nulv k).size ≤ 1024 := by rw [nulv_size]; omega
      have hr := fun w => Tryz.strings_Repeat ⟨#[0]⟩ k w (by omega) (by simp [ByteArray.size]; omega)
      have e1 : (⟨(Lib.repeatL (⟨#[0]⟩ : ByteArray).data.toList k).toArray⟩ : ByteArray) = nulv k := by simp [nulv, repeatL_nul]
      rw [e1] at hr
      have HR := Lib.hid hr
      clear hr e1 hk
      go_enter Tryz.func43, Tryz.ntmps43
      go_wp2_with fail
      rw [show (s.size : Int) + k - s.size = (k : Int) from by omega]
      refine (HR.out _).mono ?_
      rintro e w' ⟨rfl, hb⟩
      go_wp2_with fail
      go_ret
      refine ⟨ret_str ?_, hb⟩
      rw [fillv, if_neg (by omega), show ((s.size : Int) + k - s.size).toNat = k from by omega]

end Go.Proofs.YtancidbbkoeokaaGreatDoor

/- The texts of a header, and that what the program lays field by field is their sum: plain lists only. -/
namespace Go.Proofs.YtancidbbkoeokaaGreatDoor
open Go.ChangeShapes Go.WideShapes Go.ChangeAt Go.RowKit

def octz (n width : Int) : ByteArray := (putOctv n (width - 1)).1 ++ ⟨#[0]⟩
def magicU : ByteArray := ⟨#[117, 115, 116, 97, 114, 0, 48, 48]⟩
def headA (e : Ent) (name : ByteArray) (size : Int) : ByteArray := fillv name 100 ++ octz e.mode 8 ++ octz e.uid 8 ++ octz e.gid 8 ++ octz size 12 ++ octz e.time 12
def headB (e : Ent) (pf flag magic : ByteArray) : ByteArray := flag ++ fillv e.link 100 ++ magic ++ fillv e.user 32 ++ fillv e.group 32 ++ octz 0 8 ++ octz 0 8 ++ fillv pf 155 ++ nulv 12
def headv (e : Ent) (name pf flag : ByteArray) (size : Int) (magic : ByteArray) : ByteArray :=
  headA e name size ++ (putOctv (sumv (headA e name size).data.toList + 256 + sumv (headB e pf flag magic).data.toList) 6).1 ++ ⟨#[0, 32]⟩ ++ headB e pf flag magic
def putHeadv (e : Ent) (flag : ByteArray) (size : Int) : ByteArray :=
  if fitsv e = true ∧ flag.size = 1 ∧ (0 ≤ size ∧ size ≤ 3000) then headv e (splitN e.path) (splitP e.path) flag size magicU else ⟨#[]⟩

theorem numeral_8 {n k : Nat} (hk : 1 ≤ k) (h : n < 8 ^ k) : (numeral 8 n).length ≤ k := numeral_len (by omega) hk h
/-- A number that fits has just as many digits as its field. -/
theorem oct_fits {n : Int} {k : Nat} (h0 : 0 ≤ n) (hk : 1 ≤ k) (hk2 : k ≤ 17) (h : n.toNat < 8 ^ k) : (putOctv n k).2 = true ∧ (putOctv n k).1.size = k ∧ (putOctv n k).1 = ⟨(ahead (numeral 8 n.toNat) k).toArray⟩ := by
  have hp : (8 : Nat) ^ k ≤ 8 ^ 17 := Nat.pow_le_pow_right (by omega) hk2
  have hl := numeral_8 hk h
  have h17 : (8 : Nat) ^ 17 = 2251799813685248 := by decide
  have hv : Valid n k ∧ ((numeral 8 n.toNat).length : Int) ≤ k := ⟨⟨h0, by omega, by omega, by omega⟩, by omega⟩
  have e : putOctv n k = (⟨(ahead (numeral 8 n.toNat) k).toArray⟩, true) := by rw [putOctv, if_pos hv]
  rw [e]
  exact ⟨rfl, by rw [ba_size, ahead_len]; omega, rfl⟩
theorem putOct_size (n width : Int) : (putOctv n width).1.size ≤ 20 := by
  unfold putOctv
  split
  · rename_i h
    rw [ba_size, ahead_len]
    have := h.1.2.2.2
    omega
  · decide
theorem octz_size (n width : Int) : (octz n width).size ≤ 21 := by
  rw [octz, ByteArray.size_append]
  have := putOct_size n (width - 1)
  have e : (⟨#[0]⟩ : ByteArray).size = 1 := rfl
  omega
theorem fill_size (s : ByteArray) (width : Int) (h : 0 ≤ width) : (fillv s width).size ≤ s.size + width.toNat := by
  unfold fillv
  split
  · omega
  · rw [ByteArray.size_append, nulv_size]; omega
/-- A field of a text, filled. -/
theorem fill_short {s : ByteArray} {n : Nat} (h : s.size ≤ n) (hn : n ≤ 1024) : (fillv s n).data.toList = s.data.toList ++ nuls (n - s.size) := by
  unfold fillv
  by_cases q : s.size = n
  · rw [if_pos (.inr (by omega)), show n - s.size = 0 from by omega]; simp [nuls]
  · rw [if_neg (by omega), show ((n : Int) - s.size).toNat = n - s.size from by omega]
    simp [nulv]

/-- What a field of l holds behind a text laid over it. -/
theorem over_mid (a f b s : List UInt8) (h : s.length ≤ f.length) : over (a ++ f ++ b) a.length s = a ++ (s ++ f.drop s.length) ++ b := by
  unfold over
  have h1 : (a ++ f ++ b).take a.length = a := by simp
  have h2 : (a ++ f ++ b).drop (a.length + s.length) = f.drop s.length ++ b := by
    rw [List.append_assoc, ← List.drop_drop]
    simp [List.drop_append, Nat.sub_eq_zero_of_le h]
  rw [h1, h2]
  simp
/-- The fields of a header, each of its width, and what stands behind them. -/
def WF (F : List (List UInt8)) : Prop := F.map List.length = widths ++ [12]
def flat (F : List (List UInt8)) : List UInt8 := F.flatten
theorem flat_at {F : List (List UInt8)} (hF : WF F) {k x : Nat} (hk : k < 15) (hx : widths[k]? = some x) : ∃ f, F[k]? = some f ∧ f.length = x ∧ ∀ s : List UInt8, s.length ≤ x → over (flat F) (offs k) s = flat (F.set k (s ++ f.drop s.length)) := by
  have hlen : F.length = 16 := by have := congrArg List.length hF; simpa [widths] using this
  have hf : F[k]? = some F[k] := List.getElem?_eq_getElem (by omega)
  have hl : F[k].length = x := by
    have h1 : (F.map List.length)[k]? = some F[k].length := by rw [List.getElem?_map, hf]; rfl
    rw [hF, List.getElem?_append_left (by simp [widths]; omega), hx] at h1
    exact (Option.some.inj h1).symm
  refine ⟨F[k], hf, hl, fun s hs => ?_⟩
  have ho : (F.take k).flatten.length = offs k := by
    rw [List.length_flatten, List.map_take, hF, offs, List.take_append_of_le_length (by simp [widths]; omega)]
  have e1 : flat F = (F.take k).flatten ++ F[k] ++ (F.drop (k + 1)).flatten := by
    unfold flat
    have e0 : F = F.take k ++ F[k] :: F.drop (k + 1) := by rw [← List.drop_eq_getElem_cons (by omega : k < F.length), List.take_append_drop]
    have e3 := congrArg List.flatten e0
    rw [List.flatten_append, List.flatten_cons, ← List.append_assoc] at e3
    exact e3
  have e2 : flat (F.set k (s ++ F[k].drop s.length)) = (F.take k).flatten ++ (s ++ F[k].drop s.length) ++ (F.drop (k + 1)).flatten := by
    unfold flat
    rw [List.set_eq_take_append_cons_drop, if_pos (by omega)]
    simp
  rw [e1, e2, ← ho]
  exact over_mid _ _ _ _ (by omega)
theorem WF.set {F : List (List UInt8)} (hF : WF F) {k x : Nat} (hk : k < 15) (hx : widths[k]? = some x) {g : List UInt8} (hg : g.length = x) : WF (F.set k g) := by
  unfold WF at hF ⊢
  rw [List.map_set, hF]
  apply List.ext_getElem?
  intro i
  by_cases hi : i = k
  · subst hi
    rw [List.getElem?_set_self (by simp [widths]; omega), List.getElem?_append_left (by simp [widths]; omega), hx, hg]
  · rw [List.getElem?_set_ne (fun e => hi e.symm)]
end Go.Proofs.YtancidbbkoeokaaGreatDoor

/- Contracts of spec.PutBig, impl.PutBig and the law laws.FnExactPutBig, for every two ints. -/
namespace Go.Proofs.YtancidbbkoeokaaGreatDoor
open Go.ChangeShapes Go.WideShapes Go.ChangeAt Go.RowKit

/-- What is left of n, and the bytes made so far, behind j steps. -/
def bigSt (n : Int) : Nat → Int × List UInt8
  | 0 => (n, [])
  | j + 1 => ((bigSt n j).1 / 256, UInt8.ofNat ((bigSt n j).1 % 256).toNat :: (bigSt n j).2)
theorem bigSt_len (n : Int) : ∀ j, (bigSt n j).2.length = j
  | 0 => rfl
  | j + 1 => by simp [bigSt, bigSt_len n j]
theorem bigSt_bd (n : Int) (h0 : 0 ≤ n) (h1 : n ≤ 9007199254740991) : ∀ j, 0 ≤ (bigSt n j).1 ∧ (bigSt n j).1 ≤ 9007199254740991
  | 0 => ⟨h0, h1⟩
  | j + 1 => by have := bigSt_bd n h0 h1 j; simp only [bigSt]; omega
theorem byte_of (x : Int) : (((UInt8.ofNat (x % 256).toNat).toNat : Nat) : Int) = x % 256 := by
  have : (UInt8.ofNat (x % 256).toNat).toNat = (x % 256).toNat := by simp; omega
  rw [this]; omega

def putBigv (n width : Int) : ByteArray × Bool :=
  if 0 ≤ n ∧ n ≤ 9007199254740991 ∧ 2 ≤ width ∧ width ≤ 20 ∧ (bigSt n (width.toNat - 1)).1 = 0 then (⟨(128 :: (bigSt n (width.toNat - 1)).2).toArray⟩, true) else (⟨#[]⟩, false)
theorem putBigv_no {n width : Int} (h : ¬ (0 ≤ n ∧ n ≤ 9007199254740991 ∧ 2 ≤ width ∧ width ≤ 20)) : putBigv n width = (⟨#[]⟩, false) := by
  rw [putBigv, if_neg (fun k => h ⟨k.1, k.2.1, k.2.2.1, k.2.2.2.1⟩)]
theorem putBigv_more {n width : Int} (h : ¬ (bigSt n (width.toNat - 1)).1 = 0) : putBigv n width = (⟨#[]⟩, false) := by
  rw [putBigv, if_neg (fun k => h k.2.2.2.2)]
theorem putBigv_ok {n width : Int} (h0 : 0 ≤ n) (h1 : n ≤ 9007199254740991) (h2 : 2 ≤ width) (h3 : width ≤ 20) (h : (bigSt n (width.toNat - 1)).1 = 0) : putBigv n width = (⟨(128 :: (bigSt n (width.toNat - 1)).2).toArray⟩, true) := by
  rw [putBigv, if_pos ⟨h0, h1, h2, h3, h⟩]
theorem ret_tsb {a c : ByteArray} {b d : Bool} {r : ByteArray × Bool} (h : r = (a, b)) (h1 : c = a) (h2 : d = b) : Ending.returned (.tuple #[.string c, .bool d]) = .returned (.tuple #[.string r.1, .bool r.2]) := by
  subst h h1 h2; rfl

/-- A row of bytes of the call's own that is not nil. -/
def OwnS (w : World) (base : Nat) (v : Value) (l : List UInt8) : Prop := OwnB w base v l ∧ ∃ g cap, v = .slice (some ⟨g, 0, none⟩) l.length cap

theorem bigv_str (l : List UInt8) : (⟨#[128]⟩ : ByteArray) ++ ⟨l.toArray⟩ = ⟨(128 :: l).toArray⟩ := by
  apply ByteArray.ext; simp

theorem set_row (p : Nat) (L : List UInt8) (b : UInt8) : (128 :: (List.replicate (p + 1) (0 : UInt8) ++ L)).set (p + 1) b = 128 :: (List.replicate p 0 ++ (b :: L)) := by
  simp only [List.set_cons_succ]
  congr 1
  rw [List.replicate_succ', List.append_assoc, List.set_append_right _ _ (by simp)]
  simp
theorem byteVals_set (l : List UInt8) (i : Nat) (b : UInt8) : (byteVals l).set i (.int .u8 ((b.toNat : Nat) : Int)) = byteVals (l.set i b) := by
  simp [byteVals, List.map_set]
theorem byteVals_zeros (n : Nat) : List.replicate n (Value.int .u8 0) = byteVals (List.replicate n 0) := by simp [byteVals]

/-- The row behind j steps, p + j + 1 bytes in all. -/
def bigRow (n : Int) (p j : Nat) : List UInt8 := 128 :: (List.replicate p 0 ++ (bigSt n j).2)
theorem bigRow_len (n : Int) (p j : Nat) : (bigRow n p j).length = p + j + 1 := by simp [bigRow, bigSt_len]
theorem bigRow_step (n : Int) (p j : Nat) : (bigRow n (p + 1) j).set (p + 1) (UInt8.ofNat ((bigSt n j).1 % 256).toNat) = bigRow n p (j + 1) := by
  rw [bigRow, set_row]; rfl

set_option maxHeartbeats 800000 in
set_option maxRecDepth 8000 in
theorem putBig_impl (n width : Int) (w : World) :
    Calls Tryz.prog 127 #[.int .i64 n, .int .i64 width] w fun e w' => e = .returned (.tuple #[.string (putBigv n width).1, .bool (putBigv n width).2]) ∧ Below w.heap.size w w' := by
  by_cases h0 : 0 ≤ n ∧ n ≤ 9007199254740991 ∧ 2 ≤ width ∧ width ≤ 20
  · obtain ⟨ha, hb, hc, hd⟩ := h0
    obtain ⟨W, rfl⟩ := Int.eq_ofNat_of_zero_le (show 0 ≤ width by omega)
    obtain ⟨i0, hi, hz0, hz1, hz2⟩ := info_parts Tryz.info5
    go_enter Tryz.func127, Tryz.ntmps127
    go_wp2_with (at_make; refine wpList_make_full _ rfl _ _ 64 rfl w.heap.size 5 i0 (.int .u8 0) 1 Tryz.underlying64 hi hz0 hz1 .i64 .i64 (W : Int) (W : Int) W rfl rfl rfl rfl (by rw [hz2]; omega) (by simp only [maxLen]; omega) (Nat.le_refl _) ?_)
    intro w1 hown hgrow
    have hp : 0 < W := by omega
    have hpi : (0 : Int) < (W : Int) := by omega
    have hcell : ∃ v, w1.cell? ⟨w.heap.size, 0, none⟩ = some v := by
      rw [World.ownsRow.cellAt hown 0 (by omega)]
      rw [toList_madeCells_one]
      exact ⟨.int .u8 0, by rw [List.getElem?_replicate, if_pos (by omega)]⟩
    obtain ⟨cv, hcv⟩ := hcell
    have hfz := World.ownsRow.frozenAt hown 0
    have hst := (World.ownsRow.stored hown 0 (.int .u8 128))
    have hO : OwnB (w1.setCell ⟨w.heap.size, 0, none⟩ (.int .u8 128)) w.heap.size (.slice (some ⟨w.heap.size, 0, none⟩) W W) (bigRow n (W - 1) 0) := by
      have h := hst.1
      have e : (madeCells #[.int .u8 0] W).toList.set 0 (.int .u8 128) = byteVals (bigRow n (W - 1) 0) := by
        obtain ⟨V, rfl⟩ : ∃ V, W = V + 1 := ⟨W - 1, by omega⟩
        rw [toList_madeCells_one]
        simp [List.replicate_succ, bigRow, bigSt, byteVals]
      rw [e] at h
      have e2 : W = (bigRow n (W - 1) 0).length := by rw [bigRow_len]; omega
      unfold OwnB
      rw [← e2]
      exact h
    have hBl : Below w.heap.size w (w1.setCell ⟨w.heap.size, 0, none⟩ (.int .u8 128)) := by
      have h1 : Below w.heap.size w w1 := (Below.refl _ _).grown hgrow (Nat.le_refl _) (fun k hk => by cases hk)
      exact h1.setCell (Nat.le_refl _) _
    have HO := Lib.hid hO
    have HB := Lib.hid hBl
    clear hO hBl hst hown hgrow
    go_wp2
    go_loopw [0, 7] (fun m i wr => ∃ (j p : Nat) (x : Int), p + j + 1 = W ∧ i = .int .i64 (p : Int) ∧ 0 ≤ x ∧ x ≤ 9007199254740991 ∧ m = .int .i64 x ∧ Hid (x = (bigSt n j).1) ∧ OwnB wr w.heap.size (.slice (some ⟨w.heap.size, 0, none⟩) W W) (bigRow n p j) ∧ Below w.heap.size w wr) (fun _ i _ => (intOf i).toNat)
    case atStart => exact ⟨0, W - 1, n, by omega, by go_num, ha, hb, rfl, Lib.hid rfl, HO.out, HB.out⟩
    case round =>
      obtain ⟨j, p, x, hjp, rfl, hx0, hx1, rfl, HX, hown, hbl⟩ := hrel
      have HOw := Lib.hid hown
      have HBw := Lib.hid hbl
      have HJP := Lib.hid hjp
      have hpW : p < W := by omega
      have hpWi : (p : Int) < (W : Int) := by omega
      clear hown hbl hjp
      by_cases hp0 : p = 0
      · subst hp0
        have hconv := HOw.out.conv
        have HJ := Lib.hid (show j = (W : Int).toNat - 1 by have := HJP.out; omega)
        have e0 : bigRow n 0 j = 128 :: (bigSt n j).2 := rfl
        rw [e0] at hconv
        clear e0
        by_cases hx : x = 0
        · have hx2 : (x != 0) = false := by simp [hx]
          have HX0 := Lib.hid hx
          clear hx
          go_wp2
          go_ret2
          refine ⟨ret_tsb (putBigv_ok ha hb hc hd ?_) ?_ rfl, HBw.out⟩
          · rw [← HJ.out, ← HX.out]; exact HX0.out
          · rw [← HJ.out]
        · have hx2 : (x != 0) = true := by simp [hx]
          go_wp2
          go_ret2
          exact ⟨ret_tsb (putBigv_more (by rw [← HJ.out, ← HX.out]; exact hx)) rfl rfl, HBw.out⟩
      · obtain ⟨q, rfl⟩ : ∃ q, p = q + 1 := ⟨p - 1, by omega⟩
        have hlen : W = (bigRow n (q + 1) j).length := by rw [bigRow_len]; have := HJP.out; omega
        have hO2 : wr.ownsRow w.heap.size 5 1 (.slice (some ⟨w.heap.size, 0, none⟩) W W) W (byteVals (bigRow n (q + 1) j)) := by
          have := HOw.out
          unfold OwnB at this
          rw [← hlen] at this
          exact this
        have hcell : ∃ v, wr.cell? ⟨w.heap.size, q + 1, none⟩ = some v := by
          rw [World.ownsRow.cellAt hO2 (q + 1) (by omega)]
          exact ⟨_, List.getElem?_eq_getElem (by rw [byteVals_length, ← hlen]; exact hpW)⟩
        obtain ⟨cw, hcw⟩ := hcell
        have hfw := World.ownsRow.frozenAt hO2 (q + 1)
        have hst := (World.ownsRow.stored hO2 (q + 1) (.int .u8 (x % 256))).1
        have hO3 : OwnB (wr.setCell ⟨w.heap.size, q + 1, none⟩ (.int .u8 (x % 256))) w.heap.size (.slice (some ⟨w.heap.size, 0, none⟩) W W) (bigRow n q (j + 1)) := by
          have e : (byteVals (bigRow n (q + 1) j)).set (q + 1) (.int .u8 (x % 256)) = byteVals (bigRow n q (j + 1)) := by
            rw [← bigRow_step, ← byteVals_set, byte_of, ← HX.out]
          rw [e] at hst
          have e2 : W = (bigRow n q (j + 1)).length := by rw [bigRow_len]; have := HJP.out; omega
          unfold OwnB
          rw [← e2]
          exact hst
        have hB3 : Below w.heap.size w (wr.setCell ⟨w.heap.size, q + 1, none⟩ (.int .u8 (x % 256))) := HBw.out.setCell (Nat.le_refl _) _
        have HO3 := Lib.hid hO3
        have HB3 := Lib.hid hB3
        have HX' := Lib.hid (show x / 256 = (bigSt n (j + 1)).1 by rw [HX.out]; rfl)
        clear hO3 hB3 hst hO2 hlen
        go_wp2
        go_roundw
        case rel => exact ⟨j + 1, q, x / 256, by have := HJP.out; omega, by go_num, by omega, by omega, rfl, HX', HO3.out, HB3.out⟩
        case measure => simp [intOf]
  · by_cases a1 : n < 0
    · go_enter Tryz.func127, Tryz.ntmps127
      go_wp2
      go_ret2
      exact ⟨ret_tsb (putBigv_no (by omega)) rfl rfl, Below.refl _ _⟩
    · by_cases a2 : 9007199254740991 < n
      · go_enter Tryz.func127, Tryz.ntmps127
        go_wp2
        go_ret2
        exact ⟨ret_tsb (putBigv_no (by omega)) rfl rfl, Below.refl _ _⟩
      · by_cases a3 : width < 2
        · go_enter Tryz.func127, Tryz.ntmps127
          go_wp2
          go_ret2
          exact ⟨ret_tsb (putBigv_no (by omega)) rfl rfl, Below.refl _ _⟩
        · have a4 : 20 < width := by omega
          clear h0
          go_enter Tryz.func127, Tryz.ntmps127
          go_wp2
          go_ret2
          exact ⟨ret_tsb (putBigv_no (by omega)) rfl rfl, Below.refl _ _⟩

end Go.Proofs.YtancidbbkoeokaaGreatDoor

/- A number in a header's field: octal digits and a NUL, or, where it has no place so, in binary; a header's texts with such numbers: plain lists only. -/
namespace Go.Proofs.YtancidbbkoeokaaGreatDoor
open Go.ChangeShapes Go.WideShapes Go.ChangeAt Go.RowKit

def numz (n : Int) (x : Nat) : ByteArray := if (putOctv n ((x : Int) - 1)).2 = true then octz n x else (putBigv n x).1
theorem putOct_true {n width : Int} (h : (putOctv n width).2 = true) : (putOctv n width).1.size = width.toNat ∧ n.toNat < 8 ^ width.toNat := by
  unfold putOctv at h ⊢
  split
  · rename_i hv
    have hl : ((numeral 8 n.toNat).length : Int) ≤ width := hv.2
    refine ⟨by rw [ba_size, ahead_len]; omega, ?_⟩
    exact numeral_lt (by omega) width.toNat n.toNat (by omega)
  · rename_i hv
    rw [if_neg hv] at h
    cases h
theorem bigSt_7 {n : Int} (h0 : 0 ≤ n) (h1 : n ≤ 9007199254740991) {j : Nat} (hj : 7 ≤ j) : (bigSt n j).1 = 0 := by
  obtain ⟨d, rfl⟩ : ∃ d, j = 7 + d := ⟨j - 7, by omega⟩
  induction d with
  | zero => simp only [bigSt]; omega
  | succ d ih =>
    have := ih (by omega)
    show (bigSt n (7 + d)).1 / 256 = 0
    rw [this]; rfl
theorem putBig_fits {n : Int} {x : Nat} (h0 : 0 ≤ n) (h1 : n ≤ 9007199254740991) (hx : 8 ≤ x) (hx2 : x ≤ 20) : (putBigv n x).2 = true ∧ (putBigv n x).1.size = x := by
  have e := putBigv_ok (width := (x : Int)) h0 h1 (by omega) (by omega) (bigSt_7 h0 h1 (j := ((x : Int)).toNat - 1) (by omega))
  rw [e]
  refine ⟨rfl, ?_⟩
  rw [ba_size, List.length_cons, bigSt_len]
  omega
theorem numz_size {n : Int} {x : Nat} (h0 : 0 ≤ n) (h1 : n ≤ 9007199254740991) (hx : 8 ≤ x) (hx2 : x ≤ 20) : (numz n x).size = x := by
  unfold numz
  split
  · rename_i h
    obtain ⟨h2, _⟩ := putOct_true h
    rw [octz, ByteArray.size_append, h2]
    have : (⟨#[0]⟩ : ByteArray).size = 1 := rfl
    omega
  · exact (putBig_fits h0 h1 hx hx2).2
theorem numz_oct {n : Int} {x : Nat} (h0 : 0 ≤ n) (hx : 2 ≤ x) (hx2 : x ≤ 18) (h : n.toNat < 8 ^ (x - 1)) : numz n x = octz n x := by
  obtain ⟨h1, _, _⟩ := oct_fits h0 (show 1 ≤ x - 1 by omega) (by omega) h
  rw [numz, if_pos]
  rw [show (x : Int) - 1 = ((x - 1 : Nat) : Int) from by omega]
  exact h1
theorem numz_big {n : Int} {x : Nat} (hx : 1 ≤ x) (h : 8 ^ (x - 1) ≤ n.toNat) : numz n x = (putBigv n x).1 := by
  rw [numz, if_neg]
  intro hf
  have := (putOct_true hf).2
  rw [show ((x : Int) - 1).toNat = x - 1 from by omega] at this
  omega

/-- A header's texts with such numbers: its name, prefix, flag and magic are told beside the entry. -/
def hdA (e : Ent) (name : ByteArray) (size : Int) : ByteArray := fillv name 100 ++ numz e.mode 8 ++ numz e.uid 8 ++ numz e.gid 8 ++ numz size 12 ++ numz e.time 12
def hdv (e : Ent) (name pf flag : ByteArray) (size : Int) (magic : ByteArray) : ByteArray :=
  hdA e name size ++ (putOctv (sumv (hdA e name size).data.toList + 256 + sumv (headB e pf flag magic).data.toList) 6).1 ++ ⟨#[0, 32]⟩ ++ headB e pf flag magic
theorem hdv_head {e : Ent} {name pf flag magic : ByteArray} {size : Int} (hm : 0 ≤ e.mode ∧ e.mode ≤ 4095) (hu : 0 ≤ e.uid ∧ e.uid ≤ 2097151) (hg : 0 ≤ e.gid ∧ e.gid ≤ 2097151) (ht : 0 ≤ e.time ∧ e.time ≤ 8589934591) (hs : 0 ≤ size ∧ size ≤ 3000) :
    hdv e name pf flag size magic = headv e name pf flag size magic := by
  have p7 : (8 : Nat) ^ (8 - 1) = 2097152 := by decide
  have p11 : (8 : Nat) ^ (12 - 1) = 8589934592 := by decide
  have eA : hdA e name size = headA e name size := by
    rw [hdA, headA, numz_oct hm.1 (by omega) (by omega) (by omega), numz_oct hu.1 (by omega) (by omega) (by omega), numz_oct hg.1 (by omega) (by omega) (by omega), numz_oct hs.1 (by omega) (by omega) (by omega), numz_oct ht.1 (by omega) (by omega) (by omega)]
    rfl
  rw [hdv, headv, eA]
theorem fill_exact {s : ByteArray} {n : Nat} (h : s.size ≤ n) (hn : n ≤ 1024) : (fillv s n).size = n := by
  have := congrArg List.length (fill_short h hn)
  simp [nuls] at this
  omega
theorem octz_exact {n : Int} {x : Nat} (h0 : 0 ≤ n) (hx : 2 ≤ x) (hx2 : x ≤ 18) (h : n.toNat < 8 ^ (x - 1)) : (octz n x).size = x := by
  obtain ⟨_, hz, _⟩ := oct_fits h0 (show 1 ≤ x - 1 by omega) (by omega) h
  rw [octz, ByteArray.size_append, show (x : Int) - 1 = ((x - 1 : Nat) : Int) from by omega, hz]
  have : (⟨#[0]⟩ : ByteArray).size = 1 := rfl
  omega
theorem hdA_size {e : Ent} {name : ByteArray} {size : Int} (zn : name.size ≤ 100) (nm : 0 ≤ e.mode ∧ e.mode ≤ 9007199254740991) (nu : 0 ≤ e.uid ∧ e.uid ≤ 9007199254740991) (ng : 0 ≤ e.gid ∧ e.gid ≤ 9007199254740991) (nt : 0 ≤ e.time ∧ e.time ≤ 9007199254740991) (ns : 0 ≤ size ∧ size ≤ 9007199254740991) : (hdA e name size).size = 148 := by
  have a1 := fill_exact zn (by omega)
  have a2 := numz_size (x := 8) nm.1 nm.2 (by omega) (by omega)
  have a3 := numz_size (x := 8) nu.1 nu.2 (by omega) (by omega)
  have a4 := numz_size (x := 8) ng.1 ng.2 (by omega) (by omega)
  have a5 := numz_size (x := 12) ns.1 ns.2 (by omega) (by omega)
  have a6 := numz_size (x := 12) nt.1 nt.2 (by omega) (by omega)
  simp only [Int.cast_ofNat_Int] at a1
  simp only [hdA, ByteArray.size_append]
  omega
theorem headB_size {e : Ent} {pf flag magic : ByteArray} (zl : e.link.size ≤ 100) (zus : e.user.size ≤ 32) (zgr : e.group.size ≤ 32) (zpf : pf.size ≤ 155) (zfl : flag.size = 1) (zmg : magic.size = 8) : (headB e pf flag magic).size = 356 := by
  have b1 := fill_exact zl (by omega)
  have b2 := fill_exact zus (by omega)
  have b3 := fill_exact zgr (by omega)
  have b4 := fill_exact zpf (by omega)
  have b5 := octz_exact (n := 0) (x := 8) (by omega) (by omega) (by omega) (by decide)
  have b6 := nulv_size 12
  simp only [Int.cast_ofNat_Int] at b1 b2 b3 b4 b5
  simp only [headB, ByteArray.size_append]
  omega
theorem hdv_size {e : Ent} {name pf flag magic : ByteArray} {size : Int} (zn : name.size ≤ 100) (nm : 0 ≤ e.mode ∧ e.mode ≤ 9007199254740991) (nu : 0 ≤ e.uid ∧ e.uid ≤ 9007199254740991) (ng : 0 ≤ e.gid ∧ e.gid ≤ 9007199254740991) (nt : 0 ≤ e.time ∧ e.time ≤ 9007199254740991) (ns : 0 ≤ size ∧ size ≤ 9007199254740991)
    (zl : e.link.size ≤ 100) (zus : e.user.size ≤ 32) (zgr : e.group.size ≤ 32) (zpf : pf.size ≤ 155) (zfl : flag.size = 1) (zmg : magic.size = 8) : (hdv e name pf flag size magic).size = 512 := by
  have hA := hdA_size (e := e) zn nm nu ng nt ns
  have hB := headB_size (e := e) zl zus zgr zpf zfl zmg
  have s1 := sumv_bd (hdA e name size).data.toList
  have s2 := sumv_bd (headB e pf flag magic).data.toList
  have l1 : (hdA e name size).data.toList.length = 148 := by simpa using hA
  have l2 : (headB e pf flag magic).data.toList.length = 356 := by simpa using hB
  have p6 : (8 : Nat) ^ 6 = 262144 := by decide
  obtain ⟨_, hz, _⟩ := oct_fits (n := sumv (hdA e name size).data.toList + 256 + sumv (headB e pf flag magic).data.toList) (k := 6) (by omega) (by omega) (by omega) (by omega)
  have hz' : (putOctv (sumv (hdA e name size).data.toList + 256 + sumv (headB e pf flag magic).data.toList) 6).1.size = 6 := hz
  simp only [hdv, ByteArray.size_append, hA, hB, hz']
  rfl
end Go.Proofs.YtancidbbkoeokaaGreatDoor

/- impl.block's methods put and putNumber by fields; impl.sumText; spec.l04Oct. -/
namespace Go.Proofs.YtancidbbkoeokaaGreatDoor
open Go.ChangeShapes Go.WideShapes Go.ChangeAt Go.RowKit

theorem l04Oct_spec (n width : Int) (w : World) (h1 : 1 ≤ width) (h2 : width ≤ 20) :
    Calls Tryz.prog 90 #[.int .i64 n, .int .i64 width] w fun e w' => e = .returned (.string (octz n width)) ∧ w = w' := by
  have H1 := Lib.hid (fun w => putOct_spec n (width - 1) w)
  have HE : Hid (octz n width = (putOctv n (width - 1)).1 ++ ⟨#[0]⟩) := Lib.hid rfl
  have hz := putOct_size n (width - 1)
  generalize octz n width = r at HE
  generalize putOctv n (width - 1) = pr at *
  obtain ⟨a, b⟩ := pr
  simp only at hz HE H1
  go_enter Tryz.func90, Tryz.ntmps90
  go_wp2_with fail
  refine (H1.out _).mono ?_
  rintro e w1 ⟨rfl, rfl⟩
  go_wp2
  go_ret
  exact ⟨ret_str HE.out.symm, rfl⟩
/-- A header in memory, by its fields. -/
def BlkF (w : World) (g : Nat) (F : List (List UInt8)) : Prop := WF F ∧ Blk w g (flat F)
theorem BlkF.below {w w' : World} {g B : Nat} {F : List (List UInt8)} (h : BlkF w g F) (hb : Below B w w') (hg : g < B) : BlkF w' g F := ⟨h.1, h.2.below hb hg⟩
theorem put_f (g k x : Nat) (F : List (List UInt8)) (s : ByteArray) (f : List UInt8) (w : World) (hk : k < 15) (hx : widths[k]? = some x) (hf : F[k]? = some f) (hs : s.size ≤ x) (hF : FW w) (hB : BlkF w g F) :
    Calls Tryz.prog 105 #[.pointer (some ⟨g, 0, none⟩), .int .i64 k, .string s] w fun e w' => e = .returned (.tuple #[]) ∧ BlkF w' g (F.set k (s.data.toList ++ f.drop s.size)) ∧ w'.heap.size = w.heap.size ∧ w.grownBy w' (some g) := by
  obtain ⟨f', hf', hl, ho⟩ := flat_at hB.1 hk hx
  obtain rfl : f' = f := by rw [hf'] at hf; exact Option.some.inj hf
  have hz : s.data.toList.length = s.size := by simp
  refine (put_anyG g k x (flat F) s w hk hx hs hF hB.2).mono ?_
  rintro e w' ⟨rfl, h1, h2, h3⟩
  rw [ho _ (by omega), hz] at h1
  exact ⟨rfl, ⟨hB.1.set hk hx (by simp; omega), h1⟩, h2, h3⟩
theorem putNum_z (g k x : Nat) (F : List (List UInt8)) (n : Int) (w : World) (hk : k < 15) (hx : widths[k]? = some x) (hx2 : 8 ≤ x) (hx3 : x ≤ 18) (hn : 0 ≤ n ∧ n ≤ 9007199254740991) (hf : F[k]? = some (nuls x)) (hT : Tabs w) (hF : FW w) (hB : BlkF w g F) :
    Calls Tryz.prog 106 #[.pointer (some ⟨g, 0, none⟩), .int .i64 k, .int .i64 n] w fun e w' => e = .returned (.tuple #[]) ∧ BlkF w' g (F.set k (numz n x).data.toList) ∧ w.heap.size ≤ w'.heap.size ∧ w.grownBy w' (some g) := by
  have hc := hF k x hx
  have H1 := Lib.hid (fun w h => putOct_impl n ((x : Int) - 1) w h)
  have H3 := Lib.hid (fun w => putBig_impl n x w)
  have hzz := numz_size hn.1 hn.2 hx2 (by omega)
  have HT := Lib.hid hT
  have HF := Lib.hid hF
  have HB := Lib.hid hB
  have hg : g < w.heap.size := hB.2.lt
  have hxx : (x : Int) ≤ 18 := by omega
  have hx8 : 8 ≤ (x : Int) := by omega
  have hkk : (k : Int) < 15 := by omega
  cases ho : (putOctv n ((x : Int) - 1)).2 with
  | true =>
    have hz : (putOctv n ((x : Int) - 1)).1.size = x - 1 := by
      have := (putOct_true ho).1
      omega
    have HO : Hid ((numz n x).data.toList = (putOctv n ((x : Int) - 1)).1.data.toList ++ (nuls x).drop (putOctv n ((x : Int) - 1)).1.size) := Lib.hid (by
      rw [hz, numz, if_pos ho, octz, ByteArray.data_append, Array.toList_append]
      congr 1
      simp only [nuls, List.drop_replicate, show x - (x - 1) = 1 from by omega]
      rfl)
    generalize numz n x = r at HO
    have H2 := Lib.hid (fun w hF hB => put_f g k x F (putOctv n ((x : Int) - 1)).1 (nuls x) w hk hx hf (by omega) hF hB)
    rw [← HO.out] at H2
    generalize putOctv n ((x : Int) - 1) = pr at *
    obtain ⟨a, b⟩ := pr
    simp only at H1 H2 hz ho
    subst ho
    clear hT hF hB hf hx HO H3 hzz
    go_enter Tryz.func106, Tryz.ntmps106
    go_wp2_with fail
    refine (H1.out _ HT.out).mono ?_
    rintro e w1 ⟨rfl, hb1⟩
    have F1 := Lib.hid (HF.out.below hb1)
    have B1 := Lib.hid (HB.out.below hb1 hg)
    have L1 := Lib.hid hb1
    clear hb1
    go_wp2_with fail
    refine (H2.out _ F1.out B1.out).mono ?_
    rintro e w2 ⟨rfl, hk2, hz2, hb2⟩
    have s1 := L1.out.size
    go_wp2
    refine bodyPost_end (results_none rfl _ _ _) rfl ?_
    exact ⟨rfl, hk2, by omega, grown_after (grown_of_below L1.out) hb2⟩
  | false =>
    have HO : Hid ((numz n x).data.toList = (putBigv n x).1.data.toList ++ (nuls x).drop (putBigv n x).1.size) := Lib.hid (by
      rw [(putBig_fits hn.1 hn.2 hx2 (by omega)).2, numz, if_neg (by rw [ho]; decide)]
      simp [nuls])
    have hz : (putBigv n x).1.size = x := (putBig_fits hn.1 hn.2 hx2 (by omega)).2
    generalize numz n x = r at HO
    have H2 := Lib.hid (fun w hF hB => put_f g k x F (putBigv n x).1 (nuls x) w hk hx hf (by omega) hF hB)
    rw [← HO.out] at H2
    generalize putOctv n ((x : Int) - 1) = pr at *
    obtain ⟨a, b⟩ := pr
    simp only at H1 ho
    subst ho
    generalize putBigv n x = pb at *
    obtain ⟨c, d⟩ := pb
    simp only at H2 H3 hz
    clear hT hF hB hf hx HO hzz
    go_enter Tryz.func106, Tryz.ntmps106
    go_wp2_with fail
    refine (H1.out _ HT.out).mono ?_
    rintro e w1 ⟨rfl, hb1⟩
    have F1 := Lib.hid (HF.out.below hb1)
    have B1 := Lib.hid (HB.out.below hb1 hg)
    have L1 := Lib.hid hb1
    clear hb1
    go_wp2_with fail
    refine (H3.out _).mono ?_
    rintro e w2 ⟨rfl, hb2⟩
    have F2 := Lib.hid (F1.out.below hb2)
    have B2 := Lib.hid (B1.out.below hb2 B1.out.2.lt)
    have L2 := Lib.hid (btE L1.out hb2)
    clear hb2
    go_wp2_with fail
    refine (H2.out _ F2.out B2.out).mono ?_
    rintro e w3 ⟨rfl, hk2, hz2, hb2⟩
    have s1 := L2.out.size
    go_wp2
    refine bodyPost_end (results_none rfl _ _ _) rfl ?_
    exact ⟨rfl, hk2, by omega, grown_after (grown_of_below L2.out) hb2⟩
theorem sumText_any (s : ByteArray) (w : World) (hs : s.size ≤ 1048576) (hT : Tabs w) (hF : FW w) :
    Calls Tryz.prog 73 #[.string s] w fun e w' => e = .returned (.string ((putOctv (headSumv s) 6).1 ++ ⟨#[0, 32]⟩)) ∧ Below w.heap.size w w' := by
  have H1 := Lib.hid (fun w h => headSum_impl s w hs h)
  have H2 := Lib.hid (fun w h => putOct_impl (headSumv s) 6 w h)
  have hz := putOct_size (headSumv s) 6
  generalize headSumv s = r at *
  generalize putOctv r 6 = pr at *
  obtain ⟨a, b⟩ := pr
  simp only at H2 hz
  have HT := Lib.hid hT
  have HF := Lib.hid hF
  clear hT hF
  go_enter Tryz.func73, Tryz.ntmps73
  go_wp2_with fail
  refine (H1.out _ HF.out).mono ?_
  rintro e w1 ⟨rfl, hb1⟩
  have T1 := Lib.hid (HT.out.below hb1)
  go_wp2_with fail
  refine (H2.out _ T1.out).mono ?_
  rintro e w2 ⟨rfl, hb2⟩
  go_wp2
  go_ret
  exact ⟨rfl, hb1.trans (hb2.mono hb1.size)⟩
end Go.Proofs.YtancidbbkoeokaaGreatDoor

/- An entry in a block of its own that may be written. -/
namespace Go.Proofs.YtancidbbkoeokaaGreatDoor
open Go.ChangeShapes Go.WideShapes Go.ChangeAt Go.RowKit Go.Deep

def EntO (w : World) (g : Nat) (e : Ent) : Prop := w.heap[g]? = some (.cells e.cells.toArray 32 (0, 0))
theorem EntO.new (w : World) (e : Ent) : EntO (w.alloc (.cells e.cells.toArray 32)) w.heap.size e := by
  show (w.heap.push _)[w.heap.size]? = _
  simp
theorem EntO.below {w w' : World} {g B : Nat} {e : Ent} (h : EntO w g e) (hb : Below B w w') (hg : g < B) : EntO w' g e := (hb.block g hg).trans h
theorem EntO.lt {w : World} {g : Nat} {e : Ent} (h : EntO w g e) : g < w.heap.size := (Array.getElem?_eq_some_iff.1 h).1
theorem EntO.at {w : World} {g : Nat} {e : Ent} (h : EntO w g e) : EntAt w g 0 e := fun i hi => by
  unfold EntO at h
  simp [World.cell?, h]
theorem EntO.fz {w : World} {g : Nat} {e : Ent} (h : EntO w g e) (i : Nat) : w.frozen? ⟨g, i, none⟩ = false := by
  unfold EntO at h
  simp [World.frozen?, h]
theorem EntO.grown {w w' : World} {g : Nat} {row : Option Nat} {e : Ent} (h : EntO w g e) (hb : w.grownBy w' row) (hg : some g ≠ row) : EntO w' g e := (hb.block g h.lt hg).trans h
theorem EntO.set {w : World} {g : Nat} {e e' : Ent} (h : EntO w g e) (i : Nat) (v : Value) (he : e.cells.toArray.setIfInBounds i v = e'.cells.toArray) : EntO (w.setCell ⟨g, i, none⟩ v) g e' := by
  have hlt := h.lt
  unfold EntO at h ⊢
  have hg : w.heap[g] = .cells e.cells.toArray 32 (0, 0) := (Array.getElem?_eq_some_iff.1 h).2
  simp [World.setCell, hlt, Array.getElem_modify, hg, he]
theorem EntO.other {w : World} {g b i : Nat} {e : Ent} {v : Value} (h : EntO w g e) (hne : g ≠ b) : EntO (w.setCell ⟨b, i, none⟩ v) g e := by
  unfold EntO
  rw [Below.heap_setCell _ _ _ g (fun e => hne e)]
  exact h
/-- A whole entry stored. -/
def putE (w : World) (g : Nat) (y : Ent) : World := ((((((((((w.setCell ⟨g, 0, none⟩ (.int .i64 y.kind)).setCell ⟨g, 1, none⟩ (.string y.path)).setCell ⟨g, 2, none⟩ (.string y.link)).setCell ⟨g, 3, none⟩ (.int .i64 y.mode)).setCell ⟨g, 4, none⟩ (.int .i64 y.uid)).setCell ⟨g, 5, none⟩ (.int .i64 y.gid)).setCell ⟨g, 6, none⟩ (.int .i64 y.time)).setCell ⟨g, 7, none⟩ (.string y.user)).setCell ⟨g, 8, none⟩ (.string y.group)).setCell ⟨g, 9, none⟩ (.string y.body))
theorem EntO.put {w : World} {g : Nat} {x : Ent} (h : EntO w g x) (y : Ent) : EntO (putE w g y) g y := (EntO.set (e' := ⟨y.kind, y.path, y.link, y.mode, y.uid, y.gid, y.time, y.user, y.group, y.body⟩) (EntO.set (e' := ⟨y.kind, y.path, y.link, y.mode, y.uid, y.gid, y.time, y.user, y.group, x.body⟩) (EntO.set (e' := ⟨y.kind, y.path, y.link, y.mode, y.uid, y.gid, y.time, y.user, x.group, x.body⟩) (EntO.set (e' := ⟨y.kind, y.path, y.link, y.mode, y.uid, y.gid, y.time, x.user, x.group, x.body⟩) (EntO.set (e' := ⟨y.kind, y.path, y.link, y.mode, y.uid, y.gid, x.time, x.user, x.group, x.body⟩) (EntO.set (e' := ⟨y.kind, y.path, y.link, y.mode, y.uid, x.gid, x.time, x.user, x.group, x.body⟩) (EntO.set (e' := ⟨y.kind, y.path, y.link, y.mode, x.uid, x.gid, x.time, x.user, x.group, x.body⟩) (EntO.set (e' := ⟨y.kind, y.path, y.link, x.mode, x.uid, x.gid, x.time, x.user, x.group, x.body⟩) (EntO.set (e' := ⟨y.kind, y.path, x.link, x.mode, x.uid, x.gid, x.time, x.user, x.group, x.body⟩) (EntO.set (e' := ⟨y.kind, x.path, x.link, x.mode, x.uid, x.gid, x.time, x.user, x.group, x.body⟩) h 0 (.int .i64 y.kind) rfl) 1 (.string y.path) rfl) 2 (.string y.link) rfl) 3 (.int .i64 y.mode) rfl) 4 (.int .i64 y.uid) rfl) 5 (.int .i64 y.gid) rfl) 6 (.int .i64 y.time) rfl) 7 (.string y.user) rfl) 8 (.string y.group) rfl) 9 (.string y.body) rfl)
theorem below_putE {w w' : World} {B g : Nat} (h : Below B w w') (hg : B ≤ g) (y : Ent) : Below B w (putE w' g y) := ((((((((((h.setCell (p := ⟨g, 0, none⟩) hg _).setCell (p := ⟨g, 1, none⟩) hg _).setCell (p := ⟨g, 2, none⟩) hg _).setCell (p := ⟨g, 3, none⟩) hg _).setCell (p := ⟨g, 4, none⟩) hg _).setCell (p := ⟨g, 5, none⟩) hg _).setCell (p := ⟨g, 6, none⟩) hg _).setCell (p := ⟨g, 7, none⟩) hg _).setCell (p := ⟨g, 8, none⟩) hg _).setCell (p := ⟨g, 9, none⟩) hg _)
theorem putE_other {w : World} {b g : Nat} {y : Ent} (hne : b ≠ g) : (putE w g y).heap[b]? = w.heap[b]? := by
  unfold putE
  repeat rw [Below.heap_setCell _ _ _ b (fun e => hne e)]
theorem grown_reflO (w : World) (row : Option Nat) : w.grownBy w row := ⟨rfl, rfl, rfl, Nat.le_refl _, fun _ _ _ => rfl⟩
theorem grown_setO {w w' : World} {g : Nat} (h : w.grownBy w' (some g)) (o : Nat) (v : Value) : w.grownBy (w'.setCell ⟨g, o, none⟩ v) (some g) :=
  ⟨h.os, h.tape, h.output, by simpa using h.size, fun k hk hne => (Below.heap_setCell w' _ v k (fun e => hne (by rw [e]))).trans (h.block k hk hne)⟩
theorem grown_putE (w : World) (g : Nat) (y : Ent) : w.grownBy (putE w g y) (some g) := (grown_setO (grown_setO (grown_setO (grown_setO (grown_setO (grown_setO (grown_setO (grown_setO (grown_setO (grown_setO (grown_reflO w (some g)) 0 _) 1 _) 2 _) 3 _) 4 _) 5 _) 6 _) 7 _) 8 _) 9 _)
theorem Tryz.sizeEntO : (Tryz.prog.info? 32).map (·.size) = some 10 := by kernel_rfl
theorem res_ent2 {fn : Func} {p u : Tmp} (h : fn.results = #[.cell p 32, .tmp u]) (tmps : Array Value) {w : World} {g : Nat} {e : Ent}
    (hp : tmps.getD p undef = .pointer (some ⟨g, 0, none⟩)) (hg : EntO w g e) :
    (results fn tmps).run Tryz.prog w = .ok (.tuple #[.agg e.cells.toArray, tmps.getD u undef]) w := by
  rw [results_cell_tmp h, hp]
  simp [asAddr, run_loadVar_row w g 32 32 e.cells.toArray (0, 0) _ hg Tryz.underlying32 rfl (by rw [Tryz.sizeEntO]; rfl), Result.andThen]
theorem res_ent1 {fn : Func} {p : Tmp} (h : fn.results = #[.cell p 32]) (tmps : Array Value) {w : World} {g : Nat} {e : Ent}
    (hp : tmps.getD p undef = .pointer (some ⟨g, 0, none⟩)) (hg : EntO w g e) :
    (results fn tmps).run Tryz.prog w = .ok (.agg e.cells.toArray) w :=
  results_cell_row h _ _ g _ e.cells.toArray (0, 0) _ hp hg Tryz.underlying32 rfl (by rw [Tryz.sizeEntO]; rfl)
end Go.Proofs.YtancidbbkoeokaaGreatDoor

/- What a header says (an entry, a flag and a size) in a block of its own. -/
namespace Go.Proofs.YtancidbbkoeokaaGreatDoor
open Go.ChangeShapes Go.WideShapes Go.ChangeAt Go.RowKit Go.Deep

def hdCells (e : Ent) (fl : ByteArray) (sz : Int) : List Value := [.int .i64 e.kind, .string e.path, .string e.link, .int .i64 e.mode, .int .i64 e.uid, .int .i64 e.gid, .int .i64 e.time, .string e.user, .string e.group, .string e.body, .string fl, .int .i64 sz]
def HdO (w : World) (g : Nat) (e : Ent) (fl : ByteArray) (sz : Int) : Prop := w.heap[g]? = some (.cells (hdCells e fl sz).toArray 40 (0, 0))
theorem HdO.new (w : World) (e : Ent) (fl : ByteArray) (sz : Int) : HdO (w.alloc (.cells (hdCells e fl sz).toArray 40)) w.heap.size e fl sz := by
  show (w.heap.push _)[w.heap.size]? = _
  simp
theorem HdO.below {w w' : World} {g B : Nat} {e : Ent} {fl : ByteArray} {sz : Int} (h : HdO w g e fl sz) (hb : Below B w w') (hg : g < B) : HdO w' g e fl sz := (hb.block g hg).trans h
theorem HdO.lt {w : World} {g : Nat} {e : Ent} {fl : ByteArray} {sz : Int} (h : HdO w g e fl sz) : g < w.heap.size := (Array.getElem?_eq_some_iff.1 h).1
theorem HdO.grown {w w' : World} {g : Nat} {row : Option Nat} {e : Ent} {fl : ByteArray} {sz : Int} (h : HdO w g e fl sz) (hb : w.grownBy w' row) (hg : some g ≠ row) : HdO w' g e fl sz := (hb.block g h.lt hg).trans h
theorem HdO.fz {w : World} {g : Nat} {e : Ent} {fl : ByteArray} {sz : Int} (h : HdO w g e fl sz) (i : Nat) : w.frozen? ⟨g, i, none⟩ = false := by
  unfold HdO at h
  simp [World.frozen?, h]
theorem HdO.at {w : World} {g : Nat} {e : Ent} {fl : ByteArray} {sz : Int} (h : HdO w g e fl sz) : EntAt w g 0 e := fun i hi => by
  unfold HdO at h
  have : i = 0 ∨ i = 1 ∨ i = 2 ∨ i = 3 ∨ i = 4 ∨ i = 5 ∨ i = 6 ∨ i = 7 ∨ i = 8 ∨ i = 9 := by omega
  rcases this with rfl | rfl | rfl | rfl | rfl | rfl | rfl | rfl | rfl | rfl <;> simp [World.cell?, h, hdCells, Ent.cells]
theorem HdO.two {w : World} {g : Nat} {e : Ent} {fl : ByteArray} {sz : Int} (h : HdO w g e fl sz) : w.cell? ⟨g, 10, none⟩ = some (.string fl) ∧ w.cell? ⟨g, 11, none⟩ = some (.int .i64 sz) := by
  unfold HdO at h
  constructor <;> simp [World.cell?, h, hdCells]
theorem HdO.ent {w : World} {g : Nat} {e : Ent} {fl : ByteArray} {sz : Int} (h : HdO w g e fl sz) : (loadVar 32 ⟨g, 0, none⟩).run Tryz.prog w = .ok (.agg e.cells.toArray) w := by
  refine run_loadVar_mid _ _ 0 _ _ _ ?_ Tryz.underlying32 rfl (by rw [Tryz.sizeEntO]; rfl)
  intro j v hv
  have hj : j < 10 := by
    have := (List.getElem?_eq_some_iff.1 hv).1
    simpa [Ent.cells] using this
  rw [Nat.zero_add]
  have := h.at j hj
  rw [Nat.zero_add] at this
  rw [this, hv]
theorem Tryz.sizeHdO : (Tryz.prog.info? 40).map (·.size) = some 12 := by kernel_rfl
theorem HdO.all {w : World} {g : Nat} {e : Ent} {fl : ByteArray} {sz : Int} (h : HdO w g e fl sz) : (loadVar 40 ⟨g, 0, none⟩).run Tryz.prog w = .ok (.agg (hdCells e fl sz).toArray) w :=
  run_loadVar_row w g 40 40 (hdCells e fl sz).toArray (0, 0) _ h Tryz.underlying40 rfl (by rw [Tryz.sizeHdO]; rfl)
theorem HdO.set {w : World} {g : Nat} {e e' : Ent} {fl fl' : ByteArray} {sz sz' : Int} (h : HdO w g e fl sz) (i : Nat) (v : Value) (he : (hdCells e fl sz).toArray.setIfInBounds i v = (hdCells e' fl' sz').toArray) : HdO (w.setCell ⟨g, i, none⟩ v) g e' fl' sz' := by
  have hlt := h.lt
  unfold HdO at h ⊢
  have hg : w.heap[g] = .cells (hdCells e fl sz).toArray 40 (0, 0) := (Array.getElem?_eq_some_iff.1 h).2
  simp [World.setCell, hlt, Array.getElem_modify, hg, he]
end Go.Proofs.YtancidbbkoeokaaGreatDoor

/- Contract of impl.headText: a header by its texts, whatever its numbers. -/
namespace Go.Proofs.YtancidbbkoeokaaGreatDoor
open Go.ChangeShapes Go.WideShapes Go.ChangeAt Go.RowKit Go.Deep

theorem put_t (g k x : Nat) (F : List (List UInt8)) (s : ByteArray) (w : World) (hk : k < 15) (hx : widths[k]? = some x) (hf : F[k]? = some (nuls x)) (hs : s.size ≤ x) (hF : FW w) (hB : BlkF w g F) :
    Calls Tryz.prog 105 #[.pointer (some ⟨g, 0, none⟩), .int .i64 k, .string s] w fun e w' => e = .returned (.tuple #[]) ∧ BlkF w' g (F.set k (fillv s x).data.toList) ∧ w.heap.size ≤ w'.heap.size ∧ w.grownBy w' (some g) := by
  refine (put_f g k x F s (nuls x) w hk hx hf hs hF hB).mono ?_
  obtain ⟨y, hy, y1, y2, _⟩ := widths_at hk
  obtain rfl : y = x := by rw [hy] at hx; exact Option.some.inj hx
  rw [fill_short hs (by omega)]
  rintro e w' ⟨rfl, h1, h2, h3⟩
  rw [show (nuls y).drop s.size = nuls (y - s.size) from by simp [nuls]] at h1
  exact ⟨rfl, h1, by omega, h3⟩
def F0 : List (List UInt8) := widths.map nuls ++ [nuls 12]
theorem F0_wf : WF F0 := by
  show F0.map List.length = widths ++ [12]
  decide
theorem F0_flat : flat F0 = zeros512 := by decide +kernel
theorem head_sum {X Y : List UInt8} (hX : X.length = 148) (hY : Y.length = 356) : headSumv ⟨(X ++ nuls 8 ++ Y).toArray⟩ = sumv X + 256 + sumv Y := by
  have hl : (X ++ nuls 8 ++ Y).length = 512 := by simp [nuls, hX, hY]
  rw [headSumv, if_neg (by rw [ba_size, hl]; omega)]
  have e1 : ((X ++ nuls 8 ++ Y).take 512) = X ++ nuls 8 ++ Y := List.take_of_length_le (by omega)
  have e2 : (X ++ nuls 8 ++ Y).take 148 = X := by rw [List.append_assoc, ← hX]; simp
  have e3 : (X ++ nuls 8 ++ Y).drop 156 = Y := by
    have : (X ++ nuls 8).length = 156 := by simp [nuls, hX]
    rw [← this]; simp
  show sumv ((X ++ nuls 8 ++ Y).take 148) + 256 + sumv (((X ++ nuls 8 ++ Y).take 512).drop 156) = _
  rw [e1, e2, e3]
/-- The numbers of an entry that fits have their digits. -/
theorem fits_nums {e : Ent} (h : fitsv e = true) : (0 ≤ e.mode ∧ e.mode ≤ 4095) ∧ (0 ≤ e.uid ∧ e.uid ≤ 2097151) ∧ (0 ≤ e.gid ∧ e.gid ≤ 2097151) ∧ (0 ≤ e.time ∧ e.time ≤ 8589934591) ∧ e.link.size ≤ 100 ∧ e.user.size ≤ 32 ∧ e.group.size ≤ 32 ∧ splitOk e.path = true := by
  simp only [fitsv, entOkv, Bool.and_eq_true, decide_eq_true_eq, inB, whov] at h
  exact ⟨by omega, by omega, by omega, by omega, by omega, by omega, by omega, h.1.1.1.1.2⟩
theorem split_sizes {s : ByteArray} (h : splitOk s = true) : (splitN s).size ≤ 100 ∧ (splitP s).size ≤ 155 := by
  simp only [splitOk, Bool.and_eq_true, Bool.or_eq_true, decide_eq_true_eq] at h
  by_cases hs : s.size ≤ 100
  · obtain ⟨_, h2, h3⟩ := split_short h.1 hs
    rw [h2, h3]
    exact ⟨hs, by decide⟩
  · have hl : slashv s ≤ 155 := h.2.resolve_left hs
    obtain ⟨_, h2, h3⟩ := split_long h.1 (by omega) hl
    obtain ⟨_, hge, hlt, _⟩ := slash_there h.1 (by omega)
    rw [h2, h3, ByteArray.size_extract, ByteArray.size_extract]
    omega

set_option maxHeartbeats 6400000 in
set_option maxRecDepth 8000 in
theorem headText_impl (k : Int) (p l : ByteArray) (m u g t : Int) (us gr b fl : ByteArray) (sz : Int) (sp mg : ByteArray) (w : World) (zp : p.size ≤ 100) (zl : l.size ≤ 100) (zus : us.size ≤ 32) (zgr : gr.size ≤ 32) (zfl : fl.size = 1) (zsp : sp.size ≤ 155) (zmg : mg.size = 8) (nm : 0 ≤ m ∧ m ≤ 9007199254740991) (nu : 0 ≤ u ∧ u ≤ 9007199254740991) (ng : 0 ≤ g ∧ g ≤ 9007199254740991) (nt : 0 ≤ t ∧ t ≤ 9007199254740991) (ns : 0 ≤ sz ∧ sz ≤ 9007199254740991) (hT : Tabs w) (hF : FW w) :
    Calls Tryz.prog 80 #[.agg #[.int .i64 k, .string p, .string l, .int .i64 m, .int .i64 u, .int .i64 g, .int .i64 t, .string us, .string gr, .string b, .string fl, .int .i64 sz], .string sp, .string mg] w fun e w' => e = .returned (.string (hdv ⟨k, p, l, m, u, g, t, us, gr, b⟩ p sp fl sz mg)) ∧ Below w.heap.size w w' := by
  have HA : Hid ((hdA ⟨k, p, l, m, u, g, t, us, gr, b⟩ p sz).data.toList = (fillv p 100).data.toList ++ (numz m 8).data.toList ++ (numz u 8).data.toList ++ (numz g 8).data.toList ++ (numz sz 12).data.toList ++ (numz t 12).data.toList) := Lib.hid (by simp [hdA])
  have HB : Hid ((headB ⟨k, p, l, m, u, g, t, us, gr, b⟩ sp fl mg).data.toList = fl.data.toList ++ (fillv l 100).data.toList ++ mg.data.toList ++ (fillv us 32).data.toList ++ (fillv gr 32).data.toList ++ (numz 0 8).data.toList ++ (numz 0 8).data.toList ++ (fillv sp 155).data.toList ++ nuls 12) := Lib.hid (by
    rw [numz_oct (n := 0) (x := 8) (by omega) (by omega) (by omega) (by decide)]
    simp [headB, nulv])
  have HV : Hid (hdv ⟨k, p, l, m, u, g, t, us, gr, b⟩ p sp fl sz mg = hdA ⟨k, p, l, m, u, g, t, us, gr, b⟩ p sz ++ (putOctv (sumv (hdA ⟨k, p, l, m, u, g, t, us, gr, b⟩ p sz).data.toList + 256 + sumv (headB ⟨k, p, l, m, u, g, t, us, gr, b⟩ sp fl mg).data.toList) 6).1 ++ ⟨#[0, 32]⟩ ++ headB ⟨k, p, l, m, u, g, t, us, gr, b⟩ sp fl mg) := Lib.hid rfl
  generalize hdv ⟨k, p, l, m, u, g, t, us, gr, b⟩ p sp fl sz mg = r at HV
  generalize hdA ⟨k, p, l, m, u, g, t, us, gr, b⟩ p sz = hA at HA HV
  generalize headB ⟨k, p, l, m, u, g, t, us, gr, b⟩ sp fl mg = hB at HB HV
  have hz := fun w => zero_blk w
  have HF := Lib.hid hF
  have HT := Lib.hid hT
  have HD0 := Lib.hid (HdO.new w ⟨k, p, l, m, u, g, t, us, gr, b⟩ fl sz)
  have HB0 := Lib.hid ((Below.refl w.heap.size w).alloc (Nat.le_refl _) (.cells (hdCells ⟨k, p, l, m, u, g, t, us, gr, b⟩ fl sz).toArray 40))
  have Hlt0 := HD0.out.lt
  simp only [hdCells] at HD0 HB0 Hlt0
  clear hF hT
  have K0 := Lib.hid (fun w1 => Blk.new w1 (flat F0) (by rw [F0_flat]; exact List.length_replicate))
  rw [F0_flat] at K0
  generalize (Lib.byteCells zeros512).toArray = Z at hz K0
  go_enter Tryz.func80, Tryz.ntmps80
  go_wp2_with fail
  have hs0 : (w.alloc (.cells #[.int .i64 k, .string p, .string l, .int .i64 m, .int .i64 u, .int .i64 g, .int .i64 t, .string us, .string gr, .string b, .string fl, .int .i64 sz] 40)).heap.size = w.heap.size + 1 := by simp
  generalize w.alloc (.cells #[.int .i64 k, .string p, .string l, .int .i64 m, .int .i64 u, .int .i64 g, .int .i64 t, .string us, .string gr, .string b, .string fl, .int .i64 sz] 40) = w1 at *
  have hs1 : w1.heap.size = w.heap.size + 1 := hs0
  clear hs0
  have B := Lib.hid (((HB0.out.alloc (by omega) (.cells Z 105)).alloc (by simp; omega) (.cells (Ent.cells ⟨k, p, l, m, u, g, t, us, gr, b⟩).toArray 32)))
  have E1 := Lib.hid (EntO.new (w1.alloc (.cells Z 105)) ⟨k, p, l, m, u, g, t, us, gr, b⟩)
  have HD := Lib.hid (HD0.out.below ((Below.refl w1.heap.size w1).alloc (Nat.le_refl _) (.cells Z 105)) Hlt0)
  have HD2 := Lib.hid (HD.out.below ((Below.refl (w1.alloc (.cells Z 105)).heap.size (w1.alloc (.cells Z 105))).alloc (Nat.le_refl _) (.cells (Ent.cells ⟨k, p, l, m, u, g, t, us, gr, b⟩).toArray 32)) HD.out.lt)
  have K1 := Lib.hid ((K0.out w1).below ((Below.refl (w1.alloc (.cells Z 105)).heap.size (w1.alloc (.cells Z 105))).alloc (Nat.le_refl _) (.cells (Ent.cells ⟨k, p, l, m, u, g, t, us, gr, b⟩).toArray 32)) (by simp))
  rw [show (w1.alloc (.cells Z 105)).heap.size = w.heap.size + 1 + 1 from by simp [hs1]] at E1
  rw [hs1] at K1
  replace HD := HD2
  clear HD2 HD0 HB0 Hlt0 K0
  simp only [Ent.cells] at B E1 HD K1
  generalize (w1.alloc (.cells Z 105)).alloc (.cells #[.int .i64 k, .string p, .string l, .int .i64 m, .int .i64 u, .int .i64 g, .int .i64 t, .string us, .string gr, .string b] 32) = w2 at *
  have K := Lib.hid (show BlkF w2 (w.heap.size + 1) [nuls 100, nuls 8, nuls 8, nuls 8, nuls 12, nuls 12, nuls 8, nuls 1, nuls 100, nuls 8, nuls 32, nuls 32, nuls 8, nuls 8, nuls 155, nuls 12] from ⟨F0_wf, by show Blk w2 _ (flat F0); rw [F0_flat]; exact K1.out⟩)
  clear K1 hz
  refine (put_t (w.heap.size + 1) 0 100 [nuls 100, nuls 8, nuls 8, nuls 8, nuls 12, nuls 12, nuls 8, nuls 1, nuls 100, nuls 8, nuls 32, nuls 32, nuls 8, nuls 8, nuls 155, nuls 12] p _ (by omega) rfl rfl (by omega) (HF.out.below B.out) K.out).mono ?_
  rintro e w' ⟨rfl, hk, -, hb⟩
  replace B := Lib.hid (B.out.trans (grown_below hb (by omega) K.out.2.lt))
  replace E1 := Lib.hid (E1.out.grown hb (by simp))
  replace HD := Lib.hid (HD.out.grown hb (by simp))
  replace K := Lib.hid (show BlkF w' _ [(fillv p 100).data.toList, nuls 8, nuls 8, nuls 8, nuls 12, nuls 12, nuls 8, nuls 1, nuls 100, nuls 8, nuls 32, nuls 32, nuls 8, nuls 8, nuls 155, nuls 12] from hk)
  clear hk hb
  obtain ⟨_, _, _, c3, _, _, _, _, _, _⟩ := (E1.out.at).zero
  go_wp2_with fail
  refine (putNum_z (w.heap.size + 1) 1 8 [(fillv p 100).data.toList, nuls 8, nuls 8, nuls 8, nuls 12, nuls 12, nuls 8, nuls 1, nuls 100, nuls 8, nuls 32, nuls 32, nuls 8, nuls 8, nuls 155, nuls 12] m _ (by omega) rfl (by omega) (by omega) nm rfl (HT.out.below B.out) (HF.out.below B.out) K.out).mono ?_
  rintro e w' ⟨rfl, hk, -, hb⟩
  replace B := Lib.hid (B.out.trans (grown_below hb (by omega) K.out.2.lt))
  replace E1 := Lib.hid (E1.out.grown hb (by simp))
  replace HD := Lib.hid (HD.out.grown hb (by simp))
  replace K := Lib.hid (show BlkF w' _ [(fillv p 100).data.toList, (numz m 8).data.toList, nuls 8, nuls 8, nuls 12, nuls 12, nuls 8, nuls 1, nuls 100, nuls 8, nuls 32, nuls 32, nuls 8, nuls 8, nuls 155, nuls 12] from hk)
  clear hk hb c3
  obtain ⟨_, _, _, _, c4, _, _, _, _, _⟩ := (E1.out.at).zero
  go_wp2_with fail
  refine (putNum_z (w.heap.size + 1) 2 8 [(fillv p 100).data.toList, (numz m 8).data.toList, nuls 8, nuls 8, nuls 12, nuls 12, nuls 8, nuls 1, nuls 100, nuls 8, nuls 32, nuls 32, nuls 8, nuls 8, nuls 155, nuls 12] u _ (by omega) rfl (by omega) (by omega) nu rfl (HT.out.below B.out) (HF.out.below B.out) K.out).mono ?_
  rintro e w' ⟨rfl, hk, -, hb⟩
  replace B := Lib.hid (B.out.trans (grown_below hb (by omega) K.out.2.lt))
  replace E1 := Lib.hid (E1.out.grown hb (by simp))
  replace HD := Lib.hid (HD.out.grown hb (by simp))
  replace K := Lib.hid (show BlkF w' _ [(fillv p 100).data.toList, (numz m 8).data.toList, (numz u 8).data.toList, nuls 8, nuls 12, nuls 12, nuls 8, nuls 1, nuls 100, nuls 8, nuls 32, nuls 32, nuls 8, nuls 8, nuls 155, nuls 12] from hk)
  clear hk hb c4
  obtain ⟨_, _, _, _, _, c5, _, _, _, _⟩ := (E1.out.at).zero
  go_wp2_with fail
  refine (putNum_z (w.heap.size + 1) 3 8 [(fillv p 100).data.toList, (numz m 8).data.toList, (numz u 8).data.toList, nuls 8, nuls 12, nuls 12, nuls 8, nuls 1, nuls 100, nuls 8, nuls 32, nuls 32, nuls 8, nuls 8, nuls 155, nuls 12] g _ (by omega) rfl (by omega) (by omega) ng rfl (HT.out.below B.out) (HF.out.below B.out) K.out).mono ?_
  rintro e w' ⟨rfl, hk, -, hb⟩
  replace B := Lib.hid (B.out.trans (grown_below hb (by omega) K.out.2.lt))
  replace E1 := Lib.hid (E1.out.grown hb (by simp))
  replace HD := Lib.hid (HD.out.grown hb (by simp))
  replace K := Lib.hid (show BlkF w' _ [(fillv p 100).data.toList, (numz m 8).data.toList, (numz u 8).data.toList, (numz g 8).data.toList, nuls 12, nuls 12, nuls 8, nuls 1, nuls 100, nuls 8, nuls 32, nuls 32, nuls 8, nuls 8, nuls 155, nuls 12] from hk)
  clear hk hb c5
  obtain ⟨_, c11⟩ := HD.out.two
  go_wp2_with fail
  refine (putNum_z (w.heap.size + 1) 4 12 [(fillv p 100).data.toList, (numz m 8).data.toList, (numz u 8).data.toList, (numz g 8).data.toList, nuls 12, nuls 12, nuls 8, nuls 1, nuls 100, nuls 8, nuls 32, nuls 32, nuls 8, nuls 8, nuls 155, nuls 12] sz _ (by omega) rfl (by omega) (by omega) ns rfl (HT.out.below B.out) (HF.out.below B.out) K.out).mono ?_
  rintro e w' ⟨rfl, hk, -, hb⟩
  replace B := Lib.hid (B.out.trans (grown_below hb (by omega) K.out.2.lt))
  replace E1 := Lib.hid (E1.out.grown hb (by simp))
  replace HD := Lib.hid (HD.out.grown hb (by simp))
  replace K := Lib.hid (show BlkF w' _ [(fillv p 100).data.toList, (numz m 8).data.toList, (numz u 8).data.toList, (numz g 8).data.toList, (numz sz 12).data.toList, nuls 12, nuls 8, nuls 1, nuls 100, nuls 8, nuls 32, nuls 32, nuls 8, nuls 8, nuls 155, nuls 12] from hk)
  clear hk hb c11
  obtain ⟨_, _, _, _, _, _, c6, _, _, _⟩ := (E1.out.at).zero
  go_wp2_with fail
  refine (putNum_z (w.heap.size + 1) 5 12 [(fillv p 100).data.toList, (numz m 8).data.toList, (numz u 8).data.toList, (numz g 8).data.toList, (numz sz 12).data.toList, nuls 12, nuls 8, nuls 1, nuls 100, nuls 8, nuls 32, nuls 32, nuls 8, nuls 8, nuls 155, nuls 12] t _ (by omega) rfl (by omega) (by omega) nt rfl (HT.out.below B.out) (HF.out.below B.out) K.out).mono ?_
  rintro e w' ⟨rfl, hk, -, hb⟩
  replace B := Lib.hid (B.out.trans (grown_below hb (by omega) K.out.2.lt))
  replace E1 := Lib.hid (E1.out.grown hb (by simp))
  replace HD := Lib.hid (HD.out.grown hb (by simp))
  replace K := Lib.hid (show BlkF w' _ [(fillv p 100).data.toList, (numz m 8).data.toList, (numz u 8).data.toList, (numz g 8).data.toList, (numz sz 12).data.toList, (numz t 12).data.toList, nuls 8, nuls 1, nuls 100, nuls 8, nuls 32, nuls 32, nuls 8, nuls 8, nuls 155, nuls 12] from hk)
  clear hk hb c6
  obtain ⟨c10, _⟩ := HD.out.two
  go_wp2_with fail
  refine (put_t (w.heap.size + 1) 7 1 [(fillv p 100).data.toList, (numz m 8).data.toList, (numz u 8).data.toList, (numz g 8).data.toList, (numz sz 12).data.toList, (numz t 12).data.toList, nuls 8, nuls 1, nuls 100, nuls 8, nuls 32, nuls 32, nuls 8, nuls 8, nuls 155, nuls 12] fl _ (by omega) rfl rfl (by omega) (HF.out.below B.out) K.out).mono ?_
  rintro e w' ⟨rfl, hk, -, hb⟩
  replace B := Lib.hid (B.out.trans (grown_below hb (by omega) K.out.2.lt))
  replace E1 := Lib.hid (E1.out.grown hb (by simp))
  replace HD := Lib.hid (HD.out.grown hb (by simp))
  replace K := Lib.hid (show BlkF w' _ [(fillv p 100).data.toList, (numz m 8).data.toList, (numz u 8).data.toList, (numz g 8).data.toList, (numz sz 12).data.toList, (numz t 12).data.toList, nuls 8, (fillv fl 1).data.toList, nuls 100, nuls 8, nuls 32, nuls 32, nuls 8, nuls 8, nuls 155, nuls 12] from hk)
  clear hk hb c10
  obtain ⟨_, _, c2, _, _, _, _, _, _, _⟩ := (E1.out.at).zero
  go_wp2_with fail
  refine (put_t (w.heap.size + 1) 8 100 [(fillv p 100).data.toList, (numz m 8).data.toList, (numz u 8).data.toList, (numz g 8).data.toList, (numz sz 12).data.toList, (numz t 12).data.toList, nuls 8, (fillv fl 1).data.toList, nuls 100, nuls 8, nuls 32, nuls 32, nuls 8, nuls 8, nuls 155, nuls 12] l _ (by omega) rfl rfl (by omega) (HF.out.below B.out) K.out).mono ?_
  rintro e w' ⟨rfl, hk, -, hb⟩
  replace B := Lib.hid (B.out.trans (grown_below hb (by omega) K.out.2.lt))
  replace E1 := Lib.hid (E1.out.grown hb (by simp))
  replace HD := Lib.hid (HD.out.grown hb (by simp))
  replace K := Lib.hid (show BlkF w' _ [(fillv p 100).data.toList, (numz m 8).data.toList, (numz u 8).data.toList, (numz g 8).data.toList, (numz sz 12).data.toList, (numz t 12).data.toList, nuls 8, (fillv fl 1).data.toList, (fillv l 100).data.toList, nuls 8, nuls 32, nuls 32, nuls 8, nuls 8, nuls 155, nuls 12] from hk)
  clear hk hb c2
  go_wp2_with fail
  refine (put_t (w.heap.size + 1) 9 8 [(fillv p 100).data.toList, (numz m 8).data.toList, (numz u 8).data.toList, (numz g 8).data.toList, (numz sz 12).data.toList, (numz t 12).data.toList, nuls 8, (fillv fl 1).data.toList, (fillv l 100).data.toList, nuls 8, nuls 32, nuls 32, nuls 8, nuls 8, nuls 155, nuls 12] mg _ (by omega) rfl rfl (by omega) (HF.out.below B.out) K.out).mono ?_
  rintro e w' ⟨rfl, hk, -, hb⟩
  replace B := Lib.hid (B.out.trans (grown_below hb (by omega) K.out.2.lt))
  replace E1 := Lib.hid (E1.out.grown hb (by simp))
  replace HD := Lib.hid (HD.out.grown hb (by simp))
  replace K := Lib.hid (show BlkF w' _ [(fillv p 100).data.toList, (numz m 8).data.toList, (numz u 8).data.toList, (numz g 8).data.toList, (numz sz 12).data.toList, (numz t 12).data.toList, nuls 8, (fillv fl 1).data.toList, (fillv l 100).data.toList, (fillv mg 8).data.toList, nuls 32, nuls 32, nuls 8, nuls 8, nuls 155, nuls 12] from hk)
  clear hk hb
  obtain ⟨_, _, _, _, _, _, _, c7, _, _⟩ := (E1.out.at).zero
  go_wp2_with fail
  refine (put_t (w.heap.size + 1) 10 32 [(fillv p 100).data.toList, (numz m 8).data.toList, (numz u 8).data.toList, (numz g 8).data.toList, (numz sz 12).data.toList, (numz t 12).data.toList, nuls 8, (fillv fl 1).data.toList, (fillv l 100).data.toList, (fillv mg 8).data.toList, nuls 32, nuls 32, nuls 8, nuls 8, nuls 155, nuls 12] us _ (by omega) rfl rfl (by omega) (HF.out.below B.out) K.out).mono ?_
  rintro e w' ⟨rfl, hk, -, hb⟩
  replace B := Lib.hid (B.out.trans (grown_below hb (by omega) K.out.2.lt))
  replace E1 := Lib.hid (E1.out.grown hb (by simp))
  replace HD := Lib.hid (HD.out.grown hb (by simp))
  replace K := Lib.hid (show BlkF w' _ [(fillv p 100).data.toList, (numz m 8).data.toList, (numz u 8).data.toList, (numz g 8).data.toList, (numz sz 12).data.toList, (numz t 12).data.toList, nuls 8, (fillv fl 1).data.toList, (fillv l 100).data.toList, (fillv mg 8).data.toList, (fillv us 32).data.toList, nuls 32, nuls 8, nuls 8, nuls 155, nuls 12] from hk)
  clear hk hb c7
  obtain ⟨_, _, _, _, _, _, _, _, c8, _⟩ := (E1.out.at).zero
  go_wp2_with fail
  refine (put_t (w.heap.size + 1) 11 32 [(fillv p 100).data.toList, (numz m 8).data.toList, (numz u 8).data.toList, (numz g 8).data.toList, (numz sz 12).data.toList, (numz t 12).data.toList, nuls 8, (fillv fl 1).data.toList, (fillv l 100).data.toList, (fillv mg 8).data.toList, (fillv us 32).data.toList, nuls 32, nuls 8, nuls 8, nuls 155, nuls 12] gr _ (by omega) rfl rfl (by omega) (HF.out.below B.out) K.out).mono ?_
  rintro e w' ⟨rfl, hk, -, hb⟩
  replace B := Lib.hid (B.out.trans (grown_below hb (by omega) K.out.2.lt))
  replace E1 := Lib.hid (E1.out.grown hb (by simp))
  replace HD := Lib.hid (HD.out.grown hb (by simp))
  replace K := Lib.hid (show BlkF w' _ [(fillv p 100).data.toList, (numz m 8).data.toList, (numz u 8).data.toList, (numz g 8).data.toList, (numz sz 12).data.toList, (numz t 12).data.toList, nuls 8, (fillv fl 1).data.toList, (fillv l 100).data.toList, (fillv mg 8).data.toList, (fillv us 32).data.toList, (fillv gr 32).data.toList, nuls 8, nuls 8, nuls 155, nuls 12] from hk)
  clear hk hb c8
  go_wp2_with fail
  refine (putNum_z (w.heap.size + 1) 12 8 [(fillv p 100).data.toList, (numz m 8).data.toList, (numz u 8).data.toList, (numz g 8).data.toList, (numz sz 12).data.toList, (numz t 12).data.toList, nuls 8, (fillv fl 1).data.toList, (fillv l 100).data.toList, (fillv mg 8).data.toList, (fillv us 32).data.toList, (fillv gr 32).data.toList, nuls 8, nuls 8, nuls 155, nuls 12] 0 _ (by omega) rfl (by omega) (by omega) (by omega) rfl (HT.out.below B.out) (HF.out.below B.out) K.out).mono ?_
  rintro e w' ⟨rfl, hk, -, hb⟩
  replace B := Lib.hid (B.out.trans (grown_below hb (by omega) K.out.2.lt))
  replace E1 := Lib.hid (E1.out.grown hb (by simp))
  replace HD := Lib.hid (HD.out.grown hb (by simp))
  replace K := Lib.hid (show BlkF w' _ [(fillv p 100).data.toList, (numz m 8).data.toList, (numz u 8).data.toList, (numz g 8).data.toList, (numz sz 12).data.toList, (numz t 12).data.toList, nuls 8, (fillv fl 1).data.toList, (fillv l 100).data.toList, (fillv mg 8).data.toList, (fillv us 32).data.toList, (fillv gr 32).data.toList, (numz 0 8).data.toList, nuls 8, nuls 155, nuls 12] from hk)
  clear hk hb
  go_wp2_with fail
  refine (putNum_z (w.heap.size + 1) 13 8 [(fillv p 100).data.toList, (numz m 8).data.toList, (numz u 8).data.toList, (numz g 8).data.toList, (numz sz 12).data.toList, (numz t 12).data.toList, nuls 8, (fillv fl 1).data.toList, (fillv l 100).data.toList, (fillv mg 8).data.toList, (fillv us 32).data.toList, (fillv gr 32).data.toList, (numz 0 8).data.toList, nuls 8, nuls 155, nuls 12] 0 _ (by omega) rfl (by omega) (by omega) (by omega) rfl (HT.out.below B.out) (HF.out.below B.out) K.out).mono ?_
  rintro e w' ⟨rfl, hk, -, hb⟩
  replace B := Lib.hid (B.out.trans (grown_below hb (by omega) K.out.2.lt))
  replace E1 := Lib.hid (E1.out.grown hb (by simp))
  replace HD := Lib.hid (HD.out.grown hb (by simp))
  replace K := Lib.hid (show BlkF w' _ [(fillv p 100).data.toList, (numz m 8).data.toList, (numz u 8).data.toList, (numz g 8).data.toList, (numz sz 12).data.toList, (numz t 12).data.toList, nuls 8, (fillv fl 1).data.toList, (fillv l 100).data.toList, (fillv mg 8).data.toList, (fillv us 32).data.toList, (fillv gr 32).data.toList, (numz 0 8).data.toList, (numz 0 8).data.toList, nuls 155, nuls 12] from hk)
  clear hk hb
  go_wp2_with fail
  refine (put_t (w.heap.size + 1) 14 155 [(fillv p 100).data.toList, (numz m 8).data.toList, (numz u 8).data.toList, (numz g 8).data.toList, (numz sz 12).data.toList, (numz t 12).data.toList, nuls 8, (fillv fl 1).data.toList, (fillv l 100).data.toList, (fillv mg 8).data.toList, (fillv us 32).data.toList, (fillv gr 32).data.toList, (numz 0 8).data.toList, (numz 0 8).data.toList, nuls 155, nuls 12] sp _ (by omega) rfl rfl (by omega) (HF.out.below B.out) K.out).mono ?_
  rintro e w' ⟨rfl, hk, -, hb⟩
  replace B := Lib.hid (B.out.trans (grown_below hb (by omega) K.out.2.lt))
  replace E1 := Lib.hid (E1.out.grown hb (by simp))
  replace HD := Lib.hid (HD.out.grown hb (by simp))
  replace K := Lib.hid (show BlkF w' _ [(fillv p 100).data.toList, (numz m 8).data.toList, (numz u 8).data.toList, (numz g 8).data.toList, (numz sz 12).data.toList, (numz t 12).data.toList, nuls 8, (fillv fl 1).data.toList, (fillv l 100).data.toList, (fillv mg 8).data.toList, (fillv us 32).data.toList, (fillv gr 32).data.toList, (numz 0 8).data.toList, (numz 0 8).data.toList, (fillv sp 155).data.toList, nuls 12] from hk)
  clear hk hb
  have e7 : fillv fl 1 = fl := by rw [fillv, if_pos (.inr (by omega))]
  have e9 : fillv mg 8 = mg := by rw [fillv, if_pos (.inr (by omega))]
  replace K := Lib.hid (show BlkF _ _ [(fillv p 100).data.toList, (numz m 8).data.toList, (numz u 8).data.toList, (numz g 8).data.toList, (numz sz 12).data.toList, (numz t 12).data.toList, nuls 8, fl.data.toList, (fillv l 100).data.toList, mg.data.toList, (fillv us 32).data.toList, (fillv gr 32).data.toList, (numz 0 8).data.toList, (numz 0 8).data.toList, (fillv sp 155).data.toList, nuls 12] by have h := K.out; rw [e7, e9] at h; exact h)
  clear e7 e9
  have hc := K.out.2.conv
  have hKl := K.out.2.1
  obtain ⟨X, hX⟩ : ∃ X, X = flat [(fillv p 100).data.toList, (numz m 8).data.toList, (numz u 8).data.toList, (numz g 8).data.toList, (numz sz 12).data.toList, (numz t 12).data.toList, nuls 8, fl.data.toList, (fillv l 100).data.toList, mg.data.toList, (fillv us 32).data.toList, (fillv gr 32).data.toList, (numz 0 8).data.toList, (numz 0 8).data.toList, (fillv sp 155).data.toList, nuls 12] := ⟨_, rfl⟩
  rw [← hX] at hc hKl
  have HS := Lib.hid (fun w hT hF => sumText_any ⟨X.toArray⟩ w (by rw [ba_size]; omega) hT hF)
  have lens := K.out.1
  simp only [WF, List.map_cons, List.map_nil, widths, List.cons_append, List.nil_append, List.cons.injEq] at lens
  have lA : hA.data.toList.length = 148 := by
    rw [HA.out]
    simp only [List.length_append]
    omega
  have lB : hB.data.toList.length = 356 := by
    rw [HB.out]
    simp only [List.length_append]
    omega
  have HXe : Hid (headSumv ⟨X.toArray⟩ = sumv hA.data.toList + 256 + sumv hB.data.toList) := Lib.hid (by
    rw [← head_sum lA lB, hX, HA.out, HB.out]
    simp [flat])
  rw [HXe.out] at HS
  have bd := headSum_bd ⟨X.toArray⟩
  rw [HXe.out] at bd
  have bA := sumv_bd hA.data.toList
  have bB := sumv_bd hB.data.toList
  have bs : 0 ≤ sumv hA.data.toList + 256 + sumv hB.data.toList := by omega
  generalize sumv hA.data.toList + 256 + sumv hB.data.toList = sm at HS bd bs HV
  obtain ⟨_, zd, _⟩ := oct_fits (n := sm) (k := 6) (by omega) (by omega) (by omega) (by have : (8 : Nat) ^ 6 = 262144 := (by decide); omega)
  have zd' : (putOctv sm 6).1.size = 6 := zd
  have HST : Hid ((fillv ((putOctv sm 6).1 ++ ⟨#[0, 32]⟩) 8) = (putOctv sm 6).1 ++ ⟨#[0, 32]⟩) := Lib.hid (by rw [fillv, if_pos (.inr (by rw [ByteArray.size_append, zd']; decide))])
  have zst : ((putOctv sm 6).1 ++ (⟨#[0, 32]⟩ : ByteArray)).size ≤ 8 := by rw [ByteArray.size_append, zd']; decide
  have HR : Hid (∀ F : List UInt8, F = flat [(fillv p 100).data.toList, (numz m 8).data.toList, (numz u 8).data.toList, (numz g 8).data.toList, (numz sz 12).data.toList, (numz t 12).data.toList, ((putOctv sm 6).1 ++ (⟨#[0, 32]⟩ : ByteArray)).data.toList, fl.data.toList, (fillv l 100).data.toList, mg.data.toList, (fillv us 32).data.toList, (fillv gr 32).data.toList, (numz 0 8).data.toList, (numz 0 8).data.toList, (fillv sp 155).data.toList, nuls 12] → (⟨F.toArray⟩ : ByteArray) = r) := Lib.hid (by
    rintro F rfl
    apply ba_ext
    rw [HV.out]
    simp only [ByteArray.data_append, Array.toList_append, HA.out, HB.out]
    simp [flat])
  generalize (putOctv sm 6).1 ++ (⟨#[0, 32]⟩ : ByteArray) = st at *
  clear HV HA HB HXe hX lens lA lB bA bB bd zd zd' hKl
  go_wp2_with fail
  refine (HS.out _ (HT.out.below B.out) (HF.out.below B.out)).mono ?_
  rintro e w3 ⟨rfl, hb⟩
  have K3 := Lib.hid (K.out.below hb K.out.2.lt)
  have B3 := Lib.hid (B.out.trans (hb.mono B.out.size))
  clear hb hc K B
  go_wp2_with fail
  refine (put_t (w.heap.size + 1) 6 8 _ st _ (by omega) rfl rfl zst (HF.out.below B3.out) K3.out).mono ?_
  rintro e w4 ⟨rfl, hk, -, hb⟩
  have B4 := Lib.hid (B3.out.trans (grown_below hb (by omega) K3.out.2.lt))
  rw [show fillv st ((8 : Nat) : Int) = st from HST.out] at hk
  have hc := (hk.2.conv).trans (congrArg (fun x => Result.ok (Value.string x) w4) (HR.out _ rfl))
  clear hk hb B3 K3 HS
  go_wp2
  go_ret
  exact ⟨rfl, B4.out⟩
end Go.Proofs.YtancidbbkoeokaaGreatDoor

/- Contracts of impl.headOk and impl.PutHead. -/
namespace Go.Proofs.YtancidbbkoeokaaGreatDoor
open Go.ChangeShapes Go.WideShapes Go.ChangeAt Go.RowKit Go.Deep

def hokv (fl : ByteArray) (sz : Int) : Bool := decide (fl.size = 1) && inB sz 0 3000
theorem hok_iff {fl : ByteArray} {sz : Int} : hokv fl sz = true ↔ fl.size = 1 ∧ (0 ≤ sz ∧ sz ≤ 3000) := by
  rw [hokv, Bool.and_eq_true, decide_eq_true_eq]
  constructor
  · rintro ⟨h1, h2⟩
    refine ⟨h1, ?_⟩
    by_cases q : 0 ≤ sz ∧ sz ≤ 3000
    · exact q
    · rw [inB_f q] at h2; cases h2
  · rintro ⟨h1, h2⟩
    exact ⟨h1, inB_t h2⟩
theorem headOkI_any (fl : ByteArray) (sz : Int) (w : World) : Calls Tryz.prog 78 #[.string fl, .int .i64 sz] w fun e w' => e = .returned (.bool (hokv fl sz)) ∧ w = w' := by
  have H2 := Lib.hid (fun w => upTo_any sz 3000 w)
  by_cases h1 : (fl.size : Int) = 1
  · have HE : Hid (hokv fl sz = inB sz 0 3000) := Lib.hid (by rw [hokv, decide_eq_true (by omega)]; rfl)
    generalize hokv fl sz = r at *
    generalize inB sz 0 3000 = q at *
    go_enter Tryz.func78, Tryz.ntmps78
    go_wp2_with fail
    refine (H2.out _).mono ?_
    rintro e w1 ⟨rfl, rfl⟩
    go_wp2
    go_ret
    exact ⟨ret_bool HE.out.symm, rfl⟩
  · have HE : Hid (hokv fl sz = false) := Lib.hid (by rw [hokv, decide_eq_false (by omega)]; rfl)
    generalize hokv fl sz = r at *
    clear H2
    go_enter Tryz.func78, Tryz.ntmps78
    go_wp2
    go_ret
    exact ⟨ret_bool HE.out.symm, rfl⟩
theorem putHead_no {e : Ent} {flag : ByteArray} {size : Int} (h : ¬ (fitsv e = true ∧ flag.size = 1 ∧ (0 ≤ size ∧ size ≤ 3000))) : putHeadv e flag size = ⟨#[]⟩ := by rw [putHeadv, if_neg h]
set_option maxHeartbeats 6400000 in
set_option maxRecDepth 8000 in
theorem putHead_yes (k : Int) (p l : ByteArray) (m u g t : Int) (us gr b fl : ByteArray) (sz : Int) (w : World) (hp : p.size ≤ 4194304) (hl : l.size ≤ 4194304) (hus : us.size ≤ 4194304) (hgr : gr.size ≤ 4194304) (hfit : fitsv ⟨k, p, l, m, u, g, t, us, gr, b⟩ = true) (hfl : fl.size = 1) (hs : 0 ≤ sz ∧ sz ≤ 3000) (hT : Tabs w) (hF : FW w) :
    Calls Tryz.prog 50 #[.agg #[.int .i64 k, .string p, .string l, .int .i64 m, .int .i64 u, .int .i64 g, .int .i64 t, .string us, .string gr, .string b], .string fl, .int .i64 sz] w fun e w' => e = .returned (.string (headv ⟨k, p, l, m, u, g, t, us, gr, b⟩ (splitN p) (splitP p) fl sz magicU)) ∧ Below w.heap.size w w' := by
  have H1 := Lib.hid (fun w => fits_impl k p l m u g t us gr b w hp hl hus hgr)
  rw [hfit] at H1
  have H2 := Lib.hid (fun w => headOkI_any fl sz w)
  rw [hok_iff.2 ⟨hfl, hs⟩] at H2
  have H3 := Lib.hid (fun w => split_impl p w hp)
  obtain ⟨nm, nu, ng, nt, zl, zus, zgr, hso⟩ := fits_nums hfit
  simp only at nm nu ng nt zl zus zgr hso
  obtain ⟨zn, zp⟩ := split_sizes hso
  have H4 := Lib.hid (fun w hT hF => headText_impl k (splitN p) l m u g t us gr b fl sz (splitP p) magicU w zn zl zus zgr hfl zp (by decide) (by omega) (by omega) (by omega) (by omega) (by omega) hT hF)
  have hv : hdv ⟨k, splitN p, l, m, u, g, t, us, gr, b⟩ (splitN p) (splitP p) fl sz magicU = headv ⟨k, p, l, m, u, g, t, us, gr, b⟩ (splitN p) (splitP p) fl sz magicU :=
    (hdv_head (e := ⟨k, splitN p, l, m, u, g, t, us, gr, b⟩) nm nu ng nt hs).trans rfl
  rw [hv, show magicU = ⟨#[117, 115, 116, 97, 114, 0, 48, 48]⟩ from rfl] at H4
  rw [show magicU = ⟨#[117, 115, 116, 97, 114, 0, 48, 48]⟩ from rfl]
  generalize headv ⟨k, p, l, m, u, g, t, us, gr, b⟩ (splitN p) (splitP p) fl sz ⟨#[117, 115, 116, 97, 114, 0, 48, 48]⟩ = r at *
  generalize splitN p = sn at *
  generalize splitP p = sp at *
  generalize splitOk p = so at *
  have HF := Lib.hid hF
  have HT := Lib.hid hT
  clear hv hF hT hfit hp hl hus hgr hfl zn zp nm nu ng nt zl zus zgr hso hs
  go_enter Tryz.func50, Tryz.ntmps50
  go_wp2_with fail
  have E0 := Lib.hid (EntO.new w ⟨k, p, l, m, u, g, t, us, gr, b⟩)
  have B0 := Lib.hid ((Below.refl w.heap.size w).alloc (Nat.le_refl _) (.cells (Ent.cells ⟨k, p, l, m, u, g, t, us, gr, b⟩).toArray 32))
  have z0 := E0.out.lt
  simp only [Ent.cells] at E0 B0 z0
  generalize w.alloc (.cells #[.int .i64 k, .string p, .string l, .int .i64 m, .int .i64 u, .int .i64 g, .int .i64 t, .string us, .string gr, .string b] 32) = w0 at *
  refine (H1.out _).mono ?_
  rintro e w1 ⟨rfl, hb⟩
  have E1 := Lib.hid (E0.out.below hb z0)
  have B1 := Lib.hid (btE B0.out hb)
  clear hb E0 B0 H1 z0
  go_wp2_with fail
  refine (H2.out _).mono ?_
  rintro e w2 ⟨rfl, rfl⟩
  obtain ⟨_, c1, _⟩ := E1.out.at.zero
  go_wp2_with fail
  refine (H3.out _).mono ?_
  rintro e w2 ⟨rfl, hb⟩
  have E2 := Lib.hid (E1.out.below hb E1.out.lt)
  have B2 := Lib.hid (btE B1.out hb)
  clear hb c1 E1 B1 H2 H3
  obtain ⟨_, c1, _⟩ := E2.out.at.zero
  have hfz := E2.out.fz 1
  have E3 := Lib.hid (E2.out.set (e' := ⟨k, sn, l, m, u, g, t, us, gr, b⟩) 1 (.string sn) rfl)
  have B3 := Lib.hid (B2.out.setCell (p := ⟨w.heap.size, 1, none⟩) (Nat.le_refl _) (.string sn))
  have q := fun w' (h : EntO w' w.heap.size ⟨k, sn, l, m, u, g, t, us, gr, b⟩) => run_loadVar_row (P := Tryz.prog) w' w.heap.size 32 32 _ (0, 0) _ h Tryz.underlying32 rfl (by rw [Tryz.sizeEntO]; rfl)
  have q2 := Lib.hid (q _ E3.out)
  clear q
  go_wp2_with ((with_reducible refine wpList_load_eq rfl 32 _ _ rfl ⟨w.heap.size, 0, none⟩ ?_ q2.out ?_); rfl)
  refine (H4.out _ (HT.out.below B3.out) (HF.out.below B3.out)).mono ?_
  rintro e w4 ⟨rfl, hb⟩
  go_wp2
  go_ret
  exact ⟨rfl, btE B3.out hb⟩
set_option maxHeartbeats 1600000 in
theorem putHead_impl (k : Int) (p l : ByteArray) (m u g t : Int) (us gr b fl : ByteArray) (sz : Int) (w : World) (hp : p.size ≤ 4194304) (hl : l.size ≤ 4194304) (hus : us.size ≤ 4194304) (hgr : gr.size ≤ 4194304) (hT : Tabs w) (hF : FW w) :
    Calls Tryz.prog 50 #[.agg #[.int .i64 k, .string p, .string l, .int .i64 m, .int .i64 u, .int .i64 g, .int .i64 t, .string us, .string gr, .string b], .string fl, .int .i64 sz] w fun e w' => e = .returned (.string (putHeadv ⟨k, p, l, m, u, g, t, us, gr, b⟩ fl sz)) ∧ Below w.heap.size w w' := by
  by_cases hy : fitsv ⟨k, p, l, m, u, g, t, us, gr, b⟩ = true ∧ fl.size = 1 ∧ (0 ≤ sz ∧ sz ≤ 3000)
  · rw [putHeadv, if_pos hy]
    exact putHead_yes k p l m u g t us gr b fl sz w hp hl hus hgr hy.1 hy.2.1 hy.2.2 hT hF
  · have HE := Lib.hid (putHead_no hy)
    have H1 := Lib.hid (fun w => fits_impl k p l m u g t us gr b w hp hl hus hgr)
    have H2 := Lib.hid (fun w => headOkI_any fl sz w)
    have hh : fitsv ⟨k, p, l, m, u, g, t, us, gr, b⟩ = true → hokv fl sz = false := fun h => by
      cases hq : hokv fl sz with
      | false => rfl
      | true => exact absurd ⟨h, hok_iff.1 hq⟩ hy
    generalize putHeadv ⟨k, p, l, m, u, g, t, us, gr, b⟩ fl sz = r at HE
    generalize fitsv ⟨k, p, l, m, u, g, t, us, gr, b⟩ = bf at H1 hy hh
    clear hT hF hp hl hus hgr hy
    cases bf with
    | false =>
      clear hh
      go_enter Tryz.func50, Tryz.ntmps50
      go_wp2_with fail
      refine (H1.out _).mono ?_
      rintro e w1 ⟨rfl, hb⟩
      obtain ⟨-, bb1, -⟩ := one_new (e1 := ⟨k, p, l, m, u, g, t, us, gr, b⟩) hb
      have B1 := Lib.hid bb1
      clear hb bb1
      go_wp2
      go_ret
      exact ⟨ret_str HE.out.symm, B1.out⟩
    | true =>
      rw [hh rfl] at H2
      clear hh
      go_enter Tryz.func50, Tryz.ntmps50
      go_wp2_with fail
      refine (H1.out _).mono ?_
      rintro e w1 ⟨rfl, hb⟩
      obtain ⟨-, bb1, -⟩ := one_new (e1 := ⟨k, p, l, m, u, g, t, us, gr, b⟩) hb
      have B1 := Lib.hid bb1
      clear hb bb1
      go_wp2_with fail
      refine (H2.out _).mono ?_
      rintro e w2 ⟨rfl, rfl⟩
      go_wp2
      go_ret
      exact ⟨ret_str HE.out.symm, B1.out⟩
end Go.Proofs.YtancidbbkoeokaaGreatDoor

/- Contracts of spec.Flag, impl.Flag, spec.Kind, impl.Kind. -/
namespace Go.Proofs.YtancidbbkoeokaaGreatDoor
open Go.ChangeShapes Go.WideShapes Go.ChangeAt Go.RowKit

def flagv (k : Int) : ByteArray := if k = 0 then ⟨#[48]⟩ else if k = 1 then ⟨#[53]⟩ else if k = 2 then ⟨#[50]⟩ else if k = 3 then ⟨#[49]⟩ else ⟨#[]⟩
def kindv (s : ByteArray) : Int := if s = ⟨#[48]⟩ then 0 else if s = ⟨#[53]⟩ then 1 else if s = ⟨#[50]⟩ then 2 else if s = ⟨#[49]⟩ then 3 else -1
theorem flag_out {k : Int} (h : ¬ (0 ≤ k ∧ k ≤ 3)) : flagv k = ⟨#[]⟩ := by
  unfold flagv
  rw [if_neg (by omega), if_neg (by omega), if_neg (by omega), if_neg (by omega)]
theorem four {k : Int} (h : 0 ≤ k ∧ k ≤ 3) : k = 0 ∨ k = 1 ∨ k = 2 ∨ k = 3 := by omega

theorem flag_spec (k : Int) (w : World) :
    Calls Tryz.prog 40 #[.int .i64 k] w fun e w' => e = .returned (.string (flagv k)) ∧ Below w.heap.size w w' := by
  by_cases h : 0 ≤ k ∧ k ≤ 3
  · have Ha := Lib.hid (fun w => in_any k 0 3 w)
    rw [inB_t h] at Ha
    rcases four h with rfl | rfl | rfl | rfl
    all_goals
      go_enter Tryz.func40, Tryz.ntmps40
      go_wp2_with fail
      refine (Ha.out _).mono ?_
      rintro e w3 ⟨rfl, rfl⟩
      go_wp2_with fail
      go_ret
      exact ⟨rfl, (Below.refl _ _).alloc (Nat.le_refl _) _⟩
  · have Ha := Lib.hid (fun w => in_any k 0 3 w)
    rw [inB_f h] at Ha
    have HE := Lib.hid (flag_out h)
    clear h
    go_enter Tryz.func40, Tryz.ntmps40
    go_wp2_with fail
    refine (Ha.out _).mono ?_
    rintro e w3 ⟨rfl, rfl⟩
    go_wp2_with fail
    go_ret
    exact ⟨ret_str HE.out.symm, Below.refl _ _⟩
theorem kind_at {s : ByteArray} {k : Nat} (hk : k < 4) (h : flagv k = s) : kindv s = k := by
  subst h
  match k, hk with
  | 0, _ => decide
  | 1, _ => decide
  | 2, _ => decide
  | 3, _ => decide
theorem kind_none {s : ByteArray} (h : ∀ j : Nat, j < 4 → ¬ flagv j = s) : kindv s = -1 := by
  have h0 := h 0 (by omega)
  have h1 := h 1 (by omega)
  have h2 := h 2 (by omega)
  have h3 := h 3 (by omega)
  unfold kindv
  rw [if_neg (fun e => h0 (by rw [e]; rfl)), if_neg (fun e => h1 (by rw [e]; rfl)), if_neg (fun e => h2 (by rw [e]; rfl)), if_neg (fun e => h3 (by rw [e]; rfl))]
theorem kind_spec (s : ByteArray) (w : World) :
    Calls Tryz.prog 22 #[.string s] w fun e w' => e = .returned (.int .i64 (kindv s)) ∧ Below w.heap.size w w' := by
  go_enter Tryz.func22, Tryz.ntmps22
  go_wp2
  go_loopw [3] (fun i wr => ∃ k : Nat, k ≤ 4 ∧ i = .int .i64 k ∧ (∀ j : Nat, j < k → ¬ flagv j = s) ∧ Below w.heap.size w wr) (fun i _ => 4 - (intOf i).toNat)
  case atStart => exact ⟨0, by omega, rfl, fun j h => absurd h (by omega), Below.refl _ _⟩
  case round =>
    obtain ⟨k, hk, rfl, hn, hb⟩ := hrel
    have HB := Lib.hid hb
    have HN := Lib.hid hn
    clear hb hn
    by_cases hlt : (k : Int) < 4
    · have HF := Lib.hid (fun w => flag_spec k w)
      by_cases hf : flagv k = s
      · have HE := Lib.hid (kind_at (by omega) hf)
        have q := ba_eq hf
        generalize flagv k = f at HF q
        clear hf
        go_wp2_with fail
        refine (HF.out _).mono ?_
        rintro e w1 ⟨rfl, hb1⟩
        go_wp2_with fail
        go_ret
        exact ⟨ret_int HE.out.symm, HB.out.trans (hb1.mono HB.out.size)⟩
      · have HE : Hid (∀ j : Nat, j < k + 1 → ¬ flagv j = s) := Lib.hid (fun j hj => by
          by_cases e : j = k
          · subst e; exact hf
          · exact HN.out j (by omega))
        have q := ba_ne hf
        generalize flagv k = f at HF q
        clear hf
        go_wp2_with fail
        refine (HF.out _).mono ?_
        rintro e w1 ⟨rfl, hb1⟩
        have HB1 := Lib.hid (HB.out.trans (hb1.mono HB.out.size))
        clear hb1
        go_wp2_with fail
        go_roundw
        case rel => exact ⟨k + 1, by omega, by go_num, HE.out, HB1.out⟩
        case measure => simp [intOf]; omega
    · have HE := Lib.hid (kind_none (s := s) (fun j hj => HN.out j (by omega)))
      go_wp2
      go_ret
      exact ⟨ret_int HE.out.symm, HB.out⟩
theorem one_byte {s : ByteArray} (h : s.size = 1) : ∃ c, s = ⟨#[c]⟩ := by
  have hl : s.data.toList.length = 1 := by simpa using h
  match hd : s.data.toList, hl with
  | [c], _ => exact ⟨c, ba_ext hd⟩
theorem kind_one (c : UInt8) : Lib.indexByte [48, 53, 50, 49] c = kindv ⟨#[c]⟩ := by
  have key : ∀ d : UInt8, ((⟨#[c]⟩ : ByteArray) = ⟨#[d]⟩) ↔ c = d := fun d => by simp
  unfold kindv
  simp only [key, Lib.indexByte]
  by_cases h0 : c = 48
  · subst h0; rfl
  by_cases h1 : c = 53
  · subst h1; rfl
  by_cases h2 : c = 50
  · subst h2; rfl
  by_cases h3 : c = 49
  · subst h3; rfl
  simp [h0, h1, h2, h3, Ne.symm h0, Ne.symm h1, Ne.symm h2, Ne.symm h3]
theorem kind_impl (s : ByteArray) (w : World) :
    Calls Tryz.prog 29 #[.string s] w fun e w' => e = .returned (.int .i64 (kindv s)) ∧ w = w' := by
  by_cases h : s.size = 1
  · obtain ⟨c, rfl⟩ := one_byte h
    have H := Lib.hid (fun w => Tryz.strings_Index_one ⟨#[48, 53, 50, 49]⟩ c w)
    rw [show (⟨#[48, 53, 50, 49]⟩ : ByteArray).data.toList = [48, 53, 50, 49] from rfl, kind_one] at H
    generalize kindv ⟨#[c]⟩ = r at H
    clear h
    go_enter Tryz.func29, Tryz.ntmps29
    go_wp2_with fail
    refine (H.out _).mono ?_
    rintro e w1 ⟨rfl, rfl⟩
    go_wp2_with fail
    go_ret
    exact ⟨rfl, rfl⟩
  · have HE : Hid (kindv s = -1) := Lib.hid (by
      unfold kindv
      rw [if_neg, if_neg, if_neg, if_neg]
      all_goals (intro e; subst e; exact h rfl))
    have h1 : ¬ (s.size : Int) = 1 := by omega
    generalize kindv s = r at HE
    clear h
    go_enter Tryz.func29, Tryz.ntmps29
    go_wp2_with fail
    go_ret
    exact ⟨ret_int HE.out.symm, rfl⟩
end Go.Proofs.YtancidbbkoeokaaGreatDoor

/- What a header says: plain lists only. -/
namespace Go.Proofs.YtancidbbkoeokaaGreatDoor
open Go.ChangeShapes Go.WideShapes Go.ChangeAt Go.RowKit

/-- The number of a field of digits and a NUL, and whether it is one. -/
def fnumv (f : ByteArray) : Int := (getOctv (f.data.toList.take (f.size - 1))).1
def fnumOk (f : ByteArray) : Bool := (getOctv (f.data.toList.take (f.size - 1))).2 && decide (f.data.toList.drop (f.size - 1) = [0])
def sumOkv (s : ByteArray) : Bool := decide (s.extract 148 156 = (putOctv (headSumv s) 6).1 ++ ⟨#[0, 32]⟩)
def fM (s : ByteArray) : ByteArray := s.extract 100 108
def fU (s : ByteArray) : ByteArray := s.extract 108 116
def fG (s : ByteArray) : ByteArray := s.extract 116 124
def fZ (s : ByteArray) : ByteArray := s.extract 124 136
def fT (s : ByteArray) : ByteArray := s.extract 136 148
def numsOk (s : ByteArray) : Bool := fnumOk (fM s) && fnumOk (fU s) && fnumOk (fG s) && fnumOk (fZ s) && fnumOk (fT s)
def pathOf (s : ByteArray) : ByteArray := if (cutv (s.extract 345 500)).size = 0 then cutv (s.extract 0 100) else cutv (s.extract 345 500) ++ ⟨#[47]⟩ ++ cutv (s.extract 0 100)
def rdEnt (s : ByteArray) : Ent := ⟨0, pathOf s, cutv (s.extract 157 257), fnumv (fM s), fnumv (fU s), fnumv (fG s), fnumv (fT s), cutv (s.extract 265 297), cutv (s.extract 297 329), ⟨#[]⟩⟩
def rdFlag (s : ByteArray) : ByteArray := s.extract 156 157
def rdCode (s : ByteArray) : Int := if s.size < 512 then 1 else if sumOkv s = false then 2 else if numsOk s = false ∨ 3000 < fnumv (fZ s) then 3 else 0
def withKind (e : Ent) (fl : ByteArray) : Ent := { e with kind := if 0 ≤ kindv fl then kindv fl else 0 }
def hdCode (s : ByteArray) : Int := if rdCode s = 0 then (if putHeadv (withKind (rdEnt s) (rdFlag s)) (rdFlag s) (fnumv (fZ s)) = s.extract 0 512 then 0 else 4) else rdCode s

theorem six_two (a b : ByteArray) (s : ByteArray) (h : 156 ≤ s.size) (ha : a.size = 6) : s.extract 148 156 = a ++ b ↔ s.extract 148 154 = a ∧ s.extract 154 156 = b := by
  have x : ∀ a b : Nat, (s.extract a b).data.toList = (s.data.toList.drop a).take (b - a) := fun a b => by simp
  have e : s.extract 148 156 = s.extract 148 154 ++ s.extract 154 156 := by
    apply ba_ext
    rw [ByteArray.data_append, Array.toList_append, x, x, x, show 156 - 148 = 6 + 2 from rfl, List.take_add, List.drop_drop]
  have z : (s.extract 148 154).size = 6 := by rw [ByteArray.size_extract]; omega
  have hl : (s.extract 148 154).data.toList.length = a.data.toList.length := by
    rw [Array.length_toList, Array.length_toList]
    exact z.trans ha.symm
  rw [e]
  constructor
  · intro hh
    have h2 := congrArg (fun x : ByteArray => x.data.toList) hh
    simp only [ByteArray.data_append, Array.toList_append] at h2
    have h3 := List.append_inj h2 hl
    exact ⟨ba_ext h3.1, ba_ext h3.2⟩
  · rintro ⟨rfl, rfl⟩; rfl
/-- The two ways to tell whether a checksum is right. -/
theorem sum_iff {s : ByteArray} (h : 512 ≤ s.size) : sumOkv s = true ↔ (getOctv (s.extract 148 154).data.toList).2 = true ∧ s.extract 154 156 = ⟨#[0, 32]⟩ ∧ (getOctv (s.extract 148 154).data.toList).1 = headSumv s := by
  have hb := headSum_bd s
  have h0 : 0 ≤ headSumv s := by
    rw [headSumv, if_neg (by omega)]
    have a := sumv_bd (s.data.toList.take 148)
    have b := sumv_bd ((s.data.toList.take 512).drop 156)
    omega
  have p6 : (8 : Nat) ^ 6 = 262144 := by decide
  obtain ⟨o2, oz, -⟩ := oct_fits (n := headSumv s) (k := 6) h0 (by omega) (by omega) (by omega)
  have oz' : (putOctv (headSumv s) 6).1.size = 6 := oz
  have o2' : (putOctv (headSumv s) 6).2 = true := o2
  have z6 : (s.extract 148 154).size = 6 := by rw [ByteArray.size_extract]; omega
  rw [sumOkv, decide_eq_true_eq, six_two _ _ s (by omega) oz']
  constructor
  · rintro ⟨h1, h2⟩
    have hk := (oct_back (headSumv s) 6 o2').1
    rw [← h1] at hk
    rw [hk]
    exact ⟨rfl, h2, rfl⟩
  · rintro ⟨h1, h2, h3⟩
    refine ⟨?_, h2⟩
    have hr := oct_read (s.extract 148 154) (headSumv s) (Prod.ext h3 h1)
    rw [z6] at hr
    have hr' : putOctv (headSumv s) 6 = (s.extract 148 154, true) := hr
    rw [hr']
end Go.Proofs.YtancidbbkoeokaaGreatDoor

/- Contracts of impl.block's methods text and number, of strings.CutSuffix at one NUL, of spec.l04Num. -/
namespace Go.Proofs.YtancidbbkoeokaaGreatDoor
open Go.ChangeShapes Go.WideShapes Go.ChangeAt Go.RowKit

theorem Blk.convAt {w : World} {g : Nat} {l : List UInt8} (h : Blk w g l) (o x : Nat) (hx : o + x ≤ 512) : (convert 64 9 (.slice (some ⟨g, o, none⟩) x x)).run Tryz.prog w = .ok (.string ⟨((l.drop o).take x).toArray⟩) w := by
  have hl : ((l.drop o).take x).length = x := by simp [h.1]; omega
  have := run_convert_bytes_back (P := Tryz.prog) w 64 9 5 ⟨g, o, none⟩ x ((l.drop o).take x) Tryz.underlying64 Tryz.underlying5 Tryz.underlying9 (by
    intro j hj
    have hj2 : o + j < l.length := by rw [h.1]; omega
    rw [Addr.add_mid, cell_of_row _ _ _ _ _ _ h.2]
    simp [Lib.byteCells, List.getElem?_eq_getElem hj2])
  rw [hl] at this
  exact this
theorem ext0 (f : ByteArray) (n : Nat) : (f.extract 0 n).data.toList = f.data.toList.take n := by simp
/-- The bytes of a field. -/
def fieldv (l : List UInt8) (k x : Nat) : ByteArray := ⟨((l.drop (offs k)).take x).toArray⟩
theorem text_any (g k x : Nat) (l : List UInt8) (w : World) (hk : k < 15) (hx : widths[k]? = some x) (hF : FW w) (hB : Blk w g l) :
    Calls Tryz.prog 100 #[.pointer (some ⟨g, 0, none⟩), .int .i64 k] w fun e w' => e = .returned (.string (cutv (fieldv l k x))) ∧ Below w.heap.size w w' := by
  have H1 := Lib.hid (field_any g k x w hk hx hF)
  obtain ⟨y, hy, y1, y2, y3, y4⟩ := widths_at hk
  obtain rfl : y = x := by rw [hy] at hx; exact Option.some.inj hx
  have hc := hB.convAt (offs k) y (by omega)
  have hz : (fieldv l k y).size ≤ 155 := by
    rw [fieldv, ba_size]
    have := List.length_take_le y (l.drop (offs k))
    omega
  have H2 := Lib.hid (fun w => cut_impl (fieldv l k y) w (by omega))
  rw [show (⟨((l.drop (offs k)).take y).toArray⟩ : ByteArray) = fieldv l k y from rfl] at hc
  generalize fieldv l k y = f at *
  generalize cutv f = c at *
  clear hF hB hx hy
  go_enter Tryz.func100, Tryz.ntmps100
  go_wp2_with fail
  refine H1.out.mono ?_
  rintro e w1 ⟨rfl, rfl⟩
  go_wp2_with fail
  refine (H2.out _).mono ?_
  rintro e w2 ⟨rfl, hb⟩
  go_wp2
  go_ret
  exact ⟨rfl, hb⟩
/-- Does a text end with a NUL? -/
def ends0 (s : ByteArray) : Bool := Lib.hasSuffix s.data.toList [0]
theorem ends0_iff {s : ByteArray} : ends0 s = decide (s.data.toList.drop (s.size - 1) = [0]) := by
  unfold ends0 Lib.hasSuffix
  have hz : s.data.toList.length = s.size := by simp
  generalize s.data.toList = l at *
  rw [← hz, Bool.eq_iff_iff, List.isSuffixOf_iff_suffix, decide_eq_true_eq]
  constructor
  · rintro ⟨t, rfl⟩; simp
  · intro h; exact ⟨l.take (l.length - 1), by rw [← h]; exact List.take_append_drop _ _⟩
theorem ends0_pos {s : ByteArray} (h : ends0 s = true) : 1 ≤ s.size := by
  rw [ends0_iff, decide_eq_true_eq] at h
  have := congrArg List.length h
  simp at this
  omega
theorem cutSufL_any (s : ByteArray) (w : World) (hs : s.size ≤ 4194304) :
    Calls Tryz.prog 101 #[.string s, .string ⟨#[0]⟩] w fun e w' => e = .returned (.tuple #[.string (if ends0 s = true then s.extract 0 (s.size - 1) else s), .bool (ends0 s)]) ∧ w = w' := by
  have H := Lib.hid (fun w => Tryz.stringslite_HasSuffix s ⟨#[0]⟩ w (by omega))
  rw [show Lib.hasSuffix s.data.toList (⟨#[0]⟩ : ByteArray).data.toList = ends0 s from rfl] at H
  cases h : ends0 s with
  | false =>
    rw [h] at H
    clear h
    go_enter Tryz.func101, Tryz.ntmps101
    go_wp2_with fail
    refine (H.out _).mono ?_
    rintro e w1 ⟨rfl, rfl⟩
    go_wp2
    go_ret2
    exact ⟨rfl, rfl⟩
  | true =>
    have hp := ends0_pos h
    rw [h] at H
    obtain ⟨m, hm⟩ : ∃ m, s.size = m + 1 := ⟨s.size - 1, by omega⟩
    have c0 : (s.size : Int) - 1 = (m : Int) := by omega
    have c1 : (0 : Int) ≤ (m : Int) := by omega
    have c2 : (m : Int) ≤ (s.size : Int) := by omega
    have HM := Lib.hid (show s.size - 1 = m by omega)
    clear h hp hm
    go_enter Tryz.func101, Tryz.ntmps101
    go_wp2_with fail
    refine (H.out _).mono ?_
    rintro e w1 ⟨rfl, rfl⟩
    go_wp2
    go_ret2
    exact ⟨by rw [HM.out]; rfl, rfl⟩
theorem cutSuf_any (s : ByteArray) (w : World) (hs : s.size ≤ 4194304) :
    Calls Tryz.prog 75 #[.string s, .string ⟨#[0]⟩] w fun e w' => e = .returned (.tuple #[.string (if ends0 s = true then s.extract 0 (s.size - 1) else s), .bool (ends0 s)]) ∧ w = w' := by
  have H := Lib.hid (fun w => cutSufL_any s w hs)
  generalize (if ends0 s = true then s.extract 0 (s.size - 1) else s) = a at H
  generalize ends0 s = b at H
  go_enter Tryz.func75, Tryz.ntmps75
  go_wp2_with fail
  refine (H.out _).mono ?_
  rintro e w1 ⟨rfl, rfl⟩
  go_wp2
  go_ret2
  exact ⟨rfl, rfl⟩
theorem fnum_ok (f : ByteArray) : fnumOk f = ((getOctv (f.data.toList.take (f.size - 1))).2 && ends0 f) := by rw [fnumOk, ends0_iff]
theorem number_any (g k x : Nat) (l : List UInt8) (w : World) (hk : k < 15) (hx : widths[k]? = some x) (hF : FW w) (hB : Blk w g l) :
    Calls Tryz.prog 48 #[.pointer (some ⟨g, 0, none⟩), .int .i64 k] w fun e w' => e = .returned (if fnumOk (fieldv l k x) = true then .tuple #[.int .i64 (fnumv (fieldv l k x)), .nilIface] else .tuple #[.int .i64 0, .iface 58 (.agg #[.int .i64 3])]) ∧ w = w' := by
  have H1 := Lib.hid (field_any g k x w hk hx hF)
  obtain ⟨y, hy, y1, y2, y3, y4⟩ := widths_at hk
  obtain rfl : y = x := by rw [hy] at hx; exact Option.some.inj hx
  have hc := hB.convAt (offs k) y (by omega)
  have hz : (fieldv l k y).size ≤ 155 := by
    rw [fieldv, ba_size]
    have := List.length_take_le y (l.drop (offs k))
    omega
  have H2 := Lib.hid (fun w => cutSuf_any (fieldv l k y) w (by omega))
  have HO := Lib.hid (fnum_ok (fieldv l k y))
  have HN : Hid (fnumv (fieldv l k y) = (getOctv ((fieldv l k y).extract 0 ((fieldv l k y).size - 1)).data.toList).1) := Lib.hid (by rw [fnumv, ext0])
  have HN2 : Hid ((getOctv ((fieldv l k y).data.toList.take ((fieldv l k y).size - 1))) = getOctv ((fieldv l k y).extract 0 ((fieldv l k y).size - 1)).data.toList) := Lib.hid (by rw [ext0])
  rw [HN2.out] at HO
  rw [show (⟨((l.drop (offs k)).take y).toArray⟩ : ByteArray) = fieldv l k y from rfl] at hc
  generalize fieldv l k y = f at *
  have H3 := Lib.hid (fun w => getOct_impl (f.extract 0 (f.size - 1)) w (by rw [ByteArray.size_extract]; omega))
  have H4 := Lib.hid (fun w => getOct_impl f w (by omega))
  generalize fnumv f = nv at *
  generalize fnumOk f = ov at *
  generalize f.extract 0 (f.size - 1) = fx at *
  generalize getOctv fx.data.toList = q at *
  generalize getOctv f.data.toList = q2 at *
  obtain ⟨n, o⟩ := q
  obtain ⟨n2, o2⟩ := q2
  simp only at HN HO H3 H4
  clear hF hB hx hy HN2
  cases he : ends0 f with
  | false =>
    rw [he] at H2 HO
    simp only [Bool.and_false] at HO
    have hov := HO.out
    subst hov
    simp only [Bool.false_eq_true, if_false] at H2 ⊢
    clear he HO
    go_enter Tryz.func48, Tryz.ntmps48
    go_wp2_with fail
    refine H1.out.mono ?_
    rintro e w1 ⟨rfl, rfl⟩
    go_wp2_with fail
    refine (H2.out _).mono ?_
    rintro e w2 ⟨rfl, rfl⟩
    go_wp2_with fail
    refine (H4.out _).mono ?_
    rintro e w2 ⟨rfl, rfl⟩
    go_wp2
    go_ret2
    exact ⟨rfl, rfl⟩
  | true =>
    rw [he] at H2 HO
    simp only [Bool.and_true] at HO
    have hov := HO.out
    subst hov
    have hnv := HN.out
    subst hnv
    simp only [if_true] at H2
    clear he HO HN
    cases ov with
    | true =>
      simp only [if_true]
      go_enter Tryz.func48, Tryz.ntmps48
      go_wp2_with fail
      refine H1.out.mono ?_
      rintro e w1 ⟨rfl, rfl⟩
      go_wp2_with fail
      refine (H2.out _).mono ?_
      rintro e w2 ⟨rfl, rfl⟩
      go_wp2_with fail
      refine (H3.out _).mono ?_
      rintro e w2 ⟨rfl, rfl⟩
      go_wp2
      go_ret2
      exact ⟨rfl, rfl⟩
    | false =>
      simp only [Bool.false_eq_true, if_false]
      go_enter Tryz.func48, Tryz.ntmps48
      go_wp2_with fail
      refine H1.out.mono ?_
      rintro e w1 ⟨rfl, rfl⟩
      go_wp2_with fail
      refine (H2.out _).mono ?_
      rintro e w2 ⟨rfl, rfl⟩
      go_wp2_with fail
      refine (H3.out _).mono ?_
      rintro e w2 ⟨rfl, rfl⟩
      go_wp2
      go_ret2
      exact ⟨rfl, rfl⟩
end Go.Proofs.YtancidbbkoeokaaGreatDoor

/- errors.As at a target of a struct type of one number (the program's readError), by Go's own text; impl.codeOf. -/
namespace Go.Proofs.YtancidbbkoeokaaGreatDoor
open Go.RowKit Go.Extern.Stop Go.Stop Go.Extern

theorem as_nil (t : Value) (w : World) :
    Calls Tryz.prog 30 #[.nilIface, t] w fun e w' => e = .returned (.bool false) ∧ w' = w := by
  go_enter Tryz.func30, Tryz.ntmps30
  go_wp2
  go_ret
  exact ⟨rfl, rfl⟩

/-! What the model's entries for reflectlite give at this program's types: closed facts. -/
theorem re_valueP (t : Addr) (w : World) : (ReflectliteValue.unpack (.iface 61 (.pointer (some t)))).run Tryz.prog w
    = .ok (.agg #[.pointer (some ⟨6, 61, none⟩), .pointer (some ⟨w.heap.size, 0, none⟩), .int .u64 150]) (w.alloc (.cells #[.pointer (some t)] 61)) := by kernel_rfl
theorem re_valueT (c : Int) (w : World) : (ReflectliteValue.unpack (.iface 58 (.agg #[.int .i64 c]))).run Tryz.prog w
    = .ok (.agg #[.pointer (some ⟨6, 58, none⟩), .pointer (some ⟨w.heap.size, 0, none⟩), .int .u64 153]) (w.alloc (.cells #[.int .i64 c] 58)) := by kernel_rfl
theorem re_type (a : Addr) (w : World) : (ReflectliteValue.methodAny (ReflectliteValue.valueError "reflectlite.Value.Type" 0) (fun t _ _ _ => ReflectliteType.toType t) #[.agg #[.pointer (some ⟨6, 61, none⟩), .pointer (some a), .int .u64 150]]).run Tryz.prog w
    = .ok (.iface 114 (.agg #[.pointer (some ⟨6, 61, none⟩)])) w := by kernel_rfl
theorem re_mKind (h : Value) (w : World) : (Go.method 309 114 (.agg #[h]) "Kind").run Tryz.prog w = .ok (163, h) w := by kernel_rfl
theorem re_kindP (w : World) : ((ReflectliteType.abiMethod fun t => (fun a : Nat => Value.int IntKind.u8 (a : Int)) <$> Rtype.kind t) #[.pointer (some ⟨6, 61, none⟩)]).run Tryz.prog w = .ok (.int .u8 22) w := by kernel_rfl
theorem re_kindT (w : World) : ((ReflectliteType.abiMethod fun t => (fun a : Nat => Value.int IntKind.u8 (a : Int)) <$> Rtype.kind t) #[.pointer (some ⟨6, 58, none⟩)]).run Tryz.prog w = .ok (.int .u8 25) w := by kernel_rfl
theorem re_method (z : Sem Value) (f : TypeId → Addr → Nat → Nat → Sem Value) (v : Value) :
    ReflectliteValue.method z f #[v] = (do match ← ReflectliteValue.parts v with | none => z | some (t, a, fl) => f t a fl (fl % 32)) := rfl
theorem re_partsP (a : Addr) (w : World) : (ReflectliteValue.parts (.agg #[.pointer (some ⟨6, 61, none⟩), .pointer (some a), .int .u64 150])).run Tryz.prog w = .ok (some (61, a, 150)) w := by kernel_rfl
theorem re_isNil (a p : Addr) (W : World) (ha : W.cell? a = some (.pointer (some p))) :
    (ReflectliteValue.method (ReflectliteValue.valueError "reflectlite.Value.IsNil" 0) ReflectliteValue.isNil #[.agg #[.pointer (some ⟨6, 61, none⟩), .pointer (some a), .int .u64 150]]).run Tryz.prog W = .ok (.bool false) W := by
  rw [re_method]
  simp only [Sem.run_bind, re_partsP, Result.andThen]
  simp [ReflectliteValue.isNil, loadVar, isAgg, underlying, Tryz.underlying61, ha, Result.andThen]
theorem re_mElem (h : Value) (w : World) : (Go.method 309 114 (.agg #[h]) "Elem").run Tryz.prog w = .ok (173, .agg #[h]) w := by kernel_rfl
theorem re_mImplements (h : Value) (w : World) : (Go.method 309 114 (.agg #[h]) "Implements").run Tryz.prog w = .ok (174, .agg #[h]) w := by kernel_rfl
theorem re_mAssignable (h : Value) (w : World) : (Go.method 309 114 (.agg #[h]) "AssignableTo").run Tryz.prog w = .ok (171, .agg #[h]) w := by kernel_rfl
theorem re_elemT (w : World) : (ReflectliteType.method ReflectliteType.elem #[.agg #[.pointer (some ⟨6, 61, none⟩)]]).run Tryz.prog w = .ok (.iface 114 (.agg #[.pointer (some ⟨6, 58, none⟩)])) w := by kernel_rfl
theorem re_implements (w : World) : (ReflectliteType.relation "Implements" ReflectliteType.implements_ #[.agg #[.pointer (some ⟨6, 58, none⟩)], .iface 114 (.agg #[.pointer (some ⟨6, 42, none⟩)])]).run Tryz.prog w = .ok (.bool true) w := by kernel_rfl
theorem re_typeOf (v : Value) (w : World) : (ReflectliteType.typeOf #[.iface 58 v]).run Tryz.prog w = .ok (.iface 114 (.agg #[.pointer (some ⟨6, 58, none⟩)])) w := by kernel_rfl
theorem re_assignable (w : World) : (ReflectliteType.relation "AssignableTo" ReflectliteType.assignableTo #[.agg #[.pointer (some ⟨6, 58, none⟩)], .iface 114 (.agg #[.pointer (some ⟨6, 58, none⟩)])]).run Tryz.prog w = .ok (.bool true) w := by kernel_rfl
theorem re_elemOf (w : World) : (Rtype.elem? 61).run Tryz.prog w = .ok (some 58) w := by kernel_rfl
theorem re_mk (p : Addr) (w : World) : (ReflectliteValue.mk 58 p ReflectliteValue.flagAddr).run Tryz.prog w = .ok (.agg #[.pointer (some ⟨6, 58, none⟩), .pointer (some p), .int .u64 409]) w := by kernel_rfl
theorem re_elemV (a p : Addr) (W : World) (ha : W.cell? a = some (.pointer (some p))) :
    (ReflectliteValue.method (ReflectliteValue.valueError "reflectlite.Value.Elem" 0) ReflectliteValue.elem #[.agg #[.pointer (some ⟨6, 61, none⟩), .pointer (some a), .int .u64 150]]).run Tryz.prog W
      = .ok (.agg #[.pointer (some ⟨6, 58, none⟩), .pointer (some p), .int .u64 409]) W := by
  rw [re_method]
  simp only [Sem.run_bind, re_partsP, Result.andThen]
  simp [ReflectliteValue.elem, loadVar, isAgg, underlying, Tryz.underlying61, ha, Result.andThen, re_elemOf, re_mk]
theorem re_setDef (v x : Value) : ReflectliteValue.set #[v, x] = (do
    let (some (dst, a, fl), some (src, b, _)) := (← ReflectliteValue.parts v, ← ReflectliteValue.parts x)
      | unsupported (.noEntry "extern/(internal/reflectlite.Value).Set.zeroValue")
    if fl / ReflectliteValue.flagAddr % 2 == 0 then unsupported (.noEntry "extern/(internal/reflectlite.Value).Set.unaddressable")
    let val ← loadVar src b
    if ← Rtype.directlyAssignable dst src then storeVar dst a val
    else if ← Rtype.implements dst src then
      if (← Rtype.kind src) == 20 then
        match val with
        | .nilIface => unsupported (.noEntry "extern/reflectlite: a nil value of one interface type handed on as a value of another")
        | _ => storeVar dst a val
      else storeVar dst a (.iface src val)
    else panicString ("reflectlite.Set: value of type " ++ (← Rtype.spelt src) ++ " is not assignable to type " ++ (← Rtype.spelt dst))
    pure (.tuple #[])) := rfl
theorem re_partsTa (a : Addr) (w : World) : (ReflectliteValue.parts (.agg #[.pointer (some ⟨6, 58, none⟩), .pointer (some a), .int .u64 409])).run Tryz.prog w = .ok (some (58, a, 409)) w := by kernel_rfl
theorem re_partsT (a : Addr) (w : World) : (ReflectliteValue.parts (.agg #[.pointer (some ⟨6, 58, none⟩), .pointer (some a), .int .u64 153])).run Tryz.prog w = .ok (some (58, a, 153)) w := by kernel_rfl
theorem re_direct (w : World) : (Rtype.directlyAssignable 58 58).run Tryz.prog w = .ok true w := by kernel_rfl
theorem re_set (tb b : Nat) (c : Int) (old : Value) (W : World) (hb : W.cell? ⟨b, 0, none⟩ = some (.int .i64 c)) (ht : W.cell? ⟨tb, 0, none⟩ = some old) (hf : W.frozen? ⟨tb, 0, none⟩ = false) :
    (ReflectliteValue.set #[.agg #[.pointer (some ⟨6, 58, none⟩), .pointer (some ⟨tb, 0, none⟩), .int .u64 409], .agg #[.pointer (some ⟨6, 58, none⟩), .pointer (some ⟨b, 0, none⟩), .int .u64 153]]).run Tryz.prog W
      = .ok (.tuple #[]) (W.setCell ⟨tb, 0, none⟩ (.int .i64 c)) := by
  rw [re_setDef]
  simp only [Sem.run_bind, re_partsTa, re_partsT, Result.andThen]
  simp [ReflectliteValue.flagAddr, loadVar, loadCells, loadCellsFrom, hb, Result.andThen, re_direct, storeVar, Value.cells, storeCells, Addr.add]
  rw [run_store Tryz.prog W ⟨tb, 0, none⟩ _ _ (by rfl)]
  simp [ht, hf]
set_option maxHeartbeats 4000000 in
theorem as_hit (tb : Nat) (c : Int) (old : Value) (w : World) (hg : w.cell? ⟨0, 0, none⟩ = some (.iface 114 (.agg #[.pointer (some ⟨6, 42, none⟩)]))) (ht0 : w.cell? ⟨tb, 0, none⟩ = some old) (hf0 : w.frozen? ⟨tb, 0, none⟩ = false) :
    Calls Tryz.prog 30 #[.iface 58 (.agg #[.int .i64 c]), .iface 61 (.pointer (some ⟨tb, 0, none⟩))] w fun ev w' => ev = .returned (.bool true) ∧ w'.cell? ⟨tb, 0, none⟩ = some (.int .i64 c) ∧ ∀ B, B ≤ tb → Below B w w' := by
  have hValueOf := @run_callFunc_extern Tryz.prog 52 _ (fun args => ReflectliteValue.unpack (args.getD 0 (.tuple #[]))) Tryz.func52 (by kernel_rfl) (by kernel_rfl) (by kernel_rfl) (by kernel_rfl)
  have hType := @run_callFunc_extern Tryz.prog 53 _ (ReflectliteValue.methodAny (ReflectliteValue.valueError "reflectlite.Value.Type" 0) (fun t _ _ _ => ReflectliteType.toType t)) Tryz.func53 (by kernel_rfl) (by kernel_rfl) (by kernel_rfl) (by kernel_rfl)
  have hIsNil := @run_callFunc_extern Tryz.prog 54 _ (ReflectliteValue.method (ReflectliteValue.valueError "reflectlite.Value.IsNil" 0) ReflectliteValue.isNil) Tryz.func54 (by kernel_rfl) (by kernel_rfl) (by kernel_rfl) (by kernel_rfl)
  have hKind := @run_callFunc_extern Tryz.prog 163 _ (ReflectliteType.abiMethod fun t => do pure (.int .u8 (← Rtype.kind t))) Tryz.func163 (by kernel_rfl) (by kernel_rfl) (by kernel_rfl) (by kernel_rfl)
  have hElem := @run_callFunc_extern Tryz.prog 173 _ (ReflectliteType.method ReflectliteType.elem) Tryz.func173 (by kernel_rfl) (by kernel_rfl) (by kernel_rfl) (by kernel_rfl)
  have hImpl := @run_callFunc_extern Tryz.prog 174 _ (ReflectliteType.relation "Implements" ReflectliteType.implements_) Tryz.func174 (by kernel_rfl) (by kernel_rfl) (by kernel_rfl) (by kernel_rfl)
  have hTypeOf := @run_callFunc_extern Tryz.prog 82 _ ReflectliteType.typeOf Tryz.func82 (by kernel_rfl) (by kernel_rfl) (by kernel_rfl) (by kernel_rfl)
  have hAsg := @run_callFunc_extern Tryz.prog 171 _ (ReflectliteType.relation "AssignableTo" ReflectliteType.assignableTo) Tryz.func171 (by kernel_rfl) (by kernel_rfl) (by kernel_rfl) (by kernel_rfl)
  have hElemV := @run_callFunc_extern Tryz.prog 83 _ (ReflectliteValue.method (ReflectliteValue.valueError "reflectlite.Value.Elem" 0) ReflectliteValue.elem) Tryz.func83 (by kernel_rfl) (by kernel_rfl) (by kernel_rfl) (by kernel_rfl)
  have hSet := @run_callFunc_extern Tryz.prog 84 _ ReflectliteValue.set Tryz.func84 (by kernel_rfl) (by kernel_rfl) (by kernel_rfl) (by kernel_rfl)
  have tO := re_typeOf
  have mA := re_mAssignable
  have as1 := re_assignable
  have vT := re_valueT
  have vP := re_valueP
  have ty := re_type
  have mK := re_mKind
  have mE := re_mElem
  have mI := re_mImplements
  have kP := re_kindP
  have kT := re_kindT
  have eT := re_elemT
  have im := re_implements
  have hlt : 0 < w.heap.size := by
    by_cases q : 0 < w.heap.size
    · exact q
    · simp [World.cell?, Array.getElem?_eq_none (Nat.le_of_not_lt q)] at hg
  have htl : tb < w.heap.size := by
    by_cases q : tb < w.heap.size
    · exact q
    · simp [World.cell?, Array.getElem?_eq_none (Nat.le_of_not_lt q)] at ht0
  have n8 := re_isNil ⟨w.heap.size, 0, none⟩ ⟨tb, 0, none⟩ ((w.alloc (.cells #[.pointer (some ⟨tb, 0, none⟩)] 61)).alloc (.cells #[.pointer (some ⟨6, 61, none⟩), .pointer (some ⟨w.heap.size, 0, none⟩), .int .u64 150] 80)) (by simp)
  have hg2 : ((w.alloc (.cells #[.pointer (some ⟨tb, 0, none⟩)] 61)).alloc (.cells #[.pointer (some ⟨6, 61, none⟩), .pointer (some ⟨w.heap.size, 0, none⟩), .int .u64 150] 80)).cell? ⟨0, 0, none⟩ = some (.iface 114 (.agg #[.pointer (some ⟨6, 42, none⟩)])) := by
    rw [World.cell?_alloc_lt _ _ ⟨0, 0, none⟩ (by simp <;> omega), World.cell?_alloc_lt _ _ ⟨0, 0, none⟩ hlt]; exact hg
  have el := re_elemV ⟨w.heap.size, 0, none⟩ ⟨tb, 0, none⟩ (((w.alloc (.cells #[.pointer (some ⟨tb, 0, none⟩)] 61)).alloc (.cells #[.pointer (some ⟨6, 61, none⟩), .pointer (some ⟨w.heap.size, 0, none⟩), .int .u64 150] 80)).alloc (.cells #[.pointer (some ⟨6, 61, none⟩), .pointer (some ⟨w.heap.size, 0, none⟩), .int .u64 150] 80)) (by rw [World.cell?_alloc_lt _ _ ⟨w.heap.size, 0, none⟩ (by simp; omega)]; simp)
  have ht4 : ((((w.alloc (.cells #[.pointer (some ⟨tb, 0, none⟩)] 61)).alloc (.cells #[.pointer (some ⟨6, 61, none⟩), .pointer (some ⟨w.heap.size, 0, none⟩), .int .u64 150] 80)).alloc (.cells #[.pointer (some ⟨6, 61, none⟩), .pointer (some ⟨w.heap.size, 0, none⟩), .int .u64 150] 80)).alloc (.cells #[.int .i64 c] 58)).cell? ⟨tb, 0, none⟩ = some old := by
    rw [World.cell?_alloc_lt _ _ ⟨tb, 0, none⟩ (by simp; omega), World.cell?_alloc_lt _ _ ⟨tb, 0, none⟩ (by simp; omega), World.cell?_alloc_lt _ _ ⟨tb, 0, none⟩ (by simp; omega), World.cell?_alloc_lt _ _ ⟨tb, 0, none⟩ htl]; exact ht0
  have st := re_set tb (w.heap.size + 1 + 1 + 1) c old ((((w.alloc (.cells #[.pointer (some ⟨tb, 0, none⟩)] 61)).alloc (.cells #[.pointer (some ⟨6, 61, none⟩), .pointer (some ⟨w.heap.size, 0, none⟩), .int .u64 150] 80)).alloc (.cells #[.pointer (some ⟨6, 61, none⟩), .pointer (some ⟨w.heap.size, 0, none⟩), .int .u64 150] 80)).alloc (.cells #[.int .i64 c] 58))
    (by rw [World.cell?_alloc_at _ _ _ _ (by simp)]; rfl) ht4
    (by rw [World.frozen?_alloc_old _ _ ⟨tb, 0, none⟩ (by simp; omega), World.frozen?_alloc_old _ _ ⟨tb, 0, none⟩ (by simp; omega), World.frozen?_alloc_old _ _ ⟨tb, 0, none⟩ (by simp; omega), World.frozen?_alloc_old _ _ ⟨tb, 0, none⟩ (Nat.ne_of_lt htl)]; exact hf0)
  have B4 : Below w.heap.size w ((((w.alloc (.cells #[.pointer (some ⟨tb, 0, none⟩)] 61)).alloc (.cells #[.pointer (some ⟨6, 61, none⟩), .pointer (some ⟨w.heap.size, 0, none⟩), .int .u64 150] 80)).alloc (.cells #[.pointer (some ⟨6, 61, none⟩), .pointer (some ⟨w.heap.size, 0, none⟩), .int .u64 150] 80)).alloc (.cells #[.int .i64 c] 58)) := ((((Below.refl _ w).alloc (Nat.le_refl _) _).alloc (by simp) _).alloc (by simp; omega) _).alloc (by simp; omega) _
  have HF : Hid ((((((w.alloc (.cells #[.pointer (some ⟨tb, 0, none⟩)] 61)).alloc (.cells #[.pointer (some ⟨6, 61, none⟩), .pointer (some ⟨w.heap.size, 0, none⟩), .int .u64 150] 80)).alloc (.cells #[.pointer (some ⟨6, 61, none⟩), .pointer (some ⟨w.heap.size, 0, none⟩), .int .u64 150] 80)).alloc (.cells #[.int .i64 c] 58)).setCell ⟨tb, 0, none⟩ (.int .i64 c)).cell? ⟨tb, 0, none⟩ = some (.int .i64 c) ∧ ∀ B, B ≤ tb → Below B w (((((w.alloc (.cells #[.pointer (some ⟨tb, 0, none⟩)] 61)).alloc (.cells #[.pointer (some ⟨6, 61, none⟩), .pointer (some ⟨w.heap.size, 0, none⟩), .int .u64 150] 80)).alloc (.cells #[.pointer (some ⟨6, 61, none⟩), .pointer (some ⟨w.heap.size, 0, none⟩), .int .u64 150] 80)).alloc (.cells #[.int .i64 c] 58)).setCell ⟨tb, 0, none⟩ (.int .i64 c))) := Lib.hid ⟨World.cell?_setCell_same _ _ _ ht4, fun B hB => (B4.mono (by omega)).setCell (p := ⟨tb, 0, none⟩) hB _⟩
  clear B4 ht4
  go_enter Tryz.func30, Tryz.ntmps30
  go_wp2
  refine wp_loop_rounds 1 ?_
  rw [rounds_succ]
  go_wp2
  go_ret
  exact ⟨rfl, HF.out⟩
theorem codeOf_nil (w : World) :
    Calls Tryz.prog 14 #[.nilIface] w fun e w' => e = .returned (.int .i64 0) ∧ Below w.heap.size w w' := by
  have H := Lib.hid as_nil
  go_enter Tryz.func14, Tryz.ntmps14
  go_wp2_with fail
  refine (H.out _ _).mono ?_
  rintro e w1 ⟨rfl, rfl⟩
  go_wp2
  go_ret
  exact ⟨rfl, (Below.refl _ _).alloc (Nat.le_refl _) _⟩
/-- What the walks ask of the library's handle of the type error. -/
def Handle (w : World) : Prop := w.cell? ⟨0, 0, none⟩ = some (.iface 114 (.agg #[.pointer (some ⟨6, 42, none⟩)]))
theorem Handle.lt {w : World} (h : Handle w) : 0 < w.heap.size := by
  by_cases q : 0 < w.heap.size
  · exact q
  · simp [Handle, World.cell?, Array.getElem?_eq_none (Nat.le_of_not_lt q)] at h
theorem Handle.below {w w' : World} (h : Handle w) (hb : Below w.heap.size w w') : Handle w' := (hb.cell (p := ⟨0, 0, none⟩) h.lt).trans h
def errv (c : Int) : Value := .iface 58 (.agg #[.int .i64 c])
theorem codeOf_err (c : Int) (w : World) (hh : Handle w) :
    Calls Tryz.prog 14 #[.iface 58 (.agg #[.int .i64 c])] w fun e w' => e = .returned (.int .i64 c) ∧ Below w.heap.size w w' := by
  have H := Lib.hid (fun (w : World) hg h0 hf => as_hit w.heap.size c (.int .i64 0) (w.alloc (.cells #[.int .i64 0] 58)) hg h0 hf)
  have HH := Lib.hid (hh.below ((Below.refl _ _).alloc (Nat.le_refl _) (.cells #[.int .i64 0] 58)))
  have B0 := Lib.hid ((Below.refl w.heap.size w).alloc (Nat.le_refl _) (.cells #[.int .i64 0] 58))
  clear hh
  go_enter Tryz.func14, Tryz.ntmps14
  go_wp2_with fail
  refine (H.out w HH.out (by simp) (by simp)).mono ?_
  rintro e w1 ⟨rfl, hc, hb⟩
  have B1 := Lib.hid (B0.out.trans (hb _ (Nat.le_refl _)))
  clear hb
  go_wp2
  go_ret
  exact ⟨rfl, B1.out⟩
end Go.Proofs.YtancidbbkoeokaaGreatDoor

/- Contract of impl.block's method head. -/
namespace Go.Proofs.YtancidbbkoeokaaGreatDoor
open Go.ChangeShapes Go.WideShapes Go.ChangeAt Go.RowKit

def zHead : Array Value := #[.int .i64 0, .string ⟨#[]⟩, .string ⟨#[]⟩, .int .i64 0, .int .i64 0, .int .i64 0, .int .i64 0, .string ⟨#[]⟩, .string ⟨#[]⟩, .string ⟨#[]⟩, .string ⟨#[]⟩, .int .i64 0]
/-- What the fields of h hold behind i numbers. -/
def hcl (fl : ByteArray) (M U G Z T : Int) : Nat → Array Value
  | 0 => #[.int .i64 0, .string ⟨#[]⟩, .string ⟨#[]⟩, .int .i64 0, .int .i64 0, .int .i64 0, .int .i64 0, .string ⟨#[]⟩, .string ⟨#[]⟩, .string ⟨#[]⟩, .string fl, .int .i64 0]
  | 1 => #[.int .i64 0, .string ⟨#[]⟩, .string ⟨#[]⟩, .int .i64 M, .int .i64 0, .int .i64 0, .int .i64 0, .string ⟨#[]⟩, .string ⟨#[]⟩, .string ⟨#[]⟩, .string fl, .int .i64 0]
  | 2 => #[.int .i64 0, .string ⟨#[]⟩, .string ⟨#[]⟩, .int .i64 M, .int .i64 U, .int .i64 0, .int .i64 0, .string ⟨#[]⟩, .string ⟨#[]⟩, .string ⟨#[]⟩, .string fl, .int .i64 0]
  | 3 => #[.int .i64 0, .string ⟨#[]⟩, .string ⟨#[]⟩, .int .i64 M, .int .i64 U, .int .i64 G, .int .i64 0, .string ⟨#[]⟩, .string ⟨#[]⟩, .string ⟨#[]⟩, .string fl, .int .i64 0]
  | 4 => #[.int .i64 0, .string ⟨#[]⟩, .string ⟨#[]⟩, .int .i64 M, .int .i64 U, .int .i64 G, .int .i64 0, .string ⟨#[]⟩, .string ⟨#[]⟩, .string ⟨#[]⟩, .string fl, .int .i64 Z]
  | _ => #[.int .i64 0, .string ⟨#[]⟩, .string ⟨#[]⟩, .int .i64 M, .int .i64 U, .int .i64 G, .int .i64 T, .string ⟨#[]⟩, .string ⟨#[]⟩, .string ⟨#[]⟩, .string fl, .int .i64 Z]
theorem results_cell2 {P : Program} {fn : Func} {p u : Tmp} {ty : TypeId} (h : fn.results = #[.cell p ty, .tmp u]) (tmps : Array Value) (w : World) (g : Nat) (t : TypeId) (cs : Array Value) (fr : Nat × Nat) (d : TypeDesc)
    (hp : tmps.getD p undef = .pointer (some ⟨g, 0, none⟩)) (hg : w.heap[g]? = some (.cells cs t fr))
    (hu : P.underlying ty = some d) (hd : (match d with | .struct _ | .array _ _ => true | _ => false) = true) (hi : (P.info? ty).map (·.size) = some cs.size) :
    (results fn tmps).run P w = .ok (.tuple #[.agg cs, tmps.getD u undef]) w := by
  rw [results_cell_tmp h, hp]
  simp [asAddr, run_loadVar_row w g t ty cs fr d hg hu hd hi, Result.andThen]
theorem Tryz.sizeHd : (Tryz.prog.info? 40).map (·.size) = some 12 := by kernel_rfl
theorem obj_frozen {w : World} {g j : Nat} {cs : Array Value} {t : TypeId} (h : w.heap[g]? = some (.cells cs t (0, 0))) : w.frozen? ⟨g, j, none⟩ = false := by simp [World.frozen?, h]
def fW (l : List UInt8) (k : Nat) : ByteArray := fieldv l k (widths.getD k 0)
def ok5G (ok : Nat → Bool) : Nat → Bool
  | 0 => true
  | i + 1 => ok5G ok i && ok (i + 1)
def pathL (l : List UInt8) : ByteArray := if (cutv (fW l 14)).size = 0 then cutv (fW l 0) else cutv (fW l 14) ++ ⟨#[47]⟩ ++ cutv (fW l 0)
def headOkG (ok : Nat → Bool) (val : Nat → Int) : Bool := ok5G ok 5 && decide (val 4 ≤ 3000)
def okCellsG (l : List UInt8) (val : Nat → Int) : Array Value := #[.int .i64 0, .string (pathL l), .string (cutv (fW l 8)), .int .i64 (val 1), .int .i64 (val 2), .int .i64 (val 3), .int .i64 (val 5), .string (cutv (fW l 10)), .string (cutv (fW l 11)), .string ⟨#[]⟩, .string (fW l 7), .int .i64 (val 4)]
def headVG (l : List UInt8) (ok : Nat → Bool) (val : Nat → Int) : Value := if headOkG ok val = true then .tuple #[.agg (okCellsG l val), .nilIface] else .tuple #[.agg zHead, .iface 58 (.agg #[.int .i64 3])]
theorem ok5_badG {ok : Nat → Bool} {val : Nat → Int} {i : Nat} (hi : i < 5) (h : ok (i + 1) = false) : headOkG ok val = false := by
  have key : ∀ n, i < n → ok5G ok n = false := by
    intro n
    induction n with
    | zero => intro h; omega
    | succ n ih =>
      intro hn
      by_cases q : i = n
      · subst q; rw [ok5G, h, Bool.and_false]
      · rw [ok5G, ih (by omega), Bool.false_and]
  rw [headOkG, key 5 hi, Bool.false_and]
theorem head_badG {l : List UInt8} {ok : Nat → Bool} {val : Nat → Int} (h : headOkG ok val = false) : headVG l ok val = .tuple #[.agg zHead, .iface 58 (.agg #[.int .i64 3])] := by rw [headVG, h]; rfl
theorem three_new (w : World) (a b c : Obj) : (((w.alloc a).alloc b).alloc c).drew.heap[w.heap.size]? = some a ∧ (((w.alloc a).alloc b).alloc c).drew.heap[w.heap.size + 1]? = some b ∧ Below w.heap.size w (((w.alloc a).alloc b).alloc c).drew := by
  have B1 := (Below.refl w.heap.size w).alloc (Nat.le_refl _) a
  have B2 := (Below.refl (w.alloc a).heap.size (w.alloc a)).alloc (Nat.le_refl _) b
  have B3 := (Below.refl ((w.alloc a).alloc b).heap.size ((w.alloc a).alloc b)).alloc (Nat.le_refl _) c
  have e1 : (w.alloc a).heap.size = w.heap.size + 1 := by simp
  have e2 : ((w.alloc a).alloc b).heap.size = w.heap.size + 1 + 1 := by simp
  refine ⟨?_, ?_, ?_⟩
  · show (((w.alloc a).alloc b).alloc c).heap[w.heap.size]? = some a
    rw [B3.block _ (by omega), B2.block _ (by omega)]
    exact heap_alloc_last _ _
  · show (((w.alloc a).alloc b).alloc c).heap[w.heap.size + 1]? = some b
    rw [B3.block _ (by omega), ← e1]
    exact heap_alloc_last _ _
  · exact ((B1.trans (B2.mono (by omega))).trans (B3.mono (by omega))).drew
/-- What a store into h leaves. -/
theorem set_new {w wr : World} {R : Nat} {cs cs' : Array Value} {t : TypeId} (off : Nat) (v : Value) (hR : wr.heap[R]? = some (.cells zHead t (0, 0))) (hH : wr.heap[R + 1]? = some (.cells cs t (0, 0))) (hb : Below R w wr) (hc : cs.setIfInBounds off v = cs') :
    (wr.setCell ⟨R + 1, off, none⟩ v).heap[R]? = some (.cells zHead t (0, 0)) ∧ (wr.setCell ⟨R + 1, off, none⟩ v).heap[R + 1]? = some (.cells cs' t (0, 0)) ∧ Below R w (wr.setCell ⟨R + 1, off, none⟩ v) := by
  have B2 := (Below.refl (R + 1) wr).setCell (p := ⟨R + 1, off, none⟩) (Nat.le_refl _) v
  refine ⟨(B2.block R (by omega)).trans hR, ?_, hb.trans (B2.mono (by omega))⟩
  rw [Go.heap_setCell_same _ _ _ cs t v hH, hc]
/-- What a round leaves: a cell of h, and a box more. -/
theorem round_new {w wr : World} {R : Nat} {cs cs' : Array Value} {t : TypeId} (o : Obj) (off : Nat) (v : Value) (hR : wr.heap[R]? = some (.cells zHead t (0, 0))) (hH : wr.heap[R + 1]? = some (.cells cs t (0, 0))) (hb : Below R w wr) (hc : cs.setIfInBounds off v = cs') :
    ((wr.setCell ⟨R + 1, off, none⟩ v).alloc o).heap[R]? = some (.cells zHead t (0, 0)) ∧ ((wr.setCell ⟨R + 1, off, none⟩ v).alloc o).heap[R + 1]? = some (.cells cs' t (0, 0)) ∧ Below R w ((wr.setCell ⟨R + 1, off, none⟩ v).alloc o) := by
  obtain ⟨h1, h2, h3⟩ := set_new off v hR hH hb hc
  have l2 := (Array.getElem?_eq_some_iff.1 h2).1
  have B := (Below.refl (wr.setCell ⟨R + 1, off, none⟩ v).heap.size (wr.setCell ⟨R + 1, off, none⟩ v)).alloc (Nat.le_refl _) o
  exact ⟨(B.block _ (by omega)).trans h1, (B.block _ l2).trans h2, h3.trans (B.mono (by omega))⟩
theorem obj_lt {w : World} {g : Nat} {o : Obj} (h : w.heap[g]? = some o) : g < w.heap.size := (Array.getElem?_eq_some_iff.1 h).1
theorem fW_small (l : List UInt8) (k : Nat) : (cutv (fW l k)).size ≤ 155 := by
  have h := cutv_le (fW l k)
  have h2 : (fW l k).size ≤ widths.getD k 0 := by
    rw [fW, fieldv, ba_size]
    exact List.length_take_le _ _
  have h3 : widths.getD k 0 ≤ 155 := by
    by_cases hk : k < 15
    · obtain ⟨x, hx, _, h, _⟩ := widths_at hk
      simp [List.getD, hx, h]
    · have e : widths[k]? = none := List.getElem?_eq_none (by have : widths.length = 15 := rfl; omega)
      simp [List.getD, e]
  omega
set_option maxHeartbeats 6400000 in
set_option maxRecDepth 8000 in
theorem head_oct (ok : Nat → Bool) (val : Nat → Int) (g : Nat) (l : List UInt8) (w : World) (hN : ∀ k x : Nat, 1 ≤ k → k ≤ 5 → widths[k]? = some x → ∀ w, Tabs w → FW w → Blk w g l → Calls Tryz.prog 48 #[.pointer (some ⟨g, 0, none⟩), .int .i64 k] w fun e w' => e = .returned (if ok k = true then .tuple #[.int .i64 (val k), .nilIface] else .tuple #[.int .i64 0, .iface 58 (.agg #[.int .i64 3])]) ∧ Below w.heap.size w w') (hTb : Tabs w) (hF : FW w) (hB : Blk w g l) :
    Calls Tryz.prog 74 #[.pointer (some ⟨g, 0, none⟩), .func (.func 48) #[] #[]] w fun e w' => e = .returned (headVG l ok val) ∧ Below w.heap.size w w' := by
  have H1 := Lib.hid (fun w h => field_any g 7 1 w (by omega) rfl h)
  have HC := Lib.hid (fun w (h : Blk w g l) => h.convAt 156 1 (by omega))
  rw [show offs 7 = 156 from rfl] at H1
  rw [show (⟨((l.drop 156).take 1).toArray⟩ : ByteArray) = fW l 7 from rfl] at HC
  have HB := Lib.hid hB
  have HF := Lib.hid hF
  have HTb := Lib.hid hTb
  have HNum := Lib.hid hN
  have zg := hB.lt
  clear hB hF hTb hN
  have FA := fun o => Lib.hid (HF.out.below ((Below.refl _ _).alloc (Nat.le_refl _) o))
  have BA := fun o => HC.out _ (HB.out.below ((Below.refl w.heap.size w).alloc (Nat.le_refl _) o) zg)
  obtain ⟨fl, hfl⟩ : ∃ fl, fW l 7 = fl := ⟨_, rfl⟩
  obtain ⟨M, hM⟩ : ∃ M, val 1 = M := ⟨_, rfl⟩
  obtain ⟨U, hU⟩ : ∃ M, val 2 = M := ⟨_, rfl⟩
  obtain ⟨G, hG⟩ : ∃ M, val 3 = M := ⟨_, rfl⟩
  obtain ⟨Z, hZ⟩ : ∃ M, val 4 = M := ⟨_, rfl⟩
  obtain ⟨T, hT⟩ : ∃ M, val 5 = M := ⟨_, rfl⟩
  have HBad := Lib.hid (fun i hi h => head_badG (l := l) (ok5_badG (ok := ok) (val := val) (i := i) hi h))
  simp only [hfl] at BA
  have KM := Lib.hid hM
  have KU := Lib.hid hU
  have KG := Lib.hid hG
  have KZ := Lib.hid hZ
  have KT := Lib.hid hT
  have KF := Lib.hid hfl
  clear hM hU hG hZ hT hfl HC
  go_enter Tryz.func74, Tryz.ntmps74
  go_wp2_with fail
  refine (H1.out _ (FA _).out).mono ?_
  rintro e w1 ⟨rfl, rfl⟩
  go_wp2_with fail
  go_region
  go_wp2_with fail
  go_loopw [39] (fun u wr => ∃ i : Nat, u = .int .i64 i ∧ i ≤ 5 ∧ ok5G ok i = true ∧ wr.heap[w.heap.size]? = some (.cells zHead 40 (0, 0)) ∧ wr.heap[w.heap.size + 1]? = some (.cells (hcl fl M U G Z T i) 40 (0, 0)) ∧ Below w.heap.size w wr) (fun u _ => 5 - (intOf u).toNat)
  case atStart =>
    exact ⟨0, rfl, by omega, rfl, (three_new w _ _ _).1, (three_new w _ _ _).2.1, (three_new w _ _ _).2.2⟩
  case round =>
    obtain ⟨i, rfl, hi, hok, hR, hH, hb⟩ := hrel
    have RO := Lib.hid hR
    have HO := Lib.hid hH
    have B := Lib.hid hb
    have OK := Lib.hid hok
    have lH : w.heap.size + 1 < wr.heap.size := (Array.getElem?_eq_some_iff.1 hH).1
    clear hR hH hb hok FA BA H1
    by_cases h5 : i = 5
    · subst h5
      have HT0 := Lib.hid (fun w hF hB => text_any g 0 100 l w (by omega) rfl hF hB)
      have HT8 := Lib.hid (fun w hF hB => text_any g 8 100 l w (by omega) rfl hF hB)
      have HT10 := Lib.hid (fun w hF hB => text_any g 10 32 l w (by omega) rfl hF hB)
      have HT11 := Lib.hid (fun w hF hB => text_any g 11 32 l w (by omega) rfl hF hB)
      have HT14 := Lib.hid (fun w hF hB => text_any g 14 155 l w (by omega) rfl hF hB)
      rw [show fieldv l 0 100 = fW l 0 from rfl] at HT0
      rw [show fieldv l 8 100 = fW l 8 from rfl] at HT8
      rw [show fieldv l 10 32 = fW l 10 from rfl] at HT10
      rw [show fieldv l 11 32 = fW l 11 from rfl] at HT11
      rw [show fieldv l 14 155 = fW l 14 from rfl] at HT14
      have c11 : wr.cell? ⟨w.heap.size + 1, 11, none⟩ = some (.int .i64 Z) := by rw [cell_of_row _ _ _ _ _ _ HO.out]; rfl
      by_cases hz : Z ≤ 3000
      · have HE : Hid (headVG l ok val = .tuple #[.agg #[.int .i64 0, .string (pathL l), .string (cutv (fW l 8)), .int .i64 M, .int .i64 U, .int .i64 G, .int .i64 T, .string (cutv (fW l 10)), .string (cutv (fW l 11)), .string ⟨#[]⟩, .string fl, .int .i64 Z], .nilIface]) := Lib.hid (by
          have h1 : headOkG ok val = true := by rw [headOkG, OK.out, KZ.out]; simpa using hz
          rw [headVG, h1, okCellsG, KM.out, KU.out, KG.out, KT.out, KZ.out, KF.out]; rfl)
        have HP : Hid (pathL l = if (cutv (fW l 14)).size = 0 then cutv (fW l 0) else cutv (fW l 14) ++ ⟨#[47]⟩ ++ cutv (fW l 0)) := Lib.hid rfl
        have z0 : (cutv (fW l 0)).size ≤ 155 := fW_small l 0
        have z14 : (cutv (fW l 14)).size ≤ 155 := fW_small l 14
        generalize pathL l = pth at HE HP
        generalize cutv (fW l 0) = t0 at *
        generalize cutv (fW l 8) = t8 at *
        generalize cutv (fW l 10) = t10 at *
        generalize cutv (fW l 11) = t11 at *
        generalize cutv (fW l 14) = t14 at *
        clear HBad OK KM KU KG KZ KT KF
        go_wp2_with fail
        refine (HT0.out _ (HF.out.below B.out) (HB.out.below B.out zg)).mono ?_
        rintro e w2 ⟨rfl, hb⟩
        have RO2 := Lib.hid ((hb.block _ (obj_lt RO.out)).trans RO.out)
        have HO2 := Lib.hid ((hb.block _ (obj_lt HO.out)).trans HO.out)
        have B2 := Lib.hid (B.out.trans (hb.mono B.out.size))
        clear hb RO HO B c11
        have cA : w2.cell? ⟨w.heap.size + 1, 1, none⟩ = some (.string ⟨#[]⟩) := by rw [cell_of_row _ _ _ _ _ _ HO2.out]; rfl
        have fA : w2.frozen? ⟨w.heap.size + 1, 1, none⟩ = false := obj_frozen HO2.out
        have S2 := Lib.hid (set_new (cs' := #[.int .i64 0, .string t0, .string ⟨#[]⟩, .int .i64 M, .int .i64 U, .int .i64 G, .int .i64 T, .string ⟨#[]⟩, .string ⟨#[]⟩, .string ⟨#[]⟩, .string fl, .int .i64 Z]) 1 (.string t0) RO2.out HO2.out B2.out rfl)
        go_wp2_with fail
        refine (HT14.out _ (HF.out.below S2.out.2.2) (HB.out.below S2.out.2.2 zg)).mono ?_
        rintro e w3 ⟨rfl, hb⟩
        have RO3 := Lib.hid ((hb.block _ (obj_lt S2.out.1)).trans S2.out.1)
        have HO3 := Lib.hid ((hb.block _ (obj_lt S2.out.2.1)).trans S2.out.2.1)
        have B3 := Lib.hid (S2.out.2.2.trans (hb.mono S2.out.2.2.size))
        clear hb S2 RO2 HO2 B2 cA fA
        by_cases h14 : t14.size = 0
        · have q := empty_t h14
          have hpth : t0 = pth := by rw [HP.out, if_pos h14]
          subst hpth
          clear h14 HP
          go_wp2_with fail
          refine (HT8.out _ (HF.out.below B3.out) (HB.out.below B3.out zg)).mono ?_
          rintro e w5 ⟨rfl, hb⟩
          have RO5 := Lib.hid ((hb.block _ (obj_lt RO3.out)).trans RO3.out)
          have HO5 := Lib.hid ((hb.block _ (obj_lt HO3.out)).trans HO3.out)
          have B5 := Lib.hid (B3.out.trans (hb.mono B3.out.size))
          clear hb
          have cA : w5.cell? ⟨w.heap.size + 1, 2, none⟩ = some (.string ⟨#[]⟩) := by rw [cell_of_row _ _ _ _ _ _ HO5.out]; rfl
          have fA : w5.frozen? ⟨w.heap.size + 1, 2, none⟩ = false := obj_frozen HO5.out
          have S5 := Lib.hid (set_new (cs' := #[.int .i64 0, .string t0, .string t8, .int .i64 M, .int .i64 U, .int .i64 G, .int .i64 T, .string ⟨#[]⟩, .string ⟨#[]⟩, .string ⟨#[]⟩, .string fl, .int .i64 Z]) 2 (.string t8) RO5.out HO5.out B5.out rfl)
          go_wp2_with fail
          refine (HT10.out _ (HF.out.below S5.out.2.2) (HB.out.below S5.out.2.2 zg)).mono ?_
          rintro e w6 ⟨rfl, hb⟩
          have RO6 := Lib.hid ((hb.block _ (obj_lt S5.out.1)).trans S5.out.1)
          have HO6 := Lib.hid ((hb.block _ (obj_lt S5.out.2.1)).trans S5.out.2.1)
          have B6 := Lib.hid (S5.out.2.2.trans (hb.mono S5.out.2.2.size))
          clear hb
          have cA : w6.cell? ⟨w.heap.size + 1, 7, none⟩ = some (.string ⟨#[]⟩) := by rw [cell_of_row _ _ _ _ _ _ HO6.out]; rfl
          have fA : w6.frozen? ⟨w.heap.size + 1, 7, none⟩ = false := obj_frozen HO6.out
          have S6 := Lib.hid (set_new (cs' := #[.int .i64 0, .string t0, .string t8, .int .i64 M, .int .i64 U, .int .i64 G, .int .i64 T, .string t10, .string ⟨#[]⟩, .string ⟨#[]⟩, .string fl, .int .i64 Z]) 7 (.string t10) RO6.out HO6.out B6.out rfl)
          go_wp2_with fail
          refine (HT11.out _ (HF.out.below S6.out.2.2) (HB.out.below S6.out.2.2 zg)).mono ?_
          rintro e w7 ⟨rfl, hb⟩
          have RO7 := Lib.hid ((hb.block _ (obj_lt S6.out.1)).trans S6.out.1)
          have HO7 := Lib.hid ((hb.block _ (obj_lt S6.out.2.1)).trans S6.out.2.1)
          have B7 := Lib.hid (S6.out.2.2.trans (hb.mono S6.out.2.2.size))
          clear hb
          have cA : w7.cell? ⟨w.heap.size + 1, 8, none⟩ = some (.string ⟨#[]⟩) := by rw [cell_of_row _ _ _ _ _ _ HO7.out]; rfl
          have fA : w7.frozen? ⟨w.heap.size + 1, 8, none⟩ = false := obj_frozen HO7.out
          have S7 := Lib.hid (set_new (cs' := #[.int .i64 0, .string t0, .string t8, .int .i64 M, .int .i64 U, .int .i64 G, .int .i64 T, .string t10, .string t11, .string ⟨#[]⟩, .string fl, .int .i64 Z]) 8 (.string t11) RO7.out HO7.out B7.out rfl)
          have HLd := Lib.hid (run_loadVar_row (P := Tryz.prog) _ _ 40 40 _ (0, 0) _ S7.out.2.1 Tryz.underlying40 rfl (by rw [Tryz.sizeHd]; rfl))
          have HSt := Lib.hid (run_storeVar_row (P := Tryz.prog) _ w.heap.size 40 40 zHead #[.int .i64 0, .string t0, .string t8, .int .i64 M, .int .i64 U, .int .i64 G, .int .i64 T, .string t10, .string t11, .string ⟨#[]⟩, .string fl, .int .i64 Z] S7.out.1 (by rw [Tryz.sizeHd]; rfl) rfl (by simp [Value.oneCell']))
          go_wp2_with (first
            | ((with_reducible refine wpList_load_eq rfl 40 _ rfl ⟨w.heap.size + 1, 0, none⟩ ?_ HLd.out ?_); rfl)
            | ((with_reducible refine wpList_store_eq rfl 40 _ _ rfl ⟨w.heap.size, 0, none⟩ ?_ ?_ HSt.out ?_); rfl; rfl))
          refine bodyPost_ret (results_cell2 rfl _ _ w.heap.size _ #[.int .i64 0, .string t0, .string t8, .int .i64 M, .int .i64 U, .int .i64 G, .int .i64 T, .string t10, .string t11, .string ⟨#[]⟩, .string fl, .int .i64 Z] (0, 0) _ rfl (setRow_heap _ _ _ _ _ _ S7.out.1) Tryz.underlying40 rfl (by rw [Tryz.sizeHd]; rfl)) rfl ?_
          rw [HE.out]
          exact ⟨rfl, S7.out.2.2.trans (below_set (Nat.le_refl _) _)⟩
        · have q := empty_f h14
          have HPP : Hid (t14 ++ ⟨#[47]⟩ ++ t0 = pth) := Lib.hid (by rw [HP.out, if_neg h14])
          have cA : w3.cell? ⟨w.heap.size + 1, 1, none⟩ = some (.string t0) := by rw [cell_of_row _ _ _ _ _ _ HO3.out]; rfl
          have fA : w3.frozen? ⟨w.heap.size + 1, 1, none⟩ = false := obj_frozen HO3.out
          have zs : (t14 ++ (⟨#[47]⟩ : ByteArray)).size ≤ 156 := by rw [ByteArray.size_append]; have : (⟨#[47]⟩ : ByteArray).size = 1 := rfl; omega
          have S3 := Lib.hid (set_new (cs' := #[.int .i64 0, .string pth, .string ⟨#[]⟩, .int .i64 M, .int .i64 U, .int .i64 G, .int .i64 T, .string ⟨#[]⟩, .string ⟨#[]⟩, .string ⟨#[]⟩, .string fl, .int .i64 Z]) 1 (.string pth) RO3.out HO3.out B3.out rfl)
          rw [← HPP.out] at S3
          clear h14 HP RO3 HO3 B3
          go_wp2_with fail
          refine (HT8.out _ (HF.out.below S3.out.2.2) (HB.out.below S3.out.2.2 zg)).mono ?_
          rintro e w5 ⟨rfl, hb⟩
          have RO5 := Lib.hid ((hb.block _ (obj_lt S3.out.1)).trans S3.out.1)
          have HO5 := Lib.hid ((hb.block _ (obj_lt S3.out.2.1)).trans S3.out.2.1)
          have B5 := Lib.hid (S3.out.2.2.trans (hb.mono S3.out.2.2.size))
          clear hb
          have cA : w5.cell? ⟨w.heap.size + 1, 2, none⟩ = some (.string ⟨#[]⟩) := by rw [cell_of_row _ _ _ _ _ _ HO5.out]; rfl
          have fA : w5.frozen? ⟨w.heap.size + 1, 2, none⟩ = false := obj_frozen HO5.out
          have S5 := Lib.hid (set_new (cs' := #[.int .i64 0, .string (t14 ++ ⟨#[47]⟩ ++ t0), .string t8, .int .i64 M, .int .i64 U, .int .i64 G, .int .i64 T, .string ⟨#[]⟩, .string ⟨#[]⟩, .string ⟨#[]⟩, .string fl, .int .i64 Z]) 2 (.string t8) RO5.out HO5.out B5.out rfl)
          go_wp2_with fail
          refine (HT10.out _ (HF.out.below S5.out.2.2) (HB.out.below S5.out.2.2 zg)).mono ?_
          rintro e w6 ⟨rfl, hb⟩
          have RO6 := Lib.hid ((hb.block _ (obj_lt S5.out.1)).trans S5.out.1)
          have HO6 := Lib.hid ((hb.block _ (obj_lt S5.out.2.1)).trans S5.out.2.1)
          have B6 := Lib.hid (S5.out.2.2.trans (hb.mono S5.out.2.2.size))
          clear hb
          have cA : w6.cell? ⟨w.heap.size + 1, 7, none⟩ = some (.string ⟨#[]⟩) := by rw [cell_of_row _ _ _ _ _ _ HO6.out]; rfl
          have fA : w6.frozen? ⟨w.heap.size + 1, 7, none⟩ = false := obj_frozen HO6.out
          have S6 := Lib.hid (set_new (cs' := #[.int .i64 0, .string (t14 ++ ⟨#[47]⟩ ++ t0), .string t8, .int .i64 M, .int .i64 U, .int .i64 G, .int .i64 T, .string t10, .string ⟨#[]⟩, .string ⟨#[]⟩, .string fl, .int .i64 Z]) 7 (.string t10) RO6.out HO6.out B6.out rfl)
          go_wp2_with fail
          refine (HT11.out _ (HF.out.below S6.out.2.2) (HB.out.below S6.out.2.2 zg)).mono ?_
          rintro e w7 ⟨rfl, hb⟩
          have RO7 := Lib.hid ((hb.block _ (obj_lt S6.out.1)).trans S6.out.1)
          have HO7 := Lib.hid ((hb.block _ (obj_lt S6.out.2.1)).trans S6.out.2.1)
          have B7 := Lib.hid (S6.out.2.2.trans (hb.mono S6.out.2.2.size))
          clear hb
          have cA : w7.cell? ⟨w.heap.size + 1, 8, none⟩ = some (.string ⟨#[]⟩) := by rw [cell_of_row _ _ _ _ _ _ HO7.out]; rfl
          have fA : w7.frozen? ⟨w.heap.size + 1, 8, none⟩ = false := obj_frozen HO7.out
          have S7 := Lib.hid (set_new (cs' := #[.int .i64 0, .string (t14 ++ ⟨#[47]⟩ ++ t0), .string t8, .int .i64 M, .int .i64 U, .int .i64 G, .int .i64 T, .string t10, .string t11, .string ⟨#[]⟩, .string fl, .int .i64 Z]) 8 (.string t11) RO7.out HO7.out B7.out rfl)
          have HLd := Lib.hid (run_loadVar_row (P := Tryz.prog) _ _ 40 40 _ (0, 0) _ S7.out.2.1 Tryz.underlying40 rfl (by rw [Tryz.sizeHd]; rfl))
          have HSt := Lib.hid (run_storeVar_row (P := Tryz.prog) _ w.heap.size 40 40 zHead #[.int .i64 0, .string (t14 ++ ⟨#[47]⟩ ++ t0), .string t8, .int .i64 M, .int .i64 U, .int .i64 G, .int .i64 T, .string t10, .string t11, .string ⟨#[]⟩, .string fl, .int .i64 Z] S7.out.1 (by rw [Tryz.sizeHd]; rfl) rfl (by simp [Value.oneCell']))
          go_wp2_with (first
            | ((with_reducible refine wpList_load_eq rfl 40 _ rfl ⟨w.heap.size + 1, 0, none⟩ ?_ HLd.out ?_); rfl)
            | ((with_reducible refine wpList_store_eq rfl 40 _ _ rfl ⟨w.heap.size, 0, none⟩ ?_ ?_ HSt.out ?_); rfl; rfl))
          refine bodyPost_ret (results_cell2 rfl _ _ w.heap.size _ #[.int .i64 0, .string (t14 ++ ⟨#[47]⟩ ++ t0), .string t8, .int .i64 M, .int .i64 U, .int .i64 G, .int .i64 T, .string t10, .string t11, .string ⟨#[]⟩, .string fl, .int .i64 Z] (0, 0) _ rfl (setRow_heap _ _ _ _ _ _ S7.out.1) Tryz.underlying40 rfl (by rw [Tryz.sizeHd]; rfl)) rfl ?_
          rw [HE.out, ← HPP.out]
          exact ⟨rfl, S7.out.2.2.trans (below_set (Nat.le_refl _) _)⟩
      · have HE := Lib.hid (head_badG (l := l) (ok := ok) (val := val) (by rw [headOkG, KZ.out]; simp [hz]))
        have HSt := Lib.hid (run_storeVar_row (P := Tryz.prog) wr w.heap.size 40 40 zHead zHead RO.out (by rw [Tryz.sizeHd]; rfl) rfl (by simp [zHead, Value.oneCell']))
        clear HBad OK KM KU KG KZ KT KF
        go_wp2_with ((with_reducible refine wpList_store_eq rfl 40 _ _ rfl ⟨w.heap.size, 0, none⟩ ?_ ?_ HSt.out ?_); rfl; rfl)
        refine bodyPost_ret (results_cell2 rfl _ _ w.heap.size _ zHead (0, 0) _ rfl (setRow_heap _ _ _ _ _ _ RO.out) Tryz.underlying40 rfl (by rw [Tryz.sizeHd]; rfl)) rfl ?_
        rw [HE.out]
        exact ⟨rfl, B.out.trans (below_set (Nat.le_refl _) _)⟩
    · rcases (show i = 0 ∨ i = 1 ∨ i = 2 ∨ i = 3 ∨ i = 4 by omega) with rfl | rfl | rfl | rfl | rfl
      · have HN := Lib.hid (fun w hTb hF hB => HNum.out 1 8 (by omega) (by omega) rfl w hTb hF hB)
        rw [KM.out] at HN
        have hI : ∀ W, (Instr.index 146 (.agg #[.int .i64 1, .pointer (some ⟨w.heap.size + 1, 3, none⟩), .int .i64 2, .pointer (some ⟨w.heap.size + 1, 4, none⟩), .int .i64 3, .pointer (some ⟨w.heap.size + 1, 5, none⟩), .int .i64 4, .pointer (some ⟨w.heap.size + 1, 11, none⟩), .int .i64 5, .pointer (some ⟨w.heap.size + 1, 6, none⟩)]) (.int .i64 0)).run Tryz.prog W = .ok (.agg #[.int .i64 1, .pointer (some ⟨w.heap.size + 1, 3, none⟩)]) W := fun W => by kernel_rfl
        obtain ⟨bx, hbx⟩ : ∃ bx, bx = Obj.cells #[.int .i64 1, .pointer (some ⟨w.heap.size + 1, 3, none⟩)] 145 := ⟨_, rfl⟩
        have BX := (Below.refl wr.heap.size wr).alloc (Nat.le_refl _) bx
        have FX := Lib.hid ((HF.out.below B.out).below BX)
        have TX := Lib.hid ((HTb.out.below B.out).below BX)
        have KX := Lib.hid ((HB.out.below B.out zg).below BX (Nat.lt_of_lt_of_le zg B.out.size))
        have HX := Lib.hid ((BX.block _ lH).trans HO.out)
        have RX := Lib.hid ((BX.block w.heap.size (by omega)).trans RO.out)
        have B1 := Lib.hid (B.out.trans (BX.mono B.out.size))
        have QX : Hid ((wr.alloc bx).heap[wr.heap.size]? = some bx) := Lib.hid (heap_alloc_last _ _)
        subst hbx
        cases ho : ok 1 with
        | true =>
          rw [ho] at HN
          simp only [if_true] at HN
          have HK : Hid (ok5G ok 1 = true) := Lib.hid (by rw [ok5G, OK.out, ho]; rfl)
          clear ho BX HBad KM KU KG KZ KT KF
          go_wp2_with fail
          refine (HN.out _ TX.out FX.out KX.out).mono ?_
          rintro e w2 ⟨rfl, hb⟩
          have HX2 := Lib.hid ((hb.block _ (obj_lt HX.out)).trans HX.out)
          have RX2 := Lib.hid ((hb.block _ (obj_lt RX.out)).trans RX.out)
          have QX2 := Lib.hid ((hb.block _ (obj_lt QX.out)).trans QX.out)
          have B2 := Lib.hid (B1.out.trans (hb.mono B1.out.size))
          clear hb HX RX QX B1 TX FX KX B RO HO
          have cX : w2.cell? ⟨w.heap.size + 1, 3, none⟩ = some (.int .i64 0) := by rw [cell_of_row _ _ _ _ _ _ HX2.out]; rfl
          have fX : w2.frozen? ⟨w.heap.size + 1, 3, none⟩ = false := obj_frozen HX2.out
          have cQ : w2.cell? ⟨wr.heap.size, 1, none⟩ = some (.pointer (some ⟨w.heap.size + 1, 3, none⟩)) := by rw [cell_of_row _ _ _ _ _ _ QX2.out]; rfl
          have HRN := Lib.hid (set_new (cs' := hcl fl M U G Z T 1) 3 (.int .i64 M) RX2.out HX2.out B2.out rfl)
          go_wp2_with fail
          go_roundw
          case rel => exact ⟨1, by go_num, by omega, HK.out, HRN.out.1, HRN.out.2.1, HRN.out.2.2⟩
          case measure => simp [intOf]
        | false =>
          have HE := Lib.hid (HBad.out 0 (by omega) ho)
          rw [ho] at HN
          simp only [Bool.false_eq_true, if_false] at HN
          clear ho BX HBad KM KU KG KZ KT KF
          go_wp2_with fail
          refine (HN.out _ TX.out FX.out KX.out).mono ?_
          rintro e w2 ⟨rfl, hb⟩
          have RX2 := Lib.hid ((hb.block _ (obj_lt RX.out)).trans RX.out)
          have B2 := Lib.hid (B1.out.trans (hb.mono B1.out.size))
          have HSt := Lib.hid (run_storeVar_row (P := Tryz.prog) w2 w.heap.size 40 40 zHead zHead RX2.out (by rw [Tryz.sizeHd]; rfl) rfl (by simp [zHead, Value.oneCell']))
          clear hb HX RX QX B1 TX FX KX B RO HO
          go_wp2_with ((with_reducible refine wpList_store_eq rfl 40 _ _ rfl ⟨w.heap.size, 0, none⟩ ?_ ?_ HSt.out ?_); rfl; rfl)
          refine bodyPost_ret (results_cell2 rfl _ _ w.heap.size _ zHead (0, 0) _ rfl (setRow_heap _ _ _ _ _ _ RX2.out) Tryz.underlying40 rfl (by rw [Tryz.sizeHd]; rfl)) rfl ?_
          rw [HE.out]
          exact ⟨rfl, B2.out.trans (below_set (Nat.le_refl _) _)⟩
      · have HN := Lib.hid (fun w hTb hF hB => HNum.out 2 8 (by omega) (by omega) rfl w hTb hF hB)
        rw [KU.out] at HN
        have hI : ∀ W, (Instr.index 146 (.agg #[.int .i64 1, .pointer (some ⟨w.heap.size + 1, 3, none⟩), .int .i64 2, .pointer (some ⟨w.heap.size + 1, 4, none⟩), .int .i64 3, .pointer (some ⟨w.heap.size + 1, 5, none⟩), .int .i64 4, .pointer (some ⟨w.heap.size + 1, 11, none⟩), .int .i64 5, .pointer (some ⟨w.heap.size + 1, 6, none⟩)]) (.int .i64 1)).run Tryz.prog W = .ok (.agg #[.int .i64 2, .pointer (some ⟨w.heap.size + 1, 4, none⟩)]) W := fun W => by kernel_rfl
        obtain ⟨bx, hbx⟩ : ∃ bx, bx = Obj.cells #[.int .i64 2, .pointer (some ⟨w.heap.size + 1, 4, none⟩)] 145 := ⟨_, rfl⟩
        have BX := (Below.refl wr.heap.size wr).alloc (Nat.le_refl _) bx
        have FX := Lib.hid ((HF.out.below B.out).below BX)
        have TX := Lib.hid ((HTb.out.below B.out).below BX)
        have KX := Lib.hid ((HB.out.below B.out zg).below BX (Nat.lt_of_lt_of_le zg B.out.size))
        have HX := Lib.hid ((BX.block _ lH).trans HO.out)
        have RX := Lib.hid ((BX.block w.heap.size (by omega)).trans RO.out)
        have B1 := Lib.hid (B.out.trans (BX.mono B.out.size))
        have QX : Hid ((wr.alloc bx).heap[wr.heap.size]? = some bx) := Lib.hid (heap_alloc_last _ _)
        subst hbx
        cases ho : ok 2 with
        | true =>
          rw [ho] at HN
          simp only [if_true] at HN
          have HK : Hid (ok5G ok 2 = true) := Lib.hid (by rw [ok5G, OK.out, ho]; rfl)
          clear ho BX HBad KM KU KG KZ KT KF
          go_wp2_with fail
          refine (HN.out _ TX.out FX.out KX.out).mono ?_
          rintro e w2 ⟨rfl, hb⟩
          have HX2 := Lib.hid ((hb.block _ (obj_lt HX.out)).trans HX.out)
          have RX2 := Lib.hid ((hb.block _ (obj_lt RX.out)).trans RX.out)
          have QX2 := Lib.hid ((hb.block _ (obj_lt QX.out)).trans QX.out)
          have B2 := Lib.hid (B1.out.trans (hb.mono B1.out.size))
          clear hb HX RX QX B1 TX FX KX B RO HO
          have cX : w2.cell? ⟨w.heap.size + 1, 4, none⟩ = some (.int .i64 0) := by rw [cell_of_row _ _ _ _ _ _ HX2.out]; rfl
          have fX : w2.frozen? ⟨w.heap.size + 1, 4, none⟩ = false := obj_frozen HX2.out
          have cQ : w2.cell? ⟨wr.heap.size, 1, none⟩ = some (.pointer (some ⟨w.heap.size + 1, 4, none⟩)) := by rw [cell_of_row _ _ _ _ _ _ QX2.out]; rfl
          have HRN := Lib.hid (set_new (cs' := hcl fl M U G Z T 2) 4 (.int .i64 U) RX2.out HX2.out B2.out rfl)
          go_wp2_with fail
          go_roundw
          case rel => exact ⟨2, by go_num, by omega, HK.out, HRN.out.1, HRN.out.2.1, HRN.out.2.2⟩
          case measure => simp [intOf]
        | false =>
          have HE := Lib.hid (HBad.out 1 (by omega) ho)
          rw [ho] at HN
          simp only [Bool.false_eq_true, if_false] at HN
          clear ho BX HBad KM KU KG KZ KT KF
          go_wp2_with fail
          refine (HN.out _ TX.out FX.out KX.out).mono ?_
          rintro e w2 ⟨rfl, hb⟩
          have RX2 := Lib.hid ((hb.block _ (obj_lt RX.out)).trans RX.out)
          have B2 := Lib.hid (B1.out.trans (hb.mono B1.out.size))
          have HSt := Lib.hid (run_storeVar_row (P := Tryz.prog) w2 w.heap.size 40 40 zHead zHead RX2.out (by rw [Tryz.sizeHd]; rfl) rfl (by simp [zHead, Value.oneCell']))
          clear hb HX RX QX B1 TX FX KX B RO HO
          go_wp2_with ((with_reducible refine wpList_store_eq rfl 40 _ _ rfl ⟨w.heap.size, 0, none⟩ ?_ ?_ HSt.out ?_); rfl; rfl)
          refine bodyPost_ret (results_cell2 rfl _ _ w.heap.size _ zHead (0, 0) _ rfl (setRow_heap _ _ _ _ _ _ RX2.out) Tryz.underlying40 rfl (by rw [Tryz.sizeHd]; rfl)) rfl ?_
          rw [HE.out]
          exact ⟨rfl, B2.out.trans (below_set (Nat.le_refl _) _)⟩
      · have HN := Lib.hid (fun w hTb hF hB => HNum.out 3 8 (by omega) (by omega) rfl w hTb hF hB)
        rw [KG.out] at HN
        have hI : ∀ W, (Instr.index 146 (.agg #[.int .i64 1, .pointer (some ⟨w.heap.size + 1, 3, none⟩), .int .i64 2, .pointer (some ⟨w.heap.size + 1, 4, none⟩), .int .i64 3, .pointer (some ⟨w.heap.size + 1, 5, none⟩), .int .i64 4, .pointer (some ⟨w.heap.size + 1, 11, none⟩), .int .i64 5, .pointer (some ⟨w.heap.size + 1, 6, none⟩)]) (.int .i64 2)).run Tryz.prog W = .ok (.agg #[.int .i64 3, .pointer (some ⟨w.heap.size + 1, 5, none⟩)]) W := fun W => by kernel_rfl
        obtain ⟨bx, hbx⟩ : ∃ bx, bx = Obj.cells #[.int .i64 3, .pointer (some ⟨w.heap.size + 1, 5, none⟩)] 145 := ⟨_, rfl⟩
        have BX := (Below.refl wr.heap.size wr).alloc (Nat.le_refl _) bx
        have FX := Lib.hid ((HF.out.below B.out).below BX)
        have TX := Lib.hid ((HTb.out.below B.out).below BX)
        have KX := Lib.hid ((HB.out.below B.out zg).below BX (Nat.lt_of_lt_of_le zg B.out.size))
        have HX := Lib.hid ((BX.block _ lH).trans HO.out)
        have RX := Lib.hid ((BX.block w.heap.size (by omega)).trans RO.out)
        have B1 := Lib.hid (B.out.trans (BX.mono B.out.size))
        have QX : Hid ((wr.alloc bx).heap[wr.heap.size]? = some bx) := Lib.hid (heap_alloc_last _ _)
        subst hbx
        cases ho : ok 3 with
        | true =>
          rw [ho] at HN
          simp only [if_true] at HN
          have HK : Hid (ok5G ok 3 = true) := Lib.hid (by rw [ok5G, OK.out, ho]; rfl)
          clear ho BX HBad KM KU KG KZ KT KF
          go_wp2_with fail
          refine (HN.out _ TX.out FX.out KX.out).mono ?_
          rintro e w2 ⟨rfl, hb⟩
          have HX2 := Lib.hid ((hb.block _ (obj_lt HX.out)).trans HX.out)
          have RX2 := Lib.hid ((hb.block _ (obj_lt RX.out)).trans RX.out)
          have QX2 := Lib.hid ((hb.block _ (obj_lt QX.out)).trans QX.out)
          have B2 := Lib.hid (B1.out.trans (hb.mono B1.out.size))
          clear hb HX RX QX B1 TX FX KX B RO HO
          have cX : w2.cell? ⟨w.heap.size + 1, 5, none⟩ = some (.int .i64 0) := by rw [cell_of_row _ _ _ _ _ _ HX2.out]; rfl
          have fX : w2.frozen? ⟨w.heap.size + 1, 5, none⟩ = false := obj_frozen HX2.out
          have cQ : w2.cell? ⟨wr.heap.size, 1, none⟩ = some (.pointer (some ⟨w.heap.size + 1, 5, none⟩)) := by rw [cell_of_row _ _ _ _ _ _ QX2.out]; rfl
          have HRN := Lib.hid (set_new (cs' := hcl fl M U G Z T 3) 5 (.int .i64 G) RX2.out HX2.out B2.out rfl)
          go_wp2_with fail
          go_roundw
          case rel => exact ⟨3, by go_num, by omega, HK.out, HRN.out.1, HRN.out.2.1, HRN.out.2.2⟩
          case measure => simp [intOf]
        | false =>
          have HE := Lib.hid (HBad.out 2 (by omega) ho)
          rw [ho] at HN
          simp only [Bool.false_eq_true, if_false] at HN
          clear ho BX HBad KM KU KG KZ KT KF
          go_wp2_with fail
          refine (HN.out _ TX.out FX.out KX.out).mono ?_
          rintro e w2 ⟨rfl, hb⟩
          have RX2 := Lib.hid ((hb.block _ (obj_lt RX.out)).trans RX.out)
          have B2 := Lib.hid (B1.out.trans (hb.mono B1.out.size))
          have HSt := Lib.hid (run_storeVar_row (P := Tryz.prog) w2 w.heap.size 40 40 zHead zHead RX2.out (by rw [Tryz.sizeHd]; rfl) rfl (by simp [zHead, Value.oneCell']))
          clear hb HX RX QX B1 TX FX KX B RO HO
          go_wp2_with ((with_reducible refine wpList_store_eq rfl 40 _ _ rfl ⟨w.heap.size, 0, none⟩ ?_ ?_ HSt.out ?_); rfl; rfl)
          refine bodyPost_ret (results_cell2 rfl _ _ w.heap.size _ zHead (0, 0) _ rfl (setRow_heap _ _ _ _ _ _ RX2.out) Tryz.underlying40 rfl (by rw [Tryz.sizeHd]; rfl)) rfl ?_
          rw [HE.out]
          exact ⟨rfl, B2.out.trans (below_set (Nat.le_refl _) _)⟩
      · have HN := Lib.hid (fun w hTb hF hB => HNum.out 4 12 (by omega) (by omega) rfl w hTb hF hB)
        rw [KZ.out] at HN
        have hI : ∀ W, (Instr.index 146 (.agg #[.int .i64 1, .pointer (some ⟨w.heap.size + 1, 3, none⟩), .int .i64 2, .pointer (some ⟨w.heap.size + 1, 4, none⟩), .int .i64 3, .pointer (some ⟨w.heap.size + 1, 5, none⟩), .int .i64 4, .pointer (some ⟨w.heap.size + 1, 11, none⟩), .int .i64 5, .pointer (some ⟨w.heap.size + 1, 6, none⟩)]) (.int .i64 3)).run Tryz.prog W = .ok (.agg #[.int .i64 4, .pointer (some ⟨w.heap.size + 1, 11, none⟩)]) W := fun W => by kernel_rfl
        obtain ⟨bx, hbx⟩ : ∃ bx, bx = Obj.cells #[.int .i64 4, .pointer (some ⟨w.heap.size + 1, 11, none⟩)] 145 := ⟨_, rfl⟩
        have BX := (Below.refl wr.heap.size wr).alloc (Nat.le_refl _) bx
        have FX := Lib.hid ((HF.out.below B.out).below BX)
        have TX := Lib.hid ((HTb.out.below B.out).below BX)
        have KX := Lib.hid ((HB.out.below B.out zg).below BX (Nat.lt_of_lt_of_le zg B.out.size))
        have HX := Lib.hid ((BX.block _ lH).trans HO.out)
        have RX := Lib.hid ((BX.block w.heap.size (by omega)).trans RO.out)
        have B1 := Lib.hid (B.out.trans (BX.mono B.out.size))
        have QX : Hid ((wr.alloc bx).heap[wr.heap.size]? = some bx) := Lib.hid (heap_alloc_last _ _)
        subst hbx
        cases ho : ok 4 with
        | true =>
          rw [ho] at HN
          simp only [if_true] at HN
          have HK : Hid (ok5G ok 4 = true) := Lib.hid (by rw [ok5G, OK.out, ho]; rfl)
          clear ho BX HBad KM KU KG KZ KT KF
          go_wp2_with fail
          refine (HN.out _ TX.out FX.out KX.out).mono ?_
          rintro e w2 ⟨rfl, hb⟩
          have HX2 := Lib.hid ((hb.block _ (obj_lt HX.out)).trans HX.out)
          have RX2 := Lib.hid ((hb.block _ (obj_lt RX.out)).trans RX.out)
          have QX2 := Lib.hid ((hb.block _ (obj_lt QX.out)).trans QX.out)
          have B2 := Lib.hid (B1.out.trans (hb.mono B1.out.size))
          clear hb HX RX QX B1 TX FX KX B RO HO
          have cX : w2.cell? ⟨w.heap.size + 1, 11, none⟩ = some (.int .i64 0) := by rw [cell_of_row _ _ _ _ _ _ HX2.out]; rfl
          have fX : w2.frozen? ⟨w.heap.size + 1, 11, none⟩ = false := obj_frozen HX2.out
          have cQ : w2.cell? ⟨wr.heap.size, 1, none⟩ = some (.pointer (some ⟨w.heap.size + 1, 11, none⟩)) := by rw [cell_of_row _ _ _ _ _ _ QX2.out]; rfl
          have HRN := Lib.hid (set_new (cs' := hcl fl M U G Z T 4) 11 (.int .i64 Z) RX2.out HX2.out B2.out rfl)
          go_wp2_with fail
          go_roundw
          case rel => exact ⟨4, by go_num, by omega, HK.out, HRN.out.1, HRN.out.2.1, HRN.out.2.2⟩
          case measure => simp [intOf]
        | false =>
          have HE := Lib.hid (HBad.out 3 (by omega) ho)
          rw [ho] at HN
          simp only [Bool.false_eq_true, if_false] at HN
          clear ho BX HBad KM KU KG KZ KT KF
          go_wp2_with fail
          refine (HN.out _ TX.out FX.out KX.out).mono ?_
          rintro e w2 ⟨rfl, hb⟩
          have RX2 := Lib.hid ((hb.block _ (obj_lt RX.out)).trans RX.out)
          have B2 := Lib.hid (B1.out.trans (hb.mono B1.out.size))
          have HSt := Lib.hid (run_storeVar_row (P := Tryz.prog) w2 w.heap.size 40 40 zHead zHead RX2.out (by rw [Tryz.sizeHd]; rfl) rfl (by simp [zHead, Value.oneCell']))
          clear hb HX RX QX B1 TX FX KX B RO HO
          go_wp2_with ((with_reducible refine wpList_store_eq rfl 40 _ _ rfl ⟨w.heap.size, 0, none⟩ ?_ ?_ HSt.out ?_); rfl; rfl)
          refine bodyPost_ret (results_cell2 rfl _ _ w.heap.size _ zHead (0, 0) _ rfl (setRow_heap _ _ _ _ _ _ RX2.out) Tryz.underlying40 rfl (by rw [Tryz.sizeHd]; rfl)) rfl ?_
          rw [HE.out]
          exact ⟨rfl, B2.out.trans (below_set (Nat.le_refl _) _)⟩
      · have HN := Lib.hid (fun w hTb hF hB => HNum.out 5 12 (by omega) (by omega) rfl w hTb hF hB)
        rw [KT.out] at HN
        have hI : ∀ W, (Instr.index 146 (.agg #[.int .i64 1, .pointer (some ⟨w.heap.size + 1, 3, none⟩), .int .i64 2, .pointer (some ⟨w.heap.size + 1, 4, none⟩), .int .i64 3, .pointer (some ⟨w.heap.size + 1, 5, none⟩), .int .i64 4, .pointer (some ⟨w.heap.size + 1, 11, none⟩), .int .i64 5, .pointer (some ⟨w.heap.size + 1, 6, none⟩)]) (.int .i64 4)).run Tryz.prog W = .ok (.agg #[.int .i64 5, .pointer (some ⟨w.heap.size + 1, 6, none⟩)]) W := fun W => by kernel_rfl
        obtain ⟨bx, hbx⟩ : ∃ bx, bx = Obj.cells #[.int .i64 5, .pointer (some ⟨w.heap.size + 1, 6, none⟩)] 145 := ⟨_, rfl⟩
        have BX := (Below.refl wr.heap.size wr).alloc (Nat.le_refl _) bx
        have FX := Lib.hid ((HF.out.below B.out).below BX)
        have TX := Lib.hid ((HTb.out.below B.out).below BX)
        have KX := Lib.hid ((HB.out.below B.out zg).below BX (Nat.lt_of_lt_of_le zg B.out.size))
        have HX := Lib.hid ((BX.block _ lH).trans HO.out)
        have RX := Lib.hid ((BX.block w.heap.size (by omega)).trans RO.out)
        have B1 := Lib.hid (B.out.trans (BX.mono B.out.size))
        have QX : Hid ((wr.alloc bx).heap[wr.heap.size]? = some bx) := Lib.hid (heap_alloc_last _ _)
        subst hbx
        cases ho : ok 5 with
        | true =>
          rw [ho] at HN
          simp only [if_true] at HN
          have HK : Hid (ok5G ok 5 = true) := Lib.hid (by rw [ok5G, OK.out, ho]; rfl)
          clear ho BX HBad KM KU KG KZ KT KF
          go_wp2_with fail
          refine (HN.out _ TX.out FX.out KX.out).mono ?_
          rintro e w2 ⟨rfl, hb⟩
          have HX2 := Lib.hid ((hb.block _ (obj_lt HX.out)).trans HX.out)
          have RX2 := Lib.hid ((hb.block _ (obj_lt RX.out)).trans RX.out)
          have QX2 := Lib.hid ((hb.block _ (obj_lt QX.out)).trans QX.out)
          have B2 := Lib.hid (B1.out.trans (hb.mono B1.out.size))
          clear hb HX RX QX B1 TX FX KX B RO HO
          have cX : w2.cell? ⟨w.heap.size + 1, 6, none⟩ = some (.int .i64 0) := by rw [cell_of_row _ _ _ _ _ _ HX2.out]; rfl
          have fX : w2.frozen? ⟨w.heap.size + 1, 6, none⟩ = false := obj_frozen HX2.out
          have cQ : w2.cell? ⟨wr.heap.size, 1, none⟩ = some (.pointer (some ⟨w.heap.size + 1, 6, none⟩)) := by rw [cell_of_row _ _ _ _ _ _ QX2.out]; rfl
          have HRN := Lib.hid (set_new (cs' := hcl fl M U G Z T 5) 6 (.int .i64 T) RX2.out HX2.out B2.out rfl)
          go_wp2_with fail
          go_roundw
          case rel => exact ⟨5, by go_num, by omega, HK.out, HRN.out.1, HRN.out.2.1, HRN.out.2.2⟩
          case measure => simp [intOf]
        | false =>
          have HE := Lib.hid (HBad.out 4 (by omega) ho)
          rw [ho] at HN
          simp only [Bool.false_eq_true, if_false] at HN
          clear ho BX HBad KM KU KG KZ KT KF
          go_wp2_with fail
          refine (HN.out _ TX.out FX.out KX.out).mono ?_
          rintro e w2 ⟨rfl, hb⟩
          have RX2 := Lib.hid ((hb.block _ (obj_lt RX.out)).trans RX.out)
          have B2 := Lib.hid (B1.out.trans (hb.mono B1.out.size))
          have HSt := Lib.hid (run_storeVar_row (P := Tryz.prog) w2 w.heap.size 40 40 zHead zHead RX2.out (by rw [Tryz.sizeHd]; rfl) rfl (by simp [zHead, Value.oneCell']))
          clear hb HX RX QX B1 TX FX KX B RO HO
          go_wp2_with ((with_reducible refine wpList_store_eq rfl 40 _ _ rfl ⟨w.heap.size, 0, none⟩ ?_ ?_ HSt.out ?_); rfl; rfl)
          refine bodyPost_ret (results_cell2 rfl _ _ w.heap.size _ zHead (0, 0) _ rfl (setRow_heap _ _ _ _ _ _ RX2.out) Tryz.underlying40 rfl (by rw [Tryz.sizeHd]; rfl)) rfl ?_
          rw [HE.out]
          exact ⟨rfl, B2.out.trans (below_set (Nat.le_refl _) _)⟩
end Go.Proofs.YtancidbbkoeokaaGreatDoor

/- A statement that draws its order, proved by what each of its operations leaves: an invariant over whatever has come up. Nothing of the program is said here. -/
namespace Go.Proofs.YtancidbbkoeokaaGreatDoor
open Go

section
variable {P : Program} {ops : Array Oper} {Q : Exit → Act → World → Prop} {md : Region.Mode}

/-- How many of the first n have not come up yet. -/
def openOps (n : Nat) (listed : Array Bool) : Nat := ((List.range n).filter fun i => !listed.getD i true).length
theorem set_getD_ne {listed : Array Bool} {i j : Nat} {d : Bool} (h : j ≠ i) : (listed.setIfInBounds i true).getD j d = listed.getD j d := getD_set_ne d (Ne.symm h)
theorem set_getD_self {listed : Array Bool} {i : Nat} {d : Bool} (h : i < listed.size) : (listed.setIfInBounds i true).getD i d = true := by
  simp [Array.getD, h]
theorem lt_of_open {listed : Array Bool} {i : Nat} (h : listed.getD i true = false) : i < listed.size := by
  by_cases hi : i < listed.size
  · exact hi
  · simp [Array.getD, hi] at h
theorem openOps_set {n i : Nat} {listed : Array Bool} (hi : i < n) (hl : listed.getD i true = false) : openOps n (listed.setIfInBounds i true) < openOps n listed := by
  unfold openOps
  have e : ((List.range n).filter fun j => !(listed.setIfInBounds i true).getD j true) = ((List.range n).filter fun j => !listed.getD j true).filter fun j => decide (j ≠ i) := by
    rw [List.filter_filter]
    apply List.filter_congr
    intro j _
    by_cases hj : j = i
    · subst hj
      rw [set_getD_self (lt_of_open hl)]; simp
    · rw [set_getD_ne hj]; simp [hj]
  rw [e]
  apply List.length_filter_lt_length_iff_exists.2
  exact ⟨i, List.mem_filter.2 ⟨List.mem_range.2 hi, by rw [hl]; rfl⟩, by simp⟩
theorem ready_lt {listed : Array Bool} {i : Nat} (h : i ∈ Region.ready md ops listed) : i < ops.size ∧ listed.getD i true = false := by
  obtain ⟨h1, o, h2, _⟩ := mem_ready.1 h
  exact ⟨(Array.getElem?_eq_some_iff.1 h2).1, h1⟩
theorem wpAny_inv (I : Array Bool → Act → World → Prop)
    (hstep : ∀ listed a w, I listed a w → ∀ i ∈ Region.ready md ops listed, wpOp P ops Q i (I (listed.setIfInBounds i true)) a w)
    (hend : ∀ listed a w, I listed a w → Region.ready md ops listed = [] → Q .normal a w) :
    ∀ (fuel : Nat) (listed : Array Bool) (a : Act) (w : World), openOps ops.size listed ≤ fuel → I listed a w → wpAny P md ops Q fuel listed a w
  | 0, listed, a, w, hf, hI => by
    have hr : Region.ready md ops listed = [] := by
      cases h : Region.ready md ops listed with
      | nil => rfl
      | cons i r =>
        have hi := ready_lt (md := md) (ops := ops) (listed := listed) (i := i) (by rw [h]; simp)
        have := openOps_set hi.1 hi.2
        omega
    exact ⟨hr, hend _ _ _ hI hr⟩
  | fuel + 1, listed, a, w, hf, hI => by
    refine ⟨fun hr => hend _ _ _ hI hr, fun i hi => wpOp_mono (fun a' w' h' => wpAny_inv I hstep hend fuel _ a' w' ?_ h') (hstep _ _ _ hI i hi)⟩
    have h1 := ready_lt hi
    have := openOps_set h1.1 h1.2
    omega

theorem getD_put_ne {xs : Array Value} {d t : Nat} {v u : Value} (h : d ≠ t) : (xs.setIfInBounds d v).getD t u = xs.getD t u := by
  simp [Array.getD_eq_getD_getElem?, h]
/-- The slots that an operation looks at. -/
def slotsOf (o : Oper) : List Nat := o.op.operands.toList.filterMap fun | .tmp t => some t | _ => none
theorem slotsOf_mem {o : Oper} {t : Nat} (h : Operand.tmp t ∈ o.op.operands) : t ∈ slotsOf o := List.mem_filterMap.2 ⟨.tmp t, by simpa using h, rfl⟩
/-- Does the region write this slot? -/
def inReg (ops : Array Oper) (t : Nat) : Bool := ops.any fun o => o.dst == some t
theorem inReg_of {i t : Nat} {o : Oper} (h : ops[i]? = some o) (hd : o.dst = some t) : inReg ops t = true := by
  unfold inReg
  rw [Array.any_eq_true]
  obtain ⟨hi, rfl⟩ := Array.getElem?_eq_some_iff.1 h
  exact ⟨i, hi, by rw [hd]; simp⟩
/-- Is what o reads in this slot what stood there ahead of the region: nothing writes it, or only what comes behind o? -/
def oldB (md : Region.Mode) (ops : Array Oper) (o : Oper) (t : Nat) : Bool :=
  ops.all fun p => p.dst != some t || (o.dst.isSome && p.after.any fun e => Region.binds md e && ((ops[e.on]?).bind (·.dst) == o.dst))
theorem oldB_f {o : Oper} {t : Nat} (h : oldB md ops o t = false) : ∃ (j : Nat) (p : Oper), ops[j]? = some p ∧ p.dst = some t := by
  unfold oldB at h
  rw [Array.all_eq_false] at h
  obtain ⟨j, hj, h⟩ := h
  refine ⟨j, ops[j], Array.getElem?_eq_getElem hj, ?_⟩
  simp only [Bool.or_eq_false_iff, bne_eq_false_iff_eq, Bool.not_eq_true] at h
  exact h.1
theorem oldB_t {o : Oper} {t j : Nat} {p : Oper} (h : oldB md ops o t = true) (hp : ops[j]? = some p) (hd : p.dst = some t) : ∃ d, o.dst = some d ∧ ∃ e ∈ p.after, Region.binds md e = true ∧ (ops[e.on]?).bind (·.dst) = some d := by
  unfold oldB at h
  rw [Array.all_eq_true_iff_forall_mem] at h
  have h1 := h p (Array.mem_of_getElem? hp)
  rw [hd] at h1
  simp only [bne_self_eq_false, Bool.false_or, Bool.and_eq_true, Array.any_eq_true', beq_iff_eq] at h1
  obtain ⟨hs, e, he, hb, hq⟩ := h1
  obtain ⟨d, hd'⟩ := Option.isSome_iff_exists.1 hs
  exact ⟨d, hd', e, he, hb, by rw [hq, hd']⟩
/-- What has come up has left what it should, all else is as it was. -/
structure RegI (md : Region.Mode) (ops : Array Oper) (C : World → Prop) (V : Nat → Value → World → Prop) (a0 : Act) (listed : Array Bool) (a : Act) (w : World) : Prop where
  size : listed.size = ops.size
  clo : ∀ j p, ops[j]? = some p → listed.getD j false = true → ∀ e ∈ p.after, Region.binds md e = true → listed.getD e.on false = true
  cls : C w
  defers : a.defers = a0.defers
  tsize : a.tmps.size = a0.tmps.size
  old : ∀ t, (∀ i o, ops[i]? = some o → listed.getD i false = true → o.dst ≠ some t) → a.tmps.getD t undef = a0.tmps.getD t undef
  new : ∀ i o d, ops[i]? = some o → listed.getD i false = true → o.dst = some d → V d (a.tmps.getD d undef) w
/-- One operation, in whatever state what it looks at is there. -/
def OpOk (P : Program) (ops : Array Oper) (C : World → Prop) (St : World → World → Prop) (V : Nat → Value → World → Prop) (a0 : Act) (o : Oper) : Prop :=
  ∀ (Q : Exit → Act → World → Prop) (a : Act) (w : World), C w → (∀ t, Operand.tmp t ∈ o.op.operands → oldB .any ops o t = false → V t (a.eval (.tmp t)) w) → (∀ t, Operand.tmp t ∈ o.op.operands → oldB .any ops o t = true → a.eval (.tmp t) = a0.eval (.tmp t)) →
    o.wp P a w (fun a' w' => ∃ v, a' = a.put o.dst v ∧ C w' ∧ St w w' ∧ ∀ d, o.dst = some d → V d v w') Q
/-- What is asked of the region's own shape, in one Boolean. -/
def regB (md : Region.Mode) (ops : Array Oper) (n : Nat) : Bool :=
  (List.range ops.size).all fun i => match ops[i]? with
    | none => true
    | some o => o.guard.isNone && (match o.dst with | some d => decide (d < n) | none => true) &&
      o.after.all (fun e => !Region.binds md e || decide (e.on < i)) &&
      (List.range ops.size).all (fun j => match ops[j]? with
        | none => true
        | some p => (match p.dst with
          | none => true
          | some d => (decide (i = j) || o.dst != some d) && (!((slotsOf o).contains d) || oldB md ops o d || o.after.any (fun e => Region.binds md e && e.on == j))))
theorem regB_at {n i : Nat} {o : Oper} (h : regB md ops n = true) (hi : ops[i]? = some o) : o.guard = none ∧ (∀ d, o.dst = some d → d < n) ∧ (∀ e ∈ o.after, Region.binds md e = true → e.on < i) ∧
    ∀ j p d, ops[j]? = some p → p.dst = some d → (i = j ∨ o.dst ≠ some d) ∧ (Operand.tmp d ∈ o.op.operands → oldB md ops o d = false → ∃ e ∈ o.after, Region.binds md e = true ∧ e.on = j) := by
  have hlt := (Array.getElem?_eq_some_iff.1 hi).1
  have h1 := List.all_eq_true.1 h i (List.mem_range.2 hlt)
  simp only [hi, Bool.and_eq_true] at h1
  obtain ⟨⟨⟨hg, hd⟩, he⟩, hj⟩ := h1
  refine ⟨by simpa using hg, fun d hd' => by rw [hd'] at hd; simpa using hd, fun e hm hb => ?_, fun j p d hp hpd => ?_⟩
  · have := Array.all_eq_true'.1 he e hm
    simpa [hb] using this
  · have hltj := (Array.getElem?_eq_some_iff.1 hp).1
    have h2 := List.all_eq_true.1 hj j (List.mem_range.2 hltj)
    simp only [hp, hpd, Bool.and_eq_true] at h2
    refine ⟨by simpa using h2.1, fun hm ho => ?_⟩
    have h3 := h2.2
    have hc : (slotsOf o).contains d = true := by simpa using slotsOf_mem hm
    rw [hc, ho] at h3
    simp only [Bool.not_true, Bool.false_or, Array.any_eq_true', Bool.and_eq_true, beq_iff_eq] at h3
    exact h3
theorem all_listed {n : Nat} {listed : Array Bool} (hB : regB md ops n = true) (hs : listed.size = ops.size) (hr : Region.ready md ops listed = []) : ∀ i, i < ops.size → listed.getD i false = true := by
  intro i
  induction i using Nat.strongRecOn with
  | ind i ih =>
    intro hi
    cases h : listed.getD i false with
    | true => rfl
    | false =>
      have ho : ops[i]? = some ops[i] := Array.getElem?_eq_getElem hi
      have hmem : i ∈ Region.ready md ops listed := by
        refine mem_ready.2 ⟨by simp [Array.getD, hs, hi] at h ⊢; exact h, ops[i], ho, fun e he hb => ?_⟩
        have := (regB_at hB ho).2.2.1 e he hb
        exact ih e.on this (by omega)
      rw [hr] at hmem
      cases hmem
/-- All slots as they are at the end. -/
def putAll (f : Nat → Value) : List Oper → Act → Act
  | [], a => a
  | o :: l, a => putAll f l (a.put o.dst (match o.dst with | some d => f d | none => undef))
theorem putAll_facts (f : Nat → Value) : ∀ (l : List Oper) (a : Act), (putAll f l a).defers = a.defers ∧ (putAll f l a).tmps.size = a.tmps.size ∧ ∀ t, t < a.tmps.size → (putAll f l a).tmps.getD t undef = if l.any (fun o => o.dst == some t) = true then f t else a.tmps.getD t undef
  | [], a => ⟨rfl, rfl, fun t _ => by simp [putAll]⟩
  | o :: l, a => by
    obtain ⟨dst, op, type, pos, after, guard⟩ := o
    cases dst with
    | none =>
      have h := putAll_facts f l a
      refine ⟨h.1, h.2.1, fun t ht => ?_⟩
      have := h.2.2 t ht
      simpa [putAll, Act.put] using this
    | some d =>
      have h := putAll_facts f l (a.put (some d) (f d))
      have hs : (a.put (some d) (f d)).tmps.size = a.tmps.size := by simp [Act.put]
      refine ⟨h.1, h.2.1.trans hs, fun t ht => ?_⟩
      have h2 := h.2.2 t (by omega)
      show (putAll f l (a.put (some d) (f d))).tmps.getD t undef = _
      rw [h2, List.any_cons]
      by_cases ha : l.any (fun o => o.dst == some t) = true
      · rw [if_pos ha, if_pos (by rw [ha]; simp)]
      · rw [if_neg ha]
        by_cases hd : d = t
        · subst hd
          rw [if_pos (by simp)]
          simp [Act.put, Array.getD, ht]
        · rw [if_neg (by simp [hd]; simpa using ha)]
          exact getD_put_ne hd
theorem act_ext {a b : Act} (hd : a.defers = b.defers) (hs : a.tmps.size = b.tmps.size) (h : ∀ t, t < b.tmps.size → a.tmps.getD t undef = b.tmps.getD t undef) : a = b := by
  obtain ⟨at', ad⟩ := a
  obtain ⟨bt, bd⟩ := b
  simp only at hd hs h
  subst hd
  congr 1
  apply Array.ext hs
  intro i h1 h2
  have := h i h2
  simpa [Array.getD, h1, h2] using this
/-- **The region, in whatever order.** -/
theorem wp_region_inv {id : Nat} {a0 : Act} {w0 : World} {l : List Oper} (hm : P.follows .mixedOrders = true) (C : World → Prop) (St : World → World → Prop) (V : Nat → Value → World → Prop) (hB : regB .any l.toArray a0.tmps.size = true)
    (hC : C { w0 with drawn := w0.drawn + 1 }) (hV : ∀ d v w w', C w → St w w' → V d v w → V d v w') (hops : ∀ o ∈ l, OpOk P l.toArray C St V a0 o)
    (hend : ∀ (f : Nat → Value) (w : World), C w → (∀ o ∈ l, ∀ d, o.dst = some d → V d (f d) w) → Q .normal (putAll f l a0) w) : (Code.region id l.toArray true).wp P Q a0 w0 := by
  refine wp_region_any hm (wpAny_inv (RegI .any l.toArray C V a0) ?_ ?_ _ _ _ _ ?_ ?_)
  · intro listed a w hI i hi
    obtain ⟨hun, o, ho, hall⟩ := mem_ready.1 hi
    have hat := regB_at hB ho
    have hwant : Region.wanted o (yielded l.toArray a.tmps) = true := by simp [Region.wanted, hat.1]
    have hmem : o ∈ l := by
      have := Array.mem_of_getElem? ho
      simpa using this
    have hrun := hops o hmem Q a w hI.cls (fun t ht hin => ?_) (fun t ht hin => ?_)
    · unfold wpOp
      simp only [ho, hwant, if_true]
      refine .inl (Oper.wp_mono (fun a' w' h' => ?_) hrun)
      obtain ⟨v, rfl, hC', hSt, hv⟩ := h'
      have hltl : i < listed.size := by rw [hI.size]; exact (Array.getElem?_eq_some_iff.1 ho).1
      refine ⟨by simpa using hI.size, fun j p hp hl e he hb => ?_, hC', ?_, ?_, fun t ht => ?_, fun j p d hp hl hd => ?_⟩
      · have hup : ∀ k, listed.getD k false = true → (listed.setIfInBounds i true).getD k false = true := fun k hk => by
          by_cases q : k = i
          · subst q; exact set_getD_self hltl
          · rw [set_getD_ne q]; exact hk
        by_cases hj : j = i
        · subst hj
          rw [ho] at hp
          obtain rfl := Option.some.inj hp
          exact hup _ (hall e he hb)
        · rw [set_getD_ne hj] at hl
          exact hup _ (hI.clo j p hp hl e he hb)
      · cases hdst : o.dst <;> simp [Act.put, hI.defers]
      · cases hdst : o.dst <;> simp [Act.put, hI.tsize]
      · have hne : o.dst ≠ some t := ht i o ho (set_getD_self hltl)
        have h1 := hI.old t (fun j p hp hl => ht j p hp (by
          by_cases hj : j = i
          · subst hj; exact set_getD_self hltl
          · rw [set_getD_ne hj]; exact hl))
        rw [← h1]
        cases hdst : o.dst with
        | none => rfl
        | some d =>
          have hdt : d ≠ t := fun e => hne (by rw [hdst, e])
          exact getD_put_ne hdt
      · by_cases hj : j = i
        · subst hj
          rw [ho] at hp
          obtain rfl := Option.some.inj hp
          have hdl := hat.2.1 d hd
          have : (a.put o.dst v).tmps.getD d undef = v := by
            rw [hd]; simp [Act.put, Array.getD, hI.tsize, hdl]
          rw [this]
          exact hv d hd
        · have hl' : listed.getD j false = true := by rw [set_getD_ne hj] at hl; exact hl
          have hne : o.dst ≠ some d := ((hat.2.2.2 j p d hp hd).1).resolve_left (Ne.symm hj)
          have hold := hI.new j p d hp hl' hd
          have : (a.put o.dst v).tmps.getD d undef = a.tmps.getD d undef := by
            cases hdst : o.dst with
            | none => rfl
            | some d' =>
              have hdt : d' ≠ d := fun e => hne (by rw [hdst, e])
              exact getD_put_ne hdt
          rw [this]
          exact hV d _ _ _ hI.cls hSt hold
    · obtain ⟨j, p, hp, hd⟩ := oldB_f hin
      obtain ⟨e, he, hb, rfl⟩ := (hat.2.2.2 j p t hp hd).2 (by simpa using ht) hin
      exact hI.new e.on p t hp (hall e he hb) hd
    · refine hI.old t (fun j p hp hl hd => ?_)
      obtain ⟨d, hod, e, he, hb, hq⟩ := oldB_t hin hp hd
      have hel := hI.clo j p hp hl e he hb
      cases hqq : l.toArray[e.on]? with
      | none => rw [hqq] at hq; cases hq
      | some q =>
        rw [hqq] at hq
        rcases (hat.2.2.2 e.on q d hqq hq).1 with rfl | h
        · have hlt : e.on < listed.size := by rw [hI.size]; exact (Array.getElem?_eq_some_iff.1 hqq).1
          simp only [Array.getD, hlt, dif_pos] at hel hun
          rw [hel] at hun
          cases hun
        · exact h hod
  · intro listed a w hI hr
    have hal := all_listed hB hI.size hr
    have hput := putAll_facts (fun d => a.tmps.getD d undef) l a0
    have ha : a = putAll (fun d => a.tmps.getD d undef) l a0 := by
      refine act_ext (hI.defers.trans hput.1.symm) (hI.tsize.trans hput.2.1.symm) (fun t ht => ?_)
      rw [hput.2.1] at ht
      rw [hput.2.2 t ht]
      by_cases h : l.any (fun o => o.dst == some t) = true
      · rw [if_pos h]
      · rw [if_neg h]
        refine hI.old t (fun i o ho _ hd => h ?_)
        rw [List.any_eq_true]
        exact ⟨o, by have := Array.mem_of_getElem? ho; simpa using this, by rw [hd]; simp⟩
    rw [ha]
    refine hend _ w hI.cls (fun o ho d hd => ?_)
    obtain ⟨i, hi⟩ := List.mem_iff_getElem?.1 ho
    have hi' : l.toArray[i]? = some o := by simpa using hi
    exact hI.new i o d hi' (hal i (Array.getElem?_eq_some_iff.1 hi').1) hd
  · unfold openOps
    exact Nat.le_trans (List.length_filter_le _ _) (by simp)
  · refine ⟨by simp, fun j p _ hl => ?_, hC, rfl, rfl, fun t _ => rfl, fun i o d ho hl _ => ?_⟩
    · simp [Array.getD] at hl
    · simp [Array.getD] at hl
/-- An operation that yields a value and leaves a world of the class. -/
theorem op_val {C : World → Prop} {St : World → World → Prop} {V : Nat → Value → World → Prop} {o : Oper} {a : Act} {w w' : World} (v : Value) (h : (execOp a.eval o).run P w = .ok (.value v) w') (hC : C w') (hS : St w w') (hv : ∀ d, o.dst = some d → V d v w') :
    o.wp P a w (fun a' w' => ∃ v, a' = a.put o.dst v ∧ C w' ∧ St w w' ∧ ∀ d, o.dst = some d → V d v w') Q := by
  unfold Oper.wp
  rw [h]
  exact ⟨v, rfl, hC, hS, hv⟩
/-- A call under a contract. -/
theorem op_call {C : World → Prop} {St : World → World → Prop} {V : Nat → Value → World → Prop} {o : Oper} {a : Act} {w : World} {f : FuncId} {args : Array Value} {R : Value → World → Prop} (h : (execOp a.eval o).run P w = .ok (.enter f args) w)
    (hc : Calls P f args w fun e w' => ∃ v, e = .returned v ∧ R v w') (hR : ∀ v w', R v w' → C w' ∧ St w w' ∧ ∀ d, o.dst = some d → V d v w') :
    o.wp P a w (fun a' w' => ∃ v, a' = a.put o.dst v ∧ C w' ∧ St w w' ∧ ∀ d, o.dst = some d → V d v w') Q := by
  unfold Oper.wp
  rw [h]
  refine Calls.mono hc (fun e w' he => ?_)
  obtain ⟨v, rfl, hr⟩ := he
  obtain ⟨h1, h2, h3⟩ := hR v w' hr
  exact ⟨v, rfl, h1, h2, h3⟩
end
end Go.Proofs.YtancidbbkoeokaaGreatDoor

/- impl.readHeadBy, as impl.readHead calls it. -/
namespace Go.Proofs.YtancidbbkoeokaaGreatDoor
open Go.ChangeShapes Go.WideShapes Go.ChangeAt Go.RowKit

def lOf (s : ByteArray) : List UInt8 := s.data.toList.take 512
def badHd (c : Int) : Value := .tuple #[.agg zHead, .iface 58 (.agg #[.int .i64 c])]
def entVG (l : List UInt8) (val : Nat → Int) : Ent := ⟨0, pathL l, cutv (fW l 8), val 1, val 2, val 3, val 5, cutv (fW l 10), cutv (fW l 11), ⟨#[]⟩⟩
def readVG (s : ByteArray) (ok : Nat → Bool) (val : Nat → Int) (hd : ByteArray) : Value :=
  if s.size < 512 then badHd 1 else if sumOkv s = false then badHd 2 else if headOkG ok val = false then badHd 3
  else if hd = ⟨(lOf s).toArray⟩ then .tuple #[.agg (okCellsG (lOf s) val), .nilIface] else badHd 4
theorem fW_ext (s : ByteArray) (k x : Nat) (hk : k < 15) (hx : widths[k]? = some x) : fW (lOf s) k = s.extract (offs k) (offs k + x) := by
  obtain ⟨y, hy, _, _, _, h4⟩ := widths_at hk
  obtain rfl : y = x := by rw [hy] at hx; exact Option.some.inj hx
  apply ba_ext
  rw [fW, fieldv, show widths.getD k 0 = y from by simp [List.getD, hy]]
  show ((((s.data.toList).take 512).drop (offs k)).take y) = _
  have e : (s.extract (offs k) (offs k + y)).data.toList = (s.data.toList.drop (offs k)).take y := by simp
  rw [e, List.drop_take, List.take_take, Nat.min_eq_left (by omega)]
theorem two_obj (w : World) (a b : Obj) : ((w.alloc a).alloc b).heap[w.heap.size]? = some a ∧ ((w.alloc a).alloc b).heap[w.heap.size + 1]? = some b ∧ Below w.heap.size w ((w.alloc a).alloc b) ∧ True := by
  have B1 := (Below.refl w.heap.size w).alloc (Nat.le_refl _) a
  have B2 := (Below.refl (w.alloc a).heap.size (w.alloc a)).alloc (Nat.le_refl _) b
  have e1 : (w.alloc a).heap.size = w.heap.size + 1 := by simp
  refine ⟨?_, ?_, B1.trans (B2.mono (by omega)), trivial⟩
  · rw [B2.block _ (by omega)]
    exact heap_alloc_last _ _
  · rw [← e1]
    exact heap_alloc_last _ _
set_option maxRecDepth 8000 in
theorem readBy_shortO (s : ByteArray) (ok : Nat → Bool) (val : Nat → Int) (hd : ByteArray) (w : World) (h5 : (s.size : Int) < 512) :
    Calls Tryz.prog 47 #[.string s, .func (.func 48) #[] #[], .func (.func 49) #[] #[]] w fun e w' => e = .returned (readVG s ok val hd) ∧ Below w.heap.size w w' := by
  have HSt0 := Lib.hid (run_storeVar_new (P := Tryz.prog) w 40 zHead zHead (by rw [Tryz.sizeHd]; rfl) rfl (by simp [zHead, Value.oneCell']))
  have B0 := Lib.hid ((Below.refl w.heap.size w).alloc (Nat.le_refl _) (.cells zHead 40))
  have R0 : Hid ((w.alloc (.cells zHead 40)).heap[w.heap.size]? = some (.cells zHead 40 (0, 0))) := Lib.hid (heap_alloc_last _ _)
  have HE : Hid (readVG s ok val hd = badHd 1) := Lib.hid (by rw [readVG, if_pos (by omega)])
  go_enter Tryz.func47, Tryz.ntmps47
  go_wp2_with ((with_reducible refine wpList_store_eq rfl 40 _ _ rfl ⟨w.heap.size, 0, none⟩ ?_ ?_ HSt0.out ?_); rfl; rfl)
  refine bodyPost_ret (results_cell2 rfl _ _ w.heap.size _ zHead (0, 0) _ rfl R0.out Tryz.underlying40 rfl (by rw [Tryz.sizeHd]; rfl)) rfl ?_
  rw [HE.out]
  exact ⟨rfl, B0.out⟩
set_option maxHeartbeats 6400000 in
set_option maxRecDepth 8000 in
theorem readBy_longO (s : ByteArray) (ok : Nat → Bool) (val : Nat → Int) (hd : ByteArray) (w : World) (hHd : ∀ g w, Tabs w → FW w → Blk w g (lOf s) → Calls Tryz.prog 74 #[.pointer (some ⟨g, 0, none⟩), .func (.func 48) #[] #[]] w fun e w' => e = .returned (headVG (lOf s) ok val) ∧ Below w.heap.size w w') (hWr : headOkG ok val = true → ∀ w, Tabs w → FW w → Calls Tryz.prog 49 #[.agg (okCellsG (lOf s) val)] w fun e w' => e = .returned (.string hd) ∧ Below w.heap.size w w') (hs : s.size ≤ 1048576) (h512 : 512 ≤ s.size) (hT : Tabs w) (hF : FW w) :
    Calls Tryz.prog 47 #[.string s, .func (.func 48) #[] #[], .func (.func 49) #[] #[]] w fun e w' => e = .returned (readVG s ok val hd) ∧ Below w.heap.size w w' := by
  have B0 := Lib.hid ((Below.refl w.heap.size w).alloc (Nat.le_refl _) (.cells zHead 40))
  have R0 : Hid ((w.alloc (.cells zHead 40)).heap[w.heap.size]? = some (.cells zHead 40 (0, 0))) := Lib.hid (heap_alloc_last _ _)
  have h5 : ¬ (s.size : Int) < 512 := by omega
  have hl : (lOf s).length = 512 := by simp [lOf]; omega
  have HE : Hid (readVG s ok val hd = if sumOkv s = false then badHd 2 else if headOkG ok val = false then badHd 3 else if hd = ⟨(lOf s).toArray⟩ then .tuple #[.agg (okCellsG (lOf s) val), .nilIface] else badHd 4) := Lib.hid (by rw [readVG, if_neg (by omega)])
  have H1 := Lib.hid (fun w => blockOf_any s w h512)
  rw [show s.data.toList.take 512 = lOf s from rfl] at H1
  have hz := fun w => zero_blk w
  have HSb := Lib.hid (fun w => run_storeVar_new (P := Tryz.prog) w 105 (Lib.byteCells zeros512).toArray (Lib.byteCells (lOf s)).toArray (by rw [Tryz.sizeBlk, List.size_toArray, Lib.byteCells_length, hl]) (by rw [List.size_toArray, List.size_toArray, Lib.byteCells_length, Lib.byteCells_length, hl]; exact List.length_replicate) (bc_one _))
  have HNb := Lib.hid (fun w => Blk.new w (lOf s) hl)
  have HF6 := Lib.hid (fun g w h => field_any g 6 8 w (by omega) rfl h)
  rw [show offs 6 = 148 from rfl] at HF6
  have HSum := Lib.hid (fun w hT hF => sumText_any s w hs hT hF)
  have HHd := Lib.hid hHd
  have HWr := Lib.hid hWr
  clear hHd hWr
  have HQ : Hid (sumOkv s = decide (fW (lOf s) 6 = (putOctv (headSumv s) 6).1 ++ ⟨#[0, 32]⟩)) := Lib.hid (by rw [sumOkv, fW_ext s 6 8 (by omega) rfl]; rfl)
  have HCV : Hid (∀ g w, Blk w g (lOf s) → (convert 64 9 (.slice (some ⟨g, 148, none⟩) 8 8)).run Tryz.prog w = .ok (.string (fW (lOf s) 6)) w) := Lib.hid (fun g w h => h.convAt 148 8 (by omega))
  generalize (Lib.byteCells zeros512).toArray = Zb at *
  have HT := Lib.hid hT
  have HF := Lib.hid hF
  clear hT hF
  generalize fW (lOf s) 6 = f6 at *
  generalize (putOctv (headSumv s) 6).1 ++ (⟨#[0, 32]⟩ : ByteArray) = st at *
  go_enter Tryz.func47, Tryz.ntmps47
  go_wp2_with fail
  refine (H1.out _).mono ?_
  rintro e w1 ⟨rfl, hb1⟩
  have RO1 := Lib.hid ((hb1.block w.heap.size (by simp)).trans R0.out)
  have B1 := Lib.hid (B0.out.trans (hb1.mono (by simp)))
  clear hb1 R0 B0 H1
  go_wp2_with ((with_reducible refine wpList_store_eq rfl 105 _ _ rfl ⟨w1.heap.size, 0, none⟩ ?_ ?_ (HSb.out w1) ?_); rfl; rfl)
  have K0 := HNb.out w1
  have BX := (Below.refl w1.heap.size w1).alloc (Nat.le_refl _) (.cells (Lib.byteCells (lOf s)).toArray 105)
  have z4 : w1.heap.size < (w1.alloc (.cells (Lib.byteCells (lOf s)).toArray 105)).heap.size := by simp
  generalize w1.alloc (.cells (Lib.byteCells (lOf s)).toArray 105) = w4 at *
  have K4 := Lib.hid K0
  have RO4 := Lib.hid ((BX.block _ (obj_lt RO1.out)).trans RO1.out)
  have B4 := Lib.hid (B1.out.trans (BX.mono B1.out.size))
  have zR : w.heap.size < w1.heap.size := obj_lt RO1.out
  clear K0 BX RO1 B1 HNb HSb hz
  have bt4 : ∀ w', Below w4.heap.size w4 w' → Below w.heap.size w w' := fun w' hb => B4.out.trans (hb.mono B4.out.size)
  have BT4 := Lib.hid bt4
  clear bt4
  by_cases hq : f6 = st
  · have q := ba_eq hq
    have HE2 : Hid (readVG s ok val hd = if headOkG ok val = false then badHd 3 else if hd = ⟨(lOf s).toArray⟩ then .tuple #[.agg (okCellsG (lOf s) val), .nilIface] else badHd 4) := Lib.hid (by rw [HE.out, HQ.out, if_neg (by simp [hq])])
    clear HE HQ hq
    refine wp_region_inv (by kernel_rfl) (fun w' => Below w4.heap.size w4 w') (fun x y => Below x.heap.size x y) (fun d v _ => match d with | 19 => v = .slice (some ⟨w1.heap.size, 148, none⟩) 8 8 | 20 => v = .string f6 | 21 => v = .string s | 22 => v = .string st | 23 => v = .bool false | _ => True) (by kernel_rfl) ((Below.refl _ _).drew) (fun _ _ _ _ _ _ h => h) ?hops ?hend
    case hops =>
      simp only [List.forall_mem_cons]
      refine ⟨?o19, ?o20, ?o21, ?o22, ?o23, fun _ h => by cases h⟩
      case o19 =>
        intro Q a w2 hC hV hI
        have e8 : a.eval (.tmp 8) = .pointer (some ⟨w1.heap.size, 0, none⟩) := (hI 8 (by simp [Op.operands, Call.operands]) (by kernel_rfl)).trans rfl
        have f8 : a.tmps.getD 8 undef = .pointer (some ⟨w1.heap.size, 0, none⟩) := e8
        have g8 : a.tmps[8]?.getD undef = .pointer (some ⟨w1.heap.size, 0, none⟩) := by rw [← Array.getD_eq_getD_getElem?]; exact e8
        refine op_call (f := 72) (args := #[.pointer (some ⟨w1.heap.size, 0, none⟩), .int .i64 6]) (R := fun v y => v = .slice (some ⟨w1.heap.size, 148, none⟩) 8 8 ∧ w2 = y) ?_ ((HF6.out w1.heap.size w2 (HF.out.below (BT4.out _ hC))).mono ?_) ?_
        · (clear hV hI hC; go_simp <;> (first | rfl | simp))
        · rintro e y ⟨rfl, rfl⟩; exact ⟨_, rfl, rfl, rfl⟩
        · rintro v y ⟨rfl, rfl⟩; exact ⟨hC, Below.refl _ _, by intro d hd; cases hd; rfl⟩
      case o20 =>
        intro Q a w2 hC hV hI
        have e19 : a.eval (.tmp 19) = .slice (some ⟨w1.heap.size, 148, none⟩) 8 8 := hV 19 (by simp [Op.operands]) (by kernel_rfl)
        have f19 : a.tmps.getD 19 undef = .slice (some ⟨w1.heap.size, 148, none⟩) 8 8 := e19
        have g19 : a.tmps[19]?.getD undef = .slice (some ⟨w1.heap.size, 148, none⟩) 8 8 := by rw [← Array.getD_eq_getD_getElem?]; exact e19
        have q9 := HCV.out _ w2 (K4.out.below hC z4)
        refine op_val (.string f6) ?_ hC (Below.refl _ _) (by intro d hd; cases hd; rfl)
        (clear hV hI hC; go_simp <;> (first | rfl | simp))
      case o21 =>
        intro Q a w2 hC hV hI
        have e0 : a.eval (.tmp 0) = .string s := (hI 0 (by simp [Op.operands]) (by kernel_rfl)).trans rfl
        have f0 : a.tmps.getD 0 undef = .string s := e0
        have g0 : a.tmps[0]?.getD undef = .string s := by rw [← Array.getD_eq_getD_getElem?]; exact e0
        refine op_val (.string s) ?_ hC (Below.refl _ _) (by intro d hd; cases hd; rfl)
        (clear hV hI hC; go_simp <;> (first | rfl | simp))
      case o22 =>
        intro Q a w2 hC hV hI
        have e21 : a.eval (.tmp 21) = .string s := hV 21 (by simp [Op.operands, Call.operands]) (by kernel_rfl)
        have f21 : a.tmps.getD 21 undef = .string s := e21
        have g21 : a.tmps[21]?.getD undef = .string s := by rw [← Array.getD_eq_getD_getElem?]; exact e21
        refine op_call (f := 73) (args := #[.string s]) (R := fun v y => v = .string st ∧ Below w2.heap.size w2 y) ?_ ((HSum.out w2 (HT.out.below (BT4.out _ hC)) (HF.out.below (BT4.out _ hC))).mono ?_) ?_
        · (clear hV hI hC; go_simp <;> (first | rfl | simp))
        · rintro e y ⟨rfl, hb⟩; exact ⟨_, rfl, rfl, hb⟩
        · rintro v y ⟨rfl, hb⟩; exact ⟨hC.trans (hb.mono hC.size), hb, by intro d hd; cases hd; rfl⟩
      case o23 =>
        intro Q a w2 hC hV hI
        have e20 : a.eval (.tmp 20) = .string f6 := hV 20 (by simp [Op.operands]) (by kernel_rfl)
        have f20 : a.tmps.getD 20 undef = .string f6 := e20
        have g20 : a.tmps[20]?.getD undef = .string f6 := by rw [← Array.getD_eq_getD_getElem?]; exact e20
        have e22 : a.eval (.tmp 22) = .string st := hV 22 (by simp [Op.operands]) (by kernel_rfl)
        have f22 : a.tmps.getD 22 undef = .string st := e22
        have g22 : a.tmps[22]?.getD undef = .string st := by rw [← Array.getD_eq_getD_getElem?]; exact e22
        refine op_val (.bool false) ?_ hC (Below.refl _ _) (by intro d hd; cases hd; rfl)
        (clear hV hI hC; go_simp <;> (first | rfl | simp))
    case hend =>
      intro f w5 hC hall
      simp only [List.forall_mem_cons] at hall
      obtain ⟨h19, h20, h21, h22, h23, _⟩ := hall
      replace h19 : f 19 = .slice (some ⟨w1.heap.size, 148, none⟩) 8 8 := h19 19 rfl
      replace h20 : f 20 = .string f6 := h20 20 rfl
      replace h21 : f 21 = .string s := h21 21 rfl
      replace h22 : f 22 = .string st := h22 22 rfl
      replace h23 : f 23 = .bool false := h23 23 rfl
      simp only [putAll, Act.put, List.setIfInBounds_toArray, List.set_cons_succ, List.set_cons_zero, h19, h20, h21, h22, h23]
      clear h19 h20 h21 h22 h23
      have RO5 := Lib.hid ((hC.block _ (Nat.lt_trans zR z4)).trans RO4.out)
      have B5 := Lib.hid (BT4.out _ hC)
      have K5 := Lib.hid (K4.out.below hC z4)
      clear hC K4 RO4 B4 BT4 q
      go_wp2_with fail
      refine (HHd.out w1.heap.size _ (HT.out.below B5.out) (HF.out.below B5.out) K5.out).mono ?_
      rintro e w6 ⟨rfl, hb6⟩
      have RO6 := Lib.hid ((hb6.block _ (obj_lt RO5.out)).trans RO5.out)
      have B6 := Lib.hid (B5.out.trans (hb6.mono B5.out.size))
      have K6 := Lib.hid (K5.out.below hb6 K5.out.lt)
      clear hb6 RO5 B5 K5 HHd
      cases hh : headOkG ok val with
      | false =>
        have HE3 : Hid (readVG s ok val hd = badHd 3) := Lib.hid (by rw [HE2.out, if_pos hh])
        rw [head_badG hh]
        have HSn := Lib.hid (run_storeVar_new (P := Tryz.prog) w6 40 zHead zHead (by rw [Tryz.sizeHd]; rfl) rfl (by simp [zHead, Value.oneCell']))
        have BX := (Below.refl w6.heap.size w6).alloc (Nat.le_refl _) (.cells zHead 40)
        have RO7 := Lib.hid ((BX.block _ (obj_lt RO6.out)).trans RO6.out)
        have B7 := Lib.hid (B6.out.trans (BX.mono B6.out.size))
        have HSt := Lib.hid (run_storeVar_row (P := Tryz.prog) _ w.heap.size 40 40 zHead zHead RO7.out (by rw [Tryz.sizeHd]; rfl) rfl (by simp [zHead, Value.oneCell']))
        clear hh BX HE2
        go_wp2_with (first | ((with_reducible refine wpList_store_eq rfl 40 _ _ rfl ⟨w6.heap.size, 0, none⟩ ?_ ?_ HSn.out ?_); rfl; rfl) | ((with_reducible refine wpList_store_eq rfl 40 _ _ rfl ⟨w.heap.size, 0, none⟩ ?_ ?_ HSt.out ?_); rfl; rfl))
        refine bodyPost_ret (results_cell2 rfl _ _ w.heap.size _ zHead (0, 0) _ rfl (setRow_heap _ _ _ _ _ _ RO7.out) Tryz.underlying40 rfl (by rw [Tryz.sizeHd]; rfl)) rfl ?_
        rw [HE3.out]
        exact ⟨rfl, B7.out.trans (below_set (Nat.le_refl _) _)⟩
      | true =>
        have HE3 : Hid (readVG s ok val hd = if hd = ⟨(lOf s).toArray⟩ then .tuple #[.agg (okCellsG (lOf s) val), .nilIface] else badHd 4) := Lib.hid (by rw [HE2.out, if_neg (by rw [hh]; simp)])
        rw [show headVG (lOf s) ok val = .tuple #[.agg (okCellsG (lOf s) val), .nilIface] from by rw [headVG, hh]; rfl]
        have HOC : Hid (okCellsG (lOf s) val = #[.int .i64 0, .string (pathL (lOf s)), .string (cutv (fW (lOf s) 8)), .int .i64 (val 1), .int .i64 (val 2), .int .i64 (val 3), .int .i64 (val 5), .string (cutv (fW (lOf s) 10)), .string (cutv (fW (lOf s) 11)), .string ⟨#[]⟩, .string (fW (lOf s) 7), .int .i64 (val 4)]) := Lib.hid rfl
        have HPH := Lib.hid (HWr.out hh)
        rw [HOC.out] at HPH
        rw [HOC.out]
        generalize pathL (lOf s) = pth at *
        generalize cutv (fW (lOf s) 8) = lk at *
        generalize cutv (fW (lOf s) 10) = us at *
        generalize cutv (fW (lOf s) 11) = gr at *
        generalize val 1 = nm at *
        generalize val 2 = nu at *
        generalize val 3 = ng at *
        generalize val 5 = nt at *
        generalize val 4 = nz at *
        generalize fW (lOf s) 7 = fl at *
        obtain ⟨bl, hbl⟩ : ∃ bl : ByteArray, bl = ⟨(lOf s).toArray⟩ := ⟨_, rfl⟩
        have HCB : Hid (∀ w', Blk w' w1.heap.size (lOf s) → (convert 64 9 (.slice (some ⟨w1.heap.size, 0, none⟩) 512 512)).run Tryz.prog w' = .ok (.string bl) w') := Lib.hid (fun w' h => by rw [hbl]; exact h.conv)
        rw [← hbl] at HE3
        have OB := (Below.refl w6.heap.size w6).alloc (Nat.le_refl _) (.cells #[.int .i64 0, .string pth, .string lk, .int .i64 nm, .int .i64 nu, .int .i64 ng, .int .i64 nt, .string us, .string gr, .string ⟨#[]⟩, .string fl, .int .i64 nz] 40)
        have OX : (w6.alloc (.cells #[.int .i64 0, .string pth, .string lk, .int .i64 nm, .int .i64 nu, .int .i64 ng, .int .i64 nt, .string us, .string gr, .string ⟨#[]⟩, .string fl, .int .i64 nz] 40)).heap[w6.heap.size]? = some (.cells #[.int .i64 0, .string pth, .string lk, .int .i64 nm, .int .i64 nu, .int .i64 ng, .int .i64 nt, .string us, .string gr, .string ⟨#[]⟩, .string fl, .int .i64 nz] 40 (0, 0)) := heap_alloc_last _ _
        have HSn := Lib.hid (run_storeVar_new (P := Tryz.prog) w6 40 zHead #[.int .i64 0, .string pth, .string lk, .int .i64 nm, .int .i64 nu, .int .i64 ng, .int .i64 nt, .string us, .string gr, .string ⟨#[]⟩, .string fl, .int .i64 nz] (by rw [Tryz.sizeHd]; rfl) rfl (by simp [Value.oneCell']))
        have K8 := Lib.hid (K6.out.below OB K6.out.lt)
        have RO8 := Lib.hid ((OB.block _ (obj_lt RO6.out)).trans RO6.out)
        have B8 := Lib.hid (B6.out.trans (OB.mono B6.out.size))
        clear hbl hh HE2 K6 RO6 B6 OB HWr
        go_wp2_with ((with_reducible refine wpList_store_eq rfl 40 _ _ rfl ⟨w6.heap.size, 0, none⟩ ?_ ?_ HSn.out ?_); rfl; rfl)
        generalize w6.alloc (.cells #[.int .i64 0, .string pth, .string lk, .int .i64 nm, .int .i64 nu, .int .i64 ng, .int .i64 nt, .string us, .string gr, .string ⟨#[]⟩, .string fl, .int .i64 nz] 40) = w8 at *
        have OX' := Lib.hid OX
        clear OX HSn
        have zR8 := obj_lt RO8.out
        have zK8 := K8.out.lt
        have KC : Hid (∀ w', Below w8.heap.size w8 w' → w'.cell? ⟨w6.heap.size, 0, none⟩ = some (.int .i64 0) ∧ w'.cell? ⟨w6.heap.size, 1, none⟩ = some (.string pth) ∧ w'.cell? ⟨w6.heap.size, 2, none⟩ = some (.string lk) ∧ w'.cell? ⟨w6.heap.size, 3, none⟩ = some (.int .i64 nm) ∧ w'.cell? ⟨w6.heap.size, 4, none⟩ = some (.int .i64 nu) ∧ w'.cell? ⟨w6.heap.size, 5, none⟩ = some (.int .i64 ng) ∧ w'.cell? ⟨w6.heap.size, 6, none⟩ = some (.int .i64 nt) ∧ w'.cell? ⟨w6.heap.size, 7, none⟩ = some (.string us) ∧ w'.cell? ⟨w6.heap.size, 8, none⟩ = some (.string gr) ∧ w'.cell? ⟨w6.heap.size, 9, none⟩ = some (.string ⟨#[]⟩) ∧ w'.cell? ⟨w6.heap.size, 10, none⟩ = some (.string fl) ∧ w'.cell? ⟨w6.heap.size, 11, none⟩ = some (.int .i64 nz)) := Lib.hid (fun w' hb => by
          have h1 := (hb.block _ (obj_lt OX'.out)).trans OX'.out
          refine ⟨?_, ?_, ?_, ?_, ?_, ?_, ?_, ?_, ?_, ?_, ?_, ?_⟩
          all_goals (rw [cell_of_row _ _ _ _ _ _ h1]; rfl))
        by_cases hq2 : hd = bl
        · have q := ba_eq hq2
          have HE4 : Hid (readVG s ok val hd = .tuple #[.agg #[.int .i64 0, .string pth, .string lk, .int .i64 nm, .int .i64 nu, .int .i64 ng, .int .i64 nt, .string us, .string gr, .string ⟨#[]⟩, .string fl, .int .i64 nz], .nilIface]) := Lib.hid (by rw [HE3.out, if_pos hq2, HOC.out])
          clear HE3 HOC hq2
          refine wp_region_inv (by kernel_rfl) (fun w' => Below w8.heap.size w8 w') (fun x y => Below x.heap.size x y) (fun d v _ => match d with | 36 => v = .func (.func 49) #[] #[] | 37 => v = .agg #[.int .i64 0, .string pth, .string lk, .int .i64 nm, .int .i64 nu, .int .i64 ng, .int .i64 nt, .string us, .string gr, .string ⟨#[]⟩, .string fl, .int .i64 nz] | 38 => v = .string hd | 39 => v = .slice (some ⟨w1.heap.size, 0, none⟩) 512 512 | 40 => v = .string bl | 41 => v = .bool false | _ => True) (by kernel_rfl) ((Below.refl _ _).drew) (fun _ _ _ _ _ _ h => h) ?hops ?hend
          case hops =>
            simp only [List.forall_mem_cons]
            refine ⟨?o36, ?o37, ?o38, ?o39, ?o40, ?o41, fun _ h => by cases h⟩
            case o36 =>
              intro Q a w2 hC hV hI
              have e2 : a.eval (.tmp 2) = .func (.func 49) #[] #[] := (hI 2 (by simp [Op.operands]) (by kernel_rfl)).trans rfl
              have f2 : a.tmps.getD 2 undef = .func (.func 49) #[] #[] := e2
              have g2 : a.tmps[2]?.getD undef = .func (.func 49) #[] #[] := by rw [← Array.getD_eq_getD_getElem?]; exact e2
              refine op_val (.func (.func 49) #[] #[]) ?_ hC (Below.refl _ _) (by intro d hd; cases hd; rfl)
              (clear hV hI hC; go_simp <;> (first | rfl | simp))
            case o37 =>
              intro Q a w2 hC hV hI
              have e9 : a.eval (.tmp 9) = .pointer (some ⟨w6.heap.size, 0, none⟩) := (hI 9 (by simp [Op.operands]) (by kernel_rfl)).trans rfl
              have f9 : a.tmps.getD 9 undef = .pointer (some ⟨w6.heap.size, 0, none⟩) := e9
              have g9 : a.tmps[9]?.getD undef = .pointer (some ⟨w6.heap.size, 0, none⟩) := by rw [← Array.getD_eq_getD_getElem?]; exact e9
              have hK := KC.out w2 hC
              refine op_val (.agg #[.int .i64 0, .string pth, .string lk, .int .i64 nm, .int .i64 nu, .int .i64 ng, .int .i64 nt, .string us, .string gr, .string ⟨#[]⟩, .string fl, .int .i64 nz]) ?_ hC (Below.refl _ _) (by intro d hd; cases hd; rfl)
              (clear hV hI hC; go_simp <;> (first | rfl | simp))
            case o38 =>
              intro Q a w2 hC hV hI
              have e36 : a.eval (.tmp 36) = .func (.func 49) #[] #[] := hV 36 (by simp [Op.operands, Call.operands]) (by kernel_rfl)
              have f36 : a.tmps.getD 36 undef = .func (.func 49) #[] #[] := e36
              have g36 : a.tmps[36]?.getD undef = .func (.func 49) #[] #[] := by rw [← Array.getD_eq_getD_getElem?]; exact e36
              have e37 : a.eval (.tmp 37) = .agg #[.int .i64 0, .string pth, .string lk, .int .i64 nm, .int .i64 nu, .int .i64 ng, .int .i64 nt, .string us, .string gr, .string ⟨#[]⟩, .string fl, .int .i64 nz] := hV 37 (by simp [Op.operands, Call.operands]) (by kernel_rfl)
              have f37 : a.tmps.getD 37 undef = .agg #[.int .i64 0, .string pth, .string lk, .int .i64 nm, .int .i64 nu, .int .i64 ng, .int .i64 nt, .string us, .string gr, .string ⟨#[]⟩, .string fl, .int .i64 nz] := e37
              have g37 : a.tmps[37]?.getD undef = .agg #[.int .i64 0, .string pth, .string lk, .int .i64 nm, .int .i64 nu, .int .i64 ng, .int .i64 nt, .string us, .string gr, .string ⟨#[]⟩, .string fl, .int .i64 nz] := by rw [← Array.getD_eq_getD_getElem?]; exact e37
              refine op_call (f := 49) (args := #[.agg #[.int .i64 0, .string pth, .string lk, .int .i64 nm, .int .i64 nu, .int .i64 ng, .int .i64 nt, .string us, .string gr, .string ⟨#[]⟩, .string fl, .int .i64 nz]]) (R := fun v y => v = .string hd ∧ Below w2.heap.size w2 y) ?_ ((HPH.out w2 (HT.out.below (B8.out.trans (hC.mono B8.out.size))) (HF.out.below (B8.out.trans (hC.mono B8.out.size)))).mono ?_) ?_
              · (clear hV hI hC; go_simp <;> (first | rfl | simp))
              · rintro e y ⟨rfl, hb⟩; exact ⟨_, rfl, rfl, hb⟩
              · rintro v y ⟨rfl, hb⟩; exact ⟨hC.trans (hb.mono hC.size), hb, by intro d hd; cases hd; rfl⟩
            case o39 =>
              intro Q a w2 hC hV hI
              have e8 : a.eval (.tmp 8) = .pointer (some ⟨w1.heap.size, 0, none⟩) := (hI 8 (by simp [Op.operands]) (by kernel_rfl)).trans rfl
              have f8 : a.tmps.getD 8 undef = .pointer (some ⟨w1.heap.size, 0, none⟩) := e8
              have g8 : a.tmps[8]?.getD undef = .pointer (some ⟨w1.heap.size, 0, none⟩) := by rw [← Array.getD_eq_getD_getElem?]; exact e8
              refine op_val (.slice (some ⟨w1.heap.size, 0, none⟩) 512 512) ?_ hC (Below.refl _ _) (by intro d hd; cases hd; rfl)
              (clear hV hI hC; go_simp <;> (first | rfl | simp))
            case o40 =>
              intro Q a w2 hC hV hI
              have e39 : a.eval (.tmp 39) = .slice (some ⟨w1.heap.size, 0, none⟩) 512 512 := hV 39 (by simp [Op.operands]) (by kernel_rfl)
              have f39 : a.tmps.getD 39 undef = .slice (some ⟨w1.heap.size, 0, none⟩) 512 512 := e39
              have g39 : a.tmps[39]?.getD undef = .slice (some ⟨w1.heap.size, 0, none⟩) 512 512 := by rw [← Array.getD_eq_getD_getElem?]; exact e39
              have q9 := HCB.out _ (K8.out.below hC zK8)
              refine op_val (.string bl) ?_ hC (Below.refl _ _) (by intro d hd; cases hd; rfl)
              (clear hV hI hC; go_simp <;> (first | rfl | simp))
            case o41 =>
              intro Q a w2 hC hV hI
              have e38 : a.eval (.tmp 38) = .string hd := hV 38 (by simp [Op.operands]) (by kernel_rfl)
              have f38 : a.tmps.getD 38 undef = .string hd := e38
              have g38 : a.tmps[38]?.getD undef = .string hd := by rw [← Array.getD_eq_getD_getElem?]; exact e38
              have e40 : a.eval (.tmp 40) = .string bl := hV 40 (by simp [Op.operands]) (by kernel_rfl)
              have f40 : a.tmps.getD 40 undef = .string bl := e40
              have g40 : a.tmps[40]?.getD undef = .string bl := by rw [← Array.getD_eq_getD_getElem?]; exact e40
              refine op_val (.bool false) ?_ hC (Below.refl _ _) (by intro d hd; cases hd; rfl)
              (clear hV hI hC; go_simp <;> (first | rfl | simp))
          case hend =>
            intro f w9 hC hall
            simp only [List.forall_mem_cons] at hall
            obtain ⟨h36, h37, h38, h39, h40, h41, _⟩ := hall
            replace h36 : f 36 = .func (.func 49) #[] #[] := h36 36 rfl
            replace h37 : f 37 = .agg #[.int .i64 0, .string pth, .string lk, .int .i64 nm, .int .i64 nu, .int .i64 ng, .int .i64 nt, .string us, .string gr, .string ⟨#[]⟩, .string fl, .int .i64 nz] := h37 37 rfl
            replace h38 : f 38 = .string hd := h38 38 rfl
            replace h39 : f 39 = .slice (some ⟨w1.heap.size, 0, none⟩) 512 512 := h39 39 rfl
            replace h40 : f 40 = .string bl := h40 40 rfl
            replace h41 : f 41 = .bool false := h41 41 rfl
            simp only [putAll, Act.put, List.setIfInBounds_toArray, List.set_cons_succ, List.set_cons_zero, h36, h37, h38, h39, h40, h41]
            clear h36 h37 h38 h39 h40 h41
            have h9 := (hC.block _ (obj_lt OX'.out)).trans OX'.out
            have RO9 := Lib.hid ((hC.block _ zR8).trans RO8.out)
            have B9 := Lib.hid (B8.out.trans (hC.mono B8.out.size))
            have HLd := Lib.hid (run_loadVar_row (P := Tryz.prog) _ _ 40 40 _ (0, 0) _ h9 Tryz.underlying40 rfl (by rw [Tryz.sizeHd]; rfl))
            have HSt := Lib.hid (run_storeVar_row (P := Tryz.prog) _ w.heap.size 40 40 zHead #[.int .i64 0, .string pth, .string lk, .int .i64 nm, .int .i64 nu, .int .i64 ng, .int .i64 nt, .string us, .string gr, .string ⟨#[]⟩, .string fl, .int .i64 nz] RO9.out (by rw [Tryz.sizeHd]; rfl) rfl (by simp [Value.oneCell']))
            clear hC h9
            go_wp2_with (first | ((with_reducible refine wpList_load_eq rfl 40 _ rfl ⟨w6.heap.size, 0, none⟩ ?_ HLd.out ?_); rfl) | ((with_reducible refine wpList_store_eq rfl 40 _ _ rfl ⟨w.heap.size, 0, none⟩ ?_ ?_ HSt.out ?_); rfl; rfl))
            refine bodyPost_ret (results_cell2 rfl _ _ w.heap.size _ #[.int .i64 0, .string pth, .string lk, .int .i64 nm, .int .i64 nu, .int .i64 ng, .int .i64 nt, .string us, .string gr, .string ⟨#[]⟩, .string fl, .int .i64 nz] (0, 0) _ rfl (setRow_heap _ _ _ _ _ _ RO9.out) Tryz.underlying40 rfl (by rw [Tryz.sizeHd]; rfl)) rfl ?_
            rw [HE4.out]
            exact ⟨rfl, B9.out.trans (below_set (Nat.le_refl _) _)⟩
        · have q := ba_ne hq2
          have HE4 : Hid (readVG s ok val hd = badHd 4) := Lib.hid (by rw [HE3.out, if_neg hq2])
          clear HE3 HOC hq2
          refine wp_region_inv (by kernel_rfl) (fun w' => Below w8.heap.size w8 w') (fun x y => Below x.heap.size x y) (fun d v _ => match d with | 36 => v = .func (.func 49) #[] #[] | 37 => v = .agg #[.int .i64 0, .string pth, .string lk, .int .i64 nm, .int .i64 nu, .int .i64 ng, .int .i64 nt, .string us, .string gr, .string ⟨#[]⟩, .string fl, .int .i64 nz] | 38 => v = .string hd | 39 => v = .slice (some ⟨w1.heap.size, 0, none⟩) 512 512 | 40 => v = .string bl | 41 => v = .bool true | _ => True) (by kernel_rfl) ((Below.refl _ _).drew) (fun _ _ _ _ _ _ h => h) ?hops ?hend
          case hops =>
            simp only [List.forall_mem_cons]
            refine ⟨?o36, ?o37, ?o38, ?o39, ?o40, ?o41, fun _ h => by cases h⟩
            case o36 =>
              intro Q a w2 hC hV hI
              have e2 : a.eval (.tmp 2) = .func (.func 49) #[] #[] := (hI 2 (by simp [Op.operands]) (by kernel_rfl)).trans rfl
              have f2 : a.tmps.getD 2 undef = .func (.func 49) #[] #[] := e2
              have g2 : a.tmps[2]?.getD undef = .func (.func 49) #[] #[] := by rw [← Array.getD_eq_getD_getElem?]; exact e2
              refine op_val (.func (.func 49) #[] #[]) ?_ hC (Below.refl _ _) (by intro d hd; cases hd; rfl)
              (clear hV hI hC; go_simp <;> (first | rfl | simp))
            case o37 =>
              intro Q a w2 hC hV hI
              have e9 : a.eval (.tmp 9) = .pointer (some ⟨w6.heap.size, 0, none⟩) := (hI 9 (by simp [Op.operands]) (by kernel_rfl)).trans rfl
              have f9 : a.tmps.getD 9 undef = .pointer (some ⟨w6.heap.size, 0, none⟩) := e9
              have g9 : a.tmps[9]?.getD undef = .pointer (some ⟨w6.heap.size, 0, none⟩) := by rw [← Array.getD_eq_getD_getElem?]; exact e9
              have hK := KC.out w2 hC
              refine op_val (.agg #[.int .i64 0, .string pth, .string lk, .int .i64 nm, .int .i64 nu, .int .i64 ng, .int .i64 nt, .string us, .string gr, .string ⟨#[]⟩, .string fl, .int .i64 nz]) ?_ hC (Below.refl _ _) (by intro d hd; cases hd; rfl)
              (clear hV hI hC; go_simp <;> (first | rfl | simp))
            case o38 =>
              intro Q a w2 hC hV hI
              have e36 : a.eval (.tmp 36) = .func (.func 49) #[] #[] := hV 36 (by simp [Op.operands, Call.operands]) (by kernel_rfl)
              have f36 : a.tmps.getD 36 undef = .func (.func 49) #[] #[] := e36
              have g36 : a.tmps[36]?.getD undef = .func (.func 49) #[] #[] := by rw [← Array.getD_eq_getD_getElem?]; exact e36
              have e37 : a.eval (.tmp 37) = .agg #[.int .i64 0, .string pth, .string lk, .int .i64 nm, .int .i64 nu, .int .i64 ng, .int .i64 nt, .string us, .string gr, .string ⟨#[]⟩, .string fl, .int .i64 nz] := hV 37 (by simp [Op.operands, Call.operands]) (by kernel_rfl)
              have f37 : a.tmps.getD 37 undef = .agg #[.int .i64 0, .string pth, .string lk, .int .i64 nm, .int .i64 nu, .int .i64 ng, .int .i64 nt, .string us, .string gr, .string ⟨#[]⟩, .string fl, .int .i64 nz] := e37
              have g37 : a.tmps[37]?.getD undef = .agg #[.int .i64 0, .string pth, .string lk, .int .i64 nm, .int .i64 nu, .int .i64 ng, .int .i64 nt, .string us, .string gr, .string ⟨#[]⟩, .string fl, .int .i64 nz] := by rw [← Array.getD_eq_getD_getElem?]; exact e37
              refine op_call (f := 49) (args := #[.agg #[.int .i64 0, .string pth, .string lk, .int .i64 nm, .int .i64 nu, .int .i64 ng, .int .i64 nt, .string us, .string gr, .string ⟨#[]⟩, .string fl, .int .i64 nz]]) (R := fun v y => v = .string hd ∧ Below w2.heap.size w2 y) ?_ ((HPH.out w2 (HT.out.below (B8.out.trans (hC.mono B8.out.size))) (HF.out.below (B8.out.trans (hC.mono B8.out.size)))).mono ?_) ?_
              · (clear hV hI hC; go_simp <;> (first | rfl | simp))
              · rintro e y ⟨rfl, hb⟩; exact ⟨_, rfl, rfl, hb⟩
              · rintro v y ⟨rfl, hb⟩; exact ⟨hC.trans (hb.mono hC.size), hb, by intro d hd; cases hd; rfl⟩
            case o39 =>
              intro Q a w2 hC hV hI
              have e8 : a.eval (.tmp 8) = .pointer (some ⟨w1.heap.size, 0, none⟩) := (hI 8 (by simp [Op.operands]) (by kernel_rfl)).trans rfl
              have f8 : a.tmps.getD 8 undef = .pointer (some ⟨w1.heap.size, 0, none⟩) := e8
              have g8 : a.tmps[8]?.getD undef = .pointer (some ⟨w1.heap.size, 0, none⟩) := by rw [← Array.getD_eq_getD_getElem?]; exact e8
              refine op_val (.slice (some ⟨w1.heap.size, 0, none⟩) 512 512) ?_ hC (Below.refl _ _) (by intro d hd; cases hd; rfl)
              (clear hV hI hC; go_simp <;> (first | rfl | simp))
            case o40 =>
              intro Q a w2 hC hV hI
              have e39 : a.eval (.tmp 39) = .slice (some ⟨w1.heap.size, 0, none⟩) 512 512 := hV 39 (by simp [Op.operands]) (by kernel_rfl)
              have f39 : a.tmps.getD 39 undef = .slice (some ⟨w1.heap.size, 0, none⟩) 512 512 := e39
              have g39 : a.tmps[39]?.getD undef = .slice (some ⟨w1.heap.size, 0, none⟩) 512 512 := by rw [← Array.getD_eq_getD_getElem?]; exact e39
              have q9 := HCB.out _ (K8.out.below hC zK8)
              refine op_val (.string bl) ?_ hC (Below.refl _ _) (by intro d hd; cases hd; rfl)
              (clear hV hI hC; go_simp <;> (first | rfl | simp))
            case o41 =>
              intro Q a w2 hC hV hI
              have e38 : a.eval (.tmp 38) = .string hd := hV 38 (by simp [Op.operands]) (by kernel_rfl)
              have f38 : a.tmps.getD 38 undef = .string hd := e38
              have g38 : a.tmps[38]?.getD undef = .string hd := by rw [← Array.getD_eq_getD_getElem?]; exact e38
              have e40 : a.eval (.tmp 40) = .string bl := hV 40 (by simp [Op.operands]) (by kernel_rfl)
              have f40 : a.tmps.getD 40 undef = .string bl := e40
              have g40 : a.tmps[40]?.getD undef = .string bl := by rw [← Array.getD_eq_getD_getElem?]; exact e40
              refine op_val (.bool true) ?_ hC (Below.refl _ _) (by intro d hd; cases hd; rfl)
              (clear hV hI hC; go_simp <;> (first | rfl | simp))
          case hend =>
            intro f w9 hC hall
            simp only [List.forall_mem_cons] at hall
            obtain ⟨h36, h37, h38, h39, h40, h41, _⟩ := hall
            replace h36 : f 36 = .func (.func 49) #[] #[] := h36 36 rfl
            replace h37 : f 37 = .agg #[.int .i64 0, .string pth, .string lk, .int .i64 nm, .int .i64 nu, .int .i64 ng, .int .i64 nt, .string us, .string gr, .string ⟨#[]⟩, .string fl, .int .i64 nz] := h37 37 rfl
            replace h38 : f 38 = .string hd := h38 38 rfl
            replace h39 : f 39 = .slice (some ⟨w1.heap.size, 0, none⟩) 512 512 := h39 39 rfl
            replace h40 : f 40 = .string bl := h40 40 rfl
            replace h41 : f 41 = .bool true := h41 41 rfl
            simp only [putAll, Act.put, List.setIfInBounds_toArray, List.set_cons_succ, List.set_cons_zero, h36, h37, h38, h39, h40, h41]
            clear h36 h37 h38 h39 h40 h41
            have RO9 := Lib.hid ((hC.block _ zR8).trans RO8.out)
            have B9 := Lib.hid (B8.out.trans (hC.mono B8.out.size))
            have HSt := Lib.hid (run_storeVar_row (P := Tryz.prog) _ w.heap.size 40 40 zHead zHead RO9.out (by rw [Tryz.sizeHd]; rfl) rfl (by simp [zHead, Value.oneCell']))
            clear hC
            go_wp2_with ((with_reducible refine wpList_store_eq rfl 40 _ _ rfl ⟨w.heap.size, 0, none⟩ ?_ ?_ HSt.out ?_); rfl; rfl)
            refine bodyPost_ret (results_cell2 rfl _ _ w.heap.size _ zHead (0, 0) _ rfl (setRow_heap _ _ _ _ _ _ RO9.out) Tryz.underlying40 rfl (by rw [Tryz.sizeHd]; rfl)) rfl ?_
            rw [HE4.out]
            exact ⟨rfl, B9.out.trans (below_set (Nat.le_refl _) _)⟩
  · have q := ba_ne hq
    have HE2 : Hid (readVG s ok val hd = badHd 2) := Lib.hid (by rw [HE.out, HQ.out, if_pos (by simp [hq])])
    clear HE HQ hq HHd
    refine wp_region_inv (by kernel_rfl) (fun w' => Below w4.heap.size w4 w') (fun x y => Below x.heap.size x y) (fun d v _ => match d with | 19 => v = .slice (some ⟨w1.heap.size, 148, none⟩) 8 8 | 20 => v = .string f6 | 21 => v = .string s | 22 => v = .string st | 23 => v = .bool true | _ => True) (by kernel_rfl) ((Below.refl _ _).drew) (fun _ _ _ _ _ _ h => h) ?hops ?hend
    case hops =>
      simp only [List.forall_mem_cons]
      refine ⟨?o19, ?o20, ?o21, ?o22, ?o23, fun _ h => by cases h⟩
      case o19 =>
        intro Q a w2 hC hV hI
        have e8 : a.eval (.tmp 8) = .pointer (some ⟨w1.heap.size, 0, none⟩) := (hI 8 (by simp [Op.operands, Call.operands]) (by kernel_rfl)).trans rfl
        have f8 : a.tmps.getD 8 undef = .pointer (some ⟨w1.heap.size, 0, none⟩) := e8
        have g8 : a.tmps[8]?.getD undef = .pointer (some ⟨w1.heap.size, 0, none⟩) := by rw [← Array.getD_eq_getD_getElem?]; exact e8
        refine op_call (f := 72) (args := #[.pointer (some ⟨w1.heap.size, 0, none⟩), .int .i64 6]) (R := fun v y => v = .slice (some ⟨w1.heap.size, 148, none⟩) 8 8 ∧ w2 = y) ?_ ((HF6.out w1.heap.size w2 (HF.out.below (BT4.out _ hC))).mono ?_) ?_
        · (clear hV hI hC; go_simp <;> (first | rfl | simp))
        · rintro e y ⟨rfl, rfl⟩; exact ⟨_, rfl, rfl, rfl⟩
        · rintro v y ⟨rfl, rfl⟩; exact ⟨hC, Below.refl _ _, by intro d hd; cases hd; rfl⟩
      case o20 =>
        intro Q a w2 hC hV hI
        have e19 : a.eval (.tmp 19) = .slice (some ⟨w1.heap.size, 148, none⟩) 8 8 := hV 19 (by simp [Op.operands]) (by kernel_rfl)
        have f19 : a.tmps.getD 19 undef = .slice (some ⟨w1.heap.size, 148, none⟩) 8 8 := e19
        have g19 : a.tmps[19]?.getD undef = .slice (some ⟨w1.heap.size, 148, none⟩) 8 8 := by rw [← Array.getD_eq_getD_getElem?]; exact e19
        have q9 := HCV.out _ w2 (K4.out.below hC z4)
        refine op_val (.string f6) ?_ hC (Below.refl _ _) (by intro d hd; cases hd; rfl)
        (clear hV hI hC; go_simp <;> (first | rfl | simp))
      case o21 =>
        intro Q a w2 hC hV hI
        have e0 : a.eval (.tmp 0) = .string s := (hI 0 (by simp [Op.operands]) (by kernel_rfl)).trans rfl
        have f0 : a.tmps.getD 0 undef = .string s := e0
        have g0 : a.tmps[0]?.getD undef = .string s := by rw [← Array.getD_eq_getD_getElem?]; exact e0
        refine op_val (.string s) ?_ hC (Below.refl _ _) (by intro d hd; cases hd; rfl)
        (clear hV hI hC; go_simp <;> (first | rfl | simp))
      case o22 =>
        intro Q a w2 hC hV hI
        have e21 : a.eval (.tmp 21) = .string s := hV 21 (by simp [Op.operands, Call.operands]) (by kernel_rfl)
        have f21 : a.tmps.getD 21 undef = .string s := e21
        have g21 : a.tmps[21]?.getD undef = .string s := by rw [← Array.getD_eq_getD_getElem?]; exact e21
        refine op_call (f := 73) (args := #[.string s]) (R := fun v y => v = .string st ∧ Below w2.heap.size w2 y) ?_ ((HSum.out w2 (HT.out.below (BT4.out _ hC)) (HF.out.below (BT4.out _ hC))).mono ?_) ?_
        · (clear hV hI hC; go_simp <;> (first | rfl | simp))
        · rintro e y ⟨rfl, hb⟩; exact ⟨_, rfl, rfl, hb⟩
        · rintro v y ⟨rfl, hb⟩; exact ⟨hC.trans (hb.mono hC.size), hb, by intro d hd; cases hd; rfl⟩
      case o23 =>
        intro Q a w2 hC hV hI
        have e20 : a.eval (.tmp 20) = .string f6 := hV 20 (by simp [Op.operands]) (by kernel_rfl)
        have f20 : a.tmps.getD 20 undef = .string f6 := e20
        have g20 : a.tmps[20]?.getD undef = .string f6 := by rw [← Array.getD_eq_getD_getElem?]; exact e20
        have e22 : a.eval (.tmp 22) = .string st := hV 22 (by simp [Op.operands]) (by kernel_rfl)
        have f22 : a.tmps.getD 22 undef = .string st := e22
        have g22 : a.tmps[22]?.getD undef = .string st := by rw [← Array.getD_eq_getD_getElem?]; exact e22
        refine op_val (.bool true) ?_ hC (Below.refl _ _) (by intro d hd; cases hd; rfl)
        (clear hV hI hC; go_simp <;> (first | rfl | simp))
    case hend =>
      intro f w5 hC hall
      simp only [List.forall_mem_cons] at hall
      obtain ⟨h19, h20, h21, h22, h23, _⟩ := hall
      replace h19 : f 19 = .slice (some ⟨w1.heap.size, 148, none⟩) 8 8 := h19 19 rfl
      replace h20 : f 20 = .string f6 := h20 20 rfl
      replace h21 : f 21 = .string s := h21 21 rfl
      replace h22 : f 22 = .string st := h22 22 rfl
      replace h23 : f 23 = .bool true := h23 23 rfl
      simp only [putAll, Act.put, List.setIfInBounds_toArray, List.set_cons_succ, List.set_cons_zero, h19, h20, h21, h22, h23]
      clear h19 h20 h21 h22 h23
      have RO5 := Lib.hid ((hC.block _ (Nat.lt_trans zR z4)).trans RO4.out)
      have B5 := Lib.hid (BT4.out _ hC)
      have HSt := Lib.hid (run_storeVar_row (P := Tryz.prog) w5 w.heap.size 40 40 zHead zHead RO5.out (by rw [Tryz.sizeHd]; rfl) rfl (by simp [zHead, Value.oneCell']))
      clear hC
      go_wp2_with ((with_reducible refine wpList_store_eq rfl 40 _ _ rfl ⟨w.heap.size, 0, none⟩ ?_ ?_ HSt.out ?_); rfl; rfl)
      refine bodyPost_ret (results_cell2 rfl _ _ w.heap.size _ zHead (0, 0) _ rfl (setRow_heap _ _ _ _ _ _ RO5.out) Tryz.underlying40 rfl (by rw [Tryz.sizeHd]; rfl)) rfl ?_
      rw [HE2.out]
      exact ⟨rfl, B5.out.trans (below_set (Nat.le_refl _) _)⟩

end Go.Proofs.YtancidbbkoeokaaGreatDoor
