/- Structs Card as they come in: 8 fields, each of one cell; laws.toCard, laws.szCard; such structs in memory. -/
import Derived.Test.YtancidbbkoeokaaGreatProg
import Derived.Test.YtancidbbkoeokaaGreatCom
import Derived.WalkKit
import Derived.ProofKit
import Derived.OpenShut
import Derived.Below
import Derived.Deep.Fields
import Derived.Deep.Slices
import Derived.Lib.Hide
import Derived.Laws.NewBlocks
namespace Go.Proofs.YtancidbbkoeokaaGreat
open Go.ChangeShapes Go.WideShapes Go.ChangeAt Go.RowKit Go.Deep

structure Card where
  Ino : Int
  Mode : Int
  Uid : Int
  Gid : Int
  Count : Int
  Time : Int
  Path : ByteArray
  Data : ByteArray
deriving DecidableEq
def Card.cells (e : Card) : List Value := [.int .i64 e.Ino, .int .i64 e.Mode, .int .i64 e.Uid, .int .i64 e.Gid, .int .i64 e.Count, .int .i64 e.Time, .string e.Path, .string e.Data]
def I64C (n : Int) : Prop := -9223372036854775808 ≤ n ∧ n ≤ 9223372036854775807
def Card.wf (e : Card) : Prop := I64C e.Ino ∧ I64C e.Mode ∧ I64C e.Uid ∧ I64C e.Gid ∧ I64C e.Count ∧ I64C e.Time ∧ e.Path.size ≤ maxLen ∧ e.Data.size ≤ maxLen
section
variable {H : Type} {enc : TypeId × Value → H} {P : Program} {w : World} {base : Nat} {spare : Nat → Bool} {held : Bool}
theorem cell_ofC {t T : TypeId} {fs : Array Field} {fuel : Nat} {cs : List Value} {x : DataW H × List MemPlace} (he : P.underlying t = some (.struct fs)) (hone : oneCellFields P fs = true) (hC : P.cellsOf t = fs.size)
    (h : DataW.trod enc P w base spare held fuel t cs = some x) (j : Nat) (hT : (fs.toList.map (·.type))[j]? = some T) : ∃ c n y, cs[j]? = some c ∧ DataW.trod enc P w base spare held n T [c] = some y := by
  obtain ⟨xs, n, _, _, hl, hlen, hf⟩ := DataW.trod_struct he h
  rw [List.getElem?_map] at hT
  cases hfj : fs.toList[j]? with
  | none => rw [hfj] at hT; cases hT
  | some f =>
    rw [hfj] at hT
    obtain rfl : f.type = T := by simpa using hT
    have hj : fs[j]? = some f := by simpa using hfj
    obtain ⟨ho, hk⟩ := hone_of hone j f hj
    have hlt : j < fs.size := (Array.getElem?_eq_some_iff.1 hj).1
    have h1 := hf j f hj
    rw [ho, hk] at h1
    have hjl : j < cs.length := by omega
    have hone' : (cs.drop j).take 1 = [cs[j]] := by
      rw [List.drop_eq_getElem_cons hjl]
      rfl
    rw [hone'] at h1
    have hx : j < xs.length := by omega
    rw [List.getElem?_eq_getElem hx] at h1
    exact ⟨cs[j], n, xs[j], List.getElem?_eq_getElem hjl, h1⟩
theorem openC {t ti ts : TypeId} {fs : Array Field} {fuel : Nat} {cs : List Value} {x : DataW H × List MemPlace} (he : P.underlying t = some (.struct fs)) (hone : oneCellFields P fs = true) (hC : P.cellsOf t = fs.size)
    (hty : fs.toList.map (·.type) = [ti, ti, ti, ti, ti, ti, ts, ts]) (hi : P.underlying ti = some (.int .i64)) (hs : P.underlying ts = some .string)
    (h : DataW.trod enc P w base spare held fuel t cs = some x) : ∃ e : Card, cs = e.cells ∧ e.wf := by
  have hlen : cs.length = 8 := by
    obtain ⟨xs, n, _, _, hl, _, _⟩ := DataW.trod_struct he h
    have := congrArg List.length hty
    simp at this
    omega
  have I : ∀ j : Nat, (fs.toList.map (·.type))[j]? = some ti → ∃ n, cs[j]? = some (Value.int .i64 n) ∧ I64C n := by
    intro j hj
    obtain ⟨c, n, y, hc, hy⟩ := cell_ofC he hone hC h j hj
    obtain ⟨m, hm, _, hw⟩ := DataW.trod_int hi hy
    obtain rfl : c = Value.int .i64 m := by simpa using hm
    exact ⟨m, hc, bounds_i64 hw⟩
  have S : ∀ j : Nat, (fs.toList.map (·.type))[j]? = some ts → ∃ s : ByteArray, cs[j]? = some (Value.string s) ∧ s.size ≤ maxLen := by
    intro j hj
    obtain ⟨c, n, y, hc, hy⟩ := cell_ofC he hone hC h j hj
    obtain ⟨s, hm, _, hw⟩ := DataW.trod_string hs hy
    obtain rfl : c = Value.string s := by simpa using hm
    exact ⟨s, hc, hw⟩
  rw [hty] at I S
  obtain ⟨x0, c0, w0⟩ := I 0 rfl
  obtain ⟨x1, c1, w1⟩ := I 1 rfl
  obtain ⟨x2, c2, w2⟩ := I 2 rfl
  obtain ⟨x3, c3, w3⟩ := I 3 rfl
  obtain ⟨x4, c4, w4⟩ := I 4 rfl
  obtain ⟨x5, c5, w5⟩ := I 5 rfl
  obtain ⟨x6, c6, w6⟩ := S 6 rfl
  obtain ⟨x7, c7, w7⟩ := S 7 rfl
  refine ⟨⟨x0, x1, x2, x3, x4, x5, x6, x7⟩, ?_, w0, w1, w2, w3, w4, w5, w6, w7⟩
  match cs, hlen with
  | [d0, d1, d2, d3, d4, d5, d6, d7], _ =>
    simp only [List.getElem?_cons_zero, List.getElem?_cons_succ, Option.some.injEq] at c0 c1 c2 c3 c4 c5 c6 c7
    rw [c0, c1, c2, c3, c4, c5, c6, c7]
    rfl
end
def szvC (x6 : ByteArray) (x7 : ByteArray) (left : Int) : Int := if left < (x6.size : Int) + (x7.size : Int) then -1 else left - ((x6.size : Int) + (x7.size : Int))
def CardAt (w : World) (b o : Nat) (e : Card) : Prop := ∀ i, i < 8 → w.cell? ⟨b, o + i, none⟩ = e.cells[i]?
theorem CardAt.below {w w' : World} {b o B : Nat} {e : Card} (h : CardAt w b o e) (hb : Below B w w') (hg : b < B) : CardAt w' b o e := fun i hi => (hb.cell (p := ⟨b, o + i, none⟩) hg).trans (h i hi)
theorem CardAt.zero {w : World} {b : Nat} {e : Card} (h : CardAt w b 0 e) : w.cell? ⟨b, 0, none⟩ = some (.int .i64 e.Ino) ∧ w.cell? ⟨b, 1, none⟩ = some (.int .i64 e.Mode) ∧ w.cell? ⟨b, 2, none⟩ = some (.int .i64 e.Uid) ∧ w.cell? ⟨b, 3, none⟩ = some (.int .i64 e.Gid) ∧ w.cell? ⟨b, 4, none⟩ = some (.int .i64 e.Count) ∧ w.cell? ⟨b, 5, none⟩ = some (.int .i64 e.Time) ∧ w.cell? ⟨b, 6, none⟩ = some (.string e.Path) ∧ w.cell? ⟨b, 7, none⟩ = some (.string e.Data) :=
  ⟨h 0 (by omega), h 1 (by omega), h 2 (by omega), h 3 (by omega), h 4 (by omega), h 5 (by omega), h 6 (by omega), h 7 (by omega)⟩
theorem CardAt.new (w : World) (e : Card) (t : TypeId) : CardAt (w.alloc (.cells e.cells.toArray t)) w.heap.size 0 e := fun i _ => by
  rw [World.cell?_alloc_at _ _ _ _ rfl]
  simp
theorem btC {x y z : World} (h : Below x.heap.size x y) (k : Below y.heap.size y z) : Below x.heap.size x z := h.trans (k.mono h.size)
theorem one_newC {w w1 : World} {e1 : Card} {t1 : TypeId} (h : Below (w.alloc (.cells e1.cells.toArray t1)).heap.size (w.alloc (.cells e1.cells.toArray t1)) w1) :
    CardAt w1 w.heap.size 0 e1 ∧ Below w.heap.size w w1 ∧ w.heap.size + 1 ≤ w1.heap.size := by
  have hs : (w.alloc (.cells e1.cells.toArray t1)).heap.size = w.heap.size + 1 := by simp
  exact ⟨(CardAt.new w e1 t1).below h (by omega), ((Below.refl _ w).alloc (Nat.le_refl _) _).trans (h.mono (by omega)), by have := h.size; omega⟩
/-- What a walk is told of a slice of them that came in: it is nil, or it leads to a row of cap of them. -/
def IsRowC (w : World) (a : Option Addr) (len cap : Nat) (es : List Card) : Prop :=
  (a = none ∧ len = 0 ∧ cap = 0 ∧ es = []) ∨
  ∃ x, a = some x ∧ len ≤ cap ∧ cap ≤ maxLen ∧ es.length = cap ∧ ∀ i, (h : i < es.length) → (∀ j, j < 8 → w.cell? (x.add (i * 8 + j)) = es[i].cells[j]?) ∧ es[i].wf
section
variable {H : Type} {enc : TypeId × Value → H} {P : Program} {w : World} {base : Nat} {held : Bool}
theorem opensC {t el ti ts : TypeId} {fs : Array Field} {fuel : Nat} {a : Option Addr} {len cap : Nat} {x : DataW H × List MemPlace} (ht : P.underlying t = some (.slice el)) (he : P.underlying el = some (.struct fs)) (hone : oneCellFields P fs = true) (hC : P.cellsOf el = fs.size)
    (hty : fs.toList.map (·.type) = [ti, ti, ti, ti, ti, ti, ts, ts]) (hi : P.underlying ti = some (.int .i64)) (hs : P.underlying ts = some .string)
    (h : DataW.trod enc P w base (fun _ => true) held fuel t [.slice a len cap] = some x) : ∃ es, IsRowC w a len cap es := by
  have hten : fs.size = 8 := by
    have := congrArg List.length hty
    simpa using this
  rcases open_slice ht h with ⟨hcs, _⟩ | ⟨y, l, c, m, n, D, Pl, hcs, _, hl, hm, hmm, _, hel⟩
  · simp at hcs
    obtain ⟨rfl, rfl, rfl⟩ := hcs
    exact ⟨[], .inl ⟨rfl, rfl, rfl, rfl⟩⟩
  · simp at hcs
    obtain ⟨rfl, rfl, rfl⟩ := hcs
    simp at hmm
    subst hmm
    have hex : ∀ i : Nat, ∃ e : Card, i < m → (∀ j, j < 8 → w.cell? (y.add (i * 8 + j)) = e.cells[j]?) ∧ e.wf := by
      intro i
      by_cases him : i < m
      · obtain ⟨cs', hc, ht'⟩ := hel i him
        obtain ⟨e, rfl, hw⟩ := openC he hone hC hty hi hs ht'
        obtain ⟨_, _, hat⟩ := World.cells?_some hc
        rw [hC, hten] at hat
        refine ⟨e, fun _ => ⟨fun j hj => ?_, hw⟩⟩
        rw [← Go.Deep.add_add]
        exact hat j hj
      · exact ⟨⟨0, 0, 0, 0, 0, 0, ⟨#[]⟩, ⟨#[]⟩⟩, fun h => absurd h him⟩
    refine ⟨(List.range m).map fun i => Classical.choose (hex i), .inr ⟨y, rfl, hl, hm, by simp, fun i hi => ?_⟩⟩
    have hi' : i < m := by simpa using hi
    have := Classical.choose_spec (hex i) hi'
    simpa using this
end
end Go.Proofs.YtancidbbkoeokaaGreat
