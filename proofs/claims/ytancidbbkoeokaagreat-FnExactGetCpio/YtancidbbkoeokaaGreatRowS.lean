/- Contracts of laws.eqStringS, laws.markStringS, laws.heldStringS on rows of texts. -/
import Derived.Test.YtancidbbkoeokaaGreatMarkT
import Derived.WalkSmall
import Derived.Deep.RegionWith
namespace Go.Proofs.YtancidbbkoeokaaGreat
open Go.ChangeShapes Go.WideShapes Go.ChangeAt Go.RowKit

/-- The n cells of block g are the texts R 0, R 1, ... -/
def RowF (w : World) (g n : Nat) (R : Nat → ByteArray) : Prop := ∀ i, i < n → w.cell? ⟨g, i, none⟩ = some (.string (R i))
theorem RowF.below {w w' : World} {g n B : Nat} {R : Nat → ByteArray} (h : RowF w g n R) (hb : Below B w w') (hg : g < B) : RowF w' g n R :=
  fun i hi => (hb.cell (p := ⟨g, i, none⟩) hg).trans (h i hi)
def OwnT (w : World) (base : Nat) (v : Value) (n : Nat) (xs : List Value) : Prop := w.ownsRow base 9 1 v n xs
theorem OwnT.below {w w' : World} {base g n cap B : Nat} {xs : List Value} (h : OwnT w base (.slice (some ⟨g, 0, none⟩) n cap) n xs) (hb : Below B w w') (hg : g < B) : OwnT w' base (.slice (some ⟨g, 0, none⟩) n cap) n xs := by
  refine ⟨h.1, ?_⟩
  rcases h.2 with ⟨h', _⟩ | ⟨g', cap', cur, h', hx, hgg, rest⟩
  · simp at h'
  · simp only [Value.slice.injEq, Option.some.injEq, Addr.mk.injEq, and_true, true_and] at h'
    obtain ⟨rfl, rfl⟩ := h'
    exact .inr ⟨g, cap, cur, rfl, hx, (hb.block g hg).trans hgg, rest⟩
theorem OwnT.cellv {w : World} {base g n cap : Nat} {xs : List Value} (h : OwnT w base (.slice (some ⟨g, 0, none⟩) n cap) n xs) (i : Nat) (hi : i < n) : w.cell? ⟨g, i, none⟩ = some (xs.getD i (.bool true)) := by
  have h1 := h.1
  rw [World.ownsRow.cellAt h i (by omega)]
  simp [List.getD, List.getElem?_eq_getElem (show i < xs.length by omega)]
theorem self_eq (a : ByteArray) : (a.toList == a.toList) = true := by simp
theorem bl_chain {w x w1 : World} (h1 : Below x.heap.size x w1) (os : x.os = w.os) (tape : x.tape = w.tape) (out : x.output = w.output) (hs : w.heap.size ≤ x.heap.size) (B : Nat) (hB : B ≤ x.heap.size) (hb : ∀ k, k < B → x.heap[k]? = w.heap[k]?) : Below B w w1 :=
  ⟨h1.os.trans os, h1.tape.trans tape, h1.output.trans out, Nat.le_trans hs h1.size, fun k hk => (h1.block k (Nat.lt_of_lt_of_le hk hB)).trans (hb k hk)⟩
theorem kept_cell {x w1 : World} {g k : Nat} {t : Value} (h1 : Below x.heap.size x w1) (hg : g < x.heap.size) (hc : x.cell? ⟨g, k, none⟩ = .some t) : w1.cell? ⟨g, k, none⟩ = .some t := (h1.cell (p := ⟨g, k, none⟩) hg).trans hc
def mk1 (i : Nat) : ByteArray := markv (i + 1)

/-- The first k texts are the marks. -/
def Marked (ys : List Value) (k : Nat) : Prop := ∀ i, i < k → ys[i]? = some (.string (mk1 i))
theorem Marked.step {ys : List Value} {k : Nat} (h : Marked ys k) (hk : k < ys.length) : Marked (ys.set k (.string (mk1 k))) (k + 1) := by
  intro i hi
  by_cases e : i = k
  · subst e; simp [hk]
  · rw [List.getElem?_set_ne (Ne.symm e)]; exact h i (by omega)
theorem Marked.row {w : World} {base g n cap : Nat} {ys : List Value} (h : Marked ys n) (ho : OwnT w base (.slice (some ⟨g, 0, none⟩) n cap) n ys) : RowF w g n mk1 :=
  fun i hi => (World.ownsRow.cellAt ho i (by omega)).trans (h i hi)

end Go.Proofs.YtancidbbkoeokaaGreat
