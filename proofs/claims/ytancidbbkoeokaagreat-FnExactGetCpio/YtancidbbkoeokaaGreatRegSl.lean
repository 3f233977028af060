/- What a slot holds in a statement that draws its order, where one slot is a row of one that the statement lays, or a box. -/
import Derived.Test.YtancidbbkoeokaaGreatRegTail
import Derived.WalkKit
import Derived.Below
namespace Go.Proofs.YtancidbbkoeokaaGreat
open Go Go.RowKit

def vSlG (sl : Nat) (ty : TypeId) (B : Nat) (cs : Array Value) (V : Nat → Value → Prop) (d : Nat) (v : Value) (w : World) : Prop := if d = sl then ∃ G, v = .slice (some ⟨G, 0, none⟩) 1 1 ∧ B ≤ G ∧ w.heap[G]? = some (.cells cs ty (0, 0)) else V d v
theorem vSlG_keep {C : World → Prop} (sl : Nat) (ty : TypeId) (B : Nat) (cs : Array Value) (V : Nat → Value → Prop) : ∀ d v x y, C x → Below x.heap.size x y → vSlG sl ty B cs V d v x → vSlG sl ty B cs V d v y := by
  intro d v x y _ hb h
  unfold vSlG at h ⊢
  split at h
  · rename_i hd
    rw [if_pos hd]
    obtain ⟨G, h1, h2, h3⟩ := h
    exact ⟨G, h1, h2, (hb.block G (Array.getElem?_eq_some_iff.1 h3).1).trans h3⟩
  · rename_i hd
    rw [if_neg hd]; exact h
def vBxG (sl : Nat) (ty : TypeId) (B : Nat) (cs : Array Value) (V : Nat → Value → Prop) (d : Nat) (v : Value) (w : World) : Prop := if d = sl then ∃ G, v = .pointer (some ⟨G, 0, none⟩) ∧ B ≤ G ∧ w.heap[G]? = some (.cells cs ty (0, 0)) else V d v
theorem vBxG_keep {C : World → Prop} (sl : Nat) (ty : TypeId) (B : Nat) (cs : Array Value) (V : Nat → Value → Prop) : ∀ d v x y, C x → Below x.heap.size x y → vBxG sl ty B cs V d v x → vBxG sl ty B cs V d v y := by
  intro d v x y _ hb h
  unfold vBxG at h ⊢
  split at h
  · rename_i hd
    rw [if_pos hd]
    obtain ⟨G, h1, h2, h3⟩ := h
    exact ⟨G, h1, h2, (hb.block G (Array.getElem?_eq_some_iff.1 h3).1).trans h3⟩
  · rename_i hd
    rw [if_neg hd]; exact h
def exRow (B n : Nat) (cs : Array Value) (ty : TypeId) (v : Value) (w : World) : Prop := ∃ G, v = .slice (some ⟨G, 0, none⟩) n n ∧ B ≤ G ∧ w.heap[G]? = some (.cells cs ty (0, 0))
theorem exRow_keep (B n : Nat) (cs : Array Value) (ty : TypeId) : ∀ v x y, Below x.heap.size x y → exRow B n cs ty v x → exRow B n cs ty v y := by
  rintro v x y hb ⟨G, h1, h2, h3⟩
  exact ⟨G, h1, h2, (hb.block G (Array.getElem?_eq_some_iff.1 h3).1).trans h3⟩
def vE (s : Nat) (P : Value → World → Prop) (V : Nat → Value → World → Prop) (d : Nat) (v : Value) (w : World) : Prop := if d = s then P v w else V d v w
theorem vE_keep {C : World → Prop} (s : Nat) (P : Value → World → Prop) (V : Nat → Value → World → Prop) (hP : ∀ v x y, Below x.heap.size x y → P v x → P v y) (hV : ∀ d v x y, C x → Below x.heap.size x y → V d v x → V d v y) : ∀ d v x y, C x → Below x.heap.size x y → vE s P V d v x → vE s P V d v y := by
  intro d v x y hc hb h
  unfold vE at h ⊢
  split at h
  · rename_i hd
    rw [if_pos hd]; exact hP v x y hb h
  · rename_i hd
    rw [if_neg hd]; exact hV d v x y hc hb h
theorem heap_lastG (w : World) (o : Obj) : (w.alloc o).heap[w.heap.size]? = some o := by
  show (w.heap.push o)[w.heap.size]? = _
  simp
theorem add_i64 {P : Program} {a b : Int} (w : World) (T : TypeId) (h0 : -9223372036854775808 ≤ a + b) (h1 : a + b ≤ 9223372036854775807) : (binOp .add T (.int .i64 a) (.int .i64 b)).run P w = .ok (.int .i64 (a + b)) w := by
  have e : IntKind.i64.wrap (a + b) = a + b := by rw [IntKind.wrap_i64]; omega
  simp [binOp, go_sem, e]
end Go.Proofs.YtancidbbkoeokaaGreat
