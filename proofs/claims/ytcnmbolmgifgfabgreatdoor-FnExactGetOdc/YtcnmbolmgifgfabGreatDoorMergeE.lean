/- Contract of spec.Merge. -/
import Derived.Test.YtcnmbolmgifgfabGreatDoorListOk
namespace Go.Proofs.YtcnmbolmgifgfabGreatDoor
open Go.ChangeShapes Go.WideShapes Go.ChangeAt Go.RowKit Go.Deep

theorem OwnE.open {w : World} {base : Nat} {v : Value} {L : List Ent} (h : OwnE w base v L) : ∃ g cap, v = .slice (some ⟨g, 0, none⟩) L.length cap ∧ RowE w g L ∧ g < w.heap.size ∧ base ≤ g ∧ L.length ≤ cap ∧ w.ownsRow base 45 10 (.slice (some ⟨g, 0, none⟩) L.length cap) L.length (entVals L) := by
  obtain ⟨ho, g, cap, rfl⟩ := h
  have hr := OwnE.row (n := L.length) ⟨ho, g, cap, rfl⟩
  refine ⟨g, cap, rfl, hr.1, hr.2.1, hr.2.2.1, ?_, ho⟩
  rcases ho.2 with ⟨h', _⟩ | ⟨g', cap', cur, h', _, _, hnc, _⟩
  · simp at h'
  · simp at h'
    obtain ⟨_, rfl⟩ := h'
    exact hnc
/-- The entries of L, as far as i, whose path is none of M's. -/
def mergeTo (L M : List Ent) : Nat → List Ent
  | 0 => []
  | i + 1 => if findv M (L.getD i entD).path < 0 then mergeTo L M i ++ [L.getD i entD] else mergeTo L M i
def mergev (L M : List Ent) : List Ent := if listOkv (mergeTo L M L.length ++ M) = true then mergeTo L M L.length ++ M else L
theorem mergeTo_len (L M : List Ent) (i : Nat) : (mergeTo L M i).length ≤ i := by
  induction i with
  | zero => simp [mergeTo]
  | succ i ih =>
    rw [mergeTo]
    split
    · simp; omega
    · omega
theorem mergeTo_hit {L M : List Ent} {i : Nat} {e : Ent} (h : L[i]? = some e) (hf : findv M e.path < 0) : mergeTo L M (i + 1) = mergeTo L M i ++ [e] := by
  rw [mergeTo]; simp [List.getD, h, hf]
theorem mergeTo_miss {L M : List Ent} {i : Nat} {e : Ent} (h : L[i]? = some e) (hf : ¬ findv M e.path < 0) : mergeTo L M (i + 1) = mergeTo L M i := by
  rw [mergeTo]; simp [List.getD, h, hf]
theorem mergeTo_mem {L M : List Ent} {i : Nat} (hi : i ≤ L.length) : ∀ e ∈ mergeTo L M i, e ∈ L := by
  induction i with
  | zero => simp [mergeTo]
  | succ i ih =>
    rw [mergeTo]
    have hx : L.getD i entD ∈ L := by
      rw [List.getD, List.getElem?_eq_getElem (show i < L.length by omega)]
      exact List.getElem_mem _
    split
    · intro e he
      rcases List.mem_append.1 he with h | h
      · exact ih (by omega) e h
      · simp at h; subst h; exact hx
    · exact ih (by omega)
theorem own_belowE {w w' : World} {base : Nat} {ty : TypeId} {v : Value} {n : Nat} {xs : List Value} (h : w.ownsRow base ty 10 v n xs) (hb : Below w.heap.size w w') : w'.ownsRow base ty 10 v n xs :=
  World.ownsRow.kept h (row := none) ⟨hb.os, hb.tape, hb.output, hb.size, fun k hk _ => hb.block k hk⟩ (by cases hv : v.ownBlock <;> simp)
end Go.Proofs.YtcnmbolmgifgfabGreatDoor
