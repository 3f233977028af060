/- Contract of impl.Parts. -/
import Derived.Test.YtcnmbolmgifgfabGreatDoorComps
import Derived.Test.YtcnmbolmgifgfabGreatDoorClone
import Derived.Test.YtcnmbolmgifgfabGreatDoorOwnL
import Derived.RangeFuncBox
namespace Go.Proofs.YtcnmbolmgifgfabGreatDoor
open Go.RowKit Go.Shelf

theorem OwnL.keep {w w' : World} {base : Nat} {v : Value} {l : List ByteArray} (h : OwnL w base v l) (hb : Below w.heap.size w w') : OwnL w' base v l := by
  obtain ⟨ho, g, cap, rfl⟩ := h
  exact ⟨OwnT.below ho hb (World.ownsRow.lt ho g rfl).2, g, cap, rfl⟩
theorem OwnT.rebase {w : World} {base g n cap : Nat} {xs : List Value} (h : OwnT w base (.slice (some ⟨g, 0, none⟩) n cap) n xs) : OwnT w g (.slice (some ⟨g, 0, none⟩) n cap) n xs := by
  refine ⟨h.1, ?_⟩
  rcases h.2 with ⟨h', _⟩ | ⟨g', cap', cur, h', _, hgg, rest⟩
  · simp at h'
  · simp only [Value.slice.injEq, Option.some.injEq, Addr.mk.injEq, and_true, true_and] at h'
    obtain ⟨rfl, rfl⟩ := h'
    exact .inr ⟨g, cap, cur, rfl, Nat.le_refl _, hgg, rest⟩

attribute [local go_sem] Oper.semAt_some

end Go.Proofs.YtcnmbolmgifgfabGreatDoor
