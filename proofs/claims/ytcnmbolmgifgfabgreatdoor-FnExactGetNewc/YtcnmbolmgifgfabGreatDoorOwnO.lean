/- What a row of texts of a call's own gives, in one piece; rows of texts behind a call that writes another block. -/
import Derived.Test.YtcnmbolmgifgfabGreatDoorPartsI
namespace Go.Proofs.YtcnmbolmgifgfabGreatDoor
open Go.ChangeShapes Go.WideShapes Go.ChangeAt Go.RowKit

theorem OwnL.open {w : World} {base : Nat} {v : Value} {L : List ByteArray} (h : OwnL w base v L) : ∃ g cap, v = .slice (some ⟨g, 0, none⟩) L.length cap ∧ RowF w g L.length (rowOf L) ∧ g < w.heap.size ∧ base ≤ g ∧ OwnT w g (.slice (some ⟨g, 0, none⟩) L.length cap) L.length (strVals L) := by
  obtain ⟨ho, g, cap, rfl⟩ := h
  exact ⟨g, cap, rfl, ho.rowF, (World.ownsRow.lt ho g rfl).2, (World.ownsRow.lt ho g rfl).1, ho.rebase⟩
theorem RowF.grown {w w' : World} {g n : Nat} {row : Option Nat} {R : Nat → ByteArray} (h : RowF w g n R) (hb : w.grownBy w' row) (hg : some g ≠ row) : RowF w' g n R :=
  fun i hi => hb.cell (h i hi) hg
theorem OwnT.grown {w w' : World} {base g n cap : Nat} {row : Option Nat} {xs : List Value} (h : OwnT w base (.slice (some ⟨g, 0, none⟩) n cap) n xs) (hb : w.grownBy w' row) (hg : some g ≠ row) : OwnT w' base (.slice (some ⟨g, 0, none⟩) n cap) n xs :=
  World.ownsRow.kept h hb (.inr (by simpa [Value.ownBlock] using hg))
theorem someNe {a b : Nat} (h : a ≠ b) : some a ≠ some b := fun e => h (Option.some.inj e)
end Go.Proofs.YtcnmbolmgifgfabGreatDoor
