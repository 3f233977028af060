/- Rows of texts that a call made itself: OwnL. -/
import Derived.Test.YtancidbbkoeokaaGreatRowS
import Derived.Maps.AppendAt
import Derived.IntWalk
namespace Go.Proofs.YtancidbbkoeokaaGreat
open Go.ChangeShapes Go.WideShapes Go.ChangeAt Go.RowKit

def strVals (l : List ByteArray) : List Value := l.map Value.string
theorem strVals_snoc (l : List ByteArray) (x : ByteArray) : strVals l ++ [.string x] = strVals (l ++ [x]) := by simp [strVals]
theorem strVals_len (l : List ByteArray) : (strVals l).length = l.length := by simp [strVals]
theorem Tryz.info9 : (Tryz.prog.info? 9).map (fun i => (i.zero, i.size, i.bytes)) = some (some (.string ⟨#[]⟩), 1, 16) := by kernel_rfl
def rowOf (L : List ByteArray) (i : Nat) : ByteArray := L.getD i ⟨#[]⟩
theorem OwnT.rowF {w : World} {base g n cap : Nat} {L : List ByteArray} (h : OwnT w base (.slice (some ⟨g, 0, none⟩) n cap) n (strVals L)) : RowF w g n (rowOf L) := by
  intro i hi
  have h1 := h.1
  rw [World.ownsRow.cellAt h i (by omega)]
  have hl : i < L.length := by simp [strVals] at h1; omega
  simp [strVals, rowOf, List.getElem?_eq_getElem hl]

/-- A row of texts of the call's own that is not nil. -/
def OwnL (w : World) (base : Nat) (v : Value) (l : List ByteArray) : Prop := OwnT w base v l.length (strVals l) ∧ ∃ g cap, v = .slice (some ⟨g, 0, none⟩) l.length cap

theorem own_snoc {w1 : World} {base : Nat} {v' : Value} {D : List ByteArray} {x : ByteArray} (h : w1.ownsRow base 9 1 v' (D.length + 1) (strVals D ++ [.string x])) (hnil : ¬ v' = .slice none 0 0) : OwnL w1 base v' (D ++ [x]) := by
  rw [strVals_snoc, show D.length + 1 = (D ++ [x]).length from by simp] at h
  refine ⟨h, ?_⟩
  obtain ⟨_, ⟨rfl, _⟩ | ⟨g', cap', cur, rfl, _⟩⟩ := h
  · exact absurd rfl hnil
  · exact ⟨g', cap', rfl⟩

end Go.Proofs.YtancidbbkoeokaaGreat
