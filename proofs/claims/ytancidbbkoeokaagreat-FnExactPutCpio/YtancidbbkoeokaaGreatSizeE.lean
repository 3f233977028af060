/- Contracts of spec.Size and spec.SameList. -/
import Derived.Test.YtancidbbkoeokaaGreatListOk
import Derived.Test.YtancidbbkoeokaaGreatEqE
namespace Go.Proofs.YtancidbbkoeokaaGreat
open Go.ChangeShapes Go.WideShapes Go.ChangeAt Go.RowKit Go.Deep

def sizev (L : List Ent) : Nat := (L.map fun e => e.body.size).sum
theorem sizev_take (L : List Ent) (i : Nat) {e : Ent} (h : L[i]? = some e) : sizev (L.take (i + 1)) = sizev (L.take i) + e.body.size := by
  have hlt : i < L.length := (List.getElem?_eq_some_iff.1 h).1
  rw [List.take_add_one, h]
  simp [sizev]
/-- All texts of a list together. -/
def totL (L : List Ent) : Nat := (L.map esz).sum
theorem sizev_le (L : List Ent) : sizev L ≤ totL L := by
  induction L with
  | nil => simp [sizev, totL]
  | cons e L ih => simp [sizev, totL, esz] at ih ⊢; omega
theorem totL_take (L : List Ent) (i : Nat) : totL (L.take i) ≤ totL L := by
  induction L generalizing i with
  | nil => simp [totL]
  | cons e L ih =>
    cases i with
    | zero => simp [totL]
    | succ i => have := ih i; simp [totL] at this ⊢; omega
end Go.Proofs.YtancidbbkoeokaaGreat
