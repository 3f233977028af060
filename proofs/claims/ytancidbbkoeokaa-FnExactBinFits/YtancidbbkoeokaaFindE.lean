/- Contracts of spec.Find and impl.Find. -/
import Derived.Test.YtancidbbkoeokaaEntL
namespace Go.Proofs.Ytancidbbkoeokaa
open Go.ChangeShapes Go.WideShapes Go.ChangeAt Go.RowKit Go.Deep

/-- The place of the first entry with a path, among the entries from i on; or none. -/
def findFrom (L : List Ent) (p : ByteArray) (i : Nat) : Int :=
  match L with
  | [] => -1
  | e :: L => if e.path = p then i else findFrom L p (i + 1)
def findv (L : List Ent) (p : ByteArray) : Int := findFrom L p 0
theorem findFrom_drop (L : List Ent) (p : ByteArray) (i : Nat) {e : Ent} (h : L[i]? = some e) : findFrom (L.drop i) p i = if e.path = p then (i : Int) else findFrom (L.drop (i + 1)) p (i + 1) := by
  have hlt : i < L.length := (List.getElem?_eq_some_iff.1 h).1
  rw [List.drop_eq_getElem_cons hlt, (List.getElem?_eq_some_iff.1 h).2, findFrom]
theorem findFrom_end (L : List Ent) (p : ByteArray) (i : Nat) (h : L.length ≤ i) : findFrom (L.drop i) p i = -1 := by
  rw [List.drop_eq_nil_of_le h, findFrom]
theorem getE' {L : List Ent} {i : Nat} (h : i < L.length) : ∃ e, L[i]? = some e := ⟨L[i], List.getElem?_eq_getElem h⟩
theorem baE_eq {a b : ByteArray} (h : a = b) : (a.toList == b.toList) = true := by rw [h]; simp
theorem baE_ne {a b : ByteArray} (h : ¬ a = b) : (a.toList == b.toList) = false := by
  simp only [beq_eq_false_iff_ne, ne_eq]
  intro e
  apply h
  obtain ⟨⟨x⟩⟩ := a
  obtain ⟨⟨y⟩⟩ := b
  simpa using e

end Go.Proofs.Ytancidbbkoeokaa
