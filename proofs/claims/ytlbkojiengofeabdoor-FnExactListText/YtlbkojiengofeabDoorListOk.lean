/- Contract of spec.ListOk. -/
import Derived.Test.YtlbkojiengofeabDoorEntOk
import Derived.Test.YtlbkojiengofeabDoorFindE
import Derived.Deep.RegionWith
import Derived.Deep.RegionHeld3
namespace Go.Proofs.YtlbkojiengofeabDoor
open Go.ChangeShapes Go.WideShapes Go.ChangeAt Go.RowKit Go.Deep

/-- No entry's texts are longer than a bound that no argument comes near. -/
def SmallL (L : List Ent) : Prop := ∀ e ∈ L, esz e ≤ 4194304
theorem findFrom_cases (L : List Ent) (p : ByteArray) (i : Nat) : findFrom L p i = -1 ∨ ∃ (a : Nat) (e : Ent), findFrom L p i = ((i + a : Nat) : Int) ∧ L[a]? = some e ∧ e.path = p := by
  induction L generalizing i with
  | nil => exact .inl rfl
  | cons e L ih =>
    rw [findFrom]
    by_cases h : e.path = p
    · rw [if_pos h]
      exact .inr ⟨0, e, by simp, rfl, h⟩
    · rw [if_neg h]
      rcases ih (i + 1) with h1 | ⟨a, e', h1, h2, h3⟩
      · exact .inl h1
      · exact .inr ⟨a + 1, e', by rw [h1]; congr 1; omega, by simpa using h2, h3⟩
theorem find_cases (L : List Ent) (p : ByteArray) : findv L p = -1 ∨ ∃ (a : Nat) (e : Ent), findv L p = ((a : Nat) : Int) ∧ L[a]? = some e ∧ e.path = p := by
  rcases findFrom_cases L p 0 with h | ⟨a, e, h, h1, h2⟩
  · exact .inl h
  · exact .inr ⟨a, e, by rw [findv, h]; simp, h1, h2⟩
/-- The file that a hard link among the entries behind L asks for. -/
def fileIn (L : List Ent) (p : ByteArray) : Bool := L.any fun e => decide (e.path = p) && decide (e.kind = 0)
def fileAt (L : List Ent) (p : ByteArray) : Bool := if findv L p < 0 then false else decide ((L.getD (findv L p).toNat entD).kind = 0)
theorem fileAt_none {L : List Ent} {p : ByteArray} (h : findv L p = -1) : fileAt L p = false := by simp [fileAt, h]
theorem fileAt_some {L : List Ent} {p : ByteArray} {a : Nat} {e : Ent} (h : findv L p = (a : Int)) (he : L[a]? = some e) : fileAt L p = decide (e.kind = 0) := by
  rw [fileAt, h, if_neg (by omega)]
  simp [List.getD, he]
/-- What the i-th entry e of L must be. -/
def entAtOk (L : List Ent) (i : Nat) (e : Ent) : Bool := entOkv e && decide (findv L e.path = (i : Int)) && (if e.kind = 3 then fileAt (L.take i) e.link else true)
def listOkv (L : List Ent) : Bool := ((List.range L.length).all fun i => entAtOk L i (L.getD i entD)) && decide (L.length ≤ 30)
def OksTo (L : List Ent) (i : Nat) : Prop := ∀ j, j < i → entAtOk L j (L.getD j entD) = true
theorem OksTo.step {L : List Ent} {i : Nat} {e : Ent} (h : OksTo L i) (he : L[i]? = some e) (hk : entAtOk L i e = true) : OksTo L (i + 1) := by
  intro j hj
  by_cases e1 : j = i
  · subst e1; simpa [List.getD, he] using hk
  · exact h j (by omega)
theorem listOk_bad {L : List Ent} {i : Nat} {e : Ent} (he : L[i]? = some e) (hk : entAtOk L i e = false) : listOkv L = false := by
  have hlt : i < L.length := (List.getElem?_eq_some_iff.1 he).1
  cases h : listOkv L with
  | false => rfl
  | true =>
    simp only [listOkv, Bool.and_eq_true, List.all_eq_true] at h
    have := h.1 i (List.mem_range.2 hlt)
    simp only [List.getD, he, Option.getD_some] at this
    rw [hk] at this; cases this
theorem listOk_done {L : List Ent} (h : OksTo L L.length) : listOkv L = decide (L.length ≤ 30) := by
  have : ((List.range L.length).all fun i => entAtOk L i (L.getD i entD)) = true := List.all_eq_true.2 (fun i hi => h i (List.mem_range.1 hi))
  rw [listOkv, this]; simp
theorem small_parts {e : Ent} (h : esz e ≤ 4194304) : e.path.size ≤ 4194304 ∧ e.link.size ≤ 4194304 ∧ e.user.size ≤ 4194304 ∧ e.group.size ≤ 4194304 ∧ e.body.size ≤ 4194304 := by
  simp only [esz] at h
  omega
theorem SmallL.get {L : List Ent} (h : SmallL L) {i : Nat} {e : Ent} (he : L[i]? = some e) : esz e ≤ 4194304 := h e (List.mem_of_getElem? he)
theorem kept_cellF {x w1 : World} {g k : Nat} {t : Value} (h1 : Below x.heap.size x w1) (hg : g + 1 ≤ x.heap.size) (hc : x.cell? ⟨g, k, none⟩ = .some t) : w1.cell? ⟨g, k, none⟩ = .some t := (h1.cell (p := ⟨g, k, none⟩) hg).trans hc
end Go.Proofs.YtlbkojiengofeabDoor
