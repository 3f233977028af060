/- ListOk by the kinds of the entries so far: plain mathematics. -/
import Derived.Test.YtpimeekcnndhiaaListOk
import Derived.Test.YtpimeekcnndhiaaMapS
namespace Go.Proofs.Ytpimeekcnndhiaa
open Go.RowKit

/-- The kind of the first entry with a path. -/
def kindOf (L : List Ent) (p : ByteArray) : Option Int := (L.find? fun e => decide (e.path = p)).map Ent.kind
theorem findFrom_kind (L : List Ent) (p : ByteArray) (i : Nat) : (kindOf L p = none ∧ findFrom L p i = -1) ∨ ∃ (a : Nat) (e : Ent), kindOf L p = some e.kind ∧ findFrom L p i = ((i + a : Nat) : Int) ∧ L[a]? = some e ∧ e.path = p := by
  induction L generalizing i with
  | nil => exact .inl ⟨rfl, rfl⟩
  | cons e L ih =>
    rw [findFrom]
    by_cases h : e.path = p
    · exact .inr ⟨0, e, by simp [kindOf, h], by simp [h], rfl, h⟩
    · rw [if_neg h]
      have hk : kindOf (e :: L) p = kindOf L p := by simp [kindOf, h]
      rw [hk]
      rcases ih (i + 1) with h1 | ⟨a, e', h0, h1, h2, h3⟩
      · exact .inl h1
      · exact .inr ⟨a + 1, e', h0, by rw [h1]; congr 1; omega, by simpa using h2, h3⟩
theorem find_kind (L : List Ent) (p : ByteArray) : (kindOf L p = none ∧ findv L p = -1) ∨ ∃ (a : Nat) (e : Ent), kindOf L p = some e.kind ∧ findv L p = (a : Int) ∧ L[a]? = some e ∧ e.path = p := by
  rcases findFrom_kind L p 0 with h | ⟨a, e, h0, h1, h2, h3⟩
  · exact .inl h
  · exact .inr ⟨a, e, h0, by rw [findv, h1]; simp, h2, h3⟩
theorem fileAt_kind (L : List Ent) (p : ByteArray) : fileAt L p = decide (kindOf L p = some 0) := by
  rcases find_kind L p with ⟨h, h1⟩ | ⟨a, e, h, h1, h2, _⟩
  · rw [fileAt_none h1, h]; simp
  · rw [fileAt_some h1 h2, h]; simp
theorem findFrom_app (L M : List Ent) (p : ByteArray) (i : Nat) : findFrom (L ++ M) p i = if kindOf L p = none then findFrom M p (i + L.length) else findFrom L p i := by
  induction L generalizing i with
  | nil => simp [kindOf]
  | cons e L ih =>
    rw [List.cons_append, findFrom]
    by_cases h : e.path = p
    · simp [kindOf, h, findFrom]
    · have hk : kindOf (e :: L) p = kindOf L p := by simp [kindOf, h]
      rw [if_neg h, ih, hk]
      simp only [List.length_cons, findFrom, if_neg h]
      rw [show i + 1 + L.length = i + (L.length + 1) from by omega]
theorem find_self {L : List Ent} {i : Nat} {e : Ent} (he : L[i]? = some e) : findv L e.path = (i : Int) ↔ kindOf (L.take i) e.path = none := by
  have hlt : i < L.length := (List.getElem?_eq_some_iff.1 he).1
  have hL : L = L.take i ++ (e :: L.drop (i + 1)) := by
    have h1 := (List.getElem?_eq_some_iff.1 he).2
    conv => lhs; rw [← List.take_append_drop i L]
    rw [List.drop_eq_getElem_cons hlt, h1]
  have hl : (L.take i).length = i := by simp; omega
  constructor
  · intro h
    cases hk : kindOf (L.take i) e.path with
    | none => rfl
    | some c =>
      rw [findv, hL, findFrom_app, if_neg (by rw [hk]; simp)] at h
      rcases findFrom_kind (L.take i) e.path 0 with ⟨h0, _⟩ | ⟨a, e', _, h1, h2, _⟩
      · rw [h0] at hk; cases hk
      · have := (List.getElem?_eq_some_iff.1 h2).1
        rw [h1] at h
        omega
  · intro h
    rw [findv]
    conv => lhs; rw [hL]
    rw [findFrom_app, if_pos h, findFrom, if_pos rfl, hl]
    simp
theorem entAtOk_kind {L : List Ent} {i : Nat} {e : Ent} (he : L[i]? = some e) : entAtOk L i e = (entOkv e && decide (kindOf (L.take i) e.path = none) && (if e.kind = 3 then decide (kindOf (L.take i) e.link = some 0) else true)) := by
  rw [entAtOk, fileAt_kind]
  congr 2
  rw [decide_eq_decide]
  exact find_self he
theorem kindOf_snoc {L : List Ent} {i : Nat} {e : Ent} (he : L[i]? = some e) (hk : kindOf (L.take i) e.path = none) : kindOf (L.take (i + 1)) = putM (kindOf (L.take i)) e.path e.kind := by
  have hlt : i < L.length := (List.getElem?_eq_some_iff.1 he).1
  have h1 := (List.getElem?_eq_some_iff.1 he).2
  funext p
  rw [List.take_succ_eq_append_getElem hlt, h1]
  simp only [kindOf, putM, List.find?_append] at hk ⊢
  by_cases h : p = e.path
  · subst h
    simp at hk
    have : List.find? (fun e' => decide (e'.path = e.path)) (List.take i L) = none := by
      rw [List.find?_eq_none]
      intro x hx
      simpa using hk x hx
    simp [this]
  · have h' : ¬ e.path = p := fun x => h x.symm
    simp [h, h']
theorem kindOf_zero (L : List Ent) : kindOf (L.take 0) = fun _ => none := by
  funext p; simp [kindOf]
theorem entOk_kind (e : Ent) (h : entOkv e = true) : -9223372036854775808 ≤ e.kind ∧ e.kind ≤ 9223372036854775807 := by
  simp only [entOkv, Bool.and_eq_true] at h
  have h2 := h.2
  unfold kindOk at h2
  split at h2
  · omega
  · split at h2
    · omega
    · split at h2
      · omega
      · split at h2
        · omega
        · cases h2
end Go.Proofs.Ytpimeekcnndhiaa
