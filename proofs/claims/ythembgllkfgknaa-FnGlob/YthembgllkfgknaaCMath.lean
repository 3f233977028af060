/- What the components of a text come to: empty ones and single dots are skipped, two dots remove the last one. Plain lists only. -/
import Derived.Test.YthembgllkfgknaaJMath
import Derived.Test.YthembgllkfgknaaPathOk
namespace Go.Proofs.Ythembgllkfgknaa
open Go.RowKit

def cleanS (kept : List ByteArray) : List ByteArray → Option (List ByteArray)
  | [] => some kept
  | p :: r => if p.size = 0 ∨ p = dot1 then cleanS kept r else if p = dot2 then (if kept = [] then none else cleanS kept.dropLast r) else cleanS (kept ++ [p]) r
def cleanF (o : Option (List ByteArray)) : ByteArray × Bool :=
  match o with
  | none => (⟨#[]⟩, false)
  | some k => if pathOkv (joinv k) = true then (joinv k, true) else (⟨#[]⟩, false)
def cleanv (s : ByteArray) : ByteArray × Bool := cleanF (cleanS [] (partsv s))

/-- What is kept when the components pre have come. -/
def KeptAt (pre kept : List ByteArray) : Prop := (∀ rest, cleanS [] (pre ++ rest) = cleanS kept rest) ∧ totB kept ≤ totB pre ∧ kept.length ≤ pre.length
theorem KeptAt.start : KeptAt [] [] := ⟨fun _ => rfl, Nat.le_refl _, Nat.le_refl _⟩
theorem KeptAt.skip {pre kept : List ByteArray} {x : ByteArray} (h : KeptAt pre kept) (hx : x.size = 0 ∨ x = dot1) : KeptAt (pre ++ [x]) kept := by
  refine ⟨fun rest => ?_, by rw [totB_snoc]; have := h.2.1; omega, by have := h.2.2; simp; omega⟩
  rw [List.append_assoc, h.1]
  show cleanS kept (x :: rest) = _
  rw [cleanS, if_pos hx]
theorem totB_dropLast (L : List ByteArray) : totB L.dropLast ≤ totB L := by
  rw [List.dropLast_eq_take]; exact totB_take L _
theorem KeptAt.pop {pre kept : List ByteArray} {x : ByteArray} (h : KeptAt pre kept) (hx : x = dot2) (hk : kept ≠ []) : KeptAt (pre ++ [x]) kept.dropLast := by
  subst hx
  refine ⟨fun rest => ?_, by rw [totB_snoc]; have := h.2.1; have := totB_dropLast kept; omega, by have := h.2.2; simp; omega⟩
  rw [List.append_assoc, h.1]
  show cleanS kept (dot2 :: rest) = _
  rw [cleanS, if_neg (by decide), if_pos rfl, if_neg hk]
theorem KeptAt.push {pre kept : List ByteArray} {x : ByteArray} (h : KeptAt pre kept) (h1 : ¬ x.size = 0) (h2 : ¬ x = dot1) (h3 : ¬ x = dot2) : KeptAt (pre ++ [x]) (kept ++ [x]) := by
  refine ⟨fun rest => ?_, by rw [totB_snoc, totB_snoc]; have := h.2.1; omega, by have := h.2.2; simp; omega⟩
  rw [List.append_assoc, h.1]
  show cleanS kept (x :: rest) = _
  rw [cleanS, if_neg (by intro h; exact h.elim h1 h2), if_neg h3]
theorem KeptAt.fail {pre : List ByteArray} {x : ByteArray} (h : KeptAt pre []) (hx : x = dot2) (rest : List ByteArray) : cleanS [] (pre ++ [x] ++ rest) = none := by
  subst hx
  rw [List.append_assoc, h.1]
  show cleanS [] (dot2 :: rest) = _
  rw [cleanS, if_neg (by decide), if_pos rfl, if_pos rfl]
theorem KeptAt.all {s : ByteArray} {kept : List ByteArray} (h : KeptAt (partsv s) kept) : cleanv s = cleanF (some kept) := by
  have := h.1 []
  rw [List.append_nil] at this
  rw [cleanv, this]; rfl
theorem KeptAt.tot {s : ByteArray} {kept : List ByteArray} (h : KeptAt (partsv s) kept) : totB kept ≤ s.size + 1 := by
  rw [← totB_parts]; exact h.2.1
theorem joinB_len' (l : List ByteArray) : (joinB l).length ≤ totB l - 1 := by
  induction l with
  | nil => simp [joinB, totB]
  | cons a r ih =>
    cases r with
    | nil => simp [joinB, totB]
    | cons b r =>
      have e : a.data.toList.length = a.size := by simp
      simp only [joinB, totB, List.map_cons, List.sum_cons, List.length_append, List.length_cons, e] at ih ⊢
      omega
theorem joinv_size {s : ByteArray} {kept : List ByteArray} (h : KeptAt (partsv s) kept) : (joinv kept).size ≤ s.size := by
  have h1 := joinB_len' kept
  have h2 := h.tot
  rw [joinv, baL_size]; omega
theorem kept_tot {s : ByteArray} {pre kept : List ByteArray} (h : KeptAt pre kept) (hp : pre <+: partsv s) : totB kept ≤ s.size + 1 := by
  obtain ⟨t, ht⟩ := hp
  have h1 : totB (pre ++ t) = s.size + 1 := by rw [ht]; exact totB_parts s
  have h2 : totB (pre ++ t) = totB pre + totB t := by simp [totB]
  have := h.2.1; omega
theorem kept_len {s : ByteArray} {pre kept : List ByteArray} (h : KeptAt pre kept) (hp : pre <+: partsv s) : kept.length ≤ s.size + 1 := by
  have := kept_tot h hp
  have := totB_len kept
  omega
theorem cleanF_ok {k : List ByteArray} (h : pathOkv (joinv k) = true) : cleanF (some k) = (joinv k, true) := by simp [cleanF, h]
theorem cleanF_bad {k : List ByteArray} (h : pathOkv (joinv k) = false) : cleanF (some k) = (⟨#[]⟩, false) := by simp [cleanF, h]
theorem KeptAt.failed {s : ByteArray} {pre : List ByteArray} {x : ByteArray} (h : KeptAt pre []) (hx : x = dot2) (hp : pre ++ [x] <+: partsv s) : cleanv s = (⟨#[]⟩, false) := by
  obtain ⟨t, ht⟩ := hp
  rw [cleanv, ← ht, h.fail hx]; rfl
theorem empty_t {s : ByteArray} (h : s.size = 0) : s.toList.isEmpty = true := by
  rw [ba_toList]
  have : s.data.toList.length = 0 := by simpa using h
  simpa using List.eq_nil_of_length_eq_zero this
theorem empty_f {s : ByteArray} (h : ¬ s.size = 0) : s.toList.isEmpty = false := by
  rw [ba_toList]
  cases hl : s.data.toList with
  | nil => exact absurd (by have := congrArg List.length hl; simpa using this) h
  | cons a r => rfl
end Go.Proofs.Ythembgllkfgknaa
