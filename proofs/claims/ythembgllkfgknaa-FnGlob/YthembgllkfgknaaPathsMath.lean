/- Plain facts on paths: their prefixes before the slashes, what they are split into, that a path means itself. -/
import Derived.Test.YthembgllkfgknaaCMath
import Derived.Test.YthembgllkfgknaaUnder
import Derived.Test.YthembgllkfgknaaParents
import Derived.Test.YthembgllkfgknaaDirBase
import Derived.Test.YthembgllkfgknaaDepth
namespace Go.Proofs.Ythembgllkfgknaa
open Go.RowKit

theorem partsL_app (l1 l2 : List UInt8) : ∀ cur, partsL cur (l1 ++ 47 :: l2) = partsL cur l1 ++ partsL [] l2 := by
  induction l1 with
  | nil => intro cur; simp [partsL]
  | cons c r ih =>
    intro cur
    by_cases hc : c = 47
    · subst hc; simp [partsL, ih]
    · simp only [List.cons_append, partsL, hc, if_false]; rw [ih]
theorem ext_data (s : ByteArray) (j : Nat) : (s.extract 0 j).data.toList = s.data.toList.take j := by simp
theorem split_at {s : ByteArray} {j : Nat} (h : j < s.size) (hc : s[j] = 47) : s.data.toList = (s.extract 0 j).data.toList ++ 47 :: s.data.toList.drop (j + 1) := by
  rw [ext_data, ← hc, ← drop_at s j h, List.take_append_drop]
theorem sub_parts {s : ByteArray} {j : Nat} (h : j < s.size) (hc : s[j] = 47) : ∀ x ∈ partsv (s.extract 0 j), x ∈ partsv s := by
  intro x hx
  unfold partsv at hx ⊢
  rw [split_at h hc, partsL_app]
  obtain ⟨l, hl, rfl⟩ := List.mem_map.1 hx
  exact List.mem_map.2 ⟨l, List.mem_append.2 (.inl hl), rfl⟩
theorem sub_path {s : ByteArray} {j : Nat} (hp : pathOkv s = true) (h : j < s.size) (hc : s[j] = 47) : pathOkv (s.extract 0 j) = true := by
  have hp' := hp
  simp only [pathOkv, Bool.and_eq_true, List.all_eq_true] at hp'
  refine pathOk_good ?_ fun x hx => hp'.2 x (sub_parts h hc x hx)
  have : s.size ≤ 200 := by simpa using hp'.1
  simp; omega
theorem sub_pref {s : ByteArray} {j : Nat} (h : j < s.size) (hc : s[j] = 47) : prefv s (s.extract 0 j) = true :=
  (pref_iff _ _).2 ⟨_, split_at h hc⟩

/-- What the list of the prefixes holds at place i. -/
theorem parsTo_at (s : ByteArray) (k : Nat) (hk : k ≤ s.size) : (parsTo s k).length = (s.data.toList.take k).count 47 ∧ ∀ i, i < (parsTo s k).length → ∃ j, ∃ h : j < s.size, s[j] = 47 ∧ rowOf (parsTo s k) i = s.extract 0 j ∧ (s.data.toList.take j).count 47 = i := by
  induction k with
  | zero => simp [parsTo]
  | succ k ih =>
    obtain ⟨ih1, ih2⟩ := ih (by omega)
    have hlt : k < s.size := by omega
    rw [take_snoc s k hlt]
    by_cases hc : s[k] = 47
    · rw [parsTo_hit hlt hc]
      refine ⟨by simp [ih1, hc], fun i hi => ?_⟩
      by_cases e : i < (parsTo s k).length
      · obtain ⟨j, h, h1, h2, h3⟩ := ih2 i e
        refine ⟨j, h, h1, ?_, h3⟩
        rw [← h2]
        simp [rowOf, List.getD, List.getElem?_append_left e]
      · have : i = (parsTo s k).length := by simp at hi; omega
        subst this
        exact ⟨k, hlt, hc, by simp [rowOf, List.getD], ih1.symm⟩
    · rw [parsTo_miss hlt hc]
      refine ⟨by rw [ih1]; simp [hc], ih2⟩

theorem parents_len {q : ByteArray} (hp : pathOkv q = true) : ((parentsv q).length : Int) = depthv q - 1 := by
  have h := (parsTo_at q q.size (Nat.le_refl _)).1
  rw [List.take_of_length_le (by simp)] at h
  rw [parentsv, if_pos hp, depthv, if_pos hp, partsv_len, h]
  omega
theorem parents_none {q : ByteArray} (hp : pathOkv q = false) : parentsv q = [] := by simp [parentsv, hp]
theorem parents_at {q : ByteArray} {i : Nat} (hi : i < (parentsv q).length) : underv q (rowOf (parentsv q) i) = true ∧ depthv (rowOf (parentsv q) i) = (i : Int) + 1 ∧ (rowOf (parentsv q) i).size ≤ q.size := by
  cases hp : pathOkv q with
  | false => rw [parents_none hp] at hi; simp at hi
  | true =>
    have e : parentsv q = parsTo q q.size := by simp [parentsv, hp]
    rw [e] at hi ⊢
    obtain ⟨j, h, h1, h2, h3⟩ := (parsTo_at q q.size (Nat.le_refl _)).2 i hi
    rw [h2]
    have hs := sub_path hp h h1
    refine ⟨by rw [underv, hp, hs, sub_pref h h1]; rfl, ?_, by simp; omega⟩
    rw [depthv, if_pos hs, partsv_len, ext_data, h3]
    omega
theorem parents_mem {s x : ByteArray} (hx : x ∈ parentsv s) : x.size ≤ s.size := by
  obtain ⟨i, hi, rfl⟩ := List.getElem_of_mem hx
  have := (parents_at hi).2.2
  simpa [rowOf, List.getD, List.getElem?_eq_getElem hi] using this

theorem dir_base {d : ByteArray} (hd : 1 < depthv d) : dirv d ++ ⟨#[47]⟩ ++ basev d = d := by
  have hc : 1 ≤ d.data.toList.count 47 := by
    unfold depthv at hd
    split at hd
    · rw [partsv_len] at hd; omega
    · omega
  rcases Lib.lastIndexByte_spec d 47 with ⟨_, hn⟩ | ⟨i, hi, h, hb, _⟩
  · exfalso
    have hm := List.count_pos_iff.1 (show 0 < d.data.toList.count 47 by omega)
    obtain ⟨j, hj, he⟩ := List.getElem_of_mem hm
    have hj2 : j < d.size := by simpa using hj
    have := hn j hj2
    rw [bang d j hj2] at this
    have e2 : d[j] = 47 := he
    rw [e2] at this
    exact this rfl
  · have hl : lastv d = i := h
    have hc2 : d[i] = 47 := by
      rw [bang d i hi] at hb
      exact UInt8.toNat_inj.1 (show d[i].toNat = 47 by omega)
    have e1 : dirv d = d.extract 0 i := by rw [dirv, if_neg (by omega), hl]; rfl
    have e2 : basev d = d.extract (i + 1) d.size := by rw [basev, hl]; congr 1
    apply ba_ext
    rw [e1, e2]
    have h3 : (d.extract (i + 1) d.size).data.toList = d.data.toList.drop (i + 1) := by
      simp
      rw [List.take_of_length_le (by simp)]
    have h4 := split_at hi hc2
    simp only [ByteArray.data_append, Array.toList_append]
    rw [h3]
    simpa using h4.symm

theorem part_props {p : ByteArray} (h : partOkv p = true) : ¬ p.size = 0 ∧ ¬ p = dot1 ∧ ¬ p = dot2 := by
  simp only [partOkv, Bool.and_eq_true, decide_eq_true_eq] at h
  exact ⟨by omega, h.1.1.2, h.1.2⟩
theorem cleanS_path (L : List ByteArray) : ∀ kept, (∀ x ∈ L, partOkv x = true) → cleanS kept L = some (kept ++ L) := by
  induction L with
  | nil => intro kept _; simp [cleanS]
  | cons p r ih =>
    intro kept h
    obtain ⟨h1, h2, h3⟩ := part_props (h p (by simp))
    rw [cleanS, if_neg (by intro h; exact h.elim h1 h2), if_neg h3, ih _ (fun x hx => h x (by simp [hx]))]
    simp
theorem clean_path {s : ByteArray} (hp : pathOkv s = true) : cleanv s = (s, true) := by
  have hp' := hp
  simp only [pathOkv, Bool.and_eq_true, List.all_eq_true] at hp'
  rw [cleanv, cleanS_path _ [] hp'.2, List.nil_append, cleanF_ok (by rw [join_parts]; exact hp), join_parts]
theorem clean_ok {s : ByteArray} (h : (cleanv s).2 = true) : pathOkv (cleanv s).1 = true := by
  unfold cleanv at h ⊢
  cases hc : cleanS [] (partsv s) with
  | none => rw [hc] at h; cases h
  | some k =>
    rw [hc] at h
    cases hj : pathOkv (joinv k) with
    | true => rw [cleanF_ok hj]; exact hj
    | false => rw [cleanF_bad hj] at h; cases h
theorem clean_size {s : ByteArray} : (cleanv s).1.size ≤ 200 := by
  cases h : (cleanv s).2 with
  | true =>
    have := clean_ok h
    simp only [pathOkv, Bool.and_eq_true] at this
    simpa using this.1
  | false =>
    unfold cleanv at h ⊢
    cases hc : cleanS [] (partsv s) with
    | none => simp [cleanF, ByteArray.size]
    | some k =>
      rw [hc] at h
      cases hj : pathOkv (joinv k) with
      | true => rw [cleanF_ok hj] at h; cases h
      | false => rw [cleanF_bad hj]; simp [ByteArray.size]
end Go.Proofs.Ythembgllkfgknaa
