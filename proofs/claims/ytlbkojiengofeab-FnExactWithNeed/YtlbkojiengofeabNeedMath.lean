/- What a list needs: put in order one by one, and all at once. Plain mathematics. -/
import Derived.Test.YtlbkojiengofeabAddS
import Derived.Test.YtlbkojiengofeabPathsI
import Derived.Test.YtlbkojiengofeabParents
import Derived.Sort.OwnSorted
import Derived.Sort.KeysCollected
import Derived.Sort.Walk0
namespace Go.Proofs.Ytlbkojiengofeab
open Go.RowKit

def bl (s : ByteArray) : List UInt8 := s.data.toList
theorem bl_inj {a b : ByteArray} (h : bl a = bl b) : a = b := ba_ext h
theorem ltB_iff (a b : ByteArray) : ltB a b = true ↔ bl a < bl b := by
  rw [ltB, bytesLess_eq, Lib.toList_data, Lib.toList_data, decide_eq_true_iff]; rfl
theorem bl_tri {a b : ByteArray} (h : ¬ bl a < bl b) (k : ¬ a = b) : bl b < bl a := by
  by_cases h2 : bl b < bl a
  · exact h2
  · exact absurd (bl_inj (List.le_antisymm h2 h)) k
/-- Ascending, no text twice. -/
def Asc (D : List ByteArray) : Prop := D.Pairwise fun a b => bl a < bl b
theorem addv_eq (D : List ByteArray) (s : ByteArray) : addv D s = if (D.dropWhile fun x => ltB x s).head? = some s then D else (D.takeWhile fun x => ltB x s) ++ [s] ++ (D.dropWhile fun x => ltB x s) := by
  have h : (D.takeWhile fun x => ltB x s) ++ (D.dropWhile fun x => ltB x s) = D := List.takeWhile_append_dropWhile
  have ht : D.take (lowN D s) = D.takeWhile fun x => ltB x s := by
    have := @List.take_left _ (D.takeWhile fun x => ltB x s) (D.dropWhile fun x => ltB x s)
    rw [h] at this
    exact this
  have hd : D.drop (lowN D s) = D.dropWhile fun x => ltB x s := by
    have := @List.drop_left _ (D.takeWhile fun x => ltB x s) (D.dropWhile fun x => ltB x s)
    rw [h] at this
    exact this
  have hg : D[lowN D s]? = (D.dropWhile fun x => ltB x s).head? := by
    rw [← hd, List.head?_drop]
  rw [addv, hg, ht, hd]
theorem tw_lt {D : List ByteArray} {s x : ByteArray} (h : x ∈ D.takeWhile fun y => ltB y s) : ltB x s = true := by
  induction D with
  | nil => simp at h
  | cons a D ih =>
    rw [List.takeWhile_cons] at h
    split at h
    · rename_i ha
      rcases List.mem_cons.1 h with rfl | h
      · exact ha
      · exact ih h
    · simp at h
theorem dw_head {D : List ByteArray} {s b : ByteArray} {B : List ByteArray} (h : (D.dropWhile fun y => ltB y s) = b :: B) : ltB b s = false := by
  induction D with
  | nil => simp at h
  | cons a D ih =>
    rw [List.dropWhile_cons] at h
    split at h
    · exact ih h
    · rename_i ha
      simp at h
      rw [← h.1]; simpa using ha
theorem addv_asc {D : List ByteArray} {s : ByteArray} (h : Asc D) : Asc (addv D s) ∧ ∀ x, x ∈ addv D s ↔ x ∈ D ∨ x = s := by
  have e : (D.takeWhile fun x => ltB x s) ++ (D.dropWhile fun x => ltB x s) = D := List.takeWhile_append_dropWhile
  rw [addv_eq]
  have hA : ∀ x ∈ (D.takeWhile fun y => ltB y s), bl x < bl s := fun x hx => (ltB_iff x s).1 (tw_lt hx)
  have hH : ∀ b B, (D.dropWhile fun y => ltB y s) = b :: B → ltB b s = false := fun b B hb => dw_head hb
  generalize (D.takeWhile fun x => ltB x s) = A at *
  generalize (D.dropWhile fun x => ltB x s) = B at *
  subst e
  obtain ⟨h1, h2, h3⟩ := List.pairwise_append.1 h
  cases B with
  | nil =>
    simp only [List.head?_nil, reduceCtorEq, if_false, List.append_nil]
    refine ⟨List.pairwise_append.2 ⟨h1, List.pairwise_singleton _ _, fun a ha b hb => ?_⟩, fun x => by simp⟩
    simp at hb; subst hb; exact hA a ha
  | cons b B =>
    by_cases hbs : b = s
    · subst hbs
      simp only [List.head?_cons, if_true]
      exact ⟨h, fun x => by simp; intro hx; subst hx; simp⟩
    · have hlt : bl s < bl b := bl_tri (fun q => by have := hH b B rfl; rw [(ltB_iff b s).2 q] at this; cases this) hbs
      simp only [List.head?_cons, Option.some.injEq, hbs, if_false]
      refine ⟨?_, fun x => ?_⟩
      case refine_2 =>
        simp only [List.mem_append, List.mem_cons, List.not_mem_nil, or_false]
        constructor
        · rintro ((q | q) | (q | q))
          · exact .inl (.inl q)
          · exact .inr q
          · exact .inl (.inr (.inl q))
          · exact .inl (.inr (.inr q))
        · rintro ((q | q | q) | q)
          · exact .inl (.inl q)
          · exact .inr (.inl q)
          · exact .inr (.inr q)
          · exact .inl (.inr q)
      rw [List.append_assoc]
      refine List.pairwise_append.2 ⟨h1, ?_, ?_⟩
      · rw [List.singleton_append, List.pairwise_cons]
        refine ⟨fun x hx => ?_, h2⟩
        rcases List.mem_cons.1 hx with rfl | hx
        · exact hlt
        · exact List.lt_trans hlt ((List.pairwise_cons.1 h2).1 x hx)
      · intro a ha x hx
        rcases List.mem_append.1 hx with hx | hx
        · simp at hx; subst hx; exact hA a ha
        · exact h3 a ha x hx
/-- All directories above the entries. -/
def specStep (L : List Ent) (D : List ByteArray) (d : ByteArray) : List ByteArray := if findv L d < 0 then addv D d else D
def hasS (N : List ByteArray) (d : ByteArray) : Bool := N.any fun x => decide (x = d)
theorem hasS_iff (N : List ByteArray) (d : ByteArray) : hasS N d = true ↔ d ∈ N := by
  simp only [hasS, List.any_eq_true, decide_eq_true_eq]
  exact ⟨fun ⟨x, hx, e⟩ => e ▸ hx, fun h => ⟨d, h, rfl⟩⟩
def implStep (L : List Ent) (N : List ByteArray) (d : ByteArray) : List ByteArray := if (inPaths L d || hasS N d) = true then N else N ++ [d]
/-- The directories above the first i entries. -/
def candsTo (L : List Ent) (i : Nat) : List ByteArray := (L.take i).flatMap fun e => parentsv e.path
def needTo (L : List Ent) (ds : List ByteArray) : List ByteArray := ds.foldl (specStep L) []
def needIo (L : List Ent) (ds : List ByteArray) : List ByteArray := ds.foldl (implStep L) []
def needv (L : List Ent) : List ByteArray := needTo L (candsTo L L.length)
def Both (D N : List ByteArray) : Prop := Asc D ∧ N.Nodup ∧ ∀ x, x ∈ D ↔ x ∈ N
theorem both_step {L : List Ent} {D N : List ByteArray} (h : Both D N) (d : ByteArray) : Both (specStep L D d) (implStep L N d) := by
  obtain ⟨h1, h2, h3⟩ := h
  unfold specStep implStep
  by_cases hp : inPaths L d = true
  · rw [if_neg (by rw [find_paths, hp]; simp), if_pos (by rw [hp]; rfl)]
    exact ⟨h1, h2, h3⟩
  · have hp' : inPaths L d = false := by simpa using hp
    rw [if_pos ((find_paths L d).2 hp')]
    by_cases hd : d ∈ N
    · rw [if_pos (by rw [hp', Bool.false_or, hasS_iff]; exact hd)]
      refine ⟨(addv_asc h1).1, h2, fun x => ?_⟩
      rw [(addv_asc h1).2 x, h3]
      exact ⟨fun q => q.elim id (fun e => e ▸ hd), .inl⟩
    · rw [if_neg (by rw [hp', Bool.false_or, hasS_iff]; exact hd)]
      refine ⟨(addv_asc h1).1, ?_, fun x => ?_⟩
      · rw [List.nodup_append]
        exact ⟨h2, by simp, fun a ha b hb e => by simp at hb; subst hb; subst e; exact hd ha⟩
      · rw [(addv_asc h1).2 x, h3]; simp
theorem both_fold {L : List Ent} : ∀ (ds D N : List ByteArray), Both D N → Both (ds.foldl (specStep L) D) (ds.foldl (implStep L) N)
  | [], _, _, h => h
  | d :: ds, _, _, h => both_fold ds _ _ (both_step h d)
theorem both_need (L : List Ent) (ds : List ByteArray) : Both (needTo L ds) (needIo L ds) := both_fold ds [] [] ⟨List.Pairwise.nil, List.nodup_nil, fun _ => Iff.rfl⟩
/-- Put in order, what impl has gathered is what spec has. -/
theorem need_sorted (L : List Ent) (ds : List ByteArray) : ((needIo L ds).map bl).mergeSort (fun x y => decide (x ≤ y)) = (needTo L ds).map bl := by
  obtain ⟨h1, h2, h3⟩ := both_need L ds
  generalize needTo L ds = D at *
  generalize needIo L ds = N at *
  have hD : D.Nodup := h1.imp (fun {a b} hab e => by subst e; exact List.lt_irrefl _ hab)
  have hp : (N.map bl).Perm (D.map bl) := by
    refine List.Perm.map _ ?_
    exact (List.perm_ext_iff_of_nodup h2 hD).2 (fun x => (h3 x).symm)
  have e1 : (N.map bl).mergeSort leB = (D.map bl).mergeSort leB := mergeSort_of_perm hp
  have e2 : (D.map bl).mergeSort leB = D.map bl := List.mergeSort_of_pairwise (by
    rw [List.pairwise_map]
    exact h1.imp (fun {a b} hab => decide_eq_true (List.le_of_lt hab)))
  exact e1.trans e2
theorem candsTo_step {L : List Ent} {i : Nat} {e : Ent} (he : L[i]? = some e) : candsTo L (i + 1) = candsTo L i ++ parentsv e.path := by
  unfold candsTo
  rw [List.take_add_one, he]
  simp
theorem needTo_app (L : List Ent) (ds es : List ByteArray) : needTo L (ds ++ es) = es.foldl (specStep L) (needTo L ds) := by simp [needTo]
theorem needTo_snoc (L : List Ent) (ds : List ByteArray) (d : ByteArray) : needTo L (ds ++ [d]) = specStep L (needTo L ds) d := by simp [needTo]
theorem needIo_snoc (L : List Ent) (ds : List ByteArray) (d : ByteArray) : needIo L (ds ++ [d]) = implStep L (needIo L ds) d := by simp [needIo]
theorem stepS_len (L : List Ent) (D : List ByteArray) (d : ByteArray) : (specStep L D d).length ≤ D.length + 1 := by
  unfold specStep
  split
  · exact addv_len D d
  · omega
theorem foldS_len (L : List Ent) : ∀ (ds D : List ByteArray), (ds.foldl (specStep L) D).length ≤ D.length + ds.length
  | [], D => by simp
  | d :: ds, D => by
    have h1 := foldS_len L ds (specStep L D d)
    have h2 := stepS_len L D d
    simp only [List.foldl_cons, List.length_cons]
    omega
theorem foldI_len (L : List Ent) : ∀ (ds D : List ByteArray), (ds.foldl (implStep L) D).length ≤ D.length + ds.length
  | [], D => by simp
  | d :: ds, D => by
    have h1 := foldI_len L ds (implStep L D d)
    have h2 : (implStep L D d).length ≤ D.length + 1 := by
      unfold implStep
      split
      · omega
      · simp
    simp only [List.foldl_cons, List.length_cons]
    omega
theorem parents_small (s : ByteArray) : (parentsv s).length ≤ s.size := by
  have := parsTo_le s s.size
  unfold parentsv; split
  · omega
  · simp
theorem cands_len (L : List Ent) (i : Nat) : (candsTo L i).length ≤ ((L.take i).map esz).sum := by
  unfold candsTo
  generalize L.take i = M
  induction M with
  | nil => simp
  | cons e M ih =>
    have := parents_small e.path
    simp only [List.flatMap_cons, List.length_append, List.map_cons, List.sum_cons, esz] at ih ⊢
    omega
theorem addv_mem {D : List ByteArray} {s x : ByteArray} (h : x ∈ addv D s) : x ∈ D ∨ x = s := by
  unfold addv at h
  split at h
  · exact .inl h
  · rcases List.mem_append.1 h with h | h
    · rcases List.mem_append.1 h with h | h
      · exact .inl (List.mem_of_mem_take h)
      · simp at h; exact .inr h
    · exact .inl (List.mem_of_mem_drop h)
theorem foldS_mem (L : List Ent) : ∀ (ds D : List ByteArray) (x : ByteArray), x ∈ ds.foldl (specStep L) D → x ∈ D ∨ x ∈ ds
  | [], D, x, h => .inl h
  | d :: ds, D, x, h => by
    rcases foldS_mem L ds (specStep L D d) x h with h | h
    · unfold specStep at h
      split at h
      · rcases addv_mem h with h | h
        · exact .inl h
        · exact .inr (by simp [h])
      · exact .inl h
    · exact .inr (by simp [h])
theorem needv_mem {L : List Ent} {x : ByteArray} (h : x ∈ needv L) : ∃ e ∈ L, x ∈ parentsv e.path := by
  rcases foldS_mem L _ _ x h with h | h
  · simp at h
  · simp only [candsTo, List.take_length, List.mem_flatMap] at h
    exact h
theorem needv_len (L : List Ent) : (needv L).length ≤ (L.map esz).sum := by
  have h1 := foldS_len L (candsTo L L.length) []
  have h2 := cands_len L L.length
  rw [List.take_length] at h2
  have h3 : (needv L).length ≤ (candsTo L L.length).length := by simpa [needv, needTo] using h1
  omega
end Go.Proofs.Ytlbkojiengofeab
