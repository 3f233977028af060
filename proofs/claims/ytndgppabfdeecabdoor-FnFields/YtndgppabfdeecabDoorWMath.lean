/- The words of a text, as a list is walked: what strings.Split with one blank gives. Plain lists only. -/
import Derived.Test.YtndgppabfdeecabDoorCom
import Derived.Lib.SplitLaws
import Derived.Lib.IndexMore
namespace Go.Proofs.YtndgppabfdeecabDoor
open Go.ChangeShapes Go.WideShapes Go.ChangeAt Go.RowKit

def splitL (cur : List UInt8) : List UInt8 → List (List UInt8)
  | [] => [cur]
  | c :: r => if c = 32 then cur :: splitL [] r else splitL (cur ++ [c]) r
def preL (p : List UInt8) : List (List UInt8) → List (List UInt8)
  | [] => []
  | x :: xs => (p ++ x) :: xs
theorem preL_preL (p q : List UInt8) (l : List (List UInt8)) : preL p (preL q l) = preL (p ++ q) l := by cases l <;> simp [preL]
theorem splitL_pre (l : List UInt8) : ∀ cur, splitL cur l = preL cur (splitL [] l) := by
  induction l with
  | nil => intro cur; simp [splitL, preL]
  | cons c r ih =>
    intro cur
    by_cases hc : c = 32
    · simp [splitL, hc, preL]
    · simp only [splitL, hc, if_false]
      rw [ih (cur ++ [c]), ih ([] ++ [c]), preL_preL]
      rfl
theorem splitK_blank (l : List UInt8) : Lib.splitK [32] 0 (Lib.count l [32]) l = splitL [] l := by
  induction l with
  | nil => rw [Lib.count_miss (by simp [Lib.index])]; rfl
  | cons c r ih =>
    by_cases hc : c = 32
    · subst hc
      have hix : Lib.index (32 :: r) [32] = ((0 : Nat) : Int) := by rw [Lib.index]; simp [List.isPrefixOf]
      rw [Lib.count_cons_eq, Nat.add_comm, Lib.splitK, hix]
      simp [splitL, ih]
    · rw [Lib.count_cons_ne _ _ _ hc]
      have hp : ([32] : List UInt8).isPrefixOf (c :: r) = false := by simp [List.isPrefixOf, Ne.symm hc]
      have hix : Lib.index (c :: r) [32] = if Lib.index r [32] == -1 then -1 else Lib.index r [32] + 1 := by rw [Lib.index, hp]; simp
      have e : splitL [] (c :: r) = preL [c] (splitL [] r) := by simp only [splitL, hc, if_false]; rw [splitL_pre]; rfl
      rw [e, ← ih]
      rcases Lib.index_spec r [32] with ⟨hm, _⟩ | ⟨j, hj, _⟩
      · rw [Lib.count_miss hm]; simp [Lib.splitK, preL]
      · have hct := Lib.count_hit (sub := [32]) (by simp) hj
        rw [hct, Nat.add_comm, Lib.splitK, Lib.splitK, hix, hj]
        have n1 : (((j : Nat) : Int) == -1) = false := by simp
        have n2 : ((((j : Nat) : Int) + 1) == -1) = false := by simp; omega
        have e1 : (((j : Nat) : Int) + 1).toNat = j + 1 := by omega
        have e2 : (((j : Nat) : Int)).toNat = j := by omega
        simp [n1, n2, e1, e2, preL]

/-- The words of s. -/
def wordsv (s : ByteArray) : List ByteArray := Lib.splitB ⟨#[32]⟩ 0 (Lib.countB s ⟨#[32]⟩) s
theorem wordsv_data (s : ByteArray) : (wordsv s).map (·.data.toList) = splitL [] s.data.toList := by
  have h := Lib.splitB_data ⟨#[32]⟩ 0 (Lib.countB s ⟨#[32]⟩) s
  exact h.trans (splitK_blank s.data.toList)
theorem wordsv_len (s : ByteArray) : (wordsv s).length = Lib.countB s ⟨#[32]⟩ + 1 := Lib.splitB_all ⟨#[32]⟩ (by decide) 0 _ s rfl
theorem count_le (s : ByteArray) : Lib.countB s ⟨#[32]⟩ ≤ s.size := Lib.countB_le ⟨#[32]⟩ (by decide) s.size s (Nat.le_refl _)
theorem data_inj {l m : List ByteArray} (h : l.map (·.data.toList) = m.map (·.data.toList)) : l = m := by
  induction l generalizing m with
  | nil => cases m with
    | nil => rfl
    | cons x xs => simp at h
  | cons y ys ih => cases m with
    | nil => simp at h
    | cons x xs =>
      simp only [List.map_cons, List.cons.injEq] at h
      rw [ba_ext h.1, ih h.2]

/-- What stands between f and k, and is to be cut from k on. -/
def WordsFrom (s : ByteArray) (D : List ByteArray) (f k : Nat) : Prop :=
  D.map (·.data.toList) ++ splitL ((s.data.toList.drop f).take (k - f)) (s.data.toList.drop k) = splitL [] s.data.toList
theorem wf_start (s : ByteArray) : WordsFrom s [] 0 0 := by simp [WordsFrom]
theorem drop_at (s : ByteArray) (k : Nat) (h : k < s.size) : s.data.toList.drop k = s[k] :: s.data.toList.drop (k + 1) := by
  have hl : k < s.data.toList.length := by simpa using h
  rw [List.drop_eq_getElem_cons hl]; rfl
theorem take_mid (s : ByteArray) (f k : Nat) (hf : f ≤ k) (h : k < s.size) : (s.data.toList.drop f).take (k + 1 - f) = (s.data.toList.drop f).take (k - f) ++ [s[k]] := by
  have hl : k - f < (s.data.toList.drop f).length := by simp; omega
  rw [show k + 1 - f = k - f + 1 from by omega, List.take_succ_eq_append_getElem hl]
  congr 2
  rw [List.getElem_drop]
  have e : f + (k - f) = k := by omega
  simp only [e]; rfl
theorem wf_cut {s : ByteArray} {D : List ByteArray} {f k : Nat} (h : WordsFrom s D f k) (hk : k < s.size) (hc : s[k] = 32) : WordsFrom s (D ++ [s.extract f k]) (k + 1) (k + 1) := by
  unfold WordsFrom at h ⊢
  rw [drop_at s k hk, splitL, if_pos hc] at h
  rw [← h]
  simp
theorem wf_go {s : ByteArray} {D : List ByteArray} {f k : Nat} (h : WordsFrom s D f k) (hf : f ≤ k) (hk : k < s.size) (hc : ¬ s[k] = 32) : WordsFrom s D f (k + 1) := by
  unfold WordsFrom at h ⊢
  rw [drop_at s k hk, splitL, if_neg hc] at h
  rw [take_mid s f k hf hk]
  exact h
theorem wf_end {s : ByteArray} {D : List ByteArray} {f : Nat} (h : WordsFrom s D f s.size) : D ++ [s.extract f s.size] = wordsv s := by
  apply data_inj
  rw [wordsv_data, ← h]
  have e : s.data.toList.drop s.size = [] := List.drop_eq_nil_of_le (by simp)
  rw [e]
  simp [splitL]
end Go.Proofs.YtndgppabfdeecabDoor
