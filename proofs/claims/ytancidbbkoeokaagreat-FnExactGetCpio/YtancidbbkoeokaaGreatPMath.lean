/- The parts of a text between its slashes, plain lists only. -/
import Derived.Test.YtancidbbkoeokaaGreatCom
import Derived.Lib.Bytealg
namespace Go.Proofs.YtancidbbkoeokaaGreat
open Go.ChangeShapes Go.WideShapes Go.ChangeAt Go.RowKit

def partsL (cur : List UInt8) : List UInt8 → List (List UInt8)
  | [] => [cur]
  | c :: r => if c = 47 then cur :: partsL [] r else partsL (cur ++ [c]) r
def baL (l : List UInt8) : ByteArray := ⟨l.toArray⟩
theorem baL_data (l : List UInt8) : (baL l).data.toList = l := by simp [baL]
theorem baL_size (l : List UInt8) : (baL l).size = l.length := by simp [baL, ByteArray.size]
theorem ba_baL (s : ByteArray) : baL s.data.toList = s := by simp [baL]
/-- The parts of s. -/
def partsv (s : ByteArray) : List ByteArray := (partsL [] s.data.toList).map baL

theorem partsL_len (l : List UInt8) : ∀ cur, (partsL cur l).length = l.count 47 + 1 := by
  induction l with
  | nil => intro cur; simp [partsL]
  | cons c r ih =>
    intro cur
    by_cases hc : c = 47
    · subst hc; simp [partsL, ih]
    · simp only [partsL, hc, if_false, ih]; rw [List.count_cons_of_ne (fun e => hc e)]
theorem partsv_len (s : ByteArray) : (partsv s).length = s.data.toList.count 47 + 1 := by simp [partsv, partsL_len]
theorem partsv_le (s : ByteArray) : (partsv s).length ≤ s.size + 1 := by
  rw [partsv_len]
  have h := List.count_le_length (a := (47 : UInt8)) (l := s.data.toList)
  have e : s.data.toList.length = s.size := by simp
  omega
theorem partsL_size (l : List UInt8) : ∀ cur n, cur.length + l.length ≤ n → ∀ x ∈ partsL cur l, x.length ≤ n := by
  induction l with
  | nil => intro cur n h x hx; simp [partsL] at hx; subst hx; simpa using h
  | cons c r ih =>
    intro cur n h x hx
    simp at h
    by_cases hc : c = 47
    · simp only [partsL, hc, if_true, List.mem_cons] at hx
      rcases hx with rfl | hx
      · omega
      · exact ih [] n (by simp; omega) x hx
    · simp only [partsL, hc, if_false] at hx
      exact ih (cur ++ [c]) n (by simp; omega) x hx
theorem partsv_size (s : ByteArray) : ∀ x ∈ partsv s, x.size ≤ s.size := by
  intro x hx
  obtain ⟨l, hl, rfl⟩ := List.mem_map.1 hx
  rw [baL_size]
  exact partsL_size s.data.toList [] s.size (by simp) l hl
theorem partsv_ne (s : ByteArray) : partsv s ≠ [] := by
  intro h
  have := partsv_len s
  rw [h] at this; simp at this
theorem data_inj {l m : List ByteArray} (h : l.map (·.data.toList) = m.map (·.data.toList)) : l = m := by
  induction l generalizing m with
  | nil => cases m with
    | nil => rfl
    | cons x xs => simp at h
  | cons y ys ih => cases m with
    | nil => simp at h
    | cons x xs =>
      simp only [List.map_cons, List.cons.injEq] at h
      rw [ba_ext h.1, ih h.2]
theorem partsv_data (s : ByteArray) : (partsv s).map (·.data.toList) = partsL [] s.data.toList := by
  simp [partsv, Function.comp_def, baL]

/-- What stands between f and k, and is to be cut from k on. -/
def PartsFrom (s : ByteArray) (D : List ByteArray) (f k : Nat) : Prop :=
  D.map (·.data.toList) ++ partsL ((s.data.toList.drop f).take (k - f)) (s.data.toList.drop k) = partsL [] s.data.toList
theorem pf_start (s : ByteArray) : PartsFrom s [] 0 0 := by simp [PartsFrom]
theorem drop_at (s : ByteArray) (k : Nat) (h : k < s.size) : s.data.toList.drop k = s[k] :: s.data.toList.drop (k + 1) := by
  have hl : k < s.data.toList.length := by simpa using h
  rw [List.drop_eq_getElem_cons hl]; rfl
theorem take_mid (s : ByteArray) (f k : Nat) (hf : f ≤ k) (h : k < s.size) : (s.data.toList.drop f).take (k + 1 - f) = (s.data.toList.drop f).take (k - f) ++ [s[k]] := by
  have hl : k - f < (s.data.toList.drop f).length := by simp; omega
  rw [show k + 1 - f = k - f + 1 from by omega, List.take_succ_eq_append_getElem hl]
  congr 2
  rw [List.getElem_drop]
  have e : f + (k - f) = k := by omega
  simp only [e]; rfl
theorem pf_cut {s : ByteArray} {D : List ByteArray} {f k : Nat} (h : PartsFrom s D f k) (hk : k < s.size) (hc : s[k] = 47) : PartsFrom s (D ++ [s.extract f k]) (k + 1) (k + 1) := by
  unfold PartsFrom at h ⊢
  rw [drop_at s k hk, partsL, if_pos hc] at h
  rw [← h]
  simp
theorem pf_go {s : ByteArray} {D : List ByteArray} {f k : Nat} (h : PartsFrom s D f k) (hf : f ≤ k) (hk : k < s.size) (hc : ¬ s[k] = 47) : PartsFrom s D f (k + 1) := by
  unfold PartsFrom at h ⊢
  rw [drop_at s k hk, partsL, if_neg hc] at h
  rw [take_mid s f k hf hk]
  exact h
theorem pf_end {s : ByteArray} {D : List ByteArray} {f : Nat} (h : PartsFrom s D f s.size) : D ++ [s.extract f s.size] = partsv s := by
  apply data_inj
  rw [partsv_data, ← h]
  have e : s.data.toList.drop s.size = [] := List.drop_eq_nil_of_le (by simp)
  rw [e]
  simp [partsL]

theorem partsL_miss (l : List UInt8) : ∀ cur, Lib.indexByte l 47 = -1 → partsL cur l = [cur ++ l] := by
  induction l with
  | nil => intro cur _; simp [partsL]
  | cons b r ih =>
    intro cur h
    by_cases hb : b = 47
    · subst hb; simp [Lib.indexByte] at h
    · have hb' : (b == 47) = false := by simpa using hb
      rw [Lib.indexByte, hb'] at h
      have g := Lib.indexByte_ge r 47
      by_cases hr : Lib.indexByte r 47 = -1
      · simp only [partsL, hb, if_false]; rw [ih _ hr]; simp
      · rw [if_neg (by simp), if_neg (by simpa using hr)] at h
        omega
theorem partsL_hit (l : List UInt8) : ∀ cur (i : Nat), Lib.indexByte l 47 = i → i < l.length ∧ partsL cur l = (cur ++ l.take i) :: partsL [] (l.drop (i + 1)) := by
  induction l with
  | nil => intro cur i h; simp [Lib.indexByte] at h
  | cons b r ih =>
    intro cur i h
    by_cases hb : b = 47
    · subst hb
      simp [Lib.indexByte] at h
      obtain rfl : i = 0 := by omega
      simp [partsL]
    · have hb' : (b == 47) = false := by simpa using hb
      rw [Lib.indexByte, hb'] at h
      by_cases hr : Lib.indexByte r 47 = -1
      · rw [if_neg (by simp), if_pos (by simpa using hr)] at h; omega
      · rw [if_neg (by simp), if_neg (by simpa using hr)] at h
        obtain ⟨j, rfl⟩ : ∃ j, i = j + 1 := ⟨i - 1, by have g := Lib.indexByte_ge r 47; omega⟩
        obtain ⟨h1, h2⟩ := ih (cur ++ [b]) j (by omega)
        refine ⟨by simp; omega, ?_⟩
        simp only [partsL, hb, if_false]
        rw [h2]
        simp
theorem partsv_miss {s : ByteArray} (h : Lib.indexByte s.data.toList 47 = -1) : partsv s = [s] := by
  simp [partsv, partsL_miss _ [] h, ba_baL]
theorem partsv_hit {s : ByteArray} {i : Nat} (h : Lib.indexByte s.data.toList 47 = i) : i < s.size ∧ partsv s = s.extract 0 i :: partsv (s.extract (i + 1) s.size) := by
  obtain ⟨h1, h2⟩ := partsL_hit _ [] i h
  have h1' : i < s.size := by simpa using h1
  refine ⟨h1', ?_⟩
  have e1 : baL (s.data.toList.take i) = s.extract 0 i := ba_ext (by simp [baL])
  have e2 : (s.extract (i + 1) s.size).data.toList = s.data.toList.drop (i + 1) := by
    simp
    rw [List.take_of_length_le (by simp)]
  rw [partsv, h2, partsv, e2]
  simp [e1]
theorem slash_cases (s : ByteArray) : Lib.indexByte s.data.toList 47 = -1 ∨ ∃ i : Nat, Lib.indexByte s.data.toList 47 = i := by
  have g := Lib.indexByte_ge s.data.toList 47
  by_cases h : Lib.indexByte s.data.toList 47 = -1
  · exact .inl h
  · exact .inr ⟨(Lib.indexByte s.data.toList 47).toNat, by omega⟩
end Go.Proofs.YtancidbbkoeokaaGreat
