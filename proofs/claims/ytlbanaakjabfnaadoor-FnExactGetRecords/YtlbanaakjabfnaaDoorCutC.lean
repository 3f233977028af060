/- strings.Cut at one byte, for every string. -/
import Derived.Test.YtlbanaakjabfnaaDoorCom
import Derived.Test.YtlbanaakjabfnaaDoorShelf
import Derived.Lib.IndexLaws
import Derived.WalkMore
namespace Go.Proofs.YtlbanaakjabfnaaDoor
open Go.ChangeShapes Go.WideShapes Go.ChangeAt Go.RowKit

/-- What stands ahead of the first c (all of it, if there is none), and what stands behind it. -/
def cutL (c : UInt8) (s : ByteArray) : ByteArray := ⟨(s.data.toList.takeWhile (· != c)).toArray⟩
def cutR (c : UInt8) (s : ByteArray) : ByteArray := ⟨((s.data.toList.dropWhile (· != c)).drop 1).toArray⟩
theorem tw_split (c : UInt8) (a b : List UInt8) (h : ∀ x ∈ a, x ≠ c) : (a ++ c :: b).takeWhile (· != c) = a ∧ ((a ++ c :: b).dropWhile (· != c)).drop 1 = b := by
  induction a with
  | nil => simp
  | cons x a ih =>
    have hx : (x != c) = true := by simpa using h x (by simp)
    have := ih (fun y hy => h y (by simp [hy]))
    simp only [List.cons_append, List.takeWhile_cons, hx, if_true, List.dropWhile_cons]
    exact ⟨by rw [this.1], this.2⟩
theorem tw_none (c : UInt8) (a : List UInt8) (h : ∀ x ∈ a, x ≠ c) : a.takeWhile (· != c) = a ∧ (a.dropWhile (· != c)).drop 1 = [] := by
  induction a with
  | nil => simp
  | cons x a ih =>
    have hx : (x != c) = true := by simpa using h x (by simp)
    have := ih (fun y hy => h y (by simp [hy]))
    simp only [List.takeWhile_cons, hx, if_true, List.dropWhile_cons]
    exact ⟨by rw [this.1], this.2⟩
theorem cut_of {s a b : ByteArray} {c : UInt8} (h : s.data.toList = a.data.toList ++ c :: b.data.toList) (ha : ∀ x ∈ a.data.toList, x ≠ c) : cutL c s = a ∧ cutR c s = b := by
  unfold cutL cutR
  rw [h, (tw_split c _ _ ha).1, (tw_split c _ _ ha).2]
  exact ⟨by simp, by simp⟩
theorem cut_miss {s : ByteArray} {c : UInt8} (h : Lib.indexByte s.data.toList c = -1) : cutL c s = s ∧ cutR c s = ⟨#[]⟩ := by
  have hn : ∀ x ∈ s.data.toList, x ≠ c := by
    intro x hx
    obtain ⟨k, hk⟩ := List.mem_iff_getElem?.1 hx
    rintro rfl
    exact Lib.indexByte_none h k hk
  unfold cutL cutR
  rw [(tw_none c _ hn).1, (tw_none c _ hn).2]
  exact ⟨by simp, rfl⟩
theorem cut_hit {s : ByteArray} {c : UInt8} {i : Nat} (h : Lib.indexByte s.data.toList c = i) : i < s.size ∧ cutL c s = s.extract 0 i ∧ cutR c s = s.extract (i + 1) s.size := by
  obtain ⟨h1, h2⟩ := Lib.indexByte_some h
  have hlt : i < s.data.toList.length := (List.getElem?_eq_some_iff.1 h1).1
  have hi : i < s.size := by simpa using hlt
  refine ⟨hi, cut_of ?_ ?_⟩
  · have e : s.data.toList[i] = c := (List.getElem?_eq_some_iff.1 h1).2
    have : s.data.toList = s.data.toList.take i ++ s.data.toList.drop i := (List.take_append_drop i _).symm
    rw [List.drop_eq_getElem_cons hlt, e] at this
    have e1 : (s.extract 0 i).data.toList = s.data.toList.take i := by simp
    have e2 : (s.extract (i + 1) s.size).data.toList = s.data.toList.drop (i + 1) := by simp [List.take_of_length_le]
    rw [e1, e2]
    exact this
  · intro x hx
    have e1 : (s.extract 0 i).data.toList = s.data.toList.take i := by simp
    rw [e1] at hx
    obtain ⟨k, hk⟩ := List.mem_iff_getElem?.1 hx
    rw [List.getElem?_take] at hk
    split at hk
    · rename_i hki
      rintro rfl
      exact h2 k hki hk
    · cases hk
theorem cutL_le (c : UInt8) (s : ByteArray) : (cutL c s).size ≤ s.size := by
  have : (cutL c s).size = (s.data.toList.takeWhile (· != c)).length := by simp [cutL, ByteArray.size]
  rw [this]
  have := (List.takeWhile_sublist (l := s.data.toList) (· != c)).length_le
  simpa using this
theorem cutR_le (c : UInt8) (s : ByteArray) : (cutR c s).size ≤ s.size := by
  have : (cutR c s).size = ((s.data.toList.dropWhile (· != c)).drop 1).length := by simp [cutR, ByteArray.size]
  rw [this]
  have h1 := (List.dropWhile_sublist (l := s.data.toList) (· != c)).length_le
  have h2 : s.data.toList.length = s.size := by simp
  simp only [List.length_drop]
  omega
/-- What strings.Cut answers. -/
def CutIs (c : UInt8) (s : ByteArray) (w : World) (e : Ending) (w' : World) : Prop := (∃ f, e = .returned (.tuple #[.string (cutL c s), .string (cutR c s), .bool f])) ∧ ∃ n, w' = w.drewN n
theorem lcut_c (s : ByteArray) (c : UInt8) (w : World) (hs : s.size ≤ 9223372036854775806) :
    Calls Tryd.prog 39 #[.string s, .string ⟨#[c]⟩] w (CutIs c s w) := by
  have H := Lib.hid (fun w => Tryd.stringslite_Index_one s c w)
  have hg := Lib.indexByte_ge s.data.toList c
  by_cases h : Lib.indexByte s.data.toList c = -1
  · have HC := Lib.hid (cut_miss h)
    rw [h] at H
    clear h hg
    go_enter Tryd.func39, Tryd.ntmps39
    go_wp2_with fail
    refine (H.out _).mono ?_
    rintro e w' ⟨rfl, rfl⟩
    go_wp2_with fail
    go_ret3
    exact ⟨⟨false, by rw [HC.out.1, HC.out.2]; rfl⟩, 0, rfl⟩
  · obtain ⟨i, hi⟩ := Int.eq_ofNat_of_zero_le (show 0 ≤ Lib.indexByte s.data.toList c by omega)
    obtain ⟨hlt, h1, h2⟩ := cut_hit hi
    have HC := Lib.hid (And.intro h1 h2)
    rw [hi] at H
    clear h hg h1 h2 hi
    have c1 : (0 : Int) ≤ ↑i := by omega
    have c2 : (↑i : Int) ≤ ↑s.size := by omega
    have c3 : (0 : Int) ≤ ↑i + 1 := by omega
    have c4 : (↑i + 1 : Int) ≤ ↑s.size := by omega
    go_enter Tryd.func39, Tryd.ntmps39
    go_wp2_with fail
    refine (H.out _).mono ?_
    rintro e w' ⟨rfl, rfl⟩
    go_wp2_with fail
    go_region
    go_wp2
    go_ret3
    exact ⟨⟨true, by rw [HC.out.1, HC.out.2]; rfl⟩, 1, rfl⟩
theorem cut_c (s : ByteArray) (c : UInt8) (w : World) (hs : s.size ≤ 9223372036854775806) :
    Calls Tryd.prog 28 #[.string s, .string ⟨#[c]⟩] w (CutIs c s w) := by
  have H := Lib.hid (fun w => lcut_c s c w hs)
  unfold CutIs at *
  generalize cutL c s = a at *
  generalize cutR c s = b at *
  go_enter Tryd.func28, Tryd.ntmps28
  go_wp2_with fail
  refine (H.out _).mono ?_
  rintro e w' ⟨⟨f, rfl⟩, n, rfl⟩
  go_wp2_with fail
  go_ret3
  exact ⟨⟨f, rfl⟩, n, rfl⟩
end Go.Proofs.YtlbanaakjabfnaaDoor
