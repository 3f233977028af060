/- Where Split divides a path: plain lists only. -/
import Derived.Test.YtancidbbkoeokaaGreatDoorPathOk
namespace Go.Proofs.YtancidbbkoeokaaGreatDoor
open Go.RowKit Go.Shelf

theorem idx_hit (l : List UInt8) : ∀ i : Nat, Lib.indexByte l 47 = i → i < l.length ∧ l[i]? = some 47 ∧ ∀ j, j < i → l[j]? ≠ some 47 := by
  induction l with
  | nil => intro i h; simp [Lib.indexByte] at h
  | cons b r ih =>
    intro i h
    by_cases hb : b = 47
    · subst hb
      simp [Lib.indexByte] at h
      obtain rfl : i = 0 := by omega
      exact ⟨by simp, by simp, fun j hj => absurd hj (by omega)⟩
    · have hb' : (b == 47) = false := by simpa using hb
      rw [Lib.indexByte, hb'] at h
      by_cases hr : Lib.indexByte r 47 = -1
      · rw [if_neg (by simp), if_pos (by simpa using hr)] at h; omega
      · rw [if_neg (by simp), if_neg (by simpa using hr)] at h
        obtain ⟨j, rfl⟩ : ∃ j, i = j + 1 := ⟨i - 1, by have g := Lib.indexByte_ge r 47; omega⟩
        obtain ⟨h1, h2, h3⟩ := ih j (by omega)
        refine ⟨by simp; omega, by simpa using h2, ?_⟩
        intro k hk
        cases k with
        | zero => simpa using hb
        | succ k => simpa using h3 k (by omega)
theorem partsL_tail (b : List UInt8) (hb : Lib.indexByte b 47 = -1) (a : List UInt8) : ∀ cur, ∃ x ∈ partsL cur (a ++ b), b.length ≤ x.length := by
  induction a with
  | nil => intro cur; exact ⟨cur ++ b, by rw [List.nil_append, partsL_miss _ _ hb]; simp, by simp⟩
  | cons c r ih =>
    intro cur
    by_cases hc : c = 47
    · obtain ⟨x, hx, hl⟩ := ih []
      exact ⟨x, by simp only [List.cons_append, partsL, hc, if_true]; exact List.mem_cons_of_mem _ hx, hl⟩
    · obtain ⟨x, hx, hl⟩ := ih (cur ++ [c])
      exact ⟨x, by simp only [List.cons_append, partsL, hc, if_false]; exact hx, hl⟩
theorem part_60 {s x : ByteArray} (hp : pathOkv s = true) (hx : x ∈ partsv s) : x.size ≤ 60 := by
  simp only [pathOkv, Bool.and_eq_true, List.all_eq_true] at hp
  have := hp.2 x hx
  simp only [partOkv, Bool.and_eq_true, decide_eq_true_eq] at this
  omega
theorem path_200 {s : ByteArray} (hp : pathOkv s = true) : s.size ≤ 200 := by
  simp only [pathOkv, Bool.and_eq_true, decide_eq_true_eq] at hp
  exact hp.1
/-- Where the first slash stands after which at most 100 bytes remain. -/
def slashv (s : ByteArray) : Nat := s.size - 101 + (Lib.indexByte (s.data.toList.drop (s.size - 101)) 47).toNat
theorem slash_there {s : ByteArray} (hp : pathOkv s = true) (h : 100 < s.size) :
    Lib.indexByte (s.data.toList.drop (s.size - 101)) 47 = ((slashv s - (s.size - 101) : Nat) : Int) ∧ s.size - 101 ≤ slashv s ∧ slashv s < s.size ∧ (∀ q : slashv s < s.size, s[slashv s] = 47) ∧ ∀ j (q : j < s.size), s.size - 101 ≤ j → j < slashv s → ¬ s[j] = 47 := by
  have hge := Lib.indexByte_ge (s.data.toList.drop (s.size - 101)) 47
  have hne : Lib.indexByte (s.data.toList.drop (s.size - 101)) 47 ≠ -1 := by
    intro hm
    obtain ⟨x, hx, hl⟩ := partsL_tail _ hm (s.data.toList.take (s.size - 101)) []
    rw [List.take_append_drop] at hx
    have h1 := part_60 hp (List.mem_map.2 ⟨x, hx, rfl⟩)
    rw [baL_size] at h1
    simp at hl
    omega
  obtain ⟨i, hi⟩ := Int.eq_ofNat_of_zero_le (show 0 ≤ Lib.indexByte (s.data.toList.drop (s.size - 101)) 47 by omega)
  have hs : slashv s = s.size - 101 + i := by rw [slashv, hi]; rfl
  obtain ⟨a, b, c⟩ := idx_hit _ i hi
  have hlt : s.size - 101 + i < s.size := by simp at a; omega
  refine ⟨by rw [hi, hs]; congr 1; omega, by omega, by omega, ?_, ?_⟩
  · intro q
    rw [List.getElem?_drop] at b
    have e : s.data.toList[s.size - 101 + i]? = some s[s.size - 101 + i] := by
      rw [List.getElem?_eq_getElem (by simpa using hlt)]; rfl
    rw [e] at b
    simp only [hs]
    exact Option.some.inj b
  · intro j q hj hlt2
    have hc := c (j - (s.size - 101)) (by omega)
    rw [List.getElem?_drop, show s.size - 101 + (j - (s.size - 101)) = j from by omega] at hc
    intro e
    apply hc
    rw [List.getElem?_eq_getElem (by simpa using q)]
    exact congrArg some e

def splitOk (s : ByteArray) : Bool := pathOkv s && (decide (s.size ≤ 100) || decide (slashv s ≤ 155))
def splitP (s : ByteArray) : ByteArray := if splitOk s = true ∧ 100 < s.size then s.extract 0 (slashv s) else ⟨#[]⟩
def splitN (s : ByteArray) : ByteArray := if splitOk s = true then (if s.size ≤ 100 then s else s.extract (slashv s + 1) s.size) else ⟨#[]⟩
theorem split_no {s : ByteArray} (h : splitOk s = false) : splitP s = ⟨#[]⟩ ∧ splitN s = ⟨#[]⟩ := by simp [splitP, splitN, h]
theorem split_short {s : ByteArray} (h : pathOkv s = true) (hs : s.size ≤ 100) : splitOk s = true ∧ splitP s = ⟨#[]⟩ ∧ splitN s = s := by
  have h1 : splitOk s = true := by simp [splitOk, h, hs]
  exact ⟨h1, by simp [splitP]; intro _ h2; omega, by simp [splitN, h1, hs]⟩
theorem split_long {s : ByteArray} (h : pathOkv s = true) (hs : 100 < s.size) (hl : slashv s ≤ 155) : splitOk s = true ∧ splitP s = s.extract 0 (slashv s) ∧ splitN s = s.extract (slashv s + 1) s.size := by
  have h1 : splitOk s = true := by simp [splitOk, h, hl]
  exact ⟨h1, by rw [splitP, if_pos ⟨h1, hs⟩], by rw [splitN, if_pos h1, if_neg (by omega)]⟩
theorem split_far {s : ByteArray} (hs : 100 < s.size) (hl : ¬ slashv s ≤ 155) : splitOk s = false := by simp [splitOk, hl]; intro _; omega
theorem split_bad {s : ByteArray} (h : pathOkv s = false) : splitOk s = false := by simp [splitOk, h]
end Go.Proofs.YtancidbbkoeokaaGreatDoor
