/- Records as texts, in plain Lean: what PutRecord writes, and what GetRecord reads. -/
import Derived.Test.YtlbanaakjabfnaaDoorRecOk
import Derived.Test.YtlbanaakjabfnaaDoorReadDecC
namespace Go.Proofs.YtlbanaakjabfnaaDoor
open Go.ChangeShapes Go.WideShapes Go.ChangeAt Go.RowKit

def recRest (k v : ByteArray) : ByteArray := ⟨#[32]⟩ ++ k ++ ⟨#[61]⟩ ++ v ++ ⟨#[10]⟩
/-- The length of a record whose text without its digits has m bytes. -/
def recLen (m : Nat) : Nat := if m ≤ 8 then m + 1 else if m ≤ 97 then m + 2 else m + 3
def recText (k v : ByteArray) : ByteArray := decTextv (recLen (recRest k v).size : Nat) ++ recRest k v
def putRecv (k v : ByteArray) : ByteArray := if recOkv k v then recText k v else ⟨#[]⟩
theorem dec_len {n : Nat} (h : n < 1000) : (decTextv (n : Int)).size = if n < 10 then 1 else if n < 100 then 2 else 3 := by
  rw [decTextv_size _ (by omega), Int.toNat_natCast]
  have h3 := numeral_len (b := 10) (u := n) (k := 3) (by omega) (by omega) (by omega)
  have h0 := numeral_pos (b := 10) (u := n) (by omega)
  have hl := fun k => numeral_lt (b := 10) (by omega) k n
  split
  · have := numeral_len (b := 10) (u := n) (k := 1) (by omega) (by omega) (by omega); omega
  · split
    · have := numeral_len (b := 10) (u := n) (k := 2) (by omega) (by omega) (by omega)
      by_cases h1 : (numeral 10 n).length ≤ 1
      · have := hl 1 h1; omega
      · omega
    · by_cases h1 : (numeral 10 n).length ≤ 2
      · have := hl 2 h1; omega
      · omega
theorem dec_le3 {n : Nat} (h : n < 1000) : (decTextv (n : Int)).size ≤ 3 := by
  rw [dec_len h]; split <;> (try split) <;> omega
theorem len_lt {m n : Nat} (h0 : m + 1 ≤ n) (h1 : n < recLen m) (hm : m ≤ 500) : n < (decTextv (n : Int)).size + m := by
  unfold recLen at h1
  rw [dec_len (by split at h1 <;> (try split at h1) <;> omega)]
  split at h1
  · omega
  · split at h1
    · split
      · omega
      · split <;> omega
    · split
      · omega
      · split <;> omega
theorem len_eq {m : Nat} (hm : m ≤ 500) : (decTextv (recLen m : Int)).size + m = recLen m := by
  have hb : recLen m < 1000 := by unfold recLen; split <;> (try split) <;> omega
  rw [dec_len hb]
  unfold recLen
  split
  · rw [if_pos (by omega)]; omega
  · split
    · rw [if_neg (by omega), if_pos (by omega)]; omega
    · rw [if_neg (by omega), if_neg (by omega)]; omega
theorem recLen_bd (m : Nat) : m + 1 ≤ recLen m ∧ recLen m ≤ m + 3 := by
  unfold recLen; split <;> (try split) <;> omega
theorem recRest_size (k v : ByteArray) : (recRest k v).size = k.size + v.size + 3 := by
  simp [recRest, ByteArray.size_append]
  show 1 + k.size + 1 + v.size + 1 = _
  omega
theorem recRest_list (k v : ByteArray) : (recRest k v).data.toList = 32 :: (k.data.toList ++ 61 :: (v.data.toList ++ [10])) := by
  simp [recRest]
theorem recOk_facts {k v : ByteArray} (h : recOkv k v = true) : 1 ≤ k.size ∧ k.size ≤ 30 ∧ v.size ≤ 250 ∧ (∀ c ∈ k.data.toList, c ≠ 61 ∧ c ≠ 32 ∧ c ≠ 10) ∧ ∀ c ∈ v.data.toList, c ≠ 0 ∧ c ≠ 10 := by
  simp only [recOkv, Bool.and_eq_true, decide_eq_true_eq, inB, signv, List.all_eq_true] at h
  obtain ⟨⟨⟨⟨h1, h2⟩, h3⟩, h4⟩, h5⟩ := h
  refine ⟨by omega, by omega, h4, fun c hc => ?_, fun c hc => ?_⟩
  · have a := h2 c hc
    have b := h3 c hc
    simp only [signb, Bool.and_eq_true, decide_eq_true_eq] at a
    refine ⟨by simpa [keyb] using b, ?_, ?_⟩
    · rintro rfl; simp at a
    · rintro rfl; simp at a
  · simpa [valb] using h5 c hc
theorem putRec_size {k v : ByteArray} (h : recOkv k v = true) : (putRecv k v).size = recLen (k.size + v.size + 3) ∧ recLen (k.size + v.size + 3) ≤ 286 := by
  obtain ⟨h1, h2, h3, _⟩ := recOk_facts h
  have hb := recLen_bd (k.size + v.size + 3)
  rw [putRecv, if_pos h, recText, ByteArray.size_append, recRest_size]
  have := len_eq (m := k.size + v.size + 3) (by omega)
  omega
theorem putRec_le (k v : ByteArray) : (putRecv k v).size ≤ 286 := by
  by_cases h : recOkv k v = true
  · have := putRec_size h; omega
  · rw [putRecv, if_neg h]; exact Nat.zero_le _
theorem putRec_empty (k v : ByteArray) : (putRecv k v).size = 0 ↔ recOkv k v = false := by
  constructor
  · intro h
    cases hr : recOkv k v with
    | false => rfl
    | true => have := putRec_size hr; have := recLen_bd (k.size + v.size + 3); omega
  · intro h; rw [putRecv, h]; rfl
end Go.Proofs.YtlbanaakjabfnaaDoor
