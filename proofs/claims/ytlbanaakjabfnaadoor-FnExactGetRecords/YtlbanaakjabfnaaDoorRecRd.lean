/- What GetRecord reads, in plain Lean: the way by cuts and the way by digits tell the same. -/
import Derived.Test.YtlbanaakjabfnaaDoorRecMath
import Derived.Test.YtlbanaakjabfnaaDoorCutC
namespace Go.Proofs.YtlbanaakjabfnaaDoor
open Go.ChangeShapes Go.WideShapes Go.ChangeAt Go.RowKit

def pairOf (t : ByteArray) : ByteArray := cutR 32 (cutL 10 t)
def keyOf (t : ByteArray) : ByteArray := cutL 61 (pairOf t)
def valOf (t : ByteArray) : ByteArray := cutR 61 (pairOf t)
/-- A record stands at the beginning of t. -/
def recHit (t : ByteArray) : Bool := recOkv (keyOf t) (valOf t) && (recText (keyOf t) (valOf t)).data.toList.isPrefixOf t.data.toList
theorem digs_dig (u : Nat) : ∀ c ∈ digs 10 u, 48 ≤ c.toNat ∧ c.toNat ≤ 57 := by
  induction u using Nat.strongRecOn with
  | ind u ih =>
    intro c hc
    by_cases hu : u = 0
    · subst hu; rw [digs_zero] at hc; cases hc
    · rw [digs_pos (by omega) (by omega)] at hc
      rcases List.mem_append.1 hc with h | h
      · exact ih (u / 10) (by omega) c h
      · simp only [List.mem_singleton] at h
        subst h
        unfold dch
        rw [if_pos (by omega), UInt8.toNat_ofNat']
        omega
theorem numeral_dig {u : Nat} : ∀ c ∈ numeral 10 u, 48 ≤ c.toNat ∧ c.toNat ≤ 57 := by
  unfold numeral
  split
  · intro c hc
    simp only [List.mem_singleton] at hc
    subst hc; decide
  · exact digs_dig u
theorem dec_digit {n : Nat} : ∀ c ∈ (decTextv (n : Int)).data.toList, 48 ≤ c.toNat ∧ c.toNat ≤ 57 := by
  intro c hc
  rw [decTextv, decText, if_neg (by omega)] at hc
  have hc' : c ∈ numeral 10 n := by simpa using hc
  exact numeral_dig c hc'
theorem recText_list (k v : ByteArray) : (recText k v).data.toList = (decTextv (recLen (recRest k v).size : Nat)).data.toList ++ 32 :: (k.data.toList ++ 61 :: (v.data.toList ++ [10])) := by
  rw [recText, ByteArray.data_append, Array.toList_append, recRest_list]
theorem recHit_of {k v t : ByteArray} (h : recOkv k v = true) {u : List UInt8} (ht : t.data.toList = (recText k v).data.toList ++ u) : keyOf t = k ∧ valOf t = v := by
  obtain ⟨h1, h2, h3, h4, h5⟩ := recOk_facts h
  rw [recText_list] at ht
  generalize hD : decTextv (recLen (recRest k v).size : Nat) = D at ht
  have dd : ∀ c ∈ D.data.toList, 48 ≤ c.toNat ∧ c.toNat ≤ 57 := by rw [← hD]; exact dec_digit
  have e1 : cutL 10 t = ⟨(D.data.toList ++ 32 :: (k.data.toList ++ 61 :: v.data.toList)).toArray⟩ := by
    refine (cut_of (b := ⟨u.toArray⟩) ?_ ?_).1
    · rw [ht]; simp
    · intro c hc
      simp only [List.mem_append, List.mem_cons] at hc
      rcases hc with hc | rfl | hc | rfl | hc
      · have := dd c hc; rintro rfl; simp at this
      · decide
      · exact (h4 c hc).2.2
      · decide
      · exact (h5 c hc).2
  have e2 : pairOf t = ⟨(k.data.toList ++ 61 :: v.data.toList).toArray⟩ := by
    unfold pairOf
    rw [e1]
    refine (cut_of (a := D) ?_ ?_).2
    · simp
    · intro c hc
      have := dd c hc; rintro rfl; simp at this
  unfold keyOf valOf
  rw [e2]
  exact cut_of (a := k) (b := v) (by simp) (fun c hc => (h4 c hc).1)
theorem recHit_iff (t : ByteArray) : recHit t = true ↔ recOkv (keyOf t) (valOf t) = true ∧ ∃ u, t.data.toList = (recText (keyOf t) (valOf t)).data.toList ++ u := by
  unfold recHit
  rw [Bool.and_eq_true, List.isPrefixOf_iff_prefix]
  constructor
  · rintro ⟨h, u, hu⟩; exact ⟨h, u, hu.symm⟩
  · rintro ⟨h, u, hu⟩; exact ⟨h, u, hu.symm⟩
theorem recHit_some {k v t : ByteArray} (h : recOkv k v = true) {u : List UInt8} (ht : t.data.toList = (recText k v).data.toList ++ u) : recHit t = true ∧ keyOf t = k ∧ valOf t = v := by
  have hk := recHit_of h ht
  refine ⟨(recHit_iff t).2 ?_, hk⟩
  rw [hk.1, hk.2]
  exact ⟨h, u, ht⟩
/-- The digits end at q: at a space, behind four bytes, or at the end. -/
def Stop (t : List UInt8) (q : Nat) : Prop := q ≤ t.length ∧ q ≤ 4 ∧ (∀ j c, j < q → t[j]? = some c → c ≠ 32) ∧ (q = t.length ∨ q = 4 ∨ t[q]? = some 32)
theorem readDec_dec {n : Nat} (h : n ≤ 999999) : readDecv (decTextv (n : Int)) = n := by
  have := (decText_lead (c := (n : Int)) (s := decTextv (n : Int)) (by omega) (by omega) rfl).1
  rw [readDecv, this, if_pos ⟨by omega, rfl⟩]
theorem recHit_parts {t : ByteArray} (h : recHit t = true) {q : Nat} (hq : Stop t.data.toList q) :
    readDecv ⟨(t.data.toList.take q).toArray⟩ = ((recText (keyOf t) (valOf t)).size : Nat) ∧ q + 1 ≤ (recText (keyOf t) (valOf t)).size ∧ (recText (keyOf t) (valOf t)).size ≤ t.size ∧ (t.data.toList.take (recText (keyOf t) (valOf t)).size).drop (q + 1) = (keyOf t).data.toList ++ 61 :: ((valOf t).data.toList ++ [10]) ∧ t.data.toList.take (recText (keyOf t) (valOf t)).size = (recText (keyOf t) (valOf t)).data.toList := by
  obtain ⟨hr, u, ht⟩ := (recHit_iff t).1 h
  generalize keyOf t = k at *
  generalize valOf t = v at *
  obtain ⟨h1, h2, h3, _, _⟩ := recOk_facts hr
  have hsz : (recText k v).size = recLen (k.size + v.size + 3) := by
    have := (putRec_size hr).1; rwa [putRecv, if_pos hr] at this
  have hb := recLen_bd (k.size + v.size + 3)
  have hlen : (recText k v).data.toList.length = (recText k v).size := by simp
  have htk : t.data.toList.take (recText k v).size = (recText k v).data.toList := by
    rw [ht, ← hlen]; simp
  have hts : (recText k v).size ≤ t.size := by
    have e := congrArg List.length ht
    simp only [List.length_append] at e
    have : t.data.toList.length = t.size := by simp
    omega
  have hlist := recText_list k v
  rw [recRest_size] at hlist
  rw [← hsz] at hlist
  generalize hN : (recText k v).size = N at *
  have hN9 : N ≤ 286 := by omega
  have dd : ∀ c ∈ (decTextv (N : Int)).data.toList, 48 ≤ c.toNat ∧ c.toNat ≤ 57 := dec_digit
  have dl : (decTextv (N : Int)).data.toList.length = (decTextv (N : Int)).size := by simp
  have d3 := dec_le3 (n := N) (by omega)
  have hqd : q = (decTextv (N : Int)).size := by
    obtain ⟨q1, q2, q3, q4⟩ := hq
    by_cases c1 : q < (decTextv (N : Int)).size
    · exfalso
      have hl : q < (decTextv (N : Int)).data.toList.length := by omega
      have hget : t.data.toList[q]? = some (decTextv (N : Int)).data.toList[q] := by
        rw [ht, hlist, List.getElem?_append_left (by simp; omega), List.getElem?_append_left hl]
        exact List.getElem?_eq_getElem hl
      rcases q4 with q4 | q4 | q4
      · have := (List.getElem?_eq_some_iff.1 hget).1; omega
      · omega
      · rw [hget] at q4
        have := dd _ (List.getElem_mem hl)
        have e : (decTextv (N : Int)).data.toList[q] = 32 := by simpa using q4
        rw [e] at this; simp at this
    · by_cases c2 : (decTextv (N : Int)).size < q
      · exfalso
        refine q3 (decTextv (N : Int)).size 32 c2 ?_ rfl
        rw [ht, hlist, ← dl, List.getElem?_append_left (by simp), List.getElem?_append_right (by omega)]
        simp
      · omega
  have htq : t.data.toList.take q = (decTextv (N : Int)).data.toList := by
    rw [ht, hlist, hqd, ← dl]; simp
  refine ⟨?_, ?_, hts, ?_, htk⟩
  · rw [htq]
    have : (⟨(decTextv (N : Int)).data.toList.toArray⟩ : ByteArray) = decTextv (N : Int) := by simp
    rw [this, readDec_dec (by omega)]
  · have e := congrArg List.length hlist
    simp only [List.length_append, List.length_cons, List.length_nil] at e
    rw [hlen] at e
    omega
  · rw [htk, hlist, hqd, ← dl, ← List.drop_drop]
    simp
/-- The place of the key's end in what stands behind the space. -/
theorem key_end {k v : List UInt8} (hk : ∀ c ∈ k, c ≠ 61) {j : Nat} (h61 : (k ++ 61 :: (v ++ [10]))[j]? = some 61) (hf : ∀ i, i < j → (k ++ 61 :: (v ++ [10]))[i]? = some 61 → ¬ i + 1 < (k ++ 61 :: (v ++ [10])).length) : j = k.length := by
  by_cases c1 : j < k.length
  · exfalso
    rw [List.getElem?_append_left c1] at h61
    exact hk _ (List.mem_of_getElem? h61) rfl
  · by_cases c2 : k.length < j
    · exfalso
      exact hf k.length c2 (by simp) (by simp)
    · omega
end Go.Proofs.YtlbanaakjabfnaaDoor
