/- The way by digits, at places of a string. -/
import Derived.Test.YtlbanaakjabfnaaDoorGetRecI
namespace Go.Proofs.YtlbanaakjabfnaaDoor
open Go.ChangeShapes Go.WideShapes Go.ChangeAt Go.RowKit Go.Deep

theorem ext_list (s : ByteArray) (a b : Nat) : (s.extract a b).data.toList = (s.data.toList.drop a).take (b - a) := by
  simp [List.extract]
theorem ext_tail (s : ByteArray) (j : Nat) : (s.extract j s.size).data.toList = s.data.toList.drop j := by
  rw [ext_list, List.take_of_length_le (by simp)]
/-- No space from j to k. -/
def NoSp (s : ByteArray) (j k : Nat) : Prop := ∀ m c, j ≤ m → m < k → s.data.toList[m]? = some c → c ≠ 32
theorem NoSp.step {s : ByteArray} {j k : Nat} (h : NoSp s j k) (hk : k < s.size) (hc : s[k] ≠ 32) : NoSp s j (k + 1) := by
  intro m c h1 h2 h3
  by_cases e : m = k
  · subst e
    have : s.data.toList[m]? = some s[m] := List.getElem?_eq_getElem (by simpa using hk)
    rw [this] at h3
    obtain rfl : s[m] = c := by simpa using h3
    exact hc
  · exact h m c h1 (by omega) h3
theorem stop_of {s : ByteArray} {j k : Nat} (hjk : j ≤ k) (hk : k ≤ s.size) (h4 : k ≤ j + 4) (hn : NoSp s j k) (he : k = s.size ∨ k = j + 4 ∨ ∃ h : k < s.size, s[k] = 32) : Stop (s.extract j s.size).data.toList (k - j) := by
  rw [ext_tail]
  have hl : (s.data.toList.drop j).length = s.size - j := by simp
  refine ⟨by omega, by omega, ?_, ?_⟩
  · intro m c hm hc
    rw [List.getElem?_drop] at hc
    exact hn (j + m) c (by omega) (by omega) hc
  · rcases he with he | he | ⟨h, he⟩
    · left; omega
    · right; left; omega
    · right; right
      rw [List.getElem?_drop, show j + (k - j) = k from by omega, List.getElem?_eq_getElem (by simpa using h)]
      exact congrArg some he
theorem dig_ext {s : ByteArray} {j k : Nat} : (⟨((s.extract j s.size).data.toList.take (k - j)).toArray⟩ : ByteArray) = s.extract j k := by
  apply ba_ext
  rw [ext_tail, ext_list]
/-- The key and value that stand in the rest at m. -/
theorem rec_bad {s : ByteArray} {j k : Nat} (hjk : j ≤ k) (hk : k ≤ s.size) (h : Stop (s.extract j s.size).data.toList (k - j)) (hb : readDecv (s.extract j k) < 0 ∨ (s.size : Int) - j < readDecv (s.extract j k) ∨ (j : Int) + readDecv (s.extract j k) < k + 1) : recHit (s.extract j s.size) = false := by
  cases hr : recHit (s.extract j s.size) with
  | false => rfl
  | true =>
    exfalso
    obtain ⟨p1, p2, p3, _, _⟩ := recHit_parts hr h
    rw [dig_ext] at p1
    have hz : (s.extract j s.size).size = s.size - j := by simp
    rw [hz] at p3
    omega
theorem text_list {s : ByteArray} {j k N : Nat} (hjk : j ≤ k) : (s.extract (k + 1) (j + N)).data.toList = ((s.extract j s.size).data.toList.take N).drop (k - j + 1) := by
  rw [ext_tail, ext_list, List.drop_take, List.drop_drop, show j + (k - j + 1) = k + 1 from by omega, show j + N - (k + 1) = N - (k - j + 1) from by omega]
/-- No key ends ahead of m. -/
def NoEq (T : ByteArray) (m : Nat) : Prop := ∀ i, i < m → T.data.toList[i]? = some 61 → ¬ i + 1 < T.size
theorem NoEq.step {T : ByteArray} {m : Nat} (h : NoEq T m) (hm : m < T.size) (hc : T[m] ≠ 61 ∨ ¬ m + 1 < T.size) : NoEq T (m + 1) := by
  intro i hi h61
  by_cases e : i = m
  · subst e
    have : T.data.toList[i]? = some T[i] := List.getElem?_eq_getElem (by simpa using hm)
    rw [this] at h61
    have e2 : T[i] = 61 := by simpa using h61
    rcases hc with hc | hc
    · exact absurd e2 hc
    · exact hc
  · exact h i (by omega) h61
theorem rec_none {s : ByteArray} {j k N : Nat} (hjk : j ≤ k) (h : Stop (s.extract j s.size).data.toList (k - j)) (hN : readDecv (s.extract j k) = (N : Int)) (hn : NoEq (s.extract (k + 1) (j + N)) (s.extract (k + 1) (j + N)).size) : recHit (s.extract j s.size) = false := by
  cases hr : recHit (s.extract j s.size) with
  | false => rfl
  | true =>
    exfalso
    obtain ⟨p1, _, _, p4, _⟩ := recHit_parts hr h
    rw [dig_ext, hN] at p1
    have e : (recText (keyOf (s.extract j s.size)) (valOf (s.extract j s.size))).size = N := by omega
    rw [e, ← text_list hjk] at p4
    have hl := congrArg List.length p4
    simp only [List.length_append, List.length_cons, List.length_nil] at hl
    have hz : (s.extract (k + 1) (j + N)).data.toList.length = (s.extract (k + 1) (j + N)).size := Array.length_toList
    refine hn (keyOf (s.extract j s.size)).data.toList.length (by omega) ?_ (by omega)
    rw [p4]; simp
theorem rec_hit {s : ByteArray} {j k N : Nat} (hjk : j ≤ k) (hk : k + 1 ≤ j + N) (hz : j + N ≤ s.size) {a b : ByteArray} (hp : putRecv a b = s.extract j (j + N)) : recHit (s.extract j s.size) = true ∧ keyOf (s.extract j s.size) = a ∧ valOf (s.extract j s.size) = b ∧ (recText a b).size = N := by
  have hsz : (s.extract j (j + N)).size = N := by simp; omega
  have hr : recOkv a b = true := by
    cases hr : recOkv a b with
    | true => rfl
    | false => have := (putRec_empty a b).2 hr; rw [hp] at this; omega
  have hpt : putRecv a b = recText a b := by rw [putRecv, if_pos hr]
  rw [hpt] at hp
  have ht : (s.extract j s.size).data.toList = (recText a b).data.toList ++ (s.data.toList.drop j).drop N := by
    rw [hp, ext_tail, ext_list, show j + N - j = N from by omega, List.take_append_drop]
  obtain ⟨h1, h2, h3⟩ := recHit_some hr ht
  exact ⟨h1, h2, h3, by rw [hp]; exact hsz⟩
theorem rec_miss {s : ByteArray} {j k N m : Nat} (hjk : j ≤ k) (h : Stop (s.extract j s.size).data.toList (k - j)) (hN : readDecv (s.extract j k) = (N : Int)) (hn : NoEq (s.extract (k + 1) (j + N)) m) (h61 : (s.extract (k + 1) (j + N)).data.toList[m]? = some 61)
    (hp : ¬ putRecv ((s.extract (k + 1) (j + N)).extract 0 m) ((s.extract (k + 1) (j + N)).extract (m + 1) ((s.extract (k + 1) (j + N)).size - 1)) = s.extract j (j + N)) : recHit (s.extract j s.size) = false := by
  cases hr : recHit (s.extract j s.size) with
  | false => rfl
  | true =>
    exfalso
    obtain ⟨p1, _, _, p4, p5⟩ := recHit_parts hr h
    rw [dig_ext, hN] at p1
    have e : (recText (keyOf (s.extract j s.size)) (valOf (s.extract j s.size))).size = N := by omega
    rw [e, ← text_list hjk] at p4
    rw [e] at p5
    have ho := ((recHit_iff _).1 hr).1
    generalize hT : s.extract (k + 1) (j + N) = T at *
    have hz : T.data.toList.length = T.size := by simp
    have hlen := congrArg List.length p4
    simp only [List.length_append, List.length_cons, List.length_nil] at hlen
    have hm : m = (keyOf (s.extract j s.size)).data.toList.length := by
      refine key_end (k := (keyOf (s.extract j s.size)).data.toList) (v := (valOf (s.extract j s.size)).data.toList) (fun c hc => ((recOk_facts ho).2.2.2.1 c hc).1) (by rw [← p4]; exact h61) (fun i hi h6 => by rw [← p4, hz]; rw [← p4] at h6; exact hn i hi h6)
    apply hp
    have ea : T.extract 0 m = keyOf (s.extract j s.size) := by
      apply ba_ext
      rw [ext_list, p4, hm]; simp
    have eb : T.extract (m + 1) (T.size - 1) = valOf (s.extract j s.size) := by
      apply ba_ext
      rw [ext_list, p4, hm, ← List.drop_drop, List.drop_left]
      simp only [List.drop_succ_cons, List.drop_zero]
      have : T.size - 1 - ((keyOf (s.extract j s.size)).data.toList.length + 1) = (valOf (s.extract j s.size)).data.toList.length := by omega
      rw [this, List.take_left]
    rw [ea, eb, putRecv, if_pos ho]
    apply ba_ext
    rw [← p5, ext_tail, ext_list, show j + N - j = N from by omega]
end Go.Proofs.YtlbanaakjabfnaaDoor
