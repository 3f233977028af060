/- What FnGlob asks besides the exact answers, plain: double stars, stars, a text by itself; what is stripped. -/
import Derived.Test.YthembgllkfgknaaGlobMath
import Derived.Test.YthembgllkfgknaaPathsMath
import Derived.Test.YthembgllkfgknaaStrip
namespace Go.Proofs.Ythembgllkfgknaa
open Go.RowKit Go.Shelf

theorem toks_ss : toksAt ⟨#[42, 42]⟩ 0 = [⟨#[42, 42]⟩] := rfl
theorem toks_st : toksAt ⟨#[42]⟩ 0 = [⟨#[42]⟩] := rfl
theorem glob_ss {s : ByteArray} (h : s.size ≤ 300) : globv ⟨#[42, 42]⟩ s = true := by
  have h2 : (⟨#[42, 42]⟩ : ByteArray).size ≤ 50 := by decide
  rw [globv, toks_ss, decide_eq_true ⟨h2, h⟩, Bool.true_and]
  show nst s true zeroR s.size = true
  exact (nst_iff _ _ _ _).2 ⟨0, Nat.zero_le _, rfl, fun j _ _ => rfl⟩
theorem glob_st {s : ByteArray} (h : globv ⟨#[42]⟩ s = true) : basev s = s := by
  rw [globv, toks_st, Bool.and_eq_true] at h
  have h1 : nst s false zeroR s.size = true := h.2
  obtain ⟨a, _, ha, hj⟩ := (nst_iff _ _ _ _).1 h1
  have ha0 : a = 0 := by simpa [zeroR] using ha
  subst ha0
  have hl : lastv s = -1 := by
    rcases Lib.lastIndexByte_spec s 47 with ⟨h, _⟩ | ⟨i, hi, _, hb, _⟩
    · exact h
    · exfalso
      have h3 := hj i (Nat.zero_le _) hi
      simp only [stOk, Bool.false_or, Bool.not_eq_true', decide_eq_false_iff_not] at h3
      exact h3 (by omega)
  rw [basev, hl]
  show s.extract 0 s.size = s
  apply ba_ext
  simp
theorem glob_from {s : ByteArray} (hn : ∀ j, (h : j < s.size) → s[j] ≠ 42) : ∀ (m i : Nat) (R : Nat → Bool), i + m = s.size → R i = true → globFold s (toksAt s i) R s.size = true := by
  intro m
  induction m with
  | zero =>
    intro i R hi hr
    obtain rfl : i = s.size := by omega
    rw [toksAt_end (Nat.le_refl _)]
    exact hr
  | succ m ih =>
    intro i R hi hr
    have hlt : i < s.size := by omega
    rw [toksAt_one hlt (fun ⟨_, h, _⟩ => hn i hlt h), globFold_cons]
    refine ih (i + 1) _ (by omega) ?_
    have hs : isStar ⟨#[s[i]]⟩ = false := by simpa [isStar] using hn i hlt
    rw [tokStep, if_neg (by rw [hs]; decide)]
    show (R i && oneOk s ⟨#[s[i]]⟩ i) = true
    rw [hr, Bool.true_and, oneOk, ext_one hlt]
    simp
theorem glob_self {s : ByteArray} (h : s.size ≤ 50) (hn : ∀ j, (h : j < s.size) → s[j] ≠ 42) : globv s s = true := by
  rw [globv, decide_eq_true ⟨h, by omega⟩, Bool.true_and]
  exact glob_from hn s.size 0 zeroR (by omega) rfl

theorem partsL_none (l : List UInt8) : ∀ cur, (∀ c ∈ l, c ≠ 47) → partsL cur l = [cur ++ l] := by
  induction l with
  | nil => intro cur _; simp [partsL]
  | cons c r ih =>
    intro cur h
    rw [partsL, if_neg (h c (by simp)), ih _ (fun x hx => h x (by simp [hx]))]
    simp
theorem part_no {x : ByteArray} (h : partOkv x = true) : ∀ c ∈ x.data.toList, c ≠ 47 := by
  simp only [partOkv, Bool.and_eq_true, List.all_eq_true] at h
  intro c hc e
  have := h.2 c hc
  rw [e] at this
  exact absurd this (by decide)
theorem parts_joinB (L : List ByteArray) (hL : L ≠ []) (h : ∀ x ∈ L, partOkv x = true) : partsL [] (joinB L) = L.map (·.data.toList) := by
  induction L with
  | nil => exact absurd rfl hL
  | cons x r ih =>
    cases r with
    | nil =>
      show partsL [] x.data.toList = _
      rw [partsL_none _ _ (part_no (h x (by simp)))]
      simp
    | cons y r =>
      show partsL [] (x.data.toList ++ 47 :: joinB (y :: r)) = _
      rw [partsL_app, partsL_none _ _ (part_no (h x (by simp))), ih (by simp) (fun z hz => h z (by simp [hz]))]
      simp
theorem parts_join {L : List ByteArray} (hL : L ≠ []) (h : ∀ x ∈ L, partOkv x = true) : partsv (joinv L) = L := by
  apply data_inj
  rw [partsv_data, joinv, baL_data]
  exact parts_joinB L hL h
theorem strip_good {s : ByteArray} {n : Int} (h : ¬ (stripv s n).size = 0) : pathOkv (stripv s n) = true ∧ depthv (stripv s n) = depthv s - n := by
  unfold stripv at h ⊢
  split at h
  · rename_i hc
    rw [if_pos hc]
    obtain ⟨hp, ⟨h0, _⟩, hl⟩ := hc
    have hall := hp
    simp only [pathOkv, Bool.and_eq_true, List.all_eq_true, decide_eq_true_eq] at hall
    have hne : (partsv s).drop n.toNat ≠ [] := by
      intro e
      have := List.drop_eq_nil_iff.1 e
      omega
    have hok : ∀ x ∈ (partsv s).drop n.toNat, partOkv x = true := fun x hx => hall.2 x (List.mem_of_mem_drop hx)
    have hpj := parts_join hne hok
    have hsz : (joinv ((partsv s).drop n.toNat)).size ≤ 200 := by
      have h1 := joinB_len' ((partsv s).drop n.toNat)
      have h2 := totB_drop (partsv s) n.toNat
      rw [totB_parts] at h2
      rw [joinv, baL_size]
      have := hall.1
      omega
    have hpath : pathOkv (joinv ((partsv s).drop n.toNat)) = true := pathOk_good hsz (by rw [hpj]; exact hok)
    refine ⟨hpath, ?_⟩
    rw [depthv, if_pos hpath, depthv, if_pos hp, hpj, List.length_drop]
    omega
  · exact absurd rfl h
theorem strip_size (s : ByteArray) (n : Int) : (stripv s n).size ≤ 200 := by
  by_cases h : (stripv s n).size = 0
  · omega
  · have := (strip_good h).1
    by_cases h2 : (stripv s n).size ≤ 200
    · exact h2
    · rw [pathOk_long h2] at this; cases this
end Go.Proofs.Ythembgllkfgknaa
