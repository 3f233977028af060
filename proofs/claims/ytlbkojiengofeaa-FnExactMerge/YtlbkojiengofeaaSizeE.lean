/- Contracts of spec.Size and spec.SameList. -/
import Derived.Test.YtlbkojiengofeaaListOk
import Derived.Test.YtlbkojiengofeaaEqE
namespace Go.Proofs.Ytlbkojiengofeaa
open Go.ChangeShapes Go.WideShapes Go.ChangeAt Go.RowKit Go.Deep

def sizev (L : List Ent) : Nat := (L.map fun e => e.body.size).sum
theorem sizev_take (L : List Ent) (i : Nat) {e : Ent} (h : L[i]? = some e) : sizev (L.take (i + 1)) = sizev (L.take i) + e.body.size := by
  have hlt : i < L.length := (List.getElem?_eq_some_iff.1 h).1
  rw [List.take_add_one, h]
  simp [sizev]
/-- All texts of a list together. -/
def totL (L : List Ent) : Nat := (L.map esz).sum
theorem sizev_le (L : List Ent) : sizev L ≤ totL L := by
  induction L with
  | nil => simp [sizev, totL]
  | cons e L ih => simp [sizev, totL, esz] at ih ⊢; omega
theorem totL_take (L : List Ent) (i : Nat) : totL (L.take i) ≤ totL L := by
  induction L generalizing i with
  | nil => simp [totL]
  | cons e L ih =>
    cases i with
    | zero => simp [totL]
    | succ i => have := ih i; simp [totL] at this ⊢; omega
theorem size_spec (L : List Ent) (n g cap : Nat) (w : World) (hn : n = L.length) (hm : n ≤ 4194304) (hg : g < w.heap.size) (ht : totL L ≤ 4194304) (h1 : RowE w g L) :
    Calls Try.prog 27 #[.slice (some ⟨g, 0, none⟩) n cap] w fun e w' => e = .returned (.int .i64 (sizev L)) ∧ Below w.heap.size w w' := by
  have H1 := Lib.hid h1
  have HG : Hid (∀ i, i < n → ∃ e, L[i]? = some e) := Lib.hid (fun i hi => getE' (by omega))
  have HT : Hid (∀ i, sizev (L.take i) ≤ 4194304) := Lib.hid (fun i => Nat.le_trans (sizev_le _) (Nat.le_trans (totL_take L i) ht))
  have HN : Hid (∀ i e, L[i]? = some e → sizev (L.take (i + 1)) = sizev (L.take i) + e.body.size) := Lib.hid (fun i e h => sizev_take L i h)
  have HD : Hid (sizev (L.take n) = sizev L) := Lib.hid (by rw [hn, List.take_length])
  generalize sizev L = r at HD
  clear h1 hn ht
  go_enter Try.func27, Try.ntmps27
  go_wp2_with fail
  go_loopw [3, 4] (fun v u wr => ∃ i : Nat, v = .int .i64 (sizev (L.take i)) ∧ u = .int .i64 i ∧ i ≤ n ∧ Below w.heap.size w wr) (fun _ u _ => n - (intOf u).toNat)
  case atStart => exact ⟨0, by simp [sizev], rfl, Nat.zero_le _, Below.refl _ _⟩
  case round =>
    obtain ⟨i, rfl, rfl, hi, hb⟩ := hrel
    have B := Lib.hid hb
    clear hb
    by_cases hlt : i < n
    · have hlt2 : (i : Int) < (n : Int) := by omega
      obtain ⟨e, he⟩ := HG.out i hlt
      have h1 := HT.out (i + 1)
      have h2 := HN.out i e he
      obtain ⟨c0, c1, c2, c3, c4, c5, c6, c7, c8, c9⟩ := (H1.out.below B.out hg).ten he
      clear he c0 c1 c2 c3 c4 c5 c6 c7 c8
      have HS := Lib.hid h2
      rw [h2] at h1
      clear h2
      generalize sizev (L.take i) = s at h1 HS
      generalize e.body = b at c9 h1 HS
      go_wp2_with fail
      go_roundw
      case rel => exact ⟨i + 1, by rw [HS.out]; go_num, by go_num, by omega, B.out⟩
      case measure => simp [intOf]; omega
    · obtain rfl : i = n := by omega
      have hlt2 : ¬ (i : Int) < (i : Int) := by omega
      have HF := HD
      go_wp2_with fail
      go_ret
      exact ⟨ret_int (by rw [HF.out]), B.out⟩
set_option maxHeartbeats 1600000 in
theorem sameList_spec (L M : List Ent) (n g ca n2 g2 cb : Nat) (w : World) (hn : n = L.length) (hn2 : n2 = M.length) (hm : n ≤ 4194304) (hm2 : n2 ≤ 4194304) (hg : g < w.heap.size) (hg2 : g2 < w.heap.size) (h1 : RowE w g L) (h2 : RowE w g2 M) :
    Calls Try.prog 23 #[.slice (some ⟨g, 0, none⟩) n ca, .slice (some ⟨g2, 0, none⟩) n2 cb] w fun e w' => e = .returned (.bool (decide (L = M))) ∧ Below w.heap.size w w' := by
  by_cases hl : n = n2
  · subst hl
    have H1 := Lib.hid h1
    have H2 := Lib.hid h2
    have HG : Hid (∀ i, i < n → ∃ e, L[i]? = some e) := Lib.hid (fun i hi => getE' (by omega))
    have HM : Hid (∀ i, i < n → ∃ e, M[i]? = some e) := Lib.hid (fun i hi => getE' (by omega))
    have HB : Hid (∀ (i : Nat) (e f : Ent), L[i]? = some e → M[i]? = some f → ¬ e = f → decide (L = M) = false) := Lib.hid (fun i e f h h' hne => decide_eq_false (fun q => hne (by rw [q, h'] at h; exact (Option.some.inj h).symm)))
    have HD : Hid ((∀ j, j < n → L[j]? = M[j]?) → decide (L = M) = true) := Lib.hid (fun h => decide_eq_true (List.ext_getElem? (fun j => by
      by_cases hj : j < n
      · exact h j hj
      · rw [List.getElem?_eq_none (by omega), List.getElem?_eq_none (by omega)])))
    generalize decide (L = M) = r at HB HD
    clear h1 h2 hn hn2
    go_enter Try.func23, Try.ntmps23
    go_wp2_with fail
    go_loopw [5] (fun u wr => ∃ i : Nat, u = .int .i64 i ∧ i ≤ n ∧ (∀ j, j < i → L[j]? = M[j]?) ∧ Below w.heap.size w wr) (fun u _ => n - (intOf u).toNat)
    case atStart => exact ⟨0, rfl, Nat.zero_le _, fun j hj => by omega, Below.refl _ _⟩
    case round =>
      obtain ⟨i, rfl, hi, hr, hb⟩ := hrel
      have HR := Lib.hid hr
      have B := Lib.hid hb
      clear hr hb
      by_cases hlt : i < n
      · have hlt2 : (i : Int) < (n : Int) := by omega
        obtain ⟨e, he⟩ := HG.out i hlt
        obtain ⟨f, hf⟩ := HM.out i hlt
        obtain ⟨c0, c1, c2, c3, c4, c5, c6, c7, c8, c9⟩ := (H1.out.below B.out hg).ten he
        obtain ⟨d0, d1, d2, d3, d4, d5, d6, d7, d8, d9⟩ := (H2.out.below B.out hg2).ten hf
        have HBi := Lib.hid (HB.out i e f he hf)
        have HSi : Hid (e = f → ∀ j, j < i + 1 → L[j]? = M[j]?) := Lib.hid (fun q j hj => by
          by_cases hj' : j = i
          · subst hj'; rw [he, hf, q]
          · exact HR.out j (by omega))
        clear he hf HB
        obtain ⟨k, p, l, m, u, g0, t, us, gr, b⟩ := e
        obtain ⟨k', p', l', m', u', g0', t', us', gr', b'⟩ := f
        by_cases hef : (⟨k, p, l, m, u, g0, t, us, gr, b⟩ : Ent) = ⟨k', p', l', m', u', g0', t', us', gr', b'⟩
        · have HS := Lib.hid (HSi.out hef)
          have hq := fun w => (run_sameE k p l m u g0 t us gr b k' p' l' m' u' g0' t' us' gr' b' w).trans (by rw [decide_eq_true hef])
          clear HSi HBi hef
          go_wp2_with fail
          go_quiet (fail)
          go_wp2_with fail
          go_roundw
          case rel => exact ⟨i + 1, by go_num, by omega, HS.out, B.out.os, B.out.tape, B.out.output, B.out.size, B.out.block⟩
          case measure => simp [intOf]; omega
        · have HF := Lib.hid (HBi.out hef)
          have hq := fun w => (run_sameE k p l m u g0 t us gr b k' p' l' m' u' g0' t' us' gr' b' w).trans (by rw [decide_eq_false hef])
          clear HSi HBi hef
          go_wp2_with fail
          go_quiet (fail)
          go_wp2_with fail
          go_ret
          exact ⟨ret_bool HF.out.symm, B.out.os, B.out.tape, B.out.output, B.out.size, B.out.block⟩
      · obtain rfl : i = n := by omega
        have hlt2 : ¬ (i : Int) < (i : Int) := by omega
        have HF := Lib.hid (HD.out HR.out)
        go_wp2_with fail
        go_ret
        exact ⟨ret_bool HF.out.symm, B.out⟩
  · have hq : ¬ (n : Int) = (n2 : Int) := by omega
    have HF : Hid (decide (L = M) = false) := Lib.hid (decide_eq_false (fun q => hl (by rw [hn, hn2, q])))
    generalize decide (L = M) = r at HF
    go_enter Try.func23, Try.ntmps23
    go_wp2_with fail
    go_ret
    exact ⟨ret_bool HF.out.symm, Below.refl _ _⟩
end Go.Proofs.Ytlbkojiengofeaa
