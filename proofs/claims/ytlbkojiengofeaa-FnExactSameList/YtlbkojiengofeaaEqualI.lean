/- Contract of impl.SameList (slices.Equal). -/
import Derived.Test.YtlbkojiengofeaaSizeE
import Derived.Test.YtlbkojiengofeaaEntAt
namespace Go.Proofs.Ytlbkojiengofeaa
open Go.ChangeShapes Go.WideShapes Go.ChangeAt Go.RowKit Go.Deep

set_option maxHeartbeats 1600000 in
theorem equal_lib (L M : List Ent) (n g ca n2 g2 cb : Nat) (w : World) (hn : n = L.length) (hn2 : n2 = M.length) (hm : n ≤ 4194304) (hm2 : n2 ≤ 4194304) (hg : g < w.heap.size) (hg2 : g2 < w.heap.size) (h1 : RowE w g L) (h2 : RowE w g2 M) :
    Calls Try.prog 49 #[.slice (some ⟨g, 0, none⟩) n ca, .slice (some ⟨g2, 0, none⟩) n2 cb] w fun e w' => e = .returned (.bool (decide (L = M))) ∧ Below w.heap.size w w' := by
  by_cases hl : n = n2
  · subst hl
    have H1 := Lib.hid h1
    have H2 := Lib.hid h2
    have HG : Hid (∀ i, i < n → ∃ e, L[i]? = some e) := Lib.hid (fun i hi => getE' (by omega))
    have HM : Hid (∀ i, i < n → ∃ e, M[i]? = some e) := Lib.hid (fun i hi => getE' (by omega))
    have HB : Hid (∀ (i : Nat) (e f : Ent), L[i]? = some e → M[i]? = some f → ¬ e = f → decide (L = M) = false) := Lib.hid (fun i e f h h' hne => decide_eq_false (fun q => hne (by rw [q, h'] at h; exact (Option.some.inj h).symm)))
    have HD : Hid ((∀ j, j < n → L[j]? = M[j]?) → decide (L = M) = true) := Lib.hid (fun h => decide_eq_true (List.ext_getElem? (fun j => by
      by_cases hj : j < n
      · exact h j hj
      · rw [List.getElem?_eq_none (by omega), List.getElem?_eq_none (by omega)])))
    generalize decide (L = M) = r at HB HD
    clear h1 h2 hn hn2
    go_enter Try.func49, Try.ntmps49
    go_wp2_with fail
    go_loopw [5, 13] (fun _ u wr => ∃ i : Nat, u = .int .i64 i ∧ i ≤ n ∧ (∀ j, j < i → L[j]? = M[j]?) ∧ Below w.heap.size w wr) (fun _ u _ => n - (intOf u).toNat)
    case atStart => exact ⟨0, rfl, Nat.zero_le _, fun j hj => by omega, Below.refl _ _⟩
    case round =>
      obtain ⟨i, rfl, hi, hr, hb⟩ := hrel
      have HR := Lib.hid hr
      have B := Lib.hid hb
      clear hr hb
      by_cases hlt : i < n
      · have hlt2 : (i : Int) < (n : Int) := by omega
        obtain ⟨e, he⟩ := HG.out i hlt
        obtain ⟨f, hf⟩ := HM.out i hlt
        obtain ⟨c0, c1, c2, c3, c4, c5, c6, c7, c8, c9⟩ := (H1.out.below B.out hg).ten he
        obtain ⟨d0, d1, d2, d3, d4, d5, d6, d7, d8, d9⟩ := (H2.out.below B.out hg2).ten hf
        have HBi := Lib.hid (HB.out i e f he hf)
        have HSi : Hid (e = f → ∀ j, j < i + 1 → L[j]? = M[j]?) := Lib.hid (fun q j hj => by
          by_cases hj' : j = i
          · subst hj'; rw [he, hf, q]
          · exact HR.out j (by omega))
        clear he hf HB
        obtain ⟨k, p, l, m, u, g0, t, us, gr, b⟩ := e
        obtain ⟨k', p', l', m', u', g0', t', us', gr', b'⟩ := f
        by_cases hef : (⟨k, p, l, m, u, g0, t, us, gr, b⟩ : Ent) = ⟨k', p', l', m', u', g0', t', us', gr', b'⟩
        · have HS := Lib.hid (HSi.out hef)
          have hq := fun w => (run_sameE k p l m u g0 t us gr b k' p' l' m' u' g0' t' us' gr' b' w).trans (by rw [decide_eq_true hef])
          clear HSi HBi hef
          go_wp2_with fail
          go_quiet (fail)
          go_wp2_with fail
          go_roundw
          case rel => exact ⟨i + 1, by go_num, by omega, HS.out, B.out.os, B.out.tape, B.out.output, B.out.size, B.out.block⟩
          case measure => simp [intOf]; omega
        · have HF := Lib.hid (HBi.out hef)
          have hq := fun w => (run_sameE k p l m u g0 t us gr b k' p' l' m' u' g0' t' us' gr' b' w).trans (by rw [decide_eq_false hef])
          clear HSi HBi hef
          go_wp2_with fail
          go_quiet (fail)
          go_wp2_with fail
          go_ret
          exact ⟨ret_bool HF.out.symm, B.out.os, B.out.tape, B.out.output, B.out.size, B.out.block⟩
      · obtain rfl : i = n := by omega
        have hlt2 : ¬ (i : Int) < (i : Int) := by omega
        have HF := Lib.hid (HD.out HR.out)
        go_wp2_with fail
        go_ret
        exact ⟨ret_bool HF.out.symm, B.out⟩
  · have hq : ¬ (n : Int) = (n2 : Int) := by omega
    have HF : Hid (decide (L = M) = false) := Lib.hid (decide_eq_false (fun q => hl (by rw [hn, hn2, q])))
    generalize decide (L = M) = r at HF
    go_enter Try.func49, Try.ntmps49
    go_wp2_with fail
    go_ret
    exact ⟨ret_bool HF.out.symm, Below.refl _ _⟩
theorem sameList_impl (L M : List Ent) (n g ca n2 g2 cb : Nat) (w : World) (hn : n = L.length) (hn2 : n2 = M.length) (hm : n ≤ 4194304) (hm2 : n2 ≤ 4194304) (hg : g < w.heap.size) (hg2 : g2 < w.heap.size) (h1 : RowE w g L) (h2 : RowE w g2 M) :
    Calls Try.prog 24 #[.slice (some ⟨g, 0, none⟩) n ca, .slice (some ⟨g2, 0, none⟩) n2 cb] w fun e w' => e = .returned (.bool (decide (L = M))) ∧ Below w.heap.size w w' := by
  have HC := Lib.hid (equal_lib L M n g ca n2 g2 cb w hn hn2 hm hm2 hg hg2 h1 h2)
  clear h1 h2 hn hn2
  generalize decide (L = M) = r at HC
  go_enter Try.func24, Try.ntmps24
  go_wp2_with fail
  refine HC.out.mono ?_
  rintro e w1 ⟨rfl, hb⟩
  go_wp2_with fail
  go_ret
  exact ⟨rfl, hb⟩
end Go.Proofs.Ytlbkojiengofeaa
