/- The test '==' of two cards, as an equation; contracts of slices.Equal and spec.l07Same over cards. -/
import Derived.Test.YtcnmbolmgifgfabGreatDoorCardL
import Derived.Test.YtcnmbolmgifgfabGreatDoorSizeE
import Derived.Test.YtcnmbolmgifgfabGreatDoorEntAt
import Derived.Laws.StructEq
namespace Go.Proofs.YtcnmbolmgifgfabGreatDoor
open Go.ChangeShapes Go.WideShapes Go.ChangeAt Go.RowKit Go.Deep

theorem run_sameC (x0 x1 x2 x3 x4 x5 : Int) (x6 x7 : ByteArray) (y0 y1 y2 y3 y4 y5 : Int) (y6 y7 : ByteArray) (w : World) :
    (Op.equalIn 10000 48 (.agg #[.int .i64 x0, .int .i64 x1, .int .i64 x2, .int .i64 x3, .int .i64 x4, .int .i64 x5, .string x6, .string x7]) (.agg #[.int .i64 y0, .int .i64 y1, .int .i64 y2, .int .i64 y3, .int .i64 y4, .int .i64 y5, .string y6, .string y7])).run Tryz.prog w = .ok (decide ((⟨x0, x1, x2, x3, x4, x5, x6, x7⟩ : Card) = ⟨y0, y1, y2, y3, y4, y5, y6, y7⟩)) w := by
  have h1 : Tryz.prog.underlying 48 = some (.struct (Tryz.prog.fieldsOf 48)) := by kernel_rfl
  rw [show (10000 : Nat) = 9999 + 1 from rfl, run_equalIn_struct w 9999 _ _ _ h1 (by kernel_rfl)]
  simp only [Program.fieldsOf, Tryz.underlying48]
  simp [Op.eqFields, go_sem, Tryz.underlying3, Tryz.underlying9, tlE_inj]
  by_cases a0 : x0 = y0
  · rw [if_pos a0, decide_eq_true a0, Bool.true_and]
    by_cases a1 : x1 = y1
    · rw [if_pos a1, decide_eq_true a1, Bool.true_and]
      by_cases a2 : x2 = y2
      · rw [if_pos a2, decide_eq_true a2, Bool.true_and]
        by_cases a3 : x3 = y3
        · rw [if_pos a3, decide_eq_true a3, Bool.true_and]
          by_cases a4 : x4 = y4
          · rw [if_pos a4, decide_eq_true a4, Bool.true_and]
            by_cases a5 : x5 = y5
            · rw [if_pos a5, decide_eq_true a5, Bool.true_and]
              by_cases a6 : x6 = y6
              · rw [if_pos a6, decide_eq_true a6, Bool.true_and]
                by_cases a7 : x7 = y7
                · rw [if_pos a7, decide_eq_true a7]
                · rw [if_neg a7, decide_eq_false a7]
              · rw [if_neg a6, decide_eq_false a6, Bool.false_and]
            · rw [if_neg a5, decide_eq_false a5, Bool.false_and]
          · rw [if_neg a4, decide_eq_false a4, Bool.false_and]
        · rw [if_neg a3, decide_eq_false a3, Bool.false_and]
      · rw [if_neg a2, decide_eq_false a2, Bool.false_and]
    · rw [if_neg a1, decide_eq_false a1, Bool.false_and]
  · rw [if_neg a0, decide_eq_false a0, Bool.false_and]
theorem getC' {L : List Card} {i : Nat} (h : i < L.length) : ∃ e, L[i]? = some e := ⟨L[i], List.getElem?_eq_getElem h⟩
set_option maxHeartbeats 1600000 in
theorem equal_libC (L M : List Card) (n g ca n2 g2 cb : Nat) (w : World) (hn : n = L.length) (hn2 : n2 = M.length) (hm : n ≤ 4194304) (hm2 : n2 ≤ 4194304) (hg : g < w.heap.size) (hg2 : g2 < w.heap.size) (h1 : RowC w g L) (h2 : RowC w g2 M) :
    Calls Tryz.prog 117 #[.slice (some ⟨g, 0, none⟩) n ca, .slice (some ⟨g2, 0, none⟩) n2 cb] w fun e w' => e = .returned (.bool (decide (L = M))) ∧ Below w.heap.size w w' := by
  by_cases hl : n = n2
  · subst hl
    have H1 := Lib.hid h1
    have H2 := Lib.hid h2
    have HG : Hid (∀ i, i < n → ∃ e, L[i]? = some e) := Lib.hid (fun i hi => getC' (by omega))
    have HM : Hid (∀ i, i < n → ∃ e, M[i]? = some e) := Lib.hid (fun i hi => getC' (by omega))
    have HB : Hid (∀ (i : Nat) (e f : Card), L[i]? = some e → M[i]? = some f → ¬ e = f → decide (L = M) = false) := Lib.hid (fun i e f h h' hne => decide_eq_false (fun q => hne (by rw [q, h'] at h; exact (Option.some.inj h).symm)))
    have HD : Hid ((∀ j, j < n → L[j]? = M[j]?) → decide (L = M) = true) := Lib.hid (fun h => decide_eq_true (List.ext_getElem? (fun j => by
      by_cases hj : j < n
      · exact h j hj
      · rw [List.getElem?_eq_none (by omega), List.getElem?_eq_none (by omega)])))
    generalize decide (L = M) = r at HB HD
    clear h1 h2 hn hn2
    go_enter Tryz.func117, Tryz.ntmps117
    go_wp2_with fail
    go_loopw [5, 13] (fun _ u wr => ∃ i : Nat, u = .int .i64 i ∧ i ≤ n ∧ (∀ j, j < i → L[j]? = M[j]?) ∧ Below w.heap.size w wr) (fun _ u _ => n - (intOf u).toNat)
    case atStart => exact ⟨0, rfl, Nat.zero_le _, fun j hj => by omega, Below.refl _ _⟩
    case round =>
      obtain ⟨i, rfl, hi, hr, hb⟩ := hrel
      have HR := Lib.hid hr
      have B := Lib.hid hb
      clear hr hb
      by_cases hlt : i < n
      · have hlt2 : (i : Int) < (n : Int) := by omega
        obtain ⟨e, he⟩ := HG.out i hlt
        obtain ⟨f, hf⟩ := HM.out i hlt
        obtain ⟨c0, c1, c2, c3, c4, c5, c6, c7⟩ := (H1.out.below B.out hg).cols he
        obtain ⟨d0, d1, d2, d3, d4, d5, d6, d7⟩ := (H2.out.below B.out hg2).cols hf
        have HBi := Lib.hid (HB.out i e f he hf)
        have HSi : Hid (e = f → ∀ j, j < i + 1 → L[j]? = M[j]?) := Lib.hid (fun q j hj => by
          by_cases hj' : j = i
          · subst hj'; rw [he, hf, q]
          · exact HR.out j (by omega))
        clear he hf HB
        obtain ⟨x0, x1, x2, x3, x4, x5, x6, x7⟩ := e
        obtain ⟨y0, y1, y2, y3, y4, y5, y6, y7⟩ := f
        by_cases hef : (⟨x0, x1, x2, x3, x4, x5, x6, x7⟩ : Card) = ⟨y0, y1, y2, y3, y4, y5, y6, y7⟩
        · have HS := Lib.hid (HSi.out hef)
          have hq := fun w => (run_sameC x0 x1 x2 x3 x4 x5 x6 x7 y0 y1 y2 y3 y4 y5 y6 y7 w).trans (by rw [decide_eq_true hef])
          clear HSi HBi hef
          go_wp2_with fail
          go_quiet (fail)
          go_wp2_with fail
          go_roundw
          case rel => exact ⟨i + 1, by go_num, by omega, HS.out, B.out.os, B.out.tape, B.out.output, B.out.size, B.out.block⟩
          case measure => simp [intOf]; omega
        · have HF := Lib.hid (HBi.out hef)
          have hq := fun w => (run_sameC x0 x1 x2 x3 x4 x5 x6 x7 y0 y1 y2 y3 y4 y5 y6 y7 w).trans (by rw [decide_eq_false hef])
          clear HSi HBi hef
          go_wp2_with fail
          go_quiet (fail)
          go_wp2_with fail
          go_ret
          exact ⟨ret_bool HF.out.symm, B.out.os, B.out.tape, B.out.output, B.out.size, B.out.block⟩
      · obtain rfl : i = n := by omega
        have hlt2 : ¬ (i : Int) < (i : Int) := by omega
        have HF := Lib.hid (HD.out HR.out)
        go_wp2_with fail
        go_ret
        exact ⟨ret_bool HF.out.symm, B.out⟩
  · have hq : ¬ (n : Int) = (n2 : Int) := by omega
    have HF : Hid (decide (L = M) = false) := Lib.hid (decide_eq_false (fun q => hl (by rw [hn, hn2, q])))
    generalize decide (L = M) = r at HF
    go_enter Tryz.func117, Tryz.ntmps117
    go_wp2_with fail
    go_ret
    exact ⟨ret_bool HF.out.symm, Below.refl _ _⟩
set_option maxHeartbeats 1600000 in
theorem same_specC (L M : List Card) (n g ca n2 g2 cb : Nat) (w : World) (hn : n = L.length) (hn2 : n2 = M.length) (hm : n ≤ 4194304) (hm2 : n2 ≤ 4194304) (hg : g < w.heap.size) (hg2 : g2 < w.heap.size) (h1 : RowC w g L) (h2 : RowC w g2 M) :
    Calls Tryz.prog 115 #[.slice (some ⟨g, 0, none⟩) n ca, .slice (some ⟨g2, 0, none⟩) n2 cb] w fun e w' => e = .returned (.bool (decide (L = M))) ∧ Below w.heap.size w w' := by
  by_cases hl : n = n2
  · subst hl
    have H1 := Lib.hid h1
    have H2 := Lib.hid h2
    have HG : Hid (∀ i, i < n → ∃ e, L[i]? = some e) := Lib.hid (fun i hi => getC' (by omega))
    have HM : Hid (∀ i, i < n → ∃ e, M[i]? = some e) := Lib.hid (fun i hi => getC' (by omega))
    have HB : Hid (∀ (i : Nat) (e f : Card), L[i]? = some e → M[i]? = some f → ¬ e = f → decide (L = M) = false) := Lib.hid (fun i e f h h' hne => decide_eq_false (fun q => hne (by rw [q, h'] at h; exact (Option.some.inj h).symm)))
    have HD : Hid ((∀ j, j < n → L[j]? = M[j]?) → decide (L = M) = true) := Lib.hid (fun h => decide_eq_true (List.ext_getElem? (fun j => by
      by_cases hj : j < n
      · exact h j hj
      · rw [List.getElem?_eq_none (by omega), List.getElem?_eq_none (by omega)])))
    generalize decide (L = M) = r at HB HD
    clear h1 h2 hn hn2
    go_enter Tryz.func115, Tryz.ntmps115
    go_wp2_with fail
    go_loopw [5] (fun u wr => ∃ i : Nat, u = .int .i64 i ∧ i ≤ n ∧ (∀ j, j < i → L[j]? = M[j]?) ∧ Below w.heap.size w wr) (fun u _ => n - (intOf u).toNat)
    case atStart => exact ⟨0, rfl, Nat.zero_le _, fun j hj => by omega, Below.refl _ _⟩
    case round =>
      obtain ⟨i, rfl, hi, hr, hb⟩ := hrel
      have HR := Lib.hid hr
      have B := Lib.hid hb
      clear hr hb
      by_cases hlt : i < n
      · have hlt2 : (i : Int) < (n : Int) := by omega
        obtain ⟨e, he⟩ := HG.out i hlt
        obtain ⟨f, hf⟩ := HM.out i hlt
        obtain ⟨c0, c1, c2, c3, c4, c5, c6, c7⟩ := (H1.out.below B.out hg).cols he
        obtain ⟨d0, d1, d2, d3, d4, d5, d6, d7⟩ := (H2.out.below B.out hg2).cols hf
        have HBi := Lib.hid (HB.out i e f he hf)
        have HSi : Hid (e = f → ∀ j, j < i + 1 → L[j]? = M[j]?) := Lib.hid (fun q j hj => by
          by_cases hj' : j = i
          · subst hj'; rw [he, hf, q]
          · exact HR.out j (by omega))
        clear he hf HB
        obtain ⟨x0, x1, x2, x3, x4, x5, x6, x7⟩ := e
        obtain ⟨y0, y1, y2, y3, y4, y5, y6, y7⟩ := f
        by_cases hef : (⟨x0, x1, x2, x3, x4, x5, x6, x7⟩ : Card) = ⟨y0, y1, y2, y3, y4, y5, y6, y7⟩
        · have HS := Lib.hid (HSi.out hef)
          have hq := fun w => (run_sameC x0 x1 x2 x3 x4 x5 x6 x7 y0 y1 y2 y3 y4 y5 y6 y7 w).trans (by rw [decide_eq_true hef])
          clear HSi HBi hef
          go_wp2_with fail
          go_quiet (fail)
          go_wp2_with fail
          go_roundw
          case rel => exact ⟨i + 1, by go_num, by omega, HS.out, B.out.os, B.out.tape, B.out.output, B.out.size, B.out.block⟩
          case measure => simp [intOf]; omega
        · have HF := Lib.hid (HBi.out hef)
          have hq := fun w => (run_sameC x0 x1 x2 x3 x4 x5 x6 x7 y0 y1 y2 y3 y4 y5 y6 y7 w).trans (by rw [decide_eq_false hef])
          clear HSi HBi hef
          go_wp2_with fail
          go_quiet (fail)
          go_wp2_with fail
          go_ret
          exact ⟨ret_bool HF.out.symm, B.out.os, B.out.tape, B.out.output, B.out.size, B.out.block⟩
      · obtain rfl : i = n := by omega
        have hlt2 : ¬ (i : Int) < (i : Int) := by omega
        have HF := Lib.hid (HD.out HR.out)
        go_wp2_with fail
        go_ret
        exact ⟨ret_bool HF.out.symm, B.out⟩
  · have hq : ¬ (n : Int) = (n2 : Int) := by omega
    have HF : Hid (decide (L = M) = false) := Lib.hid (decide_eq_false (fun q => hl (by rw [hn, hn2, q])))
    generalize decide (L = M) = r at HF
    go_enter Tryz.func115, Tryz.ntmps115
    go_wp2_with fail
    go_ret
    exact ⟨ret_bool HF.out.symm, Below.refl _ _⟩

end Go.Proofs.YtcnmbolmgifgfabGreatDoor
