/- The test '==' of two entries, as an equation. -/
import Derived.Test.YtancidbbkoeokaaGreatEntL
import Derived.Laws.StructEq
namespace Go.Proofs.YtancidbbkoeokaaGreat
open Go.ChangeShapes Go.WideShapes Go.ChangeAt Go.RowKit Go.Deep

theorem tlE_inj {a b : ByteArray} : (a.toList == b.toList) = decide (a = b) := by
  by_cases h : a = b
  · subst h; simp
  · rw [decide_eq_false h]
    simp only [beq_eq_false_iff_ne, ne_eq]
    intro e
    apply h
    obtain ⟨⟨x⟩⟩ := a
    obtain ⟨⟨y⟩⟩ := b
    simpa using e
theorem run_sameE (k : Int) (p l : ByteArray) (m u g t : Int) (us gr b : ByteArray) (k' : Int) (p' l' : ByteArray) (m' u' g' t' : Int) (us' gr' b' : ByteArray) (w : World) :
    (Op.equalIn 10000 41 (.agg #[.int .i64 k, .string p, .string l, .int .i64 m, .int .i64 u, .int .i64 g, .int .i64 t, .string us, .string gr, .string b]) (.agg #[.int .i64 k', .string p', .string l', .int .i64 m', .int .i64 u', .int .i64 g', .int .i64 t', .string us', .string gr', .string b'])).run Tryz.prog w = .ok (decide ((⟨k, p, l, m, u, g, t, us, gr, b⟩ : Ent) = ⟨k', p', l', m', u', g', t', us', gr', b'⟩)) w := by
  have h1 : Tryz.prog.underlying 41 = some (.struct (Tryz.prog.fieldsOf 41)) := by kernel_rfl
  rw [show (10000 : Nat) = 9999 + 1 from rfl, run_equalIn_struct w 9999 _ _ _ h1 (by kernel_rfl)]
  simp only [Program.fieldsOf, Tryz.underlying41]
  simp [Op.eqFields, go_sem, Tryz.underlying3, Tryz.underlying9, tlE_inj]
  by_cases a0 : k = k'
  · rw [if_pos a0, decide_eq_true a0, Bool.true_and]
    by_cases a1 : p = p'
    · rw [if_pos a1, decide_eq_true a1, Bool.true_and]
      by_cases a2 : l = l'
      · rw [if_pos a2, decide_eq_true a2, Bool.true_and]
        by_cases a3 : m = m'
        · rw [if_pos a3, decide_eq_true a3, Bool.true_and]
          by_cases a4 : u = u'
          · rw [if_pos a4, decide_eq_true a4, Bool.true_and]
            by_cases a5 : g = g'
            · rw [if_pos a5, decide_eq_true a5, Bool.true_and]
              by_cases a6 : t = t'
              · rw [if_pos a6, decide_eq_true a6, Bool.true_and]
                by_cases a7 : us = us'
                · rw [if_pos a7, decide_eq_true a7, Bool.true_and]
                  by_cases a8 : gr = gr'
                  · rw [if_pos a8, decide_eq_true a8, Bool.true_and]
                    by_cases a9 : b = b'
                    · rw [if_pos a9, decide_eq_true a9]
                    · rw [if_neg a9, decide_eq_false a9]
                  · rw [if_neg a8, decide_eq_false a8, Bool.false_and]
                · rw [if_neg a7, decide_eq_false a7, Bool.false_and]
              · rw [if_neg a6, decide_eq_false a6, Bool.false_and]
            · rw [if_neg a5, decide_eq_false a5, Bool.false_and]
          · rw [if_neg a4, decide_eq_false a4, Bool.false_and]
        · rw [if_neg a3, decide_eq_false a3, Bool.false_and]
      · rw [if_neg a2, decide_eq_false a2, Bool.false_and]
    · rw [if_neg a1, decide_eq_false a1, Bool.false_and]
  · rw [if_neg a0, decide_eq_false a0, Bool.false_and]
end Go.Proofs.YtancidbbkoeokaaGreat
