/- Contracts of spec.SameEntry and impl.SameEntry, and the law laws.FnExactSameEntry. -/
import Derived.Test.YtlbkojiengofeaaEntW
namespace Go.Proofs.Ytlbkojiengofeaa
open Go.ChangeShapes Go.WideShapes Go.ChangeAt Go.RowKit

theorem tl_inj {a b : ByteArray} : a.toList = b.toList ↔ a = b := by
  constructor
  · intro h
    obtain ⟨⟨x⟩⟩ := a
    obtain ⟨⟨y⟩⟩ := b
    simpa using h
  · intro h; rw [h]
theorem sameEntry_spec (k : Int) (p l : ByteArray) (m u g t : Int) (us gr b : ByteArray) (k' : Int) (p' l' : ByteArray) (m' u' g' t' : Int) (us' gr' b' : ByteArray) (w : World) :
    Calls Try.prog 21 #[.agg #[.int .i64 k, .string p, .string l, .int .i64 m, .int .i64 u, .int .i64 g, .int .i64 t, .string us, .string gr, .string b], .agg #[.int .i64 k', .string p', .string l', .int .i64 m', .int .i64 u', .int .i64 g', .int .i64 t', .string us', .string gr', .string b']] w fun e w' => e = .returned (.bool (decide ((⟨k, p, l, m, u, g, t, us, gr, b⟩ : Ent) = (⟨k', p', l', m', u', g', t', us', gr', b'⟩ : Ent)))) ∧ Below w.heap.size w w' := by
  go_enter Try.func21, Try.ntmps21
  go_wp2_with fail
  all_goals
    go_ret
    refine ⟨ret_bool ?_, ((Below.refl _ w).alloc (Nat.le_refl _) _).alloc (by simp) _⟩
    try simp only [tl_inj] at *
    symm
    simp_all
theorem sameEntry_impl (k : Int) (p l : ByteArray) (m u g t : Int) (us gr b : ByteArray) (k' : Int) (p' l' : ByteArray) (m' u' g' t' : Int) (us' gr' b' : ByteArray) (w : World) :
    Calls Try.prog 22 #[.agg #[.int .i64 k, .string p, .string l, .int .i64 m, .int .i64 u, .int .i64 g, .int .i64 t, .string us, .string gr, .string b], .agg #[.int .i64 k', .string p', .string l', .int .i64 m', .int .i64 u', .int .i64 g', .int .i64 t', .string us', .string gr', .string b']] w fun e w' => e = .returned (.bool (decide ((⟨k, p, l, m, u, g, t, us, gr, b⟩ : Ent) = (⟨k', p', l', m', u', g', t', us', gr', b'⟩ : Ent)))) ∧ Below w.heap.size w w' := by
  go_enter Try.func22, Try.ntmps22
  go_wp2_with fail
  all_goals
    go_ret
    refine ⟨ret_bool ?_, ((Below.refl _ w).alloc (Nat.le_refl _) _).alloc (by simp) _⟩
    try simp only [tl_inj] at *
    symm
    simp_all
end Go.Proofs.Ytlbkojiengofeaa
