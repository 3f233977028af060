/- '==' and '!=' of two [4]int. -/
import Derived.Test.YtcnmbolmgifgfaaGetCdM
import Derived.Laws.StructEq
namespace Go.Proofs.Ytcnmbolmgifgfaa
theorem run_equalIn_int4 {P : Program} (w : World) (d : Nat) (t e : TypeId) (ht : P.underlying t = some (.array 4 e)) (he : P.underlying e = some (.int .i64)) (hsz : ∀ w, (sizeOf e).run P w = .ok 1 w) (a b c f x y z u : Int) :
    (Op.equalIn (d + 2) t (.agg #[.int .i64 a, .int .i64 b, .int .i64 c, .int .i64 f]) (.agg #[.int .i64 x, .int .i64 y, .int .i64 z, .int .i64 u])).run P w = .ok (decide (a = x) && (decide (b = y) && (decide (c = z) && decide (f = u)))) w := by
  rw [Op.equalIn]
  simp only [Sem.run_bind, run_underlying ht, Result.andThen_ok, hsz, Std.Legacy.Range.forIn_eq_forIn_range', Std.Legacy.Range.size, Nat.sub_zero, Nat.add_sub_cancel, Nat.div_one]
  have p0 : ∀ w (v0 v1 v2 v3 : Value), (part e #[v0, v1, v2, v3] 0).run P w = .ok v0 w := fun w _ _ _ _ => by simp [part, isAgg, run_underlying he]
  have p1 : ∀ w (v0 v1 v2 v3 : Value), (part e #[v0, v1, v2, v3] 1).run P w = .ok v1 w := fun w _ _ _ _ => by simp [part, isAgg, run_underlying he]
  have p2 : ∀ w (v0 v1 v2 v3 : Value), (part e #[v0, v1, v2, v3] 2).run P w = .ok v2 w := fun w _ _ _ _ => by simp [part, isAgg, run_underlying he]
  have p3 : ∀ w (v0 v1 v2 v3 : Value), (part e #[v0, v1, v2, v3] 3).run P w = .ok v3 w := fun w _ _ _ _ => by simp [part, isAgg, run_underlying he]
  have q : ∀ w a x, (Op.equalIn (d + 1) e (.int .i64 a) (.int .i64 x)).run P w = .ok (decide (a = x)) w := fun w a x => by
    rw [run_equalIn_int _ d e .i64 .i64 _ _ he]
    rfl
  rw [show List.range' 0 4 1 = [0, 1, 2, 3] from rfl]
  simp only [List.forIn_cons, List.forIn_nil, Sem.run_bind, Nat.mul_one, p0, q, Result.andThen_ok]
  generalize decide (a = x) = d0
  cases d0
  · simp
  · simp only [Bool.not_true, Bool.false_eq_true, if_false, Sem.run_pure, Sem.run_bind, Result.andThen_ok, p1, q]
    generalize decide (b = y) = d1
    cases d1
    · simp
    · simp only [Bool.not_true, Bool.false_eq_true, if_false, Sem.run_pure, Sem.run_bind, Result.andThen_ok, p2, q]
      generalize decide (c = z) = d2
      cases d2
      · simp
      · simp only [Bool.not_true, Bool.false_eq_true, if_false, Sem.run_pure, Sem.run_bind, Result.andThen_ok, p3, q]
        generalize decide (f = u) = d3
        cases d3 <;> simp
theorem ne_zeros4 (a b c f : Int) (w : World) : (binOp .neq 47 (.agg #[.int .i64 a, .int .i64 b, .int .i64 c, .int .i64 f]) (.agg #[.int .i64 0, .int .i64 0, .int .i64 0, .int .i64 0])).run Try.prog w = .ok (.bool (!(decide (a = 0) && (decide (b = 0) && (decide (c = 0) && decide (f = 0)))))) w := by
  rw [run_neq_struct, run_equalIn_int4 w 9998 47 3 Try.underlying47 Try.underlying3 (fun w => by go_simp) a b c f 0 0 0 0]
  rfl
end Go.Proofs.Ytcnmbolmgifgfaa
