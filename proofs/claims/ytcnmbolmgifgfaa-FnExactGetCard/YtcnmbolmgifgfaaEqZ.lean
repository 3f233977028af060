/- '==' of two [2]int. -/
import Derived.Test.YtcnmbolmgifgfaaGetCdM
import Derived.Laws.StructEq
namespace Go.Proofs.Ytcnmbolmgifgfaa
theorem run_equalIn_int2 {P : Program} (w : World) (d : Nat) (t e : TypeId) (ht : P.underlying t = some (.array 2 e)) (he : P.underlying e = some (.int .i64)) (hsz : ∀ w, (sizeOf e).run P w = .ok 1 w) (a b x y : Int) :
    (Op.equalIn (d + 2) t (.agg #[.int .i64 a, .int .i64 b]) (.agg #[.int .i64 x, .int .i64 y])).run P w = .ok (decide (a = x) && decide (b = y)) w := by
  rw [Op.equalIn]
  simp only [Sem.run_bind, run_underlying ht, Result.andThen_ok, hsz, Std.Legacy.Range.forIn_eq_forIn_range', Std.Legacy.Range.size, Nat.sub_zero, Nat.add_sub_cancel, Nat.div_one]
  have p0 : ∀ w u v, (part e #[u, v] 0).run P w = .ok u w := fun w u v => by simp [part, isAgg, run_underlying he]
  have p1 : ∀ w u v, (part e #[u, v] 1).run P w = .ok v w := fun w u v => by simp [part, isAgg, run_underlying he]
  have q : ∀ w a x, (Op.equalIn (d + 1) e (.int .i64 a) (.int .i64 x)).run P w = .ok (decide (a = x)) w := fun w a x => by
    rw [run_equalIn_int _ d e .i64 .i64 _ _ he]
    rfl
  rw [show List.range' 0 2 1 = [0, 1] from rfl]
  simp only [List.forIn_cons, List.forIn_nil, Sem.run_bind, Nat.zero_mul, Nat.one_mul, p0, q, Result.andThen_ok]
  generalize decide (a = x) = u
  cases u
  · simp
  · simp only [Bool.not_true, Bool.false_eq_true, if_false, Sem.run_pure, Sem.run_bind, Result.andThen_ok, p1, q]
    generalize decide (b = y) = v
    cases v <;> simp
theorem eq_zeros (a b : Int) (w : World) : (binOp .eql 64 (.agg #[.int .i64 a, .int .i64 b]) (.agg #[.int .i64 0, .int .i64 0])).run Try.prog w = .ok (.bool (decide (a = 0) && decide (b = 0))) w := by
  rw [run_eql_struct, run_equalIn_int2 w 9998 64 3 Try.underlying64 Try.underlying3 (fun w => by go_simp) a b 0 0]
  rfl
end Go.Proofs.Ytcnmbolmgifgfaa
