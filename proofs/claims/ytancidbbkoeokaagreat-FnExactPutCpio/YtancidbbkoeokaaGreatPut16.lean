/- Contracts of spec.Put16, impl.putWord[uint16], impl.Put16 and the law laws.FnExactPut16: for every int and both byte orders. -/
import Derived.Test.YtancidbbkoeokaaGreatWord
import Derived.Laws.BytesArg
namespace Go.Proofs.YtancidbbkoeokaaGreat
open Go.ChangeShapes Go.WideShapes Go.ChangeAt Go.RowKit

theorem i64_and65535 (n : Int) : bits .and .i64 n 65535 = n % 65536 := by
  have h : (BitVec.ofInt 64 65535).toNat = 2 ^ 16 - 1 := by decide
  have key : (BitVec.ofInt 64 n &&& BitVec.ofInt 64 65535).toNat = (n % ((2 ^ 64 : Nat) : Int)).toNat % 2 ^ 16 := by
    rw [BitVec.toNat_and, BitVec.toNat_ofInt, h, Nat.and_two_pow_sub_one_eq_mod]
  show IntKind.i64.wrap ((BitVec.ofInt 64 n &&& BitVec.ofInt 64 65535).toNat : Nat) = n % 65536
  rw [key, IntKind.wrap_i64]
  omega

def put16l (n : Int) (high : Bool) : List Int := if high then [n / 256 % 256, n % 256] else [n % 256, n / 256 % 256]
def put16v (n : Int) (high : Bool) : ByteArray := strOfNums (put16l n high)

theorem conv2 (w : World) (x y : Int) : (convert 66 9 (.slice (some ⟨w.heap.size, 0, none⟩) 2 2)).run Tryz.prog (w.alloc (.cells #[.int .u8 x, .int .u8 y] 5)) = .ok (.string (strOfNums [x, y])) (w.alloc (.cells #[.int .u8 x, .int .u8 y] 5)) :=
  run_convert_bytes_arg _ 66 5 Tryz.underlying66 Tryz.underlying5 w.heap.size 0 2 2 [x, y] rfl (fun i hi => by
    match i, hi with
    | 0, _ => simp
    | 1, _ => simp) 9 Tryz.underlying9
theorem conv2b (w : World) (x y : Int) (o : Obj) : (convert 66 9 (.slice (some ⟨w.heap.size, 0, none⟩) 2 2)).run Tryz.prog ((w.alloc (.cells #[.int .u8 x, .int .u8 y] 5)).alloc o) = .ok (.string (strOfNums [x, y])) ((w.alloc (.cells #[.int .u8 x, .int .u8 y] 5)).alloc o) :=
  run_convert_bytes_arg _ 66 5 Tryz.underlying66 Tryz.underlying5 w.heap.size 0 2 2 [x, y] rfl (fun i hi => by
    match i, hi with
    | 0, _ => simp
    | 1, _ => simp) 9 Tryz.underlying9

theorem put16_spec (n : Int) (high : Bool) (w : World) :
    Calls Tryz.prog 34 #[.int .i64 n, .bool high] w fun e w' => e = .returned (.string (put16v n high)) ∧ Below w.heap.size w w' := by
  have hcv := conv2 w
  have hm : bits BinOp.and IntKind.i64 n 65535 = n % 65536 := i64_and65535 n
  have h0 : 0 ≤ n % 65536 := by omega
  have h1 : n % 65536 < 65536 := by omega
  cases high
  · go_enter Tryz.func34, Tryz.ntmps34
    go_wp2
    go_ret
    refine ⟨ret_str ?_, (Below.refl _ _).alloc (Nat.le_refl _) _⟩
    simp only [put16v, put16l]
    congr 1
    simp; omega
  · go_enter Tryz.func34, Tryz.ntmps34
    go_wp2
    go_ret
    refine ⟨ret_str ?_, (Below.refl _ _).alloc (Nat.le_refl _) _⟩
    simp only [put16v, put16l]
    congr 1
    simp; omega

theorem word16_put (n : Int) (high : Bool) (w : World) (h0 : 0 ≤ n) (h1 : n ≤ 65535) :
    Calls Tryz.prog 51 #[.int .u16 n, .bool high] w fun e w' => e = .returned (.string (put16v n high)) ∧ Below w.heap.size w w' := by
  have hmk : ∀ w, (Instr.makeSlice 66 (.int .i64 0) (.int .i64 2)).run Tryz.prog w = .ok (.slice (some ⟨w.heap.size, 0, none⟩) 0 2) (w.alloc (.cells #[.int .u8 0, .int .u8 0] 5)) := fun _ => by kernel_rfl
  have hcv := conv2b w
  cases high
  all_goals
    go_enter Tryz.func51, Tryz.ntmps51
    go_wp2_with (go_at_call 74; refine (size16 _).mono ?_; rintro e w' ⟨rfl, rfl⟩)
    refine wp_loop_rounds 2 ?_
    rw [rounds_succ]
    go_wp2
    rw [rounds_succ]
    go_wp2
    go_ret
    refine ⟨ret_str ?_, ((Below.refl _ _).alloc (Nat.le_refl _) _).alloc (by simp) _⟩
    simp only [put16v, put16l]
    congr 1
    simp; omega

theorem put16_impl (n : Int) (high : Bool) (w : World) :
    Calls Tryz.prog 27 #[.int .i64 n, .bool high] w fun e w' => e = .returned (.string (put16v n high)) ∧ Below w.heap.size w w' := by
  have e : put16v (n % 65536) high = put16v n high := by
    simp only [put16v]; congr 1; cases high <;> (simp [put16l]; omega)
  rw [← e]
  have HE := Lib.hid e
  clear e
  have hw : IntKind.u16.wrap n = n % 65536 := IntKind.wrap_u16 n
  go_enter Tryz.func27, Tryz.ntmps27
  go_wp2_with fail
  refine (word16_put _ _ _ (by omega) (by omega)).mono ?_
  rintro e w' ⟨rfl, hb⟩
  go_wp2_with fail
  go_ret
  exact ⟨rfl, hb⟩

end Go.Proofs.YtancidbbkoeokaaGreat
