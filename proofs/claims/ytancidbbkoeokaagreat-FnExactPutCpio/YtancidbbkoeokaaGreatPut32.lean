/- Contracts of spec.Put32, impl.putWord[uint32], impl.Put32 and the law laws.FnExactPut32: for every int and both byte orders. -/
import Derived.Test.YtancidbbkoeokaaGreatPut16
namespace Go.Proofs.YtancidbbkoeokaaGreat
open Go.ChangeShapes Go.WideShapes Go.ChangeAt Go.RowKit

def put32v (n : Int) (high : Bool) : ByteArray := strOfNums (put16l (n / 65536) high ++ put16l n high)
theorem strOfNums_append (a b : List Int) : strOfNums a ++ strOfNums b = strOfNums (a ++ b) := by
  apply ByteArray.ext
  simp [strOfNums]

theorem conv4c (w : World) (a b c d : Int) (o p : Obj) : (convert 66 9 (.slice (some ⟨w.heap.size, 0, none⟩) 4 4)).run Tryz.prog (((w.alloc (.cells #[.int .u8 a, .int .u8 b, .int .u8 c, .int .u8 d] 5)).alloc o).alloc p) = .ok (.string (strOfNums [a, b, c, d])) (((w.alloc (.cells #[.int .u8 a, .int .u8 b, .int .u8 c, .int .u8 d] 5)).alloc o).alloc p) :=
  run_convert_bytes_arg _ 66 5 Tryz.underlying66 Tryz.underlying5 w.heap.size 0 4 4 [a, b, c, d] rfl (fun i hi => by
    match i, hi with
    | 0, _ => go_simp
    | 1, _ => go_simp
    | 2, _ => go_simp
    | 3, _ => go_simp) 9 Tryz.underlying9

theorem word32_put (n : Int) (high : Bool) (w : World) (h0 : 0 ≤ n) (h1 : n ≤ 4294967295) :
    Calls Tryz.prog 141 #[.int .u32 n, .bool high] w fun e w' => e = .returned (.string (put32v n high)) ∧ Below w.heap.size w w' := by
  have hmk : ∀ w, (Instr.makeSlice 66 (.int .i64 0) (.int .i64 4)).run Tryz.prog w = .ok (.slice (some ⟨w.heap.size, 0, none⟩) 0 4) (w.alloc (.cells #[.int .u8 0, .int .u8 0, .int .u8 0, .int .u8 0] 5)) := fun _ => by kernel_rfl
  have hcv := conv4c w
  cases high
  all_goals
    go_enter Tryz.func141, Tryz.ntmps141
    go_wp2_with (go_at_call 142; refine (size32 _).mono ?_; rintro e w' ⟨rfl, rfl⟩)
    refine wp_loop_rounds 3 ?_
    rw [rounds_succ]
    go_wp2
    rw [rounds_succ]
    go_wp2
    rw [rounds_succ]
    go_wp2
    go_ret
    refine ⟨ret_str ?_, (((Below.refl _ _).alloc (Nat.le_refl _) _).alloc (by simp) _).alloc (by simp; omega) _⟩
    simp only [put32v, put16l]
    congr 1
    simp; omega

theorem put32_impl (n : Int) (high : Bool) (w : World) :
    Calls Tryz.prog 140 #[.int .i64 n, .bool high] w fun e w' => e = .returned (.string (put32v n high)) ∧ Below w.heap.size w w' := by
  have e : put32v (n % 4294967296) high = put32v n high := by
    simp only [put32v]; congr 1; cases high <;> (simp [put16l]; omega)
  rw [← e]
  have HE := Lib.hid e
  clear e
  have hw : IntKind.u32.wrap n = n % 4294967296 := IntKind.wrap_u32 n
  go_enter Tryz.func140, Tryz.ntmps140
  go_wp2_with fail
  refine (word32_put _ _ _ (by omega) (by omega)).mono ?_
  rintro e w' ⟨rfl, hb⟩
  go_wp2_with fail
  go_ret
  exact ⟨rfl, hb⟩

theorem put16v_size (n : Int) (high : Bool) : (put16v n high).size ≤ 2 := by
  rw [put16v, strOfNums_size]; cases high <;> simp [put16l]

theorem put32_spec (n : Int) (high : Bool) (w : World) :
    Calls Tryz.prog 35 #[.int .i64 n, .bool high] w fun e w' => e = .returned (.string (put32v n high)) ∧ Below w.heap.size w w' := by
  have hs1 := put16v_size (n / 65536) high
  have hs2 := put16v_size n high
  go_enter Tryz.func35, Tryz.ntmps35
  go_wp2_with fail
  refine (put16_spec _ _ _).mono ?_
  rintro e w1 ⟨rfl, b1⟩
  go_wp2_with fail
  refine (put16_spec _ _ _).mono ?_
  rintro e w2 ⟨rfl, b2⟩
  go_wp2_with fail
  go_ret
  refine ⟨ret_str ?_, b1.trans (b2.mono b1.size)⟩
  exact strOfNums_append _ _

end Go.Proofs.YtancidbbkoeokaaGreat
