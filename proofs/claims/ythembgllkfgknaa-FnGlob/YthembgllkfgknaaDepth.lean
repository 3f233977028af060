/- Contracts of spec.Depth and impl.Depth, and the law laws.FnExactDepth. -/
import Derived.Test.YthembgllkfgknaaPathOk
namespace Go.Proofs.Ythembgllkfgknaa
open Go.RowKit Go.Shelf

def depthv (s : ByteArray) : Int := if pathOkv s then ((partsv s).length : Int) else 0

theorem depth_impl (s : ByteArray) (w : World) (hs : s.size ≤ 4194304) :
    Calls Try.prog 17 #[.string s] w fun e w' => e = .returned (.int .i64 (depthv s)) ∧ Below w.heap.size w w' := by
  have H1 := Lib.hid (fun w => pathOk_impl s w (by omega))
  have H2 := Lib.hid (fun w => Try.strings_Count_one s 47 w)
  have HD : Hid (depthv s = if pathOkv s then ((Lib.countByte s.data.toList 47 : Nat) : Int) + 1 else 0) := Lib.hid (by rw [depthv, partsv_len, Lib.countByte]; rfl)
  have hle : Lib.countByte s.data.toList 47 ≤ 4194305 := by
    have h := partsv_le s
    rw [partsv_len] at h
    rw [Lib.countByte]; omega
  generalize Lib.countByte s.data.toList 47 = k at H2 HD hle
  generalize pathOkv s = b at H1 HD
  generalize depthv s = d at HD
  cases b with
  | false =>
    go_enter Try.func17, Try.ntmps17
    go_wp2_with fail
    refine (H1.out _).mono ?_
    rintro e w1 ⟨rfl, hb1⟩
    go_wp2_with fail
    go_ret
    exact ⟨ret_int HD.out.symm, hb1⟩
  | true =>
    have hk2 : (k : Int) ≤ 4194305 := by omega
    go_enter Try.func17, Try.ntmps17
    go_wp2_with fail
    refine (H1.out _).mono ?_
    rintro e w1 ⟨rfl, hb1⟩
    go_wp2_with fail
    refine (H2.out _).mono ?_
    rintro e w2 ⟨rfl, rfl⟩
    go_wp2_with fail
    go_ret
    exact ⟨ret_int HD.out.symm, hb1⟩
end Go.Proofs.Ythembgllkfgknaa
