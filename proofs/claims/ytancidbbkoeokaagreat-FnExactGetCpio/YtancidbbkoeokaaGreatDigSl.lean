/- One digit cut out of the strings of digits, as the program does it. -/
import Derived.Test.YtancidbbkoeokaaGreatDig
namespace Go.Proofs.YtancidbbkoeokaaGreat
theorem slice_dec (d : Int) (h0 : 0 ≤ d) (h : d < 10) (w : World) :
    (Instr.slice 9 (.string ⟨#[48, 49, 50, 51, 52, 53, 54, 55, 56, 57]⟩) (some (.int .i64 d)) (some (.int .i64 (d + 1))) none).run Tryz.prog w = .ok (.string ⟨#[dch d.toNat]⟩) w := by
  rw [run_slice_string (P := Tryz.prog) w 9 _ .i64 .i64 d (d + 1) Tryz.underlying9 h0 (by omega) (by show d + 1 ≤ 10; omega),
    show (d + 1).toNat = d.toNat + 1 by omega, decAt d.toNat (by omega)]
theorem slice_hex (d : Int) (h0 : 0 ≤ d) (h : d < 16) (w : World) :
    (Instr.slice 9 (.string ⟨#[48, 49, 50, 51, 52, 53, 54, 55, 56, 57, 97, 98, 99, 100, 101, 102]⟩) (some (.int .i64 d)) (some (.int .i64 (d + 1))) none).run Tryz.prog w = .ok (.string ⟨#[dch d.toNat]⟩) w := by
  rw [run_slice_string (P := Tryz.prog) w 9 _ .i64 .i64 d (d + 1) Tryz.underlying9 h0 (by omega) (by show d + 1 ≤ 16; omega),
    show (d + 1).toNat = d.toNat + 1 by omega, hexAt d.toNat (by omega)]
end Go.Proofs.YtancidbbkoeokaaGreat
