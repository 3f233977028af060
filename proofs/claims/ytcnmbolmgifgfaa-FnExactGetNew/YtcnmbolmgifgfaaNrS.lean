/- Contract of impl.newcReader.judgeSum. -/
import Derived.Test.YtcnmbolmgifgfaaNrI
namespace Go.Proofs.Ytcnmbolmgifgfaa
open Go.ChangeShapes Go.WideShapes Go.ChangeAt Go.RowKit Go.Deep

set_option maxHeartbeats 3200000 in
set_option maxRecDepth 8000 in
theorem judgeSum_any (g : Nat) (x : Nr) (w : World) (h : NrO w g x) (hz : x.da.size ≤ 4194304) :
    Calls Try.prog 36 #[.pointer (some ⟨g, 0, none⟩)] w fun e w' => e = .returned (.int .i64 (if x.sm = sumN x.crc x.da then 0 else 2)) ∧ NrO w' g x ∧ Below g w w' := by
  have HSm := Lib.hid (fun w => sumC_any x.da x.crc w hz)
  have HX := Lib.hid h
  have c14 := h.cell 14 (.int .i64 x.sm) rfl
  have c7 := h.cell 7 (.string x.da) rfl
  have c15 := h.cell 15 (.bool x.crc) rfl
  clear h hz
  by_cases hc : x.sm = sumN x.crc x.da
  · rw [if_pos hc]
    have e1 : (x.sm != sumN x.crc x.da) = false := by simpa using hc
    clear hc
    generalize sumN x.crc x.da = sv at *
    generalize x.sm = m at *
    generalize x.da = dd at *
    generalize x.crc = cr at *
    go_enter Try.func36, Try.ntmps36
    go_upto_region 1 with fail
    go_quiet ((go_at_call 58; refine Calls.quiet_of_same ((HSm.out _).mono (fun e w' h => ⟨h.1, h.2⟩))))
    go_wp2_with fail
    go_ret
    exact ⟨rfl, HX.out, bel_drew (Below.refl _ _)⟩
  · rw [if_neg hc]
    have e1 : (x.sm != sumN x.crc x.da) = true := by simpa using hc
    clear hc
    generalize sumN x.crc x.da = sv at *
    generalize x.sm = m at *
    generalize x.da = dd at *
    generalize x.crc = cr at *
    go_enter Try.func36, Try.ntmps36
    go_upto_region 1 with fail
    go_quiet ((go_at_call 58; refine Calls.quiet_of_same ((HSm.out _).mono (fun e w' h => ⟨h.1, h.2⟩))))
    go_wp2_with fail
    go_ret
    exact ⟨rfl, HX.out, bel_drew (Below.refl _ _)⟩
end Go.Proofs.Ytcnmbolmgifgfaa
