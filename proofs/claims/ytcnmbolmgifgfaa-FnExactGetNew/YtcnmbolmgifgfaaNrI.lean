/- The steps of the reader of a card with hexadecimal numbers. -/
import Derived.Test.YtcnmbolmgifgfaaNrO
namespace Go.Proofs.Ytcnmbolmgifgfaa
open Go.ChangeShapes Go.WideShapes Go.ChangeAt Go.RowKit Go.Deep

theorem str_ne {a b : ByteArray} (h : ¬ a = b) : (a.toList == b.toList) = false := by
  simp only [beq_eq_false_iff_ne, ne_eq]
  intro e
  apply h
  rw [ba_toList, ba_toList] at e
  exact ba_ext e
set_option maxHeartbeats 1600000 in
set_option maxRecDepth 8000 in
theorem takeMagic_any (g : Nat) (x : Nr) (w : World) (h : NrO w g x) (hr : 6 ≤ x.rest.size) :
    Calls Try.prog 32 #[.pointer (some ⟨g, 0, none⟩)] w fun e w' => e = .returned (.int .i64 (if x.rest.extract 0 6 = mgN x.crc then 0 else 4)) ∧ NrO w' g (if x.rest.extract 0 6 = mgN x.crc then { x with rest := x.rest.extract 6 x.rest.size } else x) ∧ Below g w w' := by
  have c15 := h.cell 15 (.bool x.crc) rfl
  have c16 := h.cell 16 (.string x.rest) rfl
  have z16 := h.fz 16
  have HN := Lib.hid (fun r w' (h' : NrO w' g x) => h'.set (y := { x with rest := r }) 16 (.string r) rfl)
  have HX := Lib.hid h
  have HP := Lib.hid (fun w => cutPre_any x.rest (mgN x.crc) w (by rw [mgN_size]; omega))
  rw [mgN_size] at HP
  have HM := Lib.hid (fun w => magicN_any x.crc w)
  clear h hr
  by_cases hq : x.rest.extract 0 6 = mgN x.crc
  · rw [if_pos hq, if_pos hq]
    rw [hq, show ((mgN x.crc).toList == (mgN x.crc).toList) = true from by simp, if_pos rfl] at HP
    clear hq
    generalize mgN x.crc = mg at *
    generalize x.rest.extract 6 x.rest.size = r2 at *
    generalize x.rest = r at *
    generalize x.crc = cr at *
    go_enter Try.func32, Try.ntmps32
    go_upto_region 1 with fail
    go_quiet (first | (go_at_call 53; refine Calls.quiet_of_same ((HM.out _).mono (fun e w' h => ⟨h.1, h.2⟩))) | (go_at_call 43; refine Calls.quiet_of_same ((HP.out _).mono (fun e w' h => ⟨h.1, h.2⟩))))
    obtain ⟨wq, hwq⟩ : ∃ y, y = w.drewN nq := ⟨_, rfl⟩
    have B : Below g w wq := by rw [hwq]; exact bel_drew (Below.refl _ _)
    have X2 : NrO wq g x := by rw [hwq]; exact HX.out
    have HN2 := Lib.hid (HN.out r2 wq X2)
    replace c15 := X2.cell 15 (.bool x.crc) rfl
    replace c16 := X2.cell 16 (.string x.rest) rfl
    replace z16 := X2.fz 16
    rw [← hwq]
    clear hwq X2 HN HX HP HM
    go_wp2_with fail
    go_ret
    exact ⟨rfl, HN2.out, nr_set B _ _⟩
  · rw [if_neg hq, if_neg hq]
    rw [str_ne hq, if_neg (by simp)] at HP
    clear hq HN
    generalize mgN x.crc = mg at *
    generalize x.rest = r at *
    generalize x.crc = cr at *
    go_enter Try.func32, Try.ntmps32
    go_upto_region 1 with fail
    go_quiet (first | (go_at_call 53; refine Calls.quiet_of_same ((HM.out _).mono (fun e w' h => ⟨h.1, h.2⟩))) | (go_at_call 43; refine Calls.quiet_of_same ((HP.out _).mono (fun e w' h => ⟨h.1, h.2⟩))))
    obtain ⟨wq, hwq⟩ : ∃ y, y = w.drewN nq := ⟨_, rfl⟩
    have B : Below g w wq := by rw [hwq]; exact bel_drew (Below.refl _ _)
    have X2 : NrO wq g x := by rw [hwq]; exact HX.out
    rw [← hwq]
    clear hwq HX HP HM
    go_wp2_with fail
    go_ret
    exact ⟨rfl, X2, B⟩
end Go.Proofs.Ytcnmbolmgifgfaa
