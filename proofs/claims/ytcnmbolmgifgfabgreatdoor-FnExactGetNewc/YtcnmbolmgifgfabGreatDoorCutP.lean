/- Contract of strings.CutPrefix where the text is no shorter than what is cut. -/
import Derived.Test.YtcnmbolmgifgfabGreatDoorCom
import Derived.WalkSmall
import Derived.WalkLawsBesides
namespace Go.Proofs.YtcnmbolmgifgfabGreatDoor
open Go.ChangeShapes Go.WideShapes Go.ChangeAt Go.RowKit

theorem hasPre_any (s p : ByteArray) (w : World) (h : p.size ≤ s.size) :
    Calls Tryz.prog 77 #[.string s, .string p] w fun e w' => e = .returned (.bool ((s.extract 0 p.size).toList == p.toList)) ∧ w' = w := by
  have hS : ∀ w, (Instr.slice 9 (.string s) none (some (.int .i64 ((p.size : Nat) : Int))) none).run Tryz.prog w = .ok (.string (s.extract 0 p.size)) w := fun w => by
    have h1 := run_slice_string_h (P := Tryz.prog) (w := w) (t := 9) (s := s) Tryz.underlying9 .i64 ((p.size : Nat) : Int) (by omega) (by omega)
    rw [Int.toNat_natCast] at h1
    exact h1
  have h2 : ((p.size : Nat) : Int) ≤ (s.size : Int) := by omega
  go_enter Tryz.func77, Tryz.ntmps77
  go_wp2_with fail
  go_ret
  simp
theorem cutPre2_any (s p : ByteArray) (w : World) (h : p.size ≤ s.size) :
    Calls Tryz.prog 179 #[.string s, .string p] w fun e w' => e = .returned (.tuple #[.string (if (s.extract 0 p.size).toList == p.toList then s.extract p.size s.size else s), .bool ((s.extract 0 p.size).toList == p.toList)]) ∧ w' = w := by
  have hS : ∀ w, (Instr.slice 9 (.string s) (some (.int .i64 ((p.size : Nat) : Int))) none none).run Tryz.prog w = .ok (.string (s.extract p.size s.size)) w := fun w => by
    have h1 := run_slice_string_l (P := Tryz.prog) (w := w) (t := 9) (s := s) Tryz.underlying9 .i64 ((p.size : Nat) : Int) (by omega) (by omega)
    rw [Int.toNat_natCast] at h1
    exact h1
  have H := Lib.hid (fun w => hasPre_any s p w h)
  generalize ((s.extract 0 p.size).toList == p.toList) = b at H
  generalize s.extract p.size s.size = r at hS
  cases b with
  | true =>
    go_enter Tryz.func179, Tryz.ntmps179
    go_wp2_with fail
    refine (H.out _).mono ?_
    rintro e w1 ⟨rfl, rfl⟩
    go_wp2_with fail
    go_ret2
    simp
  | false =>
    go_enter Tryz.func179, Tryz.ntmps179
    go_wp2_with fail
    refine (H.out _).mono ?_
    rintro e w1 ⟨rfl, rfl⟩
    go_wp2_with fail
    go_ret2
    simp
theorem cutPre_any (s p : ByteArray) (w : World) (h : p.size ≤ s.size) :
    Calls Tryz.prog 144 #[.string s, .string p] w fun e w' => e = .returned (.tuple #[.string (if (s.extract 0 p.size).toList == p.toList then s.extract p.size s.size else s), .bool ((s.extract 0 p.size).toList == p.toList)]) ∧ w' = w := by
  have H := Lib.hid (fun w => cutPre2_any s p w h)
  generalize (if (s.extract 0 p.size).toList == p.toList then s.extract p.size s.size else s) = r at H ⊢
  generalize ((s.extract 0 p.size).toList == p.toList) = b at H ⊢
  go_enter Tryz.func144, Tryz.ntmps144
  go_wp2_with fail
  refine (H.out _).mono ?_
  rintro e w1 ⟨rfl, rfl⟩
  go_wp2_with fail
  go_ret2
  simp
end Go.Proofs.YtcnmbolmgifgfabGreatDoor
