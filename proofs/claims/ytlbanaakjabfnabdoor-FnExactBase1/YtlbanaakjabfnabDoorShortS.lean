/- Contracts of spec.l05Short and impl.shortLink. -/
import Derived.Test.YtlbanaakjabfnabDoorBase1M
import Derived.Test.YtlbanaakjabfnabDoorClone
namespace Go.Proofs.YtlbanaakjabfnabDoor
open Go.ChangeShapes Go.WideShapes Go.ChangeAt Go.RowKit Go.Deep


set_option maxHeartbeats 1600000 in
theorem short_spec (k : Int) (p l : ByteArray) (m u g t : Int) (us gr b : ByteArray) (w : World) (hl : l.size ≤ 4194304) (h100 : ¬ k = 3 → 100 < l.size) :
    Calls Tryd.prog 20 #[.agg #[.int .i64 k, .string p, .string l, .int .i64 m, .int .i64 u, .int .i64 g, .int .i64 t, .string us, .string gr, .string b]] w fun e w' => e = .returned (.string (shortv k p l)) ∧ Below w.heap.size w w' := by
  have HV : Hid (shortv k p l = if k ≠ 3 then l.extract 0 100 else if basev l ≠ p then basev l else if p ≠ ⟨#[120]⟩ then ⟨#[120]⟩ else ⟨#[121]⟩) := Lib.hid rfl
  generalize shortv k p l = r at HV
  have H3 := Lib.hid (fun w => base_spec l w (by omega))
  have B0 : Hid (Below w.heap.size w (w.alloc (.cells (Ent.cells ⟨k, p, l, m, u, g, t, us, gr, b⟩).toArray 25))) := Lib.hid ((Below.refl _ _).alloc (Nat.le_refl _) _)
  by_cases hk : k = 3
  · have hq : (k == 3) = true := by simp [hk]
    have hq2 : (k != 3) = false := by simp [hk]
    have HF : Hid (r = if basev l ≠ p then basev l else if p ≠ ⟨#[120]⟩ then ⟨#[120]⟩ else ⟨#[121]⟩) := Lib.hid (by rw [HV.out, if_neg (by simp [hk])])
    clear HV h100 hk
    generalize basev l = bl at H3 HF
    go_enter Tryd.func20, Tryd.ntmps20
    go_wp2_with fail
    refine (H3.out _).mono ?_
    rintro e w1 ⟨rfl, hw⟩
    have hb : Below (w.alloc (.cells (Ent.cells ⟨k, p, l, m, u, g, t, us, gr, b⟩).toArray 25)).heap.size (w.alloc (.cells (Ent.cells ⟨k, p, l, m, u, g, t, us, gr, b⟩).toArray 25)) w1 := by rw [← hw]; exact Below.refl _ _
    clear hw
    obtain ⟨k1, b1, z1⟩ := one_new (e1 := ⟨k, p, l, m, u, g, t, us, gr, b⟩) hb
    have B := Lib.hid b1
    obtain ⟨c0, c1, c2, c3, c4, c5, c6, c7, c8, c9⟩ := k1.zero
    clear hb k1 b1
    by_cases h1 : bl = p
    · have q1 := ba_eq h1
      by_cases h2 : p = ⟨#[120]⟩
      · have q2 := lit_eq (l := [120]) h2
        have q3 := lit_eq (l := [120]) (h1.trans h2)
        have HG : Hid (r = ⟨#[121]⟩) := Lib.hid (by rw [HF.out, if_neg (by simp [h1]), if_neg (by simp [h2])])
        clear h1 h2
        go_wp2_with fail
        go_ret
        exact ⟨ret_str HG.out.symm, B.out⟩
      · have q2 := lit_ne (l := [120]) h2
        have q3 := lit_ne (l := [120]) (fun e => h2 (h1.symm.trans e))
        have HG : Hid (r = ⟨#[120]⟩) := Lib.hid (by rw [HF.out, if_neg (by simp [h1]), if_pos h2])
        clear h1 h2
        go_wp2_with fail
        go_ret
        exact ⟨ret_str HG.out.symm, B.out⟩
    · have q1 := ba_ne h1
      have HG : Hid (r = bl) := Lib.hid (by rw [HF.out, if_pos h1])
      clear h1
      go_wp2_with fail
      go_ret
      exact ⟨ret_str HG.out.symm, B.out⟩
  · have hq : (k == 3) = false := by simp [hk]
    have hq2 : (k != 3) = true := by simp [hk]
    have HF : Hid (r = l.extract 0 100) := Lib.hid (by rw [HV.out, if_pos hk])
    have hl1 := h100 hk
    have hl2 : (100 : Int) ≤ (l.size : Int) := by omega
    clear HV h100 hk
    go_enter Tryd.func20, Tryd.ntmps20
    go_wp2_with fail
    go_ret
    exact ⟨ret_str HF.out.symm, B0.out⟩

set_option maxHeartbeats 1600000 in
theorem short_impl (k : Int) (p l : ByteArray) (m u g t : Int) (us gr b : ByteArray) (w : World) (hl : l.size ≤ 4194304) (h100 : ¬ k = 3 → 100 < l.size) :
    Calls Tryd.prog 26 #[.agg #[.int .i64 k, .string p, .string l, .int .i64 m, .int .i64 u, .int .i64 g, .int .i64 t, .string us, .string gr, .string b]] w fun e w' => e = .returned (.string (shortv k p l)) ∧ Below w.heap.size w w' := by
  have HV : Hid (shortv k p l = if k ≠ 3 then l.extract 0 100 else if basev l ≠ p then basev l else if p ≠ ⟨#[120]⟩ then ⟨#[120]⟩ else ⟨#[121]⟩) := Lib.hid rfl
  generalize shortv k p l = r at HV
  have H3 := Lib.hid (fun w => base_impl l w (by omega))
  have B0 : Hid (Below w.heap.size w (w.alloc (.cells (Ent.cells ⟨k, p, l, m, u, g, t, us, gr, b⟩).toArray 25))) := Lib.hid ((Below.refl _ _).alloc (Nat.le_refl _) _)
  by_cases hk : k = 3
  · have hq : (k == 3) = true := by simp [hk]
    have hq2 : (k != 3) = false := by simp [hk]
    have HF : Hid (r = if basev l ≠ p then basev l else if p ≠ ⟨#[120]⟩ then ⟨#[120]⟩ else ⟨#[121]⟩) := Lib.hid (by rw [HV.out, if_neg (by simp [hk])])
    clear HV h100 hk
    generalize basev l = bl at H3 HF
    go_enter Tryd.func26, Tryd.ntmps26
    go_wp2_with fail
    refine (H3.out _).mono ?_
    rintro e w1 ⟨rfl, hb⟩
    obtain ⟨k1, b1, z1⟩ := one_new (e1 := ⟨k, p, l, m, u, g, t, us, gr, b⟩) hb
    have B := Lib.hid b1
    obtain ⟨c0, c1, c2, c3, c4, c5, c6, c7, c8, c9⟩ := k1.zero
    clear hb k1 b1
    by_cases h1 : bl = p
    · have q1 := ba_eq h1
      by_cases h2 : p = ⟨#[120]⟩
      · have q2 := lit_eq (l := [120]) h2
        have q3 := lit_eq (l := [120]) (h1.trans h2)
        have HG : Hid (r = ⟨#[121]⟩) := Lib.hid (by rw [HF.out, if_neg (by simp [h1]), if_neg (by simp [h2])])
        clear h1 h2
        go_wp2_with fail
        go_ret
        exact ⟨ret_str HG.out.symm, B.out⟩
      · have q2 := lit_ne (l := [120]) h2
        have q3 := lit_ne (l := [120]) (fun e => h2 (h1.symm.trans e))
        have HG : Hid (r = ⟨#[120]⟩) := Lib.hid (by rw [HF.out, if_neg (by simp [h1]), if_pos h2])
        clear h1 h2
        go_wp2_with fail
        go_ret
        exact ⟨ret_str HG.out.symm, B.out⟩
    · have q1 := ba_ne h1
      have HG : Hid (r = bl) := Lib.hid (by rw [HF.out, if_pos h1])
      clear h1
      go_wp2_with fail
      go_ret
      exact ⟨ret_str HG.out.symm, B.out⟩
  · have hq : (k == 3) = false := by simp [hk]
    have hq2 : (k != 3) = true := by simp [hk]
    have HF : Hid (r = l.extract 0 100) := Lib.hid (by rw [HV.out, if_pos hk])
    have hl1 := h100 hk
    have hl2 : (100 : Int) ≤ (l.size : Int) := by omega
    clear HV h100 hk
    have KC := Lib.hid (fun w => clone_any (l.extract 0 100) w (by simp; omega))
    go_enter Tryd.func26, Tryd.ntmps26
    go_wp2_with fail
    refine (KC.out _).mono ?_
    rintro e w1 ⟨rfl, hb⟩
    have B := Lib.hid (one_new (e1 := ⟨k, p, l, m, u, g, t, us, gr, b⟩) hb).2.1
    clear hb
    go_wp2_with fail
    go_ret
    exact ⟨ret_str HF.out.symm, B.out⟩
end Go.Proofs.YtlbanaakjabfnabDoor
