/- Contract of internal/strconv.formatBits at the bases 8 and 16, for numbers of 0 to 2^53 - 1: the numeral. -/
import Derived.Test.YtancidbbkoeokaaGreatDoorFmtArr
namespace Go.Proofs.YtancidbbkoeokaaGreatDoor
open Go.ChangeShapes Go.WideShapes Go.ChangeAt Go.RowKit

theorem slice65 (b p : Nat) (W : World) (hp : p < 65) : (Instr.sliceAt 177 (.pointer (some ⟨b, 0, none⟩)) (some (.int .i64 (p : Int))) none none).run Tryz.prog W = .ok (.slice (some ⟨b, p, none⟩) (65 - p) (65 - p)) W := by
  have hal : Tryz.prog.arrayLen 177 = 65 := by kernel_rfl
  have hel : Tryz.prog.elem 177 = 5 := by kernel_rfl
  have hsz : (sizeOf 5).run Tryz.prog W = .ok 1 W := by kernel_rfl
  rw [run_sliceAt_array_l W 177 ⟨b, 0, none⟩ (by kernel_rfl) .i64 (p : Int) (by omega) (by rw [hal]; omega), hal, hel, hsz]
  simp only [Result.andThen, slicedAt, Int.toNat_natCast]
  rw [if_neg (by omega)]
  have e : (⟨b, 0, none⟩ : Addr).add (p * 1) = ⟨b, p, none⟩ := by unfold Addr.add; split <;> simp_all
  rw [e]
theorem wraps_u63 (n : Int) (h₀ : 0 ≤ n) (h₁ : n < 2 ^ 63) : IntKind.u64.wrap n = n := by rw [IntKind.wrap_u64]; omega
theorem numeral_step {b u : Nat} {x : Nat} {l : List UInt8} (hb : 2 ≤ b) (hx : x < b) (h : DigFrom b u x l) (h0 : u = 0 → l = []) (h1 : 0 < u → 0 < x) : dch x :: l = numeral b u := by
  by_cases hu : u = 0
  · subst hu
    have hl := h0 rfl
    subst hl
    have : x = 0 := by
      have h2 : digs b 0 = digs b x ++ [] := h
      rcases Nat.eq_zero_or_pos x with h3 | h3
      · exact h3
      · rw [digs_zero, List.append_nil] at h2
        exact absurd h2.symm (digs_ne hb h3)
    subst this
    rfl
  · have h2 := h.more hb (h1 (by omega))
    rw [Nat.div_eq_of_lt hx, Nat.mod_eq_of_lt hx] at h2
    rw [numeral, if_neg hu, h2.done]

theorem and_7 (x : Int) (h₀ : 0 ≤ x) (h₁ : x ≤ 9007199254740991) : bits BinOp.and IntKind.u64 x 7 = x % 8 :=
  bits_mask .u64 63 (by decide) wraps_u63 3 (by decide) x h₀ (by omega)

set_option maxRecDepth 100000 in
set_option maxHeartbeats 800000 in
theorem bits_8 (u : Int) (w : World) (h0 : 0 ≤ u) (h1 : u ≤ 9007199254740991) (hc : w.cell? ⟨5, 7, none⟩ = some (.int .u8 3)) :
    Calls Tryz.prog 141 #[.slice none 0 0, .int .u64 u, .int .i64 8, .bool false, .bool false] w fun e w' => e = .returned (.tuple #[.slice none 0 0, .string ⟨(numeral 8 u.toNat).toArray⟩]) ∧ Below w.heap.size w w' := by
  have hc2 : ∀ o, (w.alloc o).cell? ⟨5, 7, none⟩ = some (.int .u8 3) := fun o => by
    rw [World.cell?_of_block (w := w) (Below.heap_alloc w o _ (tab_lt hc))]; exact hc
  have HC := Lib.hid hc2
  have hsl : ∀ (p : Nat) (W : World), p < 65 → (Instr.sliceAt 177 (.pointer (some ⟨w.heap.size, 0, none⟩)) (some (.int .i64 (p : Int))) none none).run Tryz.prog W = .ok (.slice (some ⟨w.heap.size, p, none⟩) (65 - p) (65 - p)) W := fun p W hp => slice65 w.heap.size p W hp
  have HSL := Lib.hid hsl
  clear hc2 hc hsl
  go_enter Tryz.func141, Tryz.ntmps141
  go_wp2_with (first | (go_at_call 145; refine (pow_8 _).mono ?_; rintro e w' ⟨rfl, rfl⟩) | (go_at_call 146; refine (tz_8 _ (HC.out _)).mono ?_; rintro e w' ⟨rfl, rfl⟩))
  go_loopw [1, 13] (fun m i wr => ∃ (x : Int) (p : Nat) (l : List UInt8), 0 ≤ x ∧ x ≤ 9007199254740991 ∧ p ≤ 65 ∧ 65 ≤ p + 18 ∧ m = .int .u64 x ∧ i = .int .i64 (p : Int) ∧ Hid (ArrIs wr w.heap.size p l) ∧ Hid (DigFrom 8 u.toNat x.toNat l) ∧ Hid ((u = 0 → l = []) ∧ (0 < u → 0 < x)) ∧ Below w.heap.size w wr) (fun m _ _ => (intOf m).toNat)
  case atStart => exact ⟨u, 65, [], h0, h1, by omega, by omega, rfl, rfl, Lib.hid (ArrIs.new w), Lib.hid (DigFrom.start _ _), Lib.hid ⟨fun _ => rfl, fun h => h⟩, (Below.refl _ _).alloc (Nat.le_refl _) _⟩
  case round =>
    obtain ⟨x, p, l, hx0, hx1, hp0, hp1, rfl, rfl, HA, HD, HZ, hb⟩ := hrel
    have HB := Lib.hid hb
    clear hb
    have hlen : l.length ≤ 18 := HD.out.len (k := 18) (by omega) (by omega)
    have hpl := HA.out.len
    have hp2 : 65 ≤ p + 18 := by omega
    clear hpl hlen
    obtain ⟨q, rfl⟩ : ∃ q, p = q + 1 := ⟨p - 1, by omega⟩
    obtain ⟨⟨cv, hcv⟩, hfr⟩ := HA.out.cell q (by omega)
    have hand := and_7 x hx0 hx1
    by_cases hlt : x < 8
    · have hix := index36 x hx0 (by omega) wr
      have HA2 := Lib.hid (HA.out.store (by omega) (dch x.toNat))
      have hsl := HSL.out q (wr.setCell ⟨w.heap.size, q, none⟩ (.int .u8 ((dch x.toNat).toNat : Int))) (by omega)
      have hcon := HA2.out.conv (65 - q)
      have HN := Lib.hid (numeral_step (b := 8) (by omega) (by omega) HD.out (fun h => HZ.out.1 (by omega)) (fun h => by have := HZ.out.2 (by omega); omega))
      go_wp2
      go_ret2
      refine ⟨?_, HB.out.setCell (Nat.le_refl _) _⟩
      rw [← HN.out]; rfl
    · have hix := index36 (x % 8) (by omega) (by omega) wr
      have HA2 := Lib.hid (HA.out.store (by omega) (dch (x % 8).toNat))
      have HB2 := Lib.hid (HB.out.setCell (p := ⟨w.heap.size, q, none⟩) (Nat.le_refl _) (.int .u8 ((dch (x % 8).toNat).toNat : Int)))
      have HD2 := Lib.hid (show DigFrom 8 u.toNat (x / 8).toNat (dch (x % 8).toNat :: l) by
        have := HD.out.more (by omega) (by omega)
        rw [show (x / 8).toNat = x.toNat / 8 by omega, show (x % 8).toNat = x.toNat % 8 by omega]
        exact this)
      have hq : 65 ≤ q + 18 := by
        have h2 := HD2.out.len (k := 18) (by omega) (by omega)
        have h3 := HA2.out.len
        omega
      have HZ2 := Lib.hid (show (u = 0 → dch (x % 8).toNat :: l = []) ∧ (0 < u → 0 < x / 8) from ⟨fun h => by
        have h3 := HD.out
        rw [DigFrom, h, show (0 : Int).toNat = 0 from rfl, digs_zero] at h3
        have h4 := digs_ne (b := 8) (u := x.toNat) (by omega) (by omega)
        cases hdd : digs 8 x.toNat with
        | nil => exact absurd hdd h4
        | cons a t => rw [hdd] at h3; simp at h3, fun _ => by omega⟩)
      go_wp2
      go_roundw
      case rel => exact ⟨x / 8, q, _, by omega, by omega, by omega, hq, rfl, by go_num, HA2, HD2, HZ2, HB2.out⟩
      case measure => simp [intOf]; omega

theorem and_15 (x : Int) (h₀ : 0 ≤ x) (h₁ : x ≤ 9007199254740991) : bits BinOp.and IntKind.u64 x 15 = x % 16 :=
  bits_mask .u64 63 (by decide) wraps_u63 4 (by decide) x h₀ (by omega)

set_option maxRecDepth 100000 in
set_option maxHeartbeats 800000 in
theorem bits_16 (u : Int) (w : World) (h0 : 0 ≤ u) (h1 : u ≤ 9007199254740991) (hc : w.cell? ⟨5, 15, none⟩ = some (.int .u8 4)) :
    Calls Tryz.prog 141 #[.slice none 0 0, .int .u64 u, .int .i64 16, .bool false, .bool false] w fun e w' => e = .returned (.tuple #[.slice none 0 0, .string ⟨(numeral 16 u.toNat).toArray⟩]) ∧ Below w.heap.size w w' := by
  have hc2 : ∀ o, (w.alloc o).cell? ⟨5, 15, none⟩ = some (.int .u8 4) := fun o => by
    rw [World.cell?_of_block (w := w) (Below.heap_alloc w o _ (tab_lt hc))]; exact hc
  have HC := Lib.hid hc2
  have hsl : ∀ (p : Nat) (W : World), p < 65 → (Instr.sliceAt 177 (.pointer (some ⟨w.heap.size, 0, none⟩)) (some (.int .i64 (p : Int))) none none).run Tryz.prog W = .ok (.slice (some ⟨w.heap.size, p, none⟩) (65 - p) (65 - p)) W := fun p W hp => slice65 w.heap.size p W hp
  have HSL := Lib.hid hsl
  clear hc2 hc hsl
  go_enter Tryz.func141, Tryz.ntmps141
  go_wp2_with (first | (go_at_call 145; refine (pow_16 _).mono ?_; rintro e w' ⟨rfl, rfl⟩) | (go_at_call 146; refine (tz_16 _ (HC.out _)).mono ?_; rintro e w' ⟨rfl, rfl⟩))
  go_loopw [1, 13] (fun m i wr => ∃ (x : Int) (p : Nat) (l : List UInt8), 0 ≤ x ∧ x ≤ 9007199254740991 ∧ p ≤ 65 ∧ 65 ≤ p + 14 ∧ m = .int .u64 x ∧ i = .int .i64 (p : Int) ∧ Hid (ArrIs wr w.heap.size p l) ∧ Hid (DigFrom 16 u.toNat x.toNat l) ∧ Hid ((u = 0 → l = []) ∧ (0 < u → 0 < x)) ∧ Below w.heap.size w wr) (fun m _ _ => (intOf m).toNat)
  case atStart => exact ⟨u, 65, [], h0, h1, by omega, by omega, rfl, rfl, Lib.hid (ArrIs.new w), Lib.hid (DigFrom.start _ _), Lib.hid ⟨fun _ => rfl, fun h => h⟩, (Below.refl _ _).alloc (Nat.le_refl _) _⟩
  case round =>
    obtain ⟨x, p, l, hx0, hx1, hp0, hp1, rfl, rfl, HA, HD, HZ, hb⟩ := hrel
    have HB := Lib.hid hb
    clear hb
    have hlen : l.length ≤ 14 := HD.out.len (k := 14) (by omega) (by omega)
    have hpl := HA.out.len
    have hp2 : 65 ≤ p + 14 := by omega
    clear hpl hlen
    obtain ⟨q, rfl⟩ : ∃ q, p = q + 1 := ⟨p - 1, by omega⟩
    obtain ⟨⟨cv, hcv⟩, hfr⟩ := HA.out.cell q (by omega)
    have hand := and_15 x hx0 hx1
    by_cases hlt : x < 16
    · have hix := index36 x hx0 (by omega) wr
      have HA2 := Lib.hid (HA.out.store (by omega) (dch x.toNat))
      have hsl := HSL.out q (wr.setCell ⟨w.heap.size, q, none⟩ (.int .u8 ((dch x.toNat).toNat : Int))) (by omega)
      have hcon := HA2.out.conv (65 - q)
      have HN := Lib.hid (numeral_step (b := 16) (by omega) (by omega) HD.out (fun h => HZ.out.1 (by omega)) (fun h => by have := HZ.out.2 (by omega); omega))
      go_wp2
      go_ret2
      refine ⟨?_, HB.out.setCell (Nat.le_refl _) _⟩
      rw [← HN.out]; rfl
    · have hix := index36 (x % 16) (by omega) (by omega) wr
      have HA2 := Lib.hid (HA.out.store (by omega) (dch (x % 16).toNat))
      have HB2 := Lib.hid (HB.out.setCell (p := ⟨w.heap.size, q, none⟩) (Nat.le_refl _) (.int .u8 ((dch (x % 16).toNat).toNat : Int)))
      have HD2 := Lib.hid (show DigFrom 16 u.toNat (x / 16).toNat (dch (x % 16).toNat :: l) by
        have := HD.out.more (by omega) (by omega)
        rw [show (x / 16).toNat = x.toNat / 16 by omega, show (x % 16).toNat = x.toNat % 16 by omega]
        exact this)
      have hq : 65 ≤ q + 14 := by
        have h2 := HD2.out.len (k := 14) (by omega) (by omega)
        have h3 := HA2.out.len
        omega
      have HZ2 := Lib.hid (show (u = 0 → dch (x % 16).toNat :: l = []) ∧ (0 < u → 0 < x / 16) from ⟨fun h => by
        have h3 := HD.out
        rw [DigFrom, h, show (0 : Int).toNat = 0 from rfl, digs_zero] at h3
        have h4 := digs_ne (b := 16) (u := x.toNat) (by omega) (by omega)
        cases hdd : digs 16 x.toNat with
        | nil => exact absurd hdd h4
        | cons a t => rw [hdd] at h3; simp at h3, fun _ => by omega⟩)
      go_wp2
      go_roundw
      case rel => exact ⟨x / 16, q, _, by omega, by omega, by omega, hq, rfl, by go_num, HA2, HD2, HZ2, HB2.out⟩
      case measure => simp [intOf]; omega

end Go.Proofs.YtancidbbkoeokaaGreatDoor
