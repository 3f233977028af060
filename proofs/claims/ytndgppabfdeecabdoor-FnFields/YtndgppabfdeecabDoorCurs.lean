/- The cursor with its exact state: spec.l01Byte and spec.l01Below (up to 256) again, with what they leave of it. -/
import Derived.Test.YtndgppabfdeecabDoorDraw
import Derived.Test.YtndgppabfdeecabDoorLcg
namespace Go.Proofs.YtndgppabfdeecabDoor
open Go.ChangeShapes Go.WideShapes Go.ChangeAt Go.RowKit

def uh (h : Int) : Nat := (h % 18446744073709551616).toNat
/-- Block c is a cursor at byte k, its number h. -/
def CurS (base : Nat) (a : Option Addr) (len cap : Nat) (w : World) (c k : Nat) (h : Int) : Prop :=
  base ≤ c ∧ Code base w a len ∧ w.heap[c]? = some (.cells #[.slice a len cap, .int .i64 k, .int .i64 h] 57 (0, 0)) ∧ k ≤ len ∧ -9223372036854775808 ≤ h ∧ h ≤ 9223372036854775807
theorem CurS.at {base : Nat} {a : Option Addr} {len cap : Nat} {w : World} {c k : Nat} {h : Int} (H : CurS base a len cap w c k h) : CurAt base a len cap w c := by
  obtain ⟨h1, h2, h3, h4, h5, h6⟩ := H
  exact ⟨h1, h2, k, h, h3, by omega, by omega, h5, h6⟩
theorem CurAt.s {base : Nat} {a : Option Addr} {len cap : Nat} {w : World} {c : Nat} (H : CurAt base a len cap w c) : ∃ k h, CurS base a len cap w c k h := by
  obtain ⟨h1, h2, i, h, h3, h4, h5, h6, h7⟩ := H
  obtain ⟨k, rfl⟩ := Int.eq_ofNat_of_zero_le h4
  exact ⟨k, h, h1, h2, h3, by omega, h6, h7⟩
/-- What one byte drawn leaves: a byte of the code is used up, or the number alone decides. -/
def Next (len k : Nat) (h : Int) (k' : Nat) (h' x : Int) : Prop :=
  (k < len ∧ k' = k + 1) ∨ (k = len ∧ k' = k ∧ uh h' = lcg (uh h) ∧ x = lval (lcg (uh h)))
def DrawnX (n : Int) (base : Nat) (a : Option Addr) (len cap c k : Nat) (h : Int) (w : World) (e : Ending) (w' : World) : Prop :=
  ∃ (x : Int) (k' : Nat) (h' : Int), 0 ≤ x ∧ x < 256 ∧ e = .returned (.int .i64 (x % n)) ∧ CurS base a len cap w' c k' h' ∧ w.grownBy w' (some c) ∧ Next len k h k' h' x

theorem wrap_mod (n : Int) : wrap64 n % 18446744073709551616 = n % 18446744073709551616 := by unfold wrap64; omega
theorem emod_in (M A C h : Int) : (A * (h % M) + C) % M = (h * A + C) % M := by
  rw [Int.add_emod, Int.mul_emod, Int.emod_emod, ← Int.mul_emod, ← Int.add_emod, Int.mul_comm]
theorem uh_gen (M A C : Nat) (hM : 0 < M) (x h : Int) (hx : x % M = (h * A + C) % M) : (x % M).toNat = (A * (h % M).toNat + C) % M := by
  have h0 : 0 ≤ h % (M : Int) := Int.emod_nonneg h (by omega)
  obtain ⟨u, hu⟩ := Int.eq_ofNat_of_zero_le h0
  have e := emod_in (M : Int) A C h
  rw [hu] at e
  rw [hx, ← e, hu]
  exact congrArg Int.toNat (by push_cast; rfl)
theorem wrap_two (A C M : Int) (h : Int) (hw : ∀ n, wrap64 n % M = n % M) : wrap64 (wrap64 (h * A) + C) % M = (h * A + C) % M := by
  rw [hw, Int.add_emod, hw, ← Int.add_emod]
theorem uh_step (h : Int) : uh (wrap64 (wrap64 (h * 6364136223846793005) + 1442695040888963407)) = lcg (uh h) := by
  have e := uh_gen 18446744073709551616 6364136223846793005 1442695040888963407 (by decide) _ h (wrap_two 6364136223846793005 1442695040888963407 18446744073709551616 h wrap_mod)
  unfold lcg uh
  exact e


theorem mid33 (h : Int) : ((h / 8589934592) % 18446744073709551616).toNat % 256 = ((h % 18446744073709551616).toNat >>> 33) % 256 := by
  rw [Nat.shiftRight_eq_div_pow]
  omega
theorem mid45 (h : Int) : ((h / 35184372088832) % 18446744073709551616).toNat % 256 = ((h % 18446744073709551616).toNat >>> 45) % 256 := by
  rw [Nat.shiftRight_eq_div_pow]
  omega
theorem xorv (h : Int) : bits .xor .i64 (h / 8589934592) (h / 35184372088832) % 256 = lval (uh h) := by
  have key : (BitVec.ofInt 64 (h / 8589934592) ^^^ BitVec.ofInt 64 (h / 35184372088832)).toNat % 256 = lval (uh h) := by
    rw [BitVec.toNat_xor, BitVec.toNat_ofInt, BitVec.toNat_ofInt]
    unfold lval uh
    have e : (256 : Nat) = 2 ^ 8 := by decide
    have m1 := mid33 h
    have m2 := mid45 h
    rw [e] at m1 m2 ⊢
    rw [Nat.xor_mod_two_pow, Nat.xor_mod_two_pow, ← m1, ← m2]
    rfl
  show IntKind.i64.wrap ((BitVec.ofInt 64 (h / 8589934592) ^^^ BitVec.ofInt 64 (h / 35184372088832)).toNat : Nat) % 256 = _
  rw [IntKind.wrap_i64]
  generalize (BitVec.ofInt 64 (h / 8589934592) ^^^ BitVec.ofInt 64 (h / 35184372088832)).toNat = n at key
  omega
theorem cs_one {base len cap c k : Nat} {a : Option Addr} {w : World} {h x : Int} (hbc : base ≤ c) (hcode : Code base w a len) (hblk : w.heap[c]? = some (.cells #[.slice a len cap, .int .i64 k, .int .i64 h] 57 (0, 0)))
    (hk : k ≤ len) (hx : -9223372036854775808 ≤ x ∧ x ≤ 9223372036854775807) (n : Nat) :
    CurS base a len cap ((w.setCell ⟨c, 2, none⟩ (.int .i64 x)).drewN n) c k x ∧ w.grownBy ((w.setCell ⟨c, 2, none⟩ (.int .i64 x)).drewN n) (some c) := by
  have hg : w.grownBy ((w.setCell ⟨c, 2, none⟩ (.int .i64 x)).drewN n) (some c) := gdrew (gset w c 2 _) n
  exact ⟨⟨hbc, hcode.kept hbc hg, heap_setCell_same w c 2 _ _ _ hblk, hk, hx.1, hx.2⟩, hg⟩
theorem cs_two {base len cap c k y : Nat} {a : Option Addr} {w : World} {h x : Int} (hbc : base ≤ c) (hcode : Code base w a len) (hblk : w.heap[c]? = some (.cells #[.slice a len cap, .int .i64 k, .int .i64 h] 57 (0, 0)))
    (hk : y ≤ len) (hx : -9223372036854775808 ≤ x ∧ x ≤ 9223372036854775807) (n : Nat) :
    CurS base a len cap (((w.setCell ⟨c, 2, none⟩ (.int .i64 x)).drewN n).setCell ⟨c, 1, none⟩ (.int .i64 y)) c y x ∧ w.grownBy (((w.setCell ⟨c, 2, none⟩ (.int .i64 x)).drewN n).setCell ⟨c, 1, none⟩ (.int .i64 y)) (some c) := by
  have hg : w.grownBy (((w.setCell ⟨c, 2, none⟩ (.int .i64 x)).drewN n).setCell ⟨c, 1, none⟩ (.int .i64 y)) (some c) := gtrans (gdrew (gset w c 2 _) n) (gset _ c 1 _)
  have h1 : ((w.setCell ⟨c, 2, none⟩ (.int .i64 x)).drewN n).heap[c]? = some (.cells #[.slice a len cap, .int .i64 k, .int .i64 x] 57 (0, 0)) := heap_setCell_same w c 2 _ _ _ hblk
  exact ⟨⟨hbc, hcode.kept hbc hg, heap_setCell_same _ c 1 _ _ _ h1, hk, hx.1, hx.2⟩, hg⟩
theorem and_bd (n : Int) : 0 ≤ bits .and .i64 n 255 ∧ bits .and .i64 n 255 < 256 := by rw [and255]; omega

theorem byte_st (base : Nat) (a : Option Addr) (len cap c k : Nat) (h : Int) (w : World) (hC : CurS base a len cap w c k h) :
    Calls Tryd.prog 50 #[.pointer (some ⟨c, 0, none⟩)] w (DrawnX 256 base a len cap c k h w) := by
  obtain ⟨hbc, hcode, hblk, hi1, hh0, hh1⟩ := hC
  have c0 : w.cell? ⟨c, 0, none⟩ = some (.slice a len cap) := by rw [cell_of_row w c 0 _ _ _ hblk]; rfl
  have c1 : w.cell? ⟨c, 1, none⟩ = some (.int .i64 k) := by rw [cell_of_row w c 1 _ _ _ hblk]; rfl
  have c2 : w.cell? ⟨c, 2, none⟩ = some (.int .i64 h) := by rw [cell_of_row w c 2 _ _ _ hblk]; rfl
  have f1 : w.frozen? ⟨c, 1, none⟩ = false := frozen_of_row w c 1 _ _ hblk
  have f2 : w.frozen? ⟨c, 2, none⟩ = false := frozen_of_row w c 2 _ _ hblk
  have HCO := Lib.hid hcode
  have HBL := Lib.hid hblk
  have hlen := hcode.1
  clear hcode hblk
  by_cases hlt : k < len
  · obtain ⟨b, off, z, rfl, hb, hbs, hcell, hz0, hz1⟩ := HCO.out.2 k hlt
    have hne : ¬ b = c := by omega
    have hne2 : ¬ c = b := by omega
    have hlti : (k : Int) < (len : Int) := by omega
    have hd : decide ((k : Int) < (len : Int)) = true := by simpa using hlt
    go_enter Tryd.func50, Tryd.ntmps50
    go_wp2
    go_quiet (fail)
    go_wp2
    go_quiet (fail)
    go_wp2
    go_quiet (fail)
    go_wp2
    go_ret
    have hcu := cs_two (y := k + 1) hbc HCO.out HBL.out (by omega) (wrap64_bd (wrap64 (h * 6364136223846793005) + 1442695040888963407))
    have hb2 := and_bd (wrap64 (bits BinOp.and IntKind.i64 (bits BinOp.xor IntKind.i64 (wrap64 (wrap64 (h * 6364136223846793005) + 1442695040888963407) / 8589934592) (wrap64 (wrap64 (h * 6364136223846793005) + 1442695040888963407) / 35184372088832)) 255 + z))
    exact ⟨_, k + 1, _, hb2.1, hb2.2, ret_int (Int.emod_eq_of_lt hb2.1 hb2.2).symm, (hcu _).1, (hcu _).2, .inl ⟨hlt, rfl⟩⟩
  · have hd : decide ((k : Int) < (len : Int)) = false := by simpa using hlt
    go_enter Tryd.func50, Tryd.ntmps50
    go_wp2
    go_quiet (fail)
    go_wp2
    go_quiet (fail)
    go_wp2
    go_ret
    have hcu := cs_one hbc HCO.out HBL.out hi1 (wrap64_bd (wrap64 (h * 6364136223846793005) + 1442695040888963407))
    have hb2 := and_bd (bits BinOp.xor IntKind.i64 (wrap64 (wrap64 (h * 6364136223846793005) + 1442695040888963407) / 8589934592) (wrap64 (wrap64 (h * 6364136223846793005) + 1442695040888963407) / 35184372088832))
    refine ⟨_, k, _, hb2.1, hb2.2, ret_int (Int.emod_eq_of_lt hb2.1 hb2.2).symm, (hcu 0).1, ⟨(hcu 0).2.os, (hcu 0).2.tape, (hcu 0).2.output, (hcu 0).2.size, (hcu 0).2.block⟩, .inr ⟨by omega, rfl, uh_step h, ?_⟩⟩
    rw [and255, xorv, uh_step]

theorem below_st (base : Nat) (a : Option Addr) (len cap c k : Nat) (h n : Int) (w : World) (hC : CurS base a len cap w c k h) (h0 : 1 ≤ n) (h1 : n ≤ 256) :
    Calls Tryd.prog 38 #[.pointer (some ⟨c, 0, none⟩), .int .i64 n] w (DrawnX n base a len cap c k h w) := by
  have HC := Lib.hid hC
  clear hC
  go_enter Tryd.func38, Tryd.ntmps38
  go_wp2_with fail
  refine (byte_st base a len cap c k h _ HC.out).mono ?_
  rintro e w1 ⟨x, k', h', hx0, hx1, rfl, hc1, g1, hn⟩
  rw [Int.emod_eq_of_lt hx0 hx1]
  have C1 := Lib.hid hc1
  have G1 := Lib.hid g1
  have HN := Lib.hid hn
  clear hc1 g1 hn
  go_wp2_with fail
  go_ret
  exact ⟨x, k', h', hx0, hx1, rfl, C1.out, G1.out, HN.out⟩

theorem CurS.lt {base : Nat} {a : Option Addr} {len cap : Nat} {w : World} {c k : Nat} {h : Int} (H : CurS base a len cap w c k h) : c < w.heap.size := H.at.lt
/-- The cursor stays where its block and the code's stay. -/
theorem CurS.grown {base : Nat} {a : Option Addr} {len cap : Nat} {w w' : World} {c k : Nat} {h : Int} {row : Option Nat} (H : CurS base a len cap w c k h) (hg : w.grownBy w' row) (h1 : ∀ r, row = some r → base ≤ r ∧ r ≠ c) : CurS base a len cap w' c k h := by
  have hl := H.lt
  obtain ⟨hb, hcode, hblk, hk, hh⟩ := H
  refine ⟨hb, ⟨hcode.1, fun j hj => ?_⟩, ?_, hk, hh⟩
  · obtain ⟨b, off, z, ha, hbb, hs, hcell, h0⟩ := hcode.2 j hj
    have hne : some b ≠ row := fun e => by have := (h1 b e.symm).1; omega
    exact ⟨b, off, z, ha, hbb, Nat.lt_of_lt_of_le hs hg.size, hg.cell hcell hne, h0⟩
  · rw [hg.block c hl (fun e => (h1 c e.symm).2 rfl)]
    exact hblk

/-- What is left of the code and of the way of the number. -/
noncomputable def ldist : Nat → Nat := Classical.choose lcg_dist
theorem ldist_le (x : Nat) : ldist x ≤ 18446744073709551616 := (Classical.choose_spec lcg_dist).1 x
theorem ldist_down (x : Nat) (hx : x < 18446744073709551616) (hg : ¬ Good x) : ldist (lcg x) < ldist x ∧ ldist (lcg (lcg (lcg x))) < ldist x := (Classical.choose_spec lcg_dist).2 x hx hg
noncomputable def left (len k : Nat) (h : Int) : Nat := (len - k) * 18446744073709551617 + ldist (uh h)
theorem uh_lt (h : Int) : uh h < 18446744073709551616 := by unfold uh; omega
theorem left_code {len k k' : Nat} {h h' : Int} (hk : k < k') (hl : k' ≤ len) : left len k' h' < left len k h := by
  unfold left
  have := ldist_le (uh h')
  have e : (len - k) = (len - k') + (k' - k) := by omega
  rw [e, Nat.add_mul]
  have : 18446744073709551617 ≤ (k' - k) * 18446744073709551617 := Nat.le_mul_of_pos_left _ (by omega)
  omega
/-- A round that draws one byte, which is 1 or 2 modulo 5, is nearer its end. -/
theorem left_one {len k k1 : Nat} {h h1 x : Int} (hn : Next len k h k1 h1 x) (hx : x % 5 = 1 ∨ x % 5 = 2) (hl : k1 ≤ len) : left len k1 h1 < left len k h := by
  rcases hn with ⟨h2, rfl⟩ | ⟨rfl, rfl, h3, rfl⟩
  · exact left_code (by omega) hl
  · unfold left
    rw [h3]
    have := (ldist_down (uh h) (uh_lt h) (by unfold Good; omega)).1
    omega
/-- A round that draws three bytes. -/
theorem left_three {len k k1 k2 k3 : Nat} {h h1 h2 h3 x y z : Int} (n1 : Next len k h k1 h1 x) (n2 : Next len k1 h1 k2 h2 y) (n3 : Next len k2 h2 k3 h3 z) (hx : x % 5 = 1 ∨ x % 5 = 2) (hl : k3 ≤ len) : left len k3 h3 < left len k h := by
  rcases n3 with ⟨a3, e3⟩ | ⟨a3, e3, b3, _⟩
  · refine left_code ?_ hl
    rcases n2 with ⟨a2, e2⟩ | ⟨a2, e2, b2, _⟩ <;> rcases n1 with ⟨a1, e1⟩ | ⟨a1, e1, b1, _⟩ <;> omega
  · rcases n2 with ⟨a2, e2⟩ | ⟨a2, e2, b2, _⟩
    · refine left_code ?_ hl
      rcases n1 with ⟨a1, e1⟩ | ⟨a1, e1, b1, _⟩ <;> omega
    · rcases n1 with ⟨a1, e1⟩ | ⟨a1, e1, b1, ex⟩
      · exact left_code (by omega) hl
      · unfold left
        rw [b3, b2, b1]
        rw [ex] at hx
        have := (ldist_down (uh h) (uh_lt h) (by unfold Good; omega)).2
        have e : k3 = k := by omega
        rw [e]
        omega
end Go.Proofs.YtndgppabfdeecabDoor
