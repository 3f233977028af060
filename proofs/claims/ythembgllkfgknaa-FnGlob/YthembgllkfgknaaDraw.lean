/- The cursor over the drawn bytes: what spec.l01Byte, l01Below, l01Once, l01PickInt do with it. Only bounds of what they return are said, and that no block but the cursor's is written. -/
import Derived.Test.YthembgllkfgknaaCom
import Derived.WalkSmall
namespace Go.Proofs.Ythembgllkfgknaa
open Go.ChangeShapes Go.WideShapes Go.ChangeAt Go.RowKit

theorem gtrans {a b c : World} {row : Option Nat} (h : a.grownBy b row) (k : b.grownBy c row) : a.grownBy c row :=
  ⟨k.os.trans h.os, k.tape.trans h.tape, k.output.trans h.output, Nat.le_trans h.size k.size, fun i hi hne => (k.block i (Nat.lt_of_lt_of_le hi h.size) hne).trans (h.block i hi hne)⟩
theorem gset (w : World) (c i : Nat) (v : Value) : w.grownBy (w.setCell ⟨c, i, none⟩ v) (some c) :=
  ⟨rfl, rfl, rfl, by simp, fun k _ hne => heap_setCell_other w ⟨c, i, none⟩ k v (fun e => hne (by rw [e]))⟩
theorem gdrew {a w : World} {row : Option Nat} (h : a.grownBy w row) (n : Nat) : a.grownBy (w.drewN n) row := ⟨h.os, h.tape, h.output, h.size, h.block⟩

/-- The drawn bytes lie in old memory, each a byte. -/
def Code (base : Nat) (w : World) (a : Option Addr) (len : Nat) : Prop :=
  len ≤ 9223372036854775807 ∧ ∀ k, k < len → ∃ b off z, a = some ⟨b, off, none⟩ ∧ b < base ∧ b < w.heap.size ∧ w.cell? ⟨b, off + k, none⟩ = some (.int .u8 z) ∧ 0 ≤ z ∧ z ≤ 255
theorem Code.kept {base : Nat} {w w' : World} {a : Option Addr} {len c : Nat} (h : Code base w a len) (hc : base ≤ c) (hg : w.grownBy w' (some c)) : Code base w' a len :=
  ⟨h.1, fun k hk => by
    obtain ⟨b, off, z, ha, hb, hs, hcell, h0, h1⟩ := h.2 k hk
    have hne : some b ≠ some c := by simp; omega
    exact ⟨b, off, z, ha, hb, Nat.lt_of_lt_of_le hs hg.size, hg.cell hcell hne, h0, h1⟩⟩

/-- Block c is a cursor over the drawn bytes. -/
def CurAt (base : Nat) (a : Option Addr) (len cap : Nat) (w : World) (c : Nat) : Prop :=
  base ≤ c ∧ Code base w a len ∧ ∃ i h : Int, w.heap[c]? = some (.cells #[.slice a len cap, .int .i64 i, .int .i64 h] 60 (0, 0)) ∧ 0 ≤ i ∧ i ≤ len ∧ -9223372036854775808 ≤ h ∧ h ≤ 9223372036854775807

theorem CurAt.lt {base : Nat} {a : Option Addr} {len cap : Nat} {w : World} {c : Nat} (h : CurAt base a len cap w c) : c < w.heap.size := by
  obtain ⟨_, _, i, x, hb, _⟩ := h
  rcases Nat.lt_or_ge c w.heap.size with h' | h'
  · exact h'
  · rw [Array.getElem?_eq_none h'] at hb; simp at hb

theorem CurAt.drew {base : Nat} {a : Option Addr} {len cap : Nat} {w : World} {c : Nat} (h : CurAt base a len cap w c) (n : Nat) : CurAt base a len cap (w.drewN n) c := h
theorem CurAt.alloc {base : Nat} {a : Option Addr} {len cap : Nat} {w : World} {c : Nat} (h : CurAt base a len cap w c) (o : Obj) : CurAt base a len cap (w.alloc o) c := by
  have hl := h.lt
  obtain ⟨h1, h2, i, x, hb, h3⟩ := h
  refine ⟨h1, ⟨h2.1, fun k hk => ?_⟩, i, x, (Below.heap_alloc w o c hl).trans hb, h3⟩
  obtain ⟨b, off, z, ha, hbb, hs, hcell, h0⟩ := h2.2 k hk
  exact ⟨b, off, z, ha, hbb, by simp; omega, (World.cell?_of_block (w := w) (Below.heap_alloc w o b hs)).trans hcell, h0⟩
theorem galloc (w : World) (o : Obj) (row : Option Nat) : w.grownBy (w.alloc o) row := ⟨rfl, rfl, rfl, by simp, fun k hk _ => Below.heap_alloc w o k hk⟩

/-- What a function of the cursor leaves: an int with the property R; the cursor; no other old block written. -/
def Drawn (R : Int → Prop) (base : Nat) (a : Option Addr) (len cap c : Nat) (w : World) (e : Ending) (w' : World) : Prop :=
  ∃ x : Int, R x ∧ e = .returned (.int .i64 x) ∧ CurAt base a len cap w' c ∧ w.grownBy w' (some c)

theorem and255 (n : Int) : bits .and .i64 n 255 = n % 256 := by
  have h : (BitVec.ofInt 64 255).toNat = 2 ^ 8 - 1 := by decide
  have key : (BitVec.ofInt 64 n &&& BitVec.ofInt 64 255).toNat = (n % ((2 ^ 64 : Nat) : Int)).toNat % 2 ^ 8 := by
    rw [BitVec.toNat_and, BitVec.toNat_ofInt, h, Nat.and_two_pow_sub_one_eq_mod]
  show IntKind.i64.wrap ((BitVec.ofInt 64 n &&& BitVec.ofInt 64 255).toNat : Nat) = n % 256
  rw [key, IntKind.wrap_i64]
  omega

theorem wrap64_bd (n : Int) : -9223372036854775808 ≤ wrap64 n ∧ wrap64 n ≤ 9223372036854775807 := by unfold wrap64; omega
theorem cur_one {base len cap c : Nat} {a : Option Addr} {w : World} {i h x : Int} (hbc : base ≤ c) (hcode : Code base w a len) (hblk : w.heap[c]? = some (.cells #[.slice a len cap, .int .i64 i, .int .i64 h] 60 (0, 0)))
    (hi0 : 0 ≤ i) (hi1 : i ≤ len) (hx : -9223372036854775808 ≤ x ∧ x ≤ 9223372036854775807) (n : Nat) :
    CurAt base a len cap ((w.setCell ⟨c, 2, none⟩ (.int .i64 x)).drewN n) c ∧ w.grownBy ((w.setCell ⟨c, 2, none⟩ (.int .i64 x)).drewN n) (some c) := by
  have hg : w.grownBy ((w.setCell ⟨c, 2, none⟩ (.int .i64 x)).drewN n) (some c) := gdrew (gset w c 2 _) n
  refine ⟨⟨hbc, hcode.kept hbc hg, i, x, ?_, hi0, hi1, hx.1, hx.2⟩, hg⟩
  exact heap_setCell_same w c 2 _ _ _ hblk
theorem cur_two {base len cap c : Nat} {a : Option Addr} {w : World} {i h x y : Int} (hbc : base ≤ c) (hcode : Code base w a len) (hblk : w.heap[c]? = some (.cells #[.slice a len cap, .int .i64 i, .int .i64 h] 60 (0, 0)))
    (hy0 : 0 ≤ y) (hy1 : y ≤ len) (hx : -9223372036854775808 ≤ x ∧ x ≤ 9223372036854775807) (n : Nat) :
    CurAt base a len cap (((w.setCell ⟨c, 2, none⟩ (.int .i64 x)).drewN n).setCell ⟨c, 1, none⟩ (.int .i64 y)) c ∧ w.grownBy (((w.setCell ⟨c, 2, none⟩ (.int .i64 x)).drewN n).setCell ⟨c, 1, none⟩ (.int .i64 y)) (some c) := by
  have hg : w.grownBy (((w.setCell ⟨c, 2, none⟩ (.int .i64 x)).drewN n).setCell ⟨c, 1, none⟩ (.int .i64 y)) (some c) := gtrans (gdrew (gset w c 2 _) n) (gset _ c 1 _)
  have h1 : ((w.setCell ⟨c, 2, none⟩ (.int .i64 x)).drewN n).heap[c]? = some (.cells #[.slice a len cap, .int .i64 i, .int .i64 x] 60 (0, 0)) := heap_setCell_same w c 2 _ _ _ hblk
  refine ⟨⟨hbc, hcode.kept hbc hg, y, x, ?_, hy0, hy1, hx.1, hx.2⟩, hg⟩
  exact heap_setCell_same _ c 1 _ _ _ h1

theorem byte_any (base : Nat) (a : Option Addr) (len cap c : Nat) (w : World) (hC : CurAt base a len cap w c) :
    Calls Try.prog 46 #[.pointer (some ⟨c, 0, none⟩)] w (Drawn (fun x => 0 ≤ x ∧ x ≤ 255) base a len cap c w) := by
  obtain ⟨hbc, hcode, i, h, hblk, hi0, hi1, hh0, hh1⟩ := hC
  have c0 : w.cell? ⟨c, 0, none⟩ = some (.slice a len cap) := by rw [cell_of_row w c 0 _ _ _ hblk]; rfl
  have c1 : w.cell? ⟨c, 1, none⟩ = some (.int .i64 i) := by rw [cell_of_row w c 1 _ _ _ hblk]; rfl
  have c2 : w.cell? ⟨c, 2, none⟩ = some (.int .i64 h) := by rw [cell_of_row w c 2 _ _ _ hblk]; rfl
  have f1 : w.frozen? ⟨c, 1, none⟩ = false := frozen_of_row w c 1 _ _ hblk
  have f2 : w.frozen? ⟨c, 2, none⟩ = false := frozen_of_row w c 2 _ _ hblk
  have HCO := Lib.hid hcode
  have HBL := Lib.hid hblk
  have hlen := hcode.1
  clear hcode hblk
  obtain ⟨k, rfl⟩ := Int.eq_ofNat_of_zero_le hi0
  by_cases hlt : k < len
  · obtain ⟨b, off, z, rfl, hb, hbs, hcell, hz0, hz1⟩ := HCO.out.2 k hlt
    have hne : ¬ b = c := by omega
    have hne2 : ¬ c = b := by omega
    have hlti : (k : Int) < (len : Int) := by omega
    have hd : decide ((k : Int) < (len : Int)) = true := by simpa using hlt
    go_enter Try.func46, Try.ntmps46
    go_wp2
    go_quiet (fail)
    go_wp2
    go_quiet (fail)
    go_wp2
    go_quiet (fail)
    go_wp2
    go_ret
    have hcu := cur_two (y := (k : Int) + 1) hbc HCO.out HBL.out (by omega) (by omega) (wrap64_bd (wrap64 (h * 6364136223846793005) + 1442695040888963407))
    exact ⟨_, by rw [and255]; omega, rfl, (hcu _).1, (hcu _).2⟩
  · have hd : decide ((k : Int) < (len : Int)) = false := by simpa using hlt
    go_enter Try.func46, Try.ntmps46
    go_wp2
    go_quiet (fail)
    go_wp2
    go_quiet (fail)
    go_wp2
    go_ret
    have hcu := cur_one hbc HCO.out HBL.out hi0 hi1 (wrap64_bd (wrap64 (h * 6364136223846793005) + 1442695040888963407))
    exact ⟨_, by rw [and255]; omega, rfl, (hcu _).1.drew _, gdrew (hcu _).2 _⟩

theorem below_any (base : Nat) (a : Option Addr) (len cap c : Nat) (n : Int) (w : World) (hC : CurAt base a len cap w c) (h0 : 1 ≤ n) (h1 : n ≤ 4294967296) :
    Calls Try.prog 20 #[.pointer (some ⟨c, 0, none⟩), .int .i64 n] w (Drawn (fun x => 0 ≤ x ∧ x < n) base a len cap c w) := by
  have HC := Lib.hid hC
  clear hC
  by_cases h2 : n ≤ 256
  · go_enter Try.func20, Try.ntmps20
    go_wp2_with fail
    refine (byte_any base a len cap c _ HC.out).mono ?_
    rintro e w1 ⟨x, hx, rfl, hc1, g1⟩
    go_wp2_with fail
    go_ret
    have hm := Int.emod_nonneg x (show n ≠ 0 by omega)
    have hl := Int.emod_lt_of_pos x (show 0 < n by omega)
    exact ⟨_, ⟨hm, hl⟩, rfl, hc1, g1⟩
  · go_enter Try.func20, Try.ntmps20
    go_wp2_with fail
    refine (byte_any base a len cap c _ HC.out).mono ?_
    rintro e w1 ⟨x, hx, rfl, hc1, g1⟩
    have C1 := Lib.hid hc1
    have G1 := Lib.hid g1
    clear hc1 g1
    go_wp2_with fail
    refine (byte_any base a len cap c _ C1.out).mono ?_
    rintro e w2 ⟨y, hy, rfl, hc2, g2⟩
    have C2 := Lib.hid hc2
    have G2 := Lib.hid (gtrans G1.out g2)
    clear hc2 g2
    go_wp2_with fail
    refine (byte_any base a len cap c _ C2.out).mono ?_
    rintro e w3 ⟨z, hz, rfl, hc3, g3⟩
    have C3 := Lib.hid hc3
    have G3 := Lib.hid (gtrans G2.out g3)
    clear hc3 g3
    go_wp2_with fail
    refine (byte_any base a len cap c _ C3.out).mono ?_
    rintro e w4 ⟨t, ht, rfl, hc4, g4⟩
    have C4 := Lib.hid hc4
    have G4 := Lib.hid (gtrans G3.out g4)
    clear hc4 g4
    go_wp2_with fail
    go_ret
    have hm := Int.emod_nonneg (x * 16777216 + y * 65536 + z * 256 + t) (show n ≠ 0 by omega)
    have hl := Int.emod_lt_of_pos (x * 16777216 + y * 65536 + z * 256 + t) (show 0 < n by omega)
    exact ⟨_, ⟨hm, hl⟩, rfl, C4.out, G4.out⟩

/-- The list that is picked from: in a block of its own, all its numbers with the property R. -/
def ListAt (R : Int → Prop) (w : World) (g n : Nat) : Prop := ∀ k, k < n → ∃ z : Int, R z ∧ w.cell? ⟨g, k, none⟩ = some (.int .i64 z)
theorem pickInt_any (R : Int → Prop) (base : Nat) (a : Option Addr) (len cap c g n : Nat) (w : World) (hC : CurAt base a len cap w c) (hL : ListAt R w g n) (hg : g ≠ c) (h0 : 1 ≤ n) (h1 : n ≤ 256) :
    Calls Try.prog 25 #[.pointer (some ⟨c, 0, none⟩), .slice (some ⟨g, 0, none⟩) n n] w (Drawn R base a len cap c w) := by
  have HC := Lib.hid hC
  have HL := Lib.hid hL
  clear hC hL
  go_enter Try.func25, Try.ntmps25
  go_wp2_with fail
  refine (below_any base a len cap c n _ HC.out (by omega) (by omega)).mono ?_
  rintro e w1 ⟨x, hx, rfl, hc1, g1⟩
  obtain ⟨k, rfl⟩ := Int.eq_ofNat_of_zero_le hx.1
  obtain ⟨z, hz, hcell⟩ := HL.out k (by omega)
  have hcell1 : w1.cell? ⟨g, k, none⟩ = some (.int .i64 z) := g1.cell hcell (by simpa using hg)
  have C1 := Lib.hid hc1
  have G1 := Lib.hid g1
  have HZ := Lib.hid hz
  have hlt : (k : Int) < (n : Int) := by omega
  clear hc1 g1 hz hcell
  go_wp2_with fail
  go_ret
  exact ⟨_, HZ.out, rfl, C1.out, G1.out⟩
end Go.Proofs.Ythembgllkfgknaa
