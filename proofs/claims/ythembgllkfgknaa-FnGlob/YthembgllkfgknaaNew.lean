/- The drawn bytes as they come in; spec.l01New, spec.l01Num. -/
import Derived.Test.YthembgllkfgknaaDraw
namespace Go.Proofs.Ythembgllkfgknaa
open Go.ChangeShapes Go.WideShapes Go.ChangeAt Go.RowKit

/-- What the walk is told of the drawn bytes: at most 2^20 of them, all readable in old memory. -/
def CodeIn (w : World) (a : Option Addr) (len : Nat) : Prop := len ≤ 1048576 ∧ Code w.heap.size w a len
theorem CodeIn.below {w w' : World} {a : Option Addr} {len : Nat} (h : CodeIn w a len) (hb : Below w.heap.size w w') : CodeIn w' a len :=
  ⟨h.1, h.2.1, fun k hk => by
    obtain ⟨b, off, z, ha, hbb, hs, hcell, h0⟩ := h.2.2 k hk
    have := hb.size
    exact ⟨b, off, z, ha, by omega, by omega, (hb.cell (p := ⟨b, off + k, none⟩) hbb).trans hcell, h0⟩⟩
theorem cell_lt {w : World} {b i : Nat} {v : Value} (h : w.cell? ⟨b, i, none⟩ = some v) : b < w.heap.size := by
  rcases Nat.lt_or_ge b w.heap.size with h' | h'
  · exact h'
  · simp [World.cell?, Array.getElem?_eq_none h'] at h
theorem CurAt.below {base : Nat} {a : Option Addr} {len cap : Nat} {w w' : World} {c : Nat} (h : CurAt base a len cap w c) (hb : Below w.heap.size w w') : CurAt base a len cap w' c := by
  have hl := h.lt
  obtain ⟨h1, h2, i, x, hbl, h3⟩ := h
  refine ⟨h1, ⟨h2.1, fun k hk => ?_⟩, i, x, (hb.block c hl).trans hbl, h3⟩
  obtain ⟨b, off, z, ha, hbb, hs, hcell, h0⟩ := h2.2 k hk
  exact ⟨b, off, z, ha, hbb, Nat.lt_of_lt_of_le hs hb.size, (hb.cell (p := ⟨b, off + k, none⟩) hs).trans hcell, h0⟩
theorem gbelow {w w' : World} (hb : Below w.heap.size w w') (row : Option Nat) : w.grownBy w' row := ⟨hb.os, hb.tape, hb.output, hb.size, fun k hk _ => hb.block k hk⟩
theorem below_of_g {w w1 w2 : World} {c : Nat} (hb : Below w.heap.size w w1) (hc : w.heap.size ≤ c) (hg : w1.grownBy w2 (some c)) : Below w.heap.size w w2 :=
  hb.grown hg hb.size (fun k hk => by simp at hk; omega)

/-- A slice of bytes that came in, as the row opens it. -/
theorem codeIn_of {w : World} {a : Option Addr} {len cap : Nat} {zs : List Int}
    (h : (a = none ∧ len = 0 ∧ cap = 0 ∧ zs = []) ∨ ∃ x, a = some x ∧ len ≤ cap ∧ cap ≤ maxLen ∧ zs.length = cap ∧ (∀ i, i < zs.length → w.cell? (x.add i) = some (.int .u8 (zs.getD i 0))) ∧ ∀ n ∈ zs, (Lit.int .u8 n).wf = true)
    (hl : len ≤ 1048576) : CodeIn w a len := by
  refine ⟨hl, by omega, fun k hk => ?_⟩
  rcases h with ⟨_, h0, _⟩ | ⟨x, rfl, hlc, _, hz, hcell, hwf⟩
  · omega
  · obtain ⟨b, off, spot⟩ := x
    have hc := hcell k (by omega)
    have hspot : spot = none := by simpa [Addr.add] using World.cell?_spot (hcell 0 (by omega))
    subst hspot
    have e : (⟨b, off, none⟩ : Addr).add k = ⟨b, off + k, none⟩ := by unfold Addr.add; split <;> simp_all
    rw [e] at hc
    have hm : zs.getD k 0 ∈ zs := by
      rw [List.getD_eq_getElem?_getD, List.getElem?_eq_getElem (show k < zs.length by omega)]
      exact List.getElem_mem _
    have hbd := bounds_u8 (hwf _ hm)
    exact ⟨b, off, zs.getD k 0, rfl, cell_lt hc, cell_lt hc, hc, hbd.1, hbd.2⟩

theorem and30 (n : Int) : bits .and .i64 n 1073741823 = n % 1073741824 := by
  have h : (BitVec.ofInt 64 1073741823).toNat = 2 ^ 30 - 1 := by decide
  have key : (BitVec.ofInt 64 n &&& BitVec.ofInt 64 1073741823).toNat = (n % ((2 ^ 64 : Nat) : Int)).toNat % 2 ^ 30 := by
    rw [BitVec.toNat_and, BitVec.toNat_ofInt, h, Nat.and_two_pow_sub_one_eq_mod]
  show IntKind.i64.wrap ((BitVec.ofInt 64 n &&& BitVec.ofInt 64 1073741823).toNat : Nat) = n % 1073741824
  rw [key, IntKind.wrap_i64]
  omega

/-- A new cursor in the next block. -/
def NewAt (a : Option Addr) (len cap : Nat) (w : World) (e : Ending) (w' : World) : Prop :=
  e = .returned (.pointer (some ⟨w.heap.size, 0, none⟩)) ∧ CurAt w.heap.size a len cap w' w.heap.size ∧ Below w.heap.size w w'

theorem new_any (a : Option Addr) (len cap : Nat) (w : World) (hC : CodeIn w a len) :
    Calls Try.prog 18 #[.slice a len cap] w (NewAt a len cap w) := by
  have HC := Lib.hid hC
  have hlen := hC.1
  clear hC
  have fin : ∀ h : Int, 0 ≤ h → h ≤ 1073741824 → CurAt w.heap.size a len cap (w.alloc (.cells #[.slice a len cap, .int .i64 0, .int .i64 h] 60)) w.heap.size := fun h h0 h1 =>
    ⟨Nat.le_refl _, ⟨HC.out.2.1, fun k hk => by
      obtain ⟨b, off, z, ha, hbb, hs, hcell, h0⟩ := HC.out.2.2 k hk
      exact ⟨b, off, z, ha, hbb, by simp; omega, (World.cell?_of_block (w := w) (Below.heap_alloc w _ b hs)).trans hcell, h0⟩⟩, 0, h, heap_alloc_new w _, by omega, by omega, by omega, by omega⟩
  have FIN := Lib.hid fin
  clear fin
  go_enter Try.func18, Try.ntmps18
  go_wp2
  go_loop [3, 4] (fun m i => ∃ (k : Nat) (h : Int), k ≤ len ∧ i = .int .i64 k ∧ m = .int .i64 h ∧ 0 ≤ h ∧ h ≤ 1073741824) (fun _ i => len - (intOf i).toNat)
  case atStart => exact ⟨0, _, Nat.zero_le _, rfl, rfl, by omega, by omega⟩
  case round =>
    obtain ⟨k, h, hk, rfl, rfl, h0, h1⟩ := hrel
    by_cases hlt : k < len
    · obtain ⟨b, off, z, rfl, hbb, hs, hcell, hz0, hz1⟩ := HC.out.2.2 k hlt
      by_cases h4 : (k : Int) < 4000
      · have hand := and30 (h * 131 + z + 7)
        go_wp2
        go_round
        case rel => exact ⟨k + 1, _, by omega, by go_num, rfl, by omega, by omega⟩
        case measure => simp [intOf]; omega
      · go_wp2
        go_ret
        exact ⟨rfl, FIN.out h h0 h1, (Below.refl _ _).alloc (Nat.le_refl _) _⟩
    · go_wp2
      go_ret
      exact ⟨rfl, FIN.out h h0 h1, (Below.refl _ _).alloc (Nat.le_refl _) _⟩

theorem listAt_lit (R : Int → Prop) (w : World) (zs : List Int) (hR : ∀ z ∈ zs, R z) (t : TypeId) : ListAt R (w.alloc (.cells (zs.map (Value.int .i64)).toArray t)) w.heap.size zs.length := fun k hk => by
  refine ⟨zs[k], hR _ (List.getElem_mem hk), ?_⟩
  rw [World.cell?_alloc_new]
  simp [List.getElem?_eq_getElem hk]

def NumR (x : Int) : Prop := -1 ≤ x ∧ x ≤ 9007199254740992
end Go.Proofs.Ythembgllkfgknaa
