/- The draws of chapter 2: texts of at most 400 bytes. -/
import Derived.Test.YthembgllkfgknaaDrawPath
import Derived.Test.YthembgllkfgknaaPathsMath
namespace Go.Proofs.Ythembgllkfgknaa
open Go.RowKit Go.Shelf

/-- A text was drawn. -/
def DrawT (w : World) (e : Ending) (w' : World) : Prop := ∃ s : ByteArray, s.size ≤ 400 ∧ e = .returned (.string s) ∧ Below w.heap.size w w'
/-- Two texts were drawn. -/
def DrawTT (w : World) (e : Ending) (w' : World) : Prop := ∃ s t : ByteArray, s.size ≤ 400 ∧ t.size ≤ 400 ∧ e = .returned (.tuple #[.string s, .string t]) ∧ Below w.heap.size w w'
theorem OwnL.weak {w : World} {base base' : Nat} {v : Value} {l : List ByteArray} (h : OwnL w base v l) (hb : base' ≤ base) : OwnL w base' v l := by
  obtain ⟨ho, g, cap, rfl⟩ := h
  refine ⟨⟨ho.1, ?_⟩, g, cap, rfl⟩
  rcases ho.2 with h' | ⟨g, cap, cur, h1, h2, r⟩
  · exact .inl h'
  · exact .inr ⟨g, cap, cur, h1, Nat.le_trans hb h2, r⟩




theorem drawUnder (a : Option Addr) (len cap : Nat) (w : World) (hC : CodeIn w a len) : Calls Try.prog 26 #[.slice a len cap] w (DrawTT w) := by
  have HC := Lib.hid hC
  clear hC
  go_enter Try.func26, Try.ntmps26
  go_wp2_with fail
  refine (new_any a len cap _ HC.out).mono ?_
  rintro e w1 ⟨rfl, hc1, b1⟩
  have C1 := Lib.hid hc1
  have B1 := Lib.hid b1
  clear hc1 b1
  go_wp2_with fail
  refine (path_any _ a len cap _ _ C1.out).mono ?_
  rintro e w2 ⟨s, hs, rfl, hc2, g2⟩
  have C2 := Lib.hid hc2
  have B2 := Lib.hid (below_of_g B1.out (Nat.le_refl _) g2)
  clear hc2 g2 C1 B1
  have HM := Lib.hid (fun i (hi : i < (parentsv s).length) => (parents_at hi).2.2)
  have hle := parentsv_le s
  have HP := Lib.hid (fun w => parents_spec s w (by omega))
  go_wp2_with fail
  generalize parentsv s = L at HP HM hle
  refine (HP.out _).mono ?_
  rintro e w3 ⟨v, rfl, ⟨ho3, g3, cap3, rfl⟩, hb3⟩
  have R3 := Lib.hid (OwnT.rowF ho3)
  have l3 := (World.ownsRow.lt ho3 g3 rfl)
  have C3 := Lib.hid (C2.out.below hb3)
  have hgc : g3 ≠ w.heap.size := by have := C2.out.lt; omega
  have B3 := Lib.hid (B2.out.trans (hb3.mono B2.out.size))
  clear ho3 hb3 HP C2 B2
  generalize L.length = n at R3 HM hle ⊢
  by_cases hn : (0 : Int) < (n : Int)
  · go_wp2_with fail
    refine (once_any _ a len cap _ _ _ C3.out (by omega) (by omega)).mono ?_
    rintro e w4 ⟨b, rfl, hc4, g4⟩
    have C4 := Lib.hid hc4
    have B4 := Lib.hid (below_of_g B3.out (Nat.le_refl _) g4)
    have R4 : Hid (RowF w4 g3 n (rowOf L)) := Lib.hid (fun i hi => g4.cell (R3.out i hi) (by simpa using hgc))
    clear hc4 g4 C3 B3 R3
    cases b with
    | true =>
      go_wp2_with fail
      have B4d : Hid (Below w.heap.size w w4.drew) := Lib.hid ⟨B4.out.os, B4.out.tape, B4.out.output, B4.out.size, B4.out.block⟩
      have R4d : Hid (RowF w4.drew g3 n (rowOf L)) := Lib.hid R4.out
      go_region_with (go_at_call 20; refine (below_any w.heap.size a len cap w.heap.size (n : Int) _ (by exact C4.out) (by omega) (by omega)).mono ?_; rintro e w5 ⟨x, hx, rfl, hc5, g5⟩; obtain ⟨k, rfl⟩ := Int.eq_ofNat_of_zero_le hx.1; have hcell : w5.cell? ⟨g3, k, none⟩ = some (.string (rowOf L k)) := g5.cell (R4d.out k (by omega)) (by simpa using hgc); have HK := Lib.hid (HM.out k (by omega)); have hlt : (k : Int) < (n : Int) := hx.2; have B5 := Lib.hid (below_of_g B4d.out (Nat.le_refl _) g5); clear hc5 g5; generalize rowOf L k = t at hcell HK)
      all_goals
        go_wp2
        go_ret2
        exact ⟨s, t, by omega, by have := HK.out; omega, rfl, B5.out⟩
    | false =>
      go_wp2_with fail
      refine (anyT_any _ a len cap _ _ C4.out).mono ?_
      rintro e w5 ⟨t, ht, rfl, hc5, g5⟩
      go_wp2_with fail
      go_ret2
      exact ⟨s, t, by omega, by omega, rfl, below_of_g B4.out (Nat.le_refl _) g5⟩
  · go_wp2_with fail
    refine (anyT_any _ a len cap _ _ C3.out).mono ?_
    rintro e w5 ⟨t, ht, rfl, hc5, g5⟩
    go_wp2_with fail
    go_ret2
    exact ⟨s, t, by omega, by omega, rfl, below_of_g B3.out (Nat.le_refl _) g5⟩




end Go.Proofs.Ythembgllkfgknaa
