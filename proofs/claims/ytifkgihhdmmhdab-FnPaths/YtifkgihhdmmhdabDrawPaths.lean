/- The draws of chapter 2: texts of at most 400 bytes. -/
import Derived.Test.YtifkgihhdmmhdabDrawPath
import Derived.Test.YtifkgihhdmmhdabPathsMath
namespace Go.Proofs.Ytifkgihhdmmhdab
open Go.RowKit Go.Shelf

/-- A text was drawn. -/
def DrawT (w : World) (e : Ending) (w' : World) : Prop := ∃ s : ByteArray, s.size ≤ 400 ∧ e = .returned (.string s) ∧ Below w.heap.size w w'
/-- Two texts were drawn. -/
def DrawTT (w : World) (e : Ending) (w' : World) : Prop := ∃ s t : ByteArray, s.size ≤ 400 ∧ t.size ≤ 400 ∧ e = .returned (.tuple #[.string s, .string t]) ∧ Below w.heap.size w w'
theorem OwnL.weak {w : World} {base base' : Nat} {v : Value} {l : List ByteArray} (h : OwnL w base v l) (hb : base' ≤ base) : OwnL w base' v l := by
  obtain ⟨ho, g, cap, rfl⟩ := h
  refine ⟨⟨ho.1, ?_⟩, g, cap, rfl⟩
  rcases ho.2 with h' | ⟨g, cap, cur, h1, h2, r⟩
  · exact .inl h'
  · exact .inr ⟨g, cap, cur, h1, Nat.le_trans hb h2, r⟩
theorem drawPathOk (a : Option Addr) (len cap : Nat) (w : World) (hC : CodeIn w a len) : Calls Try.prog 10 #[.slice a len cap] w (DrawT w) := by
  have HC := Lib.hid hC
  clear hC
  go_enter Try.func10, Try.ntmps10
  go_wp2_with fail
  refine (new_any a len cap _ HC.out).mono ?_
  rintro e w1 ⟨rfl, hc1, b1⟩
  go_wp2_with fail
  refine (anyT_any _ a len cap _ _ hc1).mono ?_
  rintro e w2 ⟨t, ht, rfl, hc2, g2⟩
  go_wp2_with fail
  go_ret
  exact ⟨t, by omega, rfl, below_of_g b1 (Nat.le_refl _) g2⟩
theorem drawParts (a : Option Addr) (len cap : Nat) (w : World) (hC : CodeIn w a len) : Calls Try.prog 11 #[.slice a len cap] w (DrawT w) := by
  have HC := Lib.hid hC
  clear hC
  go_enter Try.func11, Try.ntmps11
  go_wp2_with fail
  refine (new_any a len cap _ HC.out).mono ?_
  rintro e w1 ⟨rfl, hc1, b1⟩
  go_wp2_with fail
  refine (anyT_any _ a len cap _ _ hc1).mono ?_
  rintro e w2 ⟨t, ht, rfl, hc2, g2⟩
  go_wp2_with fail
  go_ret
  exact ⟨t, by omega, rfl, below_of_g b1 (Nat.le_refl _) g2⟩
theorem drawDir (a : Option Addr) (len cap : Nat) (w : World) (hC : CodeIn w a len) : Calls Try.prog 13 #[.slice a len cap] w (DrawT w) := by
  have HC := Lib.hid hC
  clear hC
  go_enter Try.func13, Try.ntmps13
  go_wp2_with fail
  refine (new_any a len cap _ HC.out).mono ?_
  rintro e w1 ⟨rfl, hc1, b1⟩
  go_wp2_with fail
  refine (anyT_any _ a len cap _ _ hc1).mono ?_
  rintro e w2 ⟨t, ht, rfl, hc2, g2⟩
  go_wp2_with fail
  go_ret
  exact ⟨t, by omega, rfl, below_of_g b1 (Nat.le_refl _) g2⟩
theorem drawBase (a : Option Addr) (len cap : Nat) (w : World) (hC : CodeIn w a len) : Calls Try.prog 14 #[.slice a len cap] w (DrawT w) := by
  have HC := Lib.hid hC
  clear hC
  go_enter Try.func14, Try.ntmps14
  go_wp2_with fail
  refine (new_any a len cap _ HC.out).mono ?_
  rintro e w1 ⟨rfl, hc1, b1⟩
  go_wp2_with fail
  refine (anyT_any _ a len cap _ _ hc1).mono ?_
  rintro e w2 ⟨t, ht, rfl, hc2, g2⟩
  go_wp2_with fail
  go_ret
  exact ⟨t, by omega, rfl, below_of_g b1 (Nat.le_refl _) g2⟩
theorem drawDepth (a : Option Addr) (len cap : Nat) (w : World) (hC : CodeIn w a len) : Calls Try.prog 15 #[.slice a len cap] w (DrawT w) := by
  have HC := Lib.hid hC
  clear hC
  go_enter Try.func15, Try.ntmps15
  go_wp2_with fail
  refine (new_any a len cap _ HC.out).mono ?_
  rintro e w1 ⟨rfl, hc1, b1⟩
  go_wp2_with fail
  refine (anyT_any _ a len cap _ _ hc1).mono ?_
  rintro e w2 ⟨t, ht, rfl, hc2, g2⟩
  go_wp2_with fail
  go_ret
  exact ⟨t, by omega, rfl, below_of_g b1 (Nat.le_refl _) g2⟩
theorem drawParents (a : Option Addr) (len cap : Nat) (w : World) (hC : CodeIn w a len) : Calls Try.prog 17 #[.slice a len cap] w (DrawT w) := by
  have HC := Lib.hid hC
  clear hC
  go_enter Try.func17, Try.ntmps17
  go_wp2_with fail
  refine (new_any a len cap _ HC.out).mono ?_
  rintro e w1 ⟨rfl, hc1, b1⟩
  go_wp2_with fail
  refine (anyT_any _ a len cap _ _ hc1).mono ?_
  rintro e w2 ⟨t, ht, rfl, hc2, g2⟩
  go_wp2_with fail
  go_ret
  exact ⟨t, by omega, rfl, below_of_g b1 (Nat.le_refl _) g2⟩

theorem drawJoin (a : Option Addr) (len cap : Nat) (w : World) (hC : CodeIn w a len) : Calls Try.prog 12 #[.slice a len cap] w fun e w' => ∃ (s : ByteArray) (v : Value), s.size ≤ 400 ∧ e = .returned v ∧ OwnL w' w.heap.size v (partsv s) ∧ Below w.heap.size w w' := by
  have HC := Lib.hid hC
  clear hC
  go_enter Try.func12, Try.ntmps12
  go_wp2_with fail
  refine (new_any a len cap _ HC.out).mono ?_
  rintro e w1 ⟨rfl, hc1, b1⟩
  go_wp2_with fail
  refine (anyT_any _ a len cap _ _ hc1).mono ?_
  rintro e w2 ⟨t, ht, rfl, hc2, g2⟩
  have B2 := Lib.hid (below_of_g b1 (Nat.le_refl _) g2)
  clear hc2 g2 hc1 b1
  go_wp2_with fail
  refine (parts_spec t _ (by omega)).mono ?_
  rintro e w3 ⟨v, rfl, ho, hb⟩
  go_wp2_with fail
  go_ret
  exact ⟨t, v, by omega, rfl, ho.weak B2.out.size, B2.out.trans (hb.mono B2.out.size)⟩

theorem drawPartOk (a : Option Addr) (len cap : Nat) (w : World) (hC : CodeIn w a len) : Calls Try.prog 9 #[.slice a len cap] w (DrawT w) := by
  have HC := Lib.hid hC
  clear hC
  go_enter Try.func9, Try.ntmps9
  go_wp2_with fail
  refine (new_any a len cap _ HC.out).mono ?_
  rintro e w1 ⟨rfl, hc1, b1⟩
  have C1 := Lib.hid hc1
  have B1 := Lib.hid b1
  clear hc1 b1
  go_wp2_with fail
  refine (once_any _ a len cap _ _ _ C1.out (by omega) (by omega)).mono ?_
  rintro e w2 ⟨b, rfl, hc2, g2⟩
  have C2 := Lib.hid hc2
  have G2 := Lib.hid g2
  clear hc2 g2
  cases b with
  | true =>
    go_wp2_with fail
    refine (long_any _ a len cap _ _ C2.out).mono ?_
    rintro e w3 ⟨t, ht, rfl, hc3, g3⟩
    go_wp2_with fail
    go_ret
    exact ⟨t, by omega, rfl, below_of_g B1.out (Nat.le_refl _) (gtrans G2.out g3)⟩
  | false =>
    have HL := Lib.hid (listSAt_lit 3 w2 [⟨#[97]⟩, ⟨#[46]⟩, ⟨#[46, 46]⟩, ⟨#[46, 46, 46]⟩, ⟨#[]⟩, ⟨#[97, 47, 98]⟩, ⟨#[97, 32, 98]⟩, ⟨#[126]⟩, ⟨#[127]⟩, ⟨#[33]⟩] (by decide) 9)
    have hne := Nat.ne_of_gt C2.out.lt
    go_wp2_with fail
    refine (pick_any 3 _ a len cap _ w2.heap.size 10 _ (C2.out.alloc _) HL.out hne (by omega) (by omega)).mono ?_
    rintro e w3 ⟨t, ht, rfl, hc3, g3⟩
    go_wp2_with fail
    go_ret
    exact ⟨t, by omega, rfl, below_of_g B1.out (Nat.le_refl _) (gtrans G2.out (gtrans (galloc _ _ _) g3))⟩


theorem drawUnder (a : Option Addr) (len cap : Nat) (w : World) (hC : CodeIn w a len) : Calls Try.prog 16 #[.slice a len cap] w (DrawTT w) := by
  have HC := Lib.hid hC
  clear hC
  go_enter Try.func16, Try.ntmps16
  go_wp2_with fail
  refine (new_any a len cap _ HC.out).mono ?_
  rintro e w1 ⟨rfl, hc1, b1⟩
  have C1 := Lib.hid hc1
  have B1 := Lib.hid b1
  clear hc1 b1
  go_wp2_with fail
  refine (path_any _ a len cap _ _ C1.out).mono ?_
  rintro e w2 ⟨s, hs, rfl, hc2, g2⟩
  have C2 := Lib.hid hc2
  have B2 := Lib.hid (below_of_g B1.out (Nat.le_refl _) g2)
  clear hc2 g2 C1 B1
  have HM := Lib.hid (fun i (hi : i < (parentsv s).length) => (parents_at hi).2.2)
  have hle := parentsv_le s
  have HP := Lib.hid (fun w => parents_spec s w (by omega))
  go_wp2_with fail
  generalize parentsv s = L at HP HM hle
  refine (HP.out _).mono ?_
  rintro e w3 ⟨v, rfl, ⟨ho3, g3, cap3, rfl⟩, hb3⟩
  have R3 := Lib.hid (OwnT.rowF ho3)
  have l3 := (World.ownsRow.lt ho3 g3 rfl)
  have C3 := Lib.hid (C2.out.below hb3)
  have hgc : g3 ≠ w.heap.size := by have := C2.out.lt; omega
  have B3 := Lib.hid (B2.out.trans (hb3.mono B2.out.size))
  clear ho3 hb3 HP C2 B2
  generalize L.length = n at R3 HM hle ⊢
  by_cases hn : (0 : Int) < (n : Int)
  · go_wp2_with fail
    refine (once_any _ a len cap _ _ _ C3.out (by omega) (by omega)).mono ?_
    rintro e w4 ⟨b, rfl, hc4, g4⟩
    have C4 := Lib.hid hc4
    have B4 := Lib.hid (below_of_g B3.out (Nat.le_refl _) g4)
    have R4 : Hid (RowF w4 g3 n (rowOf L)) := Lib.hid (fun i hi => g4.cell (R3.out i hi) (by simpa using hgc))
    clear hc4 g4 C3 B3 R3
    cases b with
    | true =>
      go_wp2_with fail
      have B4d : Hid (Below w.heap.size w w4.drew) := Lib.hid ⟨B4.out.os, B4.out.tape, B4.out.output, B4.out.size, B4.out.block⟩
      have R4d : Hid (RowF w4.drew g3 n (rowOf L)) := Lib.hid R4.out
      go_region_with (go_at_call 52; refine (below_any w.heap.size a len cap w.heap.size (n : Int) _ (by exact C4.out) (by omega) (by omega)).mono ?_; rintro e w5 ⟨x, hx, rfl, hc5, g5⟩; obtain ⟨k, rfl⟩ := Int.eq_ofNat_of_zero_le hx.1; have hcell : w5.cell? ⟨g3, k, none⟩ = some (.string (rowOf L k)) := g5.cell (R4d.out k (by omega)) (by simpa using hgc); have HK := Lib.hid (HM.out k (by omega)); have hlt : (k : Int) < (n : Int) := hx.2; have B5 := Lib.hid (below_of_g B4d.out (Nat.le_refl _) g5); clear hc5 g5; generalize rowOf L k = t at hcell HK)
      all_goals
        go_wp2
        go_ret2
        exact ⟨s, t, by omega, by have := HK.out; omega, rfl, B5.out⟩
    | false =>
      go_wp2_with fail
      refine (anyT_any _ a len cap _ _ C4.out).mono ?_
      rintro e w5 ⟨t, ht, rfl, hc5, g5⟩
      go_wp2_with fail
      go_ret2
      exact ⟨s, t, by omega, by omega, rfl, below_of_g B4.out (Nat.le_refl _) g5⟩
  · go_wp2_with fail
    refine (anyT_any _ a len cap _ _ C3.out).mono ?_
    rintro e w5 ⟨t, ht, rfl, hc5, g5⟩
    go_wp2_with fail
    go_ret2
    exact ⟨s, t, by omega, by omega, rfl, below_of_g B3.out (Nat.le_refl _) g5⟩

theorem drawClean (a : Option Addr) (len cap : Nat) (w : World) (hC : CodeIn w a len) : Calls Try.prog 37 #[.slice a len cap] w (DrawT w) := by
  have HC := Lib.hid hC
  clear hC
  go_enter Try.func37, Try.ntmps37
  go_wp2_with fail
  refine (new_any a len cap _ HC.out).mono ?_
  rintro e w1 ⟨rfl, hc1, b1⟩
  have C1 := Lib.hid hc1
  have B1 := Lib.hid b1
  clear hc1 b1
  go_wp2_with fail
  refine (anyT_any _ a len cap _ _ C1.out).mono ?_
  rintro e w2 ⟨t, ht, rfl, hc2, g2⟩
  have C2 := Lib.hid hc2
  have G2 := Lib.hid g2
  clear hc2 g2
  have HL := Lib.hid (listSAt_lit 5 w2 [⟨#[]⟩, ⟨#[47, 46, 46]⟩, ⟨#[47, 46, 47]⟩, ⟨#[47, 46, 46, 47, 98]⟩] (by decide) 9)
  have hne := Nat.ne_of_gt C2.out.lt
  go_wp2_with fail
  refine (pick_any 5 _ a len cap _ w2.heap.size 4 _ (C2.out.alloc _) HL.out hne (by omega) (by omega)).mono ?_
  rintro e w3 ⟨u, hu, rfl, hc3, g3⟩
  go_wp2_with fail
  go_ret
  exact ⟨t ++ u, by rw [sz_app]; omega, rfl, below_of_g B1.out (Nat.le_refl _) (gtrans G2.out (gtrans (galloc _ _ _) g3))⟩


theorem drawFollow (a : Option Addr) (len cap : Nat) (w : World) (hC : CodeIn w a len) : Calls Try.prog 40 #[.slice a len cap] w (DrawTT w) := by
  have HC := Lib.hid hC
  clear hC
  go_enter Try.func40, Try.ntmps40
  go_wp2_with fail
  refine (new_any a len cap _ HC.out).mono ?_
  rintro e w1 ⟨rfl, hc1, b1⟩
  have C1 := Lib.hid hc1
  have B1 := Lib.hid b1
  clear hc1 b1
  go_wp2_with fail
  refine (path_any _ a len cap _ _ C1.out).mono ?_
  rintro e w2 ⟨t, ht, rfl, hc2, g2⟩
  have C2 := Lib.hid hc2
  have G2 := Lib.hid g2
  clear hc2 g2
  have HD := Lib.hid (fun w => dir_spec t w (by omega))
  have hds : (dirv t).size ≤ 300 := by
    unfold dirv; split
    · simp [ByteArray.size]
    · simp; omega
  go_wp2_with fail
  generalize dirv t = d at HD hds
  refine (HD.out _).mono ?_
  rintro e w3 ⟨rfl, rfl⟩
  have HL := Lib.hid (listSAt_lit 6 w2 [⟨#[]⟩, ⟨#[47]⟩, ⟨#[46, 46, 47]⟩, ⟨#[46, 47]⟩, ⟨#[46, 46, 47, 46, 46, 47]⟩] (by decide) 9)
  have hne := Nat.ne_of_gt C2.out.lt
  go_wp2_with fail
  refine (pick_any 6 _ a len cap _ w2.heap.size 5 _ (C2.out.alloc _) HL.out hne (by omega) (by omega)).mono ?_
  rintro e w3 ⟨u, hu, rfl, hc3, g3⟩
  have C3 := Lib.hid hc3
  have G3 := Lib.hid (gtrans G2.out (gtrans (galloc _ _ _) g3))
  clear hc3 g3 C2 G2 HL
  go_wp2_with fail
  refine (anyT_any _ a len cap _ _ C3.out).mono ?_
  rintro e w4 ⟨x, hx, rfl, hc4, g4⟩
  go_wp2_with fail
  go_ret2
  exact ⟨d, u ++ x, by omega, by rw [sz_app]; omega, rfl, below_of_g B1.out (Nat.le_refl _) (gtrans G3.out g4)⟩

end Go.Proofs.Ytifkgihhdmmhdab
