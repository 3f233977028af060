/- The law laws.FnExactParents returns true. -/
import Derived.Test.YtifkgihhdmmhdaaParents
namespace Go.Proofs.Ytifkgihhdmmhdaa
open Go.RowKit Go.Shelf

theorem parents_law (s : ByteArray) (w : World) :
    Calls Try.prog 11 #[.string s] w fun e w' => e = .returned (.bool true) ∧ Below w.heap.size w w' := by
  by_cases hs : s.size ≤ 1048576
  · have hn : (parentsv s).length ≤ 2097152 := by have := parentsv_le s; omega
    have hn1 : ¬ ((parentsv s).length : Int) + 1 < 0 := by omega
    have HN := Lib.hid hn
    have HI := Lib.hid (fun w => parents_impl s w hs)
    have HS := Lib.hid (fun w => parents_spec s w hs)
    clear hn
    generalize parentsv s = L at HI HS HN hn1
    have HF : Hid (∀ {w : World} {base g n cap : Nat}, OwnT w base (.slice (some ⟨g, 0, none⟩) n cap) n (strVals L) → RowF w g n (rowOf L)) := Lib.hid (fun h => h.rowF)
    generalize rowOf L = R at HF
    generalize hLn : L.length = n at *
    go_enter Try.func11, Try.ntmps11
    go_wp2_with fail
    refine (HS.out _).mono ?_
    rintro e w1 ⟨v, rfl, ⟨ho1, g1, cap1, rfl⟩, hb1⟩
    rw [hLn] at ho1 ⊢
    have O1 := Lib.hid ho1
    have B1 := Lib.hid hb1
    have l1 := (World.ownsRow.lt ho1 g1 rfl)
    have z1 := hb1.size
    clear ho1 hb1
    go_wp2_with fail
    refine (HI.out w1).mono ?_
    rintro e w2 ⟨v2, rfl, ⟨ho2, g2, cap2, rfl⟩, hb2⟩
    rw [hLn] at ho2 ⊢
    have l2 := (World.ownsRow.lt ho2 g2 rfl)
    have O2 := Lib.hid (OwnT.rebase ho2)
    have B2 := Lib.hid hb2
    have z2 := hb2.size
    have le2 := l2.1
    have lt2 := l2.2
    clear ho2 hb2 l2
    have R12 : Hid (RowF w2 g1 n R) := Lib.hid ((HF.out O1.out).below B2.out l1.2)
    have C2 : Hid (Below w.heap.size w w2) := Lib.hid (B1.out.trans (B2.out.mono z1))
    go_wp2_with fail
    refine (eqS_any R n g2 g1 cap2 cap1 w2 HN.out lt2 (by omega) (HF.out O2.out) R12.out).mono ?_
    rintro e w3 ⟨rfl, hb3⟩
    have O3 := Lib.hid (O2.out.below hb3 lt2)
    have R13 : Hid (RowF w3 g1 n R) := Lib.hid (R12.out.below hb3 (by omega))
    have z3 := hb3.size
    have C3 : Hid (Below w.heap.size w w3) := Lib.hid (C2.out.trans (hb3.mono (by omega)))
    clear hb3 R12 C2 O2 B2
    go_wp2_with fail
    refine (markS_any n g2 cap2 _ w3 HN.out O3.out).mono ?_
    rintro e w4 ⟨rfl, hr4, lt4, hb4⟩
    have M4 := Lib.hid hr4
    have R14 : Hid (RowF w4 g1 n R) := Lib.hid (R13.out.below hb4 (by omega))
    have z4 := hb4.size
    have C4 : Hid (Below w.heap.size w w4) := Lib.hid (C3.out.trans (hb4.mono (by omega)))
    clear hb4 hr4 R13 C3 O3
    go_wp2_with fail
    refine (heldS_any n g2 cap2 w4 HN.out lt4 M4.out).mono ?_
    rintro e w5 ⟨rfl, hb5⟩
    have M5 := Lib.hid (M4.out.below hb5 lt4)
    have R15 : Hid (RowF w5 g1 n R) := Lib.hid (R14.out.below hb5 (by omega))
    have z5 := hb5.size
    have C5 : Hid (Below w.heap.size w w5) := Lib.hid (C4.out.trans (hb5.mono (by omega)))
    clear hb5 M4 R14 C4
    go_wp2_with fail
    refine (HI.out w5).mono ?_
    rintro e w6 ⟨v3, rfl, ⟨ho6, g3, cap3, rfl⟩, hb6⟩
    rw [hLn] at ho6 ⊢
    have l6 := (World.ownsRow.lt ho6 g3 rfl)
    have O6 := Lib.hid ho6
    have M6 := Lib.hid (M5.out.below hb6 (by omega))
    have R16 : Hid (RowF w6 g1 n R) := Lib.hid (R15.out.below hb6 (by omega))
    have z6 := hb6.size
    have C6 : Hid (Below w.heap.size w w6) := Lib.hid (C5.out.trans (hb6.mono (by omega)))
    have lt6 := l6.2
    clear ho6 hb6 M5 R15 C5 l6
    go_wp2_with fail
    refine (eqS_any R n g3 g1 cap3 cap1 w6 HN.out lt6 (by omega) (HF.out O6.out) R16.out).mono ?_
    rintro e w7 ⟨rfl, hb7⟩
    have M7 := Lib.hid (M6.out.below hb7 (by omega))
    have z7 := hb7.size
    have C7 : Hid (Below w.heap.size w w7) := Lib.hid (C6.out.trans (hb7.mono (by omega)))
    clear hb7 M6 C6
    go_wp2_with fail
    refine (heldS_any n g2 cap2 w7 HN.out (by omega) M7.out).mono ?_
    rintro e w8 ⟨rfl, hb8⟩
    have C8 : Hid (Below w.heap.size w w8) := Lib.hid (C7.out.trans (hb8.mono (by omega)))
    clear hb8 M7 C7
    go_wp2_with fail
    go_ret
    exact ⟨rfl, C8.out⟩
  · go_enter Try.func11, Try.ntmps11
    go_wp2_with fail
    go_ret
    exact ⟨rfl, Below.refl _ _⟩
end Go.Proofs.Ytifkgihhdmmhdaa
