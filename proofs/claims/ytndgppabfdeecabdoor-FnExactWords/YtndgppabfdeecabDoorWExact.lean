/- The law laws.FnExactWords returns true. -/
import Derived.Test.YtndgppabfdeecabDoorWSpec
namespace Go.Proofs.YtndgppabfdeecabDoor
open Go.ChangeShapes Go.WideShapes Go.ChangeAt Go.RowKit

theorem some_block {w : World} {b i : Nat} {v : Value} (h : w.cell? ⟨b, i, none⟩ = some v) : b < w.heap.size := by
  rcases Nat.lt_or_ge b w.heap.size with h' | h'
  · exact h'
  · have e : w.heap[b]? = none := Array.getElem?_eq_none h'
    simp [World.cell?, e] at h

theorem words_law (s : ByteArray) (m : Int) (w : World) (hm : w.cell? ⟨0, 0, none⟩ = some (.int .i64 m)) :
    Calls Tryd.prog 3 #[.string s] w fun e w' => e = .returned (.bool true) ∧ Below w.heap.size w w' := by
  have h0 := some_block hm
  have HM := Lib.hid hm
  clear hm
  by_cases hs : s.size ≤ 1048576
  · have hle := count_le s
    have hln := wordsv_len s
    have hn : (wordsv s).length ≤ 2097152 := by omega
    have hn1 : ¬ ((wordsv s).length : Int) + 1 < 0 := by omega
    have HN := Lib.hid hn
    have HI := Lib.hid (words_impl s m)
    have HS := Lib.hid (words_spec s)
    clear hle hln hn
    have HF : Hid (∀ {w : World} {base g n cap : Nat}, OwnT w base (.slice (some ⟨g, 0, none⟩) n cap) n (strVals (wordsv s)) → RowF w g n (wordR s)) := Lib.hid (fun h => h.rowF)
    generalize hL : wordsv s = L at HI HS HF HN hn1
    clear hL
    generalize wordR s = R at HF
    generalize hLn : L.length = n at *
    go_enter Tryd.func3, Tryd.ntmps3
    go_wp2_with fail
    refine (HS.out _ (by omega)).mono ?_
    rintro e w1 ⟨v, rfl, ⟨ho1, g1, cap1, rfl⟩, hb1⟩
    rw [hLn] at ho1
    have O1 := Lib.hid ho1
    have B1 := Lib.hid hb1
    have l1 := (World.ownsRow.lt ho1 g1 rfl)
    have z1 := hb1.size
    clear ho1 hb1
    go_wp2_with fail
    refine (HI.out w1 (by omega) (by omega) ((B1.out.cell (p := ⟨0, 0, none⟩) h0).trans HM.out)).mono ?_
    rintro e w2 ⟨g2, rfl, le2, lt2, ho2, hb2⟩
    have O2 := Lib.hid ho2
    have B2 := Lib.hid hb2
    have z2 := hb2.size
    clear ho2 hb2
    have R12 : Hid (RowF w2 g1 n R) := Lib.hid ((HF.out O1.out).below B2.out l1.2)
    have C2 : Hid (Below w.heap.size w w2) := Lib.hid (B1.out.trans (B2.out.mono z1))
    go_wp2_with fail
    refine (eqS_any R n g2 g1 n cap1 w2 HN.out lt2 (by omega) (HF.out O2.out) R12.out).mono ?_
    rintro e w3 ⟨rfl, hb3⟩
    have O3 := Lib.hid (O2.out.below hb3 lt2)
    have R13 : Hid (RowF w3 g1 n R) := Lib.hid (R12.out.below hb3 (by omega))
    have z3 := hb3.size
    have C3 : Hid (Below w.heap.size w w3) := Lib.hid (C2.out.trans (hb3.mono (by omega)))
    clear hb3 R12 C2 O2 B2
    go_wp2_with fail
    refine (markS_any n g2 n _ w3 HN.out O3.out).mono ?_
    rintro e w4 ⟨rfl, hr4, lt4, hb4⟩
    have M4 := Lib.hid hr4
    have R14 : Hid (RowF w4 g1 n R) := Lib.hid (R13.out.below hb4 (by omega))
    have z4 := hb4.size
    have C4 : Hid (Below w.heap.size w w4) := Lib.hid (C3.out.trans (hb4.mono (by omega)))
    clear hb4 hr4 R13 C3 O3
    go_wp2_with fail
    refine (heldS_any n g2 n w4 HN.out lt4 M4.out).mono ?_
    rintro e w5 ⟨rfl, hb5⟩
    have M5 := Lib.hid (M4.out.below hb5 lt4)
    have R15 : Hid (RowF w5 g1 n R) := Lib.hid (R14.out.below hb5 (by omega))
    have z5 := hb5.size
    have C5 : Hid (Below w.heap.size w w5) := Lib.hid (C4.out.trans (hb5.mono (by omega)))
    clear hb5 M4 R14 C4
    go_wp2_with fail
    refine (HI.out w5 (by omega) (by omega) ((C5.out.cell (p := ⟨0, 0, none⟩) h0).trans HM.out)).mono ?_
    rintro e w6 ⟨g3, rfl, le6, lt6, ho6, hb6⟩
    have O6 := Lib.hid ho6
    have M6 := Lib.hid (M5.out.below hb6 (by omega))
    have R16 : Hid (RowF w6 g1 n R) := Lib.hid (R15.out.below hb6 (by omega))
    have z6 := hb6.size
    have C6 : Hid (Below w.heap.size w w6) := Lib.hid (C5.out.trans (hb6.mono (by omega)))
    clear ho6 hb6 M5 R15 C5
    go_wp2_with fail
    refine (eqS_any R n g3 g1 n cap1 w6 HN.out lt6 (by omega) (HF.out O6.out) R16.out).mono ?_
    rintro e w7 ⟨rfl, hb7⟩
    have M7 := Lib.hid (M6.out.below hb7 (by omega))
    have z7 := hb7.size
    have C7 : Hid (Below w.heap.size w w7) := Lib.hid (C6.out.trans (hb7.mono (by omega)))
    clear hb7 M6 C6
    go_wp2_with fail
    refine (heldS_any n g2 n w7 HN.out (by omega) M7.out).mono ?_
    rintro e w8 ⟨rfl, hb8⟩
    have C8 : Hid (Below w.heap.size w w8) := Lib.hid (C7.out.trans (hb8.mono (by omega)))
    clear hb8 M7 C7
    go_wp2_with fail
    go_ret
    exact ⟨rfl, C8.out⟩
  · go_enter Tryd.func3, Tryd.ntmps3
    go_wp2_with fail
    go_ret
    exact ⟨rfl, Below.refl _ _⟩
end Go.Proofs.YtndgppabfdeecabDoor
