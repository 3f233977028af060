/- Contract of laws.heldEntryS. -/
import Derived.Test.YtpimeekcnndhiaaMarkE
namespace Go.Proofs.Ytpimeekcnndhiaa
open Go.ChangeShapes Go.WideShapes Go.ChangeAt Go.RowKit Go.Deep

set_option maxHeartbeats 3200000 in
set_option maxRecDepth 8000 in
theorem heldEntryS_any (n g cap k : Nat) (w : World) (hk : 1 ≤ k) (hn : k + n * 10 ≤ 100000000) (hg : g < w.heap.size) (h1 : RowE w g (marksE k n)) :
    Calls Try.prog 20 #[.slice (some ⟨g, 0, none⟩) n cap, .int .i64 k] w fun e w' => e = .returned (.int .i64 ((k + n * 10 : Nat) : Int)) ∧ Below w.heap.size w w' := by
  have H1 := Lib.hid h1
  clear h1
  go_enter Try.func20, Try.ntmps20
  go_wp2_with fail
  go_loopw [1, 5] (fun x u wr => ∃ (i : Nat), i ≤ n ∧ x = .int .i64 ((k + i * 10 : Nat) : Int) ∧ u = .int .i64 i ∧ Below w.heap.size w wr) (fun _ u _ => n - (intOf u).toNat)
  case atStart => exact ⟨0, Nat.zero_le _, by simp, rfl, Below.refl _ _⟩
  case round =>
    obtain ⟨i, hi, rfl, rfl, hb⟩ := hrel
    have B0 := Lib.hid hb
    clear hb
    by_cases hlt : i < n
    · have hlt2 : (i : Int) < (n : Int) := by omega
      have hK : k + i * 10 + 10 ≤ 100000000 := by omega
      have hK1 : 1 ≤ k + i * 10 := by omega
      have R0 := Lib.hid (H1.out.below B0.out hg)
      have HG := Lib.hid (marksE_get k n i hlt)
      generalize hKe : k + i * 10 = K at *
      have hMT := Lib.hid (fun (x : Int) (j : Nat) w (hx : x = ((K + j : Nat) : Int)) (hj : j ≤ 10) => (by rw [hx]; exact markText_any (K + j) w (by omega) (by omega) : Calls Try.prog 34 #[.int .i64 x] w fun e w' => e = .returned (.string (markv (K + j))) ∧ Below w.heap.size w w'))
      have q1 := self_eqE (markv (K + 1))
      have q2 := self_eqE (markv (K + 2))
      have q7 := self_eqE (markv (K + 7))
      have q8 := self_eqE (markv (K + 8))
      have q9 := self_eqE (markv (K + 9))
      have B : Hid (Below w.heap.size w wr) := B0
      have R : Hid (RowE wr g (marksE k n)) := R0
      have z : g < wr.heap.size := by have := B0.out.size; omega
      clear B0 R0
      obtain ⟨c0, c1, c2, c3, c4, c5, c6, c7, c8, c9⟩ := R.out.ten HG.out
      simp only [markEnt] at c0 c1 c2 c3 c4 c5 c6 c7 c8 c9
      go_wp2_with fail
      replace B : Hid (Below w.heap.size w wr.drew) := Lib.hid B.out.drew
      replace R : Hid (RowE wr.drew g (marksE k n)) := Lib.hid R.out
      replace z : g < wr.drew.heap.size := z
      go_region_held3 (fun w' => w'.cell? ⟨g, i * 10 + 1, none⟩ = some (.string (markv (K + 1)))) (assumption) (first | (go_at_call 34; refine (hMT.out _ 1 _ (by omega) (by omega)).mono ?_; rintro e w1 ⟨rfl, hb⟩; have d1 := kept_cellE hb z c1; replace B := Lib.hid (btE B.out hb); replace R := Lib.hid (R.out.below hb z); replace z := Nat.lt_of_lt_of_le z hb.size; clear hb))
      clear c0 c1 c2 c3 c4 c5 c6 c7 c8 c9
      obtain ⟨c0, c1, c2, c3, c4, c5, c6, c7, c8, c9⟩ := R.out.ten HG.out
      simp only [markEnt] at c0 c1 c2 c3 c4 c5 c6 c7 c8 c9
      go_wp2_with fail
      replace B : Hid (Below w.heap.size w w1.drew) := Lib.hid B.out.drew
      replace R : Hid (RowE w1.drew g (marksE k n)) := Lib.hid R.out
      replace z : g < w1.drew.heap.size := z
      go_region_held3 (fun w' => w'.cell? ⟨g, i * 10 + 2, none⟩ = some (.string (markv (K + 2)))) (assumption) (first | (go_at_call 34; refine (hMT.out _ 2 _ (by omega) (by omega)).mono ?_; rintro e w2 ⟨rfl, hb⟩; have d2 := kept_cellE hb z c2; replace B := Lib.hid (btE B.out hb); replace R := Lib.hid (R.out.below hb z); replace z := Nat.lt_of_lt_of_le z hb.size; clear hb))
      clear c0 c1 c2 c3 c4 c5 c6 c7 c8 c9
      obtain ⟨c0, c1, c2, c3, c4, c5, c6, c7, c8, c9⟩ := R.out.ten HG.out
      simp only [markEnt] at c0 c1 c2 c3 c4 c5 c6 c7 c8 c9
      go_wp2_with fail
      replace B : Hid (Below w.heap.size w w2.drew) := Lib.hid B.out.drew
      replace R : Hid (RowE w2.drew g (marksE k n)) := Lib.hid R.out
      replace z : g < w2.drew.heap.size := z
      go_region_held3 (fun w' => w'.cell? ⟨g, i * 10 + 7, none⟩ = some (.string (markv (K + 7)))) (assumption) (first | (go_at_call 34; refine (hMT.out _ 7 _ (by omega) (by omega)).mono ?_; rintro e w7 ⟨rfl, hb⟩; have d7 := kept_cellE hb z c7; replace B := Lib.hid (btE B.out hb); replace R := Lib.hid (R.out.below hb z); replace z := Nat.lt_of_lt_of_le z hb.size; clear hb))
      clear c0 c1 c2 c3 c4 c5 c6 c7 c8 c9
      obtain ⟨c0, c1, c2, c3, c4, c5, c6, c7, c8, c9⟩ := R.out.ten HG.out
      simp only [markEnt] at c0 c1 c2 c3 c4 c5 c6 c7 c8 c9
      go_wp2_with fail
      replace B : Hid (Below w.heap.size w w7.drew) := Lib.hid B.out.drew
      replace R : Hid (RowE w7.drew g (marksE k n)) := Lib.hid R.out
      replace z : g < w7.drew.heap.size := z
      go_region_held3 (fun w' => w'.cell? ⟨g, i * 10 + 8, none⟩ = some (.string (markv (K + 8)))) (assumption) (first | (go_at_call 34; refine (hMT.out _ 8 _ (by omega) (by omega)).mono ?_; rintro e w8 ⟨rfl, hb⟩; have d8 := kept_cellE hb z c8; replace B := Lib.hid (btE B.out hb); replace R := Lib.hid (R.out.below hb z); replace z := Nat.lt_of_lt_of_le z hb.size; clear hb))
      clear c0 c1 c2 c3 c4 c5 c6 c7 c8 c9
      obtain ⟨c0, c1, c2, c3, c4, c5, c6, c7, c8, c9⟩ := R.out.ten HG.out
      simp only [markEnt] at c0 c1 c2 c3 c4 c5 c6 c7 c8 c9
      go_wp2_with fail
      replace B : Hid (Below w.heap.size w w8.drew) := Lib.hid B.out.drew
      replace R : Hid (RowE w8.drew g (marksE k n)) := Lib.hid R.out
      replace z : g < w8.drew.heap.size := z
      go_region_held3 (fun w' => w'.cell? ⟨g, i * 10 + 9, none⟩ = some (.string (markv (K + 9)))) (assumption) (first | (go_at_call 34; refine (hMT.out _ 9 _ (by omega) (by omega)).mono ?_; rintro e w9 ⟨rfl, hb⟩; have d9 := kept_cellE hb z c9; replace B := Lib.hid (btE B.out hb); replace R := Lib.hid (R.out.below hb z); replace z := Nat.lt_of_lt_of_le z hb.size; clear hb))
      clear c0 c1 c2 c3 c4 c5 c6 c7 c8 c9
      go_wp2_with fail
      go_roundw
      case rel => exact ⟨i + 1, by omega, by go_num, by go_num, B.out⟩
      case measure => simp [intOf]; omega
    · obtain rfl : i = n := by omega
      have hlt2 : ¬ (i : Int) < (i : Int) := by omega
      go_wp2_with fail
      go_ret
      exact ⟨rfl, B0.out⟩
end Go.Proofs.Ytpimeekcnndhiaa
