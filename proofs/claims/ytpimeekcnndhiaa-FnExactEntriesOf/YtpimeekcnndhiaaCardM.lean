/- Contracts of laws.markCardS and laws.heldCardS. -/
import Derived.Test.YtpimeekcnndhiaaCardQ
import Derived.Test.YtpimeekcnndhiaaMarkT
namespace Go.Proofs.Ytpimeekcnndhiaa
open Go.ChangeShapes Go.WideShapes Go.ChangeAt Go.RowKit Go.Deep

def markC (k : Nat) : Card := ⟨(k : Int), (k : Int) + 1, (k : Int) + 2, (k : Int) + 3, (k : Int) + 4, (k : Int) + 5, markv (k + 6), markv (k + 7)⟩
def marksC (k : Nat) : Nat → List Card
  | 0 => []
  | n + 1 => marksC k n ++ [markC (k + n * 8)]
theorem marksC_len (k n : Nat) : (marksC k n).length = n := by
  induction n with
  | zero => rfl
  | succ n ih => simp [marksC, ih]
theorem marksC_get (k n i : Nat) (h : i < n) : (marksC k n)[i]? = some (markC (k + i * 8)) := by
  induction n with
  | zero => omega
  | succ n ih =>
    rw [marksC]
    by_cases e : i = n
    · subst e
      rw [List.getElem?_append_right (by rw [marksC_len]; omega), marksC_len]
      simp
    · rw [List.getElem?_append_left (by rw [marksC_len]; omega)]
      exact ih (by omega)
def MarkedC (ys : List Value) (k i : Nat) : Prop := FillC ys i (fun j => markC (k + j * 8))
theorem MarkedC.row {w : World} {base g n cap k : Nat} {ys : List Value} (h : MarkedC ys k n) (ho : w.ownsRow base 47 8 (.slice (some ⟨g, 0, none⟩) n cap) n ys) : RowC w g (marksC k n) := by
  intro j u hu
  have hj : j < n * 8 := by
    by_cases hj : j < n * 8
    · exact hj
    · rw [List.getElem?_eq_none (by rw [valsC_len, marksC_len]; omega)] at hu; cases hu
  have h1 := h (j / 8) (by omega) (j % 8) (by omega)
  have h2 := valsC_get (marksC k n) (j / 8) (j % 8) (by omega)
  rw [marksC_get _ _ _ (by omega)] at h2
  rw [show j / 8 * 8 + j % 8 = j from by omega] at h1 h2
  rw [hu] at h2
  have h3 : ys[j]? = some u := h1.trans h2.symm
  have := World.ownsRow.cells ho (g := g) rfl j u h3
  rwa [show (⟨g, 0, none⟩ : Addr).add j = ⟨g, j, none⟩ from by unfold Addr.add; split <;> simp_all] at this
theorem kept_cellC {x w1 : World} {g k : Nat} {t : Value} (h1 : Below x.heap.size x w1) (hg : g < x.heap.size) (hc : x.cell? ⟨g, k, none⟩ = .some t) : w1.cell? ⟨g, k, none⟩ = .some t := (h1.cell (p := ⟨g, k, none⟩) hg).trans hc
theorem self_eqC (a : ByteArray) : (a.toList == a.toList) = true := by simp
theorem grown_setC {w w' : World} {g : Nat} (h : w.grownBy w' (some g)) (o : Nat) (v : Value) : w.grownBy (w'.setCell ⟨g, o, none⟩ v) (some g) :=
  ⟨h.os, h.tape, h.output, by simpa using h.size, fun k hk hne => (Below.heap_setCell w' _ v k (fun e => hne (by rw [e]))).trans (h.block k hk hne)⟩
theorem grown_belowC {w w' w'' : World} {row : Option Nat} (h : w.grownBy w' row) (hb : Below w'.heap.size w' w'') : w.grownBy w'' row :=
  ⟨hb.os.trans h.os, hb.tape.trans h.tape, hb.output.trans h.output, Nat.le_trans h.size hb.size, fun k hk hne => (hb.block k (Nat.lt_of_lt_of_le hk h.size)).trans (h.block k hk hne)⟩
theorem own_belowC {w w' : World} {base : Nat} {ty : TypeId} {v : Value} {n : Nat} {xs : List Value} (h : w.ownsRow base ty 8 v n xs) (hb : Below w.heap.size w w') : w'.ownsRow base ty 8 v n xs :=
  World.ownsRow.kept h (row := none) ⟨hb.os, hb.tape, hb.output, hb.size, fun k hk _ => hb.block k hk⟩ (by cases hv : v.ownBlock <;> simp)
set_option maxHeartbeats 3200000 in
set_option maxRecDepth 8000 in
theorem markCardS_any (n g cap k : Nat) (base : Nat) (xs : List Value) (w : World) (hk : 1 ≤ k) (hn : k + n * 8 ≤ 100000000) (h1 : w.ownsRow base 47 8 (.slice (some ⟨g, 0, none⟩) n cap) n xs) :
    Calls Try.prog 14 #[.slice (some ⟨g, 0, none⟩) n cap, .int .i64 k] w fun e w' => e = .returned (.int .i64 ((k + n * 8 : Nat) : Int)) ∧ (∃ ys, w'.ownsRow base 47 8 (.slice (some ⟨g, 0, none⟩) n cap) n ys) ∧ RowC w' g (marksC k n) ∧ w.grownBy w' (some g) := by
  have H1 := Lib.hid h1
  clear h1
  go_enter Try.func14, Try.ntmps14
  go_wp2_with fail
  go_loopw [1, 5] (fun x u wr => ∃ (i : Nat) (ys : List Value), i ≤ n ∧ x = .int .i64 ((k + i * 8 : Nat) : Int) ∧ u = .int .i64 i ∧ wr.ownsRow base 47 8 (.slice (some ⟨g, 0, none⟩) n cap) n ys ∧ MarkedC ys k i ∧ w.grownBy wr (some g)) (fun _ u _ => n - (intOf u).toNat)
  case atStart => exact ⟨0, xs, Nat.zero_le _, by simp, rfl, H1.out, fun i hi => by omega, ⟨rfl, rfl, rfl, Nat.le_refl _, fun _ _ _ => rfl⟩⟩
  case round =>
    obtain ⟨i, ys, hi, rfl, rfl, ho, hr, hb⟩ := hrel
    have G := Lib.hid hb
    have O := Lib.hid ho
    have HR := Lib.hid hr
    have hys : ys.length = n * 8 := ho.1
    clear hb ho hr H1
    by_cases hlt : i < n
    · have hlt2 : (i : Int) < (n : Int) := by omega
      have HS : Hid (MarkedC (setC ys (i * 8) (markC (k + i * 8))) k (i + 1)) := Lib.hid (HR.out.step (by omega))
      clear HR
      have hK : k + i * 8 + 8 ≤ 100000000 := by omega
      have hK1 : 1 ≤ k + i * 8 := by omega
      generalize hKe : k + i * 8 = K at *
      have hMT := Lib.hid (fun (x : Int) (j : Nat) w (hx : x = ((K + j : Nat) : Int)) (hj : j ≤ 8) => (by rw [hx]; exact markText_any (K + j) w (by omega) (by omega) : Calls Try.prog 34 #[.int .i64 x] w fun e w' => e = .returned (.string (markv (K + j))) ∧ Below w.heap.size w w'))
      obtain ⟨y0, d0⟩ := own_cellC O.out hlt 0 (by omega)
      rw [Nat.add_zero] at d0
      have f0 := World.ownsRow.frozenAt O.out (i * 8)
      obtain ⟨y1, d1⟩ := own_cellC O.out hlt 1 (by omega)
      have f1 := World.ownsRow.frozenAt O.out (i * 8 + 1)
      obtain ⟨y2, d2⟩ := own_cellC O.out hlt 2 (by omega)
      have f2 := World.ownsRow.frozenAt O.out (i * 8 + 2)
      obtain ⟨y3, d3⟩ := own_cellC O.out hlt 3 (by omega)
      have f3 := World.ownsRow.frozenAt O.out (i * 8 + 3)
      obtain ⟨y4, d4⟩ := own_cellC O.out hlt 4 (by omega)
      have f4 := World.ownsRow.frozenAt O.out (i * 8 + 4)
      obtain ⟨y5, d5⟩ := own_cellC O.out hlt 5 (by omega)
      have f5 := World.ownsRow.frozenAt O.out (i * 8 + 5)
      go_wp2_with fail
      refine (hMT.out _ 6 _ (by omega) (by omega)).mono ?_
      rintro e w6 ⟨rfl, hb⟩
      have O6 := Lib.hid (own_belowC (World.ownsRow.stored (World.ownsRow.stored (World.ownsRow.stored (World.ownsRow.stored (World.ownsRow.stored (World.ownsRow.stored O.out (i * 8) (_)).1 (i * 8 + 1) (_)).1 (i * 8 + 2) (_)).1 (i * 8 + 3) (_)).1 (i * 8 + 4) (_)).1 (i * 8 + 5) (_)).1 hb)
      have G6 := Lib.hid (grown_belowC (grown_setC (grown_setC (grown_setC (grown_setC (grown_setC (grown_setC G.out (i * 8) (_)) (i * 8 + 1) (_)) (i * 8 + 2) (_)) (i * 8 + 3) (_)) (i * 8 + 4) (_)) (i * 8 + 5) (_)) hb)
      clear hb d0 f0 d1 f1 d2 f2 d3 f3 d4 f4 d5 f5
      obtain ⟨y6, d6⟩ := own_cellC O6.out hlt 6 (by omega)
      have f6 := World.ownsRow.frozenAt O6.out (i * 8 + 6)
      go_wp2_with fail
      refine (hMT.out _ 7 _ (by omega) (by omega)).mono ?_
      rintro e w7 ⟨rfl, hb⟩
      have O7 := Lib.hid (own_belowC (World.ownsRow.stored O6.out (i * 8 + 6) (.string (markv (K + 6)))).1 hb)
      have G7 := Lib.hid (grown_belowC (grown_setC G6.out (i * 8 + 6) (.string (markv (K + 6)))) hb)
      clear hb d6 f6
      obtain ⟨y7, d7⟩ := own_cellC O7.out hlt 7 (by omega)
      have f7 := World.ownsRow.frozenAt O7.out (i * 8 + 7)
      go_wp2_with fail
      go_roundw
      case rel => exact ⟨i + 1, _, by omega, by go_num, by go_num, (World.ownsRow.stored O7.out (i * 8 + 7) (.string (markv (K + 7)))).1, HS.out, (grown_setC G7.out (i * 8 + 7) (.string (markv (K + 7))))⟩
      case measure => simp [intOf]; omega
    · obtain rfl : i = n := by omega
      have hlt2 : ¬ (i : Int) < (i : Int) := by omega
      go_wp2_with fail
      go_ret
      exact ⟨rfl, ⟨ys, O.out⟩, HR.out.row O.out, G.out⟩
set_option maxHeartbeats 3200000 in
set_option maxRecDepth 8000 in
theorem heldCardS_any (n g cap k : Nat) (w : World) (hk : 1 ≤ k) (hn : k + n * 8 ≤ 100000000) (hg : g < w.heap.size) (h1 : RowC w g (marksC k n)) :
    Calls Try.prog 15 #[.slice (some ⟨g, 0, none⟩) n cap, .int .i64 k] w fun e w' => e = .returned (.int .i64 ((k + n * 8 : Nat) : Int)) ∧ Below w.heap.size w w' := by
  have H1 := Lib.hid h1
  clear h1
  go_enter Try.func15, Try.ntmps15
  go_wp2_with fail
  go_loopw [1, 5] (fun x u wr => ∃ (i : Nat), i ≤ n ∧ x = .int .i64 ((k + i * 8 : Nat) : Int) ∧ u = .int .i64 i ∧ Below w.heap.size w wr) (fun _ u _ => n - (intOf u).toNat)
  case atStart => exact ⟨0, Nat.zero_le _, by simp, rfl, Below.refl _ _⟩
  case round =>
    obtain ⟨i, hi, rfl, rfl, hb⟩ := hrel
    have B0 := Lib.hid hb
    clear hb
    by_cases hlt : i < n
    · have hlt2 : (i : Int) < (n : Int) := by omega
      have hK : k + i * 8 + 8 ≤ 100000000 := by omega
      have hK1 : 1 ≤ k + i * 8 := by omega
      have R0 := Lib.hid (H1.out.below B0.out hg)
      have HG := Lib.hid (marksC_get k n i hlt)
      generalize hKe : k + i * 8 = K at *
      have hMT := Lib.hid (fun (x : Int) (j : Nat) w (hx : x = ((K + j : Nat) : Int)) (hj : j ≤ 8) => (by rw [hx]; exact markText_any (K + j) w (by omega) (by omega) : Calls Try.prog 34 #[.int .i64 x] w fun e w' => e = .returned (.string (markv (K + j))) ∧ Below w.heap.size w w'))
      have q6 := self_eqC (markv (K + 6))
      have q7 := self_eqC (markv (K + 7))
      have B : Hid (Below w.heap.size w wr) := B0
      have R : Hid (RowC wr g (marksC k n)) := R0
      have z : g < wr.heap.size := by have := B0.out.size; omega
      clear B0 R0
      obtain ⟨c0, c1, c2, c3, c4, c5, c6, c7⟩ := R.out.cols HG.out
      simp only [markC] at c0 c1 c2 c3 c4 c5 c6 c7
      go_wp2_with fail
      replace B : Hid (Below w.heap.size w wr.drew) := Lib.hid B.out.drew
      replace R : Hid (RowC wr.drew g (marksC k n)) := Lib.hid R.out
      replace z : g < wr.drew.heap.size := z
      go_region_held3 (fun w' => w'.cell? ⟨g, i * 8 + 6, none⟩ = some (.string (markv (K + 6)))) (assumption) (first | (go_at_call 34; refine (hMT.out _ 6 _ (by omega) (by omega)).mono ?_; rintro e w6 ⟨rfl, hb⟩; have d6 := kept_cellC hb z c6; replace B := Lib.hid (btC B.out hb); replace R := Lib.hid (R.out.below hb z); replace z := Nat.lt_of_lt_of_le z hb.size; clear hb))
      clear c0 c1 c2 c3 c4 c5 c6 c7
      obtain ⟨c0, c1, c2, c3, c4, c5, c6, c7⟩ := R.out.cols HG.out
      simp only [markC] at c0 c1 c2 c3 c4 c5 c6 c7
      go_wp2_with fail
      replace B : Hid (Below w.heap.size w w6.drew) := Lib.hid B.out.drew
      replace R : Hid (RowC w6.drew g (marksC k n)) := Lib.hid R.out
      replace z : g < w6.drew.heap.size := z
      go_region_held3 (fun w' => w'.cell? ⟨g, i * 8 + 7, none⟩ = some (.string (markv (K + 7)))) (assumption) (first | (go_at_call 34; refine (hMT.out _ 7 _ (by omega) (by omega)).mono ?_; rintro e w7 ⟨rfl, hb⟩; have d7 := kept_cellC hb z c7; replace B := Lib.hid (btC B.out hb); replace R := Lib.hid (R.out.below hb z); replace z := Nat.lt_of_lt_of_le z hb.size; clear hb))
      clear c0 c1 c2 c3 c4 c5 c6 c7
      go_wp2_with fail
      go_roundw
      case rel => exact ⟨i + 1, by omega, by go_num, by go_num, B.out⟩
      case measure => simp [intOf]; omega
    · obtain rfl : i = n := by omega
      have hlt2 : ¬ (i : Int) < (i : Int) := by omega
      go_wp2_with fail
      go_ret
      exact ⟨rfl, B0.out⟩
end Go.Proofs.Ytpimeekcnndhiaa
