/- Contracts of laws.markRecordS and laws.heldRecordS. -/
import Derived.Test.YtlbanaakjabfnabDoorRecQ
import Derived.Test.YtlbanaakjabfnabDoorMarkT
namespace Go.Proofs.YtlbanaakjabfnabDoor
open Go.ChangeShapes Go.WideShapes Go.ChangeAt Go.RowKit Go.Deep

def markR (k : Nat) : Rec := ⟨markv k, markv (k + 1)⟩
def marksR (k : Nat) : Nat → List Rec
  | 0 => []
  | n + 1 => marksR k n ++ [markR (k + n * 2)]
theorem marksR_len (k n : Nat) : (marksR k n).length = n := by
  induction n with
  | zero => rfl
  | succ n ih => simp [marksR, ih]
theorem marksR_get (k n i : Nat) (h : i < n) : (marksR k n)[i]? = some (markR (k + i * 2)) := by
  induction n with
  | zero => omega
  | succ n ih =>
    rw [marksR]
    by_cases e : i = n
    · subst e
      rw [List.getElem?_append_right (by rw [marksR_len]; omega), marksR_len]
      simp
    · rw [List.getElem?_append_left (by rw [marksR_len]; omega)]
      exact ih (by omega)
def MarkedR (ys : List Value) (k i : Nat) : Prop := FillR ys i (fun j => markR (k + j * 2))
theorem MarkedR.row {w : World} {base g n cap k : Nat} {ys : List Value} (h : MarkedR ys k n) (ho : w.ownsRow base 44 2 (.slice (some ⟨g, 0, none⟩) n cap) n ys) : RowR w g (marksR k n) := by
  intro j u hu
  have hj : j < n * 2 := by
    by_cases hj : j < n * 2
    · exact hj
    · rw [List.getElem?_eq_none (by rw [valsR_len, marksR_len]; omega)] at hu; cases hu
  have h1 := h (j / 2) (by omega) (j % 2) (by omega)
  have h2 := valsR_get (marksR k n) (j / 2) (j % 2) (by omega)
  rw [marksR_get _ _ _ (by omega)] at h2
  rw [show j / 2 * 2 + j % 2 = j from by omega] at h1 h2
  rw [hu] at h2
  have h3 : ys[j]? = some u := h1.trans h2.symm
  have := World.ownsRow.cells ho (g := g) rfl j u h3
  rwa [show (⟨g, 0, none⟩ : Addr).add j = ⟨g, j, none⟩ from by unfold Addr.add; split <;> simp_all] at this
theorem kept_cellR {x w1 : World} {g k : Nat} {t : Value} (h1 : Below x.heap.size x w1) (hg : g < x.heap.size) (hc : x.cell? ⟨g, k, none⟩ = .some t) : w1.cell? ⟨g, k, none⟩ = .some t := (h1.cell (p := ⟨g, k, none⟩) hg).trans hc
theorem self_eqR (a : ByteArray) : (a.toList == a.toList) = true := by simp
theorem grown_setR {w w' : World} {g : Nat} (h : w.grownBy w' (some g)) (o : Nat) (v : Value) : w.grownBy (w'.setCell ⟨g, o, none⟩ v) (some g) :=
  ⟨h.os, h.tape, h.output, by simpa using h.size, fun k hk hne => (Below.heap_setCell w' _ v k (fun e => hne (by rw [e]))).trans (h.block k hk hne)⟩
theorem grown_belowR {w w' w'' : World} {row : Option Nat} (h : w.grownBy w' row) (hb : Below w'.heap.size w' w'') : w.grownBy w'' row :=
  ⟨hb.os.trans h.os, hb.tape.trans h.tape, hb.output.trans h.output, Nat.le_trans h.size hb.size, fun k hk hne => (hb.block k (Nat.lt_of_lt_of_le hk h.size)).trans (h.block k hk hne)⟩
theorem own_belowR {w w' : World} {base : Nat} {ty : TypeId} {v : Value} {n : Nat} {xs : List Value} (h : w.ownsRow base ty 2 v n xs) (hb : Below w.heap.size w w') : w'.ownsRow base ty 2 v n xs :=
  World.ownsRow.kept h (row := none) ⟨hb.os, hb.tape, hb.output, hb.size, fun k hk _ => hb.block k hk⟩ (by cases hv : v.ownBlock <;> simp)
set_option maxHeartbeats 3200000 in
set_option maxRecDepth 8000 in
theorem markRecS_any (n g cap k : Nat) (base : Nat) (xs : List Value) (w : World) (hk : 1 ≤ k) (hn : k + n * 2 ≤ 100000000) (h1 : w.ownsRow base 44 2 (.slice (some ⟨g, 0, none⟩) n cap) n xs) :
    Calls Tryd.prog 11 #[.slice (some ⟨g, 0, none⟩) n cap, .int .i64 k] w fun e w' => e = .returned (.int .i64 ((k + n * 2 : Nat) : Int)) ∧ (∃ ys, w'.ownsRow base 44 2 (.slice (some ⟨g, 0, none⟩) n cap) n ys) ∧ RowR w' g (marksR k n) ∧ w.grownBy w' (some g) := by
  have H1 := Lib.hid h1
  clear h1
  go_enter Tryd.func11, Tryd.ntmps11
  go_wp2_with fail
  go_loopw [1, 5] (fun x u wr => ∃ (i : Nat) (ys : List Value), i ≤ n ∧ x = .int .i64 ((k + i * 2 : Nat) : Int) ∧ u = .int .i64 i ∧ wr.ownsRow base 44 2 (.slice (some ⟨g, 0, none⟩) n cap) n ys ∧ MarkedR ys k i ∧ w.grownBy wr (some g)) (fun _ u _ => n - (intOf u).toNat)
  case atStart => exact ⟨0, xs, Nat.zero_le _, by simp, rfl, H1.out, fun i hi => by omega, ⟨rfl, rfl, rfl, Nat.le_refl _, fun _ _ _ => rfl⟩⟩
  case round =>
    obtain ⟨i, ys, hi, rfl, rfl, ho, hr, hb⟩ := hrel
    have G := Lib.hid hb
    have O := Lib.hid ho
    have HR := Lib.hid hr
    have hys : ys.length = n * 2 := ho.1
    clear hb ho hr H1
    by_cases hlt : i < n
    · have hlt2 : (i : Int) < (n : Int) := by omega
      have HS : Hid (MarkedR (setR ys (i * 2) (markR (k + i * 2))) k (i + 1)) := Lib.hid (HR.out.step (by omega))
      clear HR
      have hK : k + i * 2 + 2 ≤ 100000000 := by omega
      have hK1 : 1 ≤ k + i * 2 := by omega
      generalize hKe : k + i * 2 = K at *
      have hMT := Lib.hid (fun (x : Int) (j : Nat) w (hx : x = ((K + j : Nat) : Int)) (hj : j ≤ 2) => (by rw [hx]; exact markText_any (K + j) w (by omega) (by omega) : Calls Tryd.prog 29 #[.int .i64 x] w fun e w' => e = .returned (.string (markv (K + j))) ∧ Below w.heap.size w w'))
      go_wp2_with fail
      refine (hMT.out _ 0 _ (by omega) (by omega)).mono ?_
      rintro e w0 ⟨rfl, hb⟩
      have O0 := Lib.hid (own_belowR O.out hb)
      have G0 := Lib.hid (grown_belowR G.out hb)
      clear hb
      obtain ⟨y0, d0⟩ := own_cellR O0.out hlt 0 (by omega)
      rw [Nat.add_zero] at d0
      have f0 := World.ownsRow.frozenAt O0.out (i * 2)
      go_wp2_with fail
      refine (hMT.out _ 1 _ (by omega) (by omega)).mono ?_
      rintro e w1 ⟨rfl, hb⟩
      have O1 := Lib.hid (own_belowR (World.ownsRow.stored O0.out (i * 2) (.string (markv (K + 0)))).1 hb)
      have G1 := Lib.hid (grown_belowR (grown_setR G0.out (i * 2) (.string (markv (K + 0)))) hb)
      clear hb d0 f0
      obtain ⟨y1, d1⟩ := own_cellR O1.out hlt 1 (by omega)
      have f1 := World.ownsRow.frozenAt O1.out (i * 2 + 1)
      go_wp2_with fail
      go_roundw
      case rel => exact ⟨i + 1, _, by omega, by go_num, by go_num, (World.ownsRow.stored O1.out (i * 2 + 1) (.string (markv (K + 1)))).1, HS.out, (grown_setR G1.out (i * 2 + 1) (.string (markv (K + 1))))⟩
      case measure => simp [intOf]; omega
    · obtain rfl : i = n := by omega
      have hlt2 : ¬ (i : Int) < (i : Int) := by omega
      go_wp2_with fail
      go_ret
      exact ⟨rfl, ⟨ys, O.out⟩, HR.out.row O.out, G.out⟩
set_option maxHeartbeats 3200000 in
set_option maxRecDepth 8000 in
theorem heldRecS_any (n g cap k : Nat) (w : World) (hk : 1 ≤ k) (hn : k + n * 2 ≤ 100000000) (hg : g < w.heap.size) (h1 : RowR w g (marksR k n)) :
    Calls Tryd.prog 12 #[.slice (some ⟨g, 0, none⟩) n cap, .int .i64 k] w fun e w' => e = .returned (.int .i64 ((k + n * 2 : Nat) : Int)) ∧ Below w.heap.size w w' := by
  have H1 := Lib.hid h1
  clear h1
  go_enter Tryd.func12, Tryd.ntmps12
  go_wp2_with fail
  go_loopw [1, 5] (fun x u wr => ∃ (i : Nat), i ≤ n ∧ x = .int .i64 ((k + i * 2 : Nat) : Int) ∧ u = .int .i64 i ∧ Below w.heap.size w wr) (fun _ u _ => n - (intOf u).toNat)
  case atStart => exact ⟨0, Nat.zero_le _, by simp, rfl, Below.refl _ _⟩
  case round =>
    obtain ⟨i, hi, rfl, rfl, hb⟩ := hrel
    have B0 := Lib.hid hb
    clear hb
    by_cases hlt : i < n
    · have hlt2 : (i : Int) < (n : Int) := by omega
      have hK : k + i * 2 + 2 ≤ 100000000 := by omega
      have hK1 : 1 ≤ k + i * 2 := by omega
      have R0 := Lib.hid (H1.out.below B0.out hg)
      have HG := Lib.hid (marksR_get k n i hlt)
      generalize hKe : k + i * 2 = K at *
      have hMT := Lib.hid (fun (x : Int) (j : Nat) w (hx : x = ((K + j : Nat) : Int)) (hj : j ≤ 2) => (by rw [hx]; exact markText_any (K + j) w (by omega) (by omega) : Calls Tryd.prog 29 #[.int .i64 x] w fun e w' => e = .returned (.string (markv (K + j))) ∧ Below w.heap.size w w'))
      have q0 := self_eqR (markv K)
      have q1 := self_eqR (markv (K + 1))
      have B : Hid (Below w.heap.size w wr) := B0
      have R : Hid (RowR wr g (marksR k n)) := R0
      have z : g < wr.heap.size := by have := B0.out.size; omega
      clear B0 R0
      obtain ⟨c0, c1⟩ := R.out.cols HG.out
      simp only [markR] at c0 c1
      go_wp2_with fail
      replace B : Hid (Below w.heap.size w wr.drew) := Lib.hid B.out.drew
      replace R : Hid (RowR wr.drew g (marksR k n)) := Lib.hid R.out
      replace z : g < wr.drew.heap.size := z
      go_region_held3 (fun w' => w'.cell? ⟨g, i * 2, none⟩ = some (.string (markv K))) (assumption) (first | (go_at_call 29; refine (hMT.out _ 0 _ (by omega) (by omega)).mono ?_; rintro e w0 ⟨rfl, hb⟩; have d0 := kept_cellR hb z c0; replace B := Lib.hid (btR B.out hb); replace R := Lib.hid (R.out.below hb z); replace z := Nat.lt_of_lt_of_le z hb.size; clear hb))
      clear c0 c1
      obtain ⟨c0, c1⟩ := R.out.cols HG.out
      simp only [markR] at c0 c1
      go_wp2_with fail
      replace B : Hid (Below w.heap.size w w0.drew) := Lib.hid B.out.drew
      replace R : Hid (RowR w0.drew g (marksR k n)) := Lib.hid R.out
      replace z : g < w0.drew.heap.size := z
      go_region_held3 (fun w' => w'.cell? ⟨g, i * 2 + 1, none⟩ = some (.string (markv (K + 1)))) (assumption) (first | (go_at_call 29; refine (hMT.out _ 1 _ (by omega) (by omega)).mono ?_; rintro e w1 ⟨rfl, hb⟩; have d1 := kept_cellR hb z c1; replace B := Lib.hid (btR B.out hb); replace R := Lib.hid (R.out.below hb z); replace z := Nat.lt_of_lt_of_le z hb.size; clear hb))
      clear c0 c1
      go_wp2_with fail
      go_roundw
      case rel => exact ⟨i + 1, by omega, by go_num, by go_num, B.out⟩
      case measure => simp [intOf]; omega
    · obtain rfl : i = n := by omega
      have hlt2 : ¬ (i : Int) < (i : Int) := by omega
      go_wp2_with fail
      go_ret
      exact ⟨rfl, B0.out⟩
end Go.Proofs.YtlbanaakjabfnabDoor
