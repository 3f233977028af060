/- Contracts of laws.markEntryS and laws.heldEntryS. -/
import Derived.Test.YtpimeekcnndhiaaEntEq
import Derived.Test.YtpimeekcnndhiaaMarkT
namespace Go.Proofs.Ytpimeekcnndhiaa
open Go.ChangeShapes Go.WideShapes Go.ChangeAt Go.RowKit Go.Deep

/-- The entry that is marked from k on, and a row of such. -/
def markEnt (k : Nat) : Ent := ⟨k, markv (k + 1), markv (k + 2), (k : Int) + 3, (k : Int) + 4, (k : Int) + 5, (k : Int) + 6, markv (k + 7), markv (k + 8), markv (k + 9)⟩
def marksE (k : Nat) : Nat → List Ent
  | 0 => []
  | n + 1 => marksE k n ++ [markEnt (k + n * 10)]
theorem marksE_len (k n : Nat) : (marksE k n).length = n := by
  induction n with
  | zero => rfl
  | succ n ih => simp [marksE, ih]
theorem marksE_get (k n i : Nat) (h : i < n) : (marksE k n)[i]? = some (markEnt (k + i * 10)) := by
  induction n with
  | zero => omega
  | succ n ih =>
    rw [marksE]
    by_cases e : i = n
    · subst e
      rw [List.getElem?_append_right (by rw [marksE_len]; omega), marksE_len]
      simp
    · rw [List.getElem?_append_left (by rw [marksE_len]; omega)]
      exact ih (by omega)
/-- The first i entries of a row's cells are the marks. -/
def MarkedE (ys : List Value) (k i : Nat) : Prop := FillE ys i (fun j => markEnt (k + j * 10))
theorem MarkedE.row {w : World} {base g n cap k : Nat} {ys : List Value} (h : MarkedE ys k n) (ho : w.ownsRow base 43 10 (.slice (some ⟨g, 0, none⟩) n cap) n ys) : RowE w g (marksE k n) := by
  intro j u hu
  have hj : j < n * 10 := by
    by_cases hj : j < n * 10
    · exact hj
    · rw [List.getElem?_eq_none (by rw [entVals_len, marksE_len]; omega)] at hu; cases hu
  have h1 := h (j / 10) (by omega) (j % 10) (by omega)
  have h2 := entVals_get (marksE k n) (j / 10) (j % 10) (by omega)
  rw [marksE_get _ _ _ (by omega)] at h2
  rw [show j / 10 * 10 + j % 10 = j from by omega] at h1 h2
  rw [hu] at h2
  have h3 : ys[j]? = some u := h1.trans h2.symm
  have := World.ownsRow.cells ho (g := g) rfl j u h3
  rwa [show (⟨g, 0, none⟩ : Addr).add j = ⟨g, j, none⟩ from by unfold Addr.add; split <;> simp_all] at this
theorem own_put {w : World} {base g n cap : Nat} {ty : TypeId} {ys : List Value} (h : w.ownsRow base ty 10 (.slice (some ⟨g, 0, none⟩) n cap) n ys) (o : Nat) (e : Ent) : (setEnt w g o e).ownsRow base ty 10 (.slice (some ⟨g, 0, none⟩) n cap) n (set10 ys o e) :=
  (World.ownsRow.stored (World.ownsRow.stored (World.ownsRow.stored (World.ownsRow.stored (World.ownsRow.stored (World.ownsRow.stored (World.ownsRow.stored (World.ownsRow.stored (World.ownsRow.stored (World.ownsRow.stored h o _).1 (o + 1) _).1 (o + 2) _).1 (o + 3) _).1 (o + 4) _).1 (o + 5) _).1 (o + 6) _).1 (o + 7) _).1 (o + 8) _).1 (o + 9) _).1
theorem own_at {w : World} {base g n cap : Nat} {e : TypeId} {ys : List Value} (h : w.ownsRow base e 10 (.slice (some ⟨g, 0, none⟩) n cap) n ys) {i : Nat} (hi : i < n) (j : Nat) (hj : j < 10) : ∃ y, w.cell? ⟨g, i * 10 + j, none⟩ = some y := by
  rcases h.2 with ⟨h', _⟩ | ⟨g', cap', cur, h', _, hg, hnc, _, hcs, _⟩
  · simp at h'
  · simp only [Value.slice.injEq, Option.some.injEq, Addr.mk.injEq, and_true, true_and] at h'
    obtain ⟨rfl, rfl⟩ := h'
    have hlt : i * 10 + j < cur.size := by omega
    exact ⟨cur[i * 10 + j], by simp [World.cell?, hg, Array.getElem?_eq_getElem hlt]⟩
theorem kept_cellE {x w1 : World} {g k : Nat} {t : Value} (h1 : Below x.heap.size x w1) (hg : g < x.heap.size) (hc : x.cell? ⟨g, k, none⟩ = .some t) : w1.cell? ⟨g, k, none⟩ = .some t := (h1.cell (p := ⟨g, k, none⟩) hg).trans hc
theorem self_eqE (a : ByteArray) : (a.toList == a.toList) = true := by simp
theorem grown_set {w w' : World} {g : Nat} (h : w.grownBy w' (some g)) (o : Nat) (v : Value) : w.grownBy (w'.setCell ⟨g, o, none⟩ v) (some g) :=
  ⟨h.os, h.tape, h.output, by simpa using h.size, fun k hk hne => (Below.heap_setCell w' _ v k (fun e => hne (by rw [e]))).trans (h.block k hk hne)⟩
theorem grown_below {w w' w'' : World} {row : Option Nat} (h : w.grownBy w' row) (hb : Below w'.heap.size w' w'') : w.grownBy w'' row :=
  ⟨hb.os.trans h.os, hb.tape.trans h.tape, hb.output.trans h.output, Nat.le_trans h.size hb.size, fun k hk hne => (hb.block k (Nat.lt_of_lt_of_le hk h.size)).trans (h.block k hk hne)⟩
theorem own_below {w w' : World} {base : Nat} {ty : TypeId} {v : Value} {n : Nat} {xs : List Value} (h : w.ownsRow base ty 10 v n xs) (hb : Below w.heap.size w w') : w'.ownsRow base ty 10 v n xs :=
  World.ownsRow.kept h (row := none) ⟨hb.os, hb.tape, hb.output, hb.size, fun k hk _ => hb.block k hk⟩ (by cases hv : v.ownBlock <;> simp)
set_option maxHeartbeats 3200000 in
set_option maxRecDepth 8000 in
theorem markEntryS_any (n g cap k : Nat) (base : Nat) (xs : List Value) (w : World) (hk : 1 ≤ k) (hn : k + n * 10 ≤ 100000000) (h1 : w.ownsRow base 43 10 (.slice (some ⟨g, 0, none⟩) n cap) n xs) :
    Calls Try.prog 13 #[.slice (some ⟨g, 0, none⟩) n cap, .int .i64 k] w fun e w' => e = .returned (.int .i64 ((k + n * 10 : Nat) : Int)) ∧ (∃ ys, w'.ownsRow base 43 10 (.slice (some ⟨g, 0, none⟩) n cap) n ys) ∧ RowE w' g (marksE k n) ∧ w.grownBy w' (some g) := by
  have H1 := Lib.hid h1
  clear h1
  go_enter Try.func13, Try.ntmps13
  go_wp2_with fail
  go_loopw [1, 5] (fun x u wr => ∃ (i : Nat) (ys : List Value), i ≤ n ∧ x = .int .i64 ((k + i * 10 : Nat) : Int) ∧ u = .int .i64 i ∧ wr.ownsRow base 43 10 (.slice (some ⟨g, 0, none⟩) n cap) n ys ∧ MarkedE ys k i ∧ w.grownBy wr (some g)) (fun _ u _ => n - (intOf u).toNat)
  case atStart => exact ⟨0, xs, Nat.zero_le _, by simp, rfl, H1.out, fun i hi => by omega, ⟨rfl, rfl, rfl, Nat.le_refl _, fun _ _ _ => rfl⟩⟩
  case round =>
    obtain ⟨i, ys, hi, rfl, rfl, ho, hr, hb⟩ := hrel
    have G := Lib.hid hb
    have O := Lib.hid ho
    have HR := Lib.hid hr
    have hys : ys.length = n * 10 := ho.1
    clear hb ho hr H1
    by_cases hlt : i < n
    · have hlt2 : (i : Int) < (n : Int) := by omega
      have HS : Hid (MarkedE (set10 ys (i * 10) (markEnt (k + i * 10))) k (i + 1)) := Lib.hid (HR.out.step (by omega))
      clear HR
      have hK : k + i * 10 + 10 ≤ 100000000 := by omega
      have hK1 : 1 ≤ k + i * 10 := by omega
      generalize hKe : k + i * 10 = K at *
      have hMT := Lib.hid (fun (x : Int) (j : Nat) w (hx : x = ((K + j : Nat) : Int)) (hj : j ≤ 10) => (by rw [hx]; exact markText_any (K + j) w (by omega) (by omega) : Calls Try.prog 34 #[.int .i64 x] w fun e w' => e = .returned (.string (markv (K + j))) ∧ Below w.heap.size w w'))
      obtain ⟨y0, d0⟩ := own_at O.out hlt 0 (by omega)
      rw [Nat.add_zero] at d0
      have f0 := World.ownsRow.frozenAt O.out (i * 10)
      go_wp2_with fail
      refine (hMT.out _ 1 _ (by omega) (by omega)).mono ?_
      rintro e w1 ⟨rfl, hb⟩
      have O1 := Lib.hid (own_below (World.ownsRow.stored O.out (i * 10) _).1 hb)
      have G1 := Lib.hid (grown_below (grown_set G.out (i * 10) _) hb)
      clear hb d0 f0
      obtain ⟨y1, d1⟩ := own_at O1.out hlt 1 (by omega)
      have f1 := World.ownsRow.frozenAt O1.out (i * 10 + 1)
      go_wp2_with fail
      refine (hMT.out _ 2 _ (by omega) (by omega)).mono ?_
      rintro e w2 ⟨rfl, hb⟩
      have O2 := Lib.hid (own_below (World.ownsRow.stored O1.out (i * 10 + 1) (.string (markv (K + 1)))).1 hb)
      have G2 := Lib.hid (grown_below (grown_set G1.out (i * 10 + 1) (.string (markv (K + 1)))) hb)
      clear hb d1 f1
      obtain ⟨y2, d2⟩ := own_at O2.out hlt 2 (by omega)
      have f2 := World.ownsRow.frozenAt O2.out (i * 10 + 2)
      obtain ⟨y3, d3⟩ := own_at O2.out hlt 3 (by omega)
      have f3 := World.ownsRow.frozenAt O2.out (i * 10 + 3)
      obtain ⟨y4, d4⟩ := own_at O2.out hlt 4 (by omega)
      have f4 := World.ownsRow.frozenAt O2.out (i * 10 + 4)
      obtain ⟨y5, d5⟩ := own_at O2.out hlt 5 (by omega)
      have f5 := World.ownsRow.frozenAt O2.out (i * 10 + 5)
      obtain ⟨y6, d6⟩ := own_at O2.out hlt 6 (by omega)
      have f6 := World.ownsRow.frozenAt O2.out (i * 10 + 6)
      go_wp2_with fail
      refine (hMT.out _ 7 _ (by omega) (by omega)).mono ?_
      rintro e w7 ⟨rfl, hb⟩
      have O7 := Lib.hid (own_below (World.ownsRow.stored (World.ownsRow.stored (World.ownsRow.stored (World.ownsRow.stored (World.ownsRow.stored O2.out (i * 10 + 2) (.string (markv (K + 2)))).1 (i * 10 + 3) _).1 (i * 10 + 4) _).1 (i * 10 + 5) _).1 (i * 10 + 6) _).1 hb)
      have G7 := Lib.hid (grown_below (grown_set (grown_set (grown_set (grown_set (grown_set G2.out (i * 10 + 2) (.string (markv (K + 2)))) (i * 10 + 3) _) (i * 10 + 4) _) (i * 10 + 5) _) (i * 10 + 6) _) hb)
      clear hb d2 f2 d3 f3 d4 f4 d5 f5 d6 f6
      obtain ⟨y7, d7⟩ := own_at O7.out hlt 7 (by omega)
      have f7 := World.ownsRow.frozenAt O7.out (i * 10 + 7)
      go_wp2_with fail
      refine (hMT.out _ 8 _ (by omega) (by omega)).mono ?_
      rintro e w8 ⟨rfl, hb⟩
      have O8 := Lib.hid (own_below (World.ownsRow.stored O7.out (i * 10 + 7) (.string (markv (K + 7)))).1 hb)
      have G8 := Lib.hid (grown_below (grown_set G7.out (i * 10 + 7) (.string (markv (K + 7)))) hb)
      clear hb d7 f7
      obtain ⟨y8, d8⟩ := own_at O8.out hlt 8 (by omega)
      have f8 := World.ownsRow.frozenAt O8.out (i * 10 + 8)
      go_wp2_with fail
      refine (hMT.out _ 9 _ (by omega) (by omega)).mono ?_
      rintro e w9 ⟨rfl, hb⟩
      have O9 := Lib.hid (own_below (World.ownsRow.stored O8.out (i * 10 + 8) (.string (markv (K + 8)))).1 hb)
      have G9 := Lib.hid (grown_below (grown_set G8.out (i * 10 + 8) (.string (markv (K + 8)))) hb)
      clear hb d8 f8
      obtain ⟨y9, d9⟩ := own_at O9.out hlt 9 (by omega)
      have f9 := World.ownsRow.frozenAt O9.out (i * 10 + 9)
      go_wp2_with fail
      go_roundw
      case rel => exact ⟨i + 1, _, by omega, by go_num, by go_num, (World.ownsRow.stored O9.out (i * 10 + 9) (.string (markv (K + 9)))).1, HS.out, (grown_set G9.out (i * 10 + 9) (.string (markv (K + 9))))⟩
      case measure => simp [intOf]; omega
    · obtain rfl : i = n := by omega
      have hlt2 : ¬ (i : Int) < (i : Int) := by omega
      go_wp2_with fail
      go_ret
      exact ⟨rfl, ⟨ys, O.out⟩, HR.out.row O.out, G.out⟩
end Go.Proofs.Ytpimeekcnndhiaa
