/- Contracts of spec.l07Entry and spec.EntriesOf. -/
import Derived.Test.YtcnmbolmgifgfabGreatDoorCardsS
import Derived.Test.YtcnmbolmgifgfabGreatDoorEqC
import Derived.Test.YtcnmbolmgifgfabGreatDoorBitK
import Derived.Test.YtcnmbolmgifgfabGreatDoorMergeE
namespace Go.Proofs.YtcnmbolmgifgfabGreatDoor
open Go.ChangeShapes Go.WideShapes Go.ChangeAt Go.RowKit Go.Deep

def SmallC (L : List Card) : Prop := ∀ c ∈ L, szC c ≤ 2097152
theorem smallC_of {L : List Card} {n : Nat} (h : totC L ≤ n) (hn : n ≤ 2097152) : SmallC L := fun c hc => by
  have := totC_mem hc
  omega
theorem RowC.take {w : World} {g : Nat} {L : List Card} (h : RowC w g L) (i : Nat) : RowC w g (L.take i) := by
  intro k u hu
  apply h
  have hlt := (List.getElem?_eq_some_iff.1 hu).1
  rw [← List.take_append_drop i L, valsC_app, List.getElem?_append_left hlt]
  exact hu
theorem entO_newAt (w : World) (e : Ent) (g : Nat) (hg : g = w.heap.size) : EntO (w.alloc (.cells e.cells.toArray 45)) g e := by subst hg; exact EntO.new w e
theorem ino_hit {A : List Card} {i : Nat} {a : Card} {x : Int} (h : ∀ j b, j < i → A[j]? = some b → ¬ b.Ino = x) (ha : A[i]? = some a) (hx : a.Ino = x) : A.find? (fun a => decide (a.Ino = x)) = some a := by
  obtain ⟨hi, hq⟩ := List.getElem?_eq_some_iff.1 ha
  rw [List.find?_eq_some_iff_getElem]
  refine ⟨by simpa using hx, i, hi, hq, fun j hj => ?_⟩
  simpa using h j _ hj (List.getElem?_eq_getElem (by omega))
theorem ino_miss {A : List Card} {x : Int} (h : ∀ j b, j < A.length → A[j]? = some b → ¬ b.Ino = x) : A.find? (fun a => decide (a.Ino = x)) = none := by
  rw [List.find?_eq_none]
  intro b hb
  obtain ⟨j, hj⟩ := List.mem_iff_getElem?.1 hb
  simpa using h j b (List.getElem?_eq_some_iff.1 hj).1 hj
set_option maxHeartbeats 6400000 in
set_option maxRecDepth 8000 in
theorem entry_spec (A : List Card) (ino mo u1 gi cn t : Int) (p d : ByteArray) (n g cap : Nat) (w : World) (hn : n = A.length) (hm : n ≤ 4194304) (hg : g < w.heap.size) (hm0 : -9223372036854775808 ≤ mo) (hm1 : mo ≤ 9223372036854775807) (h1 : RowC w g A) :
    Calls Tryz.prog 114 #[.slice (some ⟨g, 0, none⟩) n cap, .agg #[.int .i64 ino, .int .i64 mo, .int .i64 u1, .int .i64 gi, .int .i64 cn, .int .i64 t, .string p, .string d]] w fun e w' => e = .returned (.agg (entS A ⟨ino, mo, u1, gi, cn, t, p, d⟩).cells.toArray) ∧ Below w.heap.size w w' := by
  have H1 := Lib.hid h1
  have HG : Hid (∀ i, i < n → ∃ a, A[i]? = some a) := Lib.hid (fun i hi => getC' (by omega))
  have hb := i64_and4095 mo
  obtain ⟨md, hmd⟩ : ∃ x, mo % 4096 = x := ⟨_, rfl⟩
  have HR : Hid (entS A ⟨ino, mo, u1, gi, cn, t, p, d⟩ = if mo - md = 16384 then ⟨1, p, ⟨#[]⟩, md, u1, gi, t, ⟨#[]⟩, ⟨#[]⟩, ⟨#[]⟩⟩ else if mo - md = 40960 then ⟨2, p, d, md, u1, gi, t, ⟨#[]⟩, ⟨#[]⟩, ⟨#[]⟩⟩ else match A.find? (fun a => decide (a.Ino = ino)) with | some a => ⟨3, p, a.Path, md, u1, gi, t, ⟨#[]⟩, ⟨#[]⟩, ⟨#[]⟩⟩ | none => ⟨0, p, ⟨#[]⟩, md, u1, gi, t, ⟨#[]⟩, ⟨#[]⟩, d⟩) := Lib.hid (by subst hmd; rfl)
  have HH : Hid (∀ (i : Nat) (a : Card), (∀ (j : Nat) (b : Card), j < i → A[j]? = some b → ¬ b.Ino = ino) → A[i]? = some a → a.Ino = ino → A.find? (fun a => decide (a.Ino = ino)) = some a) := Lib.hid (fun i a h ha hx => ino_hit h ha hx)
  have HM : Hid ((∀ (j : Nat) (b : Card), j < n → A[j]? = some b → ¬ b.Ino = ino) → A.find? (fun a => decide (a.Ino = ino)) = none) := Lib.hid (fun h => ino_miss (by rw [← hn]; exact h))
  have hd0 : -9223372036854775808 ≤ mo - mo % 4096 := by omega
  have hd1 : mo - mo % 4096 ≤ 9223372036854775807 := by omega
  rw [hmd] at hb hd0 hd1
  generalize entS A ⟨ino, mo, u1, gi, cn, t, p, d⟩ = r at HR
  clear h1 hn hmd
  go_enter Tryz.func114, Tryz.ntmps114
  go_upto_region 1 with fail
  generalize hw1 : World.alloc (World.alloc w _) _ = w1
  have XC : Hid (CardO w1 w.heap.size ⟨ino, mo, u1, gi, cn, t, p, d⟩) := Lib.hid (by rw [← hw1]; exact (CardO.new w ⟨ino, mo, u1, gi, cn, t, p, d⟩).below (B := w.heap.size + 1) ((Below.refl _ _).alloc (by simp) _) (by omega))
  have XR : Hid (EntO w1 (w.heap.size + 1) ⟨0, ⟨#[]⟩, ⟨#[]⟩, 0, 0, 0, 0, ⟨#[]⟩, ⟨#[]⟩, ⟨#[]⟩⟩) := Lib.hid (by rw [← hw1]; exact entO_newAt (w.alloc (.cells (Card.cells ⟨ino, mo, u1, gi, cn, t, p, d⟩).toArray 48)) ⟨0, ⟨#[]⟩, ⟨#[]⟩, 0, 0, 0, 0, ⟨#[]⟩, ⟨#[]⟩, ⟨#[]⟩⟩ _ (by simp))
  have B1 : Hid (Below w.heap.size w w1) := Lib.hid (by rw [← hw1]; exact ((Below.refl _ _).alloc (Nat.le_refl _) _).alloc (by simp) _)
  have hs1 : w1.heap.size = w.heap.size + 2 := by rw [← hw1]; simp
  clear hw1
  obtain ⟨k0, k1, k2, k3, k4, k5, k6, k7⟩ := XC.out.at.zero
  have XP := EntO.new w1 ⟨0, p, ⟨#[]⟩, md, u1, gi, t, ⟨#[]⟩, ⟨#[]⟩, ⟨#[]⟩⟩
  have N1 : Below w1.heap.size w1 (w1.alloc (.cells (Ent.cells ⟨0, p, ⟨#[]⟩, md, u1, gi, t, ⟨#[]⟩, ⟨#[]⟩, ⟨#[]⟩⟩).toArray 45)) := (Below.refl _ _).alloc (Nat.le_refl _) _
  have CP := XC.out.below N1 (by omega)
  have RP := XR.out.below N1 (by omega)
  have BP := btE B1.out N1
  simp only [Ent.cells] at XP CP RP BP
  clear XC XR N1
  go_upto_region 2 with fail
  obtain ⟨w3, hw3⟩ : ∃ y, y = (w1.alloc (.cells #[.int .i64 0, .string p, .string ⟨#[]⟩, .int .i64 md, .int .i64 u1, .int .i64 gi, .int .i64 t, .string ⟨#[]⟩, .string ⟨#[]⟩, .string ⟨#[]⟩] 45)) := ⟨_, rfl⟩
  simp only [List.toArray] at XP CP RP BP
  rw [← hw3] at XP CP RP BP ⊢
  have hs3 : w3.heap.size = w.heap.size + 3 := by rw [hw3]; simp; omega
  rw [hs1] at XP
  clear hw3 k0 k1 k2 k3 k4 k5 k6 k7 B1
  obtain ⟨k0, k1, k2, k3, k4, k5, k6, k7⟩ := CP.at.zero
  obtain ⟨d0, d1, d2, d3, d4, d5, d6, d7, d8, d9⟩ := XP.at.zero
  have hn0 : ¬ w.heap.size = w.heap.size + 2 := by omega
  have hn1 : ¬ w.heap.size + 1 = w.heap.size + 2 := by omega
  have hw1 : w.heap.size ≤ w.heap.size + 2 := by omega
  by_cases q1 : mo - md = 16384
  · have q1b : (mo - md == 16384) = true := by simpa using q1
    have HF : Hid (r = ⟨1, p, ⟨#[]⟩, md, u1, gi, t, ⟨#[]⟩, ⟨#[]⟩, ⟨#[]⟩⟩) := Lib.hid (by rw [HR.out, if_pos q1])
    clear HR HH HM HG q1
    have f0 := XP.fz 0
    have XQ := XP.set (e' := ⟨1, p, ⟨#[]⟩, md, u1, gi, t, ⟨#[]⟩, ⟨#[]⟩, ⟨#[]⟩⟩) 0 (.int .i64 1) rfl
    have RQ : EntO (w3.setCell ⟨w.heap.size + 2, 0, none⟩ (.int .i64 1)) (w.heap.size + 1) ⟨0, ⟨#[]⟩, ⟨#[]⟩, 0, 0, 0, 0, ⟨#[]⟩, ⟨#[]⟩, ⟨#[]⟩⟩ := RP.other hn1
    have CQ : CardO (w3.setCell ⟨w.heap.size + 2, 0, none⟩ (.int .i64 1)) w.heap.size ⟨ino, mo, u1, gi, cn, t, p, d⟩ := CP.other hn0
    have BQ := BP.setCell (p := ⟨w.heap.size + 2, 0, none⟩) hw1 (.int .i64 1)
    go_upto_region 5 with fail
    obtain ⟨w4, hnw⟩ : ∃ y, y = w3.setCell ⟨w.heap.size + 2, 0, none⟩ (.int .i64 1) := ⟨_, rfl⟩
    rw [← hnw] at XQ RQ CQ BQ ⊢
    clear hnw f0 XP RP CP BP d0 d1 d2 d3 d4 d5 d6 d7 d8 d9
    have XP := XQ
    have RP := RQ
    have CP := CQ
    have BP := BQ
    clear XQ RQ CQ BQ
    obtain ⟨d0, d1, d2, d3, d4, d5, d6, d7, d8, d9⟩ := XP.at.zero
    clear d0 d1 d2 d3 d4 d5 d6 d7 d8 d9
    obtain ⟨d0, d1, d2, d3, d4, d5, d6, d7, d8, d9⟩ := XP.at.zero
    obtain ⟨z0, z1, z2, z3, z4, z5, z6, z7, z8, z9⟩ := RP.at.zero
    have f0 := RP.fz 0
    have f1 := RP.fz 1
    have f2 := RP.fz 2
    have f3 := RP.fz 3
    have f4 := RP.fz 4
    have f5 := RP.fz 5
    have f6 := RP.fz 6
    have f7 := RP.fz 7
    have f8 := RP.fz 8
    have f9 := RP.fz 9
    have R9 := RP.put ⟨1, p, ⟨#[]⟩, md, u1, gi, t, ⟨#[]⟩, ⟨#[]⟩, ⟨#[]⟩⟩
    have B9 := below_putE (g := w.heap.size + 1) BP (by omega) ⟨1, p, ⟨#[]⟩, md, u1, gi, t, ⟨#[]⟩, ⟨#[]⟩, ⟨#[]⟩⟩
    simp only [putE] at R9 B9
    go_wp2_with fail
    refine bodyPost_ret (res_ent1 rfl _ rfl R9) rfl ?_
    exact ⟨by rw [HF.out], B9⟩
  have q1b : (mo - md == 16384) = false := by simpa using q1
  by_cases q2 : mo - md = 40960
  · have q2b : (mo - md == 40960) = true := by simpa using q2
    have HF : Hid (r = ⟨2, p, d, md, u1, gi, t, ⟨#[]⟩, ⟨#[]⟩, ⟨#[]⟩⟩) := Lib.hid (by rw [HR.out, if_neg q1, if_pos q2])
    clear HR HH HM HG q1 q2
    have f0 := XP.fz 0
    have XQ := XP.set (e' := ⟨2, p, ⟨#[]⟩, md, u1, gi, t, ⟨#[]⟩, ⟨#[]⟩, ⟨#[]⟩⟩) 0 (.int .i64 2) rfl
    have RQ : EntO (w3.setCell ⟨w.heap.size + 2, 0, none⟩ (.int .i64 2)) (w.heap.size + 1) ⟨0, ⟨#[]⟩, ⟨#[]⟩, 0, 0, 0, 0, ⟨#[]⟩, ⟨#[]⟩, ⟨#[]⟩⟩ := RP.other hn1
    have CQ : CardO (w3.setCell ⟨w.heap.size + 2, 0, none⟩ (.int .i64 2)) w.heap.size ⟨ino, mo, u1, gi, cn, t, p, d⟩ := CP.other hn0
    have BQ := BP.setCell (p := ⟨w.heap.size + 2, 0, none⟩) hw1 (.int .i64 2)
    go_upto_region 8 with fail
    obtain ⟨w4, hnw⟩ : ∃ y, y = w3.setCell ⟨w.heap.size + 2, 0, none⟩ (.int .i64 2) := ⟨_, rfl⟩
    rw [← hnw] at XQ RQ CQ BQ ⊢
    clear hnw f0 XP RP CP BP d0 d1 d2 d3 d4 d5 d6 d7 d8 d9
    have XP := XQ
    have RP := RQ
    have CP := CQ
    have BP := BQ
    clear XQ RQ CQ BQ
    obtain ⟨d0, d1, d2, d3, d4, d5, d6, d7, d8, d9⟩ := XP.at.zero
    clear k0 k1 k2 k3 k4 k5 k6 k7
    obtain ⟨k0, k1, k2, k3, k4, k5, k6, k7⟩ := CP.at.zero
    have f2 := XP.fz 2
    have XQ := XP.set (e' := ⟨2, p, d, md, u1, gi, t, ⟨#[]⟩, ⟨#[]⟩, ⟨#[]⟩⟩) 2 (.string d) rfl
    have RQ : EntO (w4.setCell ⟨w.heap.size + 2, 2, none⟩ (.string d)) (w.heap.size + 1) ⟨0, ⟨#[]⟩, ⟨#[]⟩, 0, 0, 0, 0, ⟨#[]⟩, ⟨#[]⟩, ⟨#[]⟩⟩ := RP.other hn1
    have CQ : CardO (w4.setCell ⟨w.heap.size + 2, 2, none⟩ (.string d)) w.heap.size ⟨ino, mo, u1, gi, cn, t, p, d⟩ := CP.other hn0
    have BQ := BP.setCell (p := ⟨w.heap.size + 2, 2, none⟩) hw1 (.string d)
    go_upto_region 9 with fail
    obtain ⟨w5, hnw⟩ : ∃ y, y = w4.setCell ⟨w.heap.size + 2, 2, none⟩ (.string d) := ⟨_, rfl⟩
    rw [← hnw] at XQ RQ CQ BQ ⊢
    clear hnw f2 XP RP CP BP d0 d1 d2 d3 d4 d5 d6 d7 d8 d9
    have XP := XQ
    have RP := RQ
    have CP := CQ
    have BP := BQ
    clear XQ RQ CQ BQ
    obtain ⟨d0, d1, d2, d3, d4, d5, d6, d7, d8, d9⟩ := XP.at.zero
    clear d0 d1 d2 d3 d4 d5 d6 d7 d8 d9
    obtain ⟨d0, d1, d2, d3, d4, d5, d6, d7, d8, d9⟩ := XP.at.zero
    obtain ⟨z0, z1, z2, z3, z4, z5, z6, z7, z8, z9⟩ := RP.at.zero
    have f0 := RP.fz 0
    have f1 := RP.fz 1
    have f2 := RP.fz 2
    have f3 := RP.fz 3
    have f4 := RP.fz 4
    have f5 := RP.fz 5
    have f6 := RP.fz 6
    have f7 := RP.fz 7
    have f8 := RP.fz 8
    have f9 := RP.fz 9
    have R9 := RP.put ⟨2, p, d, md, u1, gi, t, ⟨#[]⟩, ⟨#[]⟩, ⟨#[]⟩⟩
    have B9 := below_putE (g := w.heap.size + 1) BP (by omega) ⟨2, p, d, md, u1, gi, t, ⟨#[]⟩, ⟨#[]⟩, ⟨#[]⟩⟩
    simp only [putE] at R9 B9
    go_wp2_with fail
    refine bodyPost_ret (res_ent1 rfl _ rfl R9) rfl ?_
    exact ⟨by rw [HF.out], B9⟩
  have q2b : (mo - md == 40960) = false := by simpa using q2
  have HR2 : Hid (r = match A.find? (fun a => decide (a.Ino = ino)) with | some a => ⟨3, p, a.Path, md, u1, gi, t, ⟨#[]⟩, ⟨#[]⟩, ⟨#[]⟩⟩ | none => ⟨0, p, ⟨#[]⟩, md, u1, gi, t, ⟨#[]⟩, ⟨#[]⟩, d⟩) := Lib.hid (by rw [HR.out, if_neg q1, if_neg q2])
  clear HR q1 q2 d0 d1 d2 d3 d4 d5 d6 d7 d8 d9 k0 k1 k2 k3 k4 k5 k6 k7
  have HRow := Lib.hid (H1.out.below BP hg)
  have XP3 := Lib.hid XP
  have CP3 := Lib.hid CP
  have RP3 := Lib.hid RP
  have BP3 := Lib.hid BP
  have zg3 : g < w3.heap.size := by omega
  clear XP CP RP BP
  obtain ⟨d0, d1, d2, d3, d4, d5, d6, d7, d8, d9⟩ := XP3.out.at.zero
  obtain ⟨k0, k1, k2, k3, k4, k5, k6, k7⟩ := CP3.out.at.zero
  go_wp2_with fail
  clear d0 d1 d2 d3 d4 d5 d6 d7 d8 d9 k0 k1 k2 k3 k4 k5 k6 k7
  go_loopw [6] (fun u wr => ∃ i : Nat, u = .int .i64 i ∧ i ≤ n ∧ (∀ j b, j < i → A[j]? = some b → ¬ b.Ino = ino) ∧ Below w3.heap.size w3 wr) (fun u _ => n - (intOf u).toNat)
  case atStart => exact ⟨0, rfl, Nat.zero_le _, fun j b hj => by omega, Below.refl _ _⟩
  case round =>
    obtain ⟨i, rfl, hi, hr, hb⟩ := hrel
    have XP := XP3.out.below hb (by omega)
    have CP := CP3.out.below hb (by omega)
    have RP := RP3.out.below hb (by omega)
    have BP := btE BP3.out hb
    have HRi := HRow.out.below hb zg3
    have HB := Lib.hid hb
    have HU := Lib.hid hr
    have hszr := hb.size
    clear hb hr
    by_cases hlt : i < n
    · have hlt2 : (i : Int) < (n : Int) := by omega
      obtain ⟨a, ha⟩ := HG.out i hlt
      obtain ⟨c0, c1, c2, c3, c4, c5, c6, c7⟩ := HRi.cols ha
      obtain ⟨k0, k1, k2, k3, k4, k5, k6, k7⟩ := CP.at.zero
      have HHi := Lib.hid (HH.out i a HU.out ha)
      have HUs : Hid (¬ a.Ino = ino → ∀ j b, j < i + 1 → A[j]? = some b → ¬ b.Ino = ino) := Lib.hid (fun hq j b hj hbj => by
        by_cases e : j = i
        · subst e; rw [ha] at hbj; obtain rfl := Option.some.inj hbj; exact hq
        · exact HU.out j b (by omega) hbj)
      have HA9 := Lib.hid ha
      clear ha HH HU
      obtain ⟨ai, am, au, ag, ac, at', ap, ad⟩ := a
      simp only at HHi HUs c0 c1 c2 c3 c4 c5 c6 c7
      by_cases hq : ai = ino
      · have q3 : (ai == ino) = true := by simpa using hq
        have HF : Hid (r = ⟨3, p, ap, md, u1, gi, t, ⟨#[]⟩, ⟨#[]⟩, ⟨#[]⟩⟩) := Lib.hid (by rw [HR2.out, HHi.out hq])
        clear HUs HHi HR2 hq HM
        go_wp2_with fail
        go_quiet (fail)
        go_upto_region 14 with fail
        obtain ⟨wq, hwq⟩ : ∃ y, y = wr.drewN nq := ⟨_, rfl⟩
        replace XP : EntO wq (w.heap.size + 2) ⟨0, p, ⟨#[]⟩, md, u1, gi, t, ⟨#[]⟩, ⟨#[]⟩, ⟨#[]⟩⟩ := by rw [hwq]; exact XP
        replace CP : CardO wq w.heap.size ⟨ino, mo, u1, gi, cn, t, p, d⟩ := by rw [hwq]; exact CP
        replace RP : EntO wq (w.heap.size + 1) ⟨0, ⟨#[]⟩, ⟨#[]⟩, 0, 0, 0, 0, ⟨#[]⟩, ⟨#[]⟩, ⟨#[]⟩⟩ := by rw [hwq]; exact RP
        replace BP : Below w.heap.size w wq := by rw [hwq]; exact ⟨BP.os, BP.tape, BP.output, BP.size, BP.block⟩
        rw [← hwq]
        clear hwq k0 k1 k2 k3 k4 k5 k6 k7 c0 c1 c2 c3 c4 c5 c6 c7
        obtain ⟨d0, d1, d2, d3, d4, d5, d6, d7, d8, d9⟩ := XP.at.zero
        have f0 := XP.fz 0
        have XQ := XP.set (e' := ⟨3, p, ⟨#[]⟩, md, u1, gi, t, ⟨#[]⟩, ⟨#[]⟩, ⟨#[]⟩⟩) 0 (.int .i64 3) rfl
        have RQ : EntO (wq.setCell ⟨w.heap.size + 2, 0, none⟩ (.int .i64 3)) (w.heap.size + 1) ⟨0, ⟨#[]⟩, ⟨#[]⟩, 0, 0, 0, 0, ⟨#[]⟩, ⟨#[]⟩, ⟨#[]⟩⟩ := RP.other hn1
        have CQ : CardO (wq.setCell ⟨w.heap.size + 2, 0, none⟩ (.int .i64 3)) w.heap.size ⟨ino, mo, u1, gi, cn, t, p, d⟩ := CP.other hn0
        have BQ := BP.setCell (p := ⟨w.heap.size + 2, 0, none⟩) hw1 (.int .i64 3)
        go_upto_region 15 with fail
        obtain ⟨w4, hnw⟩ : ∃ y, y = wq.setCell ⟨w.heap.size + 2, 0, none⟩ (.int .i64 3) := ⟨_, rfl⟩
        rw [← hnw] at XQ RQ CQ BQ ⊢
        clear hnw f0 XP RP CP BP d0 d1 d2 d3 d4 d5 d6 d7 d8 d9
        have XP := XQ
        have RP := RQ
        have CP := CQ
        have BP := BQ
        clear XQ RQ CQ BQ
        obtain ⟨d0, d1, d2, d3, d4, d5, d6, d7, d8, d9⟩ := XP.at.zero
        obtain ⟨c0, c1, c2, c3, c4, c5, c6, c7⟩ := (H1.out.below BP hg).cols HA9.out
        simp only at c0 c1 c2 c3 c4 c5 c6 c7
        have f2 := XP.fz 2
        have XQ := XP.set (e' := ⟨3, p, ap, md, u1, gi, t, ⟨#[]⟩, ⟨#[]⟩, ⟨#[]⟩⟩) 2 (.string ap) rfl
        have RQ : EntO (w4.setCell ⟨w.heap.size + 2, 2, none⟩ (.string ap)) (w.heap.size + 1) ⟨0, ⟨#[]⟩, ⟨#[]⟩, 0, 0, 0, 0, ⟨#[]⟩, ⟨#[]⟩, ⟨#[]⟩⟩ := RP.other hn1
        have CQ : CardO (w4.setCell ⟨w.heap.size + 2, 2, none⟩ (.string ap)) w.heap.size ⟨ino, mo, u1, gi, cn, t, p, d⟩ := CP.other hn0
        have BQ := BP.setCell (p := ⟨w.heap.size + 2, 2, none⟩) hw1 (.string ap)
        go_upto_region 16 with fail
        obtain ⟨w5, hnw⟩ : ∃ y, y = w4.setCell ⟨w.heap.size + 2, 2, none⟩ (.string ap) := ⟨_, rfl⟩
        rw [← hnw] at XQ RQ CQ BQ ⊢
        clear hnw f2 XP RP CP BP d0 d1 d2 d3 d4 d5 d6 d7 d8 d9
        have XP := XQ
        have RP := RQ
        have CP := CQ
        have BP := BQ
        clear XQ RQ CQ BQ
        obtain ⟨d0, d1, d2, d3, d4, d5, d6, d7, d8, d9⟩ := XP.at.zero
        clear d0 d1 d2 d3 d4 d5 d6 d7 d8 d9 c0 c1 c2 c3 c4 c5 c6 c7
        obtain ⟨d0, d1, d2, d3, d4, d5, d6, d7, d8, d9⟩ := XP.at.zero
        obtain ⟨z0, z1, z2, z3, z4, z5, z6, z7, z8, z9⟩ := RP.at.zero
        have f0 := RP.fz 0
        have f1 := RP.fz 1
        have f2 := RP.fz 2
        have f3 := RP.fz 3
        have f4 := RP.fz 4
        have f5 := RP.fz 5
        have f6 := RP.fz 6
        have f7 := RP.fz 7
        have f8 := RP.fz 8
        have f9 := RP.fz 9
        have R9 := RP.put ⟨3, p, ap, md, u1, gi, t, ⟨#[]⟩, ⟨#[]⟩, ⟨#[]⟩⟩
        have B9 := below_putE (g := w.heap.size + 1) BP (by omega) ⟨3, p, ap, md, u1, gi, t, ⟨#[]⟩, ⟨#[]⟩, ⟨#[]⟩⟩
        simp only [putE] at R9 B9
        go_wp2_with fail
        refine bodyPost_ret (res_ent1 rfl _ rfl R9) rfl ?_
        exact ⟨by rw [HF.out], B9⟩
      · have q3 : (ai == ino) = false := by simpa using hq
        have HUn := Lib.hid (HUs.out hq)
        clear HUs HHi hq
        go_wp2_with fail
        go_quiet (fail)
        go_wp2_with fail
        go_roundw
        case rel => exact ⟨i + 1, by go_num, by omega, HUn.out, HB.out.os, HB.out.tape, HB.out.output, HB.out.size, HB.out.block⟩
        case measure => simp [intOf]; omega
    · obtain rfl : i = n := by omega
      have hlt2 : ¬ (i : Int) < (i : Int) := by omega
      have HF : Hid (r = ⟨0, p, ⟨#[]⟩, md, u1, gi, t, ⟨#[]⟩, ⟨#[]⟩, d⟩) := Lib.hid (by rw [HR2.out, HM.out HU.out])
      clear HR2 HM HU HH
      obtain ⟨k0, k1, k2, k3, k4, k5, k6, k7⟩ := CP.at.zero
      obtain ⟨d0, d1, d2, d3, d4, d5, d6, d7, d8, d9⟩ := XP.at.zero
      have f9 := XP.fz 9
      have XQ := XP.set (e' := ⟨0, p, ⟨#[]⟩, md, u1, gi, t, ⟨#[]⟩, ⟨#[]⟩, d⟩) 9 (.string d) rfl
      have RQ : EntO (wr.setCell ⟨w.heap.size + 2, 9, none⟩ (.string d)) (w.heap.size + 1) ⟨0, ⟨#[]⟩, ⟨#[]⟩, 0, 0, 0, 0, ⟨#[]⟩, ⟨#[]⟩, ⟨#[]⟩⟩ := RP.other hn1
      have CQ : CardO (wr.setCell ⟨w.heap.size + 2, 9, none⟩ (.string d)) w.heap.size ⟨ino, mo, u1, gi, cn, t, p, d⟩ := CP.other hn0
      have BQ := BP.setCell (p := ⟨w.heap.size + 2, 9, none⟩) hw1 (.string d)
      go_upto_region 18 with fail
      obtain ⟨w5, hnw⟩ : ∃ y, y = wr.setCell ⟨w.heap.size + 2, 9, none⟩ (.string d) := ⟨_, rfl⟩
      rw [← hnw] at XQ RQ CQ BQ ⊢
      clear hnw f9 XP RP CP BP d0 d1 d2 d3 d4 d5 d6 d7 d8 d9
      have XP := XQ
      have RP := RQ
      have CP := CQ
      have BP := BQ
      clear XQ RQ CQ BQ
      obtain ⟨d0, d1, d2, d3, d4, d5, d6, d7, d8, d9⟩ := XP.at.zero
      clear d0 d1 d2 d3 d4 d5 d6 d7 d8 d9
      obtain ⟨d0, d1, d2, d3, d4, d5, d6, d7, d8, d9⟩ := XP.at.zero
      obtain ⟨z0, z1, z2, z3, z4, z5, z6, z7, z8, z9⟩ := RP.at.zero
      have f0 := RP.fz 0
      have f1 := RP.fz 1
      have f2 := RP.fz 2
      have f3 := RP.fz 3
      have f4 := RP.fz 4
      have f5 := RP.fz 5
      have f6 := RP.fz 6
      have f7 := RP.fz 7
      have f8 := RP.fz 8
      have f9 := RP.fz 9
      have R9 := RP.put ⟨0, p, ⟨#[]⟩, md, u1, gi, t, ⟨#[]⟩, ⟨#[]⟩, d⟩
      have B9 := below_putE (g := w.heap.size + 1) BP (by omega) ⟨0, p, ⟨#[]⟩, md, u1, gi, t, ⟨#[]⟩, ⟨#[]⟩, d⟩
      simp only [putE] at R9 B9
      go_wp2_with fail
      refine bodyPost_ret (res_ent1 rfl _ rfl R9) rfl ?_
      exact ⟨by rw [HF.out], B9⟩
theorem row_ent {w : World} {G : Nat} {ty : TypeId} {c : Ent} (h : w.heap[G]? = some (.cells c.cells.toArray ty (0, 0))) : ∀ j u, (entVals [c])[j]? = some u → w.cell? ⟨G, j, none⟩ = some u := by
  intro j u hu
  rw [entVals_one] at hu
  simp only [World.cell?, h]
  simpa using hu
theorem small_entS {A : List Card} {c : Card} (hA : SmallC A) (hc : szC c ≤ 2097152) : esz (entS A c) ≤ 4194304 := by
  unfold szC at hc
  have h0 : (⟨#[]⟩ : ByteArray).size = 0 := rfl
  unfold entS
  split
  · simp only [esz]; omega
  · split
    · simp only [esz]; omega
    · split
      · rename_i a ha
        have h := hA a (List.mem_of_find?_eq_some ha)
        unfold szC at h
        simp only [esz]; omega
      · simp only [esz]; omega
theorem smallC_take {A : List Card} (hA : SmallC A) (n : Nat) : SmallC (A.take n) := fun c hc => hA c (List.mem_of_mem_take hc)
theorem getD_ofC {C : List Card} {i : Nat} {c : Card} (h : C[i]? = some c) : C.getD i zeroCd = c := by simp [List.getD, h]
theorem small_entsS {C : List Card} (hC : SmallC C) (n : Nat) (hn : n ≤ C.length) : SmallL (entsS C n) := by
  intro e he
  obtain ⟨i, hi⟩ := List.mem_iff_getElem?.1 he
  have hlt : i < n := by
    have := (List.getElem?_eq_some_iff.1 hi).1
    rw [entsS_len] at this
    exact this
  rw [entsS_get _ _ _ hlt] at hi
  obtain rfl := Option.some.inj hi
  have hc : C[i]? = some C[i] := List.getElem?_eq_getElem (by omega)
  rw [getD_ofC hc]
  exact small_entS (smallC_take hC i) (hC _ (List.mem_of_getElem? hc))
set_option maxHeartbeats 6400000 in
set_option maxRecDepth 8000 in
theorem entriesOf_spec (C : List Card) (n g cap : Nat) (w : World) (hn : n = C.length) (hm : n ≤ 1048576) (hcap : n ≤ cap) (hg : g < w.heap.size) (hsm : SmallC C) (hwf : ∀ c ∈ C, c.wf) (h1 : RowC w g C) :
    Calls Tryz.prog 69 #[.slice (some ⟨g, 0, none⟩) n cap] w fun e w' => ∃ v, e = .returned (.tuple #[v, .bool (okS C)]) ∧ OwnE w' w.heap.size v (entriesv C) ∧ Below w.heap.size w w' := by
  obtain ⟨i0, hi0, hz0, hz1, hz2⟩ := info_parts Tryz.infoE
  have H1 := Lib.hid h1
  have HG : Hid (∀ i, i < n → ∃ c, C[i]? = some c ∧ c.wf) := Lib.hid (fun i hi => by obtain ⟨c, hc⟩ := getC' (L := C) (i := i) (by omega); exact ⟨c, hc, hwf c (List.mem_of_getElem? hc)⟩)
  have HS : Hid (∀ i c, C[i]? = some c → entsS C (i + 1) = entsS C i ++ [entS (C.take i) c]) := Lib.hid (fun i c hc => by rw [entsS, getD_ofC hc])
  have HE := Lib.hid (fun (i : Nat) (hi : i ≤ n) (ino mo u1 gi cn t : Int) (p d : ByteArray) (hm0 : -9223372036854775808 ≤ mo) (hm1 : mo ≤ 9223372036854775807) w (hg : g < w.heap.size) (h : RowC w g C) => entry_spec (C.take i) ino mo u1 gi cn t p d i g cap w (by simp; omega) (by omega) hg hm0 hm1 (h.take i))
  have HLn := Lib.hid (fun i => entsS_len C i)
  have HK := Lib.hid (fun g2 c2 w (hc : n ≤ c2) (hg : g2 < w.heap.size) (h : RowE w g2 (entsS C n)) => listOk_spec (entsS C n) n g2 c2 w (entsS_len C n).symm (by omega) hc hg (small_entsS hsm n (by omega)) h)
  have HQ := Lib.hid (fun g2 c2 w (hc : n ≤ c2) (hg : g2 < w.heap.size) (h : RowE w g2 (entsS C n)) => cardsOf_spec (entsS C n) n g2 c2 w (entsS_len C n).symm (by omega) hc hg (small_entsS hsm n (by omega)) h)
  have hql : (cardsv (entsS C n)).length ≤ n := by have := cardsv_le (entsS C n); rw [entsS_len] at this; exact this
  have HM := Lib.hid (fun M (m g2 c2 : Nat) w (hM : m = M.length) (hl : m ≤ 4194304) (hg2 : g2 < w.heap.size) (hg : g < w.heap.size) (h2 : RowC w g2 M) (h : RowC w g C) => same_specC M C m g2 c2 n g cap w hM hn hl (by omega) hg2 hg h2 h)
  have HO : Hid (okS C = (listOkv (entsS C n) && decide (cardsv (entsS C n) = C))) := Lib.hid (by rw [hn]; rfl)
  have HV : Hid (entriesv C = if okS C then entsS C n else []) := Lib.hid (by rw [hn]; rfl)
  have HZ : Hid (entsS C 0 = []) := Lib.hid rfl
  generalize okS C = ok at HO HV
  generalize entriesv C = r at HV
  clear h1 hn hsm hwf
  go_enter Tryz.func69, Tryz.ntmps69
  go_wp2_with fail
  go_loopw [4, 5] (fun v u wr => ∃ i : Nat, u = .int .i64 i ∧ i ≤ n ∧ OwnE wr w.heap.size v (entsS C i) ∧ Below w.heap.size w wr) (fun _ u _ => n - (intOf u).toNat)
  case atStart => exact ⟨0, rfl, Nat.zero_le _, by rw [HZ.out]; exact OwnE.lit (Nat.le_refl _), (Below.refl _ _).alloc (Nat.le_refl _) _⟩
  case round =>
    obtain ⟨i, rfl, hi, ho, hb⟩ := hrel
    obtain ⟨w5, hw5⟩ : ∃ wo, wo = wr := ⟨_, rfl⟩
    subst hw5
    have O := Lib.hid ho
    have B := Lib.hid hb
    have hszB := B.out.size
    have R := Lib.hid (H1.out.below B.out hg)
    have zg5 : g < w5.heap.size := by omega
    clear ho hb
    by_cases hlt : i < n
    · have hlt2 : (i : Int) < (n : Int) := by omega
      obtain ⟨c, hc, hcw⟩ := HG.out i hlt
      have HS2 := Lib.hid (HS.out i c hc)
      have HL2 := HLn.out i
      have hcols := Lib.hid (fun w' (hb : Below w5.heap.size w5 w') => (R.out.below hb zg5).cols hc)
      clear hc HS
      obtain ⟨go, co, rfl, _, zo, hbo, _, _⟩ := O.out.open
      obtain ⟨D, hD⟩ : ∃ D, entsS C i = D := ⟨_, rfl⟩
      rw [hD] at HS2 O HL2 ⊢
      have hDl : D.length ≤ 1048576 := by omega
      clear hD HL2
      obtain ⟨ino, mo, u1, gi, cn, t, p, d⟩ := c
      obtain ⟨_, ⟨hm0, hm1⟩, _⟩ := hcw
      simp only at hm0 hm1
      have HE2 := Lib.hid (fun w' (hb : Below w5.heap.size w5 w') => HE.out i hi ino mo u1 gi cn t p d hm0 hm1 w' (Nat.lt_of_lt_of_le zg5 hb.size) (R.out.below hb zg5))
      generalize entS (C.take i) ⟨ino, mo, u1, gi, cn, t, p, d⟩ = f at HS2 HE2
      obtain ⟨ek, ep, el, em, eu, eg, et, es, er, eb⟩ := f
      simp only [Ent.cells] at HE2
      have KC : Hid (∀ w', Below w5.heap.size w5 w' → w'.cell? ⟨g, i * 8, none⟩ = some (.int .i64 ino) ∧ w'.cell? ⟨g, i * 8 + 1, none⟩ = some (.int .i64 mo) ∧ w'.cell? ⟨g, i * 8 + 2, none⟩ = some (.int .i64 u1) ∧ w'.cell? ⟨g, i * 8 + 3, none⟩ = some (.int .i64 gi) ∧ w'.cell? ⟨g, i * 8 + 4, none⟩ = some (.int .i64 cn) ∧ w'.cell? ⟨g, i * 8 + 5, none⟩ = some (.int .i64 t) ∧ w'.cell? ⟨g, i * 8 + 6, none⟩ = some (.string p) ∧ w'.cell? ⟨g, i * 8 + 7, none⟩ = some (.string d)) := Lib.hid (fun w' hb => hcols.out w' hb)
      have hic : i ≤ cap := by omega
      have hic2 : (i : Int) ≤ (cap : Int) := by omega
      clear hcols HE HG
      go_upto_region 5 with fail
      refine wp_region_cut 10 (by kernel_rfl) (fun w' => Below w5.heap.size w5 w') (fun x y => Below x.heap.size x y) (vSlG 22 45 w5.heap.size #[.int .i64 ek, .string ep, .string el, .int .i64 em, .int .i64 eu, .int .i64 eg, .int .i64 et, .string es, .string er, .string eb] (fun dq vq => match dq with | 13 => vq = .slice (some ⟨go, 0, none⟩) D.length co | 14 => vq = .slice (some ⟨g, 0, none⟩) n cap | 15 => vq = .int .i64 (i : Int) | 16 => vq = .slice (some ⟨g, 0, none⟩) i cap | 17 => vq = .slice (some ⟨g, 0, none⟩) n cap | 18 => vq = .int .i64 (i : Int) | 19 => vq = .pointer (some ⟨g, i * 8, none⟩) | 20 => vq = .agg #[.int .i64 ino, .int .i64 mo, .int .i64 u1, .int .i64 gi, .int .i64 cn, .int .i64 t, .string p, .string d] | 21 => vq = .agg #[.int .i64 ek, .string ep, .string el, .int .i64 em, .int .i64 eu, .int .i64 eg, .int .i64 et, .string es, .string er, .string eb] | _ => True)) (by kernel_rfl) (by kernel_rfl) ((Below.refl _ _).drew) (vSlG_keep _ _ _ _ _) (by simp) ?hops ?hend
      case hops =>
        simp only [List.take_succ_cons, List.take_zero, List.forall_mem_cons]
        refine ⟨?o13, ?o14, ?o15, ?o16, ?o17, ?o18, ?o19, ?o20, ?o21, ?o22, fun _ h => by cases h⟩
        case o13 =>
          intro Q a w2 hC hV hI
          have e4 : a.eval (.tmp 4) = .slice (some ⟨go, 0, none⟩) D.length co := (hI 4 (by simp [Op.operands]) (by kernel_rfl)).trans rfl
          have f4 : a.tmps.getD 4 undef = .slice (some ⟨go, 0, none⟩) D.length co := e4
          have g4 : a.tmps[4]?.getD undef = .slice (some ⟨go, 0, none⟩) D.length co := by rw [← Array.getD_eq_getD_getElem?]; exact e4
          refine op_val (.slice (some ⟨go, 0, none⟩) D.length co) ?_ hC (Below.refl _ _) (by intro d hd; cases hd; exact rfl)
          (clear hV hI hC; go_simp <;> (first | rfl | simp | (rw [IntKind.wrap_i64]; omega)))
        case o14 =>
          intro Q a w2 hC hV hI
          have e0 : a.eval (.tmp 0) = .slice (some ⟨g, 0, none⟩) n cap := (hI 0 (by simp [Op.operands]) (by kernel_rfl)).trans rfl
          have f0 : a.tmps.getD 0 undef = .slice (some ⟨g, 0, none⟩) n cap := e0
          have g0 : a.tmps[0]?.getD undef = .slice (some ⟨g, 0, none⟩) n cap := by rw [← Array.getD_eq_getD_getElem?]; exact e0
          refine op_val (.slice (some ⟨g, 0, none⟩) n cap) ?_ hC (Below.refl _ _) (by intro d hd; cases hd; exact rfl)
          (clear hV hI hC; go_simp <;> (first | rfl | simp | (rw [IntKind.wrap_i64]; omega)))
        case o15 =>
          intro Q a w2 hC hV hI
          have e5 : a.eval (.tmp 5) = .int .i64 (i : Int) := (hI 5 (by simp [Op.operands]) (by kernel_rfl)).trans rfl
          have f5 : a.tmps.getD 5 undef = .int .i64 (i : Int) := e5
          have g5 : a.tmps[5]?.getD undef = .int .i64 (i : Int) := by rw [← Array.getD_eq_getD_getElem?]; exact e5
          refine op_val (.int .i64 (i : Int)) ?_ hC (Below.refl _ _) (by intro d hd; cases hd; exact rfl)
          (clear hV hI hC; go_simp <;> (first | rfl | simp | (rw [IntKind.wrap_i64]; omega)))
        case o16 =>
          intro Q a w2 hC hV hI
          have e14 : a.eval (.tmp 14) = .slice (some ⟨g, 0, none⟩) n cap := hV 14 (by simp [Op.operands]) (by kernel_rfl)
          have f14 : a.tmps.getD 14 undef = .slice (some ⟨g, 0, none⟩) n cap := e14
          have g14 : a.tmps[14]?.getD undef = .slice (some ⟨g, 0, none⟩) n cap := by rw [← Array.getD_eq_getD_getElem?]; exact e14
          have e15 : a.eval (.tmp 15) = .int .i64 (i : Int) := hV 15 (by simp [Op.operands]) (by kernel_rfl)
          have f15 : a.tmps.getD 15 undef = .int .i64 (i : Int) := e15
          have g15 : a.tmps[15]?.getD undef = .int .i64 (i : Int) := by rw [← Array.getD_eq_getD_getElem?]; exact e15
          refine op_val (.slice (some ⟨g, 0, none⟩) i cap) ?_ hC (Below.refl _ _) (by intro d hd; cases hd; exact rfl)
          (clear hV hI hC; go_simp <;> (first | rfl | simp | (rw [IntKind.wrap_i64]; omega)))
        case o17 =>
          intro Q a w2 hC hV hI
          have e0 : a.eval (.tmp 0) = .slice (some ⟨g, 0, none⟩) n cap := (hI 0 (by simp [Op.operands]) (by kernel_rfl)).trans rfl
          have f0 : a.tmps.getD 0 undef = .slice (some ⟨g, 0, none⟩) n cap := e0
          have g0 : a.tmps[0]?.getD undef = .slice (some ⟨g, 0, none⟩) n cap := by rw [← Array.getD_eq_getD_getElem?]; exact e0
          refine op_val (.slice (some ⟨g, 0, none⟩) n cap) ?_ hC (Below.refl _ _) (by intro d hd; cases hd; exact rfl)
          (clear hV hI hC; go_simp <;> (first | rfl | simp | (rw [IntKind.wrap_i64]; omega)))
        case o18 =>
          intro Q a w2 hC hV hI
          have e5 : a.eval (.tmp 5) = .int .i64 (i : Int) := (hI 5 (by simp [Op.operands]) (by kernel_rfl)).trans rfl
          have f5 : a.tmps.getD 5 undef = .int .i64 (i : Int) := e5
          have g5 : a.tmps[5]?.getD undef = .int .i64 (i : Int) := by rw [← Array.getD_eq_getD_getElem?]; exact e5
          refine op_val (.int .i64 (i : Int)) ?_ hC (Below.refl _ _) (by intro d hd; cases hd; exact rfl)
          (clear hV hI hC; go_simp <;> (first | rfl | simp | (rw [IntKind.wrap_i64]; omega)))
        case o19 =>
          intro Q a w2 hC hV hI
          have e17 : a.eval (.tmp 17) = .slice (some ⟨g, 0, none⟩) n cap := hV 17 (by simp [Op.operands]) (by kernel_rfl)
          have f17 : a.tmps.getD 17 undef = .slice (some ⟨g, 0, none⟩) n cap := e17
          have g17 : a.tmps[17]?.getD undef = .slice (some ⟨g, 0, none⟩) n cap := by rw [← Array.getD_eq_getD_getElem?]; exact e17
          have e18 : a.eval (.tmp 18) = .int .i64 (i : Int) := hV 18 (by simp [Op.operands]) (by kernel_rfl)
          have f18 : a.tmps.getD 18 undef = .int .i64 (i : Int) := e18
          have g18 : a.tmps[18]?.getD undef = .int .i64 (i : Int) := by rw [← Array.getD_eq_getD_getElem?]; exact e18
          refine op_val (.pointer (some ⟨g, i * 8, none⟩)) ?_ hC (Below.refl _ _) (by intro d hd; cases hd; exact rfl)
          (clear hV hI hC; go_simp <;> (first | rfl | simp | (rw [IntKind.wrap_i64]; omega)))
        case o20 =>
          intro Q a w2 hC hV hI
          have e19 : a.eval (.tmp 19) = .pointer (some ⟨g, i * 8, none⟩) := hV 19 (by simp [Op.operands]) (by kernel_rfl)
          have f19 : a.tmps.getD 19 undef = .pointer (some ⟨g, i * 8, none⟩) := e19
          have g19 : a.tmps[19]?.getD undef = .pointer (some ⟨g, i * 8, none⟩) := by rw [← Array.getD_eq_getD_getElem?]; exact e19
          have hK := KC.out w2 hC
          refine op_val (.agg #[.int .i64 ino, .int .i64 mo, .int .i64 u1, .int .i64 gi, .int .i64 cn, .int .i64 t, .string p, .string d]) ?_ hC (Below.refl _ _) (by intro d hd; cases hd; exact rfl)
          (clear hV hI hC; go_simp <;> (first | rfl | simp | (rw [IntKind.wrap_i64]; omega)))
        case o21 =>
          intro Q a w2 hC hV hI
          have e16 : a.eval (.tmp 16) = .slice (some ⟨g, 0, none⟩) i cap := hV 16 (by simp [Op.operands, Call.operands]) (by kernel_rfl)
          have f16 : a.tmps.getD 16 undef = .slice (some ⟨g, 0, none⟩) i cap := e16
          have g16 : a.tmps[16]?.getD undef = .slice (some ⟨g, 0, none⟩) i cap := by rw [← Array.getD_eq_getD_getElem?]; exact e16
          have e20 : a.eval (.tmp 20) = .agg #[.int .i64 ino, .int .i64 mo, .int .i64 u1, .int .i64 gi, .int .i64 cn, .int .i64 t, .string p, .string d] := hV 20 (by simp [Op.operands, Call.operands]) (by kernel_rfl)
          have f20 : a.tmps.getD 20 undef = .agg #[.int .i64 ino, .int .i64 mo, .int .i64 u1, .int .i64 gi, .int .i64 cn, .int .i64 t, .string p, .string d] := e20
          have g20 : a.tmps[20]?.getD undef = .agg #[.int .i64 ino, .int .i64 mo, .int .i64 u1, .int .i64 gi, .int .i64 cn, .int .i64 t, .string p, .string d] := by rw [← Array.getD_eq_getD_getElem?]; exact e20
          refine op_call (f := 114) (args := #[.slice (some ⟨g, 0, none⟩) i cap, .agg #[.int .i64 ino, .int .i64 mo, .int .i64 u1, .int .i64 gi, .int .i64 cn, .int .i64 t, .string p, .string d]]) (R := fun v y => v = .agg #[.int .i64 ek, .string ep, .string el, .int .i64 em, .int .i64 eu, .int .i64 eg, .int .i64 et, .string es, .string er, .string eb] ∧ Below w2.heap.size w2 y) ?_ ((HE2.out w2 hC).mono ?_) ?_
          · (clear hV hI hC; go_simp <;> (first | rfl | simp | (rw [IntKind.wrap_i64]; omega)))
          · rintro e y ⟨rfl, hb⟩; exact ⟨_, rfl, rfl, hb⟩
          · rintro v y ⟨rfl, hb⟩; exact ⟨hC.trans (hb.mono hC.size), hb, by intro d hd; cases hd; exact rfl⟩
        case o22 =>
          intro Q a w2 hC hV hI
          have e21 : a.eval (.tmp 21) = .agg #[.int .i64 ek, .string ep, .string el, .int .i64 em, .int .i64 eu, .int .i64 eg, .int .i64 et, .string es, .string er, .string eb] := hV 21 (by simp [Op.operands]) (by kernel_rfl)
          have f21 : a.tmps.getD 21 undef = .agg #[.int .i64 ek, .string ep, .string el, .int .i64 em, .int .i64 eu, .int .i64 eg, .int .i64 et, .string es, .string er, .string eb] := e21
          have g21 : a.tmps[21]?.getD undef = .agg #[.int .i64 ek, .string ep, .string el, .int .i64 em, .int .i64 eu, .int .i64 eg, .int .i64 et, .string es, .string er, .string eb] := by rw [← Array.getD_eq_getD_getElem?]; exact e21
          refine op_val (.slice (some ⟨w2.heap.size, 0, none⟩) 1 1) (w' := w2.alloc (.cells #[.int .i64 ek, .string ep, .string el, .int .i64 em, .int .i64 eu, .int .i64 eg, .int .i64 et, .string es, .string er, .string eb] 45)) ?_ (hC.alloc hC.size _) ((Below.refl _ _).alloc (Nat.le_refl _) _) ?_
          · (clear hV hI hC; go_simp <;> (first | rfl | simp | (rw [IntKind.wrap_i64]; omega)))
          · intro d hd; cases hd; exact ⟨w2.heap.size, rfl, hC.size, heap_lastG _ _⟩
      case hend =>
        intro f w6 hC hall
        simp only [List.take_succ_cons, List.take_zero, List.drop_succ_cons, List.drop_zero] at hall ⊢
        simp only [List.forall_mem_cons] at hall
        obtain ⟨h13, h14, h15, h16, h17, h18, h19, h20, h21, h22, _⟩ := hall
        replace h13 : f 13 = .slice (some ⟨go, 0, none⟩) D.length co := h13 13 rfl
        replace h14 : f 14 = .slice (some ⟨g, 0, none⟩) n cap := h14 14 rfl
        replace h15 : f 15 = .int .i64 (i : Int) := h15 15 rfl
        replace h16 : f 16 = .slice (some ⟨g, 0, none⟩) i cap := h16 16 rfl
        replace h17 : f 17 = .slice (some ⟨g, 0, none⟩) n cap := h17 17 rfl
        replace h18 : f 18 = .int .i64 (i : Int) := h18 18 rfl
        replace h19 : f 19 = .pointer (some ⟨g, i * 8, none⟩) := h19 19 rfl
        replace h20 : f 20 = .agg #[.int .i64 ino, .int .i64 mo, .int .i64 u1, .int .i64 gi, .int .i64 cn, .int .i64 t, .string p, .string d] := h20 20 rfl
        replace h21 : f 21 = .agg #[.int .i64 ek, .string ep, .string el, .int .i64 em, .int .i64 eu, .int .i64 eg, .int .i64 et, .string es, .string er, .string eb] := h21 21 rfl
        obtain ⟨G22, hG22, hGB22, hGO22⟩ : ∃ G, f 22 = .slice (some ⟨G, 0, none⟩) 1 1 ∧ w5.heap.size ≤ G ∧ w6.heap[G]? = some (.cells #[.int .i64 ek, .string ep, .string el, .int .i64 em, .int .i64 eu, .int .i64 eg, .int .i64 et, .string es, .string er, .string eb] 45 (0, 0)) := h22 22 rfl
        simp only [putAll, Act.put, List.setIfInBounds_toArray, List.set_cons_succ, List.set_cons_zero, h13, h14, h15, h16, h17, h18, h19, h20, h21, hG22]
        clear h13 h14 h15 h16 h17 h18 h19 h20 h21 hG22 h22
        clear KC HE2 R
        replace O := Lib.hid (O.out.keep hC)
        replace B := Lib.hid (btE B.out hC)
        have OW := Lib.hid O.out.1
        have hsz6 := B.out.size
        go_wp2_with (at_builtin; refine wpList_append_own _ rfl _ _ 26 rfl w.heap.size 45 i0 (.agg #[.int .i64 0, .string ⟨#[]⟩, .string ⟨#[]⟩, .int .i64 0, .int .i64 0, .int .i64 0, .int .i64 0, .string ⟨#[]⟩, .string ⟨#[]⟩, .string ⟨#[]⟩]) 10 120 Tryz.underlying26 hi0 hz0 hz1 hz2 rfl (by decide) _ D.length (entVals D) rfl ?c0q ⟨G22, 0, none⟩ 1 1 (entVals [⟨ek, ep, el, em, eu, eg, et, es, er, eb⟩]) rfl (entVals_len _) ?c1q ?c2q ?c3q ?c4q ?c5q ?_)
        case c0q => exact OW.out
        case c1q => exact row_ent hGO22
        case c2q => exact entVals_onecell _
        any_goals (first | (simp only [maxLen]; omega) | omega | (simp; omega))
        intro v' w7 hown hgrow hnil
        have O7 : Hid (OwnE w7 w.heap.size v' (entsS C (i + 1))) := Lib.hid (by rw [HS2.out]; exact ownE_app hown rfl rfl hnil)
        have B7 : Hid (Below w.heap.size w w7) := Lib.hid (B.out.grown hgrow B.out.size (fun b hb => (World.ownsRow.lt OW.out b hb).1))
        clear hown hgrow hnil O B OW hC
        go_wp2_with fail
        go_roundw
        case rel => exact ⟨i + 1, by go_num, by omega, O7.out, B7.out⟩
        case measure => simp [intOf]; omega
    · obtain rfl : i = n := by omega
      have hlt2 : ¬ (i : Int) < (i : Int) := by omega
      have HLi := HLn.out i
      obtain ⟨go, co, rfl, hro, zo, hbo, hcap2, _⟩ := O.out.open
      rw [HLi] at hcap2
      have RO := Lib.hid hro
      have HKi := Lib.hid (fun w hg h => HK.out go co w hcap2 hg h)
      have HQi := Lib.hid (fun w hg h => HQ.out go co w hcap2 hg h)
      generalize entsS C i = D at *
      subst HLi
      clear hro HK HQ HS HE HG HZ HLn
      generalize listOkv D = b1 at HKi HO
      go_wp2_with fail
      refine (HKi.out _ zo RO.out).mono ?_
      rintro e w6 ⟨rfl, hb⟩
      replace O := Lib.hid (O.out.keep hb)
      replace RO := Lib.hid (RO.out.below hb zo)
      replace R := Lib.hid (R.out.below hb zg5)
      replace B := Lib.hid (btE B.out hb)
      replace zo := Nat.lt_of_lt_of_le zo hb.size
      have zg6 := Nat.lt_of_lt_of_le zg5 hb.size
      clear hb
      cases b1 with
      | false =>
        have HF : Hid (ok = false) := Lib.hid (by rw [HO.out]; rfl)
        have HF2 : Hid (r = []) := Lib.hid (by rw [HV.out, HF.out]; rfl)
        go_wp2_with fail
        go_ret2
        exact ⟨_, by rw [HF.out]; rfl, by rw [HF2.out]; exact OwnE.lit B.out.size, B.out.alloc B.out.size _⟩
      | true =>
        generalize cardsv D = Q at HQi HO hql
        go_wp2_with fail
        refine (HQi.out _ zo RO.out).mono ?_
        rintro e w7 ⟨v, rfl, hq, hb⟩
        obtain ⟨gq, cq, rfl, hrq, zq, _, _⟩ := hq.open
        have RQ := Lib.hid hrq
        replace O := Lib.hid (O.out.keep hb)
        replace R := Lib.hid (R.out.below hb zg6)
        replace B := Lib.hid (btE B.out hb)
        have zg7 := Nat.lt_of_lt_of_le zg6 hb.size
        clear hb hq hrq
        have HMi := Lib.hid (HM.out Q Q.length gq cq _ rfl (by omega) zq zg7 RQ.out R.out)
        clear HM
        generalize decide (Q = C) = b2 at HMi HO
        go_wp2_with fail
        refine HMi.out.mono ?_
        rintro e w8 ⟨rfl, hb⟩
        replace O := Lib.hid (O.out.keep hb)
        replace B := Lib.hid (btE B.out hb)
        clear hb
        cases b2 with
        | false =>
          have HF : Hid (ok = false) := Lib.hid (by rw [HO.out]; rfl)
          have HF2 : Hid (r = []) := Lib.hid (by rw [HV.out, HF.out]; rfl)
          go_wp2_with fail
          go_ret2
          exact ⟨_, by rw [HF.out]; rfl, by rw [HF2.out]; exact OwnE.lit B.out.size, B.out.alloc B.out.size _⟩
        | true =>
          have HF : Hid (ok = true) := Lib.hid (by rw [HO.out]; rfl)
          have HF2 : Hid (r = D) := Lib.hid (by rw [HV.out, HF.out]; rfl)
          go_wp2_with fail
          go_ret2
          exact ⟨_, by rw [HF.out]; rfl, by rw [HF2.out]; exact O.out, B.out⟩
end Go.Proofs.YtcnmbolmgifgfabGreatDoor
