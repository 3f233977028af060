/- Contract of spec.l02Glob and spec.Glob. -/
import Derived.Test.YthembgllkfgknaaGlobI
import Derived.OwnWalk
import Derived.BigRegion
import Derived.RegionTactic
import Derived.Deep.RegionWith
namespace Go.Proofs.Ythembgllkfgknaa
open Go.RowKit Go.Shelf

theorem Try.info4 : (Try.prog.info? 4).map (fun i => (i.zero, i.size, i.bytes)) = some (some (.bool false), 1, 1) := by kernel_rfl
def RowB (w : World) (g n : Nat) (R : Nat → Bool) : Prop := ∀ k, k ≤ n → w.cell? ⟨g, k, none⟩ = some (.bool (R k))
theorem RowB.below {w w' : World} {g n B : Nat} {R : Nat → Bool} (h : RowB w g n R) (hb : Below B w w') (hg : g < B) : RowB w' g n R := fun k hk => (hb.cell (p := ⟨g, k, none⟩) hg).trans (h k hk)
def OwnV (w : World) (g n : Nat) (ys : List Value) : Prop := w.ownsRow g 4 1 (.slice (some ⟨g, 0, none⟩) (n + 1) (n + 1)) (n + 1) ys
def FillB (ys : List Value) (R : Nat → Bool) (k : Nat) : Prop := ∀ i, i < k → ys[i]? = some (.bool (R i))
theorem FillB.step {ys : List Value} {R : Nat → Bool} {k : Nat} (h : FillB ys R k) (hk : k < ys.length) {b : Bool} (hb : R k = b) : FillB (ys.set k (.bool b)) R (k + 1) := by
  intro i hi
  by_cases e : i = k
  · subst e; rw [List.getElem?_set_self hk, hb]
  · rw [List.getElem?_set_ne (by omega)]; exact h i (by omega)
theorem OwnV.len {w : World} {g n : Nat} {ys : List Value} (h : OwnV w g n ys) : ys.length = n + 1 := by have := h.1; omega
theorem OwnV.row {w : World} {g n : Nat} {ys : List Value} {R : Nat → Bool} (h : OwnV w g n ys) (hf : FillB ys R (n + 1)) : RowB w g n R := fun k hk => (World.ownsRow.cellAt h k (by omega)).trans (hf k (by omega))
theorem OwnV.at {w : World} {g n : Nat} {ys : List Value} {R : Nat → Bool} {k : Nat} (h : OwnV w g n ys) (hf : FillB ys R k) (i : Nat) (hi : i < k) (hk : k ≤ n + 1) : w.cell? ⟨g, i, none⟩ = some (.bool (R i)) := (World.ownsRow.cellAt h i (by omega)).trans (hf i hi)
theorem OwnV.anyCell {w : World} {g n : Nat} {ys : List Value} (h : OwnV w g n ys) (k : Nat) (hk : k ≤ n) : ∃ y, w.cell? ⟨g, k, none⟩ = some y := by
  have hl := h.len
  exact ⟨ys[k]'(by omega), (World.ownsRow.cellAt h k (by omega)).trans (List.getElem?_eq_getElem (by omega))⟩
theorem OwnV.lt {w : World} {g n : Nat} {ys : List Value} (h : OwnV w g n ys) : g < w.heap.size := (World.ownsRow.lt h g rfl).2

theorem nst_succ (s : ByteArray) (wd : Bool) (R : Nat → Bool) (j : Nat) : nst s wd R (j + 1) = (R (j + 1) || (nst s wd R j && stOk s wd j)) := rfl
theorem nst_zero (s : ByteArray) (wd : Bool) (R : Nat → Bool) : nst s wd R 0 = R 0 := rfl
theorem one_succ (s x : ByteArray) (R : Nat → Bool) (j : Nat) : one s x R (j + 1) = (R j && oneOk s x j) := rfl
theorem tok_star (s : ByteArray) (R : Nat → Bool) : tokStep s ⟨#[42]⟩ R = nst s false R := by
  simp [tokStep, isStar, isWide]
theorem tok_wide (s : ByteArray) (R : Nat → Bool) : tokStep s ⟨#[42, 42]⟩ R = nst s true R := by
  have h : (⟨#[42, 42]⟩ : ByteArray) ≠ ⟨#[42]⟩ := by decide
  simp [tokStep, isStar, isWide, h]
theorem tok_one (s : ByteArray) (R : Nat → Bool) {c : UInt8} (h : ¬ c = 42) : tokStep s ⟨#[c]⟩ R = one s ⟨#[c]⟩ R := by
  simp [tokStep, isStar, h]
theorem oneOk_q {s : ByteArray} {j : Nat} (h : j < s.size) : oneOk s ⟨#[63]⟩ j = !decide ((s[j].toNat : Int) = 47) := by
  rw [oneOk, ext_one h, bangG s j h]
  by_cases hc : (s[j].toNat : Int) = 47
  · have e : s[j].toNat = 47 := by omega
    have e2 : s[j] = 47 := UInt8.toNat_inj.1 e
    have h3 : ¬ (⟨#[63]⟩ : ByteArray) = ⟨#[s[j]]⟩ := by rw [e2]; decide
    simp [h3, e]
  · have e : ¬ s[j].toNat = 47 := by omega
    simp [hc, e]
theorem oneOk_c {s : ByteArray} {j : Nat} {c : UInt8} (h : j < s.size) (hq : ¬ c = 63) : oneOk s ⟨#[c]⟩ j = ((s[j].toNat : Int) == (c.toNat : Int)) := by
  rw [oneOk, ext_one h]
  have h1 : ¬ (⟨#[c]⟩ : ByteArray) = ⟨#[63]⟩ := by
    intro e
    have := congrArg (fun b : ByteArray => b.data.toList) e
    simp at this
    exact hq this
  by_cases hc : s[j] = c
  · rw [hc]; simp
  · have h2 : ¬ (⟨#[c]⟩ : ByteArray) = ⟨#[s[j]]⟩ := by
      intro e
      have := congrArg (fun b : ByteArray => b.data.toList) e
      simp at this
      exact hc this.symm
    have h3 : ¬ s[j].toNat = c.toNat := fun e => hc (UInt8.toNat_inj.1 e)
    simp [h1, h2]
    omega
/-- The first array: true at 0 alone. -/
theorem fill_zero (n : Nat) : FillB ((madeCells #[Value.bool false] (n + 1)).toList.set 0 (.bool true)) zeroR (n + 1) := by
  intro i hi
  by_cases e : i = 0
  · subst e
    rw [List.getElem?_set_self (by simp [madeCells])]; rfl
  · rw [List.getElem?_set_ne (by omega)]
    simp [madeCells, zeroR, e, hi, Nat.mod_one]
theorem bdrew {B : Nat} {w w' : World} (h : Below B w w') : Below B w w'.drew := ⟨h.os, h.tape, h.output, h.size, h.block⟩
set_option maxRecDepth 8000 in
set_option maxHeartbeats 8000000 in
theorem l02Glob_any (p s : ByteArray) (w : World) (hp : p.size ≤ 50) (hs : s.size ≤ 300) :
    Calls Try.prog 34 #[.string p, .string s] w fun e w' => e = .returned (.bool (globFold s (toksAt p 0) zeroR s.size)) ∧ Below w.heap.size w w' := by
  obtain ⟨i0, hi0, hz0, hz1, hz2⟩ := info_parts Try.info4
  go_enter Try.func34, Try.ntmps34
  go_wp2_with (at_make; refine wpList_make_full _ rfl _ _ 63 rfl w.heap.size 4 i0 (.bool false) 1 Try.underlying63 hi0 hz0 hz1 .i64 .i64 ((s.size : Int) + 1) ((s.size : Int) + 1) (s.size + 1) rfl rfl (by omega) (by omega) (by rw [hz2]; omega) (by simp only [maxLen]; omega) (Nat.le_refl _) ?_)
  intro w0 hown0 hg0
  have O0 : Hid (OwnV w0 w.heap.size s.size (madeCells #[Value.bool false] (s.size + 1)).toList) := Lib.hid hown0
  have B0 : Hid (Below w.heap.size w w0) := Lib.hid ((Below.refl _ _).grown hg0 (Nat.le_refl _) (fun b hb => by cases hb))
  have f0 := World.ownsRow.frozenAt O0.out 0
  obtain ⟨y0, c0⟩ := O0.out.anyCell 0 (Nat.zero_le _)
  have S0 : Hid (OwnV (w0.setCell ⟨w.heap.size, 0, none⟩ (.bool true)) w.heap.size s.size ((madeCells #[Value.bool false] (s.size + 1)).toList.set 0 (.bool true))) := Lib.hid (World.ownsRow.stored O0.out 0 (.bool true)).1
  clear hown0 hg0
  go_wp2_with fail
  generalize hTT : globFold s (toksAt p 0) zeroR = TT
  have HTT := Lib.hid hTT
  go_loopw [5, 6] (fun v u wr => ∃ (g i : Nat) (R : Nat → Bool), v = .slice (some ⟨g, 0, none⟩) (s.size + 1) (s.size + 1) ∧ u = .int .i64 i ∧ i ≤ p.size ∧ globFold s (toksAt p i) R = TT ∧ RowB wr g s.size R ∧ g < wr.heap.size ∧ w.heap.size ≤ wr.heap.size ∧ Below w.heap.size w wr) (fun _ u _ => p.size - (intOf u).toNat)
  case atStart => exact ⟨w.heap.size, 0, zeroR, rfl, rfl, Nat.zero_le _, hTT, S0.out.row (fill_zero s.size), S0.out.lt, by have := B0.out.size; simp; omega, B0.out.setCell (p := ⟨w.heap.size, 0, none⟩) (Nat.le_refl _) _⟩
  case round =>
    obtain ⟨g, i, R, rfl, rfl, hi, hT, hr, hgr, hws, hb⟩ := hrel
    rename World => wo
    have HT := Lib.hid hT
    have HR := Lib.hid hr
    have HB := Lib.hid hb
    clear hT hr hb S0 O0 B0 f0 c0 hTT
    by_cases hlt : i < p.size
    · have hlt2 : (i : Int) < (p.size : Int) := by omega
      have hcn := UInt8.toNat_lt p[i]
      have MK : Hid (∀ w1 : World, w1.ownsRow wo.heap.size 4 1 (.slice (some ⟨wo.heap.size, 0, none⟩) (s.size + 1) (s.size + 1)) (s.size + 1) (madeCells #[Value.bool false] (s.size + 1)).toList → wo.grownBy w1 none → OwnV w1 wo.heap.size s.size (madeCells #[Value.bool false] (s.size + 1)).toList ∧ Below wo.heap.size wo w1) := Lib.hid (fun w1 h1 h2 => ⟨h1, (Below.refl _ _).grown h2 (Nat.le_refl _) (fun b hb => by cases hb)⟩)
      by_cases hst : (p[i].toNat : Int) = 42
      · have q1 : ((p[i].toNat : Int) == 42) = true := by simp [hst]
        have e42 : p[i] = 42 := UInt8.toNat_inj.1 (show p[i].toNat = 42 by omega)
        clear hst
        by_cases hw : ∃ h2 : i + 1 < p.size, p[i + 1] = 42
        · obtain ⟨h2, e2⟩ := hw
          have h22 : (i : Int) + 1 < (p.size : Int) := by omega
          have fi : ((i : Int) + 1).toNat = i + 1 := by omega
          have q2 : ((p[i + 1].toNat : Int) == 42) = true := by rw [e2]; rfl
          have HNX : Hid (globFold s (toksAt p (i + 2)) (nst s true R) = TT) := Lib.hid (by rw [← HT.out, toksAt_wide h2 e42 e2, globFold_cons, tok_wide])
          clear e42 e2
          go_wp2_with (at_make; refine wpList_make_full _ rfl _ _ 63 rfl wo.heap.size 4 i0 (.bool false) 1 Try.underlying63 hi0 hz0 hz1 .i64 .i64 ((s.size : Int) + 1) ((s.size : Int) + 1) (s.size + 1) rfl rfl (by omega) (by omega) (by rw [hz2]; omega) (by simp only [maxLen]; omega) (Nat.le_refl _) ?_)
          intro w1 hown1 hg1
          have O1 := Lib.hid (MK.out w1 hown1 hg1).1
          have B1 := Lib.hid (MK.out w1 hown1 hg1).2
          clear hown1 hg1
          go_wp2_with fail
          go_loopw [9] (fun u wk => ∃ (k : Nat) (ys : List Value), k ≤ s.size + 1 ∧ u = .int .i64 k ∧ OwnV wk wo.heap.size s.size ys ∧ FillB ys (nst s true R) k ∧ Below wo.heap.size wo wk) (fun u _ => s.size + 1 - (intOf u).toNat)
          case atStart => exact ⟨0, _, Nat.zero_le _, rfl, O1.out, fun i hi => by omega, B1.out⟩
          case round =>
            obtain ⟨k, ys, hk, rfl, ho, hf, hb⟩ := hrel
            have HO := Lib.hid ho
            have HF := Lib.hid hf
            have HBk := Lib.hid hb
            have RC := Lib.hid (HR.out.below hb hgr)
            clear ho hf hb O1 B1
            by_cases hkn : k ≤ s.size
            · cases k with
              | zero =>
                have hkn2 : (0 : Int) ≤ (s.size : Int) := by omega
                have fz := World.ownsRow.frozenAt HO.out 0
                obtain ⟨yz, cz⟩ := HO.out.anyCell 0 (Nat.zero_le _)
                have cc := RC.out 0 (Nat.zero_le _)
                have HST := Lib.hid (HF.out.step (by rw [HO.out.len]; omega) (nst_zero s true R))
                generalize R 0 = b0 at cc HST
                cases b0 with
                | true =>
                  go_wp2_with fail
                  go_roundw
                  case rel => exact ⟨0 + 1, _, by omega, by go_num, (World.ownsRow.stored HO.out _ _).1, HST.out, HBk.out.setCell (p := ⟨wo.heap.size, _, none⟩) (Nat.le_refl _) _⟩
                  case measure => simp [intOf] <;> omega
                | false =>
                  go_wp2_with fail
                  go_roundw
                  case rel => exact ⟨0 + 1, _, by omega, by go_num, (World.ownsRow.stored HO.out _ _).1, HST.out, HBk.out.setCell (p := ⟨wo.heap.size, _, none⟩) (Nat.le_refl _) _⟩
                  case measure => simp [intOf] <;> omega
              | succ j =>
                have hj : j < s.size := by omega
                have hkn2 : (j : Int) + 1 ≤ (s.size : Int) := by omega
                have f3 : ((j : Int) + 1).toNat = j + 1 := by omega
                rw [show ((j + 1 : Nat) : Int) = (j : Int) + 1 from by omega]
                have fz := World.ownsRow.frozenAt HO.out (j + 1)
                obtain ⟨yz, cz⟩ := HO.out.anyCell (j + 1) hkn
                have ssub : (j : Int) + 1 - 1 = (j : Int) := by omega
                have cc := RC.out (j + 1) hkn
                have cn := HO.out.at HF.out j (by omega) hk
                have HV := Lib.hid (nst_succ s true R j)
                generalize R (j + 1) = b1 at cc HV
                cases b1 with
                | true =>
                  have HST := Lib.hid (HF.out.step (by rw [HO.out.len]; omega) (b := true) (by rw [HV.out]; simp))
                  go_wp2_with fail
                  go_roundw
                  case rel => exact ⟨j + 1 + 1, _, by omega, by go_num, (World.ownsRow.stored HO.out _ _).1, HST.out, HBk.out.setCell (p := ⟨wo.heap.size, _, none⟩) (Nat.le_refl _) _⟩
                  case measure => simp [intOf] <;> omega
                | false =>
                  cases hb2 : nst s true R j with
                  | false =>
                    have HST := Lib.hid (HF.out.step (by rw [HO.out.len]; omega) (b := false) (by rw [HV.out, hb2]; simp))
                    rw [hb2] at cn
                    clear hb2
                    go_wp2_with fail
                    go_roundw
                    case rel => exact ⟨j + 1 + 1, _, by omega, by go_num, (World.ownsRow.stored HO.out _ _).1, HST.out, HBk.out.setCell (p := ⟨wo.heap.size, _, none⟩) (Nat.le_refl _) _⟩
                    case measure => simp [intOf] <;> omega
                  | true =>
                    have HST := Lib.hid (HF.out.step (by rw [HO.out.len]; omega) (b := true) (by rw [HV.out, hb2]; simp [stOk]))
                    rw [hb2] at cn
                    clear hb2
                    go_wp2_with fail
                    go_roundw
                    case rel => exact ⟨j + 1 + 1, _, by omega, by go_num, (World.ownsRow.stored HO.out _ _).1, HST.out, HBk.out.setCell (p := ⟨wo.heap.size, _, none⟩) (Nat.le_refl _) _⟩
                    case measure => simp [intOf] <;> omega
            · obtain rfl : k = s.size + 1 := by omega
              have hkn2 : ¬ ((s.size + 1 : Nat) : Int) ≤ (s.size : Int) := by omega
              have HRow := Lib.hid (HO.out.row HF.out)
              have hltg := HO.out.lt
              have HBB := Lib.hid (HB.out.trans (HBk.out.mono HB.out.size))
              go_wp2_with fail
              go_roundw
              case rel => exact ⟨wo.heap.size, i + 2, _, rfl, by go_num, by omega, HNX.out, HRow.out, hltg, HBB.out.size, HBB.out⟩
              case measure => simp [intOf]; omega
        · have HNX : Hid (globFold s (toksAt p (i + 1)) (nst s false R) = TT) := Lib.hid (by rw [← HT.out, toksAt_one hlt (fun ⟨h, _, h3⟩ => hw ⟨h, h3⟩), globFold_cons, e42, tok_star])
          clear e42
          by_cases h2 : i + 1 < p.size
          · have h22 : (i : Int) + 1 < (p.size : Int) := by omega
            have fi : ((i : Int) + 1).toNat = i + 1 := by omega
            have q2 : ((p[i + 1].toNat : Int) == 42) = false := by
              have : ¬ p[i + 1].toNat = 42 := fun e => hw ⟨h2, UInt8.toNat_inj.1 e⟩
              simp; omega
            clear hw
            go_wp2_with (at_make; refine wpList_make_full _ rfl _ _ 63 rfl wo.heap.size 4 i0 (.bool false) 1 Try.underlying63 hi0 hz0 hz1 .i64 .i64 ((s.size : Int) + 1) ((s.size : Int) + 1) (s.size + 1) rfl rfl (by omega) (by omega) (by rw [hz2]; omega) (by simp only [maxLen]; omega) (Nat.le_refl _) ?_)
            intro w1 hown1 hg1
            have O1 := Lib.hid (MK.out w1 hown1 hg1).1
            have B1 := Lib.hid (MK.out w1 hown1 hg1).2
            clear hown1 hg1
            go_wp2_with fail
            go_loopw [9] (fun u wk => ∃ (k : Nat) (ys : List Value), k ≤ s.size + 1 ∧ u = .int .i64 k ∧ OwnV wk wo.heap.size s.size ys ∧ FillB ys (nst s false R) k ∧ Below wo.heap.size wo wk) (fun u _ => s.size + 1 - (intOf u).toNat)
            case atStart => exact ⟨0, _, Nat.zero_le _, rfl, O1.out, fun i hi => by omega, B1.out⟩
            case round =>
              obtain ⟨k, ys, hk, rfl, ho, hf, hb⟩ := hrel
              have HO := Lib.hid ho
              have HF := Lib.hid hf
              have HBk := Lib.hid hb
              have RC := Lib.hid (HR.out.below hb hgr)
              clear ho hf hb O1 B1
              by_cases hkn : k ≤ s.size
              · cases k with
                | zero =>
                  have hkn2 : (0 : Int) ≤ (s.size : Int) := by omega
                  have fz := World.ownsRow.frozenAt HO.out 0
                  obtain ⟨yz, cz⟩ := HO.out.anyCell 0 (Nat.zero_le _)
                  have cc := RC.out 0 (Nat.zero_le _)
                  have HST := Lib.hid (HF.out.step (by rw [HO.out.len]; omega) (nst_zero s false R))
                  generalize R 0 = b0 at cc HST
                  cases b0 with
                  | true =>
                    go_wp2_with fail
                    go_roundw
                    case rel => exact ⟨0 + 1, _, by omega, by go_num, (World.ownsRow.stored HO.out _ _).1, HST.out, HBk.out.setCell (p := ⟨wo.heap.size, _, none⟩) (Nat.le_refl _) _⟩
                    case measure => simp [intOf] <;> omega
                  | false =>
                    go_wp2_with fail
                    go_roundw
                    case rel => exact ⟨0 + 1, _, by omega, by go_num, (World.ownsRow.stored HO.out _ _).1, HST.out, HBk.out.setCell (p := ⟨wo.heap.size, _, none⟩) (Nat.le_refl _) _⟩
                    case measure => simp [intOf] <;> omega
                | succ j =>
                  have hj : j < s.size := by omega
                  have hkn2 : (j : Int) + 1 ≤ (s.size : Int) := by omega
                  have f3 : ((j : Int) + 1).toNat = j + 1 := by omega
                  rw [show ((j + 1 : Nat) : Int) = (j : Int) + 1 from by omega]
                  have fz := World.ownsRow.frozenAt HO.out (j + 1)
                  obtain ⟨yz, cz⟩ := HO.out.anyCell (j + 1) hkn
                  have ssub : (j : Int) + 1 - 1 = (j : Int) := by omega
                  have cc := RC.out (j + 1) hkn
                  have cn := HO.out.at HF.out j (by omega) hk
                  have HV := Lib.hid (nst_succ s false R j)
                  generalize R (j + 1) = b1 at cc HV
                  cases b1 with
                  | true =>
                    have HST := Lib.hid (HF.out.step (by rw [HO.out.len]; omega) (b := true) (by rw [HV.out]; simp))
                    go_wp2_with fail
                    go_roundw
                    case rel => exact ⟨j + 1 + 1, _, by omega, by go_num, (World.ownsRow.stored HO.out _ _).1, HST.out, HBk.out.setCell (p := ⟨wo.heap.size, _, none⟩) (Nat.le_refl _) _⟩
                    case measure => simp [intOf] <;> omega
                  | false =>
                    cases hb2 : nst s false R j with
                    | false =>
                      have HST := Lib.hid (HF.out.step (by rw [HO.out.len]; omega) (b := false) (by rw [HV.out, hb2]; simp))
                      rw [hb2] at cn
                      clear hb2
                      go_wp2_with fail
                      go_roundw
                      case rel => exact ⟨j + 1 + 1, _, by omega, by go_num, (World.ownsRow.stored HO.out _ _).1, HST.out, HBk.out.setCell (p := ⟨wo.heap.size, _, none⟩) (Nat.le_refl _) _⟩
                      case measure => simp [intOf] <;> omega
                    | true =>
                      by_cases hsl : (s[j].toNat : Int) = 47
                      · have q9 : ((s[j].toNat : Int) != 47) = false := by simp [hsl]
                        have HST := Lib.hid (HF.out.step (by rw [HO.out.len]; omega) (b := false) (by rw [HV.out, hb2, stOk_f hj rfl hsl]; rfl))
                        rw [hb2] at cn
                        clear hb2 hsl
                        go_wp2_with fail
                        go_roundw
                        case rel => exact ⟨j + 1 + 1, _, by omega, by go_num, (World.ownsRow.stored HO.out _ _).1, HST.out, HBk.out.setCell (p := ⟨wo.heap.size, _, none⟩) (Nat.le_refl _) _⟩
                        case measure => simp [intOf] <;> omega
                      · have q9 : ((s[j].toNat : Int) != 47) = true := by simpa using hsl
                        have HST := Lib.hid (HF.out.step (by rw [HO.out.len]; omega) (b := true) (by rw [HV.out, hb2, stOk_t hj (.inr hsl)]; rfl))
                        rw [hb2] at cn
                        clear hb2 hsl
                        go_wp2_with fail
                        go_roundw
                        case rel => exact ⟨j + 1 + 1, _, by omega, by go_num, (World.ownsRow.stored HO.out _ _).1, HST.out, HBk.out.setCell (p := ⟨wo.heap.size, _, none⟩) (Nat.le_refl _) _⟩
                        case measure => simp [intOf] <;> omega
              · obtain rfl : k = s.size + 1 := by omega
                have hkn2 : ¬ ((s.size + 1 : Nat) : Int) ≤ (s.size : Int) := by omega
                have HRow := Lib.hid (HO.out.row HF.out)
                have hltg := HO.out.lt
                have HBB := Lib.hid (HB.out.trans (HBk.out.mono HB.out.size))
                go_wp2_with fail
                go_roundw
                case rel => exact ⟨wo.heap.size, i + 1, _, rfl, by go_num, by omega, HNX.out, HRow.out, hltg, HBB.out.size, HBB.out⟩
                case measure => simp [intOf]; omega
          · have h22 : ¬ (i : Int) + 1 < (p.size : Int) := by omega
            clear hw
            go_wp2_with (at_make; refine wpList_make_full _ rfl _ _ 63 rfl wo.heap.size 4 i0 (.bool false) 1 Try.underlying63 hi0 hz0 hz1 .i64 .i64 ((s.size : Int) + 1) ((s.size : Int) + 1) (s.size + 1) rfl rfl (by omega) (by omega) (by rw [hz2]; omega) (by simp only [maxLen]; omega) (Nat.le_refl _) ?_)
            intro w1 hown1 hg1
            have O1 := Lib.hid (MK.out w1 hown1 hg1).1
            have B1 := Lib.hid (MK.out w1 hown1 hg1).2
            clear hown1 hg1
            go_wp2_with fail
            go_loopw [9] (fun u wk => ∃ (k : Nat) (ys : List Value), k ≤ s.size + 1 ∧ u = .int .i64 k ∧ OwnV wk wo.heap.size s.size ys ∧ FillB ys (nst s false R) k ∧ Below wo.heap.size wo wk) (fun u _ => s.size + 1 - (intOf u).toNat)
            case atStart => exact ⟨0, _, Nat.zero_le _, rfl, O1.out, fun i hi => by omega, B1.out⟩
            case round =>
              obtain ⟨k, ys, hk, rfl, ho, hf, hb⟩ := hrel
              have HO := Lib.hid ho
              have HF := Lib.hid hf
              have HBk := Lib.hid hb
              have RC := Lib.hid (HR.out.below hb hgr)
              clear ho hf hb O1 B1
              by_cases hkn : k ≤ s.size
              · cases k with
                | zero =>
                  have hkn2 : (0 : Int) ≤ (s.size : Int) := by omega
                  have fz := World.ownsRow.frozenAt HO.out 0
                  obtain ⟨yz, cz⟩ := HO.out.anyCell 0 (Nat.zero_le _)
                  have cc := RC.out 0 (Nat.zero_le _)
                  have HST := Lib.hid (HF.out.step (by rw [HO.out.len]; omega) (nst_zero s false R))
                  generalize R 0 = b0 at cc HST
                  cases b0 with
                  | true =>
                    go_wp2_with fail
                    go_roundw
                    case rel => exact ⟨0 + 1, _, by omega, by go_num, (World.ownsRow.stored HO.out _ _).1, HST.out, HBk.out.setCell (p := ⟨wo.heap.size, _, none⟩) (Nat.le_refl _) _⟩
                    case measure => simp [intOf] <;> omega
                  | false =>
                    go_wp2_with fail
                    go_roundw
                    case rel => exact ⟨0 + 1, _, by omega, by go_num, (World.ownsRow.stored HO.out _ _).1, HST.out, HBk.out.setCell (p := ⟨wo.heap.size, _, none⟩) (Nat.le_refl _) _⟩
                    case measure => simp [intOf] <;> omega
                | succ j =>
                  have hj : j < s.size := by omega
                  have hkn2 : (j : Int) + 1 ≤ (s.size : Int) := by omega
                  have f3 : ((j : Int) + 1).toNat = j + 1 := by omega
                  rw [show ((j + 1 : Nat) : Int) = (j : Int) + 1 from by omega]
                  have fz := World.ownsRow.frozenAt HO.out (j + 1)
                  obtain ⟨yz, cz⟩ := HO.out.anyCell (j + 1) hkn
                  have ssub : (j : Int) + 1 - 1 = (j : Int) := by omega
                  have cc := RC.out (j + 1) hkn
                  have cn := HO.out.at HF.out j (by omega) hk
                  have HV := Lib.hid (nst_succ s false R j)
                  generalize R (j + 1) = b1 at cc HV
                  cases b1 with
                  | true =>
                    have HST := Lib.hid (HF.out.step (by rw [HO.out.len]; omega) (b := true) (by rw [HV.out]; simp))
                    go_wp2_with fail
                    go_roundw
                    case rel => exact ⟨j + 1 + 1, _, by omega, by go_num, (World.ownsRow.stored HO.out _ _).1, HST.out, HBk.out.setCell (p := ⟨wo.heap.size, _, none⟩) (Nat.le_refl _) _⟩
                    case measure => simp [intOf] <;> omega
                  | false =>
                    cases hb2 : nst s false R j with
                    | false =>
                      have HST := Lib.hid (HF.out.step (by rw [HO.out.len]; omega) (b := false) (by rw [HV.out, hb2]; simp))
                      rw [hb2] at cn
                      clear hb2
                      go_wp2_with fail
                      go_roundw
                      case rel => exact ⟨j + 1 + 1, _, by omega, by go_num, (World.ownsRow.stored HO.out _ _).1, HST.out, HBk.out.setCell (p := ⟨wo.heap.size, _, none⟩) (Nat.le_refl _) _⟩
                      case measure => simp [intOf] <;> omega
                    | true =>
                      by_cases hsl : (s[j].toNat : Int) = 47
                      · have q9 : ((s[j].toNat : Int) != 47) = false := by simp [hsl]
                        have HST := Lib.hid (HF.out.step (by rw [HO.out.len]; omega) (b := false) (by rw [HV.out, hb2, stOk_f hj rfl hsl]; rfl))
                        rw [hb2] at cn
                        clear hb2 hsl
                        go_wp2_with fail
                        go_roundw
                        case rel => exact ⟨j + 1 + 1, _, by omega, by go_num, (World.ownsRow.stored HO.out _ _).1, HST.out, HBk.out.setCell (p := ⟨wo.heap.size, _, none⟩) (Nat.le_refl _) _⟩
                        case measure => simp [intOf] <;> omega
                      · have q9 : ((s[j].toNat : Int) != 47) = true := by simpa using hsl
                        have HST := Lib.hid (HF.out.step (by rw [HO.out.len]; omega) (b := true) (by rw [HV.out, hb2, stOk_t hj (.inr hsl)]; rfl))
                        rw [hb2] at cn
                        clear hb2 hsl
                        go_wp2_with fail
                        go_roundw
                        case rel => exact ⟨j + 1 + 1, _, by omega, by go_num, (World.ownsRow.stored HO.out _ _).1, HST.out, HBk.out.setCell (p := ⟨wo.heap.size, _, none⟩) (Nat.le_refl _) _⟩
                        case measure => simp [intOf] <;> omega
              · obtain rfl : k = s.size + 1 := by omega
                have hkn2 : ¬ ((s.size + 1 : Nat) : Int) ≤ (s.size : Int) := by omega
                have HRow := Lib.hid (HO.out.row HF.out)
                have hltg := HO.out.lt
                have HBB := Lib.hid (HB.out.trans (HBk.out.mono HB.out.size))
                go_wp2_with fail
                go_roundw
                case rel => exact ⟨wo.heap.size, i + 1, _, rfl, by go_num, by omega, HNX.out, HRow.out, hltg, HBB.out.size, HBB.out⟩
                case measure => simp [intOf]; omega
      · have q1 : ((p[i].toNat : Int) == 42) = false := by simpa using hst
        have e42 : ¬ p[i] = 42 := fun e => hst (by rw [e]; rfl)
        have HN1 : Hid (globFold s (toksAt p (i + 1)) (one s ⟨#[p[i]]⟩ R) = TT) := Lib.hid (by rw [← HT.out, toksAt_one hlt (fun ⟨_, h, _⟩ => e42 h), globFold_cons, tok_one s R e42])
        clear e42 hst
        by_cases hq : (p[i].toNat : Int) = 63
        · have q3 : ((p[i].toNat : Int) == 63) = true := by simp [hq]
          have e63 : p[i] = 63 := UInt8.toNat_inj.1 (show p[i].toNat = 63 by omega)
          have HNX : Hid (globFold s (toksAt p (i + 1)) (one s ⟨#[63]⟩ R) = TT) := Lib.hid (by have := HN1.out; rwa [e63] at this)
          clear hq e63 HN1
          go_wp2_with (at_make; refine wpList_make_full _ rfl _ _ 63 rfl wo.heap.size 4 i0 (.bool false) 1 Try.underlying63 hi0 hz0 hz1 .i64 .i64 ((s.size : Int) + 1) ((s.size : Int) + 1) (s.size + 1) rfl rfl (by omega) (by omega) (by rw [hz2]; omega) (by simp only [maxLen]; omega) (Nat.le_refl _) ?_)
          intro w1 hown1 hg1
          have O1 := Lib.hid (MK.out w1 hown1 hg1).1
          have B1 := Lib.hid (MK.out w1 hown1 hg1).2
          clear hown1 hg1
          go_wp2_with fail
          go_loopw [9] (fun u wk => ∃ (k : Nat) (ys : List Value), k ≤ s.size + 1 ∧ u = .int .i64 k ∧ OwnV wk wo.heap.size s.size ys ∧ FillB ys (one s ⟨#[63]⟩ R) k ∧ Below wo.heap.size wo wk) (fun u _ => s.size + 1 - (intOf u).toNat)
          case atStart => exact ⟨0, _, Nat.zero_le _, rfl, O1.out, fun i hi => by omega, B1.out⟩
          case round =>
            obtain ⟨k, ys, hk, rfl, ho, hf, hb⟩ := hrel
            have HO := Lib.hid ho
            have HF := Lib.hid hf
            have HBk := Lib.hid hb
            have RC := Lib.hid (HR.out.below hb hgr)
            clear ho hf hb O1 B1
            by_cases hkn : k ≤ s.size
            · cases k with
              | zero =>
                have hkn2 : (0 : Int) ≤ (s.size : Int) := by omega
                have fz := World.ownsRow.frozenAt HO.out 0
                obtain ⟨yz, cz⟩ := HO.out.anyCell 0 (Nat.zero_le _)
                have cc := RC.out 0 (Nat.zero_le _)
                have HST := Lib.hid (HF.out.step (by rw [HO.out.len]; omega) (b := false) rfl)
                go_wp2_with fail
                go_roundw
                case rel => exact ⟨0 + 1, _, by omega, by go_num, (World.ownsRow.stored HO.out _ _).1, HST.out, HBk.out.setCell (p := ⟨wo.heap.size, _, none⟩) (Nat.le_refl _) _⟩
                case measure => simp [intOf] <;> omega
              | succ j =>
                have hj : j < s.size := by omega
                have hkn2 : (j : Int) + 1 ≤ (s.size : Int) := by omega
                have f3 : ((j : Int) + 1).toNat = j + 1 := by omega
                rw [show ((j + 1 : Nat) : Int) = (j : Int) + 1 from by omega]
                have fz := World.ownsRow.frozenAt HO.out (j + 1)
                obtain ⟨yz, cz⟩ := HO.out.anyCell (j + 1) hkn
                have ssub : (j : Int) + 1 - 1 = (j : Int) := by omega
                have cc := RC.out j (by omega)
                have HV := Lib.hid (one_succ s ⟨#[63]⟩ R j)
                rw [oneOk_q hj] at HV
                generalize R j = b1 at cc HV
                cases b1 with
                | false =>
                  have HST := Lib.hid (HF.out.step (by rw [HO.out.len]; omega) (b := false) (by rw [HV.out]; simp))
                  go_wp2_with fail
                  go_roundw
                  case rel => exact ⟨j + 1 + 1, _, by omega, by go_num, (World.ownsRow.stored HO.out _ _).1, HST.out, HBk.out.setCell (p := ⟨wo.heap.size, _, none⟩) (Nat.le_refl _) _⟩
                  case measure => simp [intOf] <;> omega
                | true =>
                  by_cases hsl : (s[j].toNat : Int) = 47
                  · have q9 : ((s[j].toNat : Int) != 47) = false := by simp [hsl]
                    have HST := Lib.hid (HF.out.step (by rw [HO.out.len]; omega) (b := false) (by rw [HV.out]; simp [hsl]))
                    clear hsl
                    go_wp2_with fail
                    go_roundw
                    case rel => exact ⟨j + 1 + 1, _, by omega, by go_num, (World.ownsRow.stored HO.out _ _).1, HST.out, HBk.out.setCell (p := ⟨wo.heap.size, _, none⟩) (Nat.le_refl _) _⟩
                    case measure => simp [intOf] <;> omega
                  · have q9 : ((s[j].toNat : Int) != 47) = true := by simpa using hsl
                    have HST := Lib.hid (HF.out.step (by rw [HO.out.len]; omega) (b := true) (by rw [HV.out]; simp [hsl]))
                    clear hsl
                    go_wp2_with fail
                    go_roundw
                    case rel => exact ⟨j + 1 + 1, _, by omega, by go_num, (World.ownsRow.stored HO.out _ _).1, HST.out, HBk.out.setCell (p := ⟨wo.heap.size, _, none⟩) (Nat.le_refl _) _⟩
                    case measure => simp [intOf] <;> omega
            · obtain rfl : k = s.size + 1 := by omega
              have hkn2 : ¬ ((s.size + 1 : Nat) : Int) ≤ (s.size : Int) := by omega
              have HRow := Lib.hid (HO.out.row HF.out)
              have hltg := HO.out.lt
              have HBB := Lib.hid (HB.out.trans (HBk.out.mono HB.out.size))
              go_wp2_with fail
              go_roundw
              case rel => exact ⟨wo.heap.size, i + 1, _, rfl, by go_num, by omega, HNX.out, HRow.out, hltg, HBB.out.size, HBB.out⟩
              case measure => simp [intOf]; omega
        · have q3 : ((p[i].toNat : Int) == 63) = false := by simpa using hq
          have hq63 : ¬ p[i] = 63 := fun e => hq (by rw [e]; rfl)
          have HNX := HN1
          clear hq
          go_wp2_with (at_make; refine wpList_make_full _ rfl _ _ 63 rfl wo.heap.size 4 i0 (.bool false) 1 Try.underlying63 hi0 hz0 hz1 .i64 .i64 ((s.size : Int) + 1) ((s.size : Int) + 1) (s.size + 1) rfl rfl (by omega) (by omega) (by rw [hz2]; omega) (by simp only [maxLen]; omega) (Nat.le_refl _) ?_)
          intro w1 hown1 hg1
          have O1 := Lib.hid (MK.out w1 hown1 hg1).1
          have B1 := Lib.hid (MK.out w1 hown1 hg1).2
          clear hown1 hg1
          go_wp2_with fail
          go_loopw [9] (fun u wk => ∃ (k : Nat) (ys : List Value), k ≤ s.size + 1 ∧ u = .int .i64 k ∧ OwnV wk wo.heap.size s.size ys ∧ FillB ys (one s ⟨#[p[i]]⟩ R) k ∧ Below wo.heap.size wo wk) (fun u _ => s.size + 1 - (intOf u).toNat)
          case atStart => exact ⟨0, _, Nat.zero_le _, rfl, O1.out, fun i hi => by omega, B1.out⟩
          case round =>
            obtain ⟨k, ys, hk, rfl, ho, hf, hb⟩ := hrel
            have HO := Lib.hid ho
            have HF := Lib.hid hf
            have HBk := Lib.hid hb
            have RC := Lib.hid (HR.out.below hb hgr)
            clear ho hf hb O1 B1
            by_cases hkn : k ≤ s.size
            · cases k with
              | zero =>
                have hkn2 : (0 : Int) ≤ (s.size : Int) := by omega
                have fz := World.ownsRow.frozenAt HO.out 0
                obtain ⟨yz, cz⟩ := HO.out.anyCell 0 (Nat.zero_le _)
                have cc := RC.out 0 (Nat.zero_le _)
                have HST := Lib.hid (HF.out.step (by rw [HO.out.len]; omega) (b := false) rfl)
                go_wp2_with fail
                go_region
                go_wp2_with fail
                go_roundw
                case rel => exact ⟨0 + 1, _, by omega, by go_num, (World.ownsRow.stored HO.out _ _).1, HST.out, bdrew (HBk.out.setCell (p := ⟨wo.heap.size, _, none⟩) (Nat.le_refl _) _)⟩
                case measure => simp [intOf] <;> omega
              | succ j =>
                have hj : j < s.size := by omega
                have hkn2 : (j : Int) + 1 ≤ (s.size : Int) := by omega
                have f3 : ((j : Int) + 1).toNat = j + 1 := by omega
                rw [show ((j + 1 : Nat) : Int) = (j : Int) + 1 from by omega]
                have fz := World.ownsRow.frozenAt HO.out (j + 1)
                obtain ⟨yz, cz⟩ := HO.out.anyCell (j + 1) hkn
                have ssub : (j : Int) + 1 - 1 = (j : Int) := by omega
                have cc := RC.out j (by omega)
                have HV := Lib.hid (one_succ s ⟨#[p[i]]⟩ R j)
                rw [oneOk_c hj hq63] at HV
                generalize R j = b1 at cc HV
                cases b1 with
                | false =>
                  have HST := Lib.hid (HF.out.step (by rw [HO.out.len]; omega) (b := false) (by rw [HV.out]; simp))
                  go_wp2_with fail
                  go_region
                  go_wp2_with fail
                  go_roundw
                  case rel => exact ⟨j + 1 + 1, _, by omega, by go_num, (World.ownsRow.stored HO.out _ _).1, HST.out, bdrew (HBk.out.setCell (p := ⟨wo.heap.size, _, none⟩) (Nat.le_refl _) _)⟩
                  case measure => simp [intOf] <;> omega
                | true =>
                  have HST := Lib.hid (HF.out.step (by rw [HO.out.len]; omega) (b := ((s[j].toNat : Int) == (p[i].toNat : Int))) (by rw [HV.out]; simp))
                  go_wp2_with fail
                  go_region
                  go_wp2_with fail
                  go_roundw
                  case rel => exact ⟨j + 1 + 1, _, by omega, by go_num, (World.ownsRow.stored HO.out _ _).1, HST.out, bdrew (HBk.out.setCell (p := ⟨wo.heap.size, _, none⟩) (Nat.le_refl _) _)⟩
                  case measure => simp [intOf] <;> omega
            · obtain rfl : k = s.size + 1 := by omega
              have hkn2 : ¬ ((s.size + 1 : Nat) : Int) ≤ (s.size : Int) := by omega
              have HRow := Lib.hid (HO.out.row HF.out)
              have hltg := HO.out.lt
              have HBB := Lib.hid (HB.out.trans (HBk.out.mono HB.out.size))
              go_wp2_with fail
              go_roundw
              case rel => exact ⟨wo.heap.size, i + 1, _, rfl, by go_num, by omega, HNX.out, HRow.out, hltg, HBB.out.size, HBB.out⟩
              case measure => simp [intOf]; omega
    · obtain rfl : i = p.size := by omega
      have HE : Hid (R s.size = TT s.size) := Lib.hid (by have := HT.out; rw [toksAt_end (Nat.le_refl _)] at this; rw [← this]; rfl)
      have HE2 : Hid (R s.size = globFold s (toksAt p 0) zeroR s.size) := Lib.hid (by rw [HE.out, HTT.out])
      have cc := HR.out s.size (Nat.le_refl _)
      go_wp2_with fail
      go_ret
      exact ⟨ret_bool HE2.out, HB.out⟩
end Go.Proofs.Ythembgllkfgknaa
