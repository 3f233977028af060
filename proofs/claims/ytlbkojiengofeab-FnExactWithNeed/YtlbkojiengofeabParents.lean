/- Contracts of spec.Parents and impl.Parents. -/
import Derived.Test.YtlbkojiengofeabPathOk
import Derived.Test.YtlbkojiengofeabPartsI
namespace Go.Proofs.Ytlbkojiengofeab
open Go.RowKit Go.Shelf

/-- The prefixes of s before the slashes among its first k bytes. -/
def parsTo (s : ByteArray) : Nat → List ByteArray
  | 0 => []
  | k + 1 => if (s.data[k]!).toNat = 47 then parsTo s k ++ [s.extract 0 k] else parsTo s k
def parentsv (s : ByteArray) : List ByteArray := if pathOkv s then parsTo s s.size else []
theorem parsTo_le (s : ByteArray) (k : Nat) : (parsTo s k).length ≤ k := by
  induction k with
  | zero => simp [parsTo]
  | succ k ih =>
    unfold parsTo
    split
    · simp; omega
    · omega
theorem parentsv_le (s : ByteArray) : (parentsv s).length ≤ s.size + 1 := by
  have := parsTo_le s s.size
  unfold parentsv; split
  · omega
  · simp
theorem bang2 (s : ByteArray) (k : Nat) (h : k < s.size) : s.data[k]! = s[k] := by
  have : k < s.data.size := h
  rw [getElem!_pos s.data k this]; rfl
theorem parsTo_hit {s : ByteArray} {k : Nat} (h : k < s.size) (hc : s[k] = 47) : parsTo s (k + 1) = parsTo s k ++ [s.extract 0 k] := by
  rw [parsTo, bang2 s k h, hc, if_pos (by decide)]
theorem parsTo_miss {s : ByteArray} {k : Nat} (h : k < s.size) (hc : ¬ s[k] = 47) : parsTo s (k + 1) = parsTo s k := by
  rw [parsTo, bang2 s k h, if_neg (fun e => hc (UInt8.toNat_inj.1 (show s[k].toNat = (47 : UInt8).toNat from e)))]

set_option maxRecDepth 8000 in
theorem parents_spec (s : ByteArray) (w : World) (hs : s.size ≤ 4194304) :
    Calls Try.prog 49 #[.string s] w fun e w' => ∃ v, e = .returned v ∧ OwnL w' w.heap.size v (parentsv s) ∧ Below w.heap.size w w' := by
  obtain ⟨i0, hi, hz0, hz1, hz2⟩ := info_parts Try.info9
  have HS := Lib.hid hs
  have hs2 : s.size ≤ 9223372036854775807 := by omega
  have H1 := Lib.hid (fun w => pathOk_spec s w (by omega))
  have HU : Hid (parentsv s = if pathOkv s then parsTo s s.size else []) := Lib.hid rfl
  generalize pathOkv s = b at H1 HU
  generalize parentsv s = L at HU
  clear hs
  cases b with
  | false =>
    have HE : Hid (L = []) := Lib.hid HU.out
    clear HU
    go_enter Try.func49, Try.ntmps49
    go_wp2
    refine wp_loop_rounds 1 ?_
    rw [rounds_succ]
    by_cases h0 : (0 : Int) < (s.size : Int)
    · go_wp2_with fail
      refine (H1.out _).mono ?_
      rintro e w1 ⟨rfl, hb1⟩
      go_wp2_with fail
      go_ret
      rw [HE.out]
      exact ⟨_, rfl, OwnL.keep ⟨World.ownsRow_lit w #[] 0 (Nat.le_refl _) (by simp) rfl, _, _, rfl⟩ hb1, ((Below.refl _ _).alloc (Nat.le_refl _) _).trans (hb1.mono (by simp))⟩
    · go_wp2_with fail
      go_ret
      rw [HE.out]
      exact ⟨_, rfl, ⟨World.ownsRow_lit w #[] 0 (Nat.le_refl _) (by simp) rfl, _, _, rfl⟩, (Below.refl _ _).alloc (Nat.le_refl _) _⟩
  | true =>
    have HE : Hid (L = parsTo s s.size) := Lib.hid HU.out
    clear HU
    go_enter Try.func49, Try.ntmps49
    go_wp2
    go_loopw [3, 4] (fun v i wr => ∃ (k : Nat), k ≤ s.size ∧ i = .int .i64 k ∧ OwnL wr w.heap.size v (parsTo s k) ∧ Below w.heap.size w wr) (fun _ i _ => s.size - (intOf i).toNat)
    case atStart => exact ⟨0, Nat.zero_le _, rfl, ⟨World.ownsRow_lit w #[] 0 (Nat.le_refl _) (by simp) rfl, _, _, rfl⟩, (Below.refl _ _).alloc (Nat.le_refl _) _⟩
    case round =>
      obtain ⟨k, hk, rfl, hown, hb⟩ := hrel
      have HO := Lib.hid hown
      have HB := Lib.hid hb
      clear hown hb
      by_cases hlt : k < s.size
      · have hlt2 : (k : Int) < (s.size : Int) := by omega
        by_cases hc : s[k] = 47
        · have hb47 := slash_is hc
          have HN := Lib.hid (parsTo_hit hlt hc)
          have hD := parsTo_le s k
          clear hc
          go_wp2_with fail
          refine (H1.out _).mono ?_
          rintro e w1 ⟨rfl, hb1⟩
          have HO1 := HO.out.keep hb1
          have HB1 := Lib.hid (HB.out.trans (hb1.mono HB.out.size))
          clear HO HB hb1
          generalize parsTo s k = D at HO1 HN hD
          obtain ⟨ho1, g, cap, rfl⟩ := HO1
          have HO1 := Lib.hid ho1
          have hsz := HB1.out.size
          clear ho1
          go_wp2_with (at_builtin; refine wpList_append_own _ rfl _ _ 30 rfl w.heap.size 9 i0 (.string ⟨#[]⟩) 1 16 Try.underlying30 hi hz0 hz1 hz2 rfl (by decide) _ _ _ rfl (World.ownsRow.alloc HO1.out _) ⟨w1.heap.size, 0, none⟩ 1 1 [.string (s.extract 0 k)] rfl rfl ?c1 ?c2 ?c3 ?c4 ?c5 ?_)
          case c1 => exact cell_one_new _ _ _
          case c2 => intro u hu; simp at hu; subst hu; rfl
          case c3 => have := HS.out; simp only [maxLen]; omega
          case c4 => have := HS.out; omega
          case c5 => simp; omega
          · intro v' w2 hown' hgrow hnil
            have hO : OwnL w2 w.heap.size v' (D ++ [s.extract 0 k]) := own_snoc hown' hnil
            rw [← HN.out] at hO
            have hBl : Below w.heap.size w w2 := (HB1.out.alloc hsz _).grown hgrow (by simp; omega) (fun b hb => (World.ownsRow.lt HO1.out b hb).1)
            clear hown' hgrow hnil
            have HO2 := Lib.hid hO
            have HB2 := Lib.hid hBl
            clear hO hBl
            go_wp2
            go_roundw
            case rel => exact ⟨k + 1, by omega, by go_num, HO2.out, HB2.out⟩
            case measure => simp [intOf]; omega
        · have hb47 := slash_isnt hc
          have HN := Lib.hid (parsTo_miss hlt hc)
          clear hc
          go_wp2_with fail
          refine (H1.out _).mono ?_
          rintro e w1 ⟨rfl, hb1⟩
          have HO1 := Lib.hid (HO.out.keep hb1)
          have HB1 := Lib.hid (HB.out.trans (hb1.mono HB.out.size))
          rw [← HN.out] at HO1
          clear HO HB hb1 HN
          go_wp2_with fail
          go_roundw
          case rel => exact ⟨k + 1, by omega, by go_num, HO1.out, HB1.out⟩
          case measure => simp [intOf]; omega
      · obtain rfl : k = s.size := by omega
        rw [← HE.out] at HO
        go_wp2_with fail
        go_ret
        exact ⟨_, rfl, HO.out, HB.out⟩

theorem parents_impl (s : ByteArray) (w : World) (hs : s.size ≤ 4194304) :
    Calls Try.prog 53 #[.string s] w fun e w' => ∃ v, e = .returned v ∧ OwnL w' w.heap.size v (parentsv s) ∧ Below w.heap.size w w' := by
  obtain ⟨i0, hi, hz0, hz1, hz2⟩ := info_parts Try.info9
  have HS := Lib.hid hs
  have hs2 : s.size ≤ 9223372036854775807 := by omega
  have H1 := Lib.hid (fun w => pathOk_impl s w (by omega))
  have HU : Hid (parentsv s = if pathOkv s then parsTo s s.size else []) := Lib.hid rfl
  generalize pathOkv s = b at H1 HU
  generalize parentsv s = L at HU
  clear hs
  cases b with
  | false =>
    have HE : Hid (L = []) := Lib.hid HU.out
    clear HU
    go_enter Try.func53, Try.ntmps53
    go_wp2_with fail
    refine (H1.out _).mono ?_
    rintro e w1 ⟨rfl, hb1⟩
    go_wp2_with fail
    go_ret
    rw [HE.out]
    exact ⟨_, rfl, OwnL.keep ⟨World.ownsRow_lit w #[] 0 (Nat.le_refl _) (by simp) rfl, _, _, rfl⟩ hb1, ((Below.refl _ _).alloc (Nat.le_refl _) _).trans (hb1.mono (by simp))⟩
  | true =>
    have HE : Hid (L = parsTo s s.size) := Lib.hid HU.out
    clear HU
    go_enter Try.func53, Try.ntmps53
    go_wp2_with fail
    refine (H1.out _).mono ?_
    rintro e w0 ⟨rfl, hb0⟩
    have HO0 : Hid (OwnL w0 w.heap.size (.slice (some ⟨w.heap.size, 0, none⟩) 0 0) []) := Lib.hid (OwnL.keep ⟨World.ownsRow_lit w #[] 0 (Nat.le_refl _) (by simp) rfl, _, _, rfl⟩ hb0)
    have HB0 : Hid (Below w.heap.size w w0) := Lib.hid (((Below.refl _ _).alloc (Nat.le_refl _) _).trans (hb0.mono (by simp)))
    clear hb0
    go_wp2_with fail
    go_loopw [3, 12] (fun v i wr => ∃ (k : Nat), k ≤ s.size ∧ i = .int .i64 k ∧ OwnL wr w.heap.size v (parsTo s k) ∧ Below w.heap.size w wr) (fun _ i _ => s.size - (intOf i).toNat)
    case atStart => exact ⟨0, Nat.zero_le _, rfl, HO0.out, HB0.out⟩
    case round =>
      obtain ⟨k, hk, rfl, hown, hb⟩ := hrel
      have HO := Lib.hid hown
      have HB := Lib.hid hb
      clear hown hb
      by_cases hlt : k < s.size
      · have hlt2 : (k : Int) < (s.size : Int) := by omega
        by_cases hc : s[k] = 47
        · have hb47 := slash_is hc
          have HN := Lib.hid (parsTo_hit hlt hc)
          have hD := parsTo_le s k
          have HC := Lib.hid (fun w => clone_any (s.extract 0 k) w (by have := HS.out; simp; omega))
          clear hc
          go_wp2_with fail
          refine (HC.out _).mono ?_
          rintro e w1 ⟨rfl, hb1⟩
          have HO1 := HO.out.keep hb1
          have HB1 := Lib.hid (HB.out.trans (hb1.mono HB.out.size))
          clear HO HB hb1
          generalize parsTo s k = D at HO1 HN hD
          obtain ⟨ho1, g, cap, rfl⟩ := HO1
          have HO1 := Lib.hid ho1
          have hsz := HB1.out.size
          clear ho1
          go_wp2_with (at_builtin; refine wpList_append_own _ rfl _ _ 30 rfl w.heap.size 9 i0 (.string ⟨#[]⟩) 1 16 Try.underlying30 hi hz0 hz1 hz2 rfl (by decide) _ _ _ rfl (World.ownsRow.alloc HO1.out _) ⟨w1.heap.size, 0, none⟩ 1 1 [.string (s.extract 0 k)] rfl rfl ?c1 ?c2 ?c3 ?c4 ?c5 ?_)
          case c1 => exact cell_one_new _ _ _
          case c2 => intro u hu; simp at hu; subst hu; rfl
          case c3 => have := HS.out; simp only [maxLen]; omega
          case c4 => have := HS.out; omega
          case c5 => simp; omega
          · intro v' w2 hown' hgrow hnil
            have hO : OwnL w2 w.heap.size v' (D ++ [s.extract 0 k]) := own_snoc hown' hnil
            rw [← HN.out] at hO
            have hBl : Below w.heap.size w w2 := (HB1.out.alloc hsz _).grown hgrow (by simp; omega) (fun b hb => (World.ownsRow.lt HO1.out b hb).1)
            clear hown' hgrow hnil
            have HO2 := Lib.hid hO
            have HB2 := Lib.hid hBl
            clear hO hBl
            go_wp2
            go_roundw
            case rel => exact ⟨k + 1, by omega, by go_num, HO2.out, HB2.out⟩
            case measure => simp [intOf]; omega
        · have hb47 := slash_isnt hc
          have HN := Lib.hid (parsTo_miss hlt hc)
          rw [← HN.out] at HO
          clear hc
          go_wp2_with fail
          go_roundw
          case rel => exact ⟨k + 1, by omega, by go_num, HO.out, HB.out⟩
          case measure => simp [intOf]; omega
      · obtain rfl : k = s.size := by omega
        rw [← HE.out] at HO
        go_wp2_with fail
        go_ret
        exact ⟨_, rfl, HO.out, HB.out⟩
end Go.Proofs.Ytlbkojiengofeab
