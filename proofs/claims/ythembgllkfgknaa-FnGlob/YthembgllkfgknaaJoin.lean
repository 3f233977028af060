/- Contracts of spec.Join and impl.Join on a row of texts. -/
import Derived.Test.YthembgllkfgknaaJMath
import Derived.Lib.AppendStr
namespace Go.Proofs.Ythembgllkfgknaa
open Go.ChangeShapes Go.WideShapes Go.ChangeAt Go.RowKit

/-- The n cells from place o of block g on are the texts R 0, R 1, ... -/
def RowO (w : World) (g o n : Nat) (R : Nat → ByteArray) : Prop := ∀ i, i < n → w.cell? ⟨g, o + i, none⟩ = some (.string (R i))
theorem RowF.toO {w : World} {g n : Nat} {R : Nat → ByteArray} (h : RowF w g n R) : RowO w g 0 n R := fun i hi => by rw [Nat.zero_add]; exact h i hi
theorem RowO.below {w w' : World} {g o n B : Nat} {R : Nat → ByteArray} (h : RowO w g o n R) (hb : Below B w w') (hg : g < B) : RowO w' g o n R :=
  fun i hi => (hb.cell (p := ⟨g, o + i, none⟩) hg).trans (h i hi)

theorem join_spec (L : List ByteArray) (g o cap : Nat) (w : World) (hT : totB L ≤ 8388608) (h1 : RowO w g o L.length (rowOf L)) :
    Calls Try.prog 38 #[.slice (some ⟨g, o, none⟩) L.length cap] w fun e w' => e = .returned (.string (joinv L)) ∧ w = w' := by
  have HR := Lib.hid h1
  have HZ := Lib.hid (fun k => joinTo_size L k)
  have HZ2 := Lib.hid (fun k (h : k < L.length) => rowOf_size h)
  have H0 := Lib.hid (joinTo_zero L)
  have H1 := Lib.hid (fun (h : 0 < L.length) => joinTo_one h)
  have HS := Lib.hid (fun k (h : k < L.length) (h0 : 0 < k) => joinTo_succ h h0)
  have HA := Lib.hid (joinTo_all L)
  have hl := totB_len L
  clear h1
  generalize joinv L = J at HA
  generalize joinTo L = T at HZ H0 H1 HS HA
  generalize rowOf L = R at HR HZ2 H1 HS
  generalize totB L = tt at hT HZ HZ2 hl
  generalize L.length = n at HR HZ2 H1 HS HA hl
  have hn2 : (n : Int) ≤ 8388608 := by omega
  clear hl
  go_enter Try.func38, Try.ntmps38
  go_wp2
  go_loop [3, 4] (fun v u => ∃ (k : Nat), k ≤ n ∧ v = .string (T k) ∧ u = .int .i64 k) (fun _ u => n - (intOf u).toNat)
  case atStart => exact ⟨0, Nat.zero_le _, by rw [H0.out], rfl⟩
  case round =>
    obtain ⟨k, hk, rfl, rfl⟩ := hrel
    by_cases hlt : k < n
    · have hlt2 : (k : Int) < (n : Int) := by omega
      have hc := HR.out k hlt
      have hz1 : (T k).size ≤ 8388608 := Nat.le_trans (HZ.out k) hT
      have hz2 : (R k).size ≤ 8388608 := Nat.le_trans (HZ2.out k hlt) hT
      by_cases h0 : 0 < k
      · have HX := Lib.hid (HS.out k hlt h0)
        have h02 : (0 : Int) < (k : Int) := by omega
        generalize T k = t at hz1 HX
        generalize R k = r at hz2 hc HX
        go_wp2
        go_round
        case rel => exact ⟨k + 1, by omega, by rw [HX.out], by go_num⟩
        case measure => simp [intOf]; omega
      · obtain rfl : k = 0 := by omega
        have HX : Hid (T (0 + 1) = T 0 ++ R 0) := Lib.hid (by rw [H0.out, H1.out hlt]; exact ba_ext (by simp))
        have HE : Hid ((((0 : Nat) : Int) + 1) = ((0 + 1 : Nat) : Int)) := Lib.hid rfl
        have hlt3 : (0 : Int) < (n : Int) := by omega
        generalize T 0 = t at hz1 HX
        generalize R 0 = r at hz2 hc HX
        simp only [Nat.add_zero] at hc
        go_wp2
        go_round
        case rel => exact ⟨0 + 1, by omega, by rw [HX.out], by go_num⟩
        case measure => simp [intOf]; omega
    · obtain rfl : k = n := by omega
      go_wp2
      go_ret
      exact ⟨ret_str HA.out, rfl⟩

theorem join_spec_nil (w : World) :
    Calls Try.prog 38 #[.slice none 0 0] w fun e w' => e = .returned (.string (joinv [])) ∧ w = w' := by
  go_enter Try.func38, Try.ntmps38
  go_wp2
  refine wp_loop_rounds 1 ?_
  rw [rounds_succ]
  go_wp2
  go_ret
  exact ⟨rfl, rfl⟩

theorem OwnB.snoc {w : World} {base : Nat} {v : Value} {l : List UInt8} {c : UInt8} (h : w.ownsRow base 5 1 v (l.length + 1) (byteVals l ++ [.int .u8 ((c.toNat : Nat) : Int)])) : OwnB w base v (l ++ [c]) := by
  rw [byteVals_snoc] at h
  rw [show l.length + 1 = (l ++ [c]).length from by simp] at h
  exact h
theorem OwnB.text {w : World} {base n : Nat} {v : Value} {l : List UInt8} {s : ByteArray} (hn : n = l.length + s.size) (h : w.ownsRow base 5 1 v n (byteVals l ++ Lib.strCells s)) : OwnB w base v (l ++ s.data.toList) := by
  subst hn
  have e : byteVals l ++ Lib.strCells s = byteVals (l ++ s.data.toList) := by simp [byteVals, Lib.strCells]
  rw [e, show l.length + s.size = (l ++ s.data.toList).length from by simp] at h
  exact h

theorem join_impl (L : List ByteArray) (g o cap : Nat) (w : World) (hg : g < w.heap.size) (hT : totB L ≤ 8388608) (h1 : RowO w g o L.length (rowOf L)) :
    Calls Try.prog 28 #[.slice (some ⟨g, o, none⟩) L.length cap] w fun e w' => e = .returned (.string (joinv L)) ∧ Below w.heap.size w w' := by
  obtain ⟨i0, hi, hz0, hz1, hz2⟩ := info_parts Try.info5
  have HR := Lib.hid h1
  have HZ := Lib.hid (fun k => joinTo_size L k)
  have HZ2 := Lib.hid (fun k (h : k < L.length) => rowOf_size h)
  have H0 := Lib.hid (joinTo_zero L)
  have H1 := Lib.hid (fun (h : 0 < L.length) => joinTo_one h)
  have HS := Lib.hid (fun k (h : k < L.length) (h0 : 0 < k) => joinTo_succ h h0)
  have HA := Lib.hid (joinTo_all L)
  have hl := totB_len L
  clear h1
  generalize joinv L = J at HA
  generalize joinTo L = T at HZ H0 H1 HS HA
  generalize rowOf L = R at HR HZ2 H1 HS
  generalize totB L = tt at hT HZ HZ2 hl
  generalize L.length = n at HR HZ2 H1 HS HA hl
  have hn2 : (n : Int) ≤ 8388608 := by omega
  clear hl
  go_enter Try.func28, Try.ntmps28
  go_wp2
  go_loopw [3, 8] (fun v u wr => ∃ (k : Nat), k ≤ n ∧ u = .int .i64 k ∧ OwnB wr w.heap.size v (T k).data.toList ∧ Below w.heap.size w wr) (fun _ u _ => n - (intOf u).toNat)
  case atStart => exact ⟨0, Nat.zero_le _, rfl, by rw [H0.out]; exact World.ownsRow_nil _ _ _ _, Below.refl _ _⟩
  case round =>
    obtain ⟨k, hk, rfl, hown, hb⟩ := hrel
    have HO := Lib.hid hown
    have HB := Lib.hid hb
    clear hown hb
    by_cases hlt : k < n
    · have hlt2 : (k : Int) < (n : Int) := by omega
      have hc : wr.cell? ⟨g, o + k, none⟩ = some (.string (R k)) := (HR.out.below HB.out hg) k hlt
      have y1 : (T k).size ≤ 8388608 := Nat.le_trans (HZ.out k) hT
      have y2 : (R k).size ≤ 8388608 := Nat.le_trans (HZ2.out k hlt) hT
      have y3 : (T k).data.toList.length = (T k).size := by simp
      have Y := Lib.hid (And.intro y1 (And.intro y2 y3))
      clear y1 y2 y3
      have hsz := HB.out.size
      by_cases h0 : 0 < k
      · have HX : Hid ((T (k + 1)).data.toList = ((T k).data.toList ++ [47]) ++ (R k).data.toList) := Lib.hid (by rw [HS.out k hlt h0]; simp)
        have h02 : (0 : Int) < (k : Int) := by omega
        generalize R k = r at hc HX Y
        go_wp2_with (at_builtin; refine wpList_append_own _ rfl _ _ 22 rfl w.heap.size 5 i0 (.int .u8 0) 1 1 Try.underlying22 hi hz0 hz1 hz2 rfl (by decide) _ _ _ rfl (World.ownsRow.alloc HO.out _) ⟨wr.heap.size, 0, none⟩ 1 1 [.int .u8 47] rfl rfl ?c1 ?c2 ?c3 ?c4 ?c5 ?_)
        case c1 => exact cell_one_new _ _ _
        case c2 => intro u hu; simp at hu; subst hu; rfl
        case c3 => have := Y.out; simp only [maxLen]; omega
        case c4 => have := Y.out; omega
        case c5 => simp; omega
        · intro v' w1 hown' hgrow _
          have HO1 : Hid (OwnB w1 w.heap.size v' ((T k).data.toList ++ [47])) := Lib.hid (OwnB.snoc (c := 47) hown')
          have HB1 : Hid (Below w.heap.size w w1) := Lib.hid ((HB.out.alloc hsz _).grown hgrow (by simp; omega) (fun b hb => (World.ownsRow.lt HO.out b hb).1))
          clear hown' hgrow
          have hsz1 := HB1.out.size
          go_wp2_with (at_builtin; refine Lib.wpList_append_own_string _ rfl _ _ 22 9 rfl w.heap.size 5 i0 Try.underlying22 Try.underlying9 hi hz0 hz1 hz2 _ _ _ rfl HO1.out r rfl ?d3 ?d4 ?d5 ?_)
          case d3 => have := Y.out; simp only [maxLen, List.length_append, List.length_cons, List.length_nil]; omega
          case d4 => have := Y.out; simp only [List.length_append, List.length_cons, List.length_nil]; omega
          case d5 => omega
          · intro v2 w2 hown2 hgrow2 _
            have HO2 : Hid (OwnB w2 w.heap.size v2 (T (k + 1)).data.toList) := Lib.hid (by rw [HX.out]; exact OwnB.text (by simp) hown2)
            have HB2 : Hid (Below w.heap.size w w2) := Lib.hid (HB1.out.grown hgrow2 (by omega) (fun b hb => (World.ownsRow.lt HO1.out b hb).1))
            clear hown2 hgrow2
            go_wp2
            go_roundw
            case rel => exact ⟨k + 1, by omega, by go_num, HO2.out, HB2.out⟩
            case measure => simp [intOf]; omega
      · obtain rfl : k = 0 := by omega
        have HX : Hid ((T (0 + 1)).data.toList = (T 0).data.toList ++ (R 0).data.toList) := Lib.hid (by rw [H0.out, H1.out hlt]; simp)
        have hlt3 : (0 : Int) < (n : Int) := by omega
        generalize R 0 = r at hc HX Y
        simp only [Nat.add_zero] at hc
        go_wp2_with (at_builtin; refine Lib.wpList_append_own_string _ rfl _ _ 22 9 rfl w.heap.size 5 i0 Try.underlying22 Try.underlying9 hi hz0 hz1 hz2 _ _ _ rfl HO.out r rfl ?d3 ?d4 ?d5 ?_)
        case d3 => have := Y.out; simp only [maxLen]; omega
        case d4 => have := Y.out; omega
        case d5 => omega
        · intro v2 w2 hown2 hgrow2 _
          have HO2 : Hid (OwnB w2 w.heap.size v2 (T (0 + 1)).data.toList) := Lib.hid (by rw [HX.out]; exact OwnB.text (by simp) hown2)
          have HB2 : Hid (Below w.heap.size w w2) := Lib.hid (HB.out.grown hgrow2 (by omega) (fun b hb => (World.ownsRow.lt HO.out b hb).1))
          clear hown2 hgrow2
          go_wp2
          go_roundw
          case rel => exact ⟨0 + 1, by omega, by go_num, HO2.out, HB2.out⟩
          case measure => simp [intOf]; omega
    · obtain rfl : k = n := by omega
      have hc := HO.out.conv
      go_wp2
      go_ret
      exact ⟨ret_str (by rw [← HA.out]), HB.out⟩

theorem join_impl_nil (w : World) :
    Calls Try.prog 28 #[.slice none 0 0] w fun e w' => e = .returned (.string (joinv [])) ∧ Below w.heap.size w w' := by
  have hc : (convert 22 9 (.slice none 0 0)).run Try.prog w = .ok (.string ⟨#[]⟩) w := by
    have h : OwnB w 0 (.slice none 0 0) [] := World.ownsRow_nil _ _ _ _
    exact h.conv
  go_enter Try.func28, Try.ntmps28
  go_wp2
  refine wp_loop_rounds 1 ?_
  rw [rounds_succ]
  go_wp2
  go_ret
  exact ⟨rfl, Below.refl _ _⟩
end Go.Proofs.Ythembgllkfgknaa
