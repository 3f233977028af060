/- Contracts of spec.PutBig, impl.PutBig and the law laws.FnExactPutBig, for every two ints. -/
import Derived.Test.YtndgppabfdeecaaDoorOwn
import Derived.Test.YtndgppabfdeecaaDoorIn
namespace Go.Proofs.YtndgppabfdeecaaDoor
open Go.ChangeShapes Go.WideShapes Go.ChangeAt Go.RowKit

/-- What is left of n, and the bytes made so far, behind j steps. -/
def bigSt (n : Int) : Nat → Int × List UInt8
  | 0 => (n, [])
  | j + 1 => ((bigSt n j).1 / 256, UInt8.ofNat ((bigSt n j).1 % 256).toNat :: (bigSt n j).2)
theorem bigSt_len (n : Int) : ∀ j, (bigSt n j).2.length = j
  | 0 => rfl
  | j + 1 => by simp [bigSt, bigSt_len n j]
theorem bigSt_bd (n : Int) (h0 : 0 ≤ n) (h1 : n ≤ 9007199254740991) : ∀ j, 0 ≤ (bigSt n j).1 ∧ (bigSt n j).1 ≤ 9007199254740991
  | 0 => ⟨h0, h1⟩
  | j + 1 => by have := bigSt_bd n h0 h1 j; simp only [bigSt]; omega
theorem byte_of (x : Int) : (((UInt8.ofNat (x % 256).toNat).toNat : Nat) : Int) = x % 256 := by
  have : (UInt8.ofNat (x % 256).toNat).toNat = (x % 256).toNat := by simp; omega
  rw [this]; omega

def putBigv (n width : Int) : ByteArray × Bool :=
  if 0 ≤ n ∧ n ≤ 9007199254740991 ∧ 2 ≤ width ∧ width ≤ 20 ∧ (bigSt n (width.toNat - 1)).1 = 0 then (⟨(128 :: (bigSt n (width.toNat - 1)).2).toArray⟩, true) else (⟨#[]⟩, false)
theorem putBigv_no {n width : Int} (h : ¬ (0 ≤ n ∧ n ≤ 9007199254740991 ∧ 2 ≤ width ∧ width ≤ 20)) : putBigv n width = (⟨#[]⟩, false) := by
  rw [putBigv, if_neg (fun k => h ⟨k.1, k.2.1, k.2.2.1, k.2.2.2.1⟩)]
theorem putBigv_more {n width : Int} (h : ¬ (bigSt n (width.toNat - 1)).1 = 0) : putBigv n width = (⟨#[]⟩, false) := by
  rw [putBigv, if_neg (fun k => h k.2.2.2.2)]
theorem putBigv_ok {n width : Int} (h0 : 0 ≤ n) (h1 : n ≤ 9007199254740991) (h2 : 2 ≤ width) (h3 : width ≤ 20) (h : (bigSt n (width.toNat - 1)).1 = 0) : putBigv n width = (⟨(128 :: (bigSt n (width.toNat - 1)).2).toArray⟩, true) := by
  rw [putBigv, if_pos ⟨h0, h1, h2, h3, h⟩]
theorem ret_tsb {a c : ByteArray} {b d : Bool} {r : ByteArray × Bool} (h : r = (a, b)) (h1 : c = a) (h2 : d = b) : Ending.returned (.tuple #[.string c, .bool d]) = .returned (.tuple #[.string r.1, .bool r.2]) := by
  subst h h1 h2; rfl

/-- A row of bytes of the call's own that is not nil. -/
def OwnS (w : World) (base : Nat) (v : Value) (l : List UInt8) : Prop := OwnB w base v l ∧ ∃ g cap, v = .slice (some ⟨g, 0, none⟩) l.length cap

theorem bigv_str (l : List UInt8) : (⟨#[128]⟩ : ByteArray) ++ ⟨l.toArray⟩ = ⟨(128 :: l).toArray⟩ := by
  apply ByteArray.ext; simp

set_option maxHeartbeats 800000 in
theorem putBig_spec (n width : Int) (w : World) :
    Calls Tryd.prog 29 #[.int .i64 n, .int .i64 width] w fun e w' => e = .returned (.tuple #[.string (putBigv n width).1, .bool (putBigv n width).2]) ∧ Below w.heap.size w w' := by
  by_cases h0 : 0 ≤ n ∧ n ≤ 9007199254740991
  · have i1 := inB_t h0
    by_cases h1 : 2 ≤ width ∧ width ≤ 20
    · have i2 := inB_t h1
      obtain ⟨i0, hi, hz0, hz1, hz2⟩ := info_parts Tryd.info5
      go_enter Tryd.func29, Tryd.ntmps29
      go_wp2_with (go_at_call 40; refine (in_any _ _ _ _).mono ?_; rintro e w' ⟨rfl, rfl⟩)
      go_loopw [6, 7, 8] (fun v m i wr => ∃ (j : Nat) (x : Int), j + 1 ≤ width.toNat ∧ i = .int .i64 ((j : Int) + 1) ∧ 0 ≤ x ∧ x ≤ 9007199254740991 ∧ m = .int .i64 x ∧ Hid (x = (bigSt n j).1) ∧ OwnS wr w.heap.size v (bigSt n j).2 ∧ Below w.heap.size w wr) (fun _ _ i _ => width.toNat - (intOf i).toNat)
      case atStart => exact ⟨0, n, by omega, rfl, h0.1, h0.2, rfl, Lib.hid rfl, ⟨OwnB.lit (Nat.le_refl _), _, _, rfl⟩, (Below.refl _ _).alloc (Nat.le_refl _) _⟩
      case round =>
        obtain ⟨j, x, hj, rfl, hx0, hx1, rfl, HX, ⟨hown, g, cap, rfl⟩, hb⟩ := hrel
        have HO := Lib.hid hown
        have HB := Lib.hid hb
        have hln := bigSt_len n j
        have HLN := Lib.hid hln
        clear hown hb hln
        by_cases hlt : (j : Int) + 1 < width
        · have hsz := HB.out.size
          go_wp2_with (at_builtin; refine wpList_append_own _ rfl _ _ 32 rfl w.heap.size 5 i0 (.int .u8 0) 1 1 Tryd.underlying32 hi hz0 hz1 hz2 rfl (by decide) _ 1 [.int .u8 (x % 256)] rfl (World.ownsRow_lit wr #[.int .u8 (x % 256)] 1 hsz (by simp [maxLen]) rfl) ⟨g, 0, none⟩ _ cap (byteVals (bigSt n j).2) rfl ?c0 ?c1 ?c2 ?c3 ?c4 ?c5 ?_)
          case c0 => simp [byteVals_length]
          case c1 => exact World.ownsRow.cells (HO.out.alloc _) rfl
          case c2 => intro u hu; simp [byteVals] at hu; obtain ⟨c, _, rfl⟩ := hu; rfl
          case c3 => rw [HLN.out]; simp only [maxLen]; omega
          case c4 => rw [HLN.out]; omega
          case c5 => simp; omega
          · intro v' w1 hown' hgrow hnil
            have hO : OwnB w1 w.heap.size v' (bigSt n (j + 1)).2 := by
              have e : Value.int .u8 (x % 256) :: byteVals (bigSt n j).2 = byteVals (bigSt n (j + 1)).2 := by
                simp only [bigSt, byteVals, List.map_cons]
                rw [byte_of, ← HX.out]
              rw [e] at hown'
              have e2 : 1 + (bigSt n j).2.length = (bigSt n (j + 1)).2.length := by simp only [bigSt_len]; omega
              rw [e2] at hown'
              exact hown'
            have hS : OwnS w1 w.heap.size v' (bigSt n (j + 1)).2 := by
              refine ⟨hO, ?_⟩
              obtain ⟨_, ⟨rfl, _⟩ | ⟨g', cap', cur, rfl, _⟩⟩ := hO
              · simp at hnil
              · exact ⟨g', cap', rfl⟩
            have hBl : Below w.heap.size w w1 := (HB.out.alloc hsz _).grown hgrow (by simp; omega) (fun b hb => by simp [Value.ownBlock] at hb; omega)
            have HX' := Lib.hid (show x / 256 = (bigSt n (j + 1)).1 by rw [HX.out]; rfl)
            clear hown' hgrow hnil hO
            go_wp2
            go_roundw
            case rel => exact ⟨j + 1, x / 256, by omega, by go_num, by omega, by omega, rfl, HX', hS, hBl⟩
            case measure => simp [intOf]; omega
        · have hjw : j = width.toNat - 1 := by omega
          have HJ := Lib.hid hjw
          clear hjw
          have hc := HO.out.conv
          by_cases hx : x = 0
          · have hsize : (bigSt n j).2.length ≤ 20 := by rw [HLN.out]; omega
            have HX0 := Lib.hid hx
            have hx1 : ¬ (0 < x) := by omega
            clear hx
            go_wp2
            go_ret2
            refine ⟨ret_tsb (putBigv_ok h0.1 h0.2 h1.1 h1.2 ?_) ?_ rfl, HB.out⟩
            · rw [← HJ.out, ← HX.out]; exact HX0.out
            · rw [← HJ.out]; exact bigv_str _
          · go_wp2
            go_ret2
            exact ⟨ret_tsb (putBigv_more (by rw [← HJ.out, ← HX.out]; exact hx)) rfl rfl, HB.out⟩
    · have i2 := inB_f h1
      go_enter Tryd.func29, Tryd.ntmps29
      go_wp2_with (go_at_call 40; refine (in_any _ _ _ _).mono ?_; rintro e w' ⟨rfl, rfl⟩)
      go_ret2
      exact ⟨ret_tsb (putBigv_no (by omega)) rfl rfl, Below.refl _ _⟩
  · have i1 := inB_f h0
    go_enter Tryd.func29, Tryd.ntmps29
    go_wp2_with (go_at_call 40; refine (in_any _ _ _ _).mono ?_; rintro e w' ⟨rfl, rfl⟩)
    go_ret2
    exact ⟨ret_tsb (putBigv_no (by omega)) rfl rfl, Below.refl _ _⟩

theorem set_row (p : Nat) (L : List UInt8) (b : UInt8) : (128 :: (List.replicate (p + 1) (0 : UInt8) ++ L)).set (p + 1) b = 128 :: (List.replicate p 0 ++ (b :: L)) := by
  simp only [List.set_cons_succ]
  congr 1
  rw [List.replicate_succ', List.append_assoc, List.set_append_right _ _ (by simp)]
  simp
theorem byteVals_set (l : List UInt8) (i : Nat) (b : UInt8) : (byteVals l).set i (.int .u8 ((b.toNat : Nat) : Int)) = byteVals (l.set i b) := by
  simp [byteVals, List.map_set]
theorem byteVals_zeros (n : Nat) : List.replicate n (Value.int .u8 0) = byteVals (List.replicate n 0) := by simp [byteVals]

/-- The row behind j steps, p + j + 1 bytes in all. -/
def bigRow (n : Int) (p j : Nat) : List UInt8 := 128 :: (List.replicate p 0 ++ (bigSt n j).2)
theorem bigRow_len (n : Int) (p j : Nat) : (bigRow n p j).length = p + j + 1 := by simp [bigRow, bigSt_len]
theorem bigRow_step (n : Int) (p j : Nat) : (bigRow n (p + 1) j).set (p + 1) (UInt8.ofNat ((bigSt n j).1 % 256).toNat) = bigRow n p (j + 1) := by
  rw [bigRow, set_row]; rfl

set_option maxHeartbeats 800000 in
theorem putBig_impl (n width : Int) (w : World) :
    Calls Tryd.prog 28 #[.int .i64 n, .int .i64 width] w fun e w' => e = .returned (.tuple #[.string (putBigv n width).1, .bool (putBigv n width).2]) ∧ Below w.heap.size w w' := by
  by_cases h0 : 0 ≤ n ∧ n ≤ 9007199254740991 ∧ 2 ≤ width ∧ width ≤ 20
  · obtain ⟨ha, hb, hc, hd⟩ := h0
    obtain ⟨W, rfl⟩ := Int.eq_ofNat_of_zero_le (show 0 ≤ width by omega)
    obtain ⟨i0, hi, hz0, hz1, hz2⟩ := info_parts Tryd.info5
    go_enter Tryd.func28, Tryd.ntmps28
    go_wp2_with (at_make; refine wpList_make_full _ rfl _ _ 32 rfl w.heap.size 5 i0 (.int .u8 0) 1 Tryd.underlying32 hi hz0 hz1 .i64 .i64 (W : Int) (W : Int) W rfl rfl rfl rfl (by rw [hz2]; omega) (by simp only [maxLen]; omega) (Nat.le_refl _) ?_)
    intro w1 hown hgrow
    have hp : 0 < W := by omega
    have hpi : (0 : Int) < (W : Int) := by omega
    have hcell : ∃ v, w1.cell? ⟨w.heap.size, 0, none⟩ = some v := by
      rw [World.ownsRow.cellAt hown 0 (by omega)]
      rw [toList_madeCells_one]
      exact ⟨.int .u8 0, by rw [List.getElem?_replicate, if_pos (by omega)]⟩
    obtain ⟨cv, hcv⟩ := hcell
    have hfz := World.ownsRow.frozenAt hown 0
    have hst := (World.ownsRow.stored hown 0 (.int .u8 128))
    have hO : OwnB (w1.setCell ⟨w.heap.size, 0, none⟩ (.int .u8 128)) w.heap.size (.slice (some ⟨w.heap.size, 0, none⟩) W W) (bigRow n (W - 1) 0) := by
      have h := hst.1
      have e : (madeCells #[.int .u8 0] W).toList.set 0 (.int .u8 128) = byteVals (bigRow n (W - 1) 0) := by
        obtain ⟨V, rfl⟩ : ∃ V, W = V + 1 := ⟨W - 1, by omega⟩
        rw [toList_madeCells_one]
        simp [List.replicate_succ, bigRow, bigSt, byteVals]
      rw [e] at h
      have e2 : W = (bigRow n (W - 1) 0).length := by rw [bigRow_len]; omega
      unfold OwnB
      rw [← e2]
      exact h
    have hBl : Below w.heap.size w (w1.setCell ⟨w.heap.size, 0, none⟩ (.int .u8 128)) := by
      have h1 : Below w.heap.size w w1 := (Below.refl _ _).grown hgrow (Nat.le_refl _) (fun k hk => by cases hk)
      exact h1.setCell (Nat.le_refl _) _
    have HO := Lib.hid hO
    have HB := Lib.hid hBl
    clear hO hBl hst hown hgrow
    go_wp2
    go_loopw [0, 7] (fun m i wr => ∃ (j p : Nat) (x : Int), p + j + 1 = W ∧ i = .int .i64 (p : Int) ∧ 0 ≤ x ∧ x ≤ 9007199254740991 ∧ m = .int .i64 x ∧ Hid (x = (bigSt n j).1) ∧ OwnB wr w.heap.size (.slice (some ⟨w.heap.size, 0, none⟩) W W) (bigRow n p j) ∧ Below w.heap.size w wr) (fun _ i _ => (intOf i).toNat)
    case atStart => exact ⟨0, W - 1, n, by omega, by go_num, ha, hb, rfl, Lib.hid rfl, HO.out, HB.out⟩
    case round =>
      obtain ⟨j, p, x, hjp, rfl, hx0, hx1, rfl, HX, hown, hbl⟩ := hrel
      have HOw := Lib.hid hown
      have HBw := Lib.hid hbl
      have HJP := Lib.hid hjp
      have hpW : p < W := by omega
      have hpWi : (p : Int) < (W : Int) := by omega
      clear hown hbl hjp
      by_cases hp0 : p = 0
      · subst hp0
        have hconv := HOw.out.conv
        have HJ := Lib.hid (show j = (W : Int).toNat - 1 by have := HJP.out; omega)
        have e0 : bigRow n 0 j = 128 :: (bigSt n j).2 := rfl
        rw [e0] at hconv
        clear e0
        by_cases hx : x = 0
        · have hx2 : (x != 0) = false := by simp [hx]
          have HX0 := Lib.hid hx
          clear hx
          go_wp2
          go_ret2
          refine ⟨ret_tsb (putBigv_ok ha hb hc hd ?_) ?_ rfl, HBw.out⟩
          · rw [← HJ.out, ← HX.out]; exact HX0.out
          · rw [← HJ.out]
        · have hx2 : (x != 0) = true := by simp [hx]
          go_wp2
          go_ret2
          exact ⟨ret_tsb (putBigv_more (by rw [← HJ.out, ← HX.out]; exact hx)) rfl rfl, HBw.out⟩
      · obtain ⟨q, rfl⟩ : ∃ q, p = q + 1 := ⟨p - 1, by omega⟩
        have hlen : W = (bigRow n (q + 1) j).length := by rw [bigRow_len]; have := HJP.out; omega
        have hO2 : wr.ownsRow w.heap.size 5 1 (.slice (some ⟨w.heap.size, 0, none⟩) W W) W (byteVals (bigRow n (q + 1) j)) := by
          have := HOw.out
          unfold OwnB at this
          rw [← hlen] at this
          exact this
        have hcell : ∃ v, wr.cell? ⟨w.heap.size, q + 1, none⟩ = some v := by
          rw [World.ownsRow.cellAt hO2 (q + 1) (by omega)]
          exact ⟨_, List.getElem?_eq_getElem (by rw [byteVals_length, ← hlen]; exact hpW)⟩
        obtain ⟨cw, hcw⟩ := hcell
        have hfw := World.ownsRow.frozenAt hO2 (q + 1)
        have hst := (World.ownsRow.stored hO2 (q + 1) (.int .u8 (x % 256))).1
        have hO3 : OwnB (wr.setCell ⟨w.heap.size, q + 1, none⟩ (.int .u8 (x % 256))) w.heap.size (.slice (some ⟨w.heap.size, 0, none⟩) W W) (bigRow n q (j + 1)) := by
          have e : (byteVals (bigRow n (q + 1) j)).set (q + 1) (.int .u8 (x % 256)) = byteVals (bigRow n q (j + 1)) := by
            rw [← bigRow_step, ← byteVals_set, byte_of, ← HX.out]
          rw [e] at hst
          have e2 : W = (bigRow n q (j + 1)).length := by rw [bigRow_len]; have := HJP.out; omega
          unfold OwnB
          rw [← e2]
          exact hst
        have hB3 : Below w.heap.size w (wr.setCell ⟨w.heap.size, q + 1, none⟩ (.int .u8 (x % 256))) := HBw.out.setCell (Nat.le_refl _) _
        have HO3 := Lib.hid hO3
        have HB3 := Lib.hid hB3
        have HX' := Lib.hid (show x / 256 = (bigSt n (j + 1)).1 by rw [HX.out]; rfl)
        clear hO3 hB3 hst hO2 hlen
        go_wp2
        go_roundw
        case rel => exact ⟨j + 1, q, x / 256, by have := HJP.out; omega, by go_num, by omega, by omega, rfl, HX', HO3.out, HB3.out⟩
        case measure => simp [intOf]
  · by_cases a1 : n < 0
    · go_enter Tryd.func28, Tryd.ntmps28
      go_wp2
      go_ret2
      exact ⟨ret_tsb (putBigv_no (by omega)) rfl rfl, Below.refl _ _⟩
    · by_cases a2 : 9007199254740991 < n
      · go_enter Tryd.func28, Tryd.ntmps28
        go_wp2
        go_ret2
        exact ⟨ret_tsb (putBigv_no (by omega)) rfl rfl, Below.refl _ _⟩
      · by_cases a3 : width < 2
        · go_enter Tryd.func28, Tryd.ntmps28
          go_wp2
          go_ret2
          exact ⟨ret_tsb (putBigv_no (by omega)) rfl rfl, Below.refl _ _⟩
        · have a4 : 20 < width := by omega
          clear h0
          go_enter Tryd.func28, Tryd.ntmps28
          go_wp2
          go_ret2
          exact ⟨ret_tsb (putBigv_no (by omega)) rfl rfl, Below.refl _ _⟩

end Go.Proofs.YtndgppabfdeecaaDoor
