/- Contracts of spec.HeadSum and impl.HeadSum. -/
import Derived.Test.YtancidbbkoeokaaGreatDoorBlkOf
import Derived.Test.YtancidbbkoeokaaGreatDoorSum
import Derived.Deep.RegionHeld3
namespace Go.Proofs.YtancidbbkoeokaaGreatDoor
open Go.ChangeShapes Go.WideShapes Go.ChangeAt Go.RowKit

def headSumv (s : ByteArray) : Int := if s.size < 512 then -1 else sumv (s.data.toList.take 148) + 256 + sumv ((s.data.toList.take 512).drop 156)
theorem sumv_app (l m : List UInt8) : sumv (l ++ m) = sumv l + sumv m := by simp [sumv]
theorem headSum_over {s : ByteArray} (h : 512 ≤ s.size) : sumv (over (s.data.toList.take 512) 148 [32, 32, 32, 32, 32, 32, 32, 32]) = headSumv s := by
  rw [headSumv, if_neg (by omega), over, sumv_app, sumv_app, List.take_take]
  rfl
theorem headSum_bd (s : ByteArray) : -1 ≤ headSumv s ∧ headSumv s ≤ 130816 := by
  unfold headSumv
  have h1 := sumv_bd (s.data.toList.take 148)
  have h2 := sumv_bd ((s.data.toList.take 512).drop 156)
  have h3 : (s.data.toList.take 148).length ≤ 148 := List.length_take_le _ _
  have h4 : ((s.data.toList.take 512).drop 156).length ≤ 356 := by rw [List.length_drop]; have := List.length_take_le 512 s.data.toList; omega
  split <;> omega
theorem headSum_spec (s : ByteArray) (w : World) (hs : s.size ≤ 1048576) :
    Calls Tryz.prog 63 #[.string s] w fun e w' => e = .returned (.int .i64 (headSumv s)) ∧ Below w.heap.size w w' := by
  by_cases h : (s.size : Int) < 512
  · have HE : Hid (headSumv s = -1) := Lib.hid (by rw [headSumv, if_pos (by omega)])
    generalize headSumv s = r at HE
    go_enter Tryz.func63, Tryz.ntmps63
    go_wp2
    go_ret
    exact ⟨ret_int HE.out.symm, Below.refl _ _⟩
  · have HE : Hid (headSumv s = sumv (s.data.toList.take 148) + 256 + sumv ((s.data.toList.drop 156).take 356)) := Lib.hid (by
      rw [headSumv, if_neg (by omega), List.drop_take])
    have b1 := Lib.hid (sumv_bd (s.data.toList.take 148))
    have b2 := Lib.hid (sumv_bd ((s.data.toList.drop 156).take 356))
    have l1 := Lib.hid (List.length_take_le 148 s.data.toList)
    have l2 := Lib.hid (List.length_take_le 356 (s.data.toList.drop 156))
    have H1 := Lib.hid (fun a b w => sum_spec (s.extract a b) w (by rw [ByteArray.size_extract]; omega))
    generalize headSumv s = r at HE
    have c1 : (148 : Int) ≤ ↑s.size := by omega
    have c2 : (512 : Int) ≤ ↑s.size := by omega
    go_enter Tryz.func63, Tryz.ntmps63
    go_wp2_with fail
    go_region_held3 (fun _ => True) (trivial) (first | (go_at_call 32; refine (H1.out _ _ _).mono ?_; rintro e w3 ⟨rfl, rfl⟩))
    go_wp2
    go_ret
    refine ⟨?_, ⟨rfl, rfl, rfl, Nat.le_refl _, fun _ _ => rfl⟩⟩
    have b1 := b1.out
    have b2 := b2.out
    have l1 := l1.out
    have l2 := l2.out
    show Ending.returned (.int .i64 (IntKind.i64.wrap (IntKind.i64.wrap (sumv (s.data.toList.take 148) + 256) + sumv ((s.data.toList.drop 156).take 356)))) = _
    rw [IntWalk.i64_in (sumv (s.data.toList.take 148) + 256) (by omega), IntWalk.i64_in _ (by omega), HE.out]
set_option maxRecDepth 8000 in
theorem headSum_impl (s : ByteArray) (w : World) (hs : s.size ≤ 1048576) (hF : FW w) :
    Calls Tryz.prog 99 #[.string s] w fun e w' => e = .returned (.int .i64 (headSumv s)) ∧ Below w.heap.size w w' := by
  by_cases h : (s.size : Int) < 512
  · have HE : Hid (headSumv s = -1) := Lib.hid (by rw [headSumv, if_pos (by omega)])
    generalize headSumv s = r at HE
    clear hF
    go_enter Tryz.func99, Tryz.ntmps99
    go_wp2
    go_ret
    exact ⟨ret_int HE.out.symm, Below.refl _ _⟩
  · have HE := Lib.hid (headSum_over (s := s) (by omega))
    have H1 := Lib.hid (fun w => blockOf_any s w (by omega))
    have hl : (s.data.toList.take 512).length = 512 := by simp; omega
    have H2 := Lib.hid (fun g w hF hB => put_any g 6 8 (s.data.toList.take 512) ⟨#[32, 32, 32, 32, 32, 32, 32, 32]⟩ w (by omega) rfl (by decide) hF hB)
    rw [show offs 6 = 148 from rfl, show (⟨#[32, 32, 32, 32, 32, 32, 32, 32]⟩ : ByteArray).data.toList = [32, 32, 32, 32, 32, 32, 32, 32] from rfl] at H2
    have HM : Hid ((over (s.data.toList.take 512) 148 [32, 32, 32, 32, 32, 32, 32, 32]).length = 512) := Lib.hid (by rw [over_len (by rw [hl]; decide), hl])
    have hz := fun w => zero_blk w
    have HS := Lib.hid (fun w => run_storeVar_new (P := Tryz.prog) w 105 (Lib.byteCells zeros512).toArray (Lib.byteCells (s.data.toList.take 512)).toArray (by rw [Tryz.sizeBlk, List.size_toArray, Lib.byteCells_length, hl]) (by rw [List.size_toArray, List.size_toArray, Lib.byteCells_length, Lib.byteCells_length, hl]; exact List.length_replicate) (bc_one _))
    have HN := Lib.hid (fun w => Blk.new w (s.data.toList.take 512) hl)
    generalize over (s.data.toList.take 512) 148 [32, 32, 32, 32, 32, 32, 32, 32] = m at *
    generalize s.data.toList.take 512 = l at *
    generalize headSumv s = r at *
    generalize (Lib.byteCells zeros512).toArray = Z at *
    have HSum := Lib.hid (fun w => sum_impl ⟨m.toArray⟩ w (by simp [ByteArray.size]; have := HM.out; omega))
    rw [show (⟨m.toArray⟩ : ByteArray).data.toList = m from rfl, HE.out] at HSum
    have HF := Lib.hid hF
    clear hF HE HM hl hs
    go_enter Tryz.func99, Tryz.ntmps99
    go_wp2_with fail
    refine (H1.out _).mono ?_
    rintro e w1 ⟨rfl, hb1⟩
    have B1 := Lib.hid hb1
    have F1 := Lib.hid (HF.out.below hb1)
    clear hb1 HF
    go_wp2_with ((with_reducible refine wpList_store_eq rfl 105 _ _ rfl ⟨w1.heap.size, 0, none⟩ ?_ ?_ (HS.out w1) ?_); rfl; rfl)
    have l1 : w.heap.size ≤ w1.heap.size := B1.out.size
    have B1' := Lib.hid (B1.out.alloc l1 (.cells (Lib.byteCells l).toArray 105))
    refine (H2.out w1.heap.size _ (F1.out.below ((Below.refl _ _).alloc (Nat.le_refl _) _)) (HN.out _)).mono ?_
    rintro e w2 ⟨rfl, hk2, hz2, hb2⟩
    have B2 := Lib.hid (B1'.out.trans (hb2 _ l1))
    have hc := hk2.conv
    clear hk2 hz2 hb2 B1 B1' F1 HN HS
    go_wp2_with fail
    refine (HSum.out _).mono ?_
    rintro e w3 ⟨rfl, rfl⟩
    go_wp2
    go_ret
    exact ⟨rfl, B2.out⟩
end Go.Proofs.YtancidbbkoeokaaGreatDoor
