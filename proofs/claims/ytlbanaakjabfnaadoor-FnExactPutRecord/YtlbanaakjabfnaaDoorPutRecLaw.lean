/- The law laws.FnExactPutRecord returns true. -/
import Derived.Test.YtlbanaakjabfnaaDoorPutRec
namespace Go.Proofs.YtlbanaakjabfnaaDoor
open Go.ChangeShapes Go.WideShapes Go.ChangeAt Go.RowKit

set_option maxHeartbeats 1600000 in
theorem putRecord_law (k v : ByteArray) (w : World) (hv0 : k.size ≤ maxLen) (hv1 : v.size ≤ maxLen) (ht : Lib.TabIs Tryd.prog w "internal/strconv.uint64pow10" .u64 Lib.pow10Tab) :
    Calls Tryd.prog 3 #[.agg #[.string k, .string v]] w fun e w' => e = .returned (.bool true) ∧ Below w.heap.size w w' := by
  have H1 := Lib.hid (fun w => szRec_any k v 1048576 w hv0 hv1 (by omega) (by omega))
  have HZ : Hid (0 ≤ szvR k v 1048576 → k.size ≤ 1048576 ∧ v.size ≤ 1048576) := Lib.hid (fun h => by unfold szvR at h; split at h <;> omega)
  have T1 := Lib.hid (fun w => toRec_any k v w)
  have S1 := Lib.hid (fun w h0 h1 => putRecord_spec k v w h0 h1)
  have S2 := Lib.hid (fun w h0 h1 => putRecord_impl k v w h0 h1)
  have HT := Lib.hid ht
  clear ht
  generalize szvR k v 1048576 = r1 at H1 HZ
  generalize putRecv k v = d at S1 S2
  clear hv0 hv1
  have qd : (d.toList == d.toList) = true := by simp
  go_enter Tryd.func3, Tryd.ntmps3
  go_wp2_with fail
  refine (H1.out _).mono ?_
  rintro e w1 ⟨rfl, hb1⟩
  obtain ⟨k1, b1, z1⟩ := one_newR (e1 := ⟨k, v⟩) hb1
  have E := Lib.hid k1
  have B := Lib.hid b1
  clear hb1 b1 k1 H1
  obtain ⟨a0, a1⟩ := E.out.zero
  by_cases q1 : r1 < 0
  · go_wp2_with fail
    go_ret
    exact ⟨rfl, B.out⟩
  · obtain ⟨s0, s1⟩ := HZ.out (by omega)
    go_wp2_with fail
    refine (T1.out _).mono ?_
    rintro e w2 ⟨rfl, hb⟩
    replace E := Lib.hid (E.out.below hb (by omega))
    replace B := Lib.hid (btR B.out hb)
    replace z1 := Nat.le_trans z1 hb.size
    clear hb a0 a1
    go_wp2_with fail
    refine (S1.out _ (by omega) (by omega)).mono ?_
    rintro e w3 ⟨rfl, hb⟩
    replace E := Lib.hid (E.out.below hb (by omega))
    replace B := Lib.hid (btR B.out hb)
    replace z1 := Nat.le_trans z1 hb.size
    clear hb
    obtain ⟨a0, a1⟩ := E.out.zero
    go_wp2_with fail
    refine (T1.out _).mono ?_
    rintro e w4 ⟨rfl, hb⟩
    replace B := Lib.hid (btR B.out hb)
    clear hb a0 a1
    go_wp2_with fail
    refine (S2.out _ (by omega) (by omega) (Lib.tabBelow_of_tabIs HT.out _ B.out)).mono ?_
    rintro e w5 ⟨rfl, hb⟩
    replace B := Lib.hid (btR B.out hb)
    clear hb
    go_wp2_with fail
    go_ret
    exact ⟨rfl, B.out⟩
theorem putRecord_all (e : Rec) (w : World) (he : e.wf) (ht : Lib.TabIs Tryd.prog w "internal/strconv.uint64pow10" .u64 Lib.pow10Tab) :
    Calls Tryd.prog 3 #[.agg e.cells.toArray] w fun e w' => e = .returned (.bool true) ∧ Below w.heap.size w w' :=
  putRecord_law e.key e.value w he.1 he.2 ht
end Go.Proofs.YtlbanaakjabfnaaDoor
