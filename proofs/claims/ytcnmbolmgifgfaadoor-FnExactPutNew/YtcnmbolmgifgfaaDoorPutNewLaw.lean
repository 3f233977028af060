/- The law laws.FnExactPutNew returns true. -/
import Derived.Test.YtcnmbolmgifgfaaDoorPutNwI
namespace Go.Proofs.YtcnmbolmgifgfaaDoor
open Go.ChangeShapes Go.WideShapes Go.ChangeAt Go.RowKit

set_option maxHeartbeats 1600000 in
theorem putNew_law (x0 x1 x2 x3 x4 x5 : Int) (k v : ByteArray) (crc : Bool) (w : World) (hv0 : k.size ≤ maxLen) (hv1 : v.size ≤ maxLen) (ht : Tabs w) :
    Calls Tryd.prog 3 #[.agg #[.int .i64 x0, .int .i64 x1, .int .i64 x2, .int .i64 x3, .int .i64 x4, .int .i64 x5, .string k, .string v], .bool crc] w fun e w' => e = .returned (.bool true) ∧ Below w.heap.size w w' := by
  have H1 := Lib.hid (fun w => szCard_any x0 x1 x2 x3 x4 x5 k v 1048576 w hv0 hv1 (by omega) (by omega))
  have HZ : Hid (0 ≤ szvC k v 1048576 → k.size ≤ 1048576 ∧ v.size ≤ 1048576) := Lib.hid (fun h => by unfold szvC at h; split at h <;> omega)
  have T1 := Lib.hid (fun w => toCard_any x0 x1 x2 x3 x4 x5 k v w)
  have S1 := Lib.hid (fun w h0 h1 => putNew_spec x0 x1 x2 x3 x4 x5 k v crc w h0 h1)
  have S2 := Lib.hid (fun w h0 h1 hT => putNew_impl x0 x1 x2 x3 x4 x5 k v crc w h0 h1 hT)
  have HT := Lib.hid ht
  clear ht
  generalize szvC k v 1048576 = r1 at H1 HZ
  generalize newTextv ⟨x0, x1, x2, x3, x4, x5, k, v⟩ crc = d at S1 S2
  clear hv0 hv1
  have qd : (d.toList == d.toList) = true := by simp
  go_enter Tryd.func3, Tryd.ntmps3
  go_wp2_with fail
  refine (H1.out _).mono ?_
  rintro e w1 ⟨rfl, hb1⟩
  obtain ⟨k1, b1, z1⟩ := one_newC (e1 := ⟨x0, x1, x2, x3, x4, x5, k, v⟩) hb1
  have E := Lib.hid k1
  have B := Lib.hid b1
  clear hb1 b1 k1 H1
  obtain ⟨a0, a1, a2, a3, a4, a5, a6, a7⟩ := E.out.zero
  by_cases q1 : r1 < 0
  · go_wp2_with fail
    go_ret
    exact ⟨rfl, B.out⟩
  · obtain ⟨s0, s1⟩ := HZ.out (by omega)
    go_wp2_with fail
    refine (T1.out _).mono ?_
    rintro e w2 ⟨rfl, hb⟩
    replace E := Lib.hid (E.out.below hb (by omega))
    replace B := Lib.hid (btC B.out hb)
    replace z1 := Nat.le_trans z1 hb.size
    clear hb a0 a1 a2 a3 a4 a5 a6 a7
    go_wp2_with fail
    refine (S1.out _ (by omega) (by omega)).mono ?_
    rintro e w3 ⟨rfl, hb⟩
    replace E := Lib.hid (E.out.below hb (by omega))
    replace B := Lib.hid (btC B.out hb)
    replace z1 := Nat.le_trans z1 hb.size
    clear hb
    obtain ⟨a0, a1, a2, a3, a4, a5, a6, a7⟩ := E.out.zero
    go_wp2_with fail
    refine (T1.out _).mono ?_
    rintro e w4 ⟨rfl, hb⟩
    replace B := Lib.hid (btC B.out hb)
    clear hb a0 a1 a2 a3 a4 a5 a6 a7
    go_wp2_with fail
    refine (S2.out _ (by omega) (by omega) (HT.out.below B.out)).mono ?_
    rintro e w5 ⟨rfl, hb⟩
    replace B := Lib.hid (btC B.out hb)
    clear hb
    go_wp2_with fail
    go_ret
    exact ⟨rfl, B.out⟩
theorem putNew_all (e : Card) (crc : Bool) (w : World) (he : e.wf) (ht : Tabs w) :
    Calls Tryd.prog 3 #[.agg e.cells.toArray, .bool crc] w fun e w' => e = .returned (.bool true) ∧ Below w.heap.size w w' :=
  putNew_law e.Ino e.Mode e.Uid e.Gid e.Count e.Time e.Path e.Data crc w he.2.2.2.2.2.2.1 he.2.2.2.2.2.2.2 ht
end Go.Proofs.YtcnmbolmgifgfaaDoor
