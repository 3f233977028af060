/- The law laws.FnExactPutBin returns true. -/
import Derived.Test.YtancidbbkoeokaaPutBnI
import Derived.Test.YtancidbbkoeokaaBinText
namespace Go.Proofs.Ytancidbbkoeokaa
open Go.ChangeShapes Go.WideShapes Go.ChangeAt Go.RowKit

set_option maxHeartbeats 1600000 in
theorem putBin_law (x0 x1 x2 x3 x4 x5 : Int) (k v : ByteArray) (hi : Bool) (w : World) (hv0 : k.size ≤ maxLen) (hv1 : v.size ≤ maxLen) :
    Calls Try.prog 4 #[.agg #[.int .i64 x0, .int .i64 x1, .int .i64 x2, .int .i64 x3, .int .i64 x4, .int .i64 x5, .string k, .string v], .bool hi] w fun e w' => e = .returned (.bool true) ∧ Below w.heap.size w w' := by
  have H1 := Lib.hid (fun w => szCard_any x0 x1 x2 x3 x4 x5 k v 1048576 w hv0 hv1 (by omega) (by omega))
  have HZ : Hid (0 ≤ szvC k v 1048576 → k.size ≤ 1048576 ∧ v.size ≤ 1048576) := Lib.hid (fun h => by unfold szvC at h; split at h <;> omega)
  have T1 := Lib.hid (fun w => toCard_any x0 x1 x2 x3 x4 x5 k v w)
  have S1 := Lib.hid (fun w h0 h1 => putBin_spec x0 x1 x2 x3 x4 x5 k v hi w h0 h1)
  have S2 := Lib.hid (fun w h0 h1 => putBin_impl x0 x1 x2 x3 x4 x5 k v hi w h0 h1)
  generalize szvC k v 1048576 = r1 at H1 HZ
  generalize binTextv ⟨x0, x1, x2, x3, x4, x5, k, v⟩ hi = d at S1 S2
  clear hv0 hv1
  have qd : (d.toList == d.toList) = true := by simp
  go_enter Try.func4, Try.ntmps4
  go_wp2_with fail
  refine (H1.out _).mono ?_
  rintro e w1 ⟨rfl, hb1⟩
  obtain ⟨k1, b1, z1⟩ := one_newC (e1 := ⟨x0, x1, x2, x3, x4, x5, k, v⟩) hb1
  have E := Lib.hid k1
  have B := Lib.hid b1
  clear hb1 b1 k1 H1
  obtain ⟨a0, a1, a2, a3, a4, a5, a6, a7⟩ := E.out.zero
  by_cases q1 : r1 < 0
  · go_wp2_with fail
    go_ret
    exact ⟨rfl, B.out⟩
  · obtain ⟨s0, s1⟩ := HZ.out (by omega)
    go_wp2_with fail
    refine (T1.out _).mono ?_
    rintro e w2 ⟨rfl, hb⟩
    replace E := Lib.hid (E.out.below hb (by omega))
    replace B := Lib.hid (btC B.out hb)
    replace z1 := Nat.le_trans z1 hb.size
    clear hb a0 a1 a2 a3 a4 a5 a6 a7
    go_wp2_with fail
    refine (S1.out _ (by omega) (by omega)).mono ?_
    rintro e w3 ⟨rfl, hb⟩
    replace E := Lib.hid (E.out.below hb (by omega))
    replace B := Lib.hid (btC B.out hb)
    replace z1 := Nat.le_trans z1 hb.size
    clear hb
    obtain ⟨a0, a1, a2, a3, a4, a5, a6, a7⟩ := E.out.zero
    go_wp2_with fail
    refine (T1.out _).mono ?_
    rintro e w4 ⟨rfl, hb⟩
    replace B := Lib.hid (btC B.out hb)
    clear hb a0 a1 a2 a3 a4 a5 a6 a7
    go_wp2_with fail
    refine (S2.out _ (by omega) (by omega)).mono ?_
    rintro e w5 ⟨rfl, hb⟩
    replace B := Lib.hid (btC B.out hb)
    clear hb
    go_wp2_with fail
    go_ret
    exact ⟨rfl, B.out⟩
theorem putBin_all (e : Card) (hi : Bool) (w : World) (he : e.wf) :
    Calls Try.prog 4 #[.agg e.cells.toArray, .bool hi] w fun e w' => e = .returned (.bool true) ∧ Below w.heap.size w w' :=
  putBin_law e.Ino e.Mode e.Uid e.Gid e.Count e.Time e.Path e.Data hi w he.2.2.2.2.2.2.1 he.2.2.2.2.2.2.2
end Go.Proofs.Ytancidbbkoeokaa
