/- The law laws.FnExactGetRecord returns true. -/
import Derived.Test.YtlbanaakjabfnaaDoorGetRecS
import Derived.Test.YtlbanaakjabfnaaDoorRecQ
namespace Go.Proofs.YtlbanaakjabfnaaDoor
open Go.ChangeShapes Go.WideShapes Go.ChangeAt Go.RowKit Go.Deep

set_option maxHeartbeats 1600000 in
theorem getRecord_law (s : ByteArray) (i : Int) (w : World) (ht : Lib.TabIs Tryd.prog w "internal/strconv.uint64pow10" .u64 Lib.pow10Tab) :
    Calls Tryd.prog 4 #[.string s, .int .i64 i] w fun e w' => e = .returned (.bool true) ∧ Below w.heap.size w w' := by
  by_cases hs : (1048576 : Int) < (s.size : Int)
  · go_enter Tryd.func4, Tryd.ntmps4
    go_wp2_with fail
    go_ret
    exact ⟨rfl, Below.refl _ _⟩
  have S1 := Lib.hid (fun w => getRecord_spec s i w (by omega))
  have S2 := Lib.hid (fun w h => getRecord_impl s i w (by omega) h)
  have HT := Lib.hid ht
  clear ht
  generalize recK s i = k at *
  generalize recV s i = v at *
  generalize recN s i = n at *
  have HQ := Lib.hid (fun w => eqRec_self k v w)
  have qn : (n == n) = true := by simp
  have qn2 : (n != n) = false := by simp
  go_enter Tryd.func4, Tryd.ntmps4
  go_wp2_with fail
  refine (S1.out _).mono ?_
  rintro e w1 ⟨rfl, hb⟩
  have B := Lib.hid hb
  clear hb
  go_wp2_with fail
  refine (S2.out _ (Lib.tabBelow_of_tabIs HT.out _ (B.out.alloc B.out.size _))).mono ?_
  rintro e w2 ⟨rfl, hb⟩
  obtain ⟨r1, b1, z1⟩ := one_newR (e1 := ⟨k, v⟩) hb
  have R1 := Lib.hid r1
  replace B := Lib.hid (btR B.out b1)
  clear hb r1 b1
  have hne : w1.heap.size ≠ w2.heap.size := by omega
  have R2 : Hid (RecAt (w2.alloc (.cells #[.string k, .string v] 26)) w1.heap.size 0 ⟨k, v⟩) := Lib.hid (R1.out.below ((Below.refl w2.heap.size w2).alloc (Nat.le_refl _) _) (by omega))
  obtain ⟨c0, c1⟩ := R2.out.zero
  go_wp2_with fail
  refine (HQ.out _).mono ?_
  rintro e w3 ⟨rfl, hb⟩
  replace B := Lib.hid (btR B.out (one_newR (e1 := ⟨k, v⟩) hb).2.1)
  clear hb
  go_wp2_with fail
  go_ret
  exact ⟨rfl, B.out⟩
end Go.Proofs.YtlbanaakjabfnaaDoor
