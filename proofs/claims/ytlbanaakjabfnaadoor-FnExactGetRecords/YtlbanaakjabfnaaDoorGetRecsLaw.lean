/- The law laws.FnExactGetRecords returns true. -/
import Derived.Test.YtlbanaakjabfnaaDoorGetRecs
import Derived.Test.YtlbanaakjabfnaaDoorRecM
namespace Go.Proofs.YtlbanaakjabfnaaDoor
open Go.ChangeShapes Go.WideShapes Go.ChangeAt Go.RowKit Go.Deep

set_option maxHeartbeats 3200000 in
set_option maxRecDepth 8000 in
theorem getRecords_law (s : ByteArray) (w : World) (ht : Lib.TabIs Tryd.prog w "internal/strconv.uint64pow10" .u64 Lib.pow10Tab) :
    Calls Tryd.prog 6 #[.string s] w fun e w' => e = .returned (.bool true) ∧ Below w.heap.size w w' := by
  by_cases hs : (1048576 : Int) < (s.size : Int)
  · go_enter Tryd.func6, Tryd.ntmps6
    go_wp2_with fail
    go_ret
    exact ⟨rfl, Below.refl _ _⟩
  have S1 := Lib.hid (fun w => getRecords_spec s w (by omega))
  have S2 := Lib.hid (fun w h => getRecords_impl s w (by omega) h)
  have HT := Lib.hid ht
  have hl := (recsv_ok s).1
  clear ht
  generalize (recsv s).isSome = ok at *
  generalize (recsv s).getD [] = L at *
  have HQ := Lib.hid (fun g g2 ca cb w hg hg2 h1 h2 => eqRecS_any L L.length g g2 ca cb w rfl (by omega) hg hg2 h1 h2)
  have HM := Lib.hid (fun g cap base xs w h => markRecS_any L.length g cap 1 base xs w (by omega) (by omega) h)
  have HH := Lib.hid (fun g cap w hg h => heldRecS_any L.length g cap 1 w (by omega) (by omega) hg h)
  have q1 : (ok != ok) = false := by simp
  have B : Hid (Below w.heap.size w w) := Lib.hid (Below.refl _ _)
  go_enter Tryd.func6, Tryd.ntmps6
  go_wp2_with fail
  refine (S1.out _).mono ?_
  rintro e w1 ⟨⟨v, rfl, ho⟩, hb⟩
  obtain ⟨gw, cw, rfl, hr, zw, _, _⟩ := ho.open
  have Rw := Lib.hid hr
  replace B := Lib.hid (btR B.out hb)
  have z1 := B.out.size
  clear ho hr hb
  go_wp2_with fail
  refine (S2.out _ (Lib.tabBelow_of_tabIs HT.out _ B.out)).mono ?_
  rintro e w2 ⟨⟨v, rfl, ho⟩, hb⟩
  obtain ⟨gg, cg, rfl, hr, zg, hgb, how⟩ := ho.open
  have Rg := Lib.hid hr
  have Og := Lib.hid how
  replace B := Lib.hid (btR B.out hb)
  replace Rw := Lib.hid (Rw.out.below hb zw)
  have hne : gw ≠ gg := by omega
  replace zw := Nat.lt_of_lt_of_le zw hb.size
  have zB := B.out.size
  have hwg : w.heap.size ≤ gg := by omega
  clear ho hr hb how
  go_wp2_with fail
  refine (HQ.out gg gw cg cw _ zg zw Rg.out Rw.out).mono ?_
  rintro e w3 ⟨rfl, hb⟩
  replace B := Lib.hid (btR B.out hb)
  replace Rw := Lib.hid (Rw.out.below hb zw)
  replace zw := Nat.lt_of_lt_of_le zw hb.size
  replace Og := Lib.hid (own_belowR Og.out hb)
  replace zg := Nat.lt_of_lt_of_le zg hb.size
  clear hb Rg
  go_wp2_with fail
  refine (HM.out gg cg _ _ _ Og.out).mono ?_
  rintro e w4 ⟨rfl, _, hrm, hg⟩
  replace B : Hid (Below w.heap.size w w4) := Lib.hid (B.out.grown hg B.out.size (fun k hk => by cases hk; omega))
  replace Rw := Lib.hid (Rw.out.grown hg (fun e => hne (Option.some.inj e)))
  replace zw := Nat.lt_of_lt_of_le zw hg.size
  replace zg := Nat.lt_of_lt_of_le zg hg.size
  have Rg := Lib.hid hrm
  clear hrm hg Og
  go_wp2_with fail
  refine (HH.out gg cg _ zg Rg.out).mono ?_
  rintro e w5 ⟨rfl, hb⟩
  replace B := Lib.hid (btR B.out hb)
  replace Rw := Lib.hid (Rw.out.below hb zw)
  replace zw := Nat.lt_of_lt_of_le zw hb.size
  replace Rg := Lib.hid (Rg.out.below hb zg)
  replace zg := Nat.lt_of_lt_of_le zg hb.size
  clear hb
  go_wp2_with fail
  refine (S2.out _ (Lib.tabBelow_of_tabIs HT.out _ B.out)).mono ?_
  rintro e w6 ⟨⟨v, rfl, ho⟩, hb⟩
  obtain ⟨gh, ch, rfl, hr, zh, _, _⟩ := ho.open
  have Rh := Lib.hid hr
  replace B := Lib.hid (btR B.out hb)
  replace Rw := Lib.hid (Rw.out.below hb zw)
  replace zw := Nat.lt_of_lt_of_le zw hb.size
  replace Rg := Lib.hid (Rg.out.below hb zg)
  replace zg := Nat.lt_of_lt_of_le zg hb.size
  clear ho hr hb
  go_wp2_with fail
  refine (HQ.out gh gw ch cw _ zh zw Rh.out Rw.out).mono ?_
  rintro e w7 ⟨rfl, hb⟩
  replace B := Lib.hid (btR B.out hb)
  replace Rg := Lib.hid (Rg.out.below hb zg)
  replace zg := Nat.lt_of_lt_of_le zg hb.size
  clear hb
  go_wp2_with fail
  refine (HH.out gg cg _ zg Rg.out).mono ?_
  rintro e w8 ⟨rfl, hb⟩
  replace B := Lib.hid (btR B.out hb)
  clear hb
  go_wp2_with fail
  go_ret
  exact ⟨rfl, B.out⟩
end Go.Proofs.YtlbanaakjabfnaaDoor
