/- The law laws.FnExactWithNeed returns true. -/
import Derived.Test.YtlbkojiengofeabLawE
import Derived.Test.YtlbkojiengofeabHeldE
import Derived.Test.YtlbkojiengofeabOwnO
import Derived.Test.YtlbkojiengofeabMergeE
import Derived.Test.YtlbkojiengofeabWithS
import Derived.Test.YtlbkojiengofeabWithI
namespace Go.Proofs.Ytlbkojiengofeab
open Go.ChangeShapes Go.WideShapes Go.ChangeAt Go.RowKit Go.Deep

set_option maxHeartbeats 3200000 in
set_option maxRecDepth 8000 in
theorem with_law (a0 : Option Addr) (len0 cap0 : Nat) (es0 : List Ent) (q : Int) (w : World) (hR0 : IsRowE w a0 len0 cap0 es0) :
    Calls Try.prog 5 #[.slice a0 len0 cap0, .int .i64 q] w fun e w' => e = .returned (.bool true) ∧ Below w.heap.size w w' := by
  have HS0 := Lib.hid (fun left w h h0 h1 => szEntryS_any a0 len0 cap0 es0 left w h h0 h1)
  have HR0 := Lib.hid hR0
  have HT0 := Lib.hid (fun w h hl => toEntryS_own a0 len0 cap0 es0 w h hl)
  have HL0 := Lib.hid hR0.take_len
  have HZ0 := Lib.hid (fun left r hr h0 => sz_facts (left := left) (r := r) hR0 hr h0)
  clear hR0
  have B : Hid (Below w.heap.size w w) := Lib.hid (Below.refl _ _)
  go_enter Try.func5, Try.ntmps5
  go_wp2_with fail
  refine (HS0.out _ _ (HR0.out.below B.out) (by omega) (by omega)).mono ?_
  rintro e v0 ⟨⟨r0, rfl, hr⟩, hb⟩
  replace B := Lib.hid (btE B.out hb)
  have hz0 := HZ0.out _ r0 hr
  clear hb hr HS0 HZ0
  by_cases hr0 : r0 < 0
  · go_wp2_with fail
    go_ret
    exact ⟨rfl, B.out⟩
  replace hz0 := hz0 (by omega)
  have hlen0 : len0 ≤ 1048576 := by omega
  have htot0 : totL (es0.take len0) ≤ 1048576 := by omega
  clear hz0
  have HS := Lib.hid (fun g w hg h1 => with_spec (es0.take len0) q len0 g len0 w HL0.out.symm (by omega)  hg (small_of_tot htot0 (by omega)) (by omega) h1)
  have HI := Lib.hid (fun g w hg h1 => with_impl (es0.take len0) q len0 g len0 w HL0.out.symm (by omega)  hg (small_of_tot htot0 (by omega)) (by omega) h1)
  have HQ0 := Lib.hid (fun g g2 w hg hg2 h1 h2 => eqEntryS_any (es0.take len0) len0 g g2 len0 len0 w HL0.out.symm (by omega) hg hg2 h1 h2)
  have hD : (withv (es0.take len0) q).length ≤ 2097152 := (by have := withv_len (es0.take len0) q; have := HL0.out; omega)
  generalize withv (es0.take len0) q = D at HS HI hD
  have hEL0 := HL0.out
  generalize es0.take len0 = L0 at HT0 HS HI HQ0 hEL0
  clear htot0 HL0
  have HE := Lib.hid (fun g g2 ca cb w hg hg2 h1 h2 => eqEntryS_any D D.length g g2 ca cb w rfl (by omega) hg hg2 h1 h2)
  have HM := Lib.hid (fun g ca base w h => markEntryS_any D.length g ca 1 base (entVals D) w (by omega) (by omega) h)
  have HH := Lib.hid (fun g ca w hg h => heldEntryS_any D.length g ca 1 w (by omega) (by omega) hg h)
  have qm : ¬ ((1 + D.length * 10 : Nat) : Int) < 0 := by omega
  have HX0 := Lib.hid (fun g ca base xs w h => markEntryS_any len0 g ca (1) base xs w (by omega) (by omega) h)
  have qk : ¬ ((1 + len0 * 10 : Nat) : Int) < 0 := by omega
  have qk2 : decide (((1 + len0 * 10 : Nat) : Int) < 0) = false := decide_eq_false qk
  go_wp2_with fail
  refine (HT0.out _ (HR0.out.below B.out) hlen0).mono ?_
  rintro e w2 ⟨rfl, ho, hb⟩
  have Ra0 := Lib.hid ho.row.1
  have za0 := ho.row.2.1
  clear ho
  replace B := Lib.hid (btE B.out hb)
  clear hb
  generalize hgena0 : v0.heap.size = ga0 at *
  clear hgena0
  go_wp2_with fail
  refine (HS.out _ _ za0 Ra0.out).mono ?_
  rintro e w3 ⟨v, rfl, ho, hb⟩
  obtain ⟨gw, cw, rfl, hr, zw, hbase, _, hown⟩ := ho.open
  have Rw := Lib.hid hr
  clear ho hr hown hbase
  clear Ra0 za0
  replace B := Lib.hid (btE B.out hb)
  clear hb
  go_wp2_with fail
  refine (HT0.out _ (HR0.out.below B.out) hlen0).mono ?_
  rintro e w4 ⟨rfl, ho, hb⟩
  have Ox0 := Lib.hid ho
  have nwx0 : gw < w3.heap.size := zw
  have wgx0 : w.heap.size ≤ w3.heap.size := B.out.size
  have Rx0 := Lib.hid ho.row.1
  have zx0 := ho.row.2.1
  clear ho
  replace B := Lib.hid (btE B.out hb)
  replace Rw := Lib.hid (Rw.out.below hb zw)
  replace zw := Nat.lt_of_lt_of_le zw hb.size
  clear hb
  generalize hgenx0 : w3.heap.size = gx0 at *
  clear hgenx0
  go_wp2_with fail
  refine (HI.out _ _ zx0 Rx0.out).mono ?_
  rintro e w5 ⟨v2, rfl, ho, hb⟩
  obtain ⟨gg, cg, rfl, hr, zg, hbase, _, hown⟩ := ho.open
  have Rg := Lib.hid hr
  have nx0g : gx0 < gg := Nat.lt_of_lt_of_le zx0 hbase
  have Og := Lib.hid hown
  clear ho hr hown hbase
  replace B := Lib.hid (btE B.out hb)
  replace Ox0 := Lib.hid (Ox0.out.keep hb)
  replace Rw := Lib.hid (Rw.out.below hb zw)
  replace zw := Nat.lt_of_lt_of_le zw hb.size
  replace Rx0 := Lib.hid (Rx0.out.below hb zx0)
  replace zx0 := Nat.lt_of_lt_of_le zx0 hb.size
  clear hb
  go_wp2_with fail
  refine (HE.out gg gw cg cw _ zg zw Rg.out Rw.out).mono ?_
  rintro e w6 ⟨rfl, hb⟩
  replace B := Lib.hid (btE B.out hb)
  replace Ox0 := Lib.hid (Ox0.out.keep hb)
  replace Og := Lib.hid (own_below Og.out hb)
  replace Rw := Lib.hid (Rw.out.below hb zw)
  replace zw := Nat.lt_of_lt_of_le zw hb.size
  replace Rx0 := Lib.hid (Rx0.out.below hb zx0)
  replace zx0 := Nat.lt_of_lt_of_le zx0 hb.size
  replace Rg := Lib.hid (Rg.out.below hb zg)
  replace zg := Nat.lt_of_lt_of_le zg hb.size
  clear hb
  go_wp2_with fail
  refine (HT0.out _ (HR0.out.below B.out) hlen0).mono ?_
  rintro e w7 ⟨rfl, ho, hb⟩
  have Rb0 := Lib.hid ho.row.1
  have zb0 := ho.row.2.1
  clear ho
  replace B := Lib.hid (btE B.out hb)
  replace Ox0 := Lib.hid (Ox0.out.keep hb)
  replace Og := Lib.hid (own_below Og.out hb)
  replace Rw := Lib.hid (Rw.out.below hb zw)
  replace zw := Nat.lt_of_lt_of_le zw hb.size
  replace Rx0 := Lib.hid (Rx0.out.below hb zx0)
  replace zx0 := Nat.lt_of_lt_of_le zx0 hb.size
  replace Rg := Lib.hid (Rg.out.below hb zg)
  replace zg := Nat.lt_of_lt_of_le zg hb.size
  clear hb
  generalize hgenb0 : w6.heap.size = gb0 at *
  clear hgenb0
  go_wp2_with fail
  refine (HQ0.out gx0 _ _ zx0 zb0 Rx0.out Rb0.out).mono ?_
  rintro e w8 ⟨rfl, hb⟩
  replace B := Lib.hid (btE B.out hb)
  replace Ox0 := Lib.hid (Ox0.out.keep hb)
  replace Og := Lib.hid (own_below Og.out hb)
  replace Rw := Lib.hid (Rw.out.below hb zw)
  replace zw := Nat.lt_of_lt_of_le zw hb.size
  replace Rx0 := Lib.hid (Rx0.out.below hb zx0)
  replace zx0 := Nat.lt_of_lt_of_le zx0 hb.size
  replace Rg := Lib.hid (Rg.out.below hb zg)
  replace zg := Nat.lt_of_lt_of_le zg hb.size
  replace Rb0 := Lib.hid (Rb0.out.below hb zb0)
  replace zb0 := Nat.lt_of_lt_of_le zb0 hb.size
  clear hb
  clear Rb0 zb0
  have hox := Ox0.out.1
  rw [hEL0] at hox
  have hxb := (World.ownsRow.lt hox gx0 rfl).1
  go_wp2_with fail
  refine (HX0.out gx0 len0 _ _ _ hox).mono ?_
  rintro e w9 ⟨rfl, _, _, hg⟩
  clear Ox0 Rx0 zx0 hox
  replace B : Hid (Below w.heap.size w w9) := Lib.hid (B.out.grown hg B.out.size (fun k hk => by cases hk; omega))
  replace Rw := Lib.hid (Rw.out.grown hg (someNe (by omega)))
  replace zw := Nat.lt_of_lt_of_le zw hg.size
  replace Rg := Lib.hid (Rg.out.grown hg (someNe (by omega)))
  replace zg := Nat.lt_of_lt_of_le zg hg.size
  replace Og := Lib.hid (World.ownsRow.kept Og.out hg (.inr (by simpa [Value.ownBlock] using (show gg ≠ gx0 by omega))))
  clear hg hxb
  go_wp2_with fail
  refine (HE.out gg gw cg cw _ zg zw Rg.out Rw.out).mono ?_
  rintro e w10 ⟨rfl, hb⟩
  replace B := Lib.hid (btE B.out hb)
  replace Og := Lib.hid (own_below Og.out hb)
  replace Rw := Lib.hid (Rw.out.below hb zw)
  replace zw := Nat.lt_of_lt_of_le zw hb.size
  replace Rg := Lib.hid (Rg.out.below hb zg)
  replace zg := Nat.lt_of_lt_of_le zg hb.size
  clear hb
  go_wp2_with fail
  refine (HM.out gg cg _ _ Og.out).mono ?_
  rintro e w11 ⟨rfl, _, hrm, hg⟩
  replace B : Hid (Below w.heap.size w w11) := Lib.hid (B.out.grown hg B.out.size (fun k hk => by cases hk; omega))
  replace Rw := Lib.hid (Rw.out.grown hg (someNe (by omega)))
  replace zw := Nat.lt_of_lt_of_le zw hg.size
  clear Rg Og
  have Rg := Lib.hid hrm
  replace zg := Nat.lt_of_lt_of_le zg hg.size
  clear hg hrm
  go_wp2_with fail
  refine (HH.out gg cg _ zg Rg.out).mono ?_
  rintro e w12 ⟨rfl, hb⟩
  replace B := Lib.hid (btE B.out hb)
  replace Rw := Lib.hid (Rw.out.below hb zw)
  replace zw := Nat.lt_of_lt_of_le zw hb.size
  replace Rg := Lib.hid (Rg.out.below hb zg)
  replace zg := Nat.lt_of_lt_of_le zg hb.size
  clear hb
  go_wp2_with fail
  refine (HT0.out _ (HR0.out.below B.out) hlen0).mono ?_
  rintro e w13 ⟨rfl, ho, hb⟩
  have Rc0 := Lib.hid ho.row.1
  have zc0 := ho.row.2.1
  clear ho
  replace B := Lib.hid (btE B.out hb)
  replace Rw := Lib.hid (Rw.out.below hb zw)
  replace zw := Nat.lt_of_lt_of_le zw hb.size
  replace Rg := Lib.hid (Rg.out.below hb zg)
  replace zg := Nat.lt_of_lt_of_le zg hb.size
  clear hb
  generalize hgenc0 : w12.heap.size = gc0 at *
  clear hgenc0
  go_wp2_with fail
  refine (HI.out _ _ zc0 Rc0.out).mono ?_
  rintro e w14 ⟨v3, rfl, ho, hb⟩
  clear Rc0 zc0
  obtain ⟨gh, ch, rfl, hr, zh, hbase, _, hown⟩ := ho.open
  have Rh := Lib.hid hr
  clear ho hr hown hbase
  replace B := Lib.hid (btE B.out hb)
  replace Rw := Lib.hid (Rw.out.below hb zw)
  replace zw := Nat.lt_of_lt_of_le zw hb.size
  replace Rg := Lib.hid (Rg.out.below hb zg)
  replace zg := Nat.lt_of_lt_of_le zg hb.size
  clear hb
  go_wp2_with fail
  refine (HE.out gh gw ch cw _ zh zw Rh.out Rw.out).mono ?_
  rintro e w15 ⟨rfl, hb⟩
  replace B := Lib.hid (btE B.out hb)
  replace Rw := Lib.hid (Rw.out.below hb zw)
  replace zw := Nat.lt_of_lt_of_le zw hb.size
  replace Rg := Lib.hid (Rg.out.below hb zg)
  replace zg := Nat.lt_of_lt_of_le zg hb.size
  replace Rh := Lib.hid (Rh.out.below hb zh)
  replace zh := Nat.lt_of_lt_of_le zh hb.size
  clear hb
  go_wp2_with fail
  refine (HH.out gg cg _ zg Rg.out).mono ?_
  rintro e w16 ⟨rfl, hb⟩
  replace B := Lib.hid (btE B.out hb)
  replace Rw := Lib.hid (Rw.out.below hb zw)
  replace zw := Nat.lt_of_lt_of_le zw hb.size
  replace Rg := Lib.hid (Rg.out.below hb zg)
  replace zg := Nat.lt_of_lt_of_le zg hb.size
  replace Rh := Lib.hid (Rh.out.below hb zh)
  replace zh := Nat.lt_of_lt_of_le zh hb.size
  clear hb
  go_wp2_with fail
  go_ret
  exact ⟨rfl, B.out⟩
end Go.Proofs.Ytlbkojiengofeab
