/- The law laws.FnExactSameList returns true. -/
import Derived.Test.YtlbkojiengofeaaLawE
import Derived.Test.YtlbkojiengofeaaEqualI
namespace Go.Proofs.Ytlbkojiengofeaa
open Go.ChangeShapes Go.WideShapes Go.ChangeAt Go.RowKit Go.Deep

set_option maxHeartbeats 3200000 in
set_option maxRecDepth 8000 in
theorem sameList_law (a0 : Option Addr) (len0 cap0 : Nat) (es0 : List Ent) (a1 : Option Addr) (len1 cap1 : Nat) (es1 : List Ent) (w : World) (hR0 : IsRowE w a0 len0 cap0 es0) (hR1 : IsRowE w a1 len1 cap1 es1) :
    Calls Try.prog 6 #[.slice a0 len0 cap0, .slice a1 len1 cap1] w fun e w' => e = .returned (.bool true) ∧ Below w.heap.size w w' := by
  have HS0 := Lib.hid (fun left w h h0 h1 => szEntryS_any a0 len0 cap0 es0 left w h h0 h1)
  have HR0 := Lib.hid hR0
  have HT0 := Lib.hid (fun w h hl => toEntryS_own a0 len0 cap0 es0 w h hl)
  have HL0 := Lib.hid hR0.take_len
  have HZ0 := Lib.hid (fun left r hr h0 => sz_facts (left := left) (r := r) hR0 hr h0)
  have HS1 := Lib.hid (fun left w h h0 h1 => szEntryS_any a1 len1 cap1 es1 left w h h0 h1)
  have HR1 := Lib.hid hR1
  have HT1 := Lib.hid (fun w h hl => toEntryS_own a1 len1 cap1 es1 w h hl)
  have HL1 := Lib.hid hR1.take_len
  have HZ1 := Lib.hid (fun left r hr h0 => sz_facts (left := left) (r := r) hR1 hr h0)
  clear hR0 hR1
  have B : Hid (Below w.heap.size w w) := Lib.hid (Below.refl _ _)
  go_enter Try.func6, Try.ntmps6
  go_wp2_with fail
  refine (HS0.out _ _ (HR0.out.below B.out) (by omega) (by omega)).mono ?_
  rintro e v0 ⟨⟨r0, rfl, hr⟩, hb⟩
  replace B := Lib.hid (btE B.out hb)
  have hz0 := HZ0.out _ r0 hr
  clear hb hr HS0 HZ0
  by_cases hr0 : r0 < 0
  · go_wp2_with fail
    go_ret
    exact ⟨rfl, B.out⟩
  replace hz0 := hz0 (by omega)
  go_wp2_with fail
  refine (HS1.out _ _ (HR1.out.below B.out) (by omega) (by omega)).mono ?_
  rintro e v1 ⟨⟨r1, rfl, hr⟩, hb⟩
  replace B := Lib.hid (btE B.out hb)
  have hz1 := HZ1.out _ r1 hr
  clear hb hr HS1 HZ1
  by_cases hr1 : r1 < 0
  · go_wp2_with fail
    go_ret
    exact ⟨rfl, B.out⟩
  replace hz1 := hz1 (by omega)
  have hlen0 : len0 ≤ 1048576 := by omega
  have htot0 : totL (es0.take len0) ≤ 1048576 := by omega
  have hlen1 : len1 ≤ 1048576 := by omega
  have htot1 : totL (es1.take len1) ≤ 1048576 := by omega
  have hll : len0 + len1 ≤ 1048576 := by omega
  have htt : totL (es0.take len0) + totL (es1.take len1) ≤ 1048576 := by omega
  clear hz0 hz1
  have HS := Lib.hid (fun g g2 w hg hg2 h1 h2 => sameList_spec (es0.take len0) (es1.take len1) len0 g len0 len1 g2 len1 w HL0.out.symm HL1.out.symm (by omega) (by omega)  hg hg2  h1 h2)
  have HI := Lib.hid (fun g g2 w hg hg2 h1 h2 => sameList_impl (es0.take len0) (es1.take len1) len0 g len0 len1 g2 len1 w HL0.out.symm HL1.out.symm (by omega) (by omega)  hg hg2  h1 h2)
  have HQ0 := Lib.hid (fun g g2 w hg hg2 h1 h2 => eqEntryS_any (es0.take len0) len0 g g2 len0 len0 w HL0.out.symm (by omega) hg hg2 h1 h2)
  have HQ1 := Lib.hid (fun g g2 w hg hg2 h1 h2 => eqEntryS_any (es1.take len1) len1 g g2 len1 len1 w HL1.out.symm (by omega) hg hg2 h1 h2)
  generalize decide (es0.take len0 = es1.take len1) = d at HS HI
  have hEL0 := HL0.out
  generalize es0.take len0 = L0 at HT0 HS HI HQ0 hEL0
  have hEL1 := HL1.out
  generalize es1.take len1 = L1 at HT1 HS HI HQ1 hEL1
  clear htot0 HL0 htot1 HL1 htt
  go_wp2_with fail
  refine (HT0.out _ (HR0.out.below B.out) hlen0).mono ?_
  rintro e w2 ⟨rfl, ho, hb⟩
  have Ra0 := Lib.hid ho.row.1
  have za0 := ho.row.2.1
  clear ho
  replace B := Lib.hid (btE B.out hb)
  clear hb
  generalize hgena0 : v1.heap.size = ga0 at *
  clear hgena0
  go_wp2_with fail
  refine (HT1.out _ (HR1.out.below B.out) hlen1).mono ?_
  rintro e w3 ⟨rfl, ho, hb⟩
  have Ra1 := Lib.hid ho.row.1
  have za1 := ho.row.2.1
  clear ho
  replace B := Lib.hid (btE B.out hb)
  replace Ra0 := Lib.hid (Ra0.out.below hb za0)
  replace za0 := Nat.lt_of_lt_of_le za0 hb.size
  clear hb
  generalize hgena1 : w2.heap.size = ga1 at *
  clear hgena1
  go_wp2_with fail
  refine (HS.out _ _ _ za0 za1 Ra0.out Ra1.out).mono ?_
  rintro e w4 ⟨rfl, hb⟩
  replace B := Lib.hid (btE B.out hb)
  replace Ra0 := Lib.hid (Ra0.out.below hb za0)
  replace za0 := Nat.lt_of_lt_of_le za0 hb.size
  replace Ra1 := Lib.hid (Ra1.out.below hb za1)
  replace za1 := Nat.lt_of_lt_of_le za1 hb.size
  clear hb
  clear Ra0 za0
  clear Ra1 za1
  go_wp2_with fail
  refine (HT0.out _ (HR0.out.below B.out) hlen0).mono ?_
  rintro e w5 ⟨rfl, ho, hb⟩
  have Rx0 := Lib.hid ho.row.1
  have zx0 := ho.row.2.1
  clear ho
  replace B := Lib.hid (btE B.out hb)
  clear hb
  generalize hgenx0 : w4.heap.size = gx0 at *
  clear hgenx0
  go_wp2_with fail
  refine (HT1.out _ (HR1.out.below B.out) hlen1).mono ?_
  rintro e w6 ⟨rfl, ho, hb⟩
  have Rx1 := Lib.hid ho.row.1
  have zx1 := ho.row.2.1
  clear ho
  replace B := Lib.hid (btE B.out hb)
  replace Rx0 := Lib.hid (Rx0.out.below hb zx0)
  replace zx0 := Nat.lt_of_lt_of_le zx0 hb.size
  clear hb
  generalize hgenx1 : w5.heap.size = gx1 at *
  clear hgenx1
  go_wp2_with fail
  refine (HI.out _ _ _ zx0 zx1 Rx0.out Rx1.out).mono ?_
  rintro e w7 ⟨rfl, hb⟩
  replace B := Lib.hid (btE B.out hb)
  replace Rx0 := Lib.hid (Rx0.out.below hb zx0)
  replace zx0 := Nat.lt_of_lt_of_le zx0 hb.size
  replace Rx1 := Lib.hid (Rx1.out.below hb zx1)
  replace zx1 := Nat.lt_of_lt_of_le zx1 hb.size
  clear hb
  have qd : (d != d) = false := by simp
  go_wp2_with fail
  refine (HT0.out _ (HR0.out.below B.out) hlen0).mono ?_
  rintro e w8 ⟨rfl, ho, hb⟩
  have Rb0 := Lib.hid ho.row.1
  have zb0 := ho.row.2.1
  clear ho
  replace B := Lib.hid (btE B.out hb)
  replace Rx0 := Lib.hid (Rx0.out.below hb zx0)
  replace zx0 := Nat.lt_of_lt_of_le zx0 hb.size
  replace Rx1 := Lib.hid (Rx1.out.below hb zx1)
  replace zx1 := Nat.lt_of_lt_of_le zx1 hb.size
  clear hb
  generalize hgenb0 : w7.heap.size = gb0 at *
  clear hgenb0
  go_wp2_with fail
  refine (HQ0.out gx0 _ _ zx0 zb0 Rx0.out Rb0.out).mono ?_
  rintro e w9 ⟨rfl, hb⟩
  replace B := Lib.hid (btE B.out hb)
  replace Rx0 := Lib.hid (Rx0.out.below hb zx0)
  replace zx0 := Nat.lt_of_lt_of_le zx0 hb.size
  replace Rx1 := Lib.hid (Rx1.out.below hb zx1)
  replace zx1 := Nat.lt_of_lt_of_le zx1 hb.size
  replace Rb0 := Lib.hid (Rb0.out.below hb zb0)
  replace zb0 := Nat.lt_of_lt_of_le zb0 hb.size
  clear hb
  clear Rb0 zb0
  go_wp2_with fail
  refine (HT1.out _ (HR1.out.below B.out) hlen1).mono ?_
  rintro e w10 ⟨rfl, ho, hb⟩
  have Rb1 := Lib.hid ho.row.1
  have zb1 := ho.row.2.1
  clear ho
  replace B := Lib.hid (btE B.out hb)
  replace Rx0 := Lib.hid (Rx0.out.below hb zx0)
  replace zx0 := Nat.lt_of_lt_of_le zx0 hb.size
  replace Rx1 := Lib.hid (Rx1.out.below hb zx1)
  replace zx1 := Nat.lt_of_lt_of_le zx1 hb.size
  clear hb
  generalize hgenb1 : w9.heap.size = gb1 at *
  clear hgenb1
  go_wp2_with fail
  refine (HQ1.out gx1 _ _ zx1 zb1 Rx1.out Rb1.out).mono ?_
  rintro e w11 ⟨rfl, hb⟩
  replace B := Lib.hid (btE B.out hb)
  replace Rx0 := Lib.hid (Rx0.out.below hb zx0)
  replace zx0 := Nat.lt_of_lt_of_le zx0 hb.size
  replace Rx1 := Lib.hid (Rx1.out.below hb zx1)
  replace zx1 := Nat.lt_of_lt_of_le zx1 hb.size
  replace Rb1 := Lib.hid (Rb1.out.below hb zb1)
  replace zb1 := Nat.lt_of_lt_of_le zb1 hb.size
  clear hb
  clear Rb1 zb1
  go_wp2_with fail
  go_ret
  exact ⟨rfl, B.out⟩
end Go.Proofs.Ytlbkojiengofeaa
