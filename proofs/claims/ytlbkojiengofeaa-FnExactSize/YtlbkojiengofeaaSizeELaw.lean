/- The law laws.FnExactSize returns true. -/
import Derived.Test.YtlbkojiengofeaaLawE
import Derived.Test.YtlbkojiengofeaaSizeI
namespace Go.Proofs.Ytlbkojiengofeaa
open Go.ChangeShapes Go.WideShapes Go.ChangeAt Go.RowKit Go.Deep

set_option maxHeartbeats 1600000 in
theorem size_law (a : Option Addr) (len cap : Nat) (es : List Ent) (w : World) (hR : IsRowE w a len cap es) :
    Calls Try.prog 8 #[.slice a len cap] w fun e w' => e = .returned (.bool true) ∧ Below w.heap.size w w' := by
  have HS := Lib.hid (szEntryS_any a len cap es 1048576 w hR (by omega) (by omega))
  have HR := Lib.hid hR
  have HT := Lib.hid (fun w h hl => toEntryS_own a len cap es w h hl)
  have HL := Lib.hid hR.take_len
  have HZ := Lib.hid (fun r hr h0 => sz_facts (left := 1048576) (r := r) hR hr h0)
  clear hR
  go_enter Try.func8, Try.ntmps8
  go_wp2_with fail
  refine HS.out.mono ?_
  rintro e w1 ⟨⟨r, rfl, hr⟩, hb⟩
  have B := Lib.hid hb
  have hz0 := HZ.out r hr
  clear hb hr HS HZ
  by_cases hr0 : r < 0
  · go_wp2_with fail
    go_ret
    exact ⟨rfl, B.out⟩
  · have hz := hz0 (by omega)
    have hlen : len ≤ 1048576 := by omega
    have htot : totL (es.take len) ≤ 1048576 := by omega
    clear hz hz0
    have HS := Lib.hid (fun g w hg h => size_spec (es.take len) len g len w HL.out.symm (by omega) hg (by omega) h)
    have HI := Lib.hid (fun g w hg h => size_impl (es.take len) len g len w HL.out.symm (by omega) hg (by omega) h)
    have HQ := Lib.hid (fun g g2 w hg hg2 h1 h2 => eqEntryS_any (es.take len) len g g2 len len w HL.out.symm (by omega) hg hg2 h1 h2)
    generalize sizev (es.take len) = d at HS HI
    generalize es.take len = L at HT HS HI HQ
    clear htot HL
    go_wp2_with fail
    refine (HT.out _ (HR.out.below B.out) hlen).mono ?_
    rintro e w2 ⟨rfl, ho, hb⟩
    have Ra := Lib.hid ho.row.1
    have za := ho.row.2.1
    clear ho
    replace B := Lib.hid (btE B.out hb)
    clear hb
    go_wp2_with fail
    refine (HS.out _ _ za Ra.out).mono ?_
    rintro e w3 ⟨rfl, hb⟩
    replace B := Lib.hid (btE B.out hb)
    replace Ra := Lib.hid (Ra.out.below hb za)
    replace za := Nat.lt_of_lt_of_le za hb.size
    clear hb
    clear Ra za
    go_wp2_with fail
    refine (HT.out _ (HR.out.below B.out) hlen).mono ?_
    rintro e w4 ⟨rfl, ho, hb⟩
    have Rx := Lib.hid ho.row.1
    have zx := ho.row.2.1
    clear ho
    replace B := Lib.hid (btE B.out hb)
    clear hb
    go_wp2_with fail
    refine (HI.out _ _ zx Rx.out).mono ?_
    rintro e w5 ⟨rfl, hb⟩
    replace B := Lib.hid (btE B.out hb)
    replace Rx := Lib.hid (Rx.out.below hb zx)
    replace zx := Nat.lt_of_lt_of_le zx hb.size
    clear hb
    go_wp2_with fail
    refine (HT.out _ (HR.out.below B.out) hlen).mono ?_
    rintro e w6 ⟨rfl, ho, hb⟩
    have Rb := Lib.hid ho.row.1
    have zb := ho.row.2.1
    clear ho
    replace B := Lib.hid (btE B.out hb)
    replace Rx := Lib.hid (Rx.out.below hb zx)
    replace zx := Nat.lt_of_lt_of_le zx hb.size
    clear hb
    go_wp2_with fail
    refine (HQ.out _ _ _ zx zb Rx.out Rb.out).mono ?_
    rintro e w7 ⟨rfl, hb⟩
    replace B := Lib.hid (btE B.out hb)
    replace Rx := Lib.hid (Rx.out.below hb zx)
    replace zx := Nat.lt_of_lt_of_le zx hb.size
    replace Rb := Lib.hid (Rb.out.below hb zb)
    replace zb := Nat.lt_of_lt_of_le zb hb.size
    clear hb
    go_wp2_with fail
    go_ret
    exact ⟨rfl, B.out⟩
end Go.Proofs.Ytlbkojiengofeaa
