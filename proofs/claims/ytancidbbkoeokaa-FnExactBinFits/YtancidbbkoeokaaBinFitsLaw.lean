/- The law laws.FnExactBinFits returns true. -/
import Derived.Test.YtancidbbkoeokaaBinF
namespace Go.Proofs.Ytancidbbkoeokaa
open Go.ChangeShapes Go.WideShapes Go.ChangeAt Go.RowKit

theorem szv_parts {p l us gr b : ByteArray} {left : Int} (h : 0 ≤ szv p l us gr b left) (hl : left ≤ 1048576) : p.size ≤ 4194304 ∧ l.size ≤ 4194304 ∧ us.size ≤ 4194304 ∧ gr.size ≤ 4194304 := by
  unfold szv at h
  split at h
  · omega
  · omega
set_option maxHeartbeats 1600000 in
theorem binFits_law (k : Int) (p l : ByteArray) (m u g t : Int) (us gr b : ByteArray) (w : World) (hv0 : p.size ≤ maxLen) (hv1 : l.size ≤ maxLen) (hv2 : us.size ≤ maxLen) (hv3 : gr.size ≤ maxLen) (hv4 : b.size ≤ maxLen) :
    Calls Try.prog 3 #[.agg #[.int .i64 k, .string p, .string l, .int .i64 m, .int .i64 u, .int .i64 g, .int .i64 t, .string us, .string gr, .string b]] w fun e w' => e = .returned (.bool true) ∧ Below w.heap.size w w' := by
  have H1 := Lib.hid (fun w => szEntry_any k p l m u g t us gr b 1048576 w hv0 hv1 hv2 hv3 hv4 (by omega) (by omega))
  have HZ := Lib.hid (fun h => szv_parts (p := p) (l := l) (us := us) (gr := gr) (b := b) (left := 1048576) h (by omega))
  have T1 := Lib.hid (fun w => toEntry_any k p l m u g t us gr b w)
  have S1 := Lib.hid (fun w h0 h1 h2 h3 h4 => binFits_spec k p l m u g t us gr b w h0 h1 h2 h3 h4)
  have S2 := Lib.hid (fun w h0 h1 h2 h3 => binFits_impl k p l m u g t us gr b w h0 h1 h2 h3)
  have HB : Hid (0 ≤ szv p l us gr b 1048576 → b.size ≤ 4194304) := Lib.hid (fun h => by unfold szv at h; split at h <;> omega)
  generalize szv p l us gr b 1048576 = r1 at H1 HZ HB
  generalize binFits ⟨k, p, l, m, u, g, t, us, gr, b⟩ = d at S1 S2
  clear hv0 hv1 hv2 hv3 hv4
  go_enter Try.func3, Try.ntmps3
  go_wp2_with fail
  refine (H1.out _).mono ?_
  rintro e w1 ⟨rfl, hb1⟩
  obtain ⟨k1, b1, z1⟩ := one_new (e1 := ⟨k, p, l, m, u, g, t, us, gr, b⟩) hb1
  have E := Lib.hid k1
  have B := Lib.hid b1
  clear hb1 b1 k1 H1
  obtain ⟨a0, a1, a2, a3, a4, a5, a6, a7, a8, a9⟩ := E.out.zero
  by_cases q1 : r1 < 0
  · go_wp2_with fail
    go_ret
    exact ⟨rfl, B.out⟩
  · obtain ⟨s0, s1, s2, s3⟩ := HZ.out (by omega)
    have s4 := HB.out (by omega)
    have S1' := Lib.hid (fun w => S1.out w s0 s1 s2 s3 s4)
    have S2' := Lib.hid (fun w => S2.out w s0 s1 s2 s3)
    clear S1 S2 HZ HB s0 s1 s2 s3 s4
    have qd : (d != d) = false := by simp
    go_wp2_with fail
    refine (T1.out _).mono ?_
    rintro e w2 ⟨rfl, hb⟩
    replace E := Lib.hid (E.out.below hb (by omega))
    replace B := Lib.hid (btE B.out hb)
    replace z1 := Nat.le_trans z1 hb.size
    clear hb a0 a1 a2 a3 a4 a5 a6 a7 a8 a9
    go_wp2_with fail
    refine (S1'.out _).mono ?_
    rintro e w3 ⟨rfl, hb⟩
    replace E := Lib.hid (E.out.below hb (by omega))
    replace B := Lib.hid (btE B.out hb)
    replace z1 := Nat.le_trans z1 hb.size
    clear hb
    obtain ⟨a0, a1, a2, a3, a4, a5, a6, a7, a8, a9⟩ := E.out.zero
    go_wp2_with fail
    refine (T1.out _).mono ?_
    rintro e w4 ⟨rfl, hb⟩
    replace B := Lib.hid (btE B.out hb)
    clear hb a0 a1 a2 a3 a4 a5 a6 a7 a8 a9
    go_wp2_with fail
    refine (S2'.out _).mono ?_
    rintro e w5 ⟨rfl, hb⟩
    replace B := Lib.hid (btE B.out hb)
    clear hb
    go_wp2_with fail
    go_ret
    exact ⟨rfl, B.out⟩
theorem fits_all (e : Ent) (w : World) (he : e.wf) :
    Calls Try.prog 3 #[.agg e.cells.toArray] w fun e w' => e = .returned (.bool true) ∧ Below w.heap.size w w' :=
  binFits_law e.kind e.path e.link e.mode e.uid e.gid e.time e.user e.group e.body w he.2.1 he.2.2.1 he.2.2.2.1 he.2.2.2.2.1 he.2.2.2.2.2
end Go.Proofs.Ytancidbbkoeokaa
