/- The law laws.FnExactSameEntry returns true. -/
import Derived.Test.YtlbkojiengofeaaSameE
import Derived.Test.YtlbkojiengofeaaEntAt
import Derived.Deep.RegionWith
import Derived.Deep.RegionHeld3
namespace Go.Proofs.Ytlbkojiengofeaa
open Go.ChangeShapes Go.WideShapes Go.ChangeAt Go.RowKit

theorem szv_le (p l us gr b : ByteArray) {left : Int} (h : left ≤ 1048576) : szv p l us gr b left ≤ 1048576 ∧ -1 ≤ szv p l us gr b left := by
  unfold szv
  split
  · omega
  · omega
theorem belowD {B : Nat} {w w' : World} (h : Below B w w') : Below B w w'.drew := ⟨h.os, h.tape, h.output, h.size, h.block⟩
theorem EntAt.drew {w : World} {b o : Nat} {e : Ent} (h : EntAt w b o e) : EntAt w.drew b o e := h
theorem sizeD {n : Nat} {w : World} (h : n ≤ w.heap.size) : n ≤ w.drew.heap.size := h
set_option maxHeartbeats 1600000 in
theorem sameEntry_law (k : Int) (p l : ByteArray) (m u g t : Int) (us gr b : ByteArray) (k' : Int) (p' l' : ByteArray) (m' u' g' t' : Int) (us' gr' b' : ByteArray) (w : World) (hv0 : p.size ≤ maxLen) (hv1 : l.size ≤ maxLen) (hv2 : us.size ≤ maxLen) (hv3 : gr.size ≤ maxLen) (hv4 : b.size ≤ maxLen) (hw0 : p'.size ≤ maxLen) (hw1 : l'.size ≤ maxLen) (hw2 : us'.size ≤ maxLen) (hw3 : gr'.size ≤ maxLen) (hw4 : b'.size ≤ maxLen) :
    Calls Try.prog 5 #[.agg #[.int .i64 k, .string p, .string l, .int .i64 m, .int .i64 u, .int .i64 g, .int .i64 t, .string us, .string gr, .string b], .agg #[.int .i64 k', .string p', .string l', .int .i64 m', .int .i64 u', .int .i64 g', .int .i64 t', .string us', .string gr', .string b']] w fun e w' => e = .returned (.bool true) ∧ Below w.heap.size w w' := by
  have H1 := Lib.hid (fun w => szEntry_any k p l m u g t us gr b 1048576 w hv0 hv1 hv2 hv3 hv4 (by omega) (by omega))
  have hz := szv_le p l us gr b (left := 1048576) (by omega)
  have H2 := Lib.hid (fun left w h0 h1 => szEntry_any k' p' l' m' u' g' t' us' gr' b' left w hw0 hw1 hw2 hw3 hw4 h0 h1)
  have T1 := Lib.hid (fun w => toEntry_any k p l m u g t us gr b w)
  have T2 := Lib.hid (fun w => toEntry_any k' p' l' m' u' g' t' us' gr' b' w)
  have S1 := Lib.hid (fun w => sameEntry_spec k p l m u g t us gr b k' p' l' m' u' g' t' us' gr' b' w)
  have S2 := Lib.hid (fun w => sameEntry_impl k p l m u g t us gr b k' p' l' m' u' g' t' us' gr' b' w)
  generalize szv p l us gr b 1048576 = r1 at H1 hz
  generalize decide ((⟨k, p, l, m, u, g, t, us, gr, b⟩ : Ent) = (⟨k', p', l', m', u', g', t', us', gr', b'⟩ : Ent)) = d at S1 S2
  clear hv0 hv1 hv2 hv3 hv4 hw0 hw1 hw2 hw3 hw4
  go_enter Try.func5, Try.ntmps5
  go_wp2_with fail
  refine (H1.out _).mono ?_
  rintro e w1 ⟨rfl, hb1⟩
  obtain ⟨k1, k2, b1, z1⟩ := two_new (e1 := ⟨k, p, l, m, u, g, t, us, gr, b⟩) (e2 := ⟨k', p', l', m', u', g', t', us', gr', b'⟩) hb1
  have E1 := Lib.hid k1
  have F1 := Lib.hid k2
  have B1 := Lib.hid b1
  clear hb1 b1 k1 k2
  obtain ⟨a1_0, a1_1, a1_2, a1_3, a1_4, a1_5, a1_6, a1_7, a1_8, a1_9⟩ := E1.out.zero
  obtain ⟨b1_0, b1_1, b1_2, b1_3, b1_4, b1_5, b1_6, b1_7, b1_8, b1_9⟩ := F1.out.zero
  by_cases q1 : r1 < 0
  · go_wp2_with fail
    go_ret
    exact ⟨rfl, B1.out⟩
  · have H2' := Lib.hid (fun w => H2.out r1 w (by omega) hz.1)
    generalize szv p' l' us' gr' b' r1 = r2 at H2'
    go_wp2_with fail
    refine (H2'.out _).mono ?_
    rintro e w2 ⟨rfl, hb2⟩
    have B2 := Lib.hid (btE B1.out hb2)
    have E2 := Lib.hid (E1.out.below hb2 (by omega))
    have F2 := Lib.hid (F1.out.below hb2 (by omega))
    have z2 := Nat.le_trans z1 hb2.size
    clear a1_0 a1_1 a1_2 a1_3 a1_4 a1_5 a1_6 a1_7 a1_8 a1_9 b1_0 b1_1 b1_2 b1_3 b1_4 b1_5 b1_6 b1_7 b1_8 b1_9
    clear hb2 B1 E1 F1 z1
    obtain ⟨a2_0, a2_1, a2_2, a2_3, a2_4, a2_5, a2_6, a2_7, a2_8, a2_9⟩ := E2.out.zero
    obtain ⟨b2_0, b2_1, b2_2, b2_3, b2_4, b2_5, b2_6, b2_7, b2_8, b2_9⟩ := F2.out.zero
    by_cases q2 : r2 < 0
    · go_wp2_with fail
      go_ret
      exact ⟨rfl, B2.out⟩
    · go_wp2_with fail
      have B : Hid (Below w.heap.size w w2.drew) := Lib.hid ⟨B2.out.os, B2.out.tape, B2.out.output, B2.out.size, B2.out.block⟩
      have E : Hid (EntAt w2.drew w.heap.size 0 ⟨k, p, l, m, u, g, t, us, gr, b⟩) := Lib.hid E2.out
      have F : Hid (EntAt w2.drew (w.heap.size + 1) 0 ⟨k', p', l', m', u', g', t', us', gr', b'⟩) := Lib.hid F2.out
      have z : w.heap.size + 2 ≤ w2.drew.heap.size := z2
      clear B2 E2 F2 z2 H1 H2 H2' hz
      go_region_held3 (fun w' => w'.cell? ⟨w.heap.size, 0, none⟩ = some (.int .i64 k) ∧ w'.cell? ⟨w.heap.size, 1, none⟩ = some (.string p) ∧ w'.cell? ⟨w.heap.size, 2, none⟩ = some (.string l) ∧ w'.cell? ⟨w.heap.size, 3, none⟩ = some (.int .i64 m) ∧ w'.cell? ⟨w.heap.size, 4, none⟩ = some (.int .i64 u) ∧ w'.cell? ⟨w.heap.size, 5, none⟩ = some (.int .i64 g) ∧ w'.cell? ⟨w.heap.size, 6, none⟩ = some (.int .i64 t) ∧ w'.cell? ⟨w.heap.size, 7, none⟩ = some (.string us) ∧ w'.cell? ⟨w.heap.size, 8, none⟩ = some (.string gr) ∧ w'.cell? ⟨w.heap.size, 9, none⟩ = some (.string b) ∧ w'.cell? ⟨w.heap.size + 1, 0, none⟩ = some (.int .i64 k') ∧ w'.cell? ⟨w.heap.size + 1, 1, none⟩ = some (.string p') ∧ w'.cell? ⟨w.heap.size + 1, 2, none⟩ = some (.string l') ∧ w'.cell? ⟨w.heap.size + 1, 3, none⟩ = some (.int .i64 m') ∧ w'.cell? ⟨w.heap.size + 1, 4, none⟩ = some (.int .i64 u') ∧ w'.cell? ⟨w.heap.size + 1, 5, none⟩ = some (.int .i64 g') ∧ w'.cell? ⟨w.heap.size + 1, 6, none⟩ = some (.int .i64 t') ∧ w'.cell? ⟨w.heap.size + 1, 7, none⟩ = some (.string us') ∧ w'.cell? ⟨w.heap.size + 1, 8, none⟩ = some (.string gr') ∧ w'.cell? ⟨w.heap.size + 1, 9, none⟩ = some (.string b')) (exact ⟨by assumption, by assumption, by assumption, by assumption, by assumption, by assumption, by assumption, by assumption, by assumption, by assumption, by assumption, by assumption, by assumption, by assumption, by assumption, by assumption, by assumption, by assumption, by assumption, by assumption⟩) (first | (go_at_call 14; refine (toEntry_any _ _ _ _ _ _ _ _ _ _ _).mono ?_; rintro e wn ⟨rfl, hb⟩; replace B := Lib.hid (btE B.out hb); replace E := Lib.hid (E.out.below hb (by omega)); replace F := Lib.hid (F.out.below hb (by omega)); replace z := Nat.le_trans z hb.size; clear hb; obtain ⟨a_0, a_1, a_2, a_3, a_4, a_5, a_6, a_7, a_8, a_9⟩ := E.out.zero; obtain ⟨b_0, b_1, b_2, b_3, b_4, b_5, b_6, b_7, b_8, b_9⟩ := F.out.zero) | (go_at_call 21; refine (S1.out _).mono ?_; rintro e wn ⟨rfl, hb⟩; replace B := Lib.hid (btE B.out hb); replace E := Lib.hid (E.out.below hb (by omega)); replace F := Lib.hid (F.out.below hb (by omega)); replace z := Nat.le_trans z hb.size; clear hb; obtain ⟨a_0, a_1, a_2, a_3, a_4, a_5, a_6, a_7, a_8, a_9⟩ := E.out.zero; obtain ⟨b_0, b_1, b_2, b_3, b_4, b_5, b_6, b_7, b_8, b_9⟩ := F.out.zero))
      clear S1
      go_wp2_with fail
      replace B : Hid (Below w.heap.size w _) := Lib.hid (belowD B.out)
      replace E := Lib.hid (EntAt.drew E.out)
      replace F := Lib.hid (EntAt.drew F.out)
      replace z := sizeD z
      go_region_held3 (fun w' => w'.cell? ⟨w.heap.size, 0, none⟩ = some (.int .i64 k) ∧ w'.cell? ⟨w.heap.size, 1, none⟩ = some (.string p) ∧ w'.cell? ⟨w.heap.size, 2, none⟩ = some (.string l) ∧ w'.cell? ⟨w.heap.size, 3, none⟩ = some (.int .i64 m) ∧ w'.cell? ⟨w.heap.size, 4, none⟩ = some (.int .i64 u) ∧ w'.cell? ⟨w.heap.size, 5, none⟩ = some (.int .i64 g) ∧ w'.cell? ⟨w.heap.size, 6, none⟩ = some (.int .i64 t) ∧ w'.cell? ⟨w.heap.size, 7, none⟩ = some (.string us) ∧ w'.cell? ⟨w.heap.size, 8, none⟩ = some (.string gr) ∧ w'.cell? ⟨w.heap.size, 9, none⟩ = some (.string b) ∧ w'.cell? ⟨w.heap.size + 1, 0, none⟩ = some (.int .i64 k') ∧ w'.cell? ⟨w.heap.size + 1, 1, none⟩ = some (.string p') ∧ w'.cell? ⟨w.heap.size + 1, 2, none⟩ = some (.string l') ∧ w'.cell? ⟨w.heap.size + 1, 3, none⟩ = some (.int .i64 m') ∧ w'.cell? ⟨w.heap.size + 1, 4, none⟩ = some (.int .i64 u') ∧ w'.cell? ⟨w.heap.size + 1, 5, none⟩ = some (.int .i64 g') ∧ w'.cell? ⟨w.heap.size + 1, 6, none⟩ = some (.int .i64 t') ∧ w'.cell? ⟨w.heap.size + 1, 7, none⟩ = some (.string us') ∧ w'.cell? ⟨w.heap.size + 1, 8, none⟩ = some (.string gr') ∧ w'.cell? ⟨w.heap.size + 1, 9, none⟩ = some (.string b')) (exact ⟨by assumption, by assumption, by assumption, by assumption, by assumption, by assumption, by assumption, by assumption, by assumption, by assumption, by assumption, by assumption, by assumption, by assumption, by assumption, by assumption, by assumption, by assumption, by assumption, by assumption⟩) (first | (go_at_call 14; refine (toEntry_any _ _ _ _ _ _ _ _ _ _ _).mono ?_; rintro e wn ⟨rfl, hb⟩; replace B := Lib.hid (btE B.out hb); replace E := Lib.hid (E.out.below hb (by omega)); replace F := Lib.hid (F.out.below hb (by omega)); replace z := Nat.le_trans z hb.size; clear hb; obtain ⟨a_0, a_1, a_2, a_3, a_4, a_5, a_6, a_7, a_8, a_9⟩ := E.out.zero; obtain ⟨b_0, b_1, b_2, b_3, b_4, b_5, b_6, b_7, b_8, b_9⟩ := F.out.zero) | (go_at_call 22; refine (S2.out _).mono ?_; rintro e wn ⟨rfl, hb⟩; replace B := Lib.hid (btE B.out hb); replace E := Lib.hid (E.out.below hb (by omega)); replace F := Lib.hid (F.out.below hb (by omega)); replace z := Nat.le_trans z hb.size; clear hb; obtain ⟨a_0, a_1, a_2, a_3, a_4, a_5, a_6, a_7, a_8, a_9⟩ := E.out.zero; obtain ⟨b_0, b_1, b_2, b_3, b_4, b_5, b_6, b_7, b_8, b_9⟩ := F.out.zero))
      have qd : (d != d) = false := by simp
      go_wp2_with fail
      go_ret
      exact ⟨rfl, B.out⟩
theorem sameEntry_all (e f : Ent) (w : World) (he : e.wf) (hf : f.wf) :
    Calls Try.prog 5 #[.agg e.cells.toArray, .agg f.cells.toArray] w fun e w' => e = .returned (.bool true) ∧ Below w.heap.size w w' :=
  sameEntry_law e.kind e.path e.link e.mode e.uid e.gid e.time e.user e.group e.body f.kind f.path f.link f.mode f.uid f.gid f.time f.user f.group f.body w he.2.1 he.2.2.1 he.2.2.2.1 he.2.2.2.2.1 he.2.2.2.2.2 hf.2.1 hf.2.2.1 hf.2.2.2.1 hf.2.2.2.2.1 hf.2.2.2.2.2
end Go.Proofs.Ytlbkojiengofeaa
