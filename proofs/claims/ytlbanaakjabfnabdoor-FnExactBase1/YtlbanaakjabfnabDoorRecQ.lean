/- Contracts of laws.eqRecord and laws.eqRecordS where both are the same. -/
import Derived.Test.YtlbanaakjabfnabDoorRecL
import Derived.Deep.RegionWith
import Derived.Deep.RegionHeld3
namespace Go.Proofs.YtlbanaakjabfnabDoor
open Go.ChangeShapes Go.WideShapes Go.ChangeAt Go.RowKit Go.Deep

theorem eqRec_self (x0 : ByteArray) (x1 : ByteArray) (w : World) :
    Calls Tryd.prog 28 #[.agg #[.string x0, .string x1], .agg #[.string x0, .string x1]] w fun e w' => e = .returned (.bool true) ∧ Below w.heap.size w w' := by
  have q0 : (x0.toList == x0.toList) = true := by simp
  have q1 : (x1.toList == x1.toList) = true := by simp
  go_enter Tryd.func28, Tryd.ntmps28
  go_wp2_with fail
  go_ret
  exact ⟨rfl, ((Below.refl _ w).alloc (Nat.le_refl _) _).alloc (by simp) _⟩
theorem bl_chR {w x w1 : World} (h1 : Below x.heap.size x w1) (os : x.os = w.os) (tape : x.tape = w.tape) (out : x.output = w.output) (hs : w.heap.size ≤ x.heap.size) (B : Nat) (hB : B ≤ x.heap.size) (hb : ∀ k, k < B → x.heap[k]? = w.heap[k]?) : Below B w w1 :=
  ⟨h1.os.trans os, h1.tape.trans tape, h1.output.trans out, Nat.le_trans hs h1.size, fun k hk => (h1.block k (Nat.lt_of_lt_of_le hk hB)).trans (hb k hk)⟩
theorem getR {L : List Rec} {i : Nat} (h : i < L.length) : ∃ e, L[i]? = some e := ⟨L[i], List.getElem?_eq_getElem h⟩
set_option maxHeartbeats 1600000 in
theorem eqRecS_any (L : List Rec) (n g g2 ca cb : Nat) (w : World) (hn : n = L.length) (hm : n ≤ 4194304) (hg : g < w.heap.size) (hg2 : g2 < w.heap.size) (h1 : RowR w g L) (h2 : RowR w g2 L) :
    Calls Tryd.prog 10 #[.slice (some ⟨g, 0, none⟩) n ca, .slice (some ⟨g2, 0, none⟩) n cb] w fun e w' => e = .returned (.bool true) ∧ Below w.heap.size w w' := by
  have H1 := Lib.hid h1
  have H2 := Lib.hid h2
  have HG : Hid (∀ i, i < n → ∃ e, L[i]? = some e) := Lib.hid (fun i hi => getR (by omega))
  clear h1 h2 hn
  go_enter Tryd.func10, Tryd.ntmps10
  go_wp2_with fail
  go_loopw [5] (fun u wr => ∃ i : Nat, u = .int .i64 i ∧ i ≤ n ∧ Below w.heap.size w wr) (fun u _ => n - (intOf u).toNat)
  case atStart => exact ⟨0, rfl, Nat.zero_le _, Below.refl _ _⟩
  case round =>
    obtain ⟨i, rfl, hi, hb⟩ := hrel
    have B := Lib.hid hb
    clear hb
    by_cases hlt : i < n
    · have hlt2 : (i : Int) < (n : Int) := by omega
      obtain ⟨e, he⟩ := HG.out i hlt
      have R1 := Lib.hid (H1.out.below B.out hg)
      have R2 := Lib.hid (H2.out.below B.out hg2)
      obtain ⟨c0, c1⟩ := R1.out.cols he
      obtain ⟨d0, d1⟩ := R2.out.cols he
      clear he R1 R2
      obtain ⟨x0, x1⟩ := e
      have HQ := Lib.hid (fun w => eqRec_self x0 x1 w)
      go_wp2_with fail
      have hsz := B.out.size
      go_region_with (go_at_call 28; refine (HQ.out _).mono ?_; rintro e w1 ⟨rfl, hb1⟩; have B1 := Lib.hid (bl_chR hb1 B.out.os B.out.tape B.out.output hsz w.heap.size hsz B.out.block); clear hb1)
      all_goals
        go_wp2_with fail
        go_roundw
        case rel => exact ⟨i + 1, by go_num, by omega, B1.out.os, B1.out.tape, B1.out.output, B1.out.size, B1.out.block⟩
        case measure => simp [intOf]; omega
    · have hlt2 : ¬ (i : Int) < (n : Int) := by omega
      go_wp2_with fail
      go_ret
      exact ⟨rfl, B.out⟩
end Go.Proofs.YtlbanaakjabfnabDoor
