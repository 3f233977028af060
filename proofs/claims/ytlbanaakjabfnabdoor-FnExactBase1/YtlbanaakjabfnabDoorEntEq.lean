/- Contracts of laws.eqEntry and laws.eqEntryS where both are the same. -/
import Derived.Test.YtlbanaakjabfnabDoorEntL
import Derived.Deep.RegionWith
import Derived.Deep.RegionHeld3
namespace Go.Proofs.YtlbanaakjabfnabDoor
open Go.ChangeShapes Go.WideShapes Go.ChangeAt Go.RowKit Go.Deep

theorem eqEntry_self (k : Int) (p l : ByteArray) (m u g t : Int) (us gr b : ByteArray) (w : World) :
    Calls Tryd.prog 9 #[.agg #[.int .i64 k, .string p, .string l, .int .i64 m, .int .i64 u, .int .i64 g, .int .i64 t, .string us, .string gr, .string b], .agg #[.int .i64 k, .string p, .string l, .int .i64 m, .int .i64 u, .int .i64 g, .int .i64 t, .string us, .string gr, .string b]] w fun e w' => e = .returned (.bool true) ∧ Below w.heap.size w w' := by
  have q1 : (p.toList == p.toList) = true := by simp
  have q2 : (l.toList == l.toList) = true := by simp
  have q3 : (us.toList == us.toList) = true := by simp
  have q4 : (gr.toList == gr.toList) = true := by simp
  have q5 : (b.toList == b.toList) = true := by simp
  go_enter Tryd.func9, Tryd.ntmps9
  go_wp2_with fail
  go_ret
  exact ⟨rfl, ((Below.refl _ w).alloc (Nat.le_refl _) _).alloc (by simp) _⟩
theorem bl_ch {w x w1 : World} (h1 : Below x.heap.size x w1) (os : x.os = w.os) (tape : x.tape = w.tape) (out : x.output = w.output) (hs : w.heap.size ≤ x.heap.size) (B : Nat) (hB : B ≤ x.heap.size) (hb : ∀ k, k < B → x.heap[k]? = w.heap[k]?) : Below B w w1 :=
  ⟨h1.os.trans os, h1.tape.trans tape, h1.output.trans out, Nat.le_trans hs h1.size, fun k hk => (h1.block k (Nat.lt_of_lt_of_le hk hB)).trans (hb k hk)⟩
theorem getE {L : List Ent} {i : Nat} (h : i < L.length) : ∃ e, L[i]? = some e := ⟨L[i], List.getElem?_eq_getElem h⟩
end Go.Proofs.YtlbanaakjabfnabDoor
