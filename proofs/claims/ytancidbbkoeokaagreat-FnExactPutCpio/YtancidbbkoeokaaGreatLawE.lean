/- What the laws over slices of entries share. -/
import Derived.Test.YtancidbbkoeokaaGreatSizeE
import Derived.Test.YtancidbbkoeokaaGreatEntEq
namespace Go.Proofs.YtancidbbkoeokaaGreat
open Go.ChangeShapes Go.WideShapes Go.ChangeAt Go.RowKit Go.Deep

theorem self_eqF (a : ByteArray) : (a.toList == a.toList) = true := by simp
theorem IsRowE.below {w w' : World} {a : Option Addr} {len cap : Nat} {es : List Ent} (h : IsRowE w a len cap es) (hb : Below w.heap.size w w') : IsRowE w' a len cap es := by
  rcases h with h | ⟨x, hx, hl, hm, hn, hc⟩
  · exact .inl h
  · refine .inr ⟨x, hx, hl, hm, hn, fun i hi => ⟨fun j hj => ?_, (hc i hi).2⟩⟩
    have h1 := (hc i hi).1 j hj
    have hsome : ∃ v, w.cell? (x.add (i * 10 + j)) = some v := by
      rw [h1]
      exact ⟨_, List.getElem?_eq_getElem (by show j < 10; exact hj)⟩
    obtain ⟨v, hv⟩ := hsome
    exact (hb.cell (cell_blk hv)).trans h1
theorem totE_take (es : List Ent) (n : Nat) (h : n ≤ es.length) : totE (fun i => es.getD i entD) n = totL (es.take n) := by
  induction n with
  | zero => simp [totE, totL]
  | succ n ih =>
    have ht : es.take (n + 1) = es.take n ++ [es[n]'(by omega)] := by rw [List.take_add_one, List.getElem?_eq_getElem (show n < es.length by omega)]; rfl
    rw [totE, ih (by omega), ht]
    have hx : es.getD n entD = es[n]'(by omega) := by simp [List.getD, List.getElem?_eq_getElem (show n < es.length by omega)]
    simp only [totL, List.map_append, List.sum_append, List.map_cons, List.map_nil, List.sum_cons, List.sum_nil, Nat.add_zero, hx]
theorem totL_mem {L : List Ent} {e : Ent} (h : e ∈ L) : esz e ≤ totL L := by
  induction L with
  | nil => cases h
  | cons f L ih =>
    rcases List.mem_cons.1 h with rfl | h
    · simp [totL]
    · have := ih h
      simp [totL] at this ⊢
      omega
theorem small_of_tot {L : List Ent} {n : Nat} (h : totL L ≤ n) (hn : n ≤ 4194304) : SmallL L := fun _ he => Nat.le_trans (totL_mem he) (Nat.le_trans h hn)
theorem IsRowE.take_len {w : World} {a : Option Addr} {len cap : Nat} {es : List Ent} (h : IsRowE w a len cap es) : (es.take len).length = len := by
  have := h.le
  simp; omega
theorem sz_facts {w : World} {a : Option Addr} {len cap : Nat} {es : List Ent} (h : IsRowE w a len cap es) {left r : Int} (hr : r = -1 ∨ 0 ≤ r ∧ (len : Int) + totE (fun i => es.getD i entD) len + r = left) (h0 : 0 ≤ r) : (len : Int) + totL (es.take len) + r = left := by
  rcases hr with rfl | ⟨_, h1⟩
  · omega
  · rw [totE_take _ _ h.le] at h1; exact h1
end Go.Proofs.YtancidbbkoeokaaGreat
