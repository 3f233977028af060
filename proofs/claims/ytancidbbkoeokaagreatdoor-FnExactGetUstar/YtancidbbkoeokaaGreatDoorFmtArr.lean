/- Contract of internal/strconv.formatBits at the bases 8 and 16. -/
import Derived.Test.YtancidbbkoeokaaGreatDoorFmtPow
namespace Go.Proofs.YtancidbbkoeokaaGreatDoor
open Go.ChangeShapes Go.WideShapes Go.ChangeAt Go.RowKit

theorem dig36_size : (⟨#[48, 49, 50, 51, 52, 53, 54, 55, 56, 57, 97, 98, 99, 100, 101, 102, 103, 104, 105, 106, 107, 108, 109, 110, 111, 112, 113, 114, 115, 116, 117, 118, 119, 120, 121, 122]⟩ : ByteArray).size = 36 := rfl
theorem dig36_at (d : Nat) (h : d < 16) : ((⟨#[48, 49, 50, 51, 52, 53, 54, 55, 56, 57, 97, 98, 99, 100, 101, 102, 103, 104, 105, 106, 107, 108, 109, 110, 111, 112, 113, 114, 115, 116, 117, 118, 119, 120, 121, 122]⟩ : ByteArray)[d]'(by rw [dig36_size]; omega)) = dch d := by
  match d, h with
  | 0, _ => rfl
  | 1, _ => rfl
  | 2, _ => rfl
  | 3, _ => rfl
  | 4, _ => rfl
  | 5, _ => rfl
  | 6, _ => rfl
  | 7, _ => rfl
  | 8, _ => rfl
  | 9, _ => rfl
  | 10, _ => rfl
  | 11, _ => rfl
  | 12, _ => rfl
  | 13, _ => rfl
  | 14, _ => rfl
  | 15, _ => rfl
  | n + 16, h => exact absurd h (by omega)
theorem index36 (d : Int) (h0 : 0 ≤ d) (h : d < 16) (w : World) :
    (Instr.index 9 (.string ⟨#[48, 49, 50, 51, 52, 53, 54, 55, 56, 57, 97, 98, 99, 100, 101, 102, 103, 104, 105, 106, 107, 108, 109, 110, 111, 112, 113, 114, 115, 116, 117, 118, 119, 120, 121, 122]⟩) (.int .u64 d)).run Tryz.prog w = .ok (.int .u8 ((dch d.toNat).toNat : Int)) w := by
  obtain ⟨k, rfl⟩ := Int.eq_ofNat_of_zero_le h0
  have hk : k < 16 := by omega
  have hd : k < 36 := by omega
  rw [run_index_string _ _ _ _ _ Tryz.underlying9]
  have e := dig36_at k hk
  simp only [dig36_size]
  rw [dif_pos (by omega)]
  simp only [Int.toNat_natCast]
  rw [e]

/-- The array of 65 bytes in block b holds the bytes l from place p on. -/
def ArrIs (w : World) (b p : Nat) (l : List UInt8) : Prop := ∃ cur, w.heap[b]? = some (.cells cur 177 (0, 0)) ∧ cur.size = 65 ∧ cur.toList.drop p = byteVals l
theorem ArrIs.new (w : World) : ArrIs (w.alloc (.cells Tryz.zeroCells177 177)) w.heap.size 65 [] :=
  ⟨Tryz.zeroCells177, heap_alloc_new w _, rfl, rfl⟩
theorem ArrIs.cell {w : World} {b p : Nat} {l : List UInt8} (h : ArrIs w b p l) (q : Nat) (hq : q < 65) : (∃ v, w.cell? ⟨b, q, none⟩ = some v) ∧ w.frozen? ⟨b, q, none⟩ = false := by
  obtain ⟨cur, hb, hs, _⟩ := h
  exact ⟨⟨_, (cell_of_row w b q cur _ _ hb).trans (Array.getElem?_eq_getElem (by omega))⟩, frozen_of_row w b q cur _ hb⟩
theorem ArrIs.store {w : World} {b q : Nat} {l : List UInt8} (h : ArrIs w b (q + 1) l) (hq : q < 65) (c : UInt8) : ArrIs (w.setCell ⟨b, q, none⟩ (.int .u8 (c.toNat : Int))) b q (c :: l) := by
  obtain ⟨cur, hb, hs, hd⟩ := h
  refine ⟨_, heap_setCell_same w b q cur _ _ hb, by simpa using hs, ?_⟩
  rw [Array.toList_setIfInBounds]
  have hl : q < cur.toList.length := by simpa [hs] using hq
  rw [List.drop_eq_getElem_cons (by simpa using hl)]
  simp [byteVals, List.drop_set_of_lt, hd]
theorem ArrIs.len {w : World} {b p : Nat} {l : List UInt8} (h : ArrIs w b p l) : l.length = 65 - p := by
  obtain ⟨cur, _, hs, hd⟩ := h
  have := congrArg List.length hd
  simp [byteVals, hs] at this
  omega
theorem ArrIs.conv {w : World} {b p : Nat} {l : List UInt8} (h : ArrIs w b p l) (cap : Nat) :
    (convert 64 9 (.slice (some ⟨b, p, none⟩) (65 - p) cap)).run Tryz.prog w = .ok (.string ⟨l.toArray⟩) w := by
  have hl := h.len
  rw [← hl]
  refine run_convert_bytes_back (P := Tryz.prog) w 64 9 5 ⟨b, p, none⟩ cap l Tryz.underlying64 Tryz.underlying5 Tryz.underlying9 ?_
  intro j hj
  obtain ⟨cur, hb, hs, hd⟩ := h
  have e : (⟨b, p, none⟩ : Addr).add j = ⟨b, p + j, none⟩ := by unfold Addr.add; split <;> simp_all
  rw [e, cell_of_row w b (p + j) cur _ _ hb]
  have h1 : (cur.toList.drop p)[j]? = (byteVals l)[j]? := by rw [hd]
  rw [List.getElem?_drop] at h1
  simp [byteVals, List.getElem?_eq_getElem hj] at h1
  rw [← h1]

theorem tab_lt {w : World} {g i : Nat} {v : Value} (h : w.cell? ⟨g, i, none⟩ = some v) : g < w.heap.size := by
  rcases Nat.lt_or_ge g w.heap.size with h' | h'
  · exact h'
  · simp [World.cell?, Array.getElem?_eq_none h'] at h
end Go.Proofs.YtancidbbkoeokaaGreatDoor
