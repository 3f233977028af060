/- Contract of impl.blockOf. -/
import Derived.Test.YtancidbbkoeokaaGreatDoorBlk
import Derived.Deep.WholeRow
import Derived.Deep.MidRow
import Derived.Lib.ConvBytes
namespace Go.Proofs.YtancidbbkoeokaaGreatDoor
open Go.ChangeShapes Go.WideShapes Go.ChangeAt Go.RowKit

variable {P : Program}
theorem wpList_load_eq {ops : Array Oper} {rest : List Oper} {o : Oper} {a : Act} {w : World} {Q : Exit → Act → World → Prop} (hgd : o.guard = none) (ty : TypeId) (x : Operand) (ho : o.op = .load ty x)
    (g : Addr) (hx : a.eval x = .pointer (some g)) {v : Value} (hr : (loadVar ty g).run P w = .ok v w) (h : wpList P ops Q rest (a.put o.dst v) w) : wpList P ops Q (o :: rest) a w :=
  wpList_plain hgd fun _ hK => by
    unfold Oper.wp execOp
    simp only [ho, hx, Instr.loadAt, Instr.sureAddr, Sem.run_bind, Sem.run_pure, Result.andThen_ok, hr]
    exact hK _ _ h
theorem wpList_store_eq {ops : Array Oper} {rest : List Oper} {o : Oper} {a : Act} {w w' : World} {Q : Exit → Act → World → Prop} (hgd : o.guard = none) (ty : TypeId) (x y : Operand) (ho : o.op = .store ty x y)
    (g : Addr) (hx : a.eval x = .pointer (some g)) {v : Value} (hy : a.eval y = v) (hr : (storeVar ty g v).run P w = .ok () w') (h : wpList P ops Q rest (a.put o.dst undef) w') : wpList P ops Q (o :: rest) a w :=
  wpList_plain hgd fun _ hK => by
    unfold Oper.wp execOp
    simp only [ho, hx, hy, Instr.storeAt, Instr.sureAddr, Sem.run_bind, Sem.run_pure, Result.andThen_ok, hr]
    exact hK _ _ h
def zeros512 : List UInt8 := List.replicate 512 0
theorem Tryz.infoBlk : (Tryz.prog.info? 105).map (fun i => (i.zero, i.size)) = some (some (.agg (Lib.byteCells zeros512).toArray), 512) := by kernel_rfl
theorem Tryz.sizeBlk : (Tryz.prog.info? 105).map (·.size) = some 512 := by kernel_rfl
theorem zero_blk (w : World) : (zeroValue 105).run Tryz.prog w = .ok (.agg (Lib.byteCells zeros512).toArray) w := by
  have h := Tryz.infoBlk
  generalize (Lib.byteCells zeros512).toArray = Z at *
  cases hi : Tryz.prog.info? 105 with
  | none => simp [hi] at h
  | some i =>
    simp [hi] at h
    simp [zeroValue, typeInfo, hi, h.1]
theorem bc_one (l : List UInt8) : (Lib.byteCells l).toArray.all (·.oneCell') = true := by
  rw [Array.all_eq_true_iff_forall_mem]
  intro v hv
  exact Lib.byteCells_one l v (by simpa using hv)
/-- What the conversion of a string of 512 bytes leaves. -/
theorem conv_512 (s : ByteArray) (w : World) (h : s.size = 512) : ∃ cap W, (convert 9 64 (.string s)).run Tryz.prog w = .ok (.slice (some ⟨w.heap.size, 0, none⟩) 512 cap) W ∧
    Below w.heap.size w W ∧ W.heap.size = w.heap.size + 1 ∧ (loadVar 105 ⟨w.heap.size, 0, none⟩).run Tryz.prog W = .ok (.agg (Lib.byteCells s.data.toList).toArray) W := by
  refine ⟨_, _, by rw [Lib.run_convert_string_bytes (P := Tryz.prog) w 9 64 5 s Tryz.underlying9 Tryz.underlying64 Tryz.underlying5, h], ?_, Lib.bytesWorld_size _ _ _, ?_⟩
  · exact ⟨rfl, rfl, rfl, by rw [Lib.bytesWorld_size]; omega, fun k hk => Lib.bytesWorld_at_old _ _ _ _ hk⟩
  · refine run_loadVar_mid _ _ 0 _ _ _ ?_ Tryz.underlying105 rfl (by rw [Lib.byteCells_length, Tryz.sizeBlk]; simp; omega)
    intro j v hv
    have hj : j < s.data.toList.length := by
      have := (List.getElem?_eq_some_iff.1 hv).1
      simpa [Lib.byteCells_length] using this
    rw [Nat.zero_add, Lib.bytesWorld_cell _ _ _ _ (by simpa using hj)]
    simp only [Lib.byteCells, List.getElem?_map, List.getElem?_eq_getElem hj] at hv
    simp only [List.getD, List.getElem?_eq_getElem hj]
    exact hv
set_option maxRecDepth 8000 in
theorem blockOf_any (s : ByteArray) (w : World) (hs : 512 ≤ s.size) :
    Calls Tryz.prog 71 #[.string s] w fun e w' => e = .returned (.agg (Lib.byteCells (s.data.toList.take 512)).toArray) ∧ Below w.heap.size w w' := by
  have h1 : (512 : Int) ≤ (s.size : Int) := by omega
  have hz := fun w => zero_blk w
  have hZ : (Lib.byteCells zeros512).toArray.size = 512 := by rw [List.size_toArray, Lib.byteCells_length]; exact List.length_replicate
  have hO := bc_one (s.extract 0 512).data.toList
  have he : (s.extract 0 512).size = 512 := by rw [ByteArray.size_extract]; omega
  have hd : (s.extract 0 512).data.toList = s.data.toList.take 512 := by simp
  have hC : (Lib.byteCells (s.extract 0 512).data.toList).toArray.size = 512 := by rw [hd]; simp [Lib.byteCells_length]; omega
  obtain ⟨cap, W, hr, hB, hsz, hl⟩ := conv_512 (s.extract 0 512) (w.alloc (.cells (Lib.byteCells zeros512).toArray 105)) he
  rw [← hd]
  generalize (Lib.byteCells (s.extract 0 512).data.toList).toArray = C at *
  generalize (Lib.byteCells zeros512).toArray = Z at *
  have hg : W.heap[w.heap.size]? = some (.cells Z 105 (0, 0)) := by
    rw [hB.block _ (by simp)]
    exact heap_alloc_last _ _
  have hst := run_storeVar_row (P := Tryz.prog) W w.heap.size 105 105 Z C hg (by rw [Tryz.sizeBlk, hC]) (by omega) hO
  have hg2 := setRow_heap W w.heap.size Z C 105 (0, 0) hg
  have hB0 : Below w.heap.size w (w.alloc (.cells Z 105)) := (Below.refl _ _).alloc (Nat.le_refl _) _
  have hB2 : Below w.heap.size w (W.setRow w.heap.size C) := (hB0.trans (hB.mono hB0.size)).trans (below_set (Nat.le_refl _) C)
  have ha : ∀ a, (Instr.arrayAt 105 (.slice (some a) 512 cap)).run Tryz.prog W = .ok (.pointer (some a)) W := fun a => by simp [Instr.arrayAt, run_underlying Tryz.underlying105]
  have HG2 := Lib.hid hg2
  have HB2 := Lib.hid hB2
  rw [World.size_alloc] at hr hl
  clear hg2 hB2 hB0 hg hB hO hsz hZ he hd
  go_enter Tryz.func71, Tryz.ntmps71
  have HL := Lib.hid hl
  have HS := Lib.hid hst
  clear hl hst
  go_wp2_with (first
    | ((with_reducible refine wpList_load_eq rfl 105 _ rfl ⟨w.heap.size + 1, 0, none⟩ ?_ HL.out ?_); rfl)
    | ((with_reducible refine wpList_store_eq rfl 105 _ _ rfl ⟨w.heap.size, 0, none⟩ ?_ ?_ HS.out ?_); rfl; rfl))
  exact bodyPost_ret (results_cell_row rfl _ _ w.heap.size _ C (0, 0) _ rfl HG2.out Tryz.underlying105 rfl (by rw [Tryz.sizeBlk, hC])) rfl ⟨rfl, HB2.out⟩
/-- A block by its bytes, as a string. -/
theorem Blk.conv {w : World} {g : Nat} {l : List UInt8} (h : Blk w g l) : (convert 64 9 (.slice (some ⟨g, 0, none⟩) 512 512)).run Tryz.prog w = .ok (.string ⟨l.toArray⟩) w := by
  have := run_convert_bytes_back (P := Tryz.prog) w 64 9 5 ⟨g, 0, none⟩ 512 l Tryz.underlying64 Tryz.underlying5 Tryz.underlying9 (by
    intro j hj
    rw [Addr.add_mid, Nat.zero_add, cell_of_row _ _ _ _ _ _ h.2]
    simp [Lib.byteCells, List.getElem?_eq_getElem hj])
  rw [h.1] at this
  exact this
theorem Blk.below {w w' : World} {g B : Nat} {l : List UInt8} (h : Blk w g l) (hb : Below B w w') (hg : g < B) : Blk w' g l := ⟨h.1, (hb.block g hg).trans h.2⟩
theorem Blk.lt {w : World} {g : Nat} {l : List UInt8} (h : Blk w g l) : g < w.heap.size := (Array.getElem?_eq_some_iff.1 h.2).1
theorem Blk.new (w : World) (l : List UInt8) (h : l.length = 512) : Blk (w.alloc (.cells (Lib.byteCells l).toArray 105)) w.heap.size l := ⟨h, heap_alloc_last _ _⟩
theorem fw_of {w : World} (h : ∀ i, i < 15 → w.cell? ⟨1, i, none⟩ = some (.int .i64 (([100, 8, 8, 8, 12, 12, 8, 1, 100, 8, 32, 32, 8, 8, 155] : List Int).getD i 0))) : FW w := by
  intro i x hx
  have hi : i < 15 := (List.getElem?_eq_some_iff.1 hx).1
  rw [h i hi]
  have e : ([100, 8, 8, 8, 12, 12, 8, 1, 100, 8, 32, 32, 8, 8, 155] : List Int) = widths.map (fun n : Nat => (n : Int)) := rfl
  rw [e]
  simp [List.getD, hx]
theorem FW.below {w w' : World} (h : FW w) (hb : Below w.heap.size w w') : FW w' := fun i x hx => by
  have hc := h i x hx
  have hl : 1 < w.heap.size := by
    by_cases q : 1 < w.heap.size
    · exact q
    · simp [World.cell?, Array.getElem?_eq_none (Nat.le_of_not_lt q)] at hc
  exact (hb.cell (p := ⟨1, i, none⟩) hl).trans hc
end Go.Proofs.YtancidbbkoeokaaGreatDoor
