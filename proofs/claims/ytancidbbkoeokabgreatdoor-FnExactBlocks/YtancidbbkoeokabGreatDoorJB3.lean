/- Texts joined: BlkOf, Sum, HeadSum, SplitMath, Clone, Split, UserI, EntOkI, Fits, Cut, Fill, HeadMath, PutBig, Num, Back. -/
import Derived.Deep.WholeRow
import Derived.Deep.MidRow
import Derived.Lib.ConvBytes
import Derived.Deep.RegionHeld3
import Derived.Test.YtancidbbkoeokabGreatDoorShelf
import Derived.WalkSmall
import Derived.IntWalk
import Derived.Lib.Repeat
import Derived.Test.YtancidbbkoeokabGreatDoorJB2
/- Contract of impl.blockOf. -/
namespace Go.Proofs.YtancidbbkoeokabGreatDoor
open Go.ChangeShapes Go.WideShapes Go.ChangeAt Go.RowKit

variable {P : Program}
theorem wpList_load_eq {ops : Array Oper} {rest : List Oper} {o : Oper} {a : Act} {w : World} {Q : Exit → Act → World → Prop} (hgd : o.guard = none) (ty : TypeId) (x : Operand) (ho : o.op = .load ty x)
    (g : Addr) (hx : a.eval x = .pointer (some g)) {v : Value} (hr : (loadVar ty g).run P w = .ok v w) (h : wpList P ops Q rest (a.put o.dst v) w) : wpList P ops Q (o :: rest) a w :=
  wpList_plain hgd fun _ hK => by
    unfold Oper.wp execOp
    simp only [ho, hx, Instr.loadAt, Instr.sureAddr, Sem.run_bind, Sem.run_pure, Result.andThen_ok, hr]
    exact hK _ _ h
theorem wpList_store_eq {ops : Array Oper} {rest : List Oper} {o : Oper} {a : Act} {w w' : World} {Q : Exit → Act → World → Prop} (hgd : o.guard = none) (ty : TypeId) (x y : Operand) (ho : o.op = .store ty x y)
    (g : Addr) (hx : a.eval x = .pointer (some g)) {v : Value} (hy : a.eval y = v) (hr : (storeVar ty g v).run P w = .ok () w') (h : wpList P ops Q rest (a.put o.dst undef) w') : wpList P ops Q (o :: rest) a w :=
  wpList_plain hgd fun _ hK => by
    unfold Oper.wp execOp
    simp only [ho, hx, hy, Instr.storeAt, Instr.sureAddr, Sem.run_bind, Sem.run_pure, Result.andThen_ok, hr]
    exact hK _ _ h
def zeros512 : List UInt8 := List.replicate 512 0
theorem Tryz.infoBlk : (Tryz.prog.info? 123).map (fun i => (i.zero, i.size)) = some (some (.agg (Lib.byteCells zeros512).toArray), 512) := by kernel_rfl
theorem Tryz.sizeBlk : (Tryz.prog.info? 123).map (·.size) = some 512 := by kernel_rfl
theorem zero_blk (w : World) : (zeroValue 123).run Tryz.prog w = .ok (.agg (Lib.byteCells zeros512).toArray) w := by
  have h := Tryz.infoBlk
  generalize (Lib.byteCells zeros512).toArray = Z at *
  cases hi : Tryz.prog.info? 123 with
  | none => simp [hi] at h
  | some i =>
    simp [hi] at h
    simp [zeroValue, typeInfo, hi, h.1]
theorem bc_one (l : List UInt8) : (Lib.byteCells l).toArray.all (·.oneCell') = true := by
  rw [Array.all_eq_true_iff_forall_mem]
  intro v hv
  exact Lib.byteCells_one l v (by simpa using hv)
/-- What the conversion of a string of 512 bytes leaves. -/
theorem conv_512 (s : ByteArray) (w : World) (h : s.size = 512) : ∃ cap W, (convert 9 95 (.string s)).run Tryz.prog w = .ok (.slice (some ⟨w.heap.size, 0, none⟩) 512 cap) W ∧
    Below w.heap.size w W ∧ W.heap.size = w.heap.size + 1 ∧ (loadVar 123 ⟨w.heap.size, 0, none⟩).run Tryz.prog W = .ok (.agg (Lib.byteCells s.data.toList).toArray) W := by
  refine ⟨_, _, by rw [Lib.run_convert_string_bytes (P := Tryz.prog) w 9 95 5 s Tryz.underlying9 Tryz.underlying95 Tryz.underlying5, h], ?_, Lib.bytesWorld_size _ _ _, ?_⟩
  · exact ⟨rfl, rfl, rfl, by rw [Lib.bytesWorld_size]; omega, fun k hk => Lib.bytesWorld_at_old _ _ _ _ hk⟩
  · refine run_loadVar_mid _ _ 0 _ _ _ ?_ Tryz.underlying123 rfl (by rw [Lib.byteCells_length, Tryz.sizeBlk]; simp; omega)
    intro j v hv
    have hj : j < s.data.toList.length := by
      have := (List.getElem?_eq_some_iff.1 hv).1
      simpa [Lib.byteCells_length] using this
    rw [Nat.zero_add, Lib.bytesWorld_cell _ _ _ _ (by simpa using hj)]
    simp only [Lib.byteCells, List.getElem?_map, List.getElem?_eq_getElem hj] at hv
    simp only [List.getD, List.getElem?_eq_getElem hj]
    exact hv
set_option maxRecDepth 8000 in
theorem blockOf_any (s : ByteArray) (w : World) (hs : 512 ≤ s.size) :
    Calls Tryz.prog 105 #[.string s] w fun e w' => e = .returned (.agg (Lib.byteCells (s.data.toList.take 512)).toArray) ∧ Below w.heap.size w w' := by
  have h1 : (512 : Int) ≤ (s.size : Int) := by omega
  have hz := fun w => zero_blk w
  have hZ : (Lib.byteCells zeros512).toArray.size = 512 := by rw [List.size_toArray, Lib.byteCells_length]; exact List.length_replicate
  have hO := bc_one (s.extract 0 512).data.toList
  have he : (s.extract 0 512).size = 512 := by rw [ByteArray.size_extract]; omega
  have hd : (s.extract 0 512).data.toList = s.data.toList.take 512 := by simp
  have hC : (Lib.byteCells (s.extract 0 512).data.toList).toArray.size = 512 := by rw [hd]; simp [Lib.byteCells_length]; omega
  obtain ⟨cap, W, hr, hB, hsz, hl⟩ := conv_512 (s.extract 0 512) (w.alloc (.cells (Lib.byteCells zeros512).toArray 123)) he
  rw [← hd]
  generalize (Lib.byteCells (s.extract 0 512).data.toList).toArray = C at *
  generalize (Lib.byteCells zeros512).toArray = Z at *
  have hg : W.heap[w.heap.size]? = some (.cells Z 123 (0, 0)) := by
    rw [hB.block _ (by simp)]
    exact heap_alloc_last _ _
  have hst := run_storeVar_row (P := Tryz.prog) W w.heap.size 123 123 Z C hg (by rw [Tryz.sizeBlk, hC]) (by omega) hO
  have hg2 := setRow_heap W w.heap.size Z C 123 (0, 0) hg
  have hB0 : Below w.heap.size w (w.alloc (.cells Z 123)) := (Below.refl _ _).alloc (Nat.le_refl _) _
  have hB2 : Below w.heap.size w (W.setRow w.heap.size C) := (hB0.trans (hB.mono hB0.size)).trans (below_set (Nat.le_refl _) C)
  have ha : ∀ a, (Instr.arrayAt 123 (.slice (some a) 512 cap)).run Tryz.prog W = .ok (.pointer (some a)) W := fun a => by simp [Instr.arrayAt, run_underlying Tryz.underlying123]
  have HG2 := Lib.hid hg2
  have HB2 := Lib.hid hB2
  rw [World.size_alloc] at hr hl
  clear hg2 hB2 hB0 hg hB hO hsz hZ he hd
  go_enter Tryz.func105, Tryz.ntmps105
  have HL := Lib.hid hl
  have HS := Lib.hid hst
  clear hl hst
  go_wp2_with (first
    | ((with_reducible refine wpList_load_eq rfl 123 _ rfl ⟨w.heap.size + 1, 0, none⟩ ?_ HL.out ?_); rfl)
    | ((with_reducible refine wpList_store_eq rfl 123 _ _ rfl ⟨w.heap.size, 0, none⟩ ?_ ?_ HS.out ?_); rfl; rfl))
  exact bodyPost_ret (results_cell_row rfl _ _ w.heap.size _ C (0, 0) _ rfl HG2.out Tryz.underlying123 rfl (by rw [Tryz.sizeBlk, hC])) rfl ⟨rfl, HB2.out⟩
/-- A block by its bytes, as a string. -/
theorem Blk.conv {w : World} {g : Nat} {l : List UInt8} (h : Blk w g l) : (convert 95 9 (.slice (some ⟨g, 0, none⟩) 512 512)).run Tryz.prog w = .ok (.string ⟨l.toArray⟩) w := by
  have := run_convert_bytes_back (P := Tryz.prog) w 95 9 5 ⟨g, 0, none⟩ 512 l Tryz.underlying95 Tryz.underlying5 Tryz.underlying9 (by
    intro j hj
    rw [Addr.add_mid, Nat.zero_add, cell_of_row _ _ _ _ _ _ h.2]
    simp [Lib.byteCells, List.getElem?_eq_getElem hj])
  rw [h.1] at this
  exact this
theorem Blk.below {w w' : World} {g B : Nat} {l : List UInt8} (h : Blk w g l) (hb : Below B w w') (hg : g < B) : Blk w' g l := ⟨h.1, (hb.block g hg).trans h.2⟩
theorem Blk.lt {w : World} {g : Nat} {l : List UInt8} (h : Blk w g l) : g < w.heap.size := (Array.getElem?_eq_some_iff.1 h.2).1
theorem Blk.new (w : World) (l : List UInt8) (h : l.length = 512) : Blk (w.alloc (.cells (Lib.byteCells l).toArray 123)) w.heap.size l := ⟨h, heap_alloc_last _ _⟩
theorem fw_of {w : World} (h : ∀ i, i < 15 → w.cell? ⟨0, i, none⟩ = some (.int .i64 (([100, 8, 8, 8, 12, 12, 8, 1, 100, 8, 32, 32, 8, 8, 155] : List Int).getD i 0))) : FW w := by
  intro i x hx
  have hi : i < 15 := (List.getElem?_eq_some_iff.1 hx).1
  rw [h i hi]
  have e : ([100, 8, 8, 8, 12, 12, 8, 1, 100, 8, 32, 32, 8, 8, 155] : List Int) = widths.map (fun n : Nat => (n : Int)) := rfl
  rw [e]
  simp [List.getD, hx]
theorem FW.below {w w' : World} (h : FW w) (hb : Below w.heap.size w w') : FW w' := fun i x hx => by
  have hc := h i x hx
  have hl : 0 < w.heap.size := by
    by_cases q : 0 < w.heap.size
    · exact q
    · simp [World.cell?, Array.getElem?_eq_none (Nat.le_of_not_lt q)] at hc
  exact (hb.cell (p := ⟨0, i, none⟩) hl).trans hc
end Go.Proofs.YtancidbbkoeokabGreatDoor

/- Contracts of spec.SumOf, impl.SumOf (on strings of at most 2^20 bytes) and the law laws.FnExactSumOf: what each returns, the world unchanged. -/
namespace Go.Proofs.YtancidbbkoeokabGreatDoor
open Go.ChangeShapes Go.WideShapes Go.ChangeAt Go.RowKit

def sumv (l : List UInt8) : Int := (l.map fun c => (c.toNat : Int)).sum
theorem sumv_snoc (l : List UInt8) (c : UInt8) : sumv (l ++ [c]) = sumv l + (c.toNat : Int) := by simp [sumv]
theorem sumv_bd (l : List UInt8) : 0 ≤ sumv l ∧ sumv l ≤ 255 * l.length := by
  induction l with
  | nil => simp [sumv]
  | cons c l ih =>
    have h : sumv (c :: l) = (c.toNat : Int) + sumv l := by simp [sumv]
    have := UInt8.toNat_lt c
    rw [h]; simp only [List.length_cons]; omega

theorem sum_spec (s : ByteArray) (w : World) (hs : s.size ≤ 1048576) :
    Calls Tryz.prog 146 #[.string s] w fun e w' => e = .returned (.int .i64 (sumv s.data.toList)) ∧ w = w' := by
  go_enter Tryz.func146, Tryz.ntmps146
  go_wp2
  go_loop [3, 4] (fun n i => ∃ k : Nat, k ≤ s.size ∧ i = .int .i64 k ∧ n = .int .i64 (sumv (s.data.toList.take k))) (fun _ i => s.size - (intOf i).toNat)
  case atStart => exact ⟨0, Nat.zero_le _, rfl, rfl⟩
  case round =>
    obtain ⟨k, hk, rfl, rfl⟩ := hrel
    have hd := sumv_bd (s.data.toList.take k)
    have hl : (s.data.toList.take k).length ≤ k := List.length_take_le _ _
    by_cases hlt : k < s.size
    · have HS := Lib.hid (show sumv (s.data.toList.take (k + 1)) = sumv (s.data.toList.take k) + (s[k].toNat : Int) by rw [take_snoc s k hlt]; exact sumv_snoc _ _)
      have hc := UInt8.toNat_lt s[k]
      go_wp2
      go_round
      case rel => exact ⟨k + 1, by omega, by go_num, by rw [HS.out]⟩
      case measure => simp [intOf]; omega
    · go_wp2
      go_ret
      exact ⟨ret_int (by rw [List.take_of_length_le (by simp; omega)]), rfl⟩

theorem sum_impl (s : ByteArray) (w : World) (hs : s.size ≤ 1048576) :
    Calls Tryz.prog 201 #[.string s] w fun e w' => e = .returned (.int .i64 (sumv s.data.toList)) ∧ w = w' := by
  go_enter Tryz.func201, Tryz.ntmps201
  go_wp2
  go_loop [3, 7] (fun n i => ∃ k : Nat, k ≤ s.size ∧ i = .int .i64 k ∧ n = .int .i64 (sumv (s.data.toList.take k))) (fun _ i => s.size - (intOf i).toNat)
  case atStart => exact ⟨0, Nat.zero_le _, rfl, rfl⟩
  case round =>
    obtain ⟨k, hk, rfl, rfl⟩ := hrel
    have hd := sumv_bd (s.data.toList.take k)
    have hl : (s.data.toList.take k).length ≤ k := List.length_take_le _ _
    by_cases hlt : k < s.size
    · have HS := Lib.hid (show sumv (s.data.toList.take (k + 1)) = sumv (s.data.toList.take k) + (s[k].toNat : Int) by rw [take_snoc s k hlt]; exact sumv_snoc _ _)
      have hc := UInt8.toNat_lt s[k]
      go_wp2
      go_round
      case rel => exact ⟨k + 1, by omega, by go_num, by rw [HS.out]⟩
      case measure => simp [intOf]; omega
    · go_wp2
      go_ret
      exact ⟨ret_int (by rw [List.take_of_length_le (by simp; omega)]), rfl⟩

end Go.Proofs.YtancidbbkoeokabGreatDoor

/- Contracts of spec.HeadSum and impl.HeadSum. -/
namespace Go.Proofs.YtancidbbkoeokabGreatDoor
open Go.ChangeShapes Go.WideShapes Go.ChangeAt Go.RowKit

def headSumv (s : ByteArray) : Int := if s.size < 512 then -1 else sumv (s.data.toList.take 148) + 256 + sumv ((s.data.toList.take 512).drop 156)
theorem sumv_app (l m : List UInt8) : sumv (l ++ m) = sumv l + sumv m := by simp [sumv]
theorem headSum_over {s : ByteArray} (h : 512 ≤ s.size) : sumv (over (s.data.toList.take 512) 148 [32, 32, 32, 32, 32, 32, 32, 32]) = headSumv s := by
  rw [headSumv, if_neg (by omega), over, sumv_app, sumv_app, List.take_take]
  rfl
theorem headSum_bd (s : ByteArray) : -1 ≤ headSumv s ∧ headSumv s ≤ 130816 := by
  unfold headSumv
  have h1 := sumv_bd (s.data.toList.take 148)
  have h2 := sumv_bd ((s.data.toList.take 512).drop 156)
  have h3 : (s.data.toList.take 148).length ≤ 148 := List.length_take_le _ _
  have h4 : ((s.data.toList.take 512).drop 156).length ≤ 356 := by rw [List.length_drop]; have := List.length_take_le 512 s.data.toList; omega
  split <;> omega
theorem headSum_spec (s : ByteArray) (w : World) (hs : s.size ≤ 1048576) :
    Calls Tryz.prog 148 #[.string s] w fun e w' => e = .returned (.int .i64 (headSumv s)) ∧ Below w.heap.size w w' := by
  by_cases h : (s.size : Int) < 512
  · have HE : Hid (headSumv s = -1) := Lib.hid (by rw [headSumv, if_pos (by omega)])
    generalize headSumv s = r at HE
    go_enter Tryz.func148, Tryz.ntmps148
    go_wp2
    go_ret
    exact ⟨ret_int HE.out.symm, Below.refl _ _⟩
  · have HE : Hid (headSumv s = sumv (s.data.toList.take 148) + 256 + sumv ((s.data.toList.drop 156).take 356)) := Lib.hid (by
      rw [headSumv, if_neg (by omega), List.drop_take])
    have b1 := Lib.hid (sumv_bd (s.data.toList.take 148))
    have b2 := Lib.hid (sumv_bd ((s.data.toList.drop 156).take 356))
    have l1 := Lib.hid (List.length_take_le 148 s.data.toList)
    have l2 := Lib.hid (List.length_take_le 356 (s.data.toList.drop 156))
    have H1 := Lib.hid (fun a b w => sum_spec (s.extract a b) w (by rw [ByteArray.size_extract]; omega))
    generalize headSumv s = r at HE
    have c1 : (148 : Int) ≤ ↑s.size := by omega
    have c2 : (512 : Int) ≤ ↑s.size := by omega
    go_enter Tryz.func148, Tryz.ntmps148
    go_wp2_with fail
    go_region_held3 (fun _ => True) (trivial) (first | (go_at_call 146; refine (H1.out _ _ _).mono ?_; rintro e w3 ⟨rfl, rfl⟩))
    go_wp2
    go_ret
    refine ⟨?_, ⟨rfl, rfl, rfl, Nat.le_refl _, fun _ _ => rfl⟩⟩
    have b1 := b1.out
    have b2 := b2.out
    have l1 := l1.out
    have l2 := l2.out
    show Ending.returned (.int .i64 (IntKind.i64.wrap (IntKind.i64.wrap (sumv (s.data.toList.take 148) + 256) + sumv ((s.data.toList.drop 156).take 356)))) = _
    rw [IntWalk.i64_in (sumv (s.data.toList.take 148) + 256) (by omega), IntWalk.i64_in _ (by omega), HE.out]
set_option maxRecDepth 8000 in
theorem headSum_impl (s : ByteArray) (w : World) (hs : s.size ≤ 1048576) (hF : FW w) :
    Calls Tryz.prog 161 #[.string s] w fun e w' => e = .returned (.int .i64 (headSumv s)) ∧ Below w.heap.size w w' := by
  by_cases h : (s.size : Int) < 512
  · have HE : Hid (headSumv s = -1) := Lib.hid (by rw [headSumv, if_pos (by omega)])
    generalize headSumv s = r at HE
    clear hF
    go_enter Tryz.func161, Tryz.ntmps161
    go_wp2
    go_ret
    exact ⟨ret_int HE.out.symm, Below.refl _ _⟩
  · have HE := Lib.hid (headSum_over (s := s) (by omega))
    have H1 := Lib.hid (fun w => blockOf_any s w (by omega))
    have hl : (s.data.toList.take 512).length = 512 := by simp; omega
    have H2 := Lib.hid (fun g w hF hB => put_any g 6 8 (s.data.toList.take 512) ⟨#[32, 32, 32, 32, 32, 32, 32, 32]⟩ w (by omega) rfl (by decide) hF hB)
    rw [show offs 6 = 148 from rfl, show (⟨#[32, 32, 32, 32, 32, 32, 32, 32]⟩ : ByteArray).data.toList = [32, 32, 32, 32, 32, 32, 32, 32] from rfl] at H2
    have HM : Hid ((over (s.data.toList.take 512) 148 [32, 32, 32, 32, 32, 32, 32, 32]).length = 512) := Lib.hid (by rw [over_len (by rw [hl]; decide), hl])
    have hz := fun w => zero_blk w
    have HS := Lib.hid (fun w => run_storeVar_new (P := Tryz.prog) w 123 (Lib.byteCells zeros512).toArray (Lib.byteCells (s.data.toList.take 512)).toArray (by rw [Tryz.sizeBlk, List.size_toArray, Lib.byteCells_length, hl]) (by rw [List.size_toArray, List.size_toArray, Lib.byteCells_length, Lib.byteCells_length, hl]; exact List.length_replicate) (bc_one _))
    have HN := Lib.hid (fun w => Blk.new w (s.data.toList.take 512) hl)
    generalize over (s.data.toList.take 512) 148 [32, 32, 32, 32, 32, 32, 32, 32] = m at *
    generalize s.data.toList.take 512 = l at *
    generalize headSumv s = r at *
    generalize (Lib.byteCells zeros512).toArray = Z at *
    have HSum := Lib.hid (fun w => sum_impl ⟨m.toArray⟩ w (by simp [ByteArray.size]; have := HM.out; omega))
    rw [show (⟨m.toArray⟩ : ByteArray).data.toList = m from rfl, HE.out] at HSum
    have HF := Lib.hid hF
    clear hF HE HM hl hs
    go_enter Tryz.func161, Tryz.ntmps161
    go_wp2_with fail
    refine (H1.out _).mono ?_
    rintro e w1 ⟨rfl, hb1⟩
    have B1 := Lib.hid hb1
    have F1 := Lib.hid (HF.out.below hb1)
    clear hb1 HF
    go_wp2_with ((with_reducible refine wpList_store_eq rfl 123 _ _ rfl ⟨w1.heap.size, 0, none⟩ ?_ ?_ (HS.out w1) ?_); rfl; rfl)
    have l1 : w.heap.size ≤ w1.heap.size := B1.out.size
    have B1' := Lib.hid (B1.out.alloc l1 (.cells (Lib.byteCells l).toArray 123))
    refine (H2.out w1.heap.size _ (F1.out.below ((Below.refl _ _).alloc (Nat.le_refl _) _)) (HN.out _)).mono ?_
    rintro e w2 ⟨rfl, hk2, hz2, hb2⟩
    have B2 := Lib.hid (B1'.out.trans (hb2 _ l1))
    have hc := hk2.conv
    clear hk2 hz2 hb2 B1 B1' F1 HN HS
    go_wp2_with fail
    refine (HSum.out _).mono ?_
    rintro e w3 ⟨rfl, rfl⟩
    go_wp2
    go_ret
    exact ⟨rfl, B2.out⟩
end Go.Proofs.YtancidbbkoeokabGreatDoor

/- Where Split divides a path: plain lists only. -/
namespace Go.Proofs.YtancidbbkoeokabGreatDoor
open Go.RowKit Go.Shelf

theorem idx_hit (l : List UInt8) : ∀ i : Nat, Lib.indexByte l 47 = i → i < l.length ∧ l[i]? = some 47 ∧ ∀ j, j < i → l[j]? ≠ some 47 := by
  induction l with
  | nil => intro i h; simp [Lib.indexByte] at h
  | cons b r ih =>
    intro i h
    by_cases hb : b = 47
    · subst hb
      simp [Lib.indexByte] at h
      obtain rfl : i = 0 := by omega
      exact ⟨by simp, by simp, fun j hj => absurd hj (by omega)⟩
    · have hb' : (b == 47) = false := by simpa using hb
      rw [Lib.indexByte, hb'] at h
      by_cases hr : Lib.indexByte r 47 = -1
      · rw [if_neg (by simp), if_pos (by simpa using hr)] at h; omega
      · rw [if_neg (by simp), if_neg (by simpa using hr)] at h
        obtain ⟨j, rfl⟩ : ∃ j, i = j + 1 := ⟨i - 1, by have g := Lib.indexByte_ge r 47; omega⟩
        obtain ⟨h1, h2, h3⟩ := ih j (by omega)
        refine ⟨by simp; omega, by simpa using h2, ?_⟩
        intro k hk
        cases k with
        | zero => simpa using hb
        | succ k => simpa using h3 k (by omega)
theorem partsL_tail (b : List UInt8) (hb : Lib.indexByte b 47 = -1) (a : List UInt8) : ∀ cur, ∃ x ∈ partsL cur (a ++ b), b.length ≤ x.length := by
  induction a with
  | nil => intro cur; exact ⟨cur ++ b, by rw [List.nil_append, partsL_miss _ _ hb]; simp, by simp⟩
  | cons c r ih =>
    intro cur
    by_cases hc : c = 47
    · obtain ⟨x, hx, hl⟩ := ih []
      exact ⟨x, by simp only [List.cons_append, partsL, hc, if_true]; exact List.mem_cons_of_mem _ hx, hl⟩
    · obtain ⟨x, hx, hl⟩ := ih (cur ++ [c])
      exact ⟨x, by simp only [List.cons_append, partsL, hc, if_false]; exact hx, hl⟩
theorem part_60 {s x : ByteArray} (hp : pathOkv s = true) (hx : x ∈ partsv s) : x.size ≤ 60 := by
  simp only [pathOkv, Bool.and_eq_true, List.all_eq_true] at hp
  have := hp.2 x hx
  simp only [partOkv, Bool.and_eq_true, decide_eq_true_eq] at this
  omega
theorem path_200 {s : ByteArray} (hp : pathOkv s = true) : s.size ≤ 200 := by
  simp only [pathOkv, Bool.and_eq_true, decide_eq_true_eq] at hp
  exact hp.1
/-- Where the first slash stands after which at most 100 bytes remain. -/
def slashv (s : ByteArray) : Nat := s.size - 101 + (Lib.indexByte (s.data.toList.drop (s.size - 101)) 47).toNat
theorem slash_there {s : ByteArray} (hp : pathOkv s = true) (h : 100 < s.size) :
    Lib.indexByte (s.data.toList.drop (s.size - 101)) 47 = ((slashv s - (s.size - 101) : Nat) : Int) ∧ s.size - 101 ≤ slashv s ∧ slashv s < s.size ∧ (∀ q : slashv s < s.size, s[slashv s] = 47) ∧ ∀ j (q : j < s.size), s.size - 101 ≤ j → j < slashv s → ¬ s[j] = 47 := by
  have hge := Lib.indexByte_ge (s.data.toList.drop (s.size - 101)) 47
  have hne : Lib.indexByte (s.data.toList.drop (s.size - 101)) 47 ≠ -1 := by
    intro hm
    obtain ⟨x, hx, hl⟩ := partsL_tail _ hm (s.data.toList.take (s.size - 101)) []
    rw [List.take_append_drop] at hx
    have h1 := part_60 hp (List.mem_map.2 ⟨x, hx, rfl⟩)
    rw [baL_size] at h1
    simp at hl
    omega
  obtain ⟨i, hi⟩ := Int.eq_ofNat_of_zero_le (show 0 ≤ Lib.indexByte (s.data.toList.drop (s.size - 101)) 47 by omega)
  have hs : slashv s = s.size - 101 + i := by rw [slashv, hi]; rfl
  obtain ⟨a, b, c⟩ := idx_hit _ i hi
  have hlt : s.size - 101 + i < s.size := by simp at a; omega
  refine ⟨by rw [hi, hs]; congr 1; omega, by omega, by omega, ?_, ?_⟩
  · intro q
    rw [List.getElem?_drop] at b
    have e : s.data.toList[s.size - 101 + i]? = some s[s.size - 101 + i] := by
      rw [List.getElem?_eq_getElem (by simpa using hlt)]; rfl
    rw [e] at b
    simp only [hs]
    exact Option.some.inj b
  · intro j q hj hlt2
    have hc := c (j - (s.size - 101)) (by omega)
    rw [List.getElem?_drop, show s.size - 101 + (j - (s.size - 101)) = j from by omega] at hc
    intro e
    apply hc
    rw [List.getElem?_eq_getElem (by simpa using q)]
    exact congrArg some e

def splitOk (s : ByteArray) : Bool := pathOkv s && (decide (s.size ≤ 100) || decide (slashv s ≤ 155))
def splitP (s : ByteArray) : ByteArray := if splitOk s = true ∧ 100 < s.size then s.extract 0 (slashv s) else ⟨#[]⟩
def splitN (s : ByteArray) : ByteArray := if splitOk s = true then (if s.size ≤ 100 then s else s.extract (slashv s + 1) s.size) else ⟨#[]⟩
theorem split_no {s : ByteArray} (h : splitOk s = false) : splitP s = ⟨#[]⟩ ∧ splitN s = ⟨#[]⟩ := by simp [splitP, splitN, h]
theorem split_short {s : ByteArray} (h : pathOkv s = true) (hs : s.size ≤ 100) : splitOk s = true ∧ splitP s = ⟨#[]⟩ ∧ splitN s = s := by
  have h1 : splitOk s = true := by simp [splitOk, h, hs]
  exact ⟨h1, by simp [splitP]; intro _ h2; omega, by simp [splitN, h1, hs]⟩
theorem split_long {s : ByteArray} (h : pathOkv s = true) (hs : 100 < s.size) (hl : slashv s ≤ 155) : splitOk s = true ∧ splitP s = s.extract 0 (slashv s) ∧ splitN s = s.extract (slashv s + 1) s.size := by
  have h1 : splitOk s = true := by simp [splitOk, h, hl]
  exact ⟨h1, by rw [splitP, if_pos ⟨h1, hs⟩], by rw [splitN, if_pos h1, if_neg (by omega)]⟩
theorem split_far {s : ByteArray} (hs : 100 < s.size) (hl : ¬ slashv s ≤ 155) : splitOk s = false := by simp [splitOk, hl]; intro _; omega
theorem split_bad {s : ByteArray} (h : pathOkv s = false) : splitOk s = false := by simp [splitOk, h]
end Go.Proofs.YtancidbbkoeokabGreatDoor

/- Contract of strings.Clone: the same bytes. -/
namespace Go.Proofs.YtancidbbkoeokabGreatDoor
open Go.ChangeShapes Go.WideShapes Go.ChangeAt Go.RowKit

theorem clone_any (s : ByteArray) (w : World) (hs : s.size ≤ 281474976710656) :
    Calls Tryz.prog 104 #[.string s] w fun e w' => e = .returned (.string s) ∧ Below w.heap.size w w' := by
  go_enter Tryz.func104, Tryz.ntmps104
  go_wp2_with (go_at_call 160; refine (Tryz.stringslite_Clone _ _ hs).mono ?_; rintro e w' ⟨rfl, hb⟩)
  go_ret
  exact ⟨rfl, hb⟩
end Go.Proofs.YtancidbbkoeokabGreatDoor

/- Contracts of spec.Split and impl.Split. -/
namespace Go.Proofs.YtancidbbkoeokabGreatDoor
open Go.RowKit Go.Shelf

theorem ret_split {a b c d : ByteArray} {x y : Bool} (h1 : a = c) (h2 : b = d) (h3 : x = y) : Ending.returned (.tuple #[.string a, .string b, .bool x]) = .returned (.tuple #[.string c, .string d, .bool y]) := by rw [h1, h2, h3]
theorem bl_sp {w x w1 : World} (h1 : Below x.heap.size x w1) (os : x.os = w.os) (tape : x.tape = w.tape) (out : x.output = w.output) (hs : w.heap.size ≤ x.heap.size) (hb : ∀ k, k < w.heap.size → x.heap[k]? = w.heap[k]?) : Below w.heap.size w w1 :=
  ⟨h1.os.trans os, h1.tape.trans tape, h1.output.trans out, Nat.le_trans hs h1.size, fun k hk => (h1.block k (Nat.lt_of_lt_of_le hk hs)).trans (hb k hk)⟩
set_option maxHeartbeats 1600000 in
theorem split_spec (s : ByteArray) (w : World) (hs : s.size ≤ 4194304) :
    Calls Tryz.prog 124 #[.string s] w fun e w' => e = .returned (.tuple #[.string (splitP s), .string (splitN s), .bool (splitOk s)]) ∧ Below w.heap.size w w' := by
  have H1 := Lib.hid (fun w => pathOk_spec s w (by omega))
  cases hp : pathOkv s with
  | false =>
    have HO := Lib.hid (split_bad hp)
    have HE := Lib.hid (split_no HO.out)
    rw [hp] at H1
    clear hp
    generalize splitOk s = o at HO
    generalize splitP s = p at HE
    generalize splitN s = n at HE
    go_enter Tryz.func124, Tryz.ntmps124
    go_wp2_with fail
    refine (H1.out _).mono ?_
    rintro e w1 ⟨rfl, hb1⟩
    go_wp2_with fail
    go_ret3
    exact ⟨ret_split HE.out.1.symm HE.out.2.symm HO.out.symm, hb1⟩
  | true =>
    rw [hp] at H1
    by_cases h100 : (s.size : Int) ≤ 100
    · have HE := Lib.hid (split_short hp (by omega))
      clear hp
      generalize splitOk s = o at HE
      generalize splitP s = p at HE
      generalize splitN s = n at HE
      go_enter Tryz.func124, Tryz.ntmps124
      go_wp2_with fail
      refine (H1.out _).mono ?_
      rintro e w1 ⟨rfl, hb1⟩
      go_wp2_with fail
      go_ret3
      exact ⟨ret_split HE.out.2.1.symm HE.out.2.2.symm HE.out.1.symm, hb1⟩
    · obtain ⟨_, hge, hlt, hat, hno⟩ := slash_there hp (by omega)
      have HAT := Lib.hid hat
      have HNO := Lib.hid hno
      have HF := Lib.hid (fun h => split_far (s := s) (by omega) h)
      have HFN := Lib.hid (fun h => split_no (s := s) h)
      have HG := Lib.hid (fun h => split_long hp (by omega) h)
      clear hat hno hp
      generalize splitOk s = o at HF HG HFN
      generalize splitP s = p at HG HFN
      generalize splitN s = n at HG HFN
      generalize slashv s = sl at *
      go_enter Tryz.func124, Tryz.ntmps124
      go_wp2_with fail
      refine (H1.out _).mono ?_
      rintro e w1 ⟨rfl, hb1⟩
      have HB := Lib.hid hb1
      clear hb1
      go_wp2
      go_loop [5] (fun i => ∃ k : Nat, k ≤ sl ∧ i = .int .i64 k) (fun i => s.size - (intOf i).toNat)
      case atStart => exact ⟨0, Nat.zero_le _, rfl⟩
      case round =>
        obtain ⟨k, hk, rfl⟩ := hrel
        have hkk : k < s.size := by omega
        by_cases he : k = sl
        · subst he
          have hc : s[k] = 47 := HAT.out hkk
          have hc' : (((s[k].toNat : Nat) : Int) == 47) = true := by rw [hc]; rfl
          have q1 : (s.size : Int) - k - 1 ≤ 100 := by omega
          have c1 : (0 : Int) ≤ ↑k := by omega
          have c2 : (↑k : Int) ≤ ↑s.size := by omega
          have c3 : (0 : Int) ≤ ↑k + 1 := by omega
          have c4 : (↑k + 1 : Int) ≤ ↑s.size := by omega
          clear hc
          by_cases hf : (k : Int) ≤ 155
          · have HE := Lib.hid (HG.out (by omega))
            clear HG HF HFN HAT HNO
            go_wp2_with fail
            go_region
            go_wp2
            go_ret3
            exact ⟨ret_split HE.out.2.1.symm HE.out.2.2.symm HE.out.1.symm, ⟨HB.out.os, HB.out.tape, HB.out.output, HB.out.size, HB.out.block⟩⟩
          · have HO := Lib.hid (HF.out (by omega))
            have HE := Lib.hid (HFN.out HO.out)
            clear HG HF HFN HAT HNO
            go_wp2_with fail
            go_ret3
            exact ⟨ret_split HE.out.1.symm HE.out.2.symm HO.out.symm, HB.out⟩
        · by_cases hc : s[k] = 47
          · have hc' : (((s[k].toNat : Nat) : Int) == 47) = true := by rw [hc]; rfl
            have q1 : ¬ (s.size : Int) - k - 1 ≤ 100 := by
              intro h
              exact HNO.out k hkk (by omega) (by omega) hc
            clear hc HG HF HFN HAT HNO
            go_wp2_with fail
            go_round
            case rel => exact ⟨k + 1, by omega, by go_num⟩
            case measure => simp [intOf]; omega
          · have hc' : (((s[k].toNat : Nat) : Int) == 47) = false := by
              have : s[k].toNat ≠ 47 := fun e => hc (UInt8.toNat_inj.1 (by simpa using e))
              simp; omega
            clear hc HG HF HFN HAT HNO
            go_wp2_with fail
            go_round
            case rel => exact ⟨k + 1, by omega, by go_num⟩
            case measure => simp [intOf]; omega

set_option maxHeartbeats 1600000 in
theorem split_impl (s : ByteArray) (w : World) (hs : s.size ≤ 4194304) :
    Calls Tryz.prog 88 #[.string s] w fun e w' => e = .returned (.tuple #[.string (splitP s), .string (splitN s), .bool (splitOk s)]) ∧ Below w.heap.size w w' := by
  have H1 := Lib.hid (fun w => pathOk_impl s w (by omega))
  cases hp : pathOkv s with
  | false =>
    have HO := Lib.hid (split_bad hp)
    have HE := Lib.hid (split_no HO.out)
    rw [hp] at H1
    clear hp
    generalize splitOk s = o at HO
    generalize splitP s = p at HE
    generalize splitN s = n at HE
    go_enter Tryz.func88, Tryz.ntmps88
    go_wp2_with fail
    refine (H1.out _).mono ?_
    rintro e w1 ⟨rfl, hb1⟩
    go_wp2_with fail
    go_ret3
    exact ⟨ret_split HE.out.1.symm HE.out.2.symm HO.out.symm, hb1⟩
  | true =>
    rw [hp] at H1
    by_cases h100 : (s.size : Int) ≤ 100
    · have HE := Lib.hid (split_short hp (by omega))
      have HC := Lib.hid (fun w => clone_any s w (by omega))
      clear hp
      generalize splitOk s = o at HE
      generalize splitP s = p at HE
      generalize splitN s = n at HE
      go_enter Tryz.func88, Tryz.ntmps88
      go_wp2_with fail
      refine (H1.out _).mono ?_
      rintro e w1 ⟨rfl, hb1⟩
      go_wp2_with fail
      refine (HC.out _).mono ?_
      rintro e w2 ⟨rfl, hb2⟩
      go_wp2_with fail
      go_ret3
      exact ⟨ret_split HE.out.2.1.symm HE.out.2.2.symm HE.out.1.symm, hb1.trans (hb2.mono hb1.size)⟩
    · obtain ⟨hix, hge, hlt, -, -⟩ := slash_there hp (by omega)
      have HF := Lib.hid (fun h => split_far (s := s) (by omega) h)
      have HFN := Lib.hid (fun h => split_no (s := s) h)
      have HG := Lib.hid (fun h => split_long hp (by omega) h)
      have HX := Lib.hid (fun w => Tryz.strings_IndexByte (s.extract (s.size - 101) s.size) 47 w)
      have ed : (s.extract (s.size - 101) s.size).data.toList = s.data.toList.drop (s.size - 101) := by
        simp
        rw [List.take_of_length_le (by simp)]
      rw [ed, show (47 : Int).toNat.toUInt8 = 47 from rfl, hix] at HX
      have HC := Lib.hid (fun a b w => clone_any (s.extract a b) w (by rw [ByteArray.size_extract]; omega))
      clear hix hp ed
      generalize splitOk s = o at HF HG HFN
      generalize splitP s = p at HG HFN
      generalize splitN s = n at HG HFN
      generalize slashv s = sl at *
      obtain ⟨f, hf⟩ : ∃ f : Nat, s.size = f + 101 := ⟨s.size - 101, by omega⟩
      rw [show s.size - 101 = f from by omega] at HX hge
      have c0 : (s.size : Int) - 100 - 1 = (f : Int) := by omega
      have c1 : (0 : Int) ≤ ↑f := by omega
      have c2 : (↑f : Int) ≤ ↑s.size := by omega
      have c5 : (f : Int) + ((sl - f : Nat) : Int) = (sl : Int) := by omega
      have HS := Lib.hid hf
      clear hf
      go_enter Tryz.func88, Tryz.ntmps88
      go_wp2_with fail
      refine (H1.out _).mono ?_
      rintro e w1 ⟨rfl, hb1⟩
      have HB := Lib.hid hb1
      clear hb1
      go_wp2_with fail
      refine (HX.out _).mono ?_
      rintro e w2 ⟨rfl, rfl⟩
      by_cases hq : (sl : Int) ≤ 155
      · have HE := Lib.hid (HG.out (by omega))
        clear HG HF HFN
        go_wp2_with fail
        have c7 : (0 : Int) ≤ ↑sl + 1 := by omega
        have c8 : (↑sl + 1 : Int) ≤ ↑s.size := by omega
        have c6 : (↑sl : Int) ≤ ↑s.size := by omega
        have c9 : IntKind.i64.wrap ((sl : Int) + 1) = (sl : Int) + 1 := IntWalk.i64_in _ (by omega)
        go_region_held3 (fun _ => True) (trivial) (first | (go_at_call 104; refine (HC.out _ _ _).mono ?_; rintro e w3 ⟨rfl, hb⟩; replace HB := Lib.hid (bl_sp hb HB.out.os HB.out.tape HB.out.output HB.out.size HB.out.block); clear hb))
        go_wp2
        go_ret3
        exact ⟨ret_split HE.out.2.1.symm HE.out.2.2.symm HE.out.1.symm, HB.out⟩
      · have HO := Lib.hid (HF.out (by omega))
        have HE := Lib.hid (HFN.out HO.out)
        clear HG HF HFN
        go_wp2_with fail
        go_ret3
        exact ⟨ret_split HE.out.1.symm HE.out.2.symm HO.out.symm, HB.out⟩
end Go.Proofs.YtancidbbkoeokabGreatDoor

/- Contracts of impl.upTo, impl.userOk, impl.symLinkOk. -/
namespace Go.Proofs.YtancidbbkoeokabGreatDoor
open Go.ChangeShapes Go.WideShapes Go.ChangeAt Go.RowKit

theorem upTo_any (x b : Int) (w : World) : Calls Tryz.prog 171 #[.int .i64 x, .int .i64 b] w fun e w' => e = .returned (.bool (inB x 0 b)) ∧ w = w' := by
  by_cases h1 : 0 ≤ x
  · by_cases h2 : x ≤ b
    · go_enter Tryz.func171, Tryz.ntmps171
      go_wp2
      go_ret
      exact ⟨by simp [inB]; omega, rfl⟩
    · go_enter Tryz.func171, Tryz.ntmps171
      go_wp2
      go_ret
      exact ⟨by simp [inB]; omega, rfl⟩
  · go_enter Tryz.func171, Tryz.ntmps171
    go_wp2
    go_ret
    exact ⟨by simp [inB]; omega, rfl⟩
theorem whob_t {c : UInt8} (h : whob c = true) : ((97 : Int) ≤ ((c.toNat : Nat) : Int) ∧ ((c.toNat : Nat) : Int) ≤ 122) ∨ ((48 : Int) ≤ ((c.toNat : Nat) : Int) ∧ ((c.toNat : Nat) : Int) ≤ 57) ∨ ((c.toNat : Nat) : Int) = 95 := by
  simp [whob] at h; omega
theorem whob_f {c : UInt8} (h : whob c = false) : ((c.toNat : Nat) : Int) < 48 ∨ ((57 : Int) < ((c.toNat : Nat) : Int) ∧ ((c.toNat : Nat) : Int) < 97 ∧ ¬ ((c.toNat : Nat) : Int) = 95) ∨ (122 : Int) < ((c.toNat : Nat) : Int) := by
  simp [whob] at h; omega
set_option maxHeartbeats 800000 in
theorem userOk_impl (s : ByteArray) (w : World) (hs : s.size ≤ 4194304) :
    Calls Tryz.prog 210 #[.string s] w fun e w' => e = .returned (.bool (whov s)) ∧ Below w.heap.size w w' := by
  have HB : Hid (∀ k, (h : k < s.size) → whob s[k] = false → whov s = false) := Lib.hid (fun k h hc => by rw [whov, allB_bad h hc]; rfl)
  have HD : Hid (AllB whob s s.size → s.size ≤ 20 → whov s = true) := Lib.hid (fun h h2 => by rw [whov, h.done, decide_eq_true h2]; rfl)
  have HZ : Hid (20 < s.size → whov s = false) := Lib.hid (fun h => by rw [whov, decide_eq_false (by omega)]; simp)
  generalize whov s = r at HB HD HZ
  by_cases hz : 20 < s.size
  · have hz2 : (20 : Int) < (s.size : Int) := by omega
    have HF := Lib.hid (HZ.out hz)
    go_enter Tryz.func210, Tryz.ntmps210
    go_wp2_with fail
    go_ret
    exact ⟨ret_bool HF.out.symm, Below.refl _ _⟩
  have hz2 : ¬ (20 : Int) < (s.size : Int) := by omega
  have hz3 : s.size ≤ 20 := by omega
  clear HZ
  go_enter Tryz.func210, Tryz.ntmps210
  go_wp2_with fail
  go_loopw [3, 4, 10] (fun _ _ u wr => ∃ i : Nat, u = .int .i64 i ∧ i ≤ s.size ∧ AllB whob s i ∧ Below w.heap.size w wr) (fun _ _ u _ => s.size - (intOf u).toNat)
  case atStart => exact ⟨0, rfl, Nat.zero_le _, AllB.start _ _, Below.refl _ _⟩
  case round =>
    obtain ⟨i, rfl, hi, hr, hb⟩ := hrel
    have HR := Lib.hid hr
    have B := Lib.hid hb
    clear hr hb
    by_cases hlt : i < s.size
    · have hlt2 : (i : Int) < (s.size : Int) := by omega
      have h8 := (s[i]).toNat_lt
      cases hc : whob s[i] with
      | false =>
        have HF : Hid (r = false) := Lib.hid (HB.out i hlt hc)
        have hq := whob_f hc
        clear hc HB HD HR
        generalize hx : ((s[i].toNat : Nat) : Int) = x at hq h8
        have HX := Lib.hid hx
        rcases hq with h | ⟨h, h2, h3⟩ | h
        · have a1 : ¬ (97 : Int) ≤ x := by omega
          have a3 : ¬ (48 : Int) ≤ x := by omega
          have a5 : ¬ x = 95 := by omega
          rw [← hx] at a1 a3 a5
          have a6 : (!(((s[i].toNat : Nat) : Int) == 95)) = true := by simpa using a5
          clear hx h HX a5
          go_wp2_with fail
          go_ret
          exact ⟨ret_bool HF.out.symm, B.out⟩
        · have a1 : ¬ (97 : Int) ≤ x := by omega
          have a3 : (48 : Int) ≤ x := by omega
          have a4 : ¬ x ≤ 57 := by omega
          rw [← hx] at a1 a3 a4 h3
          have a6 : (!(((s[i].toNat : Nat) : Int) == 95)) = true := by simpa using h3
          clear hx h HX h3 h2
          go_wp2_with fail
          go_ret
          exact ⟨ret_bool HF.out.symm, B.out⟩
        · have a1 : (97 : Int) ≤ x := by omega
          have a2 : ¬ x ≤ 122 := by omega
          have a3 : (48 : Int) ≤ x := by omega
          have a4 : ¬ x ≤ 57 := by omega
          have a5 : ¬ x = 95 := by omega
          rw [← hx] at a1 a2 a3 a4 a5
          have a6 : (!(((s[i].toNat : Nat) : Int) == 95)) = true := by simpa using a5
          clear hx h HX a5
          go_wp2_with fail
          go_ret
          exact ⟨ret_bool HF.out.symm, B.out⟩
      | true =>
        have HS := Lib.hid (HR.out.step hlt hc)
        have hq := whob_t hc
        clear hc HB HD HR
        by_cases a1 : (97 : Int) ≤ ((s[i].toNat : Nat) : Int)
        · have a2 : ((s[i].toNat : Nat) : Int) ≤ 122 := by omega
          clear hq
          go_wp2_with fail
          go_roundw
          case rel => exact ⟨i + 1, by go_num, by omega, HS.out, B.out⟩
          case measure => simp [intOf]; omega
        · by_cases a4 : ((s[i].toNat : Nat) : Int) ≤ 57
          · have a3 : (48 : Int) ≤ ((s[i].toNat : Nat) : Int) := by omega
            clear hq
            go_wp2_with fail
            go_roundw
            case rel => exact ⟨i + 1, by go_num, by omega, HS.out, B.out⟩
            case measure => simp [intOf]; omega
          · have a3 : (48 : Int) ≤ ((s[i].toNat : Nat) : Int) := by omega
            have a5 : ((s[i].toNat : Nat) : Int) = 95 := by omega
            clear hq
            go_wp2_with fail
            go_roundw
            case rel => exact ⟨i + 1, by go_num, by omega, HS.out, B.out⟩
            case measure => simp [intOf]; omega
    · obtain rfl : i = s.size := by omega
      have hlt2 : ¬ (s.size : Int) < (s.size : Int) := by omega
      have HF : Hid (r = true) := Lib.hid (HD.out HR.out hz3)
      go_wp2_with fail
      go_ret
      exact ⟨ret_bool HF.out.symm, B.out⟩
theorem symLinkOk_impl (s : ByteArray) (w : World) (hs : s.size ≤ 4194304) :
    Calls Tryz.prog 185 #[.string s] w fun e w' => e = .returned (.bool (inB s.size 1 150 && signv s)) ∧ Below w.heap.size w w' := by
  have H1 := Lib.hid (fun w => visible_impl s w (by omega))
  generalize signv s = r at H1
  by_cases hz : (1 : Int) ≤ (s.size : Int)
  · by_cases hz2 : (s.size : Int) ≤ 150
    · have hq : inB (s.size : Int) 1 150 = true := inB_t (by omega)
      rw [hq, Bool.true_and]
      clear hq
      go_enter Tryz.func185, Tryz.ntmps185
      go_wp2_with fail
      refine (H1.out _).mono ?_
      rintro e _ ⟨rfl, rfl⟩
      go_wp2_with fail
      go_ret
      exact ⟨rfl, Below.refl _ _⟩
    · have hq : inB (s.size : Int) 1 150 = false := inB_f (by omega)
      rw [hq]
      go_enter Tryz.func185, Tryz.ntmps185
      go_wp2_with fail
      go_ret
      exact ⟨rfl, Below.refl _ _⟩
  · have hq : inB (s.size : Int) 1 150 = false := inB_f (by omega)
    rw [hq]
    go_enter Tryz.func185, Tryz.ntmps185
    go_wp2_with fail
    go_ret
    exact ⟨rfl, Below.refl _ _⟩
end Go.Proofs.YtancidbbkoeokabGreatDoor

/- Contract of impl.EntryOk: the four kinds and what they share. -/
namespace Go.Proofs.YtancidbbkoeokabGreatDoor
open Go.ChangeShapes Go.WideShapes Go.ChangeAt Go.RowKit Go.Deep

/-- What all kinds ask. -/
def fieldsv (e : Ent) : Bool := pathOkv e.path && inB e.mode 0 4095 && inB e.uid 0 4294967295 && inB e.gid 0 4294967295 && inB e.time 0 99999999999 && whov e.user && whov e.group
set_option maxHeartbeats 3200000 in
theorem fieldsOk_impl (k : Int) (p l : ByteArray) (m u g t : Int) (us gr b : ByteArray) (w : World) (hp : p.size ≤ 4194304) (hus : us.size ≤ 4194304) (hgr : gr.size ≤ 4194304) :
    Calls Tryz.prog 184 #[.agg #[.int .i64 k, .string p, .string l, .int .i64 m, .int .i64 u, .int .i64 g, .int .i64 t, .string us, .string gr, .string b]] w fun e w' => e = .returned (.bool (fieldsv ⟨k, p, l, m, u, g, t, us, gr, b⟩)) ∧ Below w.heap.size w w' := by
  have H1 := Lib.hid (fun w => pathOk_impl p w (by omega))
  have H2 := Lib.hid (fun w => upTo_any m 4095 w)
  have H3 := Lib.hid (fun w => upTo_any u 4294967295 w)
  have H4 := Lib.hid (fun w => upTo_any g 4294967295 w)
  have H5 := Lib.hid (fun w => upTo_any t 99999999999 w)
  have H6 := Lib.hid (fun w => userOk_impl us w hus)
  have H7 := Lib.hid (fun w => userOk_impl gr w hgr)
  have HE : Hid (fieldsv ⟨k, p, l, m, u, g, t, us, gr, b⟩ = (pathOkv p && inB m 0 4095 && inB u 0 4294967295 && inB g 0 4294967295 && inB t 0 99999999999 && whov us && whov gr)) := Lib.hid rfl
  generalize fieldsv ⟨k, p, l, m, u, g, t, us, gr, b⟩ = r at HE
  generalize pathOkv p = b1 at H1 HE
  generalize inB m 0 4095 = b2 at H2 HE
  generalize inB u 0 4294967295 = b3 at H3 HE
  generalize inB g 0 4294967295 = b4 at H4 HE
  generalize inB t 0 99999999999 = b5 at H5 HE
  generalize whov us = b6 at H6 HE
  generalize whov gr = b7 at H7 HE
  clear hp hus hgr
  go_enter Tryz.func184, Tryz.ntmps184
  go_wp2_with fail
  refine (H1.out _).mono ?_
  rintro e w1 ⟨rfl, hb⟩
  obtain ⟨k1, bb, z1⟩ := one_new (e1 := ⟨k, p, l, m, u, g, t, us, gr, b⟩) hb
  have E := Lib.hid k1
  have B := Lib.hid bb
  clear hb k1 bb
  obtain ⟨c0, c1, c2, c3, c4, c5, c6, c7, c8, c9⟩ := E.out.zero
  cases b1 with
  | false =>
    go_wp2_with fail
    go_ret
    exact ⟨ret_bool (by rw [HE.out]; simp), B.out⟩
  | true =>
    go_wp2_with fail
    refine (H2.out _).mono ?_
    rintro e _ ⟨rfl, rfl⟩
    cases b2 with
    | false =>
      go_wp2_with fail
      go_ret
      exact ⟨ret_bool (by rw [HE.out]; simp), B.out⟩
    | true =>
      go_wp2_with fail
      refine (H3.out _).mono ?_
      rintro e _ ⟨rfl, rfl⟩
      cases b3 with
      | false =>
        go_wp2_with fail
        go_ret
        exact ⟨ret_bool (by rw [HE.out]; simp), B.out⟩
      | true =>
        go_wp2_with fail
        refine (H4.out _).mono ?_
        rintro e _ ⟨rfl, rfl⟩
        cases b4 with
        | false =>
          go_wp2_with fail
          go_ret
          exact ⟨ret_bool (by rw [HE.out]; simp), B.out⟩
        | true =>
          go_wp2_with fail
          refine (H5.out _).mono ?_
          rintro e _ ⟨rfl, rfl⟩
          cases b5 with
          | false =>
            go_wp2_with fail
            go_ret
            exact ⟨ret_bool (by rw [HE.out]; simp), B.out⟩
          | true =>
            go_wp2_with fail
            refine (H6.out _).mono ?_
            rintro e w6 ⟨rfl, hb⟩
            replace E := Lib.hid (E.out.below hb (by omega))
            replace B := Lib.hid (btE B.out hb)
            replace z1 := Nat.le_trans z1 hb.size
            clear hb c0 c1 c2 c3 c4 c5 c6 c7 c8 c9
            obtain ⟨c0, c1, c2, c3, c4, c5, c6, c7, c8, c9⟩ := E.out.zero
            cases b6 with
            | false =>
              go_wp2_with fail
              go_ret
              exact ⟨ret_bool (by rw [HE.out]; simp), B.out⟩
            | true =>
              go_wp2_with fail
              refine (H7.out _).mono ?_
              rintro e w7 ⟨rfl, hb⟩
              replace E := Lib.hid (E.out.below hb (by omega))
              replace B := Lib.hid (btE B.out hb)
              replace z1 := Nat.le_trans z1 hb.size
              clear hb c0 c1 c2 c3 c4 c5 c6 c7 c8 c9
              obtain ⟨c0, c1, c2, c3, c4, c5, c6, c7, c8, c9⟩ := E.out.zero
              cases b7 with
              | false =>
                go_wp2_with fail
                go_ret
                exact ⟨ret_bool (by rw [HE.out]; simp), B.out⟩
              | true =>
                go_wp2_with fail
                go_ret
                exact ⟨ret_bool (by rw [HE.out]; simp), B.out⟩
set_option maxHeartbeats 3200000 in
theorem fileOk_impl (k : Int) (p l : ByteArray) (m u g t : Int) (us gr b : ByteArray) (w : World) (hp : p.size ≤ 4194304) (hus : us.size ≤ 4194304) (hgr : gr.size ≤ 4194304) :
    Calls Tryz.prog 138 #[.agg #[.int .i64 k, .string p, .string l, .int .i64 m, .int .i64 u, .int .i64 g, .int .i64 t, .string us, .string gr, .string b]] w fun e w' => e = .returned (.bool (fieldsv ⟨k, p, l, m, u, g, t, us, gr, b⟩ && (decide (l.size = 0) && decide (b.size ≤ 3000)))) ∧ Below w.heap.size w w' := by
  have H1 := Lib.hid (fun w => fieldsOk_impl k p l m u g t us gr b w hp hus hgr)
  generalize fieldsv ⟨k, p, l, m, u, g, t, us, gr, b⟩ = b1 at H1 ⊢
  go_enter Tryz.func138, Tryz.ntmps138
  go_wp2_with fail
  refine (H1.out _).mono ?_
  rintro e w1 ⟨rfl, hb⟩
  obtain ⟨k1, bb, z1⟩ := one_new (e1 := ⟨k, p, l, m, u, g, t, us, gr, b⟩) hb
  have E := Lib.hid k1
  have B := Lib.hid bb
  clear hb k1 bb
  obtain ⟨c0, c1, c2, c3, c4, c5, c6, c7, c8, c9⟩ := E.out.zero
  cases b1 with
  | false =>
    go_wp2_with fail
    go_ret
    exact ⟨ret_bool (by simp), B.out⟩
  | true =>
    by_cases ql : l.size = 0
    · have ql2 := empty_t ql
      by_cases qb : b.size ≤ 3000
      · have qb2 : (b.size : Int) ≤ 3000 := by omega
        go_wp2_with fail
        go_ret
        exact ⟨ret_bool (by simp [ql, qb]), B.out⟩
      · have qb2 : ¬ (b.size : Int) ≤ 3000 := by omega
        go_wp2_with fail
        go_ret
        exact ⟨ret_bool (by rw [decide_eq_false qb]; simp; try omega), B.out⟩
    · have ql2 := empty_f ql
      go_wp2_with fail
      go_ret
      exact ⟨ret_bool (by simp [ql]), B.out⟩
set_option maxHeartbeats 3200000 in
theorem dirOk_impl (k : Int) (p l : ByteArray) (m u g t : Int) (us gr b : ByteArray) (w : World) (hp : p.size ≤ 4194304) (hus : us.size ≤ 4194304) (hgr : gr.size ≤ 4194304) :
    Calls Tryz.prog 139 #[.agg #[.int .i64 k, .string p, .string l, .int .i64 m, .int .i64 u, .int .i64 g, .int .i64 t, .string us, .string gr, .string b]] w fun e w' => e = .returned (.bool (fieldsv ⟨k, p, l, m, u, g, t, us, gr, b⟩ && (decide (l.size = 0) && decide (b.size = 0)))) ∧ Below w.heap.size w w' := by
  have H1 := Lib.hid (fun w => fieldsOk_impl k p l m u g t us gr b w hp hus hgr)
  generalize fieldsv ⟨k, p, l, m, u, g, t, us, gr, b⟩ = b1 at H1 ⊢
  go_enter Tryz.func139, Tryz.ntmps139
  go_wp2_with fail
  refine (H1.out _).mono ?_
  rintro e w1 ⟨rfl, hb⟩
  obtain ⟨k1, bb, z1⟩ := one_new (e1 := ⟨k, p, l, m, u, g, t, us, gr, b⟩) hb
  have E := Lib.hid k1
  have B := Lib.hid bb
  clear hb k1 bb
  obtain ⟨c0, c1, c2, c3, c4, c5, c6, c7, c8, c9⟩ := E.out.zero
  cases b1 with
  | false =>
    go_wp2_with fail
    go_ret
    exact ⟨ret_bool (by simp), B.out⟩
  | true =>
    by_cases ql : l.size = 0
    · have ql2 := empty_t ql
      by_cases qb : b.size = 0
      · have qb2 := empty_t qb
        go_wp2_with fail
        go_ret
        exact ⟨ret_bool (by simp [ql, qb]), B.out⟩
      · have qb2 := empty_f qb
        go_wp2_with fail
        go_ret
        exact ⟨ret_bool (by simp [qb]), B.out⟩
    · have ql2 := empty_f ql
      go_wp2_with fail
      go_ret
      exact ⟨ret_bool (by simp [ql]), B.out⟩
set_option maxHeartbeats 3200000 in
theorem symOk_impl (k : Int) (p l : ByteArray) (m u g t : Int) (us gr b : ByteArray) (w : World) (hp : p.size ≤ 4194304) (hl : l.size ≤ 4194304) (hus : us.size ≤ 4194304) (hgr : gr.size ≤ 4194304) :
    Calls Tryz.prog 140 #[.agg #[.int .i64 k, .string p, .string l, .int .i64 m, .int .i64 u, .int .i64 g, .int .i64 t, .string us, .string gr, .string b]] w fun e w' => e = .returned (.bool (fieldsv ⟨k, p, l, m, u, g, t, us, gr, b⟩ && (inB l.size 1 150 && signv l && decide (b.size = 0)))) ∧ Below w.heap.size w w' := by
  have H1 := Lib.hid (fun w => fieldsOk_impl k p l m u g t us gr b w hp hus hgr)
  have H2 := Lib.hid (fun w => symLinkOk_impl l w hl)
  generalize (inB (l.size : Int) 1 150 && signv l) = b2 at H2 ⊢
  generalize fieldsv ⟨k, p, l, m, u, g, t, us, gr, b⟩ = b1 at H1 ⊢
  go_enter Tryz.func140, Tryz.ntmps140
  go_wp2_with fail
  refine (H1.out _).mono ?_
  rintro e w1 ⟨rfl, hb⟩
  obtain ⟨k1, bb, z1⟩ := one_new (e1 := ⟨k, p, l, m, u, g, t, us, gr, b⟩) hb
  have E := Lib.hid k1
  have B := Lib.hid bb
  clear hb k1 bb
  obtain ⟨c0, c1, c2, c3, c4, c5, c6, c7, c8, c9⟩ := E.out.zero
  cases b1 with
  | false =>
    go_wp2_with fail
    go_ret
    exact ⟨ret_bool (by simp), B.out⟩
  | true =>
    go_wp2_with fail
    refine (H2.out _).mono ?_
    rintro e w2 ⟨rfl, hb⟩
    replace E := Lib.hid (E.out.below hb (by omega))
    replace B := Lib.hid (btE B.out hb)
    replace z1 := Nat.le_trans z1 hb.size
    clear hb c0 c1 c2 c3 c4 c5 c6 c7 c8 c9
    obtain ⟨c0, c1, c2, c3, c4, c5, c6, c7, c8, c9⟩ := E.out.zero
    cases b2 with
    | false =>
      go_wp2_with fail
      go_ret
      exact ⟨ret_bool (by simp), B.out⟩
    | true =>
      by_cases qb : b.size = 0
      · have qb2 := empty_t qb
        go_wp2_with fail
        go_ret
        exact ⟨ret_bool (by simp [qb]), B.out⟩
      · have qb2 := empty_f qb
        go_wp2_with fail
        go_ret
        exact ⟨ret_bool (by simp [qb]), B.out⟩
set_option maxHeartbeats 3200000 in
theorem hardOk_impl (k : Int) (p l : ByteArray) (m u g t : Int) (us gr b : ByteArray) (w : World) (hp : p.size ≤ 4194304) (hl : l.size ≤ 4194304) (hus : us.size ≤ 4194304) (hgr : gr.size ≤ 4194304) :
    Calls Tryz.prog 141 #[.agg #[.int .i64 k, .string p, .string l, .int .i64 m, .int .i64 u, .int .i64 g, .int .i64 t, .string us, .string gr, .string b]] w fun e w' => e = .returned (.bool (fieldsv ⟨k, p, l, m, u, g, t, us, gr, b⟩ && (pathOkv l && decide (l ≠ p) && decide (b.size = 0)))) ∧ Below w.heap.size w w' := by
  have H1 := Lib.hid (fun w => fieldsOk_impl k p l m u g t us gr b w hp hus hgr)
  have H2 := Lib.hid (fun w => pathOk_impl l w (by omega))
  generalize pathOkv l = b2 at H2 ⊢
  generalize fieldsv ⟨k, p, l, m, u, g, t, us, gr, b⟩ = b1 at H1 ⊢
  go_enter Tryz.func141, Tryz.ntmps141
  go_wp2_with fail
  refine (H1.out _).mono ?_
  rintro e w1 ⟨rfl, hb⟩
  obtain ⟨k1, bb, z1⟩ := one_new (e1 := ⟨k, p, l, m, u, g, t, us, gr, b⟩) hb
  have E := Lib.hid k1
  have B := Lib.hid bb
  clear hb k1 bb
  obtain ⟨c0, c1, c2, c3, c4, c5, c6, c7, c8, c9⟩ := E.out.zero
  cases b1 with
  | false =>
    go_wp2_with fail
    go_ret
    exact ⟨ret_bool (by simp), B.out⟩
  | true =>
    go_wp2_with fail
    refine (H2.out _).mono ?_
    rintro e w2 ⟨rfl, hb⟩
    replace E := Lib.hid (E.out.below hb (by omega))
    replace B := Lib.hid (btE B.out hb)
    replace z1 := Nat.le_trans z1 hb.size
    clear hb c0 c1 c2 c3 c4 c5 c6 c7 c8 c9
    obtain ⟨c0, c1, c2, c3, c4, c5, c6, c7, c8, c9⟩ := E.out.zero
    cases b2 with
    | false =>
      go_wp2_with fail
      go_ret
      exact ⟨ret_bool (by simp), B.out⟩
    | true =>
      by_cases ql : l = p
      · have ql2 := baE_eq ql
        go_wp2_with fail
        go_ret
        exact ⟨ret_bool (by simp [ql]), B.out⟩
      · have ql2 := baE_ne ql
        by_cases qb : b.size = 0
        · have qb2 := empty_t qb
          go_wp2_with fail
          go_ret
          exact ⟨ret_bool (by simp [ql, qb]), B.out⟩
        · have qb2 := empty_f qb
          go_wp2_with fail
          go_ret
          exact ⟨ret_bool (by simp [qb]), B.out⟩
theorem entOkv_eq (e : Ent) : entOkv e = (fieldsv e && kindOk e.kind e.path e.link e.body) := rfl
set_option maxHeartbeats 3200000 in
theorem entryOk_impl (k : Int) (p l : ByteArray) (m u g t : Int) (us gr b : ByteArray) (w : World) (hp : p.size ≤ 4194304) (hl : l.size ≤ 4194304) (hus : us.size ≤ 4194304) (hgr : gr.size ≤ 4194304) :
    Calls Tryz.prog 86 #[.agg #[.int .i64 k, .string p, .string l, .int .i64 m, .int .i64 u, .int .i64 g, .int .i64 t, .string us, .string gr, .string b]] w fun e w' => e = .returned (.bool (entOkv ⟨k, p, l, m, u, g, t, us, gr, b⟩)) ∧ Below w.heap.size w w' := by
  have H0 := Lib.hid (fun w => fileOk_impl k p l m u g t us gr b w hp hus hgr)
  have H1 := Lib.hid (fun w => dirOk_impl k p l m u g t us gr b w hp hus hgr)
  have H2 := Lib.hid (fun w => symOk_impl k p l m u g t us gr b w hp hl hus hgr)
  have H3 := Lib.hid (fun w => hardOk_impl k p l m u g t us gr b w hp hl hus hgr)
  have HE : Hid (entOkv ⟨k, p, l, m, u, g, t, us, gr, b⟩ = (fieldsv ⟨k, p, l, m, u, g, t, us, gr, b⟩ && kindOk k p l b)) := Lib.hid rfl
  have HK : Hid (kindOk k p l b = if k = 0 then decide (l.size = 0) && decide (b.size ≤ 3000) else if k = 1 then decide (l.size = 0) && decide (b.size = 0) else if k = 2 then inB l.size 1 150 && signv l && decide (b.size = 0) else if k = 3 then pathOkv l && decide (l ≠ p) && decide (b.size = 0) else false) := Lib.hid rfl
  generalize hk0 : (decide (l.size = 0) && decide (b.size ≤ 3000)) = r0 at H0 HK
  generalize hk1 : (decide (l.size = 0) && decide (b.size = 0)) = r1 at H1 HK
  generalize hk2 : (inB (l.size : Int) 1 150 && signv l && decide (b.size = 0)) = r2 at H2 HK
  generalize hk3 : (pathOkv l && decide (l ≠ p) && decide (b.size = 0)) = r3 at H3 HK
  clear hk0 hk1 hk2 hk3
  generalize kindOk k p l b = rk at HE HK
  generalize entOkv ⟨k, p, l, m, u, g, t, us, gr, b⟩ = r at HE
  generalize fieldsv ⟨k, p, l, m, u, g, t, us, gr, b⟩ = b1 at HE H0 H1 H2 H3
  clear hp hl hus hgr
  by_cases q0 : k = 0
  · have HF : Hid (r = (b1 && r0)) := Lib.hid (by rw [HE.out, HK.out]; simp [q0])
    subst q0
    clear HE HK
    go_enter Tryz.func86, Tryz.ntmps86
    go_wp2_with fail
    refine (H0.out _).mono ?_
    rintro e w1 ⟨rfl, hb⟩
    go_wp2_with fail
    go_ret
    exact ⟨ret_bool HF.out.symm, (((Below.refl _ w).alloc (Nat.le_refl _) _).alloc (by simp) _).trans (hb.mono (by simp; omega))⟩
  by_cases q1 : k = 1
  · have HF : Hid (r = (b1 && r1)) := Lib.hid (by rw [HE.out, HK.out]; simp [q1])
    subst q1
    clear HE HK
    go_enter Tryz.func86, Tryz.ntmps86
    go_wp2_with fail
    refine (H1.out _).mono ?_
    rintro e w1 ⟨rfl, hb⟩
    go_wp2_with fail
    go_ret
    exact ⟨ret_bool HF.out.symm, (((Below.refl _ w).alloc (Nat.le_refl _) _).alloc (by simp) _).trans (hb.mono (by simp; omega))⟩
  by_cases q2 : k = 2
  · have HF : Hid (r = (b1 && r2)) := Lib.hid (by rw [HE.out, HK.out]; simp [q2])
    subst q2
    clear HE HK
    go_enter Tryz.func86, Tryz.ntmps86
    go_wp2_with fail
    refine (H2.out _).mono ?_
    rintro e w1 ⟨rfl, hb⟩
    go_wp2_with fail
    go_ret
    exact ⟨ret_bool HF.out.symm, (((Below.refl _ w).alloc (Nat.le_refl _) _).alloc (by simp) _).trans (hb.mono (by simp; omega))⟩
  by_cases q3 : k = 3
  · have HF : Hid (r = (b1 && r3)) := Lib.hid (by rw [HE.out, HK.out]; simp [q3])
    subst q3
    clear HE HK
    go_enter Tryz.func86, Tryz.ntmps86
    go_wp2_with fail
    refine (H3.out _).mono ?_
    rintro e w1 ⟨rfl, hb⟩
    go_wp2_with fail
    go_ret
    exact ⟨ret_bool HF.out.symm, (((Below.refl _ w).alloc (Nat.le_refl _) _).alloc (by simp) _).trans (hb.mono (by simp; omega))⟩
  have HF : Hid (r = false) := Lib.hid (by rw [HE.out, HK.out, if_neg q0, if_neg q1, if_neg q2, if_neg q3]; simp)
  clear HE HK
  go_enter Tryz.func86, Tryz.ntmps86
  go_wp2_with fail
  go_ret
  exact ⟨ret_bool HF.out.symm, ((Below.refl _ w).alloc (Nat.le_refl _) _).alloc (by simp) _⟩
end Go.Proofs.YtancidbbkoeokabGreatDoor

/- Contracts of spec.UstarFits and impl.UstarFits. -/
namespace Go.Proofs.YtancidbbkoeokabGreatDoor
open Go.ChangeShapes Go.WideShapes Go.ChangeAt Go.RowKit Go.Deep

def fitsv (e : Ent) : Bool := entOkv e && splitOk e.path && decide ((e.link.size : Int) ≤ 100) && decide (e.uid ≤ 2097151) && decide (e.gid ≤ 2097151) && decide (e.time ≤ 8589934591)
set_option maxHeartbeats 3200000 in
theorem fits_spec (k : Int) (p l : ByteArray) (m u g t : Int) (us gr b : ByteArray) (w : World) (hp : p.size ≤ 4194304) (hl : l.size ≤ 4194304) (hus : us.size ≤ 4194304) (hgr : gr.size ≤ 4194304) (hbz : b.size ≤ 4194304) :
    Calls Tryz.prog 92 #[.agg #[.int .i64 k, .string p, .string l, .int .i64 m, .int .i64 u, .int .i64 g, .int .i64 t, .string us, .string gr, .string b]] w fun e w' => e = .returned (.bool (fitsv ⟨k, p, l, m, u, g, t, us, gr, b⟩)) ∧ Below w.heap.size w w' := by
  have H1 := Lib.hid (fun w => split_spec p w hp)
  have H2 := Lib.hid (fun w => entryOk_spec k p l m u g t us gr b w hp hl hus hgr hbz)
  have HE : Hid (fitsv ⟨k, p, l, m, u, g, t, us, gr, b⟩ = (entOkv ⟨k, p, l, m, u, g, t, us, gr, b⟩ && splitOk p && decide ((l.size : Int) ≤ 100) && decide (u ≤ 2097151) && decide (g ≤ 2097151) && decide (t ≤ 8589934591))) := Lib.hid rfl
  generalize fitsv ⟨k, p, l, m, u, g, t, us, gr, b⟩ = r at HE
  generalize entOkv ⟨k, p, l, m, u, g, t, us, gr, b⟩ = b1 at H2 HE
  generalize splitOk p = b2 at H1 HE
  generalize splitP p = sp at H1
  generalize splitN p = sn at H1
  clear hp hus hgr
  go_enter Tryz.func92, Tryz.ntmps92
  go_wp2_with fail
  refine (H1.out _).mono ?_
  rintro e w1 ⟨rfl, hb⟩
  obtain ⟨k1, bb1, z1⟩ := one_new (e1 := ⟨k, p, l, m, u, g, t, us, gr, b⟩) hb
  have E1 := Lib.hid k1
  have B1 := Lib.hid bb1
  clear hb k1 bb1
  obtain ⟨c0, c1, c2, c3, c4, c5, c6, c7, c8, c9⟩ := E1.out.zero
  go_wp2_with fail
  refine (H2.out _).mono ?_
  rintro e w2 ⟨rfl, hb⟩
  have E2 := Lib.hid (E1.out.below hb (by omega))
  have B2 := Lib.hid (btE B1.out hb)
  clear hb E1 B1 c0 c1 c2 c3 c4 c5 c6 c7 c8 c9
  obtain ⟨c0, c1, c2, c3, c4, c5, c6, c7, c8, c9⟩ := E2.out.zero
  cases b1 with
  | false =>
    go_wp2_with fail
    go_ret
    exact ⟨ret_bool (by rw [HE.out]; simp), B2.out⟩
  | true =>
    cases b2 with
    | false =>
      go_wp2_with fail
      go_ret
      exact ⟨ret_bool (by rw [HE.out]; simp), B2.out⟩
    | true =>
      by_cases q1 : (l.size : Int) ≤ 100
      · by_cases q2 : u ≤ 2097151
        · by_cases q3 : g ≤ 2097151
          · by_cases q4 : t ≤ 8589934591
            · go_wp2_with fail
              go_ret
              exact ⟨ret_bool (by rw [HE.out]; simp [q1, q2, q3, q4]), B2.out⟩
            · go_wp2_with fail
              go_ret
              exact ⟨ret_bool (by rw [HE.out]; simp; omega), B2.out⟩
          · go_wp2_with fail
            go_ret
            exact ⟨ret_bool (by rw [HE.out]; simp; omega), B2.out⟩
        · go_wp2_with fail
          go_ret
          exact ⟨ret_bool (by rw [HE.out]; simp; omega), B2.out⟩
      · go_wp2_with fail
        go_ret
        exact ⟨ret_bool (by rw [HE.out]; simp; omega), B2.out⟩
set_option maxHeartbeats 3200000 in
theorem fits_impl (k : Int) (p l : ByteArray) (m u g t : Int) (us gr b : ByteArray) (w : World) (hp : p.size ≤ 4194304) (hl : l.size ≤ 4194304) (hus : us.size ≤ 4194304) (hgr : gr.size ≤ 4194304) :
    Calls Tryz.prog 93 #[.agg #[.int .i64 k, .string p, .string l, .int .i64 m, .int .i64 u, .int .i64 g, .int .i64 t, .string us, .string gr, .string b]] w fun e w' => e = .returned (.bool (fitsv ⟨k, p, l, m, u, g, t, us, gr, b⟩)) ∧ Below w.heap.size w w' := by
  have H1 := Lib.hid (fun w => split_impl p w hp)
  have H2 := Lib.hid (fun w => entryOk_impl k p l m u g t us gr b w hp hl hus hgr)
  have HE : Hid (fitsv ⟨k, p, l, m, u, g, t, us, gr, b⟩ = (entOkv ⟨k, p, l, m, u, g, t, us, gr, b⟩ && splitOk p && decide ((l.size : Int) ≤ 100) && decide (u ≤ 2097151) && decide (g ≤ 2097151) && decide (t ≤ 8589934591))) := Lib.hid rfl
  generalize fitsv ⟨k, p, l, m, u, g, t, us, gr, b⟩ = r at HE
  generalize entOkv ⟨k, p, l, m, u, g, t, us, gr, b⟩ = b1 at H2 HE
  generalize splitOk p = b2 at H1 HE
  generalize splitP p = sp at H1
  generalize splitN p = sn at H1
  clear hp hus hgr
  go_enter Tryz.func93, Tryz.ntmps93
  go_wp2_with fail
  refine (H1.out _).mono ?_
  rintro e w1 ⟨rfl, hb⟩
  obtain ⟨k1, bb1, z1⟩ := one_new (e1 := ⟨k, p, l, m, u, g, t, us, gr, b⟩) hb
  have E1 := Lib.hid k1
  have B1 := Lib.hid bb1
  clear hb k1 bb1
  obtain ⟨c0, c1, c2, c3, c4, c5, c6, c7, c8, c9⟩ := E1.out.zero
  cases b2 with
  | false =>
    go_wp2_with fail
    go_ret
    exact ⟨ret_bool (by rw [HE.out]; simp), B1.out⟩
  | true =>
    go_wp2_with fail
    refine (H2.out _).mono ?_
    rintro e w2 ⟨rfl, hb⟩
    have E2 := Lib.hid (E1.out.below hb (by omega))
    have B2 := Lib.hid (btE B1.out hb)
    clear hb E1 B1 c0 c1 c2 c3 c4 c5 c6 c7 c8 c9
    obtain ⟨c0, c1, c2, c3, c4, c5, c6, c7, c8, c9⟩ := E2.out.zero
    cases b1 with
    | false =>
      go_wp2_with fail
      go_ret
      exact ⟨ret_bool (by rw [HE.out]; simp), B2.out⟩
    | true =>
      by_cases q1 : (l.size : Int) ≤ 100
      · by_cases q2 : u ≤ 2097151
        · by_cases q3 : g ≤ 2097151
          · by_cases q4 : t ≤ 8589934591
            · go_wp2_with fail
              go_ret
              exact ⟨ret_bool (by rw [HE.out]; simp [q1, q2, q3, q4]), B2.out⟩
            · go_wp2_with fail
              go_ret
              exact ⟨ret_bool (by rw [HE.out]; simp; omega), B2.out⟩
          · go_wp2_with fail
            go_ret
            exact ⟨ret_bool (by rw [HE.out]; simp; omega), B2.out⟩
        · go_wp2_with fail
          go_ret
          exact ⟨ret_bool (by rw [HE.out]; simp; omega), B2.out⟩
      · go_wp2_with fail
        go_ret
        exact ⟨ret_bool (by rw [HE.out]; simp; omega), B2.out⟩
end Go.Proofs.YtancidbbkoeokabGreatDoor

/- Contracts of spec.Cut, impl.Cut and the law laws.FnExactCut: the bytes before the first NUL. -/
namespace Go.Proofs.YtancidbbkoeokabGreatDoor
open Go.ChangeShapes Go.WideShapes Go.ChangeAt Go.RowKit

def nulFree (l : List UInt8) : List UInt8 := l.takeWhile (· != 0)
def cutv (s : ByteArray) : ByteArray := ⟨(nulFree s.data.toList).toArray⟩
def Nz (l : List UInt8) : Prop := ∀ c ∈ l, c ≠ 0

theorem nz_snoc {l : List UInt8} {c : UInt8} (h : Nz l) (hc : c ≠ 0) : Nz (l ++ [c]) := by
  intro d hd
  rcases List.mem_append.1 hd with hd | hd
  · exact h d hd
  · simp at hd; exact hd ▸ hc
theorem nulFree_append {a b : List UInt8} (h : Nz a) : nulFree (a ++ b) = a ++ nulFree b :=
  List.takeWhile_append_of_pos (by intro c hc; simpa using h c hc)
theorem nulFree_self {a : List UInt8} (h : Nz a) : nulFree a = a := by
  have := nulFree_append (a := a) (b := []) h
  simpa [nulFree] using this
theorem nulFree_at (l : List UInt8) (k : Nat) (hk : k < l.length) (h : Nz (l.take k)) (h0 : l[k] = 0) : nulFree l = l.take k := by
  have e : l = l.take k ++ (l[k] :: l.drop (k + 1)) := by simp
  have h1 : nulFree (l.take k ++ (l[k] :: l.drop (k + 1))) = l.take k := by
    rw [nulFree_append h, h0]; simp [nulFree]
  rw [← e] at h1
  exact h1
theorem nulFree_index (l : List UInt8) : (Lib.indexByte l 0 = -1 → nulFree l = l) ∧ (0 ≤ Lib.indexByte l 0 → nulFree l = l.take (Lib.indexByte l 0).toNat ∧ Lib.indexByte l 0 < l.length) := by
  induction l with
  | nil => simp [Lib.indexByte, nulFree]
  | cons c l ih =>
    by_cases hc : c = 0
    · subst hc; simp [Lib.indexByte, nulFree]
    · have hn : nulFree (c :: l) = c :: nulFree l := by simp [nulFree, hc]
      have hi : Lib.indexByte (c :: l) 0 = if Lib.indexByte l 0 == -1 then -1 else Lib.indexByte l 0 + 1 := by simp [Lib.indexByte, hc]
      have hge := Lib.indexByte_ge l 0
      rw [hn, hi]
      by_cases hm : Lib.indexByte l 0 = -1
      · simp [hm, ih.1 hm]
      · obtain ⟨h1, h2⟩ := ih.2 (by omega)
        have hb : (Lib.indexByte l 0 == -1) = false := by simp [hm]
        rw [hb]
        have e : (Lib.indexByte l 0 + 1).toNat = (Lib.indexByte l 0).toNat + 1 := by omega
        simp [e, h1]
        omega

theorem cut_spec (s : ByteArray) (w : World) (hs : s.size ≤ 9223372036854775807) :
    Calls Tryz.prog 44 #[.string s] w fun e w' => e = .returned (.string (cutv s)) ∧ w = w' := by
  go_enter Tryz.func44, Tryz.ntmps44
  go_wp2
  go_loop [3] (fun i => ∃ k : Nat, k ≤ s.size ∧ i = .int .i64 k ∧ Nz (s.data.toList.take k)) (fun i => s.size - (intOf i).toNat)
  case atStart => exact ⟨0, Nat.zero_le _, rfl, by intro c hc; simp at hc⟩
  case round =>
    obtain ⟨k, hk, rfl, hnz⟩ := hrel
    have HZ := Lib.hid hnz
    clear hnz
    by_cases hlt : k < s.size
    · by_cases hc : s[k] = 0
      · have hb : (((s[k].toNat : Nat) : Int) == 0) = true := by simp [hc]
        go_wp2
        go_ret
        refine ⟨ret_str (ba_ext ?_), rfl⟩
        rw [Lib.extract_data]
        have hl : k < s.data.toList.length := by simpa using hlt
        simp only [cutv, nulFree_at s.data.toList k hl HZ.out hc, List.drop_zero, Nat.sub_zero]
      · have hb : (((s[k].toNat : Nat) : Int) == 0) = false := byte_eq0 hc
        have HN := Lib.hid (show Nz (s.data.toList.take (k + 1)) by rw [take_snoc s k hlt]; exact nz_snoc HZ.out hc)
        clear hc
        go_wp2
        go_round
        case rel => exact ⟨k + 1, by omega, by go_num, HN.out⟩
        case measure => simp [intOf]; omega
    · go_wp2
      go_ret
      refine ⟨ret_str (ba_ext ?_), rfl⟩
      have e : s.data.toList.take k = s.data.toList := List.take_of_length_le (by simp; omega)
      have hz := HZ.out
      rw [e] at hz
      simp only [cutv, nulFree_self hz]


/-- strings.Cut at a NUL: what stands before it. -/
def CutPost (s : ByteArray) (w : World) (e : Ending) (w' : World) : Prop := ∃ r f, e = .returned (.tuple #[.string (cutv s), .string r, .bool f]) ∧ ∃ n, w' = w.drewN n

theorem lcut_any (s : ByteArray) (w : World) (hs : s.size ≤ 1099511627776) :
    Calls Tryz.prog 208 #[.string s, .string ⟨#[0]⟩] w (CutPost s w) := by
  have hi := nulFree_index s.data.toList
  have hge := Lib.indexByte_ge s.data.toList 0
  have hsz : s.data.toList.length = s.size := by simp
  by_cases hm : Lib.indexByte s.data.toList 0 = -1
  · have H1 := Lib.hid (hi.1 hm)
    have HM := Lib.hid hm
    have hlt : decide (0 ≤ Lib.indexByte s.data.toList 0) = false := by simp [hm]
    have hneg : Lib.indexByte s.data.toList 0 < 0 := by omega
    clear hi hm
    go_enter Tryz.func208, Tryz.ntmps208
    go_wp2_with (go_at_call 130; refine (Tryz.stringslite_Index_one _ _ _).mono ?_; rintro e w' ⟨rfl, rfl⟩)
    go_ret3
    refine ⟨⟨#[]⟩, false, ?_, 0, rfl⟩
    rw [show cutv s = s from ba_ext (by simp [cutv, H1.out])]
    rfl
  · obtain ⟨h1, h2⟩ := hi.2 (by omega)
    obtain ⟨k, hk⟩ := Int.eq_ofNat_of_zero_le (show 0 ≤ Lib.indexByte s.data.toList 0 by omega)
    rw [hk] at h1 h2
    simp only [Int.toNat_natCast] at h1
    have hks : k < s.size := by omega
    have hks1 : (k : Int) + 1 ≤ (s.size : Int) := by omega
    have e1 : IntKind.i64.wrap ((k : Int) + 1) = (k : Int) + 1 := IntWalk.i64_in _ (by omega)
    have e2 : (0 : Int) ≤ (k : Int) + 1 := by omega
    have e3 : ((k : Int) + 1).toNat = k + 1 := by omega
    have hks2 : (k : Int) ≤ (s.size : Int) := by omega
    have hks3 : k ≤ s.size := by omega
    have hks4 : k + 1 ≤ s.size := by omega
    have H1 := Lib.hid h1
    have hc := fun w => Tryz.stringslite_Index_one s 0 w
    rw [hk] at hc
    have HC := Lib.hid hc
    clear h1 h2 hi hm hge hk hc hsz
    go_enter Tryz.func208, Tryz.ntmps208
    go_wp2_with (go_at_call 130; refine (HC.out _).mono ?_; rintro e w' ⟨rfl, rfl⟩)
    go_quiet (fail)
    go_wp2
    go_ret3
    refine ⟨s.extract (k + 1) s.size, true, ?_, nq, rfl⟩
    rw [show cutv s = s.extract 0 k from ba_ext (by rw [Lib.extract_data]; simp [cutv, H1.out])]
    rfl

theorem scut_any (s : ByteArray) (w : World) (hs : s.size ≤ 1099511627776) :
    Calls Tryz.prog 181 #[.string s, .string ⟨#[0]⟩] w (CutPost s w) := by
  go_enter Tryz.func181, Tryz.ntmps181
  go_wp2_with (go_at_call 208; refine (lcut_any _ _ hs).mono ?_; rintro e w' ⟨r, f, rfl, n, rfl⟩)
  go_ret3
  exact ⟨r, f, rfl, n, rfl⟩

theorem cutv_le (s : ByteArray) : (cutv s).size ≤ s.size := by
  have h : (nulFree s.data.toList).length ≤ s.data.toList.length := by
    have := List.takeWhile_prefix (l := s.data.toList) (· != 0)
    exact this.length_le
  have e : (cutv s).size = (nulFree s.data.toList).length := by simp [cutv, ByteArray.size]
  rw [e]; simpa using h

theorem cut_impl (s : ByteArray) (w : World) (hs : s.size ≤ 1099511627776) :
    Calls Tryz.prog 202 #[.string s] w fun e w' => e = .returned (.string (cutv s)) ∧ Below w.heap.size w w' := by
  have hle := cutv_le s
  go_enter Tryz.func202, Tryz.ntmps202
  go_wp2_with fail
  refine (scut_any _ _ hs).mono ?_
  rintro e w' ⟨r, f, rfl, n, rfl⟩
  go_wp2_with fail
  refine (clone_any _ _ (by omega)).mono ?_
  rintro e w' ⟨rfl, hb⟩
  go_wp2_with fail
  go_ret
  exact ⟨rfl, (below_drewN (Below.refl _ _) n).trans hb⟩

end Go.Proofs.YtancidbbkoeokabGreatDoor

/- Contracts of spec.l01Nuls, spec.Fill, impl.Fill and the law laws.FnExactFill. -/
namespace Go.Proofs.YtancidbbkoeokabGreatDoor
open Go.ChangeShapes Go.WideShapes Go.ChangeAt Go.RowKit

def nuls (n : Nat) : List UInt8 := List.replicate n 0
theorem nuls_succ (n : Nat) : nuls n ++ [0] = nuls (n + 1) := by simp [nuls, List.replicate_succ']
theorem nuls_len (n : Nat) : (nuls n).length = n := by simp [nuls]
def nulv (n : Nat) : ByteArray := ⟨(nuls n).toArray⟩

theorem nuls_spec (n : Int) (w : World) (hn : n ≤ 1024) :
    Calls Tryz.prog 51 #[.int .i64 n] w fun e w' => e = .returned (.string (nulv n.toNat)) ∧ Below w.heap.size w w' := by
  obtain ⟨i0, hi, hz0, hz1, hz2⟩ := info_parts Tryz.info5
  go_enter Tryz.func51, Tryz.ntmps51
  go_wp2
  go_loopw [3, 4] (fun v i wr => ∃ k : Nat, k ≤ n.toNat ∧ i = .int .i64 k ∧ OwnB wr w.heap.size v (nuls k) ∧ Below w.heap.size w wr) (fun _ i _ => n.toNat - (intOf i).toNat)
  case atStart => exact ⟨0, Nat.zero_le _, rfl, OwnB.lit (Nat.le_refl _), (Below.refl _ _).alloc (Nat.le_refl _) _⟩
  case round =>
    obtain ⟨k, hk, rfl, hown, hb⟩ := hrel
    have HO := Lib.hid hown
    have HB := Lib.hid hb
    clear hown hb
    by_cases hlt : (k : Int) < n
    · have hsz := HB.out.size
      go_wp2_with (at_builtin; refine wpList_append_own _ rfl _ _ 95 rfl w.heap.size 5 i0 (.int .u8 0) 1 1 Tryz.underlying95 hi hz0 hz1 hz2 rfl (by decide) _ _ _ rfl (HO.out.alloc _) ⟨wr.heap.size, 0, none⟩ 1 1 [.int .u8 0] rfl rfl ?c1 ?c2 ?c3 ?c4 ?c5 ?_)
      case c1 =>
        intro j u hj
        match j, hj with
        | 0, hj => simp at hj; subst hj; simp [Addr.add]
      case c2 => intro u hu; simp at hu; subst hu; rfl
      case c3 => simp only [nuls_len, maxLen]; omega
      case c4 => simp only [nuls_len]; omega
      case c5 => simp; omega
      · intro v' w1 hown' hgrow _
        have hO : OwnB w1 w.heap.size v' (nuls (k + 1)) := by
          have e : byteVals (nuls k) ++ [.int .u8 0] = byteVals (nuls (k + 1)) := by rw [← nuls_succ, ← byteVals_snoc]; rfl
          rw [e] at hown'
          have e2 : (nuls k).length + 1 = (nuls (k + 1)).length := by simp [nuls_len]
          rw [e2] at hown'
          exact hown'
        have hBl : Below w.heap.size w w1 := (HB.out.alloc hsz _).grown hgrow (by simp; omega) (fun b hb => (HO.out.lt b hb).1)
        clear hown' hgrow
        go_wp2
        go_roundw
        case rel => exact ⟨k + 1, by omega, by go_num, hO, hBl⟩
        case measure => simp [intOf]; omega
    · have hc := HO.out.conv
      go_wp2
      go_ret
      have e : k = n.toNat := by omega
      subst e
      exact ⟨rfl, HB.out⟩

def fillv (s : ByteArray) (width : Int) : ByteArray := if 1024 < width ∨ width ≤ s.size then s else s ++ nulv (width - s.size).toNat
theorem nulv_size (n : Nat) : (nulv n).size = n := by simp [nulv, nuls, ByteArray.size]

theorem fill_spec (s : ByteArray) (width : Int) (w : World) (hs : s.size ≤ 9223372036854775807) :
    Calls Tryz.prog 151 #[.string s, .int .i64 width] w fun e w' => e = .returned (.string (fillv s width)) ∧ Below w.heap.size w w' := by
  by_cases h1 : 1024 < width
  · go_enter Tryz.func151, Tryz.ntmps151
    go_wp2
    go_ret
    exact ⟨ret_str (by rw [fillv, if_pos (.inl h1)]), Below.refl _ _⟩
  · by_cases h2 : width ≤ (s.size : Int)
    · go_enter Tryz.func151, Tryz.ntmps151
      go_wp2
      go_ret
      exact ⟨ret_str (by rw [fillv, if_pos (.inr h2)]), Below.refl _ _⟩
    · have hn : (nulv (width.toNat - s.size)).size ≤ 1024 := by rw [nulv_size]; omega
      go_enter Tryz.func151, Tryz.ntmps151
      go_wp2_with fail
      refine (nuls_spec _ _ (by omega)).mono ?_
      rintro e w' ⟨rfl, hb⟩
      go_wp2_with fail
      go_ret
      exact ⟨ret_str (by rw [fillv, if_neg (by omega), show (width - (s.size : Int)).toNat = width.toNat - s.size from by omega]), hb⟩

theorem repeatL_nul (n : Nat) : Lib.repeatL [0] n = nuls n := by
  induction n with
  | zero => rfl
  | succ n ih => rw [Lib.repeatL, ih]; simp [nuls, List.replicate_succ]

theorem fill_impl (s : ByteArray) (width : Int) (w : World) (hs : s.size ≤ 1099511627776) :
    Calls Tryz.prog 102 #[.string s, .int .i64 width] w fun e w' => e = .returned (.string (fillv s width)) ∧ Below w.heap.size w w' := by
  by_cases h2 : width ≤ (s.size : Int)
  · go_enter Tryz.func102, Tryz.ntmps102
    go_wp2_with (go_at_call 104; refine (clone_any _ _ (by omega)).mono ?_; rintro e w' ⟨rfl, hb⟩)
    go_ret
    exact ⟨ret_str (by rw [fillv, if_pos (.inr h2)]), by assumption⟩
  · by_cases h1 : 1024 < width
    · go_enter Tryz.func102, Tryz.ntmps102
      go_wp2_with (go_at_call 104; refine (clone_any _ _ (by omega)).mono ?_; rintro e w' ⟨rfl, hb⟩)
      go_ret
      exact ⟨ret_str (by rw [fillv, if_pos (.inl h1)]), by assumption⟩
    · obtain ⟨k, hk⟩ := Int.eq_ofNat_of_zero_le (show 0 ≤ width - (s.size : Int) by omega)
      obtain rfl : width = (s.size : Int) + k := by omega
      have hn : (nulv k).size ≤ 1024 := by rw [nulv_size]; omega
      have hr := fun w => Tryz.strings_Repeat ⟨#[0]⟩ k w (by omega) (by simp [ByteArray.size]; omega)
      have e1 : (⟨(Lib.repeatL (⟨#[0]⟩ : ByteArray).data.toList k).toArray⟩ : ByteArray) = nulv k := by simp [nulv, repeatL_nul]
      rw [e1] at hr
      have HR := Lib.hid hr
      clear hr e1 hk
      go_enter Tryz.func102, Tryz.ntmps102
      go_wp2_with fail
      rw [show (s.size : Int) + k - s.size = (k : Int) from by omega]
      refine (HR.out _).mono ?_
      rintro e w' ⟨rfl, hb⟩
      go_wp2_with fail
      go_ret
      refine ⟨ret_str ?_, hb⟩
      rw [fillv, if_neg (by omega), show ((s.size : Int) + k - s.size).toNat = k from by omega]

end Go.Proofs.YtancidbbkoeokabGreatDoor

/- The texts of a header, and that what the program lays field by field is their sum: plain lists only. -/
namespace Go.Proofs.YtancidbbkoeokabGreatDoor
open Go.ChangeShapes Go.WideShapes Go.ChangeAt Go.RowKit

def octz (n width : Int) : ByteArray := (putOctv n (width - 1)).1 ++ ⟨#[0]⟩
def magicU : ByteArray := ⟨#[117, 115, 116, 97, 114, 0, 48, 48]⟩
def headA (e : Ent) (name : ByteArray) (size : Int) : ByteArray := fillv name 100 ++ octz e.mode 8 ++ octz e.uid 8 ++ octz e.gid 8 ++ octz size 12 ++ octz e.time 12
def headB (e : Ent) (pf flag magic : ByteArray) : ByteArray := flag ++ fillv e.link 100 ++ magic ++ fillv e.user 32 ++ fillv e.group 32 ++ octz 0 8 ++ octz 0 8 ++ fillv pf 155 ++ nulv 12
def headv (e : Ent) (name pf flag : ByteArray) (size : Int) (magic : ByteArray) : ByteArray :=
  headA e name size ++ (putOctv (sumv (headA e name size).data.toList + 256 + sumv (headB e pf flag magic).data.toList) 6).1 ++ ⟨#[0, 32]⟩ ++ headB e pf flag magic
def putHeadv (e : Ent) (flag : ByteArray) (size : Int) : ByteArray :=
  if fitsv e = true ∧ flag.size = 1 ∧ (0 ≤ size ∧ size ≤ 3000) then headv e (splitN e.path) (splitP e.path) flag size magicU else ⟨#[]⟩

theorem numeral_8 {n k : Nat} (hk : 1 ≤ k) (h : n < 8 ^ k) : (numeral 8 n).length ≤ k := numeral_len (by omega) hk h
/-- A number that fits has just as many digits as its field. -/
theorem oct_fits {n : Int} {k : Nat} (h0 : 0 ≤ n) (hk : 1 ≤ k) (hk2 : k ≤ 17) (h : n.toNat < 8 ^ k) : (putOctv n k).2 = true ∧ (putOctv n k).1.size = k ∧ (putOctv n k).1 = ⟨(ahead (numeral 8 n.toNat) k).toArray⟩ := by
  have hp : (8 : Nat) ^ k ≤ 8 ^ 17 := Nat.pow_le_pow_right (by omega) hk2
  have hl := numeral_8 hk h
  have h17 : (8 : Nat) ^ 17 = 2251799813685248 := by decide
  have hv : Valid n k ∧ ((numeral 8 n.toNat).length : Int) ≤ k := ⟨⟨h0, by omega, by omega, by omega⟩, by omega⟩
  have e : putOctv n k = (⟨(ahead (numeral 8 n.toNat) k).toArray⟩, true) := by rw [putOctv, if_pos hv]
  rw [e]
  exact ⟨rfl, by rw [ba_size, ahead_len]; omega, rfl⟩
theorem putOct_size (n width : Int) : (putOctv n width).1.size ≤ 20 := by
  unfold putOctv
  split
  · rename_i h
    rw [ba_size, ahead_len]
    have := h.1.2.2.2
    omega
  · decide
theorem octz_size (n width : Int) : (octz n width).size ≤ 21 := by
  rw [octz, ByteArray.size_append]
  have := putOct_size n (width - 1)
  have e : (⟨#[0]⟩ : ByteArray).size = 1 := rfl
  omega
theorem fill_size (s : ByteArray) (width : Int) (h : 0 ≤ width) : (fillv s width).size ≤ s.size + width.toNat := by
  unfold fillv
  split
  · omega
  · rw [ByteArray.size_append, nulv_size]; omega
/-- A field of a text, filled. -/
theorem fill_short {s : ByteArray} {n : Nat} (h : s.size ≤ n) (hn : n ≤ 1024) : (fillv s n).data.toList = s.data.toList ++ nuls (n - s.size) := by
  unfold fillv
  by_cases q : s.size = n
  · rw [if_pos (.inr (by omega)), show n - s.size = 0 from by omega]; simp [nuls]
  · rw [if_neg (by omega), show ((n : Int) - s.size).toNat = n - s.size from by omega]
    simp [nulv]

/-- What a field of l holds behind a text laid over it. -/
theorem over_mid (a f b s : List UInt8) (h : s.length ≤ f.length) : over (a ++ f ++ b) a.length s = a ++ (s ++ f.drop s.length) ++ b := by
  unfold over
  have h1 : (a ++ f ++ b).take a.length = a := by simp
  have h2 : (a ++ f ++ b).drop (a.length + s.length) = f.drop s.length ++ b := by
    rw [List.append_assoc, ← List.drop_drop]
    simp [List.drop_append, Nat.sub_eq_zero_of_le h]
  rw [h1, h2]
  simp
/-- The fields of a header, each of its width, and what stands behind them. -/
def WF (F : List (List UInt8)) : Prop := F.map List.length = widths ++ [12]
def flat (F : List (List UInt8)) : List UInt8 := F.flatten
theorem flat_at {F : List (List UInt8)} (hF : WF F) {k x : Nat} (hk : k < 15) (hx : widths[k]? = some x) : ∃ f, F[k]? = some f ∧ f.length = x ∧ ∀ s : List UInt8, s.length ≤ x → over (flat F) (offs k) s = flat (F.set k (s ++ f.drop s.length)) := by
  have hlen : F.length = 16 := by have := congrArg List.length hF; simpa [widths] using this
  have hf : F[k]? = some F[k] := List.getElem?_eq_getElem (by omega)
  have hl : F[k].length = x := by
    have h1 : (F.map List.length)[k]? = some F[k].length := by rw [List.getElem?_map, hf]; rfl
    rw [hF, List.getElem?_append_left (by simp [widths]; omega), hx] at h1
    exact (Option.some.inj h1).symm
  refine ⟨F[k], hf, hl, fun s hs => ?_⟩
  have ho : (F.take k).flatten.length = offs k := by
    rw [List.length_flatten, List.map_take, hF, offs, List.take_append_of_le_length (by simp [widths]; omega)]
  have e1 : flat F = (F.take k).flatten ++ F[k] ++ (F.drop (k + 1)).flatten := by
    unfold flat
    have e0 : F = F.take k ++ F[k] :: F.drop (k + 1) := by rw [← List.drop_eq_getElem_cons (by omega : k < F.length), List.take_append_drop]
    have e3 := congrArg List.flatten e0
    rw [List.flatten_append, List.flatten_cons, ← List.append_assoc] at e3
    exact e3
  have e2 : flat (F.set k (s ++ F[k].drop s.length)) = (F.take k).flatten ++ (s ++ F[k].drop s.length) ++ (F.drop (k + 1)).flatten := by
    unfold flat
    rw [List.set_eq_take_append_cons_drop, if_pos (by omega)]
    simp
  rw [e1, e2, ← ho]
  exact over_mid _ _ _ _ (by omega)
theorem WF.set {F : List (List UInt8)} (hF : WF F) {k x : Nat} (hk : k < 15) (hx : widths[k]? = some x) {g : List UInt8} (hg : g.length = x) : WF (F.set k g) := by
  unfold WF at hF ⊢
  rw [List.map_set, hF]
  apply List.ext_getElem?
  intro i
  by_cases hi : i = k
  · subst hi
    rw [List.getElem?_set_self (by simp [widths]; omega), List.getElem?_append_left (by simp [widths]; omega), hx, hg]
  · rw [List.getElem?_set_ne (fun e => hi e.symm)]
end Go.Proofs.YtancidbbkoeokabGreatDoor

/- Contracts of spec.PutBig, impl.PutBig and the law laws.FnExactPutBig, for every two ints. -/
namespace Go.Proofs.YtancidbbkoeokabGreatDoor
open Go.ChangeShapes Go.WideShapes Go.ChangeAt Go.RowKit

/-- What is left of n, and the bytes made so far, behind j steps. -/
def bigSt (n : Int) : Nat → Int × List UInt8
  | 0 => (n, [])
  | j + 1 => ((bigSt n j).1 / 256, UInt8.ofNat ((bigSt n j).1 % 256).toNat :: (bigSt n j).2)
theorem bigSt_len (n : Int) : ∀ j, (bigSt n j).2.length = j
  | 0 => rfl
  | j + 1 => by simp [bigSt, bigSt_len n j]
theorem bigSt_bd (n : Int) (h0 : 0 ≤ n) (h1 : n ≤ 9007199254740991) : ∀ j, 0 ≤ (bigSt n j).1 ∧ (bigSt n j).1 ≤ 9007199254740991
  | 0 => ⟨h0, h1⟩
  | j + 1 => by have := bigSt_bd n h0 h1 j; simp only [bigSt]; omega
theorem byte_of (x : Int) : (((UInt8.ofNat (x % 256).toNat).toNat : Nat) : Int) = x % 256 := by
  have : (UInt8.ofNat (x % 256).toNat).toNat = (x % 256).toNat := by simp; omega
  rw [this]; omega

def putBigv (n width : Int) : ByteArray × Bool :=
  if 0 ≤ n ∧ n ≤ 9007199254740991 ∧ 2 ≤ width ∧ width ≤ 20 ∧ (bigSt n (width.toNat - 1)).1 = 0 then (⟨(128 :: (bigSt n (width.toNat - 1)).2).toArray⟩, true) else (⟨#[]⟩, false)
theorem putBigv_no {n width : Int} (h : ¬ (0 ≤ n ∧ n ≤ 9007199254740991 ∧ 2 ≤ width ∧ width ≤ 20)) : putBigv n width = (⟨#[]⟩, false) := by
  rw [putBigv, if_neg (fun k => h ⟨k.1, k.2.1, k.2.2.1, k.2.2.2.1⟩)]
theorem putBigv_more {n width : Int} (h : ¬ (bigSt n (width.toNat - 1)).1 = 0) : putBigv n width = (⟨#[]⟩, false) := by
  rw [putBigv, if_neg (fun k => h k.2.2.2.2)]
theorem putBigv_ok {n width : Int} (h0 : 0 ≤ n) (h1 : n ≤ 9007199254740991) (h2 : 2 ≤ width) (h3 : width ≤ 20) (h : (bigSt n (width.toNat - 1)).1 = 0) : putBigv n width = (⟨(128 :: (bigSt n (width.toNat - 1)).2).toArray⟩, true) := by
  rw [putBigv, if_pos ⟨h0, h1, h2, h3, h⟩]
theorem ret_tsb {a c : ByteArray} {b d : Bool} {r : ByteArray × Bool} (h : r = (a, b)) (h1 : c = a) (h2 : d = b) : Ending.returned (.tuple #[.string c, .bool d]) = .returned (.tuple #[.string r.1, .bool r.2]) := by
  subst h h1 h2; rfl

/-- A row of bytes of the call's own that is not nil. -/
def OwnS (w : World) (base : Nat) (v : Value) (l : List UInt8) : Prop := OwnB w base v l ∧ ∃ g cap, v = .slice (some ⟨g, 0, none⟩) l.length cap

theorem bigv_str (l : List UInt8) : (⟨#[128]⟩ : ByteArray) ++ ⟨l.toArray⟩ = ⟨(128 :: l).toArray⟩ := by
  apply ByteArray.ext; simp

set_option maxHeartbeats 800000 in
set_option maxRecDepth 8000 in
theorem putBig_spec (n width : Int) (w : World) :
    Calls Tryz.prog 191 #[.int .i64 n, .int .i64 width] w fun e w' => e = .returned (.tuple #[.string (putBigv n width).1, .bool (putBigv n width).2]) ∧ Below w.heap.size w w' := by
  by_cases h0 : 0 ≤ n ∧ n ≤ 9007199254740991
  · have i1 := inB_t h0
    by_cases h1 : 2 ≤ width ∧ width ≤ 20
    · have i2 := inB_t h1
      obtain ⟨i0, hi, hz0, hz1, hz2⟩ := info_parts Tryz.info5
      go_enter Tryz.func191, Tryz.ntmps191
      go_wp2_with (go_at_call 100; refine (in_any _ _ _ _).mono ?_; rintro e w' ⟨rfl, rfl⟩)
      go_loopw [6, 7, 8] (fun v m i wr => ∃ (j : Nat) (x : Int), j + 1 ≤ width.toNat ∧ i = .int .i64 ((j : Int) + 1) ∧ 0 ≤ x ∧ x ≤ 9007199254740991 ∧ m = .int .i64 x ∧ Hid (x = (bigSt n j).1) ∧ OwnS wr w.heap.size v (bigSt n j).2 ∧ Below w.heap.size w wr) (fun _ _ i _ => width.toNat - (intOf i).toNat)
      case atStart => exact ⟨0, n, by omega, rfl, h0.1, h0.2, rfl, Lib.hid rfl, ⟨OwnB.lit (Nat.le_refl _), _, _, rfl⟩, (Below.refl _ _).alloc (Nat.le_refl _) _⟩
      case round =>
        obtain ⟨j, x, hj, rfl, hx0, hx1, rfl, HX, ⟨hown, g, cap, rfl⟩, hb⟩ := hrel
        have HO := Lib.hid hown
        have HB := Lib.hid hb
        have hln := bigSt_len n j
        have HLN := Lib.hid hln
        clear hown hb hln
        by_cases hlt : (j : Int) + 1 < width
        · have hsz := HB.out.size
          go_wp2_with (at_builtin; refine wpList_append_own _ rfl _ _ 95 rfl w.heap.size 5 i0 (.int .u8 0) 1 1 Tryz.underlying95 hi hz0 hz1 hz2 rfl (by decide) _ 1 [.int .u8 (x % 256)] rfl (World.ownsRow_lit wr #[.int .u8 (x % 256)] 1 hsz (by simp [maxLen]) rfl) ⟨g, 0, none⟩ _ cap (byteVals (bigSt n j).2) rfl ?c0 ?c1 ?c2 ?c3 ?c4 ?c5 ?_)
          case c0 => simp [byteVals_length]
          case c1 => exact World.ownsRow.cells (HO.out.alloc _) rfl
          case c2 => intro u hu; simp [byteVals] at hu; obtain ⟨c, _, rfl⟩ := hu; rfl
          case c3 => rw [HLN.out]; simp only [maxLen]; omega
          case c4 => rw [HLN.out]; omega
          case c5 => simp; omega
          · intro v' w1 hown' hgrow hnil
            have hO : OwnB w1 w.heap.size v' (bigSt n (j + 1)).2 := by
              have e : Value.int .u8 (x % 256) :: byteVals (bigSt n j).2 = byteVals (bigSt n (j + 1)).2 := by
                simp only [bigSt, byteVals, List.map_cons]
                rw [byte_of, ← HX.out]
              rw [e] at hown'
              have e2 : 1 + (bigSt n j).2.length = (bigSt n (j + 1)).2.length := by simp only [bigSt_len]; omega
              rw [e2] at hown'
              exact hown'
            have hS : OwnS w1 w.heap.size v' (bigSt n (j + 1)).2 := by
              refine ⟨hO, ?_⟩
              obtain ⟨_, ⟨rfl, _⟩ | ⟨g', cap', cur, rfl, _⟩⟩ := hO
              · simp at hnil
              · exact ⟨g', cap', rfl⟩
            have hBl : Below w.heap.size w w1 := (HB.out.alloc hsz _).grown hgrow (by simp; omega) (fun b hb => by simp [Value.ownBlock] at hb; omega)
            have HX' := Lib.hid (show x / 256 = (bigSt n (j + 1)).1 by rw [HX.out]; rfl)
            clear hown' hgrow hnil hO
            go_wp2
            go_roundw
            case rel => exact ⟨j + 1, x / 256, by omega, by go_num, by omega, by omega, rfl, HX', hS, hBl⟩
            case measure => simp [intOf]; omega
        · have hjw : j = width.toNat - 1 := by omega
          have HJ := Lib.hid hjw
          clear hjw
          have hc := HO.out.conv
          by_cases hx : x = 0
          · have hsize : (bigSt n j).2.length ≤ 20 := by rw [HLN.out]; omega
            have HX0 := Lib.hid hx
            have hx1 : ¬ (0 < x) := by omega
            clear hx
            go_wp2
            go_ret2
            refine ⟨ret_tsb (putBigv_ok h0.1 h0.2 h1.1 h1.2 ?_) ?_ rfl, HB.out⟩
            · rw [← HJ.out, ← HX.out]; exact HX0.out
            · rw [← HJ.out]; exact bigv_str _
          · go_wp2
            go_ret2
            exact ⟨ret_tsb (putBigv_more (by rw [← HJ.out, ← HX.out]; exact hx)) rfl rfl, HB.out⟩
    · have i2 := inB_f h1
      go_enter Tryz.func191, Tryz.ntmps191
      go_wp2_with (go_at_call 100; refine (in_any _ _ _ _).mono ?_; rintro e w' ⟨rfl, rfl⟩)
      go_ret2
      exact ⟨ret_tsb (putBigv_no (by omega)) rfl rfl, Below.refl _ _⟩
  · have i1 := inB_f h0
    go_enter Tryz.func191, Tryz.ntmps191
    go_wp2_with (go_at_call 100; refine (in_any _ _ _ _).mono ?_; rintro e w' ⟨rfl, rfl⟩)
    go_ret2
    exact ⟨ret_tsb (putBigv_no (by omega)) rfl rfl, Below.refl _ _⟩

theorem set_row (p : Nat) (L : List UInt8) (b : UInt8) : (128 :: (List.replicate (p + 1) (0 : UInt8) ++ L)).set (p + 1) b = 128 :: (List.replicate p 0 ++ (b :: L)) := by
  simp only [List.set_cons_succ]
  congr 1
  rw [List.replicate_succ', List.append_assoc, List.set_append_right _ _ (by simp)]
  simp
theorem byteVals_set (l : List UInt8) (i : Nat) (b : UInt8) : (byteVals l).set i (.int .u8 ((b.toNat : Nat) : Int)) = byteVals (l.set i b) := by
  simp [byteVals, List.map_set]
theorem byteVals_zeros (n : Nat) : List.replicate n (Value.int .u8 0) = byteVals (List.replicate n 0) := by simp [byteVals]

/-- The row behind j steps, p + j + 1 bytes in all. -/
def bigRow (n : Int) (p j : Nat) : List UInt8 := 128 :: (List.replicate p 0 ++ (bigSt n j).2)
theorem bigRow_len (n : Int) (p j : Nat) : (bigRow n p j).length = p + j + 1 := by simp [bigRow, bigSt_len]
theorem bigRow_step (n : Int) (p j : Nat) : (bigRow n (p + 1) j).set (p + 1) (UInt8.ofNat ((bigSt n j).1 % 256).toNat) = bigRow n p (j + 1) := by
  rw [bigRow, set_row]; rfl

set_option maxHeartbeats 800000 in
set_option maxRecDepth 8000 in
theorem putBig_impl (n width : Int) (w : World) :
    Calls Tryz.prog 204 #[.int .i64 n, .int .i64 width] w fun e w' => e = .returned (.tuple #[.string (putBigv n width).1, .bool (putBigv n width).2]) ∧ Below w.heap.size w w' := by
  by_cases h0 : 0 ≤ n ∧ n ≤ 9007199254740991 ∧ 2 ≤ width ∧ width ≤ 20
  · obtain ⟨ha, hb, hc, hd⟩ := h0
    obtain ⟨W, rfl⟩ := Int.eq_ofNat_of_zero_le (show 0 ≤ width by omega)
    obtain ⟨i0, hi, hz0, hz1, hz2⟩ := info_parts Tryz.info5
    go_enter Tryz.func204, Tryz.ntmps204
    go_wp2_with (at_make; refine wpList_make_full _ rfl _ _ 95 rfl w.heap.size 5 i0 (.int .u8 0) 1 Tryz.underlying95 hi hz0 hz1 .i64 .i64 (W : Int) (W : Int) W rfl rfl rfl rfl (by rw [hz2]; omega) (by simp only [maxLen]; omega) (Nat.le_refl _) ?_)
    intro w1 hown hgrow
    have hp : 0 < W := by omega
    have hpi : (0 : Int) < (W : Int) := by omega
    have hcell : ∃ v, w1.cell? ⟨w.heap.size, 0, none⟩ = some v := by
      rw [World.ownsRow.cellAt hown 0 (by omega)]
      rw [toList_madeCells_one]
      exact ⟨.int .u8 0, by rw [List.getElem?_replicate, if_pos (by omega)]⟩
    obtain ⟨cv, hcv⟩ := hcell
    have hfz := World.ownsRow.frozenAt hown 0
    have hst := (World.ownsRow.stored hown 0 (.int .u8 128))
    have hO : OwnB (w1.setCell ⟨w.heap.size, 0, none⟩ (.int .u8 128)) w.heap.size (.slice (some ⟨w.heap.size, 0, none⟩) W W) (bigRow n (W - 1) 0) := by
      have h := hst.1
      have e : (madeCells #[.int .u8 0] W).toList.set 0 (.int .u8 128) = byteVals (bigRow n (W - 1) 0) := by
        obtain ⟨V, rfl⟩ : ∃ V, W = V + 1 := ⟨W - 1, by omega⟩
        rw [toList_madeCells_one]
        simp [List.replicate_succ, bigRow, bigSt, byteVals]
      rw [e] at h
      have e2 : W = (bigRow n (W - 1) 0).length := by rw [bigRow_len]; omega
      unfold OwnB
      rw [← e2]
      exact h
    have hBl : Below w.heap.size w (w1.setCell ⟨w.heap.size, 0, none⟩ (.int .u8 128)) := by
      have h1 : Below w.heap.size w w1 := (Below.refl _ _).grown hgrow (Nat.le_refl _) (fun k hk => by cases hk)
      exact h1.setCell (Nat.le_refl _) _
    have HO := Lib.hid hO
    have HB := Lib.hid hBl
    clear hO hBl hst hown hgrow
    go_wp2
    go_loopw [0, 7] (fun m i wr => ∃ (j p : Nat) (x : Int), p + j + 1 = W ∧ i = .int .i64 (p : Int) ∧ 0 ≤ x ∧ x ≤ 9007199254740991 ∧ m = .int .i64 x ∧ Hid (x = (bigSt n j).1) ∧ OwnB wr w.heap.size (.slice (some ⟨w.heap.size, 0, none⟩) W W) (bigRow n p j) ∧ Below w.heap.size w wr) (fun _ i _ => (intOf i).toNat)
    case atStart => exact ⟨0, W - 1, n, by omega, by go_num, ha, hb, rfl, Lib.hid rfl, HO.out, HB.out⟩
    case round =>
      obtain ⟨j, p, x, hjp, rfl, hx0, hx1, rfl, HX, hown, hbl⟩ := hrel
      have HOw := Lib.hid hown
      have HBw := Lib.hid hbl
      have HJP := Lib.hid hjp
      have hpW : p < W := by omega
      have hpWi : (p : Int) < (W : Int) := by omega
      clear hown hbl hjp
      by_cases hp0 : p = 0
      · subst hp0
        have hconv := HOw.out.conv
        have HJ := Lib.hid (show j = (W : Int).toNat - 1 by have := HJP.out; omega)
        have e0 : bigRow n 0 j = 128 :: (bigSt n j).2 := rfl
        rw [e0] at hconv
        clear e0
        by_cases hx : x = 0
        · have hx2 : (x != 0) = false := by simp [hx]
          have HX0 := Lib.hid hx
          clear hx
          go_wp2
          go_ret2
          refine ⟨ret_tsb (putBigv_ok ha hb hc hd ?_) ?_ rfl, HBw.out⟩
          · rw [← HJ.out, ← HX.out]; exact HX0.out
          · rw [← HJ.out]
        · have hx2 : (x != 0) = true := by simp [hx]
          go_wp2
          go_ret2
          exact ⟨ret_tsb (putBigv_more (by rw [← HJ.out, ← HX.out]; exact hx)) rfl rfl, HBw.out⟩
      · obtain ⟨q, rfl⟩ : ∃ q, p = q + 1 := ⟨p - 1, by omega⟩
        have hlen : W = (bigRow n (q + 1) j).length := by rw [bigRow_len]; have := HJP.out; omega
        have hO2 : wr.ownsRow w.heap.size 5 1 (.slice (some ⟨w.heap.size, 0, none⟩) W W) W (byteVals (bigRow n (q + 1) j)) := by
          have := HOw.out
          unfold OwnB at this
          rw [← hlen] at this
          exact this
        have hcell : ∃ v, wr.cell? ⟨w.heap.size, q + 1, none⟩ = some v := by
          rw [World.ownsRow.cellAt hO2 (q + 1) (by omega)]
          exact ⟨_, List.getElem?_eq_getElem (by rw [byteVals_length, ← hlen]; exact hpW)⟩
        obtain ⟨cw, hcw⟩ := hcell
        have hfw := World.ownsRow.frozenAt hO2 (q + 1)
        have hst := (World.ownsRow.stored hO2 (q + 1) (.int .u8 (x % 256))).1
        have hO3 : OwnB (wr.setCell ⟨w.heap.size, q + 1, none⟩ (.int .u8 (x % 256))) w.heap.size (.slice (some ⟨w.heap.size, 0, none⟩) W W) (bigRow n q (j + 1)) := by
          have e : (byteVals (bigRow n (q + 1) j)).set (q + 1) (.int .u8 (x % 256)) = byteVals (bigRow n q (j + 1)) := by
            rw [← bigRow_step, ← byteVals_set, byte_of, ← HX.out]
          rw [e] at hst
          have e2 : W = (bigRow n q (j + 1)).length := by rw [bigRow_len]; have := HJP.out; omega
          unfold OwnB
          rw [← e2]
          exact hst
        have hB3 : Below w.heap.size w (wr.setCell ⟨w.heap.size, q + 1, none⟩ (.int .u8 (x % 256))) := HBw.out.setCell (Nat.le_refl _) _
        have HO3 := Lib.hid hO3
        have HB3 := Lib.hid hB3
        have HX' := Lib.hid (show x / 256 = (bigSt n (j + 1)).1 by rw [HX.out]; rfl)
        clear hO3 hB3 hst hO2 hlen
        go_wp2
        go_roundw
        case rel => exact ⟨j + 1, q, x / 256, by have := HJP.out; omega, by go_num, by omega, by omega, rfl, HX', HO3.out, HB3.out⟩
        case measure => simp [intOf]
  · by_cases a1 : n < 0
    · go_enter Tryz.func204, Tryz.ntmps204
      go_wp2
      go_ret2
      exact ⟨ret_tsb (putBigv_no (by omega)) rfl rfl, Below.refl _ _⟩
    · by_cases a2 : 9007199254740991 < n
      · go_enter Tryz.func204, Tryz.ntmps204
        go_wp2
        go_ret2
        exact ⟨ret_tsb (putBigv_no (by omega)) rfl rfl, Below.refl _ _⟩
      · by_cases a3 : width < 2
        · go_enter Tryz.func204, Tryz.ntmps204
          go_wp2
          go_ret2
          exact ⟨ret_tsb (putBigv_no (by omega)) rfl rfl, Below.refl _ _⟩
        · have a4 : 20 < width := by omega
          clear h0
          go_enter Tryz.func204, Tryz.ntmps204
          go_wp2
          go_ret2
          exact ⟨ret_tsb (putBigv_no (by omega)) rfl rfl, Below.refl _ _⟩

end Go.Proofs.YtancidbbkoeokabGreatDoor

/- Plain mathematics of digits read by a base; nothing of the program is said here. -/
namespace Go.Proofs.YtancidbbkoeokabGreatDoor

def dig (c : Int) : Int := if 48 ≤ c ∧ c ≤ 57 then c - 48 else if 97 ≤ c ∧ c ≤ 102 then c - 87 else -1
def step (b n c : Int) : Option Int := if dig c < 0 ∨ b ≤ dig c ∨ 9007199254740991 < n * b + dig c then none else some (n * b + dig c)
def lead (b : Int) : Int → List UInt8 → Int × Nat
  | n, [] => (n, 0)
  | n, c :: l => match step b n (c.toNat : Int) with
    | none => (n, 0)
    | some m => ((lead b m l).1, (lead b m l).2 + 1)
def vals (b : Int) : Int → List UInt8 → Int
  | n, [] => n
  | n, c :: l => match step b n (c.toNat : Int) with
    | none => -1
    | some m => vals b m l

theorem lead_none {b n : Int} {c : UInt8} {l : List UInt8} (h : step b n (c.toNat : Int) = none) : lead b n (c :: l) = (n, 0) := by simp [lead, h]
theorem lead_some {b n m : Int} {c : UInt8} {l : List UInt8} (h : step b n (c.toNat : Int) = some m) : lead b n (c :: l) = ((lead b m l).1, (lead b m l).2 + 1) := by simp [lead, h]
theorem vals_none {b n : Int} {c : UInt8} {l : List UInt8} (h : step b n (c.toNat : Int) = none) : vals b n (c :: l) = -1 := by simp [vals, h]
theorem vals_some {b n m : Int} {c : UInt8} {l : List UInt8} (h : step b n (c.toNat : Int) = some m) : vals b n (c :: l) = vals b m l := by simp [vals, h]

theorem dig_num {c : Int} (h : 48 ≤ c) (h' : c ≤ 57) : dig c = c - 48 := by simp [dig, h, h']
theorem dig_let {c : Int} (h : 97 ≤ c) (h' : c ≤ 102) : dig c = c - 87 := by
  unfold dig; rw [if_neg (by omega), if_pos ⟨h, h'⟩]
theorem dig_bad {c : Int} (h : ¬ (48 ≤ c ∧ c ≤ 57)) (h' : ¬ (97 ≤ c ∧ c ≤ 102)) : dig c = -1 := by
  unfold dig; rw [if_neg h, if_neg h']
theorem dig_lt (c : Int) : -1 ≤ dig c ∧ dig c ≤ 15 := by
  unfold dig
  split
  · omega
  · split <;> omega
theorem step_bad {b n c d : Int} (hd : dig c = d) (h : d < 0 ∨ b ≤ d ∨ 9007199254740991 < n * b + d) : step b n c = none := by
  subst hd; rw [step, if_pos h]
theorem step_ok {b n c d : Int} (hd : dig c = d) (h0 : 0 ≤ d) (h1 : d < b) (h2 : n * b + d ≤ 9007199254740991) : step b n c = some (n * b + d) := by
  subst hd; rw [step, if_neg (by omega)]
theorem step_bd {b n c m : Int} (hb : 0 ≤ b) (hn : 0 ≤ n) (h : step b n c = some m) : 0 ≤ m ∧ m ≤ 9007199254740991 := by
  unfold step at h
  split at h
  · simp at h
  · simp at h
    have := Int.mul_nonneg hn hb
    omega
theorem lead_len (b : Int) : ∀ (n : Int) (l : List UInt8), (lead b n l).2 ≤ l.length
  | n, [] => by simp [lead]
  | n, c :: l => by
    cases h : step b n (c.toNat : Int) with
    | none => simp [lead_none h]
    | some m => have := lead_len b m l; simp [lead_some h]; omega
theorem lead_bd (b : Int) (hb : 0 ≤ b) : ∀ (n : Int) (l : List UInt8), 0 ≤ n → n ≤ 9007199254740991 → 0 ≤ (lead b n l).1 ∧ (lead b n l).1 ≤ 9007199254740991
  | n, [], h0, h1 => by simp [lead]; omega
  | n, c :: l, h0, h1 => by
    cases h : step b n (c.toNat : Int) with
    | none => simp [lead_none h]; omega
    | some m =>
      obtain ⟨a, b'⟩ := step_bd hb h0 h
      rw [lead_some h]
      exact lead_bd b hb m l a b'
theorem vals_lead (b : Int) (hb : 0 ≤ b) : ∀ (n : Int) (l : List UInt8), 0 ≤ n → vals b n l = if (lead b n l).2 = l.length then (lead b n l).1 else -1
  | n, [], _ => by simp [vals, lead]
  | n, c :: l, h0 => by
    cases h : step b n (c.toNat : Int) with
    | none => simp [lead_none h, vals_none h]
    | some m =>
      rw [lead_some h, vals_some h, vals_lead b hb m l (step_bd hb h0 h).1]
      simp
theorem drop_atN (s : ByteArray) (k : Nat) (h : k < s.size) : s.data.toList.drop k = s[k] :: s.data.toList.drop (k + 1) := by
  have h' : k < s.data.toList.length := by simpa using h
  rw [List.drop_eq_getElem_cons h']; rfl
theorem drop_end (s : ByteArray) (k : Nat) (h : s.size ≤ k) : s.data.toList.drop k = [] := by simp; exact h

/-- What is left to read from index k on, with n read so far. -/
def LeadFrom (b : Int) (s : ByteArray) (n : Int) (k : Nat) : Prop :=
  lead b 0 s.data.toList = ((lead b n (s.data.toList.drop k)).1, (lead b n (s.data.toList.drop k)).2 + k)
theorem LeadFrom.start (b : Int) (s : ByteArray) : LeadFrom b s 0 0 := by simp [LeadFrom]
theorem LeadFrom.more {b n m : Int} {s : ByteArray} {k : Nat} (h : LeadFrom b s n k) (hk : k < s.size) (hs : step b n (s[k].toNat : Int) = some m) : LeadFrom b s m (k + 1) := by
  unfold LeadFrom at *
  rw [h, drop_atN s k hk, lead_some hs]
  simp; omega
theorem LeadFrom.stop {b n : Int} {s : ByteArray} {k : Nat} (h : LeadFrom b s n k) (hk : k < s.size) (hs : step b n (s[k].toNat : Int) = none) : lead b 0 s.data.toList = (n, k) := by
  unfold LeadFrom at h
  rw [h, drop_atN s k hk, lead_none hs]
  simp
theorem LeadFrom.done {b n : Int} {s : ByteArray} {k : Nat} (h : LeadFrom b s n k) (hk : s.size ≤ k) : lead b 0 s.data.toList = (n, k) := by
  unfold LeadFrom at h
  rw [h, drop_end s k hk]
  simp [lead]
def ValsFrom (b : Int) (s : ByteArray) (n : Int) (k : Nat) : Prop := vals b 0 s.data.toList = vals b n (s.data.toList.drop k)
theorem ValsFrom.start (b : Int) (s : ByteArray) : ValsFrom b s 0 0 := by simp [ValsFrom]
theorem ValsFrom.more {b n m : Int} {s : ByteArray} {k : Nat} (h : ValsFrom b s n k) (hk : k < s.size) (hs : step b n (s[k].toNat : Int) = some m) : ValsFrom b s m (k + 1) := by
  unfold ValsFrom at *
  rw [h, drop_atN s k hk, vals_some hs]
theorem ValsFrom.stop {b n : Int} {s : ByteArray} {k : Nat} (h : ValsFrom b s n k) (hk : k < s.size) (hs : step b n (s[k].toNat : Int) = none) : vals b 0 s.data.toList = -1 := by
  unfold ValsFrom at h
  rw [h, drop_atN s k hk, vals_none hs]
theorem ValsFrom.done {b n : Int} {s : ByteArray} {k : Nat} (h : ValsFrom b s n k) (hk : s.size ≤ k) : vals b 0 s.data.toList = n := by
  unfold ValsFrom at h
  rw [h, drop_end s k hk]
  simp [vals]
end Go.Proofs.YtancidbbkoeokabGreatDoor

/- Plain mathematics: a numeral is read as its number. Nothing of the program is said here. -/
namespace Go.Proofs.YtancidbbkoeokabGreatDoor

theorem dch_nat (d : Nat) (h : d < 16) : (dch d).toNat = if d < 10 then 48 + d else 87 + d := by
  unfold dch; split
  · simp; omega
  · simp; omega
theorem dig_dch (d : Nat) (h : d < 16) : dig ((dch d).toNat : Int) = d := by
  rw [dch_nat d h]
  by_cases hd : d < 10
  · rw [if_pos hd, dig_num (by omega) (by omega)]; omega
  · rw [if_neg hd, dig_let (by omega) (by omega)]; omega
theorem lead_append (b : Int) : ∀ (n : Int) (l r : List UInt8), (lead b n l).2 = l.length → lead b n (l ++ r) = ((lead b (lead b n l).1 r).1, (lead b (lead b n l).1 r).2 + l.length)
  | n, [], r, _ => by simp [lead]
  | n, c :: l, r, h => by
    cases hs : step b n (c.toNat : Int) with
    | none => rw [lead_none hs] at h; simp at h
    | some m =>
      rw [lead_some hs] at h
      simp only [List.length_cons, Nat.add_right_cancel_iff] at h
      rw [List.cons_append, lead_some hs, lead_append b m l r h, lead_some hs]
      simp; omega
/-- The digits of u are read as u, whatever follows is read on from there. -/
theorem lead_digs (b : Nat) (hb : 2 ≤ b) (hb16 : b ≤ 16) : ∀ (k u : Nat), u ≤ k → (u : Int) ≤ 9007199254740991 → lead b 0 (digs b u) = ((u : Int), (digs b u).length) := by
  intro k
  induction k with
  | zero => intro u h _; obtain rfl : u = 0 := by omega
            simp [digs_zero, lead]
  | succ k ih =>
    intro u h hM
    by_cases hu : u = 0
    · subst hu; simp [digs_zero, lead]
    · have hlt : u / b < u := Nat.div_lt_self (by omega) (by omega)
      have h1 := ih (u / b) (by omega) (by omega)
      have hmod : u % b < b := Nat.mod_lt u (by omega)
      have hdm := Nat.div_add_mod u b
      have hst : step b ((u / b : Nat) : Int) ((dch (u % b)).toNat : Int) = some (u : Int) := by
        have h2 : ((u / b : Nat) : Int) * (b : Int) + ((u % b : Nat) : Int) = (u : Int) := by
          have : u / b * b + u % b = u := by rw [Nat.mul_comm]; exact hdm
          exact_mod_cast this
        rw [step_ok (dig_dch (u % b) (by omega)) (by omega) (by omega) (by rw [h2]; exact hM), h2]
      rw [digs_pos hb (by omega), lead_append _ _ _ _ (by rw [h1]), h1]
      simp only
      rw [lead_some hst]
      simp [lead]; omega
theorem lead_numeral (b : Nat) (hb : 2 ≤ b) (hb16 : b ≤ 16) (u : Nat) (hM : (u : Int) ≤ 9007199254740991) : lead b 0 (numeral b u) = ((u : Int), (numeral b u).length) := by
  unfold numeral; split
  · rename_i h; subst h
    have hs : step b 0 (((48 : UInt8).toNat : Nat) : Int) = some 0 := by
      have := step_ok (b := b) (n := 0) (c := (((48 : UInt8).toNat : Nat) : Int)) (d := 0) (by decide) (by omega) (by omega) (by omega)
      simpa using this
    rw [lead_some hs]; simp [lead]
  · exact lead_digs b hb hb16 u u (Nat.le_refl _) hM
/-- What does not begin with a digit stops the reading. -/
def Stops (b : Int) (r : List UInt8) : Prop := r = [] ∨ ∃ c t, r = c :: t ∧ ∀ n, step b n (c.toNat : Int) = none
theorem lead_then (b : Nat) (hb : 2 ≤ b) (hb16 : b ≤ 16) (u : Nat) (hM : (u : Int) ≤ 9007199254740991) (r : List UInt8) (hr : Stops b r) : lead b 0 (numeral b u ++ r) = ((u : Int), (numeral b u).length) := by
  have h := lead_numeral b hb hb16 u hM
  rw [lead_append _ _ _ _ (by rw [h]), h]
  simp only
  rcases hr with rfl | ⟨c, t, rfl, hc⟩
  · simp [lead]
  · rw [lead_none (hc _)]; simp
theorem zeros_lead (b : Nat) (hb : 2 ≤ b) : ∀ (k : Nat) (l : List UInt8), lead b 0 (List.replicate k 48 ++ l) = ((lead b 0 l).1, (lead b 0 l).2 + k)
  | 0, l => by simp
  | k + 1, l => by
    have hs : step b 0 (((48 : UInt8).toNat : Nat) : Int) = some 0 := by
      have := step_ok (b := b) (n := 0) (c := (((48 : UInt8).toNat : Nat) : Int)) (d := 0) (by decide) (by omega) (by omega) (by omega)
      simpa using this
    rw [List.replicate_succ, List.cons_append, lead_some hs, zeros_lead b hb k l]
    simp; omega
theorem space_stops (b : Int) (k : Nat) : Stops b (List.replicate k 32) := by
  cases k with
  | zero => exact .inl rfl
  | succ k => exact .inr ⟨32, List.replicate k 32, rfl, fun n => step_bad (d := -1) (by decide) (.inl (by omega))⟩
theorem digs_lt {b : Nat} (hb : 2 ≤ b) : ∀ (k u : Nat), (digs b u).length ≤ k → u < b ^ k
  | 0, u, h => by
    rcases Nat.eq_zero_or_pos u with hu | hu
    · subst hu; simp
    · rw [digs_pos hb hu] at h; simp at h
  | k + 1, u, h => by
    rcases Nat.eq_zero_or_pos u with hu | hu
    · subst hu; exact Nat.pow_pos (by omega)
    · rw [digs_pos hb hu] at h
      simp at h
      have := digs_lt hb k (u / b) h
      rw [Nat.div_lt_iff_lt_mul (by omega)] at this
      rw [Nat.pow_succ]; exact this
theorem numeral_lt {b : Nat} (hb : 2 ≤ b) (k u : Nat) (h : (numeral b u).length ≤ k) : u < b ^ k := by
  unfold numeral at h; split at h
  · rename_i hu; subst hu; exact Nat.pow_pos (by omega)
  · exact digs_lt hb k u h
end Go.Proofs.YtancidbbkoeokabGreatDoor
