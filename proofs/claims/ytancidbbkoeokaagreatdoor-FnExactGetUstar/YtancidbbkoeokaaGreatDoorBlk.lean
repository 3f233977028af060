/- A block of 512 bytes in memory, and the place of each field of a header in it. -/
import Derived.Test.YtancidbbkoeokaaGreatDoorCom
import Derived.Lib.BufferWrite
import Derived.Laws.Tables
import Derived.Laws.AppendOwn
namespace Go.Proofs.YtancidbbkoeokaaGreatDoor
open Go.ChangeShapes Go.WideShapes Go.ChangeAt Go.RowKit

def Blk (w : World) (g : Nat) (l : List UInt8) : Prop := l.length = 512 ∧ w.heap[g]? = some (.cells (Lib.byteCells l).toArray 105 (0, 0))
def widths : List Nat := [100, 8, 8, 8, 12, 12, 8, 1, 100, 8, 32, 32, 8, 8, 155]
def offs (k : Nat) : Nat := (widths.take k).sum
def FW (w : World) : Prop := ∀ i x, widths[i]? = some x → w.cell? ⟨1, i, none⟩ = some (.int .i64 (x : Nat))
theorem widths_at {k : Nat} (h : k < 15) : ∃ x, widths[k]? = some x ∧ 1 ≤ x ∧ x ≤ 155 ∧ offs (k + 1) = offs k + x ∧ offs k + x ≤ 500 := by
  match k, h with
  | 0, _ => exact ⟨100, by decide⟩
  | 1, _ => exact ⟨8, by decide⟩
  | 2, _ => exact ⟨8, by decide⟩
  | 3, _ => exact ⟨8, by decide⟩
  | 4, _ => exact ⟨12, by decide⟩
  | 5, _ => exact ⟨12, by decide⟩
  | 6, _ => exact ⟨8, by decide⟩
  | 7, _ => exact ⟨1, by decide⟩
  | 8, _ => exact ⟨100, by decide⟩
  | 9, _ => exact ⟨8, by decide⟩
  | 10, _ => exact ⟨32, by decide⟩
  | 11, _ => exact ⟨32, by decide⟩
  | 12, _ => exact ⟨8, by decide⟩
  | 13, _ => exact ⟨8, by decide⟩
  | 14, _ => exact ⟨155, by decide⟩
theorem field_any (g k x : Nat) (w : World) (hk : k < 15) (hx : widths[k]? = some x) (hF : FW w) :
    Calls Tryz.prog 72 #[.pointer (some ⟨g, 0, none⟩), .int .i64 k] w fun e w' => e = .returned (.slice (some ⟨g, offs k, none⟩) x x) ∧ w' = w := by
  have HF := Lib.hid hF
  clear hF
  go_enter Tryz.func72, Tryz.ntmps72
  go_wp2
  go_loop [5, 9] (fun f i => ∃ j : Nat, j ≤ k ∧ i = .int .i64 j ∧ f = .int .i64 (offs j : Nat)) (fun _ i => k - (intOf i).toNat)
  case atStart => exact ⟨0, Nat.zero_le _, rfl, rfl⟩
  case round =>
    obtain ⟨j, hj, rfl, rfl⟩ := hrel
    obtain ⟨y, hy, y1, y2, y3, y4⟩ := widths_at (show j < 15 by omega)
    have hc := HF.out j y hy
    by_cases hlt : (j : Int) < (k : Int)
    · have HY := Lib.hid y3
      clear y3 hy
      generalize offs j = o at *
      have i1 : (j : Int) < 15 := by omega
      go_wp2
      go_round
      case rel => exact ⟨j + 1, by omega, by go_num, by rw [HY.out]; go_num⟩
      case measure => simp [intOf]; omega
    · obtain rfl : j = k := by omega
      obtain rfl : y = x := by rw [hy] at hx; exact Option.some.inj hx
      obtain ⟨o, ho⟩ : ∃ o, offs j = o := ⟨_, rfl⟩
      rw [ho] at y4
      rw [ho]
      have HO := Lib.hid ho
      clear y3 hy hx ho
      have i1 : (j : Int) < 15 := by omega
      have i2 : (0 : Int) ≤ (o : Int) := by omega
      have i3 : (o : Int) ≤ (o : Int) + (y : Int) := by omega
      have i4 : (o : Int) + (y : Int) ≤ 512 := by omega
      go_wp2
      go_ret
      exact ⟨by rw [HO.out]; rfl, rfl⟩
theorem Tryz.sizeB : (Tryz.prog.info? 5).map (·.size) = some 1 := by kernel_rfl
/-- The bytes s laid over those of l from o on. -/
def over (l : List UInt8) (o : Nat) (s : List UInt8) : List UInt8 := l.take o ++ s ++ l.drop (o + s.length)
theorem over_len {l s : List UInt8} {o : Nat} (h : o + s.length ≤ l.length) : (over l o s).length = l.length := by simp [over]; omega
theorem bc_take (l : List UInt8) (o : Nat) : (Lib.byteCells l).take o = Lib.byteCells (l.take o) := by simp [Lib.byteCells]
theorem bc_drop (l : List UInt8) (o : Nat) : (Lib.byteCells l).drop o = Lib.byteCells (l.drop o) := by simp [Lib.byteCells]
theorem bc_app (l m : List UInt8) : Lib.byteCells (l ++ m) = Lib.byteCells l ++ Lib.byteCells m := by simp [Lib.byteCells]
theorem Blk.set {w : World} {g o : Nat} {l s : List UInt8} (h : Blk w g l) (hs : o + s.length ≤ 512) : Blk (w.setRow g (Lib.byteCells (over l o s)).toArray) g (over l o s) :=
  ⟨by rw [over_len (by rw [h.1]; exact hs)]; exact h.1, setRow_heap _ _ _ _ _ _ h.2⟩
theorem below_set {B g : Nat} {w : World} (hB : B ≤ g) (cs : Array Value) : Below B w (w.setRow g cs) :=
  ⟨rfl, rfl, rfl, by simp, fun k hk => setRow_other _ _ _ _ (by omega)⟩
theorem grown_setRow (w : World) (g : Nat) (cs : Array Value) : w.grownBy (w.setRow g cs) (some g) :=
  ⟨rfl, rfl, rfl, by simp, fun k _ hne => setRow_other _ _ _ _ (fun e => hne (by rw [e]))⟩
theorem grown_below {w w' : World} {g B : Nat} (h : w.grownBy w' (some g)) (hB : B ≤ g) (hg : g < w.heap.size) : Below B w w' :=
  ⟨h.os, h.tape, h.output, h.size, fun k hk => h.block k (by omega) (fun e => by cases e; omega)⟩
theorem grown_of_below {w w' : World} {row : Option Nat} (h : Below w.heap.size w w') : w.grownBy w' row :=
  ⟨h.os, h.tape, h.output, h.size, fun k hk _ => h.block k hk⟩
theorem grown_after {w w1 w2 : World} {g : Nat} (h1 : w.grownBy w1 (some g)) (h2 : w1.grownBy w2 (some g)) : w.grownBy w2 (some g) :=
  ⟨h2.os.trans h1.os, h2.tape.trans h1.tape, h2.output.trans h1.output, Nat.le_trans h1.size h2.size, fun k hk hne => (h2.block k (Nat.lt_of_lt_of_le hk h1.size) hne).trans (h1.block k hk hne)⟩
theorem put_anyG (g k x : Nat) (l : List UInt8) (s : ByteArray) (w : World) (hk : k < 15) (hx : widths[k]? = some x) (hs : s.size ≤ x) (hF : FW w) (hB : Blk w g l) :
    Calls Tryz.prog 105 #[.pointer (some ⟨g, 0, none⟩), .int .i64 k, .string s] w fun e w' => e = .returned (.tuple #[]) ∧ Blk w' g (over l (offs k) s.data.toList) ∧ w'.heap.size = w.heap.size ∧ w.grownBy w' (some g) := by
  have H1 := Lib.hid (fun w h => field_any g k x w hk hx h)
  obtain ⟨y, hy, y1, y2, y3, y4⟩ := widths_at hk
  obtain rfl : y = x := by rw [hy] at hx; exact Option.some.inj hx
  have hsz : s.data.toList.length = s.size := by simp
  have hr := Lib.run_copy_row_string (P := Tryz.prog) w 64 9 3 5 g (offs k) y y s (Lib.byteCells l).toArray 105 Tryz.underlying64 Tryz.sizeB hB.2 hs (by simp [Lib.byteCells_length, hB.1]; omega)
  have hset : ((Lib.byteCells l).toArray.toList.take (offs k) ++ Lib.byteCells s.data.toList ++ (Lib.byteCells l).toArray.toList.drop (offs k + s.size)).toArray = (Lib.byteCells (over l (offs k) s.data.toList)).toArray := by
    simp only [over, bc_app, bc_take, bc_drop, hsz]
  rw [hset] at hr
  have HB := Lib.hid (Blk.set (o := offs k) (s := s.data.toList) hB (by rw [hsz]; omega))
  have HR := Lib.hid hr
  have HF := Lib.hid hF
  clear hr hset hB hF hx hy y3
  generalize over l (offs k) s.data.toList = m at *
  go_enter Tryz.func105, Tryz.ntmps105
  go_wp2_with fail
  refine (H1.out _ HF.out).mono ?_
  rintro e w1 ⟨rfl, rfl⟩
  have hr := HR.out
  go_wp2
  refine bodyPost_end (results_none rfl _ _ _) rfl ?_
  exact ⟨rfl, HB.out, by simp, grown_setRow _ _ _⟩
theorem put_any (g k x : Nat) (l : List UInt8) (s : ByteArray) (w : World) (hk : k < 15) (hx : widths[k]? = some x) (hs : s.size ≤ x) (hF : FW w) (hB : Blk w g l) :
    Calls Tryz.prog 105 #[.pointer (some ⟨g, 0, none⟩), .int .i64 k, .string s] w fun e w' => e = .returned (.tuple #[]) ∧ Blk w' g (over l (offs k) s.data.toList) ∧ w'.heap.size = w.heap.size ∧ ∀ B, B ≤ g → Below B w w' := by
  refine (put_anyG g k x l s w hk hx hs hF hB).mono ?_
  rintro e w' ⟨h1, h2, h3, h4⟩
  exact ⟨h1, h2, h3, fun B hb => grown_below h4 hb (Array.getElem?_eq_some_iff.1 hB.2).1⟩
end Go.Proofs.YtancidbbkoeokaaGreatDoor
