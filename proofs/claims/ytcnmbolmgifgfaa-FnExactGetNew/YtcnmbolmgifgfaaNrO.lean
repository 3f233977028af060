/- The reader of a card with hexadecimal numbers as one object, and the small functions that its steps call. -/
import Derived.Test.YtcnmbolmgifgfaaNewM
import Derived.Test.YtcnmbolmgifgfaaNrF
import Derived.Test.YtcnmbolmgifgfaaCutP
import Derived.Test.YtcnmbolmgifgfaaClone
import Derived.Test.YtcnmbolmgifgfaaRegTail
import Derived.BigRegion
import Derived.Deep.DeepCutAuto
import Derived.OwnWalk
import Derived.BigQuiet
import Derived.Laws.StructEq
namespace Go.Proofs.Ytcnmbolmgifgfaa
open Go.ChangeShapes Go.WideShapes Go.ChangeAt Go.RowKit Go.Deep

theorem ext_preN (s : ByteArray) (a n b : Nat) (h : a + n ≤ b) (_hb : b ≤ s.size) : (s.extract a b).extract 0 n = s.extract a (a + n) := by
  apply ba_ext
  simp
  omega
theorem ext_sufN (s : ByteArray) (a n b : Nat) (h : a + n ≤ b) (_hb : b ≤ s.size) : (s.extract a b).extract n (s.extract a b).size = s.extract (a + n) b := by
  apply ba_ext
  simp
  omega
structure Nr where
  n0 : Int
  n1 : Int
  n2 : Int
  n3 : Int
  n4 : Int
  n5 : Int
  pa : ByteArray
  da : ByteArray
  ds : Int
  z0 : Int
  z1 : Int
  z2 : Int
  z3 : Int
  ps : Int
  sm : Int
  crc : Bool
  rest : ByteArray
  nm : ByteArray
  np : ByteArray
  dp : ByteArray
def Nr.cells (x : Nr) : Array Value := #[.int .i64 x.n0, .int .i64 x.n1, .int .i64 x.n2, .int .i64 x.n3, .int .i64 x.n4, .int .i64 x.n5, .string x.pa, .string x.da, .int .i64 x.ds, .int .i64 x.z0, .int .i64 x.z1, .int .i64 x.z2, .int .i64 x.z3, .int .i64 x.ps, .int .i64 x.sm, .bool x.crc, .string x.rest, .string x.nm, .string x.np, .string x.dp]
def NrO (w : World) (g : Nat) (x : Nr) : Prop := w.heap[g]? = some (.cells x.cells 51 (0, 0))
section
variable {w w' : World} {g : Nat} {x y : Nr}
theorem NrO.cell (h : NrO w g x) (i : Nat) (v : Value) (hi : x.cells[i]? = some v) : w.cell? ⟨g, i, none⟩ = some v := by
  unfold NrO at h
  simp [World.cell?, h, hi]
theorem NrO.fz (h : NrO w g x) (i : Nat) : w.frozen? ⟨g, i, none⟩ = false := by
  unfold NrO at h
  simp [World.frozen?, h]
theorem NrO.set (h : NrO w g x) (i : Nat) (v : Value) (he : x.cells.setIfInBounds i v = y.cells) : NrO (w.setCell ⟨g, i, none⟩ v) g y := by
  unfold NrO at h ⊢
  rw [← he]
  exact heap_setN h
theorem NrO.lt (h : NrO w g x) : g < w.heap.size := (Array.getElem?_eq_some_iff.1 h).1
theorem NrO.below {B : Nat} (h : NrO w g x) (hb : Below B w w') (hg : g < B) : NrO w' g x := (hb.block g hg).trans h
end
theorem nr_set {g : Nat} {w w' : World} (h : Below g w w') (i : Nat) (v : Value) : Below g w (w'.setCell ⟨g, i, none⟩ v) := h.setCell (Nat.le_refl _) v
theorem bel_drew {B : Nat} {w w' : World} {n : Nat} (h : Below B w w') : Below B w (w'.drewN n) := ⟨h.os, h.tape, h.output, h.size, h.block⟩
set_option maxRecDepth 8000 in
theorem take_any (g : Nat) (x : Nr) (n : Nat) (w : World) (h : NrO w g x) (hn : n ≤ x.rest.size) :
    Calls Try.prog 56 #[.pointer (some ⟨g, 0, none⟩), .int .i64 (n : Int)] w fun e w' => e = .returned (.string (x.rest.extract 0 n)) ∧ NrO w' g { x with rest := x.rest.extract n x.rest.size } ∧ Below g w w' := by
  have c16 := h.cell 16 (.string x.rest) rfl
  have z16 := h.fz 16
  have HN := Lib.hid (h.set (y := { x with rest := x.rest.extract n x.rest.size }) 16 (.string (x.rest.extract n x.rest.size)) rfl)
  clear h
  generalize (⟨x.n0, x.n1, x.n2, x.n3, x.n4, x.n5, x.pa, x.da, x.ds, x.z0, x.z1, x.z2, x.z3, x.ps, x.sm, x.crc, x.rest.extract n x.rest.size, x.nm, x.np, x.dp⟩ : Nr) = y at HN ⊢
  generalize x.rest = r at *
  have hS1 : ∀ w, (Instr.slice 9 (.string r) none (some (.int .i64 (n : Int))) none).run Try.prog w = .ok (.string (r.extract 0 n)) w := fun w => by
    have h := run_slice_string_h (P := Try.prog) (w := w) (t := 9) (s := r) Try.underlying9 .i64 (n : Int) (by omega) (by omega)
    rw [Int.toNat_natCast] at h
    exact h
  have hS2 : ∀ w, (Instr.slice 9 (.string r) (some (.int .i64 (n : Int))) none none).run Try.prog w = .ok (.string (r.extract n r.size)) w := fun w => by
    have h := run_slice_string_l (P := Try.prog) (w := w) (t := 9) (s := r) Try.underlying9 .i64 (n : Int) (by omega) (by omega)
    rw [Int.toNat_natCast] at h
    exact h
  clear hn
  generalize r.extract 0 n = r1 at *
  generalize r.extract n r.size = r2 at *
  go_enter Try.func56, Try.ntmps56
  go_wp2_with fail
  go_ret
  exact ⟨rfl, HN.out, nr_set (Below.refl _ _) _ _⟩
end Go.Proofs.Ytcnmbolmgifgfaa
