/- What Base1 splits an entry into, in plain Lean. -/
import Derived.Test.YtlbanaakjabfnabDoorEntO
import Derived.Test.YtlbanaakjabfnabDoorRecL
import Derived.Test.YtlbanaakjabfnabDoorSplit
import Derived.Test.YtlbanaakjabfnabDoorEntOk
import Derived.Test.YtlbanaakjabfnabDoorDirBase
import Derived.Test.YtlbanaakjabfnabDoorDecText
namespace Go.Proofs.YtlbanaakjabfnabDoor
open Go.ChangeShapes Go.WideShapes Go.ChangeAt Go.RowKit Go.Deep

def kPath : ByteArray := ⟨#[112, 97, 116, 104]⟩
def kLink : ByteArray := ⟨#[108, 105, 110, 107, 112, 97, 116, 104]⟩
def kUid : ByteArray := ⟨#[117, 105, 100]⟩
def kGid : ByteArray := ⟨#[103, 105, 100]⟩
def kTime : ByteArray := ⟨#[109, 116, 105, 109, 101]⟩
/-- What of a link stands in a header. -/
def shortv (k : Int) (p l : ByteArray) : ByteArray := if k ≠ 3 then l.extract 0 100 else if basev l ≠ p then basev l else if p ≠ ⟨#[120]⟩ then ⟨#[120]⟩ else ⟨#[121]⟩
def b1p (p : ByteArray) : ByteArray := if splitOk p then p else basev p
def b1L (p : ByteArray) : List Rec := if splitOk p then [] else [⟨kPath, p⟩]
def b2c (k : Int) (p1 l : ByteArray) : Bool := decide (100 < l.size) || (decide (k = 3) && decide (l = p1))
def b2l (k : Int) (p1 l : ByteArray) : ByteArray := if b2c k p1 l then shortv k p1 l else l
def b2L (k : Int) (p1 l : ByteArray) (L : List Rec) : List Rec := if b2c k p1 l then L ++ [⟨kLink, l⟩] else L
def bn (lim n : Int) : Int := if lim < n then 0 else n
def bnL (key : ByteArray) (lim n : Int) (L : List Rec) : List Rec := if lim < n then L ++ [⟨key, decTextv n⟩] else L
def base1E (e : Ent) : Ent := if entOkv e then ⟨e.kind, b1p e.path, b2l e.kind (b1p e.path) e.link, e.mode, bn 2097151 e.uid, bn 2097151 e.gid, bn 8589934591 e.time, e.user, e.group, e.body⟩ else ⟨0, ⟨#[]⟩, ⟨#[]⟩, 0, 0, 0, 0, ⟨#[]⟩, ⟨#[]⟩, ⟨#[]⟩⟩
def base1L (e : Ent) : List Rec := if entOkv e then bnL kTime 8589934591 e.time (bnL kGid 2097151 e.gid (bnL kUid 2097151 e.uid (b2L e.kind (b1p e.path) e.link (b1L e.path)))) else []
theorem b1L_len (p : ByteArray) : (b1L p).length ≤ 1 := by unfold b1L; split <;> simp
theorem b2L_len (k : Int) (p1 l : ByteArray) (L : List Rec) : (b2L k p1 l L).length ≤ L.length + 1 := by unfold b2L; split <;> simp
theorem bnL_len (key : ByteArray) (lim n : Int) (L : List Rec) : (bnL key lim n L).length ≤ L.length + 1 := by unfold bnL; split <;> simp
theorem three_new {w w1 : World} {e z : Ent} (h : Below (((w.alloc (.cells e.cells.toArray 25)).alloc (.cells z.cells.toArray 25)).alloc (.cells #[] 44)).heap.size (((w.alloc (.cells e.cells.toArray 25)).alloc (.cells z.cells.toArray 25)).alloc (.cells #[] 44)) w1) :
    EntO w1 w.heap.size e ∧ EntO w1 (w.heap.size + 1) z ∧ OwnR w1 w.heap.size (.slice (some ⟨w.heap.size + 2, 0, none⟩) 0 0) [] ∧ Below w.heap.size w w1 ∧ w.heap.size + 3 ≤ w1.heap.size := by
  have hs : (((w.alloc (.cells e.cells.toArray 25)).alloc (.cells z.cells.toArray 25)).alloc (.cells #[] 44)).heap.size = w.heap.size + 3 := by simp
  have hs1 : (w.alloc (.cells e.cells.toArray 25)).heap.size = w.heap.size + 1 := by simp
  have hs2 : ((w.alloc (.cells e.cells.toArray 25)).alloc (.cells z.cells.toArray 25)).heap.size = w.heap.size + 2 := by simp
  have a1 := EntO.new w e
  have a2 : EntO ((w.alloc (.cells e.cells.toArray 25)).alloc (.cells z.cells.toArray 25)) w.heap.size e := a1.below ((Below.refl _ _).alloc (Nat.le_refl _) _) (by omega)
  have a3 := a2.below ((Below.refl _ _).alloc (o := .cells #[] 44) (Nat.le_refl _)) (by omega)
  have b2 := EntO.new (w.alloc (.cells e.cells.toArray 25)) z
  rw [hs1] at b2
  have b3 := b2.below ((Below.refl _ _).alloc (o := .cells #[] 44) (Nat.le_refl _)) (by omega)
  have c3 := OwnR.lit (w := (w.alloc (.cells e.cells.toArray 25)).alloc (.cells z.cells.toArray 25)) (base := w.heap.size) (by omega)
  rw [hs2] at c3
  refine ⟨a3.below h (by omega), b3.below h (by omega), c3.keep h, ?_, by have := h.size; omega⟩
  exact ((((Below.refl _ w).alloc (Nat.le_refl _) _).alloc (by omega) _).alloc (by omega) _).trans (h.mono (by omega))
end Go.Proofs.YtlbanaakjabfnabDoor
