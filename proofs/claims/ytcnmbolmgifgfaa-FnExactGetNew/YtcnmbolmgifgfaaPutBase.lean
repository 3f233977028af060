/- Contracts of spec.l01Digits (bases 8, 10, 16), spec.l01Ahead with the sign 0, and strings.Repeat of one byte. -/
import Derived.Test.YtcnmbolmgifgfaaDigSl
import Derived.Test.YtcnmbolmgifgfaaIn
import Derived.Test.YtcnmbolmgifgfaaShelf
import Derived.Lib.Repeat
namespace Go.Proofs.Ytcnmbolmgifgfaa
open Go.ChangeShapes Go.WideShapes Go.ChangeAt Go.RowKit

def numv (b : Nat) (n : Int) : ByteArray := ⟨(numeral b n.toNat).toArray⟩
theorem numeral_len {b u k : Nat} (hb : 2 ≤ b) (hk : 1 ≤ k) (hu : u < b ^ k) : (numeral b u).length ≤ k := by
  unfold numeral; split
  · simpa using hk
  · exact digs_len hb k u hu
theorem numeral_pos {b u : Nat} (hb : 2 ≤ b) : 1 ≤ (numeral b u).length := by
  unfold numeral; split
  · simp
  · rw [digs_pos hb (by omega)]; simp
theorem ba_size (l : List UInt8) : (⟨l.toArray⟩ : ByteArray).size = l.length := by simp [ByteArray.size]
theorem ba_app (a b : List UInt8) : (⟨a.toArray⟩ : ByteArray) ++ ⟨b.toArray⟩ = ⟨(a ++ b).toArray⟩ := by apply ByteArray.ext; simp
def strLen : Value → Nat
  | .string s => s.size
  | _ => 0

def ahead (l : List UInt8) (width : Int) : List UInt8 := List.replicate (width.toNat - l.length) 48 ++ l
theorem repeatL_one (c : UInt8) (n : Nat) : Lib.repeatL [c] n = List.replicate n c := by
  induction n with
  | zero => rfl
  | succ n ih => rw [Lib.repeatL, ih]; simp [List.replicate_succ]
end Go.Proofs.Ytcnmbolmgifgfaa
