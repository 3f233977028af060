/- Contract of laws.szEntryS. -/
import Derived.Test.YtancidbbkoeokaaEntS
namespace Go.Proofs.Ytancidbbkoeokaa
open Go.ChangeShapes Go.WideShapes Go.ChangeAt Go.RowKit Go.Deep

/-- The letters of an entry's texts. -/
def esz (e : Ent) : Nat := e.path.size + e.link.size + e.user.size + e.group.size + e.body.size
def totE (E : Nat → Ent) : Nat → Nat
  | 0 => 0
  | n + 1 => totE E n + esz (E n)
theorem szv_esz (k : Int) (p l : ByteArray) (m u g t : Int) (us gr b : ByteArray) (left : Int) : szv p l us gr b left = if left < (esz ⟨k, p, l, m, u, g, t, us, gr, b⟩ : Int) then -1 else left - (esz ⟨k, p, l, m, u, g, t, us, gr, b⟩ : Int) := by
  have : (esz ⟨k, p, l, m, u, g, t, us, gr, b⟩ : Int) = (p.size : Int) + l.size + us.size + gr.size + b.size := by simp [esz]
  rw [this]; rfl
/-- What is left of a bound behind a slice of entries: less than none, or each entry and each letter counted. -/
def SzS (E : Nat → Ent) (len : Nat) (left : Int) (w : World) (e : Ending) (w' : World) : Prop :=
  (∃ r : Int, e = .returned (.int .i64 r) ∧ (r = -1 ∨ 0 ≤ r ∧ (len : Int) + totE E len + r = left)) ∧ Below w.heap.size w w'
end Go.Proofs.Ytancidbbkoeokaa
