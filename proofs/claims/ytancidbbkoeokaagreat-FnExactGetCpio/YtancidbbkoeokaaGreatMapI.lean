/- Maps from numbers to numbers that a call makes: how often each number has come. -/
import Derived.Test.YtancidbbkoeokaaGreatCom
import Derived.Maps.OwnSet
import Derived.Maps.OwnOps
namespace Go.Proofs.YtancidbbkoeokaaGreat
open Go.ChangeShapes Go.WideShapes Go.ChangeAt Go.RowKit Go.Maps

theorem lawIn : Keyed Tryz.prog 3 := int_keyed Tryz.underlying3
theorem zeroIn (w : World) : (zeroValue 3).run Tryz.prog w = .ok (.int .i64 0) w := by kernel_rfl
def keyIn (x : Int) : Lit := .int .i64 x
theorem wf_in {x : Int} (h0 : -9223372036854775808 ≤ x) (h1 : x ≤ 9223372036854775807) : (Lit.int .i64 x).wf = true := WalkArith.wf_i64 (by omega)
theorem key_in {x : Int} (h0 : -9223372036854775808 ≤ x) (h1 : x ≤ 9223372036854775807) : keyOf Tryz.prog 3 (.int .i64 x) = some (keyIn x) := keyOf_int_mk Tryz.underlying3 (wf_in h0 h1)
theorem keyIn_ne {a b : Int} (h : ¬ a = b) : keyIn a ≠ keyIn b := by
  intro e
  apply h
  simpa [keyIn] using e
/-- What the map D tells of each number; 0 where it does not hold it. -/
def CntIs (D : DataW Unit) (M : Int → Int) : Prop := IsMap D ∧ ∀ x, D.atKey (keyIn x) (.lit (.int .i64 0)) = .lit (.int .i64 (M x))
def CntAt (w : World) (b n : Nat) (M : Int → Int) : Prop := ∃ D : DataW Unit, w.ownsMap Tryz.prog 3 (plainElem Tryz.prog 3) b n D ∧ CntIs D M
def putN (M : Int → Int) (x c : Int) : Int → Int := fun y => if y = x then c else M y
theorem CntIs.put {D : DataW Unit} {M : Int → Int} (h : CntIs D M) (x c : Int) : CntIs (D.put (keyIn x) (.lit (.int .i64 c))) (putN M x c) := by
  refine ⟨h.1.put _ _, fun y => ?_⟩
  by_cases e : y = x
  · subst e
    rw [Maps.atKey_put_same h.1 (show WideAt.IsKeyLit (keyIn y) from trivial)]
    simp [putN]
  · rw [Maps.atKey_put_other (keyIn_ne e), h.2 y]
    simp [putN, e]
theorem cnt_made (w : World) : CntAt (w.alloc (.map #[] 0)) w.heap.size 0 (fun _ => 0) := ⟨.map [], World.ownsMap_made w _ _ _, isMap_empty, fun _ => rfl⟩
theorem CntAt.kept {w w' : World} {b n : Nat} {M : Int → Int} {row : Option Nat} (h : CntAt w b n M) (hg : w.grownBy w' row) (hne : some b ≠ row) : CntAt w' b n M := by
  obtain ⟨D, ho, hs⟩ := h
  exact ⟨D, World.ownsMap.kept ho hg hne, hs⟩
theorem CntAt.below {w w' : World} {b n : Nat} {M : Int → Int} (h : CntAt w b n M) (hb : Below w.heap.size w w') : CntAt w' b n M := by
  obtain ⟨D, ho, hs⟩ := h
  exact ⟨D, World.ownsMap.kept ho (row := none) ⟨hb.os, hb.tape, hb.output, hb.size, fun k hk _ => hb.block k hk⟩ (by simp), hs⟩
theorem CntAt.lt {w : World} {b n : Nat} {M : Int → Int} (h : CntAt w b n M) : b < w.heap.size := by
  obtain ⟨D, ho, _⟩ := h
  exact World.ownsMap.lt ho
end Go.Proofs.YtancidbbkoeokaaGreat
