/- Maps from texts to numbers, and sets of texts, that a call makes. -/
import Derived.Test.YtancidbbkoeokaaGreatCom
import Derived.Maps.OwnSet
import Derived.Maps.OwnOps
namespace Go.Proofs.YtancidbbkoeokaaGreat
open Go.ChangeShapes Go.WideShapes Go.ChangeAt Go.RowKit Go.Maps

theorem lawS : Keyed Tryz.prog 9 := string_keyed Tryz.underlying9
theorem zeroN (w : World) : (zeroValue 3).run Tryz.prog w = .ok (.int .i64 0) w := by kernel_rfl
def keyS (s : ByteArray) : Lit := .string s.data.toList
theorem key_of {s : ByteArray} (h : s.size ≤ maxLen) : keyOf Tryz.prog 9 (.string s) = some (keyS s) := WideMaps.keyOf_string_mk Tryz.underlying9 h
theorem keyS_ne {a b : ByteArray} (h : ¬ a = b) : keyS a ≠ keyS b := by
  intro e
  apply h
  exact ba_ext (by simpa [keyS] using e)
theorem keyS_lit (a : ByteArray) : WideAt.IsKeyLit (keyS a) := trivial
/-- What the map D tells of each text. -/
def MapIs (D : DataW Unit) (M : ByteArray → Option Int) : Prop := IsMap D ∧ ∀ s, Maps.has D (keyS s) = (M s).isSome ∧ ∀ c, M s = some c → D.atKey (keyS s) (.lit (.int .i64 0)) = .lit (.int .i64 c)
/-- Block b is a map from texts to numbers of at most n entries. -/
def MapAt (w : World) (b n : Nat) (M : ByteArray → Option Int) : Prop := ∃ D : DataW Unit, w.ownsMap Tryz.prog 9 (plainElem Tryz.prog 3) b n D ∧ MapIs D M
def putM (M : ByteArray → Option Int) (s : ByteArray) (c : Int) : ByteArray → Option Int := fun t => if t = s then some c else M t
theorem MapIs.put {D : DataW Unit} {M : ByteArray → Option Int} (h : MapIs D M) (s : ByteArray) (c : Int) : MapIs (D.put (keyS s) (.lit (.int .i64 c))) (putM M s c) := by
  refine ⟨h.1.put _ _, fun t => ?_⟩
  by_cases e : t = s
  · subst e
    refine ⟨by rw [Maps.has_put_same h.1 (keyS_lit _)]; simp [putM], fun d hd => ?_⟩
    rw [Maps.atKey_put_same h.1 (keyS_lit _)]
    simp [putM] at hd
    rw [hd]
  · refine ⟨by rw [Maps.has_put_other (keyS_ne e), (h.2 t).1]; simp [putM, e], fun d hd => ?_⟩
    rw [Maps.atKey_put_other (keyS_ne e)]
    simp [putM, e] at hd
    exact (h.2 t).2 d hd
theorem mapIs_empty : MapIs (.map []) (fun _ => none) := ⟨isMap_empty, fun _ => ⟨rfl, fun _ h => by cases h⟩⟩
theorem mapAt_made (w : World) : MapAt (w.alloc (.map #[] 0)) w.heap.size 0 (fun _ => none) := ⟨.map [], World.ownsMap_made w _ _ _, mapIs_empty⟩
theorem MapAt.kept {w w' : World} {b n : Nat} {M : ByteArray → Option Int} {row : Option Nat} (h : MapAt w b n M) (hg : w.grownBy w' row) (hne : some b ≠ row) : MapAt w' b n M := by
  obtain ⟨D, ho, hs⟩ := h
  exact ⟨D, World.ownsMap.kept ho hg hne, hs⟩
theorem ownsMap_below {w w' : World} {k : TypeId} {R : Value → Option (DataW Unit × List MemPlace)} {b n : Nat} {D : DataW Unit} (h : w.ownsMap Tryz.prog k R b n D) (hb : Below w.heap.size w w') : w'.ownsMap Tryz.prog k R b n D :=
  World.ownsMap.kept h (row := none) ⟨hb.os, hb.tape, hb.output, hb.size, fun k hk _ => hb.block k hk⟩ (by simp)
theorem MapAt.below {w w' : World} {b n : Nat} {M : ByteArray → Option Int} (h : MapAt w b n M) (hb : Below w.heap.size w w') : MapAt w' b n M := by
  obtain ⟨D, ho, hs⟩ := h
  exact ⟨D, ownsMap_below ho hb, hs⟩
theorem MapAt.lt {w : World} {b n : Nat} {M : ByteArray → Option Int} (h : MapAt w b n M) : b < w.heap.size := by
  obtain ⟨D, ho, _⟩ := h
  exact World.ownsMap.lt ho
/-- The set D of texts. -/
def SetSIs (D : DataW Unit) (T : ByteArray → Bool) : Prop := IsMap D ∧ ∀ s, Maps.has D (keyS s) = T s
def SetSAt (w : World) (b n : Nat) (T : ByteArray → Bool) : Prop := ∃ D : DataW Unit, w.ownsMap Tryz.prog 9 (unitElem (H := Unit)) b n D ∧ SetSIs D T
def putT (T : ByteArray → Bool) (s : ByteArray) : ByteArray → Bool := fun t => decide (t = s) || T t
theorem SetSIs.put {D : DataW Unit} {T : ByteArray → Bool} (h : SetSIs D T) (s : ByteArray) (u : DataW Unit) : SetSIs (D.put (keyS s) u) (putT T s) := by
  refine ⟨h.1.put _ _, fun t => ?_⟩
  by_cases e : t = s
  · subst e
    rw [Maps.has_put_same h.1 (keyS_lit _)]; simp [putT]
  · rw [Maps.has_put_other (keyS_ne e), h.2 t]; simp [putT, e]
theorem setS_made (w : World) : SetSAt (w.alloc (.map #[] 0)) w.heap.size 0 (fun _ => false) := ⟨.map [], World.ownsMap_made w _ _ _, isMap_empty, fun _ => rfl⟩
theorem SetSAt.kept {w w' : World} {b n : Nat} {T : ByteArray → Bool} {row : Option Nat} (h : SetSAt w b n T) (hg : w.grownBy w' row) (hne : some b ≠ row) : SetSAt w' b n T := by
  obtain ⟨D, ho, hs⟩ := h
  exact ⟨D, World.ownsMap.kept ho hg hne, hs⟩
theorem SetSAt.below {w w' : World} {b n : Nat} {T : ByteArray → Bool} (h : SetSAt w b n T) (hb : Below w.heap.size w w') : SetSAt w' b n T := by
  obtain ⟨D, ho, hs⟩ := h
  exact ⟨D, ownsMap_below ho hb, hs⟩
theorem SetSAt.lt {w : World} {b n : Nat} {T : ByteArray → Bool} (h : SetSAt w b n T) : b < w.heap.size := by
  obtain ⟨D, ho, _⟩ := h
  exact World.ownsMap.lt ho
end Go.Proofs.YtancidbbkoeokaaGreat
