/- Contract of impl.(*odcHead).digits. -/
import Derived.Test.YtcnmbolmgifgfaaCardTextI
namespace Go.Proofs.Ytcnmbolmgifgfaa
open Go.ChangeShapes Go.WideShapes Go.ChangeAt Go.RowKit Go.Deep

theorem own_ne_ty {w : World} {base : Nat} {e t : TypeId} {v : Value} {n g : Nat} {xs : List Value} {cs : Array Value} {fr : Nat × Nat} (h : w.ownsRow base e 1 v n xs) (hg : w.heap[g]? = some (.cells cs t fr)) (ht : ¬ t = e) : some g ≠ v.ownBlock := by
  intro e1
  rcases h.2 with ⟨h0, _⟩ | ⟨g', cap', cur, hv, hg', hh, _⟩
  · subst h0; simp [Value.ownBlock] at e1
  · subst hv
    simp [Value.ownBlock] at e1
    subst e1
    rw [hg] at hh
    simp at hh
    exact ht hh.2.1
/-- The numbers of a head, each at its place. -/
def NumsAt (w : World) (gh : Nat) (L : List (Int × Int)) : Prop := ∀ i x, L[i]? = some x → w.cell? ⟨gh, offv i, none⟩ = some (.int .i64 x.1)
theorem NumsAt.below {w w' : World} {gh B : Nat} {L : List (Int × Int)} (h : NumsAt w gh L) (hb : Below B w w') (hg : gh < B) : NumsAt w' gh L := fun i x hx => (hb.cell (p := ⟨gh, offv i, none⟩) hg).trans (h i x hx)
theorem field_at {w : World} {G gh : Nat} {ty : TypeId} (h : w.heap[G]? = some (.cells (fieldCells gh) ty (0, 0))) {L : List (Int × Int)} (hL : L.map Prod.snd = wideC) {i : Nat} {x : Int × Int} (hx : L[i]? = some x) : w.cell? ⟨G, i * 2, none⟩ = some (.pointer (some ⟨gh, offv i, none⟩)) ∧ w.cell? ⟨G, i * 2 + 1, none⟩ = some (.int .i64 x.2) := by
  have hi : i < 10 := by
    have h1 := (List.getElem?_eq_some_iff.1 hx).1
    have h2 := congrArg List.length hL
    simp [wideC] at h2
    omega
  have h2 : wideC[i]? = some x.2 := by rw [← hL]; simp [hx]
  simp only [World.cell?, h]
  match i, hi, h2 with
  | 0, _, h2 => simp [fieldCells, offv, wideC] at h2 ⊢; exact h2
  | 1, _, h2 => simp [fieldCells, offv, wideC] at h2 ⊢; exact h2
  | 2, _, h2 => simp [fieldCells, offv, wideC] at h2 ⊢; exact h2
  | 3, _, h2 => simp [fieldCells, offv, wideC] at h2 ⊢; exact h2
  | 4, _, h2 => simp [fieldCells, offv, wideC] at h2 ⊢; exact h2
  | 5, _, h2 => simp [fieldCells, offv, wideC] at h2 ⊢; exact h2
  | 6, _, h2 => simp [fieldCells, offv, wideC] at h2 ⊢; exact h2
  | 7, _, h2 => simp [fieldCells, offv, wideC] at h2 ⊢; exact h2
  | 8, _, h2 => simp [fieldCells, offv, wideC] at h2 ⊢; exact h2
  | 9, _, h2 => simp [fieldCells, offv, wideC] at h2 ⊢; exact h2
end Go.Proofs.Ytcnmbolmgifgfaa
