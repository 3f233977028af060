/- A slice of entries as it comes in. -/
import Derived.Test.YtancidbbkoeokaaGreatEntAt
namespace Go.Proofs.YtancidbbkoeokaaGreat
open Go.ChangeShapes Go.WideShapes Go.ChangeAt Go.RowKit Go.Deep

/-- What a walk is told of a slice of entries that came in: it is nil, or it leads to a row of cap entries. -/
def IsRowE (w : World) (a : Option Addr) (len cap : Nat) (es : List Ent) : Prop :=
  (a = none ∧ len = 0 ∧ cap = 0 ∧ es = []) ∨
  ∃ x, a = some x ∧ len ≤ cap ∧ cap ≤ maxLen ∧ es.length = cap ∧ ∀ i, (h : i < es.length) → (∀ j, j < 10 → w.cell? (x.add (i * 10 + j)) = es[i].cells[j]?) ∧ es[i].wf
section
variable {H : Type} {enc : TypeId × Value → H} {P : Program} {w : World} {base : Nat} {held : Bool}
theorem ents_open {t el ti ts : TypeId} {fs : Array Field} {fuel : Nat} {a : Option Addr} {len cap : Nat} {x : DataW H × List MemPlace} (ht : P.underlying t = some (.slice el)) (he : P.underlying el = some (.struct fs)) (hone : oneCellFields P fs = true) (hC : P.cellsOf el = fs.size)
    (hty : fs.toList.map (·.type) = [ti, ts, ts, ti, ti, ti, ti, ts, ts, ts]) (hi : P.underlying ti = some (.int .i64)) (hs : P.underlying ts = some .string)
    (h : DataW.trod enc P w base (fun _ => true) held fuel t [.slice a len cap] = some x) : ∃ es, IsRowE w a len cap es := by
  have hten : fs.size = 10 := by
    have := congrArg List.length hty
    simpa using this
  rcases open_slice ht h with ⟨hcs, _⟩ | ⟨y, l, c, m, n, D, Pl, hcs, _, hl, hm, hmm, _, hel⟩
  · simp at hcs
    obtain ⟨rfl, rfl, rfl⟩ := hcs
    exact ⟨[], .inl ⟨rfl, rfl, rfl, rfl⟩⟩
  · simp at hcs
    obtain ⟨rfl, rfl, rfl⟩ := hcs
    simp at hmm
    subst hmm
    have hex : ∀ i : Nat, ∃ e : Ent, i < m → (∀ j, j < 10 → w.cell? (y.add (i * 10 + j)) = e.cells[j]?) ∧ e.wf := by
      intro i
      by_cases him : i < m
      · obtain ⟨cs', hc, ht'⟩ := hel i him
        obtain ⟨e, rfl, hw⟩ := ent_open he hone hC hty hi hs ht'
        obtain ⟨_, _, hat⟩ := World.cells?_some hc
        rw [hC, hten] at hat
        refine ⟨e, fun _ => ⟨fun j hj => ?_, hw⟩⟩
        rw [← Go.Deep.add_add]
        exact hat j hj
      · exact ⟨⟨0, ⟨#[]⟩, ⟨#[]⟩, 0, 0, 0, 0, ⟨#[]⟩, ⟨#[]⟩, ⟨#[]⟩⟩, fun h => absurd h him⟩
    refine ⟨(List.range m).map fun i => Classical.choose (hex i), .inr ⟨y, rfl, hl, hm, by simp, fun i hi => ?_⟩⟩
    have hi' : i < m := by simpa using hi
    have := Classical.choose_spec (hex i) hi'
    simpa using this
end
end Go.Proofs.YtancidbbkoeokaaGreat
