/- What reading cards one after another comes to: plain mathematics. -/
import Derived.Test.YtcnmbolmgifgfabGreatDoorEntriesS
import Derived.Test.YtcnmbolmgifgfabGreatDoorCardMath
namespace Go.Proofs.YtcnmbolmgifgfabGreatDoor
open Go.ChangeShapes Go.WideShapes Go.ChangeAt Go.RowKit Go.Deep

abbrev Rdr := Nat → Card × Int × Int
def isTr (p : ByteArray) : Bool := p.toList == [84, 82, 65, 73, 76, 69, 82, 33, 33, 33]
/-- The code and the cards where z bytes are read by R from p on, Q read before. -/
def outc (R : Rdr) (z : Nat) : Nat → List Card → Nat → Int × List Card
  | 0, _, _ => (5, [])
  | f + 1, Q, p => if ¬ p < z then (5, []) else if ¬ (R p).2.2 = 0 then ((R p).2.2, []) else if isTr (R p).1.Path = true then (if (R p).2.1 = (z : Int) then (0, Q) else (5, [])) else outc R z f (Q ++ [(R p).1]) (R p).2.1.toNat
/-- A reader that goes on by h bytes or more. -/
def GoodR (R : Rdr) (z h : Nat) : Prop := ∀ p, (R p).2.2 = 0 → ((p : Int) + h ≤ (R p).2.1 ∧ (R p).2.1 ≤ z) ∧ szC (R p).1 ≤ z ∧ (R p).1.wf
def StR (R : Rdr) (z h : Nat) (O : Int × List Card) (Q : List Card) (p : Nat) : Prop :=
  (∃ f, z < p + f ∧ outc R z f Q p = O) ∧ Q.length * h ≤ p ∧ (∀ c ∈ Q, szC c ≤ z ∧ c.wf) ∧ p ≤ z
section
variable {R : Rdr} {z h : Nat} {O : Int × List Card} {Q : List Card} {p : Nat}
theorem StR.start (R : Rdr) (z h : Nat) : StR R z h (outc R z (z + 1) [] 0) [] 0 := ⟨⟨z + 1, by omega, rfl⟩, by simp, fun c hc => (by cases hc), by omega⟩
theorem StR.fuel (s : StR R z h O Q p) : ∃ f, z < p + (f + 1) ∧ outc R z (f + 1) Q p = O := by
  obtain ⟨⟨f, hf, ho⟩, _, _, hp⟩ := s
  cases f with
  | zero => omega
  | succ f => exact ⟨f, hf, ho⟩
theorem StR.over (s : StR R z h O Q p) (hp : ¬ p < z) : O = (5, []) := by
  obtain ⟨f, _, ho⟩ := s.fuel
  rw [outc, if_pos hp] at ho
  exact ho.symm
theorem StR.code (s : StR R z h O Q p) (hp : p < z) (hc : ¬ (R p).2.2 = 0) : O = ((R p).2.2, []) := by
  obtain ⟨f, _, ho⟩ := s.fuel
  rw [outc, if_neg (by omega), if_pos hc] at ho
  exact ho.symm
theorem StR.more (s : StR R z h O Q p) (hp : p < z) (hc : (R p).2.2 = 0) (ht : isTr (R p).1.Path = true) (hn : ¬ (R p).2.1 = (z : Int)) : O = (5, []) := by
  obtain ⟨f, _, ho⟩ := s.fuel
  rw [outc, if_neg (by omega), if_neg (by omega), if_pos ht, if_neg hn] at ho
  exact ho.symm
theorem StR.last (s : StR R z h O Q p) (g : GoodR R z h) (hp : p < z) (hc : (R p).2.2 = 0) (ht : isTr (R p).1.Path = true) (hn : (R p).2.1 = (z : Int)) : O = (0, Q) ∧ Q.length * h + h ≤ z ∧ (∀ c ∈ Q, szC c ≤ z ∧ c.wf) := by
  obtain ⟨f, _, ho⟩ := s.fuel
  rw [outc, if_neg (by omega), if_neg (by omega), if_pos ht, if_pos hn] at ho
  have h1 := (g p hc).1.1
  have h2 := s.2.1
  exact ⟨ho.symm, by omega, s.2.2.1⟩
theorem StR.step (s : StR R z h O Q p) (g : GoodR R z h) (hh : 0 < h) (hp : p < z) (hc : (R p).2.2 = 0) (ht : isTr (R p).1.Path = false) : ∃ q : Nat, (R p).2.1 = (q : Int) ∧ p + h ≤ q ∧ StR R z h O (Q ++ [(R p).1]) q := by
  obtain ⟨f, hf, ho⟩ := s.fuel
  rw [outc, if_neg (by omega), if_neg (by omega), if_neg (by simp [ht])] at ho
  obtain ⟨⟨h1, h2⟩, h3, h4⟩ := g p hc
  obtain ⟨q, hq⟩ := Int.eq_ofNat_of_zero_le (show 0 ≤ (R p).2.1 by omega)
  refine ⟨q, hq, by omega, ⟨f, by omega, ?_⟩, ?_, ?_, by omega⟩
  · rw [hq, Int.toNat_natCast] at ho
    exact ho
  · have h5 := s.2.1
    rw [List.length_append, List.length_singleton, Nat.add_mul, Nat.one_mul]
    omega
  · intro c hcm
    rcases List.mem_append.1 hcm with hm | hm
    · exact s.2.2.1 c hm
    · rw [List.mem_singleton] at hm
      subst hm
      exact ⟨h3, h4⟩
end
/-- A row of cards of the call's own, perhaps nil. -/
def OwnNC (w : World) (base : Nat) (v : Value) (L : List Card) : Prop := w.ownsRow base 48 8 v L.length (valsC L)
theorem OwnNC.nil (w : World) (base : Nat) : OwnNC w base (.slice none 0 0) [] := ⟨rfl, .inl ⟨rfl, rfl⟩⟩
theorem OwnNC.cases {w : World} {base : Nat} {v : Value} {L : List Card} (h : OwnNC w base v L) : (v = .slice none 0 0 ∧ L = []) ∨ OwnC w base v L := by
  rcases h.2 with ⟨rfl, hn⟩ | ⟨g, cap, cur, rfl, _⟩
  · exact .inl ⟨rfl, List.eq_nil_of_length_eq_zero hn⟩
  · exact .inr ⟨h, g, cap, rfl⟩
theorem OwnNC.ne {w : World} {base b : Nat} {v : Value} {L : List Card} (h : OwnNC w base v L) (hb : b < base) : some b ≠ v.ownBlock := by
  rcases h.2 with ⟨rfl, _⟩ | ⟨g, cap, cur, rfl, hg, _⟩
  · simp [Value.ownBlock]
  · simp only [Value.ownBlock, ne_eq, Option.some.injEq]; omega
theorem OwnNC.block {w : World} {base : Nat} {v : Value} {L : List Card} (h : OwnNC w base v L) : ∀ b, v.ownBlock = some b → base ≤ b := by
  intro b hb
  rcases h.2 with ⟨rfl, _⟩ | ⟨g, cap, cur, rfl, hg, _⟩
  · simp [Value.ownBlock] at hb
  · simp only [Value.ownBlock, Option.some.injEq] at hb; omega
theorem ownNC_app {w1 : World} {base : Nat} {v' : Value} {D M : List Card} {n m : Nat} (h : w1.ownsRow base 48 8 v' (n + m) (valsC D ++ valsC M)) (hn : n = D.length) (hm : m = M.length) : OwnNC w1 base v' (D ++ M) := by
  subst hn; subst hm
  rw [← valsC_app, show D.length + M.length = (D ++ M).length from by simp] at h
  exact h
theorem OwnNC.below {w w' : World} {base : Nat} {v : Value} {L : List Card} (h : OwnNC w base v L) (hb : Below w.heap.size w w') : OwnNC w' base v L :=
  World.ownsRow.kept h (row := none) ⟨hb.os, hb.tape, hb.output, hb.size, fun k hk _ => hb.block k hk⟩ (by cases hv : v.ownBlock <;> simp)
end Go.Proofs.YtcnmbolmgifgfabGreatDoor
