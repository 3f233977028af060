/- A map with struct{} elements as a set of small numbers. -/
import Derived.Test.YthembgllkfgknaaCom
import Derived.Maps.RangeWalk
import Derived.Maps.Ext
namespace Go.Proofs.Ythembgllkfgknaa
open Go.RowKit Go.Maps
open Go.WideElems (rg rd rg_of rd_key Fit)

theorem gtr {a b c : World} {row : Option Nat} (h : a.grownBy b row) (k : b.grownBy c row) : a.grownBy c row :=
  ⟨k.os.trans h.os, k.tape.trans h.tape, k.output.trans h.output, Nat.le_trans h.size k.size, fun i hi hne => (k.block i (Nat.lt_of_lt_of_le hi h.size) hne).trans (h.block i hi hne)⟩
theorem lawI : Keyed Try.prog 3 := int_keyed Try.underlying3
theorem zeroU (w : World) : (zeroValue 48).run Try.prog w = .ok (.agg #[]) w := by kernel_rfl

theorem nodup_le : ∀ (n : Nat) (l : List Nat), l.Nodup → (∀ x ∈ l, x < n) → l.length ≤ n := by
  intro n
  induction n with
  | zero => intro l _ h; cases l with
    | nil => simp
    | cons a r => have := h a (by simp); omega
  | succ n ih =>
    intro l hl h
    by_cases hm : n ∈ l
    · have h1 := ih (l.erase n) (hl.erase n) (fun x hx => by
        have h2 := (hl.mem_erase_iff).1 hx
        have := h x h2.2
        have := h2.1
        omega)
      rw [List.length_erase_of_mem hm] at h1
      omega
    · have := ih l hl (fun x hx => by
        have h1 := h x hx
        have : x ≠ n := fun e => hm (e ▸ hx)
        omega)
      omega
theorem nat_wf {k : Nat} (h : k ≤ 1000000) : (Lit.int .i64 (k : Int)).wf = true := WalkArith.wf_i64 (by omega)
theorem keyI {k : Nat} (h : k ≤ 1000000) : keyOf Try.prog 3 (.int .i64 (k : Int)) = some (.int .i64 (k : Int)) := keyOf_int_mk Try.underlying3 (nat_wf h)

/-- The keys of the map D are the numbers of T, all of them at most n. -/
def SetIs (D : DataW Unit) (n : Nat) (T : Nat → Prop) : Prop := (∀ x : Int, Maps.has D (.int .i64 x) = true ↔ ∃ k : Nat, x = (k : Int) ∧ T k) ∧ ∀ k, T k → k ≤ n
def OwnM (w : World) (b m : Nat) (D : DataW Unit) : Prop := w.ownsMap Try.prog 3 (unitElem (H := Unit)) b m D

theorem set_size {w : World} {b m n : Nat} {D : DataW Unit} {T : Nat → Prop} (h : OwnM w b m D) (hT : SetIs D n T) : OwnM w b (n + 1) D := by
  have h' := h
  obtain ⟨es, clock, hb, F, hs, rfl⟩ := h'
  refine ⟨es, clock, hb, F, ?_, rfl⟩
  obtain ⟨es', he, hp, _⟩ := World.ownsMap.entries h lawI
  have hkey : ∀ x ∈ es.toList, ∃ k : Nat, (rg Try.prog 3 (unitElem (H := Unit)) x).1 = .int .i64 (k : Int) ∧ k ≤ n := by
    intro x hx
    obtain ⟨y, hy⟩ := F.reads x hx
    obtain ⟨z, _, hz, _⟩ := Maps.keyOf_int_inv Try.underlying3 (rd_key hy)
    have e : (rg Try.prog 3 (unitElem (H := Unit)) x).1 = .int .i64 z := by rw [rg_of hy]; exact hz
    have hh : Maps.has (DataW.map ((es.toList.map (rg Try.prog 3 (unitElem (H := Unit)))).foldr DataW.insert [])) (.int .i64 z) = true :=
      List.any_eq_true.2 ⟨rg Try.prog 3 (unitElem (H := Unit)) x, mem_sorted.2 (List.mem_map.2 ⟨x, hx, rfl⟩), by rw [e]; exact WideAt.sameKey_self trivial⟩
    obtain ⟨k, rfl, hk⟩ := (hT.1 z).1 hh
    exact ⟨k, e, hT.2 k hk⟩
  have hes : es' = (es.toList.map (rg Try.prog 3 (unitElem (H := Unit)))).foldr DataW.insert [] := by simpa using he.symm
  have hp2 : (es.toList.map (rg Try.prog 3 (unitElem (H := Unit)))).Pairwise (fun p q => p.1 ≠ q.1) := by
    rw [hes] at hp
    exact ((Go.WideShapes.sorted_perm _).pairwise_iff (fun {_ _} hne => Ne.symm hne)).1 hp
  let f : Lit × DataW Unit → Nat := fun p => match p.1 with | .int _ z => z.toNat | _ => 0
  have hf : ∀ x ∈ es.toList, ∃ k : Nat, (rg Try.prog 3 (unitElem (H := Unit)) x).1 = .int .i64 (k : Int) ∧ k ≤ n ∧ f (rg Try.prog 3 (unitElem (H := Unit)) x) = k := by
    intro x hx
    obtain ⟨k, h1, h2⟩ := hkey x hx
    exact ⟨k, h1, h2, by simp [f, h1]⟩
  have hnd : ((es.toList.map (rg Try.prog 3 (unitElem (H := Unit)))).map f).Nodup := by
    rw [List.nodup_iff_pairwise_ne, List.pairwise_map, List.pairwise_map]
    rw [List.pairwise_map] at hp2
    refine hp2.imp_of_mem ?_
    intro x y hx hy hne e
    obtain ⟨k1, e1, _, f1⟩ := hf x hx
    obtain ⟨k2, e2, _, f2⟩ := hf y hy
    rw [f1, f2] at e
    exact hne (by rw [e1, e2, e])
  have hb2 := nodup_le (n + 1) _ hnd (by
    intro z hz
    obtain ⟨p, hp, rfl⟩ := List.mem_map.1 hz
    obtain ⟨x, hx, rfl⟩ := List.mem_map.1 hp
    obtain ⟨k, _, h2, h3⟩ := hf x hx
    rw [h3]; omega)
  simpa using hb2

theorem int_ne {a b : Nat} (h : a ≠ b) : (Lit.int .i64 (a : Int)) ≠ .int .i64 (b : Int) := by
  intro e
  simp at e
  omega
theorem SetIs.put {D : DataW Unit} {n k : Nat} {T : Nat → Prop} (h : SetIs D n T) (hD : IsMap D) (hk : k ≤ n) (u : DataW Unit) : SetIs (D.put (.int .i64 (k : Int)) u) n (fun j => T j ∨ j = k) := by
  refine ⟨fun x => ?_, fun j hj => hj.elim (h.2 j) (fun e => by omega)⟩
  by_cases e : x = (k : Int)
  · subst e
    rw [Maps.has_put_same hD (show WideAt.IsKeyLit (.int .i64 (k : Int)) from trivial)]
    exact ⟨fun _ => ⟨k, rfl, .inr rfl⟩, fun _ => rfl⟩
  · rw [Maps.has_put_other (by intro e2; simp at e2; exact e e2), h.1 x]
    constructor
    · rintro ⟨j, rfl, hj⟩; exact ⟨j, rfl, .inl hj⟩
    · rintro ⟨j, rfl, hj | rfl⟩
      · exact ⟨j, rfl, hj⟩
      · exact absurd rfl e
theorem SetIs.congr {D : DataW Unit} {n : Nat} {T T' : Nat → Prop} (h : SetIs D n T) (he : ∀ k, T k ↔ T' k) : SetIs D n T' :=
  ⟨fun x => (h.1 x).trans ⟨fun ⟨k, e, hk⟩ => ⟨k, e, (he k).1 hk⟩, fun ⟨k, e, hk⟩ => ⟨k, e, (he k).2 hk⟩⟩, fun k hk => h.2 k ((he k).2 hk)⟩
theorem SetIs.has_t {D : DataW Unit} {n k : Nat} {T : Nat → Prop} (h : SetIs D n T) (hk : T k) : Maps.has D (.int .i64 (k : Int)) = true := (h.1 _).2 ⟨k, rfl, hk⟩
theorem SetIs.has_f {D : DataW Unit} {n k : Nat} {T : Nat → Prop} (h : SetIs D n T) (hk : ¬ T k) : Maps.has D (.int .i64 (k : Int)) = false := by
  cases e : Maps.has D (.int .i64 (k : Int)) with
  | false => rfl
  | true =>
    obtain ⟨j, e2, hj⟩ := (h.1 _).1 e
    have : k = j := by omega
    subst this
    exact absurd hj hk
/-- Block b is the set T of numbers up to n. -/
def SetAt (w : World) (b n : Nat) (T : Nat → Prop) : Prop := ∃ D : DataW Unit, OwnM w b (n + 1) D ∧ SetIs D n T
theorem SetAt.kept {w w' : World} {b n : Nat} {T : Nat → Prop} {row : Option Nat} (h : SetAt w b n T) (hg : w.grownBy w' row) (hne : some b ≠ row) : SetAt w' b n T := by
  obtain ⟨D, ho, hs⟩ := h
  exact ⟨D, World.ownsMap.kept ho hg hne, hs⟩
theorem SetAt.lt {w : World} {b n : Nat} {T : Nat → Prop} (h : SetAt w b n T) : b < w.heap.size := by
  obtain ⟨D, ho, _⟩ := h
  exact World.ownsMap.lt ho
theorem SetAt.below {w w' : World} {b n : Nat} {T : Nat → Prop} (h : SetAt w b n T) (hb : Below w.heap.size w w') : SetAt w' b n T := by
  obtain ⟨D, ⟨es, clock, h1, r⟩, hs⟩ := h
  exact ⟨D, ⟨es, clock, (hb.block b (Array.getElem?_eq_some_iff.1 h1).1).trans h1, r⟩, hs⟩
theorem SetAt.congr {w : World} {b n : Nat} {T T' : Nat → Prop} (h : SetAt w b n T) (he : ∀ k, T k ↔ T' k) : SetAt w b n T' := by
  obtain ⟨D, ho, hs⟩ := h
  exact ⟨D, ho, hs.congr he⟩
theorem set_made (w : World) (n : Nat) : SetAt (w.alloc (.map #[] 0)) w.heap.size n (fun _ => False) :=
  ⟨.map [], (World.ownsMap_made w _ _ _).mono (Nat.zero_le _), fun x => ⟨(fun h => by cases h), fun ⟨_, _, h⟩ => h.elim⟩, fun _ h => h.elim⟩
end Go.Proofs.Ythembgllkfgknaa
