/- Structs Record as they come in: 2 fields, each of one cell; laws.toRecord, laws.szRecord; such structs in memory. -/
import Derived.Test.YtlbanaakjabfnabDoorProg
import Derived.Test.YtlbanaakjabfnabDoorCom
import Derived.WalkKit
import Derived.ProofKit
import Derived.OpenShut
import Derived.Below
import Derived.Deep.Fields
import Derived.Deep.Slices
import Derived.Lib.Hide
import Derived.Laws.NewBlocks
namespace Go.Proofs.YtlbanaakjabfnabDoor
open Go.ChangeShapes Go.WideShapes Go.ChangeAt Go.RowKit Go.Deep

structure Rec where
  key : ByteArray
  value : ByteArray
deriving DecidableEq
def Rec.cells (e : Rec) : List Value := [.string e.key, .string e.value]
def I64R (n : Int) : Prop := -9223372036854775808 ≤ n ∧ n ≤ 9223372036854775807
def Rec.wf (e : Rec) : Prop := e.key.size ≤ maxLen ∧ e.value.size ≤ maxLen
section
variable {H : Type} {enc : TypeId × Value → H} {P : Program} {w : World} {base : Nat} {spare : Nat → Bool} {held : Bool}
theorem cell_ofR {t T : TypeId} {fs : Array Field} {fuel : Nat} {cs : List Value} {x : DataW H × List MemPlace} (he : P.underlying t = some (.struct fs)) (hone : oneCellFields P fs = true) (hC : P.cellsOf t = fs.size)
    (h : DataW.trod enc P w base spare held fuel t cs = some x) (j : Nat) (hT : (fs.toList.map (·.type))[j]? = some T) : ∃ c n y, cs[j]? = some c ∧ DataW.trod enc P w base spare held n T [c] = some y := by
  obtain ⟨xs, n, _, _, hl, hlen, hf⟩ := DataW.trod_struct he h
  rw [List.getElem?_map] at hT
  cases hfj : fs.toList[j]? with
  | none => rw [hfj] at hT; cases hT
  | some f =>
    rw [hfj] at hT
    obtain rfl : f.type = T := by simpa using hT
    have hj : fs[j]? = some f := by simpa using hfj
    obtain ⟨ho, hk⟩ := hone_of hone j f hj
    have hlt : j < fs.size := (Array.getElem?_eq_some_iff.1 hj).1
    have h1 := hf j f hj
    rw [ho, hk] at h1
    have hjl : j < cs.length := by omega
    have hone' : (cs.drop j).take 1 = [cs[j]] := by
      rw [List.drop_eq_getElem_cons hjl]
      rfl
    rw [hone'] at h1
    have hx : j < xs.length := by omega
    rw [List.getElem?_eq_getElem hx] at h1
    exact ⟨cs[j], n, xs[j], List.getElem?_eq_getElem hjl, h1⟩
theorem openR {t ts : TypeId} {fs : Array Field} {fuel : Nat} {cs : List Value} {x : DataW H × List MemPlace} (he : P.underlying t = some (.struct fs)) (hone : oneCellFields P fs = true) (hC : P.cellsOf t = fs.size)
    (hty : fs.toList.map (·.type) = [ts, ts]) (hs : P.underlying ts = some .string)
    (h : DataW.trod enc P w base spare held fuel t cs = some x) : ∃ e : Rec, cs = e.cells ∧ e.wf := by
  have hlen : cs.length = 2 := by
    obtain ⟨xs, n, _, _, hl, _, _⟩ := DataW.trod_struct he h
    have := congrArg List.length hty
    simp at this
    omega
  have S : ∀ j : Nat, (fs.toList.map (·.type))[j]? = some ts → ∃ s : ByteArray, cs[j]? = some (Value.string s) ∧ s.size ≤ maxLen := by
    intro j hj
    obtain ⟨c, n, y, hc, hy⟩ := cell_ofR he hone hC h j hj
    obtain ⟨s, hm, _, hw⟩ := DataW.trod_string hs hy
    obtain rfl : c = Value.string s := by simpa using hm
    exact ⟨s, hc, hw⟩
  rw [hty] at S
  obtain ⟨x0, c0, w0⟩ := S 0 rfl
  obtain ⟨x1, c1, w1⟩ := S 1 rfl
  refine ⟨⟨x0, x1⟩, ?_, w0, w1⟩
  match cs, hlen with
  | [d0, d1], _ =>
    simp only [List.getElem?_cons_zero, List.getElem?_cons_succ, Option.some.injEq] at c0 c1
    rw [c0, c1]
    rfl
end
theorem toRec_any (x0 : ByteArray) (x1 : ByteArray) (w : World) :
    Calls Tryd.prog 32 #[.agg #[.string x0, .string x1]] w fun e w' => e = .returned (.agg #[.string x0, .string x1]) ∧ Below w.heap.size w w' := by
  go_enter Tryd.func32, Tryd.ntmps32
  go_wp2_with fail
  exact bodyPost_ret (v := .agg #[.string x0, .string x1]) (by simp [results, Tryd.results32, go_sem]) rfl ⟨rfl, (((Below.refl _ w).alloc (Nat.le_refl _) _).alloc (by simp) _).alloc (by simp; omega) _⟩
def szvR (x0 : ByteArray) (x1 : ByteArray) (left : Int) : Int := if left < (x0.size : Int) + (x1.size : Int) then -1 else left - ((x0.size : Int) + (x1.size : Int))
theorem szRec_any (x0 : ByteArray) (x1 : ByteArray) (left : Int) (w : World) (hx0 : x0.size ≤ maxLen) (hx1 : x1.size ≤ maxLen) (h0 : 0 ≤ left) (h1 : left ≤ 1048576) :
    Calls Tryd.prog 30 #[.agg #[.string x0, .string x1], .int .i64 left] w fun e w' => e = .returned (.int .i64 (szvR x0 x1 left)) ∧ Below w.heap.size w w' := by
  simp only [maxLen] at hx0 hx1
  have HE : Hid (szvR x0 x1 left = if left < (x0.size : Int) + (x1.size : Int) then -1 else left - ((x0.size : Int) + (x1.size : Int))) := Lib.hid rfl
  generalize szvR x0 x1 left = r at HE
  by_cases q0 : left - (x0.size : Int) < 0
  · have HF : Hid (r = -1) := Lib.hid (by rw [HE.out, if_pos (by omega)])
    clear HE
    go_enter Tryd.func30, Tryd.ntmps30
    go_wp2_with fail
    go_ret
    exact ⟨ret_int HF.out.symm, (Below.refl _ w).alloc (Nat.le_refl _) _⟩
  by_cases q1 : left - (x0.size : Int) - (x1.size : Int) < 0
  · have HF : Hid (r = -1) := Lib.hid (by rw [HE.out, if_pos (by omega)])
    clear HE
    go_enter Tryd.func30, Tryd.ntmps30
    go_wp2_with fail
    go_ret
    exact ⟨ret_int HF.out.symm, (Below.refl _ w).alloc (Nat.le_refl _) _⟩
  have HF : Hid (r = left - (x0.size : Int) - (x1.size : Int)) := Lib.hid (by rw [HE.out, if_neg (by omega)]; omega)
  clear HE
  go_enter Tryd.func30, Tryd.ntmps30
  go_wp2_with fail
  go_ret
  exact ⟨ret_int HF.out.symm, (Below.refl _ w).alloc (Nat.le_refl _) _⟩
def RecAt (w : World) (b o : Nat) (e : Rec) : Prop := ∀ i, i < 2 → w.cell? ⟨b, o + i, none⟩ = e.cells[i]?
theorem RecAt.below {w w' : World} {b o B : Nat} {e : Rec} (h : RecAt w b o e) (hb : Below B w w') (hg : b < B) : RecAt w' b o e := fun i hi => (hb.cell (p := ⟨b, o + i, none⟩) hg).trans (h i hi)
theorem RecAt.zero {w : World} {b : Nat} {e : Rec} (h : RecAt w b 0 e) : w.cell? ⟨b, 0, none⟩ = some (.string e.key) ∧ w.cell? ⟨b, 1, none⟩ = some (.string e.value) :=
  ⟨h 0 (by omega), h 1 (by omega)⟩
theorem RecAt.new (w : World) (e : Rec) (t : TypeId) : RecAt (w.alloc (.cells e.cells.toArray t)) w.heap.size 0 e := fun i _ => by
  rw [World.cell?_alloc_at _ _ _ _ rfl]
  simp
theorem btR {x y z : World} (h : Below x.heap.size x y) (k : Below y.heap.size y z) : Below x.heap.size x z := h.trans (k.mono h.size)
theorem one_newR {w w1 : World} {e1 : Rec} {t1 : TypeId} (h : Below (w.alloc (.cells e1.cells.toArray t1)).heap.size (w.alloc (.cells e1.cells.toArray t1)) w1) :
    RecAt w1 w.heap.size 0 e1 ∧ Below w.heap.size w w1 ∧ w.heap.size + 1 ≤ w1.heap.size := by
  have hs : (w.alloc (.cells e1.cells.toArray t1)).heap.size = w.heap.size + 1 := by simp
  exact ⟨(RecAt.new w e1 t1).below h (by omega), ((Below.refl _ w).alloc (Nat.le_refl _) _).trans (h.mono (by omega)), by have := h.size; omega⟩
/-- What a walk is told of a slice of them that came in: it is nil, or it leads to a row of cap of them. -/
def IsRowR (w : World) (a : Option Addr) (len cap : Nat) (es : List Rec) : Prop :=
  (a = none ∧ len = 0 ∧ cap = 0 ∧ es = []) ∨
  ∃ x, a = some x ∧ len ≤ cap ∧ cap ≤ maxLen ∧ es.length = cap ∧ ∀ i, (h : i < es.length) → (∀ j, j < 2 → w.cell? (x.add (i * 2 + j)) = es[i].cells[j]?) ∧ es[i].wf
section
variable {H : Type} {enc : TypeId × Value → H} {P : Program} {w : World} {base : Nat} {held : Bool}
theorem opensR {t el ts : TypeId} {fs : Array Field} {fuel : Nat} {a : Option Addr} {len cap : Nat} {x : DataW H × List MemPlace} (ht : P.underlying t = some (.slice el)) (he : P.underlying el = some (.struct fs)) (hone : oneCellFields P fs = true) (hC : P.cellsOf el = fs.size)
    (hty : fs.toList.map (·.type) = [ts, ts]) (hs : P.underlying ts = some .string)
    (h : DataW.trod enc P w base (fun _ => true) held fuel t [.slice a len cap] = some x) : ∃ es, IsRowR w a len cap es := by
  have hten : fs.size = 2 := by
    have := congrArg List.length hty
    simpa using this
  rcases open_slice ht h with ⟨hcs, _⟩ | ⟨y, l, c, m, n, D, Pl, hcs, _, hl, hm, hmm, _, hel⟩
  · simp at hcs
    obtain ⟨rfl, rfl, rfl⟩ := hcs
    exact ⟨[], .inl ⟨rfl, rfl, rfl, rfl⟩⟩
  · simp at hcs
    obtain ⟨rfl, rfl, rfl⟩ := hcs
    simp at hmm
    subst hmm
    have hex : ∀ i : Nat, ∃ e : Rec, i < m → (∀ j, j < 2 → w.cell? (y.add (i * 2 + j)) = e.cells[j]?) ∧ e.wf := by
      intro i
      by_cases him : i < m
      · obtain ⟨cs', hc, ht'⟩ := hel i him
        obtain ⟨e, rfl, hw⟩ := openR he hone hC hty hs ht'
        obtain ⟨_, _, hat⟩ := World.cells?_some hc
        rw [hC, hten] at hat
        refine ⟨e, fun _ => ⟨fun j hj => ?_, hw⟩⟩
        rw [← Go.Deep.add_add]
        exact hat j hj
      · exact ⟨⟨⟨#[]⟩, ⟨#[]⟩⟩, fun h => absurd h him⟩
    refine ⟨(List.range m).map fun i => Classical.choose (hex i), .inr ⟨y, rfl, hl, hm, by simp, fun i hi => ?_⟩⟩
    have hi' : i < m := by simpa using hi
    have := Classical.choose_spec (hex i) hi'
    simpa using this
end
end Go.Proofs.YtlbanaakjabfnabDoor
