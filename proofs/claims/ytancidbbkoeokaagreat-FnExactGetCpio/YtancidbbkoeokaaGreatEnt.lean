/- Entries as they come in: a struct of ten fields, each of one cell. -/
import Derived.Test.YtancidbbkoeokaaGreatProg
import Derived.WalkKit
import Derived.ProofKit
import Derived.OpenShut
import Derived.Below
import Derived.Deep.Fields
import Derived.Deep.Slices
namespace Go.Proofs.YtancidbbkoeokaaGreat
open Go.ChangeShapes Go.WideShapes Go.ChangeAt Go.RowKit Go.Deep

/-- An entry. -/
structure Ent where
  kind : Int
  path : ByteArray
  link : ByteArray
  mode : Int
  uid : Int
  gid : Int
  time : Int
  user : ByteArray
  group : ByteArray
  body : ByteArray
deriving DecidableEq
/-- Its cells, in their order. -/
def Ent.cells (e : Ent) : List Value := [.int .i64 e.kind, .string e.path, .string e.link, .int .i64 e.mode, .int .i64 e.uid, .int .i64 e.gid, .int .i64 e.time, .string e.user, .string e.group, .string e.body]
def I64 (n : Int) : Prop := -9223372036854775808 ≤ n ∧ n ≤ 9223372036854775807
/-- Its numbers are ints, its texts fit a memory. -/
def Ent.wf (e : Ent) : Prop := (I64 e.kind ∧ I64 e.mode ∧ I64 e.uid ∧ I64 e.gid ∧ I64 e.time) ∧ e.path.size ≤ maxLen ∧ e.link.size ≤ maxLen ∧ e.user.size ≤ maxLen ∧ e.group.size ≤ maxLen ∧ e.body.size ≤ maxLen
theorem i64_of {n : Int} (h : (Lit.int .i64 n).wf = true) : I64 n := bounds_i64 h
section
variable {H : Type} {enc : TypeId × Value → H} {P : Program} {w : World} {base : Nat} {spare : Nat → Bool} {held : Bool}
theorem rec_cell {t T : TypeId} {fs : Array Field} {fuel : Nat} {cs : List Value} {x : DataW H × List MemPlace} (he : P.underlying t = some (.struct fs)) (hone : oneCellFields P fs = true) (hC : P.cellsOf t = fs.size)
    (h : DataW.trod enc P w base spare held fuel t cs = some x) (j : Nat) (hT : (fs.toList.map (·.type))[j]? = some T) : ∃ c n y, cs[j]? = some c ∧ DataW.trod enc P w base spare held n T [c] = some y := by
  obtain ⟨xs, n, _, _, hl, hlen, hf⟩ := DataW.trod_struct he h
  rw [List.getElem?_map] at hT
  cases hfj : fs.toList[j]? with
  | none => rw [hfj] at hT; cases hT
  | some f =>
    rw [hfj] at hT
    obtain rfl : f.type = T := by simpa using hT
    have hj : fs[j]? = some f := by simpa using hfj
    obtain ⟨ho, hk⟩ := hone_of hone j f hj
    have hlt : j < fs.size := (Array.getElem?_eq_some_iff.1 hj).1
    have h1 := hf j f hj
    rw [ho, hk] at h1
    have hjl : j < cs.length := by omega
    have hone' : (cs.drop j).take 1 = [cs[j]] := by
      rw [List.drop_eq_getElem_cons hjl]
      rfl
    rw [hone'] at h1
    have hx : j < xs.length := by omega
    rw [List.getElem?_eq_getElem hx] at h1
    exact ⟨cs[j], n, xs[j], List.getElem?_eq_getElem hjl, h1⟩
theorem ent_open {t ti ts : TypeId} {fs : Array Field} {fuel : Nat} {cs : List Value} {x : DataW H × List MemPlace} (he : P.underlying t = some (.struct fs)) (hone : oneCellFields P fs = true) (hC : P.cellsOf t = fs.size)
    (hty : fs.toList.map (·.type) = [ti, ts, ts, ti, ti, ti, ti, ts, ts, ts]) (hi : P.underlying ti = some (.int .i64)) (hs : P.underlying ts = some .string)
    (h : DataW.trod enc P w base spare held fuel t cs = some x) : ∃ e : Ent, cs = e.cells ∧ e.wf := by
  have hlen : cs.length = 10 := by
    obtain ⟨xs, n, _, _, hl, _, _⟩ := DataW.trod_struct he h
    have := congrArg List.length hty
    simp at this
    omega
  have I : ∀ j : Nat, (fs.toList.map (·.type))[j]? = some ti → ∃ n, cs[j]? = some (Value.int .i64 n) ∧ I64 n := by
    intro j hj
    obtain ⟨c, n, y, hc, hy⟩ := rec_cell he hone hC h j hj
    obtain ⟨m, hm, _, hw⟩ := DataW.trod_int hi hy
    obtain rfl : c = Value.int .i64 m := by simpa using hm
    exact ⟨m, hc, i64_of hw⟩
  have S : ∀ j : Nat, (fs.toList.map (·.type))[j]? = some ts → ∃ s : ByteArray, cs[j]? = some (Value.string s) ∧ s.size ≤ maxLen := by
    intro j hj
    obtain ⟨c, n, y, hc, hy⟩ := rec_cell he hone hC h j hj
    obtain ⟨s, hm, _, hw⟩ := DataW.trod_string hs hy
    obtain rfl : c = Value.string s := by simpa using hm
    exact ⟨s, hc, hw⟩
  rw [hty] at I S
  obtain ⟨k, c0, w0⟩ := I 0 rfl
  obtain ⟨p, c1, w1⟩ := S 1 rfl
  obtain ⟨l, c2, w2⟩ := S 2 rfl
  obtain ⟨m, c3, w3⟩ := I 3 rfl
  obtain ⟨u, c4, w4⟩ := I 4 rfl
  obtain ⟨g, c5, w5⟩ := I 5 rfl
  obtain ⟨t', c6, w6⟩ := I 6 rfl
  obtain ⟨us, c7, w7⟩ := S 7 rfl
  obtain ⟨gr, c8, w8⟩ := S 8 rfl
  obtain ⟨b, c9, w9⟩ := S 9 rfl
  refine ⟨⟨k, p, l, m, u, g, t', us, gr, b⟩, ?_, ⟨w0, w3, w4, w5, w6⟩, w1, w2, w7, w8, w9⟩
  match cs, hlen with
  | [d0, d1, d2, d3, d4, d5, d6, d7, d8, d9], _ =>
    simp only [List.getElem?_cons_zero, List.getElem?_cons_succ, Option.some.injEq] at c0 c1 c2 c3 c4 c5 c6 c7 c8 c9
    rw [c0, c1, c2, c3, c4, c5, c6, c7, c8, c9]
    rfl
end
end Go.Proofs.YtancidbbkoeokaaGreat
