/- Small laws for the reading of a card in words. -/
import Derived.Test.YtancidbbkoeokaaBinRoom
import Derived.Test.YtancidbbkoeokaaRegU
import Derived.Deep.DeepCutAuto
import Derived.OwnWalk
import Derived.Laws.ResultCell
import Derived.Laws.Rows
import Derived.Laws.Tables
import Derived.Laws.MakeOwn
import Derived.Laws.StructEq
import Derived.Deep.WholeRow
namespace Go.Proofs.Ytancidbbkoeokaa
open Go.ChangeShapes Go.WideShapes Go.ChangeAt Go.RowKit Go.Deep

theorem sl_atB (s : ByteArray) (x y : Int) (a b : Nat) (hx : x = (a : Int)) (hy : y = (b : Int)) (hab : a ≤ b) (hb : b ≤ s.size) (w : World) : (Instr.slice 9 (.string s) (some (.int .i64 x)) (some (.int .i64 y)) none).run Try.prog w = .ok (.string (s.extract a b)) w := by
  subst hx hy
  have := run_slice_string (P := Try.prog) (w := w) 9 s .i64 .i64 (a : Int) (b : Int) Try.underlying9 (by omega) (by omega) (by omega)
  rw [Int.toNat_natCast, Int.toNat_natCast] at this
  exact this
theorem cut_preB (s : ByteArray) : s.extract 0 (cutv s).size = cutv s := by
  apply ba_ext
  have e : (cutv s).size = (nulFree s.data.toList).length := by simp [cutv, ByteArray.size]
  rw [e, show (cutv s).data.toList = nulFree s.data.toList from by simp [cutv]]
  simp
  unfold nulFree
  exact (List.prefix_iff_eq_take.1 (List.takeWhile_prefix _)).symm
theorem below_setB {B g : Nat} {w : World} (hB : B ≤ g) (cs : Array Value) : Below B w (w.setRow g cs) :=
  ⟨rfl, rfl, rfl, by simp, fun k hk => setRow_other _ _ _ _ (by omega)⟩
theorem cut_toB (s : ByteArray) (x : Int) (hx : x.toNat = (cutv s).size) (h0 : 0 ≤ x) (h1 : x ≤ s.size) (w : World) : (Instr.slice 9 (.string s) none (some (.int .i64 x)) none).run Try.prog w = .ok (.string (cutv s)) w := by
  have := run_slice_string_h (P := Try.prog) (w := w) (t := 9) (s := s) Try.underlying9 .i64 x h0 h1
  rw [hx, cut_preB] at this
  exact this
theorem results_cell3B {P : Program} {fn : Func} {p u1 u2 : Tmp} {ty : TypeId} (h : fn.results = #[.cell p ty, .tmp u1, .tmp u2]) (tmps : Array Value) (w : World) (g : Nat) (t : TypeId) (cs : Array Value) (fr : Nat × Nat) (d : TypeDesc)
    (hp : tmps.getD p undef = .pointer (some ⟨g, 0, none⟩)) (hg : w.heap[g]? = some (.cells cs t fr))
    (hu : P.underlying ty = some d) (hd : (match d with | .struct _ | .array _ _ => true | _ => false) = true) (hi : (P.info? ty).map (·.size) = some cs.size) :
    (results fn tmps).run P w = .ok (.tuple #[.agg cs, tmps.getD u1 undef, tmps.getD u2 undef]) w := by
  have hp' : tmps[p]?.getD undef = .pointer (some ⟨g, 0, none⟩) := by simpa using hp
  simp [results, h, hp', asAddr, run_loadVar_row w g t ty cs fr d hg hu hd hi]
theorem res_OCB {fn : Func} {p u1 u2 : Tmp} (h : fn.results = #[.cell p 33, .tmp u1, .tmp u2]) (tmps : Array Value) {w : World} {g : Nat} {e : Card}
    (hp : tmps.getD p undef = .pointer (some ⟨g, 0, none⟩)) (hg : CardO w g e) : (results fn tmps).run Try.prog w = .ok (.tuple #[.agg e.cells.toArray, tmps.getD u1 undef, tmps.getD u2 undef]) w :=
  results_cell3B h _ _ g _ e.cells.toArray (0, 0) _ hp hg Try.underlying33 rfl (by rw [Try.sizeOC]; rfl)
theorem obj_ltB {w : World} {g : Nat} {o : Obj} (h : w.heap[g]? = some o) : g < w.heap.size := (Array.getElem?_eq_some_iff.1 h).1
theorem bel_drewK {B : Nat} {w w' : World} {n : Nat} (h : Below B w w') : Below B w (w'.drewN n) := ⟨h.os, h.tape, h.output, h.size, h.block⟩
theorem blank_anyB (t : ByteArray) (w : World) (h : t.size ≤ 1048576) : Calls Try.prog 29 #[.string t] w fun e w' => e = .returned (.bool (isNul t)) ∧ w = w' := by
  have H := Lib.hid (fun w => sum_spec t w h)
  have HE : Hid (isNul t = decide (sumv t.data.toList = 0)) := Lib.hid rfl
  generalize isNul t = r at HE
  generalize sumv t.data.toList = q at H HE
  by_cases hq : q = 0
  · have e1 : (q == 0) = true := by simpa using hq
    rw [decide_eq_true hq] at HE
    subst hq
    go_enter Try.func29, Try.ntmps29
    go_wp2_with fail
    refine (H.out _).mono ?_
    rintro e w1 ⟨rfl, rfl⟩
    go_wp2_with fail
    go_ret
    exact ⟨by rw [HE.out]; rfl, rfl⟩
  · have e1 : (q == 0) = false := by simpa using hq
    rw [decide_eq_false hq] at HE
    go_enter Try.func29, Try.ntmps29
    go_wp2_with fail
    refine (H.out _).mono ?_
    rintro e w1 ⟨rfl, rfl⟩
    go_wp2_with fail
    go_ret
    exact ⟨by rw [HE.out]; rfl, rfl⟩
theorem isNul_nulNB (n : Nat) : isNul (nulN n) = true := (isNul_iff _).2 (by rw [nulN_size])
theorem nul_ofB {s : ByteArray} {a b n : Nat} (h : isNul (s.extract a b) = true) (hb : b ≤ s.size) (hn : a + n = b) : s.extract a b = nulN n := by
  have h1 := (isNul_iff _).1 h
  rw [ByteArray.size_extract, show min b s.size - a = n from by omega] at h1
  exact h1
theorem cell_oneBB (w : World) (v : Value) (t : TypeId) : ∀ j u, [v][j]? = some u → (w.alloc (.cells #[v] t)).cell? ((⟨w.heap.size, 0, none⟩ : Addr).add j) = some u := by
  intro j u hj
  match j, hj with
  | 0, hj => simp at hj; subst hj; simp [Addr.add]
  | j + 1, hj => simp at hj
theorem pad2_spcB (n : Nat) (hn : n ≤ 9007199254740991) (w : World) : Calls Try.prog 23 #[.int .i64 (n : Int), .int .i64 2] w fun e w' => e = .returned (.int .i64 (pad2 n : Int)) ∧ w = w' := by
  have h := pad_spec (n : Int) 2 w
  rw [padv2 n hn] at h
  exact h
end Go.Proofs.Ytancidbbkoeokaa
