/- The iterator of impl.tokens: the tokens of a pattern, in order. -/
import Derived.RangeFuncNested
import Derived.RangeFuncBound
import Derived.RangeFuncCalls
import Derived.RangeFuncLeaves
import Derived.Shelf.Abstract
import Derived.Shelf.RegionOpen
import Derived.WalkKit
import Derived.OwnWalkIn
import Derived.TacticsInMore
import Derived.LoopNIn
import Derived.LoopIn
import Derived.Test.YthembgllkfgknaaAfterTok
import Derived.Test.YthembgllkfgknaaComps
namespace Go.Proofs.Ythembgllkfgknaa
open Go.RowKit Go.Shelf

attribute [local go_sem] Oper.semAt_some

/-- A token is not empty. -/
abbrev Tok := { x : ByteArray // 0 < x.size }
def vals (l : List Tok) : List ByteArray := l.map (·.1)
theorem vals_snoc (l : List Tok) (x : Tok) : vals (l ++ [x]) = vals l ++ [x.1] := by simp [vals]
/-- What the iterator reads between two rounds: the pattern's box. -/
def KeepB (Bn : Nat) (W W' : World) : Prop := W'.heap[Bn]? = W.heap[Bn]?

theorem slice_two (s : ByteArray) (a : Nat) (h : a + 1 < s.size) (w : World) : (Instr.slice 9 (.string s) (some (.int .i64 (a : Int))) (some (.int .i64 ((a : Int) + 1 + 1))) none).run Try.prog w = .ok (.string (s.extract a (a + 2))) w := by
  have := run_slice_string (P := Try.prog) (w := w) 9 s .i64 .i64 (a : Int) ((a : Int) + 1 + 1) Try.underlying9 (by omega) (by omega) (by omega)
  rw [show ((a : Int) + 1 + 1).toNat = a + 2 from by omega, Int.toNat_natCast] at this
  exact this
theorem pref2 {p : ByteArray} {i : Nat} (h : i < p.size) : Lib.hasPrefix (p.extract i p.size).data.toList [42, 42] = decide (∃ h2 : i + 1 < p.size, p[i] = 42 ∧ p[i + 1] = 42) := by
  have e0 : (p.extract i p.size).data.toList = p.data.toList.drop i := by
    simp
    rw [List.take_of_length_le (by simp)]
  rw [e0, drop_at p i h]
  by_cases h2 : i + 1 < p.size
  · rw [drop_at p (i + 1) h2]
    by_cases c1 : p[i] = 42
    · by_cases c2 : p[i + 1] = 42
      · rw [decide_eq_true ⟨h2, c1, c2⟩, c1, c2]; rfl
      · rw [decide_eq_false (fun ⟨_, _, h⟩ => c2 h), c1]
        simp [Lib.hasPrefix, List.isPrefixOf, Ne.symm c2]
    · rw [decide_eq_false (fun ⟨_, h, _⟩ => c1 h)]
      simp [Lib.hasPrefix, List.isPrefixOf, Ne.symm c1]
  · rw [decide_eq_false (fun ⟨h, _⟩ => h2 h), List.drop_eq_nil_of_le (by simp; omega)]
    simp [Lib.hasPrefix, List.isPrefixOf]

set_option maxRecDepth 100000 in
set_option maxHeartbeats 1000000 in
theorem toks_in (n l Bn : Nat) (p : ByteArray) (J Jx : List Tok → World → Prop) (hp : p.size ≤ 1000)
    (hY : ∀ pre x W, J pre W → pre.length < (toksAt p 0).length → YieldAt Fence.wide (n - 1) Try.prog l #[.string x.1] W fun e W' =>
      (e = .returned (.bool true) ∧ J (pre ++ [x]) W' ∧ KeepB Bn W W') ∨ (e = .returned (.bool false) ∧ Jx (pre ++ [x]) W'))
    (W : World) (hBn : W.cell? ⟨Bn, 0, none⟩ = some (.string p)) (h0 : J [] W) :
    CallsIn Fence.wide n Try.prog 52 #[.func (.yield l) #[] #[], .pointer (some ⟨Bn, 0, none⟩)] W fun e W' => (∃ v, e = .returned v) ∧
      ((∃ ys, vals ys = toksAt p 0 ∧ J ys W') ∨ (∃ pre, True ∧ Jx pre W')) := by
  refine callsIn_of_wp Try.func52 rfl trivial ?_ rfl
  simp only [Try.ntmps52, List.size_toArray, List.length_cons, List.length_nil, Nat.reduceAdd, Nat.reduceSub, Array.replicate_succ, Array.replicate_zero, List.push_toArray, List.append_toArray, List.nil_append, List.cons_append]
  gi_wp2
  gi_loopw [3] (fun u wr => ∃ (pre : List Tok) (i : Nat), u = .int .i64 i ∧ i ≤ p.size ∧ vals pre ++ toksAt p i = toksAt p 0 ∧ wr.cell? ⟨Bn, 0, none⟩ = some (.string p) ∧ J pre wr)
    (fun u _ => p.size - (intOf u).toNat)
  case atStart => exact ⟨[], 0, rfl, Nat.zero_le _, rfl, hBn, h0⟩
  case round =>
    obtain ⟨pre, i, rfl, hi, hv, hc, hJs⟩ := hrel
    have HV := Lib.hid hv
    have HJ := Lib.hid hJs
    clear hv hJs hBn h0
    by_cases hlt : i < p.size
    · have hlt2 : (i : Int) < (p.size : Int) := by omega
      have HC := Lib.hid (fun w => (callsIn_wide (n := n - 1)).2 (Try.strings_HasPrefix (p.extract i p.size) ⟨#[42, 42]⟩ w))
      rw [show Lib.hasPrefix (p.extract i p.size).data.toList (⟨#[42, 42]⟩ : ByteArray).data.toList = decide (∃ h2 : i + 1 < p.size, p[i] = 42 ∧ p[i + 1] = 42) from pref2 hlt] at HC
      by_cases hw : ∃ h2 : i + 1 < p.size, p[i] = 42 ∧ p[i + 1] = 42
      · rw [decide_eq_true hw] at HC
        obtain ⟨h2, c1, c2⟩ := hw
        have hsl := fun w => slice_two p i h2 w
        rw [ext_two h2 c1 c2] at hsl
        have HT : Hid (vals (pre ++ [⟨⟨#[42, 42]⟩, by decide⟩]) ++ toksAt p (i + 2) = toksAt p 0) := Lib.hid (by rw [vals_snoc, ← HV.out, toksAt_wide h2 c1 c2]; simp)
        have hpl : Hid (pre.length < (toksAt p 0).length) := Lib.hid (by rw [← HT.out]; simp [vals])
        clear c1 c2
        gi_wp2_with fail
        refine ⟨trivial, wide_room, (HC.out _).mono ?_⟩
        rintro e w' ⟨rfl, rfl⟩
        obtain ⟨fn, tmps, assign, body, hy, hR⟩ := hY pre ⟨⟨#[42, 42]⟩, by decide⟩ _ HJ.out hpl.out
        have HR := Lib.hid hR
        clear hR
        dsimp only at hy
        gi_wp2
        refine ⟨wide_room, HR.out.mono ?_⟩
        rintro e W3 (⟨rfl, hJ3, hk3⟩ | ⟨rfl, hJx3⟩)
        · have HJ3 := Lib.hid hJ3
          have hc3 : W3.cell? ⟨Bn, 0, none⟩ = some (.string p) := (World.cell?_of_block (a := ⟨Bn, 0, none⟩) hk3).trans hc
          clear hJ3 hk3 hc
          gi_wp2
          go_roundw
          case rel => exact ⟨_, i + 2, by go_num, by omega, HT.out, hc3, HJ3.out⟩
          case measure => simp [intOf]; omega
        · have HJ3 := Lib.hid hJx3
          clear hJx3
          gi_wp2
          refine bodyPost_ret (results_none rfl _ _ _) rfl ?_
          exact ⟨⟨_, rfl⟩, .inr ⟨_, trivial, HJ3.out⟩⟩
      · rw [decide_eq_false hw] at HC
        have hsl := fun w => slice_one p i hlt w
        rw [ext_one hlt] at hsl
        have HT : Hid (vals (pre ++ [⟨⟨#[p[i]]⟩, Nat.zero_lt_one⟩]) ++ toksAt p (i + 1) = toksAt p 0) := Lib.hid (by rw [vals_snoc, ← HV.out, toksAt_one hlt hw]; simp)
        have hpl : Hid (pre.length < (toksAt p 0).length) := Lib.hid (by rw [← HT.out]; simp [vals])
        clear hw
        gi_wp2_with fail
        refine ⟨trivial, wide_room, (HC.out _).mono ?_⟩
        rintro e w' ⟨rfl, rfl⟩
        obtain ⟨fn, tmps, assign, body, hy, hR⟩ := hY pre ⟨⟨#[p[i]]⟩, Nat.zero_lt_one⟩ _ HJ.out hpl.out
        have HR := Lib.hid hR
        clear hR
        dsimp only at hy
        gi_wp2
        refine ⟨wide_room, HR.out.mono ?_⟩
        rintro e W3 (⟨rfl, hJ3, hk3⟩ | ⟨rfl, hJx3⟩)
        · have HJ3 := Lib.hid hJ3
          have hc3 : W3.cell? ⟨Bn, 0, none⟩ = some (.string p) := (World.cell?_of_block (a := ⟨Bn, 0, none⟩) hk3).trans hc
          clear hJ3 hk3 hc
          gi_wp2
          go_roundw
          case rel => exact ⟨_, i + 1, by go_num, by omega, HT.out, hc3, HJ3.out⟩
          case measure => simp [intOf]; omega
        · have HJ3 := Lib.hid hJx3
          clear hJx3
          gi_wp2
          refine bodyPost_ret (results_none rfl _ _ _) rfl ?_
          exact ⟨⟨_, rfl⟩, .inr ⟨_, trivial, HJ3.out⟩⟩
    · have HE : Hid (vals pre = toksAt p 0) := Lib.hid (by rw [← HV.out, toksAt_end (by omega)]; simp)
      gi_wp2
      go_end0
      exact ⟨⟨_, rfl⟩, .inl ⟨pre, HE.out, HJ.out⟩⟩

theorem toks_make (n : Nat) (s : ByteArray) (w : World) :
    CallsIn Fence.wide n Try.prog 32 #[.string s] w fun e w' => e = .returned (.func (.func 52) #[] #[.pointer (some ⟨w.heap.size, 0, none⟩)]) ∧ w' = w.alloc (.cells #[.string s] 9) := by
  refine callsIn_of_wp Try.func32 rfl trivial ?_ rfl
  simp only [Try.ntmps32, List.size_toArray, List.length_cons, List.length_nil, Nat.reduceAdd, Nat.reduceSub, Array.replicate_succ, Array.replicate_zero, List.push_toArray, List.append_toArray, List.nil_append, List.cons_append]
  gi_wp2
  go_ret
  exact ⟨rfl, rfl⟩
theorem toks_stops (n Bn : Nat) (p : ByteArray) (w : World) (hp : p.size ≤ 1000) (hBn : Bn < w.heap.size) (hc : w.cell? ⟨Bn, 0, none⟩ = some (.string p)) :
    SeqStopsK Fence.wide n Try.prog 52 #[.pointer (some ⟨Bn, 0, none⟩)] (fun x : Tok => #[Value.string x.1]) (KeepB Bn) (fun ys => vals ys = toksAt p 0) (fun _ => True) (toksAt p 0).length w :=
  fun l J Jx W hW _ _ hY h0 => toks_in n l Bn p J Jx hp hY W ((hW.cell (p := ⟨Bn, 0, none⟩) hBn).trans hc) h0
end Go.Proofs.Ythembgllkfgknaa
