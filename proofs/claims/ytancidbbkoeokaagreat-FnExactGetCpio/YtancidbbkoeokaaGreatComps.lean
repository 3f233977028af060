/- The iterator of impl.components: what it yields are the parts of its text, in order; it stops where a round says so. -/
import Derived.RangeFuncNested
import Derived.RangeFuncBound
import Derived.RangeFuncCalls
import Derived.RangeFuncLeaves
import Derived.Shelf.Abstract
import Derived.Shelf.RegionOpen
import Derived.WalkKit
import Derived.OwnWalkIn
import Derived.TacticsInMore
import Derived.LoopNIn
import Derived.LoopIn
import Derived.Test.YtancidbbkoeokaaGreatCut1
namespace Go.Proofs.YtancidbbkoeokaaGreat
open Go.RowKit Go.Shelf

attribute [local go_sem] Oper.semAt_some

theorem wide_room {n : Nat} : Fence.wide.depth.isSome = true → 1 ≤ n := fun h => by simp [Fence.wide] at h
theorem grownBy_drewN (w : World) (n : Nat) : w.grownBy (w.drewN n) none := ⟨rfl, rfl, rfl, Nat.le_refl _, fun _ _ _ => rfl⟩

set_option maxRecDepth 100000 in
set_option maxHeartbeats 1000000 in
theorem comps_in (n l Bn n₀ : Nat) (s : ByteArray) (J Jx : List ByteArray → World → Prop) (hs : s.size ≤ 9223372036854775806) (B : Nat) (hJ : AbidesFrom B J)
    (hY : ∀ pre x W, J pre W → pre.length < (partsv s).length → YieldAt Fence.wide (n - 1) Tryz.prog l #[.string x] W fun e W' =>
      (e = .returned (.bool true) ∧ J (pre ++ [x]) W' ∧ Below n₀ W W') ∨ (e = .returned (.bool false) ∧ Jx (pre ++ [x]) W'))
    (W : World) (hBn : W.cell? ⟨Bn, 0, none⟩ = some (.string s)) (h0 : J [] W) :
    CallsIn Fence.wide n Tryz.prog 116 #[.func (.yield l) #[] #[], .pointer (some ⟨Bn, 0, none⟩)] W fun e W' => (∃ v, e = .returned v) ∧
      ((∃ ys, ys = partsv s ∧ J ys W') ∨ (∃ pre, pre <+: partsv s ∧ Jx pre W')) := by
  have HS := Lib.hid hs
  clear hs
  refine callsIn_of_wp Tryz.func116 rfl trivial ?_ rfl
  simp only [Tryz.ntmps116, List.size_toArray, List.length_cons, List.length_nil, Nat.reduceAdd, Nat.reduceSub, Array.replicate_succ, Array.replicate_zero, List.push_toArray, List.append_toArray, List.nil_append, List.cons_append]
  gi_wp2
  gi_loopw [3, 4] (fun r m wr => ∃ (pre : List ByteArray) (rest : ByteArray) (b : Bool), r = .string rest ∧ m = .bool b ∧ rest.size ≤ s.size ∧ (b = true → pre ++ partsv rest = partsv s) ∧ (b = false → rest.size = 0 ∧ pre = partsv s) ∧ J pre wr)
    (fun r m _ => (match r, m with | .string t, .bool b => t.size + (if b then 1 else 0) | _, _ => 0))
  case atStart => exact ⟨[], s, true, rfl, rfl, Nat.le_refl _, fun _ => rfl, (fun h => by cases h), h0⟩
  case round =>
    obtain ⟨pre, rest, b, rfl, rfl, hle, hb1, hb2, hJs⟩ := hrel
    cases b with
    | false =>
      have HP := Lib.hid (hb2 rfl)
      have HJs := Lib.hid hJs
      clear hb1 hb2 hJs
      gi_wp2
      go_end0
      exact ⟨⟨_, rfl⟩, .inl ⟨pre, HP.out.2, HJs.out⟩⟩
    | true =>
      have HP := Lib.hid (hb1 rfl)
      have HJs := Lib.hid hJs
      clear hb1 hb2 hJs
      rcases slash_cases rest with hm | ⟨i, hi⟩
      · have HC := Lib.hid (fun w => (callsIn_wide (n := n - 1)).2 (cut1_miss rest w hm))
        have HX : Hid (pre ++ [rest] = partsv s) := Lib.hid (by rw [← HP.out, partsv_miss hm])
        clear hm
        gi_wp2_with fail
        refine ⟨trivial, wide_room, (HC.out _).mono ?_⟩
        rintro e w' ⟨rfl, k, rfl⟩
        obtain ⟨fn, tmps, assign, body, hy, hR⟩ := hY pre rest (wr.drewN k) (hJ _ _ _ none HJs.out (grownBy_drewN _ _) (fun _ h => by cases h)) (by rw [← HX.out]; simp)
        have HR := Lib.hid hR
        clear hR
        gi_wp2
        refine ⟨wide_room, HR.out.mono ?_⟩
        rintro e W3 (⟨rfl, hJ3, _⟩ | ⟨rfl, hJx3⟩)
        · have HJ3 := Lib.hid hJ3
          clear hJ3
          gi_wp2
          go_roundw
          case rel => exact ⟨pre ++ [rest], ⟨#[]⟩, false, rfl, rfl, Nat.zero_le _, (fun h => by cases h), (fun _ => ⟨rfl, HX.out⟩), HJ3.out⟩
          case measure => simp; exact Nat.zero_lt_succ _
        · have HJ3 := Lib.hid hJx3
          clear hJx3
          gi_wp2
          refine bodyPost_ret (results_none rfl _ _ _) rfl ?_
          exact ⟨⟨_, rfl⟩, .inr ⟨pre ++ [rest], ⟨[], by rw [List.append_nil]; exact HX.out⟩, HJ3.out⟩⟩
      · obtain ⟨hil, hph⟩ := partsv_hit hi
        have HC := Lib.hid (fun w => (callsIn_wide (n := n - 1)).2 (cut1_hit rest i w (by have := HS.out; omega) hil hi))
        have HX : Hid (pre ++ [rest.extract 0 i] ++ partsv (rest.extract (i + 1) rest.size) = partsv s) := Lib.hid (by rw [← HP.out, hph]; simp)
        have HZ : Hid ((rest.extract (i + 1) rest.size).size = rest.size - (i + 1)) := Lib.hid (by simp)
        have hpl : Hid (pre.length < (partsv s).length) := Lib.hid (by rw [← HX.out]; simp)
        clear hi hph
        generalize hA : rest.extract 0 i = a at HC HX
        generalize hB : rest.extract (i + 1) rest.size = c at HC HX HZ
        clear hA hB
        gi_wp2_with fail
        refine ⟨trivial, wide_room, (HC.out _).mono ?_⟩
        rintro e w' ⟨rfl, k, rfl⟩
        obtain ⟨fn, tmps, assign, body, hy, hR⟩ := hY pre a (wr.drewN k) (hJ _ _ _ none HJs.out (grownBy_drewN _ _) (fun _ h => by cases h)) hpl.out
        have HR := Lib.hid hR
        clear hR
        gi_wp2
        refine ⟨wide_room, HR.out.mono ?_⟩
        rintro e W3 (⟨rfl, hJ3, _⟩ | ⟨rfl, hJx3⟩)
        · have HJ3 := Lib.hid hJ3
          clear hJ3
          gi_wp2
          go_roundw
          case rel => exact ⟨pre ++ [a], c, true, rfl, rfl, (by have := HZ.out; omega), (fun _ => HX.out), (fun h => by cases h), HJ3.out⟩
          case measure => have := HZ.out; simp; omega
        · have HJ3 := Lib.hid hJx3
          clear hJx3
          gi_wp2
          refine bodyPost_ret (results_none rfl _ _ _) rfl ?_
          exact ⟨⟨_, rfl⟩, .inr ⟨pre ++ [a], ⟨partsv c, HX.out⟩, HJ3.out⟩⟩

/-- The function value of impl.components: its text lies in a box. -/
theorem comps_make (n : Nat) (s : ByteArray) (w : World) :
    CallsIn Fence.wide n Tryz.prog 108 #[.string s] w fun e w' => e = .returned (.func (.func 116) #[] #[.pointer (some ⟨w.heap.size, 0, none⟩)]) ∧ w' = w.alloc (.cells #[.string s] 9) := by
  refine callsIn_of_wp Tryz.func108 rfl trivial ?_ rfl
  simp only [Tryz.ntmps108, List.size_toArray, List.length_cons, List.length_nil, Nat.reduceAdd, Nat.reduceSub, Array.replicate_succ, Array.replicate_zero, List.push_toArray, List.append_toArray, List.nil_append, List.cons_append]
  gi_wp2
  go_ret
  exact ⟨rfl, rfl⟩

theorem comps_stops (n Bn n₀ : Nat) (s : ByteArray) (w : World) (hs : s.size ≤ 9223372036854775806) (hBn : Bn < w.heap.size) (hc : w.cell? ⟨Bn, 0, none⟩ = some (.string s)) :
    SeqStopsK Fence.wide n Tryz.prog 116 #[.pointer (some ⟨Bn, 0, none⟩)] (fun x : ByteArray => #[Value.string x]) (Below n₀) (fun ys => ys = partsv s) (fun pre => pre <+: partsv s) (partsv s).length w :=
  fun l J Jx W hW hJ _ hY h0 => comps_in n l Bn n₀ s J Jx hs _ hJ hY W ((hW.cell (p := ⟨Bn, 0, none⟩) hBn).trans hc) h0
end Go.Proofs.YtancidbbkoeokaaGreat
