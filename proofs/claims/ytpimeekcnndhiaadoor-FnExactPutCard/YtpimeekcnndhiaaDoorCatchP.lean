/- The deferred function of impl.PutCard: what it does for a frame that panics with a code, and for one that returns. -/
import Derived.Test.YtpimeekcnndhiaaDoorDemand
import Derived.Defers
import Derived.Recover
namespace Go.Proofs.YtpimeekcnndhiaaDoor
open Go.ChangeShapes Go.WideShapes Go.ChangeAt Go.RowKit

theorem put_catch (g : Nat) (c : Int) (x : ByteArray) (w : World) (hc : ¬ c = 0) (hg : g < w.heap.size) (hx : w.cell? ⟨g, 0, none⟩ = some (.string x)) (hz : w.frozen? ⟨g, 0, none⟩ = false) :
    CallsD Tryd.prog 10 #[.pointer (some ⟨g, 0, none⟩)] (.panicking [{ v := .iface 40 (.agg #[.int .i64 c]), recovered := false }]) w fun e u' w' =>
      e = .returned (.tuple #[]) ∧ u' = .panicking [{ v := .iface 40 (.agg #[.int .i64 c]), recovered := true }] ∧ ∃ w1, Below w.heap.size w w1 ∧ w' = w1.setCell ⟨g, 0, none⟩ (.string ⟨#[]⟩) := by
  refine callsD_of_wpS Tryd.func10 rfl fun c₀ cs hu => ?_
  apply wpS_seq
  apply wpS_region
  simp [wpOpsS, go_sem, recoverD, hu, Tryd.ntmps10, Exit.thenS]
  refine (cardCode_some c _).mono ?_
  rintro e w1 ⟨rfl, hb⟩
  have hx1 : w1.cell? ⟨g, 0, none⟩ = some (.string x) := (hb.cell (p := ⟨g, 0, none⟩) hg).trans hx
  have hz1 : w1.frozen? ⟨g, 0, none⟩ = false := (hb.frozen (p := ⟨g, 0, none⟩) hg).trans hz
  simp [go_sem]
  refine wpS_cond (t := true) (by simp [Act.eval, Array.replicate, hc]) ?_
  simp only [if_true]
  apply wpS_region
  simp [wpOpsS, go_sem, hx1, hz1, bodyPostS, results, Tryd.results10]
  exact ⟨w1, hb, rfl⟩
theorem put_idle (g : Nat) (w : World) :
    CallsD Tryd.prog 10 #[.pointer (some ⟨g, 0, none⟩)] .returning w fun e u' w' => e = .returned (.tuple #[]) ∧ u' = .returning ∧ Below w.heap.size w w' := by
  refine callsD_of_wpS Tryd.func10 rfl fun c₀ cs hu => ?_
  apply wpS_seq
  apply wpS_region
  simp [wpOpsS, go_sem, recoverD, hu, Tryd.ntmps10, Exit.thenS]
  refine (cardCode_nil _).mono ?_
  rintro e w1 ⟨rfl, hb⟩
  simp [go_sem]
  refine wpS_cond (t := false) (by simp [Act.eval, Array.replicate]) ?_
  simp only [Bool.false_eq_true, if_false]
  refine wpS_of_wp (wp_skip ?_)
  cases c₀
  simp_all [bodyPostS, results, Tryd.results10]
end Go.Proofs.YtpimeekcnndhiaaDoor
