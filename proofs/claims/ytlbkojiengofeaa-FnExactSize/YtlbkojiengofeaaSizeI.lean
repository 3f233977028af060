/- Contract of impl.Size. -/
import Derived.Test.YtlbkojiengofeaaSizeE
namespace Go.Proofs.Ytlbkojiengofeaa
open Go.ChangeShapes Go.WideShapes Go.ChangeAt Go.RowKit Go.Deep

theorem size_impl (L : List Ent) (n g cap : Nat) (w : World) (hn : n = L.length) (hm : n ≤ 4194304) (hg : g < w.heap.size) (ht : totL L ≤ 4194304) (h1 : RowE w g L) :
    Calls Try.prog 28 #[.slice (some ⟨g, 0, none⟩) n cap] w fun e w' => e = .returned (.int .i64 (sizev L)) ∧ Below w.heap.size w w' := by
  have H1 := Lib.hid h1
  have HG : Hid (∀ i, i < n → ∃ e, L[i]? = some e) := Lib.hid (fun i hi => getE' (by omega))
  have HT : Hid (∀ i, sizev (L.take i) ≤ 4194304) := Lib.hid (fun i => Nat.le_trans (sizev_le _) (Nat.le_trans (totL_take L i) ht))
  have HN : Hid (∀ i e, L[i]? = some e → sizev (L.take (i + 1)) = sizev (L.take i) + e.body.size) := Lib.hid (fun i e h => sizev_take L i h)
  have HD : Hid (sizev (L.take n) = sizev L) := Lib.hid (by rw [hn, List.take_length])
  generalize sizev L = r at HD
  clear h1 hn ht
  go_enter Try.func28, Try.ntmps28
  go_wp2_with fail
  go_loopw [3, 5, 8] (fun v _ u wr => ∃ i : Nat, v = .int .i64 (sizev (L.take i)) ∧ u = .int .i64 i ∧ i ≤ n ∧ Below w.heap.size w wr) (fun _ _ u _ => n - (intOf u).toNat)
  case atStart => exact ⟨0, by simp [sizev], rfl, Nat.zero_le _, Below.refl _ _⟩
  case round =>
    obtain ⟨i, rfl, rfl, hi, hb⟩ := hrel
    have B := Lib.hid hb
    clear hb
    by_cases hlt : i < n
    · have hlt2 : (i : Int) < (n : Int) := by omega
      obtain ⟨e, he⟩ := HG.out i hlt
      have h1 := HT.out (i + 1)
      have h2 := HN.out i e he
      obtain ⟨c0, c1, c2, c3, c4, c5, c6, c7, c8, c9⟩ := (H1.out.below B.out hg).ten he
      clear he
      have HS := Lib.hid h2
      rw [h2] at h1
      clear h2
      generalize sizev (L.take i) = s at h1 HS
      obtain ⟨k, q, l, m, u, g0, t, us, gr, b⟩ := e
      dsimp only at h1 HS
      go_wp2_with fail
      go_roundw
      case rel => exact ⟨i + 1, by rw [HS.out]; go_num, by go_num, by omega, B.out.alloc B.out.size _⟩
      case measure => simp [intOf]; omega
    · obtain rfl : i = n := by omega
      have hlt2 : ¬ (i : Int) < (i : Int) := by omega
      have HF := HD
      go_wp2_with fail
      go_ret
      exact ⟨ret_int (by rw [HF.out]), B.out⟩
end Go.Proofs.Ytlbkojiengofeaa
