/- Contract of laws.sameTexts on two rows of the same texts. -/
import Derived.Test.YtifkgihhdmmhdabOwnL
import Derived.Deep.RegionWith
namespace Go.Proofs.Ytifkgihhdmmhdab
open Go.ChangeShapes Go.WideShapes Go.ChangeAt Go.RowKit

theorem sameT_any (R : Nat → ByteArray) (n g g2 ca cb : Nat) (w : World) (hn : n ≤ 2097152) (hg : g < w.heap.size) (hg2 : g2 < w.heap.size) (h1 : RowF w g n R) (h2 : RowF w g2 n R) :
    Calls Try.prog 23 #[.slice (some ⟨g, 0, none⟩) n ca, .slice (some ⟨g2, 0, none⟩) n cb] w fun e w' => e = .returned (.bool true) ∧ Below w.heap.size w w' := by
  have H1 := Lib.hid h1
  have H2 := Lib.hid h2
  clear h1 h2
  go_enter Try.func23, Try.ntmps23
  go_wp2
  go_loopw [5] (fun i wr => ∃ k : Nat, k ≤ n ∧ i = .int .i64 k ∧ Below w.heap.size w wr) (fun i _ => n - (intOf i).toNat)
  case atStart => exact ⟨0, Nat.zero_le _, rfl, Below.refl _ _⟩
  case round =>
    obtain ⟨k, hk, rfl, hb⟩ := hrel
    have HB := Lib.hid hb
    clear hb
    by_cases hlt : k < n
    · have c1 : wr.cell? ⟨g, k, none⟩ = some (.string (R k)) := (H1.out.below HB.out hg) k hlt
      have c2 : wr.cell? ⟨g2, k, none⟩ = some (.string (R k)) := (H2.out.below HB.out hg2) k hlt
      have he := self_eq (R k)
      generalize R k = x at c1 c2 he
      go_wp2
      go_quiet (fail)
      go_wp2
      go_roundw
      case rel => exact ⟨k + 1, by omega, by go_num, HB.out.os, HB.out.tape, HB.out.output, HB.out.size, HB.out.block⟩
      case measure => simp [intOf]; omega
    · go_wp2
      go_ret
      exact ⟨rfl, HB.out⟩

end Go.Proofs.Ytifkgihhdmmhdab
