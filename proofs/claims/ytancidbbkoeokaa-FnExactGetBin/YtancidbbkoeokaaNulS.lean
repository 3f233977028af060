/- Contract of spec.l01Nuls. -/
import Derived.Test.YtancidbbkoeokaaOwn
import Derived.Test.YtancidbbkoeokaaNewK
namespace Go.Proofs.Ytancidbbkoeokaa
open Go.ChangeShapes Go.WideShapes Go.ChangeAt Go.RowKit

def nulz (n : Nat) : List UInt8 := List.replicate n 0
theorem nulz_succ (n : Nat) : nulz n ++ [0] = nulz (n + 1) := by simp [nulz, List.replicate_succ']
theorem nulz_len (n : Nat) : (nulz n).length = n := by simp [nulz]
theorem nulz_spec (n : Int) (w : World) (hn : n ≤ 1024) :
    Calls Try.prog 22 #[.int .i64 n] w fun e w' => e = .returned (.string (nulN n.toNat)) ∧ Below w.heap.size w w' := by
  obtain ⟨i0, hi, hz0, hz1, hz2⟩ := info_parts Try.info5
  go_enter Try.func22, Try.ntmps22
  go_wp2
  go_loopw [3, 4] (fun v i wr => ∃ k : Nat, k ≤ n.toNat ∧ i = .int .i64 k ∧ OwnB wr w.heap.size v (nulz k) ∧ Below w.heap.size w wr) (fun _ i _ => n.toNat - (intOf i).toNat)
  case atStart => exact ⟨0, Nat.zero_le _, rfl, OwnB.lit (Nat.le_refl _), (Below.refl _ _).alloc (Nat.le_refl _) _⟩
  case round =>
    obtain ⟨k, hk, rfl, hown, hb⟩ := hrel
    have HO := Lib.hid hown
    have HB := Lib.hid hb
    clear hown hb
    by_cases hlt : (k : Int) < n
    · have hsz := HB.out.size
      go_wp2_with (at_builtin; refine wpList_append_own _ rfl _ _ 51 rfl w.heap.size 5 i0 (.int .u8 0) 1 1 Try.underlying51 hi hz0 hz1 hz2 rfl (by decide) _ _ _ rfl (HO.out.alloc _) ⟨wr.heap.size, 0, none⟩ 1 1 [.int .u8 0] rfl rfl ?c1 ?c2 ?c3 ?c4 ?c5 ?_)
      case c1 =>
        intro j u hj
        match j, hj with
        | 0, hj => simp at hj; subst hj; simp [Addr.add]
      case c2 => intro u hu; simp at hu; subst hu; rfl
      case c3 => simp only [nulz_len, maxLen]; omega
      case c4 => simp only [nulz_len]; omega
      case c5 => simp; omega
      · intro v' w1 hown' hgrow _
        have hO : OwnB w1 w.heap.size v' (nulz (k + 1)) := by
          have e : byteVals (nulz k) ++ [.int .u8 0] = byteVals (nulz (k + 1)) := by rw [← nulz_succ, ← byteVals_snoc]; rfl
          rw [e] at hown'
          have e2 : (nulz k).length + 1 = (nulz (k + 1)).length := by simp [nulz_len]
          rw [e2] at hown'
          exact hown'
        have hBl : Below w.heap.size w w1 := (HB.out.alloc hsz _).grown hgrow (by simp; omega) (fun b hb => (HO.out.lt b hb).1)
        clear hown' hgrow
        go_wp2
        go_roundw
        case rel => exact ⟨k + 1, by omega, by go_num, hO, hBl⟩
        case measure => simp [intOf]; omega
    · have hc := HO.out.conv
      go_wp2
      go_ret
      have e : k = n.toNat := by omega
      subst e
      exact ⟨rfl, HB.out⟩

end Go.Proofs.Ytancidbbkoeokaa
