/- Contracts of spec.l01Nuls, spec.Fill, impl.Fill and the law laws.FnExactFill. -/
import Derived.Test.YtkpdeeembnjmnabDoorOwn
import Derived.Test.YtkpdeeembnjmnabDoorCut
import Derived.Lib.Repeat
namespace Go.Proofs.YtkpdeeembnjmnabDoor
open Go.ChangeShapes Go.WideShapes Go.ChangeAt Go.RowKit

def nuls (n : Nat) : List UInt8 := List.replicate n 0
theorem nuls_succ (n : Nat) : nuls n ++ [0] = nuls (n + 1) := by simp [nuls, List.replicate_succ']
theorem nuls_len (n : Nat) : (nuls n).length = n := by simp [nuls]
def nulv (n : Nat) : ByteArray := ⟨(nuls n).toArray⟩

theorem nuls_spec (n : Int) (w : World) (hn : n ≤ 1024) :
    Calls Tryd.prog 22 #[.int .i64 n] w fun e w' => e = .returned (.string (nulv n.toNat)) ∧ Below w.heap.size w w' := by
  obtain ⟨i0, hi, hz0, hz1, hz2⟩ := info_parts Tryd.info5
  go_enter Tryd.func22, Tryd.ntmps22
  go_wp2
  go_loopw [3, 4] (fun v i wr => ∃ k : Nat, k ≤ n.toNat ∧ i = .int .i64 k ∧ OwnB wr w.heap.size v (nuls k) ∧ Below w.heap.size w wr) (fun _ i _ => n.toNat - (intOf i).toNat)
  case atStart => exact ⟨0, Nat.zero_le _, rfl, OwnB.lit (Nat.le_refl _), (Below.refl _ _).alloc (Nat.le_refl _) _⟩
  case round =>
    obtain ⟨k, hk, rfl, hown, hb⟩ := hrel
    have HO := Lib.hid hown
    have HB := Lib.hid hb
    clear hown hb
    by_cases hlt : (k : Int) < n
    · have hsz := HB.out.size
      go_wp2_with (at_builtin; refine wpList_append_own _ rfl _ _ 40 rfl w.heap.size 5 i0 (.int .u8 0) 1 1 Tryd.underlying40 hi hz0 hz1 hz2 rfl (by decide) _ _ _ rfl (HO.out.alloc _) ⟨wr.heap.size, 0, none⟩ 1 1 [.int .u8 0] rfl rfl ?c1 ?c2 ?c3 ?c4 ?c5 ?_)
      case c1 =>
        intro j u hj
        match j, hj with
        | 0, hj => simp at hj; subst hj; simp [Addr.add]
      case c2 => intro u hu; simp at hu; subst hu; rfl
      case c3 => simp only [nuls_len, maxLen]; omega
      case c4 => simp only [nuls_len]; omega
      case c5 => simp; omega
      · intro v' w1 hown' hgrow _
        have hO : OwnB w1 w.heap.size v' (nuls (k + 1)) := by
          have e : byteVals (nuls k) ++ [.int .u8 0] = byteVals (nuls (k + 1)) := by rw [← nuls_succ, ← byteVals_snoc]; rfl
          rw [e] at hown'
          have e2 : (nuls k).length + 1 = (nuls (k + 1)).length := by simp [nuls_len]
          rw [e2] at hown'
          exact hown'
        have hBl : Below w.heap.size w w1 := (HB.out.alloc hsz _).grown hgrow (by simp; omega) (fun b hb => (HO.out.lt b hb).1)
        clear hown' hgrow
        go_wp2
        go_roundw
        case rel => exact ⟨k + 1, by omega, by go_num, hO, hBl⟩
        case measure => simp [intOf]; omega
    · have hc := HO.out.conv
      go_wp2
      go_ret
      have e : k = n.toNat := by omega
      subst e
      exact ⟨rfl, HB.out⟩

def fillv (s : ByteArray) (width : Int) : ByteArray := if 1024 < width ∨ width ≤ s.size then s else s ++ nulv (width - s.size).toNat
theorem nulv_size (n : Nat) : (nulv n).size = n := by simp [nulv, nuls, ByteArray.size]

theorem fill_spec (s : ByteArray) (width : Int) (w : World) (hs : s.size ≤ 9223372036854775807) :
    Calls Tryd.prog 20 #[.string s, .int .i64 width] w fun e w' => e = .returned (.string (fillv s width)) ∧ Below w.heap.size w w' := by
  by_cases h1 : 1024 < width
  · go_enter Tryd.func20, Tryd.ntmps20
    go_wp2
    go_ret
    exact ⟨ret_str (by rw [fillv, if_pos (.inl h1)]), Below.refl _ _⟩
  · by_cases h2 : width ≤ (s.size : Int)
    · go_enter Tryd.func20, Tryd.ntmps20
      go_wp2
      go_ret
      exact ⟨ret_str (by rw [fillv, if_pos (.inr h2)]), Below.refl _ _⟩
    · have hn : (nulv (width.toNat - s.size)).size ≤ 1024 := by rw [nulv_size]; omega
      go_enter Tryd.func20, Tryd.ntmps20
      go_wp2_with fail
      refine (nuls_spec _ _ (by omega)).mono ?_
      rintro e w' ⟨rfl, hb⟩
      go_wp2_with fail
      go_ret
      exact ⟨ret_str (by rw [fillv, if_neg (by omega), show (width - (s.size : Int)).toNat = width.toNat - s.size from by omega]), hb⟩

theorem repeatL_nul (n : Nat) : Lib.repeatL [0] n = nuls n := by
  induction n with
  | zero => rfl
  | succ n ih => rw [Lib.repeatL, ih]; simp [nuls, List.replicate_succ]

end Go.Proofs.YtkpdeeembnjmnabDoor
