/- Contracts of spec.GetBig, impl.GetBig and the law laws.FnExactGetBig, for every string. -/
import Derived.Test.YtndgppabfdeecaaDoorNum
import Derived.Test.YtndgppabfdeecaaDoorIn
namespace Go.Proofs.YtndgppabfdeecaaDoor
open Go.ChangeShapes Go.WideShapes Go.ChangeAt Go.RowKit

theorem wraps_i64 (n : Int) (h₀ : 0 ≤ n) (h₁ : n < 2 ^ 63) : IntKind.i64.wrap n = n := by rw [IntKind.wrap_i64]; omega
theorem or_i64 (x y : Int) (hx₀ : 0 ≤ x) (hx : x % 256 = 0) (hx₁ : x < 9223372036854775808) (hy₀ : 0 ≤ y) (hy : y < 256) : bits .or .i64 x y = x + y :=
  bits_join .i64 63 (by decide) wraps_i64 8 x y hx₀ hx hx₁ hy₀ hy (by omega)

def bigs : Int → List UInt8 → Int
  | n, [] => n
  | n, c :: l => if 9007199254740991 < n * 256 + (c.toNat : Int) then -1 else bigs (n * 256 + (c.toNat : Int)) l
def BigFrom (s : ByteArray) (n : Int) (k : Nat) : Prop := bigs 0 (s.data.toList.drop 1) = bigs n (s.data.toList.drop k)
theorem BigFrom.start (s : ByteArray) : BigFrom s 0 1 := rfl
theorem BigFrom.more {n : Int} {s : ByteArray} {k : Nat} (h : BigFrom s n k) (hk : k < s.size) (hn : n * 256 + (s[k].toNat : Int) ≤ 9007199254740991) : BigFrom s (n * 256 + (s[k].toNat : Int)) (k + 1) := by
  unfold BigFrom at *
  rw [h, drop_at s k hk, bigs, if_neg (by omega)]
theorem BigFrom.stop {n : Int} {s : ByteArray} {k : Nat} (h : BigFrom s n k) (hk : k < s.size) (hn : 9007199254740991 < n * 256 + (s[k].toNat : Int)) : bigs 0 (s.data.toList.drop 1) = -1 := by
  unfold BigFrom at h
  rw [h, drop_at s k hk, bigs, if_pos hn]
theorem BigFrom.done {n : Int} {s : ByteArray} {k : Nat} (h : BigFrom s n k) (hk : s.size ≤ k) : bigs 0 (s.data.toList.drop 1) = n := by
  unfold BigFrom at h
  rw [h, drop_end s k hk, bigs]

def bigv (s : ByteArray) : Int × Bool :=
  if 2 ≤ s.size ∧ s.size ≤ 20 ∧ s.data.toList.head? = some 128 ∧ 0 ≤ bigs 0 (s.data.toList.drop 1) then (bigs 0 (s.data.toList.drop 1), true) else (0, false)
theorem bigv_no {s : ByteArray} (h : ¬ (2 ≤ s.size ∧ s.size ≤ 20)) : bigv s = (0, false) := by rw [bigv, if_neg (fun k => h ⟨k.1, k.2.1⟩)]
theorem head_at (s : ByteArray) (h : 0 < s.size) : s.data.toList.head? = some s[0] := by
  have := drop_at s 0 h
  rw [List.drop_zero] at this
  rw [this]; rfl
theorem bigv_head {s : ByteArray} (h : 0 < s.size) (hc : ¬ s[0] = 128) : bigv s = (0, false) := by
  rw [bigv, if_neg]
  intro k
  have := k.2.2.1
  rw [head_at s h] at this
  exact hc (by simpa using this)
theorem bigv_bad {s : ByteArray} (h : bigs 0 (s.data.toList.drop 1) = -1) : bigv s = (0, false) := by
  rw [bigv, if_neg]
  intro k
  have := k.2.2.2
  omega
theorem bigv_ok {s : ByteArray} {n : Int} (h2 : 2 ≤ s.size) (h20 : s.size ≤ 20) (hc : s[0] = 128) (hn : 0 ≤ n) (h : bigs 0 (s.data.toList.drop 1) = n) : bigv s = (n, true) := by
  rw [bigv, h, if_pos ⟨h2, h20, by rw [head_at s (by omega), hc], hn⟩]
theorem ret_tib {a c : Int} {b d : Bool} {r : Int × Bool} (h : r = (a, b)) (h1 : c = a) (h2 : d = b) : Ending.returned (.tuple #[.int .i64 c, .bool d]) = .returned (.tuple #[.int .i64 r.1, .bool r.2]) := by
  subst h h1 h2; rfl
theorem byte_ne {c : UInt8} {n : Nat} (h : ¬ c = UInt8.ofNat n) : (((c.toNat : Nat) : Int) != (n : Int)) = true := by
  have : c.toNat ≠ n := fun e => h (by rw [← e]; simp)
  simp; omega
theorem byte_is {c : UInt8} {n : Nat} (hn : n < 256) (h : c = UInt8.ofNat n) : (((c.toNat : Nat) : Int) != (n : Int)) = false := by
  subst h
  have : (UInt8.ofNat n).toNat = n := by simp; omega
  rw [this]; simp

theorem getBig_spec (s : ByteArray) (w : World) (hs : s.size ≤ 9223372036854775807) :
    Calls Tryd.prog 39 #[.string s] w fun e w' => e = .returned (.tuple #[.int .i64 (bigv s).1, .bool (bigv s).2]) ∧ w = w' := by
  by_cases h0 : (2 : Int) ≤ (s.size : Int) ∧ (s.size : Int) ≤ 20
  · have i1 := inB_t h0
    have hp : 0 < s.size := by omega
    by_cases hc : s[0] = 128
    · have hb : (((s[0].toNat : Nat) : Int) != 128) = false := byte_is (n := 128) (by decide) hc
      have HC := Lib.hid hc
      clear hc
      go_enter Tryd.func39, Tryd.ntmps39
      go_wp2_with (go_at_call 40; refine (in_any _ _ _ _).mono ?_; rintro e w' ⟨rfl, rfl⟩)
      go_loop [4, 5] (fun n u => ∃ (m : Int) (k : Nat), k ≤ s.size ∧ 0 ≤ m ∧ m ≤ 9007199254740991 ∧ n = .int .i64 m ∧ u = .int .i64 k ∧ BigFrom s m k) (fun _ u => s.size - (intOf u).toNat)
      case atStart => exact ⟨0, 1, by omega, by omega, by omega, rfl, rfl, BigFrom.start s⟩
      case round =>
        obtain ⟨m, k, hk, hm0, hm1, rfl, rfl, hlf⟩ := hrel
        have HL := Lib.hid hlf
        clear hlf
        by_cases hlt : k < s.size
        · have hcb := UInt8.toNat_lt s[k]
          go_wp2
          all_goals first
            | (go_round
               case rel => exact ⟨_, k + 1, by omega, by omega, by omega, rfl, by go_num, HL.out.more hlt (by omega)⟩
               case measure => simp [intOf]; omega)
            | (go_ret2
               exact ⟨ret_tib (bigv_bad (HL.out.stop hlt (by omega))) rfl rfl, rfl⟩)
        · go_wp2
          go_ret2
          exact ⟨ret_tib (bigv_ok (by omega) (by omega) HC.out hm0 (HL.out.done (by omega))) rfl rfl, rfl⟩
    · have hb : (((s[0].toNat : Nat) : Int) != 128) = true := byte_ne (n := 128) hc
      have HC := Lib.hid hc
      clear hc
      go_enter Tryd.func39, Tryd.ntmps39
      go_wp2_with (go_at_call 40; refine (in_any _ _ _ _).mono ?_; rintro e w' ⟨rfl, rfl⟩)
      go_ret2
      exact ⟨ret_tib (bigv_head hp HC.out) rfl rfl, rfl⟩
  · have i1 := inB_f h0
    go_enter Tryd.func39, Tryd.ntmps39
    go_wp2_with (go_at_call 40; refine (in_any _ _ _ _).mono ?_; rintro e w' ⟨rfl, rfl⟩)
    go_ret2
    exact ⟨ret_tib (bigv_no (by omega)) rfl rfl, rfl⟩

theorem getBig_impl (s : ByteArray) (w : World) (hs : s.size ≤ 9223372036854775807) :
    Calls Tryd.prog 32 #[.string s] w fun e w' => e = .returned (.tuple #[.int .i64 (bigv s).1, .bool (bigv s).2]) ∧ w = w' := by
  by_cases h2 : s.size < 2
  · go_enter Tryd.func32, Tryd.ntmps32
    go_wp2
    go_ret2
    exact ⟨ret_tib (bigv_no (by omega)) rfl rfl, rfl⟩
  · by_cases h20 : 20 < s.size
    · go_enter Tryd.func32, Tryd.ntmps32
      go_wp2
      go_ret2
      exact ⟨ret_tib (bigv_no (by omega)) rfl rfl, rfl⟩
    · have hp : 0 < s.size := by omega
      by_cases hc : s[0] = 128
      · have hb : (((s[0].toNat : Nat) : Int) != 128) = false := byte_is (n := 128) (by decide) hc
        have HC := Lib.hid hc
        clear hc
        go_enter Tryd.func32, Tryd.ntmps32
        go_wp2
        go_loop [4, 5] (fun n u => ∃ (m : Int) (k : Nat), k ≤ s.size ∧ 0 ≤ m ∧ m ≤ 9007199254740991 ∧ n = .int .i64 m ∧ u = .int .i64 k ∧ BigFrom s m k) (fun _ u => s.size - (intOf u).toNat)
        case atStart => exact ⟨0, 1, by omega, by omega, by omega, rfl, rfl, BigFrom.start s⟩
        case round =>
          obtain ⟨m, k, hk, hm0, hm1, rfl, rfl, hlf⟩ := hrel
          have HL := Lib.hid hlf
          clear hlf
          by_cases hlt : k < s.size
          · have hcb := UInt8.toNat_lt s[k]
            have ho : bits BinOp.or IntKind.i64 (m * 256) (s[k].toNat : Int) = m * 256 + (s[k].toNat : Int) := or_i64 _ _ (by omega) (by omega) (by omega) (by omega) (by omega)
            go_wp2
            all_goals first
              | (go_round
                 case rel => exact ⟨_, k + 1, by omega, by omega, by omega, rfl, by go_num, HL.out.more hlt (by omega)⟩
                 case measure => simp [intOf]; omega)
              | (go_ret2
                 exact ⟨ret_tib (bigv_bad (HL.out.stop hlt (by omega))) rfl rfl, rfl⟩)
          · go_wp2
            go_ret2
            exact ⟨ret_tib (bigv_ok (by omega) (by omega) HC.out hm0 (HL.out.done (by omega))) rfl rfl, rfl⟩
      · have hb : (((s[0].toNat : Nat) : Int) != 128) = true := byte_ne (n := 128) hc
        have HC := Lib.hid hc
        clear hc
        go_enter Tryd.func32, Tryd.ntmps32
        go_wp2
        go_ret2
        exact ⟨ret_tib (bigv_head hp HC.out) rfl rfl, rfl⟩

end Go.Proofs.YtndgppabfdeecaaDoor
