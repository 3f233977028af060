/- Contracts of spec.l01Digits (bases 8, 10, 16), spec.l01Ahead with the sign 0, and strings.Repeat of one byte. -/
import Derived.Test.YtancidbbkoeokaaGreatDoorDigSl
import Derived.Test.YtancidbbkoeokaaGreatDoorIn
import Derived.Test.YtancidbbkoeokaaGreatDoorShelf
import Derived.Lib.Repeat
namespace Go.Proofs.YtancidbbkoeokaaGreatDoor
open Go.ChangeShapes Go.WideShapes Go.ChangeAt Go.RowKit

def numv (b : Nat) (n : Int) : ByteArray := ⟨(numeral b n.toNat).toArray⟩
theorem numeral_len {b u k : Nat} (hb : 2 ≤ b) (hk : 1 ≤ k) (hu : u < b ^ k) : (numeral b u).length ≤ k := by
  unfold numeral; split
  · simpa using hk
  · exact digs_len hb k u hu
theorem numeral_pos {b u : Nat} (hb : 2 ≤ b) : 1 ≤ (numeral b u).length := by
  unfold numeral; split
  · simp
  · rw [digs_pos hb (by omega)]; simp
theorem ba_size (l : List UInt8) : (⟨l.toArray⟩ : ByteArray).size = l.length := by simp [ByteArray.size]
theorem ba_app (a b : List UInt8) : (⟨a.toArray⟩ : ByteArray) ++ ⟨b.toArray⟩ = ⟨(a ++ b).toArray⟩ := by apply ByteArray.ext; simp
def strLen : Value → Nat
  | .string s => s.size
  | _ => 0

theorem digits_8 (n : Int) (h0 : 0 ≤ n) (h1 : n ≤ 9007199254740991) (w : World) :
    Calls Tryz.prog 116 #[.int .i64 n, .int .i64 8] w fun e w' => e = .returned (.string (numv 8 n)) ∧ w = w' := by
  by_cases hz : n = 0
  · subst hz
    go_enter Tryz.func116, Tryz.ntmps116
    go_wp2
    go_ret
    exact ⟨rfl, rfl⟩
  · have hzb : (n == 0) = false := by simp [hz]
    go_enter Tryz.func116, Tryz.ntmps116
    go_wp2
    go_loop [0, 5] (fun m o => ∃ (x : Int) (l : List UInt8), 0 ≤ x ∧ x ≤ 9007199254740991 ∧ m = .int .i64 x ∧ o = .string ⟨l.toArray⟩ ∧ DigFrom 8 n.toNat x.toNat l) (fun m _ => (intOf m).toNat)
    case atStart => exact ⟨n, [], by omega, by omega, rfl, rfl, DigFrom.start _ _⟩
    case round =>
      obtain ⟨x, l, hx0, hx1, rfl, rfl, hD⟩ := hrel
      have hlen : l.length ≤ 20 := hD.len (by omega) (by omega)
      have HD := Lib.hid hD
      clear hD
      by_cases hx : x = 0
      · subst hx
        go_wp2
        go_ret
        refine ⟨ret_str ?_, rfl⟩
        rw [HD.out.done, numv, numeral, if_neg (by omega)]
      · have hxb : 0 < x := by omega
        have hsl := slice_hex (x % 8) (by omega) (by omega) w
        have HN := Lib.hid (show DigFrom 8 n.toNat (x / 8).toNat (dch (x % 8).toNat :: l) by
          have := HD.out.more (by omega) (by omega)
          rw [show (x / 8).toNat = x.toNat / 8 by omega, show (x % 8).toNat = x.toNat % 8 by omega]
          exact this)
        clear hx
        go_wp2
        go_round
        case rel => exact ⟨x / 8, _, by omega, by omega, rfl, by rw [cons_str], HN.out⟩
        case measure => simp [intOf]; omega

theorem digits_10 (n : Int) (h0 : 0 ≤ n) (h1 : n ≤ 9007199254740991) (w : World) :
    Calls Tryz.prog 116 #[.int .i64 n, .int .i64 10] w fun e w' => e = .returned (.string (numv 10 n)) ∧ w = w' := by
  by_cases hz : n = 0
  · subst hz
    go_enter Tryz.func116, Tryz.ntmps116
    go_wp2
    go_ret
    exact ⟨rfl, rfl⟩
  · have hzb : (n == 0) = false := by simp [hz]
    go_enter Tryz.func116, Tryz.ntmps116
    go_wp2
    go_loop [0, 5] (fun m o => ∃ (x : Int) (l : List UInt8), 0 ≤ x ∧ x ≤ 9007199254740991 ∧ m = .int .i64 x ∧ o = .string ⟨l.toArray⟩ ∧ DigFrom 10 n.toNat x.toNat l) (fun m _ => (intOf m).toNat)
    case atStart => exact ⟨n, [], by omega, by omega, rfl, rfl, DigFrom.start _ _⟩
    case round =>
      obtain ⟨x, l, hx0, hx1, rfl, rfl, hD⟩ := hrel
      have hlen : l.length ≤ 20 := hD.len (by omega) (by omega)
      have HD := Lib.hid hD
      clear hD
      by_cases hx : x = 0
      · subst hx
        go_wp2
        go_ret
        refine ⟨ret_str ?_, rfl⟩
        rw [HD.out.done, numv, numeral, if_neg (by omega)]
      · have hxb : 0 < x := by omega
        have hsl := slice_hex (x % 10) (by omega) (by omega) w
        have HN := Lib.hid (show DigFrom 10 n.toNat (x / 10).toNat (dch (x % 10).toNat :: l) by
          have := HD.out.more (by omega) (by omega)
          rw [show (x / 10).toNat = x.toNat / 10 by omega, show (x % 10).toNat = x.toNat % 10 by omega]
          exact this)
        clear hx
        go_wp2
        go_round
        case rel => exact ⟨x / 10, _, by omega, by omega, rfl, by rw [cons_str], HN.out⟩
        case measure => simp [intOf]; omega

theorem digits_16 (n : Int) (h0 : 0 ≤ n) (h1 : n ≤ 9007199254740991) (w : World) :
    Calls Tryz.prog 116 #[.int .i64 n, .int .i64 16] w fun e w' => e = .returned (.string (numv 16 n)) ∧ w = w' := by
  by_cases hz : n = 0
  · subst hz
    go_enter Tryz.func116, Tryz.ntmps116
    go_wp2
    go_ret
    exact ⟨rfl, rfl⟩
  · have hzb : (n == 0) = false := by simp [hz]
    go_enter Tryz.func116, Tryz.ntmps116
    go_wp2
    go_loop [0, 5] (fun m o => ∃ (x : Int) (l : List UInt8), 0 ≤ x ∧ x ≤ 9007199254740991 ∧ m = .int .i64 x ∧ o = .string ⟨l.toArray⟩ ∧ DigFrom 16 n.toNat x.toNat l) (fun m _ => (intOf m).toNat)
    case atStart => exact ⟨n, [], by omega, by omega, rfl, rfl, DigFrom.start _ _⟩
    case round =>
      obtain ⟨x, l, hx0, hx1, rfl, rfl, hD⟩ := hrel
      have hlen : l.length ≤ 20 := hD.len (by omega) (by omega)
      have HD := Lib.hid hD
      clear hD
      by_cases hx : x = 0
      · subst hx
        go_wp2
        go_ret
        refine ⟨ret_str ?_, rfl⟩
        rw [HD.out.done, numv, numeral, if_neg (by omega)]
      · have hxb : 0 < x := by omega
        have hsl := slice_hex (x % 16) (by omega) (by omega) w
        have HN := Lib.hid (show DigFrom 16 n.toNat (x / 16).toNat (dch (x % 16).toNat :: l) by
          have := HD.out.more (by omega) (by omega)
          rw [show (x / 16).toNat = x.toNat / 16 by omega, show (x % 16).toNat = x.toNat % 16 by omega]
          exact this)
        clear hx
        go_wp2
        go_round
        case rel => exact ⟨x / 16, _, by omega, by omega, rfl, by rw [cons_str], HN.out⟩
        case measure => simp [intOf]; omega

def ahead (l : List UInt8) (width : Int) : List UInt8 := List.replicate (width.toNat - l.length) 48 ++ l
theorem ahead_any (l : List UInt8) (width : Int) (w : World) (hl : l.length ≤ 40) (hw : width ≤ 40) :
    Calls Tryz.prog 115 #[.string ⟨l.toArray⟩, .int .i64 width, .string ⟨#[48]⟩] w fun e w' => e = .returned (.string ⟨(ahead l width).toArray⟩) ∧ w = w' := by
  go_enter Tryz.func115, Tryz.ntmps115
  go_wp2
  go_loop [0] (fun o => ∃ (r : List UInt8) (k : Nat), o = .string ⟨r.toArray⟩ ∧ Hid (r = List.replicate k 48 ++ l) ∧ r.length ≤ 80 ∧ k ≤ width.toNat - l.length ∧ Hid (r.length = k + l.length)) (fun o => width.toNat - strLen o)
  case atStart => exact ⟨l, 0, rfl, Lib.hid (by simp), by omega, by omega, Lib.hid (by omega)⟩
  case round =>
    obtain ⟨r, k, rfl, HR, hr, hk, HK⟩ := hrel
    by_cases hlt : (r.length : Int) < width
    · go_wp2
      go_round
      case rel => exact ⟨48 :: r, k + 1, by rw [cons_str], Lib.hid (by rw [HR.out]; rfl), by have := HK.out; simp only [List.length_cons]; omega, by have := HK.out; omega, Lib.hid (by have := HK.out; simp only [List.length_cons]; omega)⟩
      case measure => simp [strLen, ba_size]; omega
    · go_wp2
      go_ret
      refine ⟨ret_str ?_, rfl⟩
      have := HK.out
      rw [HR.out, ahead, show width.toNat - l.length = k by omega]

theorem repeatL_one (c : UInt8) (n : Nat) : Lib.repeatL [c] n = List.replicate n c := by
  induction n with
  | zero => rfl
  | succ n ih => rw [Lib.repeatL, ih]; simp [List.replicate_succ]
theorem repeat_one (c : UInt8) (k : Nat) (w : World) (hk : k ≤ 100) :
    Calls Tryz.prog 69 #[.string ⟨#[c]⟩, .int .i64 (k : Int)] w fun e w' => e = .returned (.string ⟨(List.replicate k c).toArray⟩) ∧ Below w.heap.size w w' := by
  have hr := Tryz.strings_Repeat ⟨#[c]⟩ k w (by omega) (by simp [ByteArray.size]; omega)
  have e1 : (⟨(Lib.repeatL (⟨#[c]⟩ : ByteArray).data.toList k).toArray⟩ : ByteArray) = ⟨(List.replicate k c).toArray⟩ := by rw [show (⟨#[c]⟩ : ByteArray).data.toList = [c] from rfl, repeatL_one]
  rw [e1] at hr
  exact hr
end Go.Proofs.YtancidbbkoeokaaGreatDoor
